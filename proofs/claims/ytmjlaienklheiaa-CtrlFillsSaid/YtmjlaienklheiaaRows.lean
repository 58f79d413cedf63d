/-
  No cell of these rows narrows 'for every input' (looked for: loops, veiled, ifaces, maps, wideKeys, modest, calm, conditions, laid).
  DERIVED. THE GIVEN ROWS OF THIS SEAT. 6 by the template 'for every input the law returns true; each argument reads behind the call as it read before'; 0 by the template 'total and deterministic' (their statements: YtmjlaienklheiaaTotals.lean).
  GIVEN WITH THE SEED: the statements are not yours to turn. If you find one false, say at which input.
  Laid BY PROGRAM, IN A SANDBOX (cutbox-rows.mjs): the forced cells as the released guide's own fill.sh prints them over the translation 7493d08159517022… (all of the seat's roots in one cut). By AI agents, Wed Nov 11 2026. No macro, syntax, notation, axiom, sorry.
-/
import Derived.Test.YtmjlaienklheiaaChecked
import GoSem.Claim
import GoSem.ClaimJoined
import GoSem.ClaimMapViews
import Derived.JoinedTies
import Derived.KernelRfl
namespace Go.Proofs.Ytmjlaienklheiaa
/- THE CELL 'sum', in the pinned program and in every row, IS THE sha256 OF THE DUMP (.gsa) THAT YtmjlaienklheiaaProg.lean LOADS. Nothing in Lean hashes anything: it is a label: what it is worth is what the hold of that sum in a sandbox is worth. -/
noncomputable def Try.pinned : Pinned := { name := "ytmjlaienklheiaa", sum := "7493d08159517022a49a77b0b6ada66a93fc903aaee90595840b9978288855cd", checked := Try.checked }
namespace Rows
def none {H : Type} : Left H := { results := [], args := [] }

/-- 'honeycomblaw09.CtrlSays': WHATEVER THE INPUT: true; the input reads as it did. -/
def ctrlSaysSpec : ChangeSpec := { name := "ctrlSays", fn := fun _ => fun
  | [d1, d2] => { results := [.lit (.bool true)], args := [d1, d2] }
  | _ => none }
def ctrlSaysRow : OpenClaim := { program := "ytmjlaienklheiaa", sum := "7493d08159517022a49a77b0b6ada66a93fc903aaee90595840b9978288855cd", func := "honeycomb/honeycomblaw09.CtrlSays", spec := "ctrlSays", unfollowed := true, recurses := true, apart := false }
def CtrlSaysSaid : Prop := ctrlSaysRow.holds Try.pinned (OpenSpec.ofChange ctrlSaysSpec)

/-- ITS FALSE NEIGHBOUR: 'it returns false'. Refute it at one input. -/
def ctrlSaysWrong : ChangeSpec := { name := "ctrlSays", fn := fun _ => fun
  | [d1, d2] => { results := [.lit (.bool false)], args := [d1, d2] }
  | _ => none }
def CtrlSaysWrongFalsely : Prop := ctrlSaysRow.holds Try.pinned (OpenSpec.ofChange ctrlSaysWrong)

/-- 'honeycomblaw09.CtrlTurns': WHATEVER THE INPUT: true; the input reads as it did. -/
def ctrlTurnsSpec : ChangeSpec := { name := "ctrlTurns", fn := fun _ => fun
  | [d1, d2, d3] => { results := [.lit (.bool true)], args := [d1, d2, d3] }
  | _ => none }
def ctrlTurnsRow : OpenClaim := { program := "ytmjlaienklheiaa", sum := "7493d08159517022a49a77b0b6ada66a93fc903aaee90595840b9978288855cd", func := "honeycomb/honeycomblaw09.CtrlTurns", spec := "ctrlTurns", unfollowed := true, recurses := true, apart := false }
def CtrlTurnsSaid : Prop := ctrlTurnsRow.holds Try.pinned (OpenSpec.ofChange ctrlTurnsSpec)

/-- ITS FALSE NEIGHBOUR: 'it returns false'. Refute it at one input. -/
def ctrlTurnsWrong : ChangeSpec := { name := "ctrlTurns", fn := fun _ => fun
  | [d1, d2, d3] => { results := [.lit (.bool false)], args := [d1, d2, d3] }
  | _ => none }
def CtrlTurnsWrongFalsely : Prop := ctrlTurnsRow.holds Try.pinned (OpenSpec.ofChange ctrlTurnsWrong)

/-- 'honeycomblaw09.CtrlFills': WHATEVER THE INPUT: true; the input reads as it did. -/
def ctrlFillsSpec : ChangeSpec := { name := "ctrlFills", fn := fun _ => fun
  | [d1, d2] => { results := [.lit (.bool true)], args := [d1, d2] }
  | _ => none }
def ctrlFillsRow : OpenClaim := { program := "ytmjlaienklheiaa", sum := "7493d08159517022a49a77b0b6ada66a93fc903aaee90595840b9978288855cd", func := "honeycomb/honeycomblaw09.CtrlFills", spec := "ctrlFills", unfollowed := true, recurses := true, apart := false }
def CtrlFillsSaid : Prop := ctrlFillsRow.holds Try.pinned (OpenSpec.ofChange ctrlFillsSpec)

/-- ITS FALSE NEIGHBOUR: 'it returns false'. Refute it at one input. -/
def ctrlFillsWrong : ChangeSpec := { name := "ctrlFills", fn := fun _ => fun
  | [d1, d2] => { results := [.lit (.bool false)], args := [d1, d2] }
  | _ => none }
def CtrlFillsWrongFalsely : Prop := ctrlFillsRow.holds Try.pinned (OpenSpec.ofChange ctrlFillsWrong)

/-- 'honeycomblaw09.CtrlParts': WHATEVER THE INPUT: true; the input reads as it did. -/
def ctrlPartsSpec : ChangeSpec := { name := "ctrlParts", fn := fun _ => fun
  | [d1, d2, d3] => { results := [.lit (.bool true)], args := [d1, d2, d3] }
  | _ => none }
def ctrlPartsRow : OpenClaim := { program := "ytmjlaienklheiaa", sum := "7493d08159517022a49a77b0b6ada66a93fc903aaee90595840b9978288855cd", func := "honeycomb/honeycomblaw09.CtrlParts", spec := "ctrlParts", unfollowed := true, recurses := true, apart := false }
def CtrlPartsSaid : Prop := ctrlPartsRow.holds Try.pinned (OpenSpec.ofChange ctrlPartsSpec)

/-- ITS FALSE NEIGHBOUR: 'it returns false'. Refute it at one input. -/
def ctrlPartsWrong : ChangeSpec := { name := "ctrlParts", fn := fun _ => fun
  | [d1, d2, d3] => { results := [.lit (.bool false)], args := [d1, d2, d3] }
  | _ => none }
def CtrlPartsWrongFalsely : Prop := ctrlPartsRow.holds Try.pinned (OpenSpec.ofChange ctrlPartsWrong)

/-- 'honeycomblaw09.CtrlStops': WHATEVER THE INPUT: true; the input reads as it did. -/
def ctrlStopsSpec : ChangeSpec := { name := "ctrlStops", fn := fun _ => fun
  | [d1, d2] => { results := [.lit (.bool true)], args := [d1, d2] }
  | _ => none }
def ctrlStopsRow : OpenClaim := { program := "ytmjlaienklheiaa", sum := "7493d08159517022a49a77b0b6ada66a93fc903aaee90595840b9978288855cd", func := "honeycomb/honeycomblaw09.CtrlStops", spec := "ctrlStops", unfollowed := true, recurses := true, apart := false }
def CtrlStopsSaid : Prop := ctrlStopsRow.holds Try.pinned (OpenSpec.ofChange ctrlStopsSpec)

/-- ITS FALSE NEIGHBOUR: 'it returns false'. Refute it at one input. -/
def ctrlStopsWrong : ChangeSpec := { name := "ctrlStops", fn := fun _ => fun
  | [d1, d2] => { results := [.lit (.bool false)], args := [d1, d2] }
  | _ => none }
def CtrlStopsWrongFalsely : Prop := ctrlStopsRow.holds Try.pinned (OpenSpec.ofChange ctrlStopsWrong)

/-- 'honeycomblaw09.CtrlReady': WHATEVER THE INPUT: true; the input reads as it did. -/
def ctrlReadySpec : ChangeSpec := { name := "ctrlReady", fn := fun _ => fun
  | [d1, d2] => { results := [.lit (.bool true)], args := [d1, d2] }
  | _ => none }
def ctrlReadyRow : OpenClaim := { program := "ytmjlaienklheiaa", sum := "7493d08159517022a49a77b0b6ada66a93fc903aaee90595840b9978288855cd", func := "honeycomb/honeycomblaw09.CtrlReady", spec := "ctrlReady", unfollowed := true, recurses := true, apart := false }
def CtrlReadySaid : Prop := ctrlReadyRow.holds Try.pinned (OpenSpec.ofChange ctrlReadySpec)

/-- ITS FALSE NEIGHBOUR: 'it returns false'. Refute it at one input. -/
def ctrlReadyWrong : ChangeSpec := { name := "ctrlReady", fn := fun _ => fun
  | [d1, d2] => { results := [.lit (.bool false)], args := [d1, d2] }
  | _ => none }
def CtrlReadyWrongFalsely : Prop := ctrlReadyRow.holds Try.pinned (OpenSpec.ofChange ctrlReadyWrong)

/- THE SECOND FORM. 'bulk': how many values and letters a reading holds, each counted each time it is reached (what is shared counts as often as it is met; a slice's spare places count too). A statement '..UptoSaid' is the law's where the arguments, and the package variables that the reading takes, are together of bulk at most 1048576: NARROWER than '..Said'. Prove '..Said' where nothing that the law and all that it calls make is longer than what came in: it says more and counts as full. Else prove '..UptoSaid'. A law counts once. -/
mutual
def uptoBulk {H : Type} : DataW H → Nat
  | .lit (.string bytes) => bytes.length + 1
  | .lit _ => 1
  | .nil => 1
  | .ptr d => uptoBulk d + 1
  | .slice elems spare => uptoBulkAll elems + uptoBulkAll spare + 1
  | .agg parts => uptoBulkAll parts + 1
  | .iface _ d => uptoBulk d + 1
  | .map entries => uptoBulkEntries entries + 1
  | .held _ => 1
def uptoBulkAll {H : Type} : List (DataW H) → Nat
  | [] => 0
  | d :: r => uptoBulk d + uptoBulkAll r
def uptoBulkEntries {H : Type} : List (Lit × DataW H) → Nat
  | [] => 0
  | x :: r => uptoBulkEntry x + uptoBulkEntries r
def uptoBulkEntry {H : Type} : Lit × DataW H → Nat
  | (.string bytes, d) => bytes.length + uptoBulk d + 1
  | (_, d) => uptoBulk d + 1
 end
def uptoSmall : (H : Type) → List (DataW H) → Bool := fun _ ds => decide (uptoBulkAll ds ≤ 1048576)
def OpenSpec.upto (s : _root_.Go.ChangeSpec) : _root_.Go.OpenSpec := { _root_.Go.OpenSpec.ofChange s with cond := some uptoSmall }

/-- 'honeycomblaw09.CtrlSays', WHERE WHAT IT READS IS OF BULK AT MOST 1048576: true; the input reads as it did. -/
def ctrlSaysUptoRow : OpenClaim := { program := "ytmjlaienklheiaa", sum := "7493d08159517022a49a77b0b6ada66a93fc903aaee90595840b9978288855cd", func := "honeycomb/honeycomblaw09.CtrlSays", spec := "ctrlSays", unfollowed := true, recurses := true, apart := false, narrowed := true }
def CtrlSaysUptoSaid : Prop := ctrlSaysUptoRow.holds Try.pinned (OpenSpec.upto ctrlSaysSpec)

/-- 'honeycomblaw09.CtrlTurns', WHERE WHAT IT READS IS OF BULK AT MOST 1048576: true; the input reads as it did. -/
def ctrlTurnsUptoRow : OpenClaim := { program := "ytmjlaienklheiaa", sum := "7493d08159517022a49a77b0b6ada66a93fc903aaee90595840b9978288855cd", func := "honeycomb/honeycomblaw09.CtrlTurns", spec := "ctrlTurns", unfollowed := true, recurses := true, apart := false, narrowed := true }
def CtrlTurnsUptoSaid : Prop := ctrlTurnsUptoRow.holds Try.pinned (OpenSpec.upto ctrlTurnsSpec)

/-- 'honeycomblaw09.CtrlFills', WHERE WHAT IT READS IS OF BULK AT MOST 1048576: true; the input reads as it did. -/
def ctrlFillsUptoRow : OpenClaim := { program := "ytmjlaienklheiaa", sum := "7493d08159517022a49a77b0b6ada66a93fc903aaee90595840b9978288855cd", func := "honeycomb/honeycomblaw09.CtrlFills", spec := "ctrlFills", unfollowed := true, recurses := true, apart := false, narrowed := true }
def CtrlFillsUptoSaid : Prop := ctrlFillsUptoRow.holds Try.pinned (OpenSpec.upto ctrlFillsSpec)

/-- 'honeycomblaw09.CtrlParts', WHERE WHAT IT READS IS OF BULK AT MOST 1048576: true; the input reads as it did. -/
def ctrlPartsUptoRow : OpenClaim := { program := "ytmjlaienklheiaa", sum := "7493d08159517022a49a77b0b6ada66a93fc903aaee90595840b9978288855cd", func := "honeycomb/honeycomblaw09.CtrlParts", spec := "ctrlParts", unfollowed := true, recurses := true, apart := false, narrowed := true }
def CtrlPartsUptoSaid : Prop := ctrlPartsUptoRow.holds Try.pinned (OpenSpec.upto ctrlPartsSpec)

/-- 'honeycomblaw09.CtrlStops', WHERE WHAT IT READS IS OF BULK AT MOST 1048576: true; the input reads as it did. -/
def ctrlStopsUptoRow : OpenClaim := { program := "ytmjlaienklheiaa", sum := "7493d08159517022a49a77b0b6ada66a93fc903aaee90595840b9978288855cd", func := "honeycomb/honeycomblaw09.CtrlStops", spec := "ctrlStops", unfollowed := true, recurses := true, apart := false, narrowed := true }
def CtrlStopsUptoSaid : Prop := ctrlStopsUptoRow.holds Try.pinned (OpenSpec.upto ctrlStopsSpec)

/-- 'honeycomblaw09.CtrlReady', WHERE WHAT IT READS IS OF BULK AT MOST 1048576: true; the input reads as it did. -/
def ctrlReadyUptoRow : OpenClaim := { program := "ytmjlaienklheiaa", sum := "7493d08159517022a49a77b0b6ada66a93fc903aaee90595840b9978288855cd", func := "honeycomb/honeycomblaw09.CtrlReady", spec := "ctrlReady", unfollowed := true, recurses := true, apart := false, narrowed := true }
def CtrlReadyUptoSaid : Prop := ctrlReadyUptoRow.holds Try.pinned (OpenSpec.upto ctrlReadySpec)

end Rows
end Go.Proofs.Ytmjlaienklheiaa
