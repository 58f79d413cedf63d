/-
  No cell of these rows narrows 'for every input' (looked for: loops, veiled, ifaces, maps, wideKeys, modest, calm, conditions, laid).
  DERIVED. THE GIVEN ROWS OF THIS SEAT. 5 by the template 'for every input the law returns true; each argument reads behind the call as it read before'; 0 by the template 'total and deterministic' (their statements: YtdkpenfgeohddaaTotals.lean).
  GIVEN WITH THE SEED: the statements are not yours to turn. If you find one false, say at which input.
  Laid BY PROGRAM, IN A SANDBOX (cutbox-rows.mjs): the forced cells as the released guide's own fill.sh prints them over the translation 55bb5fe47a2835e3… (all of the seat's roots in one cut). By AI agents, Wed Nov 11 2026. No macro, syntax, notation, axiom, sorry.
-/
import Derived.Test.YtdkpenfgeohddaaChecked
import GoSem.Claim
import GoSem.ClaimJoined
import GoSem.ClaimMapViews
import Derived.JoinedTies
import Derived.KernelRfl
namespace Go.Proofs.Ytdkpenfgeohddaa
/- THE CELL 'sum', in the pinned program and in every row, IS THE sha256 OF THE DUMP (.gsa) THAT YtdkpenfgeohddaaProg.lean LOADS. Nothing in Lean hashes anything: it is a label: what it is worth is what the hold of that sum in a sandbox is worth. -/
noncomputable def Try.pinned : Pinned := { name := "ytdkpenfgeohddaa", sum := "55bb5fe47a2835e31beb8b226b68bb3528b9277c99d073c4baaf1e8a942862f1", checked := Try.checked }
namespace Rows
def none {H : Type} : Left H := { results := [], args := [] }

/-- 'honeycomblaw13.PinsMay': WHATEVER THE INPUT: true; the input reads as it did. -/
def pinsMaySpec : ChangeSpec := { name := "pinsMay", fn := fun _ => fun
  | [d1, d2, d3] => { results := [.lit (.bool true)], args := [d1, d2, d3] }
  | _ => none }
def pinsMayRow : OpenClaim := { program := "ytdkpenfgeohddaa", sum := "55bb5fe47a2835e31beb8b226b68bb3528b9277c99d073c4baaf1e8a942862f1", func := "honeycomb/honeycomblaw13.PinsMay", spec := "pinsMay", unfollowed := true, recurses := true, apart := false }
def PinsMaySaid : Prop := pinsMayRow.holds Try.pinned (OpenSpec.ofChange pinsMaySpec)

/-- ITS FALSE NEIGHBOUR: 'it returns false'. Refute it at one input. -/
def pinsMayWrong : ChangeSpec := { name := "pinsMay", fn := fun _ => fun
  | [d1, d2, d3] => { results := [.lit (.bool false)], args := [d1, d2, d3] }
  | _ => none }
def PinsMayWrongFalsely : Prop := pinsMayRow.holds Try.pinned (OpenSpec.ofChange pinsMayWrong)

/-- 'honeycomblaw13.PinsOps': WHATEVER THE INPUT: true; the input reads as it did. -/
def pinsOpsSpec : ChangeSpec := { name := "pinsOps", fn := fun _ => fun
  | [d1, d2] => { results := [.lit (.bool true)], args := [d1, d2] }
  | _ => none }
def pinsOpsRow : OpenClaim := { program := "ytdkpenfgeohddaa", sum := "55bb5fe47a2835e31beb8b226b68bb3528b9277c99d073c4baaf1e8a942862f1", func := "honeycomb/honeycomblaw13.PinsOps", spec := "pinsOps", unfollowed := true, recurses := true, apart := false }
def PinsOpsSaid : Prop := pinsOpsRow.holds Try.pinned (OpenSpec.ofChange pinsOpsSpec)

/-- ITS FALSE NEIGHBOUR: 'it returns false'. Refute it at one input. -/
def pinsOpsWrong : ChangeSpec := { name := "pinsOps", fn := fun _ => fun
  | [d1, d2] => { results := [.lit (.bool false)], args := [d1, d2] }
  | _ => none }
def PinsOpsWrongFalsely : Prop := pinsOpsRow.holds Try.pinned (OpenSpec.ofChange pinsOpsWrong)

/-- 'honeycomblaw13.PinsHold': WHATEVER THE INPUT: true; the input reads as it did. -/
def pinsHoldSpec : ChangeSpec := { name := "pinsHold", fn := fun _ => fun
  | [d1, d2, d3] => { results := [.lit (.bool true)], args := [d1, d2, d3] }
  | _ => none }
def pinsHoldRow : OpenClaim := { program := "ytdkpenfgeohddaa", sum := "55bb5fe47a2835e31beb8b226b68bb3528b9277c99d073c4baaf1e8a942862f1", func := "honeycomb/honeycomblaw13.PinsHold", spec := "pinsHold", unfollowed := true, recurses := true, apart := false }
def PinsHoldSaid : Prop := pinsHoldRow.holds Try.pinned (OpenSpec.ofChange pinsHoldSpec)

/-- ITS FALSE NEIGHBOUR: 'it returns false'. Refute it at one input. -/
def pinsHoldWrong : ChangeSpec := { name := "pinsHold", fn := fun _ => fun
  | [d1, d2, d3] => { results := [.lit (.bool false)], args := [d1, d2, d3] }
  | _ => none }
def PinsHoldWrongFalsely : Prop := pinsHoldRow.holds Try.pinned (OpenSpec.ofChange pinsHoldWrong)

/-- 'honeycomblaw13.PinsGo': WHATEVER THE INPUT: true; the input reads as it did. -/
def pinsGoSpec : ChangeSpec := { name := "pinsGo", fn := fun _ => fun
  | [d1, d2] => { results := [.lit (.bool true)], args := [d1, d2] }
  | _ => none }
def pinsGoRow : OpenClaim := { program := "ytdkpenfgeohddaa", sum := "55bb5fe47a2835e31beb8b226b68bb3528b9277c99d073c4baaf1e8a942862f1", func := "honeycomb/honeycomblaw13.PinsGo", spec := "pinsGo", unfollowed := true, recurses := true, apart := false }
def PinsGoSaid : Prop := pinsGoRow.holds Try.pinned (OpenSpec.ofChange pinsGoSpec)

/-- ITS FALSE NEIGHBOUR: 'it returns false'. Refute it at one input. -/
def pinsGoWrong : ChangeSpec := { name := "pinsGo", fn := fun _ => fun
  | [d1, d2] => { results := [.lit (.bool false)], args := [d1, d2] }
  | _ => none }
def PinsGoWrongFalsely : Prop := pinsGoRow.holds Try.pinned (OpenSpec.ofChange pinsGoWrong)

/-- 'honeycomblaw13.PinsBack': WHATEVER THE INPUT: true; the input reads as it did. -/
def pinsBackSpec : ChangeSpec := { name := "pinsBack", fn := fun _ => fun
  | [d1, d2, d3] => { results := [.lit (.bool true)], args := [d1, d2, d3] }
  | _ => none }
def pinsBackRow : OpenClaim := { program := "ytdkpenfgeohddaa", sum := "55bb5fe47a2835e31beb8b226b68bb3528b9277c99d073c4baaf1e8a942862f1", func := "honeycomb/honeycomblaw13.PinsBack", spec := "pinsBack", unfollowed := true, recurses := true, apart := false }
def PinsBackSaid : Prop := pinsBackRow.holds Try.pinned (OpenSpec.ofChange pinsBackSpec)

/-- ITS FALSE NEIGHBOUR: 'it returns false'. Refute it at one input. -/
def pinsBackWrong : ChangeSpec := { name := "pinsBack", fn := fun _ => fun
  | [d1, d2, d3] => { results := [.lit (.bool false)], args := [d1, d2, d3] }
  | _ => none }
def PinsBackWrongFalsely : Prop := pinsBackRow.holds Try.pinned (OpenSpec.ofChange pinsBackWrong)

/- THE SECOND FORM. 'bulk': how many values and letters a reading holds, each counted each time it is reached (what is shared counts as often as it is met; a slice's spare places count too). A statement '..UptoSaid' is the law's where the arguments, and the package variables that the reading takes, are together of bulk at most 1048576: NARROWER than '..Said'. Prove '..Said' where nothing that the law and all that it calls make is longer than what came in: it says more and counts as full. Else prove '..UptoSaid'. A law counts once. -/
mutual
def uptoBulk {H : Type} : DataW H → Nat
  | .lit (.string bytes) => bytes.length + 1
  | .lit _ => 1
  | .nil => 1
  | .ptr d => uptoBulk d + 1
  | .slice elems spare => uptoBulkAll elems + uptoBulkAll spare + 1
  | .agg parts => uptoBulkAll parts + 1
  | .iface _ d => uptoBulk d + 1
  | .map entries => uptoBulkEntries entries + 1
  | .held _ => 1
def uptoBulkAll {H : Type} : List (DataW H) → Nat
  | [] => 0
  | d :: r => uptoBulk d + uptoBulkAll r
def uptoBulkEntries {H : Type} : List (Lit × DataW H) → Nat
  | [] => 0
  | x :: r => uptoBulkEntry x + uptoBulkEntries r
def uptoBulkEntry {H : Type} : Lit × DataW H → Nat
  | (.string bytes, d) => bytes.length + uptoBulk d + 1
  | (_, d) => uptoBulk d + 1
 end
def uptoSmall : (H : Type) → List (DataW H) → Bool := fun _ ds => decide (uptoBulkAll ds ≤ 1048576)
def OpenSpec.upto (s : _root_.Go.ChangeSpec) : _root_.Go.OpenSpec := { _root_.Go.OpenSpec.ofChange s with cond := some uptoSmall }

/-- 'honeycomblaw13.PinsMay', WHERE WHAT IT READS IS OF BULK AT MOST 1048576: true; the input reads as it did. -/
def pinsMayUptoRow : OpenClaim := { program := "ytdkpenfgeohddaa", sum := "55bb5fe47a2835e31beb8b226b68bb3528b9277c99d073c4baaf1e8a942862f1", func := "honeycomb/honeycomblaw13.PinsMay", spec := "pinsMay", unfollowed := true, recurses := true, apart := false, narrowed := true }
def PinsMayUptoSaid : Prop := pinsMayUptoRow.holds Try.pinned (OpenSpec.upto pinsMaySpec)

/-- 'honeycomblaw13.PinsOps', WHERE WHAT IT READS IS OF BULK AT MOST 1048576: true; the input reads as it did. -/
def pinsOpsUptoRow : OpenClaim := { program := "ytdkpenfgeohddaa", sum := "55bb5fe47a2835e31beb8b226b68bb3528b9277c99d073c4baaf1e8a942862f1", func := "honeycomb/honeycomblaw13.PinsOps", spec := "pinsOps", unfollowed := true, recurses := true, apart := false, narrowed := true }
def PinsOpsUptoSaid : Prop := pinsOpsUptoRow.holds Try.pinned (OpenSpec.upto pinsOpsSpec)

/-- 'honeycomblaw13.PinsHold', WHERE WHAT IT READS IS OF BULK AT MOST 1048576: true; the input reads as it did. -/
def pinsHoldUptoRow : OpenClaim := { program := "ytdkpenfgeohddaa", sum := "55bb5fe47a2835e31beb8b226b68bb3528b9277c99d073c4baaf1e8a942862f1", func := "honeycomb/honeycomblaw13.PinsHold", spec := "pinsHold", unfollowed := true, recurses := true, apart := false, narrowed := true }
def PinsHoldUptoSaid : Prop := pinsHoldUptoRow.holds Try.pinned (OpenSpec.upto pinsHoldSpec)

/-- 'honeycomblaw13.PinsGo', WHERE WHAT IT READS IS OF BULK AT MOST 1048576: true; the input reads as it did. -/
def pinsGoUptoRow : OpenClaim := { program := "ytdkpenfgeohddaa", sum := "55bb5fe47a2835e31beb8b226b68bb3528b9277c99d073c4baaf1e8a942862f1", func := "honeycomb/honeycomblaw13.PinsGo", spec := "pinsGo", unfollowed := true, recurses := true, apart := false, narrowed := true }
def PinsGoUptoSaid : Prop := pinsGoUptoRow.holds Try.pinned (OpenSpec.upto pinsGoSpec)

/-- 'honeycomblaw13.PinsBack', WHERE WHAT IT READS IS OF BULK AT MOST 1048576: true; the input reads as it did. -/
def pinsBackUptoRow : OpenClaim := { program := "ytdkpenfgeohddaa", sum := "55bb5fe47a2835e31beb8b226b68bb3528b9277c99d073c4baaf1e8a942862f1", func := "honeycomb/honeycomblaw13.PinsBack", spec := "pinsBack", unfollowed := true, recurses := true, apart := false, narrowed := true }
def PinsBackUptoSaid : Prop := pinsBackUptoRow.holds Try.pinned (OpenSpec.upto pinsBackSpec)

end Rows
end Go.Proofs.Ytdkpenfgeohddaa
