/-
  No cell of these rows narrows 'for every input' (looked for: loops, veiled, ifaces, maps, wideKeys, modest, calm, conditions, laid).
  DERIVED. THE GIVEN ROWS OF THIS SEAT. 5 by the template 'for every input the law returns true; each argument reads behind the call as it read before'; 0 by the template 'total and deterministic' (their statements: YtehphohgnpbmpaaTotals.lean).
  GIVEN WITH THE SEED: the statements are not yours to turn. If you find one false, say at which input.
  Laid BY PROGRAM, IN A SANDBOX (cutbox-rows.mjs): the forced cells as the released guide's own fill.sh prints them over the translation 3198e7ba93311ccf… (all of the seat's roots in one cut). By AI agents, Wed Nov 11 2026. No macro, syntax, notation, axiom, sorry.
-/
import Derived.Test.YtehphohgnpbmpaaChecked
import GoSem.Claim
import GoSem.ClaimJoined
import GoSem.ClaimMapViews
import Derived.JoinedTies
import Derived.KernelRfl
namespace Go.Proofs.Ytehphohgnpbmpaa
/- THE CELL 'sum', in the pinned program and in every row, IS THE sha256 OF THE DUMP (.gsa) THAT YtehphohgnpbmpaaProg.lean LOADS. Nothing in Lean hashes anything: it is a label: what it is worth is what the hold of that sum in a sandbox is worth. -/
noncomputable def Try.pinned : Pinned := { name := "ytehphohgnpbmpaa", sum := "3198e7ba93311ccff9b387232b4b1c505312fb4ef2c5db35a808a0dd4626b7c8", checked := Try.checked }
namespace Rows
def none {H : Type} : Left H := { results := [], args := [] }

/-- 'honeycomblaw08.ProbeRows': WHATEVER THE INPUT: true; the input reads as it did. -/
def probeRowsSpec : ChangeSpec := { name := "probeRows", fn := fun _ => fun
  | [d1, d2, d3] => { results := [.lit (.bool true)], args := [d1, d2, d3] }
  | _ => none }
def probeRowsRow : OpenClaim := { program := "ytehphohgnpbmpaa", sum := "3198e7ba93311ccff9b387232b4b1c505312fb4ef2c5db35a808a0dd4626b7c8", func := "honeycomb/honeycomblaw08.ProbeRows", spec := "probeRows", unfollowed := true, recurses := true, apart := false }
def ProbeRowsSaid : Prop := probeRowsRow.holds Try.pinned (OpenSpec.ofChange probeRowsSpec)

/-- ITS FALSE NEIGHBOUR: 'it returns false'. Refute it at one input. -/
def probeRowsWrong : ChangeSpec := { name := "probeRows", fn := fun _ => fun
  | [d1, d2, d3] => { results := [.lit (.bool false)], args := [d1, d2, d3] }
  | _ => none }
def ProbeRowsWrongFalsely : Prop := probeRowsRow.holds Try.pinned (OpenSpec.ofChange probeRowsWrong)

/-- 'honeycomblaw08.ProbeFirst': WHATEVER THE INPUT: true; the input reads as it did. -/
def probeFirstSpec : ChangeSpec := { name := "probeFirst", fn := fun _ => fun
  | [d1, d2, d3] => { results := [.lit (.bool true)], args := [d1, d2, d3] }
  | _ => none }
def probeFirstRow : OpenClaim := { program := "ytehphohgnpbmpaa", sum := "3198e7ba93311ccff9b387232b4b1c505312fb4ef2c5db35a808a0dd4626b7c8", func := "honeycomb/honeycomblaw08.ProbeFirst", spec := "probeFirst", unfollowed := true, recurses := true, apart := false }
def ProbeFirstSaid : Prop := probeFirstRow.holds Try.pinned (OpenSpec.ofChange probeFirstSpec)

/-- ITS FALSE NEIGHBOUR: 'it returns false'. Refute it at one input. -/
def probeFirstWrong : ChangeSpec := { name := "probeFirst", fn := fun _ => fun
  | [d1, d2, d3] => { results := [.lit (.bool false)], args := [d1, d2, d3] }
  | _ => none }
def ProbeFirstWrongFalsely : Prop := probeFirstRow.holds Try.pinned (OpenSpec.ofChange probeFirstWrong)

/-- 'honeycomblaw08.ProbeAll': WHATEVER THE INPUT: true; the input reads as it did. -/
def probeAllSpec : ChangeSpec := { name := "probeAll", fn := fun _ => fun
  | [d1, d2] => { results := [.lit (.bool true)], args := [d1, d2] }
  | _ => none }
def probeAllRow : OpenClaim := { program := "ytehphohgnpbmpaa", sum := "3198e7ba93311ccff9b387232b4b1c505312fb4ef2c5db35a808a0dd4626b7c8", func := "honeycomb/honeycomblaw08.ProbeAll", spec := "probeAll", unfollowed := true, recurses := true, apart := false }
def ProbeAllSaid : Prop := probeAllRow.holds Try.pinned (OpenSpec.ofChange probeAllSpec)

/-- ITS FALSE NEIGHBOUR: 'it returns false'. Refute it at one input. -/
def probeAllWrong : ChangeSpec := { name := "probeAll", fn := fun _ => fun
  | [d1, d2] => { results := [.lit (.bool false)], args := [d1, d2] }
  | _ => none }
def ProbeAllWrongFalsely : Prop := probeAllRow.holds Try.pinned (OpenSpec.ofChange probeAllWrong)

/-- 'honeycomblaw08.ProbeSame': WHATEVER THE INPUT: true; the input reads as it did. -/
def probeSameSpec : ChangeSpec := { name := "probeSame", fn := fun _ => fun
  | [d1, d2, d3] => { results := [.lit (.bool true)], args := [d1, d2, d3] }
  | _ => none }
def probeSameRow : OpenClaim := { program := "ytehphohgnpbmpaa", sum := "3198e7ba93311ccff9b387232b4b1c505312fb4ef2c5db35a808a0dd4626b7c8", func := "honeycomb/honeycomblaw08.ProbeSame", spec := "probeSame", unfollowed := true, recurses := true, apart := false }
def ProbeSameSaid : Prop := probeSameRow.holds Try.pinned (OpenSpec.ofChange probeSameSpec)

/-- ITS FALSE NEIGHBOUR: 'it returns false'. Refute it at one input. -/
def probeSameWrong : ChangeSpec := { name := "probeSame", fn := fun _ => fun
  | [d1, d2, d3] => { results := [.lit (.bool false)], args := [d1, d2, d3] }
  | _ => none }
def ProbeSameWrongFalsely : Prop := probeSameRow.holds Try.pinned (OpenSpec.ofChange probeSameWrong)

/-- 'honeycomblaw08.ProbeSums': WHATEVER THE INPUT: true; the input reads as it did. -/
def probeSumsSpec : ChangeSpec := { name := "probeSums", fn := fun _ => fun
  | [d1, d2, d3] => { results := [.lit (.bool true)], args := [d1, d2, d3] }
  | _ => none }
def probeSumsRow : OpenClaim := { program := "ytehphohgnpbmpaa", sum := "3198e7ba93311ccff9b387232b4b1c505312fb4ef2c5db35a808a0dd4626b7c8", func := "honeycomb/honeycomblaw08.ProbeSums", spec := "probeSums", unfollowed := true, recurses := true, apart := false }
def ProbeSumsSaid : Prop := probeSumsRow.holds Try.pinned (OpenSpec.ofChange probeSumsSpec)

/-- ITS FALSE NEIGHBOUR: 'it returns false'. Refute it at one input. -/
def probeSumsWrong : ChangeSpec := { name := "probeSums", fn := fun _ => fun
  | [d1, d2, d3] => { results := [.lit (.bool false)], args := [d1, d2, d3] }
  | _ => none }
def ProbeSumsWrongFalsely : Prop := probeSumsRow.holds Try.pinned (OpenSpec.ofChange probeSumsWrong)

/- THE SECOND FORM. 'bulk': how many values and letters a reading holds, each counted each time it is reached (what is shared counts as often as it is met; a slice's spare places count too). A statement '..UptoSaid' is the law's where the arguments, and the package variables that the reading takes, are together of bulk at most 1048576: NARROWER than '..Said'. Prove '..Said' where nothing that the law and all that it calls make is longer than what came in: it says more and counts as full. Else prove '..UptoSaid'. A law counts once. -/
mutual
def uptoBulk {H : Type} : DataW H → Nat
  | .lit (.string bytes) => bytes.length + 1
  | .lit _ => 1
  | .nil => 1
  | .ptr d => uptoBulk d + 1
  | .slice elems spare => uptoBulkAll elems + uptoBulkAll spare + 1
  | .agg parts => uptoBulkAll parts + 1
  | .iface _ d => uptoBulk d + 1
  | .map entries => uptoBulkEntries entries + 1
  | .held _ => 1
def uptoBulkAll {H : Type} : List (DataW H) → Nat
  | [] => 0
  | d :: r => uptoBulk d + uptoBulkAll r
def uptoBulkEntries {H : Type} : List (Lit × DataW H) → Nat
  | [] => 0
  | x :: r => uptoBulkEntry x + uptoBulkEntries r
def uptoBulkEntry {H : Type} : Lit × DataW H → Nat
  | (.string bytes, d) => bytes.length + uptoBulk d + 1
  | (_, d) => uptoBulk d + 1
 end
def uptoSmall : (H : Type) → List (DataW H) → Bool := fun _ ds => decide (uptoBulkAll ds ≤ 1048576)
def OpenSpec.upto (s : _root_.Go.ChangeSpec) : _root_.Go.OpenSpec := { _root_.Go.OpenSpec.ofChange s with cond := some uptoSmall }

/-- 'honeycomblaw08.ProbeRows', WHERE WHAT IT READS IS OF BULK AT MOST 1048576: true; the input reads as it did. -/
def probeRowsUptoRow : OpenClaim := { program := "ytehphohgnpbmpaa", sum := "3198e7ba93311ccff9b387232b4b1c505312fb4ef2c5db35a808a0dd4626b7c8", func := "honeycomb/honeycomblaw08.ProbeRows", spec := "probeRows", unfollowed := true, recurses := true, apart := false, narrowed := true }
def ProbeRowsUptoSaid : Prop := probeRowsUptoRow.holds Try.pinned (OpenSpec.upto probeRowsSpec)

/-- 'honeycomblaw08.ProbeFirst', WHERE WHAT IT READS IS OF BULK AT MOST 1048576: true; the input reads as it did. -/
def probeFirstUptoRow : OpenClaim := { program := "ytehphohgnpbmpaa", sum := "3198e7ba93311ccff9b387232b4b1c505312fb4ef2c5db35a808a0dd4626b7c8", func := "honeycomb/honeycomblaw08.ProbeFirst", spec := "probeFirst", unfollowed := true, recurses := true, apart := false, narrowed := true }
def ProbeFirstUptoSaid : Prop := probeFirstUptoRow.holds Try.pinned (OpenSpec.upto probeFirstSpec)

/-- 'honeycomblaw08.ProbeAll', WHERE WHAT IT READS IS OF BULK AT MOST 1048576: true; the input reads as it did. -/
def probeAllUptoRow : OpenClaim := { program := "ytehphohgnpbmpaa", sum := "3198e7ba93311ccff9b387232b4b1c505312fb4ef2c5db35a808a0dd4626b7c8", func := "honeycomb/honeycomblaw08.ProbeAll", spec := "probeAll", unfollowed := true, recurses := true, apart := false, narrowed := true }
def ProbeAllUptoSaid : Prop := probeAllUptoRow.holds Try.pinned (OpenSpec.upto probeAllSpec)

/-- 'honeycomblaw08.ProbeSame', WHERE WHAT IT READS IS OF BULK AT MOST 1048576: true; the input reads as it did. -/
def probeSameUptoRow : OpenClaim := { program := "ytehphohgnpbmpaa", sum := "3198e7ba93311ccff9b387232b4b1c505312fb4ef2c5db35a808a0dd4626b7c8", func := "honeycomb/honeycomblaw08.ProbeSame", spec := "probeSame", unfollowed := true, recurses := true, apart := false, narrowed := true }
def ProbeSameUptoSaid : Prop := probeSameUptoRow.holds Try.pinned (OpenSpec.upto probeSameSpec)

/-- 'honeycomblaw08.ProbeSums', WHERE WHAT IT READS IS OF BULK AT MOST 1048576: true; the input reads as it did. -/
def probeSumsUptoRow : OpenClaim := { program := "ytehphohgnpbmpaa", sum := "3198e7ba93311ccff9b387232b4b1c505312fb4ef2c5db35a808a0dd4626b7c8", func := "honeycomb/honeycomblaw08.ProbeSums", spec := "probeSums", unfollowed := true, recurses := true, apart := false, narrowed := true }
def ProbeSumsUptoSaid : Prop := probeSumsUptoRow.holds Try.pinned (OpenSpec.upto probeSumsSpec)

end Rows
end Go.Proofs.Ytehphohgnpbmpaa
