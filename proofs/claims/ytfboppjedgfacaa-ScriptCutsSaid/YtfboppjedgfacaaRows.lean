/-
  No cell of these rows narrows 'for every input' (looked for: loops, veiled, ifaces, maps, wideKeys, modest, calm, conditions, laid).
  DERIVED. THE GIVEN ROWS OF THIS SEAT. 6 by the template 'for every input the law returns true; each argument reads behind the call as it read before'; 0 by the template 'total and deterministic' (their statements: YtfboppjedgfacaaTotals.lean).
  GIVEN WITH THE SEED: the statements are not yours to turn. If you find one false, say at which input.
  Laid BY PROGRAM, IN A SANDBOX (cutbox-rows.mjs): the forced cells as the released guide's own fill.sh prints them over the translation b3884349bf6b02b7… (all of the seat's roots in one cut). By AI agents, Wed Nov 11 2026. No macro, syntax, notation, axiom, sorry.
-/
import Derived.Test.YtfboppjedgfacaaChecked
import GoSem.Claim
import GoSem.ClaimJoined
import GoSem.ClaimMapViews
import Derived.JoinedTies
import Derived.KernelRfl
namespace Go.Proofs.Ytfboppjedgfacaa
/- THE CELL 'sum', in the pinned program and in every row, IS THE sha256 OF THE DUMP (.gsa) THAT YtfboppjedgfacaaProg.lean LOADS. Nothing in Lean hashes anything: it is a label: what it is worth is what the hold of that sum in a sandbox is worth. -/
noncomputable def Try.pinned : Pinned := { name := "ytfboppjedgfacaa", sum := "b3884349bf6b02b7fd40e234b0688e8ce7dd2f113149d8f474dc97ebb776a8e0", checked := Try.checked }
namespace Rows
def none {H : Type} : Left H := { results := [], args := [] }

/-- 'honeycomblaw03.ScriptMay': WHATEVER THE INPUT: true; the input reads as it did. -/
def scriptMaySpec : ChangeSpec := { name := "scriptMay", fn := fun _ => fun
  | [d1, d2, d3] => { results := [.lit (.bool true)], args := [d1, d2, d3] }
  | _ => none }
def scriptMayRow : OpenClaim := { program := "ytfboppjedgfacaa", sum := "b3884349bf6b02b7fd40e234b0688e8ce7dd2f113149d8f474dc97ebb776a8e0", func := "honeycomb/honeycomblaw03.ScriptMay", spec := "scriptMay", unfollowed := true, recurses := true, apart := false }
def ScriptMaySaid : Prop := scriptMayRow.holds Try.pinned (OpenSpec.ofChange scriptMaySpec)

/-- ITS FALSE NEIGHBOUR: 'it returns false'. Refute it at one input. -/
def scriptMayWrong : ChangeSpec := { name := "scriptMay", fn := fun _ => fun
  | [d1, d2, d3] => { results := [.lit (.bool false)], args := [d1, d2, d3] }
  | _ => none }
def ScriptMayWrongFalsely : Prop := scriptMayRow.holds Try.pinned (OpenSpec.ofChange scriptMayWrong)

/-- 'honeycomblaw03.ScriptBytes': WHATEVER THE INPUT: true; the input reads as it did. -/
def scriptBytesSpec : ChangeSpec := { name := "scriptBytes", fn := fun _ => fun
  | [d1, d2, d3] => { results := [.lit (.bool true)], args := [d1, d2, d3] }
  | _ => none }
def scriptBytesRow : OpenClaim := { program := "ytfboppjedgfacaa", sum := "b3884349bf6b02b7fd40e234b0688e8ce7dd2f113149d8f474dc97ebb776a8e0", func := "honeycomb/honeycomblaw03.ScriptBytes", spec := "scriptBytes", unfollowed := true, recurses := true, apart := false }
def ScriptBytesSaid : Prop := scriptBytesRow.holds Try.pinned (OpenSpec.ofChange scriptBytesSpec)

/-- ITS FALSE NEIGHBOUR: 'it returns false'. Refute it at one input. -/
def scriptBytesWrong : ChangeSpec := { name := "scriptBytes", fn := fun _ => fun
  | [d1, d2, d3] => { results := [.lit (.bool false)], args := [d1, d2, d3] }
  | _ => none }
def ScriptBytesWrongFalsely : Prop := scriptBytesRow.holds Try.pinned (OpenSpec.ofChange scriptBytesWrong)

/-- 'honeycomblaw03.ScriptCuts': WHATEVER THE INPUT: true; the input reads as it did. -/
def scriptCutsSpec : ChangeSpec := { name := "scriptCuts", fn := fun _ => fun
  | [d1, d2, d3] => { results := [.lit (.bool true)], args := [d1, d2, d3] }
  | _ => none }
def scriptCutsRow : OpenClaim := { program := "ytfboppjedgfacaa", sum := "b3884349bf6b02b7fd40e234b0688e8ce7dd2f113149d8f474dc97ebb776a8e0", func := "honeycomb/honeycomblaw03.ScriptCuts", spec := "scriptCuts", unfollowed := true, recurses := true, apart := false }
def ScriptCutsSaid : Prop := scriptCutsRow.holds Try.pinned (OpenSpec.ofChange scriptCutsSpec)

/-- ITS FALSE NEIGHBOUR: 'it returns false'. Refute it at one input. -/
def scriptCutsWrong : ChangeSpec := { name := "scriptCuts", fn := fun _ => fun
  | [d1, d2, d3] => { results := [.lit (.bool false)], args := [d1, d2, d3] }
  | _ => none }
def ScriptCutsWrongFalsely : Prop := scriptCutsRow.holds Try.pinned (OpenSpec.ofChange scriptCutsWrong)

/-- 'honeycomblaw03.ScriptBack': WHATEVER THE INPUT: true; the input reads as it did. -/
def scriptBackSpec : ChangeSpec := { name := "scriptBack", fn := fun _ => fun
  | [d1, d2] => { results := [.lit (.bool true)], args := [d1, d2] }
  | _ => none }
def scriptBackRow : OpenClaim := { program := "ytfboppjedgfacaa", sum := "b3884349bf6b02b7fd40e234b0688e8ce7dd2f113149d8f474dc97ebb776a8e0", func := "honeycomb/honeycomblaw03.ScriptBack", spec := "scriptBack", unfollowed := true, recurses := true, apart := false }
def ScriptBackSaid : Prop := scriptBackRow.holds Try.pinned (OpenSpec.ofChange scriptBackSpec)

/-- ITS FALSE NEIGHBOUR: 'it returns false'. Refute it at one input. -/
def scriptBackWrong : ChangeSpec := { name := "scriptBack", fn := fun _ => fun
  | [d1, d2] => { results := [.lit (.bool false)], args := [d1, d2] }
  | _ => none }
def ScriptBackWrongFalsely : Prop := scriptBackRow.holds Try.pinned (OpenSpec.ofChange scriptBackWrong)

/-- 'honeycomblaw03.ScriptKeeps': WHATEVER THE INPUT: true; the input reads as it did. -/
def scriptKeepsSpec : ChangeSpec := { name := "scriptKeeps", fn := fun _ => fun
  | [d1, d2, d3] => { results := [.lit (.bool true)], args := [d1, d2, d3] }
  | _ => none }
def scriptKeepsRow : OpenClaim := { program := "ytfboppjedgfacaa", sum := "b3884349bf6b02b7fd40e234b0688e8ce7dd2f113149d8f474dc97ebb776a8e0", func := "honeycomb/honeycomblaw03.ScriptKeeps", spec := "scriptKeeps", unfollowed := true, recurses := true, apart := false }
def ScriptKeepsSaid : Prop := scriptKeepsRow.holds Try.pinned (OpenSpec.ofChange scriptKeepsSpec)

/-- ITS FALSE NEIGHBOUR: 'it returns false'. Refute it at one input. -/
def scriptKeepsWrong : ChangeSpec := { name := "scriptKeeps", fn := fun _ => fun
  | [d1, d2, d3] => { results := [.lit (.bool false)], args := [d1, d2, d3] }
  | _ => none }
def ScriptKeepsWrongFalsely : Prop := scriptKeepsRow.holds Try.pinned (OpenSpec.ofChange scriptKeepsWrong)

/-- 'honeycomblaw03.ScriptNumbers': WHATEVER THE INPUT: true; the input reads as it did. -/
def scriptNumbersSpec : ChangeSpec := { name := "scriptNumbers", fn := fun _ => fun
  | [d1, d2] => { results := [.lit (.bool true)], args := [d1, d2] }
  | _ => none }
def scriptNumbersRow : OpenClaim := { program := "ytfboppjedgfacaa", sum := "b3884349bf6b02b7fd40e234b0688e8ce7dd2f113149d8f474dc97ebb776a8e0", func := "honeycomb/honeycomblaw03.ScriptNumbers", spec := "scriptNumbers", unfollowed := true, recurses := true, apart := false }
def ScriptNumbersSaid : Prop := scriptNumbersRow.holds Try.pinned (OpenSpec.ofChange scriptNumbersSpec)

/-- ITS FALSE NEIGHBOUR: 'it returns false'. Refute it at one input. -/
def scriptNumbersWrong : ChangeSpec := { name := "scriptNumbers", fn := fun _ => fun
  | [d1, d2] => { results := [.lit (.bool false)], args := [d1, d2] }
  | _ => none }
def ScriptNumbersWrongFalsely : Prop := scriptNumbersRow.holds Try.pinned (OpenSpec.ofChange scriptNumbersWrong)

/- THE SECOND FORM. 'bulk': how many values and letters a reading holds, each counted each time it is reached (what is shared counts as often as it is met; a slice's spare places count too). A statement '..UptoSaid' is the law's where the arguments, and the package variables that the reading takes, are together of bulk at most 1048576: NARROWER than '..Said'. Prove '..Said' where nothing that the law and all that it calls make is longer than what came in: it says more and counts as full. Else prove '..UptoSaid'. A law counts once. -/
mutual
def uptoBulk {H : Type} : DataW H → Nat
  | .lit (.string bytes) => bytes.length + 1
  | .lit _ => 1
  | .nil => 1
  | .ptr d => uptoBulk d + 1
  | .slice elems spare => uptoBulkAll elems + uptoBulkAll spare + 1
  | .agg parts => uptoBulkAll parts + 1
  | .iface _ d => uptoBulk d + 1
  | .map entries => uptoBulkEntries entries + 1
  | .held _ => 1
def uptoBulkAll {H : Type} : List (DataW H) → Nat
  | [] => 0
  | d :: r => uptoBulk d + uptoBulkAll r
def uptoBulkEntries {H : Type} : List (Lit × DataW H) → Nat
  | [] => 0
  | x :: r => uptoBulkEntry x + uptoBulkEntries r
def uptoBulkEntry {H : Type} : Lit × DataW H → Nat
  | (.string bytes, d) => bytes.length + uptoBulk d + 1
  | (_, d) => uptoBulk d + 1
 end
def uptoSmall : (H : Type) → List (DataW H) → Bool := fun _ ds => decide (uptoBulkAll ds ≤ 1048576)
def OpenSpec.upto (s : _root_.Go.ChangeSpec) : _root_.Go.OpenSpec := { _root_.Go.OpenSpec.ofChange s with cond := some uptoSmall }

/-- 'honeycomblaw03.ScriptMay', WHERE WHAT IT READS IS OF BULK AT MOST 1048576: true; the input reads as it did. -/
def scriptMayUptoRow : OpenClaim := { program := "ytfboppjedgfacaa", sum := "b3884349bf6b02b7fd40e234b0688e8ce7dd2f113149d8f474dc97ebb776a8e0", func := "honeycomb/honeycomblaw03.ScriptMay", spec := "scriptMay", unfollowed := true, recurses := true, apart := false, narrowed := true }
def ScriptMayUptoSaid : Prop := scriptMayUptoRow.holds Try.pinned (OpenSpec.upto scriptMaySpec)

/-- 'honeycomblaw03.ScriptBytes', WHERE WHAT IT READS IS OF BULK AT MOST 1048576: true; the input reads as it did. -/
def scriptBytesUptoRow : OpenClaim := { program := "ytfboppjedgfacaa", sum := "b3884349bf6b02b7fd40e234b0688e8ce7dd2f113149d8f474dc97ebb776a8e0", func := "honeycomb/honeycomblaw03.ScriptBytes", spec := "scriptBytes", unfollowed := true, recurses := true, apart := false, narrowed := true }
def ScriptBytesUptoSaid : Prop := scriptBytesUptoRow.holds Try.pinned (OpenSpec.upto scriptBytesSpec)

/-- 'honeycomblaw03.ScriptCuts', WHERE WHAT IT READS IS OF BULK AT MOST 1048576: true; the input reads as it did. -/
def scriptCutsUptoRow : OpenClaim := { program := "ytfboppjedgfacaa", sum := "b3884349bf6b02b7fd40e234b0688e8ce7dd2f113149d8f474dc97ebb776a8e0", func := "honeycomb/honeycomblaw03.ScriptCuts", spec := "scriptCuts", unfollowed := true, recurses := true, apart := false, narrowed := true }
def ScriptCutsUptoSaid : Prop := scriptCutsUptoRow.holds Try.pinned (OpenSpec.upto scriptCutsSpec)

/-- 'honeycomblaw03.ScriptBack', WHERE WHAT IT READS IS OF BULK AT MOST 1048576: true; the input reads as it did. -/
def scriptBackUptoRow : OpenClaim := { program := "ytfboppjedgfacaa", sum := "b3884349bf6b02b7fd40e234b0688e8ce7dd2f113149d8f474dc97ebb776a8e0", func := "honeycomb/honeycomblaw03.ScriptBack", spec := "scriptBack", unfollowed := true, recurses := true, apart := false, narrowed := true }
def ScriptBackUptoSaid : Prop := scriptBackUptoRow.holds Try.pinned (OpenSpec.upto scriptBackSpec)

/-- 'honeycomblaw03.ScriptKeeps', WHERE WHAT IT READS IS OF BULK AT MOST 1048576: true; the input reads as it did. -/
def scriptKeepsUptoRow : OpenClaim := { program := "ytfboppjedgfacaa", sum := "b3884349bf6b02b7fd40e234b0688e8ce7dd2f113149d8f474dc97ebb776a8e0", func := "honeycomb/honeycomblaw03.ScriptKeeps", spec := "scriptKeeps", unfollowed := true, recurses := true, apart := false, narrowed := true }
def ScriptKeepsUptoSaid : Prop := scriptKeepsUptoRow.holds Try.pinned (OpenSpec.upto scriptKeepsSpec)

/-- 'honeycomblaw03.ScriptNumbers', WHERE WHAT IT READS IS OF BULK AT MOST 1048576: true; the input reads as it did. -/
def scriptNumbersUptoRow : OpenClaim := { program := "ytfboppjedgfacaa", sum := "b3884349bf6b02b7fd40e234b0688e8ce7dd2f113149d8f474dc97ebb776a8e0", func := "honeycomb/honeycomblaw03.ScriptNumbers", spec := "scriptNumbers", unfollowed := true, recurses := true, apart := false, narrowed := true }
def ScriptNumbersUptoSaid : Prop := scriptNumbersUptoRow.holds Try.pinned (OpenSpec.upto scriptNumbersSpec)

end Rows
end Go.Proofs.Ytfboppjedgfacaa
