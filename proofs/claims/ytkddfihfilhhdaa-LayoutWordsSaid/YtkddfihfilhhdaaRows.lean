/-
  No cell of these rows narrows 'for every input' (looked for: loops, veiled, ifaces, maps, wideKeys, modest, calm, conditions, laid).
  DERIVED. THE GIVEN ROWS OF THIS SEAT. 6 by the template 'for every input the law returns true; each argument reads behind the call as it read before'; 0 by the template 'total and deterministic' (their statements: YtkddfihfilhhdaaTotals.lean).
  GIVEN WITH THE SEED: the statements are not yours to turn. If you find one false, say at which input.
  Laid BY PROGRAM, IN A SANDBOX (cutbox-rows.mjs): the forced cells as the released guide's own fill.sh prints them over the translation c928814adba9bd0d… (all of the seat's roots in one cut). By AI agents, Wed Nov 11 2026. No macro, syntax, notation, axiom, sorry.
-/
import Derived.Test.YtkddfihfilhhdaaChecked
import GoSem.Claim
import GoSem.ClaimJoined
import GoSem.ClaimMapViews
import Derived.JoinedTies
import Derived.KernelRfl
namespace Go.Proofs.Ytkddfihfilhhdaa
/- THE CELL 'sum', in the pinned program and in every row, IS THE sha256 OF THE DUMP (.gsa) THAT YtkddfihfilhhdaaProg.lean LOADS. Nothing in Lean hashes anything: it is a label: what it is worth is what the hold of that sum in a sandbox is worth. -/
noncomputable def Try.pinned : Pinned := { name := "ytkddfihfilhhdaa", sum := "c928814adba9bd0d52567579dbb11065d46c03ab496e99ecc108264f97b86d3d", checked := Try.checked }
namespace Rows
def none {H : Type} : Left H := { results := [], args := [] }

/-- 'honeycomblaw16.LayoutCells': WHATEVER THE INPUT: true; the input reads as it did. -/
def layoutCellsSpec : ChangeSpec := { name := "layoutCells", fn := fun _ => fun
  | [d1, d2, d3] => { results := [.lit (.bool true)], args := [d1, d2, d3] }
  | _ => none }
def layoutCellsRow : OpenClaim := { program := "ytkddfihfilhhdaa", sum := "c928814adba9bd0d52567579dbb11065d46c03ab496e99ecc108264f97b86d3d", func := "honeycomb/honeycomblaw16.LayoutCells", spec := "layoutCells", unfollowed := true, recurses := true, apart := false }
def LayoutCellsSaid : Prop := layoutCellsRow.holds Try.pinned (OpenSpec.ofChange layoutCellsSpec)

/-- ITS FALSE NEIGHBOUR: 'it returns false'. Refute it at one input. -/
def layoutCellsWrong : ChangeSpec := { name := "layoutCells", fn := fun _ => fun
  | [d1, d2, d3] => { results := [.lit (.bool false)], args := [d1, d2, d3] }
  | _ => none }
def LayoutCellsWrongFalsely : Prop := layoutCellsRow.holds Try.pinned (OpenSpec.ofChange layoutCellsWrong)

/-- 'honeycomblaw16.LayoutTables': WHATEVER THE INPUT: true; the input reads as it did. -/
def layoutTablesSpec : ChangeSpec := { name := "layoutTables", fn := fun _ => fun
  | [d1, d2, d3] => { results := [.lit (.bool true)], args := [d1, d2, d3] }
  | _ => none }
def layoutTablesRow : OpenClaim := { program := "ytkddfihfilhhdaa", sum := "c928814adba9bd0d52567579dbb11065d46c03ab496e99ecc108264f97b86d3d", func := "honeycomb/honeycomblaw16.LayoutTables", spec := "layoutTables", unfollowed := true, recurses := true, apart := false }
def LayoutTablesSaid : Prop := layoutTablesRow.holds Try.pinned (OpenSpec.ofChange layoutTablesSpec)

/-- ITS FALSE NEIGHBOUR: 'it returns false'. Refute it at one input. -/
def layoutTablesWrong : ChangeSpec := { name := "layoutTables", fn := fun _ => fun
  | [d1, d2, d3] => { results := [.lit (.bool false)], args := [d1, d2, d3] }
  | _ => none }
def LayoutTablesWrongFalsely : Prop := layoutTablesRow.holds Try.pinned (OpenSpec.ofChange layoutTablesWrong)

/-- 'honeycomblaw16.LayoutDirs': WHATEVER THE INPUT: true; the input reads as it did. -/
def layoutDirsSpec : ChangeSpec := { name := "layoutDirs", fn := fun _ => fun
  | [d1, d2, d3] => { results := [.lit (.bool true)], args := [d1, d2, d3] }
  | _ => none }
def layoutDirsRow : OpenClaim := { program := "ytkddfihfilhhdaa", sum := "c928814adba9bd0d52567579dbb11065d46c03ab496e99ecc108264f97b86d3d", func := "honeycomb/honeycomblaw16.LayoutDirs", spec := "layoutDirs", unfollowed := true, recurses := true, apart := false }
def LayoutDirsSaid : Prop := layoutDirsRow.holds Try.pinned (OpenSpec.ofChange layoutDirsSpec)

/-- ITS FALSE NEIGHBOUR: 'it returns false'. Refute it at one input. -/
def layoutDirsWrong : ChangeSpec := { name := "layoutDirs", fn := fun _ => fun
  | [d1, d2, d3] => { results := [.lit (.bool false)], args := [d1, d2, d3] }
  | _ => none }
def LayoutDirsWrongFalsely : Prop := layoutDirsRow.holds Try.pinned (OpenSpec.ofChange layoutDirsWrong)

/-- 'honeycomblaw16.LayoutBack': WHATEVER THE INPUT: true; the input reads as it did. -/
def layoutBackSpec : ChangeSpec := { name := "layoutBack", fn := fun _ => fun
  | [d1, d2, d3] => { results := [.lit (.bool true)], args := [d1, d2, d3] }
  | _ => none }
def layoutBackRow : OpenClaim := { program := "ytkddfihfilhhdaa", sum := "c928814adba9bd0d52567579dbb11065d46c03ab496e99ecc108264f97b86d3d", func := "honeycomb/honeycomblaw16.LayoutBack", spec := "layoutBack", unfollowed := true, recurses := true, apart := false }
def LayoutBackSaid : Prop := layoutBackRow.holds Try.pinned (OpenSpec.ofChange layoutBackSpec)

/-- ITS FALSE NEIGHBOUR: 'it returns false'. Refute it at one input. -/
def layoutBackWrong : ChangeSpec := { name := "layoutBack", fn := fun _ => fun
  | [d1, d2, d3] => { results := [.lit (.bool false)], args := [d1, d2, d3] }
  | _ => none }
def LayoutBackWrongFalsely : Prop := layoutBackRow.holds Try.pinned (OpenSpec.ofChange layoutBackWrong)

/-- 'honeycomblaw16.LayoutWords': WHATEVER THE INPUT: true; the input reads as it did. -/
def layoutWordsSpec : ChangeSpec := { name := "layoutWords", fn := fun _ => fun
  | [d1, d2, d3] => { results := [.lit (.bool true)], args := [d1, d2, d3] }
  | _ => none }
def layoutWordsRow : OpenClaim := { program := "ytkddfihfilhhdaa", sum := "c928814adba9bd0d52567579dbb11065d46c03ab496e99ecc108264f97b86d3d", func := "honeycomb/honeycomblaw16.LayoutWords", spec := "layoutWords", unfollowed := true, recurses := true, apart := false }
def LayoutWordsSaid : Prop := layoutWordsRow.holds Try.pinned (OpenSpec.ofChange layoutWordsSpec)

/-- ITS FALSE NEIGHBOUR: 'it returns false'. Refute it at one input. -/
def layoutWordsWrong : ChangeSpec := { name := "layoutWords", fn := fun _ => fun
  | [d1, d2, d3] => { results := [.lit (.bool false)], args := [d1, d2, d3] }
  | _ => none }
def LayoutWordsWrongFalsely : Prop := layoutWordsRow.holds Try.pinned (OpenSpec.ofChange layoutWordsWrong)

/-- 'honeycomblaw16.LayoutGoes': WHATEVER THE INPUT: true; the input reads as it did. -/
def layoutGoesSpec : ChangeSpec := { name := "layoutGoes", fn := fun _ => fun
  | [d1, d2] => { results := [.lit (.bool true)], args := [d1, d2] }
  | _ => none }
def layoutGoesRow : OpenClaim := { program := "ytkddfihfilhhdaa", sum := "c928814adba9bd0d52567579dbb11065d46c03ab496e99ecc108264f97b86d3d", func := "honeycomb/honeycomblaw16.LayoutGoes", spec := "layoutGoes", unfollowed := true, recurses := true, apart := false }
def LayoutGoesSaid : Prop := layoutGoesRow.holds Try.pinned (OpenSpec.ofChange layoutGoesSpec)

/-- ITS FALSE NEIGHBOUR: 'it returns false'. Refute it at one input. -/
def layoutGoesWrong : ChangeSpec := { name := "layoutGoes", fn := fun _ => fun
  | [d1, d2] => { results := [.lit (.bool false)], args := [d1, d2] }
  | _ => none }
def LayoutGoesWrongFalsely : Prop := layoutGoesRow.holds Try.pinned (OpenSpec.ofChange layoutGoesWrong)

/- THE SECOND FORM. 'bulk': how many values and letters a reading holds, each counted each time it is reached (what is shared counts as often as it is met; a slice's spare places count too). A statement '..UptoSaid' is the law's where the arguments, and the package variables that the reading takes, are together of bulk at most 1048576: NARROWER than '..Said'. Prove '..Said' where nothing that the law and all that it calls make is longer than what came in: it says more and counts as full. Else prove '..UptoSaid'. A law counts once. -/
mutual
def uptoBulk {H : Type} : DataW H → Nat
  | .lit (.string bytes) => bytes.length + 1
  | .lit _ => 1
  | .nil => 1
  | .ptr d => uptoBulk d + 1
  | .slice elems spare => uptoBulkAll elems + uptoBulkAll spare + 1
  | .agg parts => uptoBulkAll parts + 1
  | .iface _ d => uptoBulk d + 1
  | .map entries => uptoBulkEntries entries + 1
  | .held _ => 1
def uptoBulkAll {H : Type} : List (DataW H) → Nat
  | [] => 0
  | d :: r => uptoBulk d + uptoBulkAll r
def uptoBulkEntries {H : Type} : List (Lit × DataW H) → Nat
  | [] => 0
  | x :: r => uptoBulkEntry x + uptoBulkEntries r
def uptoBulkEntry {H : Type} : Lit × DataW H → Nat
  | (.string bytes, d) => bytes.length + uptoBulk d + 1
  | (_, d) => uptoBulk d + 1
 end
def uptoSmall : (H : Type) → List (DataW H) → Bool := fun _ ds => decide (uptoBulkAll ds ≤ 1048576)
def OpenSpec.upto (s : _root_.Go.ChangeSpec) : _root_.Go.OpenSpec := { _root_.Go.OpenSpec.ofChange s with cond := some uptoSmall }

/-- 'honeycomblaw16.LayoutCells', WHERE WHAT IT READS IS OF BULK AT MOST 1048576: true; the input reads as it did. -/
def layoutCellsUptoRow : OpenClaim := { program := "ytkddfihfilhhdaa", sum := "c928814adba9bd0d52567579dbb11065d46c03ab496e99ecc108264f97b86d3d", func := "honeycomb/honeycomblaw16.LayoutCells", spec := "layoutCells", unfollowed := true, recurses := true, apart := false, narrowed := true }
def LayoutCellsUptoSaid : Prop := layoutCellsUptoRow.holds Try.pinned (OpenSpec.upto layoutCellsSpec)

/-- 'honeycomblaw16.LayoutTables', WHERE WHAT IT READS IS OF BULK AT MOST 1048576: true; the input reads as it did. -/
def layoutTablesUptoRow : OpenClaim := { program := "ytkddfihfilhhdaa", sum := "c928814adba9bd0d52567579dbb11065d46c03ab496e99ecc108264f97b86d3d", func := "honeycomb/honeycomblaw16.LayoutTables", spec := "layoutTables", unfollowed := true, recurses := true, apart := false, narrowed := true }
def LayoutTablesUptoSaid : Prop := layoutTablesUptoRow.holds Try.pinned (OpenSpec.upto layoutTablesSpec)

/-- 'honeycomblaw16.LayoutDirs', WHERE WHAT IT READS IS OF BULK AT MOST 1048576: true; the input reads as it did. -/
def layoutDirsUptoRow : OpenClaim := { program := "ytkddfihfilhhdaa", sum := "c928814adba9bd0d52567579dbb11065d46c03ab496e99ecc108264f97b86d3d", func := "honeycomb/honeycomblaw16.LayoutDirs", spec := "layoutDirs", unfollowed := true, recurses := true, apart := false, narrowed := true }
def LayoutDirsUptoSaid : Prop := layoutDirsUptoRow.holds Try.pinned (OpenSpec.upto layoutDirsSpec)

/-- 'honeycomblaw16.LayoutBack', WHERE WHAT IT READS IS OF BULK AT MOST 1048576: true; the input reads as it did. -/
def layoutBackUptoRow : OpenClaim := { program := "ytkddfihfilhhdaa", sum := "c928814adba9bd0d52567579dbb11065d46c03ab496e99ecc108264f97b86d3d", func := "honeycomb/honeycomblaw16.LayoutBack", spec := "layoutBack", unfollowed := true, recurses := true, apart := false, narrowed := true }
def LayoutBackUptoSaid : Prop := layoutBackUptoRow.holds Try.pinned (OpenSpec.upto layoutBackSpec)

/-- 'honeycomblaw16.LayoutWords', WHERE WHAT IT READS IS OF BULK AT MOST 1048576: true; the input reads as it did. -/
def layoutWordsUptoRow : OpenClaim := { program := "ytkddfihfilhhdaa", sum := "c928814adba9bd0d52567579dbb11065d46c03ab496e99ecc108264f97b86d3d", func := "honeycomb/honeycomblaw16.LayoutWords", spec := "layoutWords", unfollowed := true, recurses := true, apart := false, narrowed := true }
def LayoutWordsUptoSaid : Prop := layoutWordsUptoRow.holds Try.pinned (OpenSpec.upto layoutWordsSpec)

/-- 'honeycomblaw16.LayoutGoes', WHERE WHAT IT READS IS OF BULK AT MOST 1048576: true; the input reads as it did. -/
def layoutGoesUptoRow : OpenClaim := { program := "ytkddfihfilhhdaa", sum := "c928814adba9bd0d52567579dbb11065d46c03ab496e99ecc108264f97b86d3d", func := "honeycomb/honeycomblaw16.LayoutGoes", spec := "layoutGoes", unfollowed := true, recurses := true, apart := false, narrowed := true }
def LayoutGoesUptoSaid : Prop := layoutGoesUptoRow.holds Try.pinned (OpenSpec.upto layoutGoesSpec)

end Rows
end Go.Proofs.Ytkddfihfilhhdaa
