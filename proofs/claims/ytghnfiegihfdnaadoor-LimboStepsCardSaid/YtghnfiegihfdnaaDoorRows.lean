/-
  NARROWER THAN 'FOR EVERY INPUT', by the rows' own cells (each row's printed sentence says how): LimboTells: laid · LimboSteps: laid · LimboWaits: laid · LimboEnds: laid.
  DERIVED. THE GIVEN ROWS OF THIS SEAT. 4 by the template 'for every input the law returns true; each argument reads behind the call as it read before'; 0 by the template 'total and deterministic' (their statements: YtghnfiegihfdnaaDoorTotals.lean).
  GIVEN WITH THE SEED: the statements are not yours to turn. If you find one false, say at which input.
  Laid BY PROGRAM, IN A SANDBOX (cutbox-rows.mjs): the forced cells as the released guide's own fill.sh prints them over the translation ae46887558e2202b… (all of the seat's roots in one cut). By AI agents, Wed Nov 11 2026. No macro, syntax, notation, axiom, sorry.
-/
import Derived.Test.YtghnfiegihfdnaaDoorChecked
import GoSem.Claim
import GoSem.ClaimJoined
import GoSem.ClaimMapViews
import Derived.JoinedTies
import Derived.KernelRfl
namespace Go.Proofs.YtghnfiegihfdnaaDoor
/- THE CELL 'sum', in the pinned program and in every row, IS THE sha256 OF THE DUMP (.gsa) THAT YtghnfiegihfdnaaDoorProg.lean LOADS. Nothing in Lean hashes anything: it is a label: what it is worth is what the hold of that sum in a sandbox is worth. -/
noncomputable def Tryd.pinned : Pinned := { name := "ytghnfiegihfdnaadoor", sum := "ae46887558e2202b06d0281d580d92e1554d8b69ed95e32c4a4ae7a0c398a268", checked := Tryd.checked }
namespace Rows
def none {H : Type} : Left H := { results := [], args := [] }

/- WHAT THE LISTED PACKAGE-LEVEL VARIABLES READ AS WHEN THE CALL BEGINS. Each datum BY PROGRAM (the guide's laid-datum.mjs) off the statement by which the dump's own 'gosem.cut.vars' lays the variable. In a bare row this is a premise. The card (YtghnfiegihfdnaaDoorCards.lean) ties it to the program's text. -/
def laid_honeycomb_honeycomblaw14_on {H : Type} : DataW H := .agg [.lit (.int .i64 (-1)), .lit (.int .u64 0)]

/-- 'honeycomblaw14.LimboTells': WHATEVER THE INPUT: true; the input reads as it did. -/
def limboTellsSpec : ChangeSpec := { name := "limboTells", fn := fun _ => fun
  | [d1, d2, d3] => { results := [.lit (.bool true)], args := [d1, d2, d3] }
  | _ => none }
def limboTellsRow : OpenClaim := { program := "ytghnfiegihfdnaadoor", sum := "ae46887558e2202b06d0281d580d92e1554d8b69ed95e32c4a4ae7a0c398a268", func := "honeycomb/honeycomblaw14.LimboTells", spec := "limboTells", unfollowed := true, recurses := true, named := ["honeycomb/honeycomblaw14.on"], apart := false, laid := [("honeycomb/honeycomblaw14.on", laid_honeycomb_honeycomblaw14_on)] }
def LimboTellsSaid : Prop := limboTellsRow.holds Tryd.pinned (OpenSpec.ofChange limboTellsSpec)

/-- ITS FALSE NEIGHBOUR: 'it returns false'. Refute it at one input. -/
def limboTellsWrong : ChangeSpec := { name := "limboTells", fn := fun _ => fun
  | [d1, d2, d3] => { results := [.lit (.bool false)], args := [d1, d2, d3] }
  | _ => none }
def LimboTellsWrongFalsely : Prop := limboTellsRow.holds Tryd.pinned (OpenSpec.ofChange limboTellsWrong)

/-- 'honeycomblaw14.LimboSteps': WHATEVER THE INPUT: true; the input reads as it did. -/
def limboStepsSpec : ChangeSpec := { name := "limboSteps", fn := fun _ => fun
  | [d1, d2] => { results := [.lit (.bool true)], args := [d1, d2] }
  | _ => none }
def limboStepsRow : OpenClaim := { program := "ytghnfiegihfdnaadoor", sum := "ae46887558e2202b06d0281d580d92e1554d8b69ed95e32c4a4ae7a0c398a268", func := "honeycomb/honeycomblaw14.LimboSteps", spec := "limboSteps", unfollowed := true, recurses := true, named := ["honeycomb/honeycomblaw14.on"], apart := false, laid := [("honeycomb/honeycomblaw14.on", laid_honeycomb_honeycomblaw14_on)] }
def LimboStepsSaid : Prop := limboStepsRow.holds Tryd.pinned (OpenSpec.ofChange limboStepsSpec)

/-- ITS FALSE NEIGHBOUR: 'it returns false'. Refute it at one input. -/
def limboStepsWrong : ChangeSpec := { name := "limboSteps", fn := fun _ => fun
  | [d1, d2] => { results := [.lit (.bool false)], args := [d1, d2] }
  | _ => none }
def LimboStepsWrongFalsely : Prop := limboStepsRow.holds Tryd.pinned (OpenSpec.ofChange limboStepsWrong)

/-- 'honeycomblaw14.LimboWaits': WHATEVER THE INPUT: true; the input reads as it did. -/
def limboWaitsSpec : ChangeSpec := { name := "limboWaits", fn := fun _ => fun
  | [d1, d2] => { results := [.lit (.bool true)], args := [d1, d2] }
  | _ => none }
def limboWaitsRow : OpenClaim := { program := "ytghnfiegihfdnaadoor", sum := "ae46887558e2202b06d0281d580d92e1554d8b69ed95e32c4a4ae7a0c398a268", func := "honeycomb/honeycomblaw14.LimboWaits", spec := "limboWaits", unfollowed := true, recurses := true, named := ["honeycomb/honeycomblaw14.on"], apart := false, laid := [("honeycomb/honeycomblaw14.on", laid_honeycomb_honeycomblaw14_on)] }
def LimboWaitsSaid : Prop := limboWaitsRow.holds Tryd.pinned (OpenSpec.ofChange limboWaitsSpec)

/-- ITS FALSE NEIGHBOUR: 'it returns false'. Refute it at one input. -/
def limboWaitsWrong : ChangeSpec := { name := "limboWaits", fn := fun _ => fun
  | [d1, d2] => { results := [.lit (.bool false)], args := [d1, d2] }
  | _ => none }
def LimboWaitsWrongFalsely : Prop := limboWaitsRow.holds Tryd.pinned (OpenSpec.ofChange limboWaitsWrong)

/-- 'honeycomblaw14.LimboEnds': WHATEVER THE INPUT: true; the input reads as it did. -/
def limboEndsSpec : ChangeSpec := { name := "limboEnds", fn := fun _ => fun
  | [d] => { results := [.lit (.bool true)], args := [d] }
  | _ => none }
def limboEndsRow : OpenClaim := { program := "ytghnfiegihfdnaadoor", sum := "ae46887558e2202b06d0281d580d92e1554d8b69ed95e32c4a4ae7a0c398a268", func := "honeycomb/honeycomblaw14.LimboEnds", spec := "limboEnds", unfollowed := true, recurses := true, named := ["honeycomb/honeycomblaw14.on"], apart := false, laid := [("honeycomb/honeycomblaw14.on", laid_honeycomb_honeycomblaw14_on)] }
def LimboEndsSaid : Prop := limboEndsRow.holds Tryd.pinned (OpenSpec.ofChange limboEndsSpec)

/-- ITS FALSE NEIGHBOUR: 'it returns false'. Refute it at one input. -/
def limboEndsWrong : ChangeSpec := { name := "limboEnds", fn := fun _ => fun
  | [d] => { results := [.lit (.bool false)], args := [d] }
  | _ => none }
def LimboEndsWrongFalsely : Prop := limboEndsRow.holds Tryd.pinned (OpenSpec.ofChange limboEndsWrong)

/- THE SECOND FORM. 'bulk': how many values and letters a reading holds, each counted each time it is reached (what is shared counts as often as it is met; a slice's spare places count too). A statement '..UptoSaid' is the law's where the arguments, and the package variables that the reading takes, are together of bulk at most 1048576: NARROWER than '..Said'. Prove '..Said' where nothing that the law and all that it calls make is longer than what came in: it says more and counts as full. Else prove '..UptoSaid'. A law counts once. -/
mutual
def uptoBulk {H : Type} : DataW H → Nat
  | .lit (.string bytes) => bytes.length + 1
  | .lit _ => 1
  | .nil => 1
  | .ptr d => uptoBulk d + 1
  | .slice elems spare => uptoBulkAll elems + uptoBulkAll spare + 1
  | .agg parts => uptoBulkAll parts + 1
  | .iface _ d => uptoBulk d + 1
  | .map entries => uptoBulkEntries entries + 1
  | .held _ => 1
def uptoBulkAll {H : Type} : List (DataW H) → Nat
  | [] => 0
  | d :: r => uptoBulk d + uptoBulkAll r
def uptoBulkEntries {H : Type} : List (Lit × DataW H) → Nat
  | [] => 0
  | x :: r => uptoBulkEntry x + uptoBulkEntries r
def uptoBulkEntry {H : Type} : Lit × DataW H → Nat
  | (.string bytes, d) => bytes.length + uptoBulk d + 1
  | (_, d) => uptoBulk d + 1
 end
def uptoSmall : (H : Type) → List (DataW H) → Bool := fun _ ds => decide (uptoBulkAll ds ≤ 1048576)
def OpenSpec.upto (s : _root_.Go.ChangeSpec) : _root_.Go.OpenSpec := { _root_.Go.OpenSpec.ofChange s with cond := some uptoSmall }

/-- 'honeycomblaw14.LimboTells', WHERE WHAT IT READS IS OF BULK AT MOST 1048576: true; the input reads as it did. -/
def limboTellsUptoRow : OpenClaim := { program := "ytghnfiegihfdnaadoor", sum := "ae46887558e2202b06d0281d580d92e1554d8b69ed95e32c4a4ae7a0c398a268", func := "honeycomb/honeycomblaw14.LimboTells", spec := "limboTells", unfollowed := true, recurses := true, named := ["honeycomb/honeycomblaw14.on"], apart := false, laid := [("honeycomb/honeycomblaw14.on", laid_honeycomb_honeycomblaw14_on)], narrowed := true }
def LimboTellsUptoSaid : Prop := limboTellsUptoRow.holds Tryd.pinned (OpenSpec.upto limboTellsSpec)

/-- 'honeycomblaw14.LimboSteps', WHERE WHAT IT READS IS OF BULK AT MOST 1048576: true; the input reads as it did. -/
def limboStepsUptoRow : OpenClaim := { program := "ytghnfiegihfdnaadoor", sum := "ae46887558e2202b06d0281d580d92e1554d8b69ed95e32c4a4ae7a0c398a268", func := "honeycomb/honeycomblaw14.LimboSteps", spec := "limboSteps", unfollowed := true, recurses := true, named := ["honeycomb/honeycomblaw14.on"], apart := false, laid := [("honeycomb/honeycomblaw14.on", laid_honeycomb_honeycomblaw14_on)], narrowed := true }
def LimboStepsUptoSaid : Prop := limboStepsUptoRow.holds Tryd.pinned (OpenSpec.upto limboStepsSpec)

/-- 'honeycomblaw14.LimboWaits', WHERE WHAT IT READS IS OF BULK AT MOST 1048576: true; the input reads as it did. -/
def limboWaitsUptoRow : OpenClaim := { program := "ytghnfiegihfdnaadoor", sum := "ae46887558e2202b06d0281d580d92e1554d8b69ed95e32c4a4ae7a0c398a268", func := "honeycomb/honeycomblaw14.LimboWaits", spec := "limboWaits", unfollowed := true, recurses := true, named := ["honeycomb/honeycomblaw14.on"], apart := false, laid := [("honeycomb/honeycomblaw14.on", laid_honeycomb_honeycomblaw14_on)], narrowed := true }
def LimboWaitsUptoSaid : Prop := limboWaitsUptoRow.holds Tryd.pinned (OpenSpec.upto limboWaitsSpec)

/-- 'honeycomblaw14.LimboEnds', WHERE WHAT IT READS IS OF BULK AT MOST 1048576: true; the input reads as it did. -/
def limboEndsUptoRow : OpenClaim := { program := "ytghnfiegihfdnaadoor", sum := "ae46887558e2202b06d0281d580d92e1554d8b69ed95e32c4a4ae7a0c398a268", func := "honeycomb/honeycomblaw14.LimboEnds", spec := "limboEnds", unfollowed := true, recurses := true, named := ["honeycomb/honeycomblaw14.on"], apart := false, laid := [("honeycomb/honeycomblaw14.on", laid_honeycomb_honeycomblaw14_on)], narrowed := true }
def LimboEndsUptoSaid : Prop := limboEndsUptoRow.holds Tryd.pinned (OpenSpec.upto limboEndsSpec)

end Rows
end Go.Proofs.YtghnfiegihfdnaaDoor
