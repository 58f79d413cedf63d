/- Monitor: what is caught. -/
import Derived.Test.YtkghlcoancfnfaaBw
namespace Go.Proofs
open Go.RowKit Go.Shelf
attribute [local go_sem] Oper.semAt_some

set_option maxHeartbeats 2000000 in
theorem Try.mcatch_panicking (H E : Nat) (u0 u1 u2 u3 u4 : Value) (n z : Int) (older : List PanicEntry) (w : World) (hH : Rows8 w H 95 #[u0, u1, u2, u3, u4]) (hE : Rows8 w E 33 #[.int .i64 z]) :
    CallsD Try.prog 73 #[.pointer (some ⟨H, 0, none⟩), .pointer (some ⟨E, 0, none⟩)] (.panicking ({ v := .iface 33 (.int .i64 n), recovered := false } :: older)) w fun e u' w' =>
      e = .returned (.tuple #[]) ∧ u' = .panicking ({ v := .iface 33 (.int .i64 n), recovered := true } :: older) ∧ w' = ((((((w.setCell ⟨H, 0, none⟩ (.slice none 0 0)).setCell ⟨H, 1, none⟩ (.slice none 0 0)).setCell ⟨H, 2, none⟩ (.slice none 0 0)).setCell ⟨H, 3, none⟩ (.slice none 0 0)).setCell ⟨H, 4, none⟩ (.slice none 0 0)).setCell ⟨E, 0, none⟩ (.int .i64 n)) := by
  have c0 : w.cell? ⟨H, 0, none⟩ = some u0 := hH.cell 0
  have c1 : w.cell? ⟨H, 1, none⟩ = some u1 := hH.cell 1
  have c2 : w.cell? ⟨H, 2, none⟩ = some u2 := hH.cell 2
  have c3 : w.cell? ⟨H, 3, none⟩ = some u3 := hH.cell 3
  have c4 : w.cell? ⟨H, 4, none⟩ = some u4 := hH.cell 4
  have ce : w.cell? ⟨E, 0, none⟩ = some (.int .i64 z) := hE.cell 0
  have f0 := hH.frozen 0
  have f1 := hH.frozen 1
  have f2 := hH.frozen 2
  have f3 := hH.frozen 3
  have f4 := hH.frozen 4
  have fe := hE.frozen 0
  refine callsD_of_wpS Try.func73 rfl fun c₀ cs hu => ?_
  apply wpS_seq
  apply wpS_region
  simp [wpOpsS, go_sem, recoverD, hu, Try.ntmps73, Exit.thenS]
  have hne := Try.neq_nil n
  have hta := Try.assert_yes (.int .i64 n)
  have hHE := rows_apart hH hE (by decide)
  apply wpS_seq
  apply wpS_region
  simp [wpOpsS, go_sem, Exit.thenS, hne]
  refine wpS_cond (t := true) (by simp [Act.eval, Array.replicate]) ?_
  simp only [if_true]
  apply wpS_seq
  apply wpS_region
  simp [wpOpsS, go_sem, Exit.thenS, hta]
  apply wpS_seq
  apply wpS_seq
  apply wpS_region
  simp [wpOpsS, go_sem, Exit.thenS]
  refine wpS_cond (t := false) (by simp [Act.eval, Array.replicate]) ?_
  simp only [Bool.false_eq_true, if_false]
  refine wpS_of_wp (wp_skip ?_)
  simp only [Exit.thenS]
  apply wpS_region
  simp [wpOpsS, go_sem, c0, c1, c2, c3, c4, ce, f0, f1, f2, f3, f4, fe, bodyPostS, results, Try.results73]
theorem Try.mcatch_idle (p q : Addr) (w : World) :
    CallsD Try.prog 73 #[.pointer (some p), .pointer (some q)] .returning w fun e u' w' => e = .returned (.tuple #[]) ∧ u' = .returning ∧ w' = w := by
  have hne := Try.nil_nil
  refine callsD_of_wpS Try.func73 rfl fun c₀ cs hu => ?_
  apply wpS_seq
  apply wpS_region
  simp [wpOpsS, go_sem, recoverD, hu, Try.ntmps73, Exit.thenS]
  apply wpS_seq
  apply wpS_region
  simp [wpOpsS, go_sem, Exit.thenS, hne]
  refine wpS_cond (t := false) (by simp [Act.eval, Array.replicate]) ?_
  simp only [Bool.false_eq_true, if_false]
  refine wpS_of_wp (wp_skip ?_)
  cases c₀
  simp_all [bodyPostS, results, Try.results73]
end Go.Proofs
