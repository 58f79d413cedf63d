/- Arena: what takes, and what is tried. -/
import Derived.Test.YtmcancccihffhaaAm
import Derived.Defers
import Derived.Recover
import Derived.Laws.CopyRow
namespace Go.Proofs
set_option maxRecDepth 100000
open Go.RowKit Go.Shelf
attribute [local go_sem] Oper.semAt_some

theorem Try.take_any (many : Int) (D n₀ : Nat) (a : Option Addr) (n c : Nat) (l : List Pr) (hl : l.length ≤ 10000) (w : World) (hD : Dr D n₀ l (.slice a n c) (.slice none 0 0) w) (hn₀ : n₀ ≤ w.heap.size) (hDn : n₀ ≤ D) :
    Calls Try.prog 20 #[.pointer (some ⟨D, 0, none⟩), .int .i64 many] w (TakeQ D n₀ (.slice a n c) w (takeR l many)) := by
  by_cases hm : many < 0
  · have hr : Hid (takeR l many = (2, l, [])) := Lib.hid (by unfold takeR; rw [if_pos hm])
    generalize takeR l many = R at *
    have hB0 : Below w.heap.size w (w.alloc (.cells #[.pointer (some ⟨D, 0, none⟩)] 61)) := Rows8.newB
    have HB0 := Lib.hid hB0
    have HD := Lib.hid hD
    clear hB0 hD
    refine (callsIn_wide (n := 9)).1 ?_
    refine callsIn_of_wp_marks Try.func20 rfl trivial ?_ rfl
    simp only [Try.ntmps20, List.size_toArray, List.length_cons, List.length_nil, Nat.reduceAdd, Nat.reduceSub, Array.replicate_succ, Array.replicate_zero, List.push_toArray, List.append_toArray, List.nil_append, List.cons_append]
    gi_wp2_with fail
    refine wpIn_scope_straight rfl ?_
    gi_wp2_with fail
    exact Or.inr ⟨by rw [hr.out]; simp, by rw [hr.out]; rfl, HB0.out.mono hn₀, .of_below HB0.out, _, _, (HD.out.below HB0.out).d⟩
  · obtain ⟨M, rfl⟩ : ∃ M : Nat, many = M := ⟨many.toNat, by omega⟩
    have h := Try.take_pos M D n₀ a n c l hl w hD hn₀ hDn
    have hr : takeR l (M : Nat) = if M ≤ cnt l 0 then ((0 : Int), takeL l M, (ents l 0).take M) else (6, l, []) := by unfold takeR; rw [if_neg hm, Int.toNat_natCast]
    rw [hr]
    exact h
set_option maxHeartbeats 2000000 in
theorem Try.Take1_any (many : Int) (B1 D n₀ : Nat) (a : Option Addr) (n c : Nat) (l : List Pr) (hl : l.length ≤ 10000) (w : World) (h1 : Rows8 w B1 3 #[.int .i64 many]) (hD : Dr D n₀ l (.slice a n c) (.slice none 0 0) w) (hn₀ : n₀ ≤ w.heap.size) (hDn : n₀ ≤ D) :
    Calls Try.prog 19 #[.pointer (some ⟨D, 0, none⟩), .pointer (some ⟨B1, 0, none⟩)] w (TakeQ D n₀ (.slice a n c) w (takeR l many)) := by
  have HC := Lib.hid (Try.take_any many D n₀ a n c l hl w hD hn₀ hDn)
  have c1 : w.cell? ⟨B1, 0, none⟩ = some (.int .i64 many) := h1.cell 0
  have hl1 := h1.lt
  generalize takeR l many = R at *
  clear hD h1
  go_enter Try.func19, Try.ntmps19
  go_wp2_with fail
  refine HC.out.mono ?_
  rintro e w3 (⟨hE, rfl, h3⟩ | ⟨hE, rfl, h3⟩)
  · have H3 := Lib.hid (And.intro hE h3)
    clear hE h3
    go_wp2_with fail
    go_end0
    exact Or.inl ⟨H3.out.1, rfl, H3.out.2⟩
  · have H3 := Lib.hid (And.intro hE h3)
    clear hE h3
    unfold panicA
    go_wp2_with fail
    exact ⟨rfl, Or.inr ⟨H3.out.1, rfl, H3.out.2⟩⟩

theorem Try.neq_nil (n : Int) (W : World) : (binOp BinOp.neq 20 (.iface 28 (.int .i64 n)) .nilIface).run Try.prog W = .ok (.bool true) W := by kernel_rfl
theorem Try.assert_yes (v : Value) (W : World) : (Instr.typeAssert (.iface 28 v) 20 28 true).run Try.prog W = .ok (.tuple #[v, .bool true]) W := by kernel_rfl
theorem Try.nil_nil (W : World) : (binOp BinOp.neq 20 .nilIface .nilIface).run Try.prog W = .ok (.bool false) W := by kernel_rfl
set_option maxHeartbeats 1000000 in
theorem Try.catch_panicking (H E : Nat) (u0 u1 : Value) (n z : Int) (older : List PanicEntry) (w : World) (hH : Rows8 w H 58 #[u0, u1]) (hE : Rows8 w E 28 #[.int .i64 z]) :
    CallsD Try.prog 32 #[.pointer (some ⟨H, 0, none⟩), .pointer (some ⟨E, 0, none⟩)] (.panicking ({ v := .iface 28 (.int .i64 n), recovered := false } :: older)) w fun e u' w' =>
      e = .returned (.tuple #[]) ∧ u' = .panicking ({ v := .iface 28 (.int .i64 n), recovered := true } :: older) ∧ w' = ((w.setCell ⟨H, 0, none⟩ (.slice none 0 0)).setCell ⟨H, 1, none⟩ (.slice none 0 0)).setCell ⟨E, 0, none⟩ (.int .i64 n) := by
  have c0 : w.cell? ⟨H, 0, none⟩ = some u0 := hH.cell 0
  have c1 : w.cell? ⟨H, 1, none⟩ = some u1 := hH.cell 1
  have c2 : w.cell? ⟨E, 0, none⟩ = some (.int .i64 z) := hE.cell 0
  have f0 := hH.frozen 0
  have f1 := hH.frozen 1
  have f2 := hE.frozen 0
  refine callsD_of_wpS Try.func32 rfl fun c₀ cs hu => ?_
  apply wpS_seq
  apply wpS_region
  simp [wpOpsS, go_sem, recoverD, hu, Try.ntmps32, Exit.thenS]
  have hne := Try.neq_nil n
  have hta := Try.assert_yes (.int .i64 n)
  have hHE := rows_apart hH hE (by decide)
  apply wpS_seq
  apply wpS_region
  simp [wpOpsS, go_sem, Exit.thenS, hne]
  refine wpS_cond (t := true) (by simp [Act.eval, Array.replicate]) ?_
  simp only [if_true]
  apply wpS_seq
  apply wpS_region
  simp [wpOpsS, go_sem, Exit.thenS, hta]
  apply wpS_seq
  apply wpS_seq
  apply wpS_region
  simp [wpOpsS, go_sem, Exit.thenS]
  refine wpS_cond (t := false) (by simp [Act.eval, Array.replicate]) ?_
  simp only [Bool.false_eq_true, if_false]
  refine wpS_of_wp (wp_skip ?_)
  simp only [Exit.thenS]
  apply wpS_region
  simp [wpOpsS, go_sem, c0, c1, c2, f0, f1, f2, bodyPostS, results, Try.results32]
theorem Try.catch_idle (p q : Addr) (w : World) :
    CallsD Try.prog 32 #[.pointer (some p), .pointer (some q)] .returning w fun e u' w' => e = .returned (.tuple #[]) ∧ u' = .returning ∧ w' = w := by
  have hne := Try.nil_nil
  refine callsD_of_wpS Try.func32 rfl fun c₀ cs hu => ?_
  apply wpS_seq
  apply wpS_region
  simp [wpOpsS, go_sem, recoverD, hu, Try.ntmps32, Exit.thenS]
  apply wpS_seq
  apply wpS_region
  simp [wpOpsS, go_sem, Exit.thenS, hne]
  refine wpS_cond (t := false) (by simp [Act.eval, Array.replicate]) ?_
  simp only [Bool.false_eq_true, if_false]
  refine wpS_of_wp (wp_skip ?_)
  cases c₀
  simp_all [bodyPostS, results, Try.results32]
end Go.Proofs
