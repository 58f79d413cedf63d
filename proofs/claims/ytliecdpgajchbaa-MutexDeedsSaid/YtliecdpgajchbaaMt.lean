/- tried; Ask, Leave, Play. -/
import Derived.Test.YtliecdpgajchbaaMs
import Derived.Defers
import Derived.Recover
namespace Go.Proofs
open Go.RowKit Go.Shelf
attribute [local go_sem] Oper.semAt_some

theorem Try.neq_nil (n : Int) (W : World) : (binOp BinOp.neq 20 (.iface 27 (.int .i64 n)) .nilIface).run Try.prog W = .ok (.bool true) W := by kernel_rfl
theorem Try.assert_yes (v : Value) (W : World) : (Instr.typeAssert (.iface 27 v) 20 27 true).run Try.prog W = .ok (.tuple #[v, .bool true]) W := by kernel_rfl
set_option maxHeartbeats 1000000 in
theorem Try.catch_panicking (H E : Nat) (u0 u1 : Value) (n z : Int) (older : List PanicEntry) (w : World) (hH : Rows8 w H 67 #[u0, u1]) (hE : Rows8 w E 27 #[.int .i64 z]) :
    CallsD Try.prog 57 #[.pointer (some ⟨H, 0, none⟩), .pointer (some ⟨E, 0, none⟩)] (.panicking ({ v := .iface 27 (.int .i64 n), recovered := false } :: older)) w fun e u' w' =>
      e = .returned (.tuple #[]) ∧ u' = .panicking ({ v := .iface 27 (.int .i64 n), recovered := true } :: older) ∧ w' = ((w.setCell ⟨H, 0, none⟩ (.slice none 0 0)).setCell ⟨H, 1, none⟩ (.int .i64 0)).setCell ⟨E, 0, none⟩ (.int .i64 n) := by
  have c0 : w.cell? ⟨H, 0, none⟩ = some u0 := hH.cell 0
  have c1 : w.cell? ⟨H, 1, none⟩ = some u1 := hH.cell 1
  have c2 : w.cell? ⟨E, 0, none⟩ = some (.int .i64 z) := hE.cell 0
  have f0 := hH.frozen 0
  have f1 := hH.frozen 1
  have f2 := hE.frozen 0
  refine callsD_of_wpS Try.func57 rfl fun c₀ cs hu => ?_
  apply wpS_seq
  apply wpS_region
  simp [wpOpsS, go_sem, recoverD, hu, Try.ntmps57, Exit.thenS]
  have hne := Try.neq_nil n
  have hta := Try.assert_yes (.int .i64 n)
  have hHE := rows_ne hH hE (by decide)
  apply wpS_seq
  apply wpS_region
  simp [wpOpsS, go_sem, Exit.thenS, hne]
  refine wpS_cond (t := true) (by simp [Act.eval, Array.replicate]) ?_
  simp only [if_true]
  apply wpS_seq
  apply wpS_region
  simp [wpOpsS, go_sem, Exit.thenS, hta]
  apply wpS_seq
  apply wpS_seq
  apply wpS_region
  simp [wpOpsS, go_sem, Exit.thenS]
  refine wpS_cond (t := false) (by simp [Act.eval, Array.replicate]) ?_
  simp only [Bool.false_eq_true, if_false]
  refine wpS_of_wp (wp_skip ?_)
  simp only [Exit.thenS]
  apply wpS_region
  simp [wpOpsS, go_sem, c0, c1, c2, f0, f1, f2, bodyPostS, results, Try.results57]
theorem Try.nil_nil (W : World) : (binOp BinOp.neq 20 .nilIface .nilIface).run Try.prog W = .ok (.bool false) W := by kernel_rfl
theorem Try.catch_idle (p q : Addr) (w : World) :
    CallsD Try.prog 57 #[.pointer (some p), .pointer (some q)] .returning w fun e u' w' => e = .returned (.tuple #[]) ∧ u' = .returning ∧ w' = w := by
  have hne := Try.nil_nil
  refine callsD_of_wpS Try.func57 rfl fun c₀ cs hu => ?_
  apply wpS_seq
  apply wpS_region
  simp [wpOpsS, go_sem, recoverD, hu, Try.ntmps57, Exit.thenS]
  apply wpS_seq
  apply wpS_region
  simp [wpOpsS, go_sem, Exit.thenS, hne]
  refine wpS_cond (t := false) (by simp [Act.eval, Array.replicate]) ?_
  simp only [Bool.false_eq_true, if_false]
  refine wpS_of_wp (wp_skip ?_)
  cases c₀
  simp_all [bodyPostS, results, Try.results57]

def TriedQ (n : Nat) (w : World) (P : Int × List Mx × Nat) (e : Ending) (w' : World) : Prop := Below w.heap.size w w' ∧
  ((P.1 ≠ 0 ∧ e = .returned (.tuple #[.agg #[.slice none 0 0, .int .i64 0], .int .i64 P.1])) ∨
   (P.1 = 0 ∧ ∃ r, e = .returned (.tuple #[.agg #[.slice (some ⟨r, 0, none⟩) n n, .int .i64 (P.2.2 : Nat)], .int .i64 0]) ∧ OwnsM w.heap.size P.2.1 (.slice (some ⟨r, 0, none⟩) n n) w'))
theorem load_row {P : Program} {W : World} {B : Nat} {t : TypeId} {cs : Array Value} (h : Rows8 W B t cs) {d : TypeDesc} (hu : P.underlying t = some d) (hd : (match d with | .struct _ | .array _ _ => true | _ => false) = true) (hi : (P.info? t).map (·.size) = some cs.size) :
    (loadVar t ⟨B, 0, none⟩).run P W = .ok (.agg cs) W := run_loadVar_row W B t t cs (0, 0) d h hu hd hi
set_option maxRecDepth 100000 in
set_option maxHeartbeats 2000000 in
/-- .. of mutexes that may not be. -/
theorem Try.tried_no (a : Option Addr) (n cap : Nat) (ms : List Mx) (hr : rightB ms = false) (f : FuncId) (fc : Array Value) (w : World) (hI : MxAt w (.slice a n cap) ms) :
    Calls Try.prog 41 #[.slice a n cap, .func (.func f) #[] fc] w (TriedQ n w (150, [], 0)) := by
  have hB0 : Below w.heap.size w ((w.alloc (.cells #[.slice none 0 0, .int .i64 0] 67)).alloc (.cells #[.int .i64 0] 27)) := (Rows8.newB).alloc (by simp) _
  have hC := Try.Check_any a n cap ms _ (hI.below hB0)
  have he : errB ms = 150 := by unfold errB; rw [hr]; rfl
  rw [he] at hC
  have h0 := (Rows8.new w 67 #[.slice none 0 0, .int .i64 0]).alloc (.cells #[.int .i64 0] 27)
  have h1 := Rows8.new (w.alloc (.cells #[.slice none 0 0, .int .i64 0] 67)) 27 #[.int .i64 0]
  rw [World.size_alloc] at h1
  have hmf : ∀ (fn : Fn) (first cap : Array Value) (w : World), (Instr.makeFunc fn first cap).run Try.prog w = .ok (.func fn first cap) w := fun _ _ _ _ => rfl
  have HC := Lib.hid hC
  have HB0 := Lib.hid hB0
  have H0 := Lib.hid h0
  have H1 := Lib.hid h1
  have hz0 : ((w.alloc (.cells #[.slice none 0 0, .int .i64 0] 67)).alloc (.cells #[.int .i64 0] 27)).heap.size = w.heap.size + 2 := by simp
  clear hC hB0 h0 h1 he hI
  go_enter_defers Try.func41, Try.ntmps41
  go_wp2_with fail
  refine HC.out.mono ?_
  rintro e w1 ⟨rfl, hB1⟩
  have g0 := H0.out.below hB1 H0.out.lt
  have g1 := H1.out.below hB1 H1.out.lt
  have c0 : w1.cell? ⟨w.heap.size, 0, none⟩ = some (.slice none 0 0) := g0.cell 0
  have c1 : w1.cell? ⟨w.heap.size, 1, none⟩ = some (.int .i64 0) := g0.cell 1
  have c2 : w1.cell? ⟨w.heap.size + 1, 0, none⟩ = some (.int .i64 0) := g1.cell 0
  have f0 := g0.frozen 0
  have f1 := g0.frozen 1
  have f2 := g1.frozen 0
  have s0 := ((g0.set 0 (.slice none 0 0)).set 1 (.int .i64 0)).setOther (a := ⟨w.heap.size + 1, 0, none⟩) (by simp) (.int .i64 150)
  have s1 := ((g1.setOther (a := ⟨w.heap.size, 0, none⟩) (by simp) (.slice none 0 0)).setOther (a := ⟨w.heap.size, 1, none⟩) (by simp) (.int .i64 0)).set 0 (.int .i64 150)
  simp only [List.setIfInBounds_toArray, List.set_cons_zero, List.set_cons_succ] at s0 s1
  have hB2 := (((HB0.out.trans (hB1.mono HB0.out.size)).setCell (p := ⟨w.heap.size, 0, none⟩) (Nat.le_refl _) (.slice none 0 0)).setCell (p := ⟨w.heap.size, 1, none⟩) (Nat.le_refl _) (.int .i64 0)).setCell (p := ⟨w.heap.size + 1, 0, none⟩) (by simp) (.int .i64 150)
  have S0 := Lib.hid s0
  have S1 := Lib.hid s1
  have HB2 := Lib.hid hB2
  clear hB1 g0 g1 s0 s1 hB2
  go_wp2_with fail
  refine ⟨_, results_cc rfl _ _ w.heap.size (w.heap.size + 1) _ _ rfl rfl (load_row S0.out Try.underlying67 rfl (by kernel_rfl)) (load_one S1.out (by kernel_rfl)), ?_⟩
  exact ⟨HB2.out, .inl ⟨by decide, rfl⟩⟩

set_option maxRecDepth 100000 in
set_option maxHeartbeats 2000000 in
theorem Try.tried_yes (a : Option Addr) (n cap : Nat) (ms : List Mx) (hr : rightB ms = true) (f : FuncId) (fc : Array Value) (P : Int × List Mx × Nat) (w : World) (hI : MxAt w (.slice a n cap) ms)
    (eg : ∀ args w, (callFunc f args).run Try.prog w = .ok (.enter f args) w)
    (hwork : ∀ (H r : Nat) (W : World), Below w.heap.size w W → w.heap.size ≤ H → Rows8 W H 67 #[.slice (some ⟨r, 0, none⟩) n n, .int .i64 0] → OwnsM w.heap.size ms (.slice (some ⟨r, 0, none⟩) n n) W →
      Calls Try.prog f (#[.pointer (some ⟨H, 0, none⟩)] ++ fc) W (PlayQ H r n w.heap.size W P)) :
    Calls Try.prog 41 #[.slice a n cap, .func (.func f) #[] fc] w (TriedQ n w P) := by
  have hB0 : Below w.heap.size w ((w.alloc (.cells #[.slice none 0 0, .int .i64 0] 67)).alloc (.cells #[.int .i64 0] 27)) := (Rows8.newB).alloc (by simp) _
  have hC := Try.Check_any a n cap ms _ (hI.below hB0)
  have he : errB ms = 0 := by unfold errB; rw [hr]; rfl
  rw [he] at hC
  have hn := (mxAt_len hI).1
  have hl := ((rightB_iff ms).1 hr).1
  have hcp := fun W (hB : Below w.heap.size w W) => Try.copied_any a n cap ms (by omega) (by omega) (by have := right_len hr; omega) W (hI.below hB)
  have h0 := (Rows8.new w 67 #[.slice none 0 0, .int .i64 0]).alloc (.cells #[.int .i64 0] 27)
  have h1 := Rows8.new (w.alloc (.cells #[.slice none 0 0, .int .i64 0] 67)) 27 #[.int .i64 0]
  rw [World.size_alloc] at h1
  have hmf : ∀ (fn : Fn) (first cap : Array Value) (w : World), (Instr.makeFunc fn first cap).run Try.prog w = .ok (.func fn first cap) w := fun _ _ _ _ => rfl
  have HC := Lib.hid hC
  have HB0 := Lib.hid hB0
  have H0 := Lib.hid h0
  have H1 := Lib.hid h1
  have HCP := Lib.hid hcp
  have HW := Lib.hid hwork
  have hz0 : ((w.alloc (.cells #[.slice none 0 0, .int .i64 0] 67)).alloc (.cells #[.int .i64 0] 27)).heap.size = w.heap.size + 2 := by simp
  clear hC hB0 h0 h1 he hI hcp hwork hn hl hr
  go_enter_defers Try.func41, Try.ntmps41
  go_wp2_with fail
  refine HC.out.mono ?_
  rintro e w1 ⟨rfl, hB1⟩
  have g0 := H0.out.below hB1 H0.out.lt
  have g1 := H1.out.below hB1 H1.out.lt
  have HB1 := Lib.hid (HB0.out.trans (hB1.mono HB0.out.size))
  have G0 := Lib.hid g0
  have G1 := Lib.hid g1
  have hz1 : w.heap.size + 2 ≤ w1.heap.size := by have := hB1.size; omega
  clear hB1 g0 g1 HB0 H0 H1 hz0
  go_wp2_with fail
  refine (HCP.out w1 HB1.out).mono ?_
  rintro e w2 ⟨r, rfl, hO2, hB2⟩
  have g0 := G0.out.below hB2 (by omega)
  have g1 := G1.out.below hB2 (by omega)
  have c0 : w2.cell? ⟨w.heap.size, 0, none⟩ = some (.slice none 0 0) := g0.cell 0
  have f0 := g0.frozen 0
  have s0 := g0.set 0 (.slice (some ⟨r, 0, none⟩) n n)
  have s1 := g1.setOther (a := ⟨w.heap.size, 0, none⟩) (by simp) (.slice (some ⟨r, 0, none⟩) n n)
  simp only [List.setIfInBounds_toArray, List.set_cons_zero, List.set_cons_succ] at s0
  have hO3 := (hO2.mono (show w.heap.size ≤ w1.heap.size by omega)).setCell g0 (by decide) (by decide) 0 (.slice (some ⟨r, 0, none⟩) n n)
  have hB3 := (HB1.out.trans (hB2.mono HB1.out.size)).setCell (p := ⟨w.heap.size, 0, none⟩) (Nat.le_refl _) (.slice (some ⟨r, 0, none⟩) n n)
  have HWK := Lib.hid (HW.out w.heap.size r _ hB3 (Nat.le_refl _) s0 hO3)
  have S1 := Lib.hid s1
  have HB3 := Lib.hid hB3
  clear g0 g1 s0 s1 hO3 hB3 hO2 hB2 G0 G1 HB1 HW
  go_wp2_with fail
  refine HWK.out.mono ?_
  intro e w3 hp
  rcases hp with ⟨hp, rfl, h3, ho3, hb3, hs3⟩ | ⟨hp, rfl, hb3, hs3, u, h3⟩
  · have e3 := hs3 _ _ _ S1.out (by decide) (by decide) (by decide)
    have HP := Lib.hid hp
    obtain ⟨pp, hpp⟩ : ∃ pp, pp = P.2.2 := ⟨_, rfl⟩
    rw [← hpp] at h3
    have HPP := Lib.hid hpp
    clear hpp
    have c0 : w3.cell? ⟨w.heap.size, 0, none⟩ = some (.slice (some ⟨r, 0, none⟩) n n) := h3.cell 0
    have c1 : w3.cell? ⟨w.heap.size, 1, none⟩ = some (.int .i64 (pp : Nat)) := h3.cell 1
    have c2 : w3.cell? ⟨w.heap.size + 1, 0, none⟩ = some (.int .i64 0) := e3.cell 0
    have f0 := h3.frozen 0
    have f1 := h3.frozen 1
    have f2 := e3.frozen 0
    have s0 := ((h3.set 0 (.slice (some ⟨r, 0, none⟩) n n)).set 1 (.int .i64 (pp : Nat))).setOther (a := ⟨w.heap.size + 1, 0, none⟩) (by simp) (.int .i64 0)
    have s1 := ((e3.setOther (a := ⟨w.heap.size, 0, none⟩) (by simp) (.slice (some ⟨r, 0, none⟩) n n)).setOther (a := ⟨w.heap.size, 1, none⟩) (by simp) (.int .i64 (pp : Nat))).set 0 (.int .i64 0)
    have o4 := ((ho3.setCell h3 (by decide) (by decide) 0 (.slice (some ⟨r, 0, none⟩) n n)).setCell (h3.set 0 (.slice (some ⟨r, 0, none⟩) n n)) (by decide) (by decide) 1 (.int .i64 (pp : Nat))).setCell ((e3.setOther (a := ⟨w.heap.size, 0, none⟩) (by simp) (.slice (some ⟨r, 0, none⟩) n n)).setOther (a := ⟨w.heap.size, 1, none⟩) (by simp) (.int .i64 (pp : Nat))) (by decide) (by decide) 0 (.int .i64 0)
    simp only [List.setIfInBounds_toArray, List.set_cons_zero, List.set_cons_succ] at s0 s1
    have hB4 := (((HB3.out.trans hb3).setCell (p := ⟨w.heap.size, 0, none⟩) (Nat.le_refl _) (.slice (some ⟨r, 0, none⟩) n n)).setCell (p := ⟨w.heap.size, 1, none⟩) (Nat.le_refl _) (.int .i64 (pp : Nat))).setCell (p := ⟨w.heap.size + 1, 0, none⟩) (by simp) (.int .i64 0)
    have S0 := Lib.hid s0
    have S2 := Lib.hid s1
    have O4 := Lib.hid o4
    have HB4 := Lib.hid hB4
    clear hp h3 ho3 hb3 hs3 e3 s0 s1 o4 hB4 HWK HCP HC
    go_wp2_with fail
    refine leaves_cons (f := 57) (args := #[.pointer (some ⟨w.heap.size, 0, none⟩), .pointer (some ⟨w.heap.size + 1, 0, none⟩)]) (by simp) (by simp [go_sem]) ?_
    refine (Try.catch_idle ⟨w.heap.size, 0, none⟩ ⟨w.heap.size + 1, 0, none⟩ _).mono ?_
    rintro e u' w'' ⟨rfl, rfl, rfl⟩
    refine ⟨_, results_cc rfl _ _ w.heap.size (w.heap.size + 1) _ _ rfl rfl (load_row S0.out Try.underlying67 rfl (by kernel_rfl)) (load_one S2.out (by kernel_rfl)), ?_⟩
    exact ⟨HB4.out, .inr ⟨HP.out, r, by rw [HPP.out], O4.out⟩⟩
  · have e3 := hs3 _ _ _ S1.out (by decide) (by decide) (by decide)
    have hcatch := Try.catch_panicking w.heap.size (w.heap.size + 1) _ _ P.1 _ [] w3 h3 e3
    have s0 := ((h3.set 0 (.slice none 0 0)).set 1 (.int .i64 0)).setOther (a := ⟨w.heap.size + 1, 0, none⟩) (by simp) (.int .i64 P.1)
    have s1 := ((e3.setOther (a := ⟨w.heap.size, 0, none⟩) (by simp) (.slice none 0 0)).setOther (a := ⟨w.heap.size, 1, none⟩) (by simp) (.int .i64 0)).set 0 (.int .i64 P.1)
    simp only [List.setIfInBounds_toArray, List.set_cons_zero, List.set_cons_succ] at s0 s1
    have hB4 := (((HB3.out.trans hb3).setCell (p := ⟨w.heap.size, 0, none⟩) (Nat.le_refl _) (.slice none 0 0)).setCell (p := ⟨w.heap.size, 1, none⟩) (Nat.le_refl _) (.int .i64 0)).setCell (p := ⟨w.heap.size + 1, 0, none⟩) (by simp) (.int .i64 P.1)
    have S0 := Lib.hid s0
    have S2 := Lib.hid s1
    have HP := Lib.hid hp
    have HB4 := Lib.hid hB4
    have HCT := Lib.hid hcatch
    clear hp h3 hb3 hs3 e3 s0 s1 hB4 HWK HCP HC hcatch
    unfold panic1
    go_wp2_with fail
    refine leaves_cons (f := 57) (args := #[.pointer (some ⟨w.heap.size, 0, none⟩), .pointer (some ⟨w.heap.size + 1, 0, none⟩)]) (by simp) (by simp [go_sem]) ?_
    refine HCT.out.mono ?_
    rintro e u' w'' ⟨rfl, rfl, rfl⟩
    refine ⟨_, results_cc rfl _ _ w.heap.size (w.heap.size + 1) _ _ rfl rfl (load_row S0.out Try.underlying67 rfl (by kernel_rfl)) (load_one S2.out (by kernel_rfl)), ?_⟩
    exact ⟨HB4.out, .inl ⟨HP.out, rfl⟩⟩
end Go.Proofs
