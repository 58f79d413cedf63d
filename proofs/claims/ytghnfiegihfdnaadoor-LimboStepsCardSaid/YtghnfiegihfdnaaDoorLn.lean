/- Limbo: what is tried. -/
import Derived.Test.YtghnfiegihfdnaaDoorLm
namespace Go.Proofs
set_option maxRecDepth 100000
open Go.RowKit Go.Shelf
attribute [local go_sem] Oper.semAt_some

theorem leaves_tmps {P : Program} {fn : Func} {t1 t2 : Array Value} {R : Ending → World → Prop} (h : ∀ w, (results fn t1).run P w = (results fn t2).run P w) : ∀ (ds : List Deferred) (u : FrameMode) (w : World), Leaves P fn t1 R ds u w → Leaves P fn t2 R ds u w
  | [], .returning, w, hh => by
    obtain ⟨v, h1, h2⟩ := hh
    exact ⟨v, (h w).symm.trans h1, h2⟩
  | [], .panicking chain, w, hh => hh
  | [], .run, _, hh => hh
  | d :: ds, u, w, hh => by
    obtain ⟨h0, fv, cap, f, args, h1, h2, h3⟩ := hh
    refine ⟨h0, fv, cap, f, args, h1, h2, h3.mono fun e u' w' he => ?_⟩
    cases e with
    | returned v => exact leaves_tmps h ds _ _ he
    | panicked c => exact leaves_tmps h ds _ _ he
    | outgrown => exact he
/-- A panic doesn't look at what else was put. -/
theorem put_D {P : Program} {fn : Func} {R : Ending → World → Prop} {p : Tmp} {ty : TypeId} (hr : fn.results = #[.cell p ty]) (d : Option Tmp) (hd : d ≠ some p) (v : Value) (c : List PanicEntry) (a : Act) (w : World) (h : bodyPostD P fn R (.panic c) (a.put d v) w) : bodyPostD P fn R (.panic c) a w := by
  cases d with
  | none => exact h
  | some q =>
    have hne : q ≠ p := fun e => hd (by rw [e])
    refine leaves_tmps (t1 := (a.put (some q) v).tmps) (fun w => ?_) _ _ _ h
    have e : (a.tmps.setIfInBounds q v)[p]?.getD undef = a.tmps[p]?.getD undef := by rw [Array.getElem?_setIfInBounds_ne hne]
    simp [results, hr, Act.put, e]
set_option maxHeartbeats 2000000 in
theorem Tryd.catch_panicking (Q H T : Nat) (u0 u1 u2 u3 u4 : Value) (n z : Int) (older : List PanicEntry) (w : World) (hQ : Rows8 w Q 62 #[.pointer (some ⟨H, 0, none⟩)]) (hH : Rows8 w H 67 #[u0, u1, u2, u3, u4]) (hE : Rows8 w T 31 #[.int .i64 z]) :
    CallsD Tryd.prog 55 #[.pointer (some ⟨Q, 0, none⟩), .pointer (some ⟨T, 0, none⟩)] (.panicking ({ v := .iface 31 (.int .i64 n), recovered := false } :: older)) w fun e u' w' =>
      e = .returned (.tuple #[]) ∧ u' = .panicking ({ v := .iface 31 (.int .i64 n), recovered := true } :: older) ∧ w' = (((((w.setCell ⟨H, 0, none⟩ (.int .u64 0)).setCell ⟨H, 1, none⟩ (.slice none 0 0)).setCell ⟨H, 2, none⟩ (.slice none 0 0)).setCell ⟨H, 3, none⟩ (.slice none 0 0)).setCell ⟨H, 4, none⟩ (.slice none 0 0)).setCell ⟨T, 0, none⟩ (.int .i64 n) := by
  have cq : w.cell? ⟨Q, 0, none⟩ = some (.pointer (some ⟨H, 0, none⟩)) := hQ.cell 0
  have c0 : w.cell? ⟨H, 0, none⟩ = some u0 := hH.cell 0
  have c1 : w.cell? ⟨H, 1, none⟩ = some u1 := hH.cell 1
  have c2 : w.cell? ⟨H, 2, none⟩ = some u2 := hH.cell 2
  have c3 : w.cell? ⟨H, 3, none⟩ = some u3 := hH.cell 3
  have c4 : w.cell? ⟨H, 4, none⟩ = some u4 := hH.cell 4
  have ct : w.cell? ⟨T, 0, none⟩ = some (.int .i64 z) := hE.cell 0
  have f0 := hH.frozen 0
  have f1 := hH.frozen 1
  have f2 := hH.frozen 2
  have f3 := hH.frozen 3
  have f4 := hH.frozen 4
  have ft := hE.frozen 0
  refine callsD_of_wpS Tryd.func55 rfl fun c₀ cs hu => ?_
  apply wpS_seq
  apply wpS_region
  simp [wpOpsS, go_sem, recoverD, hu, Tryd.ntmps55, Exit.thenS]
  have hne := Tryd.neq_nil n
  have hta := Tryd.assert_yes (.int .i64 n)
  have hHE := rows_apart hH hE (by decide)
  apply wpS_seq
  apply wpS_region
  simp [wpOpsS, go_sem, Exit.thenS, hne]
  refine wpS_cond (t := true) (by simp [Act.eval, Array.replicate]) ?_
  simp only [if_true]
  apply wpS_seq
  apply wpS_region
  simp [wpOpsS, go_sem, Exit.thenS, hta]
  apply wpS_seq
  apply wpS_seq
  apply wpS_region
  simp [wpOpsS, go_sem, Exit.thenS]
  refine wpS_cond (t := false) (by simp [Act.eval, Array.replicate]) ?_
  simp only [Bool.false_eq_true, if_false]
  refine wpS_of_wp (wp_skip ?_)
  simp only [Exit.thenS]
  apply wpS_region
  simp [wpOpsS, go_sem, cq, c0, c1, c2, c3, c4, ct, f0, f1, f2, f3, f4, ft, bodyPostS, results, Tryd.results55]
theorem Tryd.catch_idle (p q : Addr) (w : World) :
    CallsD Tryd.prog 55 #[.pointer (some p), .pointer (some q)] .returning w fun e u' w' => e = .returned (.tuple #[]) ∧ u' = .returning ∧ w' = w := by
  have hne := Tryd.nil_nil
  refine callsD_of_wpS Tryd.func55 rfl fun c₀ cs hu => ?_
  apply wpS_seq
  apply wpS_region
  simp [wpOpsS, go_sem, recoverD, hu, Tryd.ntmps55, Exit.thenS]
  apply wpS_seq
  apply wpS_region
  simp [wpOpsS, go_sem, Exit.thenS, hne]
  refine wpS_cond (t := false) (by simp [Act.eval, Array.replicate]) ?_
  simp only [Bool.false_eq_true, if_false]
  refine wpS_of_wp (wp_skip ?_)
  cases c₀
  simp_all [bodyPostS, results, Tryd.results55]
def zLs : Ls := ⟨fun _ => none, fun _ => 0, fun _ => 0⟩
theorem hl_zero {H n₀ : Nat} {W : World} (h : Rows8 W H 67 #[.int .u64 0, .slice none 0 0, .slice none 0 0, .slice none 0 0, .slice none 0 0]) : Hl H n₀ 0 (fun _ => []) zLs W :=
  ⟨h, fun k _ => ownE_nil _ _, fun i j _ _ _ => .inl rfl⟩
/-- What a caught panic leaves. -/
theorem caught {w : World} {H T n₀ : Nat} {us : Array Value} {z n : Int} (hs : ∃ u0 u1 u2 u3 u4, us = #[u0, u1, u2, u3, u4]) (hH : Rows8 w H 67 us) (hE : Rows8 w T 31 #[.int .i64 z]) : Hl H n₀ 0 (fun _ => []) zLs ((((((w.setCell ⟨H, 0, none⟩ (.int .u64 0)).setCell ⟨H, 1, none⟩ (.slice none 0 0)).setCell ⟨H, 2, none⟩ (.slice none 0 0)).setCell ⟨H, 3, none⟩ (.slice none 0 0)).setCell ⟨H, 4, none⟩ (.slice none 0 0)).setCell ⟨T, 0, none⟩ (.int .i64 n)) ∧ Rows8 ((((((w.setCell ⟨H, 0, none⟩ (.int .u64 0)).setCell ⟨H, 1, none⟩ (.slice none 0 0)).setCell ⟨H, 2, none⟩ (.slice none 0 0)).setCell ⟨H, 3, none⟩ (.slice none 0 0)).setCell ⟨H, 4, none⟩ (.slice none 0 0)).setCell ⟨T, 0, none⟩ (.int .i64 n)) T 31 #[.int .i64 n] := by
  obtain ⟨u0, u1, u2, u3, u4, rfl⟩ := hs
  have hne := rows_apart hH hE (by decide)
  have h1 := ((((hH.set 0 (.int .u64 0)).set 1 (.slice none 0 0)).set 2 (.slice none 0 0)).set 3 (.slice none 0 0)).set 4 (.slice none 0 0)
  have e1 := ((((hE.setOther (a := ⟨H, 0, none⟩) hne (.int .u64 0)).setOther (a := ⟨H, 1, none⟩) hne (.slice none 0 0)).setOther (a := ⟨H, 2, none⟩) hne (.slice none 0 0)).setOther (a := ⟨H, 3, none⟩) hne (.slice none 0 0)).setOther (a := ⟨H, 4, none⟩) hne (.slice none 0 0)
  have h2 := h1.setOther (a := ⟨T, 0, none⟩) (fun e => hne e.symm) (.int .i64 n)
  have e2 := e1.set 0 (.int .i64 n)
  simp only [List.setIfInBounds_toArray, List.set_cons_zero, List.set_cons_succ] at h2 e2
  exact ⟨hl_zero h2, e2⟩
/-- The rows' copies, so far. -/
structure Cp (H n₀ E : Nat) (r : Rw3) (s : Ls) (k : Nat) (W : World) : Prop where
  bx : Rows8 W H 67 #[.int .u64 (E : Nat), .slice (s.a 0) (s.n 0) (s.c 0), .slice (s.a 1) (s.n 1) (s.c 1), .slice (s.a 2) (s.n 2) (s.c 2), .slice (s.a 3) (s.n 3) (s.c 3)]
  o : ∀ j, j < k → OwnE n₀ (r j) (s.v j) W
  ap : ∀ i j, i < k → j < k → i ≠ j → (s.v i).ownBlock = none ∨ (s.v i).ownBlock ≠ (s.v j).ownBlock
  z : s.v 3 = .slice none 0 0
theorem Cp.below {H n₀ E k : Nat} {r : Rw3} {s : Ls} {A B : World} (h : Cp H n₀ E r s k A) (hB : Below A.heap.size A B) : Cp H n₀ E r s k B := ⟨h.bx.below hB h.bx.lt, fun j hj => (h.o j hj).keep hB (Nat.le_refl _), h.ap, h.z⟩
theorem Cp.drew {H n₀ E k : Nat} {r : Rw3} {s : Ls} {A : World} (h : Cp H n₀ E r s k A) : Cp H n₀ E r s k A.drew := ⟨h.bx, fun j hj => (h.o j hj).drew, h.ap, h.z⟩
theorem Cp.next {H n₀ E k : Nat} {r : Rw3} {s : Ls} {W W1 : World} (h : Cp H n₀ E r s k W) (hB : Below W.heap.size W W1) (hk : k < 3) (hn : n₀ ≤ W.heap.size) (g n : Nat) (ho : OwnsP tE W.heap.size (r k) (.slice (some ⟨g, 0, none⟩) n n) W1) :
    Cp H n₀ E r (s.upd k (some ⟨g, 0, none⟩) n n) (k + 1) (W1.setCell ⟨H, 1 + k, none⟩ (.slice (some ⟨g, 0, none⟩) n n)) := by
  have h1 := h.below hB
  have hoe := OwnE.of ho
  have hg := (hoe.lt g rfl).1
  have hj : ∀ j, j < k → ∀ b, (s.v j).ownBlock = some b → b ≠ g := fun j hj b e => by have := ((h.o j hj).lt b e).2; omega
  refine ⟨?_, fun j hj => ?_, fun i j hi hj' hne => ?_, by rw [Ls.upd_ne _ _ _ _ (by omega)]; exact h.z⟩
  · rw [← setHan _ _ k (by omega)]
    exact h1.bx.set _ _
  · by_cases e : j = k
    · subst e
      rw [Ls.upd_self]
      exact (hoe.mono hn).setCell h1.bx (by decide) _ _
    · rw [Ls.upd_ne _ _ _ _ e]
      exact (h1.o j (by omega)).setCell h1.bx (by decide) _ _
  · by_cases e : i = k
    · subst e
      rw [Ls.upd_self, Ls.upd_ne _ _ _ _ (fun e => hne e.symm)]
      refine .inr fun e2 => hj j (by omega) g e2.symm rfl
    · rw [Ls.upd_ne _ _ _ _ e]
      by_cases e2 : j = k
      · subst e2
        rw [Ls.upd_self]
        cases hv : (s.v i).ownBlock with
        | none => exact .inl rfl
        | some b => exact .inr fun e3 => hj i (by omega) b hv (by simpa [Value.ownBlock] using e3)
      · rw [Ls.upd_ne _ _ _ _ e2]
        exact h1.ap i j (by omega) (by omega) hne
theorem Cp.hl {H n₀ E : Nat} {r : Rw3} {s : Ls} {W : World} (h : Cp H n₀ E r s 3 W) (h3 : r 3 = []) : Hl H n₀ E r s W := by
  refine ⟨h.bx, fun k hk => ?_, fun i j hi hj hne => ?_⟩
  · by_cases e : k = 3
    · rw [e, h.z, h3]; exact ownE_nil _ _
    · exact h.o k (by omega)
  · by_cases e : i = 3
    · rw [e, h.z]; exact .inl rfl
    · by_cases e2 : j = 3
      · rw [e2, h.z]
        cases hv : (s.v i).ownBlock with
        | none => exact .inl rfl
        | some b => exact .inr (by simp [Value.ownBlock])
      · exact h.ap i j (by omega) (by omega) hne
set_option maxHeartbeats 16000000 in
theorem Tryd.try_any (H n₀ E : Nat) (s : Ls) (r : Rw3) (f : FuncId) (fs fc : Array Value) (R : Rl) (wB w : World) (hbx : Rows8 w H 67 #[.int .u64 (E : Nat), .slice (s.a 0) (s.n 0) (s.c 0), .slice (s.a 1) (s.n 1) (s.c 1), .slice (s.a 2) (s.n 2) (s.c 2), .slice none 0 0]) (hI : LAt wB s r) (hw : Below wB.heap.size wB w) (hwB : wB.heap.size ≤ n₀) (hH : n₀ ≤ H) (hE : E < 18446744073709551616) (h3 : r 3 = [])
    (eg : ∀ args w, (callFunc f args).run Tryd.prog w = .ok (.enter f args) w)
    (hwork : rightL E r = true → ∀ (W : World) (s' : Ls), Below n₀ w W → Kf tL w W → n₀ ≤ W.heap.size → Hl H n₀ E r s' W → Calls Tryd.prog f (fs ++ fc) W (HdQ H n₀ W R)) :
    Calls Tryd.prog 41 #[.pointer (some ⟨H, 0, none⟩), .func (.func f) fs fc] w fun e w' => e = .returned (.int .i64 (tryL E r R).1) ∧ (∃ s', Hl H n₀ (tryL E r R).2.1 (tryL E r R).2.2 s' w') ∧ Below n₀ w w' ∧ Kf tL w w' := by
  obtain ⟨T, hT⟩ : ∃ T, T = tryL E r R := ⟨_, rfl⟩
  rw [← hT]
  unfold tryL at hT
  have HHL := Lib.hid (show n₀ ≤ H ∧ H < w.heap.size from ⟨hH, hbx.lt⟩)
  obtain ⟨W0, hW0⟩ : ∃ W, W = (w.alloc (.cells #[.pointer (some ⟨H, 0, none⟩)] 62)).alloc (.cells #[.int .i64 0] 31) := ⟨_, rfl⟩
  have hB0 : Below w.heap.size w W0 := by rw [hW0]; exact (Rows8.newB).alloc (by simp) _
  have hP0 : Rows8 W0 w.heap.size 62 #[.pointer (some ⟨H, 0, none⟩)] := by rw [hW0]; exact (Rows8.new _ _ _).alloc _
  have hE0 : Rows8 W0 (w.heap.size + 1) 31 #[.int .i64 0] := by rw [hW0]; exact rows_new2 _ _ _ _
  have hH0 := hbx.below hB0 hbx.lt
  have hIW := fun W (h : Below n₀ w W) => hI.below (hw.trans (h.mono hwB))
  have HIW := Lib.hid hIW
  have HC := Lib.hid (fun W (h : Below n₀ w W) => Tryd.Check_any E s r W (hIW W h) hE)
  have HCP := Lib.hid (fun (h : rightL E r = true) W (hb : Below n₀ w W) k (hk : k < 3) => Tryd.copied_any (s.a k) (s.n k) (s.c k) (r k) (by have := rightL_lenk h k hk; have := ((hIW W hb).len k hk).1; omega) W (hIW W hb k hk))
  have HB0 := Lib.hid (hB0.mono (Nat.le_trans hH (Nat.le_of_lt hbx.lt)))
  have HK0 := Lib.hid (Kf.of_below (T := tL) hB0)
  have HP0 := Lib.hid hP0
  have HE0 := Lib.hid hE0
  have HH0 := Lib.hid hH0
  have HWK := Lib.hid hwork
  have HT := Lib.hid hT
  have H3 := Lib.hid h3
  obtain ⟨q, hq⟩ : ∃ q, q = rightL E r := ⟨_, rfl⟩
  rw [← hq] at HC HT HCP HWK
  have HQ := Lib.hid hq
  have c0 : W0.cell? ⟨w.heap.size, 0, none⟩ = some (.pointer (some ⟨H, 0, none⟩)) := hP0.cell 0
  have k0 : W0.cell? ⟨H, 0, none⟩ = some (.int .u64 (E : Nat)) := hH0.cell 0
  have k1 : W0.cell? ⟨H, 1, none⟩ = some (.slice (s.a 0) (s.n 0) (s.c 0)) := hH0.cell 1
  have k2 : W0.cell? ⟨H, 2, none⟩ = some (.slice (s.a 1) (s.n 1) (s.c 1)) := hH0.cell 2
  have k3 : W0.cell? ⟨H, 3, none⟩ = some (.slice (s.a 2) (s.n 2) (s.c 2)) := hH0.cell 3
  have hmf : ∀ (fn : Fn) (first cap : Array Value) (w : World), (Instr.makeFunc fn first cap).run Tryd.prog w = .ok (.func fn first cap) w := fun _ _ _ _ => rfl
  clear hB0 hP0 hE0 hH0 hIW hI hw hbx hwork hT hq h3 hE
  subst hW0
  cases q with
  | false =>
    have HTT := Lib.hid (show T = (240, 0, fun _ => []) from HT.out)
    go_enter_defers Tryd.func41, Tryd.ntmps41
    go_wp2_with fail
    refine (HC.out _ HB0.out).mono ?_
    rintro e w1 ⟨rfl, hB1⟩
    have hb1 := HB0.out.trans (hB1.mono (by have := HB0.out.size; have := HHL.out; omega))
    have hk1 := HK0.out.trans (Kf.of_below (T := tL) hB1)
    have p1 := HP0.out.below hB1 HP0.out.lt
    have e1 := HE0.out.below hB1 HE0.out.lt
    have h1 := HH0.out.below hB1 HH0.out.lt
    clear hB1 c0 k0 k1 k2 k3
    have hcatch := Tryd.catch_panicking (w.heap.size) H (w.heap.size + 1) _ _ _ _ _ 240 _ [] w1 p1 h1 e1
    have hcg := caught (n₀ := n₀) (n := 240) ⟨_, _, _, _, _, rfl⟩ h1 e1
    have hB4 := (((((hb1.setCell (p := ⟨H, 0, none⟩) hH (.int .u64 0)).setCell (p := ⟨H, 1, none⟩) hH (.slice none 0 0)).setCell (p := ⟨H, 2, none⟩) hH (.slice none 0 0)).setCell (p := ⟨H, 3, none⟩) hH (.slice none 0 0)).setCell (p := ⟨H, 4, none⟩) hH (.slice none 0 0)).setCell (p := ⟨w.heap.size + 1, 0, none⟩) (by show n₀ ≤ w.heap.size + 1; have := HHL.out; omega) (.int .i64 240)
    have rr := h1
    have hK4 := (((((hk1.trans (Kf.set (T := tL) (t := 67) (by decide) _ (a := ⟨H, 0, none⟩) rr (.int .u64 0))).trans (Kf.set (T := tL) (t := 67) (by decide) _ (a := ⟨H, 1, none⟩) (rr.set 0 (.int .u64 0)) (.slice none 0 0))).trans (Kf.set (T := tL) (t := 67) (by decide) _ (a := ⟨H, 2, none⟩) ((rr.set 0 (.int .u64 0)).set 1 (.slice none 0 0)) (.slice none 0 0))).trans (Kf.set (T := tL) (t := 67) (by decide) _ (a := ⟨H, 3, none⟩) (((rr.set 0 (.int .u64 0)).set 1 (.slice none 0 0)).set 2 (.slice none 0 0)) (.slice none 0 0))).trans (Kf.set (T := tL) (t := 67) (by decide) _ (a := ⟨H, 4, none⟩) ((((rr.set 0 (.int .u64 0)).set 1 (.slice none 0 0)).set 2 (.slice none 0 0)).set 3 (.slice none 0 0)) (.slice none 0 0))).setNew (a := ⟨w.heap.size + 1, 0, none⟩) (by show w.heap.size ≤ w.heap.size + 1; omega) (.int .i64 240)
    have HCG := Lib.hid hcg
    have HB4 := Lib.hid hB4
    have HK4 := Lib.hid hK4
    have HCT := Lib.hid hcatch
    clear hcatch hcg hB4 hK4 rr
    clear hb1 hk1 p1 e1 h1 HC HCP HWK
    go_wp2_with fail
    refine leaves_cons (f := 55) (args := #[.pointer (some ⟨w.heap.size, 0, none⟩), .pointer (some ⟨w.heap.size + 1, 0, none⟩)]) (by simp) (by simp [go_sem]) ?_
    refine HCT.out.mono ?_
    rintro e u' w'' ⟨rfl, rfl, rfl⟩
    refine ⟨_, results_c1 rfl _ _ (w.heap.size + 1) _ rfl (load_one HCG.out.2 (by kernel_rfl)), ?_⟩
    rw [HTT.out]
    exact ⟨rfl, ⟨_, HCG.out.1⟩, HB4.out, HK4.out⟩
  | true =>
    have HT2 := Lib.hid (show T = if R.1 = 0 then R else (R.1, 0, fun _ => []) from HT.out)
    go_enter_defers Tryd.func41, Tryd.ntmps41
    go_wp2_with fail
    refine (HC.out _ HB0.out).mono ?_
    rintro e w1 ⟨rfl, hB1⟩
    have HB1 := Lib.hid (HB0.out.trans (hB1.mono (by have := HB0.out.size; have := HHL.out; omega)))
    have HK1 := Lib.hid (HK0.out.trans (Kf.of_below (T := tL) hB1))
    have HP1 := Lib.hid (HP0.out.below hB1 HP0.out.lt)
    have HE1 := Lib.hid (HE0.out.below hB1 HE0.out.lt)
    have HH1 := Lib.hid (HH0.out.below hB1 HH0.out.lt)
    have c0 : w1.cell? ⟨w.heap.size, 0, none⟩ = some (.pointer (some ⟨H, 0, none⟩)) := HP1.out.cell 0
    have k1 : w1.cell? ⟨H, 1, none⟩ = some (.slice (s.a 0) (s.n 0) (s.c 0)) := HH1.out.cell 1
    have k2 : w1.cell? ⟨H, 2, none⟩ = some (.slice (s.a 1) (s.n 1) (s.c 1)) := HH1.out.cell 2
    have k3 : w1.cell? ⟨H, 3, none⟩ = some (.slice (s.a 2) (s.n 2) (s.c 2)) := HH1.out.cell 3
    have hix := fun (k : Nat) (h : k < 3) (W : World) => Lib.hid (Tryd.index_rows s k h W)
    clear hB1 HB0 HK0 HP0 HE0 HH0 HC HT
    go_wp2_with fail
    have HCP0 : Hid (∃ s', Cp H n₀ E r s' 0 w1) := Lib.hid ⟨s.upd 3 none 0 0, HH1.out, fun j hj => absurd hj (Nat.not_lt_zero _), fun i j hi => absurd hi (Nat.not_lt_zero _), Ls.upd_self _ _ _ _ _⟩
    go_loopw [6, 7, 25] (fun _ _ j wr => ∃ k : Nat, k ≤ 3 ∧ j = .int .i64 k ∧ Hid (∃ s', Cp H n₀ E r s' k wr) ∧ Hid (Rows8 wr w.heap.size 62 #[.pointer (some ⟨H, 0, none⟩)]) ∧ Hid (Rows8 wr (w.heap.size + 1) 31 #[.int .i64 0]) ∧ Hid (Below n₀ w wr) ∧ Hid (Kf tL w wr)) (fun _ _ j _ => 3 - (intOf j).toNat)
    case atStart => exact ⟨0, Nat.zero_le _, rfl, HCP0, HP1, HE1, HB1, HK1⟩
    case round =>
      obtain ⟨k, hk, rfl, hcp, hp, he, hb, hkf⟩ := hrel
      clear c0 k1 k2 k3 HCP0 HP1 HE1 HB1 HK1 HH1
      by_cases hlt : k < 3
      · have hki : (k : Int) < 3 := by omega
        have hki0 : (0 : Int) ≤ (k : Int) := by omega
        have hx := (hix k hlt wr).out
        obtain ⟨s', hc⟩ := hcp.out
        clear hcp
        go_wp2_with fail
        refine wp_region_L (fun W' => Rows8 W' w.heap.size 62 #[.pointer (some ⟨H, 0, none⟩)] ∧ Rows8 W' H 67 #[.int .u64 (E : Nat), .slice (s'.a 0) (s'.n 0) (s'.c 0), .slice (s'.a 1) (s'.n 1) (s'.c 1), .slice (s'.a 2) (s'.n 2) (s'.c 2), .slice (s'.a 3) (s'.n 3) (s'.c 3)]) 9 (by kernel_rfl) ?_
        have hS0 : Rows8 wr.drew w.heap.size 62 #[.pointer (some ⟨H, 0, none⟩)] ∧ Rows8 wr.drew H 67 #[.int .u64 (E : Nat), .slice (s'.a 0) (s'.n 0) (s'.c 0), .slice (s'.a 1) (s'.n 1) (s'.c 1), .slice (s'.a 2) (s'.n 2) (s'.c 2), .slice (s'.a 3) (s'.n 3) (s'.c 3)] := ⟨hp.out.drewA, hc.bx.drewA⟩
        have HC0 := Lib.hid hc.drew
        have HE0 := Lib.hid he.out.drewA
        have HB0 := Lib.hid hb.out.drew
        have HK0 := Lib.hid hkf.out.drew
        have HZ0 := Lib.hid (show n₀ ≤ wr.drew.heap.size by have h1 := hb.out.size; have h2 := HHL.out; show n₀ ≤ wr.heap.size; omega)
        clear hc he hb hkf hp
        generalize wr.drew = Wd at *
        refine wpAnyL_takeT (i := 0) (oi := { dst := some 29, op := Go.Op.load 62 (Go.Operand.tmp 2), type := 62, pos := "hand.go:29", after := #[], guard := none }) (v := .pointer (some ⟨H, 0, none⟩)) [4, 5, 6, 7, 8, 9] rfl (by kernel_rfl) (by kernel_rfl) (by kernel_rfl) (by kernel_rfl) (fun c a w h => put_D (P := Tryd.prog) (fn := Tryd.f41) rfl _ (by decide) _ c a w h) (Or.inl ⟨by rfl, ?_⟩) hS0 ?_
        · intro W9 hS9
          obtain ⟨q0, q1⟩ := hS9
          have s0 : W9.cell? ⟨w.heap.size, 0, none⟩ = some (.pointer (some ⟨H, 0, none⟩)) := q0.cell 0
          clear q0 q1
          go_simp
        try simp only [Act.put, List.setIfInBounds_toArray, List.set_cons_zero, List.set_cons_succ]
        refine wpAnyL_takeT (i := 1) (oi := { dst := some 30, op := Go.Op.move (Go.Operand.tmp 6), type := 3, pos := "hand.go:29", after := #[], guard := none }) (v := .int .i64 (k : Nat)) [8, 9] rfl (by kernel_rfl) (by kernel_rfl) (by kernel_rfl) (by kernel_rfl) (fun c a w h => put_D (P := Tryd.prog) (fn := Tryd.f41) rfl _ (by decide) _ c a w h) (Or.inl ⟨by rfl, ?_⟩) hS0 ?_
        · intro W9 hS9
          obtain ⟨q0, q1⟩ := hS9
          clear q0 q1
          go_simp
        try simp only [Act.put, List.setIfInBounds_toArray, List.set_cons_zero, List.set_cons_succ]
        refine wpAnyL_takeT (i := 2) (oi := { dst := some 31, op := Go.Op.move (Go.Operand.tmp 7), type := 23, pos := "hand.go:29", after := #[], guard := none }) (v := .slice (s.a k) (s.n k) (s.c k)) [3, 8, 9] rfl (by kernel_rfl) (by kernel_rfl) (by kernel_rfl) (by kernel_rfl) (fun c a w h => put_D (P := Tryd.prog) (fn := Tryd.f41) rfl _ (by decide) _ c a w h) (Or.inl ⟨by rfl, ?_⟩) hS0 ?_
        · intro W9 hS9
          obtain ⟨q0, q1⟩ := hS9
          clear q0 q1
          go_simp
        try simp only [Act.put, List.setIfInBounds_toArray, List.set_cons_zero, List.set_cons_succ]
        refine wpAnyL_takeT (i := 4) (oi := { dst := some 33, op := Go.Op.nilCheck (Go.Operand.tmp 29), type := 0, pos := "hand.go:29", after := #[{ on := 0, ground := Go.Ground.data }], guard := none }) (v := .pointer (some ⟨H, 0, none⟩)) [5, 6, 7, 8, 9] rfl (by kernel_rfl) (by kernel_rfl) (by kernel_rfl) (by kernel_rfl) (fun c a w h => put_D (P := Tryd.prog) (fn := Tryd.f41) rfl _ (by decide) _ c a w h) (Or.inl ⟨by rfl, ?_⟩) hS0 ?_
        · intro W9 hS9
          obtain ⟨q0, q1⟩ := hS9
          clear q0 q1
          go_simp
        try simp only [Act.put, List.setIfInBounds_toArray, List.set_cons_zero, List.set_cons_succ]
        refine wpAnyL_takeT (i := 5) (oi := { dst := some 34, op := Go.Op.fieldAddr 67 (Go.Operand.tmp 33) 0, type := 0, pos := "hand.go:29", after := #[{ on := 4, ground := Go.Ground.data }], guard := none }) (v := .pointer (some ⟨H, 0, none⟩)) [6, 7, 8, 9] rfl (by kernel_rfl) (by kernel_rfl) (by kernel_rfl) (by kernel_rfl) (fun c a w h => put_D (P := Tryd.prog) (fn := Tryd.f41) rfl _ (by decide) _ c a w h) (Or.inl ⟨by rfl, ?_⟩) hS0 ?_
        · intro W9 hS9
          obtain ⟨q0, q1⟩ := hS9
          clear q0 q1
          go_simp
        try simp only [Act.put, List.setIfInBounds_toArray, List.set_cons_zero, List.set_cons_succ]
        refine wpAnyL_takeT (i := 6) (oi := { dst := some 35, op := Go.Op.fieldAddr 57 (Go.Operand.tmp 34) 0, type := 0, pos := "hand.go:29", after := #[{ on := 5, ground := Go.Ground.data }], guard := none }) (v := .pointer (some ⟨H, 0, none⟩)) [7, 8, 9] rfl (by kernel_rfl) (by kernel_rfl) (by kernel_rfl) (by kernel_rfl) (fun c a w h => put_D (P := Tryd.prog) (fn := Tryd.f41) rfl _ (by decide) _ c a w h) (Or.inl ⟨by rfl, ?_⟩) hS0 ?_
        · intro W9 hS9
          obtain ⟨q0, q1⟩ := hS9
          clear q0 q1
          go_simp
        try simp only [Act.put, List.setIfInBounds_toArray, List.set_cons_zero, List.set_cons_succ]
        refine wpAnyL_takeT (i := 7) (oi := { dst := some 36, op := Go.Op.fieldAddr 26 (Go.Operand.tmp 35) 1, type := 0, pos := "hand.go:29", after := #[{ on := 6, ground := Go.Ground.data }], guard := none }) (v := .pointer (some ⟨H, 1, none⟩)) [8, 9] rfl (by kernel_rfl) (by kernel_rfl) (by kernel_rfl) (by kernel_rfl) (fun c a w h => put_D (P := Tryd.prog) (fn := Tryd.f41) rfl _ (by decide) _ c a w h) (Or.inl ⟨by rfl, ?_⟩) hS0 ?_
        · intro W9 hS9
          obtain ⟨q0, q1⟩ := hS9
          clear q0 q1
          go_simp
        try simp only [Act.put, List.setIfInBounds_toArray, List.set_cons_zero, List.set_cons_succ]
        refine wpAnyL_one (i := 3) (o := { dst := some 32, op := Go.Op.call { callee := Go.Callee.value (Go.Operand.func 36), args := #[Go.Operand.tmp 31], argTypes := #[23] }, type := 23, pos := "hand.go:29", after := #[{ on := 2, ground := Go.Ground.data }], guard := none }) (by kernel_rfl) rfl (fun K hK => ?_)
        refine step_call_g (by rfl) 36 _ _ rfl (fun _ _ => by kernel_rfl) #[.slice (s.a k) (s.n k) (s.c k)] (by simp [go_sem]) _ (HCP.out (by first | trivial | exact HQ.out.symm) Wd HB0.out k hlt) ?_
        rintro e w3 ⟨g, rfl, ho, hB3⟩
        refine ⟨_, rfl, ?_⟩
        have hS1 : Rows8 w3 w.heap.size 62 #[.pointer (some ⟨H, 0, none⟩)] ∧ Rows8 w3 H 67 #[.int .u64 (E : Nat), .slice (s'.a 0) (s'.n 0) (s'.c 0), .slice (s'.a 1) (s'.n 1) (s'.c 1), .slice (s'.a 2) (s'.n 2) (s'.c 2), .slice (s'.a 3) (s'.n 3) (s'.c 3)] := ⟨hS0.1.below hB3 hS0.1.lt, hS0.2.below hB3 hS0.2.lt⟩
        have HNX := Lib.hid (HC0.out.next hB3 hlt HZ0.out g (s.n k) ho)
        have HE3 := Lib.hid (HE0.out.below hB3 HE0.out.lt)
        have HB3 := Lib.hid (HB0.out.trans (hB3.mono HZ0.out))
        have HK3 := Lib.hid (HK0.out.trans (Kf.of_below (T := tL) hB3))
        clear ho hB3 HC0 HE0 HB0 HK0 HZ0
        refine hK.out _ _ (fun _ => hS1) ?_
        clear hK K
        try simp only [Act.put, List.setIfInBounds_toArray, List.set_cons_zero, List.set_cons_succ]
        refine wpAnyL_takeT (i := 8) (oi := { dst := some 37, op := Go.Op.indexAddr 24 (Go.Operand.tmp 36) (Go.Operand.tmp 30), type := 0, pos := "hand.go:29", after := #[{ on := 7, ground := Go.Ground.data }, { on := 1, ground := Go.Ground.data }, { on := 0, ground := Go.Ground.phase }, { on := 1, ground := Go.Ground.phase }, { on := 2, ground := Go.Ground.phase }, { on := 3, ground := Go.Ground.phase }], guard := none }) (v := .pointer (some ⟨H, 1 + k, none⟩)) [9] rfl (by kernel_rfl) (by kernel_rfl) (by kernel_rfl) (by kernel_rfl) (fun c a w h => put_D (P := Tryd.prog) (fn := Tryd.f41) rfl _ (by decide) _ c a w h) (Or.inl ⟨by rfl, ?_⟩) hS1 ?_
        · intro W9 hS9
          obtain ⟨q0, q1⟩ := hS9
          clear q0 q1
          go_simp
        try simp only [Act.put, List.setIfInBounds_toArray, List.set_cons_zero, List.set_cons_succ]
        refine wpAnyL_one (i := 9) (o := { dst := none, op := Go.Op.store 23 (Go.Operand.tmp 37) (Go.Operand.tmp 32), type := 0, pos := "hand.go:29", after := #[{ on := 8, ground := Go.Ground.data }, { on := 3, ground := Go.Ground.data }, { on := 3, ground := Go.Ground.chain }, { on := 0, ground := Go.Ground.phase }, { on := 1, ground := Go.Ground.phase }, { on := 2, ground := Go.Ground.phase }, { on := 3, ground := Go.Ground.phase }], guard := none }) (by kernel_rfl) rfl (fun K hK => ?_)
        have hK5 := cellH hS1.2 k (Nat.lt_succ_of_lt hlt)
        have f5 := hS1.2.frozen (1 + k)
        refine step_skip_g (by rfl) (w' := w3.setCell ⟨H, 1 + k, none⟩ (.slice (some ⟨g, 0, none⟩) (s.n k) (s.n k))) (by go_simp) ?_
        have HP6 := Lib.hid (hS1.1.setOther (a := ⟨H, 1 + k, none⟩) (fun e => rows_apart hS1.2 hS1.1 (by decide) e) (.slice (some ⟨g, 0, none⟩) (s.n k) (s.n k)))
        have HE6 := Lib.hid (HE3.out.setOther (a := ⟨H, 1 + k, none⟩) (fun e => rows_apart hS1.2 HE3.out (by decide) e) (.slice (some ⟨g, 0, none⟩) (s.n k) (s.n k)))
        have HB6 := Lib.hid (HB3.out.setCell (p := ⟨H, 1 + k, none⟩) hH (.slice (some ⟨g, 0, none⟩) (s.n k) (s.n k)))
        have HK6 := Lib.hid (HK3.out.trans (Kf.set (T := tL) (t := 67) (by decide) w3 (a := ⟨H, 1 + k, none⟩) hS1.2 (.slice (some ⟨g, 0, none⟩) (s.n k) (s.n k))))
        clear hK5 f5 HE3 HB3 HK3
        refine hK.out _ _ (fun h => absurd h (by decide)) ?_
        clear hK K
        try simp only [Act.put, List.setIfInBounds_toArray, List.set_cons_zero, List.set_cons_succ]
        refine wpAnyL_end (by kernel_rfl) ?_
        clear hS0 hS1
        go_wp2_with fail
        exact ⟨⟨k + 1, by omega, by go_num, Lib.hid ⟨_, HNX.out⟩, HP6, HE6, HB6, HK6⟩, by simp [intOf]; omega⟩
      · obtain rfl : k = 3 := by omega
        obtain ⟨s', hc⟩ := hcp.out
        have hZ : n₀ ≤ wr.heap.size := by have h1 := hb.out.size; have h2 := HHL.out; omega
        have HWW := Lib.hid (HWK.out (by first | trivial | exact HQ.out.symm) wr s' hb.out hkf.out hZ (hc.hl H3.out))
        clear hcp hc hix
        go_wp2_with fail
        refine HWW.out.mono ?_
        rintro e w3 ⟨⟨hz, rfl⟩ | ⟨hz, rfl⟩, ⟨s3, hd⟩, hb3, hk3⟩
        · have e3 := hk3.rows he.out (by decide)
          have ce : w3.cell? ⟨w.heap.size + 1, 0, none⟩ = some (.int .i64 0) := e3.cell 0
          have fe := e3.frozen 0
          have le := e3.lt
          have HTT := Lib.hid (show T = R by rw [HT2.out, if_pos hz])
          have t2 := e3.set 0 (.int .i64 0)
          simp only [List.setIfInBounds_toArray, List.set_cons_zero] at t2
          have hne := rows_apart hd.bx e3 (by decide)
          have HD2 := Lib.hid (show Hl H n₀ R.2.1 R.2.2 s3 (w3.setCell ⟨w.heap.size + 1, 0, none⟩ (.int .i64 0)) from ⟨hd.bx.setOther (a := ⟨w.heap.size + 1, 0, none⟩) (fun e => hne e.symm) _, fun k hk => (hd.o k hk).setCell e3 (by decide) _ _, hd.ap⟩)
          have HE2 := Lib.hid t2
          have HB2 := Lib.hid ((hb.out.trans hb3).setCell (p := ⟨w.heap.size + 1, 0, none⟩) (by show n₀ ≤ w.heap.size + 1; have := HHL.out; omega) (.int .i64 0))
          have HK2 := Lib.hid ((hkf.out.trans hk3).setNew (a := ⟨w.heap.size + 1, 0, none⟩) (by show w.heap.size ≤ w.heap.size + 1; omega) (.int .i64 0))
          have HZ := Lib.hid hz
          clear hd hb3 hk3 hz e3 t2 hne hb hkf he hp HWW
          go_wp2_with fail
          refine leaves_cons (f := 55) (args := #[.pointer (some ⟨w.heap.size, 0, none⟩), .pointer (some ⟨w.heap.size + 1, 0, none⟩)]) (by simp) (by simp [go_sem]) ?_
          refine (Tryd.catch_idle ⟨w.heap.size, 0, none⟩ ⟨w.heap.size + 1, 0, none⟩ _).mono ?_
          rintro e u' w'' ⟨rfl, rfl, rfl⟩
          refine ⟨_, results_c1 rfl _ _ (w.heap.size + 1) _ rfl (load_one HE2.out (by kernel_rfl)), ?_⟩
          rw [HTT.out]
          exact ⟨by rw [HZ.out], ⟨_, HD2.out⟩, HB2.out, HK2.out⟩
        · have p3 := hk3.rows hp.out (by decide)
          have e3 := hk3.rows he.out (by decide)
          have hb4 := hb.out.trans hb3
          have hk4 := hkf.out.trans hk3
          have hbx := hd.bx
          have HTT := Lib.hid (show T = (R.1, 0, fun _ => []) by rw [HT2.out, if_neg hz])
          have hcatch := Tryd.catch_panicking (w.heap.size) H (w.heap.size + 1) _ _ _ _ _ R.1 _ [] w3 p3 hbx e3
          have hcg := caught (n₀ := n₀) (n := R.1) ⟨_, _, _, _, _, rfl⟩ hbx e3
          have hB4 := (((((hb4.setCell (p := ⟨H, 0, none⟩) hH (.int .u64 0)).setCell (p := ⟨H, 1, none⟩) hH (.slice none 0 0)).setCell (p := ⟨H, 2, none⟩) hH (.slice none 0 0)).setCell (p := ⟨H, 3, none⟩) hH (.slice none 0 0)).setCell (p := ⟨H, 4, none⟩) hH (.slice none 0 0)).setCell (p := ⟨w.heap.size + 1, 0, none⟩) (by show n₀ ≤ w.heap.size + 1; have := HHL.out; omega) (.int .i64 R.1)
          have rr := hbx
          have hK4 := (((((hk4.trans (Kf.set (T := tL) (t := 67) (by decide) _ (a := ⟨H, 0, none⟩) rr (.int .u64 0))).trans (Kf.set (T := tL) (t := 67) (by decide) _ (a := ⟨H, 1, none⟩) (rr.set 0 (.int .u64 0)) (.slice none 0 0))).trans (Kf.set (T := tL) (t := 67) (by decide) _ (a := ⟨H, 2, none⟩) ((rr.set 0 (.int .u64 0)).set 1 (.slice none 0 0)) (.slice none 0 0))).trans (Kf.set (T := tL) (t := 67) (by decide) _ (a := ⟨H, 3, none⟩) (((rr.set 0 (.int .u64 0)).set 1 (.slice none 0 0)).set 2 (.slice none 0 0)) (.slice none 0 0))).trans (Kf.set (T := tL) (t := 67) (by decide) _ (a := ⟨H, 4, none⟩) ((((rr.set 0 (.int .u64 0)).set 1 (.slice none 0 0)).set 2 (.slice none 0 0)).set 3 (.slice none 0 0)) (.slice none 0 0))).setNew (a := ⟨w.heap.size + 1, 0, none⟩) (by show w.heap.size ≤ w.heap.size + 1; omega) (.int .i64 R.1)
          have HCG := Lib.hid hcg
          have HB4 := Lib.hid hB4
          have HK4 := Lib.hid hK4
          have HCT := Lib.hid hcatch
          clear hcatch hcg hB4 hK4 rr
          clear hd hb3 hk3 hz p3 e3 hb4 hk4 hbx hb hkf he hp HWW
          unfold panicA
          go_wp2_with fail
          refine leaves_cons (f := 55) (args := #[.pointer (some ⟨w.heap.size, 0, none⟩), .pointer (some ⟨w.heap.size + 1, 0, none⟩)]) (by simp) (by simp [go_sem]) ?_
          refine HCT.out.mono ?_
          rintro e u' w'' ⟨rfl, rfl, rfl⟩
          refine ⟨_, results_c1 rfl _ _ (w.heap.size + 1) _ rfl (load_one HCG.out.2 (by kernel_rfl)), ?_⟩
          rw [HTT.out]
          exact ⟨rfl, ⟨_, HCG.out.1⟩, HB4.out, HK4.out⟩
end Go.Proofs
