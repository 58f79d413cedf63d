/- Monitor: a hand that watches. -/
import Derived.Test.YtkghlcoancfnfaaBv
namespace Go.Proofs
set_option maxRecDepth 100000
open Go.RowKit Go.Shelf
attribute [local go_sem] Oper.semAt_some

section
variable {P : Program} {ops : Array Oper} {Q : Exit → Act → World → Prop}
theorem step_call_v {o : Oper} {a : Act} {w : World} {K : Act → World → Prop} {E : Prop} (hw : Region.wanted o (yielded ops a.tmps) = true) (f : FuncId) (x : Nat) (xs : Array Operand) (ts : Array TypeId)
    (ho : o.op = .call { callee := .value (.tmp x), args := xs, argTypes := ts }) (fs : Array Value) (hx : a.tmps[x]?.getD undef = .func (.func f) fs #[]) (eg : ∀ args w, (callFunc f args).run P w = .ok (.enter f args) w) (vs : Array Value) (hv : fs ++ xs.map a.eval = vs) (R : Ending → World → Prop) (hc : Calls P f vs w R)
    (hR : ∀ e w', R e w' → (∃ v, e = .returned v ∧ K (a.put o.dst v) w') ∨ ∃ c, e = .panicked c ∧ Q (.panic c) a w') : if Region.wanted o (yielded ops a.tmps) = true then Oper.wp P o a w K Q else E := by
  rw [if_pos hw]
  unfold Oper.wp execOp
  simp only [ho]
  simp [go_sem, resolve, invoke, hx, hv, eg]
  refine hc.mono (fun e w' he => ?_)
  rcases hR e w' he with ⟨v, rfl, hk⟩ | ⟨c, rfl, hk⟩
  · exact hk
  · exact hk
end
theorem HdQ.behind {H n₀ : Nat} {w w1 w' : World} {R : Int × Mn × List Pr} {tk : List Pr} {e : Ending} (hB : Below n₀ w w1) (hK : Kf tM w w1) (h : HdQ H n₀ w1 R tk e w') : HdQ H n₀ w R tk e w' := by
  rcases h with ⟨h1, h2, h3, h4, h5⟩ | ⟨h1, h2, h3, h4, h5⟩
  · exact Or.inl ⟨h1, h2, h3, hB.trans h4, hK.trans h5⟩
  · exact Or.inr ⟨h1, h2, hB.trans h3, hK.trans h4, h5⟩
theorem badM_eq (m : Mn) (x : Wt) : badM m x = if !goodM m x && decide (m.bad.length < 16) then { m with bad := m.bad ++ [x] } else m := by
  unfold badM
  cases goodM m x <;> simp
theorem act1 (m : Mn) (x : Wt) (h : x.kind = 1) : actM m x = if pinM m x.goer then (5, m, []) else (0, { m with pin := m.pin.set x.goer.toNat true }, []) := by unfold actM; rw [if_pos h]
theorem act2 (m : Mn) (x : Wt) (h : x.kind = 2) : actM m x = if pinM m x.goer then (0, { m with pin := m.pin.set x.goer.toNat false, has := m.has.set x.goer.toNat [] }, []) else (4, m, []) := by unfold actM; rw [h]; rfl
theorem act3 (m : Mn) (x : Wt) (h : x.kind = 3) : actM m x = if pinM m x.goer then (0, addM m x.goer x.ent, []) else (4, m, []) := by unfold actM; rw [h]; rfl
theorem act4 (m : Mn) (x : Wt) (h : x.kind = 4 ∨ x.kind = 5) : actM m x = if pinM m x.goer then (0, badM m x, []) else (4, m, []) := by unfold actM; rw [badM_eq]; rcases h with h | h <;> rw [h] <;> rfl
theorem act6 (m : Mn) (x : Wt) (h : x.kind = 6) : actM m x = if pinM m x.goer then takM m x.goer (takT m.sl 1) else (4, m, []) := by unfold actM takM; rw [h]; rfl
theorem act7 (m : Mn) (x : Wt) (h : x.kind = 7) : actM m x = arR m (retT m.sl [x.ent]) := by unfold actM arR; rw [h]; rfl
theorem act8 (m : Mn) (x : Wt) (h : x.kind = 8) : actM m x = arR m (givT m.sl [x.ent]) := by unfold actM arR; rw [h]; rfl
set_option maxHeartbeats 32000000 in
theorem Try.watch_any (H n₀ : Nat) (m : Mn) (tk : List Pr) (t : Wt) (w : World) (h : Hd H n₀ m tk w) (hk : okM m) (hl : m.has.length = m.pin.length) (htk : tk.length ≤ 10000) (hn0 : n₀ ≤ w.heap.size) (hH : n₀ ≤ H) :
    Calls Try.prog 76 #[.pointer (some ⟨H, 0, none⟩), .agg #[.int .i64 t.kind, .int .i64 t.goer, .int .i64 t.slab, .int .u64 (t.gen : Nat)]] w (HdQ H n₀ w (stepM m t) tk) := by
  obtain ⟨x, ta, tn, tc, vs, hx⟩ := h
  have hpn := (OwnMon.at hx.o hk).lens.2.1
  obtain ⟨sa, sn, sc, pa, pn, pc, ha, hn, hc, ba, bn, bc⟩ := x
  dsimp only at hpn
  obtain ⟨kd, gr, i, q⟩ := t
  obtain ⟨R, hR⟩ : ∃ R, R = stepM m ⟨kd, gr, i, q⟩ := ⟨_, rfl⟩
  rw [← hR]
  have hwhy : whyM m.pin.length ⟨kd, gr, i, q⟩ = if kd < 1 ∨ 8 < kd then 221 else if !oneB pn gr || (asksB kd && !entB (i, q)) then 2 else 0 := by rw [hpn]; rfl
  have hal : Below w.heap.size w (w.alloc (.cells #[.int .i64 kd, .int .i64 gr, .int .i64 i, .int .u64 (q : Nat)] 40)) := Rows8.newB
  have rw0 := Rows8.new w 40 #[.int .i64 kd, .int .i64 gr, .int .i64 i, .int .u64 (q : Nat)]
  obtain ⟨W, hW⟩ : ∃ W, W = w.alloc (.cells #[.int .i64 kd, .int .i64 gr, .int .i64 i, .int .u64 (q : Nat)] 40) := ⟨_, rfl⟩
  dsimp only
  rw [← hW] at hal rw0
  have c0 : W.cell? ⟨w.heap.size, 0, none⟩ = some (.int .i64 kd) := rw0.cell 0
  have HX := Lib.hid (hx.below hal)
  have HAL := Lib.hid (hal.mono hn0)
  have HKF := Lib.hid (Kf.of_below (T := tM) hal)
  have HR0 := Lib.hid rw0
  have HPN := Lib.hid hpn
  have HWHY := Lib.hid hwhy
  have HRR := Lib.hid hR
  clear hx hal rw0 hpn hwhy hR
  by_cases hk1 : kd < 1
  · have hRA : R = (221, m, []) := by rw [HRR.out]; unfold stepM; rw [HWHY.out, if_pos (Or.inl hk1)]; rfl
    have HRA := Lib.hid hRA
    clear hRA HRR HWHY
    go_enter Try.func76, Try.ntmps76
    go_wp2_with fail
    rw [← hW]
    clear hW
    go_wp2_with fail
    exact ⟨rfl, Or.inr ⟨by rw [HRA.out]; show (221 : Int) ≠ 0; decide, by rw [HRA.out]; rfl, HAL.out, HKF.out, _, _, _, _, _, HX.out.bx⟩⟩
  · by_cases hk8 : 8 < kd
    · have hRA : R = (221, m, []) := by rw [HRR.out]; unfold stepM; rw [HWHY.out, if_pos (Or.inr hk8)]; rfl
      have HRA := Lib.hid hRA
      clear hRA HRR HWHY
      go_enter Try.func76, Try.ntmps76
      go_wp2_with fail
      rw [← hW]
      clear hW
      go_wp2_with fail
      exact ⟨rfl, Or.inr ⟨by rw [HRA.out]; show (221 : Int) ≠ 0; decide, by rw [HRA.out]; rfl, HAL.out, HKF.out, _, _, _, _, _, HX.out.bx⟩⟩
    · have HWH2 := Lib.hid (HWHY.out.trans (if_neg (by omega)))
      have HKD := Lib.hid (show 1 ≤ kd ∧ kd ≤ 8 by omega)
      clear HWHY
      have HONE := fun W => Lib.hid (Try.isOne_any ⟨sa, sn, sc, pa, pn, pc, ha, hn, hc, ba, bn, bc⟩ gr W)
      have HASK := fun W => Lib.hid (Try.asks_any kd W)
      have HENT := fun W => Lib.hid (Try.isEntry_any (i, q) W)
      dsimp only at HONE HENT
      have HOB := Lib.hid (fun (h : oneB pn gr = true) => (show 0 ≤ gr ∧ gr < m.pin.length by unfold oneB at h; simp at h; rw [← HPN.out]; omega))
      have HAB := Lib.hid (show asksB kd = true → kd = 3 ∨ kd = 4 ∨ kd = 5 ∨ kd = 7 ∨ kd = 8 from fun h => by have := HKD.out; unfold asksB at h; simp at h; omega)
      have HAN := Lib.hid (show asksB kd = false → kd = 1 ∨ kd = 2 ∨ kd = 6 from fun h => by have := HKD.out; unfold asksB at h; simp at h; omega)
      generalize oneB pn gr = z1 at *
      generalize asksB kd = z2 at *
      generalize entB (i, q) = z3 at *
      cases z1 with
      | false =>
        have HRA := Lib.hid (show R = (2, m, []) by rw [HRR.out]; unfold stepM; rw [HWH2.out]; rfl)
        clear HRR HWH2 HASK HENT HOB HAB HAN HKD
        go_enter Try.func76, Try.ntmps76
        go_wp2_with fail
        rw [← hW]
        clear hW
        go_wp2_with fail
        refine wp_region_X (fun W' => Rows8 W' H 95 #[.slice sa sn sc, .slice pa pn pc, .slice ha hn hc, .slice ba bn bc, .slice ta tn tc] ∧ Rows8 W' w.heap.size 40 #[.int .i64 kd, .int .i64 gr, .int .i64 i, .int .u64 (q : Nat)]) 19 (by kernel_rfl) ?_
        have hS0 : Rows8 W.drew H 95 #[.slice sa sn sc, .slice pa pn pc, .slice ha hn hc, .slice ba bn bc, .slice ta tn tc] ∧ Rows8 W.drew w.heap.size 40 #[.int .i64 kd, .int .i64 gr, .int .i64 i, .int .u64 (q : Nat)] := ⟨HX.out.bx.drewA, HR0.out.drewA⟩
        have HX0 := Lib.hid HX.out.drew
        have HB0 := Lib.hid HAL.out.drew
        have HK0 := Lib.hid HKF.out.drew
        clear HX HAL HKF HR0
        generalize W.drew = Wd at *
        refine wpAnyN_take (i := 0) (oi := { dst := some 13, op := Go.Op.move (Go.Operand.tmp 0), type := 117, pos := "hand.go:59", after := #[], guard := none }) (v := .pointer (some ⟨H, 0, none⟩)) rfl (by decide) (by kernel_rfl) (by kernel_rfl) (by kernel_rfl) (fun _ _ _ h => h) (Or.inl ⟨by rfl, ?_⟩) hS0 ?_
        · intro W9 hS9
          obtain ⟨q0, q1⟩ := hS9
          clear q0 q1
          go_simp
        try simp only [Act.put, List.setIfInBounds_toArray, List.set_cons_zero, List.set_cons_succ]
        refine wpAnyN_take (i := 1) (oi := { dst := some 14, op := Go.Op.nilCheck (Go.Operand.tmp 13), type := 0, pos := "hand.go:59", after := #[{ on := 0, ground := Go.Ground.data }], guard := none }) (v := .pointer (some ⟨H, 0, none⟩)) rfl (by decide) (by kernel_rfl) (by kernel_rfl) (by kernel_rfl) (fun _ _ _ h => h) (Or.inl ⟨by rfl, ?_⟩) hS0 ?_
        · intro W9 hS9
          obtain ⟨q0, q1⟩ := hS9
          clear q0 q1
          go_simp
        try simp only [Act.put, List.setIfInBounds_toArray, List.set_cons_zero, List.set_cons_succ]
        refine wpAnyN_take (i := 2) (oi := { dst := some 15, op := Go.Op.fieldAddr 95 (Go.Operand.tmp 14) 0, type := 0, pos := "hand.go:59", after := #[{ on := 1, ground := Go.Ground.data }], guard := none }) (v := .pointer (some ⟨H, 0, none⟩)) rfl (by decide) (by kernel_rfl) (by kernel_rfl) (by kernel_rfl) (fun _ _ _ h => h) (Or.inl ⟨by rfl, ?_⟩) hS0 ?_
        · intro W9 hS9
          obtain ⟨q0, q1⟩ := hS9
          clear q0 q1
          go_simp
        try simp only [Act.put, List.setIfInBounds_toArray, List.set_cons_zero, List.set_cons_succ]
        refine wpAnyN_take (i := 3) (oi := { dst := some 16, op := Go.Op.load 79 (Go.Operand.tmp 15), type := 79, pos := "hand.go:59", after := #[{ on := 2, ground := Go.Ground.data }], guard := none }) (v := .agg #[.slice sa sn sc, .slice pa pn pc, .slice ha hn hc, .slice ba bn bc]) rfl (by decide) (by kernel_rfl) (by kernel_rfl) (by kernel_rfl) (fun _ _ _ h => h) (Or.inl ⟨by rfl, ?_⟩) hS0 ?_
        · intro W9 hS9
          obtain ⟨q0, q1⟩ := hS9
          have s0 : W9.cell? ⟨H, 0, none⟩ = some (.slice sa sn sc) := q0.cell 0
          have s1 : W9.cell? ⟨H, 1, none⟩ = some (.slice pa pn pc) := q0.cell 1
          have s2 : W9.cell? ⟨H, 2, none⟩ = some (.slice ha hn hc) := q0.cell 2
          have s3 : W9.cell? ⟨H, 3, none⟩ = some (.slice ba bn bc) := q0.cell 3
          clear q0 q1
          go_simp
        try simp only [Act.put, List.setIfInBounds_toArray, List.set_cons_zero, List.set_cons_succ]
        refine wpAnyN_take (i := 4) (oi := { dst := some 17, op := Go.Op.fieldAddr 40 (Go.Operand.tmp 3) 1, type := 0, pos := "hand.go:59", after := #[], guard := none }) (v := .pointer (some ⟨w.heap.size, 1, none⟩)) rfl (by decide) (by kernel_rfl) (by kernel_rfl) (by kernel_rfl) (fun _ _ _ h => h) (Or.inl ⟨by rfl, ?_⟩) hS0 ?_
        · intro W9 hS9
          obtain ⟨q0, q1⟩ := hS9
          clear q0 q1
          go_simp
        try simp only [Act.put, List.setIfInBounds_toArray, List.set_cons_zero, List.set_cons_succ]
        refine wpAnyN_take (i := 5) (oi := { dst := some 18, op := Go.Op.load 3 (Go.Operand.tmp 17), type := 3, pos := "hand.go:59", after := #[{ on := 4, ground := Go.Ground.data }], guard := none }) (v := .int .i64 gr) rfl (by decide) (by kernel_rfl) (by kernel_rfl) (by kernel_rfl) (fun _ _ _ h => h) (Or.inl ⟨by rfl, ?_⟩) hS0 ?_
        · intro W9 hS9
          obtain ⟨q0, q1⟩ := hS9
          have s1 : W9.cell? ⟨w.heap.size, 1, none⟩ = some (.int .i64 gr) := q1.cell 1
          clear q0 q1
          go_simp
        try simp only [Act.put, List.setIfInBounds_toArray, List.set_cons_zero, List.set_cons_succ]
        refine wpAnyX_one (i := 6) (o := { dst := some 19, op := Go.Op.call { callee := Go.Callee.value (Go.Operand.func 48), args := #[Go.Operand.tmp 16, Go.Operand.tmp 18], argTypes := #[79, 3] }, type := 4, pos := "hand.go:59", after := #[{ on := 3, ground := Go.Ground.data }, { on := 5, ground := Go.Ground.data }], guard := none }) (by kernel_rfl) rfl (fun K hK => ?_)
        refine step_call_g (by rfl) 48 _ _ rfl (fun _ _ => by kernel_rfl) #[.agg #[.slice sa sn sc, .slice pa pn pc, .slice ha hn hc, .slice ba bn bc], .int .i64 gr] (by simp [go_sem]) _ (HONE Wd).out ?_
        rintro e w1 ⟨rfl, hC⟩
        refine ⟨_, rfl, ?_⟩
        have hS1 : Rows8 w1 H 95 #[.slice sa sn sc, .slice pa pn pc, .slice ha hn hc, .slice ba bn bc, .slice ta tn tc] ∧ Rows8 w1 w.heap.size 40 #[.int .i64 kd, .int .i64 gr, .int .i64 i, .int .u64 (q : Nat)] := ⟨hS0.1.below hC hS0.1.lt, hS0.2.below hC hS0.2.lt⟩
        have HX1 := Lib.hid (HX0.out.below hC)
        have HB1 := Lib.hid (HB0.out.trans (hC.mono (Nat.le_trans hn0 HB0.out.size)))
        have HK1 := Lib.hid (HK0.out.trans (Kf.of_below (T := tM) hC))
        clear hC HX0 HB0 HK0
        refine hK.out _ _ (fun _ => hS1) ?_
        clear hK K
        try simp only [Act.put, List.setIfInBounds_toArray, List.set_cons_zero, List.set_cons_succ]
        refine wpAnyN_take (i := 7) (oi := { dst := some 20, op := Go.Op.unOp Go.UnOp.not 4 (Go.Operand.tmp 19), type := 4, pos := "hand.go:59", after := #[{ on := 6, ground := Go.Ground.data }], guard := none }) (v := .bool true) rfl (by decide) (by kernel_rfl) (by kernel_rfl) (by kernel_rfl) (fun _ _ _ h => h) (Or.inl ⟨by rfl, ?_⟩) hS1 ?_
        · intro W9 hS9
          obtain ⟨q0, q1⟩ := hS9
          clear q0 q1
          go_simp
        try simp only [Act.put, List.setIfInBounds_toArray, List.set_cons_zero, List.set_cons_succ]
        refine wpAnyN_take (i := 8) (oi := { dst := some 21, op := Go.Op.move (Go.Operand.tmp 20), type := 4, pos := "hand.go:59", after := #[{ on := 7, ground := Go.Ground.data }, { on := 6, ground := Go.Ground.chain }], guard := none }) (v := .bool true) rfl (by decide) (by kernel_rfl) (by kernel_rfl) (by kernel_rfl) (fun _ _ _ h => h) (Or.inl ⟨by rfl, ?_⟩) hS1 ?_
        · intro W9 hS9
          obtain ⟨q0, q1⟩ := hS9
          clear q0 q1
          go_simp
        try simp only [Act.put, List.setIfInBounds_toArray, List.set_cons_zero, List.set_cons_succ]
        refine wpAnyN_take (i := 9) (oi := { dst := some 22, op := Go.Op.fieldAddr 40 (Go.Operand.tmp 3) 0, type := 0, pos := "hand.go:59", after := #[{ on := 8, ground := Go.Ground.guard }], guard := some (8, false) }) (v := undef) rfl (by decide) (by kernel_rfl) (by kernel_rfl) (by kernel_rfl) (fun _ _ _ h => h) (Or.inr ⟨by rfl, rfl⟩) hS1 ?_
        try simp only [Act.put, List.setIfInBounds_toArray, List.set_cons_zero, List.set_cons_succ]
        refine wpAnyN_take (i := 10) (oi := { dst := some 23, op := Go.Op.load 3 (Go.Operand.tmp 22), type := 3, pos := "hand.go:59", after := #[{ on := 9, ground := Go.Ground.data }, { on := 8, ground := Go.Ground.guard }], guard := some (8, false) }) (v := undef) rfl (by decide) (by kernel_rfl) (by kernel_rfl) (by kernel_rfl) (fun _ _ _ h => h) (Or.inr ⟨by rfl, rfl⟩) hS1 ?_
        try simp only [Act.put, List.setIfInBounds_toArray, List.set_cons_zero, List.set_cons_succ]
        refine wpAnyN_take (i := 11) (oi := { dst := some 24, op := Go.Op.call { callee := Go.Callee.value (Go.Operand.func 85), args := #[Go.Operand.tmp 23], argTypes := #[3] }, type := 4, pos := "hand.go:59", after := #[{ on := 10, ground := Go.Ground.data }, { on := 8, ground := Go.Ground.chain }, { on := 8, ground := Go.Ground.guard }], guard := some (8, false) }) (v := undef) rfl (by decide) (by kernel_rfl) (by kernel_rfl) (by kernel_rfl) (fun _ _ _ h => h) (Or.inr ⟨by rfl, rfl⟩) hS1 ?_
        try simp only [Act.put, List.setIfInBounds_toArray, List.set_cons_zero, List.set_cons_succ]
        refine wpAnyN_take (i := 12) (oi := { dst := some 25, op := Go.Op.move (Go.Operand.tmp 24), type := 4, pos := "hand.go:59", after := #[{ on := 11, ground := Go.Ground.data }, { on := 11, ground := Go.Ground.chain }, { on := 8, ground := Go.Ground.guard }], guard := some (8, false) }) (v := undef) rfl (by decide) (by kernel_rfl) (by kernel_rfl) (by kernel_rfl) (fun _ _ _ h => h) (Or.inr ⟨by rfl, rfl⟩) hS1 ?_
        try simp only [Act.put, List.setIfInBounds_toArray, List.set_cons_zero, List.set_cons_succ]
        refine wpAnyN_take (i := 13) (oi := { dst := some 26, op := Go.Op.fieldAddr 40 (Go.Operand.tmp 3) 2, type := 0, pos := "hand.go:59", after := #[{ on := 12, ground := Go.Ground.guard }], guard := some (12, true) }) (v := undef) rfl (by decide) (by kernel_rfl) (by kernel_rfl) (by kernel_rfl) (fun _ _ _ h => h) (Or.inr ⟨by rfl, rfl⟩) hS1 ?_
        try simp only [Act.put, List.setIfInBounds_toArray, List.set_cons_zero, List.set_cons_succ]
        refine wpAnyN_take (i := 14) (oi := { dst := some 27, op := Go.Op.load 38 (Go.Operand.tmp 26), type := 38, pos := "hand.go:59", after := #[{ on := 13, ground := Go.Ground.data }, { on := 12, ground := Go.Ground.guard }], guard := some (12, true) }) (v := undef) rfl (by decide) (by kernel_rfl) (by kernel_rfl) (by kernel_rfl) (fun _ _ _ h => h) (Or.inr ⟨by rfl, rfl⟩) hS1 ?_
        try simp only [Act.put, List.setIfInBounds_toArray, List.set_cons_zero, List.set_cons_succ]
        refine wpAnyN_take (i := 15) (oi := { dst := some 28, op := Go.Op.call { callee := Go.Callee.value (Go.Operand.func 78), args := #[Go.Operand.tmp 27], argTypes := #[38] }, type := 4, pos := "hand.go:59", after := #[{ on := 14, ground := Go.Ground.data }, { on := 12, ground := Go.Ground.chain }, { on := 12, ground := Go.Ground.guard }], guard := some (12, true) }) (v := undef) rfl (by decide) (by kernel_rfl) (by kernel_rfl) (by kernel_rfl) (fun _ _ _ h => h) (Or.inr ⟨by rfl, rfl⟩) hS1 ?_
        try simp only [Act.put, List.setIfInBounds_toArray, List.set_cons_zero, List.set_cons_succ]
        refine wpAnyN_take (i := 16) (oi := { dst := some 29, op := Go.Op.unOp Go.UnOp.not 4 (Go.Operand.tmp 28), type := 4, pos := "hand.go:59", after := #[{ on := 15, ground := Go.Ground.data }, { on := 12, ground := Go.Ground.guard }], guard := some (12, true) }) (v := undef) rfl (by decide) (by kernel_rfl) (by kernel_rfl) (by kernel_rfl) (fun _ _ _ h => h) (Or.inr ⟨by rfl, rfl⟩) hS1 ?_
        try simp only [Act.put, List.setIfInBounds_toArray, List.set_cons_zero, List.set_cons_succ]
        refine wpAnyN_take (i := 17) (oi := { dst := some 30, op := Go.Op.pick (Go.Operand.tmp 25) (Go.Operand.tmp 29) (Go.Operand.const (Go.Value.bool false)), type := 4, pos := "hand.go:59", after := #[{ on := 12, ground := Go.Ground.data }, { on := 16, ground := Go.Ground.data }, { on := 8, ground := Go.Ground.guard }], guard := some (8, false) }) (v := undef) rfl (by decide) (by kernel_rfl) (by kernel_rfl) (by kernel_rfl) (fun _ _ _ h => h) (Or.inr ⟨by rfl, rfl⟩) hS1 ?_
        try simp only [Act.put, List.setIfInBounds_toArray, List.set_cons_zero, List.set_cons_succ]
        refine wpAnyN_take (i := 18) (oi := { dst := some 31, op := Go.Op.pick (Go.Operand.tmp 21) (Go.Operand.const (Go.Value.bool true)) (Go.Operand.tmp 30), type := 4, pos := "hand.go:59", after := #[{ on := 8, ground := Go.Ground.data }, { on := 17, ground := Go.Ground.data }], guard := none }) (v := .bool true) rfl (by decide) (by kernel_rfl) (by kernel_rfl) (by kernel_rfl) (fun _ _ _ h => h) (Or.inl ⟨by rfl, ?_⟩) hS1 ?_
        · intro W9 hS9
          obtain ⟨q0, q1⟩ := hS9
          clear q0 q1
          go_simp
        try simp only [Act.put, List.setIfInBounds_toArray, List.set_cons_zero, List.set_cons_succ]
        refine wpAnyX_end (by kernel_rfl) ?_
        clear hS0 hS1
        go_wp2_with fail
        exact ⟨rfl, Or.inr ⟨by rw [HRA.out]; show (2 : Int) ≠ 0; decide, by rw [HRA.out]; rfl, HB1.out, HK1.out, _, _, _, _, _, HX1.out.bx⟩⟩
      | true =>
        have hg0 := HOB.out rfl
        cases z2 with
        | false =>
          have HRA := Lib.hid (show R = actM m ⟨kd, gr, i, q⟩ by rw [HRR.out]; unfold stepM; rw [HWH2.out]; rfl)
          have HG0 := Lib.hid hg0
          clear HRR HWH2 HENT HOB HAB HKD hg0
          go_enter Try.func76, Try.ntmps76
          go_wp2_with fail
          rw [← hW]
          clear hW
          go_wp2_with fail
          refine wp_region_X (fun W' => Rows8 W' H 95 #[.slice sa sn sc, .slice pa pn pc, .slice ha hn hc, .slice ba bn bc, .slice ta tn tc] ∧ Rows8 W' w.heap.size 40 #[.int .i64 kd, .int .i64 gr, .int .i64 i, .int .u64 (q : Nat)]) 19 (by kernel_rfl) ?_
          have hS0 : Rows8 W.drew H 95 #[.slice sa sn sc, .slice pa pn pc, .slice ha hn hc, .slice ba bn bc, .slice ta tn tc] ∧ Rows8 W.drew w.heap.size 40 #[.int .i64 kd, .int .i64 gr, .int .i64 i, .int .u64 (q : Nat)] := ⟨HX.out.bx.drewA, HR0.out.drewA⟩
          have HX0 := Lib.hid HX.out.drew
          have HB0 := Lib.hid HAL.out.drew
          have HK0 := Lib.hid HKF.out.drew
          clear HX HAL HKF HR0
          generalize W.drew = Wd at *
          refine wpAnyN_take (i := 0) (oi := { dst := some 13, op := Go.Op.move (Go.Operand.tmp 0), type := 117, pos := "hand.go:59", after := #[], guard := none }) (v := .pointer (some ⟨H, 0, none⟩)) rfl (by decide) (by kernel_rfl) (by kernel_rfl) (by kernel_rfl) (fun _ _ _ h => h) (Or.inl ⟨by rfl, ?_⟩) hS0 ?_
          · intro W9 hS9
            obtain ⟨q0, q1⟩ := hS9
            clear q0 q1
            go_simp
          try simp only [Act.put, List.setIfInBounds_toArray, List.set_cons_zero, List.set_cons_succ]
          refine wpAnyN_take (i := 1) (oi := { dst := some 14, op := Go.Op.nilCheck (Go.Operand.tmp 13), type := 0, pos := "hand.go:59", after := #[{ on := 0, ground := Go.Ground.data }], guard := none }) (v := .pointer (some ⟨H, 0, none⟩)) rfl (by decide) (by kernel_rfl) (by kernel_rfl) (by kernel_rfl) (fun _ _ _ h => h) (Or.inl ⟨by rfl, ?_⟩) hS0 ?_
          · intro W9 hS9
            obtain ⟨q0, q1⟩ := hS9
            clear q0 q1
            go_simp
          try simp only [Act.put, List.setIfInBounds_toArray, List.set_cons_zero, List.set_cons_succ]
          refine wpAnyN_take (i := 2) (oi := { dst := some 15, op := Go.Op.fieldAddr 95 (Go.Operand.tmp 14) 0, type := 0, pos := "hand.go:59", after := #[{ on := 1, ground := Go.Ground.data }], guard := none }) (v := .pointer (some ⟨H, 0, none⟩)) rfl (by decide) (by kernel_rfl) (by kernel_rfl) (by kernel_rfl) (fun _ _ _ h => h) (Or.inl ⟨by rfl, ?_⟩) hS0 ?_
          · intro W9 hS9
            obtain ⟨q0, q1⟩ := hS9
            clear q0 q1
            go_simp
          try simp only [Act.put, List.setIfInBounds_toArray, List.set_cons_zero, List.set_cons_succ]
          refine wpAnyN_take (i := 3) (oi := { dst := some 16, op := Go.Op.load 79 (Go.Operand.tmp 15), type := 79, pos := "hand.go:59", after := #[{ on := 2, ground := Go.Ground.data }], guard := none }) (v := .agg #[.slice sa sn sc, .slice pa pn pc, .slice ha hn hc, .slice ba bn bc]) rfl (by decide) (by kernel_rfl) (by kernel_rfl) (by kernel_rfl) (fun _ _ _ h => h) (Or.inl ⟨by rfl, ?_⟩) hS0 ?_
          · intro W9 hS9
            obtain ⟨q0, q1⟩ := hS9
            have s0 : W9.cell? ⟨H, 0, none⟩ = some (.slice sa sn sc) := q0.cell 0
            have s1 : W9.cell? ⟨H, 1, none⟩ = some (.slice pa pn pc) := q0.cell 1
            have s2 : W9.cell? ⟨H, 2, none⟩ = some (.slice ha hn hc) := q0.cell 2
            have s3 : W9.cell? ⟨H, 3, none⟩ = some (.slice ba bn bc) := q0.cell 3
            clear q0 q1
            go_simp
          try simp only [Act.put, List.setIfInBounds_toArray, List.set_cons_zero, List.set_cons_succ]
          refine wpAnyN_take (i := 4) (oi := { dst := some 17, op := Go.Op.fieldAddr 40 (Go.Operand.tmp 3) 1, type := 0, pos := "hand.go:59", after := #[], guard := none }) (v := .pointer (some ⟨w.heap.size, 1, none⟩)) rfl (by decide) (by kernel_rfl) (by kernel_rfl) (by kernel_rfl) (fun _ _ _ h => h) (Or.inl ⟨by rfl, ?_⟩) hS0 ?_
          · intro W9 hS9
            obtain ⟨q0, q1⟩ := hS9
            clear q0 q1
            go_simp
          try simp only [Act.put, List.setIfInBounds_toArray, List.set_cons_zero, List.set_cons_succ]
          refine wpAnyN_take (i := 5) (oi := { dst := some 18, op := Go.Op.load 3 (Go.Operand.tmp 17), type := 3, pos := "hand.go:59", after := #[{ on := 4, ground := Go.Ground.data }], guard := none }) (v := .int .i64 gr) rfl (by decide) (by kernel_rfl) (by kernel_rfl) (by kernel_rfl) (fun _ _ _ h => h) (Or.inl ⟨by rfl, ?_⟩) hS0 ?_
          · intro W9 hS9
            obtain ⟨q0, q1⟩ := hS9
            have s1 : W9.cell? ⟨w.heap.size, 1, none⟩ = some (.int .i64 gr) := q1.cell 1
            clear q0 q1
            go_simp
          try simp only [Act.put, List.setIfInBounds_toArray, List.set_cons_zero, List.set_cons_succ]
          refine wpAnyX_one (i := 6) (o := { dst := some 19, op := Go.Op.call { callee := Go.Callee.value (Go.Operand.func 48), args := #[Go.Operand.tmp 16, Go.Operand.tmp 18], argTypes := #[79, 3] }, type := 4, pos := "hand.go:59", after := #[{ on := 3, ground := Go.Ground.data }, { on := 5, ground := Go.Ground.data }], guard := none }) (by kernel_rfl) rfl (fun K hK => ?_)
          refine step_call_g (by rfl) 48 _ _ rfl (fun _ _ => by kernel_rfl) #[.agg #[.slice sa sn sc, .slice pa pn pc, .slice ha hn hc, .slice ba bn bc], .int .i64 gr] (by simp [go_sem]) _ (HONE Wd).out ?_
          rintro e w1 ⟨rfl, hC⟩
          refine ⟨_, rfl, ?_⟩
          have hS1 : Rows8 w1 H 95 #[.slice sa sn sc, .slice pa pn pc, .slice ha hn hc, .slice ba bn bc, .slice ta tn tc] ∧ Rows8 w1 w.heap.size 40 #[.int .i64 kd, .int .i64 gr, .int .i64 i, .int .u64 (q : Nat)] := ⟨hS0.1.below hC hS0.1.lt, hS0.2.below hC hS0.2.lt⟩
          have HX1 := Lib.hid (HX0.out.below hC)
          have HB1 := Lib.hid (HB0.out.trans (hC.mono (Nat.le_trans hn0 HB0.out.size)))
          have HK1 := Lib.hid (HK0.out.trans (Kf.of_below (T := tM) hC))
          clear hC HX0 HB0 HK0
          refine hK.out _ _ (fun _ => hS1) ?_
          clear hK K
          try simp only [Act.put, List.setIfInBounds_toArray, List.set_cons_zero, List.set_cons_succ]
          refine wpAnyN_take (i := 7) (oi := { dst := some 20, op := Go.Op.unOp Go.UnOp.not 4 (Go.Operand.tmp 19), type := 4, pos := "hand.go:59", after := #[{ on := 6, ground := Go.Ground.data }], guard := none }) (v := .bool false) rfl (by decide) (by kernel_rfl) (by kernel_rfl) (by kernel_rfl) (fun _ _ _ h => h) (Or.inl ⟨by rfl, ?_⟩) hS1 ?_
          · intro W9 hS9
            obtain ⟨q0, q1⟩ := hS9
            clear q0 q1
            go_simp
          try simp only [Act.put, List.setIfInBounds_toArray, List.set_cons_zero, List.set_cons_succ]
          refine wpAnyN_take (i := 8) (oi := { dst := some 21, op := Go.Op.move (Go.Operand.tmp 20), type := 4, pos := "hand.go:59", after := #[{ on := 7, ground := Go.Ground.data }, { on := 6, ground := Go.Ground.chain }], guard := none }) (v := .bool false) rfl (by decide) (by kernel_rfl) (by kernel_rfl) (by kernel_rfl) (fun _ _ _ h => h) (Or.inl ⟨by rfl, ?_⟩) hS1 ?_
          · intro W9 hS9
            obtain ⟨q0, q1⟩ := hS9
            clear q0 q1
            go_simp
          try simp only [Act.put, List.setIfInBounds_toArray, List.set_cons_zero, List.set_cons_succ]
          refine wpAnyN_take (i := 9) (oi := { dst := some 22, op := Go.Op.fieldAddr 40 (Go.Operand.tmp 3) 0, type := 0, pos := "hand.go:59", after := #[{ on := 8, ground := Go.Ground.guard }], guard := some (8, false) }) (v := .pointer (some ⟨w.heap.size, 0, none⟩)) rfl (by decide) (by kernel_rfl) (by kernel_rfl) (by kernel_rfl) (fun _ _ _ h => h) (Or.inl ⟨by rfl, ?_⟩) hS1 ?_
          · intro W9 hS9
            obtain ⟨q0, q1⟩ := hS9
            clear q0 q1
            go_simp
          try simp only [Act.put, List.setIfInBounds_toArray, List.set_cons_zero, List.set_cons_succ]
          refine wpAnyN_take (i := 10) (oi := { dst := some 23, op := Go.Op.load 3 (Go.Operand.tmp 22), type := 3, pos := "hand.go:59", after := #[{ on := 9, ground := Go.Ground.data }, { on := 8, ground := Go.Ground.guard }], guard := some (8, false) }) (v := .int .i64 kd) rfl (by decide) (by kernel_rfl) (by kernel_rfl) (by kernel_rfl) (fun _ _ _ h => h) (Or.inl ⟨by rfl, ?_⟩) hS1 ?_
          · intro W9 hS9
            obtain ⟨q0, q1⟩ := hS9
            have s0 : W9.cell? ⟨w.heap.size, 0, none⟩ = some (.int .i64 kd) := q1.cell 0
            clear q0 q1
            go_simp
          try simp only [Act.put, List.setIfInBounds_toArray, List.set_cons_zero, List.set_cons_succ]
          refine wpAnyX_one (i := 11) (o := { dst := some 24, op := Go.Op.call { callee := Go.Callee.value (Go.Operand.func 85), args := #[Go.Operand.tmp 23], argTypes := #[3] }, type := 4, pos := "hand.go:59", after := #[{ on := 10, ground := Go.Ground.data }, { on := 8, ground := Go.Ground.chain }, { on := 8, ground := Go.Ground.guard }], guard := some (8, false) }) (by kernel_rfl) rfl (fun K hK => ?_)
          refine step_call_g (by rfl) 85 _ _ rfl (fun _ _ => by kernel_rfl) #[.int .i64 kd] (by simp [go_sem]) _ (HASK w1).out ?_
          rintro e w1b ⟨rfl, hw⟩
          refine ⟨_, rfl, ?_⟩
          rw [hw]
          clear hw
          refine hK.out _ _ (fun _ => hS1) ?_
          clear hK K
          try simp only [Act.put, List.setIfInBounds_toArray, List.set_cons_zero, List.set_cons_succ]
          refine wpAnyN_take (i := 12) (oi := { dst := some 25, op := Go.Op.move (Go.Operand.tmp 24), type := 4, pos := "hand.go:59", after := #[{ on := 11, ground := Go.Ground.data }, { on := 11, ground := Go.Ground.chain }, { on := 8, ground := Go.Ground.guard }], guard := some (8, false) }) (v := .bool false) rfl (by decide) (by kernel_rfl) (by kernel_rfl) (by kernel_rfl) (fun _ _ _ h => h) (Or.inl ⟨by rfl, ?_⟩) hS1 ?_
          · intro W9 hS9
            obtain ⟨q0, q1⟩ := hS9
            clear q0 q1
            go_simp
          try simp only [Act.put, List.setIfInBounds_toArray, List.set_cons_zero, List.set_cons_succ]
          refine wpAnyN_take (i := 13) (oi := { dst := some 26, op := Go.Op.fieldAddr 40 (Go.Operand.tmp 3) 2, type := 0, pos := "hand.go:59", after := #[{ on := 12, ground := Go.Ground.guard }], guard := some (12, true) }) (v := undef) rfl (by decide) (by kernel_rfl) (by kernel_rfl) (by kernel_rfl) (fun _ _ _ h => h) (Or.inr ⟨by rfl, rfl⟩) hS1 ?_
          try simp only [Act.put, List.setIfInBounds_toArray, List.set_cons_zero, List.set_cons_succ]
          refine wpAnyN_take (i := 14) (oi := { dst := some 27, op := Go.Op.load 38 (Go.Operand.tmp 26), type := 38, pos := "hand.go:59", after := #[{ on := 13, ground := Go.Ground.data }, { on := 12, ground := Go.Ground.guard }], guard := some (12, true) }) (v := undef) rfl (by decide) (by kernel_rfl) (by kernel_rfl) (by kernel_rfl) (fun _ _ _ h => h) (Or.inr ⟨by rfl, rfl⟩) hS1 ?_
          try simp only [Act.put, List.setIfInBounds_toArray, List.set_cons_zero, List.set_cons_succ]
          refine wpAnyN_take (i := 15) (oi := { dst := some 28, op := Go.Op.call { callee := Go.Callee.value (Go.Operand.func 78), args := #[Go.Operand.tmp 27], argTypes := #[38] }, type := 4, pos := "hand.go:59", after := #[{ on := 14, ground := Go.Ground.data }, { on := 12, ground := Go.Ground.chain }, { on := 12, ground := Go.Ground.guard }], guard := some (12, true) }) (v := undef) rfl (by decide) (by kernel_rfl) (by kernel_rfl) (by kernel_rfl) (fun _ _ _ h => h) (Or.inr ⟨by rfl, rfl⟩) hS1 ?_
          try simp only [Act.put, List.setIfInBounds_toArray, List.set_cons_zero, List.set_cons_succ]
          refine wpAnyN_take (i := 16) (oi := { dst := some 29, op := Go.Op.unOp Go.UnOp.not 4 (Go.Operand.tmp 28), type := 4, pos := "hand.go:59", after := #[{ on := 15, ground := Go.Ground.data }, { on := 12, ground := Go.Ground.guard }], guard := some (12, true) }) (v := undef) rfl (by decide) (by kernel_rfl) (by kernel_rfl) (by kernel_rfl) (fun _ _ _ h => h) (Or.inr ⟨by rfl, rfl⟩) hS1 ?_
          try simp only [Act.put, List.setIfInBounds_toArray, List.set_cons_zero, List.set_cons_succ]
          refine wpAnyN_take (i := 17) (oi := { dst := some 30, op := Go.Op.pick (Go.Operand.tmp 25) (Go.Operand.tmp 29) (Go.Operand.const (Go.Value.bool false)), type := 4, pos := "hand.go:59", after := #[{ on := 12, ground := Go.Ground.data }, { on := 16, ground := Go.Ground.data }, { on := 8, ground := Go.Ground.guard }], guard := some (8, false) }) (v := .bool false) rfl (by decide) (by kernel_rfl) (by kernel_rfl) (by kernel_rfl) (fun _ _ _ h => h) (Or.inl ⟨by rfl, ?_⟩) hS1 ?_
          · intro W9 hS9
            obtain ⟨q0, q1⟩ := hS9
            clear q0 q1
            go_simp
          try simp only [Act.put, List.setIfInBounds_toArray, List.set_cons_zero, List.set_cons_succ]
          refine wpAnyN_take (i := 18) (oi := { dst := some 31, op := Go.Op.pick (Go.Operand.tmp 21) (Go.Operand.const (Go.Value.bool true)) (Go.Operand.tmp 30), type := 4, pos := "hand.go:59", after := #[{ on := 8, ground := Go.Ground.data }, { on := 17, ground := Go.Ground.data }], guard := none }) (v := .bool false) rfl (by decide) (by kernel_rfl) (by kernel_rfl) (by kernel_rfl) (fun _ _ _ h => h) (Or.inl ⟨by rfl, ?_⟩) hS1 ?_
          · intro W9 hS9
            obtain ⟨q0, q1⟩ := hS9
            clear q0 q1
            go_simp
          try simp only [Act.put, List.setIfInBounds_toArray, List.set_cons_zero, List.set_cons_succ]
          refine wpAnyX_end (by kernel_rfl) ?_
          go_wp2_with fail
          refine wp_region_L (fun W' => Rows8 W' w.heap.size 40 #[.int .i64 kd, .int .i64 gr, .int .i64 i, .int .u64 (q : Nat)]) 21 (by kernel_rfl) ?_
          have hS5 : Rows8 w1.drew w.heap.size 40 #[.int .i64 kd, .int .i64 gr, .int .i64 i, .int .u64 (q : Nat)] := hS1.2.drewA
          have HX5 := Lib.hid HX1.out.drew
          have HB5 := Lib.hid HB1.out.drew
          have HK5 := Lib.hid HK1.out.drew
          clear HX1 HB1 HK1 hS0 hS1
          generalize w1.drew = We at *
          refine wpAnyL_takeT (i := 0) (oi := { dst := some 33, op := Go.Op.move (Go.Operand.tmp 0), type := 117, pos := "hand.go:62", after := #[], guard := none }) (v := .pointer (some ⟨H, 0, none⟩)) [1, 16, 19, 21] rfl (by kernel_rfl) (by kernel_rfl) (by kernel_rfl) (by kernel_rfl) (fun _ _ _ h => h) (Or.inl ⟨by rfl, ?_⟩) hS5 ?_
          · intro W9 hS9
            clear hS9
            go_simp
          try simp only [Act.put, List.setIfInBounds_toArray, List.set_cons_zero, List.set_cons_succ]
          refine wpAnyL_takeT (i := 1) (oi := { dst := some 34, op := Go.Op.makeFunc (Go.Fn.func 86) #[Go.Operand.tmp 33] #[], type := 113, pos := "hand.go:62", after := #[{ on := 0, ground := Go.Ground.data }], guard := none }) (v := .func (.func 86) #[.pointer (some ⟨H, 0, none⟩)] #[]) [16, 19, 21] rfl (by kernel_rfl) (by kernel_rfl) (by kernel_rfl) (by kernel_rfl) (fun _ _ _ h => h) (Or.inl ⟨by rfl, ?_⟩) hS5 ?_
          · intro W9 hS9
            clear hS9
            first | (go_simp; done) | kernel_rfl
          try simp only [Act.put, List.setIfInBounds_toArray, List.set_cons_zero, List.set_cons_succ]
          refine wpAnyL_takeT (i := 2) (oi := { dst := some 35, op := Go.Op.move (Go.Operand.tmp 0), type := 117, pos := "hand.go:62", after := #[], guard := none }) (v := .pointer (some ⟨H, 0, none⟩)) [3, 16, 19, 21] rfl (by kernel_rfl) (by kernel_rfl) (by kernel_rfl) (by kernel_rfl) (fun _ _ _ h => h) (Or.inl ⟨by rfl, ?_⟩) hS5 ?_
          · intro W9 hS9
            clear hS9
            go_simp
          try simp only [Act.put, List.setIfInBounds_toArray, List.set_cons_zero, List.set_cons_succ]
          refine wpAnyL_takeT (i := 3) (oi := { dst := some 36, op := Go.Op.makeFunc (Go.Fn.func 87) #[Go.Operand.tmp 35] #[], type := 113, pos := "hand.go:62", after := #[{ on := 2, ground := Go.Ground.data }], guard := none }) (v := .func (.func 87) #[.pointer (some ⟨H, 0, none⟩)] #[]) [16, 19, 21] rfl (by kernel_rfl) (by kernel_rfl) (by kernel_rfl) (by kernel_rfl) (fun _ _ _ h => h) (Or.inl ⟨by rfl, ?_⟩) hS5 ?_
          · intro W9 hS9
            clear hS9
            first | (go_simp; done) | kernel_rfl
          try simp only [Act.put, List.setIfInBounds_toArray, List.set_cons_zero, List.set_cons_succ]
          refine wpAnyL_takeT (i := 4) (oi := { dst := some 37, op := Go.Op.move (Go.Operand.tmp 0), type := 117, pos := "hand.go:62", after := #[], guard := none }) (v := .pointer (some ⟨H, 0, none⟩)) [5, 16, 19, 21] rfl (by kernel_rfl) (by kernel_rfl) (by kernel_rfl) (by kernel_rfl) (fun _ _ _ h => h) (Or.inl ⟨by rfl, ?_⟩) hS5 ?_
          · intro W9 hS9
            clear hS9
            go_simp
          try simp only [Act.put, List.setIfInBounds_toArray, List.set_cons_zero, List.set_cons_succ]
          refine wpAnyL_takeT (i := 5) (oi := { dst := some 38, op := Go.Op.makeFunc (Go.Fn.func 88) #[Go.Operand.tmp 37] #[], type := 113, pos := "hand.go:62", after := #[{ on := 4, ground := Go.Ground.data }], guard := none }) (v := .func (.func 88) #[.pointer (some ⟨H, 0, none⟩)] #[]) [16, 19, 21] rfl (by kernel_rfl) (by kernel_rfl) (by kernel_rfl) (by kernel_rfl) (fun _ _ _ h => h) (Or.inl ⟨by rfl, ?_⟩) hS5 ?_
          · intro W9 hS9
            clear hS9
            first | (go_simp; done) | kernel_rfl
          try simp only [Act.put, List.setIfInBounds_toArray, List.set_cons_zero, List.set_cons_succ]
          refine wpAnyL_takeT (i := 6) (oi := { dst := some 39, op := Go.Op.move (Go.Operand.tmp 0), type := 117, pos := "hand.go:62", after := #[], guard := none }) (v := .pointer (some ⟨H, 0, none⟩)) [7, 16, 19, 21] rfl (by kernel_rfl) (by kernel_rfl) (by kernel_rfl) (by kernel_rfl) (fun _ _ _ h => h) (Or.inl ⟨by rfl, ?_⟩) hS5 ?_
          · intro W9 hS9
            clear hS9
            go_simp
          try simp only [Act.put, List.setIfInBounds_toArray, List.set_cons_zero, List.set_cons_succ]
          refine wpAnyL_takeT (i := 7) (oi := { dst := some 40, op := Go.Op.makeFunc (Go.Fn.func 89) #[Go.Operand.tmp 39] #[], type := 113, pos := "hand.go:62", after := #[{ on := 6, ground := Go.Ground.data }], guard := none }) (v := .func (.func 89) #[.pointer (some ⟨H, 0, none⟩)] #[]) [16, 19, 21] rfl (by kernel_rfl) (by kernel_rfl) (by kernel_rfl) (by kernel_rfl) (fun _ _ _ h => h) (Or.inl ⟨by rfl, ?_⟩) hS5 ?_
          · intro W9 hS9
            clear hS9
            first | (go_simp; done) | kernel_rfl
          try simp only [Act.put, List.setIfInBounds_toArray, List.set_cons_zero, List.set_cons_succ]
          refine wpAnyL_takeT (i := 8) (oi := { dst := some 41, op := Go.Op.move (Go.Operand.tmp 0), type := 117, pos := "hand.go:62", after := #[], guard := none }) (v := .pointer (some ⟨H, 0, none⟩)) [9, 16, 19, 21] rfl (by kernel_rfl) (by kernel_rfl) (by kernel_rfl) (by kernel_rfl) (fun _ _ _ h => h) (Or.inl ⟨by rfl, ?_⟩) hS5 ?_
          · intro W9 hS9
            clear hS9
            go_simp
          try simp only [Act.put, List.setIfInBounds_toArray, List.set_cons_zero, List.set_cons_succ]
          refine wpAnyL_takeT (i := 9) (oi := { dst := some 42, op := Go.Op.makeFunc (Go.Fn.func 89) #[Go.Operand.tmp 41] #[], type := 113, pos := "hand.go:62", after := #[{ on := 8, ground := Go.Ground.data }], guard := none }) (v := .func (.func 89) #[.pointer (some ⟨H, 0, none⟩)] #[]) [16, 19, 21] rfl (by kernel_rfl) (by kernel_rfl) (by kernel_rfl) (by kernel_rfl) (fun _ _ _ h => h) (Or.inl ⟨by rfl, ?_⟩) hS5 ?_
          · intro W9 hS9
            clear hS9
            first | (go_simp; done) | kernel_rfl
          try simp only [Act.put, List.setIfInBounds_toArray, List.set_cons_zero, List.set_cons_succ]
          refine wpAnyL_takeT (i := 10) (oi := { dst := some 43, op := Go.Op.move (Go.Operand.tmp 0), type := 117, pos := "hand.go:62", after := #[], guard := none }) (v := .pointer (some ⟨H, 0, none⟩)) [11, 16, 19, 21] rfl (by kernel_rfl) (by kernel_rfl) (by kernel_rfl) (by kernel_rfl) (fun _ _ _ h => h) (Or.inl ⟨by rfl, ?_⟩) hS5 ?_
          · intro W9 hS9
            clear hS9
            go_simp
          try simp only [Act.put, List.setIfInBounds_toArray, List.set_cons_zero, List.set_cons_succ]
          refine wpAnyL_takeT (i := 11) (oi := { dst := some 44, op := Go.Op.makeFunc (Go.Fn.func 90) #[Go.Operand.tmp 43] #[], type := 113, pos := "hand.go:62", after := #[{ on := 10, ground := Go.Ground.data }], guard := none }) (v := .func (.func 90) #[.pointer (some ⟨H, 0, none⟩)] #[]) [16, 19, 21] rfl (by kernel_rfl) (by kernel_rfl) (by kernel_rfl) (by kernel_rfl) (fun _ _ _ h => h) (Or.inl ⟨by rfl, ?_⟩) hS5 ?_
          · intro W9 hS9
            clear hS9
            first | (go_simp; done) | kernel_rfl
          try simp only [Act.put, List.setIfInBounds_toArray, List.set_cons_zero, List.set_cons_succ]
          refine wpAnyL_takeT (i := 12) (oi := { dst := some 45, op := Go.Op.move (Go.Operand.tmp 0), type := 117, pos := "hand.go:62", after := #[], guard := none }) (v := .pointer (some ⟨H, 0, none⟩)) [13, 16, 19, 21] rfl (by kernel_rfl) (by kernel_rfl) (by kernel_rfl) (by kernel_rfl) (fun _ _ _ h => h) (Or.inl ⟨by rfl, ?_⟩) hS5 ?_
          · intro W9 hS9
            clear hS9
            go_simp
          try simp only [Act.put, List.setIfInBounds_toArray, List.set_cons_zero, List.set_cons_succ]
          refine wpAnyL_takeT (i := 13) (oi := { dst := some 46, op := Go.Op.makeFunc (Go.Fn.func 91) #[Go.Operand.tmp 45] #[], type := 113, pos := "hand.go:62", after := #[{ on := 12, ground := Go.Ground.data }], guard := none }) (v := .func (.func 91) #[.pointer (some ⟨H, 0, none⟩)] #[]) [16, 19, 21] rfl (by kernel_rfl) (by kernel_rfl) (by kernel_rfl) (by kernel_rfl) (fun _ _ _ h => h) (Or.inl ⟨by rfl, ?_⟩) hS5 ?_
          · intro W9 hS9
            clear hS9
            first | (go_simp; done) | kernel_rfl
          try simp only [Act.put, List.setIfInBounds_toArray, List.set_cons_zero, List.set_cons_succ]
          refine wpAnyL_takeT (i := 14) (oi := { dst := some 47, op := Go.Op.move (Go.Operand.tmp 0), type := 117, pos := "hand.go:62", after := #[], guard := none }) (v := .pointer (some ⟨H, 0, none⟩)) [15, 16, 19, 21] rfl (by kernel_rfl) (by kernel_rfl) (by kernel_rfl) (by kernel_rfl) (fun _ _ _ h => h) (Or.inl ⟨by rfl, ?_⟩) hS5 ?_
          · intro W9 hS9
            clear hS9
            go_simp
          try simp only [Act.put, List.setIfInBounds_toArray, List.set_cons_zero, List.set_cons_succ]
          refine wpAnyL_takeT (i := 15) (oi := { dst := some 48, op := Go.Op.makeFunc (Go.Fn.func 92) #[Go.Operand.tmp 47] #[], type := 113, pos := "hand.go:62", after := #[{ on := 14, ground := Go.Ground.data }], guard := none }) (v := .func (.func 92) #[.pointer (some ⟨H, 0, none⟩)] #[]) [16, 19, 21] rfl (by kernel_rfl) (by kernel_rfl) (by kernel_rfl) (by kernel_rfl) (fun _ _ _ h => h) (Or.inl ⟨by rfl, ?_⟩) hS5 ?_
          · intro W9 hS9
            clear hS9
            first | (go_simp; done) | kernel_rfl
          try simp only [Act.put, List.setIfInBounds_toArray, List.set_cons_zero, List.set_cons_succ]
          refine wpAnyL_takeT (i := 16) (oi := { dst := some 49, op := Go.Op.build 118 #[(1, Go.Operand.tmp 34), (2, Go.Operand.tmp 36), (3, Go.Operand.tmp 38), (4, Go.Operand.tmp 40), (5, Go.Operand.tmp 42), (6, Go.Operand.tmp 44), (7, Go.Operand.tmp 46), (8, Go.Operand.tmp 48)], type := 118, pos := "hand.go:62", after := #[{ on := 1, ground := Go.Ground.data }, { on := 3, ground := Go.Ground.data }, { on := 5, ground := Go.Ground.data }, { on := 7, ground := Go.Ground.data }, { on := 9, ground := Go.Ground.data }, { on := 11, ground := Go.Ground.data }, { on := 13, ground := Go.Ground.data }, { on := 15, ground := Go.Ground.data }], guard := none }) (v := .agg #[.nilFunc, .func (.func 86) #[.pointer (some ⟨H, 0, none⟩)] #[], .func (.func 87) #[.pointer (some ⟨H, 0, none⟩)] #[], .func (.func 88) #[.pointer (some ⟨H, 0, none⟩)] #[], .func (.func 89) #[.pointer (some ⟨H, 0, none⟩)] #[], .func (.func 89) #[.pointer (some ⟨H, 0, none⟩)] #[], .func (.func 90) #[.pointer (some ⟨H, 0, none⟩)] #[], .func (.func 91) #[.pointer (some ⟨H, 0, none⟩)] #[], .func (.func 92) #[.pointer (some ⟨H, 0, none⟩)] #[]]) [19, 21] rfl (by kernel_rfl) (by kernel_rfl) (by kernel_rfl) (by kernel_rfl) (fun _ _ _ h => h) (Or.inl ⟨by rfl, ?_⟩) hS5 ?_
          · intro W9 hS9
            clear hS9
            first | (go_simp; done) | kernel_rfl
          try simp only [Act.put, List.setIfInBounds_toArray, List.set_cons_zero, List.set_cons_succ]
          refine wpAnyL_takeT (i := 17) (oi := { dst := some 50, op := Go.Op.fieldAddr 40 (Go.Operand.tmp 3) 0, type := 0, pos := "hand.go:62", after := #[], guard := none }) (v := .pointer (some ⟨w.heap.size, 0, none⟩)) [18, 19, 21] rfl (by kernel_rfl) (by kernel_rfl) (by kernel_rfl) (by kernel_rfl) (fun _ _ _ h => h) (Or.inl ⟨by rfl, ?_⟩) hS5 ?_
          · intro W9 hS9
            clear hS9
            go_simp
          try simp only [Act.put, List.setIfInBounds_toArray, List.set_cons_zero, List.set_cons_succ]
          refine wpAnyL_takeT (i := 18) (oi := { dst := some 51, op := Go.Op.load 3 (Go.Operand.tmp 50), type := 3, pos := "hand.go:62", after := #[{ on := 17, ground := Go.Ground.data }], guard := none }) (v := .int .i64 kd) [19, 21] rfl (by kernel_rfl) (by kernel_rfl) (by kernel_rfl) (by kernel_rfl) (fun _ _ _ h => h) (Or.inl ⟨by rfl, ?_⟩) hS5 ?_
          · intro W9 hS9
            have s0 : W9.cell? ⟨w.heap.size, 0, none⟩ = some (.int .i64 kd) := hS9.cell 0
            clear hS9
            go_simp
          try simp only [Act.put, List.setIfInBounds_toArray, List.set_cons_zero, List.set_cons_succ]
          have HX5h : Hid (Hd H n₀ m tk We) := Lib.hid ⟨_, _, _, _, _, HX5.out⟩
          have hg0 := HG0.out
          clear HX5 HASK HONE hk1 hk8 c0
          rcases HAN.out (by trivial) with rfl | rfl | rfl
          · have hRR := HRA.out.trans (act1 m ⟨1, gr, i, q⟩ rfl)
            have hcon := Try.pin_any H n₀ m tk ⟨1, gr, i, q⟩ We HX5h.out hg0 (Nat.le_trans hn0 HB5.out.size)
            dsimp only [Wt.ent] at hcon hRR
            rw [← hRR] at hcon
            have HCON := Lib.hid hcon
            clear hRR hcon
            refine wpAnyL_takeT (i := 19) (oi := { dst := some 52, op := Go.Op.index 118 (Go.Operand.tmp 49) (Go.Operand.tmp 51), type := 113, pos := "hand.go:62", after := #[{ on := 16, ground := Go.Ground.data }, { on := 18, ground := Go.Ground.data }], guard := none }) (v := .func (.func 86) #[.pointer (some ⟨H, 0, none⟩)] #[]) [21] rfl (by kernel_rfl) (by kernel_rfl) (by kernel_rfl) (by kernel_rfl) (fun _ _ _ h => h) (Or.inl ⟨by rfl, ?_⟩) hS5 ?_
            · intro W9 hS9
              clear hS9
              first | (go_simp; done) | kernel_rfl
            try simp only [Act.put, List.setIfInBounds_toArray, List.set_cons_zero, List.set_cons_succ]
            refine wpAnyL_takeT (i := 20) (oi := { dst := some 53, op := Go.Op.load 40 (Go.Operand.tmp 3), type := 40, pos := "hand.go:62", after := #[], guard := none }) (v := .agg #[.int .i64 1, .int .i64 gr, .int .i64 i, .int .u64 (q : Nat)]) [21] rfl (by kernel_rfl) (by kernel_rfl) (by kernel_rfl) (by kernel_rfl) (fun _ _ _ h => h) (Or.inl ⟨by rfl, ?_⟩) hS5 ?_
            · intro W9 hS9
              have s0 : W9.cell? ⟨w.heap.size, 0, none⟩ = some (.int .i64 1) := hS9.cell 0
              have s1 : W9.cell? ⟨w.heap.size, 1, none⟩ = some (.int .i64 gr) := hS9.cell 1
              have s2 : W9.cell? ⟨w.heap.size, 2, none⟩ = some (.int .i64 i) := hS9.cell 2
              have s3 : W9.cell? ⟨w.heap.size, 3, none⟩ = some (.int .u64 (q : Nat)) := hS9.cell 3
              clear hS9
              go_simp
            try simp only [Act.put, List.setIfInBounds_toArray, List.set_cons_zero, List.set_cons_succ]
            refine wpAnyL_one (i := 21) (o := { dst := some 54, op := Go.Op.call { callee := Go.Callee.value (Go.Operand.tmp 52), args := #[Go.Operand.tmp 53], argTypes := #[40] }, type := 0, pos := "hand.go:71", after := #[{ on := 19, ground := Go.Ground.data }, { on := 20, ground := Go.Ground.data }], guard := none }) (by kernel_rfl) rfl (fun K hK => ?_)
            refine step_call_v (by rfl) 86 _ _ _ rfl #[.pointer (some ⟨H, 0, none⟩)] (by simp [go_sem]) (fun _ _ => by kernel_rfl) #[.pointer (some ⟨H, 0, none⟩), .agg #[.int .i64 1, .int .i64 gr, .int .i64 i, .int .u64 (q : Nat)]] (by simp [go_sem]) _ HCON.out ?_
            intro e w9 hQ
            have hQ9 := HdQ.behind HB5.out HK5.out hQ
            rcases hQ with ⟨q1, rfl, q2⟩ | ⟨q1, rfl, q2⟩
            · refine Or.inl ⟨_, rfl, ?_⟩
              have HQ9 := Lib.hid hQ9
              clear hQ9 q1 q2 hS5 HB5 HK5 HX5h
              refine hK.out _ _ (fun h => absurd h (by decide)) ?_
              clear hK K
              try simp only [Act.put, List.setIfInBounds_toArray, List.set_cons_zero, List.set_cons_succ]
              refine wpAnyL_end (by kernel_rfl) ?_
              go_wp2_with fail
              go_end0
              exact HQ9.out
            · refine Or.inr ⟨_, rfl, ?_⟩
              unfold panicA at hQ9 ⊢
              exact ⟨rfl, hQ9⟩
          · have hRR := HRA.out.trans (act2 m ⟨2, gr, i, q⟩ rfl)
            have hcon := Try.unpin_any H n₀ m tk ⟨2, gr, i, q⟩ We HX5h.out hg0 hl (Nat.le_trans hn0 HB5.out.size)
            dsimp only [Wt.ent] at hcon hRR
            rw [← hRR] at hcon
            have HCON := Lib.hid hcon
            clear hRR hcon
            refine wpAnyL_takeT (i := 19) (oi := { dst := some 52, op := Go.Op.index 118 (Go.Operand.tmp 49) (Go.Operand.tmp 51), type := 113, pos := "hand.go:62", after := #[{ on := 16, ground := Go.Ground.data }, { on := 18, ground := Go.Ground.data }], guard := none }) (v := .func (.func 87) #[.pointer (some ⟨H, 0, none⟩)] #[]) [21] rfl (by kernel_rfl) (by kernel_rfl) (by kernel_rfl) (by kernel_rfl) (fun _ _ _ h => h) (Or.inl ⟨by rfl, ?_⟩) hS5 ?_
            · intro W9 hS9
              clear hS9
              first | (go_simp; done) | kernel_rfl
            try simp only [Act.put, List.setIfInBounds_toArray, List.set_cons_zero, List.set_cons_succ]
            refine wpAnyL_takeT (i := 20) (oi := { dst := some 53, op := Go.Op.load 40 (Go.Operand.tmp 3), type := 40, pos := "hand.go:62", after := #[], guard := none }) (v := .agg #[.int .i64 2, .int .i64 gr, .int .i64 i, .int .u64 (q : Nat)]) [21] rfl (by kernel_rfl) (by kernel_rfl) (by kernel_rfl) (by kernel_rfl) (fun _ _ _ h => h) (Or.inl ⟨by rfl, ?_⟩) hS5 ?_
            · intro W9 hS9
              have s0 : W9.cell? ⟨w.heap.size, 0, none⟩ = some (.int .i64 2) := hS9.cell 0
              have s1 : W9.cell? ⟨w.heap.size, 1, none⟩ = some (.int .i64 gr) := hS9.cell 1
              have s2 : W9.cell? ⟨w.heap.size, 2, none⟩ = some (.int .i64 i) := hS9.cell 2
              have s3 : W9.cell? ⟨w.heap.size, 3, none⟩ = some (.int .u64 (q : Nat)) := hS9.cell 3
              clear hS9
              go_simp
            try simp only [Act.put, List.setIfInBounds_toArray, List.set_cons_zero, List.set_cons_succ]
            refine wpAnyL_one (i := 21) (o := { dst := some 54, op := Go.Op.call { callee := Go.Callee.value (Go.Operand.tmp 52), args := #[Go.Operand.tmp 53], argTypes := #[40] }, type := 0, pos := "hand.go:71", after := #[{ on := 19, ground := Go.Ground.data }, { on := 20, ground := Go.Ground.data }], guard := none }) (by kernel_rfl) rfl (fun K hK => ?_)
            refine step_call_v (by rfl) 87 _ _ _ rfl #[.pointer (some ⟨H, 0, none⟩)] (by simp [go_sem]) (fun _ _ => by kernel_rfl) #[.pointer (some ⟨H, 0, none⟩), .agg #[.int .i64 2, .int .i64 gr, .int .i64 i, .int .u64 (q : Nat)]] (by simp [go_sem]) _ HCON.out ?_
            intro e w9 hQ
            have hQ9 := HdQ.behind HB5.out HK5.out hQ
            rcases hQ with ⟨q1, rfl, q2⟩ | ⟨q1, rfl, q2⟩
            · refine Or.inl ⟨_, rfl, ?_⟩
              have HQ9 := Lib.hid hQ9
              clear hQ9 q1 q2 hS5 HB5 HK5 HX5h
              refine hK.out _ _ (fun h => absurd h (by decide)) ?_
              clear hK K
              try simp only [Act.put, List.setIfInBounds_toArray, List.set_cons_zero, List.set_cons_succ]
              refine wpAnyL_end (by kernel_rfl) ?_
              go_wp2_with fail
              go_end0
              exact HQ9.out
            · refine Or.inr ⟨_, rfl, ?_⟩
              unfold panicA at hQ9 ⊢
              exact ⟨rfl, hQ9⟩
          · have hRR := HRA.out.trans (act6 m ⟨6, gr, i, q⟩ rfl)
            have hcon := Try.take_anyM H n₀ m tk ⟨6, gr, i, q⟩ We HX5h.out hk hl htk hg0 (Nat.le_trans hn0 HB5.out.size) hH
            dsimp only [Wt.ent] at hcon hRR
            rw [← hRR] at hcon
            have HCON := Lib.hid hcon
            clear hRR hcon
            refine wpAnyL_takeT (i := 19) (oi := { dst := some 52, op := Go.Op.index 118 (Go.Operand.tmp 49) (Go.Operand.tmp 51), type := 113, pos := "hand.go:62", after := #[{ on := 16, ground := Go.Ground.data }, { on := 18, ground := Go.Ground.data }], guard := none }) (v := .func (.func 90) #[.pointer (some ⟨H, 0, none⟩)] #[]) [21] rfl (by kernel_rfl) (by kernel_rfl) (by kernel_rfl) (by kernel_rfl) (fun _ _ _ h => h) (Or.inl ⟨by rfl, ?_⟩) hS5 ?_
            · intro W9 hS9
              clear hS9
              first | (go_simp; done) | kernel_rfl
            try simp only [Act.put, List.setIfInBounds_toArray, List.set_cons_zero, List.set_cons_succ]
            refine wpAnyL_takeT (i := 20) (oi := { dst := some 53, op := Go.Op.load 40 (Go.Operand.tmp 3), type := 40, pos := "hand.go:62", after := #[], guard := none }) (v := .agg #[.int .i64 6, .int .i64 gr, .int .i64 i, .int .u64 (q : Nat)]) [21] rfl (by kernel_rfl) (by kernel_rfl) (by kernel_rfl) (by kernel_rfl) (fun _ _ _ h => h) (Or.inl ⟨by rfl, ?_⟩) hS5 ?_
            · intro W9 hS9
              have s0 : W9.cell? ⟨w.heap.size, 0, none⟩ = some (.int .i64 6) := hS9.cell 0
              have s1 : W9.cell? ⟨w.heap.size, 1, none⟩ = some (.int .i64 gr) := hS9.cell 1
              have s2 : W9.cell? ⟨w.heap.size, 2, none⟩ = some (.int .i64 i) := hS9.cell 2
              have s3 : W9.cell? ⟨w.heap.size, 3, none⟩ = some (.int .u64 (q : Nat)) := hS9.cell 3
              clear hS9
              go_simp
            try simp only [Act.put, List.setIfInBounds_toArray, List.set_cons_zero, List.set_cons_succ]
            refine wpAnyL_one (i := 21) (o := { dst := some 54, op := Go.Op.call { callee := Go.Callee.value (Go.Operand.tmp 52), args := #[Go.Operand.tmp 53], argTypes := #[40] }, type := 0, pos := "hand.go:71", after := #[{ on := 19, ground := Go.Ground.data }, { on := 20, ground := Go.Ground.data }], guard := none }) (by kernel_rfl) rfl (fun K hK => ?_)
            refine step_call_v (by rfl) 90 _ _ _ rfl #[.pointer (some ⟨H, 0, none⟩)] (by simp [go_sem]) (fun _ _ => by kernel_rfl) #[.pointer (some ⟨H, 0, none⟩), .agg #[.int .i64 6, .int .i64 gr, .int .i64 i, .int .u64 (q : Nat)]] (by simp [go_sem]) _ HCON.out ?_
            intro e w9 hQ
            have hQ9 := HdQ.behind HB5.out HK5.out hQ
            rcases hQ with ⟨q1, rfl, q2⟩ | ⟨q1, rfl, q2⟩
            · refine Or.inl ⟨_, rfl, ?_⟩
              have HQ9 := Lib.hid hQ9
              clear hQ9 q1 q2 hS5 HB5 HK5 HX5h
              refine hK.out _ _ (fun h => absurd h (by decide)) ?_
              clear hK K
              try simp only [Act.put, List.setIfInBounds_toArray, List.set_cons_zero, List.set_cons_succ]
              refine wpAnyL_end (by kernel_rfl) ?_
              go_wp2_with fail
              go_end0
              exact HQ9.out
            · refine Or.inr ⟨_, rfl, ?_⟩
              unfold panicA at hQ9 ⊢
              exact ⟨rfl, hQ9⟩
        | true =>
          cases z3 with
          | false =>
            have HRA := Lib.hid (show R = (2, m, []) by rw [HRR.out]; unfold stepM; rw [HWH2.out]; rfl)
            clear HRR HWH2 HOB HAB HAN HKD hg0
            go_enter Try.func76, Try.ntmps76
            go_wp2_with fail
            rw [← hW]
            clear hW
            go_wp2_with fail
            refine wp_region_X (fun W' => Rows8 W' H 95 #[.slice sa sn sc, .slice pa pn pc, .slice ha hn hc, .slice ba bn bc, .slice ta tn tc] ∧ Rows8 W' w.heap.size 40 #[.int .i64 kd, .int .i64 gr, .int .i64 i, .int .u64 (q : Nat)]) 19 (by kernel_rfl) ?_
            have hS0 : Rows8 W.drew H 95 #[.slice sa sn sc, .slice pa pn pc, .slice ha hn hc, .slice ba bn bc, .slice ta tn tc] ∧ Rows8 W.drew w.heap.size 40 #[.int .i64 kd, .int .i64 gr, .int .i64 i, .int .u64 (q : Nat)] := ⟨HX.out.bx.drewA, HR0.out.drewA⟩
            have HX0 := Lib.hid HX.out.drew
            have HB0 := Lib.hid HAL.out.drew
            have HK0 := Lib.hid HKF.out.drew
            clear HX HAL HKF HR0
            generalize W.drew = Wd at *
            refine wpAnyN_take (i := 0) (oi := { dst := some 13, op := Go.Op.move (Go.Operand.tmp 0), type := 117, pos := "hand.go:59", after := #[], guard := none }) (v := .pointer (some ⟨H, 0, none⟩)) rfl (by decide) (by kernel_rfl) (by kernel_rfl) (by kernel_rfl) (fun _ _ _ h => h) (Or.inl ⟨by rfl, ?_⟩) hS0 ?_
            · intro W9 hS9
              obtain ⟨q0, q1⟩ := hS9
              clear q0 q1
              go_simp
            try simp only [Act.put, List.setIfInBounds_toArray, List.set_cons_zero, List.set_cons_succ]
            refine wpAnyN_take (i := 1) (oi := { dst := some 14, op := Go.Op.nilCheck (Go.Operand.tmp 13), type := 0, pos := "hand.go:59", after := #[{ on := 0, ground := Go.Ground.data }], guard := none }) (v := .pointer (some ⟨H, 0, none⟩)) rfl (by decide) (by kernel_rfl) (by kernel_rfl) (by kernel_rfl) (fun _ _ _ h => h) (Or.inl ⟨by rfl, ?_⟩) hS0 ?_
            · intro W9 hS9
              obtain ⟨q0, q1⟩ := hS9
              clear q0 q1
              go_simp
            try simp only [Act.put, List.setIfInBounds_toArray, List.set_cons_zero, List.set_cons_succ]
            refine wpAnyN_take (i := 2) (oi := { dst := some 15, op := Go.Op.fieldAddr 95 (Go.Operand.tmp 14) 0, type := 0, pos := "hand.go:59", after := #[{ on := 1, ground := Go.Ground.data }], guard := none }) (v := .pointer (some ⟨H, 0, none⟩)) rfl (by decide) (by kernel_rfl) (by kernel_rfl) (by kernel_rfl) (fun _ _ _ h => h) (Or.inl ⟨by rfl, ?_⟩) hS0 ?_
            · intro W9 hS9
              obtain ⟨q0, q1⟩ := hS9
              clear q0 q1
              go_simp
            try simp only [Act.put, List.setIfInBounds_toArray, List.set_cons_zero, List.set_cons_succ]
            refine wpAnyN_take (i := 3) (oi := { dst := some 16, op := Go.Op.load 79 (Go.Operand.tmp 15), type := 79, pos := "hand.go:59", after := #[{ on := 2, ground := Go.Ground.data }], guard := none }) (v := .agg #[.slice sa sn sc, .slice pa pn pc, .slice ha hn hc, .slice ba bn bc]) rfl (by decide) (by kernel_rfl) (by kernel_rfl) (by kernel_rfl) (fun _ _ _ h => h) (Or.inl ⟨by rfl, ?_⟩) hS0 ?_
            · intro W9 hS9
              obtain ⟨q0, q1⟩ := hS9
              have s0 : W9.cell? ⟨H, 0, none⟩ = some (.slice sa sn sc) := q0.cell 0
              have s1 : W9.cell? ⟨H, 1, none⟩ = some (.slice pa pn pc) := q0.cell 1
              have s2 : W9.cell? ⟨H, 2, none⟩ = some (.slice ha hn hc) := q0.cell 2
              have s3 : W9.cell? ⟨H, 3, none⟩ = some (.slice ba bn bc) := q0.cell 3
              clear q0 q1
              go_simp
            try simp only [Act.put, List.setIfInBounds_toArray, List.set_cons_zero, List.set_cons_succ]
            refine wpAnyN_take (i := 4) (oi := { dst := some 17, op := Go.Op.fieldAddr 40 (Go.Operand.tmp 3) 1, type := 0, pos := "hand.go:59", after := #[], guard := none }) (v := .pointer (some ⟨w.heap.size, 1, none⟩)) rfl (by decide) (by kernel_rfl) (by kernel_rfl) (by kernel_rfl) (fun _ _ _ h => h) (Or.inl ⟨by rfl, ?_⟩) hS0 ?_
            · intro W9 hS9
              obtain ⟨q0, q1⟩ := hS9
              clear q0 q1
              go_simp
            try simp only [Act.put, List.setIfInBounds_toArray, List.set_cons_zero, List.set_cons_succ]
            refine wpAnyN_take (i := 5) (oi := { dst := some 18, op := Go.Op.load 3 (Go.Operand.tmp 17), type := 3, pos := "hand.go:59", after := #[{ on := 4, ground := Go.Ground.data }], guard := none }) (v := .int .i64 gr) rfl (by decide) (by kernel_rfl) (by kernel_rfl) (by kernel_rfl) (fun _ _ _ h => h) (Or.inl ⟨by rfl, ?_⟩) hS0 ?_
            · intro W9 hS9
              obtain ⟨q0, q1⟩ := hS9
              have s1 : W9.cell? ⟨w.heap.size, 1, none⟩ = some (.int .i64 gr) := q1.cell 1
              clear q0 q1
              go_simp
            try simp only [Act.put, List.setIfInBounds_toArray, List.set_cons_zero, List.set_cons_succ]
            refine wpAnyX_one (i := 6) (o := { dst := some 19, op := Go.Op.call { callee := Go.Callee.value (Go.Operand.func 48), args := #[Go.Operand.tmp 16, Go.Operand.tmp 18], argTypes := #[79, 3] }, type := 4, pos := "hand.go:59", after := #[{ on := 3, ground := Go.Ground.data }, { on := 5, ground := Go.Ground.data }], guard := none }) (by kernel_rfl) rfl (fun K hK => ?_)
            refine step_call_g (by rfl) 48 _ _ rfl (fun _ _ => by kernel_rfl) #[.agg #[.slice sa sn sc, .slice pa pn pc, .slice ha hn hc, .slice ba bn bc], .int .i64 gr] (by simp [go_sem]) _ (HONE Wd).out ?_
            rintro e w1 ⟨rfl, hC⟩
            refine ⟨_, rfl, ?_⟩
            have hS1 : Rows8 w1 H 95 #[.slice sa sn sc, .slice pa pn pc, .slice ha hn hc, .slice ba bn bc, .slice ta tn tc] ∧ Rows8 w1 w.heap.size 40 #[.int .i64 kd, .int .i64 gr, .int .i64 i, .int .u64 (q : Nat)] := ⟨hS0.1.below hC hS0.1.lt, hS0.2.below hC hS0.2.lt⟩
            have HX1 := Lib.hid (HX0.out.below hC)
            have HB1 := Lib.hid (HB0.out.trans (hC.mono (Nat.le_trans hn0 HB0.out.size)))
            have HK1 := Lib.hid (HK0.out.trans (Kf.of_below (T := tM) hC))
            clear hC HX0 HB0 HK0
            refine hK.out _ _ (fun _ => hS1) ?_
            clear hK K
            try simp only [Act.put, List.setIfInBounds_toArray, List.set_cons_zero, List.set_cons_succ]
            refine wpAnyN_take (i := 7) (oi := { dst := some 20, op := Go.Op.unOp Go.UnOp.not 4 (Go.Operand.tmp 19), type := 4, pos := "hand.go:59", after := #[{ on := 6, ground := Go.Ground.data }], guard := none }) (v := .bool false) rfl (by decide) (by kernel_rfl) (by kernel_rfl) (by kernel_rfl) (fun _ _ _ h => h) (Or.inl ⟨by rfl, ?_⟩) hS1 ?_
            · intro W9 hS9
              obtain ⟨q0, q1⟩ := hS9
              clear q0 q1
              go_simp
            try simp only [Act.put, List.setIfInBounds_toArray, List.set_cons_zero, List.set_cons_succ]
            refine wpAnyN_take (i := 8) (oi := { dst := some 21, op := Go.Op.move (Go.Operand.tmp 20), type := 4, pos := "hand.go:59", after := #[{ on := 7, ground := Go.Ground.data }, { on := 6, ground := Go.Ground.chain }], guard := none }) (v := .bool false) rfl (by decide) (by kernel_rfl) (by kernel_rfl) (by kernel_rfl) (fun _ _ _ h => h) (Or.inl ⟨by rfl, ?_⟩) hS1 ?_
            · intro W9 hS9
              obtain ⟨q0, q1⟩ := hS9
              clear q0 q1
              go_simp
            try simp only [Act.put, List.setIfInBounds_toArray, List.set_cons_zero, List.set_cons_succ]
            refine wpAnyN_take (i := 9) (oi := { dst := some 22, op := Go.Op.fieldAddr 40 (Go.Operand.tmp 3) 0, type := 0, pos := "hand.go:59", after := #[{ on := 8, ground := Go.Ground.guard }], guard := some (8, false) }) (v := .pointer (some ⟨w.heap.size, 0, none⟩)) rfl (by decide) (by kernel_rfl) (by kernel_rfl) (by kernel_rfl) (fun _ _ _ h => h) (Or.inl ⟨by rfl, ?_⟩) hS1 ?_
            · intro W9 hS9
              obtain ⟨q0, q1⟩ := hS9
              clear q0 q1
              go_simp
            try simp only [Act.put, List.setIfInBounds_toArray, List.set_cons_zero, List.set_cons_succ]
            refine wpAnyN_take (i := 10) (oi := { dst := some 23, op := Go.Op.load 3 (Go.Operand.tmp 22), type := 3, pos := "hand.go:59", after := #[{ on := 9, ground := Go.Ground.data }, { on := 8, ground := Go.Ground.guard }], guard := some (8, false) }) (v := .int .i64 kd) rfl (by decide) (by kernel_rfl) (by kernel_rfl) (by kernel_rfl) (fun _ _ _ h => h) (Or.inl ⟨by rfl, ?_⟩) hS1 ?_
            · intro W9 hS9
              obtain ⟨q0, q1⟩ := hS9
              have s0 : W9.cell? ⟨w.heap.size, 0, none⟩ = some (.int .i64 kd) := q1.cell 0
              clear q0 q1
              go_simp
            try simp only [Act.put, List.setIfInBounds_toArray, List.set_cons_zero, List.set_cons_succ]
            refine wpAnyX_one (i := 11) (o := { dst := some 24, op := Go.Op.call { callee := Go.Callee.value (Go.Operand.func 85), args := #[Go.Operand.tmp 23], argTypes := #[3] }, type := 4, pos := "hand.go:59", after := #[{ on := 10, ground := Go.Ground.data }, { on := 8, ground := Go.Ground.chain }, { on := 8, ground := Go.Ground.guard }], guard := some (8, false) }) (by kernel_rfl) rfl (fun K hK => ?_)
            refine step_call_g (by rfl) 85 _ _ rfl (fun _ _ => by kernel_rfl) #[.int .i64 kd] (by simp [go_sem]) _ (HASK w1).out ?_
            rintro e w1b ⟨rfl, hw⟩
            refine ⟨_, rfl, ?_⟩
            rw [hw]
            clear hw
            refine hK.out _ _ (fun _ => hS1) ?_
            clear hK K
            try simp only [Act.put, List.setIfInBounds_toArray, List.set_cons_zero, List.set_cons_succ]
            refine wpAnyN_take (i := 12) (oi := { dst := some 25, op := Go.Op.move (Go.Operand.tmp 24), type := 4, pos := "hand.go:59", after := #[{ on := 11, ground := Go.Ground.data }, { on := 11, ground := Go.Ground.chain }, { on := 8, ground := Go.Ground.guard }], guard := some (8, false) }) (v := .bool true) rfl (by decide) (by kernel_rfl) (by kernel_rfl) (by kernel_rfl) (fun _ _ _ h => h) (Or.inl ⟨by rfl, ?_⟩) hS1 ?_
            · intro W9 hS9
              obtain ⟨q0, q1⟩ := hS9
              clear q0 q1
              go_simp
            try simp only [Act.put, List.setIfInBounds_toArray, List.set_cons_zero, List.set_cons_succ]
            refine wpAnyN_take (i := 13) (oi := { dst := some 26, op := Go.Op.fieldAddr 40 (Go.Operand.tmp 3) 2, type := 0, pos := "hand.go:59", after := #[{ on := 12, ground := Go.Ground.guard }], guard := some (12, true) }) (v := .pointer (some ⟨w.heap.size, 2, none⟩)) rfl (by decide) (by kernel_rfl) (by kernel_rfl) (by kernel_rfl) (fun _ _ _ h => h) (Or.inl ⟨by rfl, ?_⟩) hS1 ?_
            · intro W9 hS9
              obtain ⟨q0, q1⟩ := hS9
              clear q0 q1
              go_simp
            try simp only [Act.put, List.setIfInBounds_toArray, List.set_cons_zero, List.set_cons_succ]
            refine wpAnyN_take (i := 14) (oi := { dst := some 27, op := Go.Op.load 38 (Go.Operand.tmp 26), type := 38, pos := "hand.go:59", after := #[{ on := 13, ground := Go.Ground.data }, { on := 12, ground := Go.Ground.guard }], guard := some (12, true) }) (v := .agg #[.int .i64 i, .int .u64 (q : Nat)]) rfl (by decide) (by kernel_rfl) (by kernel_rfl) (by kernel_rfl) (fun _ _ _ h => h) (Or.inl ⟨by rfl, ?_⟩) hS1 ?_
            · intro W9 hS9
              obtain ⟨q0, q1⟩ := hS9
              have s2 : W9.cell? ⟨w.heap.size, 2, none⟩ = some (.int .i64 i) := q1.cell 2
              have s3 : W9.cell? ⟨w.heap.size, 3, none⟩ = some (.int .u64 (q : Nat)) := q1.cell 3
              clear q0 q1
              go_simp
            try simp only [Act.put, List.setIfInBounds_toArray, List.set_cons_zero, List.set_cons_succ]
            refine wpAnyX_one (i := 15) (o := { dst := some 28, op := Go.Op.call { callee := Go.Callee.value (Go.Operand.func 78), args := #[Go.Operand.tmp 27], argTypes := #[38] }, type := 4, pos := "hand.go:59", after := #[{ on := 14, ground := Go.Ground.data }, { on := 12, ground := Go.Ground.chain }, { on := 12, ground := Go.Ground.guard }], guard := some (12, true) }) (by kernel_rfl) rfl (fun K hK => ?_)
            refine step_call_g (by rfl) 78 _ _ rfl (fun _ _ => by kernel_rfl) #[.agg #[.int .i64 i, .int .u64 (q : Nat)]] (by simp [go_sem]) _ (HENT _).out ?_
            rintro e w2 ⟨rfl, hC⟩
            refine ⟨_, rfl, ?_⟩
            have hS2 : Rows8 w2 H 95 #[.slice sa sn sc, .slice pa pn pc, .slice ha hn hc, .slice ba bn bc, .slice ta tn tc] ∧ Rows8 w2 w.heap.size 40 #[.int .i64 kd, .int .i64 gr, .int .i64 i, .int .u64 (q : Nat)] := ⟨hS1.1.below hC hS1.1.lt, hS1.2.below hC hS1.2.lt⟩
            have HX2 := Lib.hid (HX1.out.below hC)
            have HB2 := Lib.hid (HB1.out.trans (hC.mono (Nat.le_trans hn0 HB1.out.size)))
            have HK2 := Lib.hid (HK1.out.trans (Kf.of_below (T := tM) hC))
            clear hC HX1 HB1 HK1
            refine hK.out _ _ (fun _ => hS2) ?_
            clear hK K
            try simp only [Act.put, List.setIfInBounds_toArray, List.set_cons_zero, List.set_cons_succ]
            refine wpAnyN_take (i := 16) (oi := { dst := some 29, op := Go.Op.unOp Go.UnOp.not 4 (Go.Operand.tmp 28), type := 4, pos := "hand.go:59", after := #[{ on := 15, ground := Go.Ground.data }, { on := 12, ground := Go.Ground.guard }], guard := some (12, true) }) (v := .bool true) rfl (by decide) (by kernel_rfl) (by kernel_rfl) (by kernel_rfl) (fun _ _ _ h => h) (Or.inl ⟨by rfl, ?_⟩) hS2 ?_
            · intro W9 hS9
              obtain ⟨q0, q1⟩ := hS9
              clear q0 q1
              go_simp
            try simp only [Act.put, List.setIfInBounds_toArray, List.set_cons_zero, List.set_cons_succ]
            refine wpAnyN_take (i := 17) (oi := { dst := some 30, op := Go.Op.pick (Go.Operand.tmp 25) (Go.Operand.tmp 29) (Go.Operand.const (Go.Value.bool false)), type := 4, pos := "hand.go:59", after := #[{ on := 12, ground := Go.Ground.data }, { on := 16, ground := Go.Ground.data }, { on := 8, ground := Go.Ground.guard }], guard := some (8, false) }) (v := .bool true) rfl (by decide) (by kernel_rfl) (by kernel_rfl) (by kernel_rfl) (fun _ _ _ h => h) (Or.inl ⟨by rfl, ?_⟩) hS2 ?_
            · intro W9 hS9
              obtain ⟨q0, q1⟩ := hS9
              clear q0 q1
              go_simp
            try simp only [Act.put, List.setIfInBounds_toArray, List.set_cons_zero, List.set_cons_succ]
            refine wpAnyN_take (i := 18) (oi := { dst := some 31, op := Go.Op.pick (Go.Operand.tmp 21) (Go.Operand.const (Go.Value.bool true)) (Go.Operand.tmp 30), type := 4, pos := "hand.go:59", after := #[{ on := 8, ground := Go.Ground.data }, { on := 17, ground := Go.Ground.data }], guard := none }) (v := .bool true) rfl (by decide) (by kernel_rfl) (by kernel_rfl) (by kernel_rfl) (fun _ _ _ h => h) (Or.inl ⟨by rfl, ?_⟩) hS2 ?_
            · intro W9 hS9
              obtain ⟨q0, q1⟩ := hS9
              clear q0 q1
              go_simp
            try simp only [Act.put, List.setIfInBounds_toArray, List.set_cons_zero, List.set_cons_succ]
            refine wpAnyX_end (by kernel_rfl) ?_
            go_wp2_with fail
            exact ⟨rfl, Or.inr ⟨by rw [HRA.out]; show (2 : Int) ≠ 0; decide, by rw [HRA.out]; rfl, HB2.out, HK2.out, _, _, _, _, _, HX2.out.bx⟩⟩
          | true =>
            have HRA := Lib.hid (show R = actM m ⟨kd, gr, i, q⟩ by rw [HRR.out]; unfold stepM; rw [HWH2.out]; rfl)
            have HG0 := Lib.hid hg0
            clear HRR HWH2 HOB HAN HKD hg0
            go_enter Try.func76, Try.ntmps76
            go_wp2_with fail
            rw [← hW]
            clear hW
            go_wp2_with fail
            refine wp_region_X (fun W' => Rows8 W' H 95 #[.slice sa sn sc, .slice pa pn pc, .slice ha hn hc, .slice ba bn bc, .slice ta tn tc] ∧ Rows8 W' w.heap.size 40 #[.int .i64 kd, .int .i64 gr, .int .i64 i, .int .u64 (q : Nat)]) 19 (by kernel_rfl) ?_
            have hS0 : Rows8 W.drew H 95 #[.slice sa sn sc, .slice pa pn pc, .slice ha hn hc, .slice ba bn bc, .slice ta tn tc] ∧ Rows8 W.drew w.heap.size 40 #[.int .i64 kd, .int .i64 gr, .int .i64 i, .int .u64 (q : Nat)] := ⟨HX.out.bx.drewA, HR0.out.drewA⟩
            have HX0 := Lib.hid HX.out.drew
            have HB0 := Lib.hid HAL.out.drew
            have HK0 := Lib.hid HKF.out.drew
            clear HX HAL HKF HR0
            generalize W.drew = Wd at *
            refine wpAnyN_take (i := 0) (oi := { dst := some 13, op := Go.Op.move (Go.Operand.tmp 0), type := 117, pos := "hand.go:59", after := #[], guard := none }) (v := .pointer (some ⟨H, 0, none⟩)) rfl (by decide) (by kernel_rfl) (by kernel_rfl) (by kernel_rfl) (fun _ _ _ h => h) (Or.inl ⟨by rfl, ?_⟩) hS0 ?_
            · intro W9 hS9
              obtain ⟨q0, q1⟩ := hS9
              clear q0 q1
              go_simp
            try simp only [Act.put, List.setIfInBounds_toArray, List.set_cons_zero, List.set_cons_succ]
            refine wpAnyN_take (i := 1) (oi := { dst := some 14, op := Go.Op.nilCheck (Go.Operand.tmp 13), type := 0, pos := "hand.go:59", after := #[{ on := 0, ground := Go.Ground.data }], guard := none }) (v := .pointer (some ⟨H, 0, none⟩)) rfl (by decide) (by kernel_rfl) (by kernel_rfl) (by kernel_rfl) (fun _ _ _ h => h) (Or.inl ⟨by rfl, ?_⟩) hS0 ?_
            · intro W9 hS9
              obtain ⟨q0, q1⟩ := hS9
              clear q0 q1
              go_simp
            try simp only [Act.put, List.setIfInBounds_toArray, List.set_cons_zero, List.set_cons_succ]
            refine wpAnyN_take (i := 2) (oi := { dst := some 15, op := Go.Op.fieldAddr 95 (Go.Operand.tmp 14) 0, type := 0, pos := "hand.go:59", after := #[{ on := 1, ground := Go.Ground.data }], guard := none }) (v := .pointer (some ⟨H, 0, none⟩)) rfl (by decide) (by kernel_rfl) (by kernel_rfl) (by kernel_rfl) (fun _ _ _ h => h) (Or.inl ⟨by rfl, ?_⟩) hS0 ?_
            · intro W9 hS9
              obtain ⟨q0, q1⟩ := hS9
              clear q0 q1
              go_simp
            try simp only [Act.put, List.setIfInBounds_toArray, List.set_cons_zero, List.set_cons_succ]
            refine wpAnyN_take (i := 3) (oi := { dst := some 16, op := Go.Op.load 79 (Go.Operand.tmp 15), type := 79, pos := "hand.go:59", after := #[{ on := 2, ground := Go.Ground.data }], guard := none }) (v := .agg #[.slice sa sn sc, .slice pa pn pc, .slice ha hn hc, .slice ba bn bc]) rfl (by decide) (by kernel_rfl) (by kernel_rfl) (by kernel_rfl) (fun _ _ _ h => h) (Or.inl ⟨by rfl, ?_⟩) hS0 ?_
            · intro W9 hS9
              obtain ⟨q0, q1⟩ := hS9
              have s0 : W9.cell? ⟨H, 0, none⟩ = some (.slice sa sn sc) := q0.cell 0
              have s1 : W9.cell? ⟨H, 1, none⟩ = some (.slice pa pn pc) := q0.cell 1
              have s2 : W9.cell? ⟨H, 2, none⟩ = some (.slice ha hn hc) := q0.cell 2
              have s3 : W9.cell? ⟨H, 3, none⟩ = some (.slice ba bn bc) := q0.cell 3
              clear q0 q1
              go_simp
            try simp only [Act.put, List.setIfInBounds_toArray, List.set_cons_zero, List.set_cons_succ]
            refine wpAnyN_take (i := 4) (oi := { dst := some 17, op := Go.Op.fieldAddr 40 (Go.Operand.tmp 3) 1, type := 0, pos := "hand.go:59", after := #[], guard := none }) (v := .pointer (some ⟨w.heap.size, 1, none⟩)) rfl (by decide) (by kernel_rfl) (by kernel_rfl) (by kernel_rfl) (fun _ _ _ h => h) (Or.inl ⟨by rfl, ?_⟩) hS0 ?_
            · intro W9 hS9
              obtain ⟨q0, q1⟩ := hS9
              clear q0 q1
              go_simp
            try simp only [Act.put, List.setIfInBounds_toArray, List.set_cons_zero, List.set_cons_succ]
            refine wpAnyN_take (i := 5) (oi := { dst := some 18, op := Go.Op.load 3 (Go.Operand.tmp 17), type := 3, pos := "hand.go:59", after := #[{ on := 4, ground := Go.Ground.data }], guard := none }) (v := .int .i64 gr) rfl (by decide) (by kernel_rfl) (by kernel_rfl) (by kernel_rfl) (fun _ _ _ h => h) (Or.inl ⟨by rfl, ?_⟩) hS0 ?_
            · intro W9 hS9
              obtain ⟨q0, q1⟩ := hS9
              have s1 : W9.cell? ⟨w.heap.size, 1, none⟩ = some (.int .i64 gr) := q1.cell 1
              clear q0 q1
              go_simp
            try simp only [Act.put, List.setIfInBounds_toArray, List.set_cons_zero, List.set_cons_succ]
            refine wpAnyX_one (i := 6) (o := { dst := some 19, op := Go.Op.call { callee := Go.Callee.value (Go.Operand.func 48), args := #[Go.Operand.tmp 16, Go.Operand.tmp 18], argTypes := #[79, 3] }, type := 4, pos := "hand.go:59", after := #[{ on := 3, ground := Go.Ground.data }, { on := 5, ground := Go.Ground.data }], guard := none }) (by kernel_rfl) rfl (fun K hK => ?_)
            refine step_call_g (by rfl) 48 _ _ rfl (fun _ _ => by kernel_rfl) #[.agg #[.slice sa sn sc, .slice pa pn pc, .slice ha hn hc, .slice ba bn bc], .int .i64 gr] (by simp [go_sem]) _ (HONE Wd).out ?_
            rintro e w1 ⟨rfl, hC⟩
            refine ⟨_, rfl, ?_⟩
            have hS1 : Rows8 w1 H 95 #[.slice sa sn sc, .slice pa pn pc, .slice ha hn hc, .slice ba bn bc, .slice ta tn tc] ∧ Rows8 w1 w.heap.size 40 #[.int .i64 kd, .int .i64 gr, .int .i64 i, .int .u64 (q : Nat)] := ⟨hS0.1.below hC hS0.1.lt, hS0.2.below hC hS0.2.lt⟩
            have HX1 := Lib.hid (HX0.out.below hC)
            have HB1 := Lib.hid (HB0.out.trans (hC.mono (Nat.le_trans hn0 HB0.out.size)))
            have HK1 := Lib.hid (HK0.out.trans (Kf.of_below (T := tM) hC))
            clear hC HX0 HB0 HK0
            refine hK.out _ _ (fun _ => hS1) ?_
            clear hK K
            try simp only [Act.put, List.setIfInBounds_toArray, List.set_cons_zero, List.set_cons_succ]
            refine wpAnyN_take (i := 7) (oi := { dst := some 20, op := Go.Op.unOp Go.UnOp.not 4 (Go.Operand.tmp 19), type := 4, pos := "hand.go:59", after := #[{ on := 6, ground := Go.Ground.data }], guard := none }) (v := .bool false) rfl (by decide) (by kernel_rfl) (by kernel_rfl) (by kernel_rfl) (fun _ _ _ h => h) (Or.inl ⟨by rfl, ?_⟩) hS1 ?_
            · intro W9 hS9
              obtain ⟨q0, q1⟩ := hS9
              clear q0 q1
              go_simp
            try simp only [Act.put, List.setIfInBounds_toArray, List.set_cons_zero, List.set_cons_succ]
            refine wpAnyN_take (i := 8) (oi := { dst := some 21, op := Go.Op.move (Go.Operand.tmp 20), type := 4, pos := "hand.go:59", after := #[{ on := 7, ground := Go.Ground.data }, { on := 6, ground := Go.Ground.chain }], guard := none }) (v := .bool false) rfl (by decide) (by kernel_rfl) (by kernel_rfl) (by kernel_rfl) (fun _ _ _ h => h) (Or.inl ⟨by rfl, ?_⟩) hS1 ?_
            · intro W9 hS9
              obtain ⟨q0, q1⟩ := hS9
              clear q0 q1
              go_simp
            try simp only [Act.put, List.setIfInBounds_toArray, List.set_cons_zero, List.set_cons_succ]
            refine wpAnyN_take (i := 9) (oi := { dst := some 22, op := Go.Op.fieldAddr 40 (Go.Operand.tmp 3) 0, type := 0, pos := "hand.go:59", after := #[{ on := 8, ground := Go.Ground.guard }], guard := some (8, false) }) (v := .pointer (some ⟨w.heap.size, 0, none⟩)) rfl (by decide) (by kernel_rfl) (by kernel_rfl) (by kernel_rfl) (fun _ _ _ h => h) (Or.inl ⟨by rfl, ?_⟩) hS1 ?_
            · intro W9 hS9
              obtain ⟨q0, q1⟩ := hS9
              clear q0 q1
              go_simp
            try simp only [Act.put, List.setIfInBounds_toArray, List.set_cons_zero, List.set_cons_succ]
            refine wpAnyN_take (i := 10) (oi := { dst := some 23, op := Go.Op.load 3 (Go.Operand.tmp 22), type := 3, pos := "hand.go:59", after := #[{ on := 9, ground := Go.Ground.data }, { on := 8, ground := Go.Ground.guard }], guard := some (8, false) }) (v := .int .i64 kd) rfl (by decide) (by kernel_rfl) (by kernel_rfl) (by kernel_rfl) (fun _ _ _ h => h) (Or.inl ⟨by rfl, ?_⟩) hS1 ?_
            · intro W9 hS9
              obtain ⟨q0, q1⟩ := hS9
              have s0 : W9.cell? ⟨w.heap.size, 0, none⟩ = some (.int .i64 kd) := q1.cell 0
              clear q0 q1
              go_simp
            try simp only [Act.put, List.setIfInBounds_toArray, List.set_cons_zero, List.set_cons_succ]
            refine wpAnyX_one (i := 11) (o := { dst := some 24, op := Go.Op.call { callee := Go.Callee.value (Go.Operand.func 85), args := #[Go.Operand.tmp 23], argTypes := #[3] }, type := 4, pos := "hand.go:59", after := #[{ on := 10, ground := Go.Ground.data }, { on := 8, ground := Go.Ground.chain }, { on := 8, ground := Go.Ground.guard }], guard := some (8, false) }) (by kernel_rfl) rfl (fun K hK => ?_)
            refine step_call_g (by rfl) 85 _ _ rfl (fun _ _ => by kernel_rfl) #[.int .i64 kd] (by simp [go_sem]) _ (HASK w1).out ?_
            rintro e w1b ⟨rfl, hw⟩
            refine ⟨_, rfl, ?_⟩
            rw [hw]
            clear hw
            refine hK.out _ _ (fun _ => hS1) ?_
            clear hK K
            try simp only [Act.put, List.setIfInBounds_toArray, List.set_cons_zero, List.set_cons_succ]
            refine wpAnyN_take (i := 12) (oi := { dst := some 25, op := Go.Op.move (Go.Operand.tmp 24), type := 4, pos := "hand.go:59", after := #[{ on := 11, ground := Go.Ground.data }, { on := 11, ground := Go.Ground.chain }, { on := 8, ground := Go.Ground.guard }], guard := some (8, false) }) (v := .bool true) rfl (by decide) (by kernel_rfl) (by kernel_rfl) (by kernel_rfl) (fun _ _ _ h => h) (Or.inl ⟨by rfl, ?_⟩) hS1 ?_
            · intro W9 hS9
              obtain ⟨q0, q1⟩ := hS9
              clear q0 q1
              go_simp
            try simp only [Act.put, List.setIfInBounds_toArray, List.set_cons_zero, List.set_cons_succ]
            refine wpAnyN_take (i := 13) (oi := { dst := some 26, op := Go.Op.fieldAddr 40 (Go.Operand.tmp 3) 2, type := 0, pos := "hand.go:59", after := #[{ on := 12, ground := Go.Ground.guard }], guard := some (12, true) }) (v := .pointer (some ⟨w.heap.size, 2, none⟩)) rfl (by decide) (by kernel_rfl) (by kernel_rfl) (by kernel_rfl) (fun _ _ _ h => h) (Or.inl ⟨by rfl, ?_⟩) hS1 ?_
            · intro W9 hS9
              obtain ⟨q0, q1⟩ := hS9
              clear q0 q1
              go_simp
            try simp only [Act.put, List.setIfInBounds_toArray, List.set_cons_zero, List.set_cons_succ]
            refine wpAnyN_take (i := 14) (oi := { dst := some 27, op := Go.Op.load 38 (Go.Operand.tmp 26), type := 38, pos := "hand.go:59", after := #[{ on := 13, ground := Go.Ground.data }, { on := 12, ground := Go.Ground.guard }], guard := some (12, true) }) (v := .agg #[.int .i64 i, .int .u64 (q : Nat)]) rfl (by decide) (by kernel_rfl) (by kernel_rfl) (by kernel_rfl) (fun _ _ _ h => h) (Or.inl ⟨by rfl, ?_⟩) hS1 ?_
            · intro W9 hS9
              obtain ⟨q0, q1⟩ := hS9
              have s2 : W9.cell? ⟨w.heap.size, 2, none⟩ = some (.int .i64 i) := q1.cell 2
              have s3 : W9.cell? ⟨w.heap.size, 3, none⟩ = some (.int .u64 (q : Nat)) := q1.cell 3
              clear q0 q1
              go_simp
            try simp only [Act.put, List.setIfInBounds_toArray, List.set_cons_zero, List.set_cons_succ]
            refine wpAnyX_one (i := 15) (o := { dst := some 28, op := Go.Op.call { callee := Go.Callee.value (Go.Operand.func 78), args := #[Go.Operand.tmp 27], argTypes := #[38] }, type := 4, pos := "hand.go:59", after := #[{ on := 14, ground := Go.Ground.data }, { on := 12, ground := Go.Ground.chain }, { on := 12, ground := Go.Ground.guard }], guard := some (12, true) }) (by kernel_rfl) rfl (fun K hK => ?_)
            refine step_call_g (by rfl) 78 _ _ rfl (fun _ _ => by kernel_rfl) #[.agg #[.int .i64 i, .int .u64 (q : Nat)]] (by simp [go_sem]) _ (HENT _).out ?_
            rintro e w2 ⟨rfl, hC⟩
            refine ⟨_, rfl, ?_⟩
            have hS2 : Rows8 w2 H 95 #[.slice sa sn sc, .slice pa pn pc, .slice ha hn hc, .slice ba bn bc, .slice ta tn tc] ∧ Rows8 w2 w.heap.size 40 #[.int .i64 kd, .int .i64 gr, .int .i64 i, .int .u64 (q : Nat)] := ⟨hS1.1.below hC hS1.1.lt, hS1.2.below hC hS1.2.lt⟩
            have HX2 := Lib.hid (HX1.out.below hC)
            have HB2 := Lib.hid (HB1.out.trans (hC.mono (Nat.le_trans hn0 HB1.out.size)))
            have HK2 := Lib.hid (HK1.out.trans (Kf.of_below (T := tM) hC))
            clear hC HX1 HB1 HK1
            refine hK.out _ _ (fun _ => hS2) ?_
            clear hK K
            try simp only [Act.put, List.setIfInBounds_toArray, List.set_cons_zero, List.set_cons_succ]
            refine wpAnyN_take (i := 16) (oi := { dst := some 29, op := Go.Op.unOp Go.UnOp.not 4 (Go.Operand.tmp 28), type := 4, pos := "hand.go:59", after := #[{ on := 15, ground := Go.Ground.data }, { on := 12, ground := Go.Ground.guard }], guard := some (12, true) }) (v := .bool false) rfl (by decide) (by kernel_rfl) (by kernel_rfl) (by kernel_rfl) (fun _ _ _ h => h) (Or.inl ⟨by rfl, ?_⟩) hS2 ?_
            · intro W9 hS9
              obtain ⟨q0, q1⟩ := hS9
              clear q0 q1
              go_simp
            try simp only [Act.put, List.setIfInBounds_toArray, List.set_cons_zero, List.set_cons_succ]
            refine wpAnyN_take (i := 17) (oi := { dst := some 30, op := Go.Op.pick (Go.Operand.tmp 25) (Go.Operand.tmp 29) (Go.Operand.const (Go.Value.bool false)), type := 4, pos := "hand.go:59", after := #[{ on := 12, ground := Go.Ground.data }, { on := 16, ground := Go.Ground.data }, { on := 8, ground := Go.Ground.guard }], guard := some (8, false) }) (v := .bool false) rfl (by decide) (by kernel_rfl) (by kernel_rfl) (by kernel_rfl) (fun _ _ _ h => h) (Or.inl ⟨by rfl, ?_⟩) hS2 ?_
            · intro W9 hS9
              obtain ⟨q0, q1⟩ := hS9
              clear q0 q1
              go_simp
            try simp only [Act.put, List.setIfInBounds_toArray, List.set_cons_zero, List.set_cons_succ]
            refine wpAnyN_take (i := 18) (oi := { dst := some 31, op := Go.Op.pick (Go.Operand.tmp 21) (Go.Operand.const (Go.Value.bool true)) (Go.Operand.tmp 30), type := 4, pos := "hand.go:59", after := #[{ on := 8, ground := Go.Ground.data }, { on := 17, ground := Go.Ground.data }], guard := none }) (v := .bool false) rfl (by decide) (by kernel_rfl) (by kernel_rfl) (by kernel_rfl) (fun _ _ _ h => h) (Or.inl ⟨by rfl, ?_⟩) hS2 ?_
            · intro W9 hS9
              obtain ⟨q0, q1⟩ := hS9
              clear q0 q1
              go_simp
            try simp only [Act.put, List.setIfInBounds_toArray, List.set_cons_zero, List.set_cons_succ]
            refine wpAnyX_end (by kernel_rfl) ?_
            go_wp2_with fail
            refine wp_region_L (fun W' => Rows8 W' w.heap.size 40 #[.int .i64 kd, .int .i64 gr, .int .i64 i, .int .u64 (q : Nat)]) 21 (by kernel_rfl) ?_
            have hS5 : Rows8 w2.drew w.heap.size 40 #[.int .i64 kd, .int .i64 gr, .int .i64 i, .int .u64 (q : Nat)] := hS2.2.drewA
            have HX5 := Lib.hid HX2.out.drew
            have HB5 := Lib.hid HB2.out.drew
            have HK5 := Lib.hid HK2.out.drew
            clear HX2 HB2 HK2 hS0 hS1 hS2
            generalize w2.drew = We at *
            refine wpAnyL_takeT (i := 0) (oi := { dst := some 33, op := Go.Op.move (Go.Operand.tmp 0), type := 117, pos := "hand.go:62", after := #[], guard := none }) (v := .pointer (some ⟨H, 0, none⟩)) [1, 16, 19, 21] rfl (by kernel_rfl) (by kernel_rfl) (by kernel_rfl) (by kernel_rfl) (fun _ _ _ h => h) (Or.inl ⟨by rfl, ?_⟩) hS5 ?_
            · intro W9 hS9
              clear hS9
              go_simp
            try simp only [Act.put, List.setIfInBounds_toArray, List.set_cons_zero, List.set_cons_succ]
            refine wpAnyL_takeT (i := 1) (oi := { dst := some 34, op := Go.Op.makeFunc (Go.Fn.func 86) #[Go.Operand.tmp 33] #[], type := 113, pos := "hand.go:62", after := #[{ on := 0, ground := Go.Ground.data }], guard := none }) (v := .func (.func 86) #[.pointer (some ⟨H, 0, none⟩)] #[]) [16, 19, 21] rfl (by kernel_rfl) (by kernel_rfl) (by kernel_rfl) (by kernel_rfl) (fun _ _ _ h => h) (Or.inl ⟨by rfl, ?_⟩) hS5 ?_
            · intro W9 hS9
              clear hS9
              first | (go_simp; done) | kernel_rfl
            try simp only [Act.put, List.setIfInBounds_toArray, List.set_cons_zero, List.set_cons_succ]
            refine wpAnyL_takeT (i := 2) (oi := { dst := some 35, op := Go.Op.move (Go.Operand.tmp 0), type := 117, pos := "hand.go:62", after := #[], guard := none }) (v := .pointer (some ⟨H, 0, none⟩)) [3, 16, 19, 21] rfl (by kernel_rfl) (by kernel_rfl) (by kernel_rfl) (by kernel_rfl) (fun _ _ _ h => h) (Or.inl ⟨by rfl, ?_⟩) hS5 ?_
            · intro W9 hS9
              clear hS9
              go_simp
            try simp only [Act.put, List.setIfInBounds_toArray, List.set_cons_zero, List.set_cons_succ]
            refine wpAnyL_takeT (i := 3) (oi := { dst := some 36, op := Go.Op.makeFunc (Go.Fn.func 87) #[Go.Operand.tmp 35] #[], type := 113, pos := "hand.go:62", after := #[{ on := 2, ground := Go.Ground.data }], guard := none }) (v := .func (.func 87) #[.pointer (some ⟨H, 0, none⟩)] #[]) [16, 19, 21] rfl (by kernel_rfl) (by kernel_rfl) (by kernel_rfl) (by kernel_rfl) (fun _ _ _ h => h) (Or.inl ⟨by rfl, ?_⟩) hS5 ?_
            · intro W9 hS9
              clear hS9
              first | (go_simp; done) | kernel_rfl
            try simp only [Act.put, List.setIfInBounds_toArray, List.set_cons_zero, List.set_cons_succ]
            refine wpAnyL_takeT (i := 4) (oi := { dst := some 37, op := Go.Op.move (Go.Operand.tmp 0), type := 117, pos := "hand.go:62", after := #[], guard := none }) (v := .pointer (some ⟨H, 0, none⟩)) [5, 16, 19, 21] rfl (by kernel_rfl) (by kernel_rfl) (by kernel_rfl) (by kernel_rfl) (fun _ _ _ h => h) (Or.inl ⟨by rfl, ?_⟩) hS5 ?_
            · intro W9 hS9
              clear hS9
              go_simp
            try simp only [Act.put, List.setIfInBounds_toArray, List.set_cons_zero, List.set_cons_succ]
            refine wpAnyL_takeT (i := 5) (oi := { dst := some 38, op := Go.Op.makeFunc (Go.Fn.func 88) #[Go.Operand.tmp 37] #[], type := 113, pos := "hand.go:62", after := #[{ on := 4, ground := Go.Ground.data }], guard := none }) (v := .func (.func 88) #[.pointer (some ⟨H, 0, none⟩)] #[]) [16, 19, 21] rfl (by kernel_rfl) (by kernel_rfl) (by kernel_rfl) (by kernel_rfl) (fun _ _ _ h => h) (Or.inl ⟨by rfl, ?_⟩) hS5 ?_
            · intro W9 hS9
              clear hS9
              first | (go_simp; done) | kernel_rfl
            try simp only [Act.put, List.setIfInBounds_toArray, List.set_cons_zero, List.set_cons_succ]
            refine wpAnyL_takeT (i := 6) (oi := { dst := some 39, op := Go.Op.move (Go.Operand.tmp 0), type := 117, pos := "hand.go:62", after := #[], guard := none }) (v := .pointer (some ⟨H, 0, none⟩)) [7, 16, 19, 21] rfl (by kernel_rfl) (by kernel_rfl) (by kernel_rfl) (by kernel_rfl) (fun _ _ _ h => h) (Or.inl ⟨by rfl, ?_⟩) hS5 ?_
            · intro W9 hS9
              clear hS9
              go_simp
            try simp only [Act.put, List.setIfInBounds_toArray, List.set_cons_zero, List.set_cons_succ]
            refine wpAnyL_takeT (i := 7) (oi := { dst := some 40, op := Go.Op.makeFunc (Go.Fn.func 89) #[Go.Operand.tmp 39] #[], type := 113, pos := "hand.go:62", after := #[{ on := 6, ground := Go.Ground.data }], guard := none }) (v := .func (.func 89) #[.pointer (some ⟨H, 0, none⟩)] #[]) [16, 19, 21] rfl (by kernel_rfl) (by kernel_rfl) (by kernel_rfl) (by kernel_rfl) (fun _ _ _ h => h) (Or.inl ⟨by rfl, ?_⟩) hS5 ?_
            · intro W9 hS9
              clear hS9
              first | (go_simp; done) | kernel_rfl
            try simp only [Act.put, List.setIfInBounds_toArray, List.set_cons_zero, List.set_cons_succ]
            refine wpAnyL_takeT (i := 8) (oi := { dst := some 41, op := Go.Op.move (Go.Operand.tmp 0), type := 117, pos := "hand.go:62", after := #[], guard := none }) (v := .pointer (some ⟨H, 0, none⟩)) [9, 16, 19, 21] rfl (by kernel_rfl) (by kernel_rfl) (by kernel_rfl) (by kernel_rfl) (fun _ _ _ h => h) (Or.inl ⟨by rfl, ?_⟩) hS5 ?_
            · intro W9 hS9
              clear hS9
              go_simp
            try simp only [Act.put, List.setIfInBounds_toArray, List.set_cons_zero, List.set_cons_succ]
            refine wpAnyL_takeT (i := 9) (oi := { dst := some 42, op := Go.Op.makeFunc (Go.Fn.func 89) #[Go.Operand.tmp 41] #[], type := 113, pos := "hand.go:62", after := #[{ on := 8, ground := Go.Ground.data }], guard := none }) (v := .func (.func 89) #[.pointer (some ⟨H, 0, none⟩)] #[]) [16, 19, 21] rfl (by kernel_rfl) (by kernel_rfl) (by kernel_rfl) (by kernel_rfl) (fun _ _ _ h => h) (Or.inl ⟨by rfl, ?_⟩) hS5 ?_
            · intro W9 hS9
              clear hS9
              first | (go_simp; done) | kernel_rfl
            try simp only [Act.put, List.setIfInBounds_toArray, List.set_cons_zero, List.set_cons_succ]
            refine wpAnyL_takeT (i := 10) (oi := { dst := some 43, op := Go.Op.move (Go.Operand.tmp 0), type := 117, pos := "hand.go:62", after := #[], guard := none }) (v := .pointer (some ⟨H, 0, none⟩)) [11, 16, 19, 21] rfl (by kernel_rfl) (by kernel_rfl) (by kernel_rfl) (by kernel_rfl) (fun _ _ _ h => h) (Or.inl ⟨by rfl, ?_⟩) hS5 ?_
            · intro W9 hS9
              clear hS9
              go_simp
            try simp only [Act.put, List.setIfInBounds_toArray, List.set_cons_zero, List.set_cons_succ]
            refine wpAnyL_takeT (i := 11) (oi := { dst := some 44, op := Go.Op.makeFunc (Go.Fn.func 90) #[Go.Operand.tmp 43] #[], type := 113, pos := "hand.go:62", after := #[{ on := 10, ground := Go.Ground.data }], guard := none }) (v := .func (.func 90) #[.pointer (some ⟨H, 0, none⟩)] #[]) [16, 19, 21] rfl (by kernel_rfl) (by kernel_rfl) (by kernel_rfl) (by kernel_rfl) (fun _ _ _ h => h) (Or.inl ⟨by rfl, ?_⟩) hS5 ?_
            · intro W9 hS9
              clear hS9
              first | (go_simp; done) | kernel_rfl
            try simp only [Act.put, List.setIfInBounds_toArray, List.set_cons_zero, List.set_cons_succ]
            refine wpAnyL_takeT (i := 12) (oi := { dst := some 45, op := Go.Op.move (Go.Operand.tmp 0), type := 117, pos := "hand.go:62", after := #[], guard := none }) (v := .pointer (some ⟨H, 0, none⟩)) [13, 16, 19, 21] rfl (by kernel_rfl) (by kernel_rfl) (by kernel_rfl) (by kernel_rfl) (fun _ _ _ h => h) (Or.inl ⟨by rfl, ?_⟩) hS5 ?_
            · intro W9 hS9
              clear hS9
              go_simp
            try simp only [Act.put, List.setIfInBounds_toArray, List.set_cons_zero, List.set_cons_succ]
            refine wpAnyL_takeT (i := 13) (oi := { dst := some 46, op := Go.Op.makeFunc (Go.Fn.func 91) #[Go.Operand.tmp 45] #[], type := 113, pos := "hand.go:62", after := #[{ on := 12, ground := Go.Ground.data }], guard := none }) (v := .func (.func 91) #[.pointer (some ⟨H, 0, none⟩)] #[]) [16, 19, 21] rfl (by kernel_rfl) (by kernel_rfl) (by kernel_rfl) (by kernel_rfl) (fun _ _ _ h => h) (Or.inl ⟨by rfl, ?_⟩) hS5 ?_
            · intro W9 hS9
              clear hS9
              first | (go_simp; done) | kernel_rfl
            try simp only [Act.put, List.setIfInBounds_toArray, List.set_cons_zero, List.set_cons_succ]
            refine wpAnyL_takeT (i := 14) (oi := { dst := some 47, op := Go.Op.move (Go.Operand.tmp 0), type := 117, pos := "hand.go:62", after := #[], guard := none }) (v := .pointer (some ⟨H, 0, none⟩)) [15, 16, 19, 21] rfl (by kernel_rfl) (by kernel_rfl) (by kernel_rfl) (by kernel_rfl) (fun _ _ _ h => h) (Or.inl ⟨by rfl, ?_⟩) hS5 ?_
            · intro W9 hS9
              clear hS9
              go_simp
            try simp only [Act.put, List.setIfInBounds_toArray, List.set_cons_zero, List.set_cons_succ]
            refine wpAnyL_takeT (i := 15) (oi := { dst := some 48, op := Go.Op.makeFunc (Go.Fn.func 92) #[Go.Operand.tmp 47] #[], type := 113, pos := "hand.go:62", after := #[{ on := 14, ground := Go.Ground.data }], guard := none }) (v := .func (.func 92) #[.pointer (some ⟨H, 0, none⟩)] #[]) [16, 19, 21] rfl (by kernel_rfl) (by kernel_rfl) (by kernel_rfl) (by kernel_rfl) (fun _ _ _ h => h) (Or.inl ⟨by rfl, ?_⟩) hS5 ?_
            · intro W9 hS9
              clear hS9
              first | (go_simp; done) | kernel_rfl
            try simp only [Act.put, List.setIfInBounds_toArray, List.set_cons_zero, List.set_cons_succ]
            refine wpAnyL_takeT (i := 16) (oi := { dst := some 49, op := Go.Op.build 118 #[(1, Go.Operand.tmp 34), (2, Go.Operand.tmp 36), (3, Go.Operand.tmp 38), (4, Go.Operand.tmp 40), (5, Go.Operand.tmp 42), (6, Go.Operand.tmp 44), (7, Go.Operand.tmp 46), (8, Go.Operand.tmp 48)], type := 118, pos := "hand.go:62", after := #[{ on := 1, ground := Go.Ground.data }, { on := 3, ground := Go.Ground.data }, { on := 5, ground := Go.Ground.data }, { on := 7, ground := Go.Ground.data }, { on := 9, ground := Go.Ground.data }, { on := 11, ground := Go.Ground.data }, { on := 13, ground := Go.Ground.data }, { on := 15, ground := Go.Ground.data }], guard := none }) (v := .agg #[.nilFunc, .func (.func 86) #[.pointer (some ⟨H, 0, none⟩)] #[], .func (.func 87) #[.pointer (some ⟨H, 0, none⟩)] #[], .func (.func 88) #[.pointer (some ⟨H, 0, none⟩)] #[], .func (.func 89) #[.pointer (some ⟨H, 0, none⟩)] #[], .func (.func 89) #[.pointer (some ⟨H, 0, none⟩)] #[], .func (.func 90) #[.pointer (some ⟨H, 0, none⟩)] #[], .func (.func 91) #[.pointer (some ⟨H, 0, none⟩)] #[], .func (.func 92) #[.pointer (some ⟨H, 0, none⟩)] #[]]) [19, 21] rfl (by kernel_rfl) (by kernel_rfl) (by kernel_rfl) (by kernel_rfl) (fun _ _ _ h => h) (Or.inl ⟨by rfl, ?_⟩) hS5 ?_
            · intro W9 hS9
              clear hS9
              first | (go_simp; done) | kernel_rfl
            try simp only [Act.put, List.setIfInBounds_toArray, List.set_cons_zero, List.set_cons_succ]
            refine wpAnyL_takeT (i := 17) (oi := { dst := some 50, op := Go.Op.fieldAddr 40 (Go.Operand.tmp 3) 0, type := 0, pos := "hand.go:62", after := #[], guard := none }) (v := .pointer (some ⟨w.heap.size, 0, none⟩)) [18, 19, 21] rfl (by kernel_rfl) (by kernel_rfl) (by kernel_rfl) (by kernel_rfl) (fun _ _ _ h => h) (Or.inl ⟨by rfl, ?_⟩) hS5 ?_
            · intro W9 hS9
              clear hS9
              go_simp
            try simp only [Act.put, List.setIfInBounds_toArray, List.set_cons_zero, List.set_cons_succ]
            refine wpAnyL_takeT (i := 18) (oi := { dst := some 51, op := Go.Op.load 3 (Go.Operand.tmp 50), type := 3, pos := "hand.go:62", after := #[{ on := 17, ground := Go.Ground.data }], guard := none }) (v := .int .i64 kd) [19, 21] rfl (by kernel_rfl) (by kernel_rfl) (by kernel_rfl) (by kernel_rfl) (fun _ _ _ h => h) (Or.inl ⟨by rfl, ?_⟩) hS5 ?_
            · intro W9 hS9
              have s0 : W9.cell? ⟨w.heap.size, 0, none⟩ = some (.int .i64 kd) := hS9.cell 0
              clear hS9
              go_simp
            try simp only [Act.put, List.setIfInBounds_toArray, List.set_cons_zero, List.set_cons_succ]
            have HX5h : Hid (Hd H n₀ m tk We) := Lib.hid ⟨_, _, _, _, _, HX5.out⟩
            have hg0 := HG0.out
            clear HX5 HASK HENT HONE hk1 hk8 c0
            rcases HAB.out (by trivial) with rfl | rfl | rfl | rfl | rfl
            · have hRR := HRA.out.trans (act3 m ⟨3, gr, i, q⟩ rfl)
              have hcon := Try.get_any H n₀ m tk ⟨3, gr, i, q⟩ We HX5h.out hk hl hg0 (Nat.le_trans hn0 HB5.out.size)
              dsimp only [Wt.ent] at hcon hRR
              rw [← hRR] at hcon
              have HCON := Lib.hid hcon
              clear hRR hcon
              refine wpAnyL_takeT (i := 19) (oi := { dst := some 52, op := Go.Op.index 118 (Go.Operand.tmp 49) (Go.Operand.tmp 51), type := 113, pos := "hand.go:62", after := #[{ on := 16, ground := Go.Ground.data }, { on := 18, ground := Go.Ground.data }], guard := none }) (v := .func (.func 88) #[.pointer (some ⟨H, 0, none⟩)] #[]) [21] rfl (by kernel_rfl) (by kernel_rfl) (by kernel_rfl) (by kernel_rfl) (fun _ _ _ h => h) (Or.inl ⟨by rfl, ?_⟩) hS5 ?_
              · intro W9 hS9
                clear hS9
                first | (go_simp; done) | kernel_rfl
              try simp only [Act.put, List.setIfInBounds_toArray, List.set_cons_zero, List.set_cons_succ]
              refine wpAnyL_takeT (i := 20) (oi := { dst := some 53, op := Go.Op.load 40 (Go.Operand.tmp 3), type := 40, pos := "hand.go:62", after := #[], guard := none }) (v := .agg #[.int .i64 3, .int .i64 gr, .int .i64 i, .int .u64 (q : Nat)]) [21] rfl (by kernel_rfl) (by kernel_rfl) (by kernel_rfl) (by kernel_rfl) (fun _ _ _ h => h) (Or.inl ⟨by rfl, ?_⟩) hS5 ?_
              · intro W9 hS9
                have s0 : W9.cell? ⟨w.heap.size, 0, none⟩ = some (.int .i64 3) := hS9.cell 0
                have s1 : W9.cell? ⟨w.heap.size, 1, none⟩ = some (.int .i64 gr) := hS9.cell 1
                have s2 : W9.cell? ⟨w.heap.size, 2, none⟩ = some (.int .i64 i) := hS9.cell 2
                have s3 : W9.cell? ⟨w.heap.size, 3, none⟩ = some (.int .u64 (q : Nat)) := hS9.cell 3
                clear hS9
                go_simp
              try simp only [Act.put, List.setIfInBounds_toArray, List.set_cons_zero, List.set_cons_succ]
              refine wpAnyL_one (i := 21) (o := { dst := some 54, op := Go.Op.call { callee := Go.Callee.value (Go.Operand.tmp 52), args := #[Go.Operand.tmp 53], argTypes := #[40] }, type := 0, pos := "hand.go:71", after := #[{ on := 19, ground := Go.Ground.data }, { on := 20, ground := Go.Ground.data }], guard := none }) (by kernel_rfl) rfl (fun K hK => ?_)
              refine step_call_v (by rfl) 88 _ _ _ rfl #[.pointer (some ⟨H, 0, none⟩)] (by simp [go_sem]) (fun _ _ => by kernel_rfl) #[.pointer (some ⟨H, 0, none⟩), .agg #[.int .i64 3, .int .i64 gr, .int .i64 i, .int .u64 (q : Nat)]] (by simp [go_sem]) _ HCON.out ?_
              intro e w9 hQ
              have hQ9 := HdQ.behind HB5.out HK5.out hQ
              rcases hQ with ⟨q1, rfl, q2⟩ | ⟨q1, rfl, q2⟩
              · refine Or.inl ⟨_, rfl, ?_⟩
                have HQ9 := Lib.hid hQ9
                clear hQ9 q1 q2 hS5 HB5 HK5 HX5h
                refine hK.out _ _ (fun h => absurd h (by decide)) ?_
                clear hK K
                try simp only [Act.put, List.setIfInBounds_toArray, List.set_cons_zero, List.set_cons_succ]
                refine wpAnyL_end (by kernel_rfl) ?_
                go_wp2_with fail
                go_end0
                exact HQ9.out
              · refine Or.inr ⟨_, rfl, ?_⟩
                unfold panicA at hQ9 ⊢
                exact ⟨rfl, hQ9⟩
            · have hRR := HRA.out.trans (act4 m ⟨4, gr, i, q⟩ (Or.inl rfl))
              have hcon := Try.touch_any H n₀ m tk ⟨4, gr, i, q⟩ We HX5h.out hk hl hg0 (Nat.le_trans hn0 HB5.out.size) hH
              dsimp only [Wt.ent] at hcon hRR
              rw [← hRR] at hcon
              have HCON := Lib.hid hcon
              clear hRR hcon
              refine wpAnyL_takeT (i := 19) (oi := { dst := some 52, op := Go.Op.index 118 (Go.Operand.tmp 49) (Go.Operand.tmp 51), type := 113, pos := "hand.go:62", after := #[{ on := 16, ground := Go.Ground.data }, { on := 18, ground := Go.Ground.data }], guard := none }) (v := .func (.func 89) #[.pointer (some ⟨H, 0, none⟩)] #[]) [21] rfl (by kernel_rfl) (by kernel_rfl) (by kernel_rfl) (by kernel_rfl) (fun _ _ _ h => h) (Or.inl ⟨by rfl, ?_⟩) hS5 ?_
              · intro W9 hS9
                clear hS9
                first | (go_simp; done) | kernel_rfl
              try simp only [Act.put, List.setIfInBounds_toArray, List.set_cons_zero, List.set_cons_succ]
              refine wpAnyL_takeT (i := 20) (oi := { dst := some 53, op := Go.Op.load 40 (Go.Operand.tmp 3), type := 40, pos := "hand.go:62", after := #[], guard := none }) (v := .agg #[.int .i64 4, .int .i64 gr, .int .i64 i, .int .u64 (q : Nat)]) [21] rfl (by kernel_rfl) (by kernel_rfl) (by kernel_rfl) (by kernel_rfl) (fun _ _ _ h => h) (Or.inl ⟨by rfl, ?_⟩) hS5 ?_
              · intro W9 hS9
                have s0 : W9.cell? ⟨w.heap.size, 0, none⟩ = some (.int .i64 4) := hS9.cell 0
                have s1 : W9.cell? ⟨w.heap.size, 1, none⟩ = some (.int .i64 gr) := hS9.cell 1
                have s2 : W9.cell? ⟨w.heap.size, 2, none⟩ = some (.int .i64 i) := hS9.cell 2
                have s3 : W9.cell? ⟨w.heap.size, 3, none⟩ = some (.int .u64 (q : Nat)) := hS9.cell 3
                clear hS9
                go_simp
              try simp only [Act.put, List.setIfInBounds_toArray, List.set_cons_zero, List.set_cons_succ]
              refine wpAnyL_one (i := 21) (o := { dst := some 54, op := Go.Op.call { callee := Go.Callee.value (Go.Operand.tmp 52), args := #[Go.Operand.tmp 53], argTypes := #[40] }, type := 0, pos := "hand.go:71", after := #[{ on := 19, ground := Go.Ground.data }, { on := 20, ground := Go.Ground.data }], guard := none }) (by kernel_rfl) rfl (fun K hK => ?_)
              refine step_call_v (by rfl) 89 _ _ _ rfl #[.pointer (some ⟨H, 0, none⟩)] (by simp [go_sem]) (fun _ _ => by kernel_rfl) #[.pointer (some ⟨H, 0, none⟩), .agg #[.int .i64 4, .int .i64 gr, .int .i64 i, .int .u64 (q : Nat)]] (by simp [go_sem]) _ HCON.out ?_
              intro e w9 hQ
              have hQ9 := HdQ.behind HB5.out HK5.out hQ
              rcases hQ with ⟨q1, rfl, q2⟩ | ⟨q1, rfl, q2⟩
              · refine Or.inl ⟨_, rfl, ?_⟩
                have HQ9 := Lib.hid hQ9
                clear hQ9 q1 q2 hS5 HB5 HK5 HX5h
                refine hK.out _ _ (fun h => absurd h (by decide)) ?_
                clear hK K
                try simp only [Act.put, List.setIfInBounds_toArray, List.set_cons_zero, List.set_cons_succ]
                refine wpAnyL_end (by kernel_rfl) ?_
                go_wp2_with fail
                go_end0
                exact HQ9.out
              · refine Or.inr ⟨_, rfl, ?_⟩
                unfold panicA at hQ9 ⊢
                exact ⟨rfl, hQ9⟩
            · have hRR := HRA.out.trans (act4 m ⟨5, gr, i, q⟩ (Or.inr rfl))
              have hcon := Try.touch_any H n₀ m tk ⟨5, gr, i, q⟩ We HX5h.out hk hl hg0 (Nat.le_trans hn0 HB5.out.size) hH
              dsimp only [Wt.ent] at hcon hRR
              rw [← hRR] at hcon
              have HCON := Lib.hid hcon
              clear hRR hcon
              refine wpAnyL_takeT (i := 19) (oi := { dst := some 52, op := Go.Op.index 118 (Go.Operand.tmp 49) (Go.Operand.tmp 51), type := 113, pos := "hand.go:62", after := #[{ on := 16, ground := Go.Ground.data }, { on := 18, ground := Go.Ground.data }], guard := none }) (v := .func (.func 89) #[.pointer (some ⟨H, 0, none⟩)] #[]) [21] rfl (by kernel_rfl) (by kernel_rfl) (by kernel_rfl) (by kernel_rfl) (fun _ _ _ h => h) (Or.inl ⟨by rfl, ?_⟩) hS5 ?_
              · intro W9 hS9
                clear hS9
                first | (go_simp; done) | kernel_rfl
              try simp only [Act.put, List.setIfInBounds_toArray, List.set_cons_zero, List.set_cons_succ]
              refine wpAnyL_takeT (i := 20) (oi := { dst := some 53, op := Go.Op.load 40 (Go.Operand.tmp 3), type := 40, pos := "hand.go:62", after := #[], guard := none }) (v := .agg #[.int .i64 5, .int .i64 gr, .int .i64 i, .int .u64 (q : Nat)]) [21] rfl (by kernel_rfl) (by kernel_rfl) (by kernel_rfl) (by kernel_rfl) (fun _ _ _ h => h) (Or.inl ⟨by rfl, ?_⟩) hS5 ?_
              · intro W9 hS9
                have s0 : W9.cell? ⟨w.heap.size, 0, none⟩ = some (.int .i64 5) := hS9.cell 0
                have s1 : W9.cell? ⟨w.heap.size, 1, none⟩ = some (.int .i64 gr) := hS9.cell 1
                have s2 : W9.cell? ⟨w.heap.size, 2, none⟩ = some (.int .i64 i) := hS9.cell 2
                have s3 : W9.cell? ⟨w.heap.size, 3, none⟩ = some (.int .u64 (q : Nat)) := hS9.cell 3
                clear hS9
                go_simp
              try simp only [Act.put, List.setIfInBounds_toArray, List.set_cons_zero, List.set_cons_succ]
              refine wpAnyL_one (i := 21) (o := { dst := some 54, op := Go.Op.call { callee := Go.Callee.value (Go.Operand.tmp 52), args := #[Go.Operand.tmp 53], argTypes := #[40] }, type := 0, pos := "hand.go:71", after := #[{ on := 19, ground := Go.Ground.data }, { on := 20, ground := Go.Ground.data }], guard := none }) (by kernel_rfl) rfl (fun K hK => ?_)
              refine step_call_v (by rfl) 89 _ _ _ rfl #[.pointer (some ⟨H, 0, none⟩)] (by simp [go_sem]) (fun _ _ => by kernel_rfl) #[.pointer (some ⟨H, 0, none⟩), .agg #[.int .i64 5, .int .i64 gr, .int .i64 i, .int .u64 (q : Nat)]] (by simp [go_sem]) _ HCON.out ?_
              intro e w9 hQ
              have hQ9 := HdQ.behind HB5.out HK5.out hQ
              rcases hQ with ⟨q1, rfl, q2⟩ | ⟨q1, rfl, q2⟩
              · refine Or.inl ⟨_, rfl, ?_⟩
                have HQ9 := Lib.hid hQ9
                clear hQ9 q1 q2 hS5 HB5 HK5 HX5h
                refine hK.out _ _ (fun h => absurd h (by decide)) ?_
                clear hK K
                try simp only [Act.put, List.setIfInBounds_toArray, List.set_cons_zero, List.set_cons_succ]
                refine wpAnyL_end (by kernel_rfl) ?_
                go_wp2_with fail
                go_end0
                exact HQ9.out
              · refine Or.inr ⟨_, rfl, ?_⟩
                unfold panicA at hQ9 ⊢
                exact ⟨rfl, hQ9⟩
            · have hRR := HRA.out.trans (act7 m ⟨7, gr, i, q⟩ rfl)
              have hcon := Try.retire_anyM H n₀ m tk ⟨7, gr, i, q⟩ We HX5h.out (Nat.le_trans hn0 HB5.out.size) hH
              dsimp only [Wt.ent] at hcon hRR
              rw [← hRR] at hcon
              have HCON := Lib.hid hcon
              clear hRR hcon
              refine wpAnyL_takeT (i := 19) (oi := { dst := some 52, op := Go.Op.index 118 (Go.Operand.tmp 49) (Go.Operand.tmp 51), type := 113, pos := "hand.go:62", after := #[{ on := 16, ground := Go.Ground.data }, { on := 18, ground := Go.Ground.data }], guard := none }) (v := .func (.func 91) #[.pointer (some ⟨H, 0, none⟩)] #[]) [21] rfl (by kernel_rfl) (by kernel_rfl) (by kernel_rfl) (by kernel_rfl) (fun _ _ _ h => h) (Or.inl ⟨by rfl, ?_⟩) hS5 ?_
              · intro W9 hS9
                clear hS9
                first | (go_simp; done) | kernel_rfl
              try simp only [Act.put, List.setIfInBounds_toArray, List.set_cons_zero, List.set_cons_succ]
              refine wpAnyL_takeT (i := 20) (oi := { dst := some 53, op := Go.Op.load 40 (Go.Operand.tmp 3), type := 40, pos := "hand.go:62", after := #[], guard := none }) (v := .agg #[.int .i64 7, .int .i64 gr, .int .i64 i, .int .u64 (q : Nat)]) [21] rfl (by kernel_rfl) (by kernel_rfl) (by kernel_rfl) (by kernel_rfl) (fun _ _ _ h => h) (Or.inl ⟨by rfl, ?_⟩) hS5 ?_
              · intro W9 hS9
                have s0 : W9.cell? ⟨w.heap.size, 0, none⟩ = some (.int .i64 7) := hS9.cell 0
                have s1 : W9.cell? ⟨w.heap.size, 1, none⟩ = some (.int .i64 gr) := hS9.cell 1
                have s2 : W9.cell? ⟨w.heap.size, 2, none⟩ = some (.int .i64 i) := hS9.cell 2
                have s3 : W9.cell? ⟨w.heap.size, 3, none⟩ = some (.int .u64 (q : Nat)) := hS9.cell 3
                clear hS9
                go_simp
              try simp only [Act.put, List.setIfInBounds_toArray, List.set_cons_zero, List.set_cons_succ]
              refine wpAnyL_one (i := 21) (o := { dst := some 54, op := Go.Op.call { callee := Go.Callee.value (Go.Operand.tmp 52), args := #[Go.Operand.tmp 53], argTypes := #[40] }, type := 0, pos := "hand.go:71", after := #[{ on := 19, ground := Go.Ground.data }, { on := 20, ground := Go.Ground.data }], guard := none }) (by kernel_rfl) rfl (fun K hK => ?_)
              refine step_call_v (by rfl) 91 _ _ _ rfl #[.pointer (some ⟨H, 0, none⟩)] (by simp [go_sem]) (fun _ _ => by kernel_rfl) #[.pointer (some ⟨H, 0, none⟩), .agg #[.int .i64 7, .int .i64 gr, .int .i64 i, .int .u64 (q : Nat)]] (by simp [go_sem]) _ HCON.out ?_
              intro e w9 hQ
              have hQ9 := HdQ.behind HB5.out HK5.out hQ
              rcases hQ with ⟨q1, rfl, q2⟩ | ⟨q1, rfl, q2⟩
              · refine Or.inl ⟨_, rfl, ?_⟩
                have HQ9 := Lib.hid hQ9
                clear hQ9 q1 q2 hS5 HB5 HK5 HX5h
                refine hK.out _ _ (fun h => absurd h (by decide)) ?_
                clear hK K
                try simp only [Act.put, List.setIfInBounds_toArray, List.set_cons_zero, List.set_cons_succ]
                refine wpAnyL_end (by kernel_rfl) ?_
                go_wp2_with fail
                go_end0
                exact HQ9.out
              · refine Or.inr ⟨_, rfl, ?_⟩
                unfold panicA at hQ9 ⊢
                exact ⟨rfl, hQ9⟩
            · have hRR := HRA.out.trans (act8 m ⟨8, gr, i, q⟩ rfl)
              have hcon := Try.give_anyM H n₀ m tk ⟨8, gr, i, q⟩ We HX5h.out (Nat.le_trans hn0 HB5.out.size) hH
              dsimp only [Wt.ent] at hcon hRR
              rw [← hRR] at hcon
              have HCON := Lib.hid hcon
              clear hRR hcon
              refine wpAnyL_takeT (i := 19) (oi := { dst := some 52, op := Go.Op.index 118 (Go.Operand.tmp 49) (Go.Operand.tmp 51), type := 113, pos := "hand.go:62", after := #[{ on := 16, ground := Go.Ground.data }, { on := 18, ground := Go.Ground.data }], guard := none }) (v := .func (.func 92) #[.pointer (some ⟨H, 0, none⟩)] #[]) [21] rfl (by kernel_rfl) (by kernel_rfl) (by kernel_rfl) (by kernel_rfl) (fun _ _ _ h => h) (Or.inl ⟨by rfl, ?_⟩) hS5 ?_
              · intro W9 hS9
                clear hS9
                first | (go_simp; done) | kernel_rfl
              try simp only [Act.put, List.setIfInBounds_toArray, List.set_cons_zero, List.set_cons_succ]
              refine wpAnyL_takeT (i := 20) (oi := { dst := some 53, op := Go.Op.load 40 (Go.Operand.tmp 3), type := 40, pos := "hand.go:62", after := #[], guard := none }) (v := .agg #[.int .i64 8, .int .i64 gr, .int .i64 i, .int .u64 (q : Nat)]) [21] rfl (by kernel_rfl) (by kernel_rfl) (by kernel_rfl) (by kernel_rfl) (fun _ _ _ h => h) (Or.inl ⟨by rfl, ?_⟩) hS5 ?_
              · intro W9 hS9
                have s0 : W9.cell? ⟨w.heap.size, 0, none⟩ = some (.int .i64 8) := hS9.cell 0
                have s1 : W9.cell? ⟨w.heap.size, 1, none⟩ = some (.int .i64 gr) := hS9.cell 1
                have s2 : W9.cell? ⟨w.heap.size, 2, none⟩ = some (.int .i64 i) := hS9.cell 2
                have s3 : W9.cell? ⟨w.heap.size, 3, none⟩ = some (.int .u64 (q : Nat)) := hS9.cell 3
                clear hS9
                go_simp
              try simp only [Act.put, List.setIfInBounds_toArray, List.set_cons_zero, List.set_cons_succ]
              refine wpAnyL_one (i := 21) (o := { dst := some 54, op := Go.Op.call { callee := Go.Callee.value (Go.Operand.tmp 52), args := #[Go.Operand.tmp 53], argTypes := #[40] }, type := 0, pos := "hand.go:71", after := #[{ on := 19, ground := Go.Ground.data }, { on := 20, ground := Go.Ground.data }], guard := none }) (by kernel_rfl) rfl (fun K hK => ?_)
              refine step_call_v (by rfl) 92 _ _ _ rfl #[.pointer (some ⟨H, 0, none⟩)] (by simp [go_sem]) (fun _ _ => by kernel_rfl) #[.pointer (some ⟨H, 0, none⟩), .agg #[.int .i64 8, .int .i64 gr, .int .i64 i, .int .u64 (q : Nat)]] (by simp [go_sem]) _ HCON.out ?_
              intro e w9 hQ
              have hQ9 := HdQ.behind HB5.out HK5.out hQ
              rcases hQ with ⟨q1, rfl, q2⟩ | ⟨q1, rfl, q2⟩
              · refine Or.inl ⟨_, rfl, ?_⟩
                have HQ9 := Lib.hid hQ9
                clear hQ9 q1 q2 hS5 HB5 HK5 HX5h
                refine hK.out _ _ (fun h => absurd h (by decide)) ?_
                clear hK K
                try simp only [Act.put, List.setIfInBounds_toArray, List.set_cons_zero, List.set_cons_succ]
                refine wpAnyL_end (by kernel_rfl) ?_
                go_wp2_with fail
                go_end0
                exact HQ9.out
              · refine Or.inr ⟨_, rfl, ?_⟩
                unfold panicA at hQ9 ⊢
                exact ⟨rfl, hQ9⟩
end Go.Proofs
