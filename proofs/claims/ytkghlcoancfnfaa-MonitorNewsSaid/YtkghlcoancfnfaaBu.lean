/- Monitor: a hand that retires, gives back, takes. -/
import Derived.Test.YtkghlcoancfnfaaBt
import Derived.Test.YtkghlcoancfnfaaRz
namespace Go.Proofs
set_option maxRecDepth 100000
open Go.RowKit Go.Shelf
attribute [local go_sem] Oper.semAt_some

def arR (m : Mn) (R : Int × List Pr × List Pr) : Int × Mn × List Pr := if R.1 = 0 then (0, { m with sl := R.2.1 }, []) else (R.1, m, [])
theorem pAt_lit {W : World} {v : Value} {e : Pr} (h : RowAt W v 1 2 [.int .i64 e.1, .int .u64 (e.2 : Nat)]) : PAt W v [e] := h
theorem slab_block {H n₀ : Nat} {x : Mv} {ta : Option Addr} {tn tc : Nat} {vs : List Value} {m : Mn} {tk : List Pr} {W : World} (hx : Hx H n₀ x ta tn tc vs m tk W) : PAt W (.slice x.sa x.sn x.sc) m.sl := hx.o.s.at
theorem step_panic_g {P : Program} {ops : Array Oper} {Q : Exit → Act → World → Prop} {o : Oper} {a : Act} {w : World} {K : Act → World → Prop} {E : Prop} (hw : Region.wanted o (yielded ops a.tmps) = true) (f : FuncId) (xs : Array Operand) (ts : Array TypeId)
    (ho : o.op = .call { callee := .value (.func f), args := xs, argTypes := ts }) (eg : ∀ args w, (callFunc f args).run P w = .ok (.enter f args) w) (vs : Array Value) (hv : xs.map a.eval = vs) (R : Ending → World → Prop) (hc : Calls P f vs w R)
    (hR : ∀ e w', R e w' → ∃ c, e = .panicked c ∧ Q (.panic c) a w') : if Region.wanted o (yielded ops a.tmps) = true then Oper.wp P o a w K Q else E := by
  rw [if_pos hw]
  unfold Oper.wp execOp
  simp only [ho]
  simp [go_sem, resolve, invoke, hv, eg]
  refine hc.mono fun e w' h => ?_
  obtain ⟨c, rfl, h2⟩ := hR e w' h
  exact h2
set_option maxHeartbeats 8000000 in
theorem Try.retire_anyM (H n₀ : Nat) (m : Mn) (tk : List Pr) (t : Wt) (w : World) (h : Hd H n₀ m tk w) (hn0 : n₀ ≤ w.heap.size) (hH : n₀ ≤ H) :
    Calls Try.prog 91 #[.pointer (some ⟨H, 0, none⟩), .agg #[.int .i64 t.kind, .int .i64 t.goer, .int .i64 t.slab, .int .u64 (t.gen : Nat)]] w (HdQ H n₀ w (arR m (retT m.sl [t.ent])) tk) := by
  obtain ⟨kd, g, i, q⟩ := t
  dsimp only [Wt.ent] at *
  have HARE := fun (W : World) (a : Option Addr) (h1 : PAt W (.slice (h.choose).sa (h.choose).sn (h.choose).sc) m.sl) (h2 : RowAt W (.slice a 1 1) 1 2 [.int .i64 i, .int .u64 (q : Nat)]) => Lib.hid (Try.Retire_any (h.choose).sa (h.choose).sn (h.choose).sc m.sl a 1 1 [(i, q)] (by omega) W h1 h2)
  obtain ⟨x, hx⟩ : ∃ x, x = h.choose := ⟨_, rfl⟩
  have hsp := h.choose_spec
  rw [← hx] at HARE hsp
  clear hx h
  obtain ⟨ta, tn, tc, vs, h⟩ := hsp
  obtain ⟨RR, hRR⟩ : ∃ R, R = retT m.sl [(i, q)] := ⟨_, rfl⟩
  rw [← hRR] at HARE ⊢
  clear hRR
  obtain ⟨R, hR⟩ : ∃ R, R = arR m RR := ⟨_, rfl⟩
  rw [← hR]
  unfold arR at hR
  have HR := Lib.hid hR
  clear hR
  have hal : Below w.heap.size w (w.alloc (.cells #[.int .i64 kd, .int .i64 g, .int .i64 i, .int .u64 (q : Nat)] 40)) := Rows8.newB
  have rw0 := Rows8.new w 40 #[.int .i64 kd, .int .i64 g, .int .i64 i, .int .u64 (q : Nat)]
  obtain ⟨W, hW⟩ : ∃ W, W = w.alloc (.cells #[.int .i64 kd, .int .i64 g, .int .i64 i, .int .u64 (q : Nat)] 40) := ⟨_, rfl⟩
  rw [← hW] at hal rw0
  have h1 := h.below hal
  obtain ⟨sa, sn, sc, pa, pn, pc, ha, hn, hc, ba, bn, bc⟩ := x
  dsimp only at HARE
  have HX := Lib.hid h1
  have HAL := Lib.hid (hal.mono hn0)
  have HKF := Lib.hid (Kf.of_below (T := tM) hal)
  have HR0 := Lib.hid rw0
  clear h h1 hal rw0
  go_enter Try.func91, Try.ntmps91
  go_wp2_with fail
  rw [← hW]
  clear hW
  refine wp_region_L (fun W' => Rows8 W' H 95 #[.slice sa sn sc, .slice pa pn pc, .slice ha hn hc, .slice ba bn bc, .slice ta tn tc] ∧ Rows8 W' w.heap.size 40 #[.int .i64 kd, .int .i64 g, .int .i64 i, .int .u64 (q : Nat)]) 13 (by kernel_rfl) ?_
  have hS0 : Rows8 W.drew H 95 #[.slice sa sn sc, .slice pa pn pc, .slice ha hn hc, .slice ba bn bc, .slice ta tn tc] ∧ Rows8 W.drew w.heap.size 40 #[.int .i64 kd, .int .i64 g, .int .i64 i, .int .u64 (q : Nat)] := ⟨HX.out.bx.drewA, HR0.out.drewA⟩
  have HX0 := Lib.hid HX.out.drew
  have HB0 := Lib.hid HAL.out.drew
  have HK0 := Lib.hid HKF.out.drew
  clear HX HAL HKF HR0
  generalize W.drew = Wd at *
  refine wpAnyL_takeT (i := 0) (oi := { dst := some 4, op := Go.Op.move (Go.Operand.tmp 0), type := 117, pos := "hand.go:111", after := #[], guard := none }) (v := .pointer (some ⟨H, 0, none⟩)) [13] rfl (by kernel_rfl) (by kernel_rfl) (by kernel_rfl) (by kernel_rfl) (fun _ _ _ h => h) (Or.inl ⟨by rfl, ?_⟩) hS0 ?_
  · intro W9 hS9
    obtain ⟨q0, q1⟩ := hS9
    clear q0 q1
    go_simp
  try simp only [Act.put, List.setIfInBounds_toArray, List.set_cons_zero, List.set_cons_succ]
  refine wpAnyL_takeT (i := 1) (oi := { dst := some 5, op := Go.Op.move (Go.Operand.tmp 0), type := 117, pos := "hand.go:111", after := #[], guard := none }) (v := .pointer (some ⟨H, 0, none⟩)) [2, 3, 4, 5, 6, 10, 11, 12, 13] rfl (by kernel_rfl) (by kernel_rfl) (by kernel_rfl) (by kernel_rfl) (fun _ _ _ h => h) (Or.inl ⟨by rfl, ?_⟩) hS0 ?_
  · intro W9 hS9
    obtain ⟨q0, q1⟩ := hS9
    clear q0 q1
    go_simp
  try simp only [Act.put, List.setIfInBounds_toArray, List.set_cons_zero, List.set_cons_succ]
  refine wpAnyL_takeT (i := 2) (oi := { dst := some 6, op := Go.Op.nilCheck (Go.Operand.tmp 5), type := 0, pos := "hand.go:111", after := #[{ on := 1, ground := Go.Ground.data }], guard := none }) (v := .pointer (some ⟨H, 0, none⟩)) [3, 4, 5, 6, 10, 11, 12, 13] rfl (by kernel_rfl) (by kernel_rfl) (by kernel_rfl) (by kernel_rfl) (fun _ _ _ h => h) (Or.inl ⟨by rfl, ?_⟩) hS0 ?_
  · intro W9 hS9
    obtain ⟨q0, q1⟩ := hS9
    clear q0 q1
    go_simp
  try simp only [Act.put, List.setIfInBounds_toArray, List.set_cons_zero, List.set_cons_succ]
  refine wpAnyL_takeT (i := 3) (oi := { dst := some 7, op := Go.Op.fieldAddr 95 (Go.Operand.tmp 6) 0, type := 0, pos := "hand.go:111", after := #[{ on := 2, ground := Go.Ground.data }], guard := none }) (v := .pointer (some ⟨H, 0, none⟩)) [4, 5, 6, 10, 11, 12, 13] rfl (by kernel_rfl) (by kernel_rfl) (by kernel_rfl) (by kernel_rfl) (fun _ _ _ h => h) (Or.inl ⟨by rfl, ?_⟩) hS0 ?_
  · intro W9 hS9
    obtain ⟨q0, q1⟩ := hS9
    clear q0 q1
    go_simp
  try simp only [Act.put, List.setIfInBounds_toArray, List.set_cons_zero, List.set_cons_succ]
  refine wpAnyL_takeT (i := 4) (oi := { dst := some 8, op := Go.Op.fieldAddr 79 (Go.Operand.tmp 7) 0, type := 0, pos := "hand.go:111", after := #[{ on := 3, ground := Go.Ground.data }], guard := none }) (v := .pointer (some ⟨H, 0, none⟩)) [5, 6, 10, 11, 12, 13] rfl (by kernel_rfl) (by kernel_rfl) (by kernel_rfl) (by kernel_rfl) (fun _ _ _ h => h) (Or.inl ⟨by rfl, ?_⟩) hS0 ?_
  · intro W9 hS9
    obtain ⟨q0, q1⟩ := hS9
    clear q0 q1
    go_simp
  try simp only [Act.put, List.setIfInBounds_toArray, List.set_cons_zero, List.set_cons_succ]
  refine wpAnyL_takeT (i := 5) (oi := { dst := some 9, op := Go.Op.fieldAddr 29 (Go.Operand.tmp 8) 0, type := 0, pos := "hand.go:111", after := #[{ on := 4, ground := Go.Ground.data }], guard := none }) (v := .pointer (some ⟨H, 0, none⟩)) [6, 10, 11, 12, 13] rfl (by kernel_rfl) (by kernel_rfl) (by kernel_rfl) (by kernel_rfl) (fun _ _ _ h => h) (Or.inl ⟨by rfl, ?_⟩) hS0 ?_
  · intro W9 hS9
    obtain ⟨q0, q1⟩ := hS9
    clear q0 q1
    go_simp
  try simp only [Act.put, List.setIfInBounds_toArray, List.set_cons_zero, List.set_cons_succ]
  refine wpAnyL_takeT (i := 6) (oi := { dst := some 10, op := Go.Op.load 24 (Go.Operand.tmp 9), type := 24, pos := "hand.go:111", after := #[{ on := 5, ground := Go.Ground.data }], guard := none }) (v := .agg #[.slice sa sn sc]) [10, 11, 12, 13] rfl (by kernel_rfl) (by kernel_rfl) (by kernel_rfl) (by kernel_rfl) (fun _ _ _ h => h) (Or.inl ⟨by rfl, ?_⟩) hS0 ?_
  · intro W9 hS9
    obtain ⟨q0, q1⟩ := hS9
    have s0 : W9.cell? ⟨H, 0, none⟩ = some (.slice sa sn sc) := q0.cell 0
    clear q0 q1
    go_simp
  try simp only [Act.put, List.setIfInBounds_toArray, List.set_cons_zero, List.set_cons_succ]
  refine wpAnyL_takeT (i := 7) (oi := { dst := some 11, op := Go.Op.fieldAddr 40 (Go.Operand.tmp 3) 2, type := 0, pos := "hand.go:111", after := #[], guard := none }) (v := .pointer (some ⟨w.heap.size, 2, none⟩)) [8, 9, 10, 11, 12, 13] rfl (by kernel_rfl) (by kernel_rfl) (by kernel_rfl) (by kernel_rfl) (fun _ _ _ h => h) (Or.inl ⟨by rfl, ?_⟩) hS0 ?_
  · intro W9 hS9
    obtain ⟨q0, q1⟩ := hS9
    clear q0 q1
    go_simp
  try simp only [Act.put, List.setIfInBounds_toArray, List.set_cons_zero, List.set_cons_succ]
  refine wpAnyL_takeT (i := 8) (oi := { dst := some 12, op := Go.Op.load 38 (Go.Operand.tmp 11), type := 38, pos := "hand.go:111", after := #[{ on := 7, ground := Go.Ground.data }], guard := none }) (v := .agg #[.int .i64 i, .int .u64 (q : Nat)]) [9, 10, 11, 12, 13] rfl (by kernel_rfl) (by kernel_rfl) (by kernel_rfl) (by kernel_rfl) (fun _ _ _ h => h) (Or.inl ⟨by rfl, ?_⟩) hS0 ?_
  · intro W9 hS9
    obtain ⟨q0, q1⟩ := hS9
    have s2 : W9.cell? ⟨w.heap.size, 2, none⟩ = some (.int .i64 i) := q1.cell 2
    have s3 : W9.cell? ⟨w.heap.size, 3, none⟩ = some (.int .u64 (q : Nat)) := q1.cell 3
    clear q0 q1
    go_simp
  try simp only [Act.put, List.setIfInBounds_toArray, List.set_cons_zero, List.set_cons_succ]
  refine wpAnyL_one (i := 9) (o := { dst := some 13, op := Go.Op.buildSlice 62 1 #[(0, Go.Operand.tmp 12)], type := 62, pos := "hand.go:111", after := #[{ on := 8, ground := Go.Ground.data }], guard := none }) (by kernel_rfl) rfl (fun K hK => ?_)
  refine step_value_g (by rfl) (.slice (some ⟨Wd.heap.size, 0, none⟩) 1 1) (w' := (Wd.alloc (.cells #[.int .i64 i, .int .u64 (q : Nat)] 38))) (by go_simp) ?_
  have hal : Below Wd.heap.size Wd (Wd.alloc (.cells #[.int .i64 i, .int .u64 (q : Nat)] 38)) := Rows8.newB
  have hlit := lit_atM Wd i q
  have hS1 : Rows8 (Wd.alloc (.cells #[.int .i64 i, .int .u64 (q : Nat)] 38)) H 95 #[.slice sa sn sc, .slice pa pn pc, .slice ha hn hc, .slice ba bn bc, .slice ta tn tc] ∧ Rows8 (Wd.alloc (.cells #[.int .i64 i, .int .u64 (q : Nat)] 38)) w.heap.size 40 #[.int .i64 kd, .int .i64 g, .int .i64 i, .int .u64 (q : Nat)] := ⟨hS0.1.below hal hS0.1.lt, hS0.2.below hal hS0.2.lt⟩
  have HX1 := Lib.hid (HX0.out.below hal)
  have HB1 := Lib.hid (HB0.out.trans (hal.mono (Nat.le_trans hn0 HB0.out.size)))
  have HK1 := Lib.hid (HK0.out.trans (Kf.of_below (T := tM) hal))
  have HLIT := Lib.hid hlit
  clear hal hlit HX0 HB0 HK0
  refine hK.out _ _ (fun _ => hS1) ?_
  clear hK K
  try simp only [Act.put, List.setIfInBounds_toArray, List.set_cons_zero, List.set_cons_succ]
  generalize hal9 : (Wd.alloc (.cells #[.int .i64 i, .int .u64 (q : Nat)] 38)) = W1 at *
  clear hal9
  refine wpAnyL_one (i := 10) (o := { dst := some 14, op := Go.Op.call { callee := Go.Callee.value (Go.Operand.func 97), args := #[Go.Operand.tmp 10, Go.Operand.tmp 13], argTypes := #[24, 62] }, type := 89, pos := "hand.go:111", after := #[{ on := 6, ground := Go.Ground.data }, { on := 9, ground := Go.Ground.data }], guard := none }) (by kernel_rfl) rfl (fun K hK => ?_)
  refine step_call_g (by rfl) 97 _ _ rfl (fun _ _ => by kernel_rfl) #[.agg #[.slice sa sn sc], .slice (some ⟨Wd.heap.size, 0, none⟩) 1 1] (by simp [go_sem]) _ (HARE W1 _ (slab_block HX1.out) HLIT.out).out ?_
  rintro e w2 ⟨v2, rfl, ho2, hC⟩
  refine ⟨_, rfl, ?_⟩
  obtain ⟨va, vc, hv2⟩ := ho2.form
  obtain ⟨vn, hvn⟩ : ∃ k, k = RR.2.1.length := ⟨_, rfl⟩
  rw [← hvn] at hv2
  subst hv2
  have hS2 : Rows8 w2 H 95 #[.slice sa sn sc, .slice pa pn pc, .slice ha hn hc, .slice ba bn bc, .slice ta tn tc] ∧ Rows8 w2 w.heap.size 40 #[.int .i64 kd, .int .i64 g, .int .i64 i, .int .u64 (q : Nat)] := ⟨hS1.1.below hC hS1.1.lt, hS1.2.below hC hS1.2.lt⟩
  have HX2 := Lib.hid (HX1.out.below hC)
  have HO2 := Lib.hid (ho2.mono (Nat.le_trans hn0 HB1.out.size))
  have HB2 := Lib.hid (HB1.out.trans (hC.mono (Nat.le_trans hn0 HB1.out.size)))
  have HK2 := Lib.hid (HK1.out.trans (Kf.of_below (T := tM) hC))
  clear hC HX1 HB1 HK1 ho2 hvn
  refine hK.out _ _ (fun _ => hS2) ?_
  clear hK K
  try simp only [Act.put, List.setIfInBounds_toArray, List.set_cons_zero, List.set_cons_succ]
  refine wpAnyL_takeT (i := 11) (oi := { dst := some 15, op := Go.Op.extract (Go.Operand.tmp 14) 0, type := 24, pos := "hand.go:111", after := #[{ on := 10, ground := Go.Ground.data }], guard := none }) (v := .agg #[.slice va vn vc]) [13] rfl (by kernel_rfl) (by kernel_rfl) (by kernel_rfl) (by kernel_rfl) (fun _ _ _ h => h) (Or.inl ⟨by rfl, ?_⟩) hS2 ?_
  · intro W9 hS9
    obtain ⟨q0, q1⟩ := hS9
    clear q0 q1
    go_simp
  try simp only [Act.put, List.setIfInBounds_toArray, List.set_cons_zero, List.set_cons_succ]
  refine wpAnyL_takeT (i := 12) (oi := { dst := some 16, op := Go.Op.extract (Go.Operand.tmp 14) 1, type := 33, pos := "hand.go:111", after := #[{ on := 10, ground := Go.Ground.data }], guard := none }) (v := .int .i64 RR.1) [13] rfl (by kernel_rfl) (by kernel_rfl) (by kernel_rfl) (by kernel_rfl) (fun _ _ _ h => h) (Or.inl ⟨by rfl, ?_⟩) hS2 ?_
  · intro W9 hS9
    obtain ⟨q0, q1⟩ := hS9
    clear q0 q1
    go_simp
  try simp only [Act.put, List.setIfInBounds_toArray, List.set_cons_zero, List.set_cons_succ]
  refine wpAnyL_one (i := 13) (o := { dst := some 17, op := Go.Op.call { callee := Go.Callee.value (Go.Operand.func 96), args := #[Go.Operand.tmp 4, Go.Operand.tmp 15, Go.Operand.tmp 16], argTypes := #[117, 24, 33] }, type := 0, pos := "hand.go:111", after := #[{ on := 0, ground := Go.Ground.data }, { on := 11, ground := Go.Ground.data }, { on := 12, ground := Go.Ground.data }, { on := 10, ground := Go.Ground.chain }], guard := none }) (by kernel_rfl) rfl (fun K hK => ?_)
  by_cases hE : RR.1 = 0
  · have HR2 := Lib.hid (HR.out.trans (if_pos hE))
    have hly := Try.lay_yes H n₀ m tk RR.2.1 va vn vc w2 ⟨_, _, _, _, _, HX2.out⟩ HO2.out (Nat.le_trans hn0 HB2.out.size) hH
    rw [← hE] at hly
    have HLY := Lib.hid hly
    clear hly
    refine step_call_g (by rfl) 96 _ _ rfl (fun _ _ => by kernel_rfl) #[.pointer (some ⟨H, 0, none⟩), .agg #[.slice va vn vc], .int .i64 RR.1] (by simp [go_sem]) _ HLY.out ?_
    rintro e w3 ⟨rfl, h3, hB3, hK3⟩
    refine ⟨_, rfl, ?_⟩
    have H3 := Lib.hid h3
    have HB3 := Lib.hid (HB2.out.trans hB3)
    have HK3 := Lib.hid (HK2.out.trans hK3)
    clear h3 hB3 hK3 HLY
    refine hK.out _ _ (fun h => absurd h (by decide)) ?_
    clear hK K
    try simp only [Act.put, List.setIfInBounds_toArray, List.set_cons_zero, List.set_cons_succ]
    refine wpAnyL_end (by kernel_rfl) ?_
    go_wp2_with fail
    go_end0
    rw [HR2.out]
    exact Or.inl ⟨rfl, rfl, by rw [List.append_nil]; exact H3.out, HB3.out, HK3.out⟩
  · have HR2 := Lib.hid (HR.out.trans (if_neg hE))
    have HLN := Lib.hid (Try.lay_no H RR.1 hE (.slice va vn vc) ⟨_, _, _, rfl⟩ w2)
    refine step_panic_g (by rfl) 96 _ _ rfl (fun _ _ => by kernel_rfl) #[.pointer (some ⟨H, 0, none⟩), .agg #[.slice va vn vc], .int .i64 RR.1] (by simp [go_sem]) _ HLN.out ?_
    rintro e w3 ⟨rfl, hB3⟩
    refine ⟨_, rfl, ?_⟩
    refine ⟨rfl, ?_⟩
    rw [HR2.out]
    exact Or.inr ⟨hE, rfl, HB2.out.trans (hB3.mono (Nat.le_trans hn0 HB2.out.size)), HK2.out.trans (Kf.of_below hB3), _, _, _, _, _, HX2.out.bx.below hB3 HX2.out.bx.lt⟩
set_option maxHeartbeats 8000000 in
theorem Try.give_anyM (H n₀ : Nat) (m : Mn) (tk : List Pr) (t : Wt) (w : World) (h : Hd H n₀ m tk w) (hn0 : n₀ ≤ w.heap.size) (hH : n₀ ≤ H) :
    Calls Try.prog 92 #[.pointer (some ⟨H, 0, none⟩), .agg #[.int .i64 t.kind, .int .i64 t.goer, .int .i64 t.slab, .int .u64 (t.gen : Nat)]] w (HdQ H n₀ w (arR m (givT m.sl [t.ent])) tk) := by
  obtain ⟨kd, g, i, q⟩ := t
  dsimp only [Wt.ent] at *
  have HARE := fun (W : World) (a : Option Addr) (h1 : PAt W (.slice (h.choose).sa (h.choose).sn (h.choose).sc) m.sl) (h2 : RowAt W (.slice a 1 1) 1 2 [.int .i64 i, .int .u64 (q : Nat)]) => Lib.hid (Try.Give_any (h.choose).sa (h.choose).sn (h.choose).sc m.sl a 1 1 [(i, q)] (by omega) W h1 h2)
  obtain ⟨x, hx⟩ : ∃ x, x = h.choose := ⟨_, rfl⟩
  have hsp := h.choose_spec
  rw [← hx] at HARE hsp
  clear hx h
  obtain ⟨ta, tn, tc, vs, h⟩ := hsp
  obtain ⟨RR, hRR⟩ : ∃ R, R = givT m.sl [(i, q)] := ⟨_, rfl⟩
  rw [← hRR] at HARE ⊢
  clear hRR
  obtain ⟨R, hR⟩ : ∃ R, R = arR m RR := ⟨_, rfl⟩
  rw [← hR]
  unfold arR at hR
  have HR := Lib.hid hR
  clear hR
  have hal : Below w.heap.size w (w.alloc (.cells #[.int .i64 kd, .int .i64 g, .int .i64 i, .int .u64 (q : Nat)] 40)) := Rows8.newB
  have rw0 := Rows8.new w 40 #[.int .i64 kd, .int .i64 g, .int .i64 i, .int .u64 (q : Nat)]
  obtain ⟨W, hW⟩ : ∃ W, W = w.alloc (.cells #[.int .i64 kd, .int .i64 g, .int .i64 i, .int .u64 (q : Nat)] 40) := ⟨_, rfl⟩
  rw [← hW] at hal rw0
  have h1 := h.below hal
  obtain ⟨sa, sn, sc, pa, pn, pc, ha, hn, hc, ba, bn, bc⟩ := x
  dsimp only at HARE
  have HX := Lib.hid h1
  have HAL := Lib.hid (hal.mono hn0)
  have HKF := Lib.hid (Kf.of_below (T := tM) hal)
  have HR0 := Lib.hid rw0
  clear h h1 hal rw0
  go_enter Try.func92, Try.ntmps92
  go_wp2_with fail
  rw [← hW]
  clear hW
  refine wp_region_L (fun W' => Rows8 W' H 95 #[.slice sa sn sc, .slice pa pn pc, .slice ha hn hc, .slice ba bn bc, .slice ta tn tc] ∧ Rows8 W' w.heap.size 40 #[.int .i64 kd, .int .i64 g, .int .i64 i, .int .u64 (q : Nat)]) 13 (by kernel_rfl) ?_
  have hS0 : Rows8 W.drew H 95 #[.slice sa sn sc, .slice pa pn pc, .slice ha hn hc, .slice ba bn bc, .slice ta tn tc] ∧ Rows8 W.drew w.heap.size 40 #[.int .i64 kd, .int .i64 g, .int .i64 i, .int .u64 (q : Nat)] := ⟨HX.out.bx.drewA, HR0.out.drewA⟩
  have HX0 := Lib.hid HX.out.drew
  have HB0 := Lib.hid HAL.out.drew
  have HK0 := Lib.hid HKF.out.drew
  clear HX HAL HKF HR0
  generalize W.drew = Wd at *
  refine wpAnyL_takeT (i := 0) (oi := { dst := some 4, op := Go.Op.move (Go.Operand.tmp 0), type := 117, pos := "hand.go:113", after := #[], guard := none }) (v := .pointer (some ⟨H, 0, none⟩)) [13] rfl (by kernel_rfl) (by kernel_rfl) (by kernel_rfl) (by kernel_rfl) (fun _ _ _ h => h) (Or.inl ⟨by rfl, ?_⟩) hS0 ?_
  · intro W9 hS9
    obtain ⟨q0, q1⟩ := hS9
    clear q0 q1
    go_simp
  try simp only [Act.put, List.setIfInBounds_toArray, List.set_cons_zero, List.set_cons_succ]
  refine wpAnyL_takeT (i := 1) (oi := { dst := some 5, op := Go.Op.move (Go.Operand.tmp 0), type := 117, pos := "hand.go:113", after := #[], guard := none }) (v := .pointer (some ⟨H, 0, none⟩)) [2, 3, 4, 5, 6, 10, 11, 12, 13] rfl (by kernel_rfl) (by kernel_rfl) (by kernel_rfl) (by kernel_rfl) (fun _ _ _ h => h) (Or.inl ⟨by rfl, ?_⟩) hS0 ?_
  · intro W9 hS9
    obtain ⟨q0, q1⟩ := hS9
    clear q0 q1
    go_simp
  try simp only [Act.put, List.setIfInBounds_toArray, List.set_cons_zero, List.set_cons_succ]
  refine wpAnyL_takeT (i := 2) (oi := { dst := some 6, op := Go.Op.nilCheck (Go.Operand.tmp 5), type := 0, pos := "hand.go:113", after := #[{ on := 1, ground := Go.Ground.data }], guard := none }) (v := .pointer (some ⟨H, 0, none⟩)) [3, 4, 5, 6, 10, 11, 12, 13] rfl (by kernel_rfl) (by kernel_rfl) (by kernel_rfl) (by kernel_rfl) (fun _ _ _ h => h) (Or.inl ⟨by rfl, ?_⟩) hS0 ?_
  · intro W9 hS9
    obtain ⟨q0, q1⟩ := hS9
    clear q0 q1
    go_simp
  try simp only [Act.put, List.setIfInBounds_toArray, List.set_cons_zero, List.set_cons_succ]
  refine wpAnyL_takeT (i := 3) (oi := { dst := some 7, op := Go.Op.fieldAddr 95 (Go.Operand.tmp 6) 0, type := 0, pos := "hand.go:113", after := #[{ on := 2, ground := Go.Ground.data }], guard := none }) (v := .pointer (some ⟨H, 0, none⟩)) [4, 5, 6, 10, 11, 12, 13] rfl (by kernel_rfl) (by kernel_rfl) (by kernel_rfl) (by kernel_rfl) (fun _ _ _ h => h) (Or.inl ⟨by rfl, ?_⟩) hS0 ?_
  · intro W9 hS9
    obtain ⟨q0, q1⟩ := hS9
    clear q0 q1
    go_simp
  try simp only [Act.put, List.setIfInBounds_toArray, List.set_cons_zero, List.set_cons_succ]
  refine wpAnyL_takeT (i := 4) (oi := { dst := some 8, op := Go.Op.fieldAddr 79 (Go.Operand.tmp 7) 0, type := 0, pos := "hand.go:113", after := #[{ on := 3, ground := Go.Ground.data }], guard := none }) (v := .pointer (some ⟨H, 0, none⟩)) [5, 6, 10, 11, 12, 13] rfl (by kernel_rfl) (by kernel_rfl) (by kernel_rfl) (by kernel_rfl) (fun _ _ _ h => h) (Or.inl ⟨by rfl, ?_⟩) hS0 ?_
  · intro W9 hS9
    obtain ⟨q0, q1⟩ := hS9
    clear q0 q1
    go_simp
  try simp only [Act.put, List.setIfInBounds_toArray, List.set_cons_zero, List.set_cons_succ]
  refine wpAnyL_takeT (i := 5) (oi := { dst := some 9, op := Go.Op.fieldAddr 29 (Go.Operand.tmp 8) 0, type := 0, pos := "hand.go:113", after := #[{ on := 4, ground := Go.Ground.data }], guard := none }) (v := .pointer (some ⟨H, 0, none⟩)) [6, 10, 11, 12, 13] rfl (by kernel_rfl) (by kernel_rfl) (by kernel_rfl) (by kernel_rfl) (fun _ _ _ h => h) (Or.inl ⟨by rfl, ?_⟩) hS0 ?_
  · intro W9 hS9
    obtain ⟨q0, q1⟩ := hS9
    clear q0 q1
    go_simp
  try simp only [Act.put, List.setIfInBounds_toArray, List.set_cons_zero, List.set_cons_succ]
  refine wpAnyL_takeT (i := 6) (oi := { dst := some 10, op := Go.Op.load 24 (Go.Operand.tmp 9), type := 24, pos := "hand.go:113", after := #[{ on := 5, ground := Go.Ground.data }], guard := none }) (v := .agg #[.slice sa sn sc]) [10, 11, 12, 13] rfl (by kernel_rfl) (by kernel_rfl) (by kernel_rfl) (by kernel_rfl) (fun _ _ _ h => h) (Or.inl ⟨by rfl, ?_⟩) hS0 ?_
  · intro W9 hS9
    obtain ⟨q0, q1⟩ := hS9
    have s0 : W9.cell? ⟨H, 0, none⟩ = some (.slice sa sn sc) := q0.cell 0
    clear q0 q1
    go_simp
  try simp only [Act.put, List.setIfInBounds_toArray, List.set_cons_zero, List.set_cons_succ]
  refine wpAnyL_takeT (i := 7) (oi := { dst := some 11, op := Go.Op.fieldAddr 40 (Go.Operand.tmp 3) 2, type := 0, pos := "hand.go:113", after := #[], guard := none }) (v := .pointer (some ⟨w.heap.size, 2, none⟩)) [8, 9, 10, 11, 12, 13] rfl (by kernel_rfl) (by kernel_rfl) (by kernel_rfl) (by kernel_rfl) (fun _ _ _ h => h) (Or.inl ⟨by rfl, ?_⟩) hS0 ?_
  · intro W9 hS9
    obtain ⟨q0, q1⟩ := hS9
    clear q0 q1
    go_simp
  try simp only [Act.put, List.setIfInBounds_toArray, List.set_cons_zero, List.set_cons_succ]
  refine wpAnyL_takeT (i := 8) (oi := { dst := some 12, op := Go.Op.load 38 (Go.Operand.tmp 11), type := 38, pos := "hand.go:113", after := #[{ on := 7, ground := Go.Ground.data }], guard := none }) (v := .agg #[.int .i64 i, .int .u64 (q : Nat)]) [9, 10, 11, 12, 13] rfl (by kernel_rfl) (by kernel_rfl) (by kernel_rfl) (by kernel_rfl) (fun _ _ _ h => h) (Or.inl ⟨by rfl, ?_⟩) hS0 ?_
  · intro W9 hS9
    obtain ⟨q0, q1⟩ := hS9
    have s2 : W9.cell? ⟨w.heap.size, 2, none⟩ = some (.int .i64 i) := q1.cell 2
    have s3 : W9.cell? ⟨w.heap.size, 3, none⟩ = some (.int .u64 (q : Nat)) := q1.cell 3
    clear q0 q1
    go_simp
  try simp only [Act.put, List.setIfInBounds_toArray, List.set_cons_zero, List.set_cons_succ]
  refine wpAnyL_one (i := 9) (o := { dst := some 13, op := Go.Op.buildSlice 62 1 #[(0, Go.Operand.tmp 12)], type := 62, pos := "hand.go:113", after := #[{ on := 8, ground := Go.Ground.data }], guard := none }) (by kernel_rfl) rfl (fun K hK => ?_)
  refine step_value_g (by rfl) (.slice (some ⟨Wd.heap.size, 0, none⟩) 1 1) (w' := (Wd.alloc (.cells #[.int .i64 i, .int .u64 (q : Nat)] 38))) (by go_simp) ?_
  have hal : Below Wd.heap.size Wd (Wd.alloc (.cells #[.int .i64 i, .int .u64 (q : Nat)] 38)) := Rows8.newB
  have hlit := lit_atM Wd i q
  have hS1 : Rows8 (Wd.alloc (.cells #[.int .i64 i, .int .u64 (q : Nat)] 38)) H 95 #[.slice sa sn sc, .slice pa pn pc, .slice ha hn hc, .slice ba bn bc, .slice ta tn tc] ∧ Rows8 (Wd.alloc (.cells #[.int .i64 i, .int .u64 (q : Nat)] 38)) w.heap.size 40 #[.int .i64 kd, .int .i64 g, .int .i64 i, .int .u64 (q : Nat)] := ⟨hS0.1.below hal hS0.1.lt, hS0.2.below hal hS0.2.lt⟩
  have HX1 := Lib.hid (HX0.out.below hal)
  have HB1 := Lib.hid (HB0.out.trans (hal.mono (Nat.le_trans hn0 HB0.out.size)))
  have HK1 := Lib.hid (HK0.out.trans (Kf.of_below (T := tM) hal))
  have HLIT := Lib.hid hlit
  clear hal hlit HX0 HB0 HK0
  refine hK.out _ _ (fun _ => hS1) ?_
  clear hK K
  try simp only [Act.put, List.setIfInBounds_toArray, List.set_cons_zero, List.set_cons_succ]
  generalize hal9 : (Wd.alloc (.cells #[.int .i64 i, .int .u64 (q : Nat)] 38)) = W1 at *
  clear hal9
  refine wpAnyL_one (i := 10) (o := { dst := some 14, op := Go.Op.call { callee := Go.Callee.value (Go.Operand.func 98), args := #[Go.Operand.tmp 10, Go.Operand.tmp 13], argTypes := #[24, 62] }, type := 89, pos := "hand.go:113", after := #[{ on := 6, ground := Go.Ground.data }, { on := 9, ground := Go.Ground.data }], guard := none }) (by kernel_rfl) rfl (fun K hK => ?_)
  refine step_call_g (by rfl) 98 _ _ rfl (fun _ _ => by kernel_rfl) #[.agg #[.slice sa sn sc], .slice (some ⟨Wd.heap.size, 0, none⟩) 1 1] (by simp [go_sem]) _ (HARE W1 _ (slab_block HX1.out) HLIT.out).out ?_
  rintro e w2 ⟨v2, rfl, ho2, hC⟩
  refine ⟨_, rfl, ?_⟩
  obtain ⟨va, vc, hv2⟩ := ho2.form
  obtain ⟨vn, hvn⟩ : ∃ k, k = RR.2.1.length := ⟨_, rfl⟩
  rw [← hvn] at hv2
  subst hv2
  have hS2 : Rows8 w2 H 95 #[.slice sa sn sc, .slice pa pn pc, .slice ha hn hc, .slice ba bn bc, .slice ta tn tc] ∧ Rows8 w2 w.heap.size 40 #[.int .i64 kd, .int .i64 g, .int .i64 i, .int .u64 (q : Nat)] := ⟨hS1.1.below hC hS1.1.lt, hS1.2.below hC hS1.2.lt⟩
  have HX2 := Lib.hid (HX1.out.below hC)
  have HO2 := Lib.hid (ho2.mono (Nat.le_trans hn0 HB1.out.size))
  have HB2 := Lib.hid (HB1.out.trans (hC.mono (Nat.le_trans hn0 HB1.out.size)))
  have HK2 := Lib.hid (HK1.out.trans (Kf.of_below (T := tM) hC))
  clear hC HX1 HB1 HK1 ho2 hvn
  refine hK.out _ _ (fun _ => hS2) ?_
  clear hK K
  try simp only [Act.put, List.setIfInBounds_toArray, List.set_cons_zero, List.set_cons_succ]
  refine wpAnyL_takeT (i := 11) (oi := { dst := some 15, op := Go.Op.extract (Go.Operand.tmp 14) 0, type := 24, pos := "hand.go:113", after := #[{ on := 10, ground := Go.Ground.data }], guard := none }) (v := .agg #[.slice va vn vc]) [13] rfl (by kernel_rfl) (by kernel_rfl) (by kernel_rfl) (by kernel_rfl) (fun _ _ _ h => h) (Or.inl ⟨by rfl, ?_⟩) hS2 ?_
  · intro W9 hS9
    obtain ⟨q0, q1⟩ := hS9
    clear q0 q1
    go_simp
  try simp only [Act.put, List.setIfInBounds_toArray, List.set_cons_zero, List.set_cons_succ]
  refine wpAnyL_takeT (i := 12) (oi := { dst := some 16, op := Go.Op.extract (Go.Operand.tmp 14) 1, type := 33, pos := "hand.go:113", after := #[{ on := 10, ground := Go.Ground.data }], guard := none }) (v := .int .i64 RR.1) [13] rfl (by kernel_rfl) (by kernel_rfl) (by kernel_rfl) (by kernel_rfl) (fun _ _ _ h => h) (Or.inl ⟨by rfl, ?_⟩) hS2 ?_
  · intro W9 hS9
    obtain ⟨q0, q1⟩ := hS9
    clear q0 q1
    go_simp
  try simp only [Act.put, List.setIfInBounds_toArray, List.set_cons_zero, List.set_cons_succ]
  refine wpAnyL_one (i := 13) (o := { dst := some 17, op := Go.Op.call { callee := Go.Callee.value (Go.Operand.func 96), args := #[Go.Operand.tmp 4, Go.Operand.tmp 15, Go.Operand.tmp 16], argTypes := #[117, 24, 33] }, type := 0, pos := "hand.go:113", after := #[{ on := 0, ground := Go.Ground.data }, { on := 11, ground := Go.Ground.data }, { on := 12, ground := Go.Ground.data }, { on := 10, ground := Go.Ground.chain }], guard := none }) (by kernel_rfl) rfl (fun K hK => ?_)
  by_cases hE : RR.1 = 0
  · have HR2 := Lib.hid (HR.out.trans (if_pos hE))
    have hly := Try.lay_yes H n₀ m tk RR.2.1 va vn vc w2 ⟨_, _, _, _, _, HX2.out⟩ HO2.out (Nat.le_trans hn0 HB2.out.size) hH
    rw [← hE] at hly
    have HLY := Lib.hid hly
    clear hly
    refine step_call_g (by rfl) 96 _ _ rfl (fun _ _ => by kernel_rfl) #[.pointer (some ⟨H, 0, none⟩), .agg #[.slice va vn vc], .int .i64 RR.1] (by simp [go_sem]) _ HLY.out ?_
    rintro e w3 ⟨rfl, h3, hB3, hK3⟩
    refine ⟨_, rfl, ?_⟩
    have H3 := Lib.hid h3
    have HB3 := Lib.hid (HB2.out.trans hB3)
    have HK3 := Lib.hid (HK2.out.trans hK3)
    clear h3 hB3 hK3 HLY
    refine hK.out _ _ (fun h => absurd h (by decide)) ?_
    clear hK K
    try simp only [Act.put, List.setIfInBounds_toArray, List.set_cons_zero, List.set_cons_succ]
    refine wpAnyL_end (by kernel_rfl) ?_
    go_wp2_with fail
    go_end0
    rw [HR2.out]
    exact Or.inl ⟨rfl, rfl, by rw [List.append_nil]; exact H3.out, HB3.out, HK3.out⟩
  · have HR2 := Lib.hid (HR.out.trans (if_neg hE))
    have HLN := Lib.hid (Try.lay_no H RR.1 hE (.slice va vn vc) ⟨_, _, _, rfl⟩ w2)
    refine step_panic_g (by rfl) 96 _ _ rfl (fun _ _ => by kernel_rfl) #[.pointer (some ⟨H, 0, none⟩), .agg #[.slice va vn vc], .int .i64 RR.1] (by simp [go_sem]) _ HLN.out ?_
    rintro e w3 ⟨rfl, hB3⟩
    refine ⟨_, rfl, ?_⟩
    refine ⟨rfl, ?_⟩
    rw [HR2.out]
    exact Or.inr ⟨hE, rfl, HB2.out.trans (hB3.mono (Nat.le_trans hn0 HB2.out.size)), HK2.out.trans (Kf.of_below hB3), _, _, _, _, _, HX2.out.bx.below hB3 HX2.out.bx.lt⟩
end Go.Proofs
