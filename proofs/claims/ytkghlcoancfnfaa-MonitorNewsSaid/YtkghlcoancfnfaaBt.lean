/- Monitor: a hand that gets, touches, retires, gives back. -/
import Derived.Test.YtkghlcoancfnfaaBs
namespace Go.Proofs
set_option maxRecDepth 100000
open Go.RowKit Go.Shelf
attribute [local go_sem] Oper.semAt_some

theorem Hd.box {H n₀ : Nat} {m : Mn} {tk : List Pr} {W : World} (h : Hd H n₀ m tk W) : ∃ u0 u1 u2 u3 u4, Rows8 W H 95 #[u0, u1, u2, u3, u4] := by
  obtain ⟨x, ta, tn, tc, vs, h⟩ := h
  exact ⟨_, _, _, _, _, h.bx⟩
set_option maxHeartbeats 4000000 in
theorem Try.get_any (H n₀ : Nat) (m : Mn) (tk : List Pr) (t : Wt) (w : World) (h : Hd H n₀ m tk w) (hk : okM m) (hl : m.has.length = m.pin.length) (hg : 0 ≤ t.goer ∧ t.goer < m.pin.length) (hn0 : n₀ ≤ w.heap.size) :
    Calls Try.prog 88 #[.pointer (some ⟨H, 0, none⟩), .agg #[.int .i64 t.kind, .int .i64 t.goer, .int .i64 t.slab, .int .u64 (t.gen : Nat)]] w (HdQ H n₀ w (if pinM m t.goer then (0, addM m t.goer t.ent, []) else (4, m, [])) tk) := by
  obtain ⟨kd, gr, i, q⟩ := t
  dsimp only [Wt.ent] at hg ⊢
  obtain ⟨g, rfl⟩ : ∃ g : Nat, gr = g := ⟨gr.toNat, by omega⟩
  have hgp : g < m.pin.length := by omega
  obtain ⟨R, hR⟩ : ∃ R, R = (if pinM m ((g : Nat) : Int) then ((0 : Int), addM m ((g : Nat) : Int) (i, q), ([] : List Pr)) else (4, m, [])) := ⟨_, rfl⟩
  rw [← hR]
  have HR := Lib.hid hR
  clear hR
  have hal : Below w.heap.size w (w.alloc (.cells #[.int .i64 kd, .int .i64 (g : Nat), .int .i64 i, .int .u64 (q : Nat)] 40)) := Rows8.newB
  have rw0 := Rows8.new w 40 #[.int .i64 kd, .int .i64 (g : Nat), .int .i64 i, .int .u64 (q : Nat)]
  obtain ⟨W, hW⟩ : ∃ W, W = w.alloc (.cells #[.int .i64 kd, .int .i64 (g : Nat), .int .i64 i, .int .u64 (q : Nat)] 40) := ⟨_, rfl⟩
  rw [← hW] at hal rw0
  have h1 := h.below hal
  have HML := Lib.hid (Try.mustLook_any H n₀ m tk g W h1 hgp)
  have HX := Lib.hid h1
  have HAL := Lib.hid (hal.mono hn0)
  have HKF := Lib.hid (Kf.of_below (T := tM) hal)
  have HR0 := Lib.hid rw0
  have HBX := Lib.hid (Hd.box h1)
  have c0 : W.cell? ⟨w.heap.size, 0, none⟩ = some (.int .i64 kd) := rw0.cell 0
  have c1 : W.cell? ⟨w.heap.size, 1, none⟩ = some (.int .i64 (g : Nat)) := rw0.cell 1
  have c2 : W.cell? ⟨w.heap.size, 2, none⟩ = some (.int .i64 i) := rw0.cell 2
  have c3 : W.cell? ⟨w.heap.size, 3, none⟩ = some (.int .u64 (q : Nat)) := rw0.cell 3
  have HADD := Lib.hid (Try.add_any H n₀ m tk g (i, q) W h1 hk (by omega) (Nat.le_trans hn0 hal.size))
  dsimp only at HADD
  clear h h1 hal rw0 hg
  go_enter Try.func88, Try.ntmps88
  go_wp2_with fail
  rw [← hW]
  clear hW
  refine HML.out.mono ?_
  rintro e w' (⟨hpi, rfl, rfl⟩ | ⟨hpi, rfl, rfl⟩)
  · have HR2 := Lib.hid (HR.out.trans (if_pos hpi))
    clear hpi HML HR
    go_wp2_with fail
    refine HADD.out.mono ?_
    rintro e w2 ⟨rfl, h2, hB2, hK2⟩
    have H2 := Lib.hid h2
    have HB2 := Lib.hid (HAL.out.trans hB2)
    have HK2 := Lib.hid (HKF.out.trans hK2)
    clear h2 hB2 hK2 HADD
    go_wp2_with fail
    go_end0
    rw [HR2.out]
    exact Or.inl ⟨rfl, rfl, by rw [List.append_nil]; exact H2.out, HB2.out, HK2.out⟩
  · have HR2 := Lib.hid (HR.out.trans (if_neg (by rw [hpi]; decide)))
    clear hpi HML HR
    unfold panicA
    go_wp2_with fail
    refine ⟨rfl, ?_⟩
    rw [HR2.out]
    obtain ⟨u0, u1, u2, u3, u4, hb⟩ := HBX.out
    exact Or.inr ⟨by show (4 : Int) ≠ 0; decide, rfl, HAL.out, HKF.out, u0, u1, u2, u3, u4, hb⟩
theorem lit_atW (W : World) (a b c : Int) (d : Nat) : RowAt (W.alloc (.cells #[.int .i64 a, .int .i64 b, .int .i64 c, .int .u64 (d : Nat)] 40)) (.slice (some ⟨W.heap.size, 0, none⟩) 1 1) 1 4 [.int .i64 a, .int .i64 b, .int .i64 c, .int .u64 (d : Nat)] := by
  refine ⟨rfl, _, 1, rfl, Nat.le_refl _, by unfold maxLen; omega, (fun e => by cases e), fun j hj => ⟨W.heap.size, 0, rfl, by simp, ?_⟩⟩
  rw [Nat.zero_add, Rows8.cell (Rows8.new W _ _) j]
  simp
def badM (m : Mn) (x : Wt) : Mn := if goodM m x = false ∧ m.bad.length < 16 then { m with bad := m.bad ++ [x] } else m
theorem box_same {W : World} {B : Nat} {t : TypeId} {cs ds : Array Value} (h : Rows8 W B t cs) (h2 : Rows8 W B t ds) : cs = ds := by
  have h3 : W.heap[B]? = some (Obj.cells ds t (0, 0)) := h2
  rw [show W.heap[B]? = _ from h] at h3
  injection h3 with h3
  injection h3
/-- The bad ones' block was there ahead of the call. -/
theorem bad_block {H n₀ : Nat} {x : Mv} {ta : Option Addr} {tn tc : Nat} {vs : List Value} {m : Mn} {tk : List Pr} {w W : World} (h : Hd H n₀ m tk w) (hx : Hx H n₀ x ta tn tc vs m tk W) (hal : Below w.heap.size w W) : ∀ z, (.slice x.ba x.bn x.bc : Value).ownBlock = some z → z < w.heap.size := by
  obtain ⟨y, ua, un, uc, us, hy⟩ := h
  have e := box_same hx.bx (hy.below hal).bx
  simp only [Array.mk.injEq, List.cons.injEq, and_true] at e
  obtain ⟨_, _, _, e4, _⟩ := e
  intro z hz
  rw [e4] at hz
  exact (World.ownsRow.lt hy.o.b z hz).2
set_option maxHeartbeats 16000000 in
theorem Try.touch_any (H n₀ : Nat) (m : Mn) (tk : List Pr) (t : Wt) (w : World) (h : Hd H n₀ m tk w) (hk : okM m) (hl : m.has.length = m.pin.length) (hg : 0 ≤ t.goer ∧ t.goer < m.pin.length) (hn0 : n₀ ≤ w.heap.size) (hH : n₀ ≤ H) :
    Calls Try.prog 89 #[.pointer (some ⟨H, 0, none⟩), .agg #[.int .i64 t.kind, .int .i64 t.goer, .int .i64 t.slab, .int .u64 (t.gen : Nat)]] w (HdQ H n₀ w (if pinM m t.goer then (0, badM m t, []) else (4, m, [])) tk) := by
  obtain ⟨i0, hi, hz0, hz1, hz2⟩ := info_parts Try.infoWatch
  obtain ⟨kd, gr, i, q⟩ := t
  dsimp only [Wt.ent] at hg ⊢
  obtain ⟨g, rfl⟩ : ∃ g : Nat, gr = g := ⟨gr.toNat, by omega⟩
  have hgp : g < m.pin.length := by omega
  obtain ⟨R, hR⟩ : ∃ R, R = (if pinM m ((g : Nat) : Int) then ((0 : Int), badM m ⟨kd, (g : Nat), i, q⟩, ([] : List Pr)) else (4, m, [])) := ⟨_, rfl⟩
  rw [← hR]
  have HR := Lib.hid hR
  clear hR
  have hal : Below w.heap.size w (w.alloc (.cells #[.int .i64 kd, .int .i64 (g : Nat), .int .i64 i, .int .u64 (q : Nat)] 40)) := Rows8.newB
  have rw0 := Rows8.new w 40 #[.int .i64 kd, .int .i64 (g : Nat), .int .i64 i, .int .u64 (q : Nat)]
  obtain ⟨W, hW⟩ : ∃ W, W = w.alloc (.cells #[.int .i64 kd, .int .i64 (g : Nat), .int .i64 i, .int .u64 (q : Nat)] 40) := ⟨_, rfl⟩
  rw [← hW] at hal rw0
  have h1 := h.below hal
  have HML := Lib.hid (Try.mustLook_any H n₀ m tk g W h1 hgp)
  have HX := Lib.hid h1
  have HAL := Lib.hid (hal.mono hn0)
  have HKF := Lib.hid (Kf.of_below (T := tM) hal)
  have HR0 := Lib.hid rw0
  have HBX := Lib.hid (Hd.box h1)
  have c0 : W.cell? ⟨w.heap.size, 0, none⟩ = some (.int .i64 kd) := rw0.cell 0
  have c1 : W.cell? ⟨w.heap.size, 1, none⟩ = some (.int .i64 (g : Nat)) := rw0.cell 1
  have c2 : W.cell? ⟨w.heap.size, 2, none⟩ = some (.int .i64 i) := rw0.cell 2
  have c3 : W.cell? ⟨w.heap.size, 3, none⟩ = some (.int .u64 (q : Nat)) := rw0.cell 3
  have hg9 : ((g : Nat) : Int) < ((m.pin.length : Nat) : Int) := hg.2
  have HQB0 := Lib.hid (fun x ta tn tc vs (hx : Hx H n₀ x ta tn tc vs m tk W) => Lib.hid (bad_block h hx hal))
  clear h h1 hal rw0 hg
  go_enter Try.func89, Try.ntmps89
  go_wp2_with fail
  rw [← hW]
  clear hW
  refine HML.out.mono ?_
  rintro e w' (⟨hpi, rfl, rfl⟩ | ⟨hpi, rfl, rfl⟩)
  · have HR2 := Lib.hid (HR.out.trans (if_pos hpi))
    clear hpi HML HR
    obtain ⟨x, ta, tn, tc, vs, hx⟩ := HX.out
    have HGOOD := fun (W : World) (h : Hx H n₀ x ta tn tc vs m tk W) => Lib.hid (Try.good_any x m ⟨kd, (g : Nat), i, q⟩ W (h.o.at hk) ⟨by show (0 : Int) ≤ ((g : Nat) : Int); omega, by rw [hl]; exact hg9⟩)
    have hbn := (OwnMon.at hx.o hk).lens.2.2.2
    have hbd := hk.2.2.2.2.1
    obtain ⟨sa, sn, sc, pa, pn, pc, ha, hn, hc, ba, bn, bc⟩ := x
    dsimp only at HGOOD hbn
    have hbn9 : bn ≤ 1000 := by omega
    have HBN := Lib.hid hbn
    have HXx := Lib.hid hx
    have HQB : Hid (∀ z, (.slice ba bn bc : Value).ownBlock = some z → z < w.heap.size) := HQB0.out _ _ _ _ _ hx
    have HNEW := Lib.hid (fun (_ : World) => trivial)
    obtain ⟨zg, hzg⟩ : ∃ z, z = goodM m ⟨kd, (g : Nat), i, q⟩ := ⟨_, rfl⟩
    rw [← hzg] at HGOOD
    have hbm : badM m ⟨kd, (g : Nat), i, q⟩ = if zg = false ∧ bn < 16 then { m with bad := m.bad ++ [⟨kd, (g : Nat), i, q⟩] } else m := by unfold badM; rw [← hzg, ← hbn]
    have HBM := Lib.hid hbm
    clear hx HX hzg hbn hbd hbm HBX c0 c1 c2 c3 hk HQB0
    cases zg with
    | true =>
      have HM9 := Lib.hid (HBM.out.trans (if_neg (by simp)))
      clear HBM
      go_wp2_with fail
      refine wp_region_X (fun W' => Rows8 W' H 95 #[.slice sa sn sc, .slice pa pn pc, .slice ha hn hc, .slice ba bn bc, .slice ta tn tc] ∧ Rows8 W' w.heap.size 40 #[.int .i64 kd, .int .i64 (g : Nat), .int .i64 i, .int .u64 (q : Nat)]) 17 (by kernel_rfl) ?_
      have hS0 : Rows8 w'.drew H 95 #[.slice sa sn sc, .slice pa pn pc, .slice ha hn hc, .slice ba bn bc, .slice ta tn tc] ∧ Rows8 w'.drew w.heap.size 40 #[.int .i64 kd, .int .i64 (g : Nat), .int .i64 i, .int .u64 (q : Nat)] := ⟨HXx.out.bx.drewA, HR0.out.drewA⟩
      have HX0 := Lib.hid HXx.out.drew
      have HB0 := Lib.hid HAL.out.drew
      have HK0 := Lib.hid HKF.out.drew
      clear HXx HAL HKF HR0
      generalize w'.drew = Wd at *
      refine wpAnyN_take (i := 0) (oi := { dst := some 8, op := Go.Op.move (Go.Operand.tmp 0), type := 117, pos := "hand.go:98", after := #[], guard := none }) (v := .pointer (some ⟨H, 0, none⟩)) rfl (by decide) (by kernel_rfl) (by kernel_rfl) (by kernel_rfl) (fun _ _ _ h => h) (Or.inl ⟨by rfl, ?_⟩) hS0 ?_
      · intro W9 hS9
        obtain ⟨q0, q1⟩ := hS9
        clear q0 q1
        go_simp
      try simp only [Act.put, List.setIfInBounds_toArray, List.set_cons_zero, List.set_cons_succ]
      refine wpAnyN_take (i := 1) (oi := { dst := some 9, op := Go.Op.nilCheck (Go.Operand.tmp 8), type := 0, pos := "hand.go:98", after := #[{ on := 0, ground := Go.Ground.data }], guard := none }) (v := .pointer (some ⟨H, 0, none⟩)) rfl (by decide) (by kernel_rfl) (by kernel_rfl) (by kernel_rfl) (fun _ _ _ h => h) (Or.inl ⟨by rfl, ?_⟩) hS0 ?_
      · intro W9 hS9
        obtain ⟨q0, q1⟩ := hS9
        clear q0 q1
        go_simp
      try simp only [Act.put, List.setIfInBounds_toArray, List.set_cons_zero, List.set_cons_succ]
      refine wpAnyN_take (i := 2) (oi := { dst := some 10, op := Go.Op.fieldAddr 95 (Go.Operand.tmp 9) 0, type := 0, pos := "hand.go:98", after := #[{ on := 1, ground := Go.Ground.data }], guard := none }) (v := .pointer (some ⟨H, 0, none⟩)) rfl (by decide) (by kernel_rfl) (by kernel_rfl) (by kernel_rfl) (fun _ _ _ h => h) (Or.inl ⟨by rfl, ?_⟩) hS0 ?_
      · intro W9 hS9
        obtain ⟨q0, q1⟩ := hS9
        clear q0 q1
        go_simp
      try simp only [Act.put, List.setIfInBounds_toArray, List.set_cons_zero, List.set_cons_succ]
      refine wpAnyN_take (i := 3) (oi := { dst := some 11, op := Go.Op.load 79 (Go.Operand.tmp 10), type := 79, pos := "hand.go:98", after := #[{ on := 2, ground := Go.Ground.data }], guard := none }) (v := .agg #[.slice sa sn sc, .slice pa pn pc, .slice ha hn hc, .slice ba bn bc]) rfl (by decide) (by kernel_rfl) (by kernel_rfl) (by kernel_rfl) (fun _ _ _ h => h) (Or.inl ⟨by rfl, ?_⟩) hS0 ?_
      · intro W9 hS9
        obtain ⟨q0, q1⟩ := hS9
        have s0 : W9.cell? ⟨H, 0, none⟩ = some (.slice sa sn sc) := q0.cell 0
        have s1 : W9.cell? ⟨H, 1, none⟩ = some (.slice pa pn pc) := q0.cell 1
        have s2 : W9.cell? ⟨H, 2, none⟩ = some (.slice ha hn hc) := q0.cell 2
        have s3 : W9.cell? ⟨H, 3, none⟩ = some (.slice ba bn bc) := q0.cell 3
        clear q0 q1
        go_simp
      try simp only [Act.put, List.setIfInBounds_toArray, List.set_cons_zero, List.set_cons_succ]
      refine wpAnyN_take (i := 4) (oi := { dst := some 12, op := Go.Op.load 40 (Go.Operand.tmp 3), type := 40, pos := "hand.go:98", after := #[], guard := none }) (v := .agg #[.int .i64 kd, .int .i64 (g : Nat), .int .i64 i, .int .u64 (q : Nat)]) rfl (by decide) (by kernel_rfl) (by kernel_rfl) (by kernel_rfl) (fun _ _ _ h => h) (Or.inl ⟨by rfl, ?_⟩) hS0 ?_
      · intro W9 hS9
        obtain ⟨q0, q1⟩ := hS9
        have s0 : W9.cell? ⟨w.heap.size, 0, none⟩ = some (.int .i64 kd) := q1.cell 0
        have s1 : W9.cell? ⟨w.heap.size, 1, none⟩ = some (.int .i64 (g : Nat)) := q1.cell 1
        have s2 : W9.cell? ⟨w.heap.size, 2, none⟩ = some (.int .i64 i) := q1.cell 2
        have s3 : W9.cell? ⟨w.heap.size, 3, none⟩ = some (.int .u64 (q : Nat)) := q1.cell 3
        clear q0 q1
        go_simp
      try simp only [Act.put, List.setIfInBounds_toArray, List.set_cons_zero, List.set_cons_succ]
      refine wpAnyX_one (i := 5) (o := { dst := some 13, op := Go.Op.call { callee := Go.Callee.value (Go.Operand.func 49), args := #[Go.Operand.tmp 11, Go.Operand.tmp 12], argTypes := #[79, 40] }, type := 4, pos := "hand.go:98", after := #[{ on := 3, ground := Go.Ground.data }, { on := 4, ground := Go.Ground.data }], guard := none }) (by kernel_rfl) rfl (fun K hK => ?_)
      refine step_call_g (by rfl) 49 _ _ rfl (fun _ _ => by kernel_rfl) #[.agg #[.slice sa sn sc, .slice pa pn pc, .slice ha hn hc, .slice ba bn bc], .agg #[.int .i64 kd, .int .i64 (g : Nat), .int .i64 i, .int .u64 (q : Nat)]] (by simp [go_sem]) _ (HGOOD Wd HX0.out).out ?_
      rintro e w1 ⟨rfl, hC⟩
      refine ⟨_, rfl, ?_⟩
      have hS1 : Rows8 w1 H 95 #[.slice sa sn sc, .slice pa pn pc, .slice ha hn hc, .slice ba bn bc, .slice ta tn tc] ∧ Rows8 w1 w.heap.size 40 #[.int .i64 kd, .int .i64 (g : Nat), .int .i64 i, .int .u64 (q : Nat)] := ⟨hS0.1.below hC hS0.1.lt, hS0.2.below hC hS0.2.lt⟩
      have HX1 := Lib.hid (HX0.out.below hC)
      have HB1 := Lib.hid (HB0.out.trans (hC.mono (Nat.le_trans hn0 HB0.out.size)))
      have HK1 := Lib.hid (HK0.out.trans (Kf.of_below (T := tM) hC))
      clear hC HX0 HB0 HK0
      refine hK.out _ _ (fun _ => hS1) ?_
      clear hK K
      try simp only [Act.put, List.setIfInBounds_toArray, List.set_cons_zero, List.set_cons_succ]
      refine wpAnyN_take (i := 6) (oi := { dst := some 14, op := Go.Op.unOp Go.UnOp.not 4 (Go.Operand.tmp 13), type := 4, pos := "hand.go:98", after := #[{ on := 5, ground := Go.Ground.data }], guard := none }) (v := .bool false) rfl (by decide) (by kernel_rfl) (by kernel_rfl) (by kernel_rfl) (fun _ _ _ h => h) (Or.inl ⟨by rfl, ?_⟩) hS1 ?_
      · intro W9 hS9
        obtain ⟨q0, q1⟩ := hS9
        clear q0 q1
        go_simp
      try simp only [Act.put, List.setIfInBounds_toArray, List.set_cons_zero, List.set_cons_succ]
      refine wpAnyN_take (i := 7) (oi := { dst := some 15, op := Go.Op.move (Go.Operand.tmp 14), type := 4, pos := "hand.go:98", after := #[{ on := 6, ground := Go.Ground.data }, { on := 5, ground := Go.Ground.chain }], guard := none }) (v := .bool false) rfl (by decide) (by kernel_rfl) (by kernel_rfl) (by kernel_rfl) (fun _ _ _ h => h) (Or.inl ⟨by rfl, ?_⟩) hS1 ?_
      · intro W9 hS9
        obtain ⟨q0, q1⟩ := hS9
        clear q0 q1
        go_simp
      try simp only [Act.put, List.setIfInBounds_toArray, List.set_cons_zero, List.set_cons_succ]
      refine wpAnyN_take (i := 8) (oi := { dst := some 16, op := Go.Op.move (Go.Operand.tmp 0), type := 117, pos := "hand.go:98", after := #[{ on := 7, ground := Go.Ground.guard }], guard := some (7, true) }) (v := undef) rfl (by decide) (by kernel_rfl) (by kernel_rfl) (by kernel_rfl) (fun _ _ _ h => h) (Or.inr ⟨by rfl, rfl⟩) hS1 ?_
      try simp only [Act.put, List.setIfInBounds_toArray, List.set_cons_zero, List.set_cons_succ]
      refine wpAnyN_take (i := 9) (oi := { dst := some 17, op := Go.Op.nilCheck (Go.Operand.tmp 16), type := 0, pos := "hand.go:98", after := #[{ on := 8, ground := Go.Ground.data }, { on := 7, ground := Go.Ground.guard }], guard := some (7, true) }) (v := undef) rfl (by decide) (by kernel_rfl) (by kernel_rfl) (by kernel_rfl) (fun _ _ _ h => h) (Or.inr ⟨by rfl, rfl⟩) hS1 ?_
      try simp only [Act.put, List.setIfInBounds_toArray, List.set_cons_zero, List.set_cons_succ]
      refine wpAnyN_take (i := 10) (oi := { dst := some 18, op := Go.Op.fieldAddr 95 (Go.Operand.tmp 17) 0, type := 0, pos := "hand.go:98", after := #[{ on := 9, ground := Go.Ground.data }, { on := 7, ground := Go.Ground.guard }], guard := some (7, true) }) (v := undef) rfl (by decide) (by kernel_rfl) (by kernel_rfl) (by kernel_rfl) (fun _ _ _ h => h) (Or.inr ⟨by rfl, rfl⟩) hS1 ?_
      try simp only [Act.put, List.setIfInBounds_toArray, List.set_cons_zero, List.set_cons_succ]
      refine wpAnyN_take (i := 11) (oi := { dst := some 19, op := Go.Op.fieldAddr 79 (Go.Operand.tmp 18) 0, type := 0, pos := "hand.go:98", after := #[{ on := 10, ground := Go.Ground.data }, { on := 7, ground := Go.Ground.guard }], guard := some (7, true) }) (v := undef) rfl (by decide) (by kernel_rfl) (by kernel_rfl) (by kernel_rfl) (fun _ _ _ h => h) (Or.inr ⟨by rfl, rfl⟩) hS1 ?_
      try simp only [Act.put, List.setIfInBounds_toArray, List.set_cons_zero, List.set_cons_succ]
      refine wpAnyN_take (i := 12) (oi := { dst := some 20, op := Go.Op.fieldAddr 29 (Go.Operand.tmp 19) 3, type := 0, pos := "hand.go:98", after := #[{ on := 11, ground := Go.Ground.data }, { on := 7, ground := Go.Ground.guard }], guard := some (7, true) }) (v := undef) rfl (by decide) (by kernel_rfl) (by kernel_rfl) (by kernel_rfl) (fun _ _ _ h => h) (Or.inr ⟨by rfl, rfl⟩) hS1 ?_
      try simp only [Act.put, List.setIfInBounds_toArray, List.set_cons_zero, List.set_cons_succ]
      refine wpAnyN_take (i := 13) (oi := { dst := some 21, op := Go.Op.load 27 (Go.Operand.tmp 20), type := 27, pos := "hand.go:98", after := #[{ on := 12, ground := Go.Ground.data }, { on := 7, ground := Go.Ground.guard }], guard := some (7, true) }) (v := undef) rfl (by decide) (by kernel_rfl) (by kernel_rfl) (by kernel_rfl) (fun _ _ _ h => h) (Or.inr ⟨by rfl, rfl⟩) hS1 ?_
      try simp only [Act.put, List.setIfInBounds_toArray, List.set_cons_zero, List.set_cons_succ]
      refine wpAnyN_take (i := 14) (oi := { dst := some 22, op := Go.Op.call { callee := Go.Callee.builtin Go.Builtin.len, args := #[Go.Operand.tmp 21], argTypes := #[27] }, type := 3, pos := "hand.go:98", after := #[{ on := 13, ground := Go.Ground.data }, { on := 7, ground := Go.Ground.guard }], guard := some (7, true) }) (v := undef) rfl (by decide) (by kernel_rfl) (by kernel_rfl) (by kernel_rfl) (fun _ _ _ h => h) (Or.inr ⟨by rfl, rfl⟩) hS1 ?_
      try simp only [Act.put, List.setIfInBounds_toArray, List.set_cons_zero, List.set_cons_succ]
      refine wpAnyN_take (i := 15) (oi := { dst := some 23, op := Go.Op.binOp Go.BinOp.lss 3 (Go.Operand.tmp 22) (Go.Operand.const (Go.Value.int Go.IntKind.i64 16)) 3, type := 4, pos := "hand.go:98", after := #[{ on := 14, ground := Go.Ground.data }, { on := 7, ground := Go.Ground.guard }], guard := some (7, true) }) (v := undef) rfl (by decide) (by kernel_rfl) (by kernel_rfl) (by kernel_rfl) (fun _ _ _ h => h) (Or.inr ⟨by rfl, rfl⟩) hS1 ?_
      try simp only [Act.put, List.setIfInBounds_toArray, List.set_cons_zero, List.set_cons_succ]
      refine wpAnyN_take (i := 16) (oi := { dst := some 24, op := Go.Op.pick (Go.Operand.tmp 15) (Go.Operand.tmp 23) (Go.Operand.const (Go.Value.bool false)), type := 4, pos := "hand.go:98", after := #[{ on := 7, ground := Go.Ground.data }, { on := 15, ground := Go.Ground.data }], guard := none }) (v := .bool false) rfl (by decide) (by kernel_rfl) (by kernel_rfl) (by kernel_rfl) (fun _ _ _ h => h) (Or.inl ⟨by rfl, ?_⟩) hS1 ?_
      · intro W9 hS9
        obtain ⟨q0, q1⟩ := hS9
        clear q0 q1
        go_simp
      try simp only [Act.put, List.setIfInBounds_toArray, List.set_cons_zero, List.set_cons_succ]
      refine wpAnyX_end (by kernel_rfl) ?_
      go_wp2_with fail
      go_end0
      rw [HR2.out, HM9.out]
      exact Or.inl ⟨rfl, rfl, by rw [List.append_nil]; exact ⟨_, _, _, _, _, HX1.out⟩, HB1.out, HK1.out⟩
    | false =>
      by_cases hb16 : bn < 16
      · have HM9 := Lib.hid (HBM.out.trans (if_pos ⟨rfl, hb16⟩))
        have hbi : ((bn : Nat) : Int) < 16 := by omega
        clear HBM
        go_wp2_with fail
        refine wp_region_X (fun W' => Rows8 W' H 95 #[.slice sa sn sc, .slice pa pn pc, .slice ha hn hc, .slice ba bn bc, .slice ta tn tc] ∧ Rows8 W' w.heap.size 40 #[.int .i64 kd, .int .i64 (g : Nat), .int .i64 i, .int .u64 (q : Nat)]) 17 (by kernel_rfl) ?_
        have hS0 : Rows8 w'.drew H 95 #[.slice sa sn sc, .slice pa pn pc, .slice ha hn hc, .slice ba bn bc, .slice ta tn tc] ∧ Rows8 w'.drew w.heap.size 40 #[.int .i64 kd, .int .i64 (g : Nat), .int .i64 i, .int .u64 (q : Nat)] := ⟨HXx.out.bx.drewA, HR0.out.drewA⟩
        have HX0 := Lib.hid HXx.out.drew
        have HB0 := Lib.hid HAL.out.drew
        have HK0 := Lib.hid HKF.out.drew
        clear HXx HAL HKF HR0
        generalize w'.drew = Wd at *
        refine wpAnyN_take (i := 0) (oi := { dst := some 8, op := Go.Op.move (Go.Operand.tmp 0), type := 117, pos := "hand.go:98", after := #[], guard := none }) (v := .pointer (some ⟨H, 0, none⟩)) rfl (by decide) (by kernel_rfl) (by kernel_rfl) (by kernel_rfl) (fun _ _ _ h => h) (Or.inl ⟨by rfl, ?_⟩) hS0 ?_
        · intro W9 hS9
          obtain ⟨q0, q1⟩ := hS9
          clear q0 q1
          go_simp
        try simp only [Act.put, List.setIfInBounds_toArray, List.set_cons_zero, List.set_cons_succ]
        refine wpAnyN_take (i := 1) (oi := { dst := some 9, op := Go.Op.nilCheck (Go.Operand.tmp 8), type := 0, pos := "hand.go:98", after := #[{ on := 0, ground := Go.Ground.data }], guard := none }) (v := .pointer (some ⟨H, 0, none⟩)) rfl (by decide) (by kernel_rfl) (by kernel_rfl) (by kernel_rfl) (fun _ _ _ h => h) (Or.inl ⟨by rfl, ?_⟩) hS0 ?_
        · intro W9 hS9
          obtain ⟨q0, q1⟩ := hS9
          clear q0 q1
          go_simp
        try simp only [Act.put, List.setIfInBounds_toArray, List.set_cons_zero, List.set_cons_succ]
        refine wpAnyN_take (i := 2) (oi := { dst := some 10, op := Go.Op.fieldAddr 95 (Go.Operand.tmp 9) 0, type := 0, pos := "hand.go:98", after := #[{ on := 1, ground := Go.Ground.data }], guard := none }) (v := .pointer (some ⟨H, 0, none⟩)) rfl (by decide) (by kernel_rfl) (by kernel_rfl) (by kernel_rfl) (fun _ _ _ h => h) (Or.inl ⟨by rfl, ?_⟩) hS0 ?_
        · intro W9 hS9
          obtain ⟨q0, q1⟩ := hS9
          clear q0 q1
          go_simp
        try simp only [Act.put, List.setIfInBounds_toArray, List.set_cons_zero, List.set_cons_succ]
        refine wpAnyN_take (i := 3) (oi := { dst := some 11, op := Go.Op.load 79 (Go.Operand.tmp 10), type := 79, pos := "hand.go:98", after := #[{ on := 2, ground := Go.Ground.data }], guard := none }) (v := .agg #[.slice sa sn sc, .slice pa pn pc, .slice ha hn hc, .slice ba bn bc]) rfl (by decide) (by kernel_rfl) (by kernel_rfl) (by kernel_rfl) (fun _ _ _ h => h) (Or.inl ⟨by rfl, ?_⟩) hS0 ?_
        · intro W9 hS9
          obtain ⟨q0, q1⟩ := hS9
          have s0 : W9.cell? ⟨H, 0, none⟩ = some (.slice sa sn sc) := q0.cell 0
          have s1 : W9.cell? ⟨H, 1, none⟩ = some (.slice pa pn pc) := q0.cell 1
          have s2 : W9.cell? ⟨H, 2, none⟩ = some (.slice ha hn hc) := q0.cell 2
          have s3 : W9.cell? ⟨H, 3, none⟩ = some (.slice ba bn bc) := q0.cell 3
          clear q0 q1
          go_simp
        try simp only [Act.put, List.setIfInBounds_toArray, List.set_cons_zero, List.set_cons_succ]
        refine wpAnyN_take (i := 4) (oi := { dst := some 12, op := Go.Op.load 40 (Go.Operand.tmp 3), type := 40, pos := "hand.go:98", after := #[], guard := none }) (v := .agg #[.int .i64 kd, .int .i64 (g : Nat), .int .i64 i, .int .u64 (q : Nat)]) rfl (by decide) (by kernel_rfl) (by kernel_rfl) (by kernel_rfl) (fun _ _ _ h => h) (Or.inl ⟨by rfl, ?_⟩) hS0 ?_
        · intro W9 hS9
          obtain ⟨q0, q1⟩ := hS9
          have s0 : W9.cell? ⟨w.heap.size, 0, none⟩ = some (.int .i64 kd) := q1.cell 0
          have s1 : W9.cell? ⟨w.heap.size, 1, none⟩ = some (.int .i64 (g : Nat)) := q1.cell 1
          have s2 : W9.cell? ⟨w.heap.size, 2, none⟩ = some (.int .i64 i) := q1.cell 2
          have s3 : W9.cell? ⟨w.heap.size, 3, none⟩ = some (.int .u64 (q : Nat)) := q1.cell 3
          clear q0 q1
          go_simp
        try simp only [Act.put, List.setIfInBounds_toArray, List.set_cons_zero, List.set_cons_succ]
        refine wpAnyX_one (i := 5) (o := { dst := some 13, op := Go.Op.call { callee := Go.Callee.value (Go.Operand.func 49), args := #[Go.Operand.tmp 11, Go.Operand.tmp 12], argTypes := #[79, 40] }, type := 4, pos := "hand.go:98", after := #[{ on := 3, ground := Go.Ground.data }, { on := 4, ground := Go.Ground.data }], guard := none }) (by kernel_rfl) rfl (fun K hK => ?_)
        refine step_call_g (by rfl) 49 _ _ rfl (fun _ _ => by kernel_rfl) #[.agg #[.slice sa sn sc, .slice pa pn pc, .slice ha hn hc, .slice ba bn bc], .agg #[.int .i64 kd, .int .i64 (g : Nat), .int .i64 i, .int .u64 (q : Nat)]] (by simp [go_sem]) _ (HGOOD Wd HX0.out).out ?_
        rintro e w1 ⟨rfl, hC⟩
        refine ⟨_, rfl, ?_⟩
        have hS1 : Rows8 w1 H 95 #[.slice sa sn sc, .slice pa pn pc, .slice ha hn hc, .slice ba bn bc, .slice ta tn tc] ∧ Rows8 w1 w.heap.size 40 #[.int .i64 kd, .int .i64 (g : Nat), .int .i64 i, .int .u64 (q : Nat)] := ⟨hS0.1.below hC hS0.1.lt, hS0.2.below hC hS0.2.lt⟩
        have HX1 := Lib.hid (HX0.out.below hC)
        have HB1 := Lib.hid (HB0.out.trans (hC.mono (Nat.le_trans hn0 HB0.out.size)))
        have HK1 := Lib.hid (HK0.out.trans (Kf.of_below (T := tM) hC))
        clear hC HX0 HB0 HK0
        refine hK.out _ _ (fun _ => hS1) ?_
        clear hK K
        try simp only [Act.put, List.setIfInBounds_toArray, List.set_cons_zero, List.set_cons_succ]
        refine wpAnyN_take (i := 6) (oi := { dst := some 14, op := Go.Op.unOp Go.UnOp.not 4 (Go.Operand.tmp 13), type := 4, pos := "hand.go:98", after := #[{ on := 5, ground := Go.Ground.data }], guard := none }) (v := .bool true) rfl (by decide) (by kernel_rfl) (by kernel_rfl) (by kernel_rfl) (fun _ _ _ h => h) (Or.inl ⟨by rfl, ?_⟩) hS1 ?_
        · intro W9 hS9
          obtain ⟨q0, q1⟩ := hS9
          clear q0 q1
          go_simp
        try simp only [Act.put, List.setIfInBounds_toArray, List.set_cons_zero, List.set_cons_succ]
        refine wpAnyN_take (i := 7) (oi := { dst := some 15, op := Go.Op.move (Go.Operand.tmp 14), type := 4, pos := "hand.go:98", after := #[{ on := 6, ground := Go.Ground.data }, { on := 5, ground := Go.Ground.chain }], guard := none }) (v := .bool true) rfl (by decide) (by kernel_rfl) (by kernel_rfl) (by kernel_rfl) (fun _ _ _ h => h) (Or.inl ⟨by rfl, ?_⟩) hS1 ?_
        · intro W9 hS9
          obtain ⟨q0, q1⟩ := hS9
          clear q0 q1
          go_simp
        try simp only [Act.put, List.setIfInBounds_toArray, List.set_cons_zero, List.set_cons_succ]
        refine wpAnyN_take (i := 8) (oi := { dst := some 16, op := Go.Op.move (Go.Operand.tmp 0), type := 117, pos := "hand.go:98", after := #[{ on := 7, ground := Go.Ground.guard }], guard := some (7, true) }) (v := .pointer (some ⟨H, 0, none⟩)) rfl (by decide) (by kernel_rfl) (by kernel_rfl) (by kernel_rfl) (fun _ _ _ h => h) (Or.inl ⟨by rfl, ?_⟩) hS1 ?_
        · intro W9 hS9
          obtain ⟨q0, q1⟩ := hS9
          clear q0 q1
          go_simp
        try simp only [Act.put, List.setIfInBounds_toArray, List.set_cons_zero, List.set_cons_succ]
        refine wpAnyN_take (i := 9) (oi := { dst := some 17, op := Go.Op.nilCheck (Go.Operand.tmp 16), type := 0, pos := "hand.go:98", after := #[{ on := 8, ground := Go.Ground.data }, { on := 7, ground := Go.Ground.guard }], guard := some (7, true) }) (v := .pointer (some ⟨H, 0, none⟩)) rfl (by decide) (by kernel_rfl) (by kernel_rfl) (by kernel_rfl) (fun _ _ _ h => h) (Or.inl ⟨by rfl, ?_⟩) hS1 ?_
        · intro W9 hS9
          obtain ⟨q0, q1⟩ := hS9
          clear q0 q1
          go_simp
        try simp only [Act.put, List.setIfInBounds_toArray, List.set_cons_zero, List.set_cons_succ]
        refine wpAnyN_take (i := 10) (oi := { dst := some 18, op := Go.Op.fieldAddr 95 (Go.Operand.tmp 17) 0, type := 0, pos := "hand.go:98", after := #[{ on := 9, ground := Go.Ground.data }, { on := 7, ground := Go.Ground.guard }], guard := some (7, true) }) (v := .pointer (some ⟨H, 0, none⟩)) rfl (by decide) (by kernel_rfl) (by kernel_rfl) (by kernel_rfl) (fun _ _ _ h => h) (Or.inl ⟨by rfl, ?_⟩) hS1 ?_
        · intro W9 hS9
          obtain ⟨q0, q1⟩ := hS9
          clear q0 q1
          go_simp
        try simp only [Act.put, List.setIfInBounds_toArray, List.set_cons_zero, List.set_cons_succ]
        refine wpAnyN_take (i := 11) (oi := { dst := some 19, op := Go.Op.fieldAddr 79 (Go.Operand.tmp 18) 0, type := 0, pos := "hand.go:98", after := #[{ on := 10, ground := Go.Ground.data }, { on := 7, ground := Go.Ground.guard }], guard := some (7, true) }) (v := .pointer (some ⟨H, 0, none⟩)) rfl (by decide) (by kernel_rfl) (by kernel_rfl) (by kernel_rfl) (fun _ _ _ h => h) (Or.inl ⟨by rfl, ?_⟩) hS1 ?_
        · intro W9 hS9
          obtain ⟨q0, q1⟩ := hS9
          clear q0 q1
          go_simp
        try simp only [Act.put, List.setIfInBounds_toArray, List.set_cons_zero, List.set_cons_succ]
        refine wpAnyN_take (i := 12) (oi := { dst := some 20, op := Go.Op.fieldAddr 29 (Go.Operand.tmp 19) 3, type := 0, pos := "hand.go:98", after := #[{ on := 11, ground := Go.Ground.data }, { on := 7, ground := Go.Ground.guard }], guard := some (7, true) }) (v := .pointer (some ⟨H, 3, none⟩)) rfl (by decide) (by kernel_rfl) (by kernel_rfl) (by kernel_rfl) (fun _ _ _ h => h) (Or.inl ⟨by rfl, ?_⟩) hS1 ?_
        · intro W9 hS9
          obtain ⟨q0, q1⟩ := hS9
          clear q0 q1
          go_simp
        try simp only [Act.put, List.setIfInBounds_toArray, List.set_cons_zero, List.set_cons_succ]
        refine wpAnyN_take (i := 13) (oi := { dst := some 21, op := Go.Op.load 27 (Go.Operand.tmp 20), type := 27, pos := "hand.go:98", after := #[{ on := 12, ground := Go.Ground.data }, { on := 7, ground := Go.Ground.guard }], guard := some (7, true) }) (v := .slice ba bn bc) rfl (by decide) (by kernel_rfl) (by kernel_rfl) (by kernel_rfl) (fun _ _ _ h => h) (Or.inl ⟨by rfl, ?_⟩) hS1 ?_
        · intro W9 hS9
          obtain ⟨q0, q1⟩ := hS9
          have s3 : W9.cell? ⟨H, 3, none⟩ = some (.slice ba bn bc) := q0.cell 3
          clear q0 q1
          go_simp
        try simp only [Act.put, List.setIfInBounds_toArray, List.set_cons_zero, List.set_cons_succ]
        refine wpAnyN_take (i := 14) (oi := { dst := some 22, op := Go.Op.call { callee := Go.Callee.builtin Go.Builtin.len, args := #[Go.Operand.tmp 21], argTypes := #[27] }, type := 3, pos := "hand.go:98", after := #[{ on := 13, ground := Go.Ground.data }, { on := 7, ground := Go.Ground.guard }], guard := some (7, true) }) (v := .int .i64 (bn : Nat)) rfl (by decide) (by kernel_rfl) (by kernel_rfl) (by kernel_rfl) (fun _ _ _ h => h) (Or.inl ⟨by rfl, ?_⟩) hS1 ?_
        · intro W9 hS9
          obtain ⟨q0, q1⟩ := hS9
          clear q0 q1
          go_simp
        try simp only [Act.put, List.setIfInBounds_toArray, List.set_cons_zero, List.set_cons_succ]
        refine wpAnyN_take (i := 15) (oi := { dst := some 23, op := Go.Op.binOp Go.BinOp.lss 3 (Go.Operand.tmp 22) (Go.Operand.const (Go.Value.int Go.IntKind.i64 16)) 3, type := 4, pos := "hand.go:98", after := #[{ on := 14, ground := Go.Ground.data }, { on := 7, ground := Go.Ground.guard }], guard := some (7, true) }) (v := .bool true) rfl (by decide) (by kernel_rfl) (by kernel_rfl) (by kernel_rfl) (fun _ _ _ h => h) (Or.inl ⟨by rfl, ?_⟩) hS1 ?_
        · intro W9 hS9
          obtain ⟨q0, q1⟩ := hS9
          clear q0 q1
          go_simp
        try simp only [Act.put, List.setIfInBounds_toArray, List.set_cons_zero, List.set_cons_succ]
        refine wpAnyN_take (i := 16) (oi := { dst := some 24, op := Go.Op.pick (Go.Operand.tmp 15) (Go.Operand.tmp 23) (Go.Operand.const (Go.Value.bool false)), type := 4, pos := "hand.go:98", after := #[{ on := 7, ground := Go.Ground.data }, { on := 15, ground := Go.Ground.data }], guard := none }) (v := .bool true) rfl (by decide) (by kernel_rfl) (by kernel_rfl) (by kernel_rfl) (fun _ _ _ h => h) (Or.inl ⟨by rfl, ?_⟩) hS1 ?_
        · intro W9 hS9
          obtain ⟨q0, q1⟩ := hS9
          clear q0 q1
          go_simp
        try simp only [Act.put, List.setIfInBounds_toArray, List.set_cons_zero, List.set_cons_succ]
        refine wpAnyX_end (by kernel_rfl) ?_
        go_wp2_with fail
        refine wp_region_L (fun W' => Rows8 W' H 95 #[.slice sa sn sc, .slice pa pn pc, .slice ha hn hc, .slice ba bn bc, .slice ta tn tc] ∧ Rows8 W' w.heap.size 40 #[.int .i64 kd, .int .i64 (g : Nat), .int .i64 i, .int .u64 (q : Nat)]) 10 (by kernel_rfl) ?_
        have hS0 : Rows8 w1.drew H 95 #[.slice sa sn sc, .slice pa pn pc, .slice ha hn hc, .slice ba bn bc, .slice ta tn tc] ∧ Rows8 w1.drew w.heap.size 40 #[.int .i64 kd, .int .i64 (g : Nat), .int .i64 i, .int .u64 (q : Nat)] := ⟨HX1.out.bx.drewA, hS1.2.drewA⟩
        have HX2 := Lib.hid HX1.out.drew
        have HB2 := Lib.hid HB1.out.drew
        have HK2 := Lib.hid HK1.out.drew
        clear HX1 HB1 HK1 hS1
        generalize w1.drew = Wd at *
        refine wpAnyL_take (i := 0) (oi := { dst := some 25, op := Go.Op.move (Go.Operand.tmp 0), type := 117, pos := "hand.go:99", after := #[], guard := none }) (v := .pointer (some ⟨H, 0, none⟩)) rfl (by kernel_rfl) (by kernel_rfl) (by kernel_rfl) (by kernel_rfl) (fun _ _ _ h => h) (Or.inl ⟨by rfl, ?_⟩) hS0 ?_
        · intro W9 hS9
          obtain ⟨q0, q1⟩ := hS9
          clear q0 q1
          go_simp
        try simp only [Act.put, List.setIfInBounds_toArray, List.set_cons_zero, List.set_cons_succ]
        refine wpAnyL_take (i := 1) (oi := { dst := some 26, op := Go.Op.move (Go.Operand.tmp 0), type := 117, pos := "hand.go:99", after := #[], guard := none }) (v := .pointer (some ⟨H, 0, none⟩)) rfl (by kernel_rfl) (by kernel_rfl) (by kernel_rfl) (by kernel_rfl) (fun _ _ _ h => h) (Or.inl ⟨by rfl, ?_⟩) hS0 ?_
        · intro W9 hS9
          obtain ⟨q0, q1⟩ := hS9
          clear q0 q1
          go_simp
        try simp only [Act.put, List.setIfInBounds_toArray, List.set_cons_zero, List.set_cons_succ]
        refine wpAnyL_take (i := 2) (oi := { dst := some 27, op := Go.Op.nilCheck (Go.Operand.tmp 26), type := 0, pos := "hand.go:99", after := #[{ on := 1, ground := Go.Ground.data }], guard := none }) (v := .pointer (some ⟨H, 0, none⟩)) rfl (by kernel_rfl) (by kernel_rfl) (by kernel_rfl) (by kernel_rfl) (fun _ _ _ h => h) (Or.inl ⟨by rfl, ?_⟩) hS0 ?_
        · intro W9 hS9
          obtain ⟨q0, q1⟩ := hS9
          clear q0 q1
          go_simp
        try simp only [Act.put, List.setIfInBounds_toArray, List.set_cons_zero, List.set_cons_succ]
        refine wpAnyL_take (i := 3) (oi := { dst := some 28, op := Go.Op.fieldAddr 95 (Go.Operand.tmp 27) 0, type := 0, pos := "hand.go:99", after := #[{ on := 2, ground := Go.Ground.data }], guard := none }) (v := .pointer (some ⟨H, 0, none⟩)) rfl (by kernel_rfl) (by kernel_rfl) (by kernel_rfl) (by kernel_rfl) (fun _ _ _ h => h) (Or.inl ⟨by rfl, ?_⟩) hS0 ?_
        · intro W9 hS9
          obtain ⟨q0, q1⟩ := hS9
          clear q0 q1
          go_simp
        try simp only [Act.put, List.setIfInBounds_toArray, List.set_cons_zero, List.set_cons_succ]
        refine wpAnyL_take (i := 4) (oi := { dst := some 29, op := Go.Op.fieldAddr 79 (Go.Operand.tmp 28) 0, type := 0, pos := "hand.go:99", after := #[{ on := 3, ground := Go.Ground.data }], guard := none }) (v := .pointer (some ⟨H, 0, none⟩)) rfl (by kernel_rfl) (by kernel_rfl) (by kernel_rfl) (by kernel_rfl) (fun _ _ _ h => h) (Or.inl ⟨by rfl, ?_⟩) hS0 ?_
        · intro W9 hS9
          obtain ⟨q0, q1⟩ := hS9
          clear q0 q1
          go_simp
        try simp only [Act.put, List.setIfInBounds_toArray, List.set_cons_zero, List.set_cons_succ]
        refine wpAnyL_take (i := 5) (oi := { dst := some 30, op := Go.Op.fieldAddr 29 (Go.Operand.tmp 29) 3, type := 0, pos := "hand.go:99", after := #[{ on := 4, ground := Go.Ground.data }], guard := none }) (v := .pointer (some ⟨H, 3, none⟩)) rfl (by kernel_rfl) (by kernel_rfl) (by kernel_rfl) (by kernel_rfl) (fun _ _ _ h => h) (Or.inl ⟨by rfl, ?_⟩) hS0 ?_
        · intro W9 hS9
          obtain ⟨q0, q1⟩ := hS9
          clear q0 q1
          go_simp
        try simp only [Act.put, List.setIfInBounds_toArray, List.set_cons_zero, List.set_cons_succ]
        refine wpAnyL_take (i := 6) (oi := { dst := some 31, op := Go.Op.load 27 (Go.Operand.tmp 30), type := 27, pos := "hand.go:99", after := #[{ on := 5, ground := Go.Ground.data }], guard := none }) (v := .slice ba bn bc) rfl (by kernel_rfl) (by kernel_rfl) (by kernel_rfl) (by kernel_rfl) (fun _ _ _ h => h) (Or.inl ⟨by rfl, ?_⟩) hS0 ?_
        · intro W9 hS9
          obtain ⟨q0, q1⟩ := hS9
          have s3 : W9.cell? ⟨H, 3, none⟩ = some (.slice ba bn bc) := q0.cell 3
          clear q0 q1
          go_simp
        try simp only [Act.put, List.setIfInBounds_toArray, List.set_cons_zero, List.set_cons_succ]
        refine wpAnyL_take (i := 7) (oi := { dst := some 32, op := Go.Op.load 40 (Go.Operand.tmp 3), type := 40, pos := "hand.go:99", after := #[], guard := none }) (v := .agg #[.int .i64 kd, .int .i64 (g : Nat), .int .i64 i, .int .u64 (q : Nat)]) rfl (by kernel_rfl) (by kernel_rfl) (by kernel_rfl) (by kernel_rfl) (fun _ _ _ h => h) (Or.inl ⟨by rfl, ?_⟩) hS0 ?_
        · intro W9 hS9
          obtain ⟨q0, q1⟩ := hS9
          have s0 : W9.cell? ⟨w.heap.size, 0, none⟩ = some (.int .i64 kd) := q1.cell 0
          have s1 : W9.cell? ⟨w.heap.size, 1, none⟩ = some (.int .i64 (g : Nat)) := q1.cell 1
          have s2 : W9.cell? ⟨w.heap.size, 2, none⟩ = some (.int .i64 i) := q1.cell 2
          have s3 : W9.cell? ⟨w.heap.size, 3, none⟩ = some (.int .u64 (q : Nat)) := q1.cell 3
          clear q0 q1
          go_simp
        try simp only [Act.put, List.setIfInBounds_toArray, List.set_cons_zero, List.set_cons_succ]
        refine wpAnyL_one (i := 8) (o := { dst := some 33, op := Go.Op.buildSlice 27 1 #[(0, Go.Operand.tmp 32)], type := 27, pos := "hand.go:99", after := #[{ on := 7, ground := Go.Ground.data }], guard := none }) (by kernel_rfl) rfl (fun K hK => ?_)
        refine step_value_g (by rfl) (.slice (some ⟨Wd.heap.size, 0, none⟩) 1 1) (w' := (Wd.alloc (.cells #[.int .i64 kd, .int .i64 (g : Nat), .int .i64 i, .int .u64 (q : Nat)] 40))) (by go_simp) ?_
        have hal : Below Wd.heap.size Wd (Wd.alloc (.cells #[.int .i64 kd, .int .i64 (g : Nat), .int .i64 i, .int .u64 (q : Nat)] 40)) := Rows8.newB
        have hlit := lit_atW Wd kd (g : Nat) i q
        have hS1 : Rows8 (Wd.alloc (.cells #[.int .i64 kd, .int .i64 (g : Nat), .int .i64 i, .int .u64 (q : Nat)] 40)) H 95 #[.slice sa sn sc, .slice pa pn pc, .slice ha hn hc, .slice ba bn bc, .slice ta tn tc] ∧ Rows8 (Wd.alloc (.cells #[.int .i64 kd, .int .i64 (g : Nat), .int .i64 i, .int .u64 (q : Nat)] 40)) w.heap.size 40 #[.int .i64 kd, .int .i64 (g : Nat), .int .i64 i, .int .u64 (q : Nat)] := ⟨hS0.1.below hal hS0.1.lt, hS0.2.below hal hS0.2.lt⟩
        have HX3 := Lib.hid (HX2.out.below hal)
        have HB3 := Lib.hid (HB2.out.trans (hal.mono (Nat.le_trans hn0 HB2.out.size)))
        have HK3 := Lib.hid (HK2.out.trans (Kf.of_below (T := tM) hal))
        have HLIT := Lib.hid hlit
        have HSZ := Lib.hid (Nat.le_trans hn0 HB3.out.size)
        have HNE := Lib.hid (HNEW.out Wd)
        clear hal hlit HX2 HB2 HK2
        refine hK.out _ _ (fun _ => hS1) ?_
        clear hK K
        try simp only [Act.put, List.setIfInBounds_toArray, List.set_cons_zero, List.set_cons_succ]
        generalize hal9 : (Wd.alloc (.cells #[.int .i64 kd, .int .i64 (g : Nat), .int .i64 i, .int .u64 (q : Nat)] 40)) = W3 at *
        clear hal9
        refine wpAnyL_one (i := 9) (o := { dst := some 34, op := Go.Op.call { callee := Go.Callee.builtin Go.Builtin.append, args := #[Go.Operand.tmp 31, Go.Operand.tmp 33], argTypes := #[27, 27] }, type := 27, pos := "hand.go:99", after := #[{ on := 6, ground := Go.Ground.data }, { on := 8, ground := Go.Ground.data }], guard := none }) (by kernel_rfl) rfl (fun K hK => ?_)
        have HOB := Lib.hid HX3.out.o.b
        refine step_append_row _ rfl _ _ 27 rfl n₀ 40 i0 (.agg #[.int .i64 0, .int .i64 0, .int .i64 0, .int .u64 0]) 4 32 Try.underlying27 hi hz0 hz1 hz2 rfl (by decide) (.slice ba bn bc) bn (wVals m.bad) (by simp [go_sem]) (by have h := HOB.out; unfold OwnsW at h; dsimp only at h; rw [← HBN.out] at h; exact h) (.slice (some ⟨Wd.heap.size, 0, none⟩) 1 1) 1 [.int .i64 kd, .int .i64 (g : Nat), .int .i64 i, .int .u64 (q : Nat)] (by simp [go_sem]) HLIT.out (by simp [Value.oneCell']) (by unfold maxLen; omega) (by omega) HSZ.out ?_
        intro v4 w4 hown hgr hbl
        have ho4 : OwnsW n₀ (m.bad ++ [⟨kd, (g : Nat), i, q⟩]) v4 w4 := by
          unfold OwnsW
          rw [wVals_snoc, List.length_append, ← HBN.out]
          exact hown
        obtain ⟨va, vc, hv4⟩ := ho4.form
        obtain ⟨vn, hvn⟩ : ∃ k, k = (m.bad ++ [(⟨kd, (g : Nat), i, q⟩ : Wt)]).length := ⟨_, rfl⟩
        rw [← hvn] at hv4
        subst hv4
        have HPU := Lib.hid (HX3.out.pushBad hgr va vn vc _ ho4)
        have RB4 := Lib.hid (grown_rows HOB.out (by decide) hgr HX3.out.bx)
        have HB4 := Lib.hid (HB3.out.grown hgr HSZ.out (fun j ej => (World.ownsRow.lt HOB.out j ej).1))
        have HK4 := Lib.hid (HK3.out.trans (kf_grown (by decide) HOB.out hgr))
        have hS2 : Rows8 w4 H 95 #[.slice sa sn sc, .slice pa pn pc, .slice ha hn hc, .slice ba bn bc, .slice ta tn tc] ∧ Rows8 w4 w.heap.size 40 #[.int .i64 kd, .int .i64 (g : Nat), .int .i64 i, .int .u64 (q : Nat)] := ⟨grown_rows HOB.out (by decide) hgr hS1.1, (hgr.block w.heap.size hS1.2.lt (fun e => by have := HQB.out _ e.symm; omega)).trans hS1.2⟩
        clear hown hgr hbl ho4 hvn
        refine hK.out _ _ (fun _ => hS2) ?_
        clear hK K
        try simp only [Act.put, List.setIfInBounds_toArray, List.set_cons_zero, List.set_cons_succ]
        refine wpAnyL_takeP (i := 10) (oi := { dst := some 35, op := Go.Op.nilCheck (Go.Operand.tmp 25), type := 0, pos := "hand.go:99", after := #[{ on := 0, ground := Go.Ground.data }, { on := 0, ground := Go.Ground.phase }, { on := 1, ground := Go.Ground.phase }, { on := 2, ground := Go.Ground.phase }, { on := 3, ground := Go.Ground.phase }, { on := 4, ground := Go.Ground.phase }, { on := 5, ground := Go.Ground.phase }, { on := 6, ground := Go.Ground.phase }, { on := 7, ground := Go.Ground.phase }, { on := 8, ground := Go.Ground.phase }, { on := 9, ground := Go.Ground.phase }], guard := none }) (v := .pointer (some ⟨H, 0, none⟩)) rfl (by kernel_rfl) (by kernel_rfl) (by kernel_rfl) (by kernel_rfl) (fun _ _ _ h => h) (Or.inl ⟨by rfl, ?_⟩) ?_
        · intro W9 _
          go_simp
        try simp only [Act.put, List.setIfInBounds_toArray, List.set_cons_zero, List.set_cons_succ]
        refine wpAnyL_takeP (i := 11) (oi := { dst := some 36, op := Go.Op.fieldAddr 95 (Go.Operand.tmp 35) 0, type := 0, pos := "hand.go:99", after := #[{ on := 10, ground := Go.Ground.data }, { on := 0, ground := Go.Ground.phase }, { on := 1, ground := Go.Ground.phase }, { on := 2, ground := Go.Ground.phase }, { on := 3, ground := Go.Ground.phase }, { on := 4, ground := Go.Ground.phase }, { on := 5, ground := Go.Ground.phase }, { on := 6, ground := Go.Ground.phase }, { on := 7, ground := Go.Ground.phase }, { on := 8, ground := Go.Ground.phase }, { on := 9, ground := Go.Ground.phase }], guard := none }) (v := .pointer (some ⟨H, 0, none⟩)) rfl (by kernel_rfl) (by kernel_rfl) (by kernel_rfl) (by kernel_rfl) (fun _ _ _ h => h) (Or.inl ⟨by rfl, ?_⟩) ?_
        · intro W9 _
          go_simp
        try simp only [Act.put, List.setIfInBounds_toArray, List.set_cons_zero, List.set_cons_succ]
        refine wpAnyL_takeP (i := 12) (oi := { dst := some 37, op := Go.Op.fieldAddr 79 (Go.Operand.tmp 36) 0, type := 0, pos := "hand.go:99", after := #[{ on := 11, ground := Go.Ground.data }, { on := 0, ground := Go.Ground.phase }, { on := 1, ground := Go.Ground.phase }, { on := 2, ground := Go.Ground.phase }, { on := 3, ground := Go.Ground.phase }, { on := 4, ground := Go.Ground.phase }, { on := 5, ground := Go.Ground.phase }, { on := 6, ground := Go.Ground.phase }, { on := 7, ground := Go.Ground.phase }, { on := 8, ground := Go.Ground.phase }, { on := 9, ground := Go.Ground.phase }], guard := none }) (v := .pointer (some ⟨H, 0, none⟩)) rfl (by kernel_rfl) (by kernel_rfl) (by kernel_rfl) (by kernel_rfl) (fun _ _ _ h => h) (Or.inl ⟨by rfl, ?_⟩) ?_
        · intro W9 _
          go_simp
        try simp only [Act.put, List.setIfInBounds_toArray, List.set_cons_zero, List.set_cons_succ]
        refine wpAnyL_takeP (i := 13) (oi := { dst := some 38, op := Go.Op.fieldAddr 29 (Go.Operand.tmp 37) 3, type := 0, pos := "hand.go:99", after := #[{ on := 12, ground := Go.Ground.data }, { on := 0, ground := Go.Ground.phase }, { on := 1, ground := Go.Ground.phase }, { on := 2, ground := Go.Ground.phase }, { on := 3, ground := Go.Ground.phase }, { on := 4, ground := Go.Ground.phase }, { on := 5, ground := Go.Ground.phase }, { on := 6, ground := Go.Ground.phase }, { on := 7, ground := Go.Ground.phase }, { on := 8, ground := Go.Ground.phase }, { on := 9, ground := Go.Ground.phase }], guard := none }) (v := .pointer (some ⟨H, 3, none⟩)) rfl (by kernel_rfl) (by kernel_rfl) (by kernel_rfl) (by kernel_rfl) (fun _ _ _ h => h) (Or.inl ⟨by rfl, ?_⟩) ?_
        · intro W9 _
          go_simp
        try simp only [Act.put, List.setIfInBounds_toArray, List.set_cons_zero, List.set_cons_succ]
        refine wpAnyL_one (i := 14) (o := { dst := none, op := Go.Op.store 27 (Go.Operand.tmp 38) (Go.Operand.tmp 34), type := 0, pos := "hand.go:99", after := #[{ on := 13, ground := Go.Ground.data }, { on := 9, ground := Go.Ground.data }, { on := 9, ground := Go.Ground.chain }, { on := 0, ground := Go.Ground.phase }, { on := 1, ground := Go.Ground.phase }, { on := 2, ground := Go.Ground.phase }, { on := 3, ground := Go.Ground.phase }, { on := 4, ground := Go.Ground.phase }, { on := 5, ground := Go.Ground.phase }, { on := 6, ground := Go.Ground.phase }, { on := 7, ground := Go.Ground.phase }, { on := 8, ground := Go.Ground.phase }, { on := 9, ground := Go.Ground.phase }], guard := none }) (by kernel_rfl) rfl (fun K hK => ?_)
        have cK : w4.cell? ⟨H, 3, none⟩ = some (.slice ba bn bc) := RB4.out.cell 3
        have fK := RB4.out.frozen 3
        refine step_skip_g (by rfl) (w' := w4.setCell ⟨H, 3, none⟩ (.slice va vn vc)) (by go_simp) ?_
        have HB5 := Lib.hid (HB4.out.setCell (p := ⟨H, 3, none⟩) hH (.slice va vn vc))
        have HK5 := Lib.hid (HK4.out.trans (Kf.set (T := tM) (t := 95) (by decide) w4 (a := ⟨H, 3, none⟩) RB4.out (.slice va vn vc)))
        clear cK fK
        refine hK.out _ _ (fun h => absurd h (by decide)) ?_
        clear hK K
        try simp only [Act.put, List.setIfInBounds_toArray, List.set_cons_zero, List.set_cons_succ]
        refine wpAnyL_end (by kernel_rfl) ?_
        go_wp2_with fail
        go_end0
        rw [HR2.out, HM9.out]
        exact Or.inl ⟨rfl, rfl, by rw [List.append_nil]; exact ⟨_, _, _, _, _, HPU.out⟩, HB5.out, HK5.out⟩
      · have HM9 := Lib.hid (HBM.out.trans (if_neg (fun h => hb16 h.2)))
        have hbi : ¬ ((bn : Nat) : Int) < 16 := by omega
        clear HBM hb16
        go_wp2_with fail
        refine wp_region_X (fun W' => Rows8 W' H 95 #[.slice sa sn sc, .slice pa pn pc, .slice ha hn hc, .slice ba bn bc, .slice ta tn tc] ∧ Rows8 W' w.heap.size 40 #[.int .i64 kd, .int .i64 (g : Nat), .int .i64 i, .int .u64 (q : Nat)]) 17 (by kernel_rfl) ?_
        have hS0 : Rows8 w'.drew H 95 #[.slice sa sn sc, .slice pa pn pc, .slice ha hn hc, .slice ba bn bc, .slice ta tn tc] ∧ Rows8 w'.drew w.heap.size 40 #[.int .i64 kd, .int .i64 (g : Nat), .int .i64 i, .int .u64 (q : Nat)] := ⟨HXx.out.bx.drewA, HR0.out.drewA⟩
        have HX0 := Lib.hid HXx.out.drew
        have HB0 := Lib.hid HAL.out.drew
        have HK0 := Lib.hid HKF.out.drew
        clear HXx HAL HKF HR0
        generalize w'.drew = Wd at *
        refine wpAnyN_take (i := 0) (oi := { dst := some 8, op := Go.Op.move (Go.Operand.tmp 0), type := 117, pos := "hand.go:98", after := #[], guard := none }) (v := .pointer (some ⟨H, 0, none⟩)) rfl (by decide) (by kernel_rfl) (by kernel_rfl) (by kernel_rfl) (fun _ _ _ h => h) (Or.inl ⟨by rfl, ?_⟩) hS0 ?_
        · intro W9 hS9
          obtain ⟨q0, q1⟩ := hS9
          clear q0 q1
          go_simp
        try simp only [Act.put, List.setIfInBounds_toArray, List.set_cons_zero, List.set_cons_succ]
        refine wpAnyN_take (i := 1) (oi := { dst := some 9, op := Go.Op.nilCheck (Go.Operand.tmp 8), type := 0, pos := "hand.go:98", after := #[{ on := 0, ground := Go.Ground.data }], guard := none }) (v := .pointer (some ⟨H, 0, none⟩)) rfl (by decide) (by kernel_rfl) (by kernel_rfl) (by kernel_rfl) (fun _ _ _ h => h) (Or.inl ⟨by rfl, ?_⟩) hS0 ?_
        · intro W9 hS9
          obtain ⟨q0, q1⟩ := hS9
          clear q0 q1
          go_simp
        try simp only [Act.put, List.setIfInBounds_toArray, List.set_cons_zero, List.set_cons_succ]
        refine wpAnyN_take (i := 2) (oi := { dst := some 10, op := Go.Op.fieldAddr 95 (Go.Operand.tmp 9) 0, type := 0, pos := "hand.go:98", after := #[{ on := 1, ground := Go.Ground.data }], guard := none }) (v := .pointer (some ⟨H, 0, none⟩)) rfl (by decide) (by kernel_rfl) (by kernel_rfl) (by kernel_rfl) (fun _ _ _ h => h) (Or.inl ⟨by rfl, ?_⟩) hS0 ?_
        · intro W9 hS9
          obtain ⟨q0, q1⟩ := hS9
          clear q0 q1
          go_simp
        try simp only [Act.put, List.setIfInBounds_toArray, List.set_cons_zero, List.set_cons_succ]
        refine wpAnyN_take (i := 3) (oi := { dst := some 11, op := Go.Op.load 79 (Go.Operand.tmp 10), type := 79, pos := "hand.go:98", after := #[{ on := 2, ground := Go.Ground.data }], guard := none }) (v := .agg #[.slice sa sn sc, .slice pa pn pc, .slice ha hn hc, .slice ba bn bc]) rfl (by decide) (by kernel_rfl) (by kernel_rfl) (by kernel_rfl) (fun _ _ _ h => h) (Or.inl ⟨by rfl, ?_⟩) hS0 ?_
        · intro W9 hS9
          obtain ⟨q0, q1⟩ := hS9
          have s0 : W9.cell? ⟨H, 0, none⟩ = some (.slice sa sn sc) := q0.cell 0
          have s1 : W9.cell? ⟨H, 1, none⟩ = some (.slice pa pn pc) := q0.cell 1
          have s2 : W9.cell? ⟨H, 2, none⟩ = some (.slice ha hn hc) := q0.cell 2
          have s3 : W9.cell? ⟨H, 3, none⟩ = some (.slice ba bn bc) := q0.cell 3
          clear q0 q1
          go_simp
        try simp only [Act.put, List.setIfInBounds_toArray, List.set_cons_zero, List.set_cons_succ]
        refine wpAnyN_take (i := 4) (oi := { dst := some 12, op := Go.Op.load 40 (Go.Operand.tmp 3), type := 40, pos := "hand.go:98", after := #[], guard := none }) (v := .agg #[.int .i64 kd, .int .i64 (g : Nat), .int .i64 i, .int .u64 (q : Nat)]) rfl (by decide) (by kernel_rfl) (by kernel_rfl) (by kernel_rfl) (fun _ _ _ h => h) (Or.inl ⟨by rfl, ?_⟩) hS0 ?_
        · intro W9 hS9
          obtain ⟨q0, q1⟩ := hS9
          have s0 : W9.cell? ⟨w.heap.size, 0, none⟩ = some (.int .i64 kd) := q1.cell 0
          have s1 : W9.cell? ⟨w.heap.size, 1, none⟩ = some (.int .i64 (g : Nat)) := q1.cell 1
          have s2 : W9.cell? ⟨w.heap.size, 2, none⟩ = some (.int .i64 i) := q1.cell 2
          have s3 : W9.cell? ⟨w.heap.size, 3, none⟩ = some (.int .u64 (q : Nat)) := q1.cell 3
          clear q0 q1
          go_simp
        try simp only [Act.put, List.setIfInBounds_toArray, List.set_cons_zero, List.set_cons_succ]
        refine wpAnyX_one (i := 5) (o := { dst := some 13, op := Go.Op.call { callee := Go.Callee.value (Go.Operand.func 49), args := #[Go.Operand.tmp 11, Go.Operand.tmp 12], argTypes := #[79, 40] }, type := 4, pos := "hand.go:98", after := #[{ on := 3, ground := Go.Ground.data }, { on := 4, ground := Go.Ground.data }], guard := none }) (by kernel_rfl) rfl (fun K hK => ?_)
        refine step_call_g (by rfl) 49 _ _ rfl (fun _ _ => by kernel_rfl) #[.agg #[.slice sa sn sc, .slice pa pn pc, .slice ha hn hc, .slice ba bn bc], .agg #[.int .i64 kd, .int .i64 (g : Nat), .int .i64 i, .int .u64 (q : Nat)]] (by simp [go_sem]) _ (HGOOD Wd HX0.out).out ?_
        rintro e w1 ⟨rfl, hC⟩
        refine ⟨_, rfl, ?_⟩
        have hS1 : Rows8 w1 H 95 #[.slice sa sn sc, .slice pa pn pc, .slice ha hn hc, .slice ba bn bc, .slice ta tn tc] ∧ Rows8 w1 w.heap.size 40 #[.int .i64 kd, .int .i64 (g : Nat), .int .i64 i, .int .u64 (q : Nat)] := ⟨hS0.1.below hC hS0.1.lt, hS0.2.below hC hS0.2.lt⟩
        have HX1 := Lib.hid (HX0.out.below hC)
        have HB1 := Lib.hid (HB0.out.trans (hC.mono (Nat.le_trans hn0 HB0.out.size)))
        have HK1 := Lib.hid (HK0.out.trans (Kf.of_below (T := tM) hC))
        clear hC HX0 HB0 HK0
        refine hK.out _ _ (fun _ => hS1) ?_
        clear hK K
        try simp only [Act.put, List.setIfInBounds_toArray, List.set_cons_zero, List.set_cons_succ]
        refine wpAnyN_take (i := 6) (oi := { dst := some 14, op := Go.Op.unOp Go.UnOp.not 4 (Go.Operand.tmp 13), type := 4, pos := "hand.go:98", after := #[{ on := 5, ground := Go.Ground.data }], guard := none }) (v := .bool true) rfl (by decide) (by kernel_rfl) (by kernel_rfl) (by kernel_rfl) (fun _ _ _ h => h) (Or.inl ⟨by rfl, ?_⟩) hS1 ?_
        · intro W9 hS9
          obtain ⟨q0, q1⟩ := hS9
          clear q0 q1
          go_simp
        try simp only [Act.put, List.setIfInBounds_toArray, List.set_cons_zero, List.set_cons_succ]
        refine wpAnyN_take (i := 7) (oi := { dst := some 15, op := Go.Op.move (Go.Operand.tmp 14), type := 4, pos := "hand.go:98", after := #[{ on := 6, ground := Go.Ground.data }, { on := 5, ground := Go.Ground.chain }], guard := none }) (v := .bool true) rfl (by decide) (by kernel_rfl) (by kernel_rfl) (by kernel_rfl) (fun _ _ _ h => h) (Or.inl ⟨by rfl, ?_⟩) hS1 ?_
        · intro W9 hS9
          obtain ⟨q0, q1⟩ := hS9
          clear q0 q1
          go_simp
        try simp only [Act.put, List.setIfInBounds_toArray, List.set_cons_zero, List.set_cons_succ]
        refine wpAnyN_take (i := 8) (oi := { dst := some 16, op := Go.Op.move (Go.Operand.tmp 0), type := 117, pos := "hand.go:98", after := #[{ on := 7, ground := Go.Ground.guard }], guard := some (7, true) }) (v := .pointer (some ⟨H, 0, none⟩)) rfl (by decide) (by kernel_rfl) (by kernel_rfl) (by kernel_rfl) (fun _ _ _ h => h) (Or.inl ⟨by rfl, ?_⟩) hS1 ?_
        · intro W9 hS9
          obtain ⟨q0, q1⟩ := hS9
          clear q0 q1
          go_simp
        try simp only [Act.put, List.setIfInBounds_toArray, List.set_cons_zero, List.set_cons_succ]
        refine wpAnyN_take (i := 9) (oi := { dst := some 17, op := Go.Op.nilCheck (Go.Operand.tmp 16), type := 0, pos := "hand.go:98", after := #[{ on := 8, ground := Go.Ground.data }, { on := 7, ground := Go.Ground.guard }], guard := some (7, true) }) (v := .pointer (some ⟨H, 0, none⟩)) rfl (by decide) (by kernel_rfl) (by kernel_rfl) (by kernel_rfl) (fun _ _ _ h => h) (Or.inl ⟨by rfl, ?_⟩) hS1 ?_
        · intro W9 hS9
          obtain ⟨q0, q1⟩ := hS9
          clear q0 q1
          go_simp
        try simp only [Act.put, List.setIfInBounds_toArray, List.set_cons_zero, List.set_cons_succ]
        refine wpAnyN_take (i := 10) (oi := { dst := some 18, op := Go.Op.fieldAddr 95 (Go.Operand.tmp 17) 0, type := 0, pos := "hand.go:98", after := #[{ on := 9, ground := Go.Ground.data }, { on := 7, ground := Go.Ground.guard }], guard := some (7, true) }) (v := .pointer (some ⟨H, 0, none⟩)) rfl (by decide) (by kernel_rfl) (by kernel_rfl) (by kernel_rfl) (fun _ _ _ h => h) (Or.inl ⟨by rfl, ?_⟩) hS1 ?_
        · intro W9 hS9
          obtain ⟨q0, q1⟩ := hS9
          clear q0 q1
          go_simp
        try simp only [Act.put, List.setIfInBounds_toArray, List.set_cons_zero, List.set_cons_succ]
        refine wpAnyN_take (i := 11) (oi := { dst := some 19, op := Go.Op.fieldAddr 79 (Go.Operand.tmp 18) 0, type := 0, pos := "hand.go:98", after := #[{ on := 10, ground := Go.Ground.data }, { on := 7, ground := Go.Ground.guard }], guard := some (7, true) }) (v := .pointer (some ⟨H, 0, none⟩)) rfl (by decide) (by kernel_rfl) (by kernel_rfl) (by kernel_rfl) (fun _ _ _ h => h) (Or.inl ⟨by rfl, ?_⟩) hS1 ?_
        · intro W9 hS9
          obtain ⟨q0, q1⟩ := hS9
          clear q0 q1
          go_simp
        try simp only [Act.put, List.setIfInBounds_toArray, List.set_cons_zero, List.set_cons_succ]
        refine wpAnyN_take (i := 12) (oi := { dst := some 20, op := Go.Op.fieldAddr 29 (Go.Operand.tmp 19) 3, type := 0, pos := "hand.go:98", after := #[{ on := 11, ground := Go.Ground.data }, { on := 7, ground := Go.Ground.guard }], guard := some (7, true) }) (v := .pointer (some ⟨H, 3, none⟩)) rfl (by decide) (by kernel_rfl) (by kernel_rfl) (by kernel_rfl) (fun _ _ _ h => h) (Or.inl ⟨by rfl, ?_⟩) hS1 ?_
        · intro W9 hS9
          obtain ⟨q0, q1⟩ := hS9
          clear q0 q1
          go_simp
        try simp only [Act.put, List.setIfInBounds_toArray, List.set_cons_zero, List.set_cons_succ]
        refine wpAnyN_take (i := 13) (oi := { dst := some 21, op := Go.Op.load 27 (Go.Operand.tmp 20), type := 27, pos := "hand.go:98", after := #[{ on := 12, ground := Go.Ground.data }, { on := 7, ground := Go.Ground.guard }], guard := some (7, true) }) (v := .slice ba bn bc) rfl (by decide) (by kernel_rfl) (by kernel_rfl) (by kernel_rfl) (fun _ _ _ h => h) (Or.inl ⟨by rfl, ?_⟩) hS1 ?_
        · intro W9 hS9
          obtain ⟨q0, q1⟩ := hS9
          have s3 : W9.cell? ⟨H, 3, none⟩ = some (.slice ba bn bc) := q0.cell 3
          clear q0 q1
          go_simp
        try simp only [Act.put, List.setIfInBounds_toArray, List.set_cons_zero, List.set_cons_succ]
        refine wpAnyN_take (i := 14) (oi := { dst := some 22, op := Go.Op.call { callee := Go.Callee.builtin Go.Builtin.len, args := #[Go.Operand.tmp 21], argTypes := #[27] }, type := 3, pos := "hand.go:98", after := #[{ on := 13, ground := Go.Ground.data }, { on := 7, ground := Go.Ground.guard }], guard := some (7, true) }) (v := .int .i64 (bn : Nat)) rfl (by decide) (by kernel_rfl) (by kernel_rfl) (by kernel_rfl) (fun _ _ _ h => h) (Or.inl ⟨by rfl, ?_⟩) hS1 ?_
        · intro W9 hS9
          obtain ⟨q0, q1⟩ := hS9
          clear q0 q1
          go_simp
        try simp only [Act.put, List.setIfInBounds_toArray, List.set_cons_zero, List.set_cons_succ]
        refine wpAnyN_take (i := 15) (oi := { dst := some 23, op := Go.Op.binOp Go.BinOp.lss 3 (Go.Operand.tmp 22) (Go.Operand.const (Go.Value.int Go.IntKind.i64 16)) 3, type := 4, pos := "hand.go:98", after := #[{ on := 14, ground := Go.Ground.data }, { on := 7, ground := Go.Ground.guard }], guard := some (7, true) }) (v := .bool false) rfl (by decide) (by kernel_rfl) (by kernel_rfl) (by kernel_rfl) (fun _ _ _ h => h) (Or.inl ⟨by rfl, ?_⟩) hS1 ?_
        · intro W9 hS9
          obtain ⟨q0, q1⟩ := hS9
          clear q0 q1
          go_simp
        try simp only [Act.put, List.setIfInBounds_toArray, List.set_cons_zero, List.set_cons_succ]
        refine wpAnyN_take (i := 16) (oi := { dst := some 24, op := Go.Op.pick (Go.Operand.tmp 15) (Go.Operand.tmp 23) (Go.Operand.const (Go.Value.bool false)), type := 4, pos := "hand.go:98", after := #[{ on := 7, ground := Go.Ground.data }, { on := 15, ground := Go.Ground.data }], guard := none }) (v := .bool false) rfl (by decide) (by kernel_rfl) (by kernel_rfl) (by kernel_rfl) (fun _ _ _ h => h) (Or.inl ⟨by rfl, ?_⟩) hS1 ?_
        · intro W9 hS9
          obtain ⟨q0, q1⟩ := hS9
          clear q0 q1
          go_simp
        try simp only [Act.put, List.setIfInBounds_toArray, List.set_cons_zero, List.set_cons_succ]
        refine wpAnyX_end (by kernel_rfl) ?_
        go_wp2_with fail
        go_end0
        rw [HR2.out, HM9.out]
        exact Or.inl ⟨rfl, rfl, by rw [List.append_nil]; exact ⟨_, _, _, _, _, HX1.out⟩, HB1.out, HK1.out⟩
  · have HR2 := Lib.hid (HR.out.trans (if_neg (by rw [hpi]; decide)))
    clear hpi HML HR
    unfold panicA
    go_wp2_with fail
    refine ⟨rfl, ?_⟩
    rw [HR2.out]
    obtain ⟨u0, u1, u2, u3, u4, hb⟩ := HBX.out
    exact Or.inr ⟨by show (4 : Int) ≠ 0; decide, rfl, HAL.out, HKF.out, u0, u1, u2, u3, u4, hb⟩
end Go.Proofs
