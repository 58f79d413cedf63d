/- Monitor: a hand that takes. -/
import Derived.Test.YtkghlcoancfnfaaBu
namespace Go.Proofs
set_option maxRecDepth 100000
open Go.RowKit Go.Shelf
attribute [local go_sem] Oper.semAt_some

theorem entF_mem (t : Int) : ∀ (l : List Pr) (o : Nat) (e : Pr), e ∈ entF o l t → ∃ (j : Nat) (h : j < l.length), e = (((o + j : Nat) : Int), l[j].2)
  | [], _, _, h => by simp [entF] at h
  | s :: l, o, e, h => by
    unfold entF at h
    have step : e ∈ entF (o + 1) l t → ∃ (j : Nat) (h : j < (s :: l).length), e = (((o + j : Nat) : Int), (s :: l)[j].2) := fun h => by
      obtain ⟨j, hj, he⟩ := entF_mem t l (o + 1) e h
      exact ⟨j + 1, by simp; omega, by rw [he]; simp; omega⟩
    split at h
    · rcases List.mem_cons.1 h with h | h
      · exact ⟨0, by simp, by rw [h]; rfl⟩
      · exact step h
    · exact step h
/-- One slab that is taken. -/
theorem takT_one {l : List Pr} (h : (takT l 1).1 = 0) : rightA l = true ∧ (takT l 1).2.1.length = l.length ∧ rightA (takT l 1).2.1 = true ∧ ∃ e, (takT l 1).2.2 = [e] ∧ entB e = true := by
  unfold takT triR at h ⊢
  cases hr : rightA l with
  | false => rw [hr] at h; simp at h
  | true =>
    rw [hr] at h
    simp only [if_true] at h ⊢
    have hR : takeR l 1 = if 1 ≤ cnt l 0 then ((0 : Int), takeL l 1, (ents l 0).take 1) else (6, l, []) := by unfold takeR; rw [if_neg (by decide)]; rfl
    rw [hR] at h ⊢
    by_cases hc : 1 ≤ cnt l 0
    · rw [if_pos hc]
      simp only [if_true]
      refine ⟨trivial, takeL_length _ _, takeL_right hr 1, ?_⟩
      have hl := ents_length l 0
      cases he : ents l 0 with
      | nil => rw [he] at hl; simp at hl; omega
      | cons e es =>
        refine ⟨e, rfl, ?_⟩
        obtain ⟨j, hj, h2⟩ := entF_mem 0 l 0 e (by show e ∈ ents l 0; rw [he]; simp)
        have h3 := (rightA_iff.1 hr).2 l[j] (List.getElem_mem hj)
        have h4 := okS_iff.1 h3
        have h5 := (rightA_iff.1 hr).1
        rw [h2]
        refine entB_iff.2 ⟨by simp, by simp; omega, h4.2.2⟩
    · rw [if_neg hc] at h
      simp at h
def takM (m : Mn) (g : Int) (R : Int × List Pr × List Pr) : Int × Mn × List Pr := if R.1 = 0 then (0, addM { m with sl := R.2.1 } g (R.2.2.headD (0, 0)), [R.2.2.headD (0, 0)]) else (R.1, m, [])
set_option maxHeartbeats 16000000 in
theorem Try.take_anyM (H n₀ : Nat) (m : Mn) (tk : List Pr) (t : Wt) (w : World) (h : Hd H n₀ m tk w) (hk : okM m) (hl : m.has.length = m.pin.length) (htk : tk.length ≤ 10000) (hg : 0 ≤ t.goer ∧ t.goer < m.pin.length) (hn0 : n₀ ≤ w.heap.size) (hH : n₀ ≤ H) :
    Calls Try.prog 90 #[.pointer (some ⟨H, 0, none⟩), .agg #[.int .i64 t.kind, .int .i64 t.goer, .int .i64 t.slab, .int .u64 (t.gen : Nat)]] w (HdQ H n₀ w (if pinM m t.goer then takM m t.goer (takT m.sl 1) else (4, m, [])) tk) := by
  obtain ⟨i0, hi, hz0, hz1, hz2⟩ := info_parts Try.infoEntry
  obtain ⟨kd, gr, i, q⟩ := t
  dsimp only [Wt.ent] at hg ⊢
  obtain ⟨g, rfl⟩ : ∃ g : Nat, gr = g := ⟨gr.toNat, by omega⟩
  have hgp : g < m.pin.length := by omega
  obtain ⟨R, hR⟩ : ∃ R, R = (if pinM m ((g : Nat) : Int) then takM m ((g : Nat) : Int) (takT m.sl 1) else (4, m, [])) := ⟨_, rfl⟩
  rw [← hR]
  have HR := Lib.hid hR
  clear hR
  have hal : Below w.heap.size w (w.alloc (.cells #[.int .i64 kd, .int .i64 (g : Nat), .int .i64 i, .int .u64 (q : Nat)] 40)) := Rows8.newB
  have rw0 := Rows8.new w 40 #[.int .i64 kd, .int .i64 (g : Nat), .int .i64 i, .int .u64 (q : Nat)]
  obtain ⟨W, hW⟩ : ∃ W, W = w.alloc (.cells #[.int .i64 kd, .int .i64 (g : Nat), .int .i64 i, .int .u64 (q : Nat)] 40) := ⟨_, rfl⟩
  rw [← hW] at hal rw0
  have h1 := h.below hal
  have HML := Lib.hid (Try.mustLook_any H n₀ m tk g W h1 hgp)
  have HX := Lib.hid h1
  have HAL := Lib.hid (hal.mono hn0)
  have HKF := Lib.hid (Kf.of_below (T := tM) hal)
  have HR0 := Lib.hid rw0
  have HBX := Lib.hid (Hd.box h1)
  have c0 : W.cell? ⟨w.heap.size, 0, none⟩ = some (.int .i64 kd) := rw0.cell 0
  have c1 : W.cell? ⟨w.heap.size, 1, none⟩ = some (.int .i64 (g : Nat)) := rw0.cell 1
  have c2 : W.cell? ⟨w.heap.size, 2, none⟩ = some (.int .i64 i) := rw0.cell 2
  have c3 : W.cell? ⟨w.heap.size, 3, none⟩ = some (.int .u64 (q : Nat)) := rw0.cell 3
  have hal9 := Lib.hid hal
  clear h h1 hal rw0 hg
  go_enter Try.func90, Try.ntmps90
  go_wp2_with fail
  rw [← hW]
  clear hW
  refine HML.out.mono ?_
  rintro e w' (⟨hpi, rfl, rfl⟩ | ⟨hpi, rfl, rfl⟩)
  · have HR2 := Lib.hid (HR.out.trans (if_pos hpi))
    clear hpi HML HR
    obtain ⟨x, ta, tn, tc, vs, hx⟩ := HX.out
    obtain ⟨RR, hRR⟩ : ∃ R, R = takT m.sl 1 := ⟨_, rfl⟩
    have htake := Try.Take_any x.sa x.sn x.sc m.sl 1 w' hx.o.s.at
    have hone := takT_one (l := m.sl)
    rw [← hRR] at htake hone HR2
    have HTK := Lib.hid htake
    have HTN := Lib.hid (pAt_len hx.t.at).1
    have HSW := Lib.hid hal9.out.size
    have htn9 : tn ≤ 10000 := by have := (pAt_len hx.t.at).1; omega
    have ca : w'.cell? ⟨H, 0, none⟩ = some (.slice x.sa x.sn x.sc) := hx.bx.cell 0
    have HXx := Lib.hid hx
    clear hx HX hRR htake HBX
    go_wp2_with fail
    refine HTK.out.mono ?_
    rintro e w2 ⟨v2, u2, rfl, ho2, hou, hB2⟩
    obtain ⟨va, vc, hv2⟩ := ho2.form
    obtain ⟨vn, hvn⟩ : ∃ k, k = RR.2.1.length := ⟨_, rfl⟩
    rw [← hvn] at hv2
    subst hv2
    obtain ⟨ua, uc, hu2⟩ := hou.form
    obtain ⟨un, hun⟩ : ∃ k, k = RR.2.2.length := ⟨_, rfl⟩
    rw [← hun] at hu2
    subst hu2
    have hsz := HAL.out.size
    have hal2 : Below w2.heap.size w2 (w2.alloc (.cells #[.slice va vn vc] 24)) := Rows8.newB
    have ra := Rows8.new w2 24 #[.slice va vn vc]
    obtain ⟨W2, hW2⟩ : ∃ W, W = w2.alloc (.cells #[.slice va vn vc] 24) := ⟨_, rfl⟩
    rw [← hW2] at hal2 ra
    have hBx2 := hB2.trans (hal2.mono hB2.size)
    have hxx2 := HXx.out.below hBx2
    have ho3 := (ho2.mono (Nat.le_trans hn0 HSW.out)).below hal2 (Nat.le_refl _)
    have hou3 := hou.below hal2 (Nat.le_refl _)
    have HBW2 := Lib.hid hBx2
    have HXX2 := Lib.hid hxx2
    have HO3 := Lib.hid ho3
    have HOU3 := Lib.hid hou3
    have HB2 := Lib.hid (HAL.out.trans (hBx2.mono (Nat.le_trans hn0 HSW.out)))
    have HK2 := Lib.hid (HKF.out.trans (Kf.of_below (T := tM) hBx2))
    have HRW2 := Lib.hid (HR0.out.below hBx2 HR0.out.lt)
    have cv : W2.cell? ⟨w2.heap.size, 0, none⟩ = some (.slice va vn vc) := ra.cell 0
    have HHW := Lib.hid (show H < w'.heap.size from HXx.out.bx.lt)
    have HVS := Lib.hid (fun i q (hi : i < m.has.length) (hq : vs[i]? = some q) z (hz : q.ownBlock = some z) => (by
      obtain ⟨q0, e0, o0⟩ := HXx.out.o.h.el i hi
      rw [hq] at e0
      cases e0
      exact (World.ownsRow.lt o0 z hz).2 : z < w'.heap.size))
    have HVT := Lib.hid (fun z (hz : (.slice ta tn tc : Value).ownBlock = some z) => (World.ownsRow.lt HXx.out.t z hz).2)
    clear hB2 hal2 ra hBx2 hxx2 ho3 hou3 ho2 hou hvn HXx HTK ca
    by_cases hE : RR.1 = 0
    · have HR3 := Lib.hid (HR2.out.trans (if_pos hE))
      obtain ⟨-, hlen, -, en, hen, heb⟩ := hone hE
      have hu1 : un = 1 := by rw [hun, hen]; rfl
      subst hu1
      have hou4 := HOU3.out
      rw [hen] at hou4
      obtain ⟨ub, ucs, hua, hub, -, hru, hu0, hu1⟩ := hou4.block 0 (by simp)
      subst hua
      have HEN := Lib.hid hen
      rw [hen] at HR3
      obtain ⟨e0, e1⟩ := en
      have HU0 := Lib.hid ((hru.cell 0).symm.trans hu0)
      have HU1 := Lib.hid ((hru.cell 1).symm.trans hu1)
      have HUB := Lib.hid hub
      have HRU := Lib.hid hru
      have hly := Try.lay_yesX H n₀ x ta tn tc vs m tk RR.2.1 va vn vc W2 HXX2.out HO3.out (Nat.le_trans hn0 (Nat.le_trans HSW.out HBW2.out.size)) hH
      rw [← hE] at hly
      have HLY := Lib.hid hly
      have HKM : Hid (okM { m with sl := RR.2.1 }) := Lib.hid ⟨hk.1, by show RR.2.1.length ≤ 1000; rw [hlen]; exact hk.2.1, hk.2.2⟩
      clear hly hou4 hru hu0 hu1 hub hen hone hlen heb hE HOU3 hun
      go_wp2_with fail
      rw [← hW2]
      clear hW2
      refine HLY.out.mono ?_
      rintro e w3 ⟨rfl, h3, hB3, hK3, hkp⟩
      have hneU : ub ≠ H := by have := HHW.out; have := HUB.out; omega
      have hneW : w.heap.size ≠ H := fun e => rows_apart HRW2.out HXX2.out.bx (by decide) e
      have HX3 := Lib.hid h3
      have HB3 := Lib.hid (HB2.out.trans hB3)
      have HK3 := Lib.hid (HK2.out.trans hK3)
      have HW3 := Lib.hid (hkp _ _ _ hneW HRW2.out)
      have HU3 := Lib.hid (hkp _ _ _ hneU HRU.out)
      have HDV := Lib.hid (show ∀ i q, i < m.has.length → vs[i]? = some q → q.ownBlock ≠ some ub from fun i q hi hq e => by have h1 := HVS.out i q hi hq ub e; have h2 := HUB.out; omega)
      have HDT := Lib.hid (show (.slice ta tn tc : Value).ownBlock ≠ some ub from fun e => by have h1 := HVT.out ub e; have h2 := HUB.out; omega)
      clear h3 hB3 hK3 hkp HLY HXX2 HB2 HK2 HRW2 HRU cv HVS HVT hneU hneW c0 c1 c2 c3
      go_wp2_with fail
      refine wp_region_L (fun W' => Rows8 W' w.heap.size 40 #[.int .i64 kd, .int .i64 (g : Nat), .int .i64 i, .int .u64 (q : Nat)] ∧ Rows8 W' ub 38 ucs) 6 (by kernel_rfl) ?_
      have hS0 : Rows8 w3.drew w.heap.size 40 #[.int .i64 kd, .int .i64 (g : Nat), .int .i64 i, .int .u64 (q : Nat)] ∧ Rows8 w3.drew ub 38 ucs := ⟨HW3.out.drewA, HU3.out.drewA⟩
      have HX4 := Lib.hid HX3.out.drew
      have HB4 := Lib.hid HB3.out.drew
      have HK4 := Lib.hid HK3.out.drew
      clear HX3 HB3 HK3 HW3 HU3
      generalize w3.drew = Wd at *
      refine wpAnyL_takeT (i := 0) (oi := { dst := some 26, op := Go.Op.move (Go.Operand.tmp 0), type := 117, pos := "hand.go:107", after := #[], guard := none }) (v := .pointer (some ⟨H, 0, none⟩)) [6] rfl (by kernel_rfl) (by kernel_rfl) (by kernel_rfl) (by kernel_rfl) (fun _ _ _ h => h) (Or.inl ⟨by rfl, ?_⟩) hS0 ?_
      · intro W9 hS9
        obtain ⟨q0, q1⟩ := hS9
        clear q0 q1
        go_simp
      try simp only [Act.put, List.setIfInBounds_toArray, List.set_cons_zero, List.set_cons_succ]
      refine wpAnyL_takeT (i := 1) (oi := { dst := some 27, op := Go.Op.fieldAddr 40 (Go.Operand.tmp 3) 1, type := 0, pos := "hand.go:107", after := #[], guard := none }) (v := .pointer (some ⟨w.heap.size, 1, none⟩)) [2, 6] rfl (by kernel_rfl) (by kernel_rfl) (by kernel_rfl) (by kernel_rfl) (fun _ _ _ h => h) (Or.inl ⟨by rfl, ?_⟩) hS0 ?_
      · intro W9 hS9
        obtain ⟨q0, q1⟩ := hS9
        clear q0 q1
        go_simp
      try simp only [Act.put, List.setIfInBounds_toArray, List.set_cons_zero, List.set_cons_succ]
      refine wpAnyL_takeT (i := 2) (oi := { dst := some 28, op := Go.Op.load 3 (Go.Operand.tmp 27), type := 3, pos := "hand.go:107", after := #[{ on := 1, ground := Go.Ground.data }], guard := none }) (v := .int .i64 (g : Nat)) [6] rfl (by kernel_rfl) (by kernel_rfl) (by kernel_rfl) (by kernel_rfl) (fun _ _ _ h => h) (Or.inl ⟨by rfl, ?_⟩) hS0 ?_
      · intro W9 hS9
        obtain ⟨q0, q1⟩ := hS9
        have s0 : W9.cell? ⟨w.heap.size, 1, none⟩ = some (.int .i64 (g : Nat)) := q0.cell 1
        clear q0 q1
        go_simp
      try simp only [Act.put, List.setIfInBounds_toArray, List.set_cons_zero, List.set_cons_succ]
      refine wpAnyL_takeT (i := 3) (oi := { dst := some 29, op := Go.Op.move (Go.Operand.tmp 5), type := 62, pos := "hand.go:107", after := #[], guard := none }) (v := .slice (some ⟨ub, 0, none⟩) 1 uc) [4, 5, 6] rfl (by kernel_rfl) (by kernel_rfl) (by kernel_rfl) (by kernel_rfl) (fun _ _ _ h => h) (Or.inl ⟨by rfl, ?_⟩) hS0 ?_
      · intro W9 hS9
        obtain ⟨q0, q1⟩ := hS9
        clear q0 q1
        go_simp
      try simp only [Act.put, List.setIfInBounds_toArray, List.set_cons_zero, List.set_cons_succ]
      refine wpAnyL_takeT (i := 4) (oi := { dst := some 30, op := Go.Op.indexAddr 62 (Go.Operand.tmp 29) (Go.Operand.const (Go.Value.int Go.IntKind.i64 0)), type := 0, pos := "hand.go:107", after := #[{ on := 3, ground := Go.Ground.data }], guard := none }) (v := .pointer (some ⟨ub, 0, none⟩)) [5, 6] rfl (by kernel_rfl) (by kernel_rfl) (by kernel_rfl) (by kernel_rfl) (fun _ _ _ h => h) (Or.inl ⟨by rfl, ?_⟩) hS0 ?_
      · intro W9 hS9
        obtain ⟨q0, q1⟩ := hS9
        clear q0 q1
        go_simp
      try simp only [Act.put, List.setIfInBounds_toArray, List.set_cons_zero, List.set_cons_succ]
      refine wpAnyL_takeT (i := 5) (oi := { dst := some 31, op := Go.Op.load 38 (Go.Operand.tmp 30), type := 38, pos := "hand.go:107", after := #[{ on := 4, ground := Go.Ground.data }], guard := none }) (v := .agg #[.int .i64 e0, .int .u64 (e1 : Nat)]) [6] rfl (by kernel_rfl) (by kernel_rfl) (by kernel_rfl) (by kernel_rfl) (fun _ _ _ h => h) (Or.inl ⟨by rfl, ?_⟩) hS0 ?_
      · intro W9 hS9
        obtain ⟨q0, q1⟩ := hS9
        have s0 : W9.cell? ⟨ub, 0, none⟩ = some (.int .i64 e0) := (q1.cell 0).trans HU0.out
        have s1 : W9.cell? ⟨ub, 1, none⟩ = some (.int .u64 (e1 : Nat)) := (q1.cell 1).trans HU1.out
        clear q0 q1
        go_simp
      try simp only [Act.put, List.setIfInBounds_toArray, List.set_cons_zero, List.set_cons_succ]
      refine wpAnyL_one (i := 6) (o := { dst := some 32, op := Go.Op.call { callee := Go.Callee.value (Go.Operand.func 94), args := #[Go.Operand.tmp 26, Go.Operand.tmp 28, Go.Operand.tmp 31], argTypes := #[117, 3, 38] }, type := 0, pos := "hand.go:107", after := #[{ on := 0, ground := Go.Ground.data }, { on := 2, ground := Go.Ground.data }, { on := 5, ground := Go.Ground.data }], guard := none }) (by kernel_rfl) rfl (fun K hK => ?_)
      have HAD := Lib.hid (Try.add_anyX H n₀ _ ta tn tc vs { m with sl := RR.2.1 } tk g (e0, e1) Wd HX4.out HKM.out (by show g < m.has.length; omega) (Nat.le_trans hn0 HB4.out.size))
      dsimp only at HAD
      refine step_call_g (by rfl) 94 _ _ rfl (fun _ _ => by kernel_rfl) #[.pointer (some ⟨H, 0, none⟩), .int .i64 (g : Nat), .agg #[.int .i64 e0, .int .u64 (e1 : Nat)]] (by simp [go_sem]) _ HAD.out ?_
      rintro e w4 ⟨rfl, ⟨x5, vs5, h5⟩, hB5, hK5, hkp⟩
      refine ⟨_, rfl, ?_⟩
      have HX5 := Lib.hid h5
      have HB5 := Lib.hid (HB4.out.trans hB5)
      have HK5 := Lib.hid (HK4.out.trans hK5)
      have HU5 := Lib.hid (hkp ub ucs hS0.2 HDV.out)
      clear h5 hB5 hK5 hkp HAD HX4 HB4 HK4 hS0
      refine hK.out _ _ (fun h => absurd h (by decide)) ?_
      clear hK K
      try simp only [Act.put, List.setIfInBounds_toArray, List.set_cons_zero, List.set_cons_succ]
      refine wpAnyL_end (by kernel_rfl) ?_
      go_wp2_with fail
      obtain ⟨sa5, sn5, sc5, pa5, pn5, pc5, ha5, hn5, hc5, ba5, bn5, bc5⟩ := x5
      refine wp_region_L (fun W' => Rows8 W' H 95 #[.slice sa5 sn5 sc5, .slice pa5 pn5 pc5, .slice ha5 hn5 hc5, .slice ba5 bn5 bc5, .slice ta tn tc] ∧ Rows8 W' ub 38 ucs) 10 (by kernel_rfl) ?_
      have hS0 : Rows8 w4.drew H 95 #[.slice sa5 sn5 sc5, .slice pa5 pn5 pc5, .slice ha5 hn5 hc5, .slice ba5 bn5 bc5, .slice ta tn tc] ∧ Rows8 w4.drew ub 38 ucs := ⟨HX5.out.bx.drewA, HU5.out.drewA⟩
      have HX6 := Lib.hid HX5.out.drew
      have HB6 := Lib.hid HB5.out.drew
      have HK6 := Lib.hid HK5.out.drew
      clear HX5 HB5 HK5 HU5
      generalize w4.drew = Wd at *
      refine wpAnyL_take (i := 0) (oi := { dst := some 33, op := Go.Op.move (Go.Operand.tmp 0), type := 117, pos := "hand.go:108", after := #[], guard := none }) (v := .pointer (some ⟨H, 0, none⟩)) rfl (by kernel_rfl) (by kernel_rfl) (by kernel_rfl) (by kernel_rfl) (fun _ _ _ h => h) (Or.inl ⟨by rfl, ?_⟩) hS0 ?_
      · intro W9 hS9
        obtain ⟨q0, q1⟩ := hS9
        clear q0 q1
        go_simp
      try simp only [Act.put, List.setIfInBounds_toArray, List.set_cons_zero, List.set_cons_succ]
      refine wpAnyL_take (i := 1) (oi := { dst := some 34, op := Go.Op.move (Go.Operand.tmp 0), type := 117, pos := "hand.go:108", after := #[], guard := none }) (v := .pointer (some ⟨H, 0, none⟩)) rfl (by kernel_rfl) (by kernel_rfl) (by kernel_rfl) (by kernel_rfl) (fun _ _ _ h => h) (Or.inl ⟨by rfl, ?_⟩) hS0 ?_
      · intro W9 hS9
        obtain ⟨q0, q1⟩ := hS9
        clear q0 q1
        go_simp
      try simp only [Act.put, List.setIfInBounds_toArray, List.set_cons_zero, List.set_cons_succ]
      refine wpAnyL_take (i := 2) (oi := { dst := some 35, op := Go.Op.nilCheck (Go.Operand.tmp 34), type := 0, pos := "hand.go:108", after := #[{ on := 1, ground := Go.Ground.data }], guard := none }) (v := .pointer (some ⟨H, 0, none⟩)) rfl (by kernel_rfl) (by kernel_rfl) (by kernel_rfl) (by kernel_rfl) (fun _ _ _ h => h) (Or.inl ⟨by rfl, ?_⟩) hS0 ?_
      · intro W9 hS9
        obtain ⟨q0, q1⟩ := hS9
        clear q0 q1
        go_simp
      try simp only [Act.put, List.setIfInBounds_toArray, List.set_cons_zero, List.set_cons_succ]
      refine wpAnyL_take (i := 3) (oi := { dst := some 36, op := Go.Op.fieldAddr 95 (Go.Operand.tmp 35) 1, type := 0, pos := "hand.go:108", after := #[{ on := 2, ground := Go.Ground.data }], guard := none }) (v := .pointer (some ⟨H, 4, none⟩)) rfl (by kernel_rfl) (by kernel_rfl) (by kernel_rfl) (by kernel_rfl) (fun _ _ _ h => h) (Or.inl ⟨by rfl, ?_⟩) hS0 ?_
      · intro W9 hS9
        obtain ⟨q0, q1⟩ := hS9
        clear q0 q1
        go_simp
      try simp only [Act.put, List.setIfInBounds_toArray, List.set_cons_zero, List.set_cons_succ]
      refine wpAnyL_take (i := 4) (oi := { dst := some 37, op := Go.Op.load 62 (Go.Operand.tmp 36), type := 62, pos := "hand.go:108", after := #[{ on := 3, ground := Go.Ground.data }], guard := none }) (v := .slice ta tn tc) rfl (by kernel_rfl) (by kernel_rfl) (by kernel_rfl) (by kernel_rfl) (fun _ _ _ h => h) (Or.inl ⟨by rfl, ?_⟩) hS0 ?_
      · intro W9 hS9
        obtain ⟨q0, q1⟩ := hS9
        have s4 : W9.cell? ⟨H, 4, none⟩ = some (.slice ta tn tc) := q0.cell 4
        clear q0 q1
        go_simp
      try simp only [Act.put, List.setIfInBounds_toArray, List.set_cons_zero, List.set_cons_succ]
      refine wpAnyL_take (i := 5) (oi := { dst := some 38, op := Go.Op.move (Go.Operand.tmp 5), type := 62, pos := "hand.go:108", after := #[], guard := none }) (v := .slice (some ⟨ub, 0, none⟩) 1 uc) rfl (by kernel_rfl) (by kernel_rfl) (by kernel_rfl) (by kernel_rfl) (fun _ _ _ h => h) (Or.inl ⟨by rfl, ?_⟩) hS0 ?_
      · intro W9 hS9
        obtain ⟨q0, q1⟩ := hS9
        clear q0 q1
        go_simp
      try simp only [Act.put, List.setIfInBounds_toArray, List.set_cons_zero, List.set_cons_succ]
      refine wpAnyL_take (i := 6) (oi := { dst := some 39, op := Go.Op.indexAddr 62 (Go.Operand.tmp 38) (Go.Operand.const (Go.Value.int Go.IntKind.i64 0)), type := 0, pos := "hand.go:108", after := #[{ on := 5, ground := Go.Ground.data }], guard := none }) (v := .pointer (some ⟨ub, 0, none⟩)) rfl (by kernel_rfl) (by kernel_rfl) (by kernel_rfl) (by kernel_rfl) (fun _ _ _ h => h) (Or.inl ⟨by rfl, ?_⟩) hS0 ?_
      · intro W9 hS9
        obtain ⟨q0, q1⟩ := hS9
        clear q0 q1
        go_simp
      try simp only [Act.put, List.setIfInBounds_toArray, List.set_cons_zero, List.set_cons_succ]
      refine wpAnyL_take (i := 7) (oi := { dst := some 40, op := Go.Op.load 38 (Go.Operand.tmp 39), type := 38, pos := "hand.go:108", after := #[{ on := 6, ground := Go.Ground.data }], guard := none }) (v := .agg #[.int .i64 e0, .int .u64 (e1 : Nat)]) rfl (by kernel_rfl) (by kernel_rfl) (by kernel_rfl) (by kernel_rfl) (fun _ _ _ h => h) (Or.inl ⟨by rfl, ?_⟩) hS0 ?_
      · intro W9 hS9
        obtain ⟨q0, q1⟩ := hS9
        have s0 : W9.cell? ⟨ub, 0, none⟩ = some (.int .i64 e0) := (q1.cell 0).trans HU0.out
        have s1 : W9.cell? ⟨ub, 1, none⟩ = some (.int .u64 (e1 : Nat)) := (q1.cell 1).trans HU1.out
        clear q0 q1
        go_simp
      try simp only [Act.put, List.setIfInBounds_toArray, List.set_cons_zero, List.set_cons_succ]
      refine wpAnyL_one (i := 8) (o := { dst := some 41, op := Go.Op.buildSlice 62 1 #[(0, Go.Operand.tmp 40)], type := 62, pos := "hand.go:108", after := #[{ on := 7, ground := Go.Ground.data }], guard := none }) (by kernel_rfl) rfl (fun K hK => ?_)
      refine step_value_g (by rfl) (.slice (some ⟨Wd.heap.size, 0, none⟩) 1 1) (w' := (Wd.alloc (.cells #[.int .i64 e0, .int .u64 (e1 : Nat)] 38))) (by go_simp) ?_
      have hal : Below Wd.heap.size Wd (Wd.alloc (.cells #[.int .i64 e0, .int .u64 (e1 : Nat)] 38)) := Rows8.newB
      have hlit := lit_atM Wd e0 e1
      have hS1 : Rows8 (Wd.alloc (.cells #[.int .i64 e0, .int .u64 (e1 : Nat)] 38)) H 95 #[.slice sa5 sn5 sc5, .slice pa5 pn5 pc5, .slice ha5 hn5 hc5, .slice ba5 bn5 bc5, .slice ta tn tc] ∧ Rows8 (Wd.alloc (.cells #[.int .i64 e0, .int .u64 (e1 : Nat)] 38)) ub 38 ucs := ⟨hS0.1.below hal hS0.1.lt, hS0.2.below hal hS0.2.lt⟩
      have HX7 := Lib.hid (HX6.out.below hal)
      have HSZ6 := Lib.hid (Nat.le_trans hn0 HB6.out.size)
      have HB7 := Lib.hid (HB6.out.trans (hal.mono HSZ6.out))
      have HK7 := Lib.hid (HK6.out.trans (Kf.of_below (T := tM) hal))
      have HLIT := Lib.hid hlit
      clear hal hlit HX6 HB6 HK6
      refine hK.out _ _ (fun _ => hS1) ?_
      clear hK K
      try simp only [Act.put, List.setIfInBounds_toArray, List.set_cons_zero, List.set_cons_succ]
      generalize hal9 : (Wd.alloc (.cells #[.int .i64 e0, .int .u64 (e1 : Nat)] 38)) = W7 at *
      clear hal9
      refine wpAnyL_one (i := 9) (o := { dst := some 42, op := Go.Op.call { callee := Go.Callee.builtin Go.Builtin.append, args := #[Go.Operand.tmp 37, Go.Operand.tmp 41], argTypes := #[62, 62] }, type := 62, pos := "hand.go:108", after := #[{ on := 4, ground := Go.Ground.data }, { on := 8, ground := Go.Ground.data }], guard := none }) (by kernel_rfl) rfl (fun K hK => ?_)
      have HOT := Lib.hid HX7.out.t
      refine step_append_row _ rfl _ _ 62 rfl n₀ 38 i0 (.agg #[.int .i64 0, .int .u64 0]) 2 16 Try.underlying62 hi hz0 hz1 hz2 rfl (by decide) (.slice ta tn tc) tn (pVals tk) (by simp [go_sem]) (by have h := HOT.out; unfold OwnsP at h; rw [← HTN.out] at h; exact h) (.slice (some ⟨Wd.heap.size, 0, none⟩) 1 1) 1 [.int .i64 e0, .int .u64 (e1 : Nat)] (by simp [go_sem]) HLIT.out (by simp [Value.oneCell']) (by unfold maxLen; omega) (by omega) (Nat.le_trans hn0 HB7.out.size) ?_
      intro v8 w8 hown hgr hbl
      have ho8 : OwnsP 38 n₀ (tk ++ [(e0, e1)]) v8 w8 := by
        unfold OwnsP
        rw [pVals_snoc, List.length_append, ← HTN.out]
        exact hown
      obtain ⟨va8, vc8, hv8⟩ := ho8.form
      obtain ⟨vn8, hvn⟩ : ∃ k, k = (tk ++ [((e0, e1) : Pr)]).length := ⟨_, rfl⟩
      rw [← hvn] at hv8
      subst hv8
      have HPU := Lib.hid (HX7.out.pushTk hgr va8 vn8 vc8 _ hbl ho8)
      have RB8 := Lib.hid (grown_rows HOT.out (by decide) hgr HX7.out.bx)
      have HB8 := Lib.hid (HB7.out.grown hgr (Nat.le_trans hn0 HB7.out.size) (fun j ej => (World.ownsRow.lt HOT.out j ej).1))
      have HK8 := Lib.hid (HK7.out.trans (kf_grown (by decide) HOT.out hgr))
      have hS2 : Rows8 w8 H 95 #[.slice sa5 sn5 sc5, .slice pa5 pn5 pc5, .slice ha5 hn5 hc5, .slice ba5 bn5 bc5, .slice ta tn tc] ∧ Rows8 w8 ub 38 ucs := ⟨grown_rows HOT.out (by decide) hgr hS1.1, (hgr.block ub hS1.2.lt (fun e => HDT.out e.symm)).trans hS1.2⟩
      clear hown hgr hbl ho8 hvn
      refine hK.out _ _ (fun _ => hS2) ?_
      clear hK K
      try simp only [Act.put, List.setIfInBounds_toArray, List.set_cons_zero, List.set_cons_succ]
      refine wpAnyL_takeP (i := 10) (oi := { dst := some 43, op := Go.Op.nilCheck (Go.Operand.tmp 33), type := 0, pos := "hand.go:108", after := #[{ on := 0, ground := Go.Ground.data }, { on := 0, ground := Go.Ground.phase }, { on := 1, ground := Go.Ground.phase }, { on := 2, ground := Go.Ground.phase }, { on := 3, ground := Go.Ground.phase }, { on := 4, ground := Go.Ground.phase }, { on := 5, ground := Go.Ground.phase }, { on := 6, ground := Go.Ground.phase }, { on := 7, ground := Go.Ground.phase }, { on := 8, ground := Go.Ground.phase }, { on := 9, ground := Go.Ground.phase }], guard := none }) (v := .pointer (some ⟨H, 0, none⟩)) rfl (by kernel_rfl) (by kernel_rfl) (by kernel_rfl) (by kernel_rfl) (fun _ _ _ h => h) (Or.inl ⟨by rfl, ?_⟩) ?_
      · intro W9 _
        go_simp
      try simp only [Act.put, List.setIfInBounds_toArray, List.set_cons_zero, List.set_cons_succ]
      refine wpAnyL_takeP (i := 11) (oi := { dst := some 44, op := Go.Op.fieldAddr 95 (Go.Operand.tmp 43) 1, type := 0, pos := "hand.go:108", after := #[{ on := 10, ground := Go.Ground.data }, { on := 0, ground := Go.Ground.phase }, { on := 1, ground := Go.Ground.phase }, { on := 2, ground := Go.Ground.phase }, { on := 3, ground := Go.Ground.phase }, { on := 4, ground := Go.Ground.phase }, { on := 5, ground := Go.Ground.phase }, { on := 6, ground := Go.Ground.phase }, { on := 7, ground := Go.Ground.phase }, { on := 8, ground := Go.Ground.phase }, { on := 9, ground := Go.Ground.phase }], guard := none }) (v := .pointer (some ⟨H, 4, none⟩)) rfl (by kernel_rfl) (by kernel_rfl) (by kernel_rfl) (by kernel_rfl) (fun _ _ _ h => h) (Or.inl ⟨by rfl, ?_⟩) ?_
      · intro W9 _
        go_simp
      try simp only [Act.put, List.setIfInBounds_toArray, List.set_cons_zero, List.set_cons_succ]
      refine wpAnyL_one (i := 12) (o := { dst := none, op := Go.Op.store 62 (Go.Operand.tmp 44) (Go.Operand.tmp 42), type := 0, pos := "hand.go:108", after := #[{ on := 11, ground := Go.Ground.data }, { on := 9, ground := Go.Ground.data }, { on := 9, ground := Go.Ground.chain }, { on := 0, ground := Go.Ground.phase }, { on := 1, ground := Go.Ground.phase }, { on := 2, ground := Go.Ground.phase }, { on := 3, ground := Go.Ground.phase }, { on := 4, ground := Go.Ground.phase }, { on := 5, ground := Go.Ground.phase }, { on := 6, ground := Go.Ground.phase }, { on := 7, ground := Go.Ground.phase }, { on := 8, ground := Go.Ground.phase }, { on := 9, ground := Go.Ground.phase }], guard := none }) (by kernel_rfl) rfl (fun K hK => ?_)
      have cK : w8.cell? ⟨H, 4, none⟩ = some (.slice ta tn tc) := RB8.out.cell 4
      have fK := RB8.out.frozen 4
      refine step_skip_g (by rfl) (w' := w8.setCell ⟨H, 4, none⟩ (.slice va8 vn8 vc8)) (by go_simp) ?_
      have HB9 := Lib.hid (HB8.out.setCell (p := ⟨H, 4, none⟩) hH (.slice va8 vn8 vc8))
      have HK9 := Lib.hid (HK8.out.trans (Kf.set (T := tM) (t := 95) (by decide) w8 (a := ⟨H, 4, none⟩) RB8.out (.slice va8 vn8 vc8)))
      clear cK fK
      refine hK.out _ _ (fun h => absurd h (by decide)) ?_
      clear hK K
      try simp only [Act.put, List.setIfInBounds_toArray, List.set_cons_zero, List.set_cons_succ]
      refine wpAnyL_end (by kernel_rfl) ?_
      go_wp2_with fail
      go_end0
      rw [HR3.out]
      exact Or.inl ⟨rfl, rfl, ⟨_, _, _, _, _, HPU.out⟩, HB9.out, HK9.out⟩
    · have HR3 := Lib.hid (HR2.out.trans (if_neg hE))
      have HLN := Lib.hid (Try.lay_no H RR.1 hE (.slice va vn vc) ⟨_, _, _, rfl⟩ W2)
      clear hone
      go_wp2_with fail
      rw [← hW2]
      clear hW2
      refine HLN.out.mono ?_
      rintro e w3 ⟨rfl, hB3⟩
      have HB3 := Lib.hid hB3
      clear hB3 HLN
      unfold panicA
      go_wp2_with fail
      refine ⟨rfl, ?_⟩
      rw [HR3.out]
      exact Or.inr ⟨hE, rfl, HB2.out.trans (HB3.out.mono (Nat.le_trans hn0 (Nat.le_trans HSW.out HBW2.out.size))), HK2.out.trans (Kf.of_below HB3.out), _, _, _, _, _, HXX2.out.bx.below HB3.out HXX2.out.bx.lt⟩
  · have HR2 := Lib.hid (HR.out.trans (if_neg (by rw [hpi]; decide)))
    clear hpi HML HR
    unfold panicA
    go_wp2_with fail
    refine ⟨rfl, ?_⟩
    rw [HR2.out]
    obtain ⟨u0, u1, u2, u3, u4, hb⟩ := HBX.out
    exact Or.inr ⟨by show (4 : Int) ≠ 0; decide, rfl, HAL.out, HKF.out, u0, u1, u2, u3, u4, hb⟩
end Go.Proofs
