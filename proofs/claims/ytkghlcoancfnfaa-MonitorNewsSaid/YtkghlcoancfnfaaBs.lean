/- Monitor: a hand that lays slabs, adds entries, gets them; unpins. -/
import Derived.Test.YtkghlcoancfnfaaBp
namespace Go.Proofs
set_option maxRecDepth 100000
open Go.RowKit Go.Shelf
attribute [local go_sem] Oper.semAt_some

set_option maxHeartbeats 4000000 in
theorem Try.lay_yesX (H n₀ : Nat) (x : Mv) (ta : Option Addr) (tn tc : Nat) (vs : List Value) (m : Mn) (tk sl' : List Pr) (a : Option Addr) (n c : Nat) (w : World) (h : Hx H n₀ x ta tn tc vs m tk w) (ho : OwnsP 56 n₀ sl' (.slice a n c) w) (hn : n₀ ≤ w.heap.size) (hH : n₀ ≤ H) :
    Calls Try.prog 96 #[.pointer (some ⟨H, 0, none⟩), .agg #[.slice a n c], .int .i64 0] w fun e w' => e = .returned (.tuple #[]) ∧ Hx H n₀ { x with sa := a, sn := n, sc := c } ta tn tc vs { m with sl := sl' } tk w' ∧ Below n₀ w w' ∧ Kf tM w w' ∧ ∀ (k : Nat) (t : TypeId) (ds : Array Value), k ≠ H → Rows8 w k t ds → Rows8 w' k t ds := by
  have hal : Below w.heap.size w (w.alloc (.cells #[.slice a n c] 24)) := Rows8.newB
  have r0 := Rows8.new w 24 #[.slice a n c]
  obtain ⟨W, hW⟩ : ∃ W, W = w.alloc (.cells #[.slice a n c] 24) := ⟨_, rfl⟩
  rw [← hW] at hal r0
  have h1 := h.below hal
  have o1 := ho.below hal (Nat.le_refl _)
  have H2 := Lib.hid (h1.setSl a n c sl' o1)
  have HB := Lib.hid ((hal.mono hn).setCell (p := ⟨H, 0, none⟩) hH (.slice a n c))
  have HK := Lib.hid ((Kf.of_below (T := tM) hal).trans (Kf.set (T := tM) (t := 95) (by decide) W (a := ⟨H, 0, none⟩) h1.bx (.slice a n c)))
  have HKP := Lib.hid (fun (k : Nat) (t : TypeId) (ds : Array Value) (hk : k ≠ H) (r : Rows8 w k t ds) => (r.below hal r.lt).setOther (a := ⟨H, 0, none⟩) (fun e => hk e.symm) (.slice a n c))
  have c0 : W.cell? ⟨H, 0, none⟩ = some (.slice x.sa x.sn x.sc) := h1.bx.cell 0
  have f0 := h1.bx.frozen 0
  have ca : W.cell? ⟨w.heap.size, 0, none⟩ = some (.slice a n c) := r0.cell 0
  have HM := fun W => Lib.hid (Try.must_yes W)
  clear hal r0 h1 o1 h ho
  go_enter Try.func96, Try.ntmps96
  go_wp2_with fail
  rw [← hW]
  clear hW
  refine (HM W).out.mono ?_
  rintro e w' ⟨rfl, rfl⟩
  go_wp2_with fail
  try go_region
  go_end0
  first | exact ⟨rfl, H2.out, HB.out, HK.out, HKP.out⟩ | exact ⟨rfl, H2.out.drew, HB.out.drew, HK.out.drew, HKP.out⟩
theorem Try.lay_yes (H n₀ : Nat) (m : Mn) (tk sl' : List Pr) (a : Option Addr) (n c : Nat) (w : World) (h : Hd H n₀ m tk w) (ho : OwnsP 56 n₀ sl' (.slice a n c) w) (hn : n₀ ≤ w.heap.size) (hH : n₀ ≤ H) :
    Calls Try.prog 96 #[.pointer (some ⟨H, 0, none⟩), .agg #[.slice a n c], .int .i64 0] w fun e w' => e = .returned (.tuple #[]) ∧ Hd H n₀ { m with sl := sl' } tk w' ∧ Below n₀ w w' ∧ Kf tM w w' := by
  obtain ⟨x, ta, tn, tc, vs, h⟩ := h
  exact (Try.lay_yesX H n₀ x ta tn tc vs m tk sl' a n c w h ho hn hH).mono fun e w' ⟨h1, h2, h3, h4, _⟩ => ⟨h1, ⟨_, _, _, _, _, h2⟩, h3, h4⟩
set_option maxHeartbeats 4000000 in
theorem Try.lay_no (H : Nat) (E : Int) (hE : E ≠ 0) (v : Value) (hv : ∃ a n c, v = .slice a n c) (w : World) :
    Calls Try.prog 96 #[.pointer (some ⟨H, 0, none⟩), .agg #[v], .int .i64 E] w fun e w' => e = .panicked (panicA E) ∧ Below w.heap.size w w' := by
  obtain ⟨a, n, c, rfl⟩ := hv
  have HB := Lib.hid (show Below w.heap.size w (w.alloc (.cells #[.slice a n c] 24)) from Rows8.newB)
  have HM := fun W => Lib.hid (Try.must_no E hE W)
  clear hE
  go_enter Try.func96, Try.ntmps96
  go_wp2_with fail
  refine (HM _).out.mono ?_
  rintro e w' ⟨rfl, rfl⟩
  unfold panicA
  go_wp2_with fail
  exact ⟨rfl, rfl, HB.out⟩
theorem Rows8.at_ {W : World} {B : Nat} {t : TypeId} {cs : Array Value} (h : Rows8 W B t cs) {i : Nat} (hi : ∃ u, W.cell? ⟨B, i, none⟩ = some u) : ∃ u, W.cell? ⟨B, i, none⟩ = some u := hi
theorem own_size {W : World} {n₀ n g c : Nat} {T : TypeId} {cs : List Value} {len : Nat} (h : W.ownsRow n₀ T 1 (.slice (some ⟨g, 0, none⟩) len c) n cs) (i : Nat) (hi : i < n) : ∃ u, W.cell? ⟨g, i, none⟩ = some u := by
  obtain ⟨cur, hcr, hnl, hg2, hcell⟩ := own_rows h
  have hl : cs.length = n := by have := h.1; omega
  exact ⟨cs[i], by rw [hcell i (by omega), List.getElem?_eq_getElem (by omega)]⟩
set_option maxHeartbeats 8000000 in
theorem Try.unpin_any (H n₀ : Nat) (m : Mn) (tk : List Pr) (t : Wt) (w : World) (h : Hd H n₀ m tk w) (hg : 0 ≤ t.goer ∧ t.goer < m.pin.length) (hl : m.has.length = m.pin.length) (hn : n₀ ≤ w.heap.size) :
    Calls Try.prog 87 #[.pointer (some ⟨H, 0, none⟩), .agg #[.int .i64 t.kind, .int .i64 t.goer, .int .i64 t.slab, .int .u64 (t.gen : Nat)]] w (HdQ H n₀ w (if pinM m t.goer then (0, { m with pin := m.pin.set t.goer.toNat false, has := m.has.set t.goer.toNat [] }, []) else (4, m, [])) tk) := by
  obtain ⟨kd, gr, i, q⟩ := t
  dsimp only [Wt.ent] at hg ⊢
  obtain ⟨g, rfl⟩ : ∃ g : Nat, gr = g := ⟨gr.toNat, by omega⟩
  have hgp : g < m.pin.length := by omega
  obtain ⟨R, hR⟩ : ∃ R, R = (if pinM m ((g : Nat) : Int) then ((0 : Int), ({ m with pin := m.pin.set ((g : Nat) : Int).toNat false, has := m.has.set ((g : Nat) : Int).toNat [] } : Mn), ([] : List Pr)) else (4, m, [])) := ⟨_, rfl⟩
  rw [← hR]
  have HR := Lib.hid hR
  clear hR
  have hal : Below w.heap.size w (w.alloc (.cells #[.int .i64 kd, .int .i64 (g : Nat), .int .i64 i, .int .u64 (q : Nat)] 40)) := Rows8.newB
  have rw0 := Rows8.new w 40 #[.int .i64 kd, .int .i64 (g : Nat), .int .i64 i, .int .u64 (q : Nat)]
  obtain ⟨W, hW⟩ : ∃ W, W = w.alloc (.cells #[.int .i64 kd, .int .i64 (g : Nat), .int .i64 i, .int .u64 (q : Nat)] 40) := ⟨_, rfl⟩
  rw [← hW] at hal rw0
  have HML := Lib.hid (Try.mustLook_any H n₀ m tk g W (h.below hal) hgp)
  have hpa0 := pinM_at hgp
  obtain ⟨x, ta, tn, tc, vs, h⟩ := h
  have h1 := h.below hal
  obtain ⟨sa, sn, sc, pa, pn, pc, ha, hn9, hc, ba, bn, bc⟩ := x
  obtain ⟨gp, cs, hpa, hgp0, hpn, rp, cp⟩ := h1.o.p.block g hgp
  have hgh : g < m.has.length := by omega
  obtain ⟨gh, ch, hha, hgh0, hhn, rh⟩ := h1.o.h.block g hgh
  dsimp only at hpa hha hpn hhn
  subst hpa hha
  obtain ⟨bo, hbo⟩ : ∃ b, b = m.pin[g] := ⟨_, rfl⟩
  rw [← hbo] at cp
  have hgi : ((g : Nat) : Int) < ((pn : Nat) : Int) := by omega
  have hgi0 : (0 : Int) ≤ ((g : Nat) : Int) := by omega
  have hgj : ((g : Nat) : Int) < ((hn9 : Nat) : Int) := by omega
  have HX := Lib.hid h1
  have HAL := Lib.hid (hal.mono hn)
  have HKF := Lib.hid (Kf.of_below (T := tM) hal)
  have HPN := Lib.hid hpn
  have HHN := Lib.hid hhn
  have RP := Lib.hid rp
  have RH := Lib.hid rh
  have HGP := Lib.hid hgp0
  have HGH := Lib.hid hgh0
  have HR0 := Lib.hid rw0
  have cg : W.cell? ⟨w.heap.size, 1, none⟩ = some (.int .i64 (g : Nat)) := rw0.cell 1
  have CP := Lib.hid cp
  clear h h1 hal rp rh rw0 hpn hhn hgp0 hgh0 cp hpa0 hbo hg
  go_enter Try.func87, Try.ntmps87
  go_wp2_with fail
  rw [← hW]
  clear hW
  refine HML.out.mono ?_
  rintro e w' (⟨hpi, rfl, rfl⟩ | ⟨hpi, rfl, rfl⟩)
  · have HR2 := Lib.hid (HR.out.trans (if_pos hpi))
    clear hpi HML HR
    go_wp2_with fail
    clear cg
    refine wp_region_L (fun W' => Rows8 W' H 95 #[.slice sa sn sc, .slice (some ⟨gp, 0, none⟩) pn pc, .slice (some ⟨gh, 0, none⟩) hn9 hc, .slice ba bn bc, .slice ta tn tc] ∧ Rows8 W' w.heap.size 40 #[.int .i64 kd, .int .i64 (g : Nat), .int .i64 i, .int .u64 (q : Nat)]) 20 (by kernel_rfl) ?_
    have hS0 : Rows8 w'.drew H 95 #[.slice sa sn sc, .slice (some ⟨gp, 0, none⟩) pn pc, .slice (some ⟨gh, 0, none⟩) hn9 hc, .slice ba bn bc, .slice ta tn tc] ∧ Rows8 w'.drew w.heap.size 40 #[.int .i64 kd, .int .i64 (g : Nat), .int .i64 i, .int .u64 (q : Nat)] := ⟨HX.out.bx.drewA, HR0.out.drewA⟩
    have HX0 := Lib.hid HX.out.drew
    have HB0 := Lib.hid HAL.out.drew
    have HK0 := Lib.hid HKF.out.drew
    have RP0 := Lib.hid RP.out.drewA
    have RH0 := Lib.hid RH.out.drewA
    have CP : Hid (w'.drew.cell? ⟨gp, g, none⟩ = some (.bool bo)) := CP
    clear HX HAL HKF RP RH HR0
    generalize w'.drew = Wd at *
    refine wpAnyL_take (i := 0) (oi := { dst := some 8, op := Go.Op.move (Go.Operand.tmp 0), type := 117, pos := "hand.go:88", after := #[], guard := none }) (v := .pointer (some ⟨H, 0, none⟩)) rfl (by kernel_rfl) (by kernel_rfl) (by kernel_rfl) (by kernel_rfl) (fun _ _ _ h => h) (Or.inl ⟨by rfl, ?_⟩) hS0 ?_
    · intro W9 hS9
      obtain ⟨q0, q1⟩ := hS9
      clear q0 q1
      go_simp
    try simp only [Act.put, List.setIfInBounds_toArray, List.set_cons_zero, List.set_cons_succ]
    refine wpAnyL_take (i := 1) (oi := { dst := some 9, op := Go.Op.nilCheck (Go.Operand.tmp 8), type := 0, pos := "hand.go:88", after := #[{ on := 0, ground := Go.Ground.data }], guard := none }) (v := .pointer (some ⟨H, 0, none⟩)) rfl (by kernel_rfl) (by kernel_rfl) (by kernel_rfl) (by kernel_rfl) (fun _ _ _ h => h) (Or.inl ⟨by rfl, ?_⟩) hS0 ?_
    · intro W9 hS9
      obtain ⟨q0, q1⟩ := hS9
      clear q0 q1
      go_simp
    try simp only [Act.put, List.setIfInBounds_toArray, List.set_cons_zero, List.set_cons_succ]
    refine wpAnyL_take (i := 2) (oi := { dst := some 10, op := Go.Op.fieldAddr 95 (Go.Operand.tmp 9) 0, type := 0, pos := "hand.go:88", after := #[{ on := 1, ground := Go.Ground.data }], guard := none }) (v := .pointer (some ⟨H, 0, none⟩)) rfl (by kernel_rfl) (by kernel_rfl) (by kernel_rfl) (by kernel_rfl) (fun _ _ _ h => h) (Or.inl ⟨by rfl, ?_⟩) hS0 ?_
    · intro W9 hS9
      obtain ⟨q0, q1⟩ := hS9
      clear q0 q1
      go_simp
    try simp only [Act.put, List.setIfInBounds_toArray, List.set_cons_zero, List.set_cons_succ]
    refine wpAnyL_take (i := 3) (oi := { dst := some 11, op := Go.Op.fieldAddr 79 (Go.Operand.tmp 10) 0, type := 0, pos := "hand.go:88", after := #[{ on := 2, ground := Go.Ground.data }], guard := none }) (v := .pointer (some ⟨H, 0, none⟩)) rfl (by kernel_rfl) (by kernel_rfl) (by kernel_rfl) (by kernel_rfl) (fun _ _ _ h => h) (Or.inl ⟨by rfl, ?_⟩) hS0 ?_
    · intro W9 hS9
      obtain ⟨q0, q1⟩ := hS9
      clear q0 q1
      go_simp
    try simp only [Act.put, List.setIfInBounds_toArray, List.set_cons_zero, List.set_cons_succ]
    refine wpAnyL_take (i := 4) (oi := { dst := some 12, op := Go.Op.fieldAddr 29 (Go.Operand.tmp 11) 1, type := 0, pos := "hand.go:88", after := #[{ on := 3, ground := Go.Ground.data }], guard := none }) (v := .pointer (some ⟨H, 1, none⟩)) rfl (by kernel_rfl) (by kernel_rfl) (by kernel_rfl) (by kernel_rfl) (fun _ _ _ h => h) (Or.inl ⟨by rfl, ?_⟩) hS0 ?_
    · intro W9 hS9
      obtain ⟨q0, q1⟩ := hS9
      clear q0 q1
      go_simp
    try simp only [Act.put, List.setIfInBounds_toArray, List.set_cons_zero, List.set_cons_succ]
    refine wpAnyL_take (i := 5) (oi := { dst := some 13, op := Go.Op.load 25 (Go.Operand.tmp 12), type := 25, pos := "hand.go:88", after := #[{ on := 4, ground := Go.Ground.data }], guard := none }) (v := .slice (some ⟨gp, 0, none⟩) pn pc) rfl (by kernel_rfl) (by kernel_rfl) (by kernel_rfl) (by kernel_rfl) (fun _ _ _ h => h) (Or.inl ⟨by rfl, ?_⟩) hS0 ?_
    · intro W9 hS9
      obtain ⟨q0, q1⟩ := hS9
      have s0 : W9.cell? ⟨H, 1, none⟩ = some (.slice (some ⟨gp, 0, none⟩) pn pc) := q0.cell 1
      clear q0 q1
      go_simp
    try simp only [Act.put, List.setIfInBounds_toArray, List.set_cons_zero, List.set_cons_succ]
    refine wpAnyL_take (i := 6) (oi := { dst := some 14, op := Go.Op.fieldAddr 40 (Go.Operand.tmp 3) 1, type := 0, pos := "hand.go:88", after := #[], guard := none }) (v := .pointer (some ⟨w.heap.size, 1, none⟩)) rfl (by kernel_rfl) (by kernel_rfl) (by kernel_rfl) (by kernel_rfl) (fun _ _ _ h => h) (Or.inl ⟨by rfl, ?_⟩) hS0 ?_
    · intro W9 hS9
      obtain ⟨q0, q1⟩ := hS9
      clear q0 q1
      go_simp
    try simp only [Act.put, List.setIfInBounds_toArray, List.set_cons_zero, List.set_cons_succ]
    refine wpAnyL_take (i := 7) (oi := { dst := some 15, op := Go.Op.load 3 (Go.Operand.tmp 14), type := 3, pos := "hand.go:88", after := #[{ on := 6, ground := Go.Ground.data }], guard := none }) (v := .int .i64 (g : Nat)) rfl (by kernel_rfl) (by kernel_rfl) (by kernel_rfl) (by kernel_rfl) (fun _ _ _ h => h) (Or.inl ⟨by rfl, ?_⟩) hS0 ?_
    · intro W9 hS9
      obtain ⟨q0, q1⟩ := hS9
      have s0 : W9.cell? ⟨w.heap.size, 1, none⟩ = some (.int .i64 (g : Nat)) := q1.cell 1
      clear q0 q1
      go_simp
    try simp only [Act.put, List.setIfInBounds_toArray, List.set_cons_zero, List.set_cons_succ]
    refine wpAnyL_take (i := 8) (oi := { dst := some 16, op := Go.Op.move (Go.Operand.tmp 0), type := 117, pos := "hand.go:88", after := #[], guard := none }) (v := .pointer (some ⟨H, 0, none⟩)) rfl (by kernel_rfl) (by kernel_rfl) (by kernel_rfl) (by kernel_rfl) (fun _ _ _ h => h) (Or.inl ⟨by rfl, ?_⟩) hS0 ?_
    · intro W9 hS9
      obtain ⟨q0, q1⟩ := hS9
      clear q0 q1
      go_simp
    try simp only [Act.put, List.setIfInBounds_toArray, List.set_cons_zero, List.set_cons_succ]
    refine wpAnyL_take (i := 9) (oi := { dst := some 17, op := Go.Op.nilCheck (Go.Operand.tmp 16), type := 0, pos := "hand.go:88", after := #[{ on := 8, ground := Go.Ground.data }], guard := none }) (v := .pointer (some ⟨H, 0, none⟩)) rfl (by kernel_rfl) (by kernel_rfl) (by kernel_rfl) (by kernel_rfl) (fun _ _ _ h => h) (Or.inl ⟨by rfl, ?_⟩) hS0 ?_
    · intro W9 hS9
      obtain ⟨q0, q1⟩ := hS9
      clear q0 q1
      go_simp
    try simp only [Act.put, List.setIfInBounds_toArray, List.set_cons_zero, List.set_cons_succ]
    refine wpAnyL_take (i := 10) (oi := { dst := some 18, op := Go.Op.fieldAddr 95 (Go.Operand.tmp 17) 0, type := 0, pos := "hand.go:88", after := #[{ on := 9, ground := Go.Ground.data }], guard := none }) (v := .pointer (some ⟨H, 0, none⟩)) rfl (by kernel_rfl) (by kernel_rfl) (by kernel_rfl) (by kernel_rfl) (fun _ _ _ h => h) (Or.inl ⟨by rfl, ?_⟩) hS0 ?_
    · intro W9 hS9
      obtain ⟨q0, q1⟩ := hS9
      clear q0 q1
      go_simp
    try simp only [Act.put, List.setIfInBounds_toArray, List.set_cons_zero, List.set_cons_succ]
    refine wpAnyL_take (i := 11) (oi := { dst := some 19, op := Go.Op.fieldAddr 79 (Go.Operand.tmp 18) 0, type := 0, pos := "hand.go:88", after := #[{ on := 10, ground := Go.Ground.data }], guard := none }) (v := .pointer (some ⟨H, 0, none⟩)) rfl (by kernel_rfl) (by kernel_rfl) (by kernel_rfl) (by kernel_rfl) (fun _ _ _ h => h) (Or.inl ⟨by rfl, ?_⟩) hS0 ?_
    · intro W9 hS9
      obtain ⟨q0, q1⟩ := hS9
      clear q0 q1
      go_simp
    try simp only [Act.put, List.setIfInBounds_toArray, List.set_cons_zero, List.set_cons_succ]
    refine wpAnyL_take (i := 12) (oi := { dst := some 20, op := Go.Op.fieldAddr 29 (Go.Operand.tmp 19) 2, type := 0, pos := "hand.go:88", after := #[{ on := 11, ground := Go.Ground.data }], guard := none }) (v := .pointer (some ⟨H, 2, none⟩)) rfl (by kernel_rfl) (by kernel_rfl) (by kernel_rfl) (by kernel_rfl) (fun _ _ _ h => h) (Or.inl ⟨by rfl, ?_⟩) hS0 ?_
    · intro W9 hS9
      obtain ⟨q0, q1⟩ := hS9
      clear q0 q1
      go_simp
    try simp only [Act.put, List.setIfInBounds_toArray, List.set_cons_zero, List.set_cons_succ]
    refine wpAnyL_take (i := 13) (oi := { dst := some 21, op := Go.Op.load 26 (Go.Operand.tmp 20), type := 26, pos := "hand.go:88", after := #[{ on := 12, ground := Go.Ground.data }], guard := none }) (v := .slice (some ⟨gh, 0, none⟩) hn9 hc) rfl (by kernel_rfl) (by kernel_rfl) (by kernel_rfl) (by kernel_rfl) (fun _ _ _ h => h) (Or.inl ⟨by rfl, ?_⟩) hS0 ?_
    · intro W9 hS9
      obtain ⟨q0, q1⟩ := hS9
      have s0 : W9.cell? ⟨H, 2, none⟩ = some (.slice (some ⟨gh, 0, none⟩) hn9 hc) := q0.cell 2
      clear q0 q1
      go_simp
    try simp only [Act.put, List.setIfInBounds_toArray, List.set_cons_zero, List.set_cons_succ]
    refine wpAnyL_take (i := 14) (oi := { dst := some 22, op := Go.Op.fieldAddr 40 (Go.Operand.tmp 3) 1, type := 0, pos := "hand.go:88", after := #[{ on := 17, ground := Go.Ground.gcOnly Go.Departure.lateStores }], guard := none }) (v := .pointer (some ⟨w.heap.size, 1, none⟩)) rfl (by kernel_rfl) (by kernel_rfl) (by kernel_rfl) (by kernel_rfl) (fun _ _ _ h => h) (Or.inl ⟨by rfl, ?_⟩) hS0 ?_
    · intro W9 hS9
      obtain ⟨q0, q1⟩ := hS9
      clear q0 q1
      go_simp
    try simp only [Act.put, List.setIfInBounds_toArray, List.set_cons_zero, List.set_cons_succ]
    refine wpAnyL_take (i := 15) (oi := { dst := some 23, op := Go.Op.load 3 (Go.Operand.tmp 22), type := 3, pos := "hand.go:88", after := #[{ on := 14, ground := Go.Ground.data }, { on := 17, ground := Go.Ground.gcOnly Go.Departure.lateStores }], guard := none }) (v := .int .i64 (g : Nat)) rfl (by kernel_rfl) (by kernel_rfl) (by kernel_rfl) (by kernel_rfl) (fun _ _ _ h => h) (Or.inl ⟨by rfl, ?_⟩) hS0 ?_
    · intro W9 hS9
      obtain ⟨q0, q1⟩ := hS9
      have s0 : W9.cell? ⟨w.heap.size, 1, none⟩ = some (.int .i64 (g : Nat)) := q1.cell 1
      clear q0 q1
      go_simp
    try simp only [Act.put, List.setIfInBounds_toArray, List.set_cons_zero, List.set_cons_succ]
    refine wpAnyL_take (i := 16) (oi := { dst := some 24, op := Go.Op.indexAddr 25 (Go.Operand.tmp 13) (Go.Operand.tmp 15), type := 0, pos := "hand.go:88", after := #[{ on := 5, ground := Go.Ground.data }, { on := 7, ground := Go.Ground.data }, { on := 0, ground := Go.Ground.phase }, { on := 1, ground := Go.Ground.phase }, { on := 2, ground := Go.Ground.phase }, { on := 3, ground := Go.Ground.phase }, { on := 4, ground := Go.Ground.phase }, { on := 5, ground := Go.Ground.phase }, { on := 6, ground := Go.Ground.phase }, { on := 7, ground := Go.Ground.phase }, { on := 8, ground := Go.Ground.textOnly Go.Departure.lateStores }, { on := 9, ground := Go.Ground.textOnly Go.Departure.lateStoresUnsure }, { on := 10, ground := Go.Ground.textOnly Go.Departure.lateStoresUnsure }, { on := 11, ground := Go.Ground.textOnly Go.Departure.lateStoresUnsure }, { on := 12, ground := Go.Ground.textOnly Go.Departure.lateStoresUnsure }, { on := 13, ground := Go.Ground.phase }, { on := 14, ground := Go.Ground.textOnly Go.Departure.lateStores }, { on := 15, ground := Go.Ground.textOnly Go.Departure.lateStores }], guard := none }) (v := .pointer (some ⟨gp, g, none⟩)) rfl (by kernel_rfl) (by kernel_rfl) (by kernel_rfl) (by kernel_rfl) (fun _ _ _ h => h) (Or.inl ⟨by rfl, ?_⟩) hS0 ?_
    · intro W9 hS9
      obtain ⟨q0, q1⟩ := hS9
      clear q0 q1
      go_simp
    try simp only [Act.put, List.setIfInBounds_toArray, List.set_cons_zero, List.set_cons_succ]
    refine wpAnyL_one (i := 17) (o := { dst := none, op := Go.Op.store 4 (Go.Operand.tmp 24) (Go.Operand.const (Go.Value.bool false)), type := 0, pos := "hand.go:88", after := #[{ on := 16, ground := Go.Ground.data }, { on := 0, ground := Go.Ground.phase }, { on := 1, ground := Go.Ground.phase }, { on := 2, ground := Go.Ground.phase }, { on := 3, ground := Go.Ground.phase }, { on := 4, ground := Go.Ground.phase }, { on := 5, ground := Go.Ground.phase }, { on := 6, ground := Go.Ground.phase }, { on := 7, ground := Go.Ground.phase }, { on := 8, ground := Go.Ground.textOnly Go.Departure.lateStores }, { on := 9, ground := Go.Ground.textOnly Go.Departure.lateStoresUnsure }, { on := 10, ground := Go.Ground.textOnly Go.Departure.lateStoresUnsure }, { on := 11, ground := Go.Ground.textOnly Go.Departure.lateStoresUnsure }, { on := 12, ground := Go.Ground.textOnly Go.Departure.lateStoresUnsure }, { on := 13, ground := Go.Ground.phase }, { on := 14, ground := Go.Ground.textOnly Go.Departure.lateStores }, { on := 15, ground := Go.Ground.textOnly Go.Departure.lateStores }], guard := none }) (by kernel_rfl) rfl (fun K hK => ?_)
    have cK : Wd.cell? ⟨gp, g, none⟩ = some (.bool bo) := CP.out
    have fK := RP0.out.frozen g
    refine step_skip_g (by rfl) (w' := Wd.setCell ⟨gp, g, none⟩ (.bool false)) (by go_simp) ?_
    have hX1 := HX0.out.setPin (gp := gp) rfl RP0.out HPN.out g false
    have hS1 : Rows8 (Wd.setCell ⟨gp, g, none⟩ (.bool false)) H 95 #[.slice sa sn sc, .slice (some ⟨gp, 0, none⟩) pn pc, .slice (some ⟨gh, 0, none⟩) hn9 hc, .slice ba bn bc, .slice ta tn tc] ∧ Rows8 (Wd.setCell ⟨gp, g, none⟩ (.bool false)) w.heap.size 40 #[.int .i64 kd, .int .i64 (g : Nat), .int .i64 i, .int .u64 (q : Nat)] := ⟨hX1.bx, hS0.2.setOther (a := ⟨gp, g, none⟩) (fun e => rows_apart hS0.2 RP0.out (by decide) e.symm) _⟩
    have HX1 := Lib.hid hX1
    have HB1 := Lib.hid (HB0.out.setCell (p := ⟨gp, g, none⟩) HGP.out (.bool false))
    have HK1 := Lib.hid (HK0.out.trans (Kf.set (T := tM) (t := 4) (by decide) Wd (a := ⟨gp, g, none⟩) (cs := cs) RP0.out (.bool false)))
    have RH1 := Lib.hid (RH0.out.setOther (a := ⟨gp, g, none⟩) (fun e => rows_apart RH0.out RP0.out (by decide) e.symm) (.bool false))
    clear cK fK hX1 HX0 HB0 HK0 RH0 RP0
    refine hK.out _ _ (fun _ => hS1) ?_
    clear hK K
    try simp only [Act.put, List.setIfInBounds_toArray, List.set_cons_zero, List.set_cons_succ]
    generalize Wd.setCell ⟨gp, g, none⟩ (.bool false) = W1 at *
    refine wpAnyL_take (i := 18) (oi := { dst := some 25, op := Go.Op.indexAddr 26 (Go.Operand.tmp 21) (Go.Operand.tmp 23), type := 0, pos := "hand.go:88", after := #[{ on := 13, ground := Go.Ground.data }, { on := 15, ground := Go.Ground.data }, { on := 0, ground := Go.Ground.phase }, { on := 1, ground := Go.Ground.phase }, { on := 2, ground := Go.Ground.phase }, { on := 3, ground := Go.Ground.phase }, { on := 4, ground := Go.Ground.phase }, { on := 5, ground := Go.Ground.phase }, { on := 6, ground := Go.Ground.phase }, { on := 7, ground := Go.Ground.phase }, { on := 8, ground := Go.Ground.phase }, { on := 9, ground := Go.Ground.phase }, { on := 10, ground := Go.Ground.phase }, { on := 11, ground := Go.Ground.phase }, { on := 12, ground := Go.Ground.phase }, { on := 13, ground := Go.Ground.phase }, { on := 14, ground := Go.Ground.phase }, { on := 15, ground := Go.Ground.phase }, { on := 16, ground := Go.Ground.phase }, { on := 17, ground := Go.Ground.phase }], guard := none }) (v := .pointer (some ⟨gh, g, none⟩)) rfl (by kernel_rfl) (by kernel_rfl) (by kernel_rfl) (by kernel_rfl) (fun _ _ _ h => h) (Or.inl ⟨by rfl, ?_⟩) hS1 ?_
    · intro W9 hS9
      obtain ⟨q0, q1⟩ := hS9
      clear q0 q1
      go_simp
    try simp only [Act.put, List.setIfInBounds_toArray, List.set_cons_zero, List.set_cons_succ]
    refine wpAnyL_one (i := 19) (o := { dst := none, op := Go.Op.store 62 (Go.Operand.tmp 25) (Go.Operand.const (Go.Value.slice none 0 0)), type := 0, pos := "hand.go:88", after := #[{ on := 18, ground := Go.Ground.data }, { on := 17, ground := Go.Ground.chain }, { on := 0, ground := Go.Ground.phase }, { on := 1, ground := Go.Ground.phase }, { on := 2, ground := Go.Ground.phase }, { on := 3, ground := Go.Ground.phase }, { on := 4, ground := Go.Ground.phase }, { on := 5, ground := Go.Ground.phase }, { on := 6, ground := Go.Ground.phase }, { on := 7, ground := Go.Ground.phase }, { on := 8, ground := Go.Ground.phase }, { on := 9, ground := Go.Ground.phase }, { on := 10, ground := Go.Ground.phase }, { on := 11, ground := Go.Ground.phase }, { on := 12, ground := Go.Ground.phase }, { on := 13, ground := Go.Ground.phase }, { on := 14, ground := Go.Ground.phase }, { on := 15, ground := Go.Ground.phase }, { on := 16, ground := Go.Ground.phase }, { on := 17, ground := Go.Ground.phase }], guard := none }) (by kernel_rfl) rfl (fun K hK => ?_)
    obtain ⟨uo, cK⟩ : ∃ u, W1.cell? ⟨gh, g, none⟩ = some u := RH1.out.at_ (own_size HX1.out.o.h.row g hgh)
    have fK := RH1.out.frozen g
    refine step_skip_g (by rfl) (w' := W1.setCell ⟨gh, g, none⟩ (.slice none 0 0)) (by go_simp) ?_
    have hX2 := HX1.out.clearHas (gh := gh) rfl RH1.out HHN.out g hgh
    have hS2 : Rows8 (W1.setCell ⟨gh, g, none⟩ (.slice none 0 0)) H 95 #[.slice sa sn sc, .slice (some ⟨gp, 0, none⟩) pn pc, .slice (some ⟨gh, 0, none⟩) hn9 hc, .slice ba bn bc, .slice ta tn tc] ∧ Rows8 (W1.setCell ⟨gh, g, none⟩ (.slice none 0 0)) w.heap.size 40 #[.int .i64 kd, .int .i64 (g : Nat), .int .i64 i, .int .u64 (q : Nat)] := ⟨hX2.bx, hS1.2.setOther (a := ⟨gh, g, none⟩) (fun e => rows_apart hS1.2 RH1.out (by decide) e.symm) _⟩
    have HX2 := Lib.hid hX2
    have HB2 := Lib.hid (HB1.out.setCell (p := ⟨gh, g, none⟩) HGH.out (.slice none 0 0))
    have HK2 := Lib.hid (HK1.out.trans (Kf.set (T := tM) (t := 62) (by decide) W1 (a := ⟨gh, g, none⟩) RH1.out (.slice none 0 0)))
    clear cK fK hX2
    refine hK.out _ _ (fun _ => hS2) ?_
    clear hK K
    try simp only [Act.put, List.setIfInBounds_toArray, List.set_cons_zero, List.set_cons_succ]
    refine wpAnyL_end (by kernel_rfl) ?_
    go_wp2_with fail
    go_end0
    rw [HR2.out]
    exact Or.inl ⟨rfl, rfl, by rw [List.append_nil, Int.toNat_natCast]; exact ⟨_, _, _, _, _, HX2.out⟩, HB2.out, HK2.out⟩
  · have HR2 := Lib.hid (HR.out.trans (if_neg (by rw [hpi]; decide)))
    clear hpi HML HR
    unfold panicA
    go_wp2_with fail
    refine ⟨rfl, ?_⟩
    rw [HR2.out]
    exact Or.inr ⟨by show (4 : Int) ≠ 0; decide, rfl, HAL.out, HKF.out, _, _, _, _, _, HX.out.bx⟩
theorem lit_atM (W : World) (e0 : Int) (e1 : Nat) : RowAt (W.alloc (.cells #[.int .i64 e0, .int .u64 (e1 : Nat)] 38)) (.slice (some ⟨W.heap.size, 0, none⟩) 1 1) 1 2 [.int .i64 e0, .int .u64 (e1 : Nat)] := by
  refine ⟨rfl, _, 1, rfl, Nat.le_refl _, by unfold maxLen; omega, (fun e => by cases e), fun j hj => ⟨W.heap.size, 0, rfl, by simp, ?_⟩⟩
  rw [Nat.zero_add, Rows8.cell (Rows8.new W _ _) j]
  simp
theorem own_get {W : World} {n₀ n g c : Nat} {T : TypeId} {cs : List Value} {len : Nat} (h : W.ownsRow n₀ T 1 (.slice (some ⟨g, 0, none⟩) len c) n cs) (i : Nat) (hi : i < n) : W.cell? ⟨g, i, none⟩ = cs[i]? := by
  obtain ⟨cur, hcr, hnl, hg2, hcell⟩ := own_rows h
  exact hcell i (by have := h.1; omega)
theorem addM_no {m : Mn} {g : Nat} {e : Pr} (h : hasM m (g : Nat) e = true) : addM m (g : Nat) e = m := by unfold addM; rw [if_pos h]
theorem addM_yes {m : Mn} {g : Nat} {e : Pr} (h : hasM m (g : Nat) e = false) (hg : g < m.has.length) : addM m (g : Nat) e = { m with has := m.has.set g (m.has[g] ++ [e]) } := by
  unfold addM
  rw [if_neg (by rw [h]; decide), Int.toNat_natCast, List.getElem?_eq_getElem hg]
  rfl
set_option maxHeartbeats 8000000 in
theorem Try.add_anyX (H n₀ : Nat) (x : Mv) (ta : Option Addr) (tn tc : Nat) (vs : List Value) (m : Mn) (tk : List Pr) (g : Nat) (e : Pr) (w : World) (h : Hx H n₀ x ta tn tc vs m tk w) (hk : okM m) (hgh : g < m.has.length) (hn0 : n₀ ≤ w.heap.size) :
    Calls Try.prog 94 #[.pointer (some ⟨H, 0, none⟩), .int .i64 (g : Nat), .agg #[.int .i64 e.1, .int .u64 (e.2 : Nat)]] w fun r w' => r = .returned (.tuple #[]) ∧ (∃ x' vs', Hx H n₀ x' ta tn tc vs' (addM m (g : Nat) e) tk w') ∧ Below n₀ w w' ∧ Kf tM w w' ∧ ∀ (B : Nat) (cs : Array Value), Rows8 w B 38 cs → (∀ i q, i < m.has.length → vs[i]? = some q → q.ownBlock ≠ some B) → Rows8 w' B 38 cs := by
  obtain ⟨i0, hi, hz0, hz1, hz2⟩ := info_parts Try.infoEntry
  have hal : Below w.heap.size w (w.alloc (.cells #[.int .i64 e.1, .int .u64 (e.2 : Nat)] 38)) := Rows8.newB
  have rw0 := Rows8.new w 38 #[.int .i64 e.1, .int .u64 (e.2 : Nat)]
  obtain ⟨W, hW⟩ : ∃ W, W = w.alloc (.cells #[.int .i64 e.1, .int .u64 (e.2 : Nat)] 38) := ⟨_, rfl⟩
  rw [← hW] at hal rw0
  have h1 := h.below hal
  have HHAS := fun (W : World) (h : Hx H n₀ x ta tn tc vs m tk W) => Lib.hid (Try.has_any x m g e W (h.o.at hk) hgh)
  obtain ⟨gh, ch, hha, hgh0, hhn, rh⟩ := h1.o.h.block g hgh
  obtain ⟨qv, eqv, oqv⟩ := h1.o.h.el g hgh
  have HQB : Hid (∀ z, qv.ownBlock = some z → z < w.heap.size) := Lib.hid fun z hz => by
    obtain ⟨q2, e2, o2⟩ := h.o.h.el g hgh
    rw [eqv] at e2
    cases e2
    exact (World.ownsRow.lt o2 z hz).2
  obtain ⟨qa, qc, hqv⟩ := oqv.form
  obtain ⟨qn, hqn⟩ : ∃ k, k = m.has[g].length := ⟨_, rfl⟩
  rw [← hqn] at hqv
  subst hqv
  have hql : m.has[g].length ≤ 9000 := hk.2.2.2.2.2 _ (List.getElem_mem hgh)
  obtain ⟨sa, sn, sc, pa, pn, pc, ha, hn9, hc, ba, bn, bc⟩ := x
  dsimp only at hha hhn HHAS
  have HGE := Lib.hid (own_get (hha ▸ h1.o.h.row) g hgh)
  have hcq : W.cell? ⟨gh, g, none⟩ = some (.slice qa qn qc) := HGE.out.trans eqv
  obtain ⟨e0, e1⟩ := e
  dsimp only at *
  obtain ⟨zh, hzh⟩ : ∃ z, z = hasM m (g : Nat) (e0, e1) := ⟨_, rfl⟩
  rw [← hzh] at HHAS
  have hady := addM_yes (m := m) (g := g) (e := (e0, e1))
  have hadn := addM_no (m := m) (g := g) (e := (e0, e1))
  rw [← hzh] at hady hadn
  obtain ⟨M, hMd⟩ : ∃ M, M = addM m (g : Nat) (e0, e1) := ⟨_, rfl⟩
  rw [← hMd] at hady hadn ⊢
  have hgj : ((g : Nat) : Int) < ((hn9 : Nat) : Int) := by omega
  have hgi0 : (0 : Int) ≤ ((g : Nat) : Int) := by omega
  have HADY := Lib.hid hady
  have HADN := Lib.hid hadn
  have HX := Lib.hid h1
  have HAL := Lib.hid (hal.mono hn0)
  have HWL := Lib.hid hal
  have HKF := Lib.hid (Kf.of_below (T := tM) hal)
  have HHN := Lib.hid hhn
  have HHA := Lib.hid hha
  have HGH := Lib.hid hgh0
  have HR0 := Lib.hid rw0
  have HQN := Lib.hid hqn
  have RHW := Lib.hid rh
  have HCQW := Lib.hid hcq
  have hqn9 : qn ≤ 9000 := by omega
  have HSZ0 := Lib.hid (Nat.le_refl w.heap.size)
  have HSW := Lib.hid (fun (W : World) (h : Below n₀ w W) => h.size)
  clear hha hhn hgh0 rw0 hqn rh hcq h1 hal h eqv oqv HGE hzh hMd hady hadn hql hk
  go_enter Try.func94, Try.ntmps94
  go_wp2_with fail
  rw [← hW]
  clear hW
  refine wp_region_L (fun W' => Rows8 W' H 95 #[.slice sa sn sc, .slice pa pn pc, .slice ha hn9 hc, .slice ba bn bc, .slice ta tn tc] ∧ Rows8 W' w.heap.size 38 #[.int .i64 e0, .int .u64 (e1 : Nat)]) 8 (by kernel_rfl) ?_
  have hS0 : Rows8 W.drew H 95 #[.slice sa sn sc, .slice pa pn pc, .slice ha hn9 hc, .slice ba bn bc, .slice ta tn tc] ∧ Rows8 W.drew w.heap.size 38 #[.int .i64 e0, .int .u64 (e1 : Nat)] := ⟨HX.out.bx.drewA, HR0.out.drewA⟩
  have HX0 := Lib.hid HX.out.drew
  have HB0 := Lib.hid HAL.out.drew
  have HK0 := Lib.hid HKF.out.drew
  have HW0 := Lib.hid HWL.out.drew
  clear HX HAL HKF HR0 HWL
  have RHW : Hid (Rows8 W.drew gh _ ch) := RHW
  have HCQW : Hid (W.drew.cell? ⟨gh, g, none⟩ = _) := HCQW
  generalize W.drew = Wd at *
  refine wpAnyL_take (i := 0) (oi := { dst := some 6, op := Go.Op.move (Go.Operand.tmp 0), type := 117, pos := "hand.go:124", after := #[], guard := none }) (v := .pointer (some ⟨H, 0, none⟩)) rfl (by kernel_rfl) (by kernel_rfl) (by kernel_rfl) (by kernel_rfl) (fun _ _ _ h => h) (Or.inl ⟨by rfl, ?_⟩) hS0 ?_
  · intro W9 hS9
    obtain ⟨q0, q1⟩ := hS9
    clear q0 q1
    go_simp
  try simp only [Act.put, List.setIfInBounds_toArray, List.set_cons_zero, List.set_cons_succ]
  refine wpAnyL_take (i := 1) (oi := { dst := some 7, op := Go.Op.nilCheck (Go.Operand.tmp 6), type := 0, pos := "hand.go:124", after := #[{ on := 0, ground := Go.Ground.data }], guard := none }) (v := .pointer (some ⟨H, 0, none⟩)) rfl (by kernel_rfl) (by kernel_rfl) (by kernel_rfl) (by kernel_rfl) (fun _ _ _ h => h) (Or.inl ⟨by rfl, ?_⟩) hS0 ?_
  · intro W9 hS9
    obtain ⟨q0, q1⟩ := hS9
    clear q0 q1
    go_simp
  try simp only [Act.put, List.setIfInBounds_toArray, List.set_cons_zero, List.set_cons_succ]
  refine wpAnyL_take (i := 2) (oi := { dst := some 8, op := Go.Op.fieldAddr 95 (Go.Operand.tmp 7) 0, type := 0, pos := "hand.go:124", after := #[{ on := 1, ground := Go.Ground.data }], guard := none }) (v := .pointer (some ⟨H, 0, none⟩)) rfl (by kernel_rfl) (by kernel_rfl) (by kernel_rfl) (by kernel_rfl) (fun _ _ _ h => h) (Or.inl ⟨by rfl, ?_⟩) hS0 ?_
  · intro W9 hS9
    obtain ⟨q0, q1⟩ := hS9
    clear q0 q1
    go_simp
  try simp only [Act.put, List.setIfInBounds_toArray, List.set_cons_zero, List.set_cons_succ]
  refine wpAnyL_take (i := 3) (oi := { dst := some 9, op := Go.Op.load 79 (Go.Operand.tmp 8), type := 79, pos := "hand.go:124", after := #[{ on := 2, ground := Go.Ground.data }], guard := none }) (v := .agg #[.slice sa sn sc, .slice pa pn pc, .slice ha hn9 hc, .slice ba bn bc]) rfl (by kernel_rfl) (by kernel_rfl) (by kernel_rfl) (by kernel_rfl) (fun _ _ _ h => h) (Or.inl ⟨by rfl, ?_⟩) hS0 ?_
  · intro W9 hS9
    obtain ⟨q0, q1⟩ := hS9
    have s0 : W9.cell? ⟨H, 0, none⟩ = some (.slice sa sn sc) := q0.cell 0
    have s1 : W9.cell? ⟨H, 1, none⟩ = some (.slice pa pn pc) := q0.cell 1
    have s2 : W9.cell? ⟨H, 2, none⟩ = some (.slice ha hn9 hc) := q0.cell 2
    have s3 : W9.cell? ⟨H, 3, none⟩ = some (.slice ba bn bc) := q0.cell 3
    clear q0 q1
    go_simp
  try simp only [Act.put, List.setIfInBounds_toArray, List.set_cons_zero, List.set_cons_succ]
  refine wpAnyL_take (i := 4) (oi := { dst := some 10, op := Go.Op.move (Go.Operand.tmp 1), type := 3, pos := "hand.go:124", after := #[], guard := none }) (v := .int .i64 (g : Nat)) rfl (by kernel_rfl) (by kernel_rfl) (by kernel_rfl) (by kernel_rfl) (fun _ _ _ h => h) (Or.inl ⟨by rfl, ?_⟩) hS0 ?_
  · intro W9 hS9
    obtain ⟨q0, q1⟩ := hS9
    clear q0 q1
    go_simp
  try simp only [Act.put, List.setIfInBounds_toArray, List.set_cons_zero, List.set_cons_succ]
  refine wpAnyL_take (i := 5) (oi := { dst := some 11, op := Go.Op.load 38 (Go.Operand.tmp 5), type := 38, pos := "hand.go:124", after := #[], guard := none }) (v := .agg #[.int .i64 e0, .int .u64 (e1 : Nat)]) rfl (by kernel_rfl) (by kernel_rfl) (by kernel_rfl) (by kernel_rfl) (fun _ _ _ h => h) (Or.inl ⟨by rfl, ?_⟩) hS0 ?_
  · intro W9 hS9
    obtain ⟨q0, q1⟩ := hS9
    have s0 : W9.cell? ⟨w.heap.size, 0, none⟩ = some (.int .i64 e0) := q1.cell 0
    have s1 : W9.cell? ⟨w.heap.size, 1, none⟩ = some (.int .u64 (e1 : Nat)) := q1.cell 1
    clear q0 q1
    go_simp
  try simp only [Act.put, List.setIfInBounds_toArray, List.set_cons_zero, List.set_cons_succ]
  refine wpAnyL_one (i := 6) (o := { dst := some 12, op := Go.Op.call { callee := Go.Callee.value (Go.Operand.func 67), args := #[Go.Operand.tmp 9, Go.Operand.tmp 10, Go.Operand.tmp 11], argTypes := #[79, 3, 38] }, type := 4, pos := "hand.go:124", after := #[{ on := 3, ground := Go.Ground.data }, { on := 4, ground := Go.Ground.data }, { on := 5, ground := Go.Ground.data }], guard := none }) (by kernel_rfl) rfl (fun K hK => ?_)
  refine step_call_g (by rfl) 67 _ _ rfl (fun _ _ => by kernel_rfl) #[.agg #[.slice sa sn sc, .slice pa pn pc, .slice ha hn9 hc, .slice ba bn bc], .int .i64 (g : Nat), .agg #[.int .i64 e0, .int .u64 (e1 : Nat)]] (by simp [go_sem]) _ (HHAS Wd HX0.out).out ?_
  rintro e w1 ⟨rfl, hC⟩
  refine ⟨_, rfl, ?_⟩
  have hS1 : Rows8 w1 H 95 #[.slice sa sn sc, .slice pa pn pc, .slice ha hn9 hc, .slice ba bn bc, .slice ta tn tc] ∧ Rows8 w1 w.heap.size 38 #[.int .i64 e0, .int .u64 (e1 : Nat)] := ⟨hS0.1.below hC hS0.1.lt, hS0.2.below hC hS0.2.lt⟩
  have HX1 := Lib.hid (HX0.out.below hC)
  have HB1 := Lib.hid (HB0.out.trans (hC.mono (Nat.le_trans hn0 HB0.out.size)))
  have HK1 := Lib.hid (HK0.out.trans (Kf.of_below (T := tM) hC))
  have HW1 := Lib.hid (HW0.out.trans (hC.mono HW0.out.size))
  have RH := Lib.hid (RHW.out.below hC RHW.out.lt)
  have HCQ := Lib.hid ((hC.cell (p := ⟨gh, g, none⟩) RHW.out.lt).trans HCQW.out)
  clear hC HX0 HB0 HK0
  refine hK.out _ _ (fun _ => hS1) ?_
  clear hK K
  try simp only [Act.put, List.setIfInBounds_toArray, List.set_cons_zero, List.set_cons_succ]
  refine wpAnyL_take (i := 7) (oi := { dst := some 13, op := Go.Op.unOp Go.UnOp.not 4 (Go.Operand.tmp 12), type := 4, pos := "hand.go:124", after := #[{ on := 6, ground := Go.Ground.data }], guard := none }) (v := .bool (!zh)) rfl (by kernel_rfl) (by kernel_rfl) (by kernel_rfl) (by kernel_rfl) (fun _ _ _ h => h) (Or.inl ⟨by rfl, ?_⟩) hS1 ?_
  · intro W9 hS9
    obtain ⟨q0, q1⟩ := hS9
    clear q0 q1
    go_simp
  try simp only [Act.put, List.setIfInBounds_toArray, List.set_cons_zero, List.set_cons_succ]
  refine wpAnyL_end (by kernel_rfl) ?_
  have HA := HADN
  cases zh with
  | true =>
    have HM9 := Lib.hid (HADN.out rfl)
    go_wp2_with fail
    go_end0
    exact ⟨rfl, by rw [HM9.out]; exact ⟨_, _, HX1.out⟩, HB1.out, HK1.out, fun B cs r _ => r.below HW1.out r.lt⟩
  | false =>
    have HM9 := Lib.hid (HADY.out rfl hgh)
    have hhx := HHA.out
    subst hhx
    go_wp2_with fail
    refine wp_region_L (fun W' => Rows8 W' H 95 #[.slice sa sn sc, .slice pa pn pc, .slice (some ⟨gh, 0, none⟩) hn9 hc, .slice ba bn bc, .slice ta tn tc] ∧ Rows8 W' w.heap.size 38 #[.int .i64 e0, .int .u64 (e1 : Nat)] ∧ W'.cell? ⟨gh, g, none⟩ = some (.slice qa qn qc)) 19 (by kernel_rfl) ?_
    have hS0 : Rows8 w1.drew H 95 #[.slice sa sn sc, .slice pa pn pc, .slice (some ⟨gh, 0, none⟩) hn9 hc, .slice ba bn bc, .slice ta tn tc] ∧ Rows8 w1.drew w.heap.size 38 #[.int .i64 e0, .int .u64 (e1 : Nat)] ∧ w1.drew.cell? ⟨gh, g, none⟩ = some (.slice qa qn qc) := ⟨HX1.out.bx.drewA, hS1.2.drewA, HCQ.out⟩
    have HX2 := Lib.hid HX1.out.drew
    have HB2 := Lib.hid HB1.out.drew
    have HK2 := Lib.hid HK1.out.drew
    have RH2 := Lib.hid RH.out.drewA
    have HW2 := Lib.hid HW1.out.drew
    clear HX1 HB1 HK1 RH hS1
    generalize w1.drew = Wd at *
    refine wpAnyL_take (i := 0) (oi := { dst := some 14, op := Go.Op.move (Go.Operand.tmp 0), type := 117, pos := "hand.go:125", after := #[], guard := none }) (v := .pointer (some ⟨H, 0, none⟩)) rfl (by kernel_rfl) (by kernel_rfl) (by kernel_rfl) (by kernel_rfl) (fun _ _ _ h => h) (Or.inl ⟨by rfl, ?_⟩) hS0 ?_
    · intro W9 hS9
      obtain ⟨q0, q1, q2⟩ := hS9
      clear q0 q1 q2
      go_simp
    try simp only [Act.put, List.setIfInBounds_toArray, List.set_cons_zero, List.set_cons_succ]
    refine wpAnyL_take (i := 1) (oi := { dst := some 15, op := Go.Op.nilCheck (Go.Operand.tmp 14), type := 0, pos := "hand.go:125", after := #[{ on := 0, ground := Go.Ground.data }], guard := none }) (v := .pointer (some ⟨H, 0, none⟩)) rfl (by kernel_rfl) (by kernel_rfl) (by kernel_rfl) (by kernel_rfl) (fun _ _ _ h => h) (Or.inl ⟨by rfl, ?_⟩) hS0 ?_
    · intro W9 hS9
      obtain ⟨q0, q1, q2⟩ := hS9
      clear q0 q1 q2
      go_simp
    try simp only [Act.put, List.setIfInBounds_toArray, List.set_cons_zero, List.set_cons_succ]
    refine wpAnyL_take (i := 2) (oi := { dst := some 16, op := Go.Op.fieldAddr 95 (Go.Operand.tmp 15) 0, type := 0, pos := "hand.go:125", after := #[{ on := 1, ground := Go.Ground.data }], guard := none }) (v := .pointer (some ⟨H, 0, none⟩)) rfl (by kernel_rfl) (by kernel_rfl) (by kernel_rfl) (by kernel_rfl) (fun _ _ _ h => h) (Or.inl ⟨by rfl, ?_⟩) hS0 ?_
    · intro W9 hS9
      obtain ⟨q0, q1, q2⟩ := hS9
      clear q0 q1 q2
      go_simp
    try simp only [Act.put, List.setIfInBounds_toArray, List.set_cons_zero, List.set_cons_succ]
    refine wpAnyL_take (i := 3) (oi := { dst := some 17, op := Go.Op.fieldAddr 79 (Go.Operand.tmp 16) 0, type := 0, pos := "hand.go:125", after := #[{ on := 2, ground := Go.Ground.data }], guard := none }) (v := .pointer (some ⟨H, 0, none⟩)) rfl (by kernel_rfl) (by kernel_rfl) (by kernel_rfl) (by kernel_rfl) (fun _ _ _ h => h) (Or.inl ⟨by rfl, ?_⟩) hS0 ?_
    · intro W9 hS9
      obtain ⟨q0, q1, q2⟩ := hS9
      clear q0 q1 q2
      go_simp
    try simp only [Act.put, List.setIfInBounds_toArray, List.set_cons_zero, List.set_cons_succ]
    refine wpAnyL_take (i := 4) (oi := { dst := some 18, op := Go.Op.fieldAddr 29 (Go.Operand.tmp 17) 2, type := 0, pos := "hand.go:125", after := #[{ on := 3, ground := Go.Ground.data }], guard := none }) (v := .pointer (some ⟨H, 2, none⟩)) rfl (by kernel_rfl) (by kernel_rfl) (by kernel_rfl) (by kernel_rfl) (fun _ _ _ h => h) (Or.inl ⟨by rfl, ?_⟩) hS0 ?_
    · intro W9 hS9
      obtain ⟨q0, q1, q2⟩ := hS9
      clear q0 q1 q2
      go_simp
    try simp only [Act.put, List.setIfInBounds_toArray, List.set_cons_zero, List.set_cons_succ]
    refine wpAnyL_take (i := 5) (oi := { dst := some 19, op := Go.Op.load 26 (Go.Operand.tmp 18), type := 26, pos := "hand.go:125", after := #[{ on := 4, ground := Go.Ground.data }], guard := none }) (v := .slice (some ⟨gh, 0, none⟩) hn9 hc) rfl (by kernel_rfl) (by kernel_rfl) (by kernel_rfl) (by kernel_rfl) (fun _ _ _ h => h) (Or.inl ⟨by rfl, ?_⟩) hS0 ?_
    · intro W9 hS9
      obtain ⟨q0, q1, q2⟩ := hS9
      have s0 : W9.cell? ⟨H, 2, none⟩ = some (.slice (some ⟨gh, 0, none⟩) hn9 hc) := q0.cell 2
      clear q0 q1 q2
      go_simp
    try simp only [Act.put, List.setIfInBounds_toArray, List.set_cons_zero, List.set_cons_succ]
    refine wpAnyL_take (i := 6) (oi := { dst := some 20, op := Go.Op.move (Go.Operand.tmp 1), type := 3, pos := "hand.go:125", after := #[], guard := none }) (v := .int .i64 (g : Nat)) rfl (by kernel_rfl) (by kernel_rfl) (by kernel_rfl) (by kernel_rfl) (fun _ _ _ h => h) (Or.inl ⟨by rfl, ?_⟩) hS0 ?_
    · intro W9 hS9
      obtain ⟨q0, q1, q2⟩ := hS9
      clear q0 q1 q2
      go_simp
    try simp only [Act.put, List.setIfInBounds_toArray, List.set_cons_zero, List.set_cons_succ]
    refine wpAnyL_take (i := 7) (oi := { dst := some 21, op := Go.Op.move (Go.Operand.tmp 0), type := 117, pos := "hand.go:125", after := #[], guard := none }) (v := .pointer (some ⟨H, 0, none⟩)) rfl (by kernel_rfl) (by kernel_rfl) (by kernel_rfl) (by kernel_rfl) (fun _ _ _ h => h) (Or.inl ⟨by rfl, ?_⟩) hS0 ?_
    · intro W9 hS9
      obtain ⟨q0, q1, q2⟩ := hS9
      clear q0 q1 q2
      go_simp
    try simp only [Act.put, List.setIfInBounds_toArray, List.set_cons_zero, List.set_cons_succ]
    refine wpAnyL_take (i := 8) (oi := { dst := some 22, op := Go.Op.nilCheck (Go.Operand.tmp 21), type := 0, pos := "hand.go:125", after := #[{ on := 7, ground := Go.Ground.data }], guard := none }) (v := .pointer (some ⟨H, 0, none⟩)) rfl (by kernel_rfl) (by kernel_rfl) (by kernel_rfl) (by kernel_rfl) (fun _ _ _ h => h) (Or.inl ⟨by rfl, ?_⟩) hS0 ?_
    · intro W9 hS9
      obtain ⟨q0, q1, q2⟩ := hS9
      clear q0 q1 q2
      go_simp
    try simp only [Act.put, List.setIfInBounds_toArray, List.set_cons_zero, List.set_cons_succ]
    refine wpAnyL_take (i := 9) (oi := { dst := some 23, op := Go.Op.fieldAddr 95 (Go.Operand.tmp 22) 0, type := 0, pos := "hand.go:125", after := #[{ on := 8, ground := Go.Ground.data }], guard := none }) (v := .pointer (some ⟨H, 0, none⟩)) rfl (by kernel_rfl) (by kernel_rfl) (by kernel_rfl) (by kernel_rfl) (fun _ _ _ h => h) (Or.inl ⟨by rfl, ?_⟩) hS0 ?_
    · intro W9 hS9
      obtain ⟨q0, q1, q2⟩ := hS9
      clear q0 q1 q2
      go_simp
    try simp only [Act.put, List.setIfInBounds_toArray, List.set_cons_zero, List.set_cons_succ]
    refine wpAnyL_take (i := 10) (oi := { dst := some 24, op := Go.Op.fieldAddr 79 (Go.Operand.tmp 23) 0, type := 0, pos := "hand.go:125", after := #[{ on := 9, ground := Go.Ground.data }], guard := none }) (v := .pointer (some ⟨H, 0, none⟩)) rfl (by kernel_rfl) (by kernel_rfl) (by kernel_rfl) (by kernel_rfl) (fun _ _ _ h => h) (Or.inl ⟨by rfl, ?_⟩) hS0 ?_
    · intro W9 hS9
      obtain ⟨q0, q1, q2⟩ := hS9
      clear q0 q1 q2
      go_simp
    try simp only [Act.put, List.setIfInBounds_toArray, List.set_cons_zero, List.set_cons_succ]
    refine wpAnyL_take (i := 11) (oi := { dst := some 25, op := Go.Op.fieldAddr 29 (Go.Operand.tmp 24) 2, type := 0, pos := "hand.go:125", after := #[{ on := 10, ground := Go.Ground.data }], guard := none }) (v := .pointer (some ⟨H, 2, none⟩)) rfl (by kernel_rfl) (by kernel_rfl) (by kernel_rfl) (by kernel_rfl) (fun _ _ _ h => h) (Or.inl ⟨by rfl, ?_⟩) hS0 ?_
    · intro W9 hS9
      obtain ⟨q0, q1, q2⟩ := hS9
      clear q0 q1 q2
      go_simp
    try simp only [Act.put, List.setIfInBounds_toArray, List.set_cons_zero, List.set_cons_succ]
    refine wpAnyL_take (i := 12) (oi := { dst := some 26, op := Go.Op.load 26 (Go.Operand.tmp 25), type := 26, pos := "hand.go:125", after := #[{ on := 11, ground := Go.Ground.data }], guard := none }) (v := .slice (some ⟨gh, 0, none⟩) hn9 hc) rfl (by kernel_rfl) (by kernel_rfl) (by kernel_rfl) (by kernel_rfl) (fun _ _ _ h => h) (Or.inl ⟨by rfl, ?_⟩) hS0 ?_
    · intro W9 hS9
      obtain ⟨q0, q1, q2⟩ := hS9
      have s0 : W9.cell? ⟨H, 2, none⟩ = some (.slice (some ⟨gh, 0, none⟩) hn9 hc) := q0.cell 2
      clear q0 q1 q2
      go_simp
    try simp only [Act.put, List.setIfInBounds_toArray, List.set_cons_zero, List.set_cons_succ]
    refine wpAnyL_take (i := 13) (oi := { dst := some 27, op := Go.Op.move (Go.Operand.tmp 1), type := 3, pos := "hand.go:125", after := #[], guard := none }) (v := .int .i64 (g : Nat)) rfl (by kernel_rfl) (by kernel_rfl) (by kernel_rfl) (by kernel_rfl) (fun _ _ _ h => h) (Or.inl ⟨by rfl, ?_⟩) hS0 ?_
    · intro W9 hS9
      obtain ⟨q0, q1, q2⟩ := hS9
      clear q0 q1 q2
      go_simp
    try simp only [Act.put, List.setIfInBounds_toArray, List.set_cons_zero, List.set_cons_succ]
    refine wpAnyL_take (i := 14) (oi := { dst := some 28, op := Go.Op.indexAddr 26 (Go.Operand.tmp 26) (Go.Operand.tmp 27), type := 0, pos := "hand.go:125", after := #[{ on := 12, ground := Go.Ground.data }, { on := 13, ground := Go.Ground.data }], guard := none }) (v := .pointer (some ⟨gh, g, none⟩)) rfl (by kernel_rfl) (by kernel_rfl) (by kernel_rfl) (by kernel_rfl) (fun _ _ _ h => h) (Or.inl ⟨by rfl, ?_⟩) hS0 ?_
    · intro W9 hS9
      obtain ⟨q0, q1, q2⟩ := hS9
      clear q0 q1 q2
      go_simp
    try simp only [Act.put, List.setIfInBounds_toArray, List.set_cons_zero, List.set_cons_succ]
    refine wpAnyL_take (i := 15) (oi := { dst := some 29, op := Go.Op.load 62 (Go.Operand.tmp 28), type := 62, pos := "hand.go:125", after := #[{ on := 14, ground := Go.Ground.data }], guard := none }) (v := .slice qa qn qc) rfl (by kernel_rfl) (by kernel_rfl) (by kernel_rfl) (by kernel_rfl) (fun _ _ _ h => h) (Or.inl ⟨by rfl, ?_⟩) hS0 ?_
    · intro W9 hS9
      obtain ⟨q0, q1, q2⟩ := hS9
      have s0 := q2
      clear q0 q1 q2
      go_simp
    try simp only [Act.put, List.setIfInBounds_toArray, List.set_cons_zero, List.set_cons_succ]
    refine wpAnyL_take (i := 16) (oi := { dst := some 30, op := Go.Op.load 38 (Go.Operand.tmp 5), type := 38, pos := "hand.go:125", after := #[], guard := none }) (v := .agg #[.int .i64 e0, .int .u64 (e1 : Nat)]) rfl (by kernel_rfl) (by kernel_rfl) (by kernel_rfl) (by kernel_rfl) (fun _ _ _ h => h) (Or.inl ⟨by rfl, ?_⟩) hS0 ?_
    · intro W9 hS9
      obtain ⟨q0, q1, q2⟩ := hS9
      have s0 : W9.cell? ⟨w.heap.size, 0, none⟩ = some (.int .i64 e0) := q1.cell 0
      have s1 : W9.cell? ⟨w.heap.size, 1, none⟩ = some (.int .u64 (e1 : Nat)) := q1.cell 1
      clear q0 q1 q2
      go_simp
    try simp only [Act.put, List.setIfInBounds_toArray, List.set_cons_zero, List.set_cons_succ]
    refine wpAnyL_one (i := 17) (o := { dst := some 31, op := Go.Op.buildSlice 62 1 #[(0, Go.Operand.tmp 30)], type := 62, pos := "hand.go:125", after := #[{ on := 16, ground := Go.Ground.data }], guard := none }) (by kernel_rfl) rfl (fun K hK => ?_)
    refine step_value_g (by rfl) (.slice (some ⟨Wd.heap.size, 0, none⟩) 1 1) (w' := (Wd.alloc (.cells #[.int .i64 e0, .int .u64 (e1 : Nat)] 38))) (by go_simp) ?_
    have hal : Below Wd.heap.size Wd (Wd.alloc (.cells #[.int .i64 e0, .int .u64 (e1 : Nat)] 38)) := Rows8.newB
    have hlit := lit_atM Wd e0 e1
    have hS1 : Rows8 (Wd.alloc (.cells #[.int .i64 e0, .int .u64 (e1 : Nat)] 38)) H 95 #[.slice sa sn sc, .slice pa pn pc, .slice (some ⟨gh, 0, none⟩) hn9 hc, .slice ba bn bc, .slice ta tn tc] ∧ Rows8 (Wd.alloc (.cells #[.int .i64 e0, .int .u64 (e1 : Nat)] 38)) w.heap.size 38 #[.int .i64 e0, .int .u64 (e1 : Nat)] ∧ (Wd.alloc (.cells #[.int .i64 e0, .int .u64 (e1 : Nat)] 38)).cell? ⟨gh, g, none⟩ = some (.slice qa qn qc) := ⟨hS0.1.below hal hS0.1.lt, hS0.2.1.below hal hS0.2.1.lt, (hal.cell (p := ⟨gh, g, none⟩) RH2.out.lt).trans hS0.2.2⟩
    have HX3 := Lib.hid (HX2.out.below hal)
    have HB3 := Lib.hid (HB2.out.trans (hal.mono (Nat.le_trans hn0 HB2.out.size)))
    have HK3 := Lib.hid (HK2.out.trans (Kf.of_below (T := tM) hal))
    have RH3 := Lib.hid (RH2.out.below hal RH2.out.lt)
    have HLIT := Lib.hid hlit
    have HW3 := Lib.hid (HW2.out.trans (hal.mono HW2.out.size))
    have HSZ := Lib.hid (show w.heap.size ≤ Wd.heap.size from HSW.out Wd HB2.out)
    clear hal hlit HX2 HB2 HK2 RH2
    refine hK.out _ _ (fun _ => hS1) ?_
    clear hK K
    try simp only [Act.put, List.setIfInBounds_toArray, List.set_cons_zero, List.set_cons_succ]
    generalize hal9 : (Wd.alloc (.cells #[.int .i64 e0, .int .u64 (e1 : Nat)] 38)) = W3 at *
    clear hal9
    refine wpAnyL_one (i := 18) (o := { dst := some 32, op := Go.Op.call { callee := Go.Callee.builtin Go.Builtin.append, args := #[Go.Operand.tmp 29, Go.Operand.tmp 31], argTypes := #[62, 62] }, type := 62, pos := "hand.go:125", after := #[{ on := 15, ground := Go.Ground.data }, { on := 17, ground := Go.Ground.data }], guard := none }) (by kernel_rfl) rfl (fun K hK => ?_)
    obtain ⟨q9, eq9, oq9⟩ := HX3.out.o.h.el g hgh
    have hq9 : q9 = .slice qa qn qc := by
      have h1 := own_get HX3.out.o.h.row g hgh
      rw [eq9] at h1
      have h2 := hS1.2.2
      rw [h1] at h2
      injection h2
    subst hq9
    have HOQ := Lib.hid oq9
    have HEQ := Lib.hid eq9
    refine step_append_row _ rfl _ _ 62 rfl n₀ 38 i0 (.agg #[.int .i64 0, .int .u64 0]) 2 16 Try.underlying62 hi hz0 hz1 hz2 rfl (by decide) (.slice qa qn qc) qn (pVals m.has[g]) (by simp [go_sem]) (by have h := HOQ.out; unfold OwnsP at h; rw [← HQN.out] at h; exact h) (.slice (some ⟨Wd.heap.size, 0, none⟩) 1 1) 1 [.int .i64 e0, .int .u64 (e1 : Nat)] (by simp [go_sem]) HLIT.out (by simp [Value.oneCell']) (by unfold maxLen; omega) (by omega) (Nat.le_trans hn0 (Nat.le_trans HSZ0.out HB3.out.size)) ?_
    intro v4 w4 hown hgr hbl
    have ho4 : OwnsP 38 n₀ (m.has[g] ++ [(e0, e1)]) v4 w4 := by
      unfold OwnsP
      rw [pVals_snoc, List.length_append, ← HQN.out]
      exact hown
    obtain ⟨va, vc, hv4⟩ := ho4.form
    obtain ⟨vn, hvn⟩ : ∃ k, k = (m.has[g] ++ [(e0, e1)]).length := ⟨_, rfl⟩
    rw [← hvn] at hv4
    subst hv4
    have hpush := (HX3.out.pushHas (gh := gh) rfl RH3.out HHN.out g hgh _ _ _ HEQ.out hgr (hbl.imp id id) ho4).1
    have HPU := Lib.hid hpush
    have HKP4 := Lib.hid (fun (B : Nat) (cs : Array Value) (r : Rows8 w B 38 cs) (hne : ∀ i q, i < m.has.length → vs[i]? = some q → q.ownBlock ≠ some B) => (show Rows8 w4 B 38 cs from (hgr.block B (r.below HW3.out r.lt).lt (fun e => hne g _ hgh HEQ.out e.symm)).trans (r.below HW3.out r.lt)))
    have RH4 := Lib.hid (grown_rows HOQ.out (by decide) hgr RH3.out)
    have HB4 := Lib.hid (HB3.out.grown hgr (Nat.le_trans hn0 (Nat.le_trans HSZ0.out HB3.out.size)) (fun j ej => (World.ownsRow.lt HOQ.out j ej).1))
    have HK4 := Lib.hid (HK3.out.trans (kf_grown (by decide) HOQ.out hgr))
    have hS2 : Rows8 w4 H 95 #[.slice sa sn sc, .slice pa pn pc, .slice (some ⟨gh, 0, none⟩) hn9 hc, .slice ba bn bc, .slice ta tn tc] ∧ Rows8 w4 w.heap.size 38 #[.int .i64 e0, .int .u64 (e1 : Nat)] ∧ w4.cell? ⟨gh, g, none⟩ = some (.slice qa qn qc) := ⟨grown_rows HOQ.out (by decide) hgr hS1.1, (hgr.block w.heap.size hS1.2.1.lt (fun e => by have := HQB.out _ e.symm; omega)).trans hS1.2.1, by
      have h := grown_rows HOQ.out (by decide) hgr RH3.out
      rw [h.cell, ← RH3.out.cell]
      exact hS1.2.2⟩
    clear hown hgr hbl ho4 hpush hvn
    refine hK.out _ _ (fun _ => hS2) ?_
    clear hK K
    try simp only [Act.put, List.setIfInBounds_toArray, List.set_cons_zero, List.set_cons_succ]
    refine wpAnyL_takeP (i := 19) (oi := { dst := some 33, op := Go.Op.indexAddr 26 (Go.Operand.tmp 19) (Go.Operand.tmp 20), type := 0, pos := "hand.go:125", after := #[{ on := 5, ground := Go.Ground.data }, { on := 6, ground := Go.Ground.data }, { on := 0, ground := Go.Ground.phase }, { on := 1, ground := Go.Ground.phase }, { on := 2, ground := Go.Ground.phase }, { on := 3, ground := Go.Ground.phase }, { on := 4, ground := Go.Ground.phase }, { on := 5, ground := Go.Ground.phase }, { on := 6, ground := Go.Ground.phase }, { on := 7, ground := Go.Ground.phase }, { on := 8, ground := Go.Ground.phase }, { on := 9, ground := Go.Ground.phase }, { on := 10, ground := Go.Ground.phase }, { on := 11, ground := Go.Ground.phase }, { on := 12, ground := Go.Ground.phase }, { on := 13, ground := Go.Ground.phase }, { on := 14, ground := Go.Ground.phase }, { on := 15, ground := Go.Ground.phase }, { on := 16, ground := Go.Ground.phase }, { on := 17, ground := Go.Ground.phase }, { on := 18, ground := Go.Ground.phase }], guard := none }) (v := .pointer (some ⟨gh, g, none⟩)) rfl (by kernel_rfl) (by kernel_rfl) (by kernel_rfl) (by kernel_rfl) (fun _ _ _ h => h) (Or.inl ⟨by rfl, ?_⟩) ?_
    · intro W9 _
      go_simp
    try simp only [Act.put, List.setIfInBounds_toArray, List.set_cons_zero, List.set_cons_succ]
    refine wpAnyL_one (i := 20) (o := { dst := none, op := Go.Op.store 62 (Go.Operand.tmp 33) (Go.Operand.tmp 32), type := 0, pos := "hand.go:125", after := #[{ on := 19, ground := Go.Ground.data }, { on := 18, ground := Go.Ground.data }, { on := 18, ground := Go.Ground.chain }, { on := 0, ground := Go.Ground.phase }, { on := 1, ground := Go.Ground.phase }, { on := 2, ground := Go.Ground.phase }, { on := 3, ground := Go.Ground.phase }, { on := 4, ground := Go.Ground.phase }, { on := 5, ground := Go.Ground.phase }, { on := 6, ground := Go.Ground.phase }, { on := 7, ground := Go.Ground.phase }, { on := 8, ground := Go.Ground.phase }, { on := 9, ground := Go.Ground.phase }, { on := 10, ground := Go.Ground.phase }, { on := 11, ground := Go.Ground.phase }, { on := 12, ground := Go.Ground.phase }, { on := 13, ground := Go.Ground.phase }, { on := 14, ground := Go.Ground.phase }, { on := 15, ground := Go.Ground.phase }, { on := 16, ground := Go.Ground.phase }, { on := 17, ground := Go.Ground.phase }, { on := 18, ground := Go.Ground.phase }], guard := none }) (by kernel_rfl) rfl (fun K hK => ?_)
    have cK : w4.cell? ⟨gh, g, none⟩ = some (.slice qa qn qc) := hS2.2.2
    have fK := RH4.out.frozen g
    refine step_skip_g (by rfl) (w' := w4.setCell ⟨gh, g, none⟩ (.slice va vn vc)) (by go_simp) ?_
    have HB5 := Lib.hid (HB4.out.setCell (p := ⟨gh, g, none⟩) HGH.out (.slice va vn vc))
    have HK5 := Lib.hid (HK4.out.trans (Kf.set (T := tM) (t := 62) (by decide) w4 (a := ⟨gh, g, none⟩) RH4.out (.slice va vn vc)))
    have HKP5 := Lib.hid (fun (B : Nat) (cs : Array Value) (r : Rows8 w B 38 cs) (hne : ∀ i q, i < m.has.length → vs[i]? = some q → q.ownBlock ≠ some B) => (HKP4.out B cs r hne).setOther (a := ⟨gh, g, none⟩) (fun e => rows_apart (HKP4.out B cs r hne) RH4.out (by decide) e.symm) (.slice va vn vc))
    clear cK fK
    refine hK.out _ _ (fun h => absurd h (by decide)) ?_
    clear hK K
    try simp only [Act.put, List.setIfInBounds_toArray, List.set_cons_zero, List.set_cons_succ]
    refine wpAnyL_end (by kernel_rfl) ?_
    go_wp2_with fail
    go_end0
    exact ⟨rfl, by rw [HM9.out]; exact ⟨_, _, HPU.out⟩, HB5.out, HK5.out, HKP5.out⟩
theorem Try.add_any (H n₀ : Nat) (m : Mn) (tk : List Pr) (g : Nat) (e : Pr) (w : World) (h : Hd H n₀ m tk w) (hk : okM m) (hgh : g < m.has.length) (hn0 : n₀ ≤ w.heap.size) :
    Calls Try.prog 94 #[.pointer (some ⟨H, 0, none⟩), .int .i64 (g : Nat), .agg #[.int .i64 e.1, .int .u64 (e.2 : Nat)]] w fun r w' => r = .returned (.tuple #[]) ∧ Hd H n₀ (addM m (g : Nat) e) tk w' ∧ Below n₀ w w' ∧ Kf tM w w' := by
  obtain ⟨x, ta, tn, tc, vs, h⟩ := h
  exact (Try.add_anyX H n₀ x ta tn tc vs m tk g e w h hk hgh hn0).mono fun r w' ⟨h1, ⟨x', vs', h2⟩, h3, h4, _⟩ => ⟨h1, ⟨_, _, _, _, _, h2⟩, h3, h4⟩
end Go.Proofs
