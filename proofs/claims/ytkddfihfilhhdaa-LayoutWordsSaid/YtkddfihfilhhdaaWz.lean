/- Layout: own of LayoutWords and LayoutDirs. -/
import Derived.Test.YtkddfihfilhhdaaWy
import Derived.Test.YtkddfihfilhhdaaRw
namespace Go.Proofs
set_option maxRecDepth 100000
open Go.RowKit Go.Shelf
attribute [local go_sem] Oper.semAt_some

structure OwC (k0 T RR : Nat) (d : Int) (a : Option Addr) (n c : Nat) (l : List Pr) (W0 W : World) : Prop where
  rt : Rows8 W T 64 #[.int .i64 d, .slice a n c]
  rr : Rows8 W RR 64 #[.int .i64 0, .slice none 0 0]
  pa : PAt W (.slice a n c) l
  bl : Below W0.heap.size W0 W
theorem OwC.below {k0 T RR : Nat} {d : Int} {a : Option Addr} {n c : Nat} {l : List Pr} {W0 A B : World} (h : OwC k0 T RR d a n c l W0 A) (hB : Below A.heap.size A B) : OwC k0 T RR d a n c l W0 B :=
  ⟨h.rt.below hB h.rt.lt, h.rr.below hB h.rr.lt, PAt.below h.pa hB, h.bl.trans (hB.mono h.bl.size)⟩
def owF (k0 T : Nat) (d : Int) (a : Option Addr) (n c m : Nat) (l : List Pr) (j : Nat) (x : Value) (W : World) : Prop :=
  match j with
  | 0 => x = .pointer (some ⟨T, 0, none⟩)
  | 1 => x = .int .i64 d
  | 2 => x = .pointer (some ⟨T, 1, none⟩)
  | 3 => x = .slice a n c
  | 4 => x = .pointer (some ⟨T, 1, none⟩)
  | 5 => x = .slice a n c
  | 6 => x = .int .i64 (n : Nat)
  | 7 => x = .int .i64 (m : Nat)
  | 8 => x = .slice a m c
  | 9 => ∃ (b : Option Addr) (n' c' : Nat), x = .slice b n' c' ∧ OwnsP 36 k0 (l.take 40) (.slice b n' c') W
  | 10 => ∃ (b : Option Addr) (n' c' : Nat), x = .agg #[.int .i64 d, .slice b n' c'] ∧ OwnsP 36 k0 (l.take 40) (.slice b n' c') W
  | _ => True
theorem owF_st {k0 T : Nat} {d : Int} {a : Option Addr} {n c m : Nat} {l : List Pr} {j : Nat} {x : Value} {W W' : World} (h : owF k0 T d a n c m l j x W) (hR : Below W.heap.size W W') : owF k0 T d a n c m l j x W' :=
  match j, h with
  | 0, h => h
  | 1, h => h
  | 2, h => h
  | 3, h => h
  | 4, h => h
  | 5, h => h
  | 6, h => h
  | 7, h => h
  | 8, h => h
  | 9, ⟨b, n', c', e, h⟩ => ⟨b, n', c', e, OwnsP.below h hR (Nat.le_refl _)⟩
  | 10, ⟨b, n', c', e, h⟩ => ⟨b, n', c', e, OwnsP.below h hR (Nat.le_refl _)⟩
  | _ + 11, _ => trivial
set_option maxHeartbeats 64000000 in
theorem Try.own_r1 {s0 t3 t4 t5 t6 t7 t8 t9 t10 t11 t12 t13 : Value} (k0 T RR : Nat) (d : Int) (a : Option Addr) (n c m : Nat) (l : List Pr) (W0 : World) (Q : Exit → Act → World → Prop)
    (hk0 : Hid (k0 ≤ W0.heap.size)) (hRR : Hid (W0.heap.size ≤ RR)) (hmn : Hid (m ≤ n)) (hnc : Hid (n ≤ c)) (hreach : Hid (c ≤ 9223372036854775807)) (hm40 : Hid (m ≤ 40)) (hml : Hid (m = (l.take 40).length)) (htk : Hid (l.take m = l.take 40))
    (hmi : Hid (min (n : Int) 40 = (m : Int))) (hmi2 : Hid ((if (n : Int) ≤ 40 then (n : Int) else 40) = (m : Int))) (hmi3 : Hid ((if (n : Int) < 40 then (n : Int) else 40) = (m : Int))) (hmi4 : Hid ((if (40 : Int) < (n : Int) then (40 : Int) else (n : Int)) = (m : Int)))
    (w : World) (HBS : Hid (OwC k0 T RR d a n c l W0 w))
    (HK : Hid (∀ (b : Option Addr) (n' c' : Nat) (z : Nat → Value) (W : World), Below W0.heap.size W0 W → Rows8 W RR 64 #[.int .i64 d, .slice b n' c'] → OwnsP 36 k0 (l.take 40) (.slice b n' c') W → Q .normal ⟨(s0 :: .pointer (some ⟨T, 0, none⟩) :: .pointer (some ⟨RR, 0, none⟩) :: z 0 :: z 1 :: z 2 :: z 3 :: z 4 :: z 5 :: z 6 :: z 7 :: z 8 :: z 9 :: z 10 :: []).toArray, []⟩ W)) :
    (Code.region 1 #[{ dst := some 3, op := Go.Op.fieldAddr 64 (Go.Operand.tmp 1) 0, type := 0, pos := "law.go:108", after := #[], guard := none }, { dst := some 4, op := Go.Op.load 3 (Go.Operand.tmp 3), type := 3, pos := "law.go:108", after := #[{ on := 0, ground := Go.Ground.data }], guard := none }, { dst := some 5, op := Go.Op.fieldAddr 64 (Go.Operand.tmp 1) 1, type := 0, pos := "law.go:108", after := #[], guard := none }, { dst := some 6, op := Go.Op.load 23 (Go.Operand.tmp 5), type := 23, pos := "law.go:108", after := #[{ on := 2, ground := Go.Ground.data }], guard := none }, { dst := some 7, op := Go.Op.fieldAddr 64 (Go.Operand.tmp 1) 1, type := 0, pos := "law.go:108", after := #[], guard := none }, { dst := some 8, op := Go.Op.load 23 (Go.Operand.tmp 7), type := 23, pos := "law.go:108", after := #[{ on := 4, ground := Go.Ground.data }], guard := none }, { dst := some 9, op := Go.Op.call { callee := Go.Callee.builtin Go.Builtin.len, args := #[Go.Operand.tmp 8], argTypes := #[23] }, type := 3, pos := "law.go:108", after := #[{ on := 5, ground := Go.Ground.data }], guard := none }, { dst := some 10, op := Go.Op.call { callee := Go.Callee.builtin Go.Builtin.min, args := #[Go.Operand.tmp 9, Go.Operand.const (Go.Value.int Go.IntKind.i64 40)], argTypes := #[3, 3] }, type := 3, pos := "law.go:108", after := #[{ on := 6, ground := Go.Ground.data }], guard := none }, { dst := some 11, op := Go.Op.slice 23 (Go.Operand.tmp 6) none (some (Go.Operand.tmp 10)) none, type := 23, pos := "law.go:108", after := #[{ on := 3, ground := Go.Ground.data }, { on := 7, ground := Go.Ground.data }], guard := none }, { dst := some 12, op := Go.Op.call { callee := Go.Callee.value (Go.Operand.func 60), args := #[Go.Operand.tmp 11], argTypes := #[23] }, type := 23, pos := "law.go:108", after := #[{ on := 8, ground := Go.Ground.data }], guard := none }, { dst := some 13, op := Go.Op.build 64 #[(0, Go.Operand.tmp 4), (1, Go.Operand.tmp 12)], type := 64, pos := "law.go:108", after := #[{ on := 1, ground := Go.Ground.data }, { on := 9, ground := Go.Ground.data }], guard := none }, { dst := none, op := Go.Op.store 64 (Go.Operand.tmp 2) (Go.Operand.tmp 13), type := 0, pos := "law.go:108", after := #[{ on := 10, ground := Go.Ground.data }, { on := 9, ground := Go.Ground.chain }, { on := 0, ground := Go.Ground.phase }, { on := 1, ground := Go.Ground.phase }, { on := 2, ground := Go.Ground.phase }, { on := 3, ground := Go.Ground.phase }, { on := 4, ground := Go.Ground.phase }, { on := 5, ground := Go.Ground.phase }, { on := 6, ground := Go.Ground.phase }, { on := 7, ground := Go.Ground.phase }, { on := 8, ground := Go.Ground.phase }, { on := 9, ground := Go.Ground.phase }, { on := 10, ground := Go.Ground.phase }], guard := none }] true).wp Try.prog Q ⟨(s0 :: .pointer (some ⟨T, 0, none⟩) :: .pointer (some ⟨RR, 0, none⟩) :: t3 :: t4 :: t5 :: t6 :: t7 :: t8 :: t9 :: t10 :: t11 :: t12 :: t13 :: []).toArray, []⟩ w := by
  refine wp_region_facts (fun v => ⟨(s0 :: .pointer (some ⟨T, 0, none⟩) :: .pointer (some ⟨RR, 0, none⟩) :: v 0 :: v 1 :: v 2 :: v 3 :: v 4 :: v 5 :: v 6 :: v 7 :: v 8 :: v 9 :: v 10 :: []).toArray, []⟩) (owF k0 T d a n c m l) (fun W W' => Below W.heap.size W W') (OwC k0 T RR d a n c l W0) (fun j => decide (j ≤ 10)) (fun j => decide (j ≤ 10)) (fun j => ([t3, t4, t5, t6, t7, t8, t9, t10, t11, t12, t13] : List Value).getD j undef) (by kernel_rfl) (HBS.out.below (Below.refl _ _).drew) (fun j x W W' h hR => owF_st h hR) (fun W W' h hR => h.below hR) (by kernel_rfl) ?_ ?_
  · intro j o hA ho v W hB hF K hK a' ha
    have hj : j ≤ 10 := of_decide_eq_true hA
    clear hA HBS
    obtain rfl : a' = ⟨(s0 :: .pointer (some ⟨T, 0, none⟩) :: .pointer (some ⟨RR, 0, none⟩) :: v 0 :: v 1 :: v 2 :: v 3 :: v 4 :: v 5 :: v 6 :: v 7 :: v 8 :: v 9 :: v 10 :: []).toArray, []⟩ := ha
    obtain rfl | rfl | rfl | rfl | rfl | rfl | rfl | rfl | rfl | rfl | rfl : j = 0 ∨ j = 1 ∨ j = 2 ∨ j = 3 ∨ j = 4 ∨ j = 5 ∨ j = 6 ∨ j = 7 ∨ j = 8 ∨ j = 9 ∨ j = 10 := by omega
    · obtain rfl : { dst := some 3, op := Go.Op.fieldAddr 64 (Go.Operand.tmp 1) 0, type := 0, pos := "law.go:108", after := #[], guard := none } = o := Option.some.inj ((rfl : some _ = _).trans ho)
      clear ho
      refine step_value_g (by rfl) (.pointer (some ⟨T, 0, none⟩)) (w' := W) (by go_simp) ?_
      try simp only [Act.put, List.setIfInBounds_toArray, List.set_cons_zero, List.set_cons_succ]
      exact hK.out _ W (Below.refl _ W) rfl
    · obtain rfl : { dst := some 4, op := Go.Op.load 3 (Go.Operand.tmp 3), type := 3, pos := "law.go:108", after := #[{ on := 0, ground := Go.Ground.data }], guard := none } = o := Option.some.inj ((rfl : some _ = _).trans ho)
      clear ho
      have e0 : owF k0 T d a n c m l 0 (v 0) W := hF { on := 0, ground := Go.Ground.data } (by simp) rfl
      have e0 : v 0 = .pointer (some ⟨T, 0, none⟩) := e0
      have s0 : W.cell? ⟨T, 0, none⟩ = some (.int .i64 d) := hB.rt.cell 0
      refine step_value_g (by rfl) (.int .i64 d) (w' := W) (by go_simp) ?_
      try simp only [Act.put, List.setIfInBounds_toArray, List.set_cons_zero, List.set_cons_succ]
      exact hK.out _ W (Below.refl _ W) rfl
    · obtain rfl : { dst := some 5, op := Go.Op.fieldAddr 64 (Go.Operand.tmp 1) 1, type := 0, pos := "law.go:108", after := #[], guard := none } = o := Option.some.inj ((rfl : some _ = _).trans ho)
      clear ho
      refine step_value_g (by rfl) (.pointer (some ⟨T, 1, none⟩)) (w' := W) (by go_simp) ?_
      try simp only [Act.put, List.setIfInBounds_toArray, List.set_cons_zero, List.set_cons_succ]
      exact hK.out _ W (Below.refl _ W) rfl
    · obtain rfl : { dst := some 6, op := Go.Op.load 23 (Go.Operand.tmp 5), type := 23, pos := "law.go:108", after := #[{ on := 2, ground := Go.Ground.data }], guard := none } = o := Option.some.inj ((rfl : some _ = _).trans ho)
      clear ho
      have e0 : owF k0 T d a n c m l 2 (v 2) W := hF { on := 2, ground := Go.Ground.data } (by simp) rfl
      have e0 : v 2 = .pointer (some ⟨T, 1, none⟩) := e0
      have s0 : W.cell? ⟨T, 1, none⟩ = some (.slice a n c) := hB.rt.cell 1
      refine step_value_g (by rfl) (.slice a n c) (w' := W) (by go_simp) ?_
      try simp only [Act.put, List.setIfInBounds_toArray, List.set_cons_zero, List.set_cons_succ]
      exact hK.out _ W (Below.refl _ W) rfl
    · obtain rfl : { dst := some 7, op := Go.Op.fieldAddr 64 (Go.Operand.tmp 1) 1, type := 0, pos := "law.go:108", after := #[], guard := none } = o := Option.some.inj ((rfl : some _ = _).trans ho)
      clear ho
      refine step_value_g (by rfl) (.pointer (some ⟨T, 1, none⟩)) (w' := W) (by go_simp) ?_
      try simp only [Act.put, List.setIfInBounds_toArray, List.set_cons_zero, List.set_cons_succ]
      exact hK.out _ W (Below.refl _ W) rfl
    · obtain rfl : { dst := some 8, op := Go.Op.load 23 (Go.Operand.tmp 7), type := 23, pos := "law.go:108", after := #[{ on := 4, ground := Go.Ground.data }], guard := none } = o := Option.some.inj ((rfl : some _ = _).trans ho)
      clear ho
      have e0 : owF k0 T d a n c m l 4 (v 4) W := hF { on := 4, ground := Go.Ground.data } (by simp) rfl
      have e0 : v 4 = .pointer (some ⟨T, 1, none⟩) := e0
      have s0 : W.cell? ⟨T, 1, none⟩ = some (.slice a n c) := hB.rt.cell 1
      refine step_value_g (by rfl) (.slice a n c) (w' := W) (by go_simp) ?_
      try simp only [Act.put, List.setIfInBounds_toArray, List.set_cons_zero, List.set_cons_succ]
      exact hK.out _ W (Below.refl _ W) rfl
    · obtain rfl : { dst := some 9, op := Go.Op.call { callee := Go.Callee.builtin Go.Builtin.len, args := #[Go.Operand.tmp 8], argTypes := #[23] }, type := 3, pos := "law.go:108", after := #[{ on := 5, ground := Go.Ground.data }], guard := none } = o := Option.some.inj ((rfl : some _ = _).trans ho)
      clear ho
      have e0 : owF k0 T d a n c m l 5 (v 5) W := hF { on := 5, ground := Go.Ground.data } (by simp) rfl
      have e0 : v 5 = .slice a n c := e0
      refine step_value_g (by rfl) (.int .i64 (n : Nat)) (w' := W) (by go_simp) ?_
      try simp only [Act.put, List.setIfInBounds_toArray, List.set_cons_zero, List.set_cons_succ]
      exact hK.out _ W (Below.refl _ W) rfl
    · obtain rfl : { dst := some 10, op := Go.Op.call { callee := Go.Callee.builtin Go.Builtin.min, args := #[Go.Operand.tmp 9, Go.Operand.const (Go.Value.int Go.IntKind.i64 40)], argTypes := #[3, 3] }, type := 3, pos := "law.go:108", after := #[{ on := 6, ground := Go.Ground.data }], guard := none } = o := Option.some.inj ((rfl : some _ = _).trans ho)
      clear ho
      have e0 : owF k0 T d a n c m l 6 (v 6) W := hF { on := 6, ground := Go.Ground.data } (by simp) rfl
      have e0 : v 6 = .int .i64 (n : Nat) := e0
      have hmi := hmi.out
      have hmi2 := hmi2.out
      have hmi3 := hmi3.out
      have hmi4 := hmi4.out
      refine step_value_g (by rfl) (.int .i64 (m : Nat)) (w' := W) (by go_simp) ?_
      try simp only [Act.put, List.setIfInBounds_toArray, List.set_cons_zero, List.set_cons_succ]
      exact hK.out _ W (Below.refl _ W) rfl
    · obtain rfl : { dst := some 11, op := Go.Op.slice 23 (Go.Operand.tmp 6) none (some (Go.Operand.tmp 10)) none, type := 23, pos := "law.go:108", after := #[{ on := 3, ground := Go.Ground.data }, { on := 7, ground := Go.Ground.data }], guard := none } = o := Option.some.inj ((rfl : some _ = _).trans ho)
      clear ho
      have e0 : owF k0 T d a n c m l 3 (v 3) W := hF { on := 3, ground := Go.Ground.data } (by simp) rfl
      have e1 : owF k0 T d a n c m l 7 (v 7) W := hF { on := 7, ground := Go.Ground.data } (by simp) rfl
      have e0 : v 3 = .slice a n c := e0
      have e1 : v 7 = .int .i64 (m : Nat) := e1
      have hmn := hmn.out
      have hnc := hnc.out
      have hreach := hreach.out
      refine step_value_g (by rfl) (.slice a m c) (w' := W) (by go_simp; intro hx; exfalso; omega) ?_
      try simp only [Act.put, List.setIfInBounds_toArray, List.set_cons_zero, List.set_cons_succ]
      exact hK.out _ W (Below.refl _ W) rfl
    · obtain rfl : { dst := some 12, op := Go.Op.call { callee := Go.Callee.value (Go.Operand.func 60), args := #[Go.Operand.tmp 11], argTypes := #[23] }, type := 23, pos := "law.go:108", after := #[{ on := 8, ground := Go.Ground.data }], guard := none } = o := Option.some.inj ((rfl : some _ = _).trans ho)
      clear ho
      have e0 : owF k0 T d a n c m l 8 (v 8) W := hF { on := 8, ground := Go.Ground.data } (by simp) rfl
      have e0 : v 8 = .slice a m c := e0
      refine step_call_g (by rfl) 60 _ _ rfl (fun _ _ => by kernel_rfl) #[.slice a m c] (by simp [go_sem, e0]) _ (Try.cloneEntry_any a m c (l.take 40) hml.out (by have := hm40.out; omega) W (htk.out ▸ pAt_cut hB.pa m hmn.out)) ?_
      rintro e W' ⟨b, c', rfl, hO, hC⟩
      refine ⟨_, rfl, ?_⟩
      try simp only [Act.put, List.setIfInBounds_toArray, List.set_cons_zero, List.set_cons_succ]
      exact hK.out _ W' hC ⟨b, m, c', rfl, OwnsP.mono hO (Nat.le_trans hk0.out hB.bl.size)⟩
    · obtain rfl : { dst := some 13, op := Go.Op.build 64 #[(0, Go.Operand.tmp 4), (1, Go.Operand.tmp 12)], type := 64, pos := "law.go:108", after := #[{ on := 1, ground := Go.Ground.data }, { on := 9, ground := Go.Ground.data }], guard := none } = o := Option.some.inj ((rfl : some _ = _).trans ho)
      clear ho
      have e1 : owF k0 T d a n c m l 1 (v 1) W := hF { on := 1, ground := Go.Ground.data } (by simp) rfl
      have e9 : owF k0 T d a n c m l 9 (v 9) W := hF { on := 9, ground := Go.Ground.data } (by simp) rfl
      have e1 : v 1 = .int .i64 d := e1
      obtain ⟨b, n', c', e9, h9⟩ := e9
      refine step_value_g (by rfl) (.agg #[.int .i64 d, .slice b n' c']) (w' := W) (by go_simp) ?_
      try simp only [Act.put, List.setIfInBounds_toArray, List.set_cons_zero, List.set_cons_succ]
      exact hK.out _ W (Below.refl _ W) ⟨b, n', c', rfl, h9⟩
  · intro b v W hB hC hA
    obtain ⟨bb, n', c', e10, h9⟩ : owF k0 T d a n c m l 10 (v 10) W := hC 10 (by show (10 : Nat) < 12; decide) rfl
    obtain ⟨hl, hs⟩ := lst_agree (n := 12) (C := (fun j => decide (j ≤ 10))) (A := (fun j => decide (j ≤ 10))) (b := b) (b' := fun _ => true) (fun j hj hc ha => by rw [hc] at ha; cases ha)
    refine (show wpAny _ _ _ _ (leftOf 12 (fun j => decide (j ≤ 10)) (fun j => decide (j ≤ 10)) b) (lstOf 12 (fun j => decide (j ≤ 10)) (fun j => decide (j ≤ 10)) b) ⟨(s0 :: .pointer (some ⟨T, 0, none⟩) :: .pointer (some ⟨RR, 0, none⟩) :: v 0 :: v 1 :: v 2 :: v 3 :: v 4 :: v 5 :: v 6 :: v 7 :: v 8 :: v 9 :: v 10 :: []).toArray, []⟩ W from ?_)
    rw [hl.trans (by kernel_rfl : _ = 1), hs.trans (by kernel_rfl : _ = #[true, true, true, true, true, true, true, true, true, true, true, false])]
    refine wpAny_of_L (S := fun _ => True) (X := 0) _ _ _ _ ?_
    clear hl hs hA hC
    refine wpAnyL_one (i := 11) (o := { dst := none, op := Go.Op.store 64 (Go.Operand.tmp 2) (Go.Operand.tmp 13), type := 0, pos := "law.go:108", after := #[{ on := 10, ground := Go.Ground.data }, { on := 9, ground := Go.Ground.chain }, { on := 0, ground := Go.Ground.phase }, { on := 1, ground := Go.Ground.phase }, { on := 2, ground := Go.Ground.phase }, { on := 3, ground := Go.Ground.phase }, { on := 4, ground := Go.Ground.phase }, { on := 5, ground := Go.Ground.phase }, { on := 6, ground := Go.Ground.phase }, { on := 7, ground := Go.Ground.phase }, { on := 8, ground := Go.Ground.phase }, { on := 9, ground := Go.Ground.phase }, { on := 10, ground := Go.Ground.phase }], guard := none }) (by kernel_rfl) rfl (fun K hK => ?_)
    have ck0 : W.cell? ⟨RR, 0, none⟩ = some (.int .i64 0) := hB.rr.cell 0
    have ck1 : W.cell? ⟨RR, 1, none⟩ = some (.slice none 0 0) := hB.rr.cell 1
    have fk0 := hB.rr.frozen 0
    have fk1 := hB.rr.frozen 1
    have hlt := hB.rr.lt
    refine step_skip_g (by rfl) (w' := ((W.setCell ⟨RR, 0, none⟩ (.int .i64 d)).setCell ⟨RR, 1, none⟩ (.slice bb n' c'))) (by go_simp) ?_
    clear ck0 ck1 fk0 fk1 hlt
    have r1 := hB.rr.set 0 (.int .i64 d)
    have o1 := h9.setNe (a := ⟨RR, 0, none⟩) hB.rr (by decide) (.int .i64 d)
    have o2 := o1.setNe (a := ⟨RR, 1, none⟩) r1 (by decide) (.slice bb n' c')
    have r2 := r1.set 1 (.slice bb n' c')
    simp only [List.setIfInBounds_toArray, List.set_cons_zero, List.set_cons_succ] at r2
    have b2 := (hB.bl.setCell (p := ⟨RR, 0, none⟩) hRR.out (.int .i64 d)).setCell (p := ⟨RR, 1, none⟩) hRR.out (.slice bb n' c')
    refine hK.out _ _ (fun _ => trivial) ?_
    clear hK K
    try simp only [Act.put, List.setIfInBounds_toArray, List.set_cons_zero, List.set_cons_succ]
    refine wpAnyL_end (by kernel_rfl) ?_
    exact HK.out bb n' c' v _ b2 r2 o2
set_option maxHeartbeats 4000000 in
theorem Try.own_any (d : Int) (a : Option Addr) (n c : Nat) (l : List Pr) (w : World) (hI : PAt w (.slice a n c) l) :
    Calls Try.prog 28 #[.agg #[.int .i64 d, .slice a n c]] w fun e w' => ∃ b n' c', e = .returned (.agg #[.int .i64 d, .slice b n' c']) ∧ OwnsP 36 w.heap.size (l.take 40) (.slice b n' c') w' ∧ Below w.heap.size w w' := by
  obtain ⟨hlen, hnc, hcm⟩ := pAt_len hI
  have hreach : c ≤ 9223372036854775807 := by unfold maxLen at hcm; omega
  have hB0 : Below w.heap.size w ((w.alloc (.cells #[.int .i64 d, .slice a n c] 64)).alloc (.cells #[.int .i64 0, .slice none 0 0] 64)) := (Rows8.newB).alloc (by simp) _
  have hA0 := (Rows8.new w 64 #[.int .i64 d, .slice a n c]).alloc (.cells #[.int .i64 0, .slice none 0 0] 64)
  have hR0 := Rows8.new (w.alloc (.cells #[.int .i64 d, .slice a n c] 64)) 64 #[.int .i64 0, .slice none 0 0]
  rw [World.size_alloc] at hR0
  obtain ⟨m, hm⟩ : ∃ m, m = min n 40 := ⟨_, rfl⟩
  have hmn : m ≤ n := by omega
  have hm40 : m ≤ 40 := by omega
  have htk : l.take m = l.take 40 := by
    rcases Nat.le_total n 40 with h | h
    · rw [List.take_of_length_le (by omega), List.take_of_length_le (by omega)]
    · rw [show m = 40 by omega]
  have hml : m = (l.take 40).length := by rw [List.length_take]; omega
  have HC : Hid (OwC w.heap.size w.heap.size (w.heap.size + 1) d a n c l w ((w.alloc (.cells #[.int .i64 d, .slice a n c] 64)).alloc (.cells #[.int .i64 0, .slice none 0 0] 64))) := Lib.hid ⟨hA0, hR0, PAt.below hI hB0, hB0⟩
  have hmi : Hid (min (n : Int) 40 = (m : Int)) := Lib.hid (by omega)
  have hmi2 : Hid ((if (n : Int) ≤ 40 then (n : Int) else 40) = (m : Int)) := Lib.hid (by split <;> omega)
  have hmi3 : Hid ((if (n : Int) < 40 then (n : Int) else 40) = (m : Int)) := Lib.hid (by split <;> omega)
  have hmi4 : Hid ((if (40 : Int) < (n : Int) then (40 : Int) else (n : Int)) = (m : Int)) := Lib.hid (by split <;> omega)
  have hmn := Lib.hid hmn
  have hnc := Lib.hid hnc
  have hreach := Lib.hid hreach
  have hm40 := Lib.hid hm40
  have htk := Lib.hid htk
  have hml := Lib.hid hml
  clear hB0 hA0 hR0 hI hlen hm hcm
  go_enter Try.func28, Try.ntmps28
  go_upto_region 1 with fail
  refine Try.own_r1 w.heap.size w.heap.size (w.heap.size + 1) d a n c m l w _ (Lib.hid (Nat.le_refl _)) (Lib.hid (by omega)) hmn hnc hreach hm40 hml htk hmi hmi2 hmi3 hmi4 _ HC (Lib.hid ?_)
  intro b n' c' z W hB hr hO
  clear HC hmn hnc hreach hm40 htk hml hmi hmi2 hmi3 hmi4
  have R2 := Lib.hid hr
  have O2 := Lib.hid hO
  have B2 := Lib.hid hB
  clear hr hO hB
  go_wp2_with fail
  refine bodyPost_ret (results_c rfl _ _ (w.heap.size + 1) 64 _ (0, 0) _ rfl R2.out Try.underlying64 rfl (by kernel_rfl)) rfl ?_
  exact ⟨b, n', c', rfl, O2.out, B2.out⟩
end Go.Proofs
