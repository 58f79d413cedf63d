/- Limbo: the reference: Retire. -/
import Derived.Test.YtghnfiegihfdnaaDoorLta
import Derived.Test.YtghnfiegihfdnaaDoorLsc
namespace Go.Proofs
set_option maxRecDepth 100000
open Go.RowKit Go.Shelf
attribute [local go_sem] Oper.semAt_some

theorem tryRet {E : Nat} {r : Rw3} (hr : rightL E r = true) (p : Pr) : (okE p = false → tryL E r (retN E r p) = (2, 0, fun _ => [])) ∧ (okE p = true → hasS (heldL E r) p.1 = true → tryL E r (retN E r p) = (5, 0, fun _ => [])) ∧ (okE p = true → hasS (heldL E r) p.1 = false → tryL E r (retN E r p) = (0, E, updL r (E % 3) (r (E % 3) ++ [p]))) := by
  refine ⟨fun h => ?_, fun h h2 => ?_, fun h h2 => ?_⟩
  · unfold tryL retN
    rw [hr, if_pos rfl, if_pos h]
    rfl
  · have h3 : ¬ okE p = false := by rw [h]; decide
    rw [← whenL_some] at h2
    unfold tryL retN
    rw [hr, if_pos rfl, if_neg h3, if_pos h2]
    rfl
  · have h3 : ¬ okE p = false := by rw [h]; decide
    rw [← whenL_some] at h2
    have h4 : ¬ (whenL E r p.1).isSome = true := by rw [h2]; decide
    unfold tryL retN
    rw [hr, if_pos rfl, if_neg h3, if_neg h4, if_pos rfl]
theorem row_lit {W : World} {g : Nat} {p : Pr} (h : Rows8 W g 38 #[.int .i64 p.1, .int .u64 (p.2 : Nat)]) : PAt W (.slice (some ⟨g, 0, none⟩) 1 1) [p] := by
  refine ⟨pVals_length [p], _, 1, rfl, Nat.le_refl _, by unfold maxLen; omega, (fun e => by cases e), fun j hj => ⟨g, 0, rfl, h.lt, ?_⟩⟩
  rw [Nat.zero_add, Rows8.cell h j]
  simp [pVals, pCells]
set_option maxHeartbeats 64000000 in
theorem Tryd.ret_r5 {s0 s1 s5 s6 s7 s8 s9 s10 s11 s12 s13 s14 s15 s16 s17 s18 s19 s20 s21 s22 s23 s24 : Value} (w W0 : World) (E : Nat) (s : Ls) (r : Rw3) (p : Pr) (Q : Exit → Act → World → Prop) (HK : Hid (Rows8 W0 w.heap.size 26 #[.int .u64 (E : Nat), .slice (s.a 0) (s.n 0) (s.c 0), .slice (s.a 1) (s.n 1) (s.c 1), .slice (s.a 2) (s.n 2) (s.c 2)])) (HP : Hid (Rows8 W0 (w.heap.size + 1) 38 #[.int .i64 p.1, .int .u64 (p.2 : Nat)])) (HZ : Hid (Rows8 W0 (w.heap.size + 1 + 1) 26 #[.int .u64 0, .slice none 0 0, .slice none 0 0, .slice none 0 0])) (HI0 : Hid (LAt w s r)) (HB : Hid (Below w.heap.size w W0)) (HE : Hid (E ≤ 4611686018427387904)) (HLO : Hid ((ofL E r 0).length ≤ 1000))
    (HK5 : Hid (∀ (X : World) (s' : Ls) (a5 : Option Addr) (n5 c5 : Nat) (z16 z17 z18 z19 z20 z21 z22 z23 z24 : Value), Rows8 X (w.heap.size + 1 + 1) 26 #[.int .u64 (E : Nat), .slice (s'.a 0) (s'.n 0) (s'.c 0), .slice (s'.a 1) (s'.n 1) (s'.c 1), .slice (s'.a 2) (s'.n 2) (s'.c 2)] → s' = s.upd ((E - 0) % 3) a5 n5 c5 → OwnsP tE W0.drew.heap.size (([] : List Pr) ++ ofL E r 0 ++ [p]) (.slice a5 n5 c5) X → Below w.heap.size w X → Q .normal ⟨(s0 :: s1 :: .pointer (some ⟨w.heap.size, 0, none⟩) :: .pointer (some ⟨w.heap.size + 1, 0, none⟩) :: .pointer (some ⟨w.heap.size + 1 + 1, 0, none⟩) :: .int .i64 0 :: s6 :: s7 :: s8 :: s9 :: s10 :: s11 :: s12 :: s13 :: s14 :: s15 :: z16 :: z17 :: z18 :: z19 :: z20 :: z21 :: z22 :: z23 :: z24 :: []).toArray, []⟩ X)) (hQp : ∀ (c : List PanicEntry) (d : Option Tmp) (v : Value) (a : Act) (w : World), Q (.panic c) (a.put d v) w → Q (.panic c) a w) :
    (Code.region 5 #[{ dst := some 16, op := Go.Op.load 26 (Go.Operand.tmp 2), type := 26, pos := "ref.go:79", after := #[], guard := none }, { dst := some 17, op := Go.Op.buildSlice 23 0 #[], type := 23, pos := "ref.go:79", after := #[], guard := none }, { dst := some 18, op := Go.Op.load 26 (Go.Operand.tmp 2), type := 26, pos := "ref.go:79", after := #[], guard := none }, { dst := some 19, op := Go.Op.call { callee := Go.Callee.value (Go.Operand.func 13), args := #[Go.Operand.tmp 18, Go.Operand.const (Go.Value.int Go.IntKind.u64 0)], argTypes := #[26, 22] }, type := 23, pos := "ref.go:79", after := #[{ on := 2, ground := Go.Ground.data }], guard := none }, { dst := some 20, op := Go.Op.call { callee := Go.Callee.builtin Go.Builtin.append, args := #[Go.Operand.tmp 17, Go.Operand.tmp 19], argTypes := #[23, 23] }, type := 23, pos := "ref.go:79", after := #[{ on := 1, ground := Go.Ground.data }, { on := 3, ground := Go.Ground.data }, { on := 3, ground := Go.Ground.chain }], guard := none }, { dst := some 21, op := Go.Op.load 38 (Go.Operand.tmp 3), type := 38, pos := "ref.go:79", after := #[], guard := none }, { dst := some 22, op := Go.Op.buildSlice 23 1 #[(0, Go.Operand.tmp 21)], type := 23, pos := "ref.go:79", after := #[{ on := 5, ground := Go.Ground.data }], guard := none }, { dst := some 23, op := Go.Op.call { callee := Go.Callee.builtin Go.Builtin.append, args := #[Go.Operand.tmp 20, Go.Operand.tmp 22], argTypes := #[23, 23] }, type := 23, pos := "ref.go:79", after := #[{ on := 4, ground := Go.Ground.data }, { on := 6, ground := Go.Ground.data }, { on := 4, ground := Go.Ground.chain }], guard := none }, { dst := some 24, op := Go.Op.call { callee := Go.Callee.value (Go.Operand.func 46), args := #[Go.Operand.tmp 16, Go.Operand.const (Go.Value.int Go.IntKind.u64 0), Go.Operand.tmp 23], argTypes := #[26, 22, 23] }, type := 26, pos := "ref.go:79", after := #[{ on := 0, ground := Go.Ground.data }, { on := 7, ground := Go.Ground.data }, { on := 7, ground := Go.Ground.chain }], guard := none }, { dst := none, op := Go.Op.store 26 (Go.Operand.tmp 4) (Go.Operand.tmp 24), type := 0, pos := "ref.go:79", after := #[{ on := 8, ground := Go.Ground.data }, { on := 8, ground := Go.Ground.chain }, { on := 0, ground := Go.Ground.phase }, { on := 1, ground := Go.Ground.phase }, { on := 2, ground := Go.Ground.phase }, { on := 3, ground := Go.Ground.phase }, { on := 4, ground := Go.Ground.phase }, { on := 5, ground := Go.Ground.phase }, { on := 6, ground := Go.Ground.phase }, { on := 7, ground := Go.Ground.phase }, { on := 8, ground := Go.Ground.phase }], guard := none }, { dst := some 5, op := Go.Op.assign (Go.Operand.const (Go.Value.int Go.IntKind.i64 0)), type := 31, pos := "ref.go:79", after := #[{ on := 9, ground := Go.Ground.chain }, { on := 0, ground := Go.Ground.phase }, { on := 1, ground := Go.Ground.phase }, { on := 2, ground := Go.Ground.phase }, { on := 3, ground := Go.Ground.phase }, { on := 4, ground := Go.Ground.phase }, { on := 5, ground := Go.Ground.phase }, { on := 6, ground := Go.Ground.phase }, { on := 7, ground := Go.Ground.phase }, { on := 8, ground := Go.Ground.phase }, { on := 9, ground := Go.Ground.phase }], guard := none }] true).wp Tryd.prog Q ⟨(s0 :: s1 :: .pointer (some ⟨w.heap.size, 0, none⟩) :: .pointer (some ⟨w.heap.size + 1, 0, none⟩) :: .pointer (some ⟨w.heap.size + 1 + 1, 0, none⟩) :: s5 :: s6 :: s7 :: s8 :: s9 :: s10 :: s11 :: s12 :: s13 :: s14 :: s15 :: s16 :: s17 :: s18 :: s19 :: s20 :: s21 :: s22 :: s23 :: s24 :: []).toArray, []⟩ W0 := by
  refine wp_region_L (fun W' => Rows8 W' w.heap.size 26 #[.int .u64 (E : Nat), .slice (s.a 0) (s.n 0) (s.c 0), .slice (s.a 1) (s.n 1) (s.c 1), .slice (s.a 2) (s.n 2) (s.c 2)] ∧ Rows8 W' (w.heap.size + 1) 38 #[.int .i64 p.1, .int .u64 (p.2 : Nat)]) 9 (by kernel_rfl) ?_
  have hS0 : Rows8 W0.drew w.heap.size 26 #[.int .u64 (E : Nat), .slice (s.a 0) (s.n 0) (s.c 0), .slice (s.a 1) (s.n 1) (s.c 1), .slice (s.a 2) (s.n 2) (s.c 2)] ∧ Rows8 W0.drew (w.heap.size + 1) 38 #[.int .i64 p.1, .int .u64 (p.2 : Nat)] := ⟨HK.out.drewA, HP.out.drewA⟩
  have HZ : Hid (Rows8 W0.drew (w.heap.size + 1 + 1) 26 #[.int .u64 0, .slice none 0 0, .slice none 0 0, .slice none 0 0]) := Lib.hid HZ.out.drewA
  have HB : Hid (Below w.heap.size w W0.drew) := Lib.hid HB.out.drew
  clear HK HP
  have HK5 := HK5
  generalize W0.drew = V0 at *
  have HSZ := Lib.hid (Nat.le_refl V0.heap.size)
  have HWB := Lib.hid HB.out.size
  have HPL := Lib.hid hS0.2.lt
  have HQL := Lib.hid HZ.out.lt
  refine wpAnyL_takeT (i := 0) (oi := { dst := some 16, op := Go.Op.load 26 (Go.Operand.tmp 2), type := 26, pos := "ref.go:79", after := #[], guard := none }) (v := .agg #[.int .u64 (E : Nat), .slice (s.a 0) (s.n 0) (s.c 0), .slice (s.a 1) (s.n 1) (s.c 1), .slice (s.a 2) (s.n 2) (s.c 2)]) [8, 9, 10] rfl (by kernel_rfl) (by kernel_rfl) (by kernel_rfl) (by kernel_rfl) (fun _ _ _ h => hQp _ _ _ _ _ h) (Or.inl ⟨by rfl, ?_⟩) hS0 ?_
  · intro W9 hS9
    obtain ⟨q0, q1⟩ := hS9
    have k0 : W9.cell? ⟨w.heap.size, 0, none⟩ = some (.int .u64 (E : Nat)) := q0.cell 0
    have k1 : W9.cell? ⟨w.heap.size, 1, none⟩ = some (.slice (s.a 0) (s.n 0) (s.c 0)) := q0.cell 1
    have k2 : W9.cell? ⟨w.heap.size, 2, none⟩ = some (.slice (s.a 1) (s.n 1) (s.c 1)) := q0.cell 2
    have k3 : W9.cell? ⟨w.heap.size, 3, none⟩ = some (.slice (s.a 2) (s.n 2) (s.c 2)) := q0.cell 3
    clear q0 q1
    go_simp
  try simp only [Act.put, List.setIfInBounds_toArray, List.set_cons_zero, List.set_cons_succ]
  refine wpAnyL_takeT (i := 2) (oi := { dst := some 18, op := Go.Op.load 26 (Go.Operand.tmp 2), type := 26, pos := "ref.go:79", after := #[], guard := none }) (v := .agg #[.int .u64 (E : Nat), .slice (s.a 0) (s.n 0) (s.c 0), .slice (s.a 1) (s.n 1) (s.c 1), .slice (s.a 2) (s.n 2) (s.c 2)]) [3, 4, 7, 8, 9, 10] rfl (by kernel_rfl) (by kernel_rfl) (by kernel_rfl) (by kernel_rfl) (fun _ _ _ h => hQp _ _ _ _ _ h) (Or.inl ⟨by rfl, ?_⟩) hS0 ?_
  · intro W9 hS9
    obtain ⟨q0, q1⟩ := hS9
    have k0 : W9.cell? ⟨w.heap.size, 0, none⟩ = some (.int .u64 (E : Nat)) := q0.cell 0
    have k1 : W9.cell? ⟨w.heap.size, 1, none⟩ = some (.slice (s.a 0) (s.n 0) (s.c 0)) := q0.cell 1
    have k2 : W9.cell? ⟨w.heap.size, 2, none⟩ = some (.slice (s.a 1) (s.n 1) (s.c 1)) := q0.cell 2
    have k3 : W9.cell? ⟨w.heap.size, 3, none⟩ = some (.slice (s.a 2) (s.n 2) (s.c 2)) := q0.cell 3
    clear q0 q1
    go_simp
  try simp only [Act.put, List.setIfInBounds_toArray, List.set_cons_zero, List.set_cons_succ]
  refine wpAnyL_takeT (i := 5) (oi := { dst := some 21, op := Go.Op.load 38 (Go.Operand.tmp 3), type := 38, pos := "ref.go:79", after := #[], guard := none }) (v := .agg #[.int .i64 p.1, .int .u64 (p.2 : Nat)]) [6, 7, 8, 9, 10] rfl (by kernel_rfl) (by kernel_rfl) (by kernel_rfl) (by kernel_rfl) (fun _ _ _ h => hQp _ _ _ _ _ h) (Or.inl ⟨by rfl, ?_⟩) hS0 ?_
  · intro W9 hS9
    obtain ⟨q0, q1⟩ := hS9
    have s0 : W9.cell? ⟨w.heap.size + 1, 0, none⟩ = some (.int .i64 p.1) := q1.cell 0
    have s1 : W9.cell? ⟨w.heap.size + 1, 1, none⟩ = some (.int .u64 (p.2 : Nat)) := q1.cell 1
    clear q0 q1
    go_simp
  try simp only [Act.put, List.setIfInBounds_toArray, List.set_cons_zero, List.set_cons_succ]
  refine wpAnyL_three (i := 1) (j := 3) (k := 6) (oi := { dst := some 17, op := Go.Op.buildSlice 23 0 #[], type := 23, pos := "ref.go:79", after := #[], guard := none }) (oj := { dst := some 19, op := Go.Op.call { callee := Go.Callee.value (Go.Operand.func 13), args := #[Go.Operand.tmp 18, Go.Operand.const (Go.Value.int Go.IntKind.u64 0)], argTypes := #[26, 22] }, type := 23, pos := "ref.go:79", after := #[{ on := 2, ground := Go.Ground.data }], guard := none }) (ok := { dst := some 22, op := Go.Op.buildSlice 23 1 #[(0, Go.Operand.tmp 21)], type := 23, pos := "ref.go:79", after := #[{ on := 5, ground := Go.Ground.data }], guard := none }) (by kernel_rfl) rfl rfl rfl (fun K hK => ?_) (fun K hK => ?_) (fun K hK => ?_)
  · refine step_value_g (by rfl) (.slice (some ⟨V0.heap.size, 0, none⟩) 0 0) (w' := V0.alloc (.cells #[] 38)) (by go_simp) ?_
    have hC : Below V0.heap.size V0 (V0.alloc (.cells #[] 38)) := Rows8.newB
    have hO : OwnsP tE V0.heap.size [] (.slice (some ⟨V0.heap.size, 0, none⟩) 0 0) (V0.alloc (.cells #[] 38)) := World.ownsRow_lit V0 #[] 0 HSZ.out (by unfold maxLen; omega) rfl
    have HZ := Lib.hid (HZ.out.below hC HZ.out.lt)
    have HB := Lib.hid (HB.out.trans (hC.mono HB.out.size))
    have HSZ := Lib.hid (Nat.le_trans HSZ.out hC.size)
    have hS0 : Rows8 (V0.alloc (.cells #[] 38)) w.heap.size 26 #[.int .u64 (E : Nat), .slice (s.a 0) (s.n 0) (s.c 0), .slice (s.a 1) (s.n 1) (s.c 1), .slice (s.a 2) (s.n 2) (s.c 2)] ∧ Rows8 (V0.alloc (.cells #[] 38)) (w.heap.size + 1) 38 #[.int .i64 p.1, .int .u64 (p.2 : Nat)] := ⟨hS0.1.below hC hS0.1.lt, hS0.2.below hC hS0.2.lt⟩
    have HO := Lib.hid hO
    clear hC hO
    generalize V0.alloc (.cells #[] 38) = V1 at *
    refine hK.out _ _ (fun _ => hS0) ?_
    clear hK K
    try simp only [Act.put, List.setIfInBounds_toArray, List.set_cons_zero, List.set_cons_succ]
    refine wpAnyL_two (i := 3) (j := 6) (oi := { dst := some 19, op := Go.Op.call { callee := Go.Callee.value (Go.Operand.func 13), args := #[Go.Operand.tmp 18, Go.Operand.const (Go.Value.int Go.IntKind.u64 0)], argTypes := #[26, 22] }, type := 23, pos := "ref.go:79", after := #[{ on := 2, ground := Go.Ground.data }], guard := none }) (oj := { dst := some 22, op := Go.Op.buildSlice 23 1 #[(0, Go.Operand.tmp 21)], type := 23, pos := "ref.go:79", after := #[{ on := 5, ground := Go.Ground.data }], guard := none }) (by kernel_rfl) rfl rfl (fun K hK => ?_) (fun K hK => ?_)
    · refine step_call_g (by rfl) 13 _ _ rfl (fun _ _ => by kernel_rfl) #[.agg #[.int .u64 (E : Nat), .slice (s.a 0) (s.n 0) (s.c 0), .slice (s.a 1) (s.n 1) (s.c 1), .slice (s.a 2) (s.n 2) (s.c 2)], .int .u64 0] (by simp [go_sem]) _ (show Calls Tryd.prog 13 #[.agg #[.int .u64 (E : Nat), .slice (s.a 0) (s.n 0) (s.c 0), .slice (s.a 1) (s.n 1) (s.c 1), .slice (s.a 2) (s.n 2) (s.c 2)], .int .u64 0] V1 _ from Tryd.refOf_any E s 0 V1 (by have := HE.out; omega) (by decide)) ?_
      rintro e V2 ⟨rfl, hC⟩
      have HZ := Lib.hid (HZ.out.below hC HZ.out.lt)
      have HB := Lib.hid (HB.out.trans (hC.mono HB.out.size))
      have HSZ := Lib.hid (Nat.le_trans HSZ.out hC.size)
      have HO := Lib.hid (HO.out.below hC (Nat.le_refl _))
      have hS0 : Rows8 V2 w.heap.size 26 #[.int .u64 (E : Nat), .slice (s.a 0) (s.n 0) (s.c 0), .slice (s.a 1) (s.n 1) (s.c 1), .slice (s.a 2) (s.n 2) (s.c 2)] ∧ Rows8 V2 (w.heap.size + 1) 38 #[.int .i64 p.1, .int .u64 (p.2 : Nat)] := ⟨hS0.1.below hC hS0.1.lt, hS0.2.below hC hS0.2.lt⟩
      clear hC
      refine ⟨_, rfl, ?_⟩
      refine hK.out _ _ (fun _ => hS0) ?_
      clear hK K
      try simp only [Act.put, List.setIfInBounds_toArray, List.set_cons_zero, List.set_cons_succ]
      refine wpAnyL_two (i := 4) (j := 6) (oi := { dst := some 20, op := Go.Op.call { callee := Go.Callee.builtin Go.Builtin.append, args := #[Go.Operand.tmp 17, Go.Operand.tmp 19], argTypes := #[23, 23] }, type := 23, pos := "ref.go:79", after := #[{ on := 1, ground := Go.Ground.data }, { on := 3, ground := Go.Ground.data }, { on := 3, ground := Go.Ground.chain }], guard := none }) (oj := { dst := some 22, op := Go.Op.buildSlice 23 1 #[(0, Go.Operand.tmp 21)], type := 23, pos := "ref.go:79", after := #[{ on := 5, ground := Go.Ground.data }], guard := none }) (by kernel_rfl) rfl rfl (fun K hK => ?_) (fun K hK => ?_)
      · obtain ⟨v4, V3, hrun, ho5, hg5⟩ := Tryd.app_row V2 V0.heap.size 23 _ _ HO.out (ofV E s 0) (ofL E r 0) (ofV_at (HI0.out.below HB.out) E 0) (by have := HLO.out; simp only [List.length_nil]; omega) HSZ.out
        refine step_value_g (by rfl) v4 (w' := V3) (exec_append _ _ _ rfl _ _ _ rfl rfl hrun) ?_
        have hne1 := owns_not HO.out hS0.1 (by decide)
        have hne2 := owns_not HO.out HZ.out (by decide)
        have hgb := HO.out
        have hk5 : Rows8 V3 w.heap.size 26 #[.int .u64 (E : Nat), .slice (s.a 0) (s.n 0) (s.c 0), .slice (s.a 1) (s.n 1) (s.c 1), .slice (s.a 2) (s.n 2) (s.c 2)] := (hg5.block _ hS0.1.lt (fun e => hne1 e.symm)).trans hS0.1
        have hp5 : Rows8 V3 (w.heap.size + 1) 38 #[.int .i64 p.1, .int .u64 (p.2 : Nat)] := (hg5.block _ hS0.2.lt (fun e => by have h1 := (World.ownsRow.lt hgb _ e.symm).1; have h2 := HPL.out; omega)).trans hS0.2
        have hz5 : Rows8 V3 (w.heap.size + 1 + 1) 26 #[.int .u64 0, .slice none 0 0, .slice none 0 0, .slice none 0 0] := (hg5.block _ HZ.out.lt (fun e => hne2 e.symm)).trans HZ.out
        have HB := Lib.hid (HB.out.grown hg5 HB.out.size (fun j ej => Nat.le_trans HWB.out (World.ownsRow.lt hgb j ej).1))
        have HSZ := Lib.hid (Nat.le_trans HSZ.out hg5.size)
        have HZ := Lib.hid hz5
        have hS0 : Rows8 V3 w.heap.size 26 #[.int .u64 (E : Nat), .slice (s.a 0) (s.n 0) (s.c 0), .slice (s.a 1) (s.n 1) (s.c 1), .slice (s.a 2) (s.n 2) (s.c 2)] ∧ Rows8 V3 (w.heap.size + 1) 38 #[.int .i64 p.1, .int .u64 (p.2 : Nat)] := ⟨hk5, hp5⟩
        have HO := Lib.hid ho5
        clear hrun hg5 hne1 hne2 hgb hk5 hp5 hz5 ho5
        obtain ⟨a4, c4, rfl⟩ := HO.out.form
        refine hK.out _ _ (fun _ => hS0) ?_
        clear hK K
        try simp only [Act.put, List.setIfInBounds_toArray, List.set_cons_zero, List.set_cons_succ]
        refine wpAnyL_one (i := 6) (o := { dst := some 22, op := Go.Op.buildSlice 23 1 #[(0, Go.Operand.tmp 21)], type := 23, pos := "ref.go:79", after := #[{ on := 5, ground := Go.Ground.data }], guard := none }) (by kernel_rfl) rfl (fun K hK => ?_)
        refine step_value_g (by rfl) (.slice (some ⟨V3.heap.size, 0, none⟩) 1 1) (w' := V3.alloc (.cells #[.int .i64 p.1, .int .u64 (p.2 : Nat)] 38)) (by go_simp) ?_
        have hC : Below V3.heap.size V3 (V3.alloc (.cells #[.int .i64 p.1, .int .u64 (p.2 : Nat)] 38)) := Rows8.newB
        have hL : Rows8 (V3.alloc (.cells #[.int .i64 p.1, .int .u64 (p.2 : Nat)] 38)) V3.heap.size 38 #[.int .i64 p.1, .int .u64 (p.2 : Nat)] := Rows8.new _ _ _
        have HZ := Lib.hid (HZ.out.below hC HZ.out.lt)
        have HB := Lib.hid (HB.out.trans (hC.mono HB.out.size))
        have HSZ := Lib.hid (Nat.le_trans HSZ.out hC.size)
        have HO := Lib.hid (HO.out.below hC (Nat.le_refl _))
        have hS0 : Rows8 (V3.alloc (.cells #[.int .i64 p.1, .int .u64 (p.2 : Nat)] 38)) w.heap.size 26 #[.int .u64 (E : Nat), .slice (s.a 0) (s.n 0) (s.c 0), .slice (s.a 1) (s.n 1) (s.c 1), .slice (s.a 2) (s.n 2) (s.c 2)] ∧ Rows8 (V3.alloc (.cells #[.int .i64 p.1, .int .u64 (p.2 : Nat)] 38)) (w.heap.size + 1) 38 #[.int .i64 p.1, .int .u64 (p.2 : Nat)] := ⟨hS0.1.below hC hS0.1.lt, hS0.2.below hC hS0.2.lt⟩
        have L6 := Lib.hid hL
        clear hC hL
        obtain ⟨g6, hg6⟩ : ∃ g, g = V3.heap.size := ⟨_, rfl⟩
        rw [← hg6] at L6 ⊢
        clear hg6
        generalize V3.alloc (.cells #[.int .i64 p.1, .int .u64 (p.2 : Nat)] 38) = V4 at *
        refine hK.out _ _ (fun _ => hS0) ?_
        clear hK K
        try simp only [Act.put, List.setIfInBounds_toArray, List.set_cons_zero, List.set_cons_succ]
        refine wpAnyL_one (i := 7) (o := { dst := some 23, op := Go.Op.call { callee := Go.Callee.builtin Go.Builtin.append, args := #[Go.Operand.tmp 20, Go.Operand.tmp 22], argTypes := #[23, 23] }, type := 23, pos := "ref.go:79", after := #[{ on := 4, ground := Go.Ground.data }, { on := 6, ground := Go.Ground.data }, { on := 4, ground := Go.Ground.chain }], guard := none }) (by kernel_rfl) rfl (fun K hK => ?_)
        obtain ⟨v7, V5, hrun, ho5, hg5⟩ := Tryd.app_row V4 V0.heap.size 23 _ _ HO.out (.slice (some ⟨g6, 0, none⟩) 1 1) [p] (row_lit L6.out) (by have := HLO.out; simp; omega) HSZ.out
        refine step_value_g (by rfl) v7 (w' := V5) (exec_append _ _ _ rfl _ _ _ rfl rfl hrun) ?_
        have hne1 := owns_not HO.out hS0.1 (by decide)
        have hne2 := owns_not HO.out HZ.out (by decide)
        have hgb := HO.out
        have hk5 : Rows8 V5 w.heap.size 26 #[.int .u64 (E : Nat), .slice (s.a 0) (s.n 0) (s.c 0), .slice (s.a 1) (s.n 1) (s.c 1), .slice (s.a 2) (s.n 2) (s.c 2)] := (hg5.block _ hS0.1.lt (fun e => hne1 e.symm)).trans hS0.1
        have hp5 : Rows8 V5 (w.heap.size + 1) 38 #[.int .i64 p.1, .int .u64 (p.2 : Nat)] := (hg5.block _ hS0.2.lt (fun e => by have h1 := (World.ownsRow.lt hgb _ e.symm).1; have h2 := HPL.out; omega)).trans hS0.2
        have hz5 : Rows8 V5 (w.heap.size + 1 + 1) 26 #[.int .u64 0, .slice none 0 0, .slice none 0 0, .slice none 0 0] := (hg5.block _ HZ.out.lt (fun e => hne2 e.symm)).trans HZ.out
        have HB := Lib.hid (HB.out.grown hg5 HB.out.size (fun j ej => Nat.le_trans HWB.out (World.ownsRow.lt hgb j ej).1))
        have HSZ := Lib.hid (Nat.le_trans HSZ.out hg5.size)
        have HZ := Lib.hid hz5
        have hS0 : Rows8 V5 w.heap.size 26 #[.int .u64 (E : Nat), .slice (s.a 0) (s.n 0) (s.c 0), .slice (s.a 1) (s.n 1) (s.c 1), .slice (s.a 2) (s.n 2) (s.c 2)] ∧ Rows8 V5 (w.heap.size + 1) 38 #[.int .i64 p.1, .int .u64 (p.2 : Nat)] := ⟨hk5, hp5⟩
        have HO := Lib.hid ho5
        clear hrun hg5 hne1 hne2 hgb hk5 hp5 hz5 ho5
        obtain ⟨a5, c5, rfl⟩ := HO.out.form
        obtain ⟨n5, hn5⟩ : ∃ m, m = (([] : List Pr) ++ ofL E r 0 ++ [p]).length := ⟨_, rfl⟩
        rw [← hn5] at HO ⊢
        clear hn5 L6
        refine hK.out _ _ (fun _ => hS0) ?_
        clear hK K
        try simp only [Act.put, List.setIfInBounds_toArray, List.set_cons_zero, List.set_cons_succ]
        refine wpAnyL_one (i := 8) (o := { dst := some 24, op := Go.Op.call { callee := Go.Callee.value (Go.Operand.func 46), args := #[Go.Operand.tmp 16, Go.Operand.const (Go.Value.int Go.IntKind.u64 0), Go.Operand.tmp 23], argTypes := #[26, 22, 23] }, type := 26, pos := "ref.go:79", after := #[{ on := 0, ground := Go.Ground.data }, { on := 7, ground := Go.Ground.data }, { on := 7, ground := Go.Ground.chain }], guard := none }) (by kernel_rfl) rfl (fun K hK => ?_)
        have HWt := Tryd.with_any E s 0 a5 n5 c5 V5 (by have := HE.out; omega) (Nat.zero_le _)
        refine step_call_g (by rfl) 46 _ _ rfl (fun _ _ => by kernel_rfl) #[.agg #[.int .u64 (E : Nat), .slice (s.a 0) (s.n 0) (s.c 0), .slice (s.a 1) (s.n 1) (s.c 1), .slice (s.a 2) (s.n 2) (s.c 2)], .int .u64 0, .slice a5 n5 c5] (by simp [go_sem]) _ (show Calls Tryd.prog 46 #[.agg #[.int .u64 (E : Nat), .slice (s.a 0) (s.n 0) (s.c 0), .slice (s.a 1) (s.n 1) (s.c 1), .slice (s.a 2) (s.n 2) (s.c 2)], .int .u64 0, .slice a5 n5 c5] V5 _ from HWt) ?_
        rintro e V6 ⟨rfl, hC⟩
        have HZ := Lib.hid (HZ.out.below hC HZ.out.lt)
        have HB := Lib.hid (HB.out.trans (hC.mono HB.out.size))
        have HSZ := Lib.hid (Nat.le_trans HSZ.out hC.size)
        have HO := Lib.hid (HO.out.below hC (Nat.le_refl _))
        have hS0 : Rows8 V6 w.heap.size 26 #[.int .u64 (E : Nat), .slice (s.a 0) (s.n 0) (s.c 0), .slice (s.a 1) (s.n 1) (s.c 1), .slice (s.a 2) (s.n 2) (s.c 2)] ∧ Rows8 V6 (w.heap.size + 1) 38 #[.int .i64 p.1, .int .u64 (p.2 : Nat)] := ⟨hS0.1.below hC hS0.1.lt, hS0.2.below hC hS0.2.lt⟩
        obtain ⟨s', hs'⟩ : ∃ x, x = s.upd ((E - 0) % 3) a5 n5 c5 := ⟨_, rfl⟩
        rw [← hs'] at ⊢
        have HSS := Lib.hid hs'
        clear hC HWt hs'
        refine ⟨_, rfl, ?_⟩
        refine hK.out _ _ (fun _ => hS0) ?_
        clear hK K
        try simp only [Act.put, List.setIfInBounds_toArray, List.set_cons_zero, List.set_cons_succ]
        refine wpAnyL_one (i := 9) (o := { dst := none, op := Go.Op.store 26 (Go.Operand.tmp 4) (Go.Operand.tmp 24), type := 0, pos := "ref.go:79", after := #[{ on := 8, ground := Go.Ground.data }, { on := 8, ground := Go.Ground.chain }, { on := 0, ground := Go.Ground.phase }, { on := 1, ground := Go.Ground.phase }, { on := 2, ground := Go.Ground.phase }, { on := 3, ground := Go.Ground.phase }, { on := 4, ground := Go.Ground.phase }, { on := 5, ground := Go.Ground.phase }, { on := 6, ground := Go.Ground.phase }, { on := 7, ground := Go.Ground.phase }, { on := 8, ground := Go.Ground.phase }], guard := none }) (by kernel_rfl) rfl (fun K hK => ?_)
        have z0 : V6.cell? ⟨w.heap.size + 1 + 1, 0, none⟩ = some (.int .u64 0) := HZ.out.cell 0
        have f0 := HZ.out.frozen 0
        have z1 : V6.cell? ⟨w.heap.size + 1 + 1, 1, none⟩ = some (.slice none 0 0) := HZ.out.cell 1
        have f1 := HZ.out.frozen 1
        have z2 : V6.cell? ⟨w.heap.size + 1 + 1, 2, none⟩ = some (.slice none 0 0) := HZ.out.cell 2
        have f2 := HZ.out.frozen 2
        have z3 : V6.cell? ⟨w.heap.size + 1 + 1, 3, none⟩ = some (.slice none 0 0) := HZ.out.cell 3
        have f3 := HZ.out.frozen 3
        have ltz := HZ.out.lt
        refine step_skip_g (by rfl) (w' := ((((V6.setCell ⟨w.heap.size + 1 + 1, 0, none⟩ (.int .u64 (E : Nat))).setCell ⟨w.heap.size + 1 + 1, 1, none⟩ (.slice (s'.a 0) (s'.n 0) (s'.c 0))).setCell ⟨w.heap.size + 1 + 1, 2, none⟩ (.slice (s'.a 1) (s'.n 1) (s'.c 1))).setCell ⟨w.heap.size + 1 + 1, 3, none⟩ (.slice (s'.a 2) (s'.n 2) (s'.c 2)))) (by go_simp) ?_
        have HR := Lib.hid (rows4 HZ.out (.int .u64 (E : Nat)) (.slice (s'.a 0) (s'.n 0) (s'.c 0)) (.slice (s'.a 1) (s'.n 1) (s'.c 1)) (.slice (s'.a 2) (s'.n 2) (s'.c 2)))
        have HB3 := Lib.hid (below4 HB.out (B := w.heap.size + 1 + 1) (by show w.heap.size ≤ w.heap.size + 1 + 1; omega) (.int .u64 (E : Nat)) (.slice (s'.a 0) (s'.n 0) (s'.c 0)) (.slice (s'.a 1) (s'.n 1) (s'.c 1)) (.slice (s'.a 2) (s'.n 2) (s'.c 2)))
        have hq9 := HQL.out
        have HO9 := Lib.hid (show OwnsP tE V0.heap.size (([] : List Pr) ++ ofL E r 0 ++ [p]) (.slice a5 n5 c5) ((((V6.setCell ⟨w.heap.size + 1 + 1, 0, none⟩ (.int .u64 (E : Nat))).setCell ⟨w.heap.size + 1 + 1, 1, none⟩ (.slice (s'.a 0) (s'.n 0) (s'.c 0))).setCell ⟨w.heap.size + 1 + 1, 2, none⟩ (.slice (s'.a 1) (s'.n 1) (s'.c 1))).setCell ⟨w.heap.size + 1 + 1, 3, none⟩ (.slice (s'.a 2) (s'.n 2) (s'.c 2))) from (own_lowT (own_lowT (own_lowT (own_lowT HO.out (B := w.heap.size + 1 + 1) (by omega) 0 _) (B := w.heap.size + 1 + 1) (by omega) 1 _) (B := w.heap.size + 1 + 1) (by omega) 2 _) (B := w.heap.size + 1 + 1) (by omega) 3 _))
        clear z0 z1 z2 z3 f0 f1 f2 f3 ltz hq9
        generalize ((((V6.setCell ⟨w.heap.size + 1 + 1, 0, none⟩ (.int .u64 (E : Nat))).setCell ⟨w.heap.size + 1 + 1, 1, none⟩ (.slice (s'.a 0) (s'.n 0) (s'.c 0))).setCell ⟨w.heap.size + 1 + 1, 2, none⟩ (.slice (s'.a 1) (s'.n 1) (s'.c 1))).setCell ⟨w.heap.size + 1 + 1, 3, none⟩ (.slice (s'.a 2) (s'.n 2) (s'.c 2))) = X8 at *
        refine hK.out _ _ (fun h => absurd h (by decide)) ?_
        clear hK K
        try simp only [Act.put, List.setIfInBounds_toArray, List.set_cons_zero, List.set_cons_succ]
        refine wpAnyL_one (i := 10) (o := { dst := some 5, op := Go.Op.assign (Go.Operand.const (Go.Value.int Go.IntKind.i64 0)), type := 31, pos := "ref.go:79", after := #[{ on := 9, ground := Go.Ground.chain }, { on := 0, ground := Go.Ground.phase }, { on := 1, ground := Go.Ground.phase }, { on := 2, ground := Go.Ground.phase }, { on := 3, ground := Go.Ground.phase }, { on := 4, ground := Go.Ground.phase }, { on := 5, ground := Go.Ground.phase }, { on := 6, ground := Go.Ground.phase }, { on := 7, ground := Go.Ground.phase }, { on := 8, ground := Go.Ground.phase }, { on := 9, ground := Go.Ground.phase }], guard := none }) (by kernel_rfl) rfl (fun K hK => ?_)
        refine step_value_g (by rfl) (.int .i64 0) (w' := X8) (by go_simp) ?_
        refine hK.out _ _ (fun h => absurd h (by decide)) ?_
        clear hK K
        try simp only [Act.put, List.setIfInBounds_toArray, List.set_cons_zero, List.set_cons_succ]
        refine wpAnyL_end (by kernel_rfl) ?_
        exact HK5.out X8 s' a5 n5 c5 _ _ _ _ _ _ _ _ _ HR.out HSS.out HO9.out HB3.out
      · refine step_value_g (by rfl) (.slice (some ⟨V2.heap.size, 0, none⟩) 1 1) (w' := V2.alloc (.cells #[.int .i64 p.1, .int .u64 (p.2 : Nat)] 38)) (by go_simp) ?_
        have hC : Below V2.heap.size V2 (V2.alloc (.cells #[.int .i64 p.1, .int .u64 (p.2 : Nat)] 38)) := Rows8.newB
        have hL : Rows8 (V2.alloc (.cells #[.int .i64 p.1, .int .u64 (p.2 : Nat)] 38)) V2.heap.size 38 #[.int .i64 p.1, .int .u64 (p.2 : Nat)] := Rows8.new _ _ _
        have NE := Lib.hid (show (Value.slice (some ⟨V0.heap.size, 0, none⟩) 0 0).ownBlock ≠ some V2.heap.size from fun e => absurd (World.ownsRow.lt HO.out _ e).2 (Nat.lt_irrefl _))
        have HZ := Lib.hid (HZ.out.below hC HZ.out.lt)
        have HB := Lib.hid (HB.out.trans (hC.mono HB.out.size))
        have HSZ := Lib.hid (Nat.le_trans HSZ.out hC.size)
        have HO := Lib.hid (HO.out.below hC (Nat.le_refl _))
        have hS0 : Rows8 (V2.alloc (.cells #[.int .i64 p.1, .int .u64 (p.2 : Nat)] 38)) w.heap.size 26 #[.int .u64 (E : Nat), .slice (s.a 0) (s.n 0) (s.c 0), .slice (s.a 1) (s.n 1) (s.c 1), .slice (s.a 2) (s.n 2) (s.c 2)] ∧ Rows8 (V2.alloc (.cells #[.int .i64 p.1, .int .u64 (p.2 : Nat)] 38)) (w.heap.size + 1) 38 #[.int .i64 p.1, .int .u64 (p.2 : Nat)] := ⟨hS0.1.below hC hS0.1.lt, hS0.2.below hC hS0.2.lt⟩
        have L6 := Lib.hid hL
        clear hC hL
        obtain ⟨g6, hg6⟩ : ∃ g, g = V2.heap.size := ⟨_, rfl⟩
        rw [← hg6] at L6 NE ⊢
        clear hg6
        generalize V2.alloc (.cells #[.int .i64 p.1, .int .u64 (p.2 : Nat)] 38) = V3 at *
        refine hK.out _ _ (fun _ => hS0) ?_
        clear hK K
        try simp only [Act.put, List.setIfInBounds_toArray, List.set_cons_zero, List.set_cons_succ]
        refine wpAnyL_one (i := 4) (o := { dst := some 20, op := Go.Op.call { callee := Go.Callee.builtin Go.Builtin.append, args := #[Go.Operand.tmp 17, Go.Operand.tmp 19], argTypes := #[23, 23] }, type := 23, pos := "ref.go:79", after := #[{ on := 1, ground := Go.Ground.data }, { on := 3, ground := Go.Ground.data }, { on := 3, ground := Go.Ground.chain }], guard := none }) (by kernel_rfl) rfl (fun K hK => ?_)
        obtain ⟨v4, V4, hrun, ho5, hg5⟩ := Tryd.app_row V3 V0.heap.size 23 _ _ HO.out (ofV E s 0) (ofL E r 0) (ofV_at (HI0.out.below HB.out) E 0) (by have := HLO.out; simp only [List.length_nil]; omega) HSZ.out
        refine step_value_g (by rfl) v4 (w' := V4) (exec_append _ _ _ rfl _ _ _ rfl rfl hrun) ?_
        have hne1 := owns_not HO.out hS0.1 (by decide)
        have hne2 := owns_not HO.out HZ.out (by decide)
        have hgb := HO.out
        have hk5 : Rows8 V4 w.heap.size 26 #[.int .u64 (E : Nat), .slice (s.a 0) (s.n 0) (s.c 0), .slice (s.a 1) (s.n 1) (s.c 1), .slice (s.a 2) (s.n 2) (s.c 2)] := (hg5.block _ hS0.1.lt (fun e => hne1 e.symm)).trans hS0.1
        have hp5 : Rows8 V4 (w.heap.size + 1) 38 #[.int .i64 p.1, .int .u64 (p.2 : Nat)] := (hg5.block _ hS0.2.lt (fun e => by have h1 := (World.ownsRow.lt hgb _ e.symm).1; have h2 := HPL.out; omega)).trans hS0.2
        have hz5 : Rows8 V4 (w.heap.size + 1 + 1) 26 #[.int .u64 0, .slice none 0 0, .slice none 0 0, .slice none 0 0] := (hg5.block _ HZ.out.lt (fun e => hne2 e.symm)).trans HZ.out
        have L6 : Hid (Rows8 V4 g6 38 #[.int .i64 p.1, .int .u64 (p.2 : Nat)]) := Lib.hid ((hg5.block _ L6.out.lt (fun e => NE.out e.symm)).trans L6.out)
        have HB := Lib.hid (HB.out.grown hg5 HB.out.size (fun j ej => Nat.le_trans HWB.out (World.ownsRow.lt hgb j ej).1))
        have HSZ := Lib.hid (Nat.le_trans HSZ.out hg5.size)
        have HZ := Lib.hid hz5
        have hS0 : Rows8 V4 w.heap.size 26 #[.int .u64 (E : Nat), .slice (s.a 0) (s.n 0) (s.c 0), .slice (s.a 1) (s.n 1) (s.c 1), .slice (s.a 2) (s.n 2) (s.c 2)] ∧ Rows8 V4 (w.heap.size + 1) 38 #[.int .i64 p.1, .int .u64 (p.2 : Nat)] := ⟨hk5, hp5⟩
        have HO := Lib.hid ho5
        clear hrun hg5 hne1 hne2 hgb hk5 hp5 hz5 ho5
        obtain ⟨a4, c4, rfl⟩ := HO.out.form
        refine hK.out _ _ (fun _ => hS0) ?_
        clear hK K
        try simp only [Act.put, List.setIfInBounds_toArray, List.set_cons_zero, List.set_cons_succ]
        refine wpAnyL_one (i := 7) (o := { dst := some 23, op := Go.Op.call { callee := Go.Callee.builtin Go.Builtin.append, args := #[Go.Operand.tmp 20, Go.Operand.tmp 22], argTypes := #[23, 23] }, type := 23, pos := "ref.go:79", after := #[{ on := 4, ground := Go.Ground.data }, { on := 6, ground := Go.Ground.data }, { on := 4, ground := Go.Ground.chain }], guard := none }) (by kernel_rfl) rfl (fun K hK => ?_)
        obtain ⟨v7, V5, hrun, ho5, hg5⟩ := Tryd.app_row V4 V0.heap.size 23 _ _ HO.out (.slice (some ⟨g6, 0, none⟩) 1 1) [p] (row_lit L6.out) (by have := HLO.out; simp; omega) HSZ.out
        refine step_value_g (by rfl) v7 (w' := V5) (exec_append _ _ _ rfl _ _ _ rfl rfl hrun) ?_
        have hne1 := owns_not HO.out hS0.1 (by decide)
        have hne2 := owns_not HO.out HZ.out (by decide)
        have hgb := HO.out
        have hk5 : Rows8 V5 w.heap.size 26 #[.int .u64 (E : Nat), .slice (s.a 0) (s.n 0) (s.c 0), .slice (s.a 1) (s.n 1) (s.c 1), .slice (s.a 2) (s.n 2) (s.c 2)] := (hg5.block _ hS0.1.lt (fun e => hne1 e.symm)).trans hS0.1
        have hp5 : Rows8 V5 (w.heap.size + 1) 38 #[.int .i64 p.1, .int .u64 (p.2 : Nat)] := (hg5.block _ hS0.2.lt (fun e => by have h1 := (World.ownsRow.lt hgb _ e.symm).1; have h2 := HPL.out; omega)).trans hS0.2
        have hz5 : Rows8 V5 (w.heap.size + 1 + 1) 26 #[.int .u64 0, .slice none 0 0, .slice none 0 0, .slice none 0 0] := (hg5.block _ HZ.out.lt (fun e => hne2 e.symm)).trans HZ.out
        have HB := Lib.hid (HB.out.grown hg5 HB.out.size (fun j ej => Nat.le_trans HWB.out (World.ownsRow.lt hgb j ej).1))
        have HSZ := Lib.hid (Nat.le_trans HSZ.out hg5.size)
        have HZ := Lib.hid hz5
        have hS0 : Rows8 V5 w.heap.size 26 #[.int .u64 (E : Nat), .slice (s.a 0) (s.n 0) (s.c 0), .slice (s.a 1) (s.n 1) (s.c 1), .slice (s.a 2) (s.n 2) (s.c 2)] ∧ Rows8 V5 (w.heap.size + 1) 38 #[.int .i64 p.1, .int .u64 (p.2 : Nat)] := ⟨hk5, hp5⟩
        have HO := Lib.hid ho5
        clear hrun hg5 hne1 hne2 hgb hk5 hp5 hz5 ho5
        obtain ⟨a5, c5, rfl⟩ := HO.out.form
        obtain ⟨n5, hn5⟩ : ∃ m, m = (([] : List Pr) ++ ofL E r 0 ++ [p]).length := ⟨_, rfl⟩
        rw [← hn5] at HO ⊢
        clear hn5 L6
        refine hK.out _ _ (fun _ => hS0) ?_
        clear hK K
        try simp only [Act.put, List.setIfInBounds_toArray, List.set_cons_zero, List.set_cons_succ]
        refine wpAnyL_one (i := 8) (o := { dst := some 24, op := Go.Op.call { callee := Go.Callee.value (Go.Operand.func 46), args := #[Go.Operand.tmp 16, Go.Operand.const (Go.Value.int Go.IntKind.u64 0), Go.Operand.tmp 23], argTypes := #[26, 22, 23] }, type := 26, pos := "ref.go:79", after := #[{ on := 0, ground := Go.Ground.data }, { on := 7, ground := Go.Ground.data }, { on := 7, ground := Go.Ground.chain }], guard := none }) (by kernel_rfl) rfl (fun K hK => ?_)
        have HWt := Tryd.with_any E s 0 a5 n5 c5 V5 (by have := HE.out; omega) (Nat.zero_le _)
        refine step_call_g (by rfl) 46 _ _ rfl (fun _ _ => by kernel_rfl) #[.agg #[.int .u64 (E : Nat), .slice (s.a 0) (s.n 0) (s.c 0), .slice (s.a 1) (s.n 1) (s.c 1), .slice (s.a 2) (s.n 2) (s.c 2)], .int .u64 0, .slice a5 n5 c5] (by simp [go_sem]) _ (show Calls Tryd.prog 46 #[.agg #[.int .u64 (E : Nat), .slice (s.a 0) (s.n 0) (s.c 0), .slice (s.a 1) (s.n 1) (s.c 1), .slice (s.a 2) (s.n 2) (s.c 2)], .int .u64 0, .slice a5 n5 c5] V5 _ from HWt) ?_
        rintro e V6 ⟨rfl, hC⟩
        have HZ := Lib.hid (HZ.out.below hC HZ.out.lt)
        have HB := Lib.hid (HB.out.trans (hC.mono HB.out.size))
        have HSZ := Lib.hid (Nat.le_trans HSZ.out hC.size)
        have HO := Lib.hid (HO.out.below hC (Nat.le_refl _))
        have hS0 : Rows8 V6 w.heap.size 26 #[.int .u64 (E : Nat), .slice (s.a 0) (s.n 0) (s.c 0), .slice (s.a 1) (s.n 1) (s.c 1), .slice (s.a 2) (s.n 2) (s.c 2)] ∧ Rows8 V6 (w.heap.size + 1) 38 #[.int .i64 p.1, .int .u64 (p.2 : Nat)] := ⟨hS0.1.below hC hS0.1.lt, hS0.2.below hC hS0.2.lt⟩
        obtain ⟨s', hs'⟩ : ∃ x, x = s.upd ((E - 0) % 3) a5 n5 c5 := ⟨_, rfl⟩
        rw [← hs'] at ⊢
        have HSS := Lib.hid hs'
        clear hC HWt hs'
        refine ⟨_, rfl, ?_⟩
        refine hK.out _ _ (fun _ => hS0) ?_
        clear hK K
        try simp only [Act.put, List.setIfInBounds_toArray, List.set_cons_zero, List.set_cons_succ]
        refine wpAnyL_one (i := 9) (o := { dst := none, op := Go.Op.store 26 (Go.Operand.tmp 4) (Go.Operand.tmp 24), type := 0, pos := "ref.go:79", after := #[{ on := 8, ground := Go.Ground.data }, { on := 8, ground := Go.Ground.chain }, { on := 0, ground := Go.Ground.phase }, { on := 1, ground := Go.Ground.phase }, { on := 2, ground := Go.Ground.phase }, { on := 3, ground := Go.Ground.phase }, { on := 4, ground := Go.Ground.phase }, { on := 5, ground := Go.Ground.phase }, { on := 6, ground := Go.Ground.phase }, { on := 7, ground := Go.Ground.phase }, { on := 8, ground := Go.Ground.phase }], guard := none }) (by kernel_rfl) rfl (fun K hK => ?_)
        have z0 : V6.cell? ⟨w.heap.size + 1 + 1, 0, none⟩ = some (.int .u64 0) := HZ.out.cell 0
        have f0 := HZ.out.frozen 0
        have z1 : V6.cell? ⟨w.heap.size + 1 + 1, 1, none⟩ = some (.slice none 0 0) := HZ.out.cell 1
        have f1 := HZ.out.frozen 1
        have z2 : V6.cell? ⟨w.heap.size + 1 + 1, 2, none⟩ = some (.slice none 0 0) := HZ.out.cell 2
        have f2 := HZ.out.frozen 2
        have z3 : V6.cell? ⟨w.heap.size + 1 + 1, 3, none⟩ = some (.slice none 0 0) := HZ.out.cell 3
        have f3 := HZ.out.frozen 3
        have ltz := HZ.out.lt
        refine step_skip_g (by rfl) (w' := ((((V6.setCell ⟨w.heap.size + 1 + 1, 0, none⟩ (.int .u64 (E : Nat))).setCell ⟨w.heap.size + 1 + 1, 1, none⟩ (.slice (s'.a 0) (s'.n 0) (s'.c 0))).setCell ⟨w.heap.size + 1 + 1, 2, none⟩ (.slice (s'.a 1) (s'.n 1) (s'.c 1))).setCell ⟨w.heap.size + 1 + 1, 3, none⟩ (.slice (s'.a 2) (s'.n 2) (s'.c 2)))) (by go_simp) ?_
        have HR := Lib.hid (rows4 HZ.out (.int .u64 (E : Nat)) (.slice (s'.a 0) (s'.n 0) (s'.c 0)) (.slice (s'.a 1) (s'.n 1) (s'.c 1)) (.slice (s'.a 2) (s'.n 2) (s'.c 2)))
        have HB3 := Lib.hid (below4 HB.out (B := w.heap.size + 1 + 1) (by show w.heap.size ≤ w.heap.size + 1 + 1; omega) (.int .u64 (E : Nat)) (.slice (s'.a 0) (s'.n 0) (s'.c 0)) (.slice (s'.a 1) (s'.n 1) (s'.c 1)) (.slice (s'.a 2) (s'.n 2) (s'.c 2)))
        have hq9 := HQL.out
        have HO9 := Lib.hid (show OwnsP tE V0.heap.size (([] : List Pr) ++ ofL E r 0 ++ [p]) (.slice a5 n5 c5) ((((V6.setCell ⟨w.heap.size + 1 + 1, 0, none⟩ (.int .u64 (E : Nat))).setCell ⟨w.heap.size + 1 + 1, 1, none⟩ (.slice (s'.a 0) (s'.n 0) (s'.c 0))).setCell ⟨w.heap.size + 1 + 1, 2, none⟩ (.slice (s'.a 1) (s'.n 1) (s'.c 1))).setCell ⟨w.heap.size + 1 + 1, 3, none⟩ (.slice (s'.a 2) (s'.n 2) (s'.c 2))) from (own_lowT (own_lowT (own_lowT (own_lowT HO.out (B := w.heap.size + 1 + 1) (by omega) 0 _) (B := w.heap.size + 1 + 1) (by omega) 1 _) (B := w.heap.size + 1 + 1) (by omega) 2 _) (B := w.heap.size + 1 + 1) (by omega) 3 _))
        clear z0 z1 z2 z3 f0 f1 f2 f3 ltz hq9
        generalize ((((V6.setCell ⟨w.heap.size + 1 + 1, 0, none⟩ (.int .u64 (E : Nat))).setCell ⟨w.heap.size + 1 + 1, 1, none⟩ (.slice (s'.a 0) (s'.n 0) (s'.c 0))).setCell ⟨w.heap.size + 1 + 1, 2, none⟩ (.slice (s'.a 1) (s'.n 1) (s'.c 1))).setCell ⟨w.heap.size + 1 + 1, 3, none⟩ (.slice (s'.a 2) (s'.n 2) (s'.c 2))) = X8 at *
        refine hK.out _ _ (fun h => absurd h (by decide)) ?_
        clear hK K
        try simp only [Act.put, List.setIfInBounds_toArray, List.set_cons_zero, List.set_cons_succ]
        refine wpAnyL_one (i := 10) (o := { dst := some 5, op := Go.Op.assign (Go.Operand.const (Go.Value.int Go.IntKind.i64 0)), type := 31, pos := "ref.go:79", after := #[{ on := 9, ground := Go.Ground.chain }, { on := 0, ground := Go.Ground.phase }, { on := 1, ground := Go.Ground.phase }, { on := 2, ground := Go.Ground.phase }, { on := 3, ground := Go.Ground.phase }, { on := 4, ground := Go.Ground.phase }, { on := 5, ground := Go.Ground.phase }, { on := 6, ground := Go.Ground.phase }, { on := 7, ground := Go.Ground.phase }, { on := 8, ground := Go.Ground.phase }, { on := 9, ground := Go.Ground.phase }], guard := none }) (by kernel_rfl) rfl (fun K hK => ?_)
        refine step_value_g (by rfl) (.int .i64 0) (w' := X8) (by go_simp) ?_
        refine hK.out _ _ (fun h => absurd h (by decide)) ?_
        clear hK K
        try simp only [Act.put, List.setIfInBounds_toArray, List.set_cons_zero, List.set_cons_succ]
        refine wpAnyL_end (by kernel_rfl) ?_
        exact HK5.out X8 s' a5 n5 c5 _ _ _ _ _ _ _ _ _ HR.out HSS.out HO9.out HB3.out
    · refine step_value_g (by rfl) (.slice (some ⟨V1.heap.size, 0, none⟩) 1 1) (w' := V1.alloc (.cells #[.int .i64 p.1, .int .u64 (p.2 : Nat)] 38)) (by go_simp) ?_
      have hC : Below V1.heap.size V1 (V1.alloc (.cells #[.int .i64 p.1, .int .u64 (p.2 : Nat)] 38)) := Rows8.newB
      have hL : Rows8 (V1.alloc (.cells #[.int .i64 p.1, .int .u64 (p.2 : Nat)] 38)) V1.heap.size 38 #[.int .i64 p.1, .int .u64 (p.2 : Nat)] := Rows8.new _ _ _
      have NE := Lib.hid (show (Value.slice (some ⟨V0.heap.size, 0, none⟩) 0 0).ownBlock ≠ some V1.heap.size from fun e => absurd (World.ownsRow.lt HO.out _ e).2 (Nat.lt_irrefl _))
      have HZ := Lib.hid (HZ.out.below hC HZ.out.lt)
      have HB := Lib.hid (HB.out.trans (hC.mono HB.out.size))
      have HSZ := Lib.hid (Nat.le_trans HSZ.out hC.size)
      have HO := Lib.hid (HO.out.below hC (Nat.le_refl _))
      have hS0 : Rows8 (V1.alloc (.cells #[.int .i64 p.1, .int .u64 (p.2 : Nat)] 38)) w.heap.size 26 #[.int .u64 (E : Nat), .slice (s.a 0) (s.n 0) (s.c 0), .slice (s.a 1) (s.n 1) (s.c 1), .slice (s.a 2) (s.n 2) (s.c 2)] ∧ Rows8 (V1.alloc (.cells #[.int .i64 p.1, .int .u64 (p.2 : Nat)] 38)) (w.heap.size + 1) 38 #[.int .i64 p.1, .int .u64 (p.2 : Nat)] := ⟨hS0.1.below hC hS0.1.lt, hS0.2.below hC hS0.2.lt⟩
      have L6 := Lib.hid hL
      clear hC hL
      obtain ⟨g6, hg6⟩ : ∃ g, g = V1.heap.size := ⟨_, rfl⟩
      rw [← hg6] at L6 NE ⊢
      clear hg6
      generalize V1.alloc (.cells #[.int .i64 p.1, .int .u64 (p.2 : Nat)] 38) = V2 at *
      refine hK.out _ _ (fun _ => hS0) ?_
      clear hK K
      try simp only [Act.put, List.setIfInBounds_toArray, List.set_cons_zero, List.set_cons_succ]
      refine wpAnyL_one (i := 3) (o := { dst := some 19, op := Go.Op.call { callee := Go.Callee.value (Go.Operand.func 13), args := #[Go.Operand.tmp 18, Go.Operand.const (Go.Value.int Go.IntKind.u64 0)], argTypes := #[26, 22] }, type := 23, pos := "ref.go:79", after := #[{ on := 2, ground := Go.Ground.data }], guard := none }) (by kernel_rfl) rfl (fun K hK => ?_)
      refine step_call_g (by rfl) 13 _ _ rfl (fun _ _ => by kernel_rfl) #[.agg #[.int .u64 (E : Nat), .slice (s.a 0) (s.n 0) (s.c 0), .slice (s.a 1) (s.n 1) (s.c 1), .slice (s.a 2) (s.n 2) (s.c 2)], .int .u64 0] (by simp [go_sem]) _ (show Calls Tryd.prog 13 #[.agg #[.int .u64 (E : Nat), .slice (s.a 0) (s.n 0) (s.c 0), .slice (s.a 1) (s.n 1) (s.c 1), .slice (s.a 2) (s.n 2) (s.c 2)], .int .u64 0] V2 _ from Tryd.refOf_any E s 0 V2 (by have := HE.out; omega) (by decide)) ?_
      rintro e V3 ⟨rfl, hC⟩
      have HZ := Lib.hid (HZ.out.below hC HZ.out.lt)
      have HB := Lib.hid (HB.out.trans (hC.mono HB.out.size))
      have HSZ := Lib.hid (Nat.le_trans HSZ.out hC.size)
      have HO := Lib.hid (HO.out.below hC (Nat.le_refl _))
      have L6 := Lib.hid (L6.out.below hC L6.out.lt)
      have hS0 : Rows8 V3 w.heap.size 26 #[.int .u64 (E : Nat), .slice (s.a 0) (s.n 0) (s.c 0), .slice (s.a 1) (s.n 1) (s.c 1), .slice (s.a 2) (s.n 2) (s.c 2)] ∧ Rows8 V3 (w.heap.size + 1) 38 #[.int .i64 p.1, .int .u64 (p.2 : Nat)] := ⟨hS0.1.below hC hS0.1.lt, hS0.2.below hC hS0.2.lt⟩
      clear hC
      refine ⟨_, rfl, ?_⟩
      refine hK.out _ _ (fun _ => hS0) ?_
      clear hK K
      try simp only [Act.put, List.setIfInBounds_toArray, List.set_cons_zero, List.set_cons_succ]
      refine wpAnyL_one (i := 4) (o := { dst := some 20, op := Go.Op.call { callee := Go.Callee.builtin Go.Builtin.append, args := #[Go.Operand.tmp 17, Go.Operand.tmp 19], argTypes := #[23, 23] }, type := 23, pos := "ref.go:79", after := #[{ on := 1, ground := Go.Ground.data }, { on := 3, ground := Go.Ground.data }, { on := 3, ground := Go.Ground.chain }], guard := none }) (by kernel_rfl) rfl (fun K hK => ?_)
      obtain ⟨v4, V4, hrun, ho5, hg5⟩ := Tryd.app_row V3 V0.heap.size 23 _ _ HO.out (ofV E s 0) (ofL E r 0) (ofV_at (HI0.out.below HB.out) E 0) (by have := HLO.out; simp only [List.length_nil]; omega) HSZ.out
      refine step_value_g (by rfl) v4 (w' := V4) (exec_append _ _ _ rfl _ _ _ rfl rfl hrun) ?_
      have hne1 := owns_not HO.out hS0.1 (by decide)
      have hne2 := owns_not HO.out HZ.out (by decide)
      have hgb := HO.out
      have hk5 : Rows8 V4 w.heap.size 26 #[.int .u64 (E : Nat), .slice (s.a 0) (s.n 0) (s.c 0), .slice (s.a 1) (s.n 1) (s.c 1), .slice (s.a 2) (s.n 2) (s.c 2)] := (hg5.block _ hS0.1.lt (fun e => hne1 e.symm)).trans hS0.1
      have hp5 : Rows8 V4 (w.heap.size + 1) 38 #[.int .i64 p.1, .int .u64 (p.2 : Nat)] := (hg5.block _ hS0.2.lt (fun e => by have h1 := (World.ownsRow.lt hgb _ e.symm).1; have h2 := HPL.out; omega)).trans hS0.2
      have hz5 : Rows8 V4 (w.heap.size + 1 + 1) 26 #[.int .u64 0, .slice none 0 0, .slice none 0 0, .slice none 0 0] := (hg5.block _ HZ.out.lt (fun e => hne2 e.symm)).trans HZ.out
      have L6 : Hid (Rows8 V4 g6 38 #[.int .i64 p.1, .int .u64 (p.2 : Nat)]) := Lib.hid ((hg5.block _ L6.out.lt (fun e => NE.out e.symm)).trans L6.out)
      have HB := Lib.hid (HB.out.grown hg5 HB.out.size (fun j ej => Nat.le_trans HWB.out (World.ownsRow.lt hgb j ej).1))
      have HSZ := Lib.hid (Nat.le_trans HSZ.out hg5.size)
      have HZ := Lib.hid hz5
      have hS0 : Rows8 V4 w.heap.size 26 #[.int .u64 (E : Nat), .slice (s.a 0) (s.n 0) (s.c 0), .slice (s.a 1) (s.n 1) (s.c 1), .slice (s.a 2) (s.n 2) (s.c 2)] ∧ Rows8 V4 (w.heap.size + 1) 38 #[.int .i64 p.1, .int .u64 (p.2 : Nat)] := ⟨hk5, hp5⟩
      have HO := Lib.hid ho5
      clear hrun hg5 hne1 hne2 hgb hk5 hp5 hz5 ho5
      obtain ⟨a4, c4, rfl⟩ := HO.out.form
      refine hK.out _ _ (fun _ => hS0) ?_
      clear hK K
      try simp only [Act.put, List.setIfInBounds_toArray, List.set_cons_zero, List.set_cons_succ]
      refine wpAnyL_one (i := 7) (o := { dst := some 23, op := Go.Op.call { callee := Go.Callee.builtin Go.Builtin.append, args := #[Go.Operand.tmp 20, Go.Operand.tmp 22], argTypes := #[23, 23] }, type := 23, pos := "ref.go:79", after := #[{ on := 4, ground := Go.Ground.data }, { on := 6, ground := Go.Ground.data }, { on := 4, ground := Go.Ground.chain }], guard := none }) (by kernel_rfl) rfl (fun K hK => ?_)
      obtain ⟨v7, V5, hrun, ho5, hg5⟩ := Tryd.app_row V4 V0.heap.size 23 _ _ HO.out (.slice (some ⟨g6, 0, none⟩) 1 1) [p] (row_lit L6.out) (by have := HLO.out; simp; omega) HSZ.out
      refine step_value_g (by rfl) v7 (w' := V5) (exec_append _ _ _ rfl _ _ _ rfl rfl hrun) ?_
      have hne1 := owns_not HO.out hS0.1 (by decide)
      have hne2 := owns_not HO.out HZ.out (by decide)
      have hgb := HO.out
      have hk5 : Rows8 V5 w.heap.size 26 #[.int .u64 (E : Nat), .slice (s.a 0) (s.n 0) (s.c 0), .slice (s.a 1) (s.n 1) (s.c 1), .slice (s.a 2) (s.n 2) (s.c 2)] := (hg5.block _ hS0.1.lt (fun e => hne1 e.symm)).trans hS0.1
      have hp5 : Rows8 V5 (w.heap.size + 1) 38 #[.int .i64 p.1, .int .u64 (p.2 : Nat)] := (hg5.block _ hS0.2.lt (fun e => by have h1 := (World.ownsRow.lt hgb _ e.symm).1; have h2 := HPL.out; omega)).trans hS0.2
      have hz5 : Rows8 V5 (w.heap.size + 1 + 1) 26 #[.int .u64 0, .slice none 0 0, .slice none 0 0, .slice none 0 0] := (hg5.block _ HZ.out.lt (fun e => hne2 e.symm)).trans HZ.out
      have HB := Lib.hid (HB.out.grown hg5 HB.out.size (fun j ej => Nat.le_trans HWB.out (World.ownsRow.lt hgb j ej).1))
      have HSZ := Lib.hid (Nat.le_trans HSZ.out hg5.size)
      have HZ := Lib.hid hz5
      have hS0 : Rows8 V5 w.heap.size 26 #[.int .u64 (E : Nat), .slice (s.a 0) (s.n 0) (s.c 0), .slice (s.a 1) (s.n 1) (s.c 1), .slice (s.a 2) (s.n 2) (s.c 2)] ∧ Rows8 V5 (w.heap.size + 1) 38 #[.int .i64 p.1, .int .u64 (p.2 : Nat)] := ⟨hk5, hp5⟩
      have HO := Lib.hid ho5
      clear hrun hg5 hne1 hne2 hgb hk5 hp5 hz5 ho5
      obtain ⟨a5, c5, rfl⟩ := HO.out.form
      obtain ⟨n5, hn5⟩ : ∃ m, m = (([] : List Pr) ++ ofL E r 0 ++ [p]).length := ⟨_, rfl⟩
      rw [← hn5] at HO ⊢
      clear hn5 L6
      refine hK.out _ _ (fun _ => hS0) ?_
      clear hK K
      try simp only [Act.put, List.setIfInBounds_toArray, List.set_cons_zero, List.set_cons_succ]
      refine wpAnyL_one (i := 8) (o := { dst := some 24, op := Go.Op.call { callee := Go.Callee.value (Go.Operand.func 46), args := #[Go.Operand.tmp 16, Go.Operand.const (Go.Value.int Go.IntKind.u64 0), Go.Operand.tmp 23], argTypes := #[26, 22, 23] }, type := 26, pos := "ref.go:79", after := #[{ on := 0, ground := Go.Ground.data }, { on := 7, ground := Go.Ground.data }, { on := 7, ground := Go.Ground.chain }], guard := none }) (by kernel_rfl) rfl (fun K hK => ?_)
      have HWt := Tryd.with_any E s 0 a5 n5 c5 V5 (by have := HE.out; omega) (Nat.zero_le _)
      refine step_call_g (by rfl) 46 _ _ rfl (fun _ _ => by kernel_rfl) #[.agg #[.int .u64 (E : Nat), .slice (s.a 0) (s.n 0) (s.c 0), .slice (s.a 1) (s.n 1) (s.c 1), .slice (s.a 2) (s.n 2) (s.c 2)], .int .u64 0, .slice a5 n5 c5] (by simp [go_sem]) _ (show Calls Tryd.prog 46 #[.agg #[.int .u64 (E : Nat), .slice (s.a 0) (s.n 0) (s.c 0), .slice (s.a 1) (s.n 1) (s.c 1), .slice (s.a 2) (s.n 2) (s.c 2)], .int .u64 0, .slice a5 n5 c5] V5 _ from HWt) ?_
      rintro e V6 ⟨rfl, hC⟩
      have HZ := Lib.hid (HZ.out.below hC HZ.out.lt)
      have HB := Lib.hid (HB.out.trans (hC.mono HB.out.size))
      have HSZ := Lib.hid (Nat.le_trans HSZ.out hC.size)
      have HO := Lib.hid (HO.out.below hC (Nat.le_refl _))
      have hS0 : Rows8 V6 w.heap.size 26 #[.int .u64 (E : Nat), .slice (s.a 0) (s.n 0) (s.c 0), .slice (s.a 1) (s.n 1) (s.c 1), .slice (s.a 2) (s.n 2) (s.c 2)] ∧ Rows8 V6 (w.heap.size + 1) 38 #[.int .i64 p.1, .int .u64 (p.2 : Nat)] := ⟨hS0.1.below hC hS0.1.lt, hS0.2.below hC hS0.2.lt⟩
      obtain ⟨s', hs'⟩ : ∃ x, x = s.upd ((E - 0) % 3) a5 n5 c5 := ⟨_, rfl⟩
      rw [← hs'] at ⊢
      have HSS := Lib.hid hs'
      clear hC HWt hs'
      refine ⟨_, rfl, ?_⟩
      refine hK.out _ _ (fun _ => hS0) ?_
      clear hK K
      try simp only [Act.put, List.setIfInBounds_toArray, List.set_cons_zero, List.set_cons_succ]
      refine wpAnyL_one (i := 9) (o := { dst := none, op := Go.Op.store 26 (Go.Operand.tmp 4) (Go.Operand.tmp 24), type := 0, pos := "ref.go:79", after := #[{ on := 8, ground := Go.Ground.data }, { on := 8, ground := Go.Ground.chain }, { on := 0, ground := Go.Ground.phase }, { on := 1, ground := Go.Ground.phase }, { on := 2, ground := Go.Ground.phase }, { on := 3, ground := Go.Ground.phase }, { on := 4, ground := Go.Ground.phase }, { on := 5, ground := Go.Ground.phase }, { on := 6, ground := Go.Ground.phase }, { on := 7, ground := Go.Ground.phase }, { on := 8, ground := Go.Ground.phase }], guard := none }) (by kernel_rfl) rfl (fun K hK => ?_)
      have z0 : V6.cell? ⟨w.heap.size + 1 + 1, 0, none⟩ = some (.int .u64 0) := HZ.out.cell 0
      have f0 := HZ.out.frozen 0
      have z1 : V6.cell? ⟨w.heap.size + 1 + 1, 1, none⟩ = some (.slice none 0 0) := HZ.out.cell 1
      have f1 := HZ.out.frozen 1
      have z2 : V6.cell? ⟨w.heap.size + 1 + 1, 2, none⟩ = some (.slice none 0 0) := HZ.out.cell 2
      have f2 := HZ.out.frozen 2
      have z3 : V6.cell? ⟨w.heap.size + 1 + 1, 3, none⟩ = some (.slice none 0 0) := HZ.out.cell 3
      have f3 := HZ.out.frozen 3
      have ltz := HZ.out.lt
      refine step_skip_g (by rfl) (w' := ((((V6.setCell ⟨w.heap.size + 1 + 1, 0, none⟩ (.int .u64 (E : Nat))).setCell ⟨w.heap.size + 1 + 1, 1, none⟩ (.slice (s'.a 0) (s'.n 0) (s'.c 0))).setCell ⟨w.heap.size + 1 + 1, 2, none⟩ (.slice (s'.a 1) (s'.n 1) (s'.c 1))).setCell ⟨w.heap.size + 1 + 1, 3, none⟩ (.slice (s'.a 2) (s'.n 2) (s'.c 2)))) (by go_simp) ?_
      have HR := Lib.hid (rows4 HZ.out (.int .u64 (E : Nat)) (.slice (s'.a 0) (s'.n 0) (s'.c 0)) (.slice (s'.a 1) (s'.n 1) (s'.c 1)) (.slice (s'.a 2) (s'.n 2) (s'.c 2)))
      have HB3 := Lib.hid (below4 HB.out (B := w.heap.size + 1 + 1) (by show w.heap.size ≤ w.heap.size + 1 + 1; omega) (.int .u64 (E : Nat)) (.slice (s'.a 0) (s'.n 0) (s'.c 0)) (.slice (s'.a 1) (s'.n 1) (s'.c 1)) (.slice (s'.a 2) (s'.n 2) (s'.c 2)))
      have hq9 := HQL.out
      have HO9 := Lib.hid (show OwnsP tE V0.heap.size (([] : List Pr) ++ ofL E r 0 ++ [p]) (.slice a5 n5 c5) ((((V6.setCell ⟨w.heap.size + 1 + 1, 0, none⟩ (.int .u64 (E : Nat))).setCell ⟨w.heap.size + 1 + 1, 1, none⟩ (.slice (s'.a 0) (s'.n 0) (s'.c 0))).setCell ⟨w.heap.size + 1 + 1, 2, none⟩ (.slice (s'.a 1) (s'.n 1) (s'.c 1))).setCell ⟨w.heap.size + 1 + 1, 3, none⟩ (.slice (s'.a 2) (s'.n 2) (s'.c 2))) from (own_lowT (own_lowT (own_lowT (own_lowT HO.out (B := w.heap.size + 1 + 1) (by omega) 0 _) (B := w.heap.size + 1 + 1) (by omega) 1 _) (B := w.heap.size + 1 + 1) (by omega) 2 _) (B := w.heap.size + 1 + 1) (by omega) 3 _))
      clear z0 z1 z2 z3 f0 f1 f2 f3 ltz hq9
      generalize ((((V6.setCell ⟨w.heap.size + 1 + 1, 0, none⟩ (.int .u64 (E : Nat))).setCell ⟨w.heap.size + 1 + 1, 1, none⟩ (.slice (s'.a 0) (s'.n 0) (s'.c 0))).setCell ⟨w.heap.size + 1 + 1, 2, none⟩ (.slice (s'.a 1) (s'.n 1) (s'.c 1))).setCell ⟨w.heap.size + 1 + 1, 3, none⟩ (.slice (s'.a 2) (s'.n 2) (s'.c 2))) = X8 at *
      refine hK.out _ _ (fun h => absurd h (by decide)) ?_
      clear hK K
      try simp only [Act.put, List.setIfInBounds_toArray, List.set_cons_zero, List.set_cons_succ]
      refine wpAnyL_one (i := 10) (o := { dst := some 5, op := Go.Op.assign (Go.Operand.const (Go.Value.int Go.IntKind.i64 0)), type := 31, pos := "ref.go:79", after := #[{ on := 9, ground := Go.Ground.chain }, { on := 0, ground := Go.Ground.phase }, { on := 1, ground := Go.Ground.phase }, { on := 2, ground := Go.Ground.phase }, { on := 3, ground := Go.Ground.phase }, { on := 4, ground := Go.Ground.phase }, { on := 5, ground := Go.Ground.phase }, { on := 6, ground := Go.Ground.phase }, { on := 7, ground := Go.Ground.phase }, { on := 8, ground := Go.Ground.phase }, { on := 9, ground := Go.Ground.phase }], guard := none }) (by kernel_rfl) rfl (fun K hK => ?_)
      refine step_value_g (by rfl) (.int .i64 0) (w' := X8) (by go_simp) ?_
      refine hK.out _ _ (fun h => absurd h (by decide)) ?_
      clear hK K
      try simp only [Act.put, List.setIfInBounds_toArray, List.set_cons_zero, List.set_cons_succ]
      refine wpAnyL_end (by kernel_rfl) ?_
      exact HK5.out X8 s' a5 n5 c5 _ _ _ _ _ _ _ _ _ HR.out HSS.out HO9.out HB3.out
  · refine step_call_g (by rfl) 13 _ _ rfl (fun _ _ => by kernel_rfl) #[.agg #[.int .u64 (E : Nat), .slice (s.a 0) (s.n 0) (s.c 0), .slice (s.a 1) (s.n 1) (s.c 1), .slice (s.a 2) (s.n 2) (s.c 2)], .int .u64 0] (by simp [go_sem]) _ (show Calls Tryd.prog 13 #[.agg #[.int .u64 (E : Nat), .slice (s.a 0) (s.n 0) (s.c 0), .slice (s.a 1) (s.n 1) (s.c 1), .slice (s.a 2) (s.n 2) (s.c 2)], .int .u64 0] V0 _ from Tryd.refOf_any E s 0 V0 (by have := HE.out; omega) (by decide)) ?_
    rintro e V1 ⟨rfl, hC⟩
    have HZ := Lib.hid (HZ.out.below hC HZ.out.lt)
    have HB := Lib.hid (HB.out.trans (hC.mono HB.out.size))
    have HSZ := Lib.hid (Nat.le_trans HSZ.out hC.size)
    have hS0 : Rows8 V1 w.heap.size 26 #[.int .u64 (E : Nat), .slice (s.a 0) (s.n 0) (s.c 0), .slice (s.a 1) (s.n 1) (s.c 1), .slice (s.a 2) (s.n 2) (s.c 2)] ∧ Rows8 V1 (w.heap.size + 1) 38 #[.int .i64 p.1, .int .u64 (p.2 : Nat)] := ⟨hS0.1.below hC hS0.1.lt, hS0.2.below hC hS0.2.lt⟩
    clear hC
    refine ⟨_, rfl, ?_⟩
    refine hK.out _ _ (fun _ => hS0) ?_
    clear hK K
    try simp only [Act.put, List.setIfInBounds_toArray, List.set_cons_zero, List.set_cons_succ]
    refine wpAnyL_two (i := 1) (j := 6) (oi := { dst := some 17, op := Go.Op.buildSlice 23 0 #[], type := 23, pos := "ref.go:79", after := #[], guard := none }) (oj := { dst := some 22, op := Go.Op.buildSlice 23 1 #[(0, Go.Operand.tmp 21)], type := 23, pos := "ref.go:79", after := #[{ on := 5, ground := Go.Ground.data }], guard := none }) (by kernel_rfl) rfl rfl (fun K hK => ?_) (fun K hK => ?_)
    · refine step_value_g (by rfl) (.slice (some ⟨V1.heap.size, 0, none⟩) 0 0) (w' := V1.alloc (.cells #[] 38)) (by go_simp) ?_
      have hC : Below V1.heap.size V1 (V1.alloc (.cells #[] 38)) := Rows8.newB
      have hO : OwnsP tE V0.heap.size [] (.slice (some ⟨V1.heap.size, 0, none⟩) 0 0) (V1.alloc (.cells #[] 38)) := World.ownsRow_lit V1 #[] 0 HSZ.out (by unfold maxLen; omega) rfl
      have HZ := Lib.hid (HZ.out.below hC HZ.out.lt)
      have HB := Lib.hid (HB.out.trans (hC.mono HB.out.size))
      have HSZ := Lib.hid (Nat.le_trans HSZ.out hC.size)
      have hS0 : Rows8 (V1.alloc (.cells #[] 38)) w.heap.size 26 #[.int .u64 (E : Nat), .slice (s.a 0) (s.n 0) (s.c 0), .slice (s.a 1) (s.n 1) (s.c 1), .slice (s.a 2) (s.n 2) (s.c 2)] ∧ Rows8 (V1.alloc (.cells #[] 38)) (w.heap.size + 1) 38 #[.int .i64 p.1, .int .u64 (p.2 : Nat)] := ⟨hS0.1.below hC hS0.1.lt, hS0.2.below hC hS0.2.lt⟩
      have HO := Lib.hid hO
      clear hC hO
      generalize V1.alloc (.cells #[] 38) = V2 at *
      refine hK.out _ _ (fun _ => hS0) ?_
      clear hK K
      try simp only [Act.put, List.setIfInBounds_toArray, List.set_cons_zero, List.set_cons_succ]
      refine wpAnyL_two (i := 4) (j := 6) (oi := { dst := some 20, op := Go.Op.call { callee := Go.Callee.builtin Go.Builtin.append, args := #[Go.Operand.tmp 17, Go.Operand.tmp 19], argTypes := #[23, 23] }, type := 23, pos := "ref.go:79", after := #[{ on := 1, ground := Go.Ground.data }, { on := 3, ground := Go.Ground.data }, { on := 3, ground := Go.Ground.chain }], guard := none }) (oj := { dst := some 22, op := Go.Op.buildSlice 23 1 #[(0, Go.Operand.tmp 21)], type := 23, pos := "ref.go:79", after := #[{ on := 5, ground := Go.Ground.data }], guard := none }) (by kernel_rfl) rfl rfl (fun K hK => ?_) (fun K hK => ?_)
      · obtain ⟨v4, V3, hrun, ho5, hg5⟩ := Tryd.app_row V2 V0.heap.size 23 _ _ HO.out (ofV E s 0) (ofL E r 0) (ofV_at (HI0.out.below HB.out) E 0) (by have := HLO.out; simp only [List.length_nil]; omega) HSZ.out
        refine step_value_g (by rfl) v4 (w' := V3) (exec_append _ _ _ rfl _ _ _ rfl rfl hrun) ?_
        have hne1 := owns_not HO.out hS0.1 (by decide)
        have hne2 := owns_not HO.out HZ.out (by decide)
        have hgb := HO.out
        have hk5 : Rows8 V3 w.heap.size 26 #[.int .u64 (E : Nat), .slice (s.a 0) (s.n 0) (s.c 0), .slice (s.a 1) (s.n 1) (s.c 1), .slice (s.a 2) (s.n 2) (s.c 2)] := (hg5.block _ hS0.1.lt (fun e => hne1 e.symm)).trans hS0.1
        have hp5 : Rows8 V3 (w.heap.size + 1) 38 #[.int .i64 p.1, .int .u64 (p.2 : Nat)] := (hg5.block _ hS0.2.lt (fun e => by have h1 := (World.ownsRow.lt hgb _ e.symm).1; have h2 := HPL.out; omega)).trans hS0.2
        have hz5 : Rows8 V3 (w.heap.size + 1 + 1) 26 #[.int .u64 0, .slice none 0 0, .slice none 0 0, .slice none 0 0] := (hg5.block _ HZ.out.lt (fun e => hne2 e.symm)).trans HZ.out
        have HB := Lib.hid (HB.out.grown hg5 HB.out.size (fun j ej => Nat.le_trans HWB.out (World.ownsRow.lt hgb j ej).1))
        have HSZ := Lib.hid (Nat.le_trans HSZ.out hg5.size)
        have HZ := Lib.hid hz5
        have hS0 : Rows8 V3 w.heap.size 26 #[.int .u64 (E : Nat), .slice (s.a 0) (s.n 0) (s.c 0), .slice (s.a 1) (s.n 1) (s.c 1), .slice (s.a 2) (s.n 2) (s.c 2)] ∧ Rows8 V3 (w.heap.size + 1) 38 #[.int .i64 p.1, .int .u64 (p.2 : Nat)] := ⟨hk5, hp5⟩
        have HO := Lib.hid ho5
        clear hrun hg5 hne1 hne2 hgb hk5 hp5 hz5 ho5
        obtain ⟨a4, c4, rfl⟩ := HO.out.form
        refine hK.out _ _ (fun _ => hS0) ?_
        clear hK K
        try simp only [Act.put, List.setIfInBounds_toArray, List.set_cons_zero, List.set_cons_succ]
        refine wpAnyL_one (i := 6) (o := { dst := some 22, op := Go.Op.buildSlice 23 1 #[(0, Go.Operand.tmp 21)], type := 23, pos := "ref.go:79", after := #[{ on := 5, ground := Go.Ground.data }], guard := none }) (by kernel_rfl) rfl (fun K hK => ?_)
        refine step_value_g (by rfl) (.slice (some ⟨V3.heap.size, 0, none⟩) 1 1) (w' := V3.alloc (.cells #[.int .i64 p.1, .int .u64 (p.2 : Nat)] 38)) (by go_simp) ?_
        have hC : Below V3.heap.size V3 (V3.alloc (.cells #[.int .i64 p.1, .int .u64 (p.2 : Nat)] 38)) := Rows8.newB
        have hL : Rows8 (V3.alloc (.cells #[.int .i64 p.1, .int .u64 (p.2 : Nat)] 38)) V3.heap.size 38 #[.int .i64 p.1, .int .u64 (p.2 : Nat)] := Rows8.new _ _ _
        have HZ := Lib.hid (HZ.out.below hC HZ.out.lt)
        have HB := Lib.hid (HB.out.trans (hC.mono HB.out.size))
        have HSZ := Lib.hid (Nat.le_trans HSZ.out hC.size)
        have HO := Lib.hid (HO.out.below hC (Nat.le_refl _))
        have hS0 : Rows8 (V3.alloc (.cells #[.int .i64 p.1, .int .u64 (p.2 : Nat)] 38)) w.heap.size 26 #[.int .u64 (E : Nat), .slice (s.a 0) (s.n 0) (s.c 0), .slice (s.a 1) (s.n 1) (s.c 1), .slice (s.a 2) (s.n 2) (s.c 2)] ∧ Rows8 (V3.alloc (.cells #[.int .i64 p.1, .int .u64 (p.2 : Nat)] 38)) (w.heap.size + 1) 38 #[.int .i64 p.1, .int .u64 (p.2 : Nat)] := ⟨hS0.1.below hC hS0.1.lt, hS0.2.below hC hS0.2.lt⟩
        have L6 := Lib.hid hL
        clear hC hL
        obtain ⟨g6, hg6⟩ : ∃ g, g = V3.heap.size := ⟨_, rfl⟩
        rw [← hg6] at L6 ⊢
        clear hg6
        generalize V3.alloc (.cells #[.int .i64 p.1, .int .u64 (p.2 : Nat)] 38) = V4 at *
        refine hK.out _ _ (fun _ => hS0) ?_
        clear hK K
        try simp only [Act.put, List.setIfInBounds_toArray, List.set_cons_zero, List.set_cons_succ]
        refine wpAnyL_one (i := 7) (o := { dst := some 23, op := Go.Op.call { callee := Go.Callee.builtin Go.Builtin.append, args := #[Go.Operand.tmp 20, Go.Operand.tmp 22], argTypes := #[23, 23] }, type := 23, pos := "ref.go:79", after := #[{ on := 4, ground := Go.Ground.data }, { on := 6, ground := Go.Ground.data }, { on := 4, ground := Go.Ground.chain }], guard := none }) (by kernel_rfl) rfl (fun K hK => ?_)
        obtain ⟨v7, V5, hrun, ho5, hg5⟩ := Tryd.app_row V4 V0.heap.size 23 _ _ HO.out (.slice (some ⟨g6, 0, none⟩) 1 1) [p] (row_lit L6.out) (by have := HLO.out; simp; omega) HSZ.out
        refine step_value_g (by rfl) v7 (w' := V5) (exec_append _ _ _ rfl _ _ _ rfl rfl hrun) ?_
        have hne1 := owns_not HO.out hS0.1 (by decide)
        have hne2 := owns_not HO.out HZ.out (by decide)
        have hgb := HO.out
        have hk5 : Rows8 V5 w.heap.size 26 #[.int .u64 (E : Nat), .slice (s.a 0) (s.n 0) (s.c 0), .slice (s.a 1) (s.n 1) (s.c 1), .slice (s.a 2) (s.n 2) (s.c 2)] := (hg5.block _ hS0.1.lt (fun e => hne1 e.symm)).trans hS0.1
        have hp5 : Rows8 V5 (w.heap.size + 1) 38 #[.int .i64 p.1, .int .u64 (p.2 : Nat)] := (hg5.block _ hS0.2.lt (fun e => by have h1 := (World.ownsRow.lt hgb _ e.symm).1; have h2 := HPL.out; omega)).trans hS0.2
        have hz5 : Rows8 V5 (w.heap.size + 1 + 1) 26 #[.int .u64 0, .slice none 0 0, .slice none 0 0, .slice none 0 0] := (hg5.block _ HZ.out.lt (fun e => hne2 e.symm)).trans HZ.out
        have HB := Lib.hid (HB.out.grown hg5 HB.out.size (fun j ej => Nat.le_trans HWB.out (World.ownsRow.lt hgb j ej).1))
        have HSZ := Lib.hid (Nat.le_trans HSZ.out hg5.size)
        have HZ := Lib.hid hz5
        have hS0 : Rows8 V5 w.heap.size 26 #[.int .u64 (E : Nat), .slice (s.a 0) (s.n 0) (s.c 0), .slice (s.a 1) (s.n 1) (s.c 1), .slice (s.a 2) (s.n 2) (s.c 2)] ∧ Rows8 V5 (w.heap.size + 1) 38 #[.int .i64 p.1, .int .u64 (p.2 : Nat)] := ⟨hk5, hp5⟩
        have HO := Lib.hid ho5
        clear hrun hg5 hne1 hne2 hgb hk5 hp5 hz5 ho5
        obtain ⟨a5, c5, rfl⟩ := HO.out.form
        obtain ⟨n5, hn5⟩ : ∃ m, m = (([] : List Pr) ++ ofL E r 0 ++ [p]).length := ⟨_, rfl⟩
        rw [← hn5] at HO ⊢
        clear hn5 L6
        refine hK.out _ _ (fun _ => hS0) ?_
        clear hK K
        try simp only [Act.put, List.setIfInBounds_toArray, List.set_cons_zero, List.set_cons_succ]
        refine wpAnyL_one (i := 8) (o := { dst := some 24, op := Go.Op.call { callee := Go.Callee.value (Go.Operand.func 46), args := #[Go.Operand.tmp 16, Go.Operand.const (Go.Value.int Go.IntKind.u64 0), Go.Operand.tmp 23], argTypes := #[26, 22, 23] }, type := 26, pos := "ref.go:79", after := #[{ on := 0, ground := Go.Ground.data }, { on := 7, ground := Go.Ground.data }, { on := 7, ground := Go.Ground.chain }], guard := none }) (by kernel_rfl) rfl (fun K hK => ?_)
        have HWt := Tryd.with_any E s 0 a5 n5 c5 V5 (by have := HE.out; omega) (Nat.zero_le _)
        refine step_call_g (by rfl) 46 _ _ rfl (fun _ _ => by kernel_rfl) #[.agg #[.int .u64 (E : Nat), .slice (s.a 0) (s.n 0) (s.c 0), .slice (s.a 1) (s.n 1) (s.c 1), .slice (s.a 2) (s.n 2) (s.c 2)], .int .u64 0, .slice a5 n5 c5] (by simp [go_sem]) _ (show Calls Tryd.prog 46 #[.agg #[.int .u64 (E : Nat), .slice (s.a 0) (s.n 0) (s.c 0), .slice (s.a 1) (s.n 1) (s.c 1), .slice (s.a 2) (s.n 2) (s.c 2)], .int .u64 0, .slice a5 n5 c5] V5 _ from HWt) ?_
        rintro e V6 ⟨rfl, hC⟩
        have HZ := Lib.hid (HZ.out.below hC HZ.out.lt)
        have HB := Lib.hid (HB.out.trans (hC.mono HB.out.size))
        have HSZ := Lib.hid (Nat.le_trans HSZ.out hC.size)
        have HO := Lib.hid (HO.out.below hC (Nat.le_refl _))
        have hS0 : Rows8 V6 w.heap.size 26 #[.int .u64 (E : Nat), .slice (s.a 0) (s.n 0) (s.c 0), .slice (s.a 1) (s.n 1) (s.c 1), .slice (s.a 2) (s.n 2) (s.c 2)] ∧ Rows8 V6 (w.heap.size + 1) 38 #[.int .i64 p.1, .int .u64 (p.2 : Nat)] := ⟨hS0.1.below hC hS0.1.lt, hS0.2.below hC hS0.2.lt⟩
        obtain ⟨s', hs'⟩ : ∃ x, x = s.upd ((E - 0) % 3) a5 n5 c5 := ⟨_, rfl⟩
        rw [← hs'] at ⊢
        have HSS := Lib.hid hs'
        clear hC HWt hs'
        refine ⟨_, rfl, ?_⟩
        refine hK.out _ _ (fun _ => hS0) ?_
        clear hK K
        try simp only [Act.put, List.setIfInBounds_toArray, List.set_cons_zero, List.set_cons_succ]
        refine wpAnyL_one (i := 9) (o := { dst := none, op := Go.Op.store 26 (Go.Operand.tmp 4) (Go.Operand.tmp 24), type := 0, pos := "ref.go:79", after := #[{ on := 8, ground := Go.Ground.data }, { on := 8, ground := Go.Ground.chain }, { on := 0, ground := Go.Ground.phase }, { on := 1, ground := Go.Ground.phase }, { on := 2, ground := Go.Ground.phase }, { on := 3, ground := Go.Ground.phase }, { on := 4, ground := Go.Ground.phase }, { on := 5, ground := Go.Ground.phase }, { on := 6, ground := Go.Ground.phase }, { on := 7, ground := Go.Ground.phase }, { on := 8, ground := Go.Ground.phase }], guard := none }) (by kernel_rfl) rfl (fun K hK => ?_)
        have z0 : V6.cell? ⟨w.heap.size + 1 + 1, 0, none⟩ = some (.int .u64 0) := HZ.out.cell 0
        have f0 := HZ.out.frozen 0
        have z1 : V6.cell? ⟨w.heap.size + 1 + 1, 1, none⟩ = some (.slice none 0 0) := HZ.out.cell 1
        have f1 := HZ.out.frozen 1
        have z2 : V6.cell? ⟨w.heap.size + 1 + 1, 2, none⟩ = some (.slice none 0 0) := HZ.out.cell 2
        have f2 := HZ.out.frozen 2
        have z3 : V6.cell? ⟨w.heap.size + 1 + 1, 3, none⟩ = some (.slice none 0 0) := HZ.out.cell 3
        have f3 := HZ.out.frozen 3
        have ltz := HZ.out.lt
        refine step_skip_g (by rfl) (w' := ((((V6.setCell ⟨w.heap.size + 1 + 1, 0, none⟩ (.int .u64 (E : Nat))).setCell ⟨w.heap.size + 1 + 1, 1, none⟩ (.slice (s'.a 0) (s'.n 0) (s'.c 0))).setCell ⟨w.heap.size + 1 + 1, 2, none⟩ (.slice (s'.a 1) (s'.n 1) (s'.c 1))).setCell ⟨w.heap.size + 1 + 1, 3, none⟩ (.slice (s'.a 2) (s'.n 2) (s'.c 2)))) (by go_simp) ?_
        have HR := Lib.hid (rows4 HZ.out (.int .u64 (E : Nat)) (.slice (s'.a 0) (s'.n 0) (s'.c 0)) (.slice (s'.a 1) (s'.n 1) (s'.c 1)) (.slice (s'.a 2) (s'.n 2) (s'.c 2)))
        have HB3 := Lib.hid (below4 HB.out (B := w.heap.size + 1 + 1) (by show w.heap.size ≤ w.heap.size + 1 + 1; omega) (.int .u64 (E : Nat)) (.slice (s'.a 0) (s'.n 0) (s'.c 0)) (.slice (s'.a 1) (s'.n 1) (s'.c 1)) (.slice (s'.a 2) (s'.n 2) (s'.c 2)))
        have hq9 := HQL.out
        have HO9 := Lib.hid (show OwnsP tE V0.heap.size (([] : List Pr) ++ ofL E r 0 ++ [p]) (.slice a5 n5 c5) ((((V6.setCell ⟨w.heap.size + 1 + 1, 0, none⟩ (.int .u64 (E : Nat))).setCell ⟨w.heap.size + 1 + 1, 1, none⟩ (.slice (s'.a 0) (s'.n 0) (s'.c 0))).setCell ⟨w.heap.size + 1 + 1, 2, none⟩ (.slice (s'.a 1) (s'.n 1) (s'.c 1))).setCell ⟨w.heap.size + 1 + 1, 3, none⟩ (.slice (s'.a 2) (s'.n 2) (s'.c 2))) from (own_lowT (own_lowT (own_lowT (own_lowT HO.out (B := w.heap.size + 1 + 1) (by omega) 0 _) (B := w.heap.size + 1 + 1) (by omega) 1 _) (B := w.heap.size + 1 + 1) (by omega) 2 _) (B := w.heap.size + 1 + 1) (by omega) 3 _))
        clear z0 z1 z2 z3 f0 f1 f2 f3 ltz hq9
        generalize ((((V6.setCell ⟨w.heap.size + 1 + 1, 0, none⟩ (.int .u64 (E : Nat))).setCell ⟨w.heap.size + 1 + 1, 1, none⟩ (.slice (s'.a 0) (s'.n 0) (s'.c 0))).setCell ⟨w.heap.size + 1 + 1, 2, none⟩ (.slice (s'.a 1) (s'.n 1) (s'.c 1))).setCell ⟨w.heap.size + 1 + 1, 3, none⟩ (.slice (s'.a 2) (s'.n 2) (s'.c 2))) = X8 at *
        refine hK.out _ _ (fun h => absurd h (by decide)) ?_
        clear hK K
        try simp only [Act.put, List.setIfInBounds_toArray, List.set_cons_zero, List.set_cons_succ]
        refine wpAnyL_one (i := 10) (o := { dst := some 5, op := Go.Op.assign (Go.Operand.const (Go.Value.int Go.IntKind.i64 0)), type := 31, pos := "ref.go:79", after := #[{ on := 9, ground := Go.Ground.chain }, { on := 0, ground := Go.Ground.phase }, { on := 1, ground := Go.Ground.phase }, { on := 2, ground := Go.Ground.phase }, { on := 3, ground := Go.Ground.phase }, { on := 4, ground := Go.Ground.phase }, { on := 5, ground := Go.Ground.phase }, { on := 6, ground := Go.Ground.phase }, { on := 7, ground := Go.Ground.phase }, { on := 8, ground := Go.Ground.phase }, { on := 9, ground := Go.Ground.phase }], guard := none }) (by kernel_rfl) rfl (fun K hK => ?_)
        refine step_value_g (by rfl) (.int .i64 0) (w' := X8) (by go_simp) ?_
        refine hK.out _ _ (fun h => absurd h (by decide)) ?_
        clear hK K
        try simp only [Act.put, List.setIfInBounds_toArray, List.set_cons_zero, List.set_cons_succ]
        refine wpAnyL_end (by kernel_rfl) ?_
        exact HK5.out X8 s' a5 n5 c5 _ _ _ _ _ _ _ _ _ HR.out HSS.out HO9.out HB3.out
      · refine step_value_g (by rfl) (.slice (some ⟨V2.heap.size, 0, none⟩) 1 1) (w' := V2.alloc (.cells #[.int .i64 p.1, .int .u64 (p.2 : Nat)] 38)) (by go_simp) ?_
        have hC : Below V2.heap.size V2 (V2.alloc (.cells #[.int .i64 p.1, .int .u64 (p.2 : Nat)] 38)) := Rows8.newB
        have hL : Rows8 (V2.alloc (.cells #[.int .i64 p.1, .int .u64 (p.2 : Nat)] 38)) V2.heap.size 38 #[.int .i64 p.1, .int .u64 (p.2 : Nat)] := Rows8.new _ _ _
        have NE := Lib.hid (show (Value.slice (some ⟨V1.heap.size, 0, none⟩) 0 0).ownBlock ≠ some V2.heap.size from fun e => absurd (World.ownsRow.lt HO.out _ e).2 (Nat.lt_irrefl _))
        have HZ := Lib.hid (HZ.out.below hC HZ.out.lt)
        have HB := Lib.hid (HB.out.trans (hC.mono HB.out.size))
        have HSZ := Lib.hid (Nat.le_trans HSZ.out hC.size)
        have HO := Lib.hid (HO.out.below hC (Nat.le_refl _))
        have hS0 : Rows8 (V2.alloc (.cells #[.int .i64 p.1, .int .u64 (p.2 : Nat)] 38)) w.heap.size 26 #[.int .u64 (E : Nat), .slice (s.a 0) (s.n 0) (s.c 0), .slice (s.a 1) (s.n 1) (s.c 1), .slice (s.a 2) (s.n 2) (s.c 2)] ∧ Rows8 (V2.alloc (.cells #[.int .i64 p.1, .int .u64 (p.2 : Nat)] 38)) (w.heap.size + 1) 38 #[.int .i64 p.1, .int .u64 (p.2 : Nat)] := ⟨hS0.1.below hC hS0.1.lt, hS0.2.below hC hS0.2.lt⟩
        have L6 := Lib.hid hL
        clear hC hL
        obtain ⟨g6, hg6⟩ : ∃ g, g = V2.heap.size := ⟨_, rfl⟩
        rw [← hg6] at L6 NE ⊢
        clear hg6
        generalize V2.alloc (.cells #[.int .i64 p.1, .int .u64 (p.2 : Nat)] 38) = V3 at *
        refine hK.out _ _ (fun _ => hS0) ?_
        clear hK K
        try simp only [Act.put, List.setIfInBounds_toArray, List.set_cons_zero, List.set_cons_succ]
        refine wpAnyL_one (i := 4) (o := { dst := some 20, op := Go.Op.call { callee := Go.Callee.builtin Go.Builtin.append, args := #[Go.Operand.tmp 17, Go.Operand.tmp 19], argTypes := #[23, 23] }, type := 23, pos := "ref.go:79", after := #[{ on := 1, ground := Go.Ground.data }, { on := 3, ground := Go.Ground.data }, { on := 3, ground := Go.Ground.chain }], guard := none }) (by kernel_rfl) rfl (fun K hK => ?_)
        obtain ⟨v4, V4, hrun, ho5, hg5⟩ := Tryd.app_row V3 V0.heap.size 23 _ _ HO.out (ofV E s 0) (ofL E r 0) (ofV_at (HI0.out.below HB.out) E 0) (by have := HLO.out; simp only [List.length_nil]; omega) HSZ.out
        refine step_value_g (by rfl) v4 (w' := V4) (exec_append _ _ _ rfl _ _ _ rfl rfl hrun) ?_
        have hne1 := owns_not HO.out hS0.1 (by decide)
        have hne2 := owns_not HO.out HZ.out (by decide)
        have hgb := HO.out
        have hk5 : Rows8 V4 w.heap.size 26 #[.int .u64 (E : Nat), .slice (s.a 0) (s.n 0) (s.c 0), .slice (s.a 1) (s.n 1) (s.c 1), .slice (s.a 2) (s.n 2) (s.c 2)] := (hg5.block _ hS0.1.lt (fun e => hne1 e.symm)).trans hS0.1
        have hp5 : Rows8 V4 (w.heap.size + 1) 38 #[.int .i64 p.1, .int .u64 (p.2 : Nat)] := (hg5.block _ hS0.2.lt (fun e => by have h1 := (World.ownsRow.lt hgb _ e.symm).1; have h2 := HPL.out; omega)).trans hS0.2
        have hz5 : Rows8 V4 (w.heap.size + 1 + 1) 26 #[.int .u64 0, .slice none 0 0, .slice none 0 0, .slice none 0 0] := (hg5.block _ HZ.out.lt (fun e => hne2 e.symm)).trans HZ.out
        have L6 : Hid (Rows8 V4 g6 38 #[.int .i64 p.1, .int .u64 (p.2 : Nat)]) := Lib.hid ((hg5.block _ L6.out.lt (fun e => NE.out e.symm)).trans L6.out)
        have HB := Lib.hid (HB.out.grown hg5 HB.out.size (fun j ej => Nat.le_trans HWB.out (World.ownsRow.lt hgb j ej).1))
        have HSZ := Lib.hid (Nat.le_trans HSZ.out hg5.size)
        have HZ := Lib.hid hz5
        have hS0 : Rows8 V4 w.heap.size 26 #[.int .u64 (E : Nat), .slice (s.a 0) (s.n 0) (s.c 0), .slice (s.a 1) (s.n 1) (s.c 1), .slice (s.a 2) (s.n 2) (s.c 2)] ∧ Rows8 V4 (w.heap.size + 1) 38 #[.int .i64 p.1, .int .u64 (p.2 : Nat)] := ⟨hk5, hp5⟩
        have HO := Lib.hid ho5
        clear hrun hg5 hne1 hne2 hgb hk5 hp5 hz5 ho5
        obtain ⟨a4, c4, rfl⟩ := HO.out.form
        refine hK.out _ _ (fun _ => hS0) ?_
        clear hK K
        try simp only [Act.put, List.setIfInBounds_toArray, List.set_cons_zero, List.set_cons_succ]
        refine wpAnyL_one (i := 7) (o := { dst := some 23, op := Go.Op.call { callee := Go.Callee.builtin Go.Builtin.append, args := #[Go.Operand.tmp 20, Go.Operand.tmp 22], argTypes := #[23, 23] }, type := 23, pos := "ref.go:79", after := #[{ on := 4, ground := Go.Ground.data }, { on := 6, ground := Go.Ground.data }, { on := 4, ground := Go.Ground.chain }], guard := none }) (by kernel_rfl) rfl (fun K hK => ?_)
        obtain ⟨v7, V5, hrun, ho5, hg5⟩ := Tryd.app_row V4 V0.heap.size 23 _ _ HO.out (.slice (some ⟨g6, 0, none⟩) 1 1) [p] (row_lit L6.out) (by have := HLO.out; simp; omega) HSZ.out
        refine step_value_g (by rfl) v7 (w' := V5) (exec_append _ _ _ rfl _ _ _ rfl rfl hrun) ?_
        have hne1 := owns_not HO.out hS0.1 (by decide)
        have hne2 := owns_not HO.out HZ.out (by decide)
        have hgb := HO.out
        have hk5 : Rows8 V5 w.heap.size 26 #[.int .u64 (E : Nat), .slice (s.a 0) (s.n 0) (s.c 0), .slice (s.a 1) (s.n 1) (s.c 1), .slice (s.a 2) (s.n 2) (s.c 2)] := (hg5.block _ hS0.1.lt (fun e => hne1 e.symm)).trans hS0.1
        have hp5 : Rows8 V5 (w.heap.size + 1) 38 #[.int .i64 p.1, .int .u64 (p.2 : Nat)] := (hg5.block _ hS0.2.lt (fun e => by have h1 := (World.ownsRow.lt hgb _ e.symm).1; have h2 := HPL.out; omega)).trans hS0.2
        have hz5 : Rows8 V5 (w.heap.size + 1 + 1) 26 #[.int .u64 0, .slice none 0 0, .slice none 0 0, .slice none 0 0] := (hg5.block _ HZ.out.lt (fun e => hne2 e.symm)).trans HZ.out
        have HB := Lib.hid (HB.out.grown hg5 HB.out.size (fun j ej => Nat.le_trans HWB.out (World.ownsRow.lt hgb j ej).1))
        have HSZ := Lib.hid (Nat.le_trans HSZ.out hg5.size)
        have HZ := Lib.hid hz5
        have hS0 : Rows8 V5 w.heap.size 26 #[.int .u64 (E : Nat), .slice (s.a 0) (s.n 0) (s.c 0), .slice (s.a 1) (s.n 1) (s.c 1), .slice (s.a 2) (s.n 2) (s.c 2)] ∧ Rows8 V5 (w.heap.size + 1) 38 #[.int .i64 p.1, .int .u64 (p.2 : Nat)] := ⟨hk5, hp5⟩
        have HO := Lib.hid ho5
        clear hrun hg5 hne1 hne2 hgb hk5 hp5 hz5 ho5
        obtain ⟨a5, c5, rfl⟩ := HO.out.form
        obtain ⟨n5, hn5⟩ : ∃ m, m = (([] : List Pr) ++ ofL E r 0 ++ [p]).length := ⟨_, rfl⟩
        rw [← hn5] at HO ⊢
        clear hn5 L6
        refine hK.out _ _ (fun _ => hS0) ?_
        clear hK K
        try simp only [Act.put, List.setIfInBounds_toArray, List.set_cons_zero, List.set_cons_succ]
        refine wpAnyL_one (i := 8) (o := { dst := some 24, op := Go.Op.call { callee := Go.Callee.value (Go.Operand.func 46), args := #[Go.Operand.tmp 16, Go.Operand.const (Go.Value.int Go.IntKind.u64 0), Go.Operand.tmp 23], argTypes := #[26, 22, 23] }, type := 26, pos := "ref.go:79", after := #[{ on := 0, ground := Go.Ground.data }, { on := 7, ground := Go.Ground.data }, { on := 7, ground := Go.Ground.chain }], guard := none }) (by kernel_rfl) rfl (fun K hK => ?_)
        have HWt := Tryd.with_any E s 0 a5 n5 c5 V5 (by have := HE.out; omega) (Nat.zero_le _)
        refine step_call_g (by rfl) 46 _ _ rfl (fun _ _ => by kernel_rfl) #[.agg #[.int .u64 (E : Nat), .slice (s.a 0) (s.n 0) (s.c 0), .slice (s.a 1) (s.n 1) (s.c 1), .slice (s.a 2) (s.n 2) (s.c 2)], .int .u64 0, .slice a5 n5 c5] (by simp [go_sem]) _ (show Calls Tryd.prog 46 #[.agg #[.int .u64 (E : Nat), .slice (s.a 0) (s.n 0) (s.c 0), .slice (s.a 1) (s.n 1) (s.c 1), .slice (s.a 2) (s.n 2) (s.c 2)], .int .u64 0, .slice a5 n5 c5] V5 _ from HWt) ?_
        rintro e V6 ⟨rfl, hC⟩
        have HZ := Lib.hid (HZ.out.below hC HZ.out.lt)
        have HB := Lib.hid (HB.out.trans (hC.mono HB.out.size))
        have HSZ := Lib.hid (Nat.le_trans HSZ.out hC.size)
        have HO := Lib.hid (HO.out.below hC (Nat.le_refl _))
        have hS0 : Rows8 V6 w.heap.size 26 #[.int .u64 (E : Nat), .slice (s.a 0) (s.n 0) (s.c 0), .slice (s.a 1) (s.n 1) (s.c 1), .slice (s.a 2) (s.n 2) (s.c 2)] ∧ Rows8 V6 (w.heap.size + 1) 38 #[.int .i64 p.1, .int .u64 (p.2 : Nat)] := ⟨hS0.1.below hC hS0.1.lt, hS0.2.below hC hS0.2.lt⟩
        obtain ⟨s', hs'⟩ : ∃ x, x = s.upd ((E - 0) % 3) a5 n5 c5 := ⟨_, rfl⟩
        rw [← hs'] at ⊢
        have HSS := Lib.hid hs'
        clear hC HWt hs'
        refine ⟨_, rfl, ?_⟩
        refine hK.out _ _ (fun _ => hS0) ?_
        clear hK K
        try simp only [Act.put, List.setIfInBounds_toArray, List.set_cons_zero, List.set_cons_succ]
        refine wpAnyL_one (i := 9) (o := { dst := none, op := Go.Op.store 26 (Go.Operand.tmp 4) (Go.Operand.tmp 24), type := 0, pos := "ref.go:79", after := #[{ on := 8, ground := Go.Ground.data }, { on := 8, ground := Go.Ground.chain }, { on := 0, ground := Go.Ground.phase }, { on := 1, ground := Go.Ground.phase }, { on := 2, ground := Go.Ground.phase }, { on := 3, ground := Go.Ground.phase }, { on := 4, ground := Go.Ground.phase }, { on := 5, ground := Go.Ground.phase }, { on := 6, ground := Go.Ground.phase }, { on := 7, ground := Go.Ground.phase }, { on := 8, ground := Go.Ground.phase }], guard := none }) (by kernel_rfl) rfl (fun K hK => ?_)
        have z0 : V6.cell? ⟨w.heap.size + 1 + 1, 0, none⟩ = some (.int .u64 0) := HZ.out.cell 0
        have f0 := HZ.out.frozen 0
        have z1 : V6.cell? ⟨w.heap.size + 1 + 1, 1, none⟩ = some (.slice none 0 0) := HZ.out.cell 1
        have f1 := HZ.out.frozen 1
        have z2 : V6.cell? ⟨w.heap.size + 1 + 1, 2, none⟩ = some (.slice none 0 0) := HZ.out.cell 2
        have f2 := HZ.out.frozen 2
        have z3 : V6.cell? ⟨w.heap.size + 1 + 1, 3, none⟩ = some (.slice none 0 0) := HZ.out.cell 3
        have f3 := HZ.out.frozen 3
        have ltz := HZ.out.lt
        refine step_skip_g (by rfl) (w' := ((((V6.setCell ⟨w.heap.size + 1 + 1, 0, none⟩ (.int .u64 (E : Nat))).setCell ⟨w.heap.size + 1 + 1, 1, none⟩ (.slice (s'.a 0) (s'.n 0) (s'.c 0))).setCell ⟨w.heap.size + 1 + 1, 2, none⟩ (.slice (s'.a 1) (s'.n 1) (s'.c 1))).setCell ⟨w.heap.size + 1 + 1, 3, none⟩ (.slice (s'.a 2) (s'.n 2) (s'.c 2)))) (by go_simp) ?_
        have HR := Lib.hid (rows4 HZ.out (.int .u64 (E : Nat)) (.slice (s'.a 0) (s'.n 0) (s'.c 0)) (.slice (s'.a 1) (s'.n 1) (s'.c 1)) (.slice (s'.a 2) (s'.n 2) (s'.c 2)))
        have HB3 := Lib.hid (below4 HB.out (B := w.heap.size + 1 + 1) (by show w.heap.size ≤ w.heap.size + 1 + 1; omega) (.int .u64 (E : Nat)) (.slice (s'.a 0) (s'.n 0) (s'.c 0)) (.slice (s'.a 1) (s'.n 1) (s'.c 1)) (.slice (s'.a 2) (s'.n 2) (s'.c 2)))
        have hq9 := HQL.out
        have HO9 := Lib.hid (show OwnsP tE V0.heap.size (([] : List Pr) ++ ofL E r 0 ++ [p]) (.slice a5 n5 c5) ((((V6.setCell ⟨w.heap.size + 1 + 1, 0, none⟩ (.int .u64 (E : Nat))).setCell ⟨w.heap.size + 1 + 1, 1, none⟩ (.slice (s'.a 0) (s'.n 0) (s'.c 0))).setCell ⟨w.heap.size + 1 + 1, 2, none⟩ (.slice (s'.a 1) (s'.n 1) (s'.c 1))).setCell ⟨w.heap.size + 1 + 1, 3, none⟩ (.slice (s'.a 2) (s'.n 2) (s'.c 2))) from (own_lowT (own_lowT (own_lowT (own_lowT HO.out (B := w.heap.size + 1 + 1) (by omega) 0 _) (B := w.heap.size + 1 + 1) (by omega) 1 _) (B := w.heap.size + 1 + 1) (by omega) 2 _) (B := w.heap.size + 1 + 1) (by omega) 3 _))
        clear z0 z1 z2 z3 f0 f1 f2 f3 ltz hq9
        generalize ((((V6.setCell ⟨w.heap.size + 1 + 1, 0, none⟩ (.int .u64 (E : Nat))).setCell ⟨w.heap.size + 1 + 1, 1, none⟩ (.slice (s'.a 0) (s'.n 0) (s'.c 0))).setCell ⟨w.heap.size + 1 + 1, 2, none⟩ (.slice (s'.a 1) (s'.n 1) (s'.c 1))).setCell ⟨w.heap.size + 1 + 1, 3, none⟩ (.slice (s'.a 2) (s'.n 2) (s'.c 2))) = X8 at *
        refine hK.out _ _ (fun h => absurd h (by decide)) ?_
        clear hK K
        try simp only [Act.put, List.setIfInBounds_toArray, List.set_cons_zero, List.set_cons_succ]
        refine wpAnyL_one (i := 10) (o := { dst := some 5, op := Go.Op.assign (Go.Operand.const (Go.Value.int Go.IntKind.i64 0)), type := 31, pos := "ref.go:79", after := #[{ on := 9, ground := Go.Ground.chain }, { on := 0, ground := Go.Ground.phase }, { on := 1, ground := Go.Ground.phase }, { on := 2, ground := Go.Ground.phase }, { on := 3, ground := Go.Ground.phase }, { on := 4, ground := Go.Ground.phase }, { on := 5, ground := Go.Ground.phase }, { on := 6, ground := Go.Ground.phase }, { on := 7, ground := Go.Ground.phase }, { on := 8, ground := Go.Ground.phase }, { on := 9, ground := Go.Ground.phase }], guard := none }) (by kernel_rfl) rfl (fun K hK => ?_)
        refine step_value_g (by rfl) (.int .i64 0) (w' := X8) (by go_simp) ?_
        refine hK.out _ _ (fun h => absurd h (by decide)) ?_
        clear hK K
        try simp only [Act.put, List.setIfInBounds_toArray, List.set_cons_zero, List.set_cons_succ]
        refine wpAnyL_end (by kernel_rfl) ?_
        exact HK5.out X8 s' a5 n5 c5 _ _ _ _ _ _ _ _ _ HR.out HSS.out HO9.out HB3.out
    · refine step_value_g (by rfl) (.slice (some ⟨V1.heap.size, 0, none⟩) 1 1) (w' := V1.alloc (.cells #[.int .i64 p.1, .int .u64 (p.2 : Nat)] 38)) (by go_simp) ?_
      have hC : Below V1.heap.size V1 (V1.alloc (.cells #[.int .i64 p.1, .int .u64 (p.2 : Nat)] 38)) := Rows8.newB
      have hL : Rows8 (V1.alloc (.cells #[.int .i64 p.1, .int .u64 (p.2 : Nat)] 38)) V1.heap.size 38 #[.int .i64 p.1, .int .u64 (p.2 : Nat)] := Rows8.new _ _ _
      have HZ := Lib.hid (HZ.out.below hC HZ.out.lt)
      have HB := Lib.hid (HB.out.trans (hC.mono HB.out.size))
      have HSZ := Lib.hid (Nat.le_trans HSZ.out hC.size)
      have hS0 : Rows8 (V1.alloc (.cells #[.int .i64 p.1, .int .u64 (p.2 : Nat)] 38)) w.heap.size 26 #[.int .u64 (E : Nat), .slice (s.a 0) (s.n 0) (s.c 0), .slice (s.a 1) (s.n 1) (s.c 1), .slice (s.a 2) (s.n 2) (s.c 2)] ∧ Rows8 (V1.alloc (.cells #[.int .i64 p.1, .int .u64 (p.2 : Nat)] 38)) (w.heap.size + 1) 38 #[.int .i64 p.1, .int .u64 (p.2 : Nat)] := ⟨hS0.1.below hC hS0.1.lt, hS0.2.below hC hS0.2.lt⟩
      have L6 := Lib.hid hL
      clear hC hL
      obtain ⟨g6, hg6⟩ : ∃ g, g = V1.heap.size := ⟨_, rfl⟩
      rw [← hg6] at L6 ⊢
      clear hg6
      generalize V1.alloc (.cells #[.int .i64 p.1, .int .u64 (p.2 : Nat)] 38) = V2 at *
      refine hK.out _ _ (fun _ => hS0) ?_
      clear hK K
      try simp only [Act.put, List.setIfInBounds_toArray, List.set_cons_zero, List.set_cons_succ]
      refine wpAnyL_one (i := 1) (o := { dst := some 17, op := Go.Op.buildSlice 23 0 #[], type := 23, pos := "ref.go:79", after := #[], guard := none }) (by kernel_rfl) rfl (fun K hK => ?_)
      refine step_value_g (by rfl) (.slice (some ⟨V2.heap.size, 0, none⟩) 0 0) (w' := V2.alloc (.cells #[] 38)) (by go_simp) ?_
      have hC : Below V2.heap.size V2 (V2.alloc (.cells #[] 38)) := Rows8.newB
      have hO : OwnsP tE V0.heap.size [] (.slice (some ⟨V2.heap.size, 0, none⟩) 0 0) (V2.alloc (.cells #[] 38)) := World.ownsRow_lit V2 #[] 0 HSZ.out (by unfold maxLen; omega) rfl
      have NE := Lib.hid (show (Value.slice (some ⟨V2.heap.size, 0, none⟩) 0 0).ownBlock ≠ some g6 from fun e => by have h9 := L6.out.lt; injection e with e; have e2 : V2.heap.size = g6 := e; omega)
      have HZ := Lib.hid (HZ.out.below hC HZ.out.lt)
      have HB := Lib.hid (HB.out.trans (hC.mono HB.out.size))
      have HSZ := Lib.hid (Nat.le_trans HSZ.out hC.size)
      have L6 := Lib.hid (L6.out.below hC L6.out.lt)
      have hS0 : Rows8 (V2.alloc (.cells #[] 38)) w.heap.size 26 #[.int .u64 (E : Nat), .slice (s.a 0) (s.n 0) (s.c 0), .slice (s.a 1) (s.n 1) (s.c 1), .slice (s.a 2) (s.n 2) (s.c 2)] ∧ Rows8 (V2.alloc (.cells #[] 38)) (w.heap.size + 1) 38 #[.int .i64 p.1, .int .u64 (p.2 : Nat)] := ⟨hS0.1.below hC hS0.1.lt, hS0.2.below hC hS0.2.lt⟩
      have HO := Lib.hid hO
      clear hC hO
      generalize V2.alloc (.cells #[] 38) = V3 at *
      refine hK.out _ _ (fun _ => hS0) ?_
      clear hK K
      try simp only [Act.put, List.setIfInBounds_toArray, List.set_cons_zero, List.set_cons_succ]
      refine wpAnyL_one (i := 4) (o := { dst := some 20, op := Go.Op.call { callee := Go.Callee.builtin Go.Builtin.append, args := #[Go.Operand.tmp 17, Go.Operand.tmp 19], argTypes := #[23, 23] }, type := 23, pos := "ref.go:79", after := #[{ on := 1, ground := Go.Ground.data }, { on := 3, ground := Go.Ground.data }, { on := 3, ground := Go.Ground.chain }], guard := none }) (by kernel_rfl) rfl (fun K hK => ?_)
      obtain ⟨v4, V4, hrun, ho5, hg5⟩ := Tryd.app_row V3 V0.heap.size 23 _ _ HO.out (ofV E s 0) (ofL E r 0) (ofV_at (HI0.out.below HB.out) E 0) (by have := HLO.out; simp only [List.length_nil]; omega) HSZ.out
      refine step_value_g (by rfl) v4 (w' := V4) (exec_append _ _ _ rfl _ _ _ rfl rfl hrun) ?_
      have hne1 := owns_not HO.out hS0.1 (by decide)
      have hne2 := owns_not HO.out HZ.out (by decide)
      have hgb := HO.out
      have hk5 : Rows8 V4 w.heap.size 26 #[.int .u64 (E : Nat), .slice (s.a 0) (s.n 0) (s.c 0), .slice (s.a 1) (s.n 1) (s.c 1), .slice (s.a 2) (s.n 2) (s.c 2)] := (hg5.block _ hS0.1.lt (fun e => hne1 e.symm)).trans hS0.1
      have hp5 : Rows8 V4 (w.heap.size + 1) 38 #[.int .i64 p.1, .int .u64 (p.2 : Nat)] := (hg5.block _ hS0.2.lt (fun e => by have h1 := (World.ownsRow.lt hgb _ e.symm).1; have h2 := HPL.out; omega)).trans hS0.2
      have hz5 : Rows8 V4 (w.heap.size + 1 + 1) 26 #[.int .u64 0, .slice none 0 0, .slice none 0 0, .slice none 0 0] := (hg5.block _ HZ.out.lt (fun e => hne2 e.symm)).trans HZ.out
      have L6 : Hid (Rows8 V4 g6 38 #[.int .i64 p.1, .int .u64 (p.2 : Nat)]) := Lib.hid ((hg5.block _ L6.out.lt (fun e => NE.out e.symm)).trans L6.out)
      have HB := Lib.hid (HB.out.grown hg5 HB.out.size (fun j ej => Nat.le_trans HWB.out (World.ownsRow.lt hgb j ej).1))
      have HSZ := Lib.hid (Nat.le_trans HSZ.out hg5.size)
      have HZ := Lib.hid hz5
      have hS0 : Rows8 V4 w.heap.size 26 #[.int .u64 (E : Nat), .slice (s.a 0) (s.n 0) (s.c 0), .slice (s.a 1) (s.n 1) (s.c 1), .slice (s.a 2) (s.n 2) (s.c 2)] ∧ Rows8 V4 (w.heap.size + 1) 38 #[.int .i64 p.1, .int .u64 (p.2 : Nat)] := ⟨hk5, hp5⟩
      have HO := Lib.hid ho5
      clear hrun hg5 hne1 hne2 hgb hk5 hp5 hz5 ho5
      obtain ⟨a4, c4, rfl⟩ := HO.out.form
      refine hK.out _ _ (fun _ => hS0) ?_
      clear hK K
      try simp only [Act.put, List.setIfInBounds_toArray, List.set_cons_zero, List.set_cons_succ]
      refine wpAnyL_one (i := 7) (o := { dst := some 23, op := Go.Op.call { callee := Go.Callee.builtin Go.Builtin.append, args := #[Go.Operand.tmp 20, Go.Operand.tmp 22], argTypes := #[23, 23] }, type := 23, pos := "ref.go:79", after := #[{ on := 4, ground := Go.Ground.data }, { on := 6, ground := Go.Ground.data }, { on := 4, ground := Go.Ground.chain }], guard := none }) (by kernel_rfl) rfl (fun K hK => ?_)
      obtain ⟨v7, V5, hrun, ho5, hg5⟩ := Tryd.app_row V4 V0.heap.size 23 _ _ HO.out (.slice (some ⟨g6, 0, none⟩) 1 1) [p] (row_lit L6.out) (by have := HLO.out; simp; omega) HSZ.out
      refine step_value_g (by rfl) v7 (w' := V5) (exec_append _ _ _ rfl _ _ _ rfl rfl hrun) ?_
      have hne1 := owns_not HO.out hS0.1 (by decide)
      have hne2 := owns_not HO.out HZ.out (by decide)
      have hgb := HO.out
      have hk5 : Rows8 V5 w.heap.size 26 #[.int .u64 (E : Nat), .slice (s.a 0) (s.n 0) (s.c 0), .slice (s.a 1) (s.n 1) (s.c 1), .slice (s.a 2) (s.n 2) (s.c 2)] := (hg5.block _ hS0.1.lt (fun e => hne1 e.symm)).trans hS0.1
      have hp5 : Rows8 V5 (w.heap.size + 1) 38 #[.int .i64 p.1, .int .u64 (p.2 : Nat)] := (hg5.block _ hS0.2.lt (fun e => by have h1 := (World.ownsRow.lt hgb _ e.symm).1; have h2 := HPL.out; omega)).trans hS0.2
      have hz5 : Rows8 V5 (w.heap.size + 1 + 1) 26 #[.int .u64 0, .slice none 0 0, .slice none 0 0, .slice none 0 0] := (hg5.block _ HZ.out.lt (fun e => hne2 e.symm)).trans HZ.out
      have HB := Lib.hid (HB.out.grown hg5 HB.out.size (fun j ej => Nat.le_trans HWB.out (World.ownsRow.lt hgb j ej).1))
      have HSZ := Lib.hid (Nat.le_trans HSZ.out hg5.size)
      have HZ := Lib.hid hz5
      have hS0 : Rows8 V5 w.heap.size 26 #[.int .u64 (E : Nat), .slice (s.a 0) (s.n 0) (s.c 0), .slice (s.a 1) (s.n 1) (s.c 1), .slice (s.a 2) (s.n 2) (s.c 2)] ∧ Rows8 V5 (w.heap.size + 1) 38 #[.int .i64 p.1, .int .u64 (p.2 : Nat)] := ⟨hk5, hp5⟩
      have HO := Lib.hid ho5
      clear hrun hg5 hne1 hne2 hgb hk5 hp5 hz5 ho5
      obtain ⟨a5, c5, rfl⟩ := HO.out.form
      obtain ⟨n5, hn5⟩ : ∃ m, m = (([] : List Pr) ++ ofL E r 0 ++ [p]).length := ⟨_, rfl⟩
      rw [← hn5] at HO ⊢
      clear hn5 L6
      refine hK.out _ _ (fun _ => hS0) ?_
      clear hK K
      try simp only [Act.put, List.setIfInBounds_toArray, List.set_cons_zero, List.set_cons_succ]
      refine wpAnyL_one (i := 8) (o := { dst := some 24, op := Go.Op.call { callee := Go.Callee.value (Go.Operand.func 46), args := #[Go.Operand.tmp 16, Go.Operand.const (Go.Value.int Go.IntKind.u64 0), Go.Operand.tmp 23], argTypes := #[26, 22, 23] }, type := 26, pos := "ref.go:79", after := #[{ on := 0, ground := Go.Ground.data }, { on := 7, ground := Go.Ground.data }, { on := 7, ground := Go.Ground.chain }], guard := none }) (by kernel_rfl) rfl (fun K hK => ?_)
      have HWt := Tryd.with_any E s 0 a5 n5 c5 V5 (by have := HE.out; omega) (Nat.zero_le _)
      refine step_call_g (by rfl) 46 _ _ rfl (fun _ _ => by kernel_rfl) #[.agg #[.int .u64 (E : Nat), .slice (s.a 0) (s.n 0) (s.c 0), .slice (s.a 1) (s.n 1) (s.c 1), .slice (s.a 2) (s.n 2) (s.c 2)], .int .u64 0, .slice a5 n5 c5] (by simp [go_sem]) _ (show Calls Tryd.prog 46 #[.agg #[.int .u64 (E : Nat), .slice (s.a 0) (s.n 0) (s.c 0), .slice (s.a 1) (s.n 1) (s.c 1), .slice (s.a 2) (s.n 2) (s.c 2)], .int .u64 0, .slice a5 n5 c5] V5 _ from HWt) ?_
      rintro e V6 ⟨rfl, hC⟩
      have HZ := Lib.hid (HZ.out.below hC HZ.out.lt)
      have HB := Lib.hid (HB.out.trans (hC.mono HB.out.size))
      have HSZ := Lib.hid (Nat.le_trans HSZ.out hC.size)
      have HO := Lib.hid (HO.out.below hC (Nat.le_refl _))
      have hS0 : Rows8 V6 w.heap.size 26 #[.int .u64 (E : Nat), .slice (s.a 0) (s.n 0) (s.c 0), .slice (s.a 1) (s.n 1) (s.c 1), .slice (s.a 2) (s.n 2) (s.c 2)] ∧ Rows8 V6 (w.heap.size + 1) 38 #[.int .i64 p.1, .int .u64 (p.2 : Nat)] := ⟨hS0.1.below hC hS0.1.lt, hS0.2.below hC hS0.2.lt⟩
      obtain ⟨s', hs'⟩ : ∃ x, x = s.upd ((E - 0) % 3) a5 n5 c5 := ⟨_, rfl⟩
      rw [← hs'] at ⊢
      have HSS := Lib.hid hs'
      clear hC HWt hs'
      refine ⟨_, rfl, ?_⟩
      refine hK.out _ _ (fun _ => hS0) ?_
      clear hK K
      try simp only [Act.put, List.setIfInBounds_toArray, List.set_cons_zero, List.set_cons_succ]
      refine wpAnyL_one (i := 9) (o := { dst := none, op := Go.Op.store 26 (Go.Operand.tmp 4) (Go.Operand.tmp 24), type := 0, pos := "ref.go:79", after := #[{ on := 8, ground := Go.Ground.data }, { on := 8, ground := Go.Ground.chain }, { on := 0, ground := Go.Ground.phase }, { on := 1, ground := Go.Ground.phase }, { on := 2, ground := Go.Ground.phase }, { on := 3, ground := Go.Ground.phase }, { on := 4, ground := Go.Ground.phase }, { on := 5, ground := Go.Ground.phase }, { on := 6, ground := Go.Ground.phase }, { on := 7, ground := Go.Ground.phase }, { on := 8, ground := Go.Ground.phase }], guard := none }) (by kernel_rfl) rfl (fun K hK => ?_)
      have z0 : V6.cell? ⟨w.heap.size + 1 + 1, 0, none⟩ = some (.int .u64 0) := HZ.out.cell 0
      have f0 := HZ.out.frozen 0
      have z1 : V6.cell? ⟨w.heap.size + 1 + 1, 1, none⟩ = some (.slice none 0 0) := HZ.out.cell 1
      have f1 := HZ.out.frozen 1
      have z2 : V6.cell? ⟨w.heap.size + 1 + 1, 2, none⟩ = some (.slice none 0 0) := HZ.out.cell 2
      have f2 := HZ.out.frozen 2
      have z3 : V6.cell? ⟨w.heap.size + 1 + 1, 3, none⟩ = some (.slice none 0 0) := HZ.out.cell 3
      have f3 := HZ.out.frozen 3
      have ltz := HZ.out.lt
      refine step_skip_g (by rfl) (w' := ((((V6.setCell ⟨w.heap.size + 1 + 1, 0, none⟩ (.int .u64 (E : Nat))).setCell ⟨w.heap.size + 1 + 1, 1, none⟩ (.slice (s'.a 0) (s'.n 0) (s'.c 0))).setCell ⟨w.heap.size + 1 + 1, 2, none⟩ (.slice (s'.a 1) (s'.n 1) (s'.c 1))).setCell ⟨w.heap.size + 1 + 1, 3, none⟩ (.slice (s'.a 2) (s'.n 2) (s'.c 2)))) (by go_simp) ?_
      have HR := Lib.hid (rows4 HZ.out (.int .u64 (E : Nat)) (.slice (s'.a 0) (s'.n 0) (s'.c 0)) (.slice (s'.a 1) (s'.n 1) (s'.c 1)) (.slice (s'.a 2) (s'.n 2) (s'.c 2)))
      have HB3 := Lib.hid (below4 HB.out (B := w.heap.size + 1 + 1) (by show w.heap.size ≤ w.heap.size + 1 + 1; omega) (.int .u64 (E : Nat)) (.slice (s'.a 0) (s'.n 0) (s'.c 0)) (.slice (s'.a 1) (s'.n 1) (s'.c 1)) (.slice (s'.a 2) (s'.n 2) (s'.c 2)))
      have hq9 := HQL.out
      have HO9 := Lib.hid (show OwnsP tE V0.heap.size (([] : List Pr) ++ ofL E r 0 ++ [p]) (.slice a5 n5 c5) ((((V6.setCell ⟨w.heap.size + 1 + 1, 0, none⟩ (.int .u64 (E : Nat))).setCell ⟨w.heap.size + 1 + 1, 1, none⟩ (.slice (s'.a 0) (s'.n 0) (s'.c 0))).setCell ⟨w.heap.size + 1 + 1, 2, none⟩ (.slice (s'.a 1) (s'.n 1) (s'.c 1))).setCell ⟨w.heap.size + 1 + 1, 3, none⟩ (.slice (s'.a 2) (s'.n 2) (s'.c 2))) from (own_lowT (own_lowT (own_lowT (own_lowT HO.out (B := w.heap.size + 1 + 1) (by omega) 0 _) (B := w.heap.size + 1 + 1) (by omega) 1 _) (B := w.heap.size + 1 + 1) (by omega) 2 _) (B := w.heap.size + 1 + 1) (by omega) 3 _))
      clear z0 z1 z2 z3 f0 f1 f2 f3 ltz hq9
      generalize ((((V6.setCell ⟨w.heap.size + 1 + 1, 0, none⟩ (.int .u64 (E : Nat))).setCell ⟨w.heap.size + 1 + 1, 1, none⟩ (.slice (s'.a 0) (s'.n 0) (s'.c 0))).setCell ⟨w.heap.size + 1 + 1, 2, none⟩ (.slice (s'.a 1) (s'.n 1) (s'.c 1))).setCell ⟨w.heap.size + 1 + 1, 3, none⟩ (.slice (s'.a 2) (s'.n 2) (s'.c 2))) = X8 at *
      refine hK.out _ _ (fun h => absurd h (by decide)) ?_
      clear hK K
      try simp only [Act.put, List.setIfInBounds_toArray, List.set_cons_zero, List.set_cons_succ]
      refine wpAnyL_one (i := 10) (o := { dst := some 5, op := Go.Op.assign (Go.Operand.const (Go.Value.int Go.IntKind.i64 0)), type := 31, pos := "ref.go:79", after := #[{ on := 9, ground := Go.Ground.chain }, { on := 0, ground := Go.Ground.phase }, { on := 1, ground := Go.Ground.phase }, { on := 2, ground := Go.Ground.phase }, { on := 3, ground := Go.Ground.phase }, { on := 4, ground := Go.Ground.phase }, { on := 5, ground := Go.Ground.phase }, { on := 6, ground := Go.Ground.phase }, { on := 7, ground := Go.Ground.phase }, { on := 8, ground := Go.Ground.phase }, { on := 9, ground := Go.Ground.phase }], guard := none }) (by kernel_rfl) rfl (fun K hK => ?_)
      refine step_value_g (by rfl) (.int .i64 0) (w' := X8) (by go_simp) ?_
      refine hK.out _ _ (fun h => absurd h (by decide)) ?_
      clear hK K
      try simp only [Act.put, List.setIfInBounds_toArray, List.set_cons_zero, List.set_cons_succ]
      refine wpAnyL_end (by kernel_rfl) ?_
      exact HK5.out X8 s' a5 n5 c5 _ _ _ _ _ _ _ _ _ HR.out HSS.out HO9.out HB3.out
  · refine step_value_g (by rfl) (.slice (some ⟨V0.heap.size, 0, none⟩) 1 1) (w' := V0.alloc (.cells #[.int .i64 p.1, .int .u64 (p.2 : Nat)] 38)) (by go_simp) ?_
    have hC : Below V0.heap.size V0 (V0.alloc (.cells #[.int .i64 p.1, .int .u64 (p.2 : Nat)] 38)) := Rows8.newB
    have hL : Rows8 (V0.alloc (.cells #[.int .i64 p.1, .int .u64 (p.2 : Nat)] 38)) V0.heap.size 38 #[.int .i64 p.1, .int .u64 (p.2 : Nat)] := Rows8.new _ _ _
    have HZ := Lib.hid (HZ.out.below hC HZ.out.lt)
    have HB := Lib.hid (HB.out.trans (hC.mono HB.out.size))
    have HSZ := Lib.hid (Nat.le_trans HSZ.out hC.size)
    have hS0 : Rows8 (V0.alloc (.cells #[.int .i64 p.1, .int .u64 (p.2 : Nat)] 38)) w.heap.size 26 #[.int .u64 (E : Nat), .slice (s.a 0) (s.n 0) (s.c 0), .slice (s.a 1) (s.n 1) (s.c 1), .slice (s.a 2) (s.n 2) (s.c 2)] ∧ Rows8 (V0.alloc (.cells #[.int .i64 p.1, .int .u64 (p.2 : Nat)] 38)) (w.heap.size + 1) 38 #[.int .i64 p.1, .int .u64 (p.2 : Nat)] := ⟨hS0.1.below hC hS0.1.lt, hS0.2.below hC hS0.2.lt⟩
    have L6 := Lib.hid hL
    clear hC hL
    obtain ⟨g6, hg6⟩ : ∃ g, g = V0.heap.size := ⟨_, rfl⟩
    rw [← hg6] at L6 ⊢
    clear hg6
    generalize V0.alloc (.cells #[.int .i64 p.1, .int .u64 (p.2 : Nat)] 38) = V1 at *
    refine hK.out _ _ (fun _ => hS0) ?_
    clear hK K
    try simp only [Act.put, List.setIfInBounds_toArray, List.set_cons_zero, List.set_cons_succ]
    refine wpAnyL_two (i := 1) (j := 3) (oi := { dst := some 17, op := Go.Op.buildSlice 23 0 #[], type := 23, pos := "ref.go:79", after := #[], guard := none }) (oj := { dst := some 19, op := Go.Op.call { callee := Go.Callee.value (Go.Operand.func 13), args := #[Go.Operand.tmp 18, Go.Operand.const (Go.Value.int Go.IntKind.u64 0)], argTypes := #[26, 22] }, type := 23, pos := "ref.go:79", after := #[{ on := 2, ground := Go.Ground.data }], guard := none }) (by kernel_rfl) rfl rfl (fun K hK => ?_) (fun K hK => ?_)
    · refine step_value_g (by rfl) (.slice (some ⟨V1.heap.size, 0, none⟩) 0 0) (w' := V1.alloc (.cells #[] 38)) (by go_simp) ?_
      have hC : Below V1.heap.size V1 (V1.alloc (.cells #[] 38)) := Rows8.newB
      have hO : OwnsP tE V0.heap.size [] (.slice (some ⟨V1.heap.size, 0, none⟩) 0 0) (V1.alloc (.cells #[] 38)) := World.ownsRow_lit V1 #[] 0 HSZ.out (by unfold maxLen; omega) rfl
      have NE := Lib.hid (show (Value.slice (some ⟨V1.heap.size, 0, none⟩) 0 0).ownBlock ≠ some g6 from fun e => by have h9 := L6.out.lt; injection e with e; have e2 : V1.heap.size = g6 := e; omega)
      have HZ := Lib.hid (HZ.out.below hC HZ.out.lt)
      have HB := Lib.hid (HB.out.trans (hC.mono HB.out.size))
      have HSZ := Lib.hid (Nat.le_trans HSZ.out hC.size)
      have L6 := Lib.hid (L6.out.below hC L6.out.lt)
      have hS0 : Rows8 (V1.alloc (.cells #[] 38)) w.heap.size 26 #[.int .u64 (E : Nat), .slice (s.a 0) (s.n 0) (s.c 0), .slice (s.a 1) (s.n 1) (s.c 1), .slice (s.a 2) (s.n 2) (s.c 2)] ∧ Rows8 (V1.alloc (.cells #[] 38)) (w.heap.size + 1) 38 #[.int .i64 p.1, .int .u64 (p.2 : Nat)] := ⟨hS0.1.below hC hS0.1.lt, hS0.2.below hC hS0.2.lt⟩
      have HO := Lib.hid hO
      clear hC hO
      generalize V1.alloc (.cells #[] 38) = V2 at *
      refine hK.out _ _ (fun _ => hS0) ?_
      clear hK K
      try simp only [Act.put, List.setIfInBounds_toArray, List.set_cons_zero, List.set_cons_succ]
      refine wpAnyL_one (i := 3) (o := { dst := some 19, op := Go.Op.call { callee := Go.Callee.value (Go.Operand.func 13), args := #[Go.Operand.tmp 18, Go.Operand.const (Go.Value.int Go.IntKind.u64 0)], argTypes := #[26, 22] }, type := 23, pos := "ref.go:79", after := #[{ on := 2, ground := Go.Ground.data }], guard := none }) (by kernel_rfl) rfl (fun K hK => ?_)
      refine step_call_g (by rfl) 13 _ _ rfl (fun _ _ => by kernel_rfl) #[.agg #[.int .u64 (E : Nat), .slice (s.a 0) (s.n 0) (s.c 0), .slice (s.a 1) (s.n 1) (s.c 1), .slice (s.a 2) (s.n 2) (s.c 2)], .int .u64 0] (by simp [go_sem]) _ (show Calls Tryd.prog 13 #[.agg #[.int .u64 (E : Nat), .slice (s.a 0) (s.n 0) (s.c 0), .slice (s.a 1) (s.n 1) (s.c 1), .slice (s.a 2) (s.n 2) (s.c 2)], .int .u64 0] V2 _ from Tryd.refOf_any E s 0 V2 (by have := HE.out; omega) (by decide)) ?_
      rintro e V3 ⟨rfl, hC⟩
      have HZ := Lib.hid (HZ.out.below hC HZ.out.lt)
      have HB := Lib.hid (HB.out.trans (hC.mono HB.out.size))
      have HSZ := Lib.hid (Nat.le_trans HSZ.out hC.size)
      have HO := Lib.hid (HO.out.below hC (Nat.le_refl _))
      have L6 := Lib.hid (L6.out.below hC L6.out.lt)
      have hS0 : Rows8 V3 w.heap.size 26 #[.int .u64 (E : Nat), .slice (s.a 0) (s.n 0) (s.c 0), .slice (s.a 1) (s.n 1) (s.c 1), .slice (s.a 2) (s.n 2) (s.c 2)] ∧ Rows8 V3 (w.heap.size + 1) 38 #[.int .i64 p.1, .int .u64 (p.2 : Nat)] := ⟨hS0.1.below hC hS0.1.lt, hS0.2.below hC hS0.2.lt⟩
      clear hC
      refine ⟨_, rfl, ?_⟩
      refine hK.out _ _ (fun _ => hS0) ?_
      clear hK K
      try simp only [Act.put, List.setIfInBounds_toArray, List.set_cons_zero, List.set_cons_succ]
      refine wpAnyL_one (i := 4) (o := { dst := some 20, op := Go.Op.call { callee := Go.Callee.builtin Go.Builtin.append, args := #[Go.Operand.tmp 17, Go.Operand.tmp 19], argTypes := #[23, 23] }, type := 23, pos := "ref.go:79", after := #[{ on := 1, ground := Go.Ground.data }, { on := 3, ground := Go.Ground.data }, { on := 3, ground := Go.Ground.chain }], guard := none }) (by kernel_rfl) rfl (fun K hK => ?_)
      obtain ⟨v4, V4, hrun, ho5, hg5⟩ := Tryd.app_row V3 V0.heap.size 23 _ _ HO.out (ofV E s 0) (ofL E r 0) (ofV_at (HI0.out.below HB.out) E 0) (by have := HLO.out; simp only [List.length_nil]; omega) HSZ.out
      refine step_value_g (by rfl) v4 (w' := V4) (exec_append _ _ _ rfl _ _ _ rfl rfl hrun) ?_
      have hne1 := owns_not HO.out hS0.1 (by decide)
      have hne2 := owns_not HO.out HZ.out (by decide)
      have hgb := HO.out
      have hk5 : Rows8 V4 w.heap.size 26 #[.int .u64 (E : Nat), .slice (s.a 0) (s.n 0) (s.c 0), .slice (s.a 1) (s.n 1) (s.c 1), .slice (s.a 2) (s.n 2) (s.c 2)] := (hg5.block _ hS0.1.lt (fun e => hne1 e.symm)).trans hS0.1
      have hp5 : Rows8 V4 (w.heap.size + 1) 38 #[.int .i64 p.1, .int .u64 (p.2 : Nat)] := (hg5.block _ hS0.2.lt (fun e => by have h1 := (World.ownsRow.lt hgb _ e.symm).1; have h2 := HPL.out; omega)).trans hS0.2
      have hz5 : Rows8 V4 (w.heap.size + 1 + 1) 26 #[.int .u64 0, .slice none 0 0, .slice none 0 0, .slice none 0 0] := (hg5.block _ HZ.out.lt (fun e => hne2 e.symm)).trans HZ.out
      have L6 : Hid (Rows8 V4 g6 38 #[.int .i64 p.1, .int .u64 (p.2 : Nat)]) := Lib.hid ((hg5.block _ L6.out.lt (fun e => NE.out e.symm)).trans L6.out)
      have HB := Lib.hid (HB.out.grown hg5 HB.out.size (fun j ej => Nat.le_trans HWB.out (World.ownsRow.lt hgb j ej).1))
      have HSZ := Lib.hid (Nat.le_trans HSZ.out hg5.size)
      have HZ := Lib.hid hz5
      have hS0 : Rows8 V4 w.heap.size 26 #[.int .u64 (E : Nat), .slice (s.a 0) (s.n 0) (s.c 0), .slice (s.a 1) (s.n 1) (s.c 1), .slice (s.a 2) (s.n 2) (s.c 2)] ∧ Rows8 V4 (w.heap.size + 1) 38 #[.int .i64 p.1, .int .u64 (p.2 : Nat)] := ⟨hk5, hp5⟩
      have HO := Lib.hid ho5
      clear hrun hg5 hne1 hne2 hgb hk5 hp5 hz5 ho5
      obtain ⟨a4, c4, rfl⟩ := HO.out.form
      refine hK.out _ _ (fun _ => hS0) ?_
      clear hK K
      try simp only [Act.put, List.setIfInBounds_toArray, List.set_cons_zero, List.set_cons_succ]
      refine wpAnyL_one (i := 7) (o := { dst := some 23, op := Go.Op.call { callee := Go.Callee.builtin Go.Builtin.append, args := #[Go.Operand.tmp 20, Go.Operand.tmp 22], argTypes := #[23, 23] }, type := 23, pos := "ref.go:79", after := #[{ on := 4, ground := Go.Ground.data }, { on := 6, ground := Go.Ground.data }, { on := 4, ground := Go.Ground.chain }], guard := none }) (by kernel_rfl) rfl (fun K hK => ?_)
      obtain ⟨v7, V5, hrun, ho5, hg5⟩ := Tryd.app_row V4 V0.heap.size 23 _ _ HO.out (.slice (some ⟨g6, 0, none⟩) 1 1) [p] (row_lit L6.out) (by have := HLO.out; simp; omega) HSZ.out
      refine step_value_g (by rfl) v7 (w' := V5) (exec_append _ _ _ rfl _ _ _ rfl rfl hrun) ?_
      have hne1 := owns_not HO.out hS0.1 (by decide)
      have hne2 := owns_not HO.out HZ.out (by decide)
      have hgb := HO.out
      have hk5 : Rows8 V5 w.heap.size 26 #[.int .u64 (E : Nat), .slice (s.a 0) (s.n 0) (s.c 0), .slice (s.a 1) (s.n 1) (s.c 1), .slice (s.a 2) (s.n 2) (s.c 2)] := (hg5.block _ hS0.1.lt (fun e => hne1 e.symm)).trans hS0.1
      have hp5 : Rows8 V5 (w.heap.size + 1) 38 #[.int .i64 p.1, .int .u64 (p.2 : Nat)] := (hg5.block _ hS0.2.lt (fun e => by have h1 := (World.ownsRow.lt hgb _ e.symm).1; have h2 := HPL.out; omega)).trans hS0.2
      have hz5 : Rows8 V5 (w.heap.size + 1 + 1) 26 #[.int .u64 0, .slice none 0 0, .slice none 0 0, .slice none 0 0] := (hg5.block _ HZ.out.lt (fun e => hne2 e.symm)).trans HZ.out
      have HB := Lib.hid (HB.out.grown hg5 HB.out.size (fun j ej => Nat.le_trans HWB.out (World.ownsRow.lt hgb j ej).1))
      have HSZ := Lib.hid (Nat.le_trans HSZ.out hg5.size)
      have HZ := Lib.hid hz5
      have hS0 : Rows8 V5 w.heap.size 26 #[.int .u64 (E : Nat), .slice (s.a 0) (s.n 0) (s.c 0), .slice (s.a 1) (s.n 1) (s.c 1), .slice (s.a 2) (s.n 2) (s.c 2)] ∧ Rows8 V5 (w.heap.size + 1) 38 #[.int .i64 p.1, .int .u64 (p.2 : Nat)] := ⟨hk5, hp5⟩
      have HO := Lib.hid ho5
      clear hrun hg5 hne1 hne2 hgb hk5 hp5 hz5 ho5
      obtain ⟨a5, c5, rfl⟩ := HO.out.form
      obtain ⟨n5, hn5⟩ : ∃ m, m = (([] : List Pr) ++ ofL E r 0 ++ [p]).length := ⟨_, rfl⟩
      rw [← hn5] at HO ⊢
      clear hn5 L6
      refine hK.out _ _ (fun _ => hS0) ?_
      clear hK K
      try simp only [Act.put, List.setIfInBounds_toArray, List.set_cons_zero, List.set_cons_succ]
      refine wpAnyL_one (i := 8) (o := { dst := some 24, op := Go.Op.call { callee := Go.Callee.value (Go.Operand.func 46), args := #[Go.Operand.tmp 16, Go.Operand.const (Go.Value.int Go.IntKind.u64 0), Go.Operand.tmp 23], argTypes := #[26, 22, 23] }, type := 26, pos := "ref.go:79", after := #[{ on := 0, ground := Go.Ground.data }, { on := 7, ground := Go.Ground.data }, { on := 7, ground := Go.Ground.chain }], guard := none }) (by kernel_rfl) rfl (fun K hK => ?_)
      have HWt := Tryd.with_any E s 0 a5 n5 c5 V5 (by have := HE.out; omega) (Nat.zero_le _)
      refine step_call_g (by rfl) 46 _ _ rfl (fun _ _ => by kernel_rfl) #[.agg #[.int .u64 (E : Nat), .slice (s.a 0) (s.n 0) (s.c 0), .slice (s.a 1) (s.n 1) (s.c 1), .slice (s.a 2) (s.n 2) (s.c 2)], .int .u64 0, .slice a5 n5 c5] (by simp [go_sem]) _ (show Calls Tryd.prog 46 #[.agg #[.int .u64 (E : Nat), .slice (s.a 0) (s.n 0) (s.c 0), .slice (s.a 1) (s.n 1) (s.c 1), .slice (s.a 2) (s.n 2) (s.c 2)], .int .u64 0, .slice a5 n5 c5] V5 _ from HWt) ?_
      rintro e V6 ⟨rfl, hC⟩
      have HZ := Lib.hid (HZ.out.below hC HZ.out.lt)
      have HB := Lib.hid (HB.out.trans (hC.mono HB.out.size))
      have HSZ := Lib.hid (Nat.le_trans HSZ.out hC.size)
      have HO := Lib.hid (HO.out.below hC (Nat.le_refl _))
      have hS0 : Rows8 V6 w.heap.size 26 #[.int .u64 (E : Nat), .slice (s.a 0) (s.n 0) (s.c 0), .slice (s.a 1) (s.n 1) (s.c 1), .slice (s.a 2) (s.n 2) (s.c 2)] ∧ Rows8 V6 (w.heap.size + 1) 38 #[.int .i64 p.1, .int .u64 (p.2 : Nat)] := ⟨hS0.1.below hC hS0.1.lt, hS0.2.below hC hS0.2.lt⟩
      obtain ⟨s', hs'⟩ : ∃ x, x = s.upd ((E - 0) % 3) a5 n5 c5 := ⟨_, rfl⟩
      rw [← hs'] at ⊢
      have HSS := Lib.hid hs'
      clear hC HWt hs'
      refine ⟨_, rfl, ?_⟩
      refine hK.out _ _ (fun _ => hS0) ?_
      clear hK K
      try simp only [Act.put, List.setIfInBounds_toArray, List.set_cons_zero, List.set_cons_succ]
      refine wpAnyL_one (i := 9) (o := { dst := none, op := Go.Op.store 26 (Go.Operand.tmp 4) (Go.Operand.tmp 24), type := 0, pos := "ref.go:79", after := #[{ on := 8, ground := Go.Ground.data }, { on := 8, ground := Go.Ground.chain }, { on := 0, ground := Go.Ground.phase }, { on := 1, ground := Go.Ground.phase }, { on := 2, ground := Go.Ground.phase }, { on := 3, ground := Go.Ground.phase }, { on := 4, ground := Go.Ground.phase }, { on := 5, ground := Go.Ground.phase }, { on := 6, ground := Go.Ground.phase }, { on := 7, ground := Go.Ground.phase }, { on := 8, ground := Go.Ground.phase }], guard := none }) (by kernel_rfl) rfl (fun K hK => ?_)
      have z0 : V6.cell? ⟨w.heap.size + 1 + 1, 0, none⟩ = some (.int .u64 0) := HZ.out.cell 0
      have f0 := HZ.out.frozen 0
      have z1 : V6.cell? ⟨w.heap.size + 1 + 1, 1, none⟩ = some (.slice none 0 0) := HZ.out.cell 1
      have f1 := HZ.out.frozen 1
      have z2 : V6.cell? ⟨w.heap.size + 1 + 1, 2, none⟩ = some (.slice none 0 0) := HZ.out.cell 2
      have f2 := HZ.out.frozen 2
      have z3 : V6.cell? ⟨w.heap.size + 1 + 1, 3, none⟩ = some (.slice none 0 0) := HZ.out.cell 3
      have f3 := HZ.out.frozen 3
      have ltz := HZ.out.lt
      refine step_skip_g (by rfl) (w' := ((((V6.setCell ⟨w.heap.size + 1 + 1, 0, none⟩ (.int .u64 (E : Nat))).setCell ⟨w.heap.size + 1 + 1, 1, none⟩ (.slice (s'.a 0) (s'.n 0) (s'.c 0))).setCell ⟨w.heap.size + 1 + 1, 2, none⟩ (.slice (s'.a 1) (s'.n 1) (s'.c 1))).setCell ⟨w.heap.size + 1 + 1, 3, none⟩ (.slice (s'.a 2) (s'.n 2) (s'.c 2)))) (by go_simp) ?_
      have HR := Lib.hid (rows4 HZ.out (.int .u64 (E : Nat)) (.slice (s'.a 0) (s'.n 0) (s'.c 0)) (.slice (s'.a 1) (s'.n 1) (s'.c 1)) (.slice (s'.a 2) (s'.n 2) (s'.c 2)))
      have HB3 := Lib.hid (below4 HB.out (B := w.heap.size + 1 + 1) (by show w.heap.size ≤ w.heap.size + 1 + 1; omega) (.int .u64 (E : Nat)) (.slice (s'.a 0) (s'.n 0) (s'.c 0)) (.slice (s'.a 1) (s'.n 1) (s'.c 1)) (.slice (s'.a 2) (s'.n 2) (s'.c 2)))
      have hq9 := HQL.out
      have HO9 := Lib.hid (show OwnsP tE V0.heap.size (([] : List Pr) ++ ofL E r 0 ++ [p]) (.slice a5 n5 c5) ((((V6.setCell ⟨w.heap.size + 1 + 1, 0, none⟩ (.int .u64 (E : Nat))).setCell ⟨w.heap.size + 1 + 1, 1, none⟩ (.slice (s'.a 0) (s'.n 0) (s'.c 0))).setCell ⟨w.heap.size + 1 + 1, 2, none⟩ (.slice (s'.a 1) (s'.n 1) (s'.c 1))).setCell ⟨w.heap.size + 1 + 1, 3, none⟩ (.slice (s'.a 2) (s'.n 2) (s'.c 2))) from (own_lowT (own_lowT (own_lowT (own_lowT HO.out (B := w.heap.size + 1 + 1) (by omega) 0 _) (B := w.heap.size + 1 + 1) (by omega) 1 _) (B := w.heap.size + 1 + 1) (by omega) 2 _) (B := w.heap.size + 1 + 1) (by omega) 3 _))
      clear z0 z1 z2 z3 f0 f1 f2 f3 ltz hq9
      generalize ((((V6.setCell ⟨w.heap.size + 1 + 1, 0, none⟩ (.int .u64 (E : Nat))).setCell ⟨w.heap.size + 1 + 1, 1, none⟩ (.slice (s'.a 0) (s'.n 0) (s'.c 0))).setCell ⟨w.heap.size + 1 + 1, 2, none⟩ (.slice (s'.a 1) (s'.n 1) (s'.c 1))).setCell ⟨w.heap.size + 1 + 1, 3, none⟩ (.slice (s'.a 2) (s'.n 2) (s'.c 2))) = X8 at *
      refine hK.out _ _ (fun h => absurd h (by decide)) ?_
      clear hK K
      try simp only [Act.put, List.setIfInBounds_toArray, List.set_cons_zero, List.set_cons_succ]
      refine wpAnyL_one (i := 10) (o := { dst := some 5, op := Go.Op.assign (Go.Operand.const (Go.Value.int Go.IntKind.i64 0)), type := 31, pos := "ref.go:79", after := #[{ on := 9, ground := Go.Ground.chain }, { on := 0, ground := Go.Ground.phase }, { on := 1, ground := Go.Ground.phase }, { on := 2, ground := Go.Ground.phase }, { on := 3, ground := Go.Ground.phase }, { on := 4, ground := Go.Ground.phase }, { on := 5, ground := Go.Ground.phase }, { on := 6, ground := Go.Ground.phase }, { on := 7, ground := Go.Ground.phase }, { on := 8, ground := Go.Ground.phase }, { on := 9, ground := Go.Ground.phase }], guard := none }) (by kernel_rfl) rfl (fun K hK => ?_)
      refine step_value_g (by rfl) (.int .i64 0) (w' := X8) (by go_simp) ?_
      refine hK.out _ _ (fun h => absurd h (by decide)) ?_
      clear hK K
      try simp only [Act.put, List.setIfInBounds_toArray, List.set_cons_zero, List.set_cons_succ]
      refine wpAnyL_end (by kernel_rfl) ?_
      exact HK5.out X8 s' a5 n5 c5 _ _ _ _ _ _ _ _ _ HR.out HSS.out HO9.out HB3.out
    · refine step_call_g (by rfl) 13 _ _ rfl (fun _ _ => by kernel_rfl) #[.agg #[.int .u64 (E : Nat), .slice (s.a 0) (s.n 0) (s.c 0), .slice (s.a 1) (s.n 1) (s.c 1), .slice (s.a 2) (s.n 2) (s.c 2)], .int .u64 0] (by simp [go_sem]) _ (show Calls Tryd.prog 13 #[.agg #[.int .u64 (E : Nat), .slice (s.a 0) (s.n 0) (s.c 0), .slice (s.a 1) (s.n 1) (s.c 1), .slice (s.a 2) (s.n 2) (s.c 2)], .int .u64 0] V1 _ from Tryd.refOf_any E s 0 V1 (by have := HE.out; omega) (by decide)) ?_
      rintro e V2 ⟨rfl, hC⟩
      have HZ := Lib.hid (HZ.out.below hC HZ.out.lt)
      have HB := Lib.hid (HB.out.trans (hC.mono HB.out.size))
      have HSZ := Lib.hid (Nat.le_trans HSZ.out hC.size)
      have L6 := Lib.hid (L6.out.below hC L6.out.lt)
      have hS0 : Rows8 V2 w.heap.size 26 #[.int .u64 (E : Nat), .slice (s.a 0) (s.n 0) (s.c 0), .slice (s.a 1) (s.n 1) (s.c 1), .slice (s.a 2) (s.n 2) (s.c 2)] ∧ Rows8 V2 (w.heap.size + 1) 38 #[.int .i64 p.1, .int .u64 (p.2 : Nat)] := ⟨hS0.1.below hC hS0.1.lt, hS0.2.below hC hS0.2.lt⟩
      clear hC
      refine ⟨_, rfl, ?_⟩
      refine hK.out _ _ (fun _ => hS0) ?_
      clear hK K
      try simp only [Act.put, List.setIfInBounds_toArray, List.set_cons_zero, List.set_cons_succ]
      refine wpAnyL_one (i := 1) (o := { dst := some 17, op := Go.Op.buildSlice 23 0 #[], type := 23, pos := "ref.go:79", after := #[], guard := none }) (by kernel_rfl) rfl (fun K hK => ?_)
      refine step_value_g (by rfl) (.slice (some ⟨V2.heap.size, 0, none⟩) 0 0) (w' := V2.alloc (.cells #[] 38)) (by go_simp) ?_
      have hC : Below V2.heap.size V2 (V2.alloc (.cells #[] 38)) := Rows8.newB
      have hO : OwnsP tE V0.heap.size [] (.slice (some ⟨V2.heap.size, 0, none⟩) 0 0) (V2.alloc (.cells #[] 38)) := World.ownsRow_lit V2 #[] 0 HSZ.out (by unfold maxLen; omega) rfl
      have NE := Lib.hid (show (Value.slice (some ⟨V2.heap.size, 0, none⟩) 0 0).ownBlock ≠ some g6 from fun e => by have h9 := L6.out.lt; injection e with e; have e2 : V2.heap.size = g6 := e; omega)
      have HZ := Lib.hid (HZ.out.below hC HZ.out.lt)
      have HB := Lib.hid (HB.out.trans (hC.mono HB.out.size))
      have HSZ := Lib.hid (Nat.le_trans HSZ.out hC.size)
      have L6 := Lib.hid (L6.out.below hC L6.out.lt)
      have hS0 : Rows8 (V2.alloc (.cells #[] 38)) w.heap.size 26 #[.int .u64 (E : Nat), .slice (s.a 0) (s.n 0) (s.c 0), .slice (s.a 1) (s.n 1) (s.c 1), .slice (s.a 2) (s.n 2) (s.c 2)] ∧ Rows8 (V2.alloc (.cells #[] 38)) (w.heap.size + 1) 38 #[.int .i64 p.1, .int .u64 (p.2 : Nat)] := ⟨hS0.1.below hC hS0.1.lt, hS0.2.below hC hS0.2.lt⟩
      have HO := Lib.hid hO
      clear hC hO
      generalize V2.alloc (.cells #[] 38) = V3 at *
      refine hK.out _ _ (fun _ => hS0) ?_
      clear hK K
      try simp only [Act.put, List.setIfInBounds_toArray, List.set_cons_zero, List.set_cons_succ]
      refine wpAnyL_one (i := 4) (o := { dst := some 20, op := Go.Op.call { callee := Go.Callee.builtin Go.Builtin.append, args := #[Go.Operand.tmp 17, Go.Operand.tmp 19], argTypes := #[23, 23] }, type := 23, pos := "ref.go:79", after := #[{ on := 1, ground := Go.Ground.data }, { on := 3, ground := Go.Ground.data }, { on := 3, ground := Go.Ground.chain }], guard := none }) (by kernel_rfl) rfl (fun K hK => ?_)
      obtain ⟨v4, V4, hrun, ho5, hg5⟩ := Tryd.app_row V3 V0.heap.size 23 _ _ HO.out (ofV E s 0) (ofL E r 0) (ofV_at (HI0.out.below HB.out) E 0) (by have := HLO.out; simp only [List.length_nil]; omega) HSZ.out
      refine step_value_g (by rfl) v4 (w' := V4) (exec_append _ _ _ rfl _ _ _ rfl rfl hrun) ?_
      have hne1 := owns_not HO.out hS0.1 (by decide)
      have hne2 := owns_not HO.out HZ.out (by decide)
      have hgb := HO.out
      have hk5 : Rows8 V4 w.heap.size 26 #[.int .u64 (E : Nat), .slice (s.a 0) (s.n 0) (s.c 0), .slice (s.a 1) (s.n 1) (s.c 1), .slice (s.a 2) (s.n 2) (s.c 2)] := (hg5.block _ hS0.1.lt (fun e => hne1 e.symm)).trans hS0.1
      have hp5 : Rows8 V4 (w.heap.size + 1) 38 #[.int .i64 p.1, .int .u64 (p.2 : Nat)] := (hg5.block _ hS0.2.lt (fun e => by have h1 := (World.ownsRow.lt hgb _ e.symm).1; have h2 := HPL.out; omega)).trans hS0.2
      have hz5 : Rows8 V4 (w.heap.size + 1 + 1) 26 #[.int .u64 0, .slice none 0 0, .slice none 0 0, .slice none 0 0] := (hg5.block _ HZ.out.lt (fun e => hne2 e.symm)).trans HZ.out
      have L6 : Hid (Rows8 V4 g6 38 #[.int .i64 p.1, .int .u64 (p.2 : Nat)]) := Lib.hid ((hg5.block _ L6.out.lt (fun e => NE.out e.symm)).trans L6.out)
      have HB := Lib.hid (HB.out.grown hg5 HB.out.size (fun j ej => Nat.le_trans HWB.out (World.ownsRow.lt hgb j ej).1))
      have HSZ := Lib.hid (Nat.le_trans HSZ.out hg5.size)
      have HZ := Lib.hid hz5
      have hS0 : Rows8 V4 w.heap.size 26 #[.int .u64 (E : Nat), .slice (s.a 0) (s.n 0) (s.c 0), .slice (s.a 1) (s.n 1) (s.c 1), .slice (s.a 2) (s.n 2) (s.c 2)] ∧ Rows8 V4 (w.heap.size + 1) 38 #[.int .i64 p.1, .int .u64 (p.2 : Nat)] := ⟨hk5, hp5⟩
      have HO := Lib.hid ho5
      clear hrun hg5 hne1 hne2 hgb hk5 hp5 hz5 ho5
      obtain ⟨a4, c4, rfl⟩ := HO.out.form
      refine hK.out _ _ (fun _ => hS0) ?_
      clear hK K
      try simp only [Act.put, List.setIfInBounds_toArray, List.set_cons_zero, List.set_cons_succ]
      refine wpAnyL_one (i := 7) (o := { dst := some 23, op := Go.Op.call { callee := Go.Callee.builtin Go.Builtin.append, args := #[Go.Operand.tmp 20, Go.Operand.tmp 22], argTypes := #[23, 23] }, type := 23, pos := "ref.go:79", after := #[{ on := 4, ground := Go.Ground.data }, { on := 6, ground := Go.Ground.data }, { on := 4, ground := Go.Ground.chain }], guard := none }) (by kernel_rfl) rfl (fun K hK => ?_)
      obtain ⟨v7, V5, hrun, ho5, hg5⟩ := Tryd.app_row V4 V0.heap.size 23 _ _ HO.out (.slice (some ⟨g6, 0, none⟩) 1 1) [p] (row_lit L6.out) (by have := HLO.out; simp; omega) HSZ.out
      refine step_value_g (by rfl) v7 (w' := V5) (exec_append _ _ _ rfl _ _ _ rfl rfl hrun) ?_
      have hne1 := owns_not HO.out hS0.1 (by decide)
      have hne2 := owns_not HO.out HZ.out (by decide)
      have hgb := HO.out
      have hk5 : Rows8 V5 w.heap.size 26 #[.int .u64 (E : Nat), .slice (s.a 0) (s.n 0) (s.c 0), .slice (s.a 1) (s.n 1) (s.c 1), .slice (s.a 2) (s.n 2) (s.c 2)] := (hg5.block _ hS0.1.lt (fun e => hne1 e.symm)).trans hS0.1
      have hp5 : Rows8 V5 (w.heap.size + 1) 38 #[.int .i64 p.1, .int .u64 (p.2 : Nat)] := (hg5.block _ hS0.2.lt (fun e => by have h1 := (World.ownsRow.lt hgb _ e.symm).1; have h2 := HPL.out; omega)).trans hS0.2
      have hz5 : Rows8 V5 (w.heap.size + 1 + 1) 26 #[.int .u64 0, .slice none 0 0, .slice none 0 0, .slice none 0 0] := (hg5.block _ HZ.out.lt (fun e => hne2 e.symm)).trans HZ.out
      have HB := Lib.hid (HB.out.grown hg5 HB.out.size (fun j ej => Nat.le_trans HWB.out (World.ownsRow.lt hgb j ej).1))
      have HSZ := Lib.hid (Nat.le_trans HSZ.out hg5.size)
      have HZ := Lib.hid hz5
      have hS0 : Rows8 V5 w.heap.size 26 #[.int .u64 (E : Nat), .slice (s.a 0) (s.n 0) (s.c 0), .slice (s.a 1) (s.n 1) (s.c 1), .slice (s.a 2) (s.n 2) (s.c 2)] ∧ Rows8 V5 (w.heap.size + 1) 38 #[.int .i64 p.1, .int .u64 (p.2 : Nat)] := ⟨hk5, hp5⟩
      have HO := Lib.hid ho5
      clear hrun hg5 hne1 hne2 hgb hk5 hp5 hz5 ho5
      obtain ⟨a5, c5, rfl⟩ := HO.out.form
      obtain ⟨n5, hn5⟩ : ∃ m, m = (([] : List Pr) ++ ofL E r 0 ++ [p]).length := ⟨_, rfl⟩
      rw [← hn5] at HO ⊢
      clear hn5 L6
      refine hK.out _ _ (fun _ => hS0) ?_
      clear hK K
      try simp only [Act.put, List.setIfInBounds_toArray, List.set_cons_zero, List.set_cons_succ]
      refine wpAnyL_one (i := 8) (o := { dst := some 24, op := Go.Op.call { callee := Go.Callee.value (Go.Operand.func 46), args := #[Go.Operand.tmp 16, Go.Operand.const (Go.Value.int Go.IntKind.u64 0), Go.Operand.tmp 23], argTypes := #[26, 22, 23] }, type := 26, pos := "ref.go:79", after := #[{ on := 0, ground := Go.Ground.data }, { on := 7, ground := Go.Ground.data }, { on := 7, ground := Go.Ground.chain }], guard := none }) (by kernel_rfl) rfl (fun K hK => ?_)
      have HWt := Tryd.with_any E s 0 a5 n5 c5 V5 (by have := HE.out; omega) (Nat.zero_le _)
      refine step_call_g (by rfl) 46 _ _ rfl (fun _ _ => by kernel_rfl) #[.agg #[.int .u64 (E : Nat), .slice (s.a 0) (s.n 0) (s.c 0), .slice (s.a 1) (s.n 1) (s.c 1), .slice (s.a 2) (s.n 2) (s.c 2)], .int .u64 0, .slice a5 n5 c5] (by simp [go_sem]) _ (show Calls Tryd.prog 46 #[.agg #[.int .u64 (E : Nat), .slice (s.a 0) (s.n 0) (s.c 0), .slice (s.a 1) (s.n 1) (s.c 1), .slice (s.a 2) (s.n 2) (s.c 2)], .int .u64 0, .slice a5 n5 c5] V5 _ from HWt) ?_
      rintro e V6 ⟨rfl, hC⟩
      have HZ := Lib.hid (HZ.out.below hC HZ.out.lt)
      have HB := Lib.hid (HB.out.trans (hC.mono HB.out.size))
      have HSZ := Lib.hid (Nat.le_trans HSZ.out hC.size)
      have HO := Lib.hid (HO.out.below hC (Nat.le_refl _))
      have hS0 : Rows8 V6 w.heap.size 26 #[.int .u64 (E : Nat), .slice (s.a 0) (s.n 0) (s.c 0), .slice (s.a 1) (s.n 1) (s.c 1), .slice (s.a 2) (s.n 2) (s.c 2)] ∧ Rows8 V6 (w.heap.size + 1) 38 #[.int .i64 p.1, .int .u64 (p.2 : Nat)] := ⟨hS0.1.below hC hS0.1.lt, hS0.2.below hC hS0.2.lt⟩
      obtain ⟨s', hs'⟩ : ∃ x, x = s.upd ((E - 0) % 3) a5 n5 c5 := ⟨_, rfl⟩
      rw [← hs'] at ⊢
      have HSS := Lib.hid hs'
      clear hC HWt hs'
      refine ⟨_, rfl, ?_⟩
      refine hK.out _ _ (fun _ => hS0) ?_
      clear hK K
      try simp only [Act.put, List.setIfInBounds_toArray, List.set_cons_zero, List.set_cons_succ]
      refine wpAnyL_one (i := 9) (o := { dst := none, op := Go.Op.store 26 (Go.Operand.tmp 4) (Go.Operand.tmp 24), type := 0, pos := "ref.go:79", after := #[{ on := 8, ground := Go.Ground.data }, { on := 8, ground := Go.Ground.chain }, { on := 0, ground := Go.Ground.phase }, { on := 1, ground := Go.Ground.phase }, { on := 2, ground := Go.Ground.phase }, { on := 3, ground := Go.Ground.phase }, { on := 4, ground := Go.Ground.phase }, { on := 5, ground := Go.Ground.phase }, { on := 6, ground := Go.Ground.phase }, { on := 7, ground := Go.Ground.phase }, { on := 8, ground := Go.Ground.phase }], guard := none }) (by kernel_rfl) rfl (fun K hK => ?_)
      have z0 : V6.cell? ⟨w.heap.size + 1 + 1, 0, none⟩ = some (.int .u64 0) := HZ.out.cell 0
      have f0 := HZ.out.frozen 0
      have z1 : V6.cell? ⟨w.heap.size + 1 + 1, 1, none⟩ = some (.slice none 0 0) := HZ.out.cell 1
      have f1 := HZ.out.frozen 1
      have z2 : V6.cell? ⟨w.heap.size + 1 + 1, 2, none⟩ = some (.slice none 0 0) := HZ.out.cell 2
      have f2 := HZ.out.frozen 2
      have z3 : V6.cell? ⟨w.heap.size + 1 + 1, 3, none⟩ = some (.slice none 0 0) := HZ.out.cell 3
      have f3 := HZ.out.frozen 3
      have ltz := HZ.out.lt
      refine step_skip_g (by rfl) (w' := ((((V6.setCell ⟨w.heap.size + 1 + 1, 0, none⟩ (.int .u64 (E : Nat))).setCell ⟨w.heap.size + 1 + 1, 1, none⟩ (.slice (s'.a 0) (s'.n 0) (s'.c 0))).setCell ⟨w.heap.size + 1 + 1, 2, none⟩ (.slice (s'.a 1) (s'.n 1) (s'.c 1))).setCell ⟨w.heap.size + 1 + 1, 3, none⟩ (.slice (s'.a 2) (s'.n 2) (s'.c 2)))) (by go_simp) ?_
      have HR := Lib.hid (rows4 HZ.out (.int .u64 (E : Nat)) (.slice (s'.a 0) (s'.n 0) (s'.c 0)) (.slice (s'.a 1) (s'.n 1) (s'.c 1)) (.slice (s'.a 2) (s'.n 2) (s'.c 2)))
      have HB3 := Lib.hid (below4 HB.out (B := w.heap.size + 1 + 1) (by show w.heap.size ≤ w.heap.size + 1 + 1; omega) (.int .u64 (E : Nat)) (.slice (s'.a 0) (s'.n 0) (s'.c 0)) (.slice (s'.a 1) (s'.n 1) (s'.c 1)) (.slice (s'.a 2) (s'.n 2) (s'.c 2)))
      have hq9 := HQL.out
      have HO9 := Lib.hid (show OwnsP tE V0.heap.size (([] : List Pr) ++ ofL E r 0 ++ [p]) (.slice a5 n5 c5) ((((V6.setCell ⟨w.heap.size + 1 + 1, 0, none⟩ (.int .u64 (E : Nat))).setCell ⟨w.heap.size + 1 + 1, 1, none⟩ (.slice (s'.a 0) (s'.n 0) (s'.c 0))).setCell ⟨w.heap.size + 1 + 1, 2, none⟩ (.slice (s'.a 1) (s'.n 1) (s'.c 1))).setCell ⟨w.heap.size + 1 + 1, 3, none⟩ (.slice (s'.a 2) (s'.n 2) (s'.c 2))) from (own_lowT (own_lowT (own_lowT (own_lowT HO.out (B := w.heap.size + 1 + 1) (by omega) 0 _) (B := w.heap.size + 1 + 1) (by omega) 1 _) (B := w.heap.size + 1 + 1) (by omega) 2 _) (B := w.heap.size + 1 + 1) (by omega) 3 _))
      clear z0 z1 z2 z3 f0 f1 f2 f3 ltz hq9
      generalize ((((V6.setCell ⟨w.heap.size + 1 + 1, 0, none⟩ (.int .u64 (E : Nat))).setCell ⟨w.heap.size + 1 + 1, 1, none⟩ (.slice (s'.a 0) (s'.n 0) (s'.c 0))).setCell ⟨w.heap.size + 1 + 1, 2, none⟩ (.slice (s'.a 1) (s'.n 1) (s'.c 1))).setCell ⟨w.heap.size + 1 + 1, 3, none⟩ (.slice (s'.a 2) (s'.n 2) (s'.c 2))) = X8 at *
      refine hK.out _ _ (fun h => absurd h (by decide)) ?_
      clear hK K
      try simp only [Act.put, List.setIfInBounds_toArray, List.set_cons_zero, List.set_cons_succ]
      refine wpAnyL_one (i := 10) (o := { dst := some 5, op := Go.Op.assign (Go.Operand.const (Go.Value.int Go.IntKind.i64 0)), type := 31, pos := "ref.go:79", after := #[{ on := 9, ground := Go.Ground.chain }, { on := 0, ground := Go.Ground.phase }, { on := 1, ground := Go.Ground.phase }, { on := 2, ground := Go.Ground.phase }, { on := 3, ground := Go.Ground.phase }, { on := 4, ground := Go.Ground.phase }, { on := 5, ground := Go.Ground.phase }, { on := 6, ground := Go.Ground.phase }, { on := 7, ground := Go.Ground.phase }, { on := 8, ground := Go.Ground.phase }, { on := 9, ground := Go.Ground.phase }], guard := none }) (by kernel_rfl) rfl (fun K hK => ?_)
      refine step_value_g (by rfl) (.int .i64 0) (w' := X8) (by go_simp) ?_
      refine hK.out _ _ (fun h => absurd h (by decide)) ?_
      clear hK K
      try simp only [Act.put, List.setIfInBounds_toArray, List.set_cons_zero, List.set_cons_succ]
      refine wpAnyL_end (by kernel_rfl) ?_
      exact HK5.out X8 s' a5 n5 c5 _ _ _ _ _ _ _ _ _ HR.out HSS.out HO9.out HB3.out
end Go.Proofs
