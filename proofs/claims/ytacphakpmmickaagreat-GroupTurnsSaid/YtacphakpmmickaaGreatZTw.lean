/- Group: openers; steps; what is found where it is. -/
import Derived.Test.YtacphakpmmickaaGreatZTu
import Derived.Deep.SlicePairs
import Derived.WideShapes
namespace Go.Proofs
set_option maxRecDepth 100000
set_option maxRecDepth 100000
open Go.RowKit Go.Shelf
attribute [local go_sem] Oper.semAt_some

theorem cellsG : Tryz.prog.cellsOf 25 = 17 := by kernel_rfl
theorem cellsA8 : Tryz.prog.cellsOf 23 = 8 := by kernel_rfl
theorem cellsU : Tryz.prog.cellsOf 22 = 1 := by kernel_rfl
theorem cellsB : Tryz.prog.cellsOf 5 = 1 := by kernel_rfl
theorem cellsS : Tryz.prog.cellsOf 30 = 3 := by kernel_rfl
theorem wf64 {z : Int} (h : (Lit.int .u64 z).wf = true) : 0 ≤ z ∧ z < 18446744073709551616 := by
  simp [Lit.wf] at h
  have h1 : IntKind.u64.min = 0 := rfl
  have h2 : IntKind.u64.max = 18446744073709551615 := rfl
  omega
theorem wf8 {z : Int} (h : (Lit.int .u8 z).wf = true) : 0 ≤ z ∧ z < 256 := by
  simp [Lit.wf] at h
  have h1 : IntKind.u8.min = 0 := rfl
  have h2 : IntKind.u8.max = 255 := rfl
  omega
/-- A group that came in. -/
theorem open_group {H : Type} {enc : TypeId × Value → H} {W : World} {r : Reach} {b0 base : Nat} {sp : Nat → Bool} {held : Bool} {v : Value} {d : DataW H} {p : List MemPlace}
    (hv : Value.okWide Tryz.prog W r b0 25 v) (h : DataW.Trod enc Tryz.prog W base sp held 25 v d p) :
    ∃ g : Gr, v = .agg (gc g) ∧ g.c < 18446744073709551616 := by
  obtain ⟨ys, rfl, hys⟩ := WideShapes.okWide_struct Tryz.underlying25 hv
  rw [cellsG] at hys
  obtain ⟨fuel, hf⟩ := h
  obtain ⟨xs, m, hm, hx, hlen, hxl, hel⟩ := DataW.trod_struct Tryz.underlying25 hf
  obtain ⟨y0, y1, y2, y3, y4, y5, y6, y7, y8, y9, y10, y11, y12, y13, y14, y15, y16, rfl⟩ : ∃ y0 y1 y2 y3 y4 y5 y6 y7 y8 y9 y10 y11 y12 y13 y14 y15 y16, ys = #[y0, y1, y2, y3, y4, y5, y6, y7, y8, y9, y10, y11, y12, y13, y14, y15, y16] := by
    obtain ⟨l⟩ := ys
    match l, hys with
    | [y0, y1, y2, y3, y4, y5, y6, y7, y8, y9, y10, y11, y12, y13, y14, y15, y16], _ => exact ⟨y0, y1, y2, y3, y4, y5, y6, y7, y8, y9, y10, y11, y12, y13, y14, y15, y16, rfl⟩
  match xs, hxl with
  | [x0, x1, x2], _ =>
    have e0 := hel 0 _ rfl
    have e1 := hel 1 _ rfl
    have e2 := hel 2 _ rfl
    simp [cellsU, cellsA8, Value.cells] at e0 e1 e2
    obtain ⟨a, ha, _, wa⟩ := DataW.trod_int Tryz.underlying22 e0
    simp at ha
    subst ha
    have arr : ∀ {z0 z1 z2 z3 z4 z5 z6 z7 : Value} {mm : Nat} {d : DataW H} {q : List MemPlace}, DataW.trod enc Tryz.prog W base sp held mm 23 [z0, z1, z2, z3, z4, z5, z6, z7] = some (d, q) →
        ∃ f : Nat → Nat, z0 = .int .u64 (f 0 : Nat) ∧ z1 = .int .u64 (f 1 : Nat) ∧ z2 = .int .u64 (f 2 : Nat) ∧ z3 = .int .u64 (f 3 : Nat) ∧ z4 = .int .u64 (f 4 : Nat) ∧ z5 = .int .u64 (f 5 : Nat) ∧ z6 = .int .u64 (f 6 : Nat) ∧ z7 = .int .u64 (f 7 : Nat) := by
      intro z0 z1 z2 z3 z4 z5 z6 z7 mm d q hz
      obtain ⟨xs, m, _, _, _, hxl, hel⟩ := DataW.trod_array Tryz.underlying23 hz
      obtain ⟨q0, q1, q2, q3, q4, q5, q6, q7, rfl⟩ : ∃ q0 q1 q2 q3 q4 q5 q6 q7, xs = [q0, q1, q2, q3, q4, q5, q6, q7] := by
        match xs, hxl with
        | [q0, q1, q2, q3, q4, q5, q6, q7], _ => exact ⟨q0, q1, q2, q3, q4, q5, q6, q7, rfl⟩
      have one : ∀ {z : Value} {mm : Nat} {d : DataW H} {q : List MemPlace}, DataW.trod enc Tryz.prog W base sp held mm 22 [z] = some (d, q) → ∃ n : Nat, z = .int .u64 (n : Nat) := by
        intro z mm d q h1
        obtain ⟨b, hb, _, wb⟩ := DataW.trod_int Tryz.underlying22 h1
        simp at hb
        subst hb
        have hw := wf64 wb
        exact ⟨b.toNat, by rw [Int.toNat_of_nonneg (by omega)]⟩
      have g0 := hel 0 (by decide)
      have g1 := hel 1 (by decide)
      have g2 := hel 2 (by decide)
      have g3 := hel 3 (by decide)
      have g4 := hel 4 (by decide)
      have g5 := hel 5 (by decide)
      have g6 := hel 6 (by decide)
      have g7 := hel 7 (by decide)
      rw [cellsU] at g0 g1 g2 g3 g4 g5 g6 g7
      obtain ⟨f0, k0⟩ := one g0
      obtain ⟨f1, k1⟩ := one g1
      obtain ⟨f2, k2⟩ := one g2
      obtain ⟨f3, k3⟩ := one g3
      obtain ⟨f4, k4⟩ := one g4
      obtain ⟨f5, k5⟩ := one g5
      obtain ⟨f6, k6⟩ := one g6
      obtain ⟨f7, k7⟩ := one g7
      exact ⟨fun n => [f0, f1, f2, f3, f4, f5, f6, f7].getD n 0, k0, k1, k2, k3, k4, k5, k6, k7⟩
    obtain ⟨f, k0, k1, k2, k3, k4, k5, k6, k7⟩ := arr e1
    obtain ⟨f', l0, l1, l2, l3, l4, l5, l6, l7⟩ := arr e2
    subst k0 k1 k2 k3 k4 k5 k6 k7 l0 l1 l2 l3 l4 l5 l6 l7
    have hw := wf64 wa
    obtain ⟨c, rfl⟩ : ∃ c : Nat, a = c := ⟨a.toNat, by rw [Int.toNat_of_nonneg (by omega)]⟩
    exact ⟨⟨c, f, f'⟩, rfl, by show c < _; omega⟩
theorem wpList_eqlW {P : Program} {ops : Array Oper} {rest : List Oper} {o : Oper} {a : Act} {w : World} {Q : Exit → Act → World → Prop} (hw : Region.wanted o (yielded ops a.tmps) = true) (t : TypeId) (x y : Operand) (ho : o.op = .binOp .eql t x y t) (xs ys : Array Value) (hx : a.eval x = .agg xs) (hy : a.eval y = .agg ys)
    (hm : P.eqGuardType P.depth t = false) (b : Bool) (hb : (Op.equalIn 10000 t (.agg xs) (.agg ys)).run P w = .ok b w) (h : wpList P ops Q rest (a.put o.dst (.bool b)) w) : wpList P ops Q (o :: rest) a w := by
  unfold wpList
  rw [if_pos hw]
  refine .inl ?_
  unfold Oper.wp
  rw [exec_eql t x y ho xs ys hx hy hm b hb]
  exact h
theorem find_self {g : Gr} (hr : rightG g = true) {y : Fin 8} (hy : byt g.c y < 128) :
    findE g (g.k y) (byt g.c y) = 0 ∧ findL g (g.k y) (byt g.c y) = y ∧ ∃ pre post, hl g (byt g.c y) = pre ++ y :: post ∧ findN g (g.k y) (byt g.c y) = pre.length + 1 := by
  rcases firstL_cases (fun n => g.k n == g.k y) (hl g (byt g.c y)) 0 with ⟨_, h3⟩ | ⟨pre, z, post, h2, h3, h4, h5⟩
  · have := h3 y ((mem_hl g _ y).2 rfl)
    simp at this
  · have hz : byt g.c z = byt g.c y := (mem_hl g _ z).1 (by rw [h2]; simp)
    have e : z = y := right_apart hr (by omega) hy (by simpa using h4)
    subst e
    have hn : ¬ 127 < byt g.c z := by omega
    refine ⟨?_, ?_, pre, post, h2, ?_⟩
    · unfold findE findO; rw [if_neg hn, h5]; rfl
    · unfold findL findO; rw [if_neg hn, h5]; rfl
    · unfold findN findO; rw [if_neg hn, h5]; simp
end Go.Proofs

/- Group: the reference's Full, Right, Looks, Find. -/
namespace Go.Proofs
set_option maxRecDepth 100000
open Go.RowKit Go.Shelf
attribute [local go_sem] Oper.semAt_some

theorem Tryz.rgFull_any (g : Gr) (hc : g.c < 18446744073709551616) (n : Nat) (hn : n < 8) (w : World) : Calls Tryz.prog 8 #[.agg (gc g), .int .i64 (n : Nat)] w fun e w' => e = .returned (.bool (decide (byt g.c n < 128))) ∧ Below w.heap.size w w' := by
  have HF := fun W => Lib.hid (Tryz.refFull_any g.c n hc (by omega) W)
  have h0 := Rows8.new w 25 (gc g)
  have hcc : (w.alloc (.cells (gc g) 25)).cell? ⟨w.heap.size, 0, none⟩ = some (.int .u64 (g.c : Nat)) := (h0.cell 0).trans (gc_0 g)
  have hb := Lib.hid ((Below.refl w.heap.size w).alloc (Nat.le_refl _) (.cells (gc g) 25))
  go_enter Tryz.func8, Tryz.ntmps8
  go_wp2_with fail
  go_at_call 23
  refine (HF _).out.mono ?_
  rintro e w2 ⟨rfl, rfl⟩
  go_wp2_with fail
  go_ret
  refine ⟨?_, hb.out⟩
  have h := (kd_facts (byt g.c n)).1
  have e : (kd (byt g.c n) == 0) = decide (byt g.c n < 128) := by
    rw [Bool.eq_iff_iff, beq_iff_eq, decide_eq_true_eq]
    exact h
  rw [← e]
  rfl
set_option maxHeartbeats 8000000 in
theorem Tryz.rgRight_any (g : Gr) (hc : g.c < 18446744073709551616) (w : World) : Calls Tryz.prog 5 #[.agg (gc g)] w fun e w' => e = .returned (.bool (rightG g)) ∧ Below w.heap.size w w' := by
  have HFull := fun n hn W => Lib.hid (Tryz.rgFull_any g hc n hn W)
  have HRC := fun W => Lib.hid (Tryz.refRight_any g.c hc W)
  have h0 := Rows8.new w 25 (gc g)
  have hb : Below w.heap.size w (w.alloc (.cells (gc g) 25)) := (Below.refl w.heap.size w).alloc (Nat.le_refl _) _
  go_enter Tryz.func5, Tryz.ntmps5
  go_wp2_with fail
  generalize (w.alloc (.cells (gc g) 25)) = W0 at *
  have H0 := Lib.hid h0
  have HB0 := Lib.hid hb
  clear h0 hb
  go_loopw [5] (fun v wr => ∃ i : Nat, i ≤ 8 ∧ v = .int .i64 i ∧ Hid (∀ a b : Nat, a < i → b < a → byt g.c a < 128 → byt g.c b < 128 → g.k a ≠ g.k b) ∧ Hid (Rows8 wr w.heap.size 25 (gc g)) ∧ Hid (Below w.heap.size w wr)) (fun v _ => 8 - (intOf v).toNat)
  case atStart => exact ⟨0, by omega, rfl, Lib.hid (fun a b h => by omega), H0, HB0⟩
  case round =>
    obtain ⟨i, hi8, rfl, hia, hGo, HBo⟩ := hrel
    by_cases hi : i < 8
    · have hii : (i : Int) < 8 := by omega
      have hni : ¬ (8 : Int) ≤ (i : Int) := by omega
      obtain ⟨wo, hwo⟩ : ∃ wo, wo = wr := ⟨_, rfl⟩
      rw [← hwo] at hGo HBo ⊢
      clear hwo
      go_wp2_with fail
      go_loopw [9] (fun v wr => ∃ j : Nat, j ≤ i ∧ v = .int .i64 j ∧ Hid (∀ b : Nat, b < j → byt g.c i < 128 → byt g.c b < 128 → g.k i ≠ g.k b) ∧ Hid (Rows8 wr w.heap.size 25 (gc g)) ∧ Hid (Below wo.heap.size wo wr)) (fun v _ => i - (intOf v).toNat)
      case atStart => exact ⟨0, by omega, rfl, Lib.hid (fun b h => by omega), hGo, Lib.hid (Below.refl _ _)⟩
      case round =>
        obtain ⟨j, hji, rfl, hj2, hG, hBj⟩ := hrel
        by_cases hjl : j < i
        · have hj : j < 8 := by omega
          have hjj : (j : Int) < (i : Int) := by omega
          have hnj : ¬ (8 : Int) ≤ (j : Int) := by omega
          have HFi := fun W => HFull i hi W
          have HFj := fun W => HFull j hj W
          go_wp2_with fail
          by_cases hfi : byt g.c i < 128
          · have HVi : Hid (decide (byt g.c i < 128) = true) := Lib.hid (decide_eq_true hfi)
            by_cases hfj : byt g.c j < 128
            · have HVj : Hid (decide (byt g.c j < 128) = true) := Lib.hid (decide_eq_true hfj)
              refine wp_region_X (fun W' => Rows8 W' w.heap.size 25 (gc g)) 19 (by kernel_rfl) ?_
              have hS0 := hG.out.drew
              have hB0 : Below wr.heap.size wr wr.drew := (Below.refl _ _).drew
              generalize wr.drew = Wd at *
              refine wpAnyN_take (i := 0) (oi := { dst := some 12, op := Go.Op.load 25 (Go.Operand.tmp 1), type := 25, pos := "ref.go:17", after := #[], guard := none }) (v := .agg (gc g)) rfl (by decide) (by kernel_rfl) (by kernel_rfl) (by kernel_rfl) (fun _ _ _ h => h) (Or.inl ⟨by rfl, ?_⟩) hS0 ?_
              · intro W9 hS9
                exact exec_load 25 _ rfl ⟨w.heap.size, 0, none⟩ _ (by simp [go_sem]) (Tryz.load_group hS9)
              try simp only [Act.put, List.setIfInBounds_toArray, List.set_cons_zero, List.set_cons_succ]
              refine wpAnyN_take (i := 1) (oi := { dst := some 13, op := Go.Op.move (Go.Operand.tmp 3), type := 3, pos := "ref.go:17", after := #[], guard := none }) (v := .int .i64 (i : Nat)) rfl (by decide) (by kernel_rfl) (by kernel_rfl) (by kernel_rfl) (fun _ _ _ h => h) (Or.inl ⟨by rfl, ?_⟩) hS0 ?_
              · intro W9 hS9
                have ki := (hS9.cell (1 + i)).trans (gc_k g i hi)
                have kj := (hS9.cell (1 + j)).trans (gc_k g j hj)
                clear hS9
                go_simp
              try simp only [Act.put, List.setIfInBounds_toArray, List.set_cons_zero, List.set_cons_succ]
              refine wpAnyX_one (i := 2) (o := { dst := some 14, op := Go.Op.call { callee := Go.Callee.value (Go.Operand.func 8), args := #[Go.Operand.tmp 12, Go.Operand.tmp 13], argTypes := #[25, 3] }, type := 4, pos := "ref.go:17", after := #[{ on := 0, ground := Go.Ground.data }, { on := 1, ground := Go.Ground.data }], guard := none }) (by kernel_rfl) rfl (fun K hK => ?_)
              refine step_call_g (by rfl) 8 _ _ rfl (fun _ _ => by kernel_rfl) #[.agg (gc g), .int .i64 (i : Nat)] (by simp [go_sem]) _ (HFi Wd).out ?_
              rw [HVi.out]
              rintro e W1 ⟨rfl, hCi⟩
              refine ⟨_, rfl, ?_⟩
              have hS1 := hS0.below hCi hS0.lt
              have hB1 := hB0.trans (hCi.mono hB0.size)
              refine hK.out _ _ (fun _ => hS1) ?_
              clear hK K
              try simp only [Act.put, List.setIfInBounds_toArray, List.set_cons_zero, List.set_cons_succ]
              refine wpAnyN_take (i := 3) (oi := { dst := some 15, op := Go.Op.move (Go.Operand.tmp 14), type := 4, pos := "ref.go:17", after := #[{ on := 2, ground := Go.Ground.data }, { on := 2, ground := Go.Ground.chain }], guard := none }) (v := .bool true) rfl (by decide) (by kernel_rfl) (by kernel_rfl) (by kernel_rfl) (fun _ _ _ h => h) (Or.inl ⟨by rfl, ?_⟩) hS1 ?_
              · intro W9 hS9
                have ki := (hS9.cell (1 + i)).trans (gc_k g i hi)
                have kj := (hS9.cell (1 + j)).trans (gc_k g j hj)
                clear hS9
                go_simp
              try simp only [Act.put, List.setIfInBounds_toArray, List.set_cons_zero, List.set_cons_succ]
              refine wpAnyN_take (i := 4) (oi := { dst := some 16, op := Go.Op.load 25 (Go.Operand.tmp 1), type := 25, pos := "ref.go:17", after := #[{ on := 3, ground := Go.Ground.guard }], guard := some (3, true) }) (v := .agg (gc g)) rfl (by decide) (by kernel_rfl) (by kernel_rfl) (by kernel_rfl) (fun _ _ _ h => h) (Or.inl ⟨by rfl, ?_⟩) hS1 ?_
              · intro W9 hS9
                exact exec_load 25 _ rfl ⟨w.heap.size, 0, none⟩ _ (by simp [go_sem]) (Tryz.load_group hS9)
              try simp only [Act.put, List.setIfInBounds_toArray, List.set_cons_zero, List.set_cons_succ]
              refine wpAnyN_take (i := 5) (oi := { dst := some 17, op := Go.Op.move (Go.Operand.tmp 4), type := 3, pos := "ref.go:17", after := #[{ on := 3, ground := Go.Ground.guard }], guard := some (3, true) }) (v := .int .i64 (j : Nat)) rfl (by decide) (by kernel_rfl) (by kernel_rfl) (by kernel_rfl) (fun _ _ _ h => h) (Or.inl ⟨by rfl, ?_⟩) hS1 ?_
              · intro W9 hS9
                have ki := (hS9.cell (1 + i)).trans (gc_k g i hi)
                have kj := (hS9.cell (1 + j)).trans (gc_k g j hj)
                clear hS9
                go_simp
              try simp only [Act.put, List.setIfInBounds_toArray, List.set_cons_zero, List.set_cons_succ]
              refine wpAnyX_one (i := 6) (o := { dst := some 18, op := Go.Op.call { callee := Go.Callee.value (Go.Operand.func 8), args := #[Go.Operand.tmp 16, Go.Operand.tmp 17], argTypes := #[25, 3] }, type := 4, pos := "ref.go:17", after := #[{ on := 4, ground := Go.Ground.data }, { on := 5, ground := Go.Ground.data }, { on := 3, ground := Go.Ground.chain }, { on := 3, ground := Go.Ground.guard }], guard := some (3, true) }) (by kernel_rfl) rfl (fun K hK => ?_)
              refine step_call_g (by rfl) 8 _ _ rfl (fun _ _ => by kernel_rfl) #[.agg (gc g), .int .i64 (j : Nat)] (by simp [go_sem]) _ (HFj W1).out ?_
              rw [HVj.out]
              rintro e W2 ⟨rfl, hCj⟩
              refine ⟨_, rfl, ?_⟩
              have hS2 := hS1.below hCj hS1.lt
              have hB2 := hB1.trans (hCj.mono hB1.size)
              refine hK.out _ _ (fun _ => hS2) ?_
              clear hK K
              try simp only [Act.put, List.setIfInBounds_toArray, List.set_cons_zero, List.set_cons_succ]
              refine wpAnyN_take (i := 7) (oi := { dst := some 19, op := Go.Op.pick (Go.Operand.tmp 15) (Go.Operand.tmp 18) (Go.Operand.const (Go.Value.bool false)), type := 4, pos := "ref.go:17", after := #[{ on := 3, ground := Go.Ground.data }, { on := 6, ground := Go.Ground.data }], guard := none }) (v := .bool true) rfl (by decide) (by kernel_rfl) (by kernel_rfl) (by kernel_rfl) (fun _ _ _ h => h) (Or.inl ⟨by rfl, ?_⟩) hS2 ?_
              · intro W9 hS9
                have ki := (hS9.cell (1 + i)).trans (gc_k g i hi)
                have kj := (hS9.cell (1 + j)).trans (gc_k g j hj)
                clear hS9
                go_simp
              try simp only [Act.put, List.setIfInBounds_toArray, List.set_cons_zero, List.set_cons_succ]
              refine wpAnyN_take (i := 8) (oi := { dst := some 20, op := Go.Op.move (Go.Operand.tmp 19), type := 4, pos := "ref.go:17", after := #[{ on := 7, ground := Go.Ground.data }, { on := 6, ground := Go.Ground.chain }], guard := none }) (v := .bool true) rfl (by decide) (by kernel_rfl) (by kernel_rfl) (by kernel_rfl) (fun _ _ _ h => h) (Or.inl ⟨by rfl, ?_⟩) hS2 ?_
              · intro W9 hS9
                have ki := (hS9.cell (1 + i)).trans (gc_k g i hi)
                have kj := (hS9.cell (1 + j)).trans (gc_k g j hj)
                clear hS9
                go_simp
              try simp only [Act.put, List.setIfInBounds_toArray, List.set_cons_zero, List.set_cons_succ]
              refine wpAnyN_take (i := 9) (oi := { dst := some 21, op := Go.Op.move (Go.Operand.tmp 3), type := 3, pos := "ref.go:17", after := #[{ on := 8, ground := Go.Ground.guard }], guard := some (8, true) }) (v := .int .i64 (i : Nat)) rfl (by decide) (by kernel_rfl) (by kernel_rfl) (by kernel_rfl) (fun _ _ _ h => h) (Or.inl ⟨by rfl, ?_⟩) hS2 ?_
              · intro W9 hS9
                have ki := (hS9.cell (1 + i)).trans (gc_k g i hi)
                have kj := (hS9.cell (1 + j)).trans (gc_k g j hj)
                clear hS9
                go_simp
              try simp only [Act.put, List.setIfInBounds_toArray, List.set_cons_zero, List.set_cons_succ]
              refine wpAnyN_take (i := 10) (oi := { dst := some 22, op := Go.Op.fieldAddr 25 (Go.Operand.tmp 1) 1, type := 0, pos := "ref.go:17", after := #[{ on := 8, ground := Go.Ground.guard }], guard := some (8, true) }) (v := .pointer (some ⟨w.heap.size, 1, none⟩)) rfl (by decide) (by kernel_rfl) (by kernel_rfl) (by kernel_rfl) (fun _ _ _ h => h) (Or.inl ⟨by rfl, ?_⟩) hS2 ?_
              · intro W9 hS9
                have ki := (hS9.cell (1 + i)).trans (gc_k g i hi)
                have kj := (hS9.cell (1 + j)).trans (gc_k g j hj)
                clear hS9
                go_simp
              try simp only [Act.put, List.setIfInBounds_toArray, List.set_cons_zero, List.set_cons_succ]
              refine wpAnyN_take (i := 11) (oi := { dst := some 23, op := Go.Op.indexAddr 23 (Go.Operand.tmp 22) (Go.Operand.tmp 21), type := 0, pos := "ref.go:17", after := #[{ on := 10, ground := Go.Ground.data }, { on := 9, ground := Go.Ground.data }, { on := 8, ground := Go.Ground.guard }], guard := some (8, true) }) (v := .pointer (some ⟨w.heap.size, 1 + i, none⟩)) rfl (by decide) (by kernel_rfl) (by kernel_rfl) (by kernel_rfl) (fun _ _ _ h => h) (Or.inl ⟨by rfl, ?_⟩) hS2 ?_
              · intro W9 hS9
                have ki := (hS9.cell (1 + i)).trans (gc_k g i hi)
                have kj := (hS9.cell (1 + j)).trans (gc_k g j hj)
                clear hS9
                go_simp
              try simp only [Act.put, List.setIfInBounds_toArray, List.set_cons_zero, List.set_cons_succ]
              refine wpAnyN_take (i := 12) (oi := { dst := some 24, op := Go.Op.load 22 (Go.Operand.tmp 23), type := 22, pos := "ref.go:17", after := #[{ on := 11, ground := Go.Ground.data }, { on := 8, ground := Go.Ground.guard }], guard := some (8, true) }) (v := .int .u64 (g.k i : Nat)) rfl (by decide) (by kernel_rfl) (by kernel_rfl) (by kernel_rfl) (fun _ _ _ h => h) (Or.inl ⟨by rfl, ?_⟩) hS2 ?_
              · intro W9 hS9
                have ki := (hS9.cell (1 + i)).trans (gc_k g i hi)
                have kj := (hS9.cell (1 + j)).trans (gc_k g j hj)
                clear hS9
                go_simp
              try simp only [Act.put, List.setIfInBounds_toArray, List.set_cons_zero, List.set_cons_succ]
              refine wpAnyN_take (i := 13) (oi := { dst := some 25, op := Go.Op.move (Go.Operand.tmp 4), type := 3, pos := "ref.go:17", after := #[{ on := 8, ground := Go.Ground.guard }], guard := some (8, true) }) (v := .int .i64 (j : Nat)) rfl (by decide) (by kernel_rfl) (by kernel_rfl) (by kernel_rfl) (fun _ _ _ h => h) (Or.inl ⟨by rfl, ?_⟩) hS2 ?_
              · intro W9 hS9
                have ki := (hS9.cell (1 + i)).trans (gc_k g i hi)
                have kj := (hS9.cell (1 + j)).trans (gc_k g j hj)
                clear hS9
                go_simp
              try simp only [Act.put, List.setIfInBounds_toArray, List.set_cons_zero, List.set_cons_succ]
              refine wpAnyN_take (i := 14) (oi := { dst := some 26, op := Go.Op.fieldAddr 25 (Go.Operand.tmp 1) 1, type := 0, pos := "ref.go:17", after := #[{ on := 8, ground := Go.Ground.guard }], guard := some (8, true) }) (v := .pointer (some ⟨w.heap.size, 1, none⟩)) rfl (by decide) (by kernel_rfl) (by kernel_rfl) (by kernel_rfl) (fun _ _ _ h => h) (Or.inl ⟨by rfl, ?_⟩) hS2 ?_
              · intro W9 hS9
                have ki := (hS9.cell (1 + i)).trans (gc_k g i hi)
                have kj := (hS9.cell (1 + j)).trans (gc_k g j hj)
                clear hS9
                go_simp
              try simp only [Act.put, List.setIfInBounds_toArray, List.set_cons_zero, List.set_cons_succ]
              refine wpAnyN_take (i := 15) (oi := { dst := some 27, op := Go.Op.indexAddr 23 (Go.Operand.tmp 26) (Go.Operand.tmp 25), type := 0, pos := "ref.go:17", after := #[{ on := 14, ground := Go.Ground.data }, { on := 13, ground := Go.Ground.data }, { on := 8, ground := Go.Ground.guard }], guard := some (8, true) }) (v := .pointer (some ⟨w.heap.size, 1 + j, none⟩)) rfl (by decide) (by kernel_rfl) (by kernel_rfl) (by kernel_rfl) (fun _ _ _ h => h) (Or.inl ⟨by rfl, ?_⟩) hS2 ?_
              · intro W9 hS9
                have ki := (hS9.cell (1 + i)).trans (gc_k g i hi)
                have kj := (hS9.cell (1 + j)).trans (gc_k g j hj)
                clear hS9
                go_simp
              try simp only [Act.put, List.setIfInBounds_toArray, List.set_cons_zero, List.set_cons_succ]
              refine wpAnyN_take (i := 16) (oi := { dst := some 28, op := Go.Op.load 22 (Go.Operand.tmp 27), type := 22, pos := "ref.go:17", after := #[{ on := 15, ground := Go.Ground.data }, { on := 8, ground := Go.Ground.guard }], guard := some (8, true) }) (v := .int .u64 (g.k j : Nat)) rfl (by decide) (by kernel_rfl) (by kernel_rfl) (by kernel_rfl) (fun _ _ _ h => h) (Or.inl ⟨by rfl, ?_⟩) hS2 ?_
              · intro W9 hS9
                have ki := (hS9.cell (1 + i)).trans (gc_k g i hi)
                have kj := (hS9.cell (1 + j)).trans (gc_k g j hj)
                clear hS9
                go_simp
              try simp only [Act.put, List.setIfInBounds_toArray, List.set_cons_zero, List.set_cons_succ]
              refine wpAnyN_take (i := 17) (oi := { dst := some 29, op := Go.Op.binOp Go.BinOp.eql 22 (Go.Operand.tmp 24) (Go.Operand.tmp 28) 22, type := 4, pos := "ref.go:17", after := #[{ on := 12, ground := Go.Ground.data }, { on := 16, ground := Go.Ground.data }, { on := 8, ground := Go.Ground.guard }], guard := some (8, true) }) (v := .bool (g.k i == g.k j)) rfl (by decide) (by kernel_rfl) (by kernel_rfl) (by kernel_rfl) (fun _ _ _ h => h) (Or.inl ⟨by rfl, ?_⟩) hS2 ?_
              · intro W9 hS9
                have hnn := natEq_walk (g.k i) (g.k j)
                go_simp
              try simp only [Act.put, List.setIfInBounds_toArray, List.set_cons_zero, List.set_cons_succ]
              refine wpAnyN_take (i := 18) (oi := { dst := some 30, op := Go.Op.pick (Go.Operand.tmp 20) (Go.Operand.tmp 29) (Go.Operand.const (Go.Value.bool false)), type := 4, pos := "ref.go:17", after := #[{ on := 8, ground := Go.Ground.data }, { on := 17, ground := Go.Ground.data }], guard := none }) (v := .bool (g.k i == g.k j)) rfl (by decide) (by kernel_rfl) (by kernel_rfl) (by kernel_rfl) (fun _ _ _ h => h) (Or.inl ⟨by rfl, ?_⟩) hS2 ?_
              · intro W9 hS9
                go_simp
              try simp only [Act.put, List.setIfInBounds_toArray, List.set_cons_zero, List.set_cons_succ]
              refine wpAnyX_end (by kernel_rfl) ?_
              have HSx := Lib.hid hS2
              have HBx := Lib.hid hB2
              cases hkk : (g.k i == g.k j)
              · go_wp2_with fail
                go_roundw
                case rel => exact ⟨j + 1, by omega, by go_num, Lib.hid (fun b hb hbi hbj => by
                  rcases Nat.lt_or_ge b j with h | h
                  · exact hj2.out b h hbi hbj
                  · obtain rfl : b = j := by omega
                    simpa using hkk), HSx, Lib.hid (hBj.out.trans (HBx.out.mono hBj.out.size))⟩
                case measure => simp [intOf]; omega
              · have hno : rightG g = false := by
                  cases hr : rightG g
                  · rfl
                  · have := right_apart hr (y := ⟨i, hi⟩) (x := ⟨j, hj⟩) hfi hfj (by simpa using hkk)
                    have := congrArg Fin.val this
                    dsimp only at this
                    omega
                have HNo := Lib.hid hno
                clear hno
                go_wp2_with fail
                go_ret
                exact ⟨by rw [HNo.out]; rfl, (HBo.out.trans ((hBj.out.mono HBo.out.size))).trans (HBx.out.mono (Nat.le_trans HBo.out.size hBj.out.size))⟩
            · have HVj : Hid (decide (byt g.c j < 128) = false) := Lib.hid (decide_eq_false hfj)
              refine wp_region_X (fun W' => Rows8 W' w.heap.size 25 (gc g)) 19 (by kernel_rfl) ?_
              have hS0 := hG.out.drew
              have hB0 : Below wr.heap.size wr wr.drew := (Below.refl _ _).drew
              generalize wr.drew = Wd at *
              refine wpAnyN_take (i := 0) (oi := { dst := some 12, op := Go.Op.load 25 (Go.Operand.tmp 1), type := 25, pos := "ref.go:17", after := #[], guard := none }) (v := .agg (gc g)) rfl (by decide) (by kernel_rfl) (by kernel_rfl) (by kernel_rfl) (fun _ _ _ h => h) (Or.inl ⟨by rfl, ?_⟩) hS0 ?_
              · intro W9 hS9
                exact exec_load 25 _ rfl ⟨w.heap.size, 0, none⟩ _ (by simp [go_sem]) (Tryz.load_group hS9)
              try simp only [Act.put, List.setIfInBounds_toArray, List.set_cons_zero, List.set_cons_succ]
              refine wpAnyN_take (i := 1) (oi := { dst := some 13, op := Go.Op.move (Go.Operand.tmp 3), type := 3, pos := "ref.go:17", after := #[], guard := none }) (v := .int .i64 (i : Nat)) rfl (by decide) (by kernel_rfl) (by kernel_rfl) (by kernel_rfl) (fun _ _ _ h => h) (Or.inl ⟨by rfl, ?_⟩) hS0 ?_
              · intro W9 hS9
                have ki := (hS9.cell (1 + i)).trans (gc_k g i hi)
                have kj := (hS9.cell (1 + j)).trans (gc_k g j hj)
                clear hS9
                go_simp
              try simp only [Act.put, List.setIfInBounds_toArray, List.set_cons_zero, List.set_cons_succ]
              refine wpAnyX_one (i := 2) (o := { dst := some 14, op := Go.Op.call { callee := Go.Callee.value (Go.Operand.func 8), args := #[Go.Operand.tmp 12, Go.Operand.tmp 13], argTypes := #[25, 3] }, type := 4, pos := "ref.go:17", after := #[{ on := 0, ground := Go.Ground.data }, { on := 1, ground := Go.Ground.data }], guard := none }) (by kernel_rfl) rfl (fun K hK => ?_)
              refine step_call_g (by rfl) 8 _ _ rfl (fun _ _ => by kernel_rfl) #[.agg (gc g), .int .i64 (i : Nat)] (by simp [go_sem]) _ (HFi Wd).out ?_
              rw [HVi.out]
              rintro e W1 ⟨rfl, hCi⟩
              refine ⟨_, rfl, ?_⟩
              have hS1 := hS0.below hCi hS0.lt
              have hB1 := hB0.trans (hCi.mono hB0.size)
              refine hK.out _ _ (fun _ => hS1) ?_
              clear hK K
              try simp only [Act.put, List.setIfInBounds_toArray, List.set_cons_zero, List.set_cons_succ]
              refine wpAnyN_take (i := 3) (oi := { dst := some 15, op := Go.Op.move (Go.Operand.tmp 14), type := 4, pos := "ref.go:17", after := #[{ on := 2, ground := Go.Ground.data }, { on := 2, ground := Go.Ground.chain }], guard := none }) (v := .bool true) rfl (by decide) (by kernel_rfl) (by kernel_rfl) (by kernel_rfl) (fun _ _ _ h => h) (Or.inl ⟨by rfl, ?_⟩) hS1 ?_
              · intro W9 hS9
                have ki := (hS9.cell (1 + i)).trans (gc_k g i hi)
                have kj := (hS9.cell (1 + j)).trans (gc_k g j hj)
                clear hS9
                go_simp
              try simp only [Act.put, List.setIfInBounds_toArray, List.set_cons_zero, List.set_cons_succ]
              refine wpAnyN_take (i := 4) (oi := { dst := some 16, op := Go.Op.load 25 (Go.Operand.tmp 1), type := 25, pos := "ref.go:17", after := #[{ on := 3, ground := Go.Ground.guard }], guard := some (3, true) }) (v := .agg (gc g)) rfl (by decide) (by kernel_rfl) (by kernel_rfl) (by kernel_rfl) (fun _ _ _ h => h) (Or.inl ⟨by rfl, ?_⟩) hS1 ?_
              · intro W9 hS9
                exact exec_load 25 _ rfl ⟨w.heap.size, 0, none⟩ _ (by simp [go_sem]) (Tryz.load_group hS9)
              try simp only [Act.put, List.setIfInBounds_toArray, List.set_cons_zero, List.set_cons_succ]
              refine wpAnyN_take (i := 5) (oi := { dst := some 17, op := Go.Op.move (Go.Operand.tmp 4), type := 3, pos := "ref.go:17", after := #[{ on := 3, ground := Go.Ground.guard }], guard := some (3, true) }) (v := .int .i64 (j : Nat)) rfl (by decide) (by kernel_rfl) (by kernel_rfl) (by kernel_rfl) (fun _ _ _ h => h) (Or.inl ⟨by rfl, ?_⟩) hS1 ?_
              · intro W9 hS9
                have ki := (hS9.cell (1 + i)).trans (gc_k g i hi)
                have kj := (hS9.cell (1 + j)).trans (gc_k g j hj)
                clear hS9
                go_simp
              try simp only [Act.put, List.setIfInBounds_toArray, List.set_cons_zero, List.set_cons_succ]
              refine wpAnyX_one (i := 6) (o := { dst := some 18, op := Go.Op.call { callee := Go.Callee.value (Go.Operand.func 8), args := #[Go.Operand.tmp 16, Go.Operand.tmp 17], argTypes := #[25, 3] }, type := 4, pos := "ref.go:17", after := #[{ on := 4, ground := Go.Ground.data }, { on := 5, ground := Go.Ground.data }, { on := 3, ground := Go.Ground.chain }, { on := 3, ground := Go.Ground.guard }], guard := some (3, true) }) (by kernel_rfl) rfl (fun K hK => ?_)
              refine step_call_g (by rfl) 8 _ _ rfl (fun _ _ => by kernel_rfl) #[.agg (gc g), .int .i64 (j : Nat)] (by simp [go_sem]) _ (HFj W1).out ?_
              rw [HVj.out]
              rintro e W2 ⟨rfl, hCj⟩
              refine ⟨_, rfl, ?_⟩
              have hS2 := hS1.below hCj hS1.lt
              have hB2 := hB1.trans (hCj.mono hB1.size)
              refine hK.out _ _ (fun _ => hS2) ?_
              clear hK K
              try simp only [Act.put, List.setIfInBounds_toArray, List.set_cons_zero, List.set_cons_succ]
              refine wpAnyN_take (i := 7) (oi := { dst := some 19, op := Go.Op.pick (Go.Operand.tmp 15) (Go.Operand.tmp 18) (Go.Operand.const (Go.Value.bool false)), type := 4, pos := "ref.go:17", after := #[{ on := 3, ground := Go.Ground.data }, { on := 6, ground := Go.Ground.data }], guard := none }) (v := .bool false) rfl (by decide) (by kernel_rfl) (by kernel_rfl) (by kernel_rfl) (fun _ _ _ h => h) (Or.inl ⟨by rfl, ?_⟩) hS2 ?_
              · intro W9 hS9
                have ki := (hS9.cell (1 + i)).trans (gc_k g i hi)
                have kj := (hS9.cell (1 + j)).trans (gc_k g j hj)
                clear hS9
                go_simp
              try simp only [Act.put, List.setIfInBounds_toArray, List.set_cons_zero, List.set_cons_succ]
              refine wpAnyN_take (i := 8) (oi := { dst := some 20, op := Go.Op.move (Go.Operand.tmp 19), type := 4, pos := "ref.go:17", after := #[{ on := 7, ground := Go.Ground.data }, { on := 6, ground := Go.Ground.chain }], guard := none }) (v := .bool false) rfl (by decide) (by kernel_rfl) (by kernel_rfl) (by kernel_rfl) (fun _ _ _ h => h) (Or.inl ⟨by rfl, ?_⟩) hS2 ?_
              · intro W9 hS9
                have ki := (hS9.cell (1 + i)).trans (gc_k g i hi)
                have kj := (hS9.cell (1 + j)).trans (gc_k g j hj)
                clear hS9
                go_simp
              try simp only [Act.put, List.setIfInBounds_toArray, List.set_cons_zero, List.set_cons_succ]
              refine wpAnyN_take (i := 9) (oi := { dst := some 21, op := Go.Op.move (Go.Operand.tmp 3), type := 3, pos := "ref.go:17", after := #[{ on := 8, ground := Go.Ground.guard }], guard := some (8, true) }) (v := undef) rfl (by decide) (by kernel_rfl) (by kernel_rfl) (by kernel_rfl) (fun _ _ _ h => h) (Or.inr ⟨by rfl, rfl⟩) hS2 ?_
              try simp only [Act.put, List.setIfInBounds_toArray, List.set_cons_zero, List.set_cons_succ]
              refine wpAnyN_take (i := 10) (oi := { dst := some 22, op := Go.Op.fieldAddr 25 (Go.Operand.tmp 1) 1, type := 0, pos := "ref.go:17", after := #[{ on := 8, ground := Go.Ground.guard }], guard := some (8, true) }) (v := undef) rfl (by decide) (by kernel_rfl) (by kernel_rfl) (by kernel_rfl) (fun _ _ _ h => h) (Or.inr ⟨by rfl, rfl⟩) hS2 ?_
              try simp only [Act.put, List.setIfInBounds_toArray, List.set_cons_zero, List.set_cons_succ]
              refine wpAnyN_take (i := 11) (oi := { dst := some 23, op := Go.Op.indexAddr 23 (Go.Operand.tmp 22) (Go.Operand.tmp 21), type := 0, pos := "ref.go:17", after := #[{ on := 10, ground := Go.Ground.data }, { on := 9, ground := Go.Ground.data }, { on := 8, ground := Go.Ground.guard }], guard := some (8, true) }) (v := undef) rfl (by decide) (by kernel_rfl) (by kernel_rfl) (by kernel_rfl) (fun _ _ _ h => h) (Or.inr ⟨by rfl, rfl⟩) hS2 ?_
              try simp only [Act.put, List.setIfInBounds_toArray, List.set_cons_zero, List.set_cons_succ]
              refine wpAnyN_take (i := 12) (oi := { dst := some 24, op := Go.Op.load 22 (Go.Operand.tmp 23), type := 22, pos := "ref.go:17", after := #[{ on := 11, ground := Go.Ground.data }, { on := 8, ground := Go.Ground.guard }], guard := some (8, true) }) (v := undef) rfl (by decide) (by kernel_rfl) (by kernel_rfl) (by kernel_rfl) (fun _ _ _ h => h) (Or.inr ⟨by rfl, rfl⟩) hS2 ?_
              try simp only [Act.put, List.setIfInBounds_toArray, List.set_cons_zero, List.set_cons_succ]
              refine wpAnyN_take (i := 13) (oi := { dst := some 25, op := Go.Op.move (Go.Operand.tmp 4), type := 3, pos := "ref.go:17", after := #[{ on := 8, ground := Go.Ground.guard }], guard := some (8, true) }) (v := undef) rfl (by decide) (by kernel_rfl) (by kernel_rfl) (by kernel_rfl) (fun _ _ _ h => h) (Or.inr ⟨by rfl, rfl⟩) hS2 ?_
              try simp only [Act.put, List.setIfInBounds_toArray, List.set_cons_zero, List.set_cons_succ]
              refine wpAnyN_take (i := 14) (oi := { dst := some 26, op := Go.Op.fieldAddr 25 (Go.Operand.tmp 1) 1, type := 0, pos := "ref.go:17", after := #[{ on := 8, ground := Go.Ground.guard }], guard := some (8, true) }) (v := undef) rfl (by decide) (by kernel_rfl) (by kernel_rfl) (by kernel_rfl) (fun _ _ _ h => h) (Or.inr ⟨by rfl, rfl⟩) hS2 ?_
              try simp only [Act.put, List.setIfInBounds_toArray, List.set_cons_zero, List.set_cons_succ]
              refine wpAnyN_take (i := 15) (oi := { dst := some 27, op := Go.Op.indexAddr 23 (Go.Operand.tmp 26) (Go.Operand.tmp 25), type := 0, pos := "ref.go:17", after := #[{ on := 14, ground := Go.Ground.data }, { on := 13, ground := Go.Ground.data }, { on := 8, ground := Go.Ground.guard }], guard := some (8, true) }) (v := undef) rfl (by decide) (by kernel_rfl) (by kernel_rfl) (by kernel_rfl) (fun _ _ _ h => h) (Or.inr ⟨by rfl, rfl⟩) hS2 ?_
              try simp only [Act.put, List.setIfInBounds_toArray, List.set_cons_zero, List.set_cons_succ]
              refine wpAnyN_take (i := 16) (oi := { dst := some 28, op := Go.Op.load 22 (Go.Operand.tmp 27), type := 22, pos := "ref.go:17", after := #[{ on := 15, ground := Go.Ground.data }, { on := 8, ground := Go.Ground.guard }], guard := some (8, true) }) (v := undef) rfl (by decide) (by kernel_rfl) (by kernel_rfl) (by kernel_rfl) (fun _ _ _ h => h) (Or.inr ⟨by rfl, rfl⟩) hS2 ?_
              try simp only [Act.put, List.setIfInBounds_toArray, List.set_cons_zero, List.set_cons_succ]
              refine wpAnyN_take (i := 17) (oi := { dst := some 29, op := Go.Op.binOp Go.BinOp.eql 22 (Go.Operand.tmp 24) (Go.Operand.tmp 28) 22, type := 4, pos := "ref.go:17", after := #[{ on := 12, ground := Go.Ground.data }, { on := 16, ground := Go.Ground.data }, { on := 8, ground := Go.Ground.guard }], guard := some (8, true) }) (v := undef) rfl (by decide) (by kernel_rfl) (by kernel_rfl) (by kernel_rfl) (fun _ _ _ h => h) (Or.inr ⟨by rfl, rfl⟩) hS2 ?_
              try simp only [Act.put, List.setIfInBounds_toArray, List.set_cons_zero, List.set_cons_succ]
              refine wpAnyN_take (i := 18) (oi := { dst := some 30, op := Go.Op.pick (Go.Operand.tmp 20) (Go.Operand.tmp 29) (Go.Operand.const (Go.Value.bool false)), type := 4, pos := "ref.go:17", after := #[{ on := 8, ground := Go.Ground.data }, { on := 17, ground := Go.Ground.data }], guard := none }) (v := .bool false) rfl (by decide) (by kernel_rfl) (by kernel_rfl) (by kernel_rfl) (fun _ _ _ h => h) (Or.inl ⟨by rfl, ?_⟩) hS2 ?_
              · intro W9 hS9
                have ki := (hS9.cell (1 + i)).trans (gc_k g i hi)
                have kj := (hS9.cell (1 + j)).trans (gc_k g j hj)
                clear hS9
                go_simp
              try simp only [Act.put, List.setIfInBounds_toArray, List.set_cons_zero, List.set_cons_succ]
              refine wpAnyX_end (by kernel_rfl) ?_
              have HSx := Lib.hid hS2
              have HBx := Lib.hid hB2
              go_wp2_with fail
              go_roundw
              case rel => exact ⟨j + 1, by omega, by go_num, Lib.hid (fun b hb hbi hbj => by
                rcases Nat.lt_or_ge b j with h | h
                · exact hj2.out b h hbi hbj
                · obtain rfl : b = j := by omega
                  first | (exact absurd hbi hfi) | (exact absurd hbj hfj)), HSx, Lib.hid (hBj.out.trans (HBx.out.mono hBj.out.size))⟩
              case measure => simp [intOf]; omega
          · have HVi : Hid (decide (byt g.c i < 128) = false) := Lib.hid (decide_eq_false hfi)
            refine wp_region_X (fun W' => Rows8 W' w.heap.size 25 (gc g)) 19 (by kernel_rfl) ?_
            have hS0 := hG.out.drew
            have hB0 : Below wr.heap.size wr wr.drew := (Below.refl _ _).drew
            generalize wr.drew = Wd at *
            refine wpAnyN_take (i := 0) (oi := { dst := some 12, op := Go.Op.load 25 (Go.Operand.tmp 1), type := 25, pos := "ref.go:17", after := #[], guard := none }) (v := .agg (gc g)) rfl (by decide) (by kernel_rfl) (by kernel_rfl) (by kernel_rfl) (fun _ _ _ h => h) (Or.inl ⟨by rfl, ?_⟩) hS0 ?_
            · intro W9 hS9
              exact exec_load 25 _ rfl ⟨w.heap.size, 0, none⟩ _ (by simp [go_sem]) (Tryz.load_group hS9)
            try simp only [Act.put, List.setIfInBounds_toArray, List.set_cons_zero, List.set_cons_succ]
            refine wpAnyN_take (i := 1) (oi := { dst := some 13, op := Go.Op.move (Go.Operand.tmp 3), type := 3, pos := "ref.go:17", after := #[], guard := none }) (v := .int .i64 (i : Nat)) rfl (by decide) (by kernel_rfl) (by kernel_rfl) (by kernel_rfl) (fun _ _ _ h => h) (Or.inl ⟨by rfl, ?_⟩) hS0 ?_
            · intro W9 hS9
              have ki := (hS9.cell (1 + i)).trans (gc_k g i hi)
              have kj := (hS9.cell (1 + j)).trans (gc_k g j hj)
              clear hS9
              go_simp
            try simp only [Act.put, List.setIfInBounds_toArray, List.set_cons_zero, List.set_cons_succ]
            refine wpAnyX_one (i := 2) (o := { dst := some 14, op := Go.Op.call { callee := Go.Callee.value (Go.Operand.func 8), args := #[Go.Operand.tmp 12, Go.Operand.tmp 13], argTypes := #[25, 3] }, type := 4, pos := "ref.go:17", after := #[{ on := 0, ground := Go.Ground.data }, { on := 1, ground := Go.Ground.data }], guard := none }) (by kernel_rfl) rfl (fun K hK => ?_)
            refine step_call_g (by rfl) 8 _ _ rfl (fun _ _ => by kernel_rfl) #[.agg (gc g), .int .i64 (i : Nat)] (by simp [go_sem]) _ (HFi Wd).out ?_
            rw [HVi.out]
            rintro e W1 ⟨rfl, hCi⟩
            refine ⟨_, rfl, ?_⟩
            have hS1 := hS0.below hCi hS0.lt
            have hB1 := hB0.trans (hCi.mono hB0.size)
            refine hK.out _ _ (fun _ => hS1) ?_
            clear hK K
            try simp only [Act.put, List.setIfInBounds_toArray, List.set_cons_zero, List.set_cons_succ]
            refine wpAnyN_take (i := 3) (oi := { dst := some 15, op := Go.Op.move (Go.Operand.tmp 14), type := 4, pos := "ref.go:17", after := #[{ on := 2, ground := Go.Ground.data }, { on := 2, ground := Go.Ground.chain }], guard := none }) (v := .bool false) rfl (by decide) (by kernel_rfl) (by kernel_rfl) (by kernel_rfl) (fun _ _ _ h => h) (Or.inl ⟨by rfl, ?_⟩) hS1 ?_
            · intro W9 hS9
              have ki := (hS9.cell (1 + i)).trans (gc_k g i hi)
              have kj := (hS9.cell (1 + j)).trans (gc_k g j hj)
              clear hS9
              go_simp
            try simp only [Act.put, List.setIfInBounds_toArray, List.set_cons_zero, List.set_cons_succ]
            refine wpAnyN_take (i := 4) (oi := { dst := some 16, op := Go.Op.load 25 (Go.Operand.tmp 1), type := 25, pos := "ref.go:17", after := #[{ on := 3, ground := Go.Ground.guard }], guard := some (3, true) }) (v := undef) rfl (by decide) (by kernel_rfl) (by kernel_rfl) (by kernel_rfl) (fun _ _ _ h => h) (Or.inr ⟨by rfl, rfl⟩) hS1 ?_
            try simp only [Act.put, List.setIfInBounds_toArray, List.set_cons_zero, List.set_cons_succ]
            refine wpAnyN_take (i := 5) (oi := { dst := some 17, op := Go.Op.move (Go.Operand.tmp 4), type := 3, pos := "ref.go:17", after := #[{ on := 3, ground := Go.Ground.guard }], guard := some (3, true) }) (v := undef) rfl (by decide) (by kernel_rfl) (by kernel_rfl) (by kernel_rfl) (fun _ _ _ h => h) (Or.inr ⟨by rfl, rfl⟩) hS1 ?_
            try simp only [Act.put, List.setIfInBounds_toArray, List.set_cons_zero, List.set_cons_succ]
            refine wpAnyN_take (i := 6) (oi := { dst := some 18, op := Go.Op.call { callee := Go.Callee.value (Go.Operand.func 8), args := #[Go.Operand.tmp 16, Go.Operand.tmp 17], argTypes := #[25, 3] }, type := 4, pos := "ref.go:17", after := #[{ on := 4, ground := Go.Ground.data }, { on := 5, ground := Go.Ground.data }, { on := 3, ground := Go.Ground.chain }, { on := 3, ground := Go.Ground.guard }], guard := some (3, true) }) (v := undef) rfl (by decide) (by kernel_rfl) (by kernel_rfl) (by kernel_rfl) (fun _ _ _ h => h) (Or.inr ⟨by rfl, rfl⟩) hS1 ?_
            try simp only [Act.put, List.setIfInBounds_toArray, List.set_cons_zero, List.set_cons_succ]
            refine wpAnyN_take (i := 7) (oi := { dst := some 19, op := Go.Op.pick (Go.Operand.tmp 15) (Go.Operand.tmp 18) (Go.Operand.const (Go.Value.bool false)), type := 4, pos := "ref.go:17", after := #[{ on := 3, ground := Go.Ground.data }, { on := 6, ground := Go.Ground.data }], guard := none }) (v := .bool false) rfl (by decide) (by kernel_rfl) (by kernel_rfl) (by kernel_rfl) (fun _ _ _ h => h) (Or.inl ⟨by rfl, ?_⟩) hS1 ?_
            · intro W9 hS9
              have ki := (hS9.cell (1 + i)).trans (gc_k g i hi)
              have kj := (hS9.cell (1 + j)).trans (gc_k g j hj)
              clear hS9
              go_simp
            try simp only [Act.put, List.setIfInBounds_toArray, List.set_cons_zero, List.set_cons_succ]
            refine wpAnyN_take (i := 8) (oi := { dst := some 20, op := Go.Op.move (Go.Operand.tmp 19), type := 4, pos := "ref.go:17", after := #[{ on := 7, ground := Go.Ground.data }, { on := 6, ground := Go.Ground.chain }], guard := none }) (v := .bool false) rfl (by decide) (by kernel_rfl) (by kernel_rfl) (by kernel_rfl) (fun _ _ _ h => h) (Or.inl ⟨by rfl, ?_⟩) hS1 ?_
            · intro W9 hS9
              have ki := (hS9.cell (1 + i)).trans (gc_k g i hi)
              have kj := (hS9.cell (1 + j)).trans (gc_k g j hj)
              clear hS9
              go_simp
            try simp only [Act.put, List.setIfInBounds_toArray, List.set_cons_zero, List.set_cons_succ]
            refine wpAnyN_take (i := 9) (oi := { dst := some 21, op := Go.Op.move (Go.Operand.tmp 3), type := 3, pos := "ref.go:17", after := #[{ on := 8, ground := Go.Ground.guard }], guard := some (8, true) }) (v := undef) rfl (by decide) (by kernel_rfl) (by kernel_rfl) (by kernel_rfl) (fun _ _ _ h => h) (Or.inr ⟨by rfl, rfl⟩) hS1 ?_
            try simp only [Act.put, List.setIfInBounds_toArray, List.set_cons_zero, List.set_cons_succ]
            refine wpAnyN_take (i := 10) (oi := { dst := some 22, op := Go.Op.fieldAddr 25 (Go.Operand.tmp 1) 1, type := 0, pos := "ref.go:17", after := #[{ on := 8, ground := Go.Ground.guard }], guard := some (8, true) }) (v := undef) rfl (by decide) (by kernel_rfl) (by kernel_rfl) (by kernel_rfl) (fun _ _ _ h => h) (Or.inr ⟨by rfl, rfl⟩) hS1 ?_
            try simp only [Act.put, List.setIfInBounds_toArray, List.set_cons_zero, List.set_cons_succ]
            refine wpAnyN_take (i := 11) (oi := { dst := some 23, op := Go.Op.indexAddr 23 (Go.Operand.tmp 22) (Go.Operand.tmp 21), type := 0, pos := "ref.go:17", after := #[{ on := 10, ground := Go.Ground.data }, { on := 9, ground := Go.Ground.data }, { on := 8, ground := Go.Ground.guard }], guard := some (8, true) }) (v := undef) rfl (by decide) (by kernel_rfl) (by kernel_rfl) (by kernel_rfl) (fun _ _ _ h => h) (Or.inr ⟨by rfl, rfl⟩) hS1 ?_
            try simp only [Act.put, List.setIfInBounds_toArray, List.set_cons_zero, List.set_cons_succ]
            refine wpAnyN_take (i := 12) (oi := { dst := some 24, op := Go.Op.load 22 (Go.Operand.tmp 23), type := 22, pos := "ref.go:17", after := #[{ on := 11, ground := Go.Ground.data }, { on := 8, ground := Go.Ground.guard }], guard := some (8, true) }) (v := undef) rfl (by decide) (by kernel_rfl) (by kernel_rfl) (by kernel_rfl) (fun _ _ _ h => h) (Or.inr ⟨by rfl, rfl⟩) hS1 ?_
            try simp only [Act.put, List.setIfInBounds_toArray, List.set_cons_zero, List.set_cons_succ]
            refine wpAnyN_take (i := 13) (oi := { dst := some 25, op := Go.Op.move (Go.Operand.tmp 4), type := 3, pos := "ref.go:17", after := #[{ on := 8, ground := Go.Ground.guard }], guard := some (8, true) }) (v := undef) rfl (by decide) (by kernel_rfl) (by kernel_rfl) (by kernel_rfl) (fun _ _ _ h => h) (Or.inr ⟨by rfl, rfl⟩) hS1 ?_
            try simp only [Act.put, List.setIfInBounds_toArray, List.set_cons_zero, List.set_cons_succ]
            refine wpAnyN_take (i := 14) (oi := { dst := some 26, op := Go.Op.fieldAddr 25 (Go.Operand.tmp 1) 1, type := 0, pos := "ref.go:17", after := #[{ on := 8, ground := Go.Ground.guard }], guard := some (8, true) }) (v := undef) rfl (by decide) (by kernel_rfl) (by kernel_rfl) (by kernel_rfl) (fun _ _ _ h => h) (Or.inr ⟨by rfl, rfl⟩) hS1 ?_
            try simp only [Act.put, List.setIfInBounds_toArray, List.set_cons_zero, List.set_cons_succ]
            refine wpAnyN_take (i := 15) (oi := { dst := some 27, op := Go.Op.indexAddr 23 (Go.Operand.tmp 26) (Go.Operand.tmp 25), type := 0, pos := "ref.go:17", after := #[{ on := 14, ground := Go.Ground.data }, { on := 13, ground := Go.Ground.data }, { on := 8, ground := Go.Ground.guard }], guard := some (8, true) }) (v := undef) rfl (by decide) (by kernel_rfl) (by kernel_rfl) (by kernel_rfl) (fun _ _ _ h => h) (Or.inr ⟨by rfl, rfl⟩) hS1 ?_
            try simp only [Act.put, List.setIfInBounds_toArray, List.set_cons_zero, List.set_cons_succ]
            refine wpAnyN_take (i := 16) (oi := { dst := some 28, op := Go.Op.load 22 (Go.Operand.tmp 27), type := 22, pos := "ref.go:17", after := #[{ on := 15, ground := Go.Ground.data }, { on := 8, ground := Go.Ground.guard }], guard := some (8, true) }) (v := undef) rfl (by decide) (by kernel_rfl) (by kernel_rfl) (by kernel_rfl) (fun _ _ _ h => h) (Or.inr ⟨by rfl, rfl⟩) hS1 ?_
            try simp only [Act.put, List.setIfInBounds_toArray, List.set_cons_zero, List.set_cons_succ]
            refine wpAnyN_take (i := 17) (oi := { dst := some 29, op := Go.Op.binOp Go.BinOp.eql 22 (Go.Operand.tmp 24) (Go.Operand.tmp 28) 22, type := 4, pos := "ref.go:17", after := #[{ on := 12, ground := Go.Ground.data }, { on := 16, ground := Go.Ground.data }, { on := 8, ground := Go.Ground.guard }], guard := some (8, true) }) (v := undef) rfl (by decide) (by kernel_rfl) (by kernel_rfl) (by kernel_rfl) (fun _ _ _ h => h) (Or.inr ⟨by rfl, rfl⟩) hS1 ?_
            try simp only [Act.put, List.setIfInBounds_toArray, List.set_cons_zero, List.set_cons_succ]
            refine wpAnyN_take (i := 18) (oi := { dst := some 30, op := Go.Op.pick (Go.Operand.tmp 20) (Go.Operand.tmp 29) (Go.Operand.const (Go.Value.bool false)), type := 4, pos := "ref.go:17", after := #[{ on := 8, ground := Go.Ground.data }, { on := 17, ground := Go.Ground.data }], guard := none }) (v := .bool false) rfl (by decide) (by kernel_rfl) (by kernel_rfl) (by kernel_rfl) (fun _ _ _ h => h) (Or.inl ⟨by rfl, ?_⟩) hS1 ?_
            · intro W9 hS9
              have ki := (hS9.cell (1 + i)).trans (gc_k g i hi)
              have kj := (hS9.cell (1 + j)).trans (gc_k g j hj)
              clear hS9
              go_simp
            try simp only [Act.put, List.setIfInBounds_toArray, List.set_cons_zero, List.set_cons_succ]
            refine wpAnyX_end (by kernel_rfl) ?_
            have HSx := Lib.hid hS1
            have HBx := Lib.hid hB1
            go_wp2_with fail
            go_roundw
            case rel => exact ⟨j + 1, by omega, by go_num, Lib.hid (fun b hb hbi hbj => by
              rcases Nat.lt_or_ge b j with h | h
              · exact hj2.out b h hbi hbj
              · obtain rfl : b = j := by omega
                first | (exact absurd hbi hfi) | (exact absurd hbj hfj)), HSx, Lib.hid (hBj.out.trans (HBx.out.mono hBj.out.size))⟩
            case measure => simp [intOf]; omega
        · obtain rfl : j = i := by omega
          go_wp2_with fail
          go_roundw
          case rel => exact ⟨j + 1, by omega, by go_num, Lib.hid (fun a b ha hb hfa hfb => by
            rcases Nat.lt_or_ge a j with h | h
            · exact hia.out a b h hb hfa hfb
            · obtain rfl : a = j := by omega
              exact hj2.out b hb hfa hfb), hG, Lib.hid (HBo.out.trans (hBj.out.mono HBo.out.size))⟩
          case measure => simp [intOf]; omega
    · obtain rfl : i = 8 := by omega
      have hcc : wr.cell? ⟨w.heap.size, 0, none⟩ = some (.int .u64 (g.c : Nat)) := (hGo.out.cell 0).trans (gc_0 g)
      have HRt : Hid (rightC g.c = rightG g) := Lib.hid (by
        cases hr : rightC g.c
        · unfold rightG; rw [hr]; rfl
        · refine (right_of hr fun y x hy hx hk => ?_).symm
          rcases Nat.lt_trichotomy (y : Nat) x with h | h | h
          · exact absurd hk.symm (hia.out x y x.isLt h hx hy)
          · exact Fin.ext h
          · exact absurd hk (hia.out y x y.isLt h hy hx))
      go_wp2_with (go_at_call 20; refine (HRC _).out.mono ?_; rintro e w9 ⟨rfl, hB9⟩; have HB9 := Lib.hid (HBo.out.trans (hB9.mono HBo.out.size)); clear hB9)
      go_ret
      exact ⟨by rw [← HRt.out]; rfl, HB9.out⟩
end Go.Proofs

/- Group: the reference's Looks, Find. -/
namespace Go.Proofs
set_option maxRecDepth 100000
set_option maxRecDepth 100000
open Go.RowKit Go.Shelf
attribute [local go_sem] Oper.semAt_some

def hm (g : Gr) (h : Nat) : Nat := maskB fun n => byt g.c n == h
theorem hm_bit (g : Gr) (h k : Nat) (hk : k < 8) : (hm g h).testBit k = (byt g.c k == h) := testBit_maskB (fun n => byt g.c n == h) ⟨k, hk⟩
set_option maxHeartbeats 8000000 in
theorem Tryz.rgLooks_any (g : Gr) (hc : g.c < 18446744073709551616) (h : Nat) (w : World) : Calls Tryz.prog 46 #[.agg (gc g), .int .u8 (h : Nat)] w (AllQ (hl g h) w) := by
  obtain ⟨i0, hi, hz0, hz1, hz2⟩ := info_parts Tryz.infoInt
  have HA := fun n hn W => Lib.hid (Tryz.At_any g.c n hc hn W)
  have h0 := Rows8.new w 25 (gc g)
  have hb : Below w.heap.size w (w.alloc (.cells (gc g) 25)) := (Below.refl w.heap.size w).alloc (Nat.le_refl _) _
  go_enter Tryz.func46, Tryz.ntmps46
  go_wp2_with fail
  generalize (w.alloc (.cells (gc g) 25)) = W0 at *
  have H0 := Lib.hid h0
  have HB0 := Lib.hid hb
  clear h0 hb
  go_loopw [5, 7] (fun lv v wr => ∃ k : Nat, k ≤ 8 ∧ v = .int .i64 k ∧ Hid (OwnsLanes w.heap.size (lanesTo (hm g h) k) lv wr) ∧ Hid (Rows8 wr w.heap.size 25 (gc g)) ∧ Hid (Below w.heap.size w wr)) (fun _ v _ => 8 - (intOf v).toNat)
  case atStart => exact ⟨0, by omega, rfl, Lib.hid (owns_none _ _), H0, HB0⟩
  case round =>
    obtain ⟨k, hk8, rfl, hO, hG, hBl⟩ := hrel
    by_cases hk : k < 8
    · have hki : (k : Int) < 8 := by omega
      have hcc : wr.cell? ⟨w.heap.size, 0, none⟩ = some (.int .u64 (g.c : Nat)) := (hG.out.cell 0).trans (gc_0 g)
      have HAk := fun W => HA k (by omega) W
      have hbit := hm_bit g h k hk
      have hlen := lanesTo_length (hm g h) k
      have hsz := hBl.out.size
      cases hbh : (byt g.c k == h)
      · have hne : (((byt g.c k : Nat) : Int) == ((h : Nat) : Int)) = false := by rw [natEq_walk]; exact hbh
        have HL : Hid (lanesTo (hm g h) (k + 1) = lanesTo (hm g h) k) := Lib.hid (lanesTo_no (by rw [hbit, hbh]))
        clear hbit hbh
        go_wp2_with (go_at_call 43; refine (HAk _).out.mono ?_; rintro e w2 ⟨rfl, rfl⟩)
        go_roundw
        case rel => exact ⟨k + 1, by omega, by go_num, by rw [HL.out]; exact hO, hG, hBl⟩
        case measure => simp [intOf]; omega
      · have hne : (((byt g.c k : Nat) : Int) == ((h : Nat) : Int)) = true := by rw [natEq_walk]; exact hbh
        have HL : Hid (lanesTo (hm g h) (k + 1) = lanesTo (hm g h) k ++ [⟨k, hk⟩]) := Lib.hid (lanesTo_yes hk (by rw [hbit, hbh]))
        have hO2 := (hO.out.below ((Below.refl wr.heap.size wr).alloc (Nat.le_refl _) (.cells #[.int .i64 (k : Nat)] 3)) (Nat.le_refl _)).1
        have hG2 := hG.out.alloc (.cells #[.int .i64 (k : Nat)] 3)
        have hB2 := hBl.out.alloc hBl.out.size (.cells #[.int .i64 (k : Nat)] 3)
        have HO2 := Lib.hid hO2
        clear hbit hbh hO2
        go_wp2_with (first | (go_at_call 43; refine (HAk _).out.mono ?_; rintro e w2 ⟨rfl, rfl⟩) | (at_builtin; refine wpList_append_own _ rfl _ _ 46 rfl w.heap.size 3 i0 (.int .i64 0) 1 8 Tryz.underlying46 hi hz0 hz1 hz2 rfl (by decide) _ _ _ rfl HO2.out ⟨wr.heap.size, 0, none⟩ 1 1 [.int .i64 (k : Nat)] rfl rfl (cells_new wr _ [.int .i64 (k : Nat)]) (by simp [Value.oneCell']) (by unfold maxLen; omega) (by omega) (by simp; omega) ?_; intro v' w3 hown' hgrow _; have HOW := Lib.hid hown'; have HGR := Lib.hid hgrow; clear hown' hgrow))
        have hrow := HOW.out
        obtain ⟨g', cap', rfl⟩ := ownsRow_succ hrow
        go_roundw
        case rel => exact ⟨k + 1, by omega, by go_num, Lib.hid (by
          rw [HL.out]
          refine ⟨?_, by simp⟩
          rw [List.length_append, laneVals_snoc]
          exact hrow), Lib.hid (rows_grown HO2.out (by decide) HGR.out hG2), Lib.hid (hB2.grown HGR.out hB2.size (fun j ej => (World.ownsRow.lt HO2.out j ej).1))⟩
        case measure => simp [intOf]; omega
    · obtain rfl : k = 8 := by omega
      go_wp2_with fail
      go_ret
      exact ⟨_, rfl, hO.out, hBl.out⟩

/-- What the reference's Find tells: the lane, or -1; how many were asked. -/
def rfL (g : Gr) (key h : Nat) : Int := match findO g key h with | none => -1 | some (a, _) => (a : Nat)
def rfN (g : Gr) (key h : Nat) : Int := match findO g key h with | none => 0 | some (_, n) => (n : Nat)
set_option maxHeartbeats 8000000 in
theorem Tryz.rgFind_any (g : Gr) (hc : g.c < 18446744073709551616) (key h : Nat) (w : World) : Calls Tryz.prog 25 #[.agg (gc g), .int .u64 (key : Nat), .int .u8 (h : Nat)] w fun e w' => e = .returned (.tuple #[.int .i64 (rfL g key h), .int .i64 (rfN g key h)]) ∧ Below w.heap.size w w' := by
  have HLk := fun W => Lib.hid (Tryz.rgLooks_any g hc h W)
  have h0 := Rows8.new w 25 (gc g)
  have hb : Below w.heap.size w (w.alloc (.cells (gc g) 25)) := (Below.refl w.heap.size w).alloc (Nat.le_refl _) _
  have hld := Tryz.load_group h0
  go_enter Tryz.func25, Tryz.ntmps25
  go_wp2_with (refine wpList_loadW (by rfl) _ _ rfl ⟨w.heap.size, 0, none⟩ _ rfl hld ?_)
  refine (HLk _).out.mono ?_
  rintro e w2 ⟨v, rfl, hO, hB2⟩
  obtain ⟨⟨a, c, rfl⟩, hI⟩ := owns_intsAt hO
  have hG := h0.below hB2 h0.lt
  have hBl := hb.trans (hB2.mono hb.size)
  obtain ⟨n, hn⟩ : ∃ n, n = (hl g h).length := ⟨_, rfl⟩
  rw [← hn] at hI ⊢
  have HN := Lib.hid hn
  have HI := Lib.hid hI
  have HG := Lib.hid hG
  have HBl := Lib.hid hBl
  have hn8 : n ≤ 8 := by rw [hn]; exact lanes_le _
  clear hO hI hG hBl hB2 h0 hb hld hn
  go_wp2_with fail
  go_loopw [14] (fun v wr => ∃ k : Nat, k ≤ n ∧ v = .int .i64 k ∧ Hid (∀ y ∈ (hl g h).take k, (g.k (y : Fin 8) == key) = false) ∧ w2 = wr) (fun v _ => n - (intOf v).toNat)
  case atStart => exact ⟨0, by omega, rfl, Lib.hid (by simp), rfl⟩
  case round =>
    obtain ⟨k, hk, rfl, hno, rfl⟩ := hrel
    by_cases hlt : k < n
    · have hkl : k < (hl g h).length := by rw [← HN.out]; exact hlt
      have hki : (k : Int) < (n : Int) := by omega
      obtain ⟨b, off, ea, hbw, hcs⟩ : ∃ b off, a = some ⟨b, off, none⟩ ∧ b < w2.heap.size ∧ w2.cell? ⟨b, off + k, none⟩ = some (.int .i64 (((hl g h)[k] : Nat) : Int)) := by
        rcases HI.out with ⟨e, hz⟩ | ⟨b, off, cap', e, hb, hcs⟩
        · have : (hl g h).length = 0 := by simpa [lanesInt] using hz
          omega
        · injection e with e1 e2 e3
          refine ⟨b, off, e1, hb, ?_⟩
          have h1 := hcs k (by simpa [lanesInt] using hkl)
          rw [lanesInt_get (hl g h) k hkl] at h1
          exact h1
      subst ea
      have hdr : Hid (hl g h = (hl g h).take k ++ (hl g h)[k] :: (hl g h).drop (k + 1)) := Lib.hid (by rw [← List.drop_eq_getElem_cons hkl, List.take_append_drop])
      have htk : Hid ((hl g h).take (k + 1) = (hl g h).take k ++ [(hl g h)[k]]) := Lib.hid (take_next _ k hkl)
      have htl : Hid (((hl g h).take k).length = k) := Lib.hid (by rw [List.length_take]; omega)
      generalize (hl g h)[k] = y at *
      have hyl : ¬ (8 : Int) ≤ ((y : Nat) : Int) := by have := y.isLt; omega
      have hck : w2.cell? ⟨w.heap.size, 1 + (y : Nat), none⟩ = some (.int .u64 (g.k y : Nat)) := (HG.out.cell _).trans (gc_k g y y.isLt)
      cases hkk : (g.k y == key)
      · have hne : (((g.k y : Nat) : Int) == ((key : Nat) : Int)) = false := by rw [natEq_walk]; exact hkk
        have HKK := Lib.hid hkk
        clear hkk
        go_wp2_with fail
        go_roundw
        case rel => exact ⟨k + 1, by omega, by go_num, Lib.hid (by
          rw [htk.out]
          intro z hz
          rcases List.mem_append.1 hz with h1 | h1
          · exact hno.out z h1
          · rw [List.mem_singleton.1 h1]; exact HKK.out), trivial⟩
        case measure => simp [intOf]; omega
      · have hne : (((g.k y : Nat) : Int) == ((key : Nat) : Int)) = true := by rw [natEq_walk]; exact hkk
        have hF : findO g key h = some ((y : Nat), k + 1) := by
          unfold findO
          rw [hdr.out, firstL_some _ y _ 0 hno.out hkk, htl.out, Nat.zero_add]
        have HL : Hid (rfL g key h = (y : Nat)) := Lib.hid (by unfold rfL; rw [hF])
        have HNn : Hid (rfN g key h = ((k + 1 : Nat) : Int)) := Lib.hid (by unfold rfN; rw [hF])
        clear hF hkk
        go_wp2_with fail
        go_ret2
        exact ⟨by rw [HL.out, HNn.out]; rfl, HBl.out⟩
    · obtain rfl : k = n := by omega
      have hF : findO g key h = none := by
        unfold findO
        exact firstL_none _ 0 (by
          have := hno.out
          rw [List.take_of_length_le (by rw [← HN.out]; exact Nat.le_refl _)] at this
          exact this)
      have HL : Hid (rfL g key h = -1) := Lib.hid (by unfold rfL; rw [hF])
      have HNn : Hid (rfN g key h = 0) := Lib.hid (by unfold rfN; rw [hF])
      clear hF
      go_wp2_with fail
      go_ret2
      exact ⟨by rw [HL.out, HNn.out]; rfl, HBl.out⟩
end Go.Proofs

/- Group: the reference's Put, Drop. -/
namespace Go.Proofs
set_option maxRecDepth 100000
open Go.RowKit Go.Shelf
attribute [local go_sem] Oper.semAt_some

theorem gc_setC (g : Gr) (x : Nat) : (gc g).setIfInBounds 0 (.int .u64 (x : Nat)) = gc ⟨x, g.k, g.v⟩ := rfl
theorem gc_setK (g : Gr) (x : Nat) : ∀ n, n < 8 → (gc g).setIfInBounds (1 + n) (.int .u64 (x : Nat)) = gc ⟨g.c, upd g.k n x, g.v⟩
  | 0, _ => rfl | 1, _ => rfl | 2, _ => rfl | 3, _ => rfl | 4, _ => rfl | 5, _ => rfl | 6, _ => rfl | 7, _ => rfl
  | n + 8, h => absurd h (by omega)
theorem gc_setV (g : Gr) (x : Nat) : ∀ n, n < 8 → (gc g).setIfInBounds (9 + n) (.int .u64 (x : Nat)) = gc ⟨g.c, g.k, upd g.v n x⟩
  | 0, _ => rfl | 1, _ => rfl | 2, _ => rfl | 3, _ => rfl | 4, _ => rfl | 5, _ => rfl | 6, _ => rfl | 7, _ => rfl
  | n + 8, h => absurd h (by omega)
theorem gc_ctrl {W : World} {B : Nat} {t : TypeId} {g : Gr} (h : Rows8 W B t (gc g)) (x : Nat) : Rows8 (W.setCell ⟨B, 0, none⟩ (.int .u64 (x : Nat))) B t (gc ⟨x, g.k, g.v⟩) := by
  have h2 := h.set 0 (.int .u64 (x : Nat))
  rwa [gc_setC] at h2
theorem gc_key {W : World} {B : Nat} {t : TypeId} {g : Gr} (h : Rows8 W B t (gc g)) (n : Nat) (hn : n < 8) (x : Nat) : Rows8 (W.setCell ⟨B, 1 + n, none⟩ (.int .u64 (x : Nat))) B t (gc ⟨g.c, upd g.k n x, g.v⟩) := by
  have h2 := h.set (1 + n) (.int .u64 (x : Nat))
  rwa [gc_setK g x n hn] at h2
theorem gc_val {W : World} {B : Nat} {t : TypeId} {g : Gr} (h : Rows8 W B t (gc g)) (n : Nat) (hn : n < 8) (x : Nat) : Rows8 (W.setCell ⟨B, 9 + n, none⟩ (.int .u64 (x : Nat))) B t (gc ⟨g.c, g.k, upd g.v n x⟩) := by
  have h2 := h.set (9 + n) (.int .u64 (x : Nat))
  rwa [gc_setV g x n hn] at h2
/-- The least free lane from k on, or -1. -/
def FreeFrom (g : Gr) (k : Nat) (fr : Int) : Prop := (fr = -1 ∧ ∀ y : Fin 8, k ≤ y → byt g.c y < 128) ∨ ∃ y : Fin 8, fr = (y : Nat) ∧ k ≤ y ∧ ¬ byt g.c y < 128 ∧ ∀ z : Fin 8, k ≤ z → (z : Nat) < y → byt g.c z < 128
theorem putL_of {g : Gr} {y : Fin 8} (h : ¬ byt g.c y < 128) (h2 : ∀ z : Fin 8, (z : Nat) < y → byt g.c z < 128) : putL g = y ∧ frl g ≠ [] := by
  have hm := (mem_frl g y).2 h
  unfold putL
  cases hf : frl g with
  | nil => rw [hf] at hm; cases hm
  | cons z l =>
    refine ⟨?_, by simp⟩
    have hz := (mem_frl g z).1 (by rw [hf]; simp)
    have hs := lanes_lt (255 - fm g)
    rw [show lanesOf (255 - fm g) = frl g from rfl, hf] at hs
    rw [hf] at hm
    rcases List.mem_cons.1 hm with e | e
    · rw [e]
    · exact absurd (h2 z ((List.pairwise_cons.1 hs).1 y e)) hz
def rpG (g : Gr) (s : Sl) : Gr := if putE g s = 0 then putG g s else zG
def rpL (g : Gr) (s : Sl) : Int := if putE g s = 0 then (putL g : Nat) else 0
set_option maxHeartbeats 8000000 in
theorem Tryz.rgPut_any (g : Gr) (hc : g.c < 18446744073709551616) (s : Sl) (hs : s.h2 < 256) (w : World) : Calls Tryz.prog 12 #[.agg (gc g), .agg (sc s)] w fun e w' => e = .returned (.tuple #[.agg (gc (rpG g s)), .int .i64 (rpL g s), .int .i64 (putE g s)]) ∧ Below w.heap.size w w' := by
  have HFull := fun n hn W => Lib.hid (Tryz.rgFull_any g hc n hn W)
  have hG0 : Rows8 (((w.alloc (.cells (gc g) 25)).alloc (.cells (sc s) 30)).alloc (.cells #[.int .u64 0, .int .u64 0, .int .u64 0, .int .u64 0, .int .u64 0, .int .u64 0, .int .u64 0, .int .u64 0, .int .u64 0, .int .u64 0, .int .u64 0, .int .u64 0, .int .u64 0, .int .u64 0, .int .u64 0, .int .u64 0, .int .u64 0] 25)) w.heap.size 25 (gc g) := ((Rows8.new w _ _).alloc _).alloc _
  have hs0 : Rows8 (((w.alloc (.cells (gc g) 25)).alloc (.cells (sc s) 30)).alloc (.cells #[.int .u64 0, .int .u64 0, .int .u64 0, .int .u64 0, .int .u64 0, .int .u64 0, .int .u64 0, .int .u64 0, .int .u64 0, .int .u64 0, .int .u64 0, .int .u64 0, .int .u64 0, .int .u64 0, .int .u64 0, .int .u64 0, .int .u64 0] 25)) (w.heap.size + 1) 30 (sc s) := by
    have h := Rows8.new (w.alloc (.cells (gc g) 25)) 30 (sc s)
    rw [World.size_alloc] at h
    exact h.alloc _
  have hR0 : Rows8 (((w.alloc (.cells (gc g) 25)).alloc (.cells (sc s) 30)).alloc (.cells #[.int .u64 0, .int .u64 0, .int .u64 0, .int .u64 0, .int .u64 0, .int .u64 0, .int .u64 0, .int .u64 0, .int .u64 0, .int .u64 0, .int .u64 0, .int .u64 0, .int .u64 0, .int .u64 0, .int .u64 0, .int .u64 0, .int .u64 0] 25)) (w.heap.size + 1 + 1) 25 (gc zG) := by
    have h := Rows8.new ((w.alloc (.cells (gc g) 25)).alloc (.cells (sc s) 30)) 25 (gc zG)
    rw [World.size_alloc, World.size_alloc] at h
    exact h
  have hb0 : Below w.heap.size w (((w.alloc (.cells (gc g) 25)).alloc (.cells (sc s) 30)).alloc (.cells #[.int .u64 0, .int .u64 0, .int .u64 0, .int .u64 0, .int .u64 0, .int .u64 0, .int .u64 0, .int .u64 0, .int .u64 0, .int .u64 0, .int .u64 0, .int .u64 0, .int .u64 0, .int .u64 0, .int .u64 0, .int .u64 0, .int .u64 0] 25)) := (((Below.refl _ w).alloc (Nat.le_refl _) _).alloc (by simp) _).alloc (by simp; omega) _
  have hz0 : (((w.alloc (.cells (gc g) 25)).alloc (.cells (sc s) 30)).alloc (.cells #[.int .u64 0, .int .u64 0, .int .u64 0, .int .u64 0, .int .u64 0, .int .u64 0, .int .u64 0, .int .u64 0, .int .u64 0, .int .u64 0, .int .u64 0, .int .u64 0, .int .u64 0, .int .u64 0, .int .u64 0, .int .u64 0, .int .u64 0] 25)).heap.size = w.heap.size + 3 := by simp
  have herr : ∀ (E : Int) (W : World), putE g s = E → E ≠ 0 → Ending.returned (.tuple #[.agg (gc zG), .int .i64 0, .int .i64 E]) = .returned (.tuple #[.agg (gc (rpG g s)), .int .i64 (rpL g s), .int .i64 (putE g s)]) := fun E W h h0 => by
    unfold rpG rpL
    rw [h, if_neg h0, if_neg h0]
  have HErr := Lib.hid herr
  have hc2 : (((w.alloc (.cells (gc g) 25)).alloc (.cells (sc s) 30)).alloc (.cells #[.int .u64 0, .int .u64 0, .int .u64 0, .int .u64 0, .int .u64 0, .int .u64 0, .int .u64 0, .int .u64 0, .int .u64 0, .int .u64 0, .int .u64 0, .int .u64 0, .int .u64 0, .int .u64 0, .int .u64 0, .int .u64 0, .int .u64 0] 25)).cell? ⟨w.heap.size + 1, 2, none⟩ = some (.int .u8 (s.h2 : Nat)) := hs0.cell 2
  have hs2c : (sc s)[2]? = some (.int .u8 (s.h2 : Nat)) := rfl
  clear herr
  go_enter Tryz.func12, Tryz.ntmps12
  by_cases h2 : 127 < s.h2
  · have hh2 : (127 : Int) < ((s.h2 : Nat) : Int) := by omega
    have HE : Hid (putE g s = 2) := Lib.hid (by unfold putE; rw [if_pos h2])
    have hst := Tryz.store_group zG hR0 rfl
    have HR := Lib.hid (setRow_heap _ (w.heap.size + 1 + 1) (gc zG) (gc zG) _ _ hR0)
    have HB := Lib.hid (below_setRow hb0 (by omega : w.heap.size ≤ w.heap.size + 1 + 1) (gc zG))
    clear hG0 hs0 hR0 hb0
    go_wp2_with (refine wpList_storeW (by rfl) 25 _ _ rfl ⟨w.heap.size + 1 + 1, 0, none⟩ _ rfl rfl hst ?_)
    refine bodyPost_ret (results_ctt rfl _ _ (w.heap.size + 1 + 1) _ _ _ rfl rfl rfl (run_loadVar_row (P := Tryz.prog) _ (w.heap.size + 1 + 1) 25 25 _ (0, 0) _ HR.out Tryz.underlying25 rfl (by kernel_rfl))) rfl ?_
    exact ⟨HErr.out 2 w HE.out (by decide), HB.out⟩
  · have hh2 : ¬ (127 : Int) < ((s.h2 : Nat) : Int) := by omega
    have HE : Hid (putE g s = if (firstL (fun n => g.k n == s.key) (fl g) 0).isSome then 5 else if frl g = [] then 6 else 0) := Lib.hid (by unfold putE; rw [if_neg h2])
    go_wp2_with fail
    generalize (((w.alloc (.cells (gc g) 25)).alloc (.cells (sc s) 30)).alloc (.cells #[.int .u64 0, .int .u64 0, .int .u64 0, .int .u64 0, .int .u64 0, .int .u64 0, .int .u64 0, .int .u64 0, .int .u64 0, .int .u64 0, .int .u64 0, .int .u64 0, .int .u64 0, .int .u64 0, .int .u64 0, .int .u64 0, .int .u64 0] 25)) = W0 at *
    have HG0 := Lib.hid hG0
    have HS0 := Lib.hid hs0
    have HR0 := Lib.hid hR0
    have HB0 := Lib.hid hb0
    clear hG0 hs0 hR0 hb0 hc2
    go_loopw [7, 8] (fun fr i wr => ∃ (k : Nat) (f : Int), k ≤ 8 ∧ i = .int .i64 ((k : Int) - 1) ∧ fr = .int .i64 f ∧ Hid (FreeFrom g k f) ∧ Hid (∀ y : Fin 8, k ≤ y → byt g.c y < 128 → g.k y ≠ s.key) ∧ Hid (Below W0.heap.size W0 wr)) (fun _ i _ => (intOf i + 1).toNat)
    case atStart => exact ⟨8, -1, by omega, rfl, rfl, Lib.hid (.inl ⟨rfl, fun y h => by have := y.isLt; omega⟩), Lib.hid (fun y h => by have := y.isLt; omega), Lib.hid (Below.refl _ _)⟩
    case round =>
      obtain ⟨k, f, hk8, rfl, rfl, hfr, hno, hB⟩ := hrel
      have hGr := HG0.out.below hB.out HG0.out.lt
      have hsr := HS0.out.below hB.out HS0.out.lt
      have hRr := HR0.out.below hB.out HR0.out.lt
      have hBr := HB0.out.trans (hB.out.mono HB0.out.size)
      cases k with
      | zero =>
        rw [show (((0 : Nat) : Int) - 1) = -1 from rfl]
        have hnone : firstL (fun n => g.k n == s.key) (fl g) 0 = none := firstL_none _ 0 fun y hy => by simpa using hno.out y (Nat.zero_le _) ((mem_fl g y).1 hy)
        rcases hfr.out with ⟨rfl, hall⟩ | ⟨y, rfl, _, hyf, hlow⟩
        · have hE6 : putE g s = 6 := by
            rw [HE.out, hnone]
            have hf : frl g = [] := by
              cases h : frl g with
              | nil => rfl
              | cons z l => exact absurd (hall z (Nat.zero_le _)) ((mem_frl g z).1 (by rw [h]; simp))
            rw [if_pos hf]
            rfl
          have HE6 := Lib.hid hE6
          have hst := Tryz.store_group zG hRr rfl
          have HR := Lib.hid (setRow_heap _ (w.heap.size + 1 + 1) (gc zG) (gc zG) _ _ hRr)
          have HBe := Lib.hid (below_setRow hBr (by omega : w.heap.size ≤ w.heap.size + 1 + 1) (gc zG))
          clear hGr hsr hRr hBr hE6
          go_wp2_with (refine wpList_storeW (by rfl) 25 _ _ rfl ⟨w.heap.size + 1 + 1, 0, none⟩ _ rfl rfl hst ?_)
          refine bodyPost_ret (results_ctt rfl _ _ (w.heap.size + 1 + 1) _ _ _ rfl rfl rfl (run_loadVar_row (P := Tryz.prog) _ (w.heap.size + 1 + 1) 25 25 _ (0, 0) _ HR.out Tryz.underlying25 rfl (by kernel_rfl))) rfl ?_
          exact ⟨HErr.out 6 w HE6.out (by decide), HBe.out⟩
        · obtain ⟨hpl, hne⟩ := putL_of hyf (fun z hz => hlow z (Nat.zero_le _) hz)
          have HE0 : Hid (putE g s = 0) := Lib.hid (by rw [HE.out, hnone, if_neg hne]; rfl)
          have HPL := Lib.hid hpl
          have HPut := fun W => Lib.hid (Tryz.refPut_any g.c s.h2 y hc hs y.isLt W)
          have cC : wr.cell? ⟨w.heap.size, 0, none⟩ = some (.int .u64 (g.c : Nat)) := (hGr.cell 0).trans (gc_0 g)
          have cH : wr.cell? ⟨w.heap.size + 1, 2, none⟩ = some (.int .u8 (s.h2 : Nat)) := hsr.cell 2
          have HGr := Lib.hid hGr
          have Hsr := Lib.hid hsr
          have HRr := Lib.hid hRr
          have HBr := Lib.hid hBr
          have hy8 : (y : Nat) < 8 := y.isLt
          have hyl : ¬ (8 : Int) ≤ ((y : Nat) : Int) := by omega
          have hy0 : ¬ ((y : Nat) : Int) < 0 := by omega
          clear hGr hsr hRr hBr hnone hne hpl hyf hlow
          go_wp2_with fail
          go_at_call 28
          refine (HPut _).out.mono ?_
          rintro e w4 ⟨rfl, hB4⟩
          have hG4 := HGr.out.below hB4 HGr.out.lt
          have hs4 := Hsr.out.below hB4 Hsr.out.lt
          have hR4 := HRr.out.below hB4 HRr.out.lt
          have hB4c := HBr.out.trans (hB4.mono HBr.out.size)
          have cC4 : w4.cell? ⟨w.heap.size, 0, none⟩ = some (.int .u64 (g.c : Nat)) := (hG4.cell 0).trans (gc_0 g)
          have fC4 := hG4.frozen 0
          have hG5 := gc_ctrl hG4 (setB g.c y s.h2)
          have hs5 := hs4.setOther (a := ⟨w.heap.size, 0, none⟩) (by simp) (.int .u64 (setB g.c y s.h2 : Nat))
          have hR5 := hR4.setOther (a := ⟨w.heap.size, 0, none⟩) (by simp; omega) (.int .u64 (setB g.c y s.h2 : Nat))
          have hB5 := hB4c.setCell (p := ⟨w.heap.size, 0, none⟩) (Nat.le_refl _) (.int .u64 (setB g.c y s.h2 : Nat))
          clear hB4 hG4 hs4 hR4 hB4c cC cH
          go_wp2_with fail
          generalize (w4.setCell ⟨w.heap.size, 0, none⟩ (.int .u64 (setB g.c y s.h2 : Nat))) = w5 at *
          clear cC4 fC4
          refine wp_region_X (fun W' => Rows8 W' (w.heap.size + 1) 30 (sc s)) 12 (by kernel_rfl) ?_
          have hG7 : Rows8 w5.drew w.heap.size 25 _ := hG5.drew
          have hs7 := hs5.drew
          have hR7 := hR5.drew
          have hB7 := hB5.drew
          generalize w5.drew = W7 at *
          clear hG5 hs5 hR5 hB5
          refine wpAnyN_take (i := 0) (oi := { dst := some 40, op := Go.Op.move (Go.Operand.tmp 7), type := 3, pos := "ref.go:82", after := #[], guard := none }) (v := .int .i64 (y : Nat)) rfl (by decide) (by kernel_rfl) (by kernel_rfl) (by kernel_rfl) (fun _ _ _ h => h) (Or.inl ⟨by rfl, ?_⟩) hs7 ?_
          · intro W9 hS9
            have s0 : W9.cell? ⟨w.heap.size + 1, 0, none⟩ = some (.int .u64 (s.key : Nat)) := hS9.cell 0
            have s1 : W9.cell? ⟨w.heap.size + 1, 1, none⟩ = some (.int .u64 (s.val : Nat)) := hS9.cell 1
            clear hS9
            go_simp
          try simp only [Act.put, List.setIfInBounds_toArray, List.set_cons_zero, List.set_cons_succ]
          refine wpAnyN_take (i := 1) (oi := { dst := some 41, op := Go.Op.move (Go.Operand.tmp 7), type := 3, pos := "ref.go:82", after := #[{ on := 8, ground := Go.Ground.gcOnly Go.Departure.lateStores }], guard := none }) (v := .int .i64 (y : Nat)) rfl (by decide) (by kernel_rfl) (by kernel_rfl) (by kernel_rfl) (fun _ _ _ h => h) (Or.inl ⟨by rfl, ?_⟩) hs7 ?_
          · intro W9 hS9
            have s0 : W9.cell? ⟨w.heap.size + 1, 0, none⟩ = some (.int .u64 (s.key : Nat)) := hS9.cell 0
            have s1 : W9.cell? ⟨w.heap.size + 1, 1, none⟩ = some (.int .u64 (s.val : Nat)) := hS9.cell 1
            clear hS9
            go_simp
          try simp only [Act.put, List.setIfInBounds_toArray, List.set_cons_zero, List.set_cons_succ]
          refine wpAnyN_take (i := 2) (oi := { dst := some 42, op := Go.Op.fieldAddr 30 (Go.Operand.tmp 3) 0, type := 0, pos := "ref.go:82", after := #[], guard := none }) (v := .pointer (some ⟨w.heap.size + 1, 0, none⟩)) rfl (by decide) (by kernel_rfl) (by kernel_rfl) (by kernel_rfl) (fun _ _ _ h => h) (Or.inl ⟨by rfl, ?_⟩) hs7 ?_
          · intro W9 hS9
            have s0 : W9.cell? ⟨w.heap.size + 1, 0, none⟩ = some (.int .u64 (s.key : Nat)) := hS9.cell 0
            have s1 : W9.cell? ⟨w.heap.size + 1, 1, none⟩ = some (.int .u64 (s.val : Nat)) := hS9.cell 1
            clear hS9
            go_simp
          try simp only [Act.put, List.setIfInBounds_toArray, List.set_cons_zero, List.set_cons_succ]
          refine wpAnyN_take (i := 3) (oi := { dst := some 43, op := Go.Op.load 22 (Go.Operand.tmp 42), type := 22, pos := "ref.go:82", after := #[{ on := 2, ground := Go.Ground.data }], guard := none }) (v := .int .u64 (s.key : Nat)) rfl (by decide) (by kernel_rfl) (by kernel_rfl) (by kernel_rfl) (fun _ _ _ h => h) (Or.inl ⟨by rfl, ?_⟩) hs7 ?_
          · intro W9 hS9
            have s0 : W9.cell? ⟨w.heap.size + 1, 0, none⟩ = some (.int .u64 (s.key : Nat)) := hS9.cell 0
            have s1 : W9.cell? ⟨w.heap.size + 1, 1, none⟩ = some (.int .u64 (s.val : Nat)) := hS9.cell 1
            clear hS9
            go_simp
          try simp only [Act.put, List.setIfInBounds_toArray, List.set_cons_zero, List.set_cons_succ]
          refine wpAnyN_take (i := 4) (oi := { dst := some 44, op := Go.Op.fieldAddr 30 (Go.Operand.tmp 3) 1, type := 0, pos := "ref.go:82", after := #[{ on := 8, ground := Go.Ground.gcOnly Go.Departure.lateStores }], guard := none }) (v := .pointer (some ⟨w.heap.size + 1, 1, none⟩)) rfl (by decide) (by kernel_rfl) (by kernel_rfl) (by kernel_rfl) (fun _ _ _ h => h) (Or.inl ⟨by rfl, ?_⟩) hs7 ?_
          · intro W9 hS9
            have s0 : W9.cell? ⟨w.heap.size + 1, 0, none⟩ = some (.int .u64 (s.key : Nat)) := hS9.cell 0
            have s1 : W9.cell? ⟨w.heap.size + 1, 1, none⟩ = some (.int .u64 (s.val : Nat)) := hS9.cell 1
            clear hS9
            go_simp
          try simp only [Act.put, List.setIfInBounds_toArray, List.set_cons_zero, List.set_cons_succ]
          refine wpAnyN_take (i := 5) (oi := { dst := some 45, op := Go.Op.load 22 (Go.Operand.tmp 44), type := 22, pos := "ref.go:82", after := #[{ on := 4, ground := Go.Ground.data }, { on := 8, ground := Go.Ground.gcOnly Go.Departure.lateStores }], guard := none }) (v := .int .u64 (s.val : Nat)) rfl (by decide) (by kernel_rfl) (by kernel_rfl) (by kernel_rfl) (fun _ _ _ h => h) (Or.inl ⟨by rfl, ?_⟩) hs7 ?_
          · intro W9 hS9
            have s0 : W9.cell? ⟨w.heap.size + 1, 0, none⟩ = some (.int .u64 (s.key : Nat)) := hS9.cell 0
            have s1 : W9.cell? ⟨w.heap.size + 1, 1, none⟩ = some (.int .u64 (s.val : Nat)) := hS9.cell 1
            clear hS9
            go_simp
          try simp only [Act.put, List.setIfInBounds_toArray, List.set_cons_zero, List.set_cons_succ]
          refine wpAnyN_take (i := 6) (oi := { dst := some 46, op := Go.Op.fieldAddr 25 (Go.Operand.tmp 2) 1, type := 0, pos := "ref.go:82", after := #[], guard := none }) (v := .pointer (some ⟨w.heap.size, 1, none⟩)) rfl (by decide) (by kernel_rfl) (by kernel_rfl) (by kernel_rfl) (fun _ _ _ h => h) (Or.inl ⟨by rfl, ?_⟩) hs7 ?_
          · intro W9 hS9
            have s0 : W9.cell? ⟨w.heap.size + 1, 0, none⟩ = some (.int .u64 (s.key : Nat)) := hS9.cell 0
            have s1 : W9.cell? ⟨w.heap.size + 1, 1, none⟩ = some (.int .u64 (s.val : Nat)) := hS9.cell 1
            clear hS9
            go_simp
          try simp only [Act.put, List.setIfInBounds_toArray, List.set_cons_zero, List.set_cons_succ]
          refine wpAnyN_take (i := 7) (oi := { dst := some 47, op := Go.Op.indexAddr 23 (Go.Operand.tmp 46) (Go.Operand.tmp 40), type := 0, pos := "ref.go:82", after := #[{ on := 6, ground := Go.Ground.data }, { on := 0, ground := Go.Ground.data }, { on := 0, ground := Go.Ground.phase }, { on := 1, ground := Go.Ground.textOnly Go.Departure.lateStores }, { on := 2, ground := Go.Ground.phase }, { on := 3, ground := Go.Ground.phase }, { on := 4, ground := Go.Ground.textOnly Go.Departure.lateStores }, { on := 5, ground := Go.Ground.textOnly Go.Departure.lateStores }], guard := none }) (v := .pointer (some ⟨w.heap.size, 1 + (y : Nat), none⟩)) rfl (by decide) (by kernel_rfl) (by kernel_rfl) (by kernel_rfl) (fun _ _ _ h => h) (Or.inl ⟨by rfl, ?_⟩) hs7 ?_
          · intro W9 hS9
            have s0 : W9.cell? ⟨w.heap.size + 1, 0, none⟩ = some (.int .u64 (s.key : Nat)) := hS9.cell 0
            have s1 : W9.cell? ⟨w.heap.size + 1, 1, none⟩ = some (.int .u64 (s.val : Nat)) := hS9.cell 1
            clear hS9
            go_simp
          try simp only [Act.put, List.setIfInBounds_toArray, List.set_cons_zero, List.set_cons_succ]
          refine wpAnyN_take (i := 9) (oi := { dst := some 48, op := Go.Op.fieldAddr 25 (Go.Operand.tmp 2) 2, type := 0, pos := "ref.go:82", after := #[], guard := none }) (v := .pointer (some ⟨w.heap.size, 9, none⟩)) rfl (by decide) (by kernel_rfl) (by kernel_rfl) (by kernel_rfl) (fun _ _ _ h => h) (Or.inl ⟨by rfl, ?_⟩) hs7 ?_
          · intro W9 hS9
            have s0 : W9.cell? ⟨w.heap.size + 1, 0, none⟩ = some (.int .u64 (s.key : Nat)) := hS9.cell 0
            have s1 : W9.cell? ⟨w.heap.size + 1, 1, none⟩ = some (.int .u64 (s.val : Nat)) := hS9.cell 1
            clear hS9
            go_simp
          try simp only [Act.put, List.setIfInBounds_toArray, List.set_cons_zero, List.set_cons_succ]
          refine wpAnyX_one (i := 8) (o := { dst := none, op := Go.Op.store 22 (Go.Operand.tmp 47) (Go.Operand.tmp 43), type := 0, pos := "ref.go:82", after := #[{ on := 7, ground := Go.Ground.data }, { on := 3, ground := Go.Ground.data }, { on := 0, ground := Go.Ground.phase }, { on := 1, ground := Go.Ground.textOnly Go.Departure.lateStores }, { on := 2, ground := Go.Ground.phase }, { on := 3, ground := Go.Ground.phase }, { on := 4, ground := Go.Ground.textOnly Go.Departure.lateStores }, { on := 5, ground := Go.Ground.textOnly Go.Departure.lateStores }], guard := none }) (by kernel_rfl) rfl (fun K hK => ?_)
          have cK := (hG7.cell (1 + (y : Nat))).trans (gc_k _ y hy8)
          have fK := hG7.frozen (1 + (y : Nat))
          refine step_skip_g (by rfl) (w' := W7.setCell ⟨w.heap.size, 1 + (y : Nat), none⟩ (.int .u64 (s.key : Nat))) (by go_simp) ?_
          have hG8 := gc_key hG7 y hy8 s.key
          have hs8 := hs7.setOther (a := ⟨w.heap.size, 1 + (y : Nat), none⟩) (by simp) (.int .u64 (s.key : Nat))
          have hR8 := hR7.setOther (a := ⟨w.heap.size, 1 + (y : Nat), none⟩) (by simp; omega) (.int .u64 (s.key : Nat))
          have hB8 := hB7.setCell (p := ⟨w.heap.size, 1 + (y : Nat), none⟩) (Nat.le_refl _) (.int .u64 (s.key : Nat))
          clear cK fK
          refine hK.out _ _ (fun _ => hs8) ?_
          clear hK K
          try simp only [Act.put, List.setIfInBounds_toArray, List.set_cons_zero, List.set_cons_succ]
          refine wpAnyN_take (i := 10) (oi := { dst := some 49, op := Go.Op.indexAddr 23 (Go.Operand.tmp 48) (Go.Operand.tmp 41), type := 0, pos := "ref.go:82", after := #[{ on := 9, ground := Go.Ground.data }, { on := 1, ground := Go.Ground.data }, { on := 0, ground := Go.Ground.phase }, { on := 1, ground := Go.Ground.phase }, { on := 2, ground := Go.Ground.phase }, { on := 3, ground := Go.Ground.phase }, { on := 4, ground := Go.Ground.phase }, { on := 5, ground := Go.Ground.phase }, { on := 6, ground := Go.Ground.phase }, { on := 7, ground := Go.Ground.phase }, { on := 8, ground := Go.Ground.phase }], guard := none }) (v := .pointer (some ⟨w.heap.size, 9 + (y : Nat), none⟩)) rfl (by decide) (by kernel_rfl) (by kernel_rfl) (by kernel_rfl) (fun _ _ _ h => h) (Or.inl ⟨by rfl, ?_⟩) hs8 ?_
          · intro W9 hS9
            have s0 : W9.cell? ⟨w.heap.size + 1, 0, none⟩ = some (.int .u64 (s.key : Nat)) := hS9.cell 0
            have s1 : W9.cell? ⟨w.heap.size + 1, 1, none⟩ = some (.int .u64 (s.val : Nat)) := hS9.cell 1
            clear hS9
            go_simp
          try simp only [Act.put, List.setIfInBounds_toArray, List.set_cons_zero, List.set_cons_succ]
          refine wpAnyX_one (i := 11) (o := { dst := none, op := Go.Op.store 22 (Go.Operand.tmp 49) (Go.Operand.tmp 45), type := 0, pos := "ref.go:82", after := #[{ on := 10, ground := Go.Ground.data }, { on := 5, ground := Go.Ground.data }, { on := 8, ground := Go.Ground.chain }, { on := 0, ground := Go.Ground.phase }, { on := 1, ground := Go.Ground.phase }, { on := 2, ground := Go.Ground.phase }, { on := 3, ground := Go.Ground.phase }, { on := 4, ground := Go.Ground.phase }, { on := 5, ground := Go.Ground.phase }, { on := 6, ground := Go.Ground.phase }, { on := 7, ground := Go.Ground.phase }, { on := 8, ground := Go.Ground.phase }], guard := none }) (by kernel_rfl) rfl (fun K hK => ?_)
          have cK := (hG8.cell (9 + (y : Nat))).trans (gc_v _ y hy8)
          have fK := hG8.frozen (9 + (y : Nat))
          refine step_skip_g (by rfl) (w' := (W7.setCell ⟨w.heap.size, 1 + (y : Nat), none⟩ (.int .u64 (s.key : Nat))).setCell ⟨w.heap.size, 9 + (y : Nat), none⟩ (.int .u64 (s.val : Nat))) (by go_simp) ?_
          have hG9 := gc_val hG8 y hy8 s.val
          have hs9 := hs8.setOther (a := ⟨w.heap.size, 9 + (y : Nat), none⟩) (by simp) (.int .u64 (s.val : Nat))
          have hR9 := hR8.setOther (a := ⟨w.heap.size, 9 + (y : Nat), none⟩) (by simp; omega) (.int .u64 (s.val : Nat))
          have hB9 := hB8.setCell (p := ⟨w.heap.size, 9 + (y : Nat), none⟩) (Nat.le_refl _) (.int .u64 (s.val : Nat))
          clear cK fK
          refine hK.out _ _ (fun _ => hs9) ?_
          clear hK K
          try simp only [Act.put, List.setIfInBounds_toArray, List.set_cons_zero, List.set_cons_succ]
          refine wpAnyX_end (by kernel_rfl) ?_
          generalize ((W7.setCell ⟨w.heap.size, 1 + (y : Nat), none⟩ (.int .u64 (s.key : Nat))).setCell ⟨w.heap.size, 9 + (y : Nat), none⟩ (.int .u64 (s.val : Nat))) = W9 at *
          have hld := Tryz.load_group hG9
          have hst := Tryz.store_group ⟨setB g.c y s.h2, upd g.k y s.key, upd g.v y s.val⟩ hR9 rfl
          have HR := Lib.hid (setRow_heap _ (w.heap.size + 1 + 1) (gc zG) (gc ⟨setB g.c y s.h2, upd g.k y s.key, upd g.v y s.val⟩) _ _ hR9)
          have HBe := Lib.hid (below_setRow hB9 (by omega : w.heap.size ≤ w.heap.size + 1 + 1) (gc ⟨setB g.c y s.h2, upd g.k y s.key, upd g.v y s.val⟩))
          clear hG7 hs7 hR7 hB7 hG8 hs8 hR8 hB8 hG9 hs9 hR9 hB9
          go_wp2_with (first | (refine wpList_loadW (by rfl) _ _ rfl ⟨w.heap.size, 0, none⟩ _ rfl hld ?_) | (refine wpList_storeW (by rfl) 25 _ _ rfl ⟨w.heap.size + 1 + 1, 0, none⟩ _ rfl rfl hst ?_))
          refine bodyPost_ret (results_ctt rfl _ _ (w.heap.size + 1 + 1) _ _ _ rfl rfl rfl (run_loadVar_row (P := Tryz.prog) _ (w.heap.size + 1 + 1) 25 25 _ (0, 0) _ HR.out Tryz.underlying25 rfl (by kernel_rfl))) rfl ?_
          refine ⟨?_, HBe.out⟩
          unfold rpG rpL
          rw [HE0.out, if_pos rfl, if_pos rfl]
          unfold putG
          rw [HPL.out]
          rfl
      | succ m =>
        rw [show (((m + 1 : Nat) : Int) - 1) = (m : Int) by omega]
        have hm : m < 8 := by omega
        have hml : ¬ (8 : Int) ≤ ((m : Nat) : Int) := by omega
        have hm0 : ¬ ((m : Nat) : Int) < 0 := by omega
        have hm0' : (0 : Int) ≤ ((m : Nat) : Int) := by omega
        have hld := Tryz.load_group hGr
        have HFm := fun W => HFull m hm W
        by_cases hfm : byt g.c m < 128
        · rw [decide_eq_true hfm] at HFm
          have HGr := Lib.hid hGr
          have Hsr := Lib.hid hsr
          have HRr := Lib.hid hRr
          have HBr := Lib.hid hBr
          clear hGr hsr hRr hBr
          go_wp2_with (first | (refine wpList_loadW (by rfl) _ _ rfl ⟨w.heap.size, 0, none⟩ _ rfl hld ?_) | (go_at_call 8; refine (HFm _).out.mono ?_; rintro e w4 ⟨rfl, hB4⟩; have HB4 := Lib.hid hB4; clear hB4))
          have hG4 := HGr.out.below HB4.out HGr.out.lt
          have hs4 := Hsr.out.below HB4.out Hsr.out.lt
          have hR4 := HRr.out.below HB4.out HRr.out.lt
          have cK : w4.cell? ⟨w.heap.size, 1 + m, none⟩ = some (.int .u64 (g.k m : Nat)) := (hG4.cell _).trans (gc_k g m hm)
          have cS : w4.cell? ⟨w.heap.size + 1, 0, none⟩ = some (.int .u64 (s.key : Nat)) := hs4.cell 0
          have hBc := hB.out.trans (HB4.out.mono hB.out.size)
          have HBc := Lib.hid hBc
          have HB4w := Lib.hid (HBr.out.trans (HB4.out.mono HBr.out.size))
          have HR4 := Lib.hid hR4
          clear hG4 hs4 hR4 hBc hld
          cases hkk : (g.k m == s.key)
          · have hne : (((g.k m : Nat) : Int) == ((s.key : Nat) : Int)) = false := by rw [natEq_walk]; exact hkk
            have HKK := Lib.hid hkk
            clear hkk
            go_quiet (fail)
            go_wp2_with fail
            go_roundw
            case rel => exact ⟨m, f, by omega, by go_num, rfl, Lib.hid (by
              rcases hfr.out with ⟨h1, h2⟩ | ⟨y, h1, h2, h3, h4⟩
              · refine .inl ⟨h1, fun y hy => ?_⟩
                rcases Nat.lt_or_ge m (y : Nat) with h | h
                · exact h2 y h
                · have : (y : Nat) = m := by omega
                  rw [this]; exact hfm
              · refine .inr ⟨y, h1, by omega, h3, fun z hz hzy => ?_⟩
                rcases Nat.lt_or_ge m (z : Nat) with h | h
                · exact h4 z h hzy
                · have : (z : Nat) = m := by omega
                  rw [this]; exact hfm), Lib.hid (fun y hy hyf => by
              rcases Nat.lt_or_ge m (y : Nat) with h | h
              · exact hno.out y h hyf
              · have : (y : Nat) = m := by omega
                rw [this]; simpa using HKK.out), Lib.hid (below_drewN HBc.out _)⟩
            case measure => simp [intOf] <;> omega
          · have hne : (((g.k m : Nat) : Int) == ((s.key : Nat) : Int)) = true := by rw [natEq_walk]; exact hkk
            have HE5 : Hid (putE g s = 5) := Lib.hid (by
              rw [HE.out]
              rcases firstL_cases (fun n => g.k n == s.key) (fl g) 0 with ⟨_, h3⟩ | ⟨_, _, _, _, _, _, h3⟩
              · have := h3 ⟨m, hm⟩ ((mem_fl g ⟨m, hm⟩).2 hfm)
                dsimp only at this
                rw [hkk] at this
                cases this
              · rw [h3]; rfl)
            clear hkk
            have hstq : ∀ q : Nat, (storeVar 25 ⟨w.heap.size + 1 + 1, 0, none⟩ (.agg (gc zG))).run Tryz.prog (w4.drewN q) = .ok () ((w4.drewN q).setRow (w.heap.size + 1 + 1) (gc zG)) := fun q => Tryz.store_group zG (show Rows8 (w4.drewN q) _ _ _ from HR4.out) rfl
            go_quiet (fail)
            go_wp2_with (refine wpList_storeW (by rfl) 25 _ _ rfl ⟨w.heap.size + 1 + 1, 0, none⟩ _ rfl rfl (hstq _) ?_)
            refine bodyPost_ret (results_ctt rfl _ _ (w.heap.size + 1 + 1) _ _ _ rfl rfl rfl (run_loadVar_row (P := Tryz.prog) _ (w.heap.size + 1 + 1) 25 25 _ (0, 0) _ (setRow_heap _ (w.heap.size + 1 + 1) (gc zG) (gc zG) _ _ (show Rows8 (w4.drewN _) _ _ _ from HR4.out)) Tryz.underlying25 rfl (by kernel_rfl))) rfl ?_
            exact ⟨HErr.out 5 w HE5.out (by decide), below_setRow (below_drewN HB4w.out _) (by omega : w.heap.size ≤ w.heap.size + 1 + 1) (gc zG)⟩
        · rw [decide_eq_false hfm] at HFm
          clear hGr hsr hRr hBr
          go_wp2_with (first | (refine wpList_loadW (by rfl) _ _ rfl ⟨w.heap.size, 0, none⟩ _ rfl hld ?_) | (go_at_call 8; refine (HFm _).out.mono ?_; rintro e w4 ⟨rfl, hB4⟩; have HB4 := Lib.hid hB4; clear hB4))
          go_roundw
          case rel => exact ⟨m, (m : Nat), by omega, by go_num, rfl, Lib.hid (.inr ⟨⟨m, hm⟩, rfl, Nat.le_refl _, hfm, fun z hz hzy => by dsimp only at hzy; omega⟩), Lib.hid (fun y hy hyf => by
            rcases Nat.lt_or_ge m (y : Nat) with h | h
            · exact hno.out y h hyf
            · have : (y : Nat) = m := by omega
              rw [this] at hyf
              exact absurd hyf hfm), Lib.hid (hB.out.trans (HB4.out.mono hB.out.size))⟩
          case measure => simp [intOf] <;> omega
end Go.Proofs

/- Group: the reference's Drop. -/
namespace Go.Proofs
set_option maxRecDepth 100000
open Go.RowKit Go.Shelf
attribute [local go_sem] Oper.semAt_some

theorem findO_lane {g : Gr} {key h a n : Nat} (hf : findO g key h = some (a, n)) : a < 8 ∧ byt g.c a = h := by
  unfold findO at hf
  rcases firstL_cases (fun n => g.k n == key) (hl g h) 0 with ⟨h1, _⟩ | ⟨pre, y, post, hl', _, _, h4⟩
  · rw [h1] at hf; cases hf
  · rw [h4] at hf
    simp only [Option.some.injEq, Prod.mk.injEq] at hf
    obtain ⟨rfl, _⟩ := hf
    exact ⟨y.isLt, (mem_hl g h y).1 (by rw [hl']; simp)⟩
def rdG (g : Gr) (key h : Nat) : Gr := if findE g key h = 0 then dropG g key h else zG
set_option maxHeartbeats 8000000 in
theorem Tryz.rgDrop_any (g : Gr) (hc : g.c < 18446744073709551616) (key h : Nat) (w : World) : Calls Tryz.prog 10 #[.agg (gc g), .int .u64 (key : Nat), .int .u8 (h : Nat)] w fun e w' => e = .returned (.tuple #[.agg (gc (rdG g key h)), .int .i64 (findL g key h : Nat), .int .i64 (findE g key h)]) ∧ Below w.heap.size w w' := by
  have HFind := fun W => Lib.hid (Tryz.rgFind_any g hc key h W)
  have hG0 : Rows8 ((w.alloc (.cells (gc g) 25)).alloc (.cells #[.int .u64 0, .int .u64 0, .int .u64 0, .int .u64 0, .int .u64 0, .int .u64 0, .int .u64 0, .int .u64 0, .int .u64 0, .int .u64 0, .int .u64 0, .int .u64 0, .int .u64 0, .int .u64 0, .int .u64 0, .int .u64 0, .int .u64 0] 25)) w.heap.size 25 (gc g) := (Rows8.new w _ _).alloc _
  have hR0 : Rows8 ((w.alloc (.cells (gc g) 25)).alloc (.cells #[.int .u64 0, .int .u64 0, .int .u64 0, .int .u64 0, .int .u64 0, .int .u64 0, .int .u64 0, .int .u64 0, .int .u64 0, .int .u64 0, .int .u64 0, .int .u64 0, .int .u64 0, .int .u64 0, .int .u64 0, .int .u64 0, .int .u64 0] 25)) (w.heap.size + 1) 25 (gc zG) := by
    have h := Rows8.new (w.alloc (.cells (gc g) 25)) 25 (gc zG)
    rw [World.size_alloc] at h
    exact h
  have hb0 : Below w.heap.size w ((w.alloc (.cells (gc g) 25)).alloc (.cells #[.int .u64 0, .int .u64 0, .int .u64 0, .int .u64 0, .int .u64 0, .int .u64 0, .int .u64 0, .int .u64 0, .int .u64 0, .int .u64 0, .int .u64 0, .int .u64 0, .int .u64 0, .int .u64 0, .int .u64 0, .int .u64 0, .int .u64 0] 25)) := ((Below.refl _ w).alloc (Nat.le_refl _) _).alloc (by simp) _
  have herr : ∀ (E : Int) (W : World), findE g key h = E → E ≠ 0 → Ending.returned (.tuple #[.agg (gc zG), .int .i64 0, .int .i64 E]) = .returned (.tuple #[.agg (gc (rdG g key h)), .int .i64 (findL g key h : Nat), .int .i64 (findE g key h)]) := fun E W he h0 => by
    have h1 : findL g key h = 0 := by
      unfold findL
      by_cases h127 : 127 < h
      · rw [if_pos h127]
      · rw [if_neg h127]
        unfold findE at he
        rw [if_neg h127] at he
        cases hf : findO g key h with
        | none => rfl
        | some q => rw [hf] at he; exact absurd he.symm h0
    unfold rdG
    rw [he, if_neg h0, h1]
    rfl
  have HErr := Lib.hid herr
  clear herr
  go_enter Tryz.func10, Tryz.ntmps10
  by_cases h2 : 127 < h
  · have hh2 : (127 : Int) < ((h : Nat) : Int) := by omega
    have HE : Hid (findE g key h = 2) := Lib.hid (by unfold findE; rw [if_pos h2])
    have hst := Tryz.store_group zG hR0 rfl
    have HR := Lib.hid (setRow_heap _ (w.heap.size + 1) (gc zG) (gc zG) _ _ hR0)
    have HB := Lib.hid (below_setRow hb0 (by omega : w.heap.size ≤ w.heap.size + 1) (gc zG))
    clear hG0 hR0 hb0
    go_wp2_with (refine wpList_storeW (by rfl) 25 _ _ rfl ⟨w.heap.size + 1, 0, none⟩ _ rfl rfl hst ?_)
    refine bodyPost_ret (results_ctt rfl _ _ (w.heap.size + 1) _ _ _ rfl rfl rfl (run_loadVar_row (P := Tryz.prog) _ (w.heap.size + 1) 25 25 _ (0, 0) _ HR.out Tryz.underlying25 rfl (by kernel_rfl))) rfl ?_
    exact ⟨HErr.out 2 w HE.out (by decide), HB.out⟩
  · have hh2 : ¬ (127 : Int) < ((h : Nat) : Int) := by omega
    have hld := Tryz.load_group hG0
    have HG0 := Lib.hid hG0
    have HR0 := Lib.hid hR0
    have HB0 := Lib.hid hb0
    cases hf : findO g key h with
    | none =>
      have HE : Hid (findE g key h = 4) := Lib.hid (by unfold findE; rw [if_neg h2, hf]; rfl)
      have hL : rfL g key h = -1 := by unfold rfL; rw [hf]
      rw [hL] at HFind
      clear hG0 hR0 hb0 hf hL
      go_wp2_with (first | (refine wpList_loadW (by rfl) _ _ rfl ⟨w.heap.size, 0, none⟩ _ rfl hld ?_) | (go_at_call 25; refine (HFind _).out.mono ?_; rintro e w2 ⟨rfl, hB2⟩; have HB2 := Lib.hid hB2; have hst := Tryz.store_group zG (HR0.out.below hB2 HR0.out.lt) rfl; clear hB2) | (refine wpList_storeW (by rfl) 25 _ _ rfl ⟨w.heap.size + 1, 0, none⟩ _ rfl rfl hst ?_))
      have hR2 := HR0.out.below HB2.out HR0.out.lt
      refine bodyPost_ret (results_ctt rfl _ _ (w.heap.size + 1) _ _ _ rfl rfl rfl (run_loadVar_row (P := Tryz.prog) _ (w.heap.size + 1) 25 25 _ (0, 0) _ (setRow_heap _ (w.heap.size + 1) (gc zG) (gc zG) _ _ hR2) Tryz.underlying25 rfl (by kernel_rfl))) rfl ?_
      exact ⟨HErr.out 4 w HE.out (by decide), below_setRow (HB0.out.trans (HB2.out.mono HB0.out.size)) (by omega : w.heap.size ≤ w.heap.size + 1) (gc zG)⟩
    | some q =>
      obtain ⟨a, n⟩ := q
      obtain ⟨ha8, hab⟩ := findO_lane hf
      have HE : Hid (findE g key h = 0) := Lib.hid (by unfold findE; rw [if_neg h2, hf]; rfl)
      have HFL : Hid (findL g key h = a) := Lib.hid (by unfold findL; rw [if_neg h2, hf]; rfl)
      have hL : rfL g key h = (a : Nat) := by unfold rfL; rw [hf]
      have he0 : eraseE g.c ((a : Nat) : Int) = 0 := by
        unfold eraseE
        rw [if_neg (by omega), if_pos (by
          rw [Int.toNat_natCast, hab]
          exact kd_yes (by omega))]
      have hew : eraseW g.c ((a : Nat) : Int) = eraseS g.c (a : Nat) := by unfold eraseW; rw [if_pos he0]
      have HEr := fun W => Lib.hid (Tryz.refErase_any g.c ((a : Nat) : Int) hc W)
      rw [he0, hew] at HEr
      rw [hL] at HFind
      have ha0 : ¬ ((a : Nat) : Int) < 0 := by omega
      clear hG0 hR0 hb0 hf hL he0 hew hab
      go_wp2_with (first | (refine wpList_loadW (by rfl) _ _ rfl ⟨w.heap.size, 0, none⟩ _ rfl hld ?_) | (go_at_call 25; refine (HFind _).out.mono ?_; rintro e w2 ⟨rfl, hB2⟩; have hG2 := HG0.out.below hB2 HG0.out.lt; have cC2 : w2.cell? ⟨w.heap.size, 0, none⟩ = some (.int .u64 (g.c : Nat)) := (hG2.cell 0).trans (gc_0 g); have HG2 := Lib.hid hG2; have HR2 := Lib.hid (HR0.out.below hB2 HR0.out.lt); have HB2 := Lib.hid (HB0.out.trans (hB2.mono HB0.out.size)); clear hB2 hG2) | (go_at_call 26; refine (HEr _).out.mono ?_; rintro e w3 ⟨rfl, hB3⟩; have hG3 := HG2.out.below hB3 HG2.out.lt; have cC3 : w3.cell? ⟨w.heap.size, 0, none⟩ = some (.int .u64 (g.c : Nat)) := (hG3.cell 0).trans (gc_0 g); have fC3 := hG3.frozen 0; have HG4 := Lib.hid (gc_ctrl hG3 (eraseS g.c (a : Nat))); have HR4 := Lib.hid ((HR2.out.below hB3 HR2.out.lt).setOther (a := ⟨w.heap.size, 0, none⟩) (by simp) (.int .u64 (eraseS g.c (a : Nat) : Nat))); have HB4 := Lib.hid ((HB2.out.trans (hB3.mono HB2.out.size)).setCell (p := ⟨w.heap.size, 0, none⟩) (Nat.le_refl _) (.int .u64 (eraseS g.c (a : Nat) : Nat))); have hld2 := Tryz.load_group HG4.out; have hst := Tryz.store_group ⟨eraseS g.c (a : Nat), g.k, g.v⟩ HR4.out rfl; clear hB3 hG3) | (refine wpList_loadW (by rfl) _ _ rfl ⟨w.heap.size, 0, none⟩ _ rfl hld2 ?_) | (refine wpList_storeW (by rfl) 25 _ _ rfl ⟨w.heap.size + 1, 0, none⟩ _ rfl rfl hst ?_))
      refine bodyPost_ret (results_ctt rfl _ _ (w.heap.size + 1) _ _ _ rfl rfl rfl (run_loadVar_row (P := Tryz.prog) _ (w.heap.size + 1) 25 25 _ (0, 0) _ (setRow_heap _ (w.heap.size + 1) (gc zG) (gc ⟨eraseS g.c (a : Nat), g.k, g.v⟩) _ _ HR4.out) Tryz.underlying25 rfl (by kernel_rfl))) rfl ?_
      refine ⟨?_, below_setRow HB4.out (by omega : w.heap.size ≤ w.heap.size + 1) (gc ⟨eraseS g.c (a : Nat), g.k, g.v⟩)⟩
      unfold rdG
      rw [HE.out, if_pos rfl]
      unfold dropG
      rw [HFL.out]
      rfl
end Go.Proofs
