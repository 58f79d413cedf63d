/- Group: openers; steps; what is found where it is. -/
import Derived.Test.YtccbgekibllfpaaZTu
import Derived.Deep.SlicePairs
import Derived.WideShapes
namespace Go.Proofs
set_option maxRecDepth 100000
open Go.RowKit Go.Shelf
attribute [local go_sem] Oper.semAt_some

theorem cellsG : Try.prog.cellsOf 25 = 17 := by kernel_rfl
theorem cellsA8 : Try.prog.cellsOf 23 = 8 := by kernel_rfl
theorem cellsU : Try.prog.cellsOf 22 = 1 := by kernel_rfl
theorem cellsB : Try.prog.cellsOf 5 = 1 := by kernel_rfl
theorem cellsS : Try.prog.cellsOf 38 = 3 := by kernel_rfl
theorem wf64 {z : Int} (h : (Lit.int .u64 z).wf = true) : 0 ≤ z ∧ z < 18446744073709551616 := by
  simp [Lit.wf] at h
  have h1 : IntKind.u64.min = 0 := rfl
  have h2 : IntKind.u64.max = 18446744073709551615 := rfl
  omega
theorem wf8 {z : Int} (h : (Lit.int .u8 z).wf = true) : 0 ≤ z ∧ z < 256 := by
  simp [Lit.wf] at h
  have h1 : IntKind.u8.min = 0 := rfl
  have h2 : IntKind.u8.max = 255 := rfl
  omega
/-- A group that came in. -/
theorem open_group {H : Type} {enc : TypeId × Value → H} {W : World} {r : Reach} {b0 base : Nat} {sp : Nat → Bool} {held : Bool} {v : Value} {d : DataW H} {p : List MemPlace}
    (hv : Value.okWide Try.prog W r b0 25 v) (h : DataW.Trod enc Try.prog W base sp held 25 v d p) :
    ∃ g : Gr, v = .agg (gc g) ∧ g.c < 18446744073709551616 := by
  obtain ⟨ys, rfl, hys⟩ := WideShapes.okWide_struct Try.underlying25 hv
  rw [cellsG] at hys
  obtain ⟨fuel, hf⟩ := h
  obtain ⟨xs, m, hm, hx, hlen, hxl, hel⟩ := DataW.trod_struct Try.underlying25 hf
  obtain ⟨y0, y1, y2, y3, y4, y5, y6, y7, y8, y9, y10, y11, y12, y13, y14, y15, y16, rfl⟩ : ∃ y0 y1 y2 y3 y4 y5 y6 y7 y8 y9 y10 y11 y12 y13 y14 y15 y16, ys = #[y0, y1, y2, y3, y4, y5, y6, y7, y8, y9, y10, y11, y12, y13, y14, y15, y16] := by
    obtain ⟨l⟩ := ys
    match l, hys with
    | [y0, y1, y2, y3, y4, y5, y6, y7, y8, y9, y10, y11, y12, y13, y14, y15, y16], _ => exact ⟨y0, y1, y2, y3, y4, y5, y6, y7, y8, y9, y10, y11, y12, y13, y14, y15, y16, rfl⟩
  match xs, hxl with
  | [x0, x1, x2], _ =>
    have e0 := hel 0 _ rfl
    have e1 := hel 1 _ rfl
    have e2 := hel 2 _ rfl
    simp [cellsU, cellsA8, Value.cells] at e0 e1 e2
    obtain ⟨a, ha, _, wa⟩ := DataW.trod_int Try.underlying22 e0
    simp at ha
    subst ha
    have arr : ∀ {z0 z1 z2 z3 z4 z5 z6 z7 : Value} {mm : Nat} {d : DataW H} {q : List MemPlace}, DataW.trod enc Try.prog W base sp held mm 23 [z0, z1, z2, z3, z4, z5, z6, z7] = some (d, q) →
        ∃ f : Nat → Nat, z0 = .int .u64 (f 0 : Nat) ∧ z1 = .int .u64 (f 1 : Nat) ∧ z2 = .int .u64 (f 2 : Nat) ∧ z3 = .int .u64 (f 3 : Nat) ∧ z4 = .int .u64 (f 4 : Nat) ∧ z5 = .int .u64 (f 5 : Nat) ∧ z6 = .int .u64 (f 6 : Nat) ∧ z7 = .int .u64 (f 7 : Nat) := by
      intro z0 z1 z2 z3 z4 z5 z6 z7 mm d q hz
      obtain ⟨xs, m, _, _, _, hxl, hel⟩ := DataW.trod_array Try.underlying23 hz
      obtain ⟨q0, q1, q2, q3, q4, q5, q6, q7, rfl⟩ : ∃ q0 q1 q2 q3 q4 q5 q6 q7, xs = [q0, q1, q2, q3, q4, q5, q6, q7] := by
        match xs, hxl with
        | [q0, q1, q2, q3, q4, q5, q6, q7], _ => exact ⟨q0, q1, q2, q3, q4, q5, q6, q7, rfl⟩
      have one : ∀ {z : Value} {mm : Nat} {d : DataW H} {q : List MemPlace}, DataW.trod enc Try.prog W base sp held mm 22 [z] = some (d, q) → ∃ n : Nat, z = .int .u64 (n : Nat) := by
        intro z mm d q h1
        obtain ⟨b, hb, _, wb⟩ := DataW.trod_int Try.underlying22 h1
        simp at hb
        subst hb
        have hw := wf64 wb
        exact ⟨b.toNat, by rw [Int.toNat_of_nonneg (by omega)]⟩
      have g0 := hel 0 (by decide)
      have g1 := hel 1 (by decide)
      have g2 := hel 2 (by decide)
      have g3 := hel 3 (by decide)
      have g4 := hel 4 (by decide)
      have g5 := hel 5 (by decide)
      have g6 := hel 6 (by decide)
      have g7 := hel 7 (by decide)
      rw [cellsU] at g0 g1 g2 g3 g4 g5 g6 g7
      obtain ⟨f0, k0⟩ := one g0
      obtain ⟨f1, k1⟩ := one g1
      obtain ⟨f2, k2⟩ := one g2
      obtain ⟨f3, k3⟩ := one g3
      obtain ⟨f4, k4⟩ := one g4
      obtain ⟨f5, k5⟩ := one g5
      obtain ⟨f6, k6⟩ := one g6
      obtain ⟨f7, k7⟩ := one g7
      exact ⟨fun n => [f0, f1, f2, f3, f4, f5, f6, f7].getD n 0, k0, k1, k2, k3, k4, k5, k6, k7⟩
    obtain ⟨f, k0, k1, k2, k3, k4, k5, k6, k7⟩ := arr e1
    obtain ⟨f', l0, l1, l2, l3, l4, l5, l6, l7⟩ := arr e2
    subst k0 k1 k2 k3 k4 k5 k6 k7 l0 l1 l2 l3 l4 l5 l6 l7
    have hw := wf64 wa
    obtain ⟨c, rfl⟩ : ∃ c : Nat, a = c := ⟨a.toNat, by rw [Int.toNat_of_nonneg (by omega)]⟩
    exact ⟨⟨c, f, f'⟩, rfl, by show c < _; omega⟩
theorem wpList_eqlW {P : Program} {ops : Array Oper} {rest : List Oper} {o : Oper} {a : Act} {w : World} {Q : Exit → Act → World → Prop} (hw : Region.wanted o (yielded ops a.tmps) = true) (t : TypeId) (x y : Operand) (ho : o.op = .binOp .eql t x y t) (xs ys : Array Value) (hx : a.eval x = .agg xs) (hy : a.eval y = .agg ys)
    (hm : P.eqGuardType P.depth t = false) (b : Bool) (hb : (Op.equalIn 10000 t (.agg xs) (.agg ys)).run P w = .ok b w) (h : wpList P ops Q rest (a.put o.dst (.bool b)) w) : wpList P ops Q (o :: rest) a w := by
  unfold wpList
  rw [if_pos hw]
  refine .inl ?_
  unfold Oper.wp
  rw [exec_eql t x y ho xs ys hx hy hm b hb]
  exact h
theorem find_self {g : Gr} (hr : rightG g = true) {y : Fin 8} (hy : byt g.c y < 128) :
    findE g (g.k y) (byt g.c y) = 0 ∧ findL g (g.k y) (byt g.c y) = y ∧ ∃ pre post, hl g (byt g.c y) = pre ++ y :: post ∧ findN g (g.k y) (byt g.c y) = pre.length + 1 := by
  rcases firstL_cases (fun n => g.k n == g.k y) (hl g (byt g.c y)) 0 with ⟨_, h3⟩ | ⟨pre, z, post, h2, h3, h4, h5⟩
  · have := h3 y ((mem_hl g _ y).2 rfl)
    simp at this
  · have hz : byt g.c z = byt g.c y := (mem_hl g _ z).1 (by rw [h2]; simp)
    have e : z = y := right_apart hr (by omega) hy (by simpa using h4)
    subst e
    have hn : ¬ 127 < byt g.c z := by omega
    refine ⟨?_, ?_, pre, post, h2, ?_⟩
    · unfold findE findO; rw [if_neg hn, h5]; rfl
    · unfold findL findO; rw [if_neg hn, h5]; rfl
    · unfold findN findO; rw [if_neg hn, h5]; simp
end Go.Proofs

/- Group: the reference's Full, Right, Looks, Find. -/
namespace Go.Proofs
set_option maxRecDepth 100000
open Go.RowKit Go.Shelf
attribute [local go_sem] Oper.semAt_some

theorem Try.rgFull_any (g : Gr) (hc : g.c < 18446744073709551616) (n : Nat) (hn : n < 8) (w : World) : Calls Try.prog 34 #[.agg (gc g), .int .i64 (n : Nat)] w fun e w' => e = .returned (.bool (decide (byt g.c n < 128))) ∧ Below w.heap.size w w' := by
  have HF := fun W => Lib.hid (Try.refFull_any g.c n hc (by omega) W)
  have h0 := Rows8.new w 25 (gc g)
  have hcc : (w.alloc (.cells (gc g) 25)).cell? ⟨w.heap.size, 0, none⟩ = some (.int .u64 (g.c : Nat)) := (h0.cell 0).trans (gc_0 g)
  have hb := Lib.hid ((Below.refl w.heap.size w).alloc (Nat.le_refl _) (.cells (gc g) 25))
  go_enter Try.func34, Try.ntmps34
  go_wp2_with fail
  go_at_call 56
  refine (HF _).out.mono ?_
  rintro e w2 ⟨rfl, rfl⟩
  go_wp2_with fail
  go_ret
  refine ⟨?_, hb.out⟩
  have h := (kd_facts (byt g.c n)).1
  have e : (kd (byt g.c n) == 0) = decide (byt g.c n < 128) := by
    rw [Bool.eq_iff_iff, beq_iff_eq, decide_eq_true_eq]
    exact h
  rw [← e]
  rfl
set_option maxHeartbeats 8000000 in
theorem Try.rgRight_any (g : Gr) (hc : g.c < 18446744073709551616) (w : World) : Calls Try.prog 8 #[.agg (gc g)] w fun e w' => e = .returned (.bool (rightG g)) ∧ Below w.heap.size w w' := by
  have HFull := fun n hn W => Lib.hid (Try.rgFull_any g hc n hn W)
  have HRC := fun W => Lib.hid (Try.refRight_any g.c hc W)
  have h0 := Rows8.new w 25 (gc g)
  have hb : Below w.heap.size w (w.alloc (.cells (gc g) 25)) := (Below.refl w.heap.size w).alloc (Nat.le_refl _) _
  go_enter Try.func8, Try.ntmps8
  go_wp2_with fail
  generalize (w.alloc (.cells (gc g) 25)) = W0 at *
  have H0 := Lib.hid h0
  have HB0 := Lib.hid hb
  clear h0 hb
  go_loopw [5] (fun v wr => ∃ i : Nat, i ≤ 8 ∧ v = .int .i64 i ∧ Hid (∀ a b : Nat, a < i → b < a → byt g.c a < 128 → byt g.c b < 128 → g.k a ≠ g.k b) ∧ Hid (Rows8 wr w.heap.size 25 (gc g)) ∧ Hid (Below w.heap.size w wr)) (fun v _ => 8 - (intOf v).toNat)
  case atStart => exact ⟨0, by omega, rfl, Lib.hid (fun a b h => by omega), H0, HB0⟩
  case round =>
    obtain ⟨i, hi8, rfl, hia, hGo, HBo⟩ := hrel
    by_cases hi : i < 8
    · have hii : (i : Int) < 8 := by omega
      have hni : ¬ (8 : Int) ≤ (i : Int) := by omega
      obtain ⟨wo, hwo⟩ : ∃ wo, wo = wr := ⟨_, rfl⟩
      rw [← hwo] at hGo HBo ⊢
      clear hwo
      go_wp2_with fail
      go_loopw [9] (fun v wr => ∃ j : Nat, j ≤ i ∧ v = .int .i64 j ∧ Hid (∀ b : Nat, b < j → byt g.c i < 128 → byt g.c b < 128 → g.k i ≠ g.k b) ∧ Hid (Rows8 wr w.heap.size 25 (gc g)) ∧ Hid (Below wo.heap.size wo wr)) (fun v _ => i - (intOf v).toNat)
      case atStart => exact ⟨0, by omega, rfl, Lib.hid (fun b h => by omega), hGo, Lib.hid (Below.refl _ _)⟩
      case round =>
        obtain ⟨j, hji, rfl, hj2, hG, hBj⟩ := hrel
        by_cases hjl : j < i
        · have hj : j < 8 := by omega
          have hjj : (j : Int) < (i : Int) := by omega
          have hnj : ¬ (8 : Int) ≤ (j : Int) := by omega
          have HFi := fun W => HFull i hi W
          have HFj := fun W => HFull j hj W
          go_wp2_with fail
          by_cases hfi : byt g.c i < 128
          · have HVi : Hid (decide (byt g.c i < 128) = true) := Lib.hid (decide_eq_true hfi)
            by_cases hfj : byt g.c j < 128
            · have HVj : Hid (decide (byt g.c j < 128) = true) := Lib.hid (decide_eq_true hfj)
              refine wp_region_X (fun W' => Rows8 W' w.heap.size 25 (gc g)) 19 (by kernel_rfl) ?_
              have hS0 := hG.out.drew
              have hB0 : Below wr.heap.size wr wr.drew := (Below.refl _ _).drew
              generalize wr.drew = Wd at *
              refine wpAnyN_take (i := 0) (oi := { dst := some 12, op := Go.Op.load 25 (Go.Operand.tmp 1), type := 25, pos := "ref.go:17", after := #[], guard := none }) (v := .agg (gc g)) rfl (by decide) (by kernel_rfl) (by kernel_rfl) (by kernel_rfl) (fun _ _ _ h => h) (Or.inl ⟨by rfl, ?_⟩) hS0 ?_
              · intro W9 hS9
                exact exec_load 25 _ rfl ⟨w.heap.size, 0, none⟩ _ (by simp [go_sem]) (Try.load_group hS9)
              try simp only [Act.put, List.setIfInBounds_toArray, List.set_cons_zero, List.set_cons_succ]
              refine wpAnyN_take (i := 1) (oi := { dst := some 13, op := Go.Op.move (Go.Operand.tmp 3), type := 3, pos := "ref.go:17", after := #[], guard := none }) (v := .int .i64 (i : Nat)) rfl (by decide) (by kernel_rfl) (by kernel_rfl) (by kernel_rfl) (fun _ _ _ h => h) (Or.inl ⟨by rfl, ?_⟩) hS0 ?_
              · intro W9 hS9
                have ki := (hS9.cell (1 + i)).trans (gc_k g i hi)
                have kj := (hS9.cell (1 + j)).trans (gc_k g j hj)
                clear hS9
                go_simp
              try simp only [Act.put, List.setIfInBounds_toArray, List.set_cons_zero, List.set_cons_succ]
              refine wpAnyX_one (i := 2) (o := { dst := some 14, op := Go.Op.call { callee := Go.Callee.value (Go.Operand.func 34), args := #[Go.Operand.tmp 12, Go.Operand.tmp 13], argTypes := #[25, 3] }, type := 4, pos := "ref.go:17", after := #[{ on := 0, ground := Go.Ground.data }, { on := 1, ground := Go.Ground.data }], guard := none }) (by kernel_rfl) rfl (fun K hK => ?_)
              refine step_call_g (by rfl) 34 _ _ rfl (fun _ _ => by kernel_rfl) #[.agg (gc g), .int .i64 (i : Nat)] (by simp [go_sem]) _ (HFi Wd).out ?_
              rw [HVi.out]
              rintro e W1 ⟨rfl, hCi⟩
              refine ⟨_, rfl, ?_⟩
              have hS1 := hS0.below hCi hS0.lt
              have hB1 := hB0.trans (hCi.mono hB0.size)
              refine hK.out _ _ (fun _ => hS1) ?_
              clear hK K
              try simp only [Act.put, List.setIfInBounds_toArray, List.set_cons_zero, List.set_cons_succ]
              refine wpAnyN_take (i := 3) (oi := { dst := some 15, op := Go.Op.move (Go.Operand.tmp 14), type := 4, pos := "ref.go:17", after := #[{ on := 2, ground := Go.Ground.data }, { on := 2, ground := Go.Ground.chain }], guard := none }) (v := .bool true) rfl (by decide) (by kernel_rfl) (by kernel_rfl) (by kernel_rfl) (fun _ _ _ h => h) (Or.inl ⟨by rfl, ?_⟩) hS1 ?_
              · intro W9 hS9
                have ki := (hS9.cell (1 + i)).trans (gc_k g i hi)
                have kj := (hS9.cell (1 + j)).trans (gc_k g j hj)
                clear hS9
                go_simp
              try simp only [Act.put, List.setIfInBounds_toArray, List.set_cons_zero, List.set_cons_succ]
              refine wpAnyN_take (i := 4) (oi := { dst := some 16, op := Go.Op.load 25 (Go.Operand.tmp 1), type := 25, pos := "ref.go:17", after := #[{ on := 3, ground := Go.Ground.guard }], guard := some (3, true) }) (v := .agg (gc g)) rfl (by decide) (by kernel_rfl) (by kernel_rfl) (by kernel_rfl) (fun _ _ _ h => h) (Or.inl ⟨by rfl, ?_⟩) hS1 ?_
              · intro W9 hS9
                exact exec_load 25 _ rfl ⟨w.heap.size, 0, none⟩ _ (by simp [go_sem]) (Try.load_group hS9)
              try simp only [Act.put, List.setIfInBounds_toArray, List.set_cons_zero, List.set_cons_succ]
              refine wpAnyN_take (i := 5) (oi := { dst := some 17, op := Go.Op.move (Go.Operand.tmp 4), type := 3, pos := "ref.go:17", after := #[{ on := 3, ground := Go.Ground.guard }], guard := some (3, true) }) (v := .int .i64 (j : Nat)) rfl (by decide) (by kernel_rfl) (by kernel_rfl) (by kernel_rfl) (fun _ _ _ h => h) (Or.inl ⟨by rfl, ?_⟩) hS1 ?_
              · intro W9 hS9
                have ki := (hS9.cell (1 + i)).trans (gc_k g i hi)
                have kj := (hS9.cell (1 + j)).trans (gc_k g j hj)
                clear hS9
                go_simp
              try simp only [Act.put, List.setIfInBounds_toArray, List.set_cons_zero, List.set_cons_succ]
              refine wpAnyX_one (i := 6) (o := { dst := some 18, op := Go.Op.call { callee := Go.Callee.value (Go.Operand.func 34), args := #[Go.Operand.tmp 16, Go.Operand.tmp 17], argTypes := #[25, 3] }, type := 4, pos := "ref.go:17", after := #[{ on := 4, ground := Go.Ground.data }, { on := 5, ground := Go.Ground.data }, { on := 3, ground := Go.Ground.chain }, { on := 3, ground := Go.Ground.guard }], guard := some (3, true) }) (by kernel_rfl) rfl (fun K hK => ?_)
              refine step_call_g (by rfl) 34 _ _ rfl (fun _ _ => by kernel_rfl) #[.agg (gc g), .int .i64 (j : Nat)] (by simp [go_sem]) _ (HFj W1).out ?_
              rw [HVj.out]
              rintro e W2 ⟨rfl, hCj⟩
              refine ⟨_, rfl, ?_⟩
              have hS2 := hS1.below hCj hS1.lt
              have hB2 := hB1.trans (hCj.mono hB1.size)
              refine hK.out _ _ (fun _ => hS2) ?_
              clear hK K
              try simp only [Act.put, List.setIfInBounds_toArray, List.set_cons_zero, List.set_cons_succ]
              refine wpAnyN_take (i := 7) (oi := { dst := some 19, op := Go.Op.pick (Go.Operand.tmp 15) (Go.Operand.tmp 18) (Go.Operand.const (Go.Value.bool false)), type := 4, pos := "ref.go:17", after := #[{ on := 3, ground := Go.Ground.data }, { on := 6, ground := Go.Ground.data }], guard := none }) (v := .bool true) rfl (by decide) (by kernel_rfl) (by kernel_rfl) (by kernel_rfl) (fun _ _ _ h => h) (Or.inl ⟨by rfl, ?_⟩) hS2 ?_
              · intro W9 hS9
                have ki := (hS9.cell (1 + i)).trans (gc_k g i hi)
                have kj := (hS9.cell (1 + j)).trans (gc_k g j hj)
                clear hS9
                go_simp
              try simp only [Act.put, List.setIfInBounds_toArray, List.set_cons_zero, List.set_cons_succ]
              refine wpAnyN_take (i := 8) (oi := { dst := some 20, op := Go.Op.move (Go.Operand.tmp 19), type := 4, pos := "ref.go:17", after := #[{ on := 7, ground := Go.Ground.data }, { on := 6, ground := Go.Ground.chain }], guard := none }) (v := .bool true) rfl (by decide) (by kernel_rfl) (by kernel_rfl) (by kernel_rfl) (fun _ _ _ h => h) (Or.inl ⟨by rfl, ?_⟩) hS2 ?_
              · intro W9 hS9
                have ki := (hS9.cell (1 + i)).trans (gc_k g i hi)
                have kj := (hS9.cell (1 + j)).trans (gc_k g j hj)
                clear hS9
                go_simp
              try simp only [Act.put, List.setIfInBounds_toArray, List.set_cons_zero, List.set_cons_succ]
              refine wpAnyN_take (i := 9) (oi := { dst := some 21, op := Go.Op.move (Go.Operand.tmp 3), type := 3, pos := "ref.go:17", after := #[{ on := 8, ground := Go.Ground.guard }], guard := some (8, true) }) (v := .int .i64 (i : Nat)) rfl (by decide) (by kernel_rfl) (by kernel_rfl) (by kernel_rfl) (fun _ _ _ h => h) (Or.inl ⟨by rfl, ?_⟩) hS2 ?_
              · intro W9 hS9
                have ki := (hS9.cell (1 + i)).trans (gc_k g i hi)
                have kj := (hS9.cell (1 + j)).trans (gc_k g j hj)
                clear hS9
                go_simp
              try simp only [Act.put, List.setIfInBounds_toArray, List.set_cons_zero, List.set_cons_succ]
              refine wpAnyN_take (i := 10) (oi := { dst := some 22, op := Go.Op.fieldAddr 25 (Go.Operand.tmp 1) 1, type := 0, pos := "ref.go:17", after := #[{ on := 8, ground := Go.Ground.guard }], guard := some (8, true) }) (v := .pointer (some ⟨w.heap.size, 1, none⟩)) rfl (by decide) (by kernel_rfl) (by kernel_rfl) (by kernel_rfl) (fun _ _ _ h => h) (Or.inl ⟨by rfl, ?_⟩) hS2 ?_
              · intro W9 hS9
                have ki := (hS9.cell (1 + i)).trans (gc_k g i hi)
                have kj := (hS9.cell (1 + j)).trans (gc_k g j hj)
                clear hS9
                go_simp
              try simp only [Act.put, List.setIfInBounds_toArray, List.set_cons_zero, List.set_cons_succ]
              refine wpAnyN_take (i := 11) (oi := { dst := some 23, op := Go.Op.indexAddr 23 (Go.Operand.tmp 22) (Go.Operand.tmp 21), type := 0, pos := "ref.go:17", after := #[{ on := 10, ground := Go.Ground.data }, { on := 9, ground := Go.Ground.data }, { on := 8, ground := Go.Ground.guard }], guard := some (8, true) }) (v := .pointer (some ⟨w.heap.size, 1 + i, none⟩)) rfl (by decide) (by kernel_rfl) (by kernel_rfl) (by kernel_rfl) (fun _ _ _ h => h) (Or.inl ⟨by rfl, ?_⟩) hS2 ?_
              · intro W9 hS9
                have ki := (hS9.cell (1 + i)).trans (gc_k g i hi)
                have kj := (hS9.cell (1 + j)).trans (gc_k g j hj)
                clear hS9
                go_simp
              try simp only [Act.put, List.setIfInBounds_toArray, List.set_cons_zero, List.set_cons_succ]
              refine wpAnyN_take (i := 12) (oi := { dst := some 24, op := Go.Op.load 22 (Go.Operand.tmp 23), type := 22, pos := "ref.go:17", after := #[{ on := 11, ground := Go.Ground.data }, { on := 8, ground := Go.Ground.guard }], guard := some (8, true) }) (v := .int .u64 (g.k i : Nat)) rfl (by decide) (by kernel_rfl) (by kernel_rfl) (by kernel_rfl) (fun _ _ _ h => h) (Or.inl ⟨by rfl, ?_⟩) hS2 ?_
              · intro W9 hS9
                have ki := (hS9.cell (1 + i)).trans (gc_k g i hi)
                have kj := (hS9.cell (1 + j)).trans (gc_k g j hj)
                clear hS9
                go_simp
              try simp only [Act.put, List.setIfInBounds_toArray, List.set_cons_zero, List.set_cons_succ]
              refine wpAnyN_take (i := 13) (oi := { dst := some 25, op := Go.Op.move (Go.Operand.tmp 4), type := 3, pos := "ref.go:17", after := #[{ on := 8, ground := Go.Ground.guard }], guard := some (8, true) }) (v := .int .i64 (j : Nat)) rfl (by decide) (by kernel_rfl) (by kernel_rfl) (by kernel_rfl) (fun _ _ _ h => h) (Or.inl ⟨by rfl, ?_⟩) hS2 ?_
              · intro W9 hS9
                have ki := (hS9.cell (1 + i)).trans (gc_k g i hi)
                have kj := (hS9.cell (1 + j)).trans (gc_k g j hj)
                clear hS9
                go_simp
              try simp only [Act.put, List.setIfInBounds_toArray, List.set_cons_zero, List.set_cons_succ]
              refine wpAnyN_take (i := 14) (oi := { dst := some 26, op := Go.Op.fieldAddr 25 (Go.Operand.tmp 1) 1, type := 0, pos := "ref.go:17", after := #[{ on := 8, ground := Go.Ground.guard }], guard := some (8, true) }) (v := .pointer (some ⟨w.heap.size, 1, none⟩)) rfl (by decide) (by kernel_rfl) (by kernel_rfl) (by kernel_rfl) (fun _ _ _ h => h) (Or.inl ⟨by rfl, ?_⟩) hS2 ?_
              · intro W9 hS9
                have ki := (hS9.cell (1 + i)).trans (gc_k g i hi)
                have kj := (hS9.cell (1 + j)).trans (gc_k g j hj)
                clear hS9
                go_simp
              try simp only [Act.put, List.setIfInBounds_toArray, List.set_cons_zero, List.set_cons_succ]
              refine wpAnyN_take (i := 15) (oi := { dst := some 27, op := Go.Op.indexAddr 23 (Go.Operand.tmp 26) (Go.Operand.tmp 25), type := 0, pos := "ref.go:17", after := #[{ on := 14, ground := Go.Ground.data }, { on := 13, ground := Go.Ground.data }, { on := 8, ground := Go.Ground.guard }], guard := some (8, true) }) (v := .pointer (some ⟨w.heap.size, 1 + j, none⟩)) rfl (by decide) (by kernel_rfl) (by kernel_rfl) (by kernel_rfl) (fun _ _ _ h => h) (Or.inl ⟨by rfl, ?_⟩) hS2 ?_
              · intro W9 hS9
                have ki := (hS9.cell (1 + i)).trans (gc_k g i hi)
                have kj := (hS9.cell (1 + j)).trans (gc_k g j hj)
                clear hS9
                go_simp
              try simp only [Act.put, List.setIfInBounds_toArray, List.set_cons_zero, List.set_cons_succ]
              refine wpAnyN_take (i := 16) (oi := { dst := some 28, op := Go.Op.load 22 (Go.Operand.tmp 27), type := 22, pos := "ref.go:17", after := #[{ on := 15, ground := Go.Ground.data }, { on := 8, ground := Go.Ground.guard }], guard := some (8, true) }) (v := .int .u64 (g.k j : Nat)) rfl (by decide) (by kernel_rfl) (by kernel_rfl) (by kernel_rfl) (fun _ _ _ h => h) (Or.inl ⟨by rfl, ?_⟩) hS2 ?_
              · intro W9 hS9
                have ki := (hS9.cell (1 + i)).trans (gc_k g i hi)
                have kj := (hS9.cell (1 + j)).trans (gc_k g j hj)
                clear hS9
                go_simp
              try simp only [Act.put, List.setIfInBounds_toArray, List.set_cons_zero, List.set_cons_succ]
              refine wpAnyN_take (i := 17) (oi := { dst := some 29, op := Go.Op.binOp Go.BinOp.eql 22 (Go.Operand.tmp 24) (Go.Operand.tmp 28) 22, type := 4, pos := "ref.go:17", after := #[{ on := 12, ground := Go.Ground.data }, { on := 16, ground := Go.Ground.data }, { on := 8, ground := Go.Ground.guard }], guard := some (8, true) }) (v := .bool (g.k i == g.k j)) rfl (by decide) (by kernel_rfl) (by kernel_rfl) (by kernel_rfl) (fun _ _ _ h => h) (Or.inl ⟨by rfl, ?_⟩) hS2 ?_
              · intro W9 hS9
                have hnn := natEq_walk (g.k i) (g.k j)
                go_simp
              try simp only [Act.put, List.setIfInBounds_toArray, List.set_cons_zero, List.set_cons_succ]
              refine wpAnyN_take (i := 18) (oi := { dst := some 30, op := Go.Op.pick (Go.Operand.tmp 20) (Go.Operand.tmp 29) (Go.Operand.const (Go.Value.bool false)), type := 4, pos := "ref.go:17", after := #[{ on := 8, ground := Go.Ground.data }, { on := 17, ground := Go.Ground.data }], guard := none }) (v := .bool (g.k i == g.k j)) rfl (by decide) (by kernel_rfl) (by kernel_rfl) (by kernel_rfl) (fun _ _ _ h => h) (Or.inl ⟨by rfl, ?_⟩) hS2 ?_
              · intro W9 hS9
                go_simp
              try simp only [Act.put, List.setIfInBounds_toArray, List.set_cons_zero, List.set_cons_succ]
              refine wpAnyX_end (by kernel_rfl) ?_
              have HSx := Lib.hid hS2
              have HBx := Lib.hid hB2
              cases hkk : (g.k i == g.k j)
              · go_wp2_with fail
                go_roundw
                case rel => exact ⟨j + 1, by omega, by go_num, Lib.hid (fun b hb hbi hbj => by
                  rcases Nat.lt_or_ge b j with h | h
                  · exact hj2.out b h hbi hbj
                  · obtain rfl : b = j := by omega
                    simpa using hkk), HSx, Lib.hid (hBj.out.trans (HBx.out.mono hBj.out.size))⟩
                case measure => simp [intOf]; omega
              · have hno : rightG g = false := by
                  cases hr : rightG g
                  · rfl
                  · have := right_apart hr (y := ⟨i, hi⟩) (x := ⟨j, hj⟩) hfi hfj (by simpa using hkk)
                    have := congrArg Fin.val this
                    dsimp only at this
                    omega
                have HNo := Lib.hid hno
                clear hno
                go_wp2_with fail
                go_ret
                exact ⟨by rw [HNo.out]; rfl, (HBo.out.trans ((hBj.out.mono HBo.out.size))).trans (HBx.out.mono (Nat.le_trans HBo.out.size hBj.out.size))⟩
            · have HVj : Hid (decide (byt g.c j < 128) = false) := Lib.hid (decide_eq_false hfj)
              refine wp_region_X (fun W' => Rows8 W' w.heap.size 25 (gc g)) 19 (by kernel_rfl) ?_
              have hS0 := hG.out.drew
              have hB0 : Below wr.heap.size wr wr.drew := (Below.refl _ _).drew
              generalize wr.drew = Wd at *
              refine wpAnyN_take (i := 0) (oi := { dst := some 12, op := Go.Op.load 25 (Go.Operand.tmp 1), type := 25, pos := "ref.go:17", after := #[], guard := none }) (v := .agg (gc g)) rfl (by decide) (by kernel_rfl) (by kernel_rfl) (by kernel_rfl) (fun _ _ _ h => h) (Or.inl ⟨by rfl, ?_⟩) hS0 ?_
              · intro W9 hS9
                exact exec_load 25 _ rfl ⟨w.heap.size, 0, none⟩ _ (by simp [go_sem]) (Try.load_group hS9)
              try simp only [Act.put, List.setIfInBounds_toArray, List.set_cons_zero, List.set_cons_succ]
              refine wpAnyN_take (i := 1) (oi := { dst := some 13, op := Go.Op.move (Go.Operand.tmp 3), type := 3, pos := "ref.go:17", after := #[], guard := none }) (v := .int .i64 (i : Nat)) rfl (by decide) (by kernel_rfl) (by kernel_rfl) (by kernel_rfl) (fun _ _ _ h => h) (Or.inl ⟨by rfl, ?_⟩) hS0 ?_
              · intro W9 hS9
                have ki := (hS9.cell (1 + i)).trans (gc_k g i hi)
                have kj := (hS9.cell (1 + j)).trans (gc_k g j hj)
                clear hS9
                go_simp
              try simp only [Act.put, List.setIfInBounds_toArray, List.set_cons_zero, List.set_cons_succ]
              refine wpAnyX_one (i := 2) (o := { dst := some 14, op := Go.Op.call { callee := Go.Callee.value (Go.Operand.func 34), args := #[Go.Operand.tmp 12, Go.Operand.tmp 13], argTypes := #[25, 3] }, type := 4, pos := "ref.go:17", after := #[{ on := 0, ground := Go.Ground.data }, { on := 1, ground := Go.Ground.data }], guard := none }) (by kernel_rfl) rfl (fun K hK => ?_)
              refine step_call_g (by rfl) 34 _ _ rfl (fun _ _ => by kernel_rfl) #[.agg (gc g), .int .i64 (i : Nat)] (by simp [go_sem]) _ (HFi Wd).out ?_
              rw [HVi.out]
              rintro e W1 ⟨rfl, hCi⟩
              refine ⟨_, rfl, ?_⟩
              have hS1 := hS0.below hCi hS0.lt
              have hB1 := hB0.trans (hCi.mono hB0.size)
              refine hK.out _ _ (fun _ => hS1) ?_
              clear hK K
              try simp only [Act.put, List.setIfInBounds_toArray, List.set_cons_zero, List.set_cons_succ]
              refine wpAnyN_take (i := 3) (oi := { dst := some 15, op := Go.Op.move (Go.Operand.tmp 14), type := 4, pos := "ref.go:17", after := #[{ on := 2, ground := Go.Ground.data }, { on := 2, ground := Go.Ground.chain }], guard := none }) (v := .bool true) rfl (by decide) (by kernel_rfl) (by kernel_rfl) (by kernel_rfl) (fun _ _ _ h => h) (Or.inl ⟨by rfl, ?_⟩) hS1 ?_
              · intro W9 hS9
                have ki := (hS9.cell (1 + i)).trans (gc_k g i hi)
                have kj := (hS9.cell (1 + j)).trans (gc_k g j hj)
                clear hS9
                go_simp
              try simp only [Act.put, List.setIfInBounds_toArray, List.set_cons_zero, List.set_cons_succ]
              refine wpAnyN_take (i := 4) (oi := { dst := some 16, op := Go.Op.load 25 (Go.Operand.tmp 1), type := 25, pos := "ref.go:17", after := #[{ on := 3, ground := Go.Ground.guard }], guard := some (3, true) }) (v := .agg (gc g)) rfl (by decide) (by kernel_rfl) (by kernel_rfl) (by kernel_rfl) (fun _ _ _ h => h) (Or.inl ⟨by rfl, ?_⟩) hS1 ?_
              · intro W9 hS9
                exact exec_load 25 _ rfl ⟨w.heap.size, 0, none⟩ _ (by simp [go_sem]) (Try.load_group hS9)
              try simp only [Act.put, List.setIfInBounds_toArray, List.set_cons_zero, List.set_cons_succ]
              refine wpAnyN_take (i := 5) (oi := { dst := some 17, op := Go.Op.move (Go.Operand.tmp 4), type := 3, pos := "ref.go:17", after := #[{ on := 3, ground := Go.Ground.guard }], guard := some (3, true) }) (v := .int .i64 (j : Nat)) rfl (by decide) (by kernel_rfl) (by kernel_rfl) (by kernel_rfl) (fun _ _ _ h => h) (Or.inl ⟨by rfl, ?_⟩) hS1 ?_
              · intro W9 hS9
                have ki := (hS9.cell (1 + i)).trans (gc_k g i hi)
                have kj := (hS9.cell (1 + j)).trans (gc_k g j hj)
                clear hS9
                go_simp
              try simp only [Act.put, List.setIfInBounds_toArray, List.set_cons_zero, List.set_cons_succ]
              refine wpAnyX_one (i := 6) (o := { dst := some 18, op := Go.Op.call { callee := Go.Callee.value (Go.Operand.func 34), args := #[Go.Operand.tmp 16, Go.Operand.tmp 17], argTypes := #[25, 3] }, type := 4, pos := "ref.go:17", after := #[{ on := 4, ground := Go.Ground.data }, { on := 5, ground := Go.Ground.data }, { on := 3, ground := Go.Ground.chain }, { on := 3, ground := Go.Ground.guard }], guard := some (3, true) }) (by kernel_rfl) rfl (fun K hK => ?_)
              refine step_call_g (by rfl) 34 _ _ rfl (fun _ _ => by kernel_rfl) #[.agg (gc g), .int .i64 (j : Nat)] (by simp [go_sem]) _ (HFj W1).out ?_
              rw [HVj.out]
              rintro e W2 ⟨rfl, hCj⟩
              refine ⟨_, rfl, ?_⟩
              have hS2 := hS1.below hCj hS1.lt
              have hB2 := hB1.trans (hCj.mono hB1.size)
              refine hK.out _ _ (fun _ => hS2) ?_
              clear hK K
              try simp only [Act.put, List.setIfInBounds_toArray, List.set_cons_zero, List.set_cons_succ]
              refine wpAnyN_take (i := 7) (oi := { dst := some 19, op := Go.Op.pick (Go.Operand.tmp 15) (Go.Operand.tmp 18) (Go.Operand.const (Go.Value.bool false)), type := 4, pos := "ref.go:17", after := #[{ on := 3, ground := Go.Ground.data }, { on := 6, ground := Go.Ground.data }], guard := none }) (v := .bool false) rfl (by decide) (by kernel_rfl) (by kernel_rfl) (by kernel_rfl) (fun _ _ _ h => h) (Or.inl ⟨by rfl, ?_⟩) hS2 ?_
              · intro W9 hS9
                have ki := (hS9.cell (1 + i)).trans (gc_k g i hi)
                have kj := (hS9.cell (1 + j)).trans (gc_k g j hj)
                clear hS9
                go_simp
              try simp only [Act.put, List.setIfInBounds_toArray, List.set_cons_zero, List.set_cons_succ]
              refine wpAnyN_take (i := 8) (oi := { dst := some 20, op := Go.Op.move (Go.Operand.tmp 19), type := 4, pos := "ref.go:17", after := #[{ on := 7, ground := Go.Ground.data }, { on := 6, ground := Go.Ground.chain }], guard := none }) (v := .bool false) rfl (by decide) (by kernel_rfl) (by kernel_rfl) (by kernel_rfl) (fun _ _ _ h => h) (Or.inl ⟨by rfl, ?_⟩) hS2 ?_
              · intro W9 hS9
                have ki := (hS9.cell (1 + i)).trans (gc_k g i hi)
                have kj := (hS9.cell (1 + j)).trans (gc_k g j hj)
                clear hS9
                go_simp
              try simp only [Act.put, List.setIfInBounds_toArray, List.set_cons_zero, List.set_cons_succ]
              refine wpAnyN_take (i := 9) (oi := { dst := some 21, op := Go.Op.move (Go.Operand.tmp 3), type := 3, pos := "ref.go:17", after := #[{ on := 8, ground := Go.Ground.guard }], guard := some (8, true) }) (v := undef) rfl (by decide) (by kernel_rfl) (by kernel_rfl) (by kernel_rfl) (fun _ _ _ h => h) (Or.inr ⟨by rfl, rfl⟩) hS2 ?_
              try simp only [Act.put, List.setIfInBounds_toArray, List.set_cons_zero, List.set_cons_succ]
              refine wpAnyN_take (i := 10) (oi := { dst := some 22, op := Go.Op.fieldAddr 25 (Go.Operand.tmp 1) 1, type := 0, pos := "ref.go:17", after := #[{ on := 8, ground := Go.Ground.guard }], guard := some (8, true) }) (v := undef) rfl (by decide) (by kernel_rfl) (by kernel_rfl) (by kernel_rfl) (fun _ _ _ h => h) (Or.inr ⟨by rfl, rfl⟩) hS2 ?_
              try simp only [Act.put, List.setIfInBounds_toArray, List.set_cons_zero, List.set_cons_succ]
              refine wpAnyN_take (i := 11) (oi := { dst := some 23, op := Go.Op.indexAddr 23 (Go.Operand.tmp 22) (Go.Operand.tmp 21), type := 0, pos := "ref.go:17", after := #[{ on := 10, ground := Go.Ground.data }, { on := 9, ground := Go.Ground.data }, { on := 8, ground := Go.Ground.guard }], guard := some (8, true) }) (v := undef) rfl (by decide) (by kernel_rfl) (by kernel_rfl) (by kernel_rfl) (fun _ _ _ h => h) (Or.inr ⟨by rfl, rfl⟩) hS2 ?_
              try simp only [Act.put, List.setIfInBounds_toArray, List.set_cons_zero, List.set_cons_succ]
              refine wpAnyN_take (i := 12) (oi := { dst := some 24, op := Go.Op.load 22 (Go.Operand.tmp 23), type := 22, pos := "ref.go:17", after := #[{ on := 11, ground := Go.Ground.data }, { on := 8, ground := Go.Ground.guard }], guard := some (8, true) }) (v := undef) rfl (by decide) (by kernel_rfl) (by kernel_rfl) (by kernel_rfl) (fun _ _ _ h => h) (Or.inr ⟨by rfl, rfl⟩) hS2 ?_
              try simp only [Act.put, List.setIfInBounds_toArray, List.set_cons_zero, List.set_cons_succ]
              refine wpAnyN_take (i := 13) (oi := { dst := some 25, op := Go.Op.move (Go.Operand.tmp 4), type := 3, pos := "ref.go:17", after := #[{ on := 8, ground := Go.Ground.guard }], guard := some (8, true) }) (v := undef) rfl (by decide) (by kernel_rfl) (by kernel_rfl) (by kernel_rfl) (fun _ _ _ h => h) (Or.inr ⟨by rfl, rfl⟩) hS2 ?_
              try simp only [Act.put, List.setIfInBounds_toArray, List.set_cons_zero, List.set_cons_succ]
              refine wpAnyN_take (i := 14) (oi := { dst := some 26, op := Go.Op.fieldAddr 25 (Go.Operand.tmp 1) 1, type := 0, pos := "ref.go:17", after := #[{ on := 8, ground := Go.Ground.guard }], guard := some (8, true) }) (v := undef) rfl (by decide) (by kernel_rfl) (by kernel_rfl) (by kernel_rfl) (fun _ _ _ h => h) (Or.inr ⟨by rfl, rfl⟩) hS2 ?_
              try simp only [Act.put, List.setIfInBounds_toArray, List.set_cons_zero, List.set_cons_succ]
              refine wpAnyN_take (i := 15) (oi := { dst := some 27, op := Go.Op.indexAddr 23 (Go.Operand.tmp 26) (Go.Operand.tmp 25), type := 0, pos := "ref.go:17", after := #[{ on := 14, ground := Go.Ground.data }, { on := 13, ground := Go.Ground.data }, { on := 8, ground := Go.Ground.guard }], guard := some (8, true) }) (v := undef) rfl (by decide) (by kernel_rfl) (by kernel_rfl) (by kernel_rfl) (fun _ _ _ h => h) (Or.inr ⟨by rfl, rfl⟩) hS2 ?_
              try simp only [Act.put, List.setIfInBounds_toArray, List.set_cons_zero, List.set_cons_succ]
              refine wpAnyN_take (i := 16) (oi := { dst := some 28, op := Go.Op.load 22 (Go.Operand.tmp 27), type := 22, pos := "ref.go:17", after := #[{ on := 15, ground := Go.Ground.data }, { on := 8, ground := Go.Ground.guard }], guard := some (8, true) }) (v := undef) rfl (by decide) (by kernel_rfl) (by kernel_rfl) (by kernel_rfl) (fun _ _ _ h => h) (Or.inr ⟨by rfl, rfl⟩) hS2 ?_
              try simp only [Act.put, List.setIfInBounds_toArray, List.set_cons_zero, List.set_cons_succ]
              refine wpAnyN_take (i := 17) (oi := { dst := some 29, op := Go.Op.binOp Go.BinOp.eql 22 (Go.Operand.tmp 24) (Go.Operand.tmp 28) 22, type := 4, pos := "ref.go:17", after := #[{ on := 12, ground := Go.Ground.data }, { on := 16, ground := Go.Ground.data }, { on := 8, ground := Go.Ground.guard }], guard := some (8, true) }) (v := undef) rfl (by decide) (by kernel_rfl) (by kernel_rfl) (by kernel_rfl) (fun _ _ _ h => h) (Or.inr ⟨by rfl, rfl⟩) hS2 ?_
              try simp only [Act.put, List.setIfInBounds_toArray, List.set_cons_zero, List.set_cons_succ]
              refine wpAnyN_take (i := 18) (oi := { dst := some 30, op := Go.Op.pick (Go.Operand.tmp 20) (Go.Operand.tmp 29) (Go.Operand.const (Go.Value.bool false)), type := 4, pos := "ref.go:17", after := #[{ on := 8, ground := Go.Ground.data }, { on := 17, ground := Go.Ground.data }], guard := none }) (v := .bool false) rfl (by decide) (by kernel_rfl) (by kernel_rfl) (by kernel_rfl) (fun _ _ _ h => h) (Or.inl ⟨by rfl, ?_⟩) hS2 ?_
              · intro W9 hS9
                have ki := (hS9.cell (1 + i)).trans (gc_k g i hi)
                have kj := (hS9.cell (1 + j)).trans (gc_k g j hj)
                clear hS9
                go_simp
              try simp only [Act.put, List.setIfInBounds_toArray, List.set_cons_zero, List.set_cons_succ]
              refine wpAnyX_end (by kernel_rfl) ?_
              have HSx := Lib.hid hS2
              have HBx := Lib.hid hB2
              go_wp2_with fail
              go_roundw
              case rel => exact ⟨j + 1, by omega, by go_num, Lib.hid (fun b hb hbi hbj => by
                rcases Nat.lt_or_ge b j with h | h
                · exact hj2.out b h hbi hbj
                · obtain rfl : b = j := by omega
                  first | (exact absurd hbi hfi) | (exact absurd hbj hfj)), HSx, Lib.hid (hBj.out.trans (HBx.out.mono hBj.out.size))⟩
              case measure => simp [intOf]; omega
          · have HVi : Hid (decide (byt g.c i < 128) = false) := Lib.hid (decide_eq_false hfi)
            refine wp_region_X (fun W' => Rows8 W' w.heap.size 25 (gc g)) 19 (by kernel_rfl) ?_
            have hS0 := hG.out.drew
            have hB0 : Below wr.heap.size wr wr.drew := (Below.refl _ _).drew
            generalize wr.drew = Wd at *
            refine wpAnyN_take (i := 0) (oi := { dst := some 12, op := Go.Op.load 25 (Go.Operand.tmp 1), type := 25, pos := "ref.go:17", after := #[], guard := none }) (v := .agg (gc g)) rfl (by decide) (by kernel_rfl) (by kernel_rfl) (by kernel_rfl) (fun _ _ _ h => h) (Or.inl ⟨by rfl, ?_⟩) hS0 ?_
            · intro W9 hS9
              exact exec_load 25 _ rfl ⟨w.heap.size, 0, none⟩ _ (by simp [go_sem]) (Try.load_group hS9)
            try simp only [Act.put, List.setIfInBounds_toArray, List.set_cons_zero, List.set_cons_succ]
            refine wpAnyN_take (i := 1) (oi := { dst := some 13, op := Go.Op.move (Go.Operand.tmp 3), type := 3, pos := "ref.go:17", after := #[], guard := none }) (v := .int .i64 (i : Nat)) rfl (by decide) (by kernel_rfl) (by kernel_rfl) (by kernel_rfl) (fun _ _ _ h => h) (Or.inl ⟨by rfl, ?_⟩) hS0 ?_
            · intro W9 hS9
              have ki := (hS9.cell (1 + i)).trans (gc_k g i hi)
              have kj := (hS9.cell (1 + j)).trans (gc_k g j hj)
              clear hS9
              go_simp
            try simp only [Act.put, List.setIfInBounds_toArray, List.set_cons_zero, List.set_cons_succ]
            refine wpAnyX_one (i := 2) (o := { dst := some 14, op := Go.Op.call { callee := Go.Callee.value (Go.Operand.func 34), args := #[Go.Operand.tmp 12, Go.Operand.tmp 13], argTypes := #[25, 3] }, type := 4, pos := "ref.go:17", after := #[{ on := 0, ground := Go.Ground.data }, { on := 1, ground := Go.Ground.data }], guard := none }) (by kernel_rfl) rfl (fun K hK => ?_)
            refine step_call_g (by rfl) 34 _ _ rfl (fun _ _ => by kernel_rfl) #[.agg (gc g), .int .i64 (i : Nat)] (by simp [go_sem]) _ (HFi Wd).out ?_
            rw [HVi.out]
            rintro e W1 ⟨rfl, hCi⟩
            refine ⟨_, rfl, ?_⟩
            have hS1 := hS0.below hCi hS0.lt
            have hB1 := hB0.trans (hCi.mono hB0.size)
            refine hK.out _ _ (fun _ => hS1) ?_
            clear hK K
            try simp only [Act.put, List.setIfInBounds_toArray, List.set_cons_zero, List.set_cons_succ]
            refine wpAnyN_take (i := 3) (oi := { dst := some 15, op := Go.Op.move (Go.Operand.tmp 14), type := 4, pos := "ref.go:17", after := #[{ on := 2, ground := Go.Ground.data }, { on := 2, ground := Go.Ground.chain }], guard := none }) (v := .bool false) rfl (by decide) (by kernel_rfl) (by kernel_rfl) (by kernel_rfl) (fun _ _ _ h => h) (Or.inl ⟨by rfl, ?_⟩) hS1 ?_
            · intro W9 hS9
              have ki := (hS9.cell (1 + i)).trans (gc_k g i hi)
              have kj := (hS9.cell (1 + j)).trans (gc_k g j hj)
              clear hS9
              go_simp
            try simp only [Act.put, List.setIfInBounds_toArray, List.set_cons_zero, List.set_cons_succ]
            refine wpAnyN_take (i := 4) (oi := { dst := some 16, op := Go.Op.load 25 (Go.Operand.tmp 1), type := 25, pos := "ref.go:17", after := #[{ on := 3, ground := Go.Ground.guard }], guard := some (3, true) }) (v := undef) rfl (by decide) (by kernel_rfl) (by kernel_rfl) (by kernel_rfl) (fun _ _ _ h => h) (Or.inr ⟨by rfl, rfl⟩) hS1 ?_
            try simp only [Act.put, List.setIfInBounds_toArray, List.set_cons_zero, List.set_cons_succ]
            refine wpAnyN_take (i := 5) (oi := { dst := some 17, op := Go.Op.move (Go.Operand.tmp 4), type := 3, pos := "ref.go:17", after := #[{ on := 3, ground := Go.Ground.guard }], guard := some (3, true) }) (v := undef) rfl (by decide) (by kernel_rfl) (by kernel_rfl) (by kernel_rfl) (fun _ _ _ h => h) (Or.inr ⟨by rfl, rfl⟩) hS1 ?_
            try simp only [Act.put, List.setIfInBounds_toArray, List.set_cons_zero, List.set_cons_succ]
            refine wpAnyN_take (i := 6) (oi := { dst := some 18, op := Go.Op.call { callee := Go.Callee.value (Go.Operand.func 34), args := #[Go.Operand.tmp 16, Go.Operand.tmp 17], argTypes := #[25, 3] }, type := 4, pos := "ref.go:17", after := #[{ on := 4, ground := Go.Ground.data }, { on := 5, ground := Go.Ground.data }, { on := 3, ground := Go.Ground.chain }, { on := 3, ground := Go.Ground.guard }], guard := some (3, true) }) (v := undef) rfl (by decide) (by kernel_rfl) (by kernel_rfl) (by kernel_rfl) (fun _ _ _ h => h) (Or.inr ⟨by rfl, rfl⟩) hS1 ?_
            try simp only [Act.put, List.setIfInBounds_toArray, List.set_cons_zero, List.set_cons_succ]
            refine wpAnyN_take (i := 7) (oi := { dst := some 19, op := Go.Op.pick (Go.Operand.tmp 15) (Go.Operand.tmp 18) (Go.Operand.const (Go.Value.bool false)), type := 4, pos := "ref.go:17", after := #[{ on := 3, ground := Go.Ground.data }, { on := 6, ground := Go.Ground.data }], guard := none }) (v := .bool false) rfl (by decide) (by kernel_rfl) (by kernel_rfl) (by kernel_rfl) (fun _ _ _ h => h) (Or.inl ⟨by rfl, ?_⟩) hS1 ?_
            · intro W9 hS9
              have ki := (hS9.cell (1 + i)).trans (gc_k g i hi)
              have kj := (hS9.cell (1 + j)).trans (gc_k g j hj)
              clear hS9
              go_simp
            try simp only [Act.put, List.setIfInBounds_toArray, List.set_cons_zero, List.set_cons_succ]
            refine wpAnyN_take (i := 8) (oi := { dst := some 20, op := Go.Op.move (Go.Operand.tmp 19), type := 4, pos := "ref.go:17", after := #[{ on := 7, ground := Go.Ground.data }, { on := 6, ground := Go.Ground.chain }], guard := none }) (v := .bool false) rfl (by decide) (by kernel_rfl) (by kernel_rfl) (by kernel_rfl) (fun _ _ _ h => h) (Or.inl ⟨by rfl, ?_⟩) hS1 ?_
            · intro W9 hS9
              have ki := (hS9.cell (1 + i)).trans (gc_k g i hi)
              have kj := (hS9.cell (1 + j)).trans (gc_k g j hj)
              clear hS9
              go_simp
            try simp only [Act.put, List.setIfInBounds_toArray, List.set_cons_zero, List.set_cons_succ]
            refine wpAnyN_take (i := 9) (oi := { dst := some 21, op := Go.Op.move (Go.Operand.tmp 3), type := 3, pos := "ref.go:17", after := #[{ on := 8, ground := Go.Ground.guard }], guard := some (8, true) }) (v := undef) rfl (by decide) (by kernel_rfl) (by kernel_rfl) (by kernel_rfl) (fun _ _ _ h => h) (Or.inr ⟨by rfl, rfl⟩) hS1 ?_
            try simp only [Act.put, List.setIfInBounds_toArray, List.set_cons_zero, List.set_cons_succ]
            refine wpAnyN_take (i := 10) (oi := { dst := some 22, op := Go.Op.fieldAddr 25 (Go.Operand.tmp 1) 1, type := 0, pos := "ref.go:17", after := #[{ on := 8, ground := Go.Ground.guard }], guard := some (8, true) }) (v := undef) rfl (by decide) (by kernel_rfl) (by kernel_rfl) (by kernel_rfl) (fun _ _ _ h => h) (Or.inr ⟨by rfl, rfl⟩) hS1 ?_
            try simp only [Act.put, List.setIfInBounds_toArray, List.set_cons_zero, List.set_cons_succ]
            refine wpAnyN_take (i := 11) (oi := { dst := some 23, op := Go.Op.indexAddr 23 (Go.Operand.tmp 22) (Go.Operand.tmp 21), type := 0, pos := "ref.go:17", after := #[{ on := 10, ground := Go.Ground.data }, { on := 9, ground := Go.Ground.data }, { on := 8, ground := Go.Ground.guard }], guard := some (8, true) }) (v := undef) rfl (by decide) (by kernel_rfl) (by kernel_rfl) (by kernel_rfl) (fun _ _ _ h => h) (Or.inr ⟨by rfl, rfl⟩) hS1 ?_
            try simp only [Act.put, List.setIfInBounds_toArray, List.set_cons_zero, List.set_cons_succ]
            refine wpAnyN_take (i := 12) (oi := { dst := some 24, op := Go.Op.load 22 (Go.Operand.tmp 23), type := 22, pos := "ref.go:17", after := #[{ on := 11, ground := Go.Ground.data }, { on := 8, ground := Go.Ground.guard }], guard := some (8, true) }) (v := undef) rfl (by decide) (by kernel_rfl) (by kernel_rfl) (by kernel_rfl) (fun _ _ _ h => h) (Or.inr ⟨by rfl, rfl⟩) hS1 ?_
            try simp only [Act.put, List.setIfInBounds_toArray, List.set_cons_zero, List.set_cons_succ]
            refine wpAnyN_take (i := 13) (oi := { dst := some 25, op := Go.Op.move (Go.Operand.tmp 4), type := 3, pos := "ref.go:17", after := #[{ on := 8, ground := Go.Ground.guard }], guard := some (8, true) }) (v := undef) rfl (by decide) (by kernel_rfl) (by kernel_rfl) (by kernel_rfl) (fun _ _ _ h => h) (Or.inr ⟨by rfl, rfl⟩) hS1 ?_
            try simp only [Act.put, List.setIfInBounds_toArray, List.set_cons_zero, List.set_cons_succ]
            refine wpAnyN_take (i := 14) (oi := { dst := some 26, op := Go.Op.fieldAddr 25 (Go.Operand.tmp 1) 1, type := 0, pos := "ref.go:17", after := #[{ on := 8, ground := Go.Ground.guard }], guard := some (8, true) }) (v := undef) rfl (by decide) (by kernel_rfl) (by kernel_rfl) (by kernel_rfl) (fun _ _ _ h => h) (Or.inr ⟨by rfl, rfl⟩) hS1 ?_
            try simp only [Act.put, List.setIfInBounds_toArray, List.set_cons_zero, List.set_cons_succ]
            refine wpAnyN_take (i := 15) (oi := { dst := some 27, op := Go.Op.indexAddr 23 (Go.Operand.tmp 26) (Go.Operand.tmp 25), type := 0, pos := "ref.go:17", after := #[{ on := 14, ground := Go.Ground.data }, { on := 13, ground := Go.Ground.data }, { on := 8, ground := Go.Ground.guard }], guard := some (8, true) }) (v := undef) rfl (by decide) (by kernel_rfl) (by kernel_rfl) (by kernel_rfl) (fun _ _ _ h => h) (Or.inr ⟨by rfl, rfl⟩) hS1 ?_
            try simp only [Act.put, List.setIfInBounds_toArray, List.set_cons_zero, List.set_cons_succ]
            refine wpAnyN_take (i := 16) (oi := { dst := some 28, op := Go.Op.load 22 (Go.Operand.tmp 27), type := 22, pos := "ref.go:17", after := #[{ on := 15, ground := Go.Ground.data }, { on := 8, ground := Go.Ground.guard }], guard := some (8, true) }) (v := undef) rfl (by decide) (by kernel_rfl) (by kernel_rfl) (by kernel_rfl) (fun _ _ _ h => h) (Or.inr ⟨by rfl, rfl⟩) hS1 ?_
            try simp only [Act.put, List.setIfInBounds_toArray, List.set_cons_zero, List.set_cons_succ]
            refine wpAnyN_take (i := 17) (oi := { dst := some 29, op := Go.Op.binOp Go.BinOp.eql 22 (Go.Operand.tmp 24) (Go.Operand.tmp 28) 22, type := 4, pos := "ref.go:17", after := #[{ on := 12, ground := Go.Ground.data }, { on := 16, ground := Go.Ground.data }, { on := 8, ground := Go.Ground.guard }], guard := some (8, true) }) (v := undef) rfl (by decide) (by kernel_rfl) (by kernel_rfl) (by kernel_rfl) (fun _ _ _ h => h) (Or.inr ⟨by rfl, rfl⟩) hS1 ?_
            try simp only [Act.put, List.setIfInBounds_toArray, List.set_cons_zero, List.set_cons_succ]
            refine wpAnyN_take (i := 18) (oi := { dst := some 30, op := Go.Op.pick (Go.Operand.tmp 20) (Go.Operand.tmp 29) (Go.Operand.const (Go.Value.bool false)), type := 4, pos := "ref.go:17", after := #[{ on := 8, ground := Go.Ground.data }, { on := 17, ground := Go.Ground.data }], guard := none }) (v := .bool false) rfl (by decide) (by kernel_rfl) (by kernel_rfl) (by kernel_rfl) (fun _ _ _ h => h) (Or.inl ⟨by rfl, ?_⟩) hS1 ?_
            · intro W9 hS9
              have ki := (hS9.cell (1 + i)).trans (gc_k g i hi)
              have kj := (hS9.cell (1 + j)).trans (gc_k g j hj)
              clear hS9
              go_simp
            try simp only [Act.put, List.setIfInBounds_toArray, List.set_cons_zero, List.set_cons_succ]
            refine wpAnyX_end (by kernel_rfl) ?_
            have HSx := Lib.hid hS1
            have HBx := Lib.hid hB1
            go_wp2_with fail
            go_roundw
            case rel => exact ⟨j + 1, by omega, by go_num, Lib.hid (fun b hb hbi hbj => by
              rcases Nat.lt_or_ge b j with h | h
              · exact hj2.out b h hbi hbj
              · obtain rfl : b = j := by omega
                first | (exact absurd hbi hfi) | (exact absurd hbj hfj)), HSx, Lib.hid (hBj.out.trans (HBx.out.mono hBj.out.size))⟩
            case measure => simp [intOf]; omega
        · obtain rfl : j = i := by omega
          go_wp2_with fail
          go_roundw
          case rel => exact ⟨j + 1, by omega, by go_num, Lib.hid (fun a b ha hb hfa hfb => by
            rcases Nat.lt_or_ge a j with h | h
            · exact hia.out a b h hb hfa hfb
            · obtain rfl : a = j := by omega
              exact hj2.out b hb hfa hfb), hG, Lib.hid (HBo.out.trans (hBj.out.mono HBo.out.size))⟩
          case measure => simp [intOf]; omega
    · obtain rfl : i = 8 := by omega
      have hcc : wr.cell? ⟨w.heap.size, 0, none⟩ = some (.int .u64 (g.c : Nat)) := (hGo.out.cell 0).trans (gc_0 g)
      have HRt : Hid (rightC g.c = rightG g) := Lib.hid (by
        cases hr : rightC g.c
        · unfold rightG; rw [hr]; rfl
        · refine (right_of hr fun y x hy hx hk => ?_).symm
          rcases Nat.lt_trichotomy (y : Nat) x with h | h | h
          · exact absurd hk.symm (hia.out x y x.isLt h hx hy)
          · exact Fin.ext h
          · exact absurd hk (hia.out y x y.isLt h hy hx))
      go_wp2_with (go_at_call 35; refine (HRC _).out.mono ?_; rintro e w9 ⟨rfl, hB9⟩; have HB9 := Lib.hid (HBo.out.trans (hB9.mono HBo.out.size)); clear hB9)
      go_ret
      exact ⟨by rw [← HRt.out]; rfl, HB9.out⟩
end Go.Proofs

/- Group: the reference's Looks, Find. -/
namespace Go.Proofs
set_option maxRecDepth 100000
open Go.RowKit Go.Shelf
attribute [local go_sem] Oper.semAt_some

def hm (g : Gr) (h : Nat) : Nat := maskB fun n => byt g.c n == h
theorem hm_bit (g : Gr) (h k : Nat) (hk : k < 8) : (hm g h).testBit k = (byt g.c k == h) := testBit_maskB (fun n => byt g.c n == h) ⟨k, hk⟩
set_option maxHeartbeats 8000000 in
theorem Try.rgLooks_any (g : Gr) (hc : g.c < 18446744073709551616) (h : Nat) (w : World) : Calls Try.prog 21 #[.agg (gc g), .int .u8 (h : Nat)] w (AllQ (hl g h) w) := by
  obtain ⟨i0, hi, hz0, hz1, hz2⟩ := info_parts Try.infoInt
  have HA := fun n hn W => Lib.hid (Try.At_any g.c n hc hn W)
  have h0 := Rows8.new w 25 (gc g)
  have hb : Below w.heap.size w (w.alloc (.cells (gc g) 25)) := (Below.refl w.heap.size w).alloc (Nat.le_refl _) _
  go_enter Try.func21, Try.ntmps21
  go_wp2_with fail
  generalize (w.alloc (.cells (gc g) 25)) = W0 at *
  have H0 := Lib.hid h0
  have HB0 := Lib.hid hb
  clear h0 hb
  go_loopw [5, 7] (fun lv v wr => ∃ k : Nat, k ≤ 8 ∧ v = .int .i64 k ∧ Hid (OwnsLanes w.heap.size (lanesTo (hm g h) k) lv wr) ∧ Hid (Rows8 wr w.heap.size 25 (gc g)) ∧ Hid (Below w.heap.size w wr)) (fun _ v _ => 8 - (intOf v).toNat)
  case atStart => exact ⟨0, by omega, rfl, Lib.hid (owns_none _ _), H0, HB0⟩
  case round =>
    obtain ⟨k, hk8, rfl, hO, hG, hBl⟩ := hrel
    by_cases hk : k < 8
    · have hki : (k : Int) < 8 := by omega
      have hcc : wr.cell? ⟨w.heap.size, 0, none⟩ = some (.int .u64 (g.c : Nat)) := (hG.out.cell 0).trans (gc_0 g)
      have HAk := fun W => HA k (by omega) W
      have hbit := hm_bit g h k hk
      have hlen := lanesTo_length (hm g h) k
      have hsz := hBl.out.size
      cases hbh : (byt g.c k == h)
      · have hne : (((byt g.c k : Nat) : Int) == ((h : Nat) : Int)) = false := by rw [natEq_walk]; exact hbh
        have HL : Hid (lanesTo (hm g h) (k + 1) = lanesTo (hm g h) k) := Lib.hid (lanesTo_no (by rw [hbit, hbh]))
        clear hbit hbh
        go_wp2_with (go_at_call 43; refine (HAk _).out.mono ?_; rintro e w2 ⟨rfl, rfl⟩)
        go_roundw
        case rel => exact ⟨k + 1, by omega, by go_num, by rw [HL.out]; exact hO, hG, hBl⟩
        case measure => simp [intOf]; omega
      · have hne : (((byt g.c k : Nat) : Int) == ((h : Nat) : Int)) = true := by rw [natEq_walk]; exact hbh
        have HL : Hid (lanesTo (hm g h) (k + 1) = lanesTo (hm g h) k ++ [⟨k, hk⟩]) := Lib.hid (lanesTo_yes hk (by rw [hbit, hbh]))
        have hO2 := (hO.out.below ((Below.refl wr.heap.size wr).alloc (Nat.le_refl _) (.cells #[.int .i64 (k : Nat)] 3)) (Nat.le_refl _)).1
        have hG2 := hG.out.alloc (.cells #[.int .i64 (k : Nat)] 3)
        have hB2 := hBl.out.alloc hBl.out.size (.cells #[.int .i64 (k : Nat)] 3)
        have HO2 := Lib.hid hO2
        clear hbit hbh hO2
        go_wp2_with (first | (go_at_call 43; refine (HAk _).out.mono ?_; rintro e w2 ⟨rfl, rfl⟩) | (at_builtin; refine wpList_append_own _ rfl _ _ 39 rfl w.heap.size 3 i0 (.int .i64 0) 1 8 Try.underlying39 hi hz0 hz1 hz2 rfl (by decide) _ _ _ rfl HO2.out ⟨wr.heap.size, 0, none⟩ 1 1 [.int .i64 (k : Nat)] rfl rfl (cells_new wr _ [.int .i64 (k : Nat)]) (by simp [Value.oneCell']) (by unfold maxLen; omega) (by omega) (by simp; omega) ?_; intro v' w3 hown' hgrow _; have HOW := Lib.hid hown'; have HGR := Lib.hid hgrow; clear hown' hgrow))
        have hrow := HOW.out
        obtain ⟨g', cap', rfl⟩ := ownsRow_succ hrow
        go_roundw
        case rel => exact ⟨k + 1, by omega, by go_num, Lib.hid (by
          rw [HL.out]
          refine ⟨?_, by simp⟩
          rw [List.length_append, laneVals_snoc]
          exact hrow), Lib.hid (rows_grown HO2.out (by decide) HGR.out hG2), Lib.hid (hB2.grown HGR.out hB2.size (fun j ej => (World.ownsRow.lt HO2.out j ej).1))⟩
        case measure => simp [intOf]; omega
    · obtain rfl : k = 8 := by omega
      go_wp2_with fail
      go_ret
      exact ⟨_, rfl, hO.out, hBl.out⟩

/-- What the reference's Find tells: the lane, or -1; how many were asked. -/
def rfL (g : Gr) (key h : Nat) : Int := match findO g key h with | none => -1 | some (a, _) => (a : Nat)
def rfN (g : Gr) (key h : Nat) : Int := match findO g key h with | none => 0 | some (_, n) => (n : Nat)
set_option maxHeartbeats 8000000 in
theorem Try.rgFind_any (g : Gr) (hc : g.c < 18446744073709551616) (key h : Nat) (w : World) : Calls Try.prog 22 #[.agg (gc g), .int .u64 (key : Nat), .int .u8 (h : Nat)] w fun e w' => e = .returned (.tuple #[.int .i64 (rfL g key h), .int .i64 (rfN g key h)]) ∧ Below w.heap.size w w' := by
  have HLk := fun W => Lib.hid (Try.rgLooks_any g hc h W)
  have h0 := Rows8.new w 25 (gc g)
  have hb : Below w.heap.size w (w.alloc (.cells (gc g) 25)) := (Below.refl w.heap.size w).alloc (Nat.le_refl _) _
  have hld := Try.load_group h0
  go_enter Try.func22, Try.ntmps22
  go_wp2_with (refine wpList_loadW (by rfl) _ _ rfl ⟨w.heap.size, 0, none⟩ _ rfl hld ?_)
  refine (HLk _).out.mono ?_
  rintro e w2 ⟨v, rfl, hO, hB2⟩
  obtain ⟨⟨a, c, rfl⟩, hI⟩ := owns_intsAt hO
  have hG := h0.below hB2 h0.lt
  have hBl := hb.trans (hB2.mono hb.size)
  obtain ⟨n, hn⟩ : ∃ n, n = (hl g h).length := ⟨_, rfl⟩
  rw [← hn] at hI ⊢
  have HN := Lib.hid hn
  have HI := Lib.hid hI
  have HG := Lib.hid hG
  have HBl := Lib.hid hBl
  have hn8 : n ≤ 8 := by rw [hn]; exact lanes_le _
  clear hO hI hG hBl hB2 h0 hb hld hn
  go_wp2_with fail
  go_loopw [14] (fun v wr => ∃ k : Nat, k ≤ n ∧ v = .int .i64 k ∧ Hid (∀ y ∈ (hl g h).take k, (g.k (y : Fin 8) == key) = false) ∧ w2 = wr) (fun v _ => n - (intOf v).toNat)
  case atStart => exact ⟨0, by omega, rfl, Lib.hid (by simp), rfl⟩
  case round =>
    obtain ⟨k, hk, rfl, hno, rfl⟩ := hrel
    by_cases hlt : k < n
    · have hkl : k < (hl g h).length := by rw [← HN.out]; exact hlt
      have hki : (k : Int) < (n : Int) := by omega
      obtain ⟨b, off, ea, hbw, hcs⟩ : ∃ b off, a = some ⟨b, off, none⟩ ∧ b < w2.heap.size ∧ w2.cell? ⟨b, off + k, none⟩ = some (.int .i64 (((hl g h)[k] : Nat) : Int)) := by
        rcases HI.out with ⟨e, hz⟩ | ⟨b, off, cap', e, hb, hcs⟩
        · have : (hl g h).length = 0 := by simpa [lanesInt] using hz
          omega
        · injection e with e1 e2 e3
          refine ⟨b, off, e1, hb, ?_⟩
          have h1 := hcs k (by simpa [lanesInt] using hkl)
          rw [lanesInt_get (hl g h) k hkl] at h1
          exact h1
      subst ea
      have hdr : Hid (hl g h = (hl g h).take k ++ (hl g h)[k] :: (hl g h).drop (k + 1)) := Lib.hid (by rw [← List.drop_eq_getElem_cons hkl, List.take_append_drop])
      have htk : Hid ((hl g h).take (k + 1) = (hl g h).take k ++ [(hl g h)[k]]) := Lib.hid (take_next _ k hkl)
      have htl : Hid (((hl g h).take k).length = k) := Lib.hid (by rw [List.length_take]; omega)
      generalize (hl g h)[k] = y at *
      have hyl : ¬ (8 : Int) ≤ ((y : Nat) : Int) := by have := y.isLt; omega
      have hck : w2.cell? ⟨w.heap.size, 1 + (y : Nat), none⟩ = some (.int .u64 (g.k y : Nat)) := (HG.out.cell _).trans (gc_k g y y.isLt)
      cases hkk : (g.k y == key)
      · have hne : (((g.k y : Nat) : Int) == ((key : Nat) : Int)) = false := by rw [natEq_walk]; exact hkk
        have HKK := Lib.hid hkk
        clear hkk
        go_wp2_with fail
        go_roundw
        case rel => exact ⟨k + 1, by omega, by go_num, Lib.hid (by
          rw [htk.out]
          intro z hz
          rcases List.mem_append.1 hz with h1 | h1
          · exact hno.out z h1
          · rw [List.mem_singleton.1 h1]; exact HKK.out), trivial⟩
        case measure => simp [intOf]; omega
      · have hne : (((g.k y : Nat) : Int) == ((key : Nat) : Int)) = true := by rw [natEq_walk]; exact hkk
        have hF : findO g key h = some ((y : Nat), k + 1) := by
          unfold findO
          rw [hdr.out, firstL_some _ y _ 0 hno.out hkk, htl.out, Nat.zero_add]
        have HL : Hid (rfL g key h = (y : Nat)) := Lib.hid (by unfold rfL; rw [hF])
        have HNn : Hid (rfN g key h = ((k + 1 : Nat) : Int)) := Lib.hid (by unfold rfN; rw [hF])
        clear hF hkk
        go_wp2_with fail
        go_ret2
        exact ⟨by rw [HL.out, HNn.out]; rfl, HBl.out⟩
    · obtain rfl : k = n := by omega
      have hF : findO g key h = none := by
        unfold findO
        exact firstL_none _ 0 (by
          have := hno.out
          rw [List.take_of_length_le (by rw [← HN.out]; exact Nat.le_refl _)] at this
          exact this)
      have HL : Hid (rfL g key h = -1) := Lib.hid (by unfold rfL; rw [hF])
      have HNn : Hid (rfN g key h = 0) := Lib.hid (by unfold rfN; rw [hF])
      clear hF
      go_wp2_with fail
      go_ret2
      exact ⟨by rw [HL.out, HNn.out]; rfl, HBl.out⟩
end Go.Proofs

/- Group: the reference's Free, New. -/
namespace Go.Proofs
set_option maxRecDepth 100000
open Go.RowKit Go.Shelf
attribute [local go_sem] Oper.semAt_some

theorem kd1 (b : Nat) : (kd b == 1) = (b == 128) := by
  unfold kd
  by_cases h : b ≤ 127
  · rw [if_pos h]; have : ¬ b = 128 := by omega
    simp [this]
  · rw [if_neg h]
    by_cases h2 : b = 128
    · simp [h2]
    · rw [if_neg h2]; split <;> simp [h2]
theorem kd2 (b : Nat) : (kd b == 2) = (b == 254) := by
  unfold kd
  by_cases h : b ≤ 127
  · rw [if_pos h]; have : ¬ b = 254 := by omega
    simp [this]
  · rw [if_neg h]
    by_cases h2 : b = 128
    · rw [if_pos h2]; simp [h2]
    · rw [if_neg h2]
      by_cases h3 : b = 254
      · simp [h3]
      · rw [if_neg h3]; simp [h3]
theorem setK_bitN (c t k : Nat) (hk : k < 8) : (setK c t).testBit k = (kd (byt c k) == t) := testBit_maskB (fun n => kd (byt c n) == t) ⟨k, hk⟩
theorem count_lanes (m : Nat) (b : Bool) (k : Nat) (hk : k < 8) (h : m.testBit k = b) : (lanesTo m (k + 1)).length = (lanesTo m k).length + if b then 1 else 0 := by
  cases b
  · rw [lanesTo_no h]; simp
  · rw [lanesTo_yes hk h, List.length_append]; simp
set_option maxHeartbeats 8000000 in
theorem Try.rgFree_any (g : Gr) (hc : g.c < 18446744073709551616) (w : World) : Calls Try.prog 15 #[.agg (gc g)] w fun e w' => e = .returned (.tuple #[.int .i64 ((lanesTo (setK g.c 1) 8).length : Nat), .int .i64 ((lanesTo (setK g.c 2) 8).length : Nat)]) ∧ Below w.heap.size w w' := by
  have HA := fun n hn W => Lib.hid (Try.At_any g.c n hc hn W)
  have h0 := Rows8.new w 25 (gc g)
  have hb : Below w.heap.size w (w.alloc (.cells (gc g) 25)) := (Below.refl w.heap.size w).alloc (Nat.le_refl _) _
  go_enter Try.func15, Try.ntmps15
  go_wp2_with fail
  generalize (w.alloc (.cells (gc g) 25)) = W0 at *
  have hcc : W0.cell? ⟨w.heap.size, 0, none⟩ = some (.int .u64 (g.c : Nat)) := (h0.cell 0).trans (gc_0 g)
  have HB0 := Lib.hid hb
  clear h0 hb
  go_loopw [4, 5, 7] (fun ev dv v wr => ∃ k : Nat, k ≤ 8 ∧ v = .int .i64 k ∧ ev = .int .i64 ((lanesTo (setK g.c 1) k).length : Nat) ∧ dv = .int .i64 ((lanesTo (setK g.c 2) k).length : Nat) ∧ W0 = wr) (fun _ _ v _ => 8 - (intOf v).toNat)
  case atStart => exact ⟨0, by omega, rfl, rfl, rfl, rfl⟩
  case round =>
    obtain ⟨k, hk8, rfl, rfl, rfl, rfl⟩ := hrel
    by_cases hk : k < 8
    · have hki : (k : Int) < 8 := by omega
      have HAk := fun W => HA k (by omega) W
      have hl1 := lanesTo_length (setK g.c 1) k
      have hl2 := lanesTo_length (setK g.c 2) k
      have hn1 := count_lanes (setK g.c 1) (byt g.c k == 128) k hk (by rw [setK_bitN _ _ _ hk, kd1])
      have hn2 := count_lanes (setK g.c 2) (byt g.c k == 254) k hk (by rw [setK_bitN _ _ _ hk, kd2])
      have HN1 := Lib.hid hn1
      have HN2 := Lib.hid hn2
      clear hn1 hn2
      generalize (lanesTo (setK g.c 1) k).length = n1 at *
      generalize (lanesTo (setK g.c 2) k).length = n2 at *
      generalize byt g.c k = b at *
      cases hb1 : (b == 128)
      · have e1 : (((b : Nat) : Int) == 128) = false := by rw [show ((128 : Int)) = ((128 : Nat) : Int) from rfl, natEq_walk]; exact hb1
        rw [hb1] at HN1
        clear hb1
        cases hb2 : (b == 254)
        · have e2 : (((b : Nat) : Int) == 254) = false := by rw [show ((254 : Int)) = ((254 : Nat) : Int) from rfl, natEq_walk]; exact hb2
          rw [hb2] at HN2
          clear hb2
          go_wp2_with (go_at_call 43; refine (HAk _).out.mono ?_; rintro e w2 ⟨rfl, rfl⟩)
          go_roundw
          case rel => exact ⟨k + 1, by omega, by go_num, by rw [HN1.out]; rfl, by rw [HN2.out]; rfl, trivial⟩
          case measure => simp [intOf] <;> omega
        · have e2 : (((b : Nat) : Int) == 254) = true := by rw [show ((254 : Int)) = ((254 : Nat) : Int) from rfl, natEq_walk]; exact hb2
          rw [hb2] at HN2
          clear hb2
          go_wp2_with (go_at_call 43; refine (HAk _).out.mono ?_; rintro e w2 ⟨rfl, rfl⟩)
          go_roundw
          case rel => exact ⟨k + 1, by omega, by go_num, by rw [HN1.out]; rfl, by rw [HN2.out]; go_num, trivial⟩
          case measure => simp [intOf] <;> omega
      · have e1 : (((b : Nat) : Int) == 128) = true := by rw [show ((128 : Int)) = ((128 : Nat) : Int) from rfl, natEq_walk]; exact hb1
        rw [hb1] at HN1
        have hb2 : (b == 254) = false := by
          have : b = 128 := by simpa using hb1
          subst this
          rfl
        rw [hb2] at HN2
        clear hb1 hb2
        go_wp2_with (go_at_call 43; refine (HAk _).out.mono ?_; rintro e w2 ⟨rfl, rfl⟩)
        go_roundw
        case rel => exact ⟨k + 1, by omega, by go_num, by rw [HN1.out]; go_num, by rw [HN2.out]; rfl, trivial⟩
        case measure => simp [intOf] <;> omega
    · obtain rfl : k = 8 := by omega
      go_wp2_with fail
      go_ret2
      exact ⟨rfl, HB0.out⟩
def newC : Nat → Nat
  | 0 => 0
  | k + 1 => setB (newC k) k 128
theorem newC_lt : ∀ k, k ≤ 8 → newC k < 18446744073709551616
  | 0, _ => by decide
  | k + 1, h => setB_lt (newC_lt k (by omega)) (by omega) (by decide)
theorem newC_8 : newC 8 = ofB fun _ => 128 := by decide +kernel
theorem gcx_setC (g : Gr) (x : Nat) : (gc g).setIfInBounds 0 (.int .u64 (x : Nat)) = gc ⟨x, g.k, g.v⟩ := rfl
theorem gcx_ctrl {W : World} {B : Nat} {t : TypeId} {g : Gr} (h : Rows8 W B t (gc g)) (x : Nat) : Rows8 (W.setCell ⟨B, 0, none⟩ (.int .u64 (x : Nat))) B t (gc ⟨x, g.k, g.v⟩) := by
  have h2 := h.set 0 (.int .u64 (x : Nat))
  rwa [gcx_setC] at h2
set_option maxHeartbeats 8000000 in
theorem Try.rgNew_any (w : World) : Calls Try.prog 11 #[] w fun e w' => e = .returned (.agg (gc ⟨ofB fun _ => 128, fun _ => 0, fun _ => 0⟩)) ∧ Below w.heap.size w w' := by
  have hz : Rows8 ((w.alloc (.cells #[.int .u64 0, .int .u64 0, .int .u64 0, .int .u64 0, .int .u64 0, .int .u64 0, .int .u64 0, .int .u64 0, .int .u64 0, .int .u64 0, .int .u64 0, .int .u64 0, .int .u64 0, .int .u64 0, .int .u64 0, .int .u64 0, .int .u64 0] 25)).alloc (.cells #[.int .u64 0, .int .u64 0, .int .u64 0, .int .u64 0, .int .u64 0, .int .u64 0, .int .u64 0, .int .u64 0, .int .u64 0, .int .u64 0, .int .u64 0, .int .u64 0, .int .u64 0, .int .u64 0, .int .u64 0, .int .u64 0, .int .u64 0] 25)) w.heap.size 25 (gc zG) := (Rows8.new w _ _).alloc _
  have hx : Rows8 ((w.alloc (.cells #[.int .u64 0, .int .u64 0, .int .u64 0, .int .u64 0, .int .u64 0, .int .u64 0, .int .u64 0, .int .u64 0, .int .u64 0, .int .u64 0, .int .u64 0, .int .u64 0, .int .u64 0, .int .u64 0, .int .u64 0, .int .u64 0, .int .u64 0] 25)).alloc (.cells #[.int .u64 0, .int .u64 0, .int .u64 0, .int .u64 0, .int .u64 0, .int .u64 0, .int .u64 0, .int .u64 0, .int .u64 0, .int .u64 0, .int .u64 0, .int .u64 0, .int .u64 0, .int .u64 0, .int .u64 0, .int .u64 0, .int .u64 0] 25)) (w.heap.size + 1) 25 (gc zG) := by
    have h := Rows8.new (w.alloc (.cells #[.int .u64 0, .int .u64 0, .int .u64 0, .int .u64 0, .int .u64 0, .int .u64 0, .int .u64 0, .int .u64 0, .int .u64 0, .int .u64 0, .int .u64 0, .int .u64 0, .int .u64 0, .int .u64 0, .int .u64 0, .int .u64 0, .int .u64 0] 25)) 25 (gc zG)
    rw [World.size_alloc] at h
    exact h
  have hb : Below w.heap.size w ((w.alloc (.cells #[.int .u64 0, .int .u64 0, .int .u64 0, .int .u64 0, .int .u64 0, .int .u64 0, .int .u64 0, .int .u64 0, .int .u64 0, .int .u64 0, .int .u64 0, .int .u64 0, .int .u64 0, .int .u64 0, .int .u64 0, .int .u64 0, .int .u64 0] 25)).alloc (.cells #[.int .u64 0, .int .u64 0, .int .u64 0, .int .u64 0, .int .u64 0, .int .u64 0, .int .u64 0, .int .u64 0, .int .u64 0, .int .u64 0, .int .u64 0, .int .u64 0, .int .u64 0, .int .u64 0, .int .u64 0, .int .u64 0, .int .u64 0] 25)) := ((Below.refl _ w).alloc (Nat.le_refl _) _).alloc (by simp) _
  have HPut := fun k (hk : k < 8) W => Lib.hid (Try.refPut_any (newC k) 128 k (newC_lt k (by omega)) (by decide) hk W)
  go_enter Try.func11, Try.ntmps11
  go_wp2_with fail
  generalize ((w.alloc (.cells #[.int .u64 0, .int .u64 0, .int .u64 0, .int .u64 0, .int .u64 0, .int .u64 0, .int .u64 0, .int .u64 0, .int .u64 0, .int .u64 0, .int .u64 0, .int .u64 0, .int .u64 0, .int .u64 0, .int .u64 0, .int .u64 0, .int .u64 0] 25)).alloc (.cells #[.int .u64 0, .int .u64 0, .int .u64 0, .int .u64 0, .int .u64 0, .int .u64 0, .int .u64 0, .int .u64 0, .int .u64 0, .int .u64 0, .int .u64 0, .int .u64 0, .int .u64 0, .int .u64 0, .int .u64 0, .int .u64 0, .int .u64 0] 25)) = W0 at *
  have HZ := Lib.hid hz
  have HX := Lib.hid hx
  have HB := Lib.hid hb
  clear hz hx hb
  go_loopw [3] (fun v wr => ∃ k : Nat, k ≤ 8 ∧ v = .int .i64 k ∧ Hid (Rows8 wr (w.heap.size + 1) 25 (gc ⟨newC k, fun _ => 0, fun _ => 0⟩)) ∧ Hid (Rows8 wr w.heap.size 25 (gc zG)) ∧ Hid (Below w.heap.size w wr)) (fun v _ => 8 - (intOf v).toNat)
  case atStart => exact ⟨0, by omega, rfl, HX, HZ, HB⟩
  case round =>
    obtain ⟨k, hk8, rfl, hX, hZ, hB⟩ := hrel
    by_cases hk : k < 8
    · have hki : (k : Int) < 8 := by omega
      have cC : wr.cell? ⟨w.heap.size + 1, 0, none⟩ = some (.int .u64 (newC k : Nat)) := (hX.out.cell 0).trans (gc_0 _)
      have HP := fun W => HPut k hk W
      have hnc : newC (k + 1) = setB (newC k) k 128 := rfl
      have HNC := Lib.hid hnc
      clear hnc
      go_wp2_with fail
      go_at_call 38
      refine (HP _).out.mono ?_
      rintro e w4 ⟨rfl, hB4⟩
      have hX4 := hX.out.below hB4 hX.out.lt
      have cC4 : w4.cell? ⟨w.heap.size + 1, 0, none⟩ = some (.int .u64 (newC k : Nat)) := (hX4.cell 0).trans (gc_0 _)
      have fC4 := hX4.frozen 0
      have HX5 := Lib.hid (gcx_ctrl hX4 (setB (newC k) k 128))
      have HZ5 := Lib.hid ((hZ.out.below hB4 hZ.out.lt).setOther (a := ⟨w.heap.size + 1, 0, none⟩) (by simp) (.int .u64 (setB (newC k) k 128 : Nat)))
      have HB5 := Lib.hid ((hB.out.trans (hB4.mono hB.out.size)).setCell (p := ⟨w.heap.size + 1, 0, none⟩) (by simp) (.int .u64 (setB (newC k) k 128 : Nat)))
      clear hB4 hX4 cC
      go_wp2_with fail
      go_roundw
      case rel => exact ⟨k + 1, by omega, by go_num, by rw [HNC.out]; exact HX5, HZ5, HB5⟩
      case measure => simp [intOf] <;> omega
    · obtain rfl : k = 8 := by omega
      have hx8 := hX.out
      rw [newC_8] at hx8
      generalize hxx : (ofB fun _ => 128) = x at *
      have hld := Try.load_group hx8
      have hst := Try.store_group ⟨x, fun _ => 0, fun _ => 0⟩ hZ.out rfl
      have HR := Lib.hid (setRow_heap _ w.heap.size (gc zG) (gc ⟨x, fun _ => 0, fun _ => 0⟩) _ _ hZ.out)
      have HBe := Lib.hid (below_setRow hB.out (Nat.le_refl _) (gc ⟨x, fun _ => 0, fun _ => 0⟩))
      have HXX := Lib.hid hxx
      clear hx8 hxx
      go_wp2_with (first | (refine wpList_loadW (by rfl) _ _ rfl ⟨w.heap.size + 1, 0, none⟩ _ rfl hld ?_) | (refine wpList_storeW (by rfl) 25 _ _ rfl ⟨w.heap.size, 0, none⟩ _ rfl rfl hst ?_))
      refine bodyPost_ret (results_cell1 rfl _ _ w.heap.size _ rfl (run_loadVar_row (P := Try.prog) _ w.heap.size 25 25 _ (0, 0) _ HR.out Try.underlying25 rfl (by kernel_rfl))) rfl ?_
      exact ⟨by rw [HXX.out], HBe.out⟩
end Go.Proofs

/- Group: slices.Equal of slots. -/
namespace Go.Proofs
set_option maxRecDepth 100000
open Go.RowKit Go.Shelf
attribute [local go_sem] Oper.semAt_some

theorem take_eqS {xs ys : List Sl} {k : Nat} (h : xs.take k = ys.take k) (hx : k < xs.length) (hy : k < ys.length) (he : xs[k] = ys[k]) : xs.take (k + 1) = ys.take (k + 1) := by
  rw [List.take_succ_eq_append_getElem hx, List.take_succ_eq_append_getElem hy, h, he]
set_option maxHeartbeats 8000000 in
theorem Try.equalSlots_any (a1 a2 : Option Addr) (n1 n2 c1 c2 : Nat) (xs ys : List Sl) (hx : n1 = xs.length) (hy : n2 = ys.length) (hl : n1 ≤ 10000) (hl2 : n2 ≤ 10000) (w : World) (h1 : RowAt w (.slice a1 n1 c1) n1 3 (slotVals xs)) (h2 : RowAt w (.slice a2 n2 c2) n2 3 (slotVals ys)) :
    Calls Try.prog 17 #[.slice a1 n1 c1, .slice a2 n2 c2] w fun e w' => e = .returned (.bool (decide (xs = ys))) ∧ Below w.heap.size w w' := by
  have H1 := Lib.hid h1
  have H2 := Lib.hid h2
  have HX := Lib.hid hx
  have HY := Lib.hid hy
  clear h1 h2 hx hy
  by_cases hn : n1 = n2
  · subst hn
    have hd : ((n1 : Int) != (n1 : Int)) = false := by simp
    go_enter Try.func17, Try.ntmps17
    go_wp2_with fail
    go_loopw [5, 13] (fun _ j wr => ∃ k : Nat, k ≤ n1 ∧ j = .int .i64 k ∧ Hid (xs.take k = ys.take k) ∧ Hid (Below w.heap.size w wr)) (fun _ j _ => n1 - (intOf j).toNat)
    case atStart => exact ⟨0, Nat.zero_le _, rfl, Lib.hid rfl, Lib.hid (Below.refl _ _)⟩
    case round =>
      obtain ⟨k, hk, rfl, HT, HB⟩ := hrel
      by_cases hlt : k < n1
      · have hkx : k < xs.length := by rw [← HX.out]; exact hlt
        have hky : k < ys.length := by rw [← HY.out]; exact hlt
        obtain ⟨b1, o1, rfl, hb1, p0, p1, p2⟩ := slotsAt_get H1.out k hkx
        obtain ⟨b2, o2, rfl, hb2, q0, q1, q2⟩ := slotsAt_get H2.out k hky
        have p0 := (HB.out.cell (p := ⟨b1, o1 + k * 3, none⟩) hb1).trans p0
        have p1 := (HB.out.cell (p := ⟨b1, o1 + k * 3 + 1, none⟩) hb1).trans p1
        have p2 := (HB.out.cell (p := ⟨b1, o1 + k * 3 + 2, none⟩) hb1).trans p2
        have q0 := (HB.out.cell (p := ⟨b2, o2 + k * 3, none⟩) hb2).trans q0
        have q1 := (HB.out.cell (p := ⟨b2, o2 + k * 3 + 1, none⟩) hb2).trans q1
        have q2 := (HB.out.cell (p := ⟨b2, o2 + k * 3 + 2, none⟩) hb2).trans q2
        have hki : (k : Int) < (n1 : Int) := by omega
        have hne0 : xs[k] ≠ ys[k] → decide (xs = ys) = false := fun he => decide_eq_false (fun h => he (by simp only [h]))
        have HNX := Lib.hid (fun he => take_eqS HT.out hkx hky he)
        have HN0 := Lib.hid hne0
        clear hne0
        generalize xs[k] = x at *
        generalize ys[k] = y at *
        by_cases he : x = y
        · have HQ : Hid (decide (x = y) = true) := Lib.hid (decide_eq_true he)
          have HNX2 := Lib.hid (HNX.out he)
          clear HNX HN0 he
          go_wp2_with fail
          refine wp_region_X (fun W' => W'.cell? ⟨b1, o1 + k * 3, none⟩ = some (.int .u64 (x.key : Nat)) ∧ W'.cell? ⟨b1, o1 + k * 3 + 1, none⟩ = some (.int .u64 (x.val : Nat)) ∧ W'.cell? ⟨b1, o1 + k * 3 + 2, none⟩ = some (.int .u8 (x.h2 : Nat)) ∧ W'.cell? ⟨b2, o2 + k * 3, none⟩ = some (.int .u64 (y.key : Nat)) ∧ W'.cell? ⟨b2, o2 + k * 3 + 1, none⟩ = some (.int .u64 (y.val : Nat)) ∧ W'.cell? ⟨b2, o2 + k * 3 + 2, none⟩ = some (.int .u8 (y.h2 : Nat))) 9 (by kernel_rfl) ?_
          have hS0 : wr.drew.cell? ⟨b1, o1 + k * 3, none⟩ = some (.int .u64 (x.key : Nat)) ∧ wr.drew.cell? ⟨b1, o1 + k * 3 + 1, none⟩ = some (.int .u64 (x.val : Nat)) ∧ wr.drew.cell? ⟨b1, o1 + k * 3 + 2, none⟩ = some (.int .u8 (x.h2 : Nat)) ∧ wr.drew.cell? ⟨b2, o2 + k * 3, none⟩ = some (.int .u64 (y.key : Nat)) ∧ wr.drew.cell? ⟨b2, o2 + k * 3 + 1, none⟩ = some (.int .u64 (y.val : Nat)) ∧ wr.drew.cell? ⟨b2, o2 + k * 3 + 2, none⟩ = some (.int .u8 (y.h2 : Nat)) := ⟨p0, p1, p2, q0, q1, q2⟩
          have hB0 : Below wr.heap.size wr wr.drew := (Below.refl _ _).drew
          generalize wr.drew = Wd at *
          clear p0 p1 p2 q0 q1 q2
          refine wpAnyN_take (i := 0) (oi := { dst := some 16, op := Go.Op.move (Go.Operand.tmp 0), type := 26, pos := "slices.go:25", after := #[], guard := none }) (v := .slice (some ⟨b1, o1, none⟩) n1 c1) rfl (by decide) (by kernel_rfl) (by kernel_rfl) (by kernel_rfl) (fun _ _ _ h => h) (Or.inl ⟨by rfl, ?_⟩) hS0 ?_
          · intro W9 hS9
            obtain ⟨q0, q1, q2, q3, q4, q5⟩ := hS9
            go_simp
          try simp only [Act.put, List.setIfInBounds_toArray, List.set_cons_zero, List.set_cons_succ]
          refine wpAnyN_take (i := 1) (oi := { dst := some 17, op := Go.Op.move (Go.Operand.tmp 5), type := 3, pos := "slices.go:25", after := #[], guard := none }) (v := .int .i64 (k : Nat)) rfl (by decide) (by kernel_rfl) (by kernel_rfl) (by kernel_rfl) (fun _ _ _ h => h) (Or.inl ⟨by rfl, ?_⟩) hS0 ?_
          · intro W9 hS9
            obtain ⟨q0, q1, q2, q3, q4, q5⟩ := hS9
            go_simp
          try simp only [Act.put, List.setIfInBounds_toArray, List.set_cons_zero, List.set_cons_succ]
          refine wpAnyN_take (i := 2) (oi := { dst := some 18, op := Go.Op.indexAddr 26 (Go.Operand.tmp 16) (Go.Operand.tmp 17), type := 0, pos := "slices.go:25", after := #[{ on := 0, ground := Go.Ground.data }, { on := 1, ground := Go.Ground.data }], guard := none }) (v := .pointer (some ⟨b1, o1 + k * 3, none⟩)) rfl (by decide) (by kernel_rfl) (by kernel_rfl) (by kernel_rfl) (fun _ _ _ h => h) (Or.inl ⟨by rfl, ?_⟩) hS0 ?_
          · intro W9 hS9
            obtain ⟨q0, q1, q2, q3, q4, q5⟩ := hS9
            go_simp
          try simp only [Act.put, List.setIfInBounds_toArray, List.set_cons_zero, List.set_cons_succ]
          refine wpAnyN_take (i := 3) (oi := { dst := some 19, op := Go.Op.load 38 (Go.Operand.tmp 18), type := 38, pos := "slices.go:25", after := #[{ on := 2, ground := Go.Ground.data }], guard := none }) (v := .agg (sc x)) rfl (by decide) (by kernel_rfl) (by kernel_rfl) (by kernel_rfl) (fun _ _ _ h => h) (Or.inl ⟨by rfl, ?_⟩) hS0 ?_
          · intro W9 hS9
            obtain ⟨q0, q1, q2, q3, q4, q5⟩ := hS9
            unfold sc
            go_simp
          try simp only [Act.put, List.setIfInBounds_toArray, List.set_cons_zero, List.set_cons_succ]
          refine wpAnyN_take (i := 4) (oi := { dst := some 20, op := Go.Op.move (Go.Operand.tmp 1), type := 26, pos := "slices.go:25", after := #[], guard := none }) (v := .slice (some ⟨b2, o2, none⟩) n1 c2) rfl (by decide) (by kernel_rfl) (by kernel_rfl) (by kernel_rfl) (fun _ _ _ h => h) (Or.inl ⟨by rfl, ?_⟩) hS0 ?_
          · intro W9 hS9
            obtain ⟨q0, q1, q2, q3, q4, q5⟩ := hS9
            go_simp
          try simp only [Act.put, List.setIfInBounds_toArray, List.set_cons_zero, List.set_cons_succ]
          refine wpAnyN_take (i := 5) (oi := { dst := some 21, op := Go.Op.move (Go.Operand.tmp 5), type := 3, pos := "slices.go:25", after := #[], guard := none }) (v := .int .i64 (k : Nat)) rfl (by decide) (by kernel_rfl) (by kernel_rfl) (by kernel_rfl) (fun _ _ _ h => h) (Or.inl ⟨by rfl, ?_⟩) hS0 ?_
          · intro W9 hS9
            obtain ⟨q0, q1, q2, q3, q4, q5⟩ := hS9
            go_simp
          try simp only [Act.put, List.setIfInBounds_toArray, List.set_cons_zero, List.set_cons_succ]
          refine wpAnyN_take (i := 6) (oi := { dst := some 22, op := Go.Op.indexAddr 26 (Go.Operand.tmp 20) (Go.Operand.tmp 21), type := 0, pos := "slices.go:25", after := #[{ on := 4, ground := Go.Ground.data }, { on := 5, ground := Go.Ground.data }], guard := none }) (v := .pointer (some ⟨b2, o2 + k * 3, none⟩)) rfl (by decide) (by kernel_rfl) (by kernel_rfl) (by kernel_rfl) (fun _ _ _ h => h) (Or.inl ⟨by rfl, ?_⟩) hS0 ?_
          · intro W9 hS9
            obtain ⟨q0, q1, q2, q3, q4, q5⟩ := hS9
            go_simp
          try simp only [Act.put, List.setIfInBounds_toArray, List.set_cons_zero, List.set_cons_succ]
          refine wpAnyN_take (i := 7) (oi := { dst := some 23, op := Go.Op.load 38 (Go.Operand.tmp 22), type := 38, pos := "slices.go:25", after := #[{ on := 6, ground := Go.Ground.data }], guard := none }) (v := .agg (sc y)) rfl (by decide) (by kernel_rfl) (by kernel_rfl) (by kernel_rfl) (fun _ _ _ h => h) (Or.inl ⟨by rfl, ?_⟩) hS0 ?_
          · intro W9 hS9
            obtain ⟨q0, q1, q2, q3, q4, q5⟩ := hS9
            unfold sc
            go_simp
          try simp only [Act.put, List.setIfInBounds_toArray, List.set_cons_zero, List.set_cons_succ]
          refine wpAnyN_take (i := 8) (oi := { dst := some 24, op := Go.Op.binOp Go.BinOp.neq 38 (Go.Operand.tmp 19) (Go.Operand.tmp 23) 38, type := 4, pos := "slices.go:25", after := #[{ on := 3, ground := Go.Ground.data }, { on := 7, ground := Go.Ground.data }], guard := none }) (v := .bool false) rfl (by decide) (by kernel_rfl) (by kernel_rfl) (by kernel_rfl) (fun _ _ _ h => h) (Or.inl ⟨by rfl, ?_⟩) hS0 ?_
          · intro W9 hS9
            obtain ⟨q0, q1, q2, q3, q4, q5⟩ := hS9
            refine (exec_neq (P := Try.prog) 38 (.tmp 19) (.tmp 23) rfl (sc x) (sc y) (by simp [go_sem]) (by simp [go_sem]) (by kernel_rfl) (decide (x = y)) (Try.eqSlot x y W9)).trans ?_
            rw [HQ.out]
            rfl
          try simp only [Act.put, List.setIfInBounds_toArray, List.set_cons_zero, List.set_cons_succ]
          refine wpAnyX_end (by kernel_rfl) ?_
          have HB1 := Lib.hid (HB.out.trans (hB0.mono HB.out.size))
          clear hB0
          go_wp2_with fail
          go_roundw
          case rel => exact ⟨k + 1, by omega, by go_num, HNX2, HB1⟩
          case measure => simp [intOf] <;> omega
        · have HQ : Hid (decide (x = y) = false) := Lib.hid (decide_eq_false he)
          have HN := Lib.hid (HN0.out he)
          clear HNX HN0 he
          go_wp2_with fail
          refine wp_region_X (fun W' => W'.cell? ⟨b1, o1 + k * 3, none⟩ = some (.int .u64 (x.key : Nat)) ∧ W'.cell? ⟨b1, o1 + k * 3 + 1, none⟩ = some (.int .u64 (x.val : Nat)) ∧ W'.cell? ⟨b1, o1 + k * 3 + 2, none⟩ = some (.int .u8 (x.h2 : Nat)) ∧ W'.cell? ⟨b2, o2 + k * 3, none⟩ = some (.int .u64 (y.key : Nat)) ∧ W'.cell? ⟨b2, o2 + k * 3 + 1, none⟩ = some (.int .u64 (y.val : Nat)) ∧ W'.cell? ⟨b2, o2 + k * 3 + 2, none⟩ = some (.int .u8 (y.h2 : Nat))) 9 (by kernel_rfl) ?_
          have hS0 : wr.drew.cell? ⟨b1, o1 + k * 3, none⟩ = some (.int .u64 (x.key : Nat)) ∧ wr.drew.cell? ⟨b1, o1 + k * 3 + 1, none⟩ = some (.int .u64 (x.val : Nat)) ∧ wr.drew.cell? ⟨b1, o1 + k * 3 + 2, none⟩ = some (.int .u8 (x.h2 : Nat)) ∧ wr.drew.cell? ⟨b2, o2 + k * 3, none⟩ = some (.int .u64 (y.key : Nat)) ∧ wr.drew.cell? ⟨b2, o2 + k * 3 + 1, none⟩ = some (.int .u64 (y.val : Nat)) ∧ wr.drew.cell? ⟨b2, o2 + k * 3 + 2, none⟩ = some (.int .u8 (y.h2 : Nat)) := ⟨p0, p1, p2, q0, q1, q2⟩
          have hB0 : Below wr.heap.size wr wr.drew := (Below.refl _ _).drew
          generalize wr.drew = Wd at *
          clear p0 p1 p2 q0 q1 q2
          refine wpAnyN_take (i := 0) (oi := { dst := some 16, op := Go.Op.move (Go.Operand.tmp 0), type := 26, pos := "slices.go:25", after := #[], guard := none }) (v := .slice (some ⟨b1, o1, none⟩) n1 c1) rfl (by decide) (by kernel_rfl) (by kernel_rfl) (by kernel_rfl) (fun _ _ _ h => h) (Or.inl ⟨by rfl, ?_⟩) hS0 ?_
          · intro W9 hS9
            obtain ⟨q0, q1, q2, q3, q4, q5⟩ := hS9
            go_simp
          try simp only [Act.put, List.setIfInBounds_toArray, List.set_cons_zero, List.set_cons_succ]
          refine wpAnyN_take (i := 1) (oi := { dst := some 17, op := Go.Op.move (Go.Operand.tmp 5), type := 3, pos := "slices.go:25", after := #[], guard := none }) (v := .int .i64 (k : Nat)) rfl (by decide) (by kernel_rfl) (by kernel_rfl) (by kernel_rfl) (fun _ _ _ h => h) (Or.inl ⟨by rfl, ?_⟩) hS0 ?_
          · intro W9 hS9
            obtain ⟨q0, q1, q2, q3, q4, q5⟩ := hS9
            go_simp
          try simp only [Act.put, List.setIfInBounds_toArray, List.set_cons_zero, List.set_cons_succ]
          refine wpAnyN_take (i := 2) (oi := { dst := some 18, op := Go.Op.indexAddr 26 (Go.Operand.tmp 16) (Go.Operand.tmp 17), type := 0, pos := "slices.go:25", after := #[{ on := 0, ground := Go.Ground.data }, { on := 1, ground := Go.Ground.data }], guard := none }) (v := .pointer (some ⟨b1, o1 + k * 3, none⟩)) rfl (by decide) (by kernel_rfl) (by kernel_rfl) (by kernel_rfl) (fun _ _ _ h => h) (Or.inl ⟨by rfl, ?_⟩) hS0 ?_
          · intro W9 hS9
            obtain ⟨q0, q1, q2, q3, q4, q5⟩ := hS9
            go_simp
          try simp only [Act.put, List.setIfInBounds_toArray, List.set_cons_zero, List.set_cons_succ]
          refine wpAnyN_take (i := 3) (oi := { dst := some 19, op := Go.Op.load 38 (Go.Operand.tmp 18), type := 38, pos := "slices.go:25", after := #[{ on := 2, ground := Go.Ground.data }], guard := none }) (v := .agg (sc x)) rfl (by decide) (by kernel_rfl) (by kernel_rfl) (by kernel_rfl) (fun _ _ _ h => h) (Or.inl ⟨by rfl, ?_⟩) hS0 ?_
          · intro W9 hS9
            obtain ⟨q0, q1, q2, q3, q4, q5⟩ := hS9
            unfold sc
            go_simp
          try simp only [Act.put, List.setIfInBounds_toArray, List.set_cons_zero, List.set_cons_succ]
          refine wpAnyN_take (i := 4) (oi := { dst := some 20, op := Go.Op.move (Go.Operand.tmp 1), type := 26, pos := "slices.go:25", after := #[], guard := none }) (v := .slice (some ⟨b2, o2, none⟩) n1 c2) rfl (by decide) (by kernel_rfl) (by kernel_rfl) (by kernel_rfl) (fun _ _ _ h => h) (Or.inl ⟨by rfl, ?_⟩) hS0 ?_
          · intro W9 hS9
            obtain ⟨q0, q1, q2, q3, q4, q5⟩ := hS9
            go_simp
          try simp only [Act.put, List.setIfInBounds_toArray, List.set_cons_zero, List.set_cons_succ]
          refine wpAnyN_take (i := 5) (oi := { dst := some 21, op := Go.Op.move (Go.Operand.tmp 5), type := 3, pos := "slices.go:25", after := #[], guard := none }) (v := .int .i64 (k : Nat)) rfl (by decide) (by kernel_rfl) (by kernel_rfl) (by kernel_rfl) (fun _ _ _ h => h) (Or.inl ⟨by rfl, ?_⟩) hS0 ?_
          · intro W9 hS9
            obtain ⟨q0, q1, q2, q3, q4, q5⟩ := hS9
            go_simp
          try simp only [Act.put, List.setIfInBounds_toArray, List.set_cons_zero, List.set_cons_succ]
          refine wpAnyN_take (i := 6) (oi := { dst := some 22, op := Go.Op.indexAddr 26 (Go.Operand.tmp 20) (Go.Operand.tmp 21), type := 0, pos := "slices.go:25", after := #[{ on := 4, ground := Go.Ground.data }, { on := 5, ground := Go.Ground.data }], guard := none }) (v := .pointer (some ⟨b2, o2 + k * 3, none⟩)) rfl (by decide) (by kernel_rfl) (by kernel_rfl) (by kernel_rfl) (fun _ _ _ h => h) (Or.inl ⟨by rfl, ?_⟩) hS0 ?_
          · intro W9 hS9
            obtain ⟨q0, q1, q2, q3, q4, q5⟩ := hS9
            go_simp
          try simp only [Act.put, List.setIfInBounds_toArray, List.set_cons_zero, List.set_cons_succ]
          refine wpAnyN_take (i := 7) (oi := { dst := some 23, op := Go.Op.load 38 (Go.Operand.tmp 22), type := 38, pos := "slices.go:25", after := #[{ on := 6, ground := Go.Ground.data }], guard := none }) (v := .agg (sc y)) rfl (by decide) (by kernel_rfl) (by kernel_rfl) (by kernel_rfl) (fun _ _ _ h => h) (Or.inl ⟨by rfl, ?_⟩) hS0 ?_
          · intro W9 hS9
            obtain ⟨q0, q1, q2, q3, q4, q5⟩ := hS9
            unfold sc
            go_simp
          try simp only [Act.put, List.setIfInBounds_toArray, List.set_cons_zero, List.set_cons_succ]
          refine wpAnyN_take (i := 8) (oi := { dst := some 24, op := Go.Op.binOp Go.BinOp.neq 38 (Go.Operand.tmp 19) (Go.Operand.tmp 23) 38, type := 4, pos := "slices.go:25", after := #[{ on := 3, ground := Go.Ground.data }, { on := 7, ground := Go.Ground.data }], guard := none }) (v := .bool true) rfl (by decide) (by kernel_rfl) (by kernel_rfl) (by kernel_rfl) (fun _ _ _ h => h) (Or.inl ⟨by rfl, ?_⟩) hS0 ?_
          · intro W9 hS9
            obtain ⟨q0, q1, q2, q3, q4, q5⟩ := hS9
            refine (exec_neq (P := Try.prog) 38 (.tmp 19) (.tmp 23) rfl (sc x) (sc y) (by simp [go_sem]) (by simp [go_sem]) (by kernel_rfl) (decide (x = y)) (Try.eqSlot x y W9)).trans ?_
            rw [HQ.out]
            rfl
          try simp only [Act.put, List.setIfInBounds_toArray, List.set_cons_zero, List.set_cons_succ]
          refine wpAnyX_end (by kernel_rfl) ?_
          have HB1 := Lib.hid (HB.out.trans (hB0.mono HB.out.size))
          clear hB0
          go_wp2_with fail
          go_ret
          exact ⟨by rw [HN.out]; rfl, HB1.out⟩
      · obtain rfl : k = n1 := by omega
        have hq : decide (xs = ys) = true := by
          refine decide_eq_true ?_
          have h := HT.out
          rw [List.take_of_length_le (by rw [← HX.out]; exact Nat.le_refl _), List.take_of_length_le (by rw [← HY.out]; exact Nat.le_refl _)] at h
          exact h
        have HQ := Lib.hid hq
        clear hq
        have hki : ¬ (k : Int) < (k : Int) := by omega
        go_wp2_with fail
        go_ret
        exact ⟨by rw [HQ.out]; rfl, HB.out⟩
  · have hd : ((n1 : Int) != (n2 : Int)) = true := by simp; omega
    have hq : decide (xs = ys) = false := decide_eq_false (fun h => hn (by rw [HX.out, HY.out, h]))
    have HQ := Lib.hid hq
    clear hq
    go_enter Try.func17, Try.ntmps17
    go_wp2_with fail
    go_ret
    exact ⟨by rw [HQ.out]; rfl, Below.refl _ _⟩
end Go.Proofs

/- Group: the reference's Live. -/
namespace Go.Proofs
set_option maxRecDepth 100000
open Go.RowKit Go.Shelf
attribute [local go_sem] Oper.semAt_some

theorem slot_ne_groupV : (38 : TypeId) ≠ 25 := by decide
theorem slotVals_add (l : List Sl) (s : Sl) : slotVals (l ++ [s]) = slotVals l ++ [.int .u64 (s.key : Nat), .int .u64 (s.val : Nat), .int .u8 (s.h2 : Nat)] := by
  rw [slotVals_snoc]
  all_goals rfl
theorem fm_bit (g : Gr) (k : Nat) (hk : k < 8) : (fm g).testBit k = decide (byt g.c k < 128) := testBit_maskB (fun n => decide (byt g.c n < 128)) ⟨k, hk⟩
set_option maxHeartbeats 8000000 in
theorem Try.rgLive_any (g : Gr) (hc : g.c < 18446744073709551616) (w : World) : Calls Try.prog 14 #[.agg (gc g)] w fun e w' => ∃ v, e = .returned v ∧ OwnsSlots w.heap.size (liveG g) v w' ∧ Below w.heap.size w w' := by
  obtain ⟨i0, hi, hz0, hz1, hz2⟩ := info_parts Try.infoSlot
  have HA := fun n hn W => Lib.hid (Try.At_any g.c n hc hn W)
  have HFull := fun n hn W => Lib.hid (Try.rgFull_any g hc n hn W)
  have h0 := Rows8.new w 25 (gc g)
  have hb : Below w.heap.size w (w.alloc (.cells (gc g) 25)) := (Below.refl w.heap.size w).alloc (Nat.le_refl _) _
  go_enter Try.func14, Try.ntmps14
  go_wp2_with fail
  generalize (w.alloc (.cells (gc g) 25)) = W0 at *
  have H0 := Lib.hid h0
  have HB0 := Lib.hid hb
  clear h0 hb
  go_loopw [3, 5] (fun sv i wr => ∃ (k : Nat) (a6 : Option Addr) (c6 : Nat), k ≤ 8 ∧ i = .int .i64 k ∧ sv = (.slice a6 (lanesTo (fm g) k).length c6) ∧ Hid (OwnsSlots w.heap.size ((lanesTo (fm g) k).map fun (n : Fin 8) => slotG g n) (.slice a6 (lanesTo (fm g) k).length c6) wr) ∧ Hid (Rows8 wr w.heap.size 25 (gc g)) ∧ Hid (Below w.heap.size w wr)) (fun _ i _ => 8 - (intOf i).toNat)
  case atStart => exact ⟨0, none, 0, by omega, rfl, rfl, Lib.hid (World.ownsRow_nil _ _ _ _), H0, HB0⟩
  case round =>
    obtain ⟨k, a6, c6, hk8, rfl, rfl, hO, hG, hB⟩ := hrel
    by_cases hk : k < 8
    · have hki : (k : Int) < 8 := by omega
      have hk0 : ¬ (8 : Int) ≤ (k : Int) := by omega
      have HAk := fun W => HA k (by omega) W
      have HFk := fun W => HFull k hk W
      have hld := Try.load_group hG.out
      have hbit := fm_bit g k hk
      have hlen := lanesTo_length (fm g) k
      by_cases hf : byt g.c k < 128
      · rw [decide_eq_true hf] at HFk hbit
        have HL := Lib.hid (lanesTo_yes hk hbit)
        clear hbit hf
        go_wp2_with (first | (refine wpList_loadW (by rfl) _ _ rfl ⟨w.heap.size, 0, none⟩ _ rfl hld ?_) | (go_at_call 34; refine (HFk _).out.mono ?_; rintro e w4 ⟨rfl, hB4⟩; have HG4 := Lib.hid (hG.out.below hB4 hG.out.lt); have HO4 := Lib.hid (ownsRow_below hO.out hB4 (Nat.le_refl _)); have HB4 := Lib.hid (hB.out.trans (hB4.mono hB.out.size)); clear hB4 hld))
        refine wp_region_X (fun W' => Rows8 W' w.heap.size 25 (gc g)) 17 (by kernel_rfl) ?_
        have hS0 : Rows8 w4.drew w.heap.size 25 (gc g) := HG4.out.drew
        have hO0 : OwnsSlots w.heap.size (((lanesTo (fm g) k)).map fun (n : Fin 8) => slotG g n) (.slice a6 (lanesTo (fm g) k).length c6) w4.drew := owns_drew HO4.out
        have hB0 := HB4.out.drew
        have hz0' := hB0.size
        generalize w4.drew = Wd at *
        refine wpAnyN_take (i := 0) (oi := { dst := some 11, op := Go.Op.move (Go.Operand.tmp 3), type := 26, pos := "ref.go:104", after := #[], guard := none }) (v := (.slice a6 (lanesTo (fm g) k).length c6)) rfl (by decide) (by kernel_rfl) (by kernel_rfl) (by kernel_rfl) (fun _ _ _ h => h) (Or.inl ⟨by rfl, ?_⟩) hS0 ?_
        · intro W9 hS9
          have ck := (hS9.cell (1 + k)).trans (gc_k g k hk)
          have cv := (hS9.cell (9 + k)).trans (gc_v g k hk)
          have cc := (hS9.cell 0).trans (gc_0 g)
          clear hS9
          go_simp
        try simp only [Act.put, List.setIfInBounds_toArray, List.set_cons_zero, List.set_cons_succ]
        refine wpAnyN_take (i := 1) (oi := { dst := some 12, op := Go.Op.move (Go.Operand.tmp 4), type := 3, pos := "ref.go:104", after := #[], guard := none }) (v := .int .i64 (k : Nat)) rfl (by decide) (by kernel_rfl) (by kernel_rfl) (by kernel_rfl) (fun _ _ _ h => h) (Or.inl ⟨by rfl, ?_⟩) hS0 ?_
        · intro W9 hS9
          have ck := (hS9.cell (1 + k)).trans (gc_k g k hk)
          have cv := (hS9.cell (9 + k)).trans (gc_v g k hk)
          have cc := (hS9.cell 0).trans (gc_0 g)
          clear hS9
          go_simp
        try simp only [Act.put, List.setIfInBounds_toArray, List.set_cons_zero, List.set_cons_succ]
        refine wpAnyN_take (i := 2) (oi := { dst := some 13, op := Go.Op.fieldAddr 25 (Go.Operand.tmp 1) 1, type := 0, pos := "ref.go:104", after := #[], guard := none }) (v := .pointer (some ⟨w.heap.size, 1, none⟩)) rfl (by decide) (by kernel_rfl) (by kernel_rfl) (by kernel_rfl) (fun _ _ _ h => h) (Or.inl ⟨by rfl, ?_⟩) hS0 ?_
        · intro W9 hS9
          have ck := (hS9.cell (1 + k)).trans (gc_k g k hk)
          have cv := (hS9.cell (9 + k)).trans (gc_v g k hk)
          have cc := (hS9.cell 0).trans (gc_0 g)
          clear hS9
          go_simp
        try simp only [Act.put, List.setIfInBounds_toArray, List.set_cons_zero, List.set_cons_succ]
        refine wpAnyN_take (i := 3) (oi := { dst := some 14, op := Go.Op.indexAddr 23 (Go.Operand.tmp 13) (Go.Operand.tmp 12), type := 0, pos := "ref.go:104", after := #[{ on := 2, ground := Go.Ground.data }, { on := 1, ground := Go.Ground.data }], guard := none }) (v := .pointer (some ⟨w.heap.size, 1 + k, none⟩)) rfl (by decide) (by kernel_rfl) (by kernel_rfl) (by kernel_rfl) (fun _ _ _ h => h) (Or.inl ⟨by rfl, ?_⟩) hS0 ?_
        · intro W9 hS9
          have ck := (hS9.cell (1 + k)).trans (gc_k g k hk)
          have cv := (hS9.cell (9 + k)).trans (gc_v g k hk)
          have cc := (hS9.cell 0).trans (gc_0 g)
          clear hS9
          go_simp
        try simp only [Act.put, List.setIfInBounds_toArray, List.set_cons_zero, List.set_cons_succ]
        refine wpAnyN_take (i := 4) (oi := { dst := some 15, op := Go.Op.load 22 (Go.Operand.tmp 14), type := 22, pos := "ref.go:104", after := #[{ on := 3, ground := Go.Ground.data }], guard := none }) (v := .int .u64 (g.k k : Nat)) rfl (by decide) (by kernel_rfl) (by kernel_rfl) (by kernel_rfl) (fun _ _ _ h => h) (Or.inl ⟨by rfl, ?_⟩) hS0 ?_
        · intro W9 hS9
          have ck := (hS9.cell (1 + k)).trans (gc_k g k hk)
          have cv := (hS9.cell (9 + k)).trans (gc_v g k hk)
          have cc := (hS9.cell 0).trans (gc_0 g)
          clear hS9
          go_simp
        try simp only [Act.put, List.setIfInBounds_toArray, List.set_cons_zero, List.set_cons_succ]
        refine wpAnyN_take (i := 5) (oi := { dst := some 16, op := Go.Op.move (Go.Operand.tmp 4), type := 3, pos := "ref.go:104", after := #[], guard := none }) (v := .int .i64 (k : Nat)) rfl (by decide) (by kernel_rfl) (by kernel_rfl) (by kernel_rfl) (fun _ _ _ h => h) (Or.inl ⟨by rfl, ?_⟩) hS0 ?_
        · intro W9 hS9
          have ck := (hS9.cell (1 + k)).trans (gc_k g k hk)
          have cv := (hS9.cell (9 + k)).trans (gc_v g k hk)
          have cc := (hS9.cell 0).trans (gc_0 g)
          clear hS9
          go_simp
        try simp only [Act.put, List.setIfInBounds_toArray, List.set_cons_zero, List.set_cons_succ]
        refine wpAnyN_take (i := 6) (oi := { dst := some 17, op := Go.Op.fieldAddr 25 (Go.Operand.tmp 1) 2, type := 0, pos := "ref.go:104", after := #[], guard := none }) (v := .pointer (some ⟨w.heap.size, 9, none⟩)) rfl (by decide) (by kernel_rfl) (by kernel_rfl) (by kernel_rfl) (fun _ _ _ h => h) (Or.inl ⟨by rfl, ?_⟩) hS0 ?_
        · intro W9 hS9
          have ck := (hS9.cell (1 + k)).trans (gc_k g k hk)
          have cv := (hS9.cell (9 + k)).trans (gc_v g k hk)
          have cc := (hS9.cell 0).trans (gc_0 g)
          clear hS9
          go_simp
        try simp only [Act.put, List.setIfInBounds_toArray, List.set_cons_zero, List.set_cons_succ]
        refine wpAnyN_take (i := 7) (oi := { dst := some 18, op := Go.Op.indexAddr 23 (Go.Operand.tmp 17) (Go.Operand.tmp 16), type := 0, pos := "ref.go:104", after := #[{ on := 6, ground := Go.Ground.data }, { on := 5, ground := Go.Ground.data }], guard := none }) (v := .pointer (some ⟨w.heap.size, 9 + k, none⟩)) rfl (by decide) (by kernel_rfl) (by kernel_rfl) (by kernel_rfl) (fun _ _ _ h => h) (Or.inl ⟨by rfl, ?_⟩) hS0 ?_
        · intro W9 hS9
          have ck := (hS9.cell (1 + k)).trans (gc_k g k hk)
          have cv := (hS9.cell (9 + k)).trans (gc_v g k hk)
          have cc := (hS9.cell 0).trans (gc_0 g)
          clear hS9
          go_simp
        try simp only [Act.put, List.setIfInBounds_toArray, List.set_cons_zero, List.set_cons_succ]
        refine wpAnyN_take (i := 8) (oi := { dst := some 19, op := Go.Op.load 22 (Go.Operand.tmp 18), type := 22, pos := "ref.go:104", after := #[{ on := 7, ground := Go.Ground.data }], guard := none }) (v := .int .u64 (g.v k : Nat)) rfl (by decide) (by kernel_rfl) (by kernel_rfl) (by kernel_rfl) (fun _ _ _ h => h) (Or.inl ⟨by rfl, ?_⟩) hS0 ?_
        · intro W9 hS9
          have ck := (hS9.cell (1 + k)).trans (gc_k g k hk)
          have cv := (hS9.cell (9 + k)).trans (gc_v g k hk)
          have cc := (hS9.cell 0).trans (gc_0 g)
          clear hS9
          go_simp
        try simp only [Act.put, List.setIfInBounds_toArray, List.set_cons_zero, List.set_cons_succ]
        refine wpAnyN_take (i := 9) (oi := { dst := some 20, op := Go.Op.fieldAddr 25 (Go.Operand.tmp 1) 0, type := 0, pos := "ref.go:104", after := #[], guard := none }) (v := .pointer (some ⟨w.heap.size, 0, none⟩)) rfl (by decide) (by kernel_rfl) (by kernel_rfl) (by kernel_rfl) (fun _ _ _ h => h) (Or.inl ⟨by rfl, ?_⟩) hS0 ?_
        · intro W9 hS9
          have ck := (hS9.cell (1 + k)).trans (gc_k g k hk)
          have cv := (hS9.cell (9 + k)).trans (gc_v g k hk)
          have cc := (hS9.cell 0).trans (gc_0 g)
          clear hS9
          go_simp
        try simp only [Act.put, List.setIfInBounds_toArray, List.set_cons_zero, List.set_cons_succ]
        refine wpAnyN_take (i := 10) (oi := { dst := some 21, op := Go.Op.load 22 (Go.Operand.tmp 20), type := 22, pos := "ref.go:104", after := #[{ on := 9, ground := Go.Ground.data }], guard := none }) (v := .int .u64 (g.c : Nat)) rfl (by decide) (by kernel_rfl) (by kernel_rfl) (by kernel_rfl) (fun _ _ _ h => h) (Or.inl ⟨by rfl, ?_⟩) hS0 ?_
        · intro W9 hS9
          have ck := (hS9.cell (1 + k)).trans (gc_k g k hk)
          have cv := (hS9.cell (9 + k)).trans (gc_v g k hk)
          have cc := (hS9.cell 0).trans (gc_0 g)
          clear hS9
          go_simp
        try simp only [Act.put, List.setIfInBounds_toArray, List.set_cons_zero, List.set_cons_succ]
        refine wpAnyN_take (i := 11) (oi := { dst := some 22, op := Go.Op.move (Go.Operand.tmp 4), type := 3, pos := "ref.go:104", after := #[], guard := none }) (v := .int .i64 (k : Nat)) rfl (by decide) (by kernel_rfl) (by kernel_rfl) (by kernel_rfl) (fun _ _ _ h => h) (Or.inl ⟨by rfl, ?_⟩) hS0 ?_
        · intro W9 hS9
          have ck := (hS9.cell (1 + k)).trans (gc_k g k hk)
          have cv := (hS9.cell (9 + k)).trans (gc_v g k hk)
          have cc := (hS9.cell 0).trans (gc_0 g)
          clear hS9
          go_simp
        try simp only [Act.put, List.setIfInBounds_toArray, List.set_cons_zero, List.set_cons_succ]
        refine wpAnyX_one (i := 12) (o := { dst := some 23, op := Go.Op.call { callee := Go.Callee.value (Go.Operand.func 43), args := #[Go.Operand.tmp 21, Go.Operand.tmp 22], argTypes := #[22, 3] }, type := 5, pos := "ref.go:104", after := #[{ on := 10, ground := Go.Ground.data }, { on := 11, ground := Go.Ground.data }], guard := none }) (by kernel_rfl) rfl (fun K hK => ?_)
        refine step_call_g (by rfl) 43 _ _ rfl (fun _ _ => by kernel_rfl) #[.int .u64 (g.c : Nat), .int .i64 (k : Nat)] (by simp [go_sem]) _ (HAk Wd).out ?_
        rintro e W1 ⟨rfl, rfl⟩
        refine ⟨_, rfl, ?_⟩
        refine hK.out _ _ (fun _ => hS0) ?_
        clear hK K
        try simp only [Act.put, List.setIfInBounds_toArray, List.set_cons_zero, List.set_cons_succ]
        refine wpAnyN_take (i := 13) (oi := { dst := some 24, op := Go.Op.build 38 #[(0, Go.Operand.tmp 15), (1, Go.Operand.tmp 19), (2, Go.Operand.tmp 23)], type := 38, pos := "ref.go:104", after := #[{ on := 4, ground := Go.Ground.data }, { on := 8, ground := Go.Ground.data }, { on := 12, ground := Go.Ground.data }], guard := none }) (v := .agg #[.int .u64 (g.k k : Nat), .int .u64 (g.v k : Nat), .int .u8 (byt g.c k : Nat)]) rfl (by decide) (by kernel_rfl) (by kernel_rfl) (by kernel_rfl) (fun _ _ _ h => h) (Or.inl ⟨by rfl, ?_⟩) hS0 ?_
        · intro W9 hS9
          have ck := (hS9.cell (1 + k)).trans (gc_k g k hk)
          have cv := (hS9.cell (9 + k)).trans (gc_v g k hk)
          have cc := (hS9.cell 0).trans (gc_0 g)
          clear hS9
          go_simp
        try simp only [Act.put, List.setIfInBounds_toArray, List.set_cons_zero, List.set_cons_succ]
        refine wpAnyX_one (i := 14) (o := { dst := some 25, op := Go.Op.buildSlice 26 1 #[(0, Go.Operand.tmp 24)], type := 26, pos := "ref.go:104", after := #[{ on := 13, ground := Go.Ground.data }], guard := none }) (by kernel_rfl) rfl (fun K hK => ?_)
        refine step_value_g (by rfl) (.slice (some ⟨Wd.heap.size, 0, none⟩) 1 1) (w' := (Wd.alloc (.cells #[.int .u64 (g.k k : Nat), .int .u64 (g.v k : Nat), .int .u8 (byt g.c k : Nat)] 38))) (by go_simp) ?_
        have hal : Below Wd.heap.size Wd (Wd.alloc (.cells #[.int .u64 (g.k k : Nat), .int .u64 (g.v k : Nat), .int .u8 (byt g.c k : Nat)] 38)) := (Below.refl _ _).alloc (Nat.le_refl _) _
        have hS1 : Rows8 (Wd.alloc (.cells #[.int .u64 (g.k k : Nat), .int .u64 (g.v k : Nat), .int .u8 (byt g.c k : Nat)] 38)) w.heap.size 25 (gc g) := hS0.below hal hS0.lt
        have hO1 : OwnsSlots w.heap.size (((lanesTo (fm g) k)).map fun (n : Fin 8) => slotG g n) (.slice a6 (lanesTo (fm g) k).length c6) (Wd.alloc (.cells #[.int .u64 (g.k k : Nat), .int .u64 (g.v k : Nat), .int .u8 (byt g.c k : Nat)] 38)) := ownsRow_below hO0 hal (Nat.le_refl _)
        have hB1 := hB0.trans (hal.mono hB0.size)
        have hr1 : RowAt (Wd.alloc (.cells #[.int .u64 (g.k k : Nat), .int .u64 (g.v k : Nat), .int .u8 (byt g.c k : Nat)] 38)) (.slice (some ⟨Wd.heap.size, 0, none⟩) 1 1) 1 3 [.int .u64 (g.k k : Nat), .int .u64 (g.v k : Nat), .int .u8 (byt g.c k : Nat)] := rowAt_own (own1 (n₀ := 0) (Rows8.new Wd 38 #[.int .u64 (g.k k : Nat), .int .u64 (g.v k : Nat), .int .u8 (byt g.c k : Nat)]) (Nat.zero_le _) rfl)
        refine hK.out _ _ (fun _ => hS1) ?_
        clear hK K
        try simp only [Act.put, List.setIfInBounds_toArray, List.set_cons_zero, List.set_cons_succ]
        refine wpAnyX_one (i := 15) (o := { dst := some 26, op := Go.Op.call { callee := Go.Callee.builtin Go.Builtin.append, args := #[Go.Operand.tmp 11, Go.Operand.tmp 25], argTypes := #[26, 26] }, type := 26, pos := "ref.go:104", after := #[{ on := 0, ground := Go.Ground.data }, { on := 14, ground := Go.Ground.data }, { on := 12, ground := Go.Ground.chain }], guard := none }) (by kernel_rfl) rfl (fun K hK => ?_)
        refine step_append_row (Wd.alloc (.cells #[.int .u64 (g.k k : Nat), .int .u64 (g.v k : Nat), .int .u8 (byt g.c k : Nat)] 38)) rfl _ _ 26 rfl w.heap.size 38 i0 (.agg #[.int .u64 0, .int .u64 0, .int .u8 0]) 3 24 Try.underlying26 hi hz0 hz1 hz2 rfl (by decide) (.slice a6 (lanesTo (fm g) k).length c6) _ _ (by simp [go_sem]) hO1 (.slice (some ⟨Wd.heap.size, 0, none⟩) 1 1) 1 [.int .u64 (g.k k : Nat), .int .u64 (g.v k : Nat), .int .u8 (byt g.c k : Nat)] (by simp [go_sem]) hr1 (by simp [Value.oneCell']) (by unfold maxLen; simp; omega) (by simp; omega) (by simp; omega) ?_
        intro v9 w9 hown hgrow _
        have hS2 := rows_grown hO1 slot_ne_groupV hgrow hS1
        have hB2 := hB1.grown hgrow hB1.size (fun j ej => (World.ownsRow.lt hO1 j ej).1)
        refine hK.out _ _ (fun _ => hS2) ?_
        clear hK K
        try simp only [Act.put, List.setIfInBounds_toArray, List.set_cons_zero, List.set_cons_succ]
        refine wpAnyN_take (i := 16) (oi := { dst := some 3, op := Go.Op.assign (Go.Operand.tmp 26), type := 26, pos := "ref.go:104", after := #[{ on := 15, ground := Go.Ground.data }, { on := 15, ground := Go.Ground.chain }, { on := 0, ground := Go.Ground.phase }, { on := 1, ground := Go.Ground.phase }, { on := 2, ground := Go.Ground.phase }, { on := 3, ground := Go.Ground.phase }, { on := 4, ground := Go.Ground.phase }, { on := 5, ground := Go.Ground.phase }, { on := 6, ground := Go.Ground.phase }, { on := 7, ground := Go.Ground.phase }, { on := 8, ground := Go.Ground.phase }, { on := 9, ground := Go.Ground.phase }, { on := 10, ground := Go.Ground.phase }, { on := 11, ground := Go.Ground.phase }, { on := 12, ground := Go.Ground.phase }, { on := 13, ground := Go.Ground.phase }, { on := 14, ground := Go.Ground.phase }, { on := 15, ground := Go.Ground.phase }], guard := none }) (v := v9) rfl (by decide) (by kernel_rfl) (by kernel_rfl) (by kernel_rfl) (fun _ _ _ h => h) (Or.inl ⟨by rfl, ?_⟩) hS2 ?_
        · intro W9 hS9
          clear hS9
          go_simp
        try simp only [Act.put, List.setIfInBounds_toArray, List.set_cons_zero, List.set_cons_succ]
        refine wpAnyX_end (by kernel_rfl) ?_
        have ho9 : OwnsSlots w.heap.size ((lanesTo (fm g) (k + 1)).map fun (n : Fin 8) => slotG g n) v9 w9 := by
          rw [HL.out, List.map_append]
          unfold OwnsSlots
          rw [List.map_cons, List.map_nil, slotVals_add, List.length_append]
          exact hown
        obtain ⟨a9, c9, rfl⟩ : ∃ a c, v9 = .slice a (lanesTo (fm g) (k + 1)).length c := by
          obtain ⟨_, a, cap, h, _⟩ := rowAt_own ho9
          exact ⟨a, cap, by rw [h, List.length_map]⟩
        have HO9 := Lib.hid ho9
        have HS2 := Lib.hid hS2
        have HB2 := Lib.hid hB2
        clear ho9 hown hgrow hS0 hS1 hS2 hO0 hO1 hB0 hB1 hB2 hr1 hal
        go_wp2_with fail
        go_roundw
        case rel => exact ⟨k + 1, a9, c9, by omega, by go_num, rfl, HO9, HS2, HB2⟩
        case measure => simp [intOf] <;> omega
      · rw [decide_eq_false hf] at HFk hbit
        have HL := Lib.hid (lanesTo_no hbit)
        clear hbit hf
        go_wp2_with (first | (refine wpList_loadW (by rfl) _ _ rfl ⟨w.heap.size, 0, none⟩ _ rfl hld ?_) | (go_at_call 34; refine (HFk _).out.mono ?_; rintro e w4 ⟨rfl, hB4⟩; have HG4 := Lib.hid (hG.out.below hB4 hG.out.lt); have HO4 := Lib.hid (ownsRow_below hO.out hB4 (Nat.le_refl _)); have HB4 := Lib.hid (hB.out.trans (hB4.mono hB.out.size)); clear hB4 hld))
        go_roundw
        case rel => exact ⟨k + 1, a6, c6, by omega, by go_num, by rw [HL.out], by rw [HL.out]; exact HO4, HG4, HB4⟩
        case measure => simp [intOf] <;> omega
    · obtain rfl : k = 8 := by omega
      go_wp2_with fail
      go_ret
      exact ⟨_, rfl, hO.out, hB.out⟩
end Go.Proofs

/- Group: Same. -/
namespace Go.Proofs
set_option maxRecDepth 100000
open Go.RowKit Go.Shelf
attribute [local go_sem] Oper.semAt_some

theorem exec_build {P : Program} {ev : Operand → Value} {o : Oper} {w : World} (t : TypeId) (ps : Array (Nat × Operand)) (ho : o.op = .build t ps) (vs : Array (Nat × Value)) (hv : (ps.map fun (i, x) => (i, ev x)) = vs) (v : Value)
    (hb : (Instr.build t vs).run P w = .ok v w) : (execOp ev o).run P w = .ok (.value v) w := by
  simp only [execOp, ho, hv, Sem.run_bind, Sem.run_pure, Result.andThen_ok, hb]
def sameV (g h : Gr) : Bool := (g.c == h.c) && sameB g h (fl g)
set_option maxHeartbeats 8000000 in
theorem Try.gSame_any (g h : Gr) (w : World) : Calls Try.prog 12 #[.agg (gc g), .agg (gc h)] w fun e w' => e = .returned (.bool (sameV g h)) ∧ Below w.heap.size w w' := by
  have HF := fun W => Lib.hid (Try.vfull_any g W)
  have hg : Rows8 ((w.alloc (.cells (gc g) 25)).alloc (.cells (gc h) 25)) w.heap.size 25 (gc g) := (Rows8.new w _ _).alloc _
  have hh : Rows8 ((w.alloc (.cells (gc g) 25)).alloc (.cells (gc h) 25)) (w.heap.size + 1) 25 (gc h) := by
    have h1 := Rows8.new (w.alloc (.cells (gc g) 25)) 25 (gc h)
    rw [World.size_alloc] at h1
    exact h1
  have hb : Below w.heap.size w ((w.alloc (.cells (gc g) 25)).alloc (.cells (gc h) 25)) := ((Below.refl _ w).alloc (Nat.le_refl _) _).alloc (by simp) _
  unfold sameV
  go_enter Try.func12, Try.ntmps12
  go_wp2_with fail
  generalize ((w.alloc (.cells (gc g) 25)).alloc (.cells (gc h) 25)) = W0 at *
  have HG := Lib.hid hg
  have HH := Lib.hid hh
  have HB := Lib.hid hb
  clear hg hh hb
  refine wp_region_X (fun W' => Rows8 W' w.heap.size 25 (gc g) ∧ Rows8 W' (w.heap.size + 1) 25 (gc h)) 8 (by kernel_rfl) ?_
  have hS0 : Rows8 W0.drew w.heap.size 25 (gc g) ∧ Rows8 W0.drew (w.heap.size + 1) 25 (gc h) := ⟨HG.out.drew, HH.out.drew⟩
  have hB0 := HB.out.drew
  generalize W0.drew = Wd at *
  refine wpAnyN_take (i := 0) (oi := { dst := some 8, op := Go.Op.load 25 (Go.Operand.tmp 2), type := 25, pos := "group.go:23", after := #[], guard := none }) (v := .agg (gc g)) rfl (by decide) (by kernel_rfl) (by kernel_rfl) (by kernel_rfl) (fun _ _ _ h => h) (Or.inl ⟨by rfl, ?_⟩) hS0 ?_
  · intro W9 hS9
    obtain ⟨q0, q1⟩ := hS9
    exact exec_load 25 _ rfl ⟨w.heap.size, 0, none⟩ _ (by simp [go_sem]) (Try.load_group q0)
  try simp only [Act.put, List.setIfInBounds_toArray, List.set_cons_zero, List.set_cons_succ]
  refine wpAnyN_take (i := 1) (oi := { dst := some 9, op := Go.Op.build 67 #[(0, Go.Operand.tmp 8)], type := 67, pos := "group.go:23", after := #[{ on := 0, ground := Go.Ground.data }], guard := none }) (v := .agg (gc g)) rfl (by decide) (by kernel_rfl) (by kernel_rfl) (by kernel_rfl) (fun _ _ _ h => h) (Or.inl ⟨by rfl, ?_⟩) hS0 ?_
  · intro W9 hS9
    obtain ⟨q0, q1⟩ := hS9
    exact exec_build 67 _ rfl #[(0, .agg (gc g))] (by simp [go_sem]) _ (Try.build_view g W9)
  try simp only [Act.put, List.setIfInBounds_toArray, List.set_cons_zero, List.set_cons_succ]
  refine wpAnyN_take (i := 2) (oi := { dst := some 10, op := Go.Op.load 25 (Go.Operand.tmp 3), type := 25, pos := "group.go:23", after := #[], guard := none }) (v := .agg (gc h)) rfl (by decide) (by kernel_rfl) (by kernel_rfl) (by kernel_rfl) (fun _ _ _ h => h) (Or.inl ⟨by rfl, ?_⟩) hS0 ?_
  · intro W9 hS9
    obtain ⟨q0, q1⟩ := hS9
    exact exec_load 25 _ rfl ⟨w.heap.size + 1, 0, none⟩ _ (by simp [go_sem]) (Try.load_group q1)
  try simp only [Act.put, List.setIfInBounds_toArray, List.set_cons_zero, List.set_cons_succ]
  refine wpAnyN_take (i := 3) (oi := { dst := some 11, op := Go.Op.build 67 #[(0, Go.Operand.tmp 10)], type := 67, pos := "group.go:23", after := #[{ on := 2, ground := Go.Ground.data }], guard := none }) (v := .agg (gc h)) rfl (by decide) (by kernel_rfl) (by kernel_rfl) (by kernel_rfl) (fun _ _ _ h => h) (Or.inl ⟨by rfl, ?_⟩) hS0 ?_
  · intro W9 hS9
    obtain ⟨q0, q1⟩ := hS9
    exact exec_build 67 _ rfl #[(0, .agg (gc h))] (by simp [go_sem]) _ (Try.build_view h W9)
  try simp only [Act.put, List.setIfInBounds_toArray, List.set_cons_zero, List.set_cons_succ]
  refine wpAnyX_two (i := 4) (j := 5) (oi := { dst := some 5, op := Go.Op.alloc 67, type := 0, pos := "group.go:23", after := #[], guard := none }) (oj := { dst := some 6, op := Go.Op.alloc 67, type := 0, pos := "group.go:23", after := #[], guard := none }) (by kernel_rfl) rfl rfl (fun K hK => ?_) (fun K hK => ?_)
  · refine step_value_g (by rfl) (.pointer (some ⟨Wd.heap.size, 0, none⟩)) (w' := (Wd).alloc (.cells #[.int .u64 0, .int .u64 0, .int .u64 0, .int .u64 0, .int .u64 0, .int .u64 0, .int .u64 0, .int .u64 0, .int .u64 0, .int .u64 0, .int .u64 0, .int .u64 0, .int .u64 0, .int .u64 0, .int .u64 0, .int .u64 0, .int .u64 0] 67)) (by go_simp) ?_
    have hB1 := hB0.alloc hB0.size (.cells #[.int .u64 0, .int .u64 0, .int .u64 0, .int .u64 0, .int .u64 0, .int .u64 0, .int .u64 0, .int .u64 0, .int .u64 0, .int .u64 0, .int .u64 0, .int .u64 0, .int .u64 0, .int .u64 0, .int .u64 0, .int .u64 0, .int .u64 0] 67)
    have hS1 : Rows8 ((Wd).alloc (.cells #[.int .u64 0, .int .u64 0, .int .u64 0, .int .u64 0, .int .u64 0, .int .u64 0, .int .u64 0, .int .u64 0, .int .u64 0, .int .u64 0, .int .u64 0, .int .u64 0, .int .u64 0, .int .u64 0, .int .u64 0, .int .u64 0, .int .u64 0] 67)) w.heap.size 25 (gc g) ∧ Rows8 ((Wd).alloc (.cells #[.int .u64 0, .int .u64 0, .int .u64 0, .int .u64 0, .int .u64 0, .int .u64 0, .int .u64 0, .int .u64 0, .int .u64 0, .int .u64 0, .int .u64 0, .int .u64 0, .int .u64 0, .int .u64 0, .int .u64 0, .int .u64 0, .int .u64 0] 67)) (w.heap.size + 1) 25 (gc h) := ⟨hS0.1.alloc _, hS0.2.alloc _⟩
    refine hK.out _ _ (fun _ => hS1) ?_
    clear hK K
    try simp only [Act.put, List.setIfInBounds_toArray, List.set_cons_zero, List.set_cons_succ]
    refine wpAnyX_one (i := 5) (o := { dst := some 6, op := Go.Op.alloc 67, type := 0, pos := "group.go:23", after := #[], guard := none }) (by kernel_rfl) rfl (fun K hK => ?_)
    refine step_value_g (by rfl) (.pointer (some ⟨Wd.heap.size + 1, 0, none⟩)) (w' := ((Wd.alloc (.cells #[.int .u64 0, .int .u64 0, .int .u64 0, .int .u64 0, .int .u64 0, .int .u64 0, .int .u64 0, .int .u64 0, .int .u64 0, .int .u64 0, .int .u64 0, .int .u64 0, .int .u64 0, .int .u64 0, .int .u64 0, .int .u64 0, .int .u64 0] 67)).alloc (.cells #[.int .u64 0, .int .u64 0, .int .u64 0, .int .u64 0, .int .u64 0, .int .u64 0, .int .u64 0, .int .u64 0, .int .u64 0, .int .u64 0, .int .u64 0, .int .u64 0, .int .u64 0, .int .u64 0, .int .u64 0, .int .u64 0, .int .u64 0] 67))) (by go_simp) ?_
    have hB2 := hB1.alloc hB1.size (.cells #[.int .u64 0, .int .u64 0, .int .u64 0, .int .u64 0, .int .u64 0, .int .u64 0, .int .u64 0, .int .u64 0, .int .u64 0, .int .u64 0, .int .u64 0, .int .u64 0, .int .u64 0, .int .u64 0, .int .u64 0, .int .u64 0, .int .u64 0] 67)
    have hS2 : Rows8 ((Wd.alloc (.cells #[.int .u64 0, .int .u64 0, .int .u64 0, .int .u64 0, .int .u64 0, .int .u64 0, .int .u64 0, .int .u64 0, .int .u64 0, .int .u64 0, .int .u64 0, .int .u64 0, .int .u64 0, .int .u64 0, .int .u64 0, .int .u64 0, .int .u64 0] 67)).alloc (.cells #[.int .u64 0, .int .u64 0, .int .u64 0, .int .u64 0, .int .u64 0, .int .u64 0, .int .u64 0, .int .u64 0, .int .u64 0, .int .u64 0, .int .u64 0, .int .u64 0, .int .u64 0, .int .u64 0, .int .u64 0, .int .u64 0, .int .u64 0] 67)) w.heap.size 25 (gc g) ∧ Rows8 ((Wd.alloc (.cells #[.int .u64 0, .int .u64 0, .int .u64 0, .int .u64 0, .int .u64 0, .int .u64 0, .int .u64 0, .int .u64 0, .int .u64 0, .int .u64 0, .int .u64 0, .int .u64 0, .int .u64 0, .int .u64 0, .int .u64 0, .int .u64 0, .int .u64 0] 67)).alloc (.cells #[.int .u64 0, .int .u64 0, .int .u64 0, .int .u64 0, .int .u64 0, .int .u64 0, .int .u64 0, .int .u64 0, .int .u64 0, .int .u64 0, .int .u64 0, .int .u64 0, .int .u64 0, .int .u64 0, .int .u64 0, .int .u64 0, .int .u64 0] 67)) (w.heap.size + 1) 25 (gc h) := ⟨hS1.1.alloc _, hS1.2.alloc _⟩
    refine hK.out _ _ (fun _ => hS2) ?_
    clear hK K
    try simp only [Act.put, List.setIfInBounds_toArray, List.set_cons_zero, List.set_cons_succ]
    have ra : Rows8 ((Wd.alloc (.cells #[.int .u64 0, .int .u64 0, .int .u64 0, .int .u64 0, .int .u64 0, .int .u64 0, .int .u64 0, .int .u64 0, .int .u64 0, .int .u64 0, .int .u64 0, .int .u64 0, .int .u64 0, .int .u64 0, .int .u64 0, .int .u64 0, .int .u64 0] 67)).alloc (.cells #[.int .u64 0, .int .u64 0, .int .u64 0, .int .u64 0, .int .u64 0, .int .u64 0, .int .u64 0, .int .u64 0, .int .u64 0, .int .u64 0, .int .u64 0, .int .u64 0, .int .u64 0, .int .u64 0, .int .u64 0, .int .u64 0, .int .u64 0] 67)) Wd.heap.size 67 (gc zG) := (Rows8.new Wd _ _).alloc _
    have rb : Rows8 ((Wd.alloc (.cells #[.int .u64 0, .int .u64 0, .int .u64 0, .int .u64 0, .int .u64 0, .int .u64 0, .int .u64 0, .int .u64 0, .int .u64 0, .int .u64 0, .int .u64 0, .int .u64 0, .int .u64 0, .int .u64 0, .int .u64 0, .int .u64 0, .int .u64 0] 67)).alloc (.cells #[.int .u64 0, .int .u64 0, .int .u64 0, .int .u64 0, .int .u64 0, .int .u64 0, .int .u64 0, .int .u64 0, .int .u64 0, .int .u64 0, .int .u64 0, .int .u64 0, .int .u64 0, .int .u64 0, .int .u64 0, .int .u64 0, .int .u64 0] 67)) (Wd.heap.size + 1) 67 (gc zG) := by
      have h := Rows8.new (Wd.alloc (.cells #[.int .u64 0, .int .u64 0, .int .u64 0, .int .u64 0, .int .u64 0, .int .u64 0, .int .u64 0, .int .u64 0, .int .u64 0, .int .u64 0, .int .u64 0, .int .u64 0, .int .u64 0, .int .u64 0, .int .u64 0, .int .u64 0, .int .u64 0] 67)) 67 (gc zG)
      rw [World.size_alloc] at h
      exact h
    have hz : w.heap.size + 1 < Wd.heap.size := hS0.2.lt
    generalize ((Wd.alloc (.cells #[.int .u64 0, .int .u64 0, .int .u64 0, .int .u64 0, .int .u64 0, .int .u64 0, .int .u64 0, .int .u64 0, .int .u64 0, .int .u64 0, .int .u64 0, .int .u64 0, .int .u64 0, .int .u64 0, .int .u64 0, .int .u64 0, .int .u64 0] 67)).alloc (.cells #[.int .u64 0, .int .u64 0, .int .u64 0, .int .u64 0, .int .u64 0, .int .u64 0, .int .u64 0, .int .u64 0, .int .u64 0, .int .u64 0, .int .u64 0, .int .u64 0, .int .u64 0, .int .u64 0, .int .u64 0, .int .u64 0, .int .u64 0] 67)) = W2 at *
    refine wpAnyX_one (i := 6) (o := { dst := none, op := Go.Op.store 67 (Go.Operand.tmp 5) (Go.Operand.tmp 9), type := 0, pos := "group.go:23", after := #[{ on := 4, ground := Go.Ground.data }, { on := 1, ground := Go.Ground.data }, { on := 0, ground := Go.Ground.phase }, { on := 1, ground := Go.Ground.phase }, { on := 2, ground := Go.Ground.textOnly Go.Departure.lateStores }, { on := 3, ground := Go.Ground.textOnly Go.Departure.inlinedCapture }, { on := 4, ground := Go.Ground.phase }, { on := 5, ground := Go.Ground.phase }], guard := none }) (by kernel_rfl) rfl (fun K hK => ?_)
    refine step_store_g (by rfl) 67 _ _ rfl ⟨Wd.heap.size, 0, none⟩ (.agg (gc g)) (by simp [go_sem]) (by simp [go_sem]) (Try.store_view g ra rfl) ?_
    have hB3 := below_setRow hB2 (show w.heap.size ≤ Wd.heap.size by omega) (gc g)
    have hS3 : Rows8 (W2.setRow (Wd.heap.size) (gc g)) w.heap.size 25 (gc g) ∧ Rows8 (W2.setRow (Wd.heap.size) (gc g)) (w.heap.size + 1) 25 (gc h) := ⟨(setRow_other _ _ _ _ (by omega)).trans hS2.1, (setRow_other _ _ _ _ (by omega)).trans hS2.2⟩
    have hA3 : Rows8 (W2.setRow (Wd.heap.size) (gc g)) (Wd.heap.size) 67 (gc g) := setRow_heap _ _ _ _ _ _ ra
    have hb3 : Rows8 (W2.setRow (Wd.heap.size) (gc g)) (Wd.heap.size + 1) 67 (gc zG) := (setRow_other _ _ _ _ (by omega)).trans rb
    generalize W2.setRow (Wd.heap.size) (gc g) = W3 at *
    refine hK.out _ _ (fun _ => hS3) ?_
    clear hK K
    try simp only [Act.put, List.setIfInBounds_toArray, List.set_cons_zero, List.set_cons_succ]
    refine wpAnyX_one (i := 7) (o := { dst := none, op := Go.Op.store 67 (Go.Operand.tmp 6) (Go.Operand.tmp 11), type := 0, pos := "group.go:23", after := #[{ on := 5, ground := Go.Ground.data }, { on := 3, ground := Go.Ground.data }, { on := 6, ground := Go.Ground.chain }, { on := 0, ground := Go.Ground.phase }, { on := 1, ground := Go.Ground.phase }, { on := 2, ground := Go.Ground.phase }, { on := 3, ground := Go.Ground.phase }, { on := 4, ground := Go.Ground.phase }, { on := 5, ground := Go.Ground.phase }, { on := 6, ground := Go.Ground.phase }], guard := none }) (by kernel_rfl) rfl (fun K hK => ?_)
    refine step_store_g (by rfl) 67 _ _ rfl ⟨Wd.heap.size + 1, 0, none⟩ (.agg (gc h)) (by simp [go_sem]) (by simp [go_sem]) (Try.store_view h hb3 rfl) ?_
    have hB4 := below_setRow hB3 (show w.heap.size ≤ Wd.heap.size + 1 by omega) (gc h)
    have hS4 : Rows8 (W3.setRow (Wd.heap.size + 1) (gc h)) w.heap.size 25 (gc g) ∧ Rows8 (W3.setRow (Wd.heap.size + 1) (gc h)) (w.heap.size + 1) 25 (gc h) := ⟨(setRow_other _ _ _ _ (by omega)).trans hS3.1, (setRow_other _ _ _ _ (by omega)).trans hS3.2⟩
    have hB5 : Rows8 (W3.setRow (Wd.heap.size + 1) (gc h)) (Wd.heap.size + 1) 67 (gc h) := setRow_heap _ _ _ _ _ _ hb3
    have hA5 : Rows8 (W3.setRow (Wd.heap.size + 1) (gc h)) (Wd.heap.size) 67 (gc g) := (setRow_other _ _ _ _ (by omega)).trans hA3
    generalize W3.setRow (Wd.heap.size + 1) (gc h) = W4 at *
    refine hK.out _ _ (fun _ => hS4) ?_
    clear hK K
    try simp only [Act.put, List.setIfInBounds_toArray, List.set_cons_zero, List.set_cons_succ]
    refine wpAnyX_end (by kernel_rfl) ?_
    have cg : W4.cell? ⟨w.heap.size, 0, none⟩ = some (.int .u64 (g.c : Nat)) := (hS4.1.cell 0).trans (gc_0 g)
    have ch : W4.cell? ⟨w.heap.size + 1, 0, none⟩ = some (.int .u64 (h.c : Nat)) := (hS4.2.cell 0).trans (gc_0 h)
    have hld := Try.load_view hA5
    have HA := Lib.hid hA5
    have HBv := Lib.hid hB5
    have HB4 := Lib.hid hB4
    clear hS0 hS1 hS2 hS3 hS4 hB0 hB1 hB2 hB3 hB4 hA3 hb3 ra rb hA5 hB5
    cases hcc : (g.c == h.c)
    · have hne : (((g.c : Nat) : Int) == ((h.c : Nat) : Int)) = false := by rw [natEq_walk]; exact hcc
      have HCC := Lib.hid hcc
      clear hcc
      go_wp2_with (first | (refine wpList_loadW (by rfl) _ _ rfl ⟨Wd.heap.size, 0, none⟩ _ rfl hld ?_))
      go_ret
      exact ⟨by rw [HCC.out]; rfl, HB4.out⟩
    · have hne : (((g.c : Nat) : Int) == ((h.c : Nat) : Int)) = true := by rw [natEq_walk]; exact hcc
      have HCC := Lib.hid hcc
      clear hcc
      go_wp2_with (first | (refine wpList_loadW (by rfl) _ _ rfl ⟨Wd.heap.size, 0, none⟩ _ rfl hld ?_) | (go_at_call 42; refine (HF _).out.mono ?_; rintro e w5 ⟨rfl, hB5⟩; have HC := Lib.hid (Try.comeB_any (fm g) (fm_lt g) g h (Wd.heap.size) (Wd.heap.size + 1) w5 (HA.out.below hB5 HA.out.lt) (HBv.out.below hB5 HBv.out.lt)); have HB5 := Lib.hid (HB4.out.trans (hB5.mono HB4.out.size)); clear hB5) | (go_at_call 41; refine HC.out.mono ?_; rintro e w6 ⟨rfl, hB6⟩; have HB6 := Lib.hid (HB5.out.trans (hB6.mono HB5.out.size)); clear hB6))
      go_ret
      exact ⟨by rw [HCC.out]; rfl, HB6.out⟩
  · refine step_value_g (by rfl) (.pointer (some ⟨Wd.heap.size, 0, none⟩)) (w' := (Wd).alloc (.cells #[.int .u64 0, .int .u64 0, .int .u64 0, .int .u64 0, .int .u64 0, .int .u64 0, .int .u64 0, .int .u64 0, .int .u64 0, .int .u64 0, .int .u64 0, .int .u64 0, .int .u64 0, .int .u64 0, .int .u64 0, .int .u64 0, .int .u64 0] 67)) (by go_simp) ?_
    have hB1 := hB0.alloc hB0.size (.cells #[.int .u64 0, .int .u64 0, .int .u64 0, .int .u64 0, .int .u64 0, .int .u64 0, .int .u64 0, .int .u64 0, .int .u64 0, .int .u64 0, .int .u64 0, .int .u64 0, .int .u64 0, .int .u64 0, .int .u64 0, .int .u64 0, .int .u64 0] 67)
    have hS1 : Rows8 ((Wd).alloc (.cells #[.int .u64 0, .int .u64 0, .int .u64 0, .int .u64 0, .int .u64 0, .int .u64 0, .int .u64 0, .int .u64 0, .int .u64 0, .int .u64 0, .int .u64 0, .int .u64 0, .int .u64 0, .int .u64 0, .int .u64 0, .int .u64 0, .int .u64 0] 67)) w.heap.size 25 (gc g) ∧ Rows8 ((Wd).alloc (.cells #[.int .u64 0, .int .u64 0, .int .u64 0, .int .u64 0, .int .u64 0, .int .u64 0, .int .u64 0, .int .u64 0, .int .u64 0, .int .u64 0, .int .u64 0, .int .u64 0, .int .u64 0, .int .u64 0, .int .u64 0, .int .u64 0, .int .u64 0] 67)) (w.heap.size + 1) 25 (gc h) := ⟨hS0.1.alloc _, hS0.2.alloc _⟩
    refine hK.out _ _ (fun _ => hS1) ?_
    clear hK K
    try simp only [Act.put, List.setIfInBounds_toArray, List.set_cons_zero, List.set_cons_succ]
    refine wpAnyX_one (i := 4) (o := { dst := some 5, op := Go.Op.alloc 67, type := 0, pos := "group.go:23", after := #[], guard := none }) (by kernel_rfl) rfl (fun K hK => ?_)
    refine step_value_g (by rfl) (.pointer (some ⟨Wd.heap.size + 1, 0, none⟩)) (w' := ((Wd.alloc (.cells #[.int .u64 0, .int .u64 0, .int .u64 0, .int .u64 0, .int .u64 0, .int .u64 0, .int .u64 0, .int .u64 0, .int .u64 0, .int .u64 0, .int .u64 0, .int .u64 0, .int .u64 0, .int .u64 0, .int .u64 0, .int .u64 0, .int .u64 0] 67)).alloc (.cells #[.int .u64 0, .int .u64 0, .int .u64 0, .int .u64 0, .int .u64 0, .int .u64 0, .int .u64 0, .int .u64 0, .int .u64 0, .int .u64 0, .int .u64 0, .int .u64 0, .int .u64 0, .int .u64 0, .int .u64 0, .int .u64 0, .int .u64 0] 67))) (by go_simp) ?_
    have hB2 := hB1.alloc hB1.size (.cells #[.int .u64 0, .int .u64 0, .int .u64 0, .int .u64 0, .int .u64 0, .int .u64 0, .int .u64 0, .int .u64 0, .int .u64 0, .int .u64 0, .int .u64 0, .int .u64 0, .int .u64 0, .int .u64 0, .int .u64 0, .int .u64 0, .int .u64 0] 67)
    have hS2 : Rows8 ((Wd.alloc (.cells #[.int .u64 0, .int .u64 0, .int .u64 0, .int .u64 0, .int .u64 0, .int .u64 0, .int .u64 0, .int .u64 0, .int .u64 0, .int .u64 0, .int .u64 0, .int .u64 0, .int .u64 0, .int .u64 0, .int .u64 0, .int .u64 0, .int .u64 0] 67)).alloc (.cells #[.int .u64 0, .int .u64 0, .int .u64 0, .int .u64 0, .int .u64 0, .int .u64 0, .int .u64 0, .int .u64 0, .int .u64 0, .int .u64 0, .int .u64 0, .int .u64 0, .int .u64 0, .int .u64 0, .int .u64 0, .int .u64 0, .int .u64 0] 67)) w.heap.size 25 (gc g) ∧ Rows8 ((Wd.alloc (.cells #[.int .u64 0, .int .u64 0, .int .u64 0, .int .u64 0, .int .u64 0, .int .u64 0, .int .u64 0, .int .u64 0, .int .u64 0, .int .u64 0, .int .u64 0, .int .u64 0, .int .u64 0, .int .u64 0, .int .u64 0, .int .u64 0, .int .u64 0] 67)).alloc (.cells #[.int .u64 0, .int .u64 0, .int .u64 0, .int .u64 0, .int .u64 0, .int .u64 0, .int .u64 0, .int .u64 0, .int .u64 0, .int .u64 0, .int .u64 0, .int .u64 0, .int .u64 0, .int .u64 0, .int .u64 0, .int .u64 0, .int .u64 0] 67)) (w.heap.size + 1) 25 (gc h) := ⟨hS1.1.alloc _, hS1.2.alloc _⟩
    refine hK.out _ _ (fun _ => hS2) ?_
    clear hK K
    try simp only [Act.put, List.setIfInBounds_toArray, List.set_cons_zero, List.set_cons_succ]
    have ra : Rows8 ((Wd.alloc (.cells #[.int .u64 0, .int .u64 0, .int .u64 0, .int .u64 0, .int .u64 0, .int .u64 0, .int .u64 0, .int .u64 0, .int .u64 0, .int .u64 0, .int .u64 0, .int .u64 0, .int .u64 0, .int .u64 0, .int .u64 0, .int .u64 0, .int .u64 0] 67)).alloc (.cells #[.int .u64 0, .int .u64 0, .int .u64 0, .int .u64 0, .int .u64 0, .int .u64 0, .int .u64 0, .int .u64 0, .int .u64 0, .int .u64 0, .int .u64 0, .int .u64 0, .int .u64 0, .int .u64 0, .int .u64 0, .int .u64 0, .int .u64 0] 67)) Wd.heap.size 67 (gc zG) := (Rows8.new Wd _ _).alloc _
    have rb : Rows8 ((Wd.alloc (.cells #[.int .u64 0, .int .u64 0, .int .u64 0, .int .u64 0, .int .u64 0, .int .u64 0, .int .u64 0, .int .u64 0, .int .u64 0, .int .u64 0, .int .u64 0, .int .u64 0, .int .u64 0, .int .u64 0, .int .u64 0, .int .u64 0, .int .u64 0] 67)).alloc (.cells #[.int .u64 0, .int .u64 0, .int .u64 0, .int .u64 0, .int .u64 0, .int .u64 0, .int .u64 0, .int .u64 0, .int .u64 0, .int .u64 0, .int .u64 0, .int .u64 0, .int .u64 0, .int .u64 0, .int .u64 0, .int .u64 0, .int .u64 0] 67)) (Wd.heap.size + 1) 67 (gc zG) := by
      have h := Rows8.new (Wd.alloc (.cells #[.int .u64 0, .int .u64 0, .int .u64 0, .int .u64 0, .int .u64 0, .int .u64 0, .int .u64 0, .int .u64 0, .int .u64 0, .int .u64 0, .int .u64 0, .int .u64 0, .int .u64 0, .int .u64 0, .int .u64 0, .int .u64 0, .int .u64 0] 67)) 67 (gc zG)
      rw [World.size_alloc] at h
      exact h
    have hz : w.heap.size + 1 < Wd.heap.size := hS0.2.lt
    generalize ((Wd.alloc (.cells #[.int .u64 0, .int .u64 0, .int .u64 0, .int .u64 0, .int .u64 0, .int .u64 0, .int .u64 0, .int .u64 0, .int .u64 0, .int .u64 0, .int .u64 0, .int .u64 0, .int .u64 0, .int .u64 0, .int .u64 0, .int .u64 0, .int .u64 0] 67)).alloc (.cells #[.int .u64 0, .int .u64 0, .int .u64 0, .int .u64 0, .int .u64 0, .int .u64 0, .int .u64 0, .int .u64 0, .int .u64 0, .int .u64 0, .int .u64 0, .int .u64 0, .int .u64 0, .int .u64 0, .int .u64 0, .int .u64 0, .int .u64 0] 67)) = W2 at *
    refine wpAnyX_one (i := 6) (o := { dst := none, op := Go.Op.store 67 (Go.Operand.tmp 5) (Go.Operand.tmp 9), type := 0, pos := "group.go:23", after := #[{ on := 4, ground := Go.Ground.data }, { on := 1, ground := Go.Ground.data }, { on := 0, ground := Go.Ground.phase }, { on := 1, ground := Go.Ground.phase }, { on := 2, ground := Go.Ground.textOnly Go.Departure.lateStores }, { on := 3, ground := Go.Ground.textOnly Go.Departure.inlinedCapture }, { on := 4, ground := Go.Ground.phase }, { on := 5, ground := Go.Ground.phase }], guard := none }) (by kernel_rfl) rfl (fun K hK => ?_)
    refine step_store_g (by rfl) 67 _ _ rfl ⟨Wd.heap.size + 1, 0, none⟩ (.agg (gc g)) (by simp [go_sem]) (by simp [go_sem]) (Try.store_view g rb rfl) ?_
    have hB3 := below_setRow hB2 (show w.heap.size ≤ Wd.heap.size + 1 by omega) (gc g)
    have hS3 : Rows8 (W2.setRow (Wd.heap.size + 1) (gc g)) w.heap.size 25 (gc g) ∧ Rows8 (W2.setRow (Wd.heap.size + 1) (gc g)) (w.heap.size + 1) 25 (gc h) := ⟨(setRow_other _ _ _ _ (by omega)).trans hS2.1, (setRow_other _ _ _ _ (by omega)).trans hS2.2⟩
    have hA3 : Rows8 (W2.setRow (Wd.heap.size + 1) (gc g)) (Wd.heap.size + 1) 67 (gc g) := setRow_heap _ _ _ _ _ _ rb
    have hb3 : Rows8 (W2.setRow (Wd.heap.size + 1) (gc g)) (Wd.heap.size) 67 (gc zG) := (setRow_other _ _ _ _ (by omega)).trans ra
    generalize W2.setRow (Wd.heap.size + 1) (gc g) = W3 at *
    refine hK.out _ _ (fun _ => hS3) ?_
    clear hK K
    try simp only [Act.put, List.setIfInBounds_toArray, List.set_cons_zero, List.set_cons_succ]
    refine wpAnyX_one (i := 7) (o := { dst := none, op := Go.Op.store 67 (Go.Operand.tmp 6) (Go.Operand.tmp 11), type := 0, pos := "group.go:23", after := #[{ on := 5, ground := Go.Ground.data }, { on := 3, ground := Go.Ground.data }, { on := 6, ground := Go.Ground.chain }, { on := 0, ground := Go.Ground.phase }, { on := 1, ground := Go.Ground.phase }, { on := 2, ground := Go.Ground.phase }, { on := 3, ground := Go.Ground.phase }, { on := 4, ground := Go.Ground.phase }, { on := 5, ground := Go.Ground.phase }, { on := 6, ground := Go.Ground.phase }], guard := none }) (by kernel_rfl) rfl (fun K hK => ?_)
    refine step_store_g (by rfl) 67 _ _ rfl ⟨Wd.heap.size, 0, none⟩ (.agg (gc h)) (by simp [go_sem]) (by simp [go_sem]) (Try.store_view h hb3 rfl) ?_
    have hB4 := below_setRow hB3 (show w.heap.size ≤ Wd.heap.size by omega) (gc h)
    have hS4 : Rows8 (W3.setRow (Wd.heap.size) (gc h)) w.heap.size 25 (gc g) ∧ Rows8 (W3.setRow (Wd.heap.size) (gc h)) (w.heap.size + 1) 25 (gc h) := ⟨(setRow_other _ _ _ _ (by omega)).trans hS3.1, (setRow_other _ _ _ _ (by omega)).trans hS3.2⟩
    have hB5 : Rows8 (W3.setRow (Wd.heap.size) (gc h)) (Wd.heap.size) 67 (gc h) := setRow_heap _ _ _ _ _ _ hb3
    have hA5 : Rows8 (W3.setRow (Wd.heap.size) (gc h)) (Wd.heap.size + 1) 67 (gc g) := (setRow_other _ _ _ _ (by omega)).trans hA3
    generalize W3.setRow (Wd.heap.size) (gc h) = W4 at *
    refine hK.out _ _ (fun _ => hS4) ?_
    clear hK K
    try simp only [Act.put, List.setIfInBounds_toArray, List.set_cons_zero, List.set_cons_succ]
    refine wpAnyX_end (by kernel_rfl) ?_
    have cg : W4.cell? ⟨w.heap.size, 0, none⟩ = some (.int .u64 (g.c : Nat)) := (hS4.1.cell 0).trans (gc_0 g)
    have ch : W4.cell? ⟨w.heap.size + 1, 0, none⟩ = some (.int .u64 (h.c : Nat)) := (hS4.2.cell 0).trans (gc_0 h)
    have hld := Try.load_view hA5
    have HA := Lib.hid hA5
    have HBv := Lib.hid hB5
    have HB4 := Lib.hid hB4
    clear hS0 hS1 hS2 hS3 hS4 hB0 hB1 hB2 hB3 hB4 hA3 hb3 ra rb hA5 hB5
    cases hcc : (g.c == h.c)
    · have hne : (((g.c : Nat) : Int) == ((h.c : Nat) : Int)) = false := by rw [natEq_walk]; exact hcc
      have HCC := Lib.hid hcc
      clear hcc
      go_wp2_with (first | (refine wpList_loadW (by rfl) _ _ rfl ⟨Wd.heap.size + 1, 0, none⟩ _ rfl hld ?_))
      go_ret
      exact ⟨by rw [HCC.out]; rfl, HB4.out⟩
    · have hne : (((g.c : Nat) : Int) == ((h.c : Nat) : Int)) = true := by rw [natEq_walk]; exact hcc
      have HCC := Lib.hid hcc
      clear hcc
      go_wp2_with (first | (refine wpList_loadW (by rfl) _ _ rfl ⟨Wd.heap.size + 1, 0, none⟩ _ rfl hld ?_) | (go_at_call 42; refine (HF _).out.mono ?_; rintro e w5 ⟨rfl, hB5⟩; have HC := Lib.hid (Try.comeB_any (fm g) (fm_lt g) g h (Wd.heap.size + 1) (Wd.heap.size) w5 (HA.out.below hB5 HA.out.lt) (HBv.out.below hB5 HBv.out.lt)); have HB5 := Lib.hid (HB4.out.trans (hB5.mono HB4.out.size)); clear hB5) | (go_at_call 41; refine HC.out.mono ?_; rintro e w6 ⟨rfl, hB6⟩; have HB6 := Lib.hid (HB5.out.trans (hB6.mono HB5.out.size)); clear hB6))
      go_ret
      exact ⟨by rw [HCC.out]; rfl, HB6.out⟩
end Go.Proofs

/- Group: the reference's Same. -/
namespace Go.Proofs
set_option maxRecDepth 100000
open Go.RowKit Go.Shelf
attribute [local go_sem] Oper.semAt_some

theorem sameV_no {g h : Gr} {k : Nat} (hk : k < 8) (hf : byt g.c k < 128) (hn : g.k k ≠ h.k k ∨ g.v k ≠ h.v k) : sameV g h = false := by
  have h1 : sameB g h (fl g) = false := by
    rw [Bool.eq_false_iff]
    intro e
    unfold sameB at e
    have := List.all_eq_true.1 e ⟨k, hk⟩ ((mem_fl g ⟨k, hk⟩).2 hf)
    simp only [decide_eq_true_eq] at this
    unfold slotG at this
    injection this with e1 e2 e3
    rcases hn with h2 | h2
    · exact h2 e1
    · exact h2 e2
  unfold sameV
  rw [h1, Bool.and_false]
theorem sameV_yes {g h : Gr} (ha : ∀ k, k < 8 → byt g.c k < 128 → g.k k = h.k k ∧ g.v k = h.v k) : sameV g h = (g.c == h.c) := by
  unfold sameV
  by_cases hc : g.c = h.c
  · have h1 : sameB g h (fl g) = true := by
      unfold sameB
      refine List.all_eq_true.2 fun n hn => ?_
      have hf := (mem_fl g n).1 hn
      obtain ⟨e1, e2⟩ := ha n n.isLt hf
      simp only [decide_eq_true_eq]
      unfold slotG
      rw [e1, e2, hc]
    rw [h1, Bool.and_true]
  · have : (g.c == h.c) = false := by simpa using hc
    rw [this]
    rfl
theorem natNe_walk (a b : Nat) : (((a : Nat) : Int) != ((b : Nat) : Int)) = !(a == b) := by
  unfold bne
  rw [natEq_walk]
set_option maxHeartbeats 8000000 in
theorem Try.rgSame_any (g h : Gr) (hc : g.c < 18446744073709551616) (w : World) : Calls Try.prog 13 #[.agg (gc g), .agg (gc h)] w fun e w' => e = .returned (.bool (sameV g h)) ∧ Below w.heap.size w w' := by
  have HFull := fun n hn W => Lib.hid (Try.rgFull_any g hc n hn W)
  have hg : Rows8 ((w.alloc (.cells (gc g) 25)).alloc (.cells (gc h) 25)) w.heap.size 25 (gc g) := (Rows8.new w _ _).alloc _
  have hh : Rows8 ((w.alloc (.cells (gc g) 25)).alloc (.cells (gc h) 25)) (w.heap.size + 1) 25 (gc h) := by
    have h1 := Rows8.new (w.alloc (.cells (gc g) 25)) 25 (gc h)
    rw [World.size_alloc] at h1
    exact h1
  have hb : Below w.heap.size w ((w.alloc (.cells (gc g) 25)).alloc (.cells (gc h) 25)) := ((Below.refl _ w).alloc (Nat.le_refl _) _).alloc (by simp) _
  go_enter Try.func13, Try.ntmps13
  go_wp2_with fail
  generalize ((w.alloc (.cells (gc g) 25)).alloc (.cells (gc h) 25)) = W0 at *
  have HG := Lib.hid hg
  have HH := Lib.hid hh
  have HB := Lib.hid hb
  clear hg hh hb
  go_loopw [6] (fun i wr => ∃ k : Nat, k ≤ 8 ∧ i = .int .i64 k ∧ Hid (∀ j, j < k → byt g.c j < 128 → g.k j = h.k j ∧ g.v j = h.v j) ∧ Hid (Rows8 wr w.heap.size 25 (gc g)) ∧ Hid (Rows8 wr (w.heap.size + 1) 25 (gc h)) ∧ Hid (Below w.heap.size w wr)) (fun i _ => 8 - (intOf i).toNat)
  case atStart => exact ⟨0, by omega, rfl, Lib.hid (fun j h => by omega), HG, HH, HB⟩
  case round =>
    obtain ⟨k, hk8, rfl, hno, hG, hH, hB⟩ := hrel
    by_cases hk : k < 8
    · have hki : (k : Int) < 8 := by omega
      have hk0 : ¬ (8 : Int) ≤ (k : Int) := by omega
      have HFk := fun W => HFull k hk W
      by_cases hf : byt g.c k < 128
      · rw [decide_eq_true hf] at HFk
        have HFF := Lib.hid hf
        clear hf
        cases hkk : (g.k k == h.k k)
        · have hnk : (((g.k k : Nat) : Int) != ((h.k k : Nat) : Int)) = true := by rw [natNe_walk, hkk]; rfl
          have HNO : Hid (sameV g h = false) := Lib.hid (sameV_no hk HFF.out (.inl (by simpa using hkk)))
          clear hkk
          go_wp2_with fail
          refine wp_region_X (fun W' => Rows8 W' w.heap.size 25 (gc g) ∧ Rows8 W' (w.heap.size + 1) 25 (gc h)) 25 (by kernel_rfl) ?_
          have hS0 : Rows8 wr.drew w.heap.size 25 (gc g) ∧ Rows8 wr.drew (w.heap.size + 1) 25 (gc h) := ⟨hG.out.drew, hH.out.drew⟩
          have hB0 := hB.out.drew
          generalize wr.drew = Wd at *
          refine wpAnyN_take (i := 0) (oi := { dst := some 9, op := Go.Op.load 25 (Go.Operand.tmp 2), type := 25, pos := "ref.go:28", after := #[], guard := none }) (v := .agg (gc g)) rfl (by decide) (by kernel_rfl) (by kernel_rfl) (by kernel_rfl) (fun _ _ _ h => h) (Or.inl ⟨by rfl, ?_⟩) hS0 ?_
          · intro W9 hS9
            obtain ⟨q0, q1⟩ := hS9
            exact exec_load 25 _ rfl ⟨w.heap.size, 0, none⟩ _ (by simp [go_sem]) (Try.load_group q0)
          try simp only [Act.put, List.setIfInBounds_toArray, List.set_cons_zero, List.set_cons_succ]
          refine wpAnyN_take (i := 1) (oi := { dst := some 10, op := Go.Op.move (Go.Operand.tmp 5), type := 3, pos := "ref.go:28", after := #[], guard := none }) (v := .int .i64 (k : Nat)) rfl (by decide) (by kernel_rfl) (by kernel_rfl) (by kernel_rfl) (fun _ _ _ h => h) (Or.inl ⟨by rfl, ?_⟩) hS0 ?_
          · intro W9 hS9
            obtain ⟨q0, q1⟩ := hS9
            clear q0 q1
            go_simp
          try simp only [Act.put, List.setIfInBounds_toArray, List.set_cons_zero, List.set_cons_succ]
          refine wpAnyX_one (i := 2) (o := { dst := some 11, op := Go.Op.call { callee := Go.Callee.value (Go.Operand.func 34), args := #[Go.Operand.tmp 9, Go.Operand.tmp 10], argTypes := #[25, 3] }, type := 4, pos := "ref.go:28", after := #[{ on := 0, ground := Go.Ground.data }, { on := 1, ground := Go.Ground.data }], guard := none }) (by kernel_rfl) rfl (fun K hK => ?_)
          refine step_call_g (by rfl) 34 _ _ rfl (fun _ _ => by kernel_rfl) #[.agg (gc g), .int .i64 (k : Nat)] (by simp [go_sem]) _ (HFk Wd).out ?_
          rintro e W1 ⟨rfl, hC⟩
          refine ⟨_, rfl, ?_⟩
          have hS1 : Rows8 W1 w.heap.size 25 (gc g) ∧ Rows8 W1 (w.heap.size + 1) 25 (gc h) := ⟨hS0.1.below hC hS0.1.lt, hS0.2.below hC hS0.2.lt⟩
          have hB1 := hB0.trans (hC.mono hB0.size)
          refine hK.out _ _ (fun _ => hS1) ?_
          clear hK K
          try simp only [Act.put, List.setIfInBounds_toArray, List.set_cons_zero, List.set_cons_succ]
          refine wpAnyN_take (i := 3) (oi := { dst := some 12, op := Go.Op.move (Go.Operand.tmp 11), type := 4, pos := "ref.go:28", after := #[{ on := 2, ground := Go.Ground.data }, { on := 2, ground := Go.Ground.chain }], guard := none }) (v := .bool true) rfl (by decide) (by kernel_rfl) (by kernel_rfl) (by kernel_rfl) (fun _ _ _ h => h) (Or.inl ⟨by rfl, ?_⟩) hS1 ?_
          · intro W9 hS9
            obtain ⟨q0, q1⟩ := hS9
            clear q0 q1
            go_simp
          try simp only [Act.put, List.setIfInBounds_toArray, List.set_cons_zero, List.set_cons_succ]
          refine wpAnyN_take (i := 4) (oi := { dst := some 13, op := Go.Op.move (Go.Operand.tmp 5), type := 3, pos := "ref.go:28", after := #[{ on := 3, ground := Go.Ground.guard }], guard := some (3, true) }) (v := .int .i64 (k : Nat)) rfl (by decide) (by kernel_rfl) (by kernel_rfl) (by kernel_rfl) (fun _ _ _ h => h) (Or.inl ⟨by rfl, ?_⟩) hS1 ?_
          · intro W9 hS9
            obtain ⟨q0, q1⟩ := hS9
            have ck := (q0.cell (1 + k)).trans (gc_k g k hk)
            have cv := (q0.cell (9 + k)).trans (gc_v g k hk)
            have dk := (q1.cell (1 + k)).trans (gc_k h k hk)
            have dv := (q1.cell (9 + k)).trans (gc_v h k hk)
            clear q0 q1
            go_simp
          try simp only [Act.put, List.setIfInBounds_toArray, List.set_cons_zero, List.set_cons_succ]
          refine wpAnyN_take (i := 5) (oi := { dst := some 14, op := Go.Op.fieldAddr 25 (Go.Operand.tmp 2) 1, type := 0, pos := "ref.go:28", after := #[{ on := 3, ground := Go.Ground.guard }], guard := some (3, true) }) (v := .pointer (some ⟨w.heap.size, 1, none⟩)) rfl (by decide) (by kernel_rfl) (by kernel_rfl) (by kernel_rfl) (fun _ _ _ h => h) (Or.inl ⟨by rfl, ?_⟩) hS1 ?_
          · intro W9 hS9
            obtain ⟨q0, q1⟩ := hS9
            have ck := (q0.cell (1 + k)).trans (gc_k g k hk)
            have cv := (q0.cell (9 + k)).trans (gc_v g k hk)
            have dk := (q1.cell (1 + k)).trans (gc_k h k hk)
            have dv := (q1.cell (9 + k)).trans (gc_v h k hk)
            clear q0 q1
            go_simp
          try simp only [Act.put, List.setIfInBounds_toArray, List.set_cons_zero, List.set_cons_succ]
          refine wpAnyN_take (i := 6) (oi := { dst := some 15, op := Go.Op.indexAddr 23 (Go.Operand.tmp 14) (Go.Operand.tmp 13), type := 0, pos := "ref.go:28", after := #[{ on := 5, ground := Go.Ground.data }, { on := 4, ground := Go.Ground.data }, { on := 3, ground := Go.Ground.guard }], guard := some (3, true) }) (v := .pointer (some ⟨w.heap.size, 1 + k, none⟩)) rfl (by decide) (by kernel_rfl) (by kernel_rfl) (by kernel_rfl) (fun _ _ _ h => h) (Or.inl ⟨by rfl, ?_⟩) hS1 ?_
          · intro W9 hS9
            obtain ⟨q0, q1⟩ := hS9
            have ck := (q0.cell (1 + k)).trans (gc_k g k hk)
            have cv := (q0.cell (9 + k)).trans (gc_v g k hk)
            have dk := (q1.cell (1 + k)).trans (gc_k h k hk)
            have dv := (q1.cell (9 + k)).trans (gc_v h k hk)
            clear q0 q1
            go_simp
          try simp only [Act.put, List.setIfInBounds_toArray, List.set_cons_zero, List.set_cons_succ]
          refine wpAnyN_take (i := 7) (oi := { dst := some 16, op := Go.Op.load 22 (Go.Operand.tmp 15), type := 22, pos := "ref.go:28", after := #[{ on := 6, ground := Go.Ground.data }, { on := 3, ground := Go.Ground.guard }], guard := some (3, true) }) (v := .int .u64 (g.k k : Nat)) rfl (by decide) (by kernel_rfl) (by kernel_rfl) (by kernel_rfl) (fun _ _ _ h => h) (Or.inl ⟨by rfl, ?_⟩) hS1 ?_
          · intro W9 hS9
            obtain ⟨q0, q1⟩ := hS9
            have ck := (q0.cell (1 + k)).trans (gc_k g k hk)
            have cv := (q0.cell (9 + k)).trans (gc_v g k hk)
            have dk := (q1.cell (1 + k)).trans (gc_k h k hk)
            have dv := (q1.cell (9 + k)).trans (gc_v h k hk)
            clear q0 q1
            go_simp
          try simp only [Act.put, List.setIfInBounds_toArray, List.set_cons_zero, List.set_cons_succ]
          refine wpAnyN_take (i := 8) (oi := { dst := some 17, op := Go.Op.move (Go.Operand.tmp 5), type := 3, pos := "ref.go:28", after := #[{ on := 3, ground := Go.Ground.guard }], guard := some (3, true) }) (v := .int .i64 (k : Nat)) rfl (by decide) (by kernel_rfl) (by kernel_rfl) (by kernel_rfl) (fun _ _ _ h => h) (Or.inl ⟨by rfl, ?_⟩) hS1 ?_
          · intro W9 hS9
            obtain ⟨q0, q1⟩ := hS9
            have ck := (q0.cell (1 + k)).trans (gc_k g k hk)
            have cv := (q0.cell (9 + k)).trans (gc_v g k hk)
            have dk := (q1.cell (1 + k)).trans (gc_k h k hk)
            have dv := (q1.cell (9 + k)).trans (gc_v h k hk)
            clear q0 q1
            go_simp
          try simp only [Act.put, List.setIfInBounds_toArray, List.set_cons_zero, List.set_cons_succ]
          refine wpAnyN_take (i := 9) (oi := { dst := some 18, op := Go.Op.fieldAddr 25 (Go.Operand.tmp 3) 1, type := 0, pos := "ref.go:28", after := #[{ on := 3, ground := Go.Ground.guard }], guard := some (3, true) }) (v := .pointer (some ⟨w.heap.size + 1, 1, none⟩)) rfl (by decide) (by kernel_rfl) (by kernel_rfl) (by kernel_rfl) (fun _ _ _ h => h) (Or.inl ⟨by rfl, ?_⟩) hS1 ?_
          · intro W9 hS9
            obtain ⟨q0, q1⟩ := hS9
            have ck := (q0.cell (1 + k)).trans (gc_k g k hk)
            have cv := (q0.cell (9 + k)).trans (gc_v g k hk)
            have dk := (q1.cell (1 + k)).trans (gc_k h k hk)
            have dv := (q1.cell (9 + k)).trans (gc_v h k hk)
            clear q0 q1
            go_simp
          try simp only [Act.put, List.setIfInBounds_toArray, List.set_cons_zero, List.set_cons_succ]
          refine wpAnyN_take (i := 10) (oi := { dst := some 19, op := Go.Op.indexAddr 23 (Go.Operand.tmp 18) (Go.Operand.tmp 17), type := 0, pos := "ref.go:28", after := #[{ on := 9, ground := Go.Ground.data }, { on := 8, ground := Go.Ground.data }, { on := 3, ground := Go.Ground.guard }], guard := some (3, true) }) (v := .pointer (some ⟨w.heap.size + 1, 1 + k, none⟩)) rfl (by decide) (by kernel_rfl) (by kernel_rfl) (by kernel_rfl) (fun _ _ _ h => h) (Or.inl ⟨by rfl, ?_⟩) hS1 ?_
          · intro W9 hS9
            obtain ⟨q0, q1⟩ := hS9
            have ck := (q0.cell (1 + k)).trans (gc_k g k hk)
            have cv := (q0.cell (9 + k)).trans (gc_v g k hk)
            have dk := (q1.cell (1 + k)).trans (gc_k h k hk)
            have dv := (q1.cell (9 + k)).trans (gc_v h k hk)
            clear q0 q1
            go_simp
          try simp only [Act.put, List.setIfInBounds_toArray, List.set_cons_zero, List.set_cons_succ]
          refine wpAnyN_take (i := 11) (oi := { dst := some 20, op := Go.Op.load 22 (Go.Operand.tmp 19), type := 22, pos := "ref.go:28", after := #[{ on := 10, ground := Go.Ground.data }, { on := 3, ground := Go.Ground.guard }], guard := some (3, true) }) (v := .int .u64 (h.k k : Nat)) rfl (by decide) (by kernel_rfl) (by kernel_rfl) (by kernel_rfl) (fun _ _ _ h => h) (Or.inl ⟨by rfl, ?_⟩) hS1 ?_
          · intro W9 hS9
            obtain ⟨q0, q1⟩ := hS9
            have ck := (q0.cell (1 + k)).trans (gc_k g k hk)
            have cv := (q0.cell (9 + k)).trans (gc_v g k hk)
            have dk := (q1.cell (1 + k)).trans (gc_k h k hk)
            have dv := (q1.cell (9 + k)).trans (gc_v h k hk)
            clear q0 q1
            go_simp
          try simp only [Act.put, List.setIfInBounds_toArray, List.set_cons_zero, List.set_cons_succ]
          refine wpAnyN_take (i := 12) (oi := { dst := some 21, op := Go.Op.binOp Go.BinOp.neq 22 (Go.Operand.tmp 16) (Go.Operand.tmp 20) 22, type := 4, pos := "ref.go:28", after := #[{ on := 7, ground := Go.Ground.data }, { on := 11, ground := Go.Ground.data }, { on := 3, ground := Go.Ground.guard }], guard := some (3, true) }) (v := .bool true) rfl (by decide) (by kernel_rfl) (by kernel_rfl) (by kernel_rfl) (fun _ _ _ h => h) (Or.inl ⟨by rfl, ?_⟩) hS1 ?_
          · intro W9 hS9
            obtain ⟨q0, q1⟩ := hS9
            have ck := (q0.cell (1 + k)).trans (gc_k g k hk)
            have cv := (q0.cell (9 + k)).trans (gc_v g k hk)
            have dk := (q1.cell (1 + k)).trans (gc_k h k hk)
            have dv := (q1.cell (9 + k)).trans (gc_v h k hk)
            clear q0 q1
            go_simp
          try simp only [Act.put, List.setIfInBounds_toArray, List.set_cons_zero, List.set_cons_succ]
          refine wpAnyN_take (i := 13) (oi := { dst := some 22, op := Go.Op.move (Go.Operand.tmp 21), type := 4, pos := "ref.go:28", after := #[{ on := 12, ground := Go.Ground.data }, { on := 3, ground := Go.Ground.chain }, { on := 3, ground := Go.Ground.guard }], guard := some (3, true) }) (v := .bool true) rfl (by decide) (by kernel_rfl) (by kernel_rfl) (by kernel_rfl) (fun _ _ _ h => h) (Or.inl ⟨by rfl, ?_⟩) hS1 ?_
          · intro W9 hS9
            obtain ⟨q0, q1⟩ := hS9
            have ck := (q0.cell (1 + k)).trans (gc_k g k hk)
            have cv := (q0.cell (9 + k)).trans (gc_v g k hk)
            have dk := (q1.cell (1 + k)).trans (gc_k h k hk)
            have dv := (q1.cell (9 + k)).trans (gc_v h k hk)
            clear q0 q1
            go_simp
          try simp only [Act.put, List.setIfInBounds_toArray, List.set_cons_zero, List.set_cons_succ]
          refine wpAnyN_take (i := 14) (oi := { dst := some 23, op := Go.Op.move (Go.Operand.tmp 5), type := 3, pos := "ref.go:28", after := #[{ on := 13, ground := Go.Ground.guard }], guard := some (13, false) }) (v := undef) rfl (by decide) (by kernel_rfl) (by kernel_rfl) (by kernel_rfl) (fun _ _ _ h => h) (Or.inr ⟨by rfl, rfl⟩) hS1 ?_
          try simp only [Act.put, List.setIfInBounds_toArray, List.set_cons_zero, List.set_cons_succ]
          refine wpAnyN_take (i := 15) (oi := { dst := some 24, op := Go.Op.fieldAddr 25 (Go.Operand.tmp 2) 2, type := 0, pos := "ref.go:28", after := #[{ on := 13, ground := Go.Ground.guard }], guard := some (13, false) }) (v := undef) rfl (by decide) (by kernel_rfl) (by kernel_rfl) (by kernel_rfl) (fun _ _ _ h => h) (Or.inr ⟨by rfl, rfl⟩) hS1 ?_
          try simp only [Act.put, List.setIfInBounds_toArray, List.set_cons_zero, List.set_cons_succ]
          refine wpAnyN_take (i := 16) (oi := { dst := some 25, op := Go.Op.indexAddr 23 (Go.Operand.tmp 24) (Go.Operand.tmp 23), type := 0, pos := "ref.go:28", after := #[{ on := 15, ground := Go.Ground.data }, { on := 14, ground := Go.Ground.data }, { on := 13, ground := Go.Ground.guard }], guard := some (13, false) }) (v := undef) rfl (by decide) (by kernel_rfl) (by kernel_rfl) (by kernel_rfl) (fun _ _ _ h => h) (Or.inr ⟨by rfl, rfl⟩) hS1 ?_
          try simp only [Act.put, List.setIfInBounds_toArray, List.set_cons_zero, List.set_cons_succ]
          refine wpAnyN_take (i := 17) (oi := { dst := some 26, op := Go.Op.load 22 (Go.Operand.tmp 25), type := 22, pos := "ref.go:28", after := #[{ on := 16, ground := Go.Ground.data }, { on := 13, ground := Go.Ground.guard }], guard := some (13, false) }) (v := undef) rfl (by decide) (by kernel_rfl) (by kernel_rfl) (by kernel_rfl) (fun _ _ _ h => h) (Or.inr ⟨by rfl, rfl⟩) hS1 ?_
          try simp only [Act.put, List.setIfInBounds_toArray, List.set_cons_zero, List.set_cons_succ]
          refine wpAnyN_take (i := 18) (oi := { dst := some 27, op := Go.Op.move (Go.Operand.tmp 5), type := 3, pos := "ref.go:28", after := #[{ on := 13, ground := Go.Ground.guard }], guard := some (13, false) }) (v := undef) rfl (by decide) (by kernel_rfl) (by kernel_rfl) (by kernel_rfl) (fun _ _ _ h => h) (Or.inr ⟨by rfl, rfl⟩) hS1 ?_
          try simp only [Act.put, List.setIfInBounds_toArray, List.set_cons_zero, List.set_cons_succ]
          refine wpAnyN_take (i := 19) (oi := { dst := some 28, op := Go.Op.fieldAddr 25 (Go.Operand.tmp 3) 2, type := 0, pos := "ref.go:28", after := #[{ on := 13, ground := Go.Ground.guard }], guard := some (13, false) }) (v := undef) rfl (by decide) (by kernel_rfl) (by kernel_rfl) (by kernel_rfl) (fun _ _ _ h => h) (Or.inr ⟨by rfl, rfl⟩) hS1 ?_
          try simp only [Act.put, List.setIfInBounds_toArray, List.set_cons_zero, List.set_cons_succ]
          refine wpAnyN_take (i := 20) (oi := { dst := some 29, op := Go.Op.indexAddr 23 (Go.Operand.tmp 28) (Go.Operand.tmp 27), type := 0, pos := "ref.go:28", after := #[{ on := 19, ground := Go.Ground.data }, { on := 18, ground := Go.Ground.data }, { on := 13, ground := Go.Ground.guard }], guard := some (13, false) }) (v := undef) rfl (by decide) (by kernel_rfl) (by kernel_rfl) (by kernel_rfl) (fun _ _ _ h => h) (Or.inr ⟨by rfl, rfl⟩) hS1 ?_
          try simp only [Act.put, List.setIfInBounds_toArray, List.set_cons_zero, List.set_cons_succ]
          refine wpAnyN_take (i := 21) (oi := { dst := some 30, op := Go.Op.load 22 (Go.Operand.tmp 29), type := 22, pos := "ref.go:28", after := #[{ on := 20, ground := Go.Ground.data }, { on := 13, ground := Go.Ground.guard }], guard := some (13, false) }) (v := undef) rfl (by decide) (by kernel_rfl) (by kernel_rfl) (by kernel_rfl) (fun _ _ _ h => h) (Or.inr ⟨by rfl, rfl⟩) hS1 ?_
          try simp only [Act.put, List.setIfInBounds_toArray, List.set_cons_zero, List.set_cons_succ]
          refine wpAnyN_take (i := 22) (oi := { dst := some 31, op := Go.Op.binOp Go.BinOp.neq 22 (Go.Operand.tmp 26) (Go.Operand.tmp 30) 22, type := 4, pos := "ref.go:28", after := #[{ on := 17, ground := Go.Ground.data }, { on := 21, ground := Go.Ground.data }, { on := 13, ground := Go.Ground.guard }], guard := some (13, false) }) (v := undef) rfl (by decide) (by kernel_rfl) (by kernel_rfl) (by kernel_rfl) (fun _ _ _ h => h) (Or.inr ⟨by rfl, rfl⟩) hS1 ?_
          try simp only [Act.put, List.setIfInBounds_toArray, List.set_cons_zero, List.set_cons_succ]
          refine wpAnyN_take (i := 23) (oi := { dst := some 32, op := Go.Op.pick (Go.Operand.tmp 22) (Go.Operand.const (Go.Value.bool true)) (Go.Operand.tmp 31), type := 4, pos := "ref.go:28", after := #[{ on := 13, ground := Go.Ground.data }, { on := 22, ground := Go.Ground.data }, { on := 3, ground := Go.Ground.guard }], guard := some (3, true) }) (v := .bool true) rfl (by decide) (by kernel_rfl) (by kernel_rfl) (by kernel_rfl) (fun _ _ _ h => h) (Or.inl ⟨by rfl, ?_⟩) hS1 ?_
          · intro W9 hS9
            obtain ⟨q0, q1⟩ := hS9
            clear q0 q1
            go_simp
          try simp only [Act.put, List.setIfInBounds_toArray, List.set_cons_zero, List.set_cons_succ]
          refine wpAnyN_take (i := 24) (oi := { dst := some 33, op := Go.Op.pick (Go.Operand.tmp 12) (Go.Operand.tmp 32) (Go.Operand.const (Go.Value.bool false)), type := 4, pos := "ref.go:28", after := #[{ on := 3, ground := Go.Ground.data }, { on := 23, ground := Go.Ground.data }], guard := none }) (v := .bool true) rfl (by decide) (by kernel_rfl) (by kernel_rfl) (by kernel_rfl) (fun _ _ _ h => h) (Or.inl ⟨by rfl, ?_⟩) hS1 ?_
          · intro W9 hS9
            obtain ⟨q0, q1⟩ := hS9
            clear q0 q1
            go_simp
          try simp only [Act.put, List.setIfInBounds_toArray, List.set_cons_zero, List.set_cons_succ]
          refine wpAnyX_end (by kernel_rfl) ?_
          have HG1 := Lib.hid hS1.1
          have HH1 := Lib.hid hS1.2
          have HB1 := Lib.hid hB1
          clear hS0 hS1 hB0 hB1 hC
          go_wp2_with fail
          go_ret
          exact ⟨by rw [HNO.out]; rfl, HB1.out⟩
        · have hnk : (((g.k k : Nat) : Int) != ((h.k k : Nat) : Int)) = false := by rw [natNe_walk, hkk]; rfl
          have hke : g.k k = h.k k := by simpa using hkk
          have HKE := Lib.hid hke
          clear hkk hke
          cases hvv : (g.v k == h.v k)
          · have hnv : (((g.v k : Nat) : Int) != ((h.v k : Nat) : Int)) = true := by rw [natNe_walk, hvv]; rfl
            have HNO : Hid (sameV g h = false) := Lib.hid (sameV_no hk HFF.out (.inr (by simpa using hvv)))
            clear hvv
            go_wp2_with fail
            refine wp_region_X (fun W' => Rows8 W' w.heap.size 25 (gc g) ∧ Rows8 W' (w.heap.size + 1) 25 (gc h)) 25 (by kernel_rfl) ?_
            have hS0 : Rows8 wr.drew w.heap.size 25 (gc g) ∧ Rows8 wr.drew (w.heap.size + 1) 25 (gc h) := ⟨hG.out.drew, hH.out.drew⟩
            have hB0 := hB.out.drew
            generalize wr.drew = Wd at *
            refine wpAnyN_take (i := 0) (oi := { dst := some 9, op := Go.Op.load 25 (Go.Operand.tmp 2), type := 25, pos := "ref.go:28", after := #[], guard := none }) (v := .agg (gc g)) rfl (by decide) (by kernel_rfl) (by kernel_rfl) (by kernel_rfl) (fun _ _ _ h => h) (Or.inl ⟨by rfl, ?_⟩) hS0 ?_
            · intro W9 hS9
              obtain ⟨q0, q1⟩ := hS9
              exact exec_load 25 _ rfl ⟨w.heap.size, 0, none⟩ _ (by simp [go_sem]) (Try.load_group q0)
            try simp only [Act.put, List.setIfInBounds_toArray, List.set_cons_zero, List.set_cons_succ]
            refine wpAnyN_take (i := 1) (oi := { dst := some 10, op := Go.Op.move (Go.Operand.tmp 5), type := 3, pos := "ref.go:28", after := #[], guard := none }) (v := .int .i64 (k : Nat)) rfl (by decide) (by kernel_rfl) (by kernel_rfl) (by kernel_rfl) (fun _ _ _ h => h) (Or.inl ⟨by rfl, ?_⟩) hS0 ?_
            · intro W9 hS9
              obtain ⟨q0, q1⟩ := hS9
              clear q0 q1
              go_simp
            try simp only [Act.put, List.setIfInBounds_toArray, List.set_cons_zero, List.set_cons_succ]
            refine wpAnyX_one (i := 2) (o := { dst := some 11, op := Go.Op.call { callee := Go.Callee.value (Go.Operand.func 34), args := #[Go.Operand.tmp 9, Go.Operand.tmp 10], argTypes := #[25, 3] }, type := 4, pos := "ref.go:28", after := #[{ on := 0, ground := Go.Ground.data }, { on := 1, ground := Go.Ground.data }], guard := none }) (by kernel_rfl) rfl (fun K hK => ?_)
            refine step_call_g (by rfl) 34 _ _ rfl (fun _ _ => by kernel_rfl) #[.agg (gc g), .int .i64 (k : Nat)] (by simp [go_sem]) _ (HFk Wd).out ?_
            rintro e W1 ⟨rfl, hC⟩
            refine ⟨_, rfl, ?_⟩
            have hS1 : Rows8 W1 w.heap.size 25 (gc g) ∧ Rows8 W1 (w.heap.size + 1) 25 (gc h) := ⟨hS0.1.below hC hS0.1.lt, hS0.2.below hC hS0.2.lt⟩
            have hB1 := hB0.trans (hC.mono hB0.size)
            refine hK.out _ _ (fun _ => hS1) ?_
            clear hK K
            try simp only [Act.put, List.setIfInBounds_toArray, List.set_cons_zero, List.set_cons_succ]
            refine wpAnyN_take (i := 3) (oi := { dst := some 12, op := Go.Op.move (Go.Operand.tmp 11), type := 4, pos := "ref.go:28", after := #[{ on := 2, ground := Go.Ground.data }, { on := 2, ground := Go.Ground.chain }], guard := none }) (v := .bool true) rfl (by decide) (by kernel_rfl) (by kernel_rfl) (by kernel_rfl) (fun _ _ _ h => h) (Or.inl ⟨by rfl, ?_⟩) hS1 ?_
            · intro W9 hS9
              obtain ⟨q0, q1⟩ := hS9
              clear q0 q1
              go_simp
            try simp only [Act.put, List.setIfInBounds_toArray, List.set_cons_zero, List.set_cons_succ]
            refine wpAnyN_take (i := 4) (oi := { dst := some 13, op := Go.Op.move (Go.Operand.tmp 5), type := 3, pos := "ref.go:28", after := #[{ on := 3, ground := Go.Ground.guard }], guard := some (3, true) }) (v := .int .i64 (k : Nat)) rfl (by decide) (by kernel_rfl) (by kernel_rfl) (by kernel_rfl) (fun _ _ _ h => h) (Or.inl ⟨by rfl, ?_⟩) hS1 ?_
            · intro W9 hS9
              obtain ⟨q0, q1⟩ := hS9
              have ck := (q0.cell (1 + k)).trans (gc_k g k hk)
              have cv := (q0.cell (9 + k)).trans (gc_v g k hk)
              have dk := (q1.cell (1 + k)).trans (gc_k h k hk)
              have dv := (q1.cell (9 + k)).trans (gc_v h k hk)
              clear q0 q1
              go_simp
            try simp only [Act.put, List.setIfInBounds_toArray, List.set_cons_zero, List.set_cons_succ]
            refine wpAnyN_take (i := 5) (oi := { dst := some 14, op := Go.Op.fieldAddr 25 (Go.Operand.tmp 2) 1, type := 0, pos := "ref.go:28", after := #[{ on := 3, ground := Go.Ground.guard }], guard := some (3, true) }) (v := .pointer (some ⟨w.heap.size, 1, none⟩)) rfl (by decide) (by kernel_rfl) (by kernel_rfl) (by kernel_rfl) (fun _ _ _ h => h) (Or.inl ⟨by rfl, ?_⟩) hS1 ?_
            · intro W9 hS9
              obtain ⟨q0, q1⟩ := hS9
              have ck := (q0.cell (1 + k)).trans (gc_k g k hk)
              have cv := (q0.cell (9 + k)).trans (gc_v g k hk)
              have dk := (q1.cell (1 + k)).trans (gc_k h k hk)
              have dv := (q1.cell (9 + k)).trans (gc_v h k hk)
              clear q0 q1
              go_simp
            try simp only [Act.put, List.setIfInBounds_toArray, List.set_cons_zero, List.set_cons_succ]
            refine wpAnyN_take (i := 6) (oi := { dst := some 15, op := Go.Op.indexAddr 23 (Go.Operand.tmp 14) (Go.Operand.tmp 13), type := 0, pos := "ref.go:28", after := #[{ on := 5, ground := Go.Ground.data }, { on := 4, ground := Go.Ground.data }, { on := 3, ground := Go.Ground.guard }], guard := some (3, true) }) (v := .pointer (some ⟨w.heap.size, 1 + k, none⟩)) rfl (by decide) (by kernel_rfl) (by kernel_rfl) (by kernel_rfl) (fun _ _ _ h => h) (Or.inl ⟨by rfl, ?_⟩) hS1 ?_
            · intro W9 hS9
              obtain ⟨q0, q1⟩ := hS9
              have ck := (q0.cell (1 + k)).trans (gc_k g k hk)
              have cv := (q0.cell (9 + k)).trans (gc_v g k hk)
              have dk := (q1.cell (1 + k)).trans (gc_k h k hk)
              have dv := (q1.cell (9 + k)).trans (gc_v h k hk)
              clear q0 q1
              go_simp
            try simp only [Act.put, List.setIfInBounds_toArray, List.set_cons_zero, List.set_cons_succ]
            refine wpAnyN_take (i := 7) (oi := { dst := some 16, op := Go.Op.load 22 (Go.Operand.tmp 15), type := 22, pos := "ref.go:28", after := #[{ on := 6, ground := Go.Ground.data }, { on := 3, ground := Go.Ground.guard }], guard := some (3, true) }) (v := .int .u64 (g.k k : Nat)) rfl (by decide) (by kernel_rfl) (by kernel_rfl) (by kernel_rfl) (fun _ _ _ h => h) (Or.inl ⟨by rfl, ?_⟩) hS1 ?_
            · intro W9 hS9
              obtain ⟨q0, q1⟩ := hS9
              have ck := (q0.cell (1 + k)).trans (gc_k g k hk)
              have cv := (q0.cell (9 + k)).trans (gc_v g k hk)
              have dk := (q1.cell (1 + k)).trans (gc_k h k hk)
              have dv := (q1.cell (9 + k)).trans (gc_v h k hk)
              clear q0 q1
              go_simp
            try simp only [Act.put, List.setIfInBounds_toArray, List.set_cons_zero, List.set_cons_succ]
            refine wpAnyN_take (i := 8) (oi := { dst := some 17, op := Go.Op.move (Go.Operand.tmp 5), type := 3, pos := "ref.go:28", after := #[{ on := 3, ground := Go.Ground.guard }], guard := some (3, true) }) (v := .int .i64 (k : Nat)) rfl (by decide) (by kernel_rfl) (by kernel_rfl) (by kernel_rfl) (fun _ _ _ h => h) (Or.inl ⟨by rfl, ?_⟩) hS1 ?_
            · intro W9 hS9
              obtain ⟨q0, q1⟩ := hS9
              have ck := (q0.cell (1 + k)).trans (gc_k g k hk)
              have cv := (q0.cell (9 + k)).trans (gc_v g k hk)
              have dk := (q1.cell (1 + k)).trans (gc_k h k hk)
              have dv := (q1.cell (9 + k)).trans (gc_v h k hk)
              clear q0 q1
              go_simp
            try simp only [Act.put, List.setIfInBounds_toArray, List.set_cons_zero, List.set_cons_succ]
            refine wpAnyN_take (i := 9) (oi := { dst := some 18, op := Go.Op.fieldAddr 25 (Go.Operand.tmp 3) 1, type := 0, pos := "ref.go:28", after := #[{ on := 3, ground := Go.Ground.guard }], guard := some (3, true) }) (v := .pointer (some ⟨w.heap.size + 1, 1, none⟩)) rfl (by decide) (by kernel_rfl) (by kernel_rfl) (by kernel_rfl) (fun _ _ _ h => h) (Or.inl ⟨by rfl, ?_⟩) hS1 ?_
            · intro W9 hS9
              obtain ⟨q0, q1⟩ := hS9
              have ck := (q0.cell (1 + k)).trans (gc_k g k hk)
              have cv := (q0.cell (9 + k)).trans (gc_v g k hk)
              have dk := (q1.cell (1 + k)).trans (gc_k h k hk)
              have dv := (q1.cell (9 + k)).trans (gc_v h k hk)
              clear q0 q1
              go_simp
            try simp only [Act.put, List.setIfInBounds_toArray, List.set_cons_zero, List.set_cons_succ]
            refine wpAnyN_take (i := 10) (oi := { dst := some 19, op := Go.Op.indexAddr 23 (Go.Operand.tmp 18) (Go.Operand.tmp 17), type := 0, pos := "ref.go:28", after := #[{ on := 9, ground := Go.Ground.data }, { on := 8, ground := Go.Ground.data }, { on := 3, ground := Go.Ground.guard }], guard := some (3, true) }) (v := .pointer (some ⟨w.heap.size + 1, 1 + k, none⟩)) rfl (by decide) (by kernel_rfl) (by kernel_rfl) (by kernel_rfl) (fun _ _ _ h => h) (Or.inl ⟨by rfl, ?_⟩) hS1 ?_
            · intro W9 hS9
              obtain ⟨q0, q1⟩ := hS9
              have ck := (q0.cell (1 + k)).trans (gc_k g k hk)
              have cv := (q0.cell (9 + k)).trans (gc_v g k hk)
              have dk := (q1.cell (1 + k)).trans (gc_k h k hk)
              have dv := (q1.cell (9 + k)).trans (gc_v h k hk)
              clear q0 q1
              go_simp
            try simp only [Act.put, List.setIfInBounds_toArray, List.set_cons_zero, List.set_cons_succ]
            refine wpAnyN_take (i := 11) (oi := { dst := some 20, op := Go.Op.load 22 (Go.Operand.tmp 19), type := 22, pos := "ref.go:28", after := #[{ on := 10, ground := Go.Ground.data }, { on := 3, ground := Go.Ground.guard }], guard := some (3, true) }) (v := .int .u64 (h.k k : Nat)) rfl (by decide) (by kernel_rfl) (by kernel_rfl) (by kernel_rfl) (fun _ _ _ h => h) (Or.inl ⟨by rfl, ?_⟩) hS1 ?_
            · intro W9 hS9
              obtain ⟨q0, q1⟩ := hS9
              have ck := (q0.cell (1 + k)).trans (gc_k g k hk)
              have cv := (q0.cell (9 + k)).trans (gc_v g k hk)
              have dk := (q1.cell (1 + k)).trans (gc_k h k hk)
              have dv := (q1.cell (9 + k)).trans (gc_v h k hk)
              clear q0 q1
              go_simp
            try simp only [Act.put, List.setIfInBounds_toArray, List.set_cons_zero, List.set_cons_succ]
            refine wpAnyN_take (i := 12) (oi := { dst := some 21, op := Go.Op.binOp Go.BinOp.neq 22 (Go.Operand.tmp 16) (Go.Operand.tmp 20) 22, type := 4, pos := "ref.go:28", after := #[{ on := 7, ground := Go.Ground.data }, { on := 11, ground := Go.Ground.data }, { on := 3, ground := Go.Ground.guard }], guard := some (3, true) }) (v := .bool false) rfl (by decide) (by kernel_rfl) (by kernel_rfl) (by kernel_rfl) (fun _ _ _ h => h) (Or.inl ⟨by rfl, ?_⟩) hS1 ?_
            · intro W9 hS9
              obtain ⟨q0, q1⟩ := hS9
              have ck := (q0.cell (1 + k)).trans (gc_k g k hk)
              have cv := (q0.cell (9 + k)).trans (gc_v g k hk)
              have dk := (q1.cell (1 + k)).trans (gc_k h k hk)
              have dv := (q1.cell (9 + k)).trans (gc_v h k hk)
              clear q0 q1
              go_simp
            try simp only [Act.put, List.setIfInBounds_toArray, List.set_cons_zero, List.set_cons_succ]
            refine wpAnyN_take (i := 13) (oi := { dst := some 22, op := Go.Op.move (Go.Operand.tmp 21), type := 4, pos := "ref.go:28", after := #[{ on := 12, ground := Go.Ground.data }, { on := 3, ground := Go.Ground.chain }, { on := 3, ground := Go.Ground.guard }], guard := some (3, true) }) (v := .bool false) rfl (by decide) (by kernel_rfl) (by kernel_rfl) (by kernel_rfl) (fun _ _ _ h => h) (Or.inl ⟨by rfl, ?_⟩) hS1 ?_
            · intro W9 hS9
              obtain ⟨q0, q1⟩ := hS9
              have ck := (q0.cell (1 + k)).trans (gc_k g k hk)
              have cv := (q0.cell (9 + k)).trans (gc_v g k hk)
              have dk := (q1.cell (1 + k)).trans (gc_k h k hk)
              have dv := (q1.cell (9 + k)).trans (gc_v h k hk)
              clear q0 q1
              go_simp
            try simp only [Act.put, List.setIfInBounds_toArray, List.set_cons_zero, List.set_cons_succ]
            refine wpAnyN_take (i := 14) (oi := { dst := some 23, op := Go.Op.move (Go.Operand.tmp 5), type := 3, pos := "ref.go:28", after := #[{ on := 13, ground := Go.Ground.guard }], guard := some (13, false) }) (v := .int .i64 (k : Nat)) rfl (by decide) (by kernel_rfl) (by kernel_rfl) (by kernel_rfl) (fun _ _ _ h => h) (Or.inl ⟨by rfl, ?_⟩) hS1 ?_
            · intro W9 hS9
              obtain ⟨q0, q1⟩ := hS9
              have ck := (q0.cell (1 + k)).trans (gc_k g k hk)
              have cv := (q0.cell (9 + k)).trans (gc_v g k hk)
              have dk := (q1.cell (1 + k)).trans (gc_k h k hk)
              have dv := (q1.cell (9 + k)).trans (gc_v h k hk)
              clear q0 q1
              go_simp
            try simp only [Act.put, List.setIfInBounds_toArray, List.set_cons_zero, List.set_cons_succ]
            refine wpAnyN_take (i := 15) (oi := { dst := some 24, op := Go.Op.fieldAddr 25 (Go.Operand.tmp 2) 2, type := 0, pos := "ref.go:28", after := #[{ on := 13, ground := Go.Ground.guard }], guard := some (13, false) }) (v := .pointer (some ⟨w.heap.size, 9, none⟩)) rfl (by decide) (by kernel_rfl) (by kernel_rfl) (by kernel_rfl) (fun _ _ _ h => h) (Or.inl ⟨by rfl, ?_⟩) hS1 ?_
            · intro W9 hS9
              obtain ⟨q0, q1⟩ := hS9
              have ck := (q0.cell (1 + k)).trans (gc_k g k hk)
              have cv := (q0.cell (9 + k)).trans (gc_v g k hk)
              have dk := (q1.cell (1 + k)).trans (gc_k h k hk)
              have dv := (q1.cell (9 + k)).trans (gc_v h k hk)
              clear q0 q1
              go_simp
            try simp only [Act.put, List.setIfInBounds_toArray, List.set_cons_zero, List.set_cons_succ]
            refine wpAnyN_take (i := 16) (oi := { dst := some 25, op := Go.Op.indexAddr 23 (Go.Operand.tmp 24) (Go.Operand.tmp 23), type := 0, pos := "ref.go:28", after := #[{ on := 15, ground := Go.Ground.data }, { on := 14, ground := Go.Ground.data }, { on := 13, ground := Go.Ground.guard }], guard := some (13, false) }) (v := .pointer (some ⟨w.heap.size, 9 + k, none⟩)) rfl (by decide) (by kernel_rfl) (by kernel_rfl) (by kernel_rfl) (fun _ _ _ h => h) (Or.inl ⟨by rfl, ?_⟩) hS1 ?_
            · intro W9 hS9
              obtain ⟨q0, q1⟩ := hS9
              have ck := (q0.cell (1 + k)).trans (gc_k g k hk)
              have cv := (q0.cell (9 + k)).trans (gc_v g k hk)
              have dk := (q1.cell (1 + k)).trans (gc_k h k hk)
              have dv := (q1.cell (9 + k)).trans (gc_v h k hk)
              clear q0 q1
              go_simp
            try simp only [Act.put, List.setIfInBounds_toArray, List.set_cons_zero, List.set_cons_succ]
            refine wpAnyN_take (i := 17) (oi := { dst := some 26, op := Go.Op.load 22 (Go.Operand.tmp 25), type := 22, pos := "ref.go:28", after := #[{ on := 16, ground := Go.Ground.data }, { on := 13, ground := Go.Ground.guard }], guard := some (13, false) }) (v := .int .u64 (g.v k : Nat)) rfl (by decide) (by kernel_rfl) (by kernel_rfl) (by kernel_rfl) (fun _ _ _ h => h) (Or.inl ⟨by rfl, ?_⟩) hS1 ?_
            · intro W9 hS9
              obtain ⟨q0, q1⟩ := hS9
              have ck := (q0.cell (1 + k)).trans (gc_k g k hk)
              have cv := (q0.cell (9 + k)).trans (gc_v g k hk)
              have dk := (q1.cell (1 + k)).trans (gc_k h k hk)
              have dv := (q1.cell (9 + k)).trans (gc_v h k hk)
              clear q0 q1
              go_simp
            try simp only [Act.put, List.setIfInBounds_toArray, List.set_cons_zero, List.set_cons_succ]
            refine wpAnyN_take (i := 18) (oi := { dst := some 27, op := Go.Op.move (Go.Operand.tmp 5), type := 3, pos := "ref.go:28", after := #[{ on := 13, ground := Go.Ground.guard }], guard := some (13, false) }) (v := .int .i64 (k : Nat)) rfl (by decide) (by kernel_rfl) (by kernel_rfl) (by kernel_rfl) (fun _ _ _ h => h) (Or.inl ⟨by rfl, ?_⟩) hS1 ?_
            · intro W9 hS9
              obtain ⟨q0, q1⟩ := hS9
              have ck := (q0.cell (1 + k)).trans (gc_k g k hk)
              have cv := (q0.cell (9 + k)).trans (gc_v g k hk)
              have dk := (q1.cell (1 + k)).trans (gc_k h k hk)
              have dv := (q1.cell (9 + k)).trans (gc_v h k hk)
              clear q0 q1
              go_simp
            try simp only [Act.put, List.setIfInBounds_toArray, List.set_cons_zero, List.set_cons_succ]
            refine wpAnyN_take (i := 19) (oi := { dst := some 28, op := Go.Op.fieldAddr 25 (Go.Operand.tmp 3) 2, type := 0, pos := "ref.go:28", after := #[{ on := 13, ground := Go.Ground.guard }], guard := some (13, false) }) (v := .pointer (some ⟨w.heap.size + 1, 9, none⟩)) rfl (by decide) (by kernel_rfl) (by kernel_rfl) (by kernel_rfl) (fun _ _ _ h => h) (Or.inl ⟨by rfl, ?_⟩) hS1 ?_
            · intro W9 hS9
              obtain ⟨q0, q1⟩ := hS9
              have ck := (q0.cell (1 + k)).trans (gc_k g k hk)
              have cv := (q0.cell (9 + k)).trans (gc_v g k hk)
              have dk := (q1.cell (1 + k)).trans (gc_k h k hk)
              have dv := (q1.cell (9 + k)).trans (gc_v h k hk)
              clear q0 q1
              go_simp
            try simp only [Act.put, List.setIfInBounds_toArray, List.set_cons_zero, List.set_cons_succ]
            refine wpAnyN_take (i := 20) (oi := { dst := some 29, op := Go.Op.indexAddr 23 (Go.Operand.tmp 28) (Go.Operand.tmp 27), type := 0, pos := "ref.go:28", after := #[{ on := 19, ground := Go.Ground.data }, { on := 18, ground := Go.Ground.data }, { on := 13, ground := Go.Ground.guard }], guard := some (13, false) }) (v := .pointer (some ⟨w.heap.size + 1, 9 + k, none⟩)) rfl (by decide) (by kernel_rfl) (by kernel_rfl) (by kernel_rfl) (fun _ _ _ h => h) (Or.inl ⟨by rfl, ?_⟩) hS1 ?_
            · intro W9 hS9
              obtain ⟨q0, q1⟩ := hS9
              have ck := (q0.cell (1 + k)).trans (gc_k g k hk)
              have cv := (q0.cell (9 + k)).trans (gc_v g k hk)
              have dk := (q1.cell (1 + k)).trans (gc_k h k hk)
              have dv := (q1.cell (9 + k)).trans (gc_v h k hk)
              clear q0 q1
              go_simp
            try simp only [Act.put, List.setIfInBounds_toArray, List.set_cons_zero, List.set_cons_succ]
            refine wpAnyN_take (i := 21) (oi := { dst := some 30, op := Go.Op.load 22 (Go.Operand.tmp 29), type := 22, pos := "ref.go:28", after := #[{ on := 20, ground := Go.Ground.data }, { on := 13, ground := Go.Ground.guard }], guard := some (13, false) }) (v := .int .u64 (h.v k : Nat)) rfl (by decide) (by kernel_rfl) (by kernel_rfl) (by kernel_rfl) (fun _ _ _ h => h) (Or.inl ⟨by rfl, ?_⟩) hS1 ?_
            · intro W9 hS9
              obtain ⟨q0, q1⟩ := hS9
              have ck := (q0.cell (1 + k)).trans (gc_k g k hk)
              have cv := (q0.cell (9 + k)).trans (gc_v g k hk)
              have dk := (q1.cell (1 + k)).trans (gc_k h k hk)
              have dv := (q1.cell (9 + k)).trans (gc_v h k hk)
              clear q0 q1
              go_simp
            try simp only [Act.put, List.setIfInBounds_toArray, List.set_cons_zero, List.set_cons_succ]
            refine wpAnyN_take (i := 22) (oi := { dst := some 31, op := Go.Op.binOp Go.BinOp.neq 22 (Go.Operand.tmp 26) (Go.Operand.tmp 30) 22, type := 4, pos := "ref.go:28", after := #[{ on := 17, ground := Go.Ground.data }, { on := 21, ground := Go.Ground.data }, { on := 13, ground := Go.Ground.guard }], guard := some (13, false) }) (v := .bool true) rfl (by decide) (by kernel_rfl) (by kernel_rfl) (by kernel_rfl) (fun _ _ _ h => h) (Or.inl ⟨by rfl, ?_⟩) hS1 ?_
            · intro W9 hS9
              obtain ⟨q0, q1⟩ := hS9
              have ck := (q0.cell (1 + k)).trans (gc_k g k hk)
              have cv := (q0.cell (9 + k)).trans (gc_v g k hk)
              have dk := (q1.cell (1 + k)).trans (gc_k h k hk)
              have dv := (q1.cell (9 + k)).trans (gc_v h k hk)
              clear q0 q1
              go_simp
            try simp only [Act.put, List.setIfInBounds_toArray, List.set_cons_zero, List.set_cons_succ]
            refine wpAnyN_take (i := 23) (oi := { dst := some 32, op := Go.Op.pick (Go.Operand.tmp 22) (Go.Operand.const (Go.Value.bool true)) (Go.Operand.tmp 31), type := 4, pos := "ref.go:28", after := #[{ on := 13, ground := Go.Ground.data }, { on := 22, ground := Go.Ground.data }, { on := 3, ground := Go.Ground.guard }], guard := some (3, true) }) (v := .bool true) rfl (by decide) (by kernel_rfl) (by kernel_rfl) (by kernel_rfl) (fun _ _ _ h => h) (Or.inl ⟨by rfl, ?_⟩) hS1 ?_
            · intro W9 hS9
              obtain ⟨q0, q1⟩ := hS9
              clear q0 q1
              go_simp
            try simp only [Act.put, List.setIfInBounds_toArray, List.set_cons_zero, List.set_cons_succ]
            refine wpAnyN_take (i := 24) (oi := { dst := some 33, op := Go.Op.pick (Go.Operand.tmp 12) (Go.Operand.tmp 32) (Go.Operand.const (Go.Value.bool false)), type := 4, pos := "ref.go:28", after := #[{ on := 3, ground := Go.Ground.data }, { on := 23, ground := Go.Ground.data }], guard := none }) (v := .bool true) rfl (by decide) (by kernel_rfl) (by kernel_rfl) (by kernel_rfl) (fun _ _ _ h => h) (Or.inl ⟨by rfl, ?_⟩) hS1 ?_
            · intro W9 hS9
              obtain ⟨q0, q1⟩ := hS9
              clear q0 q1
              go_simp
            try simp only [Act.put, List.setIfInBounds_toArray, List.set_cons_zero, List.set_cons_succ]
            refine wpAnyX_end (by kernel_rfl) ?_
            have HG1 := Lib.hid hS1.1
            have HH1 := Lib.hid hS1.2
            have HB1 := Lib.hid hB1
            clear hS0 hS1 hB0 hB1 hC
            go_wp2_with fail
            go_ret
            exact ⟨by rw [HNO.out]; rfl, HB1.out⟩
          · have hnv : (((g.v k : Nat) : Int) != ((h.v k : Nat) : Int)) = false := by rw [natNe_walk, hvv]; rfl
            have HAG : Hid (byt g.c k < 128 → g.k k = h.k k ∧ g.v k = h.v k) := Lib.hid (fun _ => ⟨HKE.out, by simpa using hvv⟩)
            clear hvv
            go_wp2_with fail
            refine wp_region_X (fun W' => Rows8 W' w.heap.size 25 (gc g) ∧ Rows8 W' (w.heap.size + 1) 25 (gc h)) 25 (by kernel_rfl) ?_
            have hS0 : Rows8 wr.drew w.heap.size 25 (gc g) ∧ Rows8 wr.drew (w.heap.size + 1) 25 (gc h) := ⟨hG.out.drew, hH.out.drew⟩
            have hB0 := hB.out.drew
            generalize wr.drew = Wd at *
            refine wpAnyN_take (i := 0) (oi := { dst := some 9, op := Go.Op.load 25 (Go.Operand.tmp 2), type := 25, pos := "ref.go:28", after := #[], guard := none }) (v := .agg (gc g)) rfl (by decide) (by kernel_rfl) (by kernel_rfl) (by kernel_rfl) (fun _ _ _ h => h) (Or.inl ⟨by rfl, ?_⟩) hS0 ?_
            · intro W9 hS9
              obtain ⟨q0, q1⟩ := hS9
              exact exec_load 25 _ rfl ⟨w.heap.size, 0, none⟩ _ (by simp [go_sem]) (Try.load_group q0)
            try simp only [Act.put, List.setIfInBounds_toArray, List.set_cons_zero, List.set_cons_succ]
            refine wpAnyN_take (i := 1) (oi := { dst := some 10, op := Go.Op.move (Go.Operand.tmp 5), type := 3, pos := "ref.go:28", after := #[], guard := none }) (v := .int .i64 (k : Nat)) rfl (by decide) (by kernel_rfl) (by kernel_rfl) (by kernel_rfl) (fun _ _ _ h => h) (Or.inl ⟨by rfl, ?_⟩) hS0 ?_
            · intro W9 hS9
              obtain ⟨q0, q1⟩ := hS9
              clear q0 q1
              go_simp
            try simp only [Act.put, List.setIfInBounds_toArray, List.set_cons_zero, List.set_cons_succ]
            refine wpAnyX_one (i := 2) (o := { dst := some 11, op := Go.Op.call { callee := Go.Callee.value (Go.Operand.func 34), args := #[Go.Operand.tmp 9, Go.Operand.tmp 10], argTypes := #[25, 3] }, type := 4, pos := "ref.go:28", after := #[{ on := 0, ground := Go.Ground.data }, { on := 1, ground := Go.Ground.data }], guard := none }) (by kernel_rfl) rfl (fun K hK => ?_)
            refine step_call_g (by rfl) 34 _ _ rfl (fun _ _ => by kernel_rfl) #[.agg (gc g), .int .i64 (k : Nat)] (by simp [go_sem]) _ (HFk Wd).out ?_
            rintro e W1 ⟨rfl, hC⟩
            refine ⟨_, rfl, ?_⟩
            have hS1 : Rows8 W1 w.heap.size 25 (gc g) ∧ Rows8 W1 (w.heap.size + 1) 25 (gc h) := ⟨hS0.1.below hC hS0.1.lt, hS0.2.below hC hS0.2.lt⟩
            have hB1 := hB0.trans (hC.mono hB0.size)
            refine hK.out _ _ (fun _ => hS1) ?_
            clear hK K
            try simp only [Act.put, List.setIfInBounds_toArray, List.set_cons_zero, List.set_cons_succ]
            refine wpAnyN_take (i := 3) (oi := { dst := some 12, op := Go.Op.move (Go.Operand.tmp 11), type := 4, pos := "ref.go:28", after := #[{ on := 2, ground := Go.Ground.data }, { on := 2, ground := Go.Ground.chain }], guard := none }) (v := .bool true) rfl (by decide) (by kernel_rfl) (by kernel_rfl) (by kernel_rfl) (fun _ _ _ h => h) (Or.inl ⟨by rfl, ?_⟩) hS1 ?_
            · intro W9 hS9
              obtain ⟨q0, q1⟩ := hS9
              clear q0 q1
              go_simp
            try simp only [Act.put, List.setIfInBounds_toArray, List.set_cons_zero, List.set_cons_succ]
            refine wpAnyN_take (i := 4) (oi := { dst := some 13, op := Go.Op.move (Go.Operand.tmp 5), type := 3, pos := "ref.go:28", after := #[{ on := 3, ground := Go.Ground.guard }], guard := some (3, true) }) (v := .int .i64 (k : Nat)) rfl (by decide) (by kernel_rfl) (by kernel_rfl) (by kernel_rfl) (fun _ _ _ h => h) (Or.inl ⟨by rfl, ?_⟩) hS1 ?_
            · intro W9 hS9
              obtain ⟨q0, q1⟩ := hS9
              have ck := (q0.cell (1 + k)).trans (gc_k g k hk)
              have cv := (q0.cell (9 + k)).trans (gc_v g k hk)
              have dk := (q1.cell (1 + k)).trans (gc_k h k hk)
              have dv := (q1.cell (9 + k)).trans (gc_v h k hk)
              clear q0 q1
              go_simp
            try simp only [Act.put, List.setIfInBounds_toArray, List.set_cons_zero, List.set_cons_succ]
            refine wpAnyN_take (i := 5) (oi := { dst := some 14, op := Go.Op.fieldAddr 25 (Go.Operand.tmp 2) 1, type := 0, pos := "ref.go:28", after := #[{ on := 3, ground := Go.Ground.guard }], guard := some (3, true) }) (v := .pointer (some ⟨w.heap.size, 1, none⟩)) rfl (by decide) (by kernel_rfl) (by kernel_rfl) (by kernel_rfl) (fun _ _ _ h => h) (Or.inl ⟨by rfl, ?_⟩) hS1 ?_
            · intro W9 hS9
              obtain ⟨q0, q1⟩ := hS9
              have ck := (q0.cell (1 + k)).trans (gc_k g k hk)
              have cv := (q0.cell (9 + k)).trans (gc_v g k hk)
              have dk := (q1.cell (1 + k)).trans (gc_k h k hk)
              have dv := (q1.cell (9 + k)).trans (gc_v h k hk)
              clear q0 q1
              go_simp
            try simp only [Act.put, List.setIfInBounds_toArray, List.set_cons_zero, List.set_cons_succ]
            refine wpAnyN_take (i := 6) (oi := { dst := some 15, op := Go.Op.indexAddr 23 (Go.Operand.tmp 14) (Go.Operand.tmp 13), type := 0, pos := "ref.go:28", after := #[{ on := 5, ground := Go.Ground.data }, { on := 4, ground := Go.Ground.data }, { on := 3, ground := Go.Ground.guard }], guard := some (3, true) }) (v := .pointer (some ⟨w.heap.size, 1 + k, none⟩)) rfl (by decide) (by kernel_rfl) (by kernel_rfl) (by kernel_rfl) (fun _ _ _ h => h) (Or.inl ⟨by rfl, ?_⟩) hS1 ?_
            · intro W9 hS9
              obtain ⟨q0, q1⟩ := hS9
              have ck := (q0.cell (1 + k)).trans (gc_k g k hk)
              have cv := (q0.cell (9 + k)).trans (gc_v g k hk)
              have dk := (q1.cell (1 + k)).trans (gc_k h k hk)
              have dv := (q1.cell (9 + k)).trans (gc_v h k hk)
              clear q0 q1
              go_simp
            try simp only [Act.put, List.setIfInBounds_toArray, List.set_cons_zero, List.set_cons_succ]
            refine wpAnyN_take (i := 7) (oi := { dst := some 16, op := Go.Op.load 22 (Go.Operand.tmp 15), type := 22, pos := "ref.go:28", after := #[{ on := 6, ground := Go.Ground.data }, { on := 3, ground := Go.Ground.guard }], guard := some (3, true) }) (v := .int .u64 (g.k k : Nat)) rfl (by decide) (by kernel_rfl) (by kernel_rfl) (by kernel_rfl) (fun _ _ _ h => h) (Or.inl ⟨by rfl, ?_⟩) hS1 ?_
            · intro W9 hS9
              obtain ⟨q0, q1⟩ := hS9
              have ck := (q0.cell (1 + k)).trans (gc_k g k hk)
              have cv := (q0.cell (9 + k)).trans (gc_v g k hk)
              have dk := (q1.cell (1 + k)).trans (gc_k h k hk)
              have dv := (q1.cell (9 + k)).trans (gc_v h k hk)
              clear q0 q1
              go_simp
            try simp only [Act.put, List.setIfInBounds_toArray, List.set_cons_zero, List.set_cons_succ]
            refine wpAnyN_take (i := 8) (oi := { dst := some 17, op := Go.Op.move (Go.Operand.tmp 5), type := 3, pos := "ref.go:28", after := #[{ on := 3, ground := Go.Ground.guard }], guard := some (3, true) }) (v := .int .i64 (k : Nat)) rfl (by decide) (by kernel_rfl) (by kernel_rfl) (by kernel_rfl) (fun _ _ _ h => h) (Or.inl ⟨by rfl, ?_⟩) hS1 ?_
            · intro W9 hS9
              obtain ⟨q0, q1⟩ := hS9
              have ck := (q0.cell (1 + k)).trans (gc_k g k hk)
              have cv := (q0.cell (9 + k)).trans (gc_v g k hk)
              have dk := (q1.cell (1 + k)).trans (gc_k h k hk)
              have dv := (q1.cell (9 + k)).trans (gc_v h k hk)
              clear q0 q1
              go_simp
            try simp only [Act.put, List.setIfInBounds_toArray, List.set_cons_zero, List.set_cons_succ]
            refine wpAnyN_take (i := 9) (oi := { dst := some 18, op := Go.Op.fieldAddr 25 (Go.Operand.tmp 3) 1, type := 0, pos := "ref.go:28", after := #[{ on := 3, ground := Go.Ground.guard }], guard := some (3, true) }) (v := .pointer (some ⟨w.heap.size + 1, 1, none⟩)) rfl (by decide) (by kernel_rfl) (by kernel_rfl) (by kernel_rfl) (fun _ _ _ h => h) (Or.inl ⟨by rfl, ?_⟩) hS1 ?_
            · intro W9 hS9
              obtain ⟨q0, q1⟩ := hS9
              have ck := (q0.cell (1 + k)).trans (gc_k g k hk)
              have cv := (q0.cell (9 + k)).trans (gc_v g k hk)
              have dk := (q1.cell (1 + k)).trans (gc_k h k hk)
              have dv := (q1.cell (9 + k)).trans (gc_v h k hk)
              clear q0 q1
              go_simp
            try simp only [Act.put, List.setIfInBounds_toArray, List.set_cons_zero, List.set_cons_succ]
            refine wpAnyN_take (i := 10) (oi := { dst := some 19, op := Go.Op.indexAddr 23 (Go.Operand.tmp 18) (Go.Operand.tmp 17), type := 0, pos := "ref.go:28", after := #[{ on := 9, ground := Go.Ground.data }, { on := 8, ground := Go.Ground.data }, { on := 3, ground := Go.Ground.guard }], guard := some (3, true) }) (v := .pointer (some ⟨w.heap.size + 1, 1 + k, none⟩)) rfl (by decide) (by kernel_rfl) (by kernel_rfl) (by kernel_rfl) (fun _ _ _ h => h) (Or.inl ⟨by rfl, ?_⟩) hS1 ?_
            · intro W9 hS9
              obtain ⟨q0, q1⟩ := hS9
              have ck := (q0.cell (1 + k)).trans (gc_k g k hk)
              have cv := (q0.cell (9 + k)).trans (gc_v g k hk)
              have dk := (q1.cell (1 + k)).trans (gc_k h k hk)
              have dv := (q1.cell (9 + k)).trans (gc_v h k hk)
              clear q0 q1
              go_simp
            try simp only [Act.put, List.setIfInBounds_toArray, List.set_cons_zero, List.set_cons_succ]
            refine wpAnyN_take (i := 11) (oi := { dst := some 20, op := Go.Op.load 22 (Go.Operand.tmp 19), type := 22, pos := "ref.go:28", after := #[{ on := 10, ground := Go.Ground.data }, { on := 3, ground := Go.Ground.guard }], guard := some (3, true) }) (v := .int .u64 (h.k k : Nat)) rfl (by decide) (by kernel_rfl) (by kernel_rfl) (by kernel_rfl) (fun _ _ _ h => h) (Or.inl ⟨by rfl, ?_⟩) hS1 ?_
            · intro W9 hS9
              obtain ⟨q0, q1⟩ := hS9
              have ck := (q0.cell (1 + k)).trans (gc_k g k hk)
              have cv := (q0.cell (9 + k)).trans (gc_v g k hk)
              have dk := (q1.cell (1 + k)).trans (gc_k h k hk)
              have dv := (q1.cell (9 + k)).trans (gc_v h k hk)
              clear q0 q1
              go_simp
            try simp only [Act.put, List.setIfInBounds_toArray, List.set_cons_zero, List.set_cons_succ]
            refine wpAnyN_take (i := 12) (oi := { dst := some 21, op := Go.Op.binOp Go.BinOp.neq 22 (Go.Operand.tmp 16) (Go.Operand.tmp 20) 22, type := 4, pos := "ref.go:28", after := #[{ on := 7, ground := Go.Ground.data }, { on := 11, ground := Go.Ground.data }, { on := 3, ground := Go.Ground.guard }], guard := some (3, true) }) (v := .bool false) rfl (by decide) (by kernel_rfl) (by kernel_rfl) (by kernel_rfl) (fun _ _ _ h => h) (Or.inl ⟨by rfl, ?_⟩) hS1 ?_
            · intro W9 hS9
              obtain ⟨q0, q1⟩ := hS9
              have ck := (q0.cell (1 + k)).trans (gc_k g k hk)
              have cv := (q0.cell (9 + k)).trans (gc_v g k hk)
              have dk := (q1.cell (1 + k)).trans (gc_k h k hk)
              have dv := (q1.cell (9 + k)).trans (gc_v h k hk)
              clear q0 q1
              go_simp
            try simp only [Act.put, List.setIfInBounds_toArray, List.set_cons_zero, List.set_cons_succ]
            refine wpAnyN_take (i := 13) (oi := { dst := some 22, op := Go.Op.move (Go.Operand.tmp 21), type := 4, pos := "ref.go:28", after := #[{ on := 12, ground := Go.Ground.data }, { on := 3, ground := Go.Ground.chain }, { on := 3, ground := Go.Ground.guard }], guard := some (3, true) }) (v := .bool false) rfl (by decide) (by kernel_rfl) (by kernel_rfl) (by kernel_rfl) (fun _ _ _ h => h) (Or.inl ⟨by rfl, ?_⟩) hS1 ?_
            · intro W9 hS9
              obtain ⟨q0, q1⟩ := hS9
              have ck := (q0.cell (1 + k)).trans (gc_k g k hk)
              have cv := (q0.cell (9 + k)).trans (gc_v g k hk)
              have dk := (q1.cell (1 + k)).trans (gc_k h k hk)
              have dv := (q1.cell (9 + k)).trans (gc_v h k hk)
              clear q0 q1
              go_simp
            try simp only [Act.put, List.setIfInBounds_toArray, List.set_cons_zero, List.set_cons_succ]
            refine wpAnyN_take (i := 14) (oi := { dst := some 23, op := Go.Op.move (Go.Operand.tmp 5), type := 3, pos := "ref.go:28", after := #[{ on := 13, ground := Go.Ground.guard }], guard := some (13, false) }) (v := .int .i64 (k : Nat)) rfl (by decide) (by kernel_rfl) (by kernel_rfl) (by kernel_rfl) (fun _ _ _ h => h) (Or.inl ⟨by rfl, ?_⟩) hS1 ?_
            · intro W9 hS9
              obtain ⟨q0, q1⟩ := hS9
              have ck := (q0.cell (1 + k)).trans (gc_k g k hk)
              have cv := (q0.cell (9 + k)).trans (gc_v g k hk)
              have dk := (q1.cell (1 + k)).trans (gc_k h k hk)
              have dv := (q1.cell (9 + k)).trans (gc_v h k hk)
              clear q0 q1
              go_simp
            try simp only [Act.put, List.setIfInBounds_toArray, List.set_cons_zero, List.set_cons_succ]
            refine wpAnyN_take (i := 15) (oi := { dst := some 24, op := Go.Op.fieldAddr 25 (Go.Operand.tmp 2) 2, type := 0, pos := "ref.go:28", after := #[{ on := 13, ground := Go.Ground.guard }], guard := some (13, false) }) (v := .pointer (some ⟨w.heap.size, 9, none⟩)) rfl (by decide) (by kernel_rfl) (by kernel_rfl) (by kernel_rfl) (fun _ _ _ h => h) (Or.inl ⟨by rfl, ?_⟩) hS1 ?_
            · intro W9 hS9
              obtain ⟨q0, q1⟩ := hS9
              have ck := (q0.cell (1 + k)).trans (gc_k g k hk)
              have cv := (q0.cell (9 + k)).trans (gc_v g k hk)
              have dk := (q1.cell (1 + k)).trans (gc_k h k hk)
              have dv := (q1.cell (9 + k)).trans (gc_v h k hk)
              clear q0 q1
              go_simp
            try simp only [Act.put, List.setIfInBounds_toArray, List.set_cons_zero, List.set_cons_succ]
            refine wpAnyN_take (i := 16) (oi := { dst := some 25, op := Go.Op.indexAddr 23 (Go.Operand.tmp 24) (Go.Operand.tmp 23), type := 0, pos := "ref.go:28", after := #[{ on := 15, ground := Go.Ground.data }, { on := 14, ground := Go.Ground.data }, { on := 13, ground := Go.Ground.guard }], guard := some (13, false) }) (v := .pointer (some ⟨w.heap.size, 9 + k, none⟩)) rfl (by decide) (by kernel_rfl) (by kernel_rfl) (by kernel_rfl) (fun _ _ _ h => h) (Or.inl ⟨by rfl, ?_⟩) hS1 ?_
            · intro W9 hS9
              obtain ⟨q0, q1⟩ := hS9
              have ck := (q0.cell (1 + k)).trans (gc_k g k hk)
              have cv := (q0.cell (9 + k)).trans (gc_v g k hk)
              have dk := (q1.cell (1 + k)).trans (gc_k h k hk)
              have dv := (q1.cell (9 + k)).trans (gc_v h k hk)
              clear q0 q1
              go_simp
            try simp only [Act.put, List.setIfInBounds_toArray, List.set_cons_zero, List.set_cons_succ]
            refine wpAnyN_take (i := 17) (oi := { dst := some 26, op := Go.Op.load 22 (Go.Operand.tmp 25), type := 22, pos := "ref.go:28", after := #[{ on := 16, ground := Go.Ground.data }, { on := 13, ground := Go.Ground.guard }], guard := some (13, false) }) (v := .int .u64 (g.v k : Nat)) rfl (by decide) (by kernel_rfl) (by kernel_rfl) (by kernel_rfl) (fun _ _ _ h => h) (Or.inl ⟨by rfl, ?_⟩) hS1 ?_
            · intro W9 hS9
              obtain ⟨q0, q1⟩ := hS9
              have ck := (q0.cell (1 + k)).trans (gc_k g k hk)
              have cv := (q0.cell (9 + k)).trans (gc_v g k hk)
              have dk := (q1.cell (1 + k)).trans (gc_k h k hk)
              have dv := (q1.cell (9 + k)).trans (gc_v h k hk)
              clear q0 q1
              go_simp
            try simp only [Act.put, List.setIfInBounds_toArray, List.set_cons_zero, List.set_cons_succ]
            refine wpAnyN_take (i := 18) (oi := { dst := some 27, op := Go.Op.move (Go.Operand.tmp 5), type := 3, pos := "ref.go:28", after := #[{ on := 13, ground := Go.Ground.guard }], guard := some (13, false) }) (v := .int .i64 (k : Nat)) rfl (by decide) (by kernel_rfl) (by kernel_rfl) (by kernel_rfl) (fun _ _ _ h => h) (Or.inl ⟨by rfl, ?_⟩) hS1 ?_
            · intro W9 hS9
              obtain ⟨q0, q1⟩ := hS9
              have ck := (q0.cell (1 + k)).trans (gc_k g k hk)
              have cv := (q0.cell (9 + k)).trans (gc_v g k hk)
              have dk := (q1.cell (1 + k)).trans (gc_k h k hk)
              have dv := (q1.cell (9 + k)).trans (gc_v h k hk)
              clear q0 q1
              go_simp
            try simp only [Act.put, List.setIfInBounds_toArray, List.set_cons_zero, List.set_cons_succ]
            refine wpAnyN_take (i := 19) (oi := { dst := some 28, op := Go.Op.fieldAddr 25 (Go.Operand.tmp 3) 2, type := 0, pos := "ref.go:28", after := #[{ on := 13, ground := Go.Ground.guard }], guard := some (13, false) }) (v := .pointer (some ⟨w.heap.size + 1, 9, none⟩)) rfl (by decide) (by kernel_rfl) (by kernel_rfl) (by kernel_rfl) (fun _ _ _ h => h) (Or.inl ⟨by rfl, ?_⟩) hS1 ?_
            · intro W9 hS9
              obtain ⟨q0, q1⟩ := hS9
              have ck := (q0.cell (1 + k)).trans (gc_k g k hk)
              have cv := (q0.cell (9 + k)).trans (gc_v g k hk)
              have dk := (q1.cell (1 + k)).trans (gc_k h k hk)
              have dv := (q1.cell (9 + k)).trans (gc_v h k hk)
              clear q0 q1
              go_simp
            try simp only [Act.put, List.setIfInBounds_toArray, List.set_cons_zero, List.set_cons_succ]
            refine wpAnyN_take (i := 20) (oi := { dst := some 29, op := Go.Op.indexAddr 23 (Go.Operand.tmp 28) (Go.Operand.tmp 27), type := 0, pos := "ref.go:28", after := #[{ on := 19, ground := Go.Ground.data }, { on := 18, ground := Go.Ground.data }, { on := 13, ground := Go.Ground.guard }], guard := some (13, false) }) (v := .pointer (some ⟨w.heap.size + 1, 9 + k, none⟩)) rfl (by decide) (by kernel_rfl) (by kernel_rfl) (by kernel_rfl) (fun _ _ _ h => h) (Or.inl ⟨by rfl, ?_⟩) hS1 ?_
            · intro W9 hS9
              obtain ⟨q0, q1⟩ := hS9
              have ck := (q0.cell (1 + k)).trans (gc_k g k hk)
              have cv := (q0.cell (9 + k)).trans (gc_v g k hk)
              have dk := (q1.cell (1 + k)).trans (gc_k h k hk)
              have dv := (q1.cell (9 + k)).trans (gc_v h k hk)
              clear q0 q1
              go_simp
            try simp only [Act.put, List.setIfInBounds_toArray, List.set_cons_zero, List.set_cons_succ]
            refine wpAnyN_take (i := 21) (oi := { dst := some 30, op := Go.Op.load 22 (Go.Operand.tmp 29), type := 22, pos := "ref.go:28", after := #[{ on := 20, ground := Go.Ground.data }, { on := 13, ground := Go.Ground.guard }], guard := some (13, false) }) (v := .int .u64 (h.v k : Nat)) rfl (by decide) (by kernel_rfl) (by kernel_rfl) (by kernel_rfl) (fun _ _ _ h => h) (Or.inl ⟨by rfl, ?_⟩) hS1 ?_
            · intro W9 hS9
              obtain ⟨q0, q1⟩ := hS9
              have ck := (q0.cell (1 + k)).trans (gc_k g k hk)
              have cv := (q0.cell (9 + k)).trans (gc_v g k hk)
              have dk := (q1.cell (1 + k)).trans (gc_k h k hk)
              have dv := (q1.cell (9 + k)).trans (gc_v h k hk)
              clear q0 q1
              go_simp
            try simp only [Act.put, List.setIfInBounds_toArray, List.set_cons_zero, List.set_cons_succ]
            refine wpAnyN_take (i := 22) (oi := { dst := some 31, op := Go.Op.binOp Go.BinOp.neq 22 (Go.Operand.tmp 26) (Go.Operand.tmp 30) 22, type := 4, pos := "ref.go:28", after := #[{ on := 17, ground := Go.Ground.data }, { on := 21, ground := Go.Ground.data }, { on := 13, ground := Go.Ground.guard }], guard := some (13, false) }) (v := .bool false) rfl (by decide) (by kernel_rfl) (by kernel_rfl) (by kernel_rfl) (fun _ _ _ h => h) (Or.inl ⟨by rfl, ?_⟩) hS1 ?_
            · intro W9 hS9
              obtain ⟨q0, q1⟩ := hS9
              have ck := (q0.cell (1 + k)).trans (gc_k g k hk)
              have cv := (q0.cell (9 + k)).trans (gc_v g k hk)
              have dk := (q1.cell (1 + k)).trans (gc_k h k hk)
              have dv := (q1.cell (9 + k)).trans (gc_v h k hk)
              clear q0 q1
              go_simp
            try simp only [Act.put, List.setIfInBounds_toArray, List.set_cons_zero, List.set_cons_succ]
            refine wpAnyN_take (i := 23) (oi := { dst := some 32, op := Go.Op.pick (Go.Operand.tmp 22) (Go.Operand.const (Go.Value.bool true)) (Go.Operand.tmp 31), type := 4, pos := "ref.go:28", after := #[{ on := 13, ground := Go.Ground.data }, { on := 22, ground := Go.Ground.data }, { on := 3, ground := Go.Ground.guard }], guard := some (3, true) }) (v := .bool false) rfl (by decide) (by kernel_rfl) (by kernel_rfl) (by kernel_rfl) (fun _ _ _ h => h) (Or.inl ⟨by rfl, ?_⟩) hS1 ?_
            · intro W9 hS9
              obtain ⟨q0, q1⟩ := hS9
              clear q0 q1
              go_simp
            try simp only [Act.put, List.setIfInBounds_toArray, List.set_cons_zero, List.set_cons_succ]
            refine wpAnyN_take (i := 24) (oi := { dst := some 33, op := Go.Op.pick (Go.Operand.tmp 12) (Go.Operand.tmp 32) (Go.Operand.const (Go.Value.bool false)), type := 4, pos := "ref.go:28", after := #[{ on := 3, ground := Go.Ground.data }, { on := 23, ground := Go.Ground.data }], guard := none }) (v := .bool false) rfl (by decide) (by kernel_rfl) (by kernel_rfl) (by kernel_rfl) (fun _ _ _ h => h) (Or.inl ⟨by rfl, ?_⟩) hS1 ?_
            · intro W9 hS9
              obtain ⟨q0, q1⟩ := hS9
              clear q0 q1
              go_simp
            try simp only [Act.put, List.setIfInBounds_toArray, List.set_cons_zero, List.set_cons_succ]
            refine wpAnyX_end (by kernel_rfl) ?_
            have HG1 := Lib.hid hS1.1
            have HH1 := Lib.hid hS1.2
            have HB1 := Lib.hid hB1
            clear hS0 hS1 hB0 hB1 hC
            go_wp2_with fail
            go_roundw
            case rel => exact ⟨k + 1, by omega, by go_num, Lib.hid (fun j hj hf => by
              rcases Nat.lt_or_ge j k with h1 | h1
              · exact hno.out j h1 hf
              · obtain rfl : j = k := by omega
                exact HAG.out hf), HG1, HH1, HB1⟩
            case measure => simp [intOf] <;> omega
      · rw [decide_eq_false hf] at HFk
        have HAG : Hid (byt g.c k < 128 → g.k k = h.k k ∧ g.v k = h.v k) := Lib.hid (fun e => absurd e hf)
        clear hf
        go_wp2_with fail
        refine wp_region_X (fun W' => Rows8 W' w.heap.size 25 (gc g) ∧ Rows8 W' (w.heap.size + 1) 25 (gc h)) 25 (by kernel_rfl) ?_
        have hS0 : Rows8 wr.drew w.heap.size 25 (gc g) ∧ Rows8 wr.drew (w.heap.size + 1) 25 (gc h) := ⟨hG.out.drew, hH.out.drew⟩
        have hB0 := hB.out.drew
        generalize wr.drew = Wd at *
        refine wpAnyN_take (i := 0) (oi := { dst := some 9, op := Go.Op.load 25 (Go.Operand.tmp 2), type := 25, pos := "ref.go:28", after := #[], guard := none }) (v := .agg (gc g)) rfl (by decide) (by kernel_rfl) (by kernel_rfl) (by kernel_rfl) (fun _ _ _ h => h) (Or.inl ⟨by rfl, ?_⟩) hS0 ?_
        · intro W9 hS9
          obtain ⟨q0, q1⟩ := hS9
          exact exec_load 25 _ rfl ⟨w.heap.size, 0, none⟩ _ (by simp [go_sem]) (Try.load_group q0)
        try simp only [Act.put, List.setIfInBounds_toArray, List.set_cons_zero, List.set_cons_succ]
        refine wpAnyN_take (i := 1) (oi := { dst := some 10, op := Go.Op.move (Go.Operand.tmp 5), type := 3, pos := "ref.go:28", after := #[], guard := none }) (v := .int .i64 (k : Nat)) rfl (by decide) (by kernel_rfl) (by kernel_rfl) (by kernel_rfl) (fun _ _ _ h => h) (Or.inl ⟨by rfl, ?_⟩) hS0 ?_
        · intro W9 hS9
          obtain ⟨q0, q1⟩ := hS9
          clear q0 q1
          go_simp
        try simp only [Act.put, List.setIfInBounds_toArray, List.set_cons_zero, List.set_cons_succ]
        refine wpAnyX_one (i := 2) (o := { dst := some 11, op := Go.Op.call { callee := Go.Callee.value (Go.Operand.func 34), args := #[Go.Operand.tmp 9, Go.Operand.tmp 10], argTypes := #[25, 3] }, type := 4, pos := "ref.go:28", after := #[{ on := 0, ground := Go.Ground.data }, { on := 1, ground := Go.Ground.data }], guard := none }) (by kernel_rfl) rfl (fun K hK => ?_)
        refine step_call_g (by rfl) 34 _ _ rfl (fun _ _ => by kernel_rfl) #[.agg (gc g), .int .i64 (k : Nat)] (by simp [go_sem]) _ (HFk Wd).out ?_
        rintro e W1 ⟨rfl, hC⟩
        refine ⟨_, rfl, ?_⟩
        have hS1 : Rows8 W1 w.heap.size 25 (gc g) ∧ Rows8 W1 (w.heap.size + 1) 25 (gc h) := ⟨hS0.1.below hC hS0.1.lt, hS0.2.below hC hS0.2.lt⟩
        have hB1 := hB0.trans (hC.mono hB0.size)
        refine hK.out _ _ (fun _ => hS1) ?_
        clear hK K
        try simp only [Act.put, List.setIfInBounds_toArray, List.set_cons_zero, List.set_cons_succ]
        refine wpAnyN_take (i := 3) (oi := { dst := some 12, op := Go.Op.move (Go.Operand.tmp 11), type := 4, pos := "ref.go:28", after := #[{ on := 2, ground := Go.Ground.data }, { on := 2, ground := Go.Ground.chain }], guard := none }) (v := .bool false) rfl (by decide) (by kernel_rfl) (by kernel_rfl) (by kernel_rfl) (fun _ _ _ h => h) (Or.inl ⟨by rfl, ?_⟩) hS1 ?_
        · intro W9 hS9
          obtain ⟨q0, q1⟩ := hS9
          clear q0 q1
          go_simp
        try simp only [Act.put, List.setIfInBounds_toArray, List.set_cons_zero, List.set_cons_succ]
        refine wpAnyN_take (i := 4) (oi := { dst := some 13, op := Go.Op.move (Go.Operand.tmp 5), type := 3, pos := "ref.go:28", after := #[{ on := 3, ground := Go.Ground.guard }], guard := some (3, true) }) (v := undef) rfl (by decide) (by kernel_rfl) (by kernel_rfl) (by kernel_rfl) (fun _ _ _ h => h) (Or.inr ⟨by rfl, rfl⟩) hS1 ?_
        try simp only [Act.put, List.setIfInBounds_toArray, List.set_cons_zero, List.set_cons_succ]
        refine wpAnyN_take (i := 5) (oi := { dst := some 14, op := Go.Op.fieldAddr 25 (Go.Operand.tmp 2) 1, type := 0, pos := "ref.go:28", after := #[{ on := 3, ground := Go.Ground.guard }], guard := some (3, true) }) (v := undef) rfl (by decide) (by kernel_rfl) (by kernel_rfl) (by kernel_rfl) (fun _ _ _ h => h) (Or.inr ⟨by rfl, rfl⟩) hS1 ?_
        try simp only [Act.put, List.setIfInBounds_toArray, List.set_cons_zero, List.set_cons_succ]
        refine wpAnyN_take (i := 6) (oi := { dst := some 15, op := Go.Op.indexAddr 23 (Go.Operand.tmp 14) (Go.Operand.tmp 13), type := 0, pos := "ref.go:28", after := #[{ on := 5, ground := Go.Ground.data }, { on := 4, ground := Go.Ground.data }, { on := 3, ground := Go.Ground.guard }], guard := some (3, true) }) (v := undef) rfl (by decide) (by kernel_rfl) (by kernel_rfl) (by kernel_rfl) (fun _ _ _ h => h) (Or.inr ⟨by rfl, rfl⟩) hS1 ?_
        try simp only [Act.put, List.setIfInBounds_toArray, List.set_cons_zero, List.set_cons_succ]
        refine wpAnyN_take (i := 7) (oi := { dst := some 16, op := Go.Op.load 22 (Go.Operand.tmp 15), type := 22, pos := "ref.go:28", after := #[{ on := 6, ground := Go.Ground.data }, { on := 3, ground := Go.Ground.guard }], guard := some (3, true) }) (v := undef) rfl (by decide) (by kernel_rfl) (by kernel_rfl) (by kernel_rfl) (fun _ _ _ h => h) (Or.inr ⟨by rfl, rfl⟩) hS1 ?_
        try simp only [Act.put, List.setIfInBounds_toArray, List.set_cons_zero, List.set_cons_succ]
        refine wpAnyN_take (i := 8) (oi := { dst := some 17, op := Go.Op.move (Go.Operand.tmp 5), type := 3, pos := "ref.go:28", after := #[{ on := 3, ground := Go.Ground.guard }], guard := some (3, true) }) (v := undef) rfl (by decide) (by kernel_rfl) (by kernel_rfl) (by kernel_rfl) (fun _ _ _ h => h) (Or.inr ⟨by rfl, rfl⟩) hS1 ?_
        try simp only [Act.put, List.setIfInBounds_toArray, List.set_cons_zero, List.set_cons_succ]
        refine wpAnyN_take (i := 9) (oi := { dst := some 18, op := Go.Op.fieldAddr 25 (Go.Operand.tmp 3) 1, type := 0, pos := "ref.go:28", after := #[{ on := 3, ground := Go.Ground.guard }], guard := some (3, true) }) (v := undef) rfl (by decide) (by kernel_rfl) (by kernel_rfl) (by kernel_rfl) (fun _ _ _ h => h) (Or.inr ⟨by rfl, rfl⟩) hS1 ?_
        try simp only [Act.put, List.setIfInBounds_toArray, List.set_cons_zero, List.set_cons_succ]
        refine wpAnyN_take (i := 10) (oi := { dst := some 19, op := Go.Op.indexAddr 23 (Go.Operand.tmp 18) (Go.Operand.tmp 17), type := 0, pos := "ref.go:28", after := #[{ on := 9, ground := Go.Ground.data }, { on := 8, ground := Go.Ground.data }, { on := 3, ground := Go.Ground.guard }], guard := some (3, true) }) (v := undef) rfl (by decide) (by kernel_rfl) (by kernel_rfl) (by kernel_rfl) (fun _ _ _ h => h) (Or.inr ⟨by rfl, rfl⟩) hS1 ?_
        try simp only [Act.put, List.setIfInBounds_toArray, List.set_cons_zero, List.set_cons_succ]
        refine wpAnyN_take (i := 11) (oi := { dst := some 20, op := Go.Op.load 22 (Go.Operand.tmp 19), type := 22, pos := "ref.go:28", after := #[{ on := 10, ground := Go.Ground.data }, { on := 3, ground := Go.Ground.guard }], guard := some (3, true) }) (v := undef) rfl (by decide) (by kernel_rfl) (by kernel_rfl) (by kernel_rfl) (fun _ _ _ h => h) (Or.inr ⟨by rfl, rfl⟩) hS1 ?_
        try simp only [Act.put, List.setIfInBounds_toArray, List.set_cons_zero, List.set_cons_succ]
        refine wpAnyN_take (i := 12) (oi := { dst := some 21, op := Go.Op.binOp Go.BinOp.neq 22 (Go.Operand.tmp 16) (Go.Operand.tmp 20) 22, type := 4, pos := "ref.go:28", after := #[{ on := 7, ground := Go.Ground.data }, { on := 11, ground := Go.Ground.data }, { on := 3, ground := Go.Ground.guard }], guard := some (3, true) }) (v := undef) rfl (by decide) (by kernel_rfl) (by kernel_rfl) (by kernel_rfl) (fun _ _ _ h => h) (Or.inr ⟨by rfl, rfl⟩) hS1 ?_
        try simp only [Act.put, List.setIfInBounds_toArray, List.set_cons_zero, List.set_cons_succ]
        refine wpAnyN_take (i := 13) (oi := { dst := some 22, op := Go.Op.move (Go.Operand.tmp 21), type := 4, pos := "ref.go:28", after := #[{ on := 12, ground := Go.Ground.data }, { on := 3, ground := Go.Ground.chain }, { on := 3, ground := Go.Ground.guard }], guard := some (3, true) }) (v := undef) rfl (by decide) (by kernel_rfl) (by kernel_rfl) (by kernel_rfl) (fun _ _ _ h => h) (Or.inr ⟨by rfl, rfl⟩) hS1 ?_
        try simp only [Act.put, List.setIfInBounds_toArray, List.set_cons_zero, List.set_cons_succ]
        refine wpAnyN_take (i := 14) (oi := { dst := some 23, op := Go.Op.move (Go.Operand.tmp 5), type := 3, pos := "ref.go:28", after := #[{ on := 13, ground := Go.Ground.guard }], guard := some (13, false) }) (v := undef) rfl (by decide) (by kernel_rfl) (by kernel_rfl) (by kernel_rfl) (fun _ _ _ h => h) (Or.inr ⟨by rfl, rfl⟩) hS1 ?_
        try simp only [Act.put, List.setIfInBounds_toArray, List.set_cons_zero, List.set_cons_succ]
        refine wpAnyN_take (i := 15) (oi := { dst := some 24, op := Go.Op.fieldAddr 25 (Go.Operand.tmp 2) 2, type := 0, pos := "ref.go:28", after := #[{ on := 13, ground := Go.Ground.guard }], guard := some (13, false) }) (v := undef) rfl (by decide) (by kernel_rfl) (by kernel_rfl) (by kernel_rfl) (fun _ _ _ h => h) (Or.inr ⟨by rfl, rfl⟩) hS1 ?_
        try simp only [Act.put, List.setIfInBounds_toArray, List.set_cons_zero, List.set_cons_succ]
        refine wpAnyN_take (i := 16) (oi := { dst := some 25, op := Go.Op.indexAddr 23 (Go.Operand.tmp 24) (Go.Operand.tmp 23), type := 0, pos := "ref.go:28", after := #[{ on := 15, ground := Go.Ground.data }, { on := 14, ground := Go.Ground.data }, { on := 13, ground := Go.Ground.guard }], guard := some (13, false) }) (v := undef) rfl (by decide) (by kernel_rfl) (by kernel_rfl) (by kernel_rfl) (fun _ _ _ h => h) (Or.inr ⟨by rfl, rfl⟩) hS1 ?_
        try simp only [Act.put, List.setIfInBounds_toArray, List.set_cons_zero, List.set_cons_succ]
        refine wpAnyN_take (i := 17) (oi := { dst := some 26, op := Go.Op.load 22 (Go.Operand.tmp 25), type := 22, pos := "ref.go:28", after := #[{ on := 16, ground := Go.Ground.data }, { on := 13, ground := Go.Ground.guard }], guard := some (13, false) }) (v := undef) rfl (by decide) (by kernel_rfl) (by kernel_rfl) (by kernel_rfl) (fun _ _ _ h => h) (Or.inr ⟨by rfl, rfl⟩) hS1 ?_
        try simp only [Act.put, List.setIfInBounds_toArray, List.set_cons_zero, List.set_cons_succ]
        refine wpAnyN_take (i := 18) (oi := { dst := some 27, op := Go.Op.move (Go.Operand.tmp 5), type := 3, pos := "ref.go:28", after := #[{ on := 13, ground := Go.Ground.guard }], guard := some (13, false) }) (v := undef) rfl (by decide) (by kernel_rfl) (by kernel_rfl) (by kernel_rfl) (fun _ _ _ h => h) (Or.inr ⟨by rfl, rfl⟩) hS1 ?_
        try simp only [Act.put, List.setIfInBounds_toArray, List.set_cons_zero, List.set_cons_succ]
        refine wpAnyN_take (i := 19) (oi := { dst := some 28, op := Go.Op.fieldAddr 25 (Go.Operand.tmp 3) 2, type := 0, pos := "ref.go:28", after := #[{ on := 13, ground := Go.Ground.guard }], guard := some (13, false) }) (v := undef) rfl (by decide) (by kernel_rfl) (by kernel_rfl) (by kernel_rfl) (fun _ _ _ h => h) (Or.inr ⟨by rfl, rfl⟩) hS1 ?_
        try simp only [Act.put, List.setIfInBounds_toArray, List.set_cons_zero, List.set_cons_succ]
        refine wpAnyN_take (i := 20) (oi := { dst := some 29, op := Go.Op.indexAddr 23 (Go.Operand.tmp 28) (Go.Operand.tmp 27), type := 0, pos := "ref.go:28", after := #[{ on := 19, ground := Go.Ground.data }, { on := 18, ground := Go.Ground.data }, { on := 13, ground := Go.Ground.guard }], guard := some (13, false) }) (v := undef) rfl (by decide) (by kernel_rfl) (by kernel_rfl) (by kernel_rfl) (fun _ _ _ h => h) (Or.inr ⟨by rfl, rfl⟩) hS1 ?_
        try simp only [Act.put, List.setIfInBounds_toArray, List.set_cons_zero, List.set_cons_succ]
        refine wpAnyN_take (i := 21) (oi := { dst := some 30, op := Go.Op.load 22 (Go.Operand.tmp 29), type := 22, pos := "ref.go:28", after := #[{ on := 20, ground := Go.Ground.data }, { on := 13, ground := Go.Ground.guard }], guard := some (13, false) }) (v := undef) rfl (by decide) (by kernel_rfl) (by kernel_rfl) (by kernel_rfl) (fun _ _ _ h => h) (Or.inr ⟨by rfl, rfl⟩) hS1 ?_
        try simp only [Act.put, List.setIfInBounds_toArray, List.set_cons_zero, List.set_cons_succ]
        refine wpAnyN_take (i := 22) (oi := { dst := some 31, op := Go.Op.binOp Go.BinOp.neq 22 (Go.Operand.tmp 26) (Go.Operand.tmp 30) 22, type := 4, pos := "ref.go:28", after := #[{ on := 17, ground := Go.Ground.data }, { on := 21, ground := Go.Ground.data }, { on := 13, ground := Go.Ground.guard }], guard := some (13, false) }) (v := undef) rfl (by decide) (by kernel_rfl) (by kernel_rfl) (by kernel_rfl) (fun _ _ _ h => h) (Or.inr ⟨by rfl, rfl⟩) hS1 ?_
        try simp only [Act.put, List.setIfInBounds_toArray, List.set_cons_zero, List.set_cons_succ]
        refine wpAnyN_take (i := 23) (oi := { dst := some 32, op := Go.Op.pick (Go.Operand.tmp 22) (Go.Operand.const (Go.Value.bool true)) (Go.Operand.tmp 31), type := 4, pos := "ref.go:28", after := #[{ on := 13, ground := Go.Ground.data }, { on := 22, ground := Go.Ground.data }, { on := 3, ground := Go.Ground.guard }], guard := some (3, true) }) (v := undef) rfl (by decide) (by kernel_rfl) (by kernel_rfl) (by kernel_rfl) (fun _ _ _ h => h) (Or.inr ⟨by rfl, rfl⟩) hS1 ?_
        try simp only [Act.put, List.setIfInBounds_toArray, List.set_cons_zero, List.set_cons_succ]
        refine wpAnyN_take (i := 24) (oi := { dst := some 33, op := Go.Op.pick (Go.Operand.tmp 12) (Go.Operand.tmp 32) (Go.Operand.const (Go.Value.bool false)), type := 4, pos := "ref.go:28", after := #[{ on := 3, ground := Go.Ground.data }, { on := 23, ground := Go.Ground.data }], guard := none }) (v := .bool false) rfl (by decide) (by kernel_rfl) (by kernel_rfl) (by kernel_rfl) (fun _ _ _ h => h) (Or.inl ⟨by rfl, ?_⟩) hS1 ?_
        · intro W9 hS9
          obtain ⟨q0, q1⟩ := hS9
          clear q0 q1
          go_simp
        try simp only [Act.put, List.setIfInBounds_toArray, List.set_cons_zero, List.set_cons_succ]
        refine wpAnyX_end (by kernel_rfl) ?_
        have HG1 := Lib.hid hS1.1
        have HH1 := Lib.hid hS1.2
        have HB1 := Lib.hid hB1
        clear hS0 hS1 hB0 hB1 hC
        go_wp2_with fail
        go_roundw
        case rel => exact ⟨k + 1, by omega, by go_num, Lib.hid (fun j hj hf => by
          rcases Nat.lt_or_ge j k with h1 | h1
          · exact hno.out j h1 hf
          · obtain rfl : j = k := by omega
            exact HAG.out hf), HG1, HH1, HB1⟩
        case measure => simp [intOf] <;> omega
    · obtain rfl : k = 8 := by omega
      have HY : Hid (sameV g h = (g.c == h.c)) := Lib.hid (sameV_yes hno.out)
      have cg : wr.cell? ⟨w.heap.size, 0, none⟩ = some (.int .u64 (g.c : Nat)) := (hG.out.cell 0).trans (gc_0 g)
      have ch : wr.cell? ⟨w.heap.size + 1, 0, none⟩ = some (.int .u64 (h.c : Nat)) := (hH.out.cell 0).trans (gc_0 h)
      cases hcc : (g.c == h.c)
      · have hne : (((g.c : Nat) : Int) == ((h.c : Nat) : Int)) = false := by rw [natEq_walk]; exact hcc
        rw [hcc] at HY
        clear hcc
        go_wp2_with fail
        go_ret
        exact ⟨by rw [HY.out]; rfl, hB.out⟩
      · have hne : (((g.c : Nat) : Int) == ((h.c : Nat) : Int)) = true := by rw [natEq_walk]; exact hcc
        rw [hcc] at HY
        clear hcc
        go_wp2_with fail
        go_ret
        exact ⟨by rw [HY.out]; rfl, hB.out⟩
end Go.Proofs
