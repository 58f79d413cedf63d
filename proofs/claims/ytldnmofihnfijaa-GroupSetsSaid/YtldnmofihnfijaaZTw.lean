/- Group: openers; steps; what is found where it is. -/
import Derived.Test.YtldnmofihnfijaaZTu
import Derived.Deep.SlicePairs
import Derived.WideShapes
namespace Go.Proofs
set_option maxRecDepth 100000
open Go.RowKit Go.Shelf
attribute [local go_sem] Oper.semAt_some

theorem cellsG : Try.prog.cellsOf 25 = 17 := by kernel_rfl
theorem cellsA8 : Try.prog.cellsOf 23 = 8 := by kernel_rfl
theorem cellsU : Try.prog.cellsOf 22 = 1 := by kernel_rfl
theorem cellsB : Try.prog.cellsOf 5 = 1 := by kernel_rfl
theorem cellsS : Try.prog.cellsOf 38 = 3 := by kernel_rfl
theorem wf64 {z : Int} (h : (Lit.int .u64 z).wf = true) : 0 ≤ z ∧ z < 18446744073709551616 := by
  simp [Lit.wf] at h
  have h1 : IntKind.u64.min = 0 := rfl
  have h2 : IntKind.u64.max = 18446744073709551615 := rfl
  omega
theorem wf8 {z : Int} (h : (Lit.int .u8 z).wf = true) : 0 ≤ z ∧ z < 256 := by
  simp [Lit.wf] at h
  have h1 : IntKind.u8.min = 0 := rfl
  have h2 : IntKind.u8.max = 255 := rfl
  omega
/-- A group that came in. -/
theorem open_group {H : Type} {enc : TypeId × Value → H} {W : World} {r : Reach} {b0 base : Nat} {sp : Nat → Bool} {held : Bool} {v : Value} {d : DataW H} {p : List MemPlace}
    (hv : Value.okWide Try.prog W r b0 25 v) (h : DataW.Trod enc Try.prog W base sp held 25 v d p) :
    ∃ g : Gr, v = .agg (gc g) ∧ g.c < 18446744073709551616 := by
  obtain ⟨ys, rfl, hys⟩ := WideShapes.okWide_struct Try.underlying25 hv
  rw [cellsG] at hys
  obtain ⟨fuel, hf⟩ := h
  obtain ⟨xs, m, hm, hx, hlen, hxl, hel⟩ := DataW.trod_struct Try.underlying25 hf
  obtain ⟨y0, y1, y2, y3, y4, y5, y6, y7, y8, y9, y10, y11, y12, y13, y14, y15, y16, rfl⟩ : ∃ y0 y1 y2 y3 y4 y5 y6 y7 y8 y9 y10 y11 y12 y13 y14 y15 y16, ys = #[y0, y1, y2, y3, y4, y5, y6, y7, y8, y9, y10, y11, y12, y13, y14, y15, y16] := by
    obtain ⟨l⟩ := ys
    match l, hys with
    | [y0, y1, y2, y3, y4, y5, y6, y7, y8, y9, y10, y11, y12, y13, y14, y15, y16], _ => exact ⟨y0, y1, y2, y3, y4, y5, y6, y7, y8, y9, y10, y11, y12, y13, y14, y15, y16, rfl⟩
  match xs, hxl with
  | [x0, x1, x2], _ =>
    have e0 := hel 0 _ rfl
    have e1 := hel 1 _ rfl
    have e2 := hel 2 _ rfl
    simp [cellsU, cellsA8, Value.cells] at e0 e1 e2
    obtain ⟨a, ha, _, wa⟩ := DataW.trod_int Try.underlying22 e0
    simp at ha
    subst ha
    have arr : ∀ {z0 z1 z2 z3 z4 z5 z6 z7 : Value} {mm : Nat} {d : DataW H} {q : List MemPlace}, DataW.trod enc Try.prog W base sp held mm 23 [z0, z1, z2, z3, z4, z5, z6, z7] = some (d, q) →
        ∃ f : Nat → Nat, z0 = .int .u64 (f 0 : Nat) ∧ z1 = .int .u64 (f 1 : Nat) ∧ z2 = .int .u64 (f 2 : Nat) ∧ z3 = .int .u64 (f 3 : Nat) ∧ z4 = .int .u64 (f 4 : Nat) ∧ z5 = .int .u64 (f 5 : Nat) ∧ z6 = .int .u64 (f 6 : Nat) ∧ z7 = .int .u64 (f 7 : Nat) := by
      intro z0 z1 z2 z3 z4 z5 z6 z7 mm d q hz
      obtain ⟨xs, m, _, _, _, hxl, hel⟩ := DataW.trod_array Try.underlying23 hz
      obtain ⟨q0, q1, q2, q3, q4, q5, q6, q7, rfl⟩ : ∃ q0 q1 q2 q3 q4 q5 q6 q7, xs = [q0, q1, q2, q3, q4, q5, q6, q7] := by
        match xs, hxl with
        | [q0, q1, q2, q3, q4, q5, q6, q7], _ => exact ⟨q0, q1, q2, q3, q4, q5, q6, q7, rfl⟩
      have one : ∀ {z : Value} {mm : Nat} {d : DataW H} {q : List MemPlace}, DataW.trod enc Try.prog W base sp held mm 22 [z] = some (d, q) → ∃ n : Nat, z = .int .u64 (n : Nat) := by
        intro z mm d q h1
        obtain ⟨b, hb, _, wb⟩ := DataW.trod_int Try.underlying22 h1
        simp at hb
        subst hb
        have hw := wf64 wb
        exact ⟨b.toNat, by rw [Int.toNat_of_nonneg (by omega)]⟩
      have g0 := hel 0 (by decide)
      have g1 := hel 1 (by decide)
      have g2 := hel 2 (by decide)
      have g3 := hel 3 (by decide)
      have g4 := hel 4 (by decide)
      have g5 := hel 5 (by decide)
      have g6 := hel 6 (by decide)
      have g7 := hel 7 (by decide)
      rw [cellsU] at g0 g1 g2 g3 g4 g5 g6 g7
      obtain ⟨f0, k0⟩ := one g0
      obtain ⟨f1, k1⟩ := one g1
      obtain ⟨f2, k2⟩ := one g2
      obtain ⟨f3, k3⟩ := one g3
      obtain ⟨f4, k4⟩ := one g4
      obtain ⟨f5, k5⟩ := one g5
      obtain ⟨f6, k6⟩ := one g6
      obtain ⟨f7, k7⟩ := one g7
      exact ⟨fun n => [f0, f1, f2, f3, f4, f5, f6, f7].getD n 0, k0, k1, k2, k3, k4, k5, k6, k7⟩
    obtain ⟨f, k0, k1, k2, k3, k4, k5, k6, k7⟩ := arr e1
    obtain ⟨f', l0, l1, l2, l3, l4, l5, l6, l7⟩ := arr e2
    subst k0 k1 k2 k3 k4 k5 k6 k7 l0 l1 l2 l3 l4 l5 l6 l7
    have hw := wf64 wa
    obtain ⟨c, rfl⟩ : ∃ c : Nat, a = c := ⟨a.toNat, by rw [Int.toNat_of_nonneg (by omega)]⟩
    exact ⟨⟨c, f, f'⟩, rfl, by show c < _; omega⟩
theorem wpList_eqlW {P : Program} {ops : Array Oper} {rest : List Oper} {o : Oper} {a : Act} {w : World} {Q : Exit → Act → World → Prop} (hw : Region.wanted o (yielded ops a.tmps) = true) (t : TypeId) (x y : Operand) (ho : o.op = .binOp .eql t x y t) (xs ys : Array Value) (hx : a.eval x = .agg xs) (hy : a.eval y = .agg ys)
    (hm : P.eqGuardType P.depth t = false) (b : Bool) (hb : (Op.equalIn 10000 t (.agg xs) (.agg ys)).run P w = .ok b w) (h : wpList P ops Q rest (a.put o.dst (.bool b)) w) : wpList P ops Q (o :: rest) a w := by
  unfold wpList
  rw [if_pos hw]
  refine .inl ?_
  unfold Oper.wp
  rw [exec_eql t x y ho xs ys hx hy hm b hb]
  exact h
theorem find_self {g : Gr} (hr : rightG g = true) {y : Fin 8} (hy : byt g.c y < 128) :
    findE g (g.k y) (byt g.c y) = 0 ∧ findL g (g.k y) (byt g.c y) = y ∧ ∃ pre post, hl g (byt g.c y) = pre ++ y :: post ∧ findN g (g.k y) (byt g.c y) = pre.length + 1 := by
  rcases firstL_cases (fun n => g.k n == g.k y) (hl g (byt g.c y)) 0 with ⟨_, h3⟩ | ⟨pre, z, post, h2, h3, h4, h5⟩
  · have := h3 y ((mem_hl g _ y).2 rfl)
    simp at this
  · have hz : byt g.c z = byt g.c y := (mem_hl g _ z).1 (by rw [h2]; simp)
    have e : z = y := right_apart hr (by omega) hy (by simpa using h4)
    subst e
    have hn : ¬ 127 < byt g.c z := by omega
    refine ⟨?_, ?_, pre, post, h2, ?_⟩
    · unfold findE findO; rw [if_neg hn, h5]; rfl
    · unfold findL findO; rw [if_neg hn, h5]; rfl
    · unfold findN findO; rw [if_neg hn, h5]; simp
end Go.Proofs
