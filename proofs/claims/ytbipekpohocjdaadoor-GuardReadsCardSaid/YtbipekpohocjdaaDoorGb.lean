/- Rows of pairs of numbers (sections, looks), of bools: cells, cut, Clone, Equal. -/
import Derived.Test.YtbipekpohocjdaaDoorGm
namespace Go.Proofs
open Go.ChangeShapes Go.WideShapes Go.RowKit Go.Shelf Go.Deep
attribute [local go_sem] Oper.semAt_some

theorem Rows8.newB {W : World} {t : TypeId} {cs : Array Value} : Below W.heap.size W (W.alloc (.cells cs t)) := (Below.refl _ W).alloc (Nat.le_refl _) _
def pCells (p : Int × Int) : List Value := [.int .i64 p.1, .int .i64 p.2]
def pVals (l : List (Int × Int)) : List Value := l.flatMap pCells
theorem pVals_length (l : List (Int × Int)) : (pVals l).length = l.length * 2 := flat_length pCells 2 (fun _ => rfl) l
theorem pVals_one (l : List (Int × Int)) : ∀ u ∈ pVals l, u.oneCell' = true := by
  intro u hu
  simp only [pVals, List.mem_flatMap] at hu
  obtain ⟨d, _, hu⟩ := hu
  simp [pCells] at hu
  rcases hu with rfl | rfl <;> rfl
def PAt (W : World) (v : Value) (l : List (Int × Int)) : Prop := RowAt W v l.length 2 (pVals l)
theorem pAt_none (W : World) : PAt W (.slice none 0 0) [] := ⟨rfl, none, 0, rfl, Nat.le_refl _, Nat.zero_le _, fun _ => rfl, fun _ hj => absurd hj (Nat.not_lt_zero _)⟩
theorem PAt.below {W W' : World} {v : Value} {l : List (Int × Int)} (h : PAt W v l) (hB : Below W.heap.size W W') : PAt W' v l := RowAt.below h hB
theorem pAt_len {W : World} {x : Option Addr} {n cap : Nat} {l : List (Int × Int)} (h : PAt W (.slice x n cap) l) : n = l.length ∧ n ≤ cap ∧ cap ≤ maxLen := by
  obtain ⟨h0, a, c, e, h1, h2, _⟩ := h
  cases e
  exact ⟨rfl, h1, h2⟩
theorem pAt_get {W : World} {x : Option Addr} {n cap : Nat} {l : List (Int × Int)} (h : PAt W (.slice x n cap) l) (j : Nat) (hj : j < l.length) :
    ∃ b off, x = some ⟨b, off, none⟩ ∧ b < W.heap.size ∧ W.cell? ⟨b, off + j * 2, none⟩ = some (.int .i64 (l[j]).1) ∧ W.cell? ⟨b, off + j * 2 + 1, none⟩ = some (.int .i64 (l[j]).2) := by
  obtain ⟨h0, a, cap', e, _, _, _, hc⟩ := h
  cases e
  have hlen := pVals_length l
  obtain ⟨b, off, e, hb, g0⟩ := hc (j * 2) (by omega)
  obtain ⟨_, _, e1, _, g1⟩ := hc (j * 2 + 1) (by omega)
  subst e
  cases e1
  have f0 := flat_get pCells 2 (fun _ => rfl) l j 0 hj (by decide)
  have f1 := flat_get pCells 2 (fun _ => rfl) l j 1 hj (by decide)
  rw [Nat.add_zero] at f0
  exact ⟨b, off, rfl, hb, g0.trans f0, g1.trans f1⟩
theorem pAt_cut {W : World} {x : Option Addr} {n cap : Nat} {l : List (Int × Int)} (h : PAt W (.slice x n cap) l) (k : Nat) (hk : k ≤ n) : PAt W (.slice x k cap) (l.take k) := by
  have hn := (pAt_len h).1
  have h' : RowAt W (.slice x n cap) n 2 (pVals l) := by
    have h2 := h
    unfold PAt at h2
    rw [← hn] at h2
    exact h2
  have hc := RowAt.cut h' k hk
  have e : (l.take k).length = k := by rw [List.length_take]; omega
  unfold PAt
  rw [e]
  have e2 : pVals (l.take k) = (pVals l).take (k * 2) := flat_take pCells 2 (fun _ => rfl) l k
  rw [e2]
  exact hc
/-- .. without its first. -/
theorem pAt_tail {W : World} {b off n cap : Nat} {s : Int × Int} {l : List (Int × Int)} (h : PAt W (.slice (some ⟨b, off, none⟩) (n + 1) (cap + 1)) (s :: l)) : PAt W (.slice (some ⟨b, off + 2, none⟩) n cap) l := by
  obtain ⟨h0, a, cap', e, h1, h2, h3, hc⟩ := h
  cases e
  refine ⟨pVals_length l, _, cap, rfl, by simp only [List.length_cons] at h1; omega, by omega, (fun e => by cases e), fun j hj => ?_⟩
  obtain ⟨b', off', e, hb, g⟩ := hc (j + 2) (by rw [pVals_length] at hj ⊢; rw [List.length_cons]; omega)
  cases e
  refine ⟨b, off + 2, rfl, hb, ?_⟩
  rw [show off + 2 + j = off + (j + 2) by omega, g]
  show (pCells s ++ pVals l)[j + 2]? = _
  rw [List.getElem?_append_right (by simp [pCells])]
  simp [pCells]
theorem take_eq_nextP {xs ys : List (Int × Int)} {k : Nat} (h : xs.take k = ys.take k) (hx : k < xs.length) (hy : k < ys.length) (he : xs[k] = ys[k]) : xs.take (k + 1) = ys.take (k + 1) := by
  rw [List.take_succ_eq_append_getElem hx, List.take_succ_eq_append_getElem hy, h, he]
theorem drop_next {α : Type} (l : List α) (k : Nat) (h : k < l.length) : l.drop k = l[k] :: l.drop (k + 1) := List.drop_eq_getElem_cons h

/-- Rows of bools. -/
def bVals (l : List Bool) : List Value := l.map Value.bool
def BAt (W : World) (v : Value) (l : List Bool) : Prop := RowAt W v l.length 1 (bVals l)
theorem bAt_none (W : World) : BAt W (.slice none 0 0) [] := ⟨rfl, none, 0, rfl, Nat.le_refl _, Nat.zero_le _, fun _ => rfl, fun _ hj => absurd hj (Nat.not_lt_zero _)⟩
theorem bVals_length (l : List Bool) : (bVals l).length = l.length := by simp [bVals]
theorem bVals_one (l : List Bool) : ∀ u ∈ bVals l, u.oneCell' = true := by
  intro u hu
  obtain ⟨b, _, rfl⟩ := List.mem_map.1 hu
  rfl
theorem bAt_len {W : World} {x : Option Addr} {n cap : Nat} {l : List Bool} (h : BAt W (.slice x n cap) l) : n = l.length ∧ n ≤ cap ∧ cap ≤ maxLen := by
  obtain ⟨h0, a, c, e, h1, h2, _⟩ := h
  cases e
  exact ⟨rfl, h1, h2⟩
theorem bAt_get {W : World} {x : Option Addr} {n cap : Nat} {l : List Bool} (h : BAt W (.slice x n cap) l) (j : Nat) (hj : j < l.length) :
    ∃ b off, x = some ⟨b, off, none⟩ ∧ b < W.heap.size ∧ W.cell? ⟨b, off + j, none⟩ = some (.bool l[j]) := by
  obtain ⟨h0, a, cap', e, _, _, _, hc⟩ := h
  cases e
  obtain ⟨b, off, e, hb, g⟩ := hc j (by rw [bVals_length]; exact hj)
  exact ⟨b, off, e, hb, by rw [g]; simp [bVals, hj]⟩
theorem take_eq_nextB {xs ys : List Bool} {k : Nat} (h : xs.take k = ys.take k) (hx : k < xs.length) (hy : k < ys.length) (he : xs[k] = ys[k]) : xs.take (k + 1) = ys.take (k + 1) := by
  rw [List.take_succ_eq_append_getElem hx, List.take_succ_eq_append_getElem hy, h, he]

theorem Tryd.infoSection : (Tryd.prog.info? 39).map (fun i => (i.zero, i.size, i.bytes)) = some (some (.agg #[.int .i64 0, .int .i64 0]), 2, 16) := by kernel_rfl
set_option maxRecDepth 100000 in
set_option maxHeartbeats 1000000 in
theorem Tryd.cloneSection_any (a : Option Addr) (n cap : Nat) (ws : List (Int × Int)) (hn : n = ws.length) (hl : n ≤ 100) (w : World) (hI : PAt w (.slice a n cap) ws) :
    Calls Tryd.prog 31 #[.slice a n cap] w fun e w' => ∃ b c, e = .returned (.slice b n c) ∧ PAt w' (.slice b n c) ws ∧ Below w.heap.size w w' := by
  obtain ⟨i0, hi, hz0, hz1, hz2⟩ := info_parts Tryd.infoSection
  cases a with
  | none =>
    obtain ⟨h0, a', cap', e, h1, h2, h3, h4⟩ := hI
    cases e
    have hc0 : cap = 0 := h3 rfl
    subst hc0
    have hw0 : ws = [] := List.eq_nil_of_length_eq_zero (by omega)
    subst hw0
    have hnil := fun wx : World => Lib.run_eql_slice_nil (P := Tryd.prog) wx 23 39 none 0 0 0 0 Tryd.underlying23
    simp only [List.length_nil]
    clear h0 h1 h2 h3 h4 hn hl
    go_enter Tryd.func31, Tryd.ntmps31
    go_wp2
    go_ret
    exact ⟨none, 0, rfl, pAt_none _, Below.refl _ _⟩
  | some x =>
    have hnil := fun wx : World => Lib.run_eql_slice_nil (P := Tryd.prog) wx 23 39 (some x) n cap 0 0 Tryd.underlying23
    subst hn
    have hsrc := row_src hI
    have HC := Lib.hid hsrc
    clear hI hsrc
    have hO : (w.alloc (.cells #[] 39)).ownsRow w.heap.size 39 2 (.slice (some ⟨w.heap.size, 0, none⟩) 0 0) 0 [] := World.ownsRow_lit w #[] 0 (Nat.le_refl _) (by unfold maxLen; omega) rfl
    have hB : Below w.heap.size w (w.alloc (.cells #[] 39)) := (Below.refl _ w).alloc (Nat.le_refl _) _
    have HO := Lib.hid hO
    clear hO
    go_enter Tryd.func31, Tryd.ntmps31
    go_wp2_with (at_builtin; refine wpList_append_own _ rfl _ _ 23 rfl w.heap.size 39 i0 (.agg #[.int .i64 0, .int .i64 0]) 2 16 Tryd.underlying23 hi hz0 hz1 hz2 rfl (by decide) _ _ _ rfl HO.out x ws.length cap (pVals ws) rfl ?c1 ?c2 ?c3 ?c4 ?c5 ?c6 ?_)
    case c1 => rw [pVals_length]
    case c2 =>
      intro j u hu
      have h := HC.out j u hu
      have hlt : x.block < w.heap.size := by
        have hk := h
        unfold World.cell? at hk
        rcases Nat.lt_or_ge (x.add j).block w.heap.size with hq | hq
        · have : (x.add j).block = x.block := by unfold Addr.add; split <;> rfl
          omega
        · rw [Array.getElem?_eq_none hq] at hk
          cases hk
      have hblk : (x.add j).block = x.block := by unfold Addr.add; split <;> rfl
      exact (hB.cell (p := x.add j) (by rw [hblk]; exact hlt)).trans h
    case c3 => exact pVals_one ws
    case c4 => simp; unfold maxLen; omega
    case c5 => simp; omega
    case c6 => simp
    intro v' w1 hown' hgrow _
    have hB1 : Below w.heap.size w w1 := hB.grown hgrow (by simp) (fun j ej => (World.ownsRow.lt HO.out j ej).1)
    have hO2 : w1.ownsRow w.heap.size 39 2 v' ws.length (pVals ws) := by simpa using hown'
    have hat := rowAt_own hO2
    obtain ⟨_, b, c, rfl, _⟩ := rowAt_own hO2
    have HO2 := Lib.hid (show PAt w1 (.slice b ws.length c) ws from hat)
    clear hO2 hown' hgrow hat
    go_wp2
    go_ret
    exact ⟨b, c, rfl, HO2.out, hB1⟩

set_option maxRecDepth 100000 in
set_option maxHeartbeats 2000000 in
theorem Tryd.equalSection_any (a1 a2 : Option Addr) (n1 n2 c1 c2 : Nat) (xs ys : List (Int × Int)) (w : World) (h1 : PAt w (.slice a1 n1 c1) xs) (h2 : PAt w (.slice a2 n2 c2) ys) (hl : n1 ≤ 10000) (hl2 : n2 ≤ 10000) :
    Calls Tryd.prog 18 #[.slice a1 n1 c1, .slice a2 n2 c2] w fun e w' => e = .returned (.bool (decide (xs = ys))) ∧ Below w.heap.size w w' := by
  have HX := Lib.hid (pAt_len h1).1
  have HY := Lib.hid (pAt_len h2).1
  have H1 := Lib.hid h1
  have H2 := Lib.hid h2
  clear h1 h2
  by_cases hn : n1 = n2
  · subst hn
    have hd : ((n1 : Int) != (n1 : Int)) = false := by simp
    go_enter Tryd.func18, Tryd.ntmps18
    go_wp2
    go_loopw [5, 13] (fun _ j wr => ∃ k : Nat, k ≤ n1 ∧ j = .int .i64 k ∧ xs.take k = ys.take k ∧ Below w.heap.size w wr) (fun _ j _ => n1 - (intOf j).toNat)
    case atStart => exact ⟨0, Nat.zero_le _, rfl, rfl, Below.refl _ _⟩
    case round =>
      obtain ⟨k, hk, rfl, ht, hB⟩ := hrel
      by_cases hlt : k < n1
      · have hkx : k < xs.length := by rw [← HX.out]; exact hlt
        have hky : k < ys.length := by rw [← HY.out]; exact hlt
        obtain ⟨b1, o1, rfl, hb1, p0, p1⟩ := pAt_get (PAt.below H1.out hB) k hkx
        obtain ⟨b2, o2, rfl, hb2, q0, q1⟩ := pAt_get (PAt.below H2.out hB) k hky
        have hmx : Tryd.prog.follows .mixedOrders = true := by kernel_rfl
        have hki : (k : Int) < (n1 : Int) := by omega
        have HT := Lib.hid ht
        clear ht
        rcases hx1 : xs[k] with ⟨x0, x1⟩
        rcases hy1 : ys[k] with ⟨y0, y1⟩
        rw [hx1] at p0 p1
        rw [hy1] at q0 q1
        dsimp only at p0 p1 q0 q1
        by_cases he : xs[k] = ys[k]
        · have hnx := take_eq_nextP HT.out hkx hky he
          have HNX := Lib.hid hnx
          rw [hx1, hy1] at he
          injection he with e0 e1
          subst e0 e1
          have d0 : (x0 == x0) = true := by simp
          have d1 : (x1 == x1) = true := by simp
          have c0 : (x0 != x0) = false := by simp
          have c1 : (x1 != x1) = false := by simp
          clear hnx hx1 hy1
          go_wp2
          refine wp_region_still_lit hmx (by kernel_rfl) ?_
          repeat still_step
          refine wpStill_nil ?_
          go_wp2
          exact ⟨⟨k + 1, by omega, by go_num, HNX.out, hB.drew⟩, by simp [intOf]; omega⟩
        · have hq : decide (xs = ys) = false := decide_eq_false (fun h => he (by subst h; rfl))
          have HQ := Lib.hid hq
          have hne : ¬ (x0 = y0 ∧ x1 = y1) := fun ⟨e0, e1⟩ => he (by rw [hx1, hy1, e0, e1])
          have hs : x0 ≠ y0 ∨ (x0 = y0 ∧ x1 ≠ y1) := by omega
          clear hq he hne hx1 hy1
          rcases hs with h | ⟨rfl, h⟩
          · have d0 : (x0 == y0) = false := by simp [h]
            have c0 : (x0 != y0) = true := by simp [h]
            go_wp2
            refine wp_region_still_lit hmx (by kernel_rfl) ?_
            repeat still_step
            refine wpStill_nil ?_
            go_wp2
            go_ret
            exact ⟨by rw [HQ.out]; rfl, hB.drew⟩
          · have d0 : (x0 == x0) = true := by simp
            have c0 : (x0 != x0) = false := by simp
            have d1 : (x1 == y1) = false := by simp [h]
            have c1 : (x1 != y1) = true := by simp [h]
            go_wp2
            refine wp_region_still_lit hmx (by kernel_rfl) ?_
            repeat still_step
            refine wpStill_nil ?_
            go_wp2
            go_ret
            exact ⟨by rw [HQ.out]; rfl, hB.drew⟩
      · obtain rfl : k = n1 := by omega
        have hq : decide (xs = ys) = true := by
          refine decide_eq_true ?_
          rw [List.take_of_length_le (by rw [← HX.out]; exact Nat.le_refl _), List.take_of_length_le (by rw [← HY.out]; exact Nat.le_refl _)] at ht
          exact ht
        have HQ := Lib.hid hq
        clear hq ht
        go_wp2
        go_ret
        exact ⟨by rw [HQ.out]; rfl, hB⟩
  · have hd : ((n1 : Int) != (n2 : Int)) = true := by simp; omega
    have hq : decide (xs = ys) = false := decide_eq_false (fun h => hn (by rw [HX.out, HY.out, h]))
    have HQ := Lib.hid hq
    clear hq
    go_enter Tryd.func18, Tryd.ntmps18
    go_wp2
    go_ret
    exact ⟨by rw [HQ.out]; rfl, Below.refl _ _⟩

theorem Tryd.infoLook : (Tryd.prog.info? 44).map (fun i => (i.zero, i.size, i.bytes)) = some (some (.agg #[.int .i64 0, .int .i64 0]), 2, 16) := by kernel_rfl
set_option maxRecDepth 100000 in
set_option maxHeartbeats 1000000 in
theorem Tryd.cloneLook_any (a : Option Addr) (n cap : Nat) (ws : List (Int × Int)) (hn : n = ws.length) (hl : n ≤ 100) (w : World) (hI : PAt w (.slice a n cap) ws) :
    Calls Tryd.prog 19 #[.slice a n cap] w fun e w' => ∃ b c, e = .returned (.slice b n c) ∧ PAt w' (.slice b n c) ws ∧ Below w.heap.size w w' := by
  obtain ⟨i0, hi, hz0, hz1, hz2⟩ := info_parts Tryd.infoLook
  cases a with
  | none =>
    obtain ⟨h0, a', cap', e, h1, h2, h3, h4⟩ := hI
    cases e
    have hc0 : cap = 0 := h3 rfl
    subst hc0
    have hw0 : ws = [] := List.eq_nil_of_length_eq_zero (by omega)
    subst hw0
    have hnil := fun wx : World => Lib.run_eql_slice_nil (P := Tryd.prog) wx 41 44 none 0 0 0 0 Tryd.underlying41
    simp only [List.length_nil]
    clear h0 h1 h2 h3 h4 hn hl
    go_enter Tryd.func19, Tryd.ntmps19
    go_wp2
    go_ret
    exact ⟨none, 0, rfl, pAt_none _, Below.refl _ _⟩
  | some x =>
    have hnil := fun wx : World => Lib.run_eql_slice_nil (P := Tryd.prog) wx 41 44 (some x) n cap 0 0 Tryd.underlying41
    subst hn
    have hsrc := row_src hI
    have HC := Lib.hid hsrc
    clear hI hsrc
    have hO : (w.alloc (.cells #[] 44)).ownsRow w.heap.size 44 2 (.slice (some ⟨w.heap.size, 0, none⟩) 0 0) 0 [] := World.ownsRow_lit w #[] 0 (Nat.le_refl _) (by unfold maxLen; omega) rfl
    have hB : Below w.heap.size w (w.alloc (.cells #[] 44)) := (Below.refl _ w).alloc (Nat.le_refl _) _
    have HO := Lib.hid hO
    clear hO
    go_enter Tryd.func19, Tryd.ntmps19
    go_wp2_with (at_builtin; refine wpList_append_own _ rfl _ _ 41 rfl w.heap.size 44 i0 (.agg #[.int .i64 0, .int .i64 0]) 2 16 Tryd.underlying41 hi hz0 hz1 hz2 rfl (by decide) _ _ _ rfl HO.out x ws.length cap (pVals ws) rfl ?c1 ?c2 ?c3 ?c4 ?c5 ?c6 ?_)
    case c1 => rw [pVals_length]
    case c2 =>
      intro j u hu
      have h := HC.out j u hu
      have hlt : x.block < w.heap.size := by
        have hk := h
        unfold World.cell? at hk
        rcases Nat.lt_or_ge (x.add j).block w.heap.size with hq | hq
        · have : (x.add j).block = x.block := by unfold Addr.add; split <;> rfl
          omega
        · rw [Array.getElem?_eq_none hq] at hk
          cases hk
      have hblk : (x.add j).block = x.block := by unfold Addr.add; split <;> rfl
      exact (hB.cell (p := x.add j) (by rw [hblk]; exact hlt)).trans h
    case c3 => exact pVals_one ws
    case c4 => simp; unfold maxLen; omega
    case c5 => simp; omega
    case c6 => simp
    intro v' w1 hown' hgrow _
    have hB1 : Below w.heap.size w w1 := hB.grown hgrow (by simp) (fun j ej => (World.ownsRow.lt HO.out j ej).1)
    have hO2 : w1.ownsRow w.heap.size 44 2 v' ws.length (pVals ws) := by simpa using hown'
    have hat := rowAt_own hO2
    obtain ⟨_, b, c, rfl, _⟩ := rowAt_own hO2
    have HO2 := Lib.hid (show PAt w1 (.slice b ws.length c) ws from hat)
    clear hO2 hown' hgrow hat
    go_wp2
    go_ret
    exact ⟨b, c, rfl, HO2.out, hB1⟩

set_option maxRecDepth 100000 in
set_option maxHeartbeats 2000000 in
theorem Tryd.equalLook_any (a1 a2 : Option Addr) (n1 n2 c1 c2 : Nat) (xs ys : List (Int × Int)) (w : World) (h1 : PAt w (.slice a1 n1 c1) xs) (h2 : PAt w (.slice a2 n2 c2) ys) (hl : n1 ≤ 10000) (hl2 : n2 ≤ 10000) :
    Calls Tryd.prog 27 #[.slice a1 n1 c1, .slice a2 n2 c2] w fun e w' => e = .returned (.bool (decide (xs = ys))) ∧ Below w.heap.size w w' := by
  have HX := Lib.hid (pAt_len h1).1
  have HY := Lib.hid (pAt_len h2).1
  have H1 := Lib.hid h1
  have H2 := Lib.hid h2
  clear h1 h2
  by_cases hn : n1 = n2
  · subst hn
    have hd : ((n1 : Int) != (n1 : Int)) = false := by simp
    go_enter Tryd.func27, Tryd.ntmps27
    go_wp2
    go_loopw [5, 13] (fun _ j wr => ∃ k : Nat, k ≤ n1 ∧ j = .int .i64 k ∧ xs.take k = ys.take k ∧ Below w.heap.size w wr) (fun _ j _ => n1 - (intOf j).toNat)
    case atStart => exact ⟨0, Nat.zero_le _, rfl, rfl, Below.refl _ _⟩
    case round =>
      obtain ⟨k, hk, rfl, ht, hB⟩ := hrel
      by_cases hlt : k < n1
      · have hkx : k < xs.length := by rw [← HX.out]; exact hlt
        have hky : k < ys.length := by rw [← HY.out]; exact hlt
        obtain ⟨b1, o1, rfl, hb1, p0, p1⟩ := pAt_get (PAt.below H1.out hB) k hkx
        obtain ⟨b2, o2, rfl, hb2, q0, q1⟩ := pAt_get (PAt.below H2.out hB) k hky
        have hmx : Tryd.prog.follows .mixedOrders = true := by kernel_rfl
        have hki : (k : Int) < (n1 : Int) := by omega
        have HT := Lib.hid ht
        clear ht
        rcases hx1 : xs[k] with ⟨x0, x1⟩
        rcases hy1 : ys[k] with ⟨y0, y1⟩
        rw [hx1] at p0 p1
        rw [hy1] at q0 q1
        dsimp only at p0 p1 q0 q1
        by_cases he : xs[k] = ys[k]
        · have hnx := take_eq_nextP HT.out hkx hky he
          have HNX := Lib.hid hnx
          rw [hx1, hy1] at he
          injection he with e0 e1
          subst e0 e1
          have d0 : (x0 == x0) = true := by simp
          have d1 : (x1 == x1) = true := by simp
          have c0 : (x0 != x0) = false := by simp
          have c1 : (x1 != x1) = false := by simp
          clear hnx hx1 hy1
          go_wp2
          refine wp_region_still_lit hmx (by kernel_rfl) ?_
          repeat still_step
          refine wpStill_nil ?_
          go_wp2
          exact ⟨⟨k + 1, by omega, by go_num, HNX.out, hB.drew⟩, by simp [intOf]; omega⟩
        · have hq : decide (xs = ys) = false := decide_eq_false (fun h => he (by subst h; rfl))
          have HQ := Lib.hid hq
          have hne : ¬ (x0 = y0 ∧ x1 = y1) := fun ⟨e0, e1⟩ => he (by rw [hx1, hy1, e0, e1])
          have hs : x0 ≠ y0 ∨ (x0 = y0 ∧ x1 ≠ y1) := by omega
          clear hq he hne hx1 hy1
          rcases hs with h | ⟨rfl, h⟩
          · have d0 : (x0 == y0) = false := by simp [h]
            have c0 : (x0 != y0) = true := by simp [h]
            go_wp2
            refine wp_region_still_lit hmx (by kernel_rfl) ?_
            repeat still_step
            refine wpStill_nil ?_
            go_wp2
            go_ret
            exact ⟨by rw [HQ.out]; rfl, hB.drew⟩
          · have d0 : (x0 == x0) = true := by simp
            have c0 : (x0 != x0) = false := by simp
            have d1 : (x1 == y1) = false := by simp [h]
            have c1 : (x1 != y1) = true := by simp [h]
            go_wp2
            refine wp_region_still_lit hmx (by kernel_rfl) ?_
            repeat still_step
            refine wpStill_nil ?_
            go_wp2
            go_ret
            exact ⟨by rw [HQ.out]; rfl, hB.drew⟩
      · obtain rfl : k = n1 := by omega
        have hq : decide (xs = ys) = true := by
          refine decide_eq_true ?_
          rw [List.take_of_length_le (by rw [← HX.out]; exact Nat.le_refl _), List.take_of_length_le (by rw [← HY.out]; exact Nat.le_refl _)] at ht
          exact ht
        have HQ := Lib.hid hq
        clear hq ht
        go_wp2
        go_ret
        exact ⟨by rw [HQ.out]; rfl, hB⟩
  · have hd : ((n1 : Int) != (n2 : Int)) = true := by simp; omega
    have hq : decide (xs = ys) = false := decide_eq_false (fun h => hn (by rw [HX.out, HY.out, h]))
    have HQ := Lib.hid hq
    clear hq
    go_enter Tryd.func27, Tryd.ntmps27
    go_wp2
    go_ret
    exact ⟨by rw [HQ.out]; rfl, Below.refl _ _⟩

set_option maxRecDepth 100000 in
set_option maxHeartbeats 2000000 in
theorem Tryd.equalBools_any (a1 a2 : Option Addr) (n1 n2 c1 c2 : Nat) (xs ys : List Bool) (w : World) (h1 : BAt w (.slice a1 n1 c1) xs) (h2 : BAt w (.slice a2 n2 c2) ys) (hl : n1 ≤ 10000) (hl2 : n2 ≤ 10000) :
    Calls Tryd.prog 24 #[.slice a1 n1 c1, .slice a2 n2 c2] w fun e w' => e = .returned (.bool (decide (xs = ys))) ∧ Below w.heap.size w w' := by
  have HX := Lib.hid (bAt_len h1).1
  have HY := Lib.hid (bAt_len h2).1
  have H1 := Lib.hid h1
  have H2 := Lib.hid h2
  clear h1 h2
  by_cases hn : n1 = n2
  · subst hn
    have hd : ((n1 : Int) != (n1 : Int)) = false := by simp
    go_enter Tryd.func24, Tryd.ntmps24
    go_wp2
    go_loopw [5, 13] (fun _ j wr => ∃ k : Nat, k ≤ n1 ∧ j = .int .i64 k ∧ xs.take k = ys.take k ∧ Below w.heap.size w wr) (fun _ j _ => n1 - (intOf j).toNat)
    case atStart => exact ⟨0, Nat.zero_le _, rfl, rfl, Below.refl _ _⟩
    case round =>
      obtain ⟨k, hk, rfl, ht, hB⟩ := hrel
      by_cases hlt : k < n1
      · have hkx : k < xs.length := by rw [← HX.out]; exact hlt
        have hky : k < ys.length := by rw [← HY.out]; exact hlt
        obtain ⟨b1, o1, rfl, hb1, p0⟩ := bAt_get (RowAt.below H1.out hB) k hkx
        obtain ⟨b2, o2, rfl, hb2, q0⟩ := bAt_get (RowAt.below H2.out hB) k hky
        have hmx : Tryd.prog.follows .mixedOrders = true := by kernel_rfl
        have hki : (k : Int) < (n1 : Int) := by omega
        have HT := Lib.hid ht
        clear ht
        by_cases he : xs[k] = ys[k]
        · have hnx := take_eq_nextB HT.out hkx hky he
          have HNX := Lib.hid hnx
          rw [he] at p0
          have hne : (ys[k] != ys[k]) = false := by simp
          clear hnx he
          generalize ys[k] = y at *
          go_wp2
          refine wp_region_still_lit hmx (by kernel_rfl) ?_
          repeat still_step
          refine wpStill_nil ?_
          go_wp2
          exact ⟨⟨k + 1, by omega, by go_num, HNX.out, hB.drew⟩, by simp [intOf]; omega⟩
        · have hne : (xs[k] != ys[k]) = true := by simp [he]
          have hq : decide (xs = ys) = false := decide_eq_false (fun h => he (by subst h; rfl))
          have HQ := Lib.hid hq
          clear hq he
          generalize xs[k] = x at *
          generalize ys[k] = y at *
          have hne2 : (!(x == y)) = true := hne
          go_wp2
          refine wp_region_still_lit hmx (by kernel_rfl) ?_
          repeat still_step
          refine wpStill_nil ?_
          go_wp2
          go_ret
          exact ⟨by rw [HQ.out]; rfl, hB.drew⟩
      · obtain rfl : k = n1 := by omega
        have hq : decide (xs = ys) = true := by
          refine decide_eq_true ?_
          rw [List.take_of_length_le (by rw [← HX.out]; exact Nat.le_refl _), List.take_of_length_le (by rw [← HY.out]; exact Nat.le_refl _)] at ht
          exact ht
        have HQ := Lib.hid hq
        clear hq ht
        go_wp2
        go_ret
        exact ⟨by rw [HQ.out]; rfl, hB⟩
  · have hd : ((n1 : Int) != (n2 : Int)) = true := by simp; omega
    have hq : decide (xs = ys) = false := decide_eq_false (fun h => hn (by rw [HX.out, HY.out, h]))
    have HQ := Lib.hid hq
    clear hq
    go_enter Tryd.func24, Tryd.ntmps24
    go_wp2
    go_ret
    exact ⟨by rw [HQ.out]; rfl, Below.refl _ _⟩
end Go.Proofs
