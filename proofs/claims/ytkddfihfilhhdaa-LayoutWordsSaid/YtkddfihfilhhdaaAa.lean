/- Rows of pairs of a number and a word (slabs, entries): cells, Clone, Equal. -/
import Derived.Test.YtkddfihfilhhdaaGt
import Derived.Test.YtkddfihfilhhdaaRi
namespace Go.Proofs
open Go.ChangeShapes Go.WideShapes Go.RowKit Go.Shelf Go.Deep
attribute [local go_sem] Oper.semAt_some

abbrev Pr := Int × Nat
theorem Rows8.newB {W : World} {t : TypeId} {cs : Array Value} : Below W.heap.size W (W.alloc (.cells cs t)) := (Below.refl _ W).alloc (Nat.le_refl _) _
def pCells (p : Pr) : List Value := [.int .i64 p.1, .int .u64 (p.2 : Nat)]
def pc (p : Pr) : Array Value := #[.int .i64 p.1, .int .u64 (p.2 : Nat)]
def pVals (l : List Pr) : List Value := l.flatMap pCells
theorem pVals_length (l : List Pr) : (pVals l).length = l.length * 2 := flat_length pCells 2 (fun _ => rfl) l
theorem pVals_one (l : List Pr) : ∀ u ∈ pVals l, u.oneCell' = true := by
  intro u hu
  simp only [pVals, List.mem_flatMap] at hu
  obtain ⟨d, _, hu⟩ := hu
  simp [pCells] at hu
  rcases hu with rfl | rfl <;> rfl
theorem pVals_snoc (l : List Pr) (x : Pr) : pVals (l ++ [x]) = pVals l ++ pCells x := by simp [pVals]
def PAt (W : World) (v : Value) (l : List (Pr)) : Prop := RowAt W v l.length 2 (pVals l)
theorem pAt_none (W : World) : PAt W (.slice none 0 0) [] := ⟨rfl, none, 0, rfl, Nat.le_refl _, Nat.zero_le _, fun _ => rfl, fun _ hj => absurd hj (Nat.not_lt_zero _)⟩
theorem PAt.below {W W' : World} {v : Value} {l : List (Pr)} (h : PAt W v l) (hB : Below W.heap.size W W') : PAt W' v l := RowAt.below h hB
theorem pAt_len {W : World} {x : Option Addr} {n cap : Nat} {l : List (Pr)} (h : PAt W (.slice x n cap) l) : n = l.length ∧ n ≤ cap ∧ cap ≤ maxLen := by
  obtain ⟨h0, a, c, e, h1, h2, _⟩ := h
  cases e
  exact ⟨rfl, h1, h2⟩
theorem pAt_get {W : World} {x : Option Addr} {n cap : Nat} {l : List (Pr)} (h : PAt W (.slice x n cap) l) (j : Nat) (hj : j < l.length) :
    ∃ b off, x = some ⟨b, off, none⟩ ∧ b < W.heap.size ∧ W.cell? ⟨b, off + j * 2, none⟩ = some (.int .i64 (l[j]).1) ∧ W.cell? ⟨b, off + j * 2 + 1, none⟩ = some (.int .u64 ((l[j]).2 : Nat)) := by
  obtain ⟨h0, a, cap', e, _, _, _, hc⟩ := h
  cases e
  have hlen := pVals_length l
  obtain ⟨b, off, e, hb, g0⟩ := hc (j * 2) (by omega)
  obtain ⟨_, _, e1, _, g1⟩ := hc (j * 2 + 1) (by omega)
  subst e
  cases e1
  have f0 := flat_get pCells 2 (fun _ => rfl) l j 0 hj (by decide)
  have f1 := flat_get pCells 2 (fun _ => rfl) l j 1 hj (by decide)
  rw [Nat.add_zero] at f0
  exact ⟨b, off, rfl, hb, g0.trans f0, g1.trans f1⟩
theorem pAt_cut {W : World} {x : Option Addr} {n cap : Nat} {l : List (Pr)} (h : PAt W (.slice x n cap) l) (k : Nat) (hk : k ≤ n) : PAt W (.slice x k cap) (l.take k) := by
  have hn := (pAt_len h).1
  have h' : RowAt W (.slice x n cap) n 2 (pVals l) := by
    have h2 := h
    unfold PAt at h2
    rw [← hn] at h2
    exact h2
  have hc := RowAt.cut h' k hk
  have e : (l.take k).length = k := by rw [List.length_take]; omega
  unfold PAt
  rw [e]
  have e2 : pVals (l.take k) = (pVals l).take (k * 2) := flat_take pCells 2 (fun _ => rfl) l k
  rw [e2]
  exact hc
/-- .. without its first. -/
theorem pAt_tail {W : World} {b off n cap : Nat} {s : Pr} {l : List (Pr)} (h : PAt W (.slice (some ⟨b, off, none⟩) (n + 1) (cap + 1)) (s :: l)) : PAt W (.slice (some ⟨b, off + 2, none⟩) n cap) l := by
  obtain ⟨h0, a, cap', e, h1, h2, h3, hc⟩ := h
  cases e
  refine ⟨pVals_length l, _, cap, rfl, by simp only [List.length_cons] at h1; omega, by omega, (fun e => by cases e), fun j hj => ?_⟩
  obtain ⟨b', off', e, hb, g⟩ := hc (j + 2) (by rw [pVals_length] at hj ⊢; rw [List.length_cons]; omega)
  cases e
  refine ⟨b, off + 2, rfl, hb, ?_⟩
  rw [show off + 2 + j = off + (j + 2) by omega, g]
  show (pCells s ++ pVals l)[j + 2]? = _
  rw [List.getElem?_append_right (by simp [pCells])]
  simp [pCells]
theorem take_eq_nextP {xs ys : List (Pr)} {k : Nat} (h : xs.take k = ys.take k) (hx : k < xs.length) (hy : k < ys.length) (he : xs[k] = ys[k]) : xs.take (k + 1) = ys.take (k + 1) := by
  rw [List.take_succ_eq_append_getElem hx, List.take_succ_eq_append_getElem hy, h, he]
theorem drop_next {α : Type} (l : List α) (k : Nat) (h : k < l.length) : l.drop k = l[k] :: l.drop (k + 1) := List.drop_eq_getElem_cons h


/-- A row of pairs that the call owns. -/
def OwnsP (T : TypeId) (n₀ : Nat) (l : List Pr) (v : Value) (W : World) : Prop := W.ownsRow n₀ T 2 v l.length (pVals l)
theorem ownsP_nil (T : TypeId) (n₀ : Nat) (W : World) : OwnsP T n₀ [] (.slice none 0 0) W := World.ownsRow_nil _ _ _ _
theorem OwnsP.at {T : TypeId} {n₀ : Nat} {l : List Pr} {v : Value} {W : World} (o : OwnsP T n₀ l v W) : PAt W v l := rowAt_own o
theorem OwnsP.form {T : TypeId} {n₀ : Nat} {l : List Pr} {v : Value} {W : World} (o : OwnsP T n₀ l v W) : ∃ a c, v = .slice a l.length c := by
  obtain ⟨_, a, c, h, _⟩ := rowAt_own o
  exact ⟨a, c, h⟩
theorem OwnsP.below {T : TypeId} {n₀ h : Nat} {l : List Pr} {v : Value} {A B : World} (o : OwnsP T n₀ l v A) (hB : Below h A B) (hh : A.heap.size ≤ h) : OwnsP T n₀ l v B := owns_keep o hB hh
theorem OwnsP.mono {T : TypeId} {n₀ n₁ : Nat} {l : List Pr} {v : Value} {W : World} (o : OwnsP T n₁ l v W) (h : n₀ ≤ n₁) : OwnsP T n₀ l v W := owns_mono o h
theorem OwnsP.setNe {T t : TypeId} {n₀ : Nat} {l : List Pr} {v : Value} {W : World} (o : OwnsP T n₀ l v W) {a : Addr} {cs : Array Value} (r : Rows8 W a.block t cs) (hne : T ≠ t) (u : Value) : OwnsP T n₀ l v (W.setCell a u) := by
  refine ownsRow_setCell_other o ?_ u
  exact owns_not o r hne
theorem pVals_set0 (l : List Pr) (j : Nat) (hj : j < l.length) (t : Int) : pVals (l.set j (t, l[j].2)) = (pVals l).set (j * 2) (.int .i64 t) := by
  induction l generalizing j with
  | nil => simp at hj
  | cons s l ih =>
    cases j with
    | zero => simp [pVals, pCells]
    | succ j =>
      have h := ih j (by simpa using hj)
      have e : (j + 1) * 2 = j * 2 + 1 + 1 := by omega
      simp only [pVals, List.set_cons_succ, List.flatMap_cons, pCells, List.getElem_cons_succ, e, List.cons_append, List.nil_append] at h ⊢
      rw [h]
theorem pVals_set1 (l : List Pr) (j : Nat) (hj : j < l.length) (g : Nat) : pVals (l.set j (l[j].1, g)) = (pVals l).set (j * 2 + 1) (.int .u64 (g : Nat)) := by
  induction l generalizing j with
  | nil => simp at hj
  | cons s l ih =>
    cases j with
    | zero => simp [pVals, pCells]
    | succ j =>
      have h := ih j (by simpa using hj)
      have e : (j + 1) * 2 + 1 = j * 2 + 1 + 1 + 1 := by omega
      simp only [pVals, List.set_cons_succ, List.flatMap_cons, pCells, List.getElem_cons_succ, e, List.cons_append, List.nil_append] at h ⊢
      rw [h]
theorem OwnsP.block {T : TypeId} {n₀ : Nat} {l : List Pr} {a : Option Addr} {n c : Nat} {W : World} (o : OwnsP T n₀ l (.slice a n c) W) (j : Nat) (hj : j < l.length) :
    ∃ g cs, a = some ⟨g, 0, none⟩ ∧ n₀ ≤ g ∧ n = l.length ∧ Rows8 W g T cs ∧ W.cell? ⟨g, j * 2, none⟩ = some (.int .i64 (l[j]).1) ∧ W.cell? ⟨g, j * 2 + 1, none⟩ = some (.int .u64 ((l[j]).2 : Nat)) := by
  rcases o.2 with ⟨_, h0⟩ | ⟨g, cap, cur, e, hg, hh, _⟩
  · rw [h0] at hj; simp at hj
  · cases e
    have h := OwnsP.at o
    obtain ⟨b, off, e, _, c0, c1⟩ := pAt_get h j hj
    cases e
    rw [Nat.zero_add] at c0 c1
    exact ⟨g, cur, rfl, hg, rfl, hh, c0, c1⟩
theorem OwnsP.set0 {T : TypeId} {n₀ : Nat} {l : List Pr} {g n c : Nat} {W : World} (o : OwnsP T n₀ l (.slice (some ⟨g, 0, none⟩) n c) W) (hn : n = l.length) (j : Nat) (hj : j < l.length) (t : Int) : OwnsP T n₀ (l.set j (t, l[j].2)) (.slice (some ⟨g, 0, none⟩) n c) (W.setCell ⟨g, j * 2, none⟩ (.int .i64 t)) := by
  subst hn
  have h := (World.ownsRow.stored o (j * 2) (.int .i64 t)).1
  unfold OwnsP
  rw [pVals_set0 l j hj, List.length_set]
  exact h
theorem OwnsP.set1 {T : TypeId} {n₀ : Nat} {l : List Pr} {g n c : Nat} {W : World} (o : OwnsP T n₀ l (.slice (some ⟨g, 0, none⟩) n c) W) (hn : n = l.length) (j : Nat) (hj : j < l.length) (x : Nat) : OwnsP T n₀ (l.set j (l[j].1, x)) (.slice (some ⟨g, 0, none⟩) n c) (W.setCell ⟨g, j * 2 + 1, none⟩ (.int .u64 (x : Nat))) := by
  subst hn
  have h := (World.ownsRow.stored o (j * 2 + 1) (.int .u64 (x : Nat))).1
  unfold OwnsP
  rw [pVals_set1 l j hj, List.length_set]
  exact h
theorem Try.infoEntry : (Try.prog.info? 36).map (fun i => (i.zero, i.size, i.bytes)) = some (some (.agg #[.int .i64 0, .int .u64 0]), 2, 16) := by kernel_rfl
set_option maxRecDepth 100000 in
set_option maxHeartbeats 1000000 in
theorem Try.cloneEntry_any (a : Option Addr) (n cap : Nat) (ws : List (Pr)) (hn : n = ws.length) (hl : n ≤ 10000) (w : World) (hI : PAt w (.slice a n cap) ws) :
    Calls Try.prog 60 #[.slice a n cap] w fun e w' => ∃ b c, e = .returned (.slice b n c) ∧ OwnsP 36 w.heap.size ws (.slice b n c) w' ∧ Below w.heap.size w w' := by
  obtain ⟨i0, hi, hz0, hz1, hz2⟩ := info_parts Try.infoEntry
  cases a with
  | none =>
    obtain ⟨h0, a', cap', e, h1, h2, h3, h4⟩ := hI
    cases e
    have hc0 : cap = 0 := h3 rfl
    subst hc0
    have hw0 : ws = [] := List.eq_nil_of_length_eq_zero (by omega)
    subst hw0
    have hnil := fun wx : World => Lib.run_eql_slice_nil (P := Try.prog) wx 23 36 none 0 0 0 0 Try.underlying23
    simp only [List.length_nil]
    clear h0 h1 h2 h3 h4 hn hl
    go_enter Try.func60, Try.ntmps60
    go_wp2
    go_ret
    exact ⟨none, 0, rfl, ownsP_nil _ _ _, Below.refl _ _⟩
  | some x =>
    have hnil := fun wx : World => Lib.run_eql_slice_nil (P := Try.prog) wx 23 36 (some x) n cap 0 0 Try.underlying23
    subst hn
    have hsrc := row_src hI
    have HC := Lib.hid hsrc
    clear hI hsrc
    have hO : (w.alloc (.cells #[] 36)).ownsRow w.heap.size 36 2 (.slice (some ⟨w.heap.size, 0, none⟩) 0 0) 0 [] := World.ownsRow_lit w #[] 0 (Nat.le_refl _) (by unfold maxLen; omega) rfl
    have hB : Below w.heap.size w (w.alloc (.cells #[] 36)) := (Below.refl _ w).alloc (Nat.le_refl _) _
    have HO := Lib.hid hO
    clear hO
    go_enter Try.func60, Try.ntmps60
    go_wp2_with (at_builtin; refine wpList_append_own _ rfl _ _ 23 rfl w.heap.size 36 i0 (.agg #[.int .i64 0, .int .u64 0]) 2 16 Try.underlying23 hi hz0 hz1 hz2 rfl (by decide) _ _ _ rfl HO.out x ws.length cap (pVals ws) rfl ?c1 ?c2 ?c3 ?c4 ?c5 ?c6 ?_)
    case c1 => rw [pVals_length]
    case c2 =>
      intro j u hu
      have h := HC.out j u hu
      have hlt : x.block < w.heap.size := by
        have hk := h
        unfold World.cell? at hk
        rcases Nat.lt_or_ge (x.add j).block w.heap.size with hq | hq
        · have : (x.add j).block = x.block := by unfold Addr.add; split <;> rfl
          omega
        · rw [Array.getElem?_eq_none hq] at hk
          cases hk
      have hblk : (x.add j).block = x.block := by unfold Addr.add; split <;> rfl
      exact (hB.cell (p := x.add j) (by rw [hblk]; exact hlt)).trans h
    case c3 => exact pVals_one ws
    case c4 => simp; unfold maxLen; omega
    case c5 => simp; omega
    case c6 => simp
    intro v' w1 hown' hgrow _
    have hB1 : Below w.heap.size w w1 := hB.grown hgrow (by simp) (fun j ej => (World.ownsRow.lt HO.out j ej).1)
    have hO2 : w1.ownsRow w.heap.size 36 2 v' ws.length (pVals ws) := by simpa using hown'
    obtain ⟨_, b, c, rfl, _⟩ := rowAt_own hO2
    have HO2 := Lib.hid (show OwnsP 36 w.heap.size ws (.slice b ws.length c) w1 from hO2)
    clear hO2 hown' hgrow
    go_wp2
    go_ret
    exact ⟨b, c, rfl, HO2.out, hB1⟩

set_option maxRecDepth 100000 in
set_option maxHeartbeats 2000000 in
theorem Try.equalEntry_any (a1 a2 : Option Addr) (n1 n2 c1 c2 : Nat) (xs ys : List (Pr)) (w : World) (h1 : PAt w (.slice a1 n1 c1) xs) (h2 : PAt w (.slice a2 n2 c2) ys) (hl : n1 ≤ 10000) (hl2 : n2 ≤ 10000) :
    Calls Try.prog 63 #[.slice a1 n1 c1, .slice a2 n2 c2] w fun e w' => e = .returned (.bool (decide (xs = ys))) ∧ Below w.heap.size w w' := by
  have HX := Lib.hid (pAt_len h1).1
  have HY := Lib.hid (pAt_len h2).1
  have H1 := Lib.hid h1
  have H2 := Lib.hid h2
  clear h1 h2
  by_cases hn : n1 = n2
  · subst hn
    have hd : ((n1 : Int) != (n1 : Int)) = false := by simp
    go_enter Try.func63, Try.ntmps63
    go_wp2
    go_loopw [5, 13] (fun _ j wr => ∃ k : Nat, k ≤ n1 ∧ j = .int .i64 k ∧ xs.take k = ys.take k ∧ Below w.heap.size w wr) (fun _ j _ => n1 - (intOf j).toNat)
    case atStart => exact ⟨0, Nat.zero_le _, rfl, rfl, Below.refl _ _⟩
    case round =>
      obtain ⟨k, hk, rfl, ht, hB⟩ := hrel
      by_cases hlt : k < n1
      · have hkx : k < xs.length := by rw [← HX.out]; exact hlt
        have hky : k < ys.length := by rw [← HY.out]; exact hlt
        obtain ⟨b1, o1, rfl, hb1, p0, p1⟩ := pAt_get (PAt.below H1.out hB) k hkx
        obtain ⟨b2, o2, rfl, hb2, q0, q1⟩ := pAt_get (PAt.below H2.out hB) k hky
        have hmx : Try.prog.follows .mixedOrders = true := by kernel_rfl
        have hki : (k : Int) < (n1 : Int) := by omega
        have HT := Lib.hid ht
        clear ht
        rcases hx1 : xs[k] with ⟨x0, x1⟩
        rcases hy1 : ys[k] with ⟨y0, y1⟩
        rw [hx1] at p0 p1
        rw [hy1] at q0 q1
        dsimp only at p0 p1 q0 q1
        by_cases he : xs[k] = ys[k]
        · have hnx := take_eq_nextP HT.out hkx hky he
          have HNX := Lib.hid hnx
          rw [hx1, hy1] at he
          injection he with e0 e1
          subst e0 e1
          have d0 : (x0 == x0) = true := by simp
          have d1 : (((x1 : Nat) : Int) == ((x1 : Nat) : Int)) = true := by simp
          have c0 : (x0 != x0) = false := by simp
          have c1 : (((x1 : Nat) : Int) != ((x1 : Nat) : Int)) = false := by simp
          clear hnx hx1 hy1
          go_wp2
          refine wp_region_still_lit hmx (by kernel_rfl) ?_
          repeat still_step
          refine wpStill_nil ?_
          go_wp2
          exact ⟨⟨k + 1, by omega, by go_num, HNX.out, hB.drew⟩, by simp [intOf]; omega⟩
        · have hq : decide (xs = ys) = false := decide_eq_false (fun h => he (by subst h; rfl))
          have HQ := Lib.hid hq
          have hne : ¬ (x0 = y0 ∧ x1 = y1) := fun ⟨e0, e1⟩ => he (by rw [hx1, hy1, e0, e1])
          have hs : x0 ≠ y0 ∨ (x0 = y0 ∧ x1 ≠ y1) := by by_cases h0 : x0 = y0; exact .inr ⟨h0, fun h1 => hne ⟨h0, h1⟩⟩; exact .inl h0
          clear hq he hne hx1 hy1
          rcases hs with h | ⟨rfl, h⟩
          · have d0 : (x0 == y0) = false := by simp [h]
            have c0 : (x0 != y0) = true := by simp [h]
            go_wp2
            refine wp_region_still_lit hmx (by kernel_rfl) ?_
            repeat still_step
            refine wpStill_nil ?_
            go_wp2
            go_ret
            exact ⟨by rw [HQ.out]; rfl, hB.drew⟩
          · have d0 : (x0 == x0) = true := by simp
            have c0 : (x0 != x0) = false := by simp
            have d1 : (((x1 : Nat) : Int) == ((y1 : Nat) : Int)) = false := by simp; omega
            have c1 : (((x1 : Nat) : Int) != ((y1 : Nat) : Int)) = true := by simp; omega
            go_wp2
            refine wp_region_still_lit hmx (by kernel_rfl) ?_
            repeat still_step
            refine wpStill_nil ?_
            go_wp2
            go_ret
            exact ⟨by rw [HQ.out]; rfl, hB.drew⟩
      · obtain rfl : k = n1 := by omega
        have hq : decide (xs = ys) = true := by
          refine decide_eq_true ?_
          rw [List.take_of_length_le (by rw [← HX.out]; exact Nat.le_refl _), List.take_of_length_le (by rw [← HY.out]; exact Nat.le_refl _)] at ht
          exact ht
        have HQ := Lib.hid hq
        clear hq ht
        go_wp2
        go_ret
        exact ⟨by rw [HQ.out]; rfl, hB⟩
  · have hd : ((n1 : Int) != (n2 : Int)) = true := by simp; omega
    have hq : decide (xs = ys) = false := decide_eq_false (fun h => hn (by rw [HX.out, HY.out, h]))
    have HQ := Lib.hid hq
    clear hq
    go_enter Try.func63, Try.ntmps63
    go_wp2
    go_ret
    exact ⟨by rw [HQ.out]; rfl, Below.refl _ _⟩


end Go.Proofs
