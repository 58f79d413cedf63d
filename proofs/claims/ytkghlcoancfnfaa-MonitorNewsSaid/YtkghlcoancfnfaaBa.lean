/- Monitor: rows of bools, and of what is watched: cells, Clone, Equal. -/
import Derived.Test.YtkghlcoancfnfaaAp
namespace Go.Proofs
open Go.ChangeShapes Go.WideShapes Go.RowKit Go.Shelf Go.Deep
attribute [local go_sem] Oper.semAt_some

def bVals (l : List Bool) : List Value := l.map Value.bool
def BAt (W : World) (v : Value) (l : List Bool) : Prop := RowAt W v l.length 1 (bVals l)
theorem bAt_none (W : World) : BAt W (.slice none 0 0) [] := ⟨rfl, none, 0, rfl, Nat.le_refl _, Nat.zero_le _, fun _ => rfl, fun _ hj => absurd hj (Nat.not_lt_zero _)⟩
theorem bVals_length (l : List Bool) : (bVals l).length = l.length := by simp [bVals]
theorem bVals_one (l : List Bool) : ∀ u ∈ bVals l, u.oneCell' = true := by
  intro u hu
  obtain ⟨b, _, rfl⟩ := List.mem_map.1 hu
  rfl
theorem bAt_len {W : World} {x : Option Addr} {n cap : Nat} {l : List Bool} (h : BAt W (.slice x n cap) l) : n = l.length ∧ n ≤ cap ∧ cap ≤ maxLen := by
  obtain ⟨h0, a, c, e, h1, h2, _⟩ := h
  cases e
  exact ⟨rfl, h1, h2⟩
theorem bAt_get {W : World} {x : Option Addr} {n cap : Nat} {l : List Bool} (h : BAt W (.slice x n cap) l) (j : Nat) (hj : j < l.length) :
    ∃ b off, x = some ⟨b, off, none⟩ ∧ b < W.heap.size ∧ W.cell? ⟨b, off + j, none⟩ = some (.bool l[j]) := by
  obtain ⟨h0, a, cap', e, _, _, _, hc⟩ := h
  cases e
  obtain ⟨b, off, e, hb, g⟩ := hc j (by rw [bVals_length]; exact hj)
  exact ⟨b, off, e, hb, by rw [g]; simp [bVals, hj]⟩
def OwnsBools (n₀ : Nat) (ws : List Bool) (v : Value) (W : World) : Prop := W.ownsRow n₀ 4 1 v ws.length (bVals ws)
def BoolsQ (ws : List Bool) (w : World) (e : Ending) (w' : World) : Prop := ∃ v, e = .returned v ∧ OwnsBools w.heap.size ws v w' ∧ Below w.heap.size w w'
theorem Try.infoBool : (Try.prog.info? 4).map (fun i => (i.zero, i.size, i.bytes)) = some (some (.bool false), 1, 1) := by kernel_rfl
theorem cellsB : Try.prog.cellsOf 4 = 1 := by kernel_rfl
theorem bools_cut {W : World} {a : Option Addr} {n cap : Nat} {ws : List Bool} (hn : n = ws.length) (h : BAt W (.slice a n cap) ws) (m : Nat) (hm : m ≤ n) : BAt W (.slice a m cap) (ws.take m) := by
  subst hn
  have h1 := RowAt.cut h m hm
  unfold BAt
  have e : (ws.take m).length = m := by rw [List.length_take]; omega
  rw [e]
  have e2 : bVals (ws.take m) = (bVals ws).take (m * 1) := by rw [Nat.mul_one]; simp [bVals]
  rw [e2]
  exact h1
set_option maxRecDepth 100000 in
set_option maxHeartbeats 1000000 in
theorem Try.cloneBools_any (a : Option Addr) (n cap : Nat) (ws : List Bool) (hn : n = ws.length) (hl : n ≤ 100) (w : World) (hI : BAt w (.slice a n cap) ws) :
    Calls Try.prog 32 #[.slice a n cap] w (BoolsQ ws w) := by
  obtain ⟨i0, hi, hz0, hz1, hz2⟩ := info_parts Try.infoBool
  cases a with
  | none =>
    obtain ⟨h0, a', cap', e, h1, h2, h3, h4⟩ := hI
    cases e
    have hc0 : cap = 0 := h3 rfl
    subst hc0
    have hw0 : ws = [] := List.eq_nil_of_length_eq_zero (by omega)
    subst hw0
    have hnil := fun wx : World => Lib.run_eql_slice_nil (P := Try.prog) wx 25 4 none 0 0 0 0 Try.underlying25
    simp only [List.length_nil]
    clear h0 h1 h2 h3 h4 hn hl
    go_enter Try.func32, Try.ntmps32
    go_wp2
    go_ret
    exact ⟨_, rfl, World.ownsRow_nil _ _ _ _, Below.refl _ _⟩
  | some x =>
    have hnil := fun wx : World => Lib.run_eql_slice_nil (P := Try.prog) wx 25 4 (some x) n cap 0 0 Try.underlying25
    subst hn
    have hsrc := row_src hI
    have HC := Lib.hid hsrc
    clear hI hsrc
    have hO : OwnsBools w.heap.size [] (.slice (some ⟨w.heap.size, 0, none⟩) 0 0) (w.alloc (.cells #[] 4)) := World.ownsRow_lit w #[] 0 (Nat.le_refl _) (by unfold maxLen; omega) rfl
    have hB : Below w.heap.size w (w.alloc (.cells #[] 4)) := (Below.refl _ w).alloc (Nat.le_refl _) _
    have HO := Lib.hid hO
    clear hO
    go_enter Try.func32, Try.ntmps32
    go_wp2_with (at_builtin; refine wpList_append_own _ rfl _ _ 25 rfl w.heap.size 4 i0 (.bool false) 1 1 Try.underlying25 hi hz0 hz1 hz2 rfl (by decide) _ _ _ rfl HO.out x ws.length cap (bVals ws) rfl ?c1 ?c2 ?c3 ?c4 ?c5 ?c6 ?_)
    case c1 => rw [bVals_length]; omega
    case c2 =>
      intro j u hu
      have h := HC.out j u hu
      have hlt : x.block < w.heap.size := by
        have hk := h
        unfold World.cell? at hk
        rcases Nat.lt_or_ge (x.add j).block w.heap.size with hq | hq
        · have : (x.add j).block = x.block := by unfold Addr.add; split <;> rfl
          omega
        · rw [Array.getElem?_eq_none hq] at hk
          cases hk
      have hblk : (x.add j).block = x.block := by unfold Addr.add; split <;> rfl
      exact (hB.cell (p := x.add j) (by rw [hblk]; exact hlt)).trans h
    case c3 => exact bVals_one ws
    case c4 => simp; unfold maxLen; omega
    case c5 => simp; omega
    case c6 => simp
    intro v' w1 hown' hgrow _
    have hB1 : Below w.heap.size w w1 := hB.grown hgrow (by simp) (fun j ej => (World.ownsRow.lt HO.out j ej).1)
    have hO2 : OwnsBools w.heap.size ws v' w1 := by
      unfold OwnsBools
      simpa [bVals] using hown'
    have HO2 := Lib.hid hO2
    clear hO2 hown' hgrow
    go_wp2
    go_ret
    exact ⟨_, rfl, HO2.out, hB1⟩

theorem take_eq_nextB {xs ys : List Bool} {k : Nat} (h : xs.take k = ys.take k) (hx : k < xs.length) (hy : k < ys.length) (he : xs[k] = ys[k]) : xs.take (k + 1) = ys.take (k + 1) := by
  rw [List.take_succ_eq_append_getElem hx, List.take_succ_eq_append_getElem hy, h, he]

set_option maxRecDepth 100000 in
set_option maxHeartbeats 2000000 in
theorem Try.equalBools_any (a1 a2 : Option Addr) (n1 n2 c1 c2 : Nat) (xs ys : List Bool) (w : World) (h1 : BAt w (.slice a1 n1 c1) xs) (h2 : BAt w (.slice a2 n2 c2) ys) (hl : n1 ≤ 10000) (hl2 : n2 ≤ 10000) :
    Calls Try.prog 40 #[.slice a1 n1 c1, .slice a2 n2 c2] w fun e w' => e = .returned (.bool (decide (xs = ys))) ∧ Below w.heap.size w w' := by
  have HX := Lib.hid (bAt_len h1).1
  have HY := Lib.hid (bAt_len h2).1
  have H1 := Lib.hid h1
  have H2 := Lib.hid h2
  clear h1 h2
  by_cases hn : n1 = n2
  · subst hn
    have hd : ((n1 : Int) != (n1 : Int)) = false := by simp
    go_enter Try.func40, Try.ntmps40
    go_wp2
    go_loopw [5, 13] (fun _ j wr => ∃ k : Nat, k ≤ n1 ∧ j = .int .i64 k ∧ xs.take k = ys.take k ∧ Below w.heap.size w wr) (fun _ j _ => n1 - (intOf j).toNat)
    case atStart => exact ⟨0, Nat.zero_le _, rfl, rfl, Below.refl _ _⟩
    case round =>
      obtain ⟨k, hk, rfl, ht, hB⟩ := hrel
      by_cases hlt : k < n1
      · have hkx : k < xs.length := by rw [← HX.out]; exact hlt
        have hky : k < ys.length := by rw [← HY.out]; exact hlt
        obtain ⟨b1, o1, rfl, hb1, p0⟩ := bAt_get (RowAt.below H1.out hB) k hkx
        obtain ⟨b2, o2, rfl, hb2, q0⟩ := bAt_get (RowAt.below H2.out hB) k hky
        have hmx : Try.prog.follows .mixedOrders = true := by kernel_rfl
        have hki : (k : Int) < (n1 : Int) := by omega
        have HT := Lib.hid ht
        clear ht
        by_cases he : xs[k] = ys[k]
        · have hnx := take_eq_nextB HT.out hkx hky he
          have HNX := Lib.hid hnx
          rw [he] at p0
          have hne : (ys[k] != ys[k]) = false := by simp
          clear hnx he
          generalize ys[k] = y at *
          go_wp2
          refine wp_region_still_lit hmx (by kernel_rfl) ?_
          repeat still_step
          refine wpStill_nil ?_
          go_wp2
          exact ⟨⟨k + 1, by omega, by go_num, HNX.out, hB.drew⟩, by simp [intOf]; omega⟩
        · have hne : (xs[k] != ys[k]) = true := by simp [he]
          have hq : decide (xs = ys) = false := decide_eq_false (fun h => he (by subst h; rfl))
          have HQ := Lib.hid hq
          clear hq he
          generalize xs[k] = x at *
          generalize ys[k] = y at *
          have hne2 : (!(x == y)) = true := hne
          go_wp2
          refine wp_region_still_lit hmx (by kernel_rfl) ?_
          repeat still_step
          refine wpStill_nil ?_
          go_wp2
          go_ret
          exact ⟨by rw [HQ.out]; rfl, hB.drew⟩
      · obtain rfl : k = n1 := by omega
        have hq : decide (xs = ys) = true := by
          refine decide_eq_true ?_
          rw [List.take_of_length_le (by rw [← HX.out]; exact Nat.le_refl _), List.take_of_length_le (by rw [← HY.out]; exact Nat.le_refl _)] at ht
          exact ht
        have HQ := Lib.hid hq
        clear hq ht
        go_wp2
        go_ret
        exact ⟨by rw [HQ.out]; rfl, hB⟩
  · have hd : ((n1 : Int) != (n2 : Int)) = true := by simp; omega
    have hq : decide (xs = ys) = false := decide_eq_false (fun h => hn (by rw [HX.out, HY.out, h]))
    have HQ := Lib.hid hq
    clear hq
    go_enter Try.func40, Try.ntmps40
    go_wp2
    go_ret
    exact ⟨by rw [HQ.out]; rfl, Below.refl _ _⟩

/-- Something that is watched. -/
structure Wt where
  kind : Int
  goer : Int
  slab : Int
  gen : Nat
  deriving DecidableEq
def Wt.ent (x : Wt) : Pr := (x.slab, x.gen)
def wCells (x : Wt) : List Value := [.int .i64 x.kind, .int .i64 x.goer, .int .i64 x.slab, .int .u64 (x.gen : Nat)]
def wc (x : Wt) : Array Value := #[.int .i64 x.kind, .int .i64 x.goer, .int .i64 x.slab, .int .u64 (x.gen : Nat)]
def wVals (l : List Wt) : List Value := l.flatMap wCells
theorem wVals_length (l : List Wt) : (wVals l).length = l.length * 4 := flat_length wCells 4 (fun _ => rfl) l
theorem wVals_one (l : List Wt) : ∀ u ∈ wVals l, u.oneCell' = true := by
  intro u hu
  simp only [wVals, List.mem_flatMap] at hu
  obtain ⟨d, _, hu⟩ := hu
  simp [wCells] at hu
  rcases hu with rfl | rfl | rfl | rfl <;> rfl
theorem wVals_snoc (l : List Wt) (x : Wt) : wVals (l ++ [x]) = wVals l ++ wCells x := by simp [wVals]
def WAt (W : World) (v : Value) (l : List Wt) : Prop := RowAt W v l.length 4 (wVals l)
theorem wAt_none (W : World) : WAt W (.slice none 0 0) [] := ⟨rfl, none, 0, rfl, Nat.le_refl _, Nat.zero_le _, fun _ => rfl, fun _ hj => absurd hj (Nat.not_lt_zero _)⟩
theorem WAt.below {W W' : World} {v : Value} {l : List Wt} (h : WAt W v l) (hB : Below W.heap.size W W') : WAt W' v l := RowAt.below h hB
theorem wAt_len {W : World} {x : Option Addr} {n cap : Nat} {l : List Wt} (h : WAt W (.slice x n cap) l) : n = l.length ∧ n ≤ cap ∧ cap ≤ maxLen := by
  obtain ⟨h0, a, c, e, h1, h2, _⟩ := h
  cases e
  exact ⟨rfl, h1, h2⟩
theorem wAt_get {W : World} {x : Option Addr} {n cap : Nat} {l : List Wt} (h : WAt W (.slice x n cap) l) (j : Nat) (hj : j < l.length) :
    ∃ b off, x = some ⟨b, off, none⟩ ∧ b < W.heap.size ∧ W.cell? ⟨b, off + j * 4, none⟩ = some (.int .i64 (l[j]).kind) ∧ W.cell? ⟨b, off + j * 4 + 1, none⟩ = some (.int .i64 (l[j]).goer) ∧
      W.cell? ⟨b, off + j * 4 + 2, none⟩ = some (.int .i64 (l[j]).slab) ∧ W.cell? ⟨b, off + j * 4 + 3, none⟩ = some (.int .u64 ((l[j]).gen : Nat)) := by
  obtain ⟨h0, a, cap', e, _, _, _, hc⟩ := h
  cases e
  have hlen := wVals_length l
  obtain ⟨b, off, e, hb, g0⟩ := hc (j * 4) (by omega)
  obtain ⟨_, _, e1, _, g1⟩ := hc (j * 4 + 1) (by omega)
  obtain ⟨_, _, e2, _, g2⟩ := hc (j * 4 + 2) (by omega)
  obtain ⟨_, _, e3, _, g3⟩ := hc (j * 4 + 3) (by omega)
  subst e
  cases e1
  cases e2
  cases e3
  have f0 := flat_get wCells 4 (fun _ => rfl) l j 0 hj (by decide)
  have f1 := flat_get wCells 4 (fun _ => rfl) l j 1 hj (by decide)
  have f2 := flat_get wCells 4 (fun _ => rfl) l j 2 hj (by decide)
  have f3 := flat_get wCells 4 (fun _ => rfl) l j 3 hj (by decide)
  rw [Nat.add_zero] at f0
  exact ⟨b, off, rfl, hb, g0.trans f0, g1.trans f1, g2.trans f2, g3.trans f3⟩
theorem wAt_cut {W : World} {x : Option Addr} {n cap : Nat} {l : List Wt} (h : WAt W (.slice x n cap) l) (k : Nat) (hk : k ≤ n) : WAt W (.slice x k cap) (l.take k) := by
  have hn := (wAt_len h).1
  have h' : RowAt W (.slice x n cap) n 4 (wVals l) := by
    have h2 := h
    unfold WAt at h2
    rw [← hn] at h2
    exact h2
  have hc := RowAt.cut h' k hk
  have e : (l.take k).length = k := by rw [List.length_take]; omega
  unfold WAt
  rw [e]
  have e2 : wVals (l.take k) = (wVals l).take (k * 4) := flat_take wCells 4 (fun _ => rfl) l k
  rw [e2]
  exact hc
theorem take_eq_nextW {xs ys : List Wt} {k : Nat} (h : xs.take k = ys.take k) (hx : k < xs.length) (hy : k < ys.length) (he : xs[k] = ys[k]) : xs.take (k + 1) = ys.take (k + 1) := by
  rw [List.take_succ_eq_append_getElem hx, List.take_succ_eq_append_getElem hy, h, he]
/-- A row of watches that the call owns. -/
def OwnsW (n₀ : Nat) (l : List Wt) (v : Value) (W : World) : Prop := W.ownsRow n₀ 40 4 v l.length (wVals l)
theorem ownsW_nil (n₀ : Nat) (W : World) : OwnsW n₀ [] (.slice none 0 0) W := World.ownsRow_nil _ _ _ _
theorem OwnsW.at {n₀ : Nat} {l : List Wt} {v : Value} {W : World} (o : OwnsW n₀ l v W) : WAt W v l := rowAt_own o
theorem OwnsW.form {n₀ : Nat} {l : List Wt} {v : Value} {W : World} (o : OwnsW n₀ l v W) : ∃ a c, v = .slice a l.length c := by
  obtain ⟨_, a, c, h, _⟩ := rowAt_own o
  exact ⟨a, c, h⟩
theorem OwnsW.below {n₀ h : Nat} {l : List Wt} {v : Value} {A B : World} (o : OwnsW n₀ l v A) (hB : Below h A B) (hh : A.heap.size ≤ h) : OwnsW n₀ l v B := owns_keep o hB hh
theorem OwnsW.mono {n₀ n₁ : Nat} {l : List Wt} {v : Value} {W : World} (o : OwnsW n₁ l v W) (h : n₀ ≤ n₁) : OwnsW n₀ l v W := owns_mono o h
theorem OwnsBools.form {n₀ : Nat} {l : List Bool} {v : Value} {W : World} (o : OwnsBools n₀ l v W) : ∃ a c, v = .slice a l.length c := by
  obtain ⟨_, a, c, h, _⟩ := rowAt_own o
  exact ⟨a, c, h⟩
theorem Try.infoWatch : (Try.prog.info? 40).map (fun i => (i.zero, i.size, i.bytes)) = some (some (.agg #[.int .i64 0, .int .i64 0, .int .i64 0, .int .u64 0]), 4, 32) := by kernel_rfl
set_option maxRecDepth 100000 in
set_option maxHeartbeats 1000000 in
theorem Try.cloneWatch_any (a : Option Addr) (n cap : Nat) (ws : List Wt) (hn : n = ws.length) (hl : n ≤ 10000) (w : World) (hI : WAt w (.slice a n cap) ws) :
    Calls Try.prog 33 #[.slice a n cap] w fun e w' => ∃ b c, e = .returned (.slice b n c) ∧ OwnsW w.heap.size ws (.slice b n c) w' ∧ Below w.heap.size w w' := by
  obtain ⟨i0, hi, hz0, hz1, hz2⟩ := info_parts Try.infoWatch
  cases a with
  | none =>
    obtain ⟨h0, a', cap', e, h1, h2, h3, h4⟩ := hI
    cases e
    have hc0 : cap = 0 := h3 rfl
    subst hc0
    have hw0 : ws = [] := List.eq_nil_of_length_eq_zero (by omega)
    subst hw0
    have hnil := fun wx : World => Lib.run_eql_slice_nil (P := Try.prog) wx 27 40 none 0 0 0 0 Try.underlying27
    simp only [List.length_nil]
    clear h0 h1 h2 h3 h4 hn hl
    go_enter Try.func33, Try.ntmps33
    go_wp2
    go_ret
    exact ⟨none, 0, rfl, ownsW_nil _ _, Below.refl _ _⟩
  | some x =>
    have hnil := fun wx : World => Lib.run_eql_slice_nil (P := Try.prog) wx 27 40 (some x) n cap 0 0 Try.underlying27
    subst hn
    have hsrc := row_src hI
    have HC := Lib.hid hsrc
    clear hI hsrc
    have hO : (w.alloc (.cells #[] 40)).ownsRow w.heap.size 40 4 (.slice (some ⟨w.heap.size, 0, none⟩) 0 0) 0 [] := World.ownsRow_lit w #[] 0 (Nat.le_refl _) (by unfold maxLen; omega) rfl
    have hB : Below w.heap.size w (w.alloc (.cells #[] 40)) := (Below.refl _ w).alloc (Nat.le_refl _) _
    have HO := Lib.hid hO
    clear hO
    go_enter Try.func33, Try.ntmps33
    go_wp2_with (at_builtin; refine wpList_append_own _ rfl _ _ 27 rfl w.heap.size 40 i0 (.agg #[.int .i64 0, .int .i64 0, .int .i64 0, .int .u64 0]) 4 32 Try.underlying27 hi hz0 hz1 hz2 rfl (by decide) _ _ _ rfl HO.out x ws.length cap (wVals ws) rfl ?c1 ?c2 ?c3 ?c4 ?c5 ?c6 ?_)
    case c1 => rw [wVals_length]
    case c2 =>
      intro j u hu
      have h := HC.out j u hu
      have hlt : x.block < w.heap.size := by
        have hk := h
        unfold World.cell? at hk
        rcases Nat.lt_or_ge (x.add j).block w.heap.size with hq | hq
        · have : (x.add j).block = x.block := by unfold Addr.add; split <;> rfl
          omega
        · rw [Array.getElem?_eq_none hq] at hk
          cases hk
      have hblk : (x.add j).block = x.block := by unfold Addr.add; split <;> rfl
      exact (hB.cell (p := x.add j) (by rw [hblk]; exact hlt)).trans h
    case c3 => exact wVals_one ws
    case c4 => simp; unfold maxLen; omega
    case c5 => simp; omega
    case c6 => simp
    intro v' w1 hown' hgrow _
    have hB1 : Below w.heap.size w w1 := hB.grown hgrow (by simp) (fun j ej => (World.ownsRow.lt HO.out j ej).1)
    have hO2 : w1.ownsRow w.heap.size 40 4 v' ws.length (wVals ws) := by simpa using hown'
    obtain ⟨_, b, c, rfl, _⟩ := rowAt_own hO2
    have HO2 := Lib.hid (show OwnsW w.heap.size ws (.slice b ws.length c) w1 from hO2)
    clear hO2 hown' hgrow
    go_wp2
    go_ret
    exact ⟨b, c, rfl, HO2.out, hB1⟩


set_option maxRecDepth 100000 in
set_option maxHeartbeats 4000000 in
theorem Try.equalWatch_any (a1 a2 : Option Addr) (n1 n2 c1 c2 : Nat) (xs ys : List Wt) (w : World) (h1 : WAt w (.slice a1 n1 c1) xs) (h2 : WAt w (.slice a2 n2 c2) ys) (hl : n1 ≤ 10000) (hl2 : n2 ≤ 10000) :
    Calls Try.prog 28 #[.slice a1 n1 c1, .slice a2 n2 c2] w fun e w' => e = .returned (.bool (decide (xs = ys))) ∧ Below w.heap.size w w' := by
  have HX := Lib.hid (wAt_len h1).1
  have HY := Lib.hid (wAt_len h2).1
  have H1 := Lib.hid h1
  have H2 := Lib.hid h2
  clear h1 h2
  by_cases hn : n1 = n2
  · subst hn
    have hd : ((n1 : Int) != (n1 : Int)) = false := by simp
    go_enter Try.func28, Try.ntmps28
    go_wp2
    go_loopw [5, 13] (fun _ j wr => ∃ k : Nat, k ≤ n1 ∧ j = .int .i64 k ∧ xs.take k = ys.take k ∧ Below w.heap.size w wr) (fun _ j _ => n1 - (intOf j).toNat)
    case atStart => exact ⟨0, Nat.zero_le _, rfl, rfl, Below.refl _ _⟩
    case round =>
      obtain ⟨k, hk, rfl, ht, hB⟩ := hrel
      by_cases hlt : k < n1
      · have hkx : k < xs.length := by rw [← HX.out]; exact hlt
        have hky : k < ys.length := by rw [← HY.out]; exact hlt
        obtain ⟨b1, o1, rfl, hb1, p0, p1, p2, p3⟩ := wAt_get (WAt.below H1.out hB) k hkx
        obtain ⟨b2, o2, rfl, hb2, q0, q1, q2, q3⟩ := wAt_get (WAt.below H2.out hB) k hky
        have hmx : Try.prog.follows .mixedOrders = true := by kernel_rfl
        have hki : (k : Int) < (n1 : Int) := by omega
        have HT := Lib.hid ht
        clear ht
        rcases hx1 : xs[k] with ⟨x0, x1, x2, x3⟩
        rcases hy1 : ys[k] with ⟨y0, y1, y2, y3⟩
        rw [hx1] at p0 p1 p2 p3
        rw [hy1] at q0 q1 q2 q3
        dsimp only at p0 p1 p2 p3 q0 q1 q2 q3
        by_cases he : xs[k] = ys[k]
        · have hnx := take_eq_nextW HT.out hkx hky he
          have HNX := Lib.hid hnx
          rw [hx1, hy1] at he
          injection he with e0 e1 e2 e3
          subst e0 e1 e2 e3
          have d0 : (x0 == x0) = true := by simp
          have c0 : (x0 != x0) = false := by simp
          have d1 : (x1 == x1) = true := by simp
          have c1 : (x1 != x1) = false := by simp
          have d2 : (x2 == x2) = true := by simp
          have c2 : (x2 != x2) = false := by simp
          have d3 : (((x3 : Nat) : Int) == ((x3 : Nat) : Int)) = true := by simp
          have c3 : (((x3 : Nat) : Int) != ((x3 : Nat) : Int)) = false := by simp
          clear hnx hx1 hy1
          go_wp2
          refine wp_region_still_lit hmx (by kernel_rfl) ?_
          repeat still_step
          refine wpStill_nil ?_
          go_wp2
          exact ⟨⟨k + 1, by omega, by go_num, HNX.out, hB.drew⟩, by simp [intOf]; omega⟩
        · have hq : decide (xs = ys) = false := decide_eq_false (fun h => he (by subst h; rfl))
          have HQ := Lib.hid hq
          have hne : ¬ (x0 = y0 ∧ x1 = y1 ∧ x2 = y2 ∧ x3 = y3) := fun ⟨e0, e1, e2, e3⟩ => he (by rw [hx1, hy1, e0, e1, e2, e3])
          have hs : x0 ≠ y0 ∨ (x0 = y0 ∧ x1 ≠ y1) ∨ (x0 = y0 ∧ x1 = y1 ∧ x2 ≠ y2) ∨ (x0 = y0 ∧ x1 = y1 ∧ x2 = y2 ∧ x3 ≠ y3) := by
            by_cases h0 : x0 = y0
            · by_cases h1 : x1 = y1
              · by_cases h2 : x2 = y2
                · exact .inr (.inr (.inr ⟨h0, h1, h2, fun h3 => hne ⟨h0, h1, h2, h3⟩⟩))
                · exact .inr (.inr (.inl ⟨h0, h1, h2⟩))
              · exact .inr (.inl ⟨h0, h1⟩)
            · exact .inl h0
          clear hq he hne hx1 hy1
          rcases hs with h | ⟨rfl, h⟩ | ⟨rfl, rfl, h⟩ | ⟨rfl, rfl, rfl, h⟩
          · have d0 : (x0 == y0) = false := by simp [h]
            have c0 : (x0 != y0) = true := by simp [h]
            go_wp2
            refine wp_region_still_lit hmx (by kernel_rfl) ?_
            repeat still_step
            refine wpStill_nil ?_
            go_wp2
            go_ret
            exact ⟨by rw [HQ.out]; rfl, hB.drew⟩
          · have d0 : (x0 == x0) = true := by simp
            have c0 : (x0 != x0) = false := by simp
            have d1 : (x1 == y1) = false := by simp [h]
            have c1 : (x1 != y1) = true := by simp [h]
            go_wp2
            refine wp_region_still_lit hmx (by kernel_rfl) ?_
            repeat still_step
            refine wpStill_nil ?_
            go_wp2
            go_ret
            exact ⟨by rw [HQ.out]; rfl, hB.drew⟩
          · have d0 : (x0 == x0) = true := by simp
            have c0 : (x0 != x0) = false := by simp
            have d1 : (x1 == x1) = true := by simp
            have c1 : (x1 != x1) = false := by simp
            have d2 : (x2 == y2) = false := by simp [h]
            have c2 : (x2 != y2) = true := by simp [h]
            go_wp2
            refine wp_region_still_lit hmx (by kernel_rfl) ?_
            repeat still_step
            refine wpStill_nil ?_
            go_wp2
            go_ret
            exact ⟨by rw [HQ.out]; rfl, hB.drew⟩
          · have d0 : (x0 == x0) = true := by simp
            have c0 : (x0 != x0) = false := by simp
            have d1 : (x1 == x1) = true := by simp
            have c1 : (x1 != x1) = false := by simp
            have d2 : (x2 == x2) = true := by simp
            have c2 : (x2 != x2) = false := by simp
            have d3 : (((x3 : Nat) : Int) == ((y3 : Nat) : Int)) = false := by simp; omega
            have c3 : (((x3 : Nat) : Int) != ((y3 : Nat) : Int)) = true := by simp; omega
            go_wp2
            refine wp_region_still_lit hmx (by kernel_rfl) ?_
            repeat still_step
            refine wpStill_nil ?_
            go_wp2
            go_ret
            exact ⟨by rw [HQ.out]; rfl, hB.drew⟩
      · obtain rfl : k = n1 := by omega
        have hq : decide (xs = ys) = true := by
          refine decide_eq_true ?_
          rw [List.take_of_length_le (by rw [← HX.out]; exact Nat.le_refl _), List.take_of_length_le (by rw [← HY.out]; exact Nat.le_refl _)] at ht
          exact ht
        have HQ := Lib.hid hq
        clear hq ht
        go_wp2
        go_ret
        exact ⟨by rw [HQ.out]; rfl, hB⟩
  · have hd : ((n1 : Int) != (n2 : Int)) = true := by simp; omega
    have hq : decide (xs = ys) = false := decide_eq_false (fun h => hn (by rw [HX.out, HY.out, h]))
    have HQ := Lib.hid hq
    clear hq
    go_enter Try.func28, Try.ntmps28
    go_wp2
    go_ret
    exact ⟨by rw [HQ.out]; rfl, Below.refl _ _⟩
end Go.Proofs
