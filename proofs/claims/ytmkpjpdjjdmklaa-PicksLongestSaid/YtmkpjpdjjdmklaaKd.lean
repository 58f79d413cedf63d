/- Turns in memory; isTurn, starves, passes, Check, Right. -/
import Derived.Test.YtmkpjpdjjdmklaaKm
namespace Go.Proofs
open Go.RowKit Go.Shelf
attribute [local go_sem] Oper.semAt_some

/-- A row of turns. -/
def TurnsAt (W : World) (v : Value) (ts : List Tn) : Prop := ∃ vs : List Value, RowAt W v ts.length 2 vs ∧ ∀ i (h : i < ts.length), ∃ a cap, vs[i * 2]? = some (.slice a ts[i].can.length cap) ∧ vs[i * 2 + 1]? = some (.int .i64 ts[i].ch) ∧ IntsAt W (.slice a ts[i].can.length cap) ts[i].can
theorem TurnsAt.below {W W' : World} {v : Value} {ts : List Tn} (h : TurnsAt W v ts) (hB : Below W.heap.size W W') : TurnsAt W' v ts := by
  obtain ⟨vs, h1, h2⟩ := h
  exact ⟨vs, RowAt.below h1 hB, fun i hi => by obtain ⟨a, cap, e, e2, hc⟩ := h2 i hi; exact ⟨a, cap, e, e2, RowAt.below hc hB⟩⟩
theorem turnsAt_get {W : World} {x : Option Addr} {n cap : Nat} {ts : List Tn} (h : TurnsAt W (.slice x n cap) ts) (j : Nat) (hj : j < ts.length) :
    ∃ b off a c, x = some ⟨b, off, none⟩ ∧ b < W.heap.size ∧ W.cell? ⟨b, off + j * 2, none⟩ = some (.slice a ts[j].can.length c) ∧ W.cell? ⟨b, off + j * 2 + 1, none⟩ = some (.int .i64 ts[j].ch) ∧ IntsAt W (.slice a ts[j].can.length c) ts[j].can := by
  obtain ⟨vs, h1, h2⟩ := h
  obtain ⟨a, c, e, e2, hc⟩ := h2 j hj
  obtain ⟨h0, a', cap', e', _, _, _, h4⟩ := h1
  cases e'
  obtain ⟨b, off, ex, hb, h5⟩ := h4 (j * 2) (by omega)
  obtain ⟨b', off', ex', _, h6⟩ := h4 (j * 2 + 1) (by omega)
  rw [ex] at ex'
  cases ex'
  exact ⟨b, off, a, c, ex, hb, h5.trans e, by rw [Nat.add_assoc]; exact h6.trans e2, hc⟩
theorem turnsAt_len {W : World} {x : Option Addr} {n cap : Nat} {ts : List Tn} (h : TurnsAt W (.slice x n cap) ts) : n = ts.length ∧ n ≤ cap ∧ cap ≤ maxLen := by
  obtain ⟨vs, h1, _⟩ := h
  obtain ⟨_, a', cap', e', h2, h3, _⟩ := h1
  cases e'
  exact ⟨rfl, h2, h3⟩
theorem turns_cut {W : World} {a : Option Addr} {n cap : Nat} {ts : List Tn} (h : TurnsAt W (.slice a n cap) ts) (m : Nat) (hm : m ≤ n) : TurnsAt W (.slice a m cap) (ts.take m) := by
  have hn := (turnsAt_len h).1
  obtain ⟨vs, h1, h2⟩ := h
  rw [← hn] at h1
  have h3 := RowAt.cut h1 m hm
  have e : (ts.take m).length = m := by rw [List.length_take]; omega
  refine ⟨vs.take (m * 2), by rw [e]; exact h3, fun i hi => ?_⟩
  rw [e] at hi
  obtain ⟨b, c, e1, e2, hc⟩ := h2 i (by omega)
  have eg : (ts.take m)[i]'(by rw [e]; exact hi) = ts[i]'(by omega) := List.getElem_take
  rw [eg]
  exact ⟨b, c, by rw [List.getElem?_take_of_lt (by omega)]; exact e1, by rw [List.getElem?_take_of_lt (by omega)]; exact e2, hc⟩
/-- .. with less room. -/
theorem turns_room {W : World} {a : Option Addr} {n cap cap' : Nat} {ts : List Tn} (h : TurnsAt W (.slice a n cap) ts) (h1 : n ≤ cap') (h2 : cap' ≤ cap) : TurnsAt W (.slice a n cap') ts := by
  have hn := (turnsAt_len h).1
  obtain ⟨vs, ⟨h0, a', c', e, h3, h4, h5, h6⟩, h7⟩ := h
  cases e
  exact ⟨vs, ⟨h0, a, cap', by rw [hn], by omega, by omega, fun e => by have := h5 e; omega, h6⟩, h7⟩
theorem turns_drop {W : World} {b off n cap : Nat} {ts : List Tn} (h : TurnsAt W (.slice (some ⟨b, off, none⟩) n cap) ts) (m : Nat) (hm : m ≤ n) : TurnsAt W (.slice (some ⟨b, off + m * 2, none⟩) (n - m) (cap - m)) (ts.drop m) := by
  obtain ⟨hn, hnc, hcm⟩ := turnsAt_len h
  obtain ⟨vs, ⟨h0, a', c', e, h3, h4, h5, h6⟩, h7⟩ := h
  cases e
  have el : (ts.drop m).length = ts.length - m := by rw [List.length_drop]
  refine ⟨vs.drop (m * 2), ⟨by rw [List.length_drop, el]; omega, some ⟨b, off + m * 2, none⟩, cap - m, by rw [el], by omega, by omega, (fun e => by cases e), fun j hj => ?_⟩, fun i hi => ?_⟩
  · rw [List.length_drop] at hj
    obtain ⟨b', off', e', hb, hc⟩ := h6 (m * 2 + j) (by omega)
    cases e'
    exact ⟨b, off + m * 2, rfl, hb, by rw [List.getElem?_drop, Nat.add_assoc]; exact hc⟩
  · rw [el] at hi
    obtain ⟨a', c', e1, e2, hc⟩ := h7 (m + i) (by omega)
    have eg : (ts.drop m)[i]'(by rw [el]; exact hi) = ts[m + i]'(by omega) := List.getElem_drop
    rw [eg]
    exact ⟨a', c', by rw [List.getElem?_drop, ← Nat.add_mul]; exact e1, by rw [List.getElem?_drop, ← Nat.add_assoc, ← Nat.add_mul]; exact e2, hc⟩
/-- .. of a row of which nothing is left, wherever it points. -/
theorem turns_none {W : World} (a : Option Addr) (cap : Nat) (h : a = none → cap = 0) (hc : cap ≤ maxLen) : TurnsAt W (.slice a 0 cap) [] :=
  ⟨[], ⟨rfl, a, cap, rfl, Nat.zero_le _, hc, h, fun _ hj => absurd hj (Nat.not_lt_zero _)⟩, fun _ hi => absurd hi (Nat.not_lt_zero _)⟩

set_option maxHeartbeats 1000000 in
theorem Try.isTurn_any (N : Int) (h8 : N ≤ 8) (a : Option Addr) (n cap : Nat) (can : List Int) (ch : Int) (hn : n = can.length) (w : World) (hI : IntsAt w (.slice a n cap) can) :
    Calls Try.prog 38 #[.int .i64 N, .agg #[.slice a n cap, .int .i64 ch]] w fun e w' => e = .returned (.bool (rightT N ⟨can, ch⟩)) ∧ Below w.heap.size w w' := by
  have hB : Below w.heap.size w (w.alloc (.cells #[.slice a n cap, .int .i64 ch] 47)) := (Below.refl _ w).alloc (Nat.le_refl _) _
  have hI1 := RowAt.below hI hB
  have hc := Try.areCan_any N h8 a n cap can hn _ hI1
  have hd := Try.contains_any a n cap can hn ch _ hI1
  have HB := Lib.hid hB
  clear hB hI hI1
  have hr : rightT N ⟨can, ch⟩ = (canB N can && decide (ch ∈ can)) := rfl
  rw [hr]
  clear hr hn
  generalize decide (ch ∈ can) = r2 at *
  cases h : canB N can with
  | true =>
    rw [h] at hc
    have HC := Lib.hid hc
    have HD := Lib.hid hd
    clear hc hd h
    go_enter Try.func38, Try.ntmps38
    go_wp2_with fail
    refine HC.out.mono ?_
    rintro e w' ⟨rfl, rfl⟩
    go_wp2_with fail
    refine HD.out.mono ?_
    rintro e w' ⟨rfl, rfl⟩
    go_wp2_with fail
    go_ret
    exact ⟨rfl, HB.out⟩
  | false =>
    rw [h] at hc
    have HC := Lib.hid hc
    clear hc hd h
    go_enter Try.func38, Try.ntmps38
    go_wp2_with fail
    refine HC.out.mono ?_
    rintro e w' ⟨rfl, rfl⟩
    go_wp2_with fail
    go_ret
    exact ⟨rfl, HB.out⟩

set_option maxHeartbeats 1000000 in
theorem Try.starves_any (g : Int) (a : Option Addr) (n cap : Nat) (can : List Int) (ch : Int) (hn : n = can.length) (w : World) (hI : IntsAt w (.slice a n cap) can) :
    Calls Try.prog 54 #[.agg #[.slice a n cap, .int .i64 ch], .int .i64 g] w fun e w' => e = .returned (.bool (starveB g ⟨can, ch⟩)) ∧ Below w.heap.size w w' := by
  have hB : Below w.heap.size w (w.alloc (.cells #[.slice a n cap, .int .i64 ch] 47)) := (Below.refl _ w).alloc (Nat.le_refl _) _
  have hI1 := RowAt.below hI hB
  have hd := Try.has_any a n cap can hn g _ hI1
  have HB := Lib.hid hB
  clear hB hI hI1
  have hr : starveB g ⟨can, ch⟩ = (ch != g && decide (g ∈ can)) := rfl
  rw [hr]
  clear hr hn
  generalize decide (g ∈ can) = r2 at *
  have HD := Lib.hid hd
  clear hd
  cases h : ch != g with
  | true =>
    go_enter Try.func54, Try.ntmps54
    go_wp2_with fail
    refine HD.out.mono ?_
    rintro e w' ⟨rfl, rfl⟩
    go_wp2_with fail
    go_ret
    exact ⟨rfl, HB.out⟩
  | false =>
    go_enter Try.func54, Try.ntmps54
    go_wp2_with fail
    go_ret
    exact ⟨rfl, HB.out⟩

theorem Try.passes_any (g : Int) (w : World) :
    Calls Try.prog 50 #[.int .i64 g] w fun e w' => e = .returned (.func (.func 60) #[] #[.pointer (some ⟨w.heap.size, 0, none⟩)]) ∧ w' = w.alloc (.cells #[.int .i64 g] 3) := by
  go_enter Try.func50, Try.ntmps50
  go_wp2
  go_ret
  exact ⟨rfl, rfl⟩

set_option maxHeartbeats 1000000 in
theorem Try.passes1_any (g : Int) (B : Nat) (a : Option Addr) (n cap : Nat) (can : List Int) (ch : Int) (hn : n = can.length) (w : World) (hI : IntsAt w (.slice a n cap) can) (hb : Rows8 w B 3 #[.int .i64 g]) :
    Calls Try.prog 60 #[.agg #[.slice a n cap, .int .i64 ch], .pointer (some ⟨B, 0, none⟩)] w fun e w' => e = .returned (.bool (starveB g ⟨can, ch⟩)) ∧ Below w.heap.size w w' := by
  have hB : Below w.heap.size w (w.alloc (.cells #[.slice a n cap, .int .i64 ch] 47)) := (Below.refl _ w).alloc (Nat.le_refl _) _
  have hI1 := RowAt.below hI hB
  have hd := Try.contains_any a n cap can hn g _ hI1
  have c0 := hb.cell 0
  simp at c0
  have hbl := hb.lt
  have HB := Lib.hid hB
  clear hB hI hI1 hb
  have hr : starveB g ⟨can, ch⟩ = (ch != g && decide (g ∈ can)) := rfl
  rw [hr]
  clear hr hn
  generalize decide (g ∈ can) = r2 at *
  have HD := Lib.hid hd
  clear hd
  cases h : ch != g with
  | true =>
    go_enter Try.func60, Try.ntmps60
    go_wp2_with fail
    refine HD.out.mono ?_
    rintro e w' ⟨rfl, rfl⟩
    go_wp2_with fail
    go_ret
    exact ⟨rfl, HB.out⟩
  | false =>
    go_enter Try.func60, Try.ntmps60
    go_wp2_with fail
    go_ret
    exact ⟨rfl, HB.out⟩

set_option maxHeartbeats 1000000 in
theorem Try.check1_any (N : Int) (h8 : N ≤ 8) (B : Nat) (a : Option Addr) (n cap : Nat) (can : List Int) (ch : Int) (hn : n = can.length) (w : World) (hI : IntsAt w (.slice a n cap) can) (hb : Rows8 w B 3 #[.int .i64 N]) :
    Calls Try.prog 37 #[.agg #[.slice a n cap, .int .i64 ch], .pointer (some ⟨B, 0, none⟩)] w fun e w' => e = .returned (.bool (!rightT N ⟨can, ch⟩)) ∧ Below w.heap.size w w' := by
  have hB : Below w.heap.size w (w.alloc (.cells #[.slice a n cap, .int .i64 ch] 47)) := (Below.refl _ w).alloc (Nat.le_refl _) _
  have hI1 := RowAt.below hI hB
  have hd := Try.isTurn_any N h8 a n cap can ch hn _ hI1
  have c0 := hb.cell 0
  simp at c0
  have hbl := hb.lt
  have HB := Lib.hid hB
  clear hB hI hI1 hb hn
  generalize rightT N ⟨can, ch⟩ = r at *
  have HD := Lib.hid hd
  clear hd
  go_enter Try.func37, Try.ntmps37
  go_wp2_with fail
  refine HD.out.mono ?_
  rintro e w' ⟨rfl, hB2⟩
  have HB2 := Lib.hid (HB.out.trans (hB2.mono HB.out.size))
  clear hB2
  go_wp2_with fail
  go_ret
  exact ⟨rfl, HB2.out⟩
end Go.Proofs
