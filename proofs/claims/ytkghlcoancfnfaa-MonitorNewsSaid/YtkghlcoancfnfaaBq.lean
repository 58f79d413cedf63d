/- Rows of numbers: Clone, Equal, cut, opened. -/
import Derived.Test.YtkghlcoancfnfaaBh
namespace Go.Proofs
open Go.ChangeShapes Go.WideShapes Go.RowKit Go.Shelf Go.Deep
attribute [local go_sem] Oper.semAt_some

def intVals (ws : List Int) : List Value := ws.map fun z => Value.int .i64 z
theorem intVals_length (ws : List Int) : (intVals ws).length = ws.length := by simp [intVals]
theorem intVals_one (ws : List Int) : ∀ u ∈ intVals ws, u.oneCell' = true := by
  intro u hu
  obtain ⟨b, _, rfl⟩ := List.mem_map.1 hu
  rfl
theorem intVals_get (ws : List Int) (j : Nat) (h : j < ws.length) : (intVals ws)[j]? = some (.int .i64 (ws[j]?.getD 0)) := by
  simp [intVals, h]
def IntsAt (W : World) (v : Value) (ws : List Int) : Prop := RowAt W v ws.length 1 (intVals ws)
def OwnsInts (n₀ : Nat) (ws : List Int) (v : Value) (W : World) : Prop := W.ownsRow n₀ 3 1 v ws.length (intVals ws)
def IntsQ (ws : List Int) (w : World) (e : Ending) (w' : World) : Prop := ∃ v, e = .returned v ∧ OwnsInts w.heap.size ws v w' ∧ Below w.heap.size w w'
theorem Try.infoInt : (Try.prog.info? 3).map (fun i => (i.zero, i.size, i.bytes)) = some (some (.int .i64 0), 1, 8) := by kernel_rfl
theorem intsAt_get {W : World} {x : Option Addr} {n cap : Nat} {l : List Int} (h : IntsAt W (.slice x n cap) l) (j : Nat) (hj : j < l.length) :
    ∃ b off, x = some ⟨b, off, none⟩ ∧ b < W.heap.size ∧ W.cell? ⟨b, off + j, none⟩ = some (.int .i64 (l[j]?.getD 0)) := by
  obtain ⟨h0, a, cap', e, _, _, _, hc⟩ := h
  cases e
  obtain ⟨b, off, e, hb, h3⟩ := hc j (by rw [intVals_length]; exact hj)
  exact ⟨b, off, e, hb, by rw [h3]; exact intVals_get l j hj⟩
theorem ints_cut {W : World} {a : Option Addr} {n cap : Nat} {ws : List Int} (hn : n = ws.length) (h : IntsAt W (.slice a n cap) ws) (m : Nat) (hm : m ≤ n) : IntsAt W (.slice a m cap) (ws.take m) := by
  subst hn
  have h1 := RowAt.cut h m hm
  unfold IntsAt
  have e : (ws.take m).length = m := by rw [List.length_take]; omega
  rw [e]
  have e2 : intVals (ws.take m) = (intVals ws).take (m * 1) := by rw [Nat.mul_one]; simp [intVals]
  rw [e2]
  exact h1
theorem cellsI : Try.prog.cellsOf 3 = 1 := by kernel_rfl
set_option maxRecDepth 100000 in
/-- A row of numbers that came in, opened. -/
theorem open_intRow {H : Type} {enc : TypeId × Value → H} {W : World} {base : Nat} {sp : Nat → Bool} {held : Bool} {fuel : Nat} {a : Option Addr} {len cap : Nat} {x : DataW H × List MemPlace}
    (h : DataW.trod enc Try.prog W base sp held fuel 41 [.slice a len cap] = some x) : ∃ l : List Int, len = l.length ∧ IntsAt W (.slice a len cap) l := by
  rcases open_slice Try.underlying41 h with ⟨hcs, _⟩ | ⟨ad, len', cap', m, n, D, Pl, hcs, hb, hl, hm, hmm, _, hx⟩
  · simp at hcs
    obtain ⟨rfl, rfl, rfl⟩ := hcs
    exact ⟨[], rfl, ⟨rfl, none, 0, rfl, Nat.le_refl _, Nat.zero_le _, fun _ => rfl, fun j hj => by simp [intVals] at hj⟩⟩
  · simp at hcs
    obtain ⟨rfl, rfl, rfl⟩ := hcs
    have hlm : len ≤ m := by rw [hmm]; split <;> omega
    have each : ∀ i, i < m → ∃ q : Int, W.cell? (ad.add i) = some (.int .i64 q) := by
      intro i hi
      obtain ⟨cs', h1, h2⟩ := hx i hi
      rw [cellsI] at h1
      obtain ⟨_, hlen, hcell⟩ := World.cells?_some h1
      obtain ⟨z, rfl, _⟩ := DataW.trod_int Try.underlying3 h2
      refine ⟨z, ?_⟩
      have e := hcell 0 (by omega)
      rw [add_add] at e
      simpa using e
    obtain ⟨q, hq⟩ := choose_lt each
    have hll : ((List.range len).map q).length = len := by simp
    refine ⟨(List.range len).map q, hll.symm, ?_⟩
    refine ⟨by rw [intVals_length, Nat.mul_one], some ad, cap, by rw [hll], by rw [hll]; exact hl, hm, (fun e => by cases e), fun j hj => ?_⟩
    rw [intVals_length, hll] at hj
    have hc := hq j (by omega)
    obtain ⟨b, off, spot⟩ := ad
    have hspot : spot = none := by
      have h00 := hq 0 (by omega)
      simpa [Addr.add] using World.cell?_spot h00
    subst hspot
    have hadd : (⟨b, off, none⟩ : Addr).add j = ⟨b, off + j, none⟩ := by unfold Addr.add; split <;> simp_all
    rw [hadd] at hc
    refine ⟨b, off, rfl, ?_, ?_⟩
    · rcases Nat.lt_or_ge b W.heap.size with hq | hq
      · exact hq
      · simp [World.cell?, Array.getElem?_eq_none hq] at hc
    · rw [hc, intVals_get _ j (by rw [hll]; exact hj)]
      simp [hj]
set_option maxRecDepth 100000 in
set_option maxHeartbeats 2000000 in
theorem Try.equalInts_any (a1 a2 : Option Addr) (n1 n2 c1 c2 : Nat) (xs ys : List Int) (hx : n1 = xs.length) (hy : n2 = ys.length) (hl : n1 ≤ 10000) (hl2 : n2 ≤ 10000) (w : World) (h1 : IntsAt w (.slice a1 n1 c1) xs) (h2 : IntsAt w (.slice a2 n2 c2) ys) :
    Calls Try.prog 18 #[.slice a1 n1 c1, .slice a2 n2 c2] w fun e w' => e = .returned (.bool (decide (xs = ys))) ∧ Below w.heap.size w w' := by
  have H1 := Lib.hid h1
  have H2 := Lib.hid h2
  have HX := Lib.hid hx
  have HY := Lib.hid hy
  clear h1 h2 hx hy
  by_cases hn : n1 = n2
  · subst hn
    have hd : ((n1 : Int) != (n1 : Int)) = false := by simp
    go_enter Try.func18, Try.ntmps18
    go_wp2
    go_loopw [5, 13] (fun _ j wr => ∃ k : Nat, k ≤ n1 ∧ j = .int .i64 k ∧ xs.take k = ys.take k ∧ Below w.heap.size w wr) (fun _ j _ => n1 - (intOf j).toNat)
    case atStart => exact ⟨0, Nat.zero_le _, rfl, rfl, Below.refl _ _⟩
    case round =>
      obtain ⟨k, hk, rfl, ht, hB⟩ := hrel
      by_cases hlt : k < n1
      · obtain ⟨b1, o1, rfl, hb1, hc1⟩ := intsAt_get (RowAt.below H1.out hB) k (by rw [← HX.out]; exact hlt)
        obtain ⟨b2, o2, rfl, hb2, hc2⟩ := intsAt_get (RowAt.below H2.out hB) k (by rw [← HY.out]; exact hlt)
        have hmx : Try.prog.follows .mixedOrders = true := by kernel_rfl
        have hki : (k : Int) < (n1 : Int) := by omega
        have HT := Lib.hid ht
        clear ht
        by_cases he : xs[k]?.getD 0 = ys[k]?.getD 0
        · have hnx := take_eq_next HT.out (by rw [← HX.out]; exact hlt) (by rw [← HY.out]; exact hlt) he
          have hne : (ys[k]?.getD 0 != ys[k]?.getD 0) = false := by simp
          rw [he] at hc1
          have HNX := Lib.hid hnx
          clear hnx he
          generalize ys[k]?.getD 0 = y at *
          go_wp2
          refine wp_region_still_lit hmx (by kernel_rfl) ?_
          repeat still_step
          refine wpStill_nil ?_
          go_wp2
          exact ⟨⟨k + 1, by omega, by go_num, HNX.out, hB.drew⟩, by simp [intOf]; omega⟩
        · have hne : (xs[k]?.getD 0 != ys[k]?.getD 0) = true := by simp [he]
          have hq : decide (xs = ys) = false := decide_eq_false (fun h => he (by rw [h]))
          have HQ := Lib.hid hq
          clear hq he
          generalize xs[k]?.getD 0 = x at *
          generalize ys[k]?.getD 0 = y at *
          go_wp2
          refine wp_region_still_lit hmx (by kernel_rfl) ?_
          repeat still_step
          refine wpStill_nil ?_
          go_wp2
          go_ret
          exact ⟨by rw [HQ.out]; rfl, hB.drew⟩
      · obtain rfl : k = n1 := by omega
        have hq : decide (xs = ys) = true := by
          refine decide_eq_true ?_
          rw [List.take_of_length_le (by rw [← HX.out]; exact Nat.le_refl _), List.take_of_length_le (by rw [← HY.out]; exact Nat.le_refl _)] at ht
          exact ht
        have HQ := Lib.hid hq
        clear hq ht
        go_wp2
        go_ret
        exact ⟨by rw [HQ.out]; rfl, hB⟩
  · have hd : ((n1 : Int) != (n2 : Int)) = true := by simp; omega
    have hq : decide (xs = ys) = false := decide_eq_false (fun h => hn (by rw [HX.out, HY.out, h]))
    have HQ := Lib.hid hq
    clear hq
    go_enter Try.func18, Try.ntmps18
    go_wp2
    go_ret
    exact ⟨by rw [HQ.out]; rfl, Below.refl _ _⟩

theorem getD_int (l : List Int) (k : Nat) (h : k < l.length) : l[k]?.getD 0 = l[k] := by simp [h]
end Go.Proofs
