/- Rows of bools: Clone, Contains, opened; words in range. -/
import Derived.Test.YtehphohgnpbmpaaQb
namespace Go.Proofs
open Go.ChangeShapes Go.WideShapes Go.RowKit Go.Shelf Go.Deep
attribute [local go_sem] Oper.semAt_some

/-- Rows of bools. -/
def bVals (l : List Bool) : List Value := l.map Value.bool
def BAt (W : World) (v : Value) (l : List Bool) : Prop := RowAt W v l.length 1 (bVals l)
theorem bAt_none (W : World) : BAt W (.slice none 0 0) [] := ⟨rfl, none, 0, rfl, Nat.le_refl _, Nat.zero_le _, fun _ => rfl, fun _ hj => absurd hj (Nat.not_lt_zero _)⟩
theorem bVals_length (l : List Bool) : (bVals l).length = l.length := by simp [bVals]
theorem bVals_one (l : List Bool) : ∀ u ∈ bVals l, u.oneCell' = true := by
  intro u hu
  obtain ⟨b, _, rfl⟩ := List.mem_map.1 hu
  rfl
theorem bAt_len {W : World} {x : Option Addr} {n cap : Nat} {l : List Bool} (h : BAt W (.slice x n cap) l) : n = l.length ∧ n ≤ cap ∧ cap ≤ maxLen := by
  obtain ⟨h0, a, c, e, h1, h2, _⟩ := h
  cases e
  exact ⟨rfl, h1, h2⟩
theorem bAt_get {W : World} {x : Option Addr} {n cap : Nat} {l : List Bool} (h : BAt W (.slice x n cap) l) (j : Nat) (hj : j < l.length) :
    ∃ b off, x = some ⟨b, off, none⟩ ∧ b < W.heap.size ∧ W.cell? ⟨b, off + j, none⟩ = some (.bool l[j]) := by
  obtain ⟨h0, a, cap', e, _, _, _, hc⟩ := h
  cases e
  obtain ⟨b, off, e, hb, g⟩ := hc j (by rw [bVals_length]; exact hj)
  exact ⟨b, off, e, hb, by rw [g]; simp [bVals, hj]⟩
def OwnsBools (n₀ : Nat) (ws : List Bool) (v : Value) (W : World) : Prop := W.ownsRow n₀ 4 1 v ws.length (bVals ws)
def BoolsQ (ws : List Bool) (w : World) (e : Ending) (w' : World) : Prop := ∃ v, e = .returned v ∧ OwnsBools w.heap.size ws v w' ∧ Below w.heap.size w w'
theorem Try.infoBool : (Try.prog.info? 4).map (fun i => (i.zero, i.size, i.bytes)) = some (some (.bool false), 1, 1) := by kernel_rfl
theorem cellsB : Try.prog.cellsOf 4 = 1 := by kernel_rfl
theorem bools_cut {W : World} {a : Option Addr} {n cap : Nat} {ws : List Bool} (hn : n = ws.length) (h : BAt W (.slice a n cap) ws) (m : Nat) (hm : m ≤ n) : BAt W (.slice a m cap) (ws.take m) := by
  subst hn
  have h1 := RowAt.cut h m hm
  unfold BAt
  have e : (ws.take m).length = m := by rw [List.length_take]; omega
  rw [e]
  have e2 : bVals (ws.take m) = (bVals ws).take (m * 1) := by rw [Nat.mul_one]; simp [bVals]
  rw [e2]
  exact h1
set_option maxRecDepth 100000 in
set_option maxHeartbeats 1000000 in
theorem Try.cloneBools_any (a : Option Addr) (n cap : Nat) (ws : List Bool) (hn : n = ws.length) (hl : n ≤ 100) (w : World) (hI : BAt w (.slice a n cap) ws) :
    Calls Try.prog 19 #[.slice a n cap] w (BoolsQ ws w) := by
  obtain ⟨i0, hi, hz0, hz1, hz2⟩ := info_parts Try.infoBool
  cases a with
  | none =>
    obtain ⟨h0, a', cap', e, h1, h2, h3, h4⟩ := hI
    cases e
    have hc0 : cap = 0 := h3 rfl
    subst hc0
    have hw0 : ws = [] := List.eq_nil_of_length_eq_zero (by omega)
    subst hw0
    have hnil := fun wx : World => Lib.run_eql_slice_nil (P := Try.prog) wx 36 4 none 0 0 0 0 Try.underlying36
    simp only [List.length_nil]
    clear h0 h1 h2 h3 h4 hn hl
    go_enter Try.func19, Try.ntmps19
    go_wp2
    go_ret
    exact ⟨_, rfl, World.ownsRow_nil _ _ _ _, Below.refl _ _⟩
  | some x =>
    have hnil := fun wx : World => Lib.run_eql_slice_nil (P := Try.prog) wx 36 4 (some x) n cap 0 0 Try.underlying36
    subst hn
    have hsrc := row_src hI
    have HC := Lib.hid hsrc
    clear hI hsrc
    have hO : OwnsBools w.heap.size [] (.slice (some ⟨w.heap.size, 0, none⟩) 0 0) (w.alloc (.cells #[] 4)) := World.ownsRow_lit w #[] 0 (Nat.le_refl _) (by unfold maxLen; omega) rfl
    have hB : Below w.heap.size w (w.alloc (.cells #[] 4)) := (Below.refl _ w).alloc (Nat.le_refl _) _
    have HO := Lib.hid hO
    clear hO
    go_enter Try.func19, Try.ntmps19
    go_wp2_with (at_builtin; refine wpList_append_own _ rfl _ _ 36 rfl w.heap.size 4 i0 (.bool false) 1 1 Try.underlying36 hi hz0 hz1 hz2 rfl (by decide) _ _ _ rfl HO.out x ws.length cap (bVals ws) rfl ?c1 ?c2 ?c3 ?c4 ?c5 ?c6 ?_)
    case c1 => rw [bVals_length]; omega
    case c2 =>
      intro j u hu
      have h := HC.out j u hu
      have hlt : x.block < w.heap.size := by
        have hk := h
        unfold World.cell? at hk
        rcases Nat.lt_or_ge (x.add j).block w.heap.size with hq | hq
        · have : (x.add j).block = x.block := by unfold Addr.add; split <;> rfl
          omega
        · rw [Array.getElem?_eq_none hq] at hk
          cases hk
      have hblk : (x.add j).block = x.block := by unfold Addr.add; split <;> rfl
      exact (hB.cell (p := x.add j) (by rw [hblk]; exact hlt)).trans h
    case c3 => exact bVals_one ws
    case c4 => simp; unfold maxLen; omega
    case c5 => simp; omega
    case c6 => simp
    intro v' w1 hown' hgrow _
    have hB1 : Below w.heap.size w w1 := hB.grown hgrow (by simp) (fun j ej => (World.ownsRow.lt HO.out j ej).1)
    have hO2 : OwnsBools w.heap.size ws v' w1 := by
      unfold OwnsBools
      simpa [bVals] using hown'
    have HO2 := Lib.hid hO2
    clear hO2 hown' hgrow
    go_wp2
    go_ret
    exact ⟨_, rfl, HO2.out, hB1⟩

set_option maxRecDepth 100000 in
/-- A row of numbers that came in, opened. -/
theorem open_bools {H : Type} {enc : TypeId × Value → H} {W : World} {base : Nat} {sp : Nat → Bool} {held : Bool} {fuel : Nat} {a : Option Addr} {len cap : Nat} {x : DataW H × List MemPlace}
    (h : DataW.trod enc Try.prog W base sp held fuel 36 [.slice a len cap] = some x) : ∃ l : List Bool, len = l.length ∧ BAt W (.slice a len cap) l := by
  rcases open_slice Try.underlying36 h with ⟨hcs, _⟩ | ⟨ad, len', cap', m, n, D, Pl, hcs, hb, hl, hm, hmm, _, hx⟩
  · simp at hcs
    obtain ⟨rfl, rfl, rfl⟩ := hcs
    exact ⟨[], rfl, ⟨rfl, none, 0, rfl, Nat.le_refl _, Nat.zero_le _, fun _ => rfl, fun j hj => by simp [bVals] at hj⟩⟩
  · simp at hcs
    obtain ⟨rfl, rfl, rfl⟩ := hcs
    have hlm : len ≤ m := by rw [hmm]; split <;> omega
    have each : ∀ i, i < m → ∃ q : Bool, W.cell? (ad.add i) = some (.bool q) := by
      intro i hi
      obtain ⟨cs', h1, h2⟩ := hx i hi
      rw [cellsB] at h1
      obtain ⟨_, hlen, hcell⟩ := World.cells?_some h1
      obtain ⟨z, rfl, _⟩ := DataW.trod_bool Try.underlying4 h2
      refine ⟨z, ?_⟩
      have e := hcell 0 (by omega)
      rw [add_add] at e
      simpa using e
    obtain ⟨q, hq⟩ := choose_lt each
    have hll : ((List.range len).map q).length = len := by simp
    refine ⟨(List.range len).map q, hll.symm, ?_⟩
    refine ⟨by rw [bVals_length, Nat.mul_one], some ad, cap, by rw [hll], by rw [hll]; exact hl, hm, (fun e => by cases e), fun j hj => ?_⟩
    rw [bVals_length, hll] at hj
    have hc := hq j (by omega)
    obtain ⟨b, off, spot⟩ := ad
    have hspot : spot = none := by
      have h00 := hq 0 (by omega)
      simpa [Addr.add] using World.cell?_spot h00
    subst hspot
    have hadd : (⟨b, off, none⟩ : Addr).add j = ⟨b, off + j, none⟩ := by unfold Addr.add; split <;> simp_all
    rw [hadd] at hc
    refine ⟨b, off, rfl, ?_, ?_⟩
    · rcases Nat.lt_or_ge b W.heap.size with hq | hq
      · exact hq
      · simp [World.cell?, Array.getElem?_eq_none hq] at hc
    · rw [hc]
      simp [bVals, hj]

/-- Where it stands first, or -1. -/
def idxB (z : Bool) : List Bool → Nat → Int
  | [], _ => -1
  | x :: t, k => if z = x then (k : Int) else idxB z t (k + 1)
theorem idxB_has (z : Bool) (l : List Bool) (k : Nat) : 0 ≤ idxB z l k ↔ z ∈ l := by
  induction l generalizing k with
  | nil => simp [idxB]
  | cons x t ih =>
    unfold idxB
    by_cases h : z = x
    · simp [h]
    · simp [h, ih]
set_option maxRecDepth 100000 in
set_option maxHeartbeats 1000000 in
theorem Try.indexB_any (a : Option Addr) (n cap : Nat) (ws : List Bool) (hn : n = ws.length) (z : Bool) (w : World) (hI : BAt w (.slice a n cap) ws) :
    Calls Try.prog 40 #[.slice a n cap, .bool z] w fun e w' => e = .returned (.int .i64 (idxB z ws 0)) ∧ w = w' := by
  have hreach : n ≤ maxLen := by
    obtain ⟨_, _, _, e, h1, h2, _⟩ := hI
    cases e
    omega
  unfold maxLen at hreach
  have HI := Lib.hid hI
  have HN := Lib.hid hn
  clear hI hn
  go_enter Try.func40, Try.ntmps40
  go_wp2
  go_loop [5, 8] (fun _ j => ∃ k : Nat, k ≤ n ∧ j = .int .i64 k ∧ Hid (idxB z ws 0 = idxB z (ws.drop k) k)) (fun _ j => n - (intOf j).toNat)
  case atStart => exact ⟨0, Nat.zero_le _, rfl, Lib.hid rfl⟩
  case round =>
    obtain ⟨k, hk, rfl, hx⟩ := hrel
    by_cases hlt : k < n
    · have hkl : k < ws.length := by rw [← HN.out]; exact hlt
      obtain ⟨b, off, rfl, hb, hc⟩ := bAt_get HI.out k hkl
      have hd := drop_next ws k hkl
      generalize ws[k] = x at *
      have HD := Lib.hid hd
      have hki : (k : Int) < (n : Int) := by omega
      clear hd hkl
      by_cases he : z = x
      · subst he
        have hq : (z == z) = true := by simp
        go_wp2
        go_ret
        exact ⟨by rw [hx.out, HD.out]; simp [idxB], rfl⟩
      · have hq : (z == x) = false := by simp [he]
        have HE := Lib.hid he
        clear he
        go_wp2
        go_round
        case rel => exact ⟨k + 1, by omega, by go_num, Lib.hid (by rw [hx.out, HD.out]; simp [idxB, HE.out])⟩
        case measure => simp [intOf]; omega
    · obtain rfl : k = n := by omega
      go_wp2
      go_ret
      exact ⟨by rw [hx.out, HN.out, List.drop_length]; rfl, rfl⟩
theorem Try.containsB_any (a : Option Addr) (n cap : Nat) (ws : List Bool) (hn : n = ws.length) (z : Bool) (w : World) (hI : BAt w (.slice a n cap) ws) :
    Calls Try.prog 27 #[.slice a n cap, .bool z] w fun e w' => e = .returned (.bool (decide (z ∈ ws))) ∧ w = w' := by
  have h := Try.indexB_any a n cap ws hn z w hI
  have hh := idxB_has z ws 0
  have H := Lib.hid h
  have HH := Lib.hid hh
  clear h hh hI hn
  generalize idxB z ws 0 = r at *
  go_enter Try.func27, Try.ntmps27
  go_wp2_with fail
  refine H.out.mono ?_
  rintro e w' ⟨rfl, rfl⟩
  go_wp2
  go_ret
  exact ⟨by rw [show decide (z ∈ ws) = decide (0 ≤ r) by rw [decide_eq_decide]; exact HH.out.symm]; rfl, rfl⟩
def KeysOk (ks : List Int) : Prop := ∀ k ∈ ks, 0 ≤ k ∧ k < 18446744073709551616
/-- A row of words, all of them in range. -/
def WordsK (W : World) (v : Value) (ws : List Int) : Prop := WordsAt W v ws ∧ KeysOk ws
theorem u64_range {z : Int} (h : (Lit.int .u64 z).wf = true) : 0 ≤ z ∧ z < 18446744073709551616 := by
  have : 0 ≤ z ∧ z ≤ 18446744073709551615 := by simpa [Lit.wf, IntKind.min, IntKind.max, IntKind.bits, IntKind.signed] using h
  omega
theorem u64_nat {z : Int} (h : (Lit.int .u64 z).wf = true) : ∃ n : Nat, z = (n : Int) ∧ n < 18446744073709551616 := by
  have := u64_range h
  exact ⟨z.toNat, by omega, by omega⟩
set_option maxRecDepth 100000 in
theorem open_wordsK {H : Type} {enc : TypeId × Value → H} {W : World} {base : Nat} {sp : Nat → Bool} {held : Bool} {fuel : Nat} {a : Option Addr} {len cap : Nat} {x : DataW H × List MemPlace}
    (h : DataW.trod enc Try.prog W base sp held fuel 37 [.slice a len cap] = some x) : ∃ l : List Int, len = l.length ∧ WordsK W (.slice a len cap) l := by
  obtain ⟨l, hl, hw⟩ := open_words h
  refine ⟨l, hl, hw, ?_⟩
  rcases open_slice Try.underlying37 h with ⟨hcs, _⟩ | ⟨ad, len', cap', m, n, D, Pl, hcs, hb, hl', hm, hmm, _, hx⟩
  · simp at hcs
    obtain ⟨rfl, rfl, rfl⟩ := hcs
    intro k hk
    rw [List.eq_nil_of_length_eq_zero hl.symm] at hk
    cases hk
  · simp at hcs
    obtain ⟨rfl, rfl, rfl⟩ := hcs
    have hlm : len ≤ m := by rw [hmm]; split <;> omega
    intro k hk
    obtain ⟨j, hj, rfl⟩ := List.mem_iff_getElem.1 hk
    obtain ⟨cs', h1, h2⟩ := hx j (by omega)
    rw [cellsU] at h1
    obtain ⟨_, hlen, hcell⟩ := World.cells?_some h1
    obtain ⟨z, rfl, _, hz⟩ := DataW.trod_int Try.underlying22 h2
    have e := hcell 0 (by omega)
    rw [add_add] at e
    obtain ⟨b, off, ea, hbl, hc⟩ := wordsAt_get hw j hj
    injection ea with ea
    subst ea
    have hadd : (⟨b, off, none⟩ : Addr).add j = ⟨b, off + j, none⟩ := by unfold Addr.add; split <;> simp_all
    simp [hadd] at e
    rw [hc] at e
    simp [hj] at e
    rw [e]
    exact u64_range hz
end Go.Proofs
