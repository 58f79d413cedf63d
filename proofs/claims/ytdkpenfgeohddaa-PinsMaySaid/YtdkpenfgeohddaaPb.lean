/- Pins: which may be. -/
import Derived.Test.YtdkpenfgeohddaaPa
namespace Go.Proofs
open Go.RowKit Go.Shelf
attribute [local go_sem] Oper.semAt_some

def manyN (n : Int) : Bool := decide (1 ≤ n ∧ n ≤ 8)
def okZ (E z : Int) : Bool := decide (z ≤ E + 1)
def rightN (E : Int) (S : List Int) : Bool := decide (E ≤ 4611686018427387904) && (manyN S.length && S.all (okZ E))
theorem rightN_iff (E : Int) (S : List Int) : rightN E S = true ↔ E ≤ 4611686018427387904 ∧ 1 ≤ S.length ∧ S.length ≤ 8 ∧ ∀ z ∈ S, z ≤ E + 1 := by
  unfold rightN manyN okZ
  simp only [Bool.and_eq_true, decide_eq_true_eq, List.all_eq_true]
  constructor
  · rintro ⟨h1, h2, h3⟩
    exact ⟨h1, by omega, by omega, h3⟩
  · rintro ⟨h1, h2, h4, h3⟩
    exact ⟨h1, by omega, h3⟩
theorem wrap_u (z : Int) (h0 : 0 ≤ z) (h1 : z < 18446744073709551616) : IntKind.u64.wrap z = z := by rw [IntKind.wrap_u64]; omega

theorem Try.mayHave_any (n : Int) (w : World) : Calls Try.prog 35 #[.int .i64 n] w fun e w' => e = .returned (.bool (manyN n)) ∧ w' = w := by
  obtain ⟨b, hb⟩ : ∃ b, b = manyN n := ⟨_, rfl⟩
  rw [← hb]
  unfold manyN at hb
  have HB := Lib.hid hb
  clear hb
  by_cases h1 : 1 ≤ n
  · by_cases h2 : n ≤ 8
    · have h3 : Hid (b = true) := Lib.hid (by rw [HB.out]; simp; omega)
      go_enter Try.func35, Try.ntmps35
      go_wp2
      go_ret
      exact ⟨by rw [h3.out]; first | rfl | simp [h1, h2], rfl⟩
    · have h3 : Hid (b = false) := Lib.hid (by rw [HB.out]; simp; omega)
      go_enter Try.func35, Try.ntmps35
      go_wp2
      go_ret
      exact ⟨by rw [h3.out]; first | rfl | simp [h1, h2], rfl⟩
  · have h3 : Hid (b = false) := Lib.hid (by rw [HB.out]; simp; omega)
    go_enter Try.func35, Try.ntmps35
    go_wp2
    go_ret
    exact ⟨by rw [h3.out]; first | rfl | simp [h1], rfl⟩

theorem Try.mayBe1_any (z E : Int) (v : Value) (B : Nat) (h0 : 0 ≤ E) (h1 : E ≤ 4611686018427387904) (w : World) (hR : Rows8 w B 57 #[.int .u64 E, v]) : Calls Try.prog 40 #[.int .u64 z, .pointer (some ⟨B, 0, none⟩)] w fun e w' => e = .returned (.bool (okZ E z)) ∧ w' = w := by
  obtain ⟨b, hb⟩ : ∃ b, b = okZ E z := ⟨_, rfl⟩
  rw [← hb]
  unfold okZ at hb
  have c0 : w.cell? ⟨B, 0, none⟩ = some (.int .u64 E) := hR.cell 0
  have hw : IntKind.u64.wrap (E + 1) = E + 1 := wrap_u _ (by omega) (by omega)
  have HB := Lib.hid hb
  clear hb hR
  by_cases h2 : z ≤ E + 1
  · have h3 : Hid (b = true) := Lib.hid (by rw [HB.out]; simp; omega)
    have hd : decide (z ≤ E + 1) = true := decide_eq_true h2
    go_enter Try.func40, Try.ntmps40
    go_wp2
    go_ret
    exact ⟨by rw [h3.out]; first | rfl | simp [h2], rfl⟩
  · have h3 : Hid (b = false) := Lib.hid (by rw [HB.out]; simp; omega)
    have hd : decide (z ≤ E + 1) = false := decide_eq_false h2
    go_enter Try.func40, Try.ntmps40
    go_wp2
    go_ret
    exact ⟨by rw [h3.out]; first | rfl | simp [h2], rfl⟩

theorem all_next {p : Int → Bool} (l : List Int) (k : Nat) (h : k < l.length) (ht : (l.take k).all p = true) : (l.take (k + 1)).all p = p (l[k]?.getD 0) := by
  rw [take_snoc l k h, List.all_append, ht]; simp [h]
theorem all_no {p : Int → Bool} (l : List Int) (k : Nat) (h : k < l.length) (ht : p (l[k]?.getD 0) = false) : l.all p = false := by
  rw [List.all_eq_false]; exact ⟨l[k], List.getElem_mem h, by simp [h] at ht; simp [ht]⟩
theorem wordsAt_len {W : World} {a : Option Addr} {n c : Nat} {l : List Int} (h : WordsAt W (.slice a n c) l) : n = l.length ∧ n ≤ maxLen := by
  obtain ⟨_, a', cap', e, h1, h2, _, _⟩ := h
  cases e
  exact ⟨rfl, by omega⟩
set_option maxRecDepth 100000 in
set_option maxHeartbeats 2000000 in
theorem Try.all_any (a : Option Addr) (n cap : Nat) (E : Int) (v : Value) (B : Nat) (h0 : 0 ≤ E) (h1 : E ≤ 4611686018427387904) (l : List Int) (w : World) (hI : WordsAt w (.slice a n cap) l) (hl : n ≤ 10000) (hR : Rows8 w B 57 #[.int .u64 E, v]) :
    Calls Try.prog 39 #[.slice a n cap, .func (.func 40) #[] #[.pointer (some ⟨B, 0, none⟩)]] w fun e w' => e = .returned (.bool (l.all (okZ E))) ∧ Below w.heap.size w w' := by
  have HN := Lib.hid (wordsAt_len hI).1
  have HI := Lib.hid hI
  have HR0 := Lib.hid hR
  clear hI hR
  obtain ⟨r, hr⟩ : ∃ r, r = l.all (okZ E) := ⟨_, rfl⟩
  rw [← hr]
  have HR := Lib.hid hr
  clear hr
  go_enter Try.func39, Try.ntmps39
  go_wp2
  go_loopw [6, 9] (fun _ j wr => ∃ k : Nat, k ≤ n ∧ j = .int .i64 k ∧ Hid ((l.take k).all (okZ E) = true) ∧ Below w.heap.size w wr) (fun _ j _ => n - (intOf j).toNat)
  case atStart => exact ⟨0, Nat.zero_le _, rfl, Lib.hid rfl, Below.refl _ _⟩
  case round =>
    obtain ⟨k, hk, rfl, hx, hB⟩ := hrel
    by_cases hlt : k < n
    · have hkl : k < l.length := by rw [← HN.out]; exact hlt
      obtain ⟨b, off, rfl, hb2, c0⟩ := wordsAt_get (RowAt.below HI.out hB) k hkl
      have hall := all_next l k hkl hx.out
      have hano := all_no (p := okZ E) l k hkl
      generalize l[k]?.getD 0 = z at *
      have HC := Lib.hid (Try.mayBe1_any z E v B h0 h1 wr (HR0.out.below hB HR0.out.lt))
      have HALL := Lib.hid hall
      have HNO := Lib.hid hano
      have hki : (k : Int) < (n : Int) := by omega
      have HB := Lib.hid hB
      clear hall hano hx hB
      go_wp2_with fail
      refine HC.out.mono ?_
      rintro e w' ⟨rfl, rfl⟩
      cases he : okZ E z with
      | true =>
        have h9 : Hid ((l.take (k + 1)).all (okZ E) = true) := Lib.hid (by rw [HALL.out, he])
        clear he
        go_wp2_with fail
        exact ⟨⟨k + 1, by omega, by go_num, h9, HB.out⟩, by simp [intOf]; omega⟩
      | false =>
        have h9 : Hid (r = false) := Lib.hid (by rw [HR.out]; exact HNO.out he)
        clear he
        go_wp2_with fail
        go_ret
        exact ⟨by rw [h9.out]; rfl, HB.out⟩
    · obtain rfl : k = n := by omega
      have h9 : Hid (r = true) := Lib.hid (by rw [HR.out]; have := hx.out; rwa [List.take_of_length_le (Nat.le_of_eq HN.out.symm)] at this)
      have HB := Lib.hid hB
      clear hx hB
      go_wp2_with fail
      go_ret
      exact ⟨by rw [h9.out]; rfl, HB.out⟩

set_option maxRecDepth 100000 in
set_option maxHeartbeats 2000000 in
theorem Try.mayBe_any (E : Int) (h0 : 0 ≤ E) (a : Option Addr) (n cap : Nat) (l : List Int) (w : World) (hI : WordsAt w (.slice a n cap) l) :
    Calls Try.prog 29 #[.agg #[.int .u64 E, .slice a n cap]] w fun e w' => e = .returned (.bool (rightN E l)) ∧ Below w.heap.size w w' := by
  have hlen := (wordsAt_len hI).1
  obtain ⟨r, hr⟩ : ∃ r, r = rightN E l := ⟨_, rfl⟩
  rw [← hr]
  unfold rightN at hr
  rw [← hlen] at hr
  have HR := Lib.hid hr
  have hB0 : Below w.heap.size w (w.alloc (.cells #[.int .u64 E, .slice a n cap] 57)) := Rows8.newB
  have hR0 := Rows8.new w 57 #[.int .u64 E, .slice a n cap]
  have HM := fun W => Lib.hid (Try.mayHave_any (n : Int) W)
  have HA := fun (hn : n ≤ 10000) (h1 : E ≤ 4611686018427387904) => Lib.hid (Try.all_any a n cap E _ _ h0 h1 l _ (RowAt.below hI hB0) hn hR0)
  have HB0 := Lib.hid hB0
  clear hr hlen hI hB0 hR0
  by_cases hE : E ≤ 4611686018427387904
  · have hdE : decide (E ≤ 4611686018427387904) = true := decide_eq_true hE
    have HA1 := fun hn => HA hn hE
    cases hm : manyN n with
    | true =>
      have hn : n ≤ 10000 := by unfold manyN at hm; rw [decide_eq_true_eq] at hm; omega
      rw [hm] at HM HR
      have HA' := HA1 hn
      clear HA HA1 hm hn
      go_enter Try.func29, Try.ntmps29
      go_wp2_with fail
      refine (HM _).out.mono ?_
      rintro e w1 ⟨rfl, rfl⟩
      go_wp2_with fail
      refine HA'.out.mono ?_
      rintro e w2 ⟨rfl, hB2⟩
      have HB2 := Lib.hid (HB0.out.trans (hB2.mono HB0.out.size))
      clear hB2
      generalize l.all (okZ E) = q at *
      go_wp2_with fail
      go_ret
      exact ⟨by rw [HR.out, hdE]; rfl, HB2.out⟩
    | false =>
      rw [hm] at HM HR
      clear HA HA1 hm
      go_enter Try.func29, Try.ntmps29
      go_wp2_with fail
      refine (HM _).out.mono ?_
      rintro e w1 ⟨rfl, rfl⟩
      go_wp2_with fail
      go_ret
      exact ⟨by rw [HR.out, hdE]; rfl, HB0.out⟩
  · have hdE : decide (E ≤ 4611686018427387904) = false := decide_eq_false hE
    clear HA HM
    go_enter Try.func29, Try.ntmps29
    go_wp2_with fail
    go_ret
    exact ⟨by rw [HR.out, hdE]; rfl, HB0.out⟩

set_option maxHeartbeats 1000000 in
theorem Try.Check_any (E : Int) (h0 : 0 ≤ E) (a : Option Addr) (n cap : Nat) (l : List Int) (w : World) (hI : WordsAt w (.slice a n cap) l) :
    Calls Try.prog 11 #[.agg #[.int .u64 E, .slice a n cap]] w fun e w' => e = .returned (.int .i64 (if rightN E l then 0 else 230)) ∧ Below w.heap.size w w' := by
  have hB0 : Below w.heap.size w (w.alloc (.cells #[.int .u64 E, .slice a n cap] 25)) := Rows8.newB
  have HC := Lib.hid (Try.mayBe_any E h0 a n cap l _ (RowAt.below hI hB0))
  have HB0 := Lib.hid hB0
  clear hI hB0
  obtain ⟨r, hr⟩ : ∃ r, r = rightN E l := ⟨_, rfl⟩
  rw [← hr] at HC ⊢
  clear hr
  go_enter Try.func11, Try.ntmps11
  go_wp2_with fail
  refine HC.out.mono ?_
  rintro e w1 ⟨rfl, hB1⟩
  have HB1 := Lib.hid (HB0.out.trans (hB1.mono HB0.out.size))
  clear hB1
  cases r
  · go_wp2_with fail
    go_ret
    exact ⟨rfl, HB1.out⟩
  · go_wp2_with fail
    go_ret
    exact ⟨rfl, HB1.out⟩

set_option maxHeartbeats 1000000 in
theorem Try.Same_any (E F : Int) (a1 a2 : Option Addr) (n1 n2 c1 c2 : Nat) (xs ys : List Int) (w : World) (h1 : WordsAt w (.slice a1 n1 c1) xs) (h2 : WordsAt w (.slice a2 n2 c2) ys) (hl : n1 ≤ 10000) (hl2 : n2 ≤ 10000) :
    Calls Try.prog 12 #[.agg #[.int .u64 E, .slice a1 n1 c1], .agg #[.int .u64 F, .slice a2 n2 c2]] w fun e w' => e = .returned (.bool (decide (E = F) && decide (xs = ys))) ∧ Below w.heap.size w w' := by
  have hB0 : Below w.heap.size w ((w.alloc (.cells #[.int .u64 E, .slice a1 n1 c1] 25)).alloc (.cells #[.int .u64 F, .slice a2 n2 c2] 25)) := (Rows8.newB).alloc (by simp) _
  have HC := Lib.hid (Try.equalWords_any a1 a2 n1 n2 c1 c2 xs ys (wordsAt_len h1).1 (wordsAt_len h2).1 hl hl2 _ (RowAt.below h1 hB0) (RowAt.below h2 hB0))
  have HB0 := Lib.hid hB0
  clear h1 h2 hB0
  generalize decide (xs = ys) = r at *
  by_cases hE : E = F
  · subst hE
    have hd : (E == E) = true := by simp
    go_enter Try.func12, Try.ntmps12
    go_wp2_with fail
    refine HC.out.mono ?_
    rintro e w1 ⟨rfl, hB1⟩
    have HB1 := Lib.hid (HB0.out.trans (hB1.mono HB0.out.size))
    clear hB1
    go_wp2_with fail
    go_ret
    exact ⟨by simp, HB1.out⟩
  · have hd : (E == F) = false := by simp [hE]
    go_enter Try.func12, Try.ntmps12
    go_wp2_with fail
    go_ret
    exact ⟨by simp [hE], HB0.out⟩
theorem Try.isOne_any (E g : Int) (a : Option Addr) (n cap : Nat) (w : World) :
    Calls Try.prog 45 #[.agg #[.int .u64 E, .slice a n cap], .int .i64 g] w fun e w' => e = .returned (.bool (decide (0 ≤ g ∧ g < n))) ∧ Below w.heap.size w w' := by
  have hB0 : Below w.heap.size w (w.alloc (.cells #[.int .u64 E, .slice a n cap] 57)) := Rows8.newB
  have HB0 := Lib.hid hB0
  clear hB0
  obtain ⟨b, hb⟩ : ∃ b, b = decide (0 ≤ g ∧ g < n) := ⟨_, rfl⟩
  rw [← hb]
  have HB := Lib.hid hb
  clear hb
  by_cases h1 : 0 ≤ g
  · by_cases h2 : g < (n : Int)
    · have h3 : Hid (b = true) := Lib.hid (by rw [HB.out]; simp; omega)
      have d1 : decide (0 ≤ g) = true := decide_eq_true h1
      have d2 : decide (g < (n : Int)) = true := decide_eq_true h2
      go_enter Try.func45, Try.ntmps45
      go_wp2_with fail
      go_ret
      exact ⟨by rw [h3.out]; first | rfl | simp [h1, h2], HB0.out⟩
    · have h3 : Hid (b = false) := Lib.hid (by rw [HB.out]; simp; omega)
      have d1 : decide (0 ≤ g) = true := decide_eq_true h1
      have d2 : decide (g < (n : Int)) = false := decide_eq_false h2
      go_enter Try.func45, Try.ntmps45
      go_wp2_with fail
      go_ret
      exact ⟨by rw [h3.out]; first | rfl | simp [h1, h2], HB0.out⟩
  · have h3 : Hid (b = false) := Lib.hid (by rw [HB.out]; simp; omega)
    have d1 : decide (0 ≤ g) = false := decide_eq_false h1
    go_enter Try.func45, Try.ntmps45
    go_wp2_with fail
    go_ret
    exact ⟨by rw [h3.out]; first | rfl | simp [h1], HB0.out⟩
theorem Try.pinsV_any (E : Int) (k : Nat) (a : Option Addr) (n cap : Nat) (l : List Int) (w : World) (hI : WordsAt w (.slice a n cap) l) (hk : k < n) :
    Calls Try.prog 49 #[.agg #[.int .u64 E, .slice a n cap], .int .i64 k] w fun e w' => e = .returned (.bool (l[k]?.getD 0 != 0)) ∧ Below w.heap.size w w' := by
  have hB0 : Below w.heap.size w (w.alloc (.cells #[.int .u64 E, .slice a n cap] 57)) := Rows8.newB
  have hn := wordsAt_len hI
  obtain ⟨b, off, rfl, hb2, c0⟩ := wordsAt_get (RowAt.below hI hB0) k (by omega)
  have hki : (k : Int) < (n : Int) := by omega
  have hki0 : (0 : Int) ≤ (k : Int) := by omega
  generalize l[k]?.getD 0 = z at *
  have HB0 := Lib.hid hB0
  clear hB0 hI hn
  go_enter Try.func49, Try.ntmps49
  go_wp2_with fail
  go_ret
  exact ⟨rfl, HB0.out⟩
def safeN (E z : Int) : Bool := decide (z ≤ E ∧ 2 ≤ E - z)
theorem Try.safe_any (E z : Int) (hE : 0 ≤ E ∧ E < 18446744073709551616) (hz : 0 ≤ z) (v : Value) (w : World) :
    Calls Try.prog 34 #[.agg #[.int .u64 E, v], .int .u64 z] w fun e w' => e = .returned (.bool (safeN E z)) ∧ Below w.heap.size w w' := by
  have hB0 : Below w.heap.size w (w.alloc (.cells #[.int .u64 E, v] 57)) := Rows8.newB
  have HB0 := Lib.hid hB0
  clear hB0
  obtain ⟨b, hb⟩ : ∃ b, b = safeN E z := ⟨_, rfl⟩
  rw [← hb]
  unfold safeN at hb
  have HB := Lib.hid hb
  clear hb
  by_cases h1 : z ≤ E
  · have hw : IntKind.u64.wrap (E - z) = E - z := wrap_u _ (by omega) (by omega)
    by_cases h2 : 2 ≤ E - z
    · have h3 : Hid (b = true) := Lib.hid (by rw [HB.out]; simp; omega)
      have d1 : decide (z ≤ E) = true := decide_eq_true h1
      have d2 : decide (2 ≤ E - z) = true := decide_eq_true h2
      go_enter Try.func34, Try.ntmps34
      go_wp2_with fail
      go_ret
      exact ⟨by rw [h3.out]; first | rfl | simp [h1, h2], HB0.out⟩
    · have h3 : Hid (b = false) := Lib.hid (by rw [HB.out]; simp; omega)
      have d1 : decide (z ≤ E) = true := decide_eq_true h1
      have d2 : decide (2 ≤ E - z) = false := decide_eq_false h2
      go_enter Try.func34, Try.ntmps34
      go_wp2_with fail
      go_ret
      exact ⟨by rw [h3.out]; first | rfl | simp [h1, h2], HB0.out⟩
  · have h3 : Hid (b = false) := Lib.hid (by rw [HB.out]; simp; omega)
    have d1 : decide (z ≤ E) = false := decide_eq_false h1
    go_enter Try.func34, Try.ntmps34
    go_wp2_with fail
    go_ret
    exact ⟨by rw [h3.out]; first | rfl | simp [h1], HB0.out⟩
theorem Try.SafeP_any (E z : Int) (hE : 0 ≤ E ∧ E < 18446744073709551616) (hz : 0 ≤ z) (a : Option Addr) (n cap : Nat) (l : List Int) (w : World) (hI : WordsAt w (.slice a n cap) l) :
    Calls Try.prog 19 #[.agg #[.int .u64 E, .slice a n cap], .int .u64 z] w fun e w' => e = .returned (.bool (rightN E l && safeN E z)) ∧ Below w.heap.size w w' := by
  have hB0 : Below w.heap.size w (w.alloc (.cells #[.int .u64 E, .slice a n cap] 25)) := Rows8.newB
  have hB1 : Below w.heap.size w ((w.alloc (.cells #[.int .u64 E, .slice a n cap] 25)).alloc (.cells #[.int .u64 E, .slice a n cap] 57)) := hB0.alloc (by simp) _
  have hR0 := rows_new2 w (.cells #[.int .u64 E, .slice a n cap] 25) 57 #[.int .u64 E, .slice a n cap]
  have HM := Lib.hid (fun W (h : Below w.heap.size w W) => Try.mayBe_any E hE.1 a n cap l W (RowAt.below hI h))
  have HS := fun v W => Lib.hid (Try.safe_any E z hE hz v W)
  have HB1 := Lib.hid hB1
  have HR0 := Lib.hid hR0
  obtain ⟨r, hr⟩ : ∃ r, r = rightN E l := ⟨_, rfl⟩
  rw [← hr] at HM ⊢
  obtain ⟨s, hs⟩ : ∃ s, s = safeN E z := ⟨_, rfl⟩
  rw [← hs] at HS ⊢
  clear hs
  have c0 := hR0.cell 0
  have c1 := hR0.cell 1
  have hlt0 := hR0.lt
  have HMl := Lib.hid (HM.out _ hB1)
  clear hr hI hB0 hB1 hR0 HM
  go_enter Try.func19, Try.ntmps19
  go_wp2_with fail
  refine HMl.out.mono ?_
  rintro e w1 ⟨rfl, hB2⟩
  have R1 := HR0.out.below hB2 HR0.out.lt
  have k0 : w1.cell? ⟨w.heap.size + 1, 0, none⟩ = some (.int .u64 E) := R1.cell 0
  have k1 : w1.cell? ⟨w.heap.size + 1, 1, none⟩ = some (.slice a n cap) := R1.cell 1
  have HB2 := Lib.hid (HB1.out.trans (hB2.mono HB1.out.size))
  clear hB2 R1 c0 c1 hlt0
  cases r with
  | true =>
    go_wp2_with fail
    refine (HS _ _).out.mono ?_
    rintro e w2 ⟨rfl, hB3⟩
    have HB3 := Lib.hid (HB2.out.trans (hB3.mono HB2.out.size))
    clear hB3
    go_wp2_with fail
    go_ret
    exact ⟨by simp, HB3.out⟩
  | false =>
    go_wp2_with fail
    go_ret
    exact ⟨by simp, HB2.out⟩
end Go.Proofs
