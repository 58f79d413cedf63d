/- PinsBack: pinned, and not any more, pins are as they were, for all pins, goroutines and epochs. -/
import Derived.Test.YtdkpenfgeohddaaPm
namespace Go.Proofs
set_option maxRecDepth 100000
open Go.RowKit Go.Shelf
attribute [local go_sem] Oper.semAt_some

set_option maxHeartbeats 8000000 in
theorem Try.back_err (E : Int) (a : Option Addr) (n c : Nat) (S : List Int) (g by_ : Int) (w : World) (hI : WordsAt w (.slice a n c) S) (hE : 0 ≤ E ∧ E < 18446744073709551616) (hS : okW S) (hb : 0 ≤ by_) (h0 : (doP E (S.take 10) ⟨1, g, by_⟩).1 ≠ 0) :
    Calls Try.prog 7 #[.agg #[.int .u64 E, .slice a n c], .int .i64 g, .int .u64 by_] w fun e w' => e = .returned (.bool true) ∧ Below w.heap.size w w' := by
  obtain ⟨U, hU⟩ : ∃ U, U = S.take 10 := ⟨_, rfl⟩
  have hUk : okW U := by rw [hU]; exact okW_take hS 10
  have hk : Okp E U := ⟨hE, hUk⟩
  rw [← hU] at h0
  obtain ⟨er, her⟩ : ∃ x, x = (doP E U ⟨1, g, by_⟩).1 := ⟨_, rfl⟩
  have HD1 := fun (W : World) (a : Option Addr) (n c : Nat) (h : WordsAt W (.slice a n c) U) => Lib.hid (show Calls _ 23 #[.agg #[.int .u64 E, .slice a n c], .agg #[.int .i64 1, .int .i64 g, .int .u64 by_]] W (fun e w' => (∃ v, e = .returned (.tuple #[.agg #[.int .u64 0, v], .int .i64 er]) ∧ OwnsWords W.heap.size [] v w') ∧ Below W.heap.size W w') from by have h1 := Try.DoP_any E a n c U ⟨1, g, by_⟩ W h hk hb; rw [doP_err h0, ← her] at h1; exact h1)
  rw [← her] at h0
  have hne : (er != 0) = true := by simp [h0]
  clear h0 her hk hUk hE hS hb
  have hB0 : Below w.heap.size w (w.alloc (.cells #[.int .u64 E, .slice a n c] 25)) := Rows8.newB
  have X0 := Lib.hid (Rows8.new w 25 #[.int .u64 E, .slice a n c])
  have HW := fun W => Lib.hid (Try.wakes_any W)
  have HOW := fun (W : World) (h : Below w.heap.size w W) => Lib.hid (Try.own_any E a n c S W (RowAt.below hI h))
  rw [← hU] at HOW
  have B := Lib.hid hB0
  clear hB0 hI hU
  go_enter Try.func7, Try.ntmps7
  go_wp2_with fail
  refine (HW _).out.mono ?_
  rintro e w1 ⟨rfl, hB⟩
  have X0 := Lib.hid (X0.out.below hB X0.out.lt)
  have B := Lib.hid (B.out.trans (hB.mono B.out.size))
  have c0 : w1.cell? ⟨w.heap.size, 0, none⟩ = some (.int .u64 E) := X0.out.cell 0
  have c1 : w1.cell? ⟨w.heap.size, 1, none⟩ = some (.slice a n c) := X0.out.cell 1
  have HOl := HOW w1 B.out
  clear hB HOW HW
  go_wp2_with fail
  refine HOl.out.mono ?_
  rintro e w2 ⟨⟨a1, n1, d1, rfl, hn1, hO⟩, hB⟩
  clear HOl c0 c1 X0
  have hal : Below w2.heap.size w2 (w2.alloc (.cells #[.int .u64 E, .slice a1 n1 d1] 25)) := Rows8.newB
  have hOw : OwnsWords w.heap.size U (.slice a1 n1 d1) (w2.alloc (.cells #[.int .u64 E, .slice a1 n1 d1] 25)) := owns_keep (owns_mono hO B.out.size) hal (Nat.le_refl _)
  have hBw := hB.trans (hal.mono hB.size)
  have O1 := Lib.hid hOw
  have P1 := Lib.hid (Rows8.new w2 25 #[.int .u64 E, .slice a1 n1 d1])
  have B := Lib.hid (B.out.trans (hBw.mono B.out.size))
  clear hO hB hal hOw hBw
  go_upto_region 4 with fail
  generalize (w2.alloc (.cells #[.int .u64 E, .slice a1 n1 d1] 25)) = u2 at *
  obtain ⟨b1, hb1⟩ : ∃ b, b = w2.heap.size := ⟨_, rfl⟩
  rw [← hb1] at P1 ⊢
  clear hb1
  have c10 : u2.cell? ⟨b1, 0, none⟩ = some (.int .u64 E) := P1.out.cell 0
  have c11 : u2.cell? ⟨b1, 1, none⟩ = some (.slice a1 n1 d1) := P1.out.cell 1
  have HDl := HD1 u2 _ _ _ O1.out.at
  clear HD1
  go_wp2_with fail
  refine HDl.out.mono ?_
  rintro e w3 ⟨⟨v, rfl, hO⟩, hB⟩
  obtain ⟨a2, n2, d2, hv, hn2⟩ := hO.form2
  replace hn2 : n2 = 0 := hn2
  subst hn2 hv
  clear HDl
  clear c10 c11
  have hal : Below w3.heap.size w3 (w3.alloc (.cells #[.int .u64 0, .slice a2 0 d2] 25)) := Rows8.newB
  have hOw : OwnsWords w.heap.size [] (.slice a2 0 d2) (w3.alloc (.cells #[.int .u64 0, .slice a2 0 d2] 25)) := owns_keep (owns_mono hO B.out.size) hal (Nat.le_refl _)
  have hBw := hB.trans (hal.mono hB.size)
  have O2 := Lib.hid hOw
  have P2 := Lib.hid (Rows8.new w3 25 #[.int .u64 0, .slice a2 0 d2])
  have P1 := Lib.hid (P1.out.below hBw P1.out.lt)
  have O1 : Hid (OwnsWords w.heap.size U (.slice a1 n1 d1) (w3.alloc (.cells #[.int .u64 0, .slice a2 0 d2] 25))) := Lib.hid (owns_keep O1.out hBw (Nat.le_refl _))
  have B := Lib.hid (B.out.trans (hBw.mono B.out.size))
  clear hO hB hal hOw hBw
  go_upto_region 5 with fail
  generalize (w3.alloc (.cells #[.int .u64 0, .slice a2 0 d2] 25)) = u3 at *
  obtain ⟨b2, hb2⟩ : ∃ b, b = w3.heap.size := ⟨_, rfl⟩
  rw [← hb2] at P2 ⊢
  clear hb2
  have c20 : u3.cell? ⟨b2, 0, none⟩ = some (.int .u64 0) := P2.out.cell 0
  have c21 : u3.cell? ⟨b2, 1, none⟩ = some (.slice a2 0 d2) := P2.out.cell 1
  go_wp2_with fail
  go_ret
  exact ⟨rfl, B.out⟩
set_option maxHeartbeats 16000000 in
theorem Try.back_ok (E : Int) (a : Option Addr) (n c : Nat) (S : List Int) (g by_ : Int) (w : World) (hI : WordsAt w (.slice a n c) S) (hE : 0 ≤ E ∧ E < 18446744073709551616) (hS : okW S) (hb : 0 ≤ by_) (h0 : (doP E (S.take 10) ⟨1, g, by_⟩).1 = 0) :
    Calls Try.prog 7 #[.agg #[.int .u64 E, .slice a n c], .int .i64 g, .int .u64 by_] w fun e w' => e = .returned (.bool true) ∧ Below w.heap.size w w' := by
  obtain ⟨U, hU⟩ : ∃ U, U = S.take 10 := ⟨_, rfl⟩
  have hUk : okW U := by rw [hU]; exact okW_take hS 10
  have hk : Okp E U := ⟨hE, hUk⟩
  rw [← hU] at h0
  obtain ⟨hr, hs0, hdo⟩ := doP_ok h0
  obtain ⟨hg, hz, hby, hst⟩ := step_pin hs0
  obtain ⟨k, rfl⟩ : ∃ k : Nat, g = k := ⟨g.toNat, by omega⟩
  rw [Int.toNat_natCast] at hz hst
  have hkU : k < U.length := by omega
  have h8 := right_len hr
  have hEm := ((rightN_iff E U).1 hr).1
  obtain ⟨V, hV⟩ : ∃ V, V = U.set k (E - by_ + 1) := ⟨_, rfl⟩
  have hVl : V.length = U.length := by rw [hV, List.length_set]
  have hVk : V[k]?.getD 0 = E - by_ + 1 := by rw [hV, getD_set U k k _ hkU, if_pos rfl]
  have hVr : rightN E V = true := by rw [hV]; exact right_set hr k _ (by omega)
  have hVw : okW V := by rw [hV]; exact set_okW hUk k _ ⟨by omega, by omega⟩
  have hkV : Okp E V := ⟨hE, hVw⟩
  have hun : stepP E V ⟨2, (k : Int), 0⟩ = (0, E, U) := by
    rw [step_unpin (by rw [hVl]; omega) (by rw [Int.toNat_natCast, hVk]; omega), Int.toNat_natCast, hV, set_self_ U k _ hkU hz]
  have hag : stepP E V ⟨1, (k : Int), 0⟩ = (5, E, V) := step_again (by rw [hVl]; omega) (by rw [Int.toNat_natCast, hVk]; omega)
  have hd1 : doP E U ⟨1, (k : Int), by_⟩ = (0, E, V) := by rw [hdo, hst, hV]
  have hd2 : doP E V ⟨2, (k : Int), 0⟩ = (0, E, U) := by rw [doP_of hVr, hun]; rfl
  have hd3 : doP E V ⟨1, (k : Int), 0⟩ = (5, 0, []) := by rw [doP_of hVr, hag]; rfl
  obtain ⟨ho1, ho2⟩ := oldN_le (S := V) (k := k) (by omega) (by rw [hVk]; omega)
  rw [hVk, show E - by_ + 1 - 1 = E - by_ by omega] at ho2
  obtain ⟨m, hm⟩ : ∃ m, m = (oldN V).1 := ⟨_, rfl⟩
  have hold : oldP E V = (m, true) := by unfold oldP; rw [if_pos hVr, hm, ← ho1]
  rw [← hm] at ho2
  have hlb := back_pin (by_ := by_) hkU h8 hz hb hby
  rw [← hV] at hlb
  have hb1 : backP E V = backN E V := if_pos hVr
  have hb2 : backP E U = backN E U := if_pos hr
  have HD1 := fun (W : World) (a : Option Addr) (n c : Nat) (h : WordsAt W (.slice a n c) U) => Lib.hid (show Calls _ 23 #[.agg #[.int .u64 E, .slice a n c], .agg #[.int .i64 1, .int .i64 (k : Nat), .int .u64 by_]] W (fun e w' => (∃ v, e = .returned (.tuple #[.agg #[.int .u64 E, v], .int .i64 0]) ∧ OwnsWords W.heap.size V v w') ∧ Below W.heap.size W w') from by have h1 := Try.DoP_any E a n c U ⟨1, (k : Int), by_⟩ W h hk hb; rw [hd1] at h1; exact h1)
  have HO := fun (W : World) (a : Option Addr) (n c : Nat) (h : WordsAt W (.slice a n c) V) => Lib.hid (show Calls _ 16 #[.agg #[.int .u64 E, .slice a n c]] W (fun e w' => e = .returned (.tuple #[.int .u64 m, .bool true]) ∧ Below W.heap.size W w') from by have h1 := Try.OldestP_any E hE.1 a n c V hVw W h; rw [hold] at h1; exact h1)
  have HD2 := fun (W : World) (a : Option Addr) (n c : Nat) (h : WordsAt W (.slice a n c) V) => Lib.hid (show Calls _ 23 #[.agg #[.int .u64 E, .slice a n c], .agg #[.int .i64 2, .int .i64 (k : Nat), .int .u64 0]] W (fun e w' => (∃ v, e = .returned (.tuple #[.agg #[.int .u64 E, v], .int .i64 0]) ∧ OwnsWords W.heap.size U v w') ∧ Below W.heap.size W w') from by have h1 := Try.DoP_any E a n c V ⟨2, (k : Int), 0⟩ W h hkV (Int.le_refl 0); rw [hd2] at h1; exact h1)
  have HD3 := fun (W : World) (a : Option Addr) (n c : Nat) (h : WordsAt W (.slice a n c) V) => Lib.hid (show Calls _ 23 #[.agg #[.int .u64 E, .slice a n c], .agg #[.int .i64 1, .int .i64 (k : Nat), .int .u64 0]] W (fun e w' => (∃ v, e = .returned (.tuple #[.agg #[.int .u64 0, v], .int .i64 5]) ∧ OwnsWords W.heap.size [] v w') ∧ Below W.heap.size W w') from by have h1 := Try.DoP_any E a n c V ⟨1, (k : Int), 0⟩ W h hkV (Int.le_refl 0); rw [hd3] at h1; exact h1)
  have HSA := fun (W : World) (a1 a2 : Option Addr) (n1 n2 c1 c2 : Nat) (h1 : WordsAt W (.slice a1 n1 c1) U) (h2 : WordsAt W (.slice a2 n2 c2) U) => Lib.hid (show Calls _ 12 #[.agg #[.int .u64 E, .slice a1 n1 c1], .agg #[.int .u64 E, .slice a2 n2 c2]] W (fun e w' => e = .returned (.bool true) ∧ Below W.heap.size W w') from by have h3 := Try.Same_any E E a1 a2 n1 n2 c1 c2 U U W h1 h2 (by have := (wordsAt_len h1).1; omega) (by have := (wordsAt_len h2).1; omega); rw [decide_eq_true (rfl : E = E), decide_eq_true (rfl : U = U)] at h3; exact h3)
  have HB1 := fun (W : World) (a : Option Addr) (n c : Nat) (h : WordsAt W (.slice a n c) V) => Lib.hid (show Calls _ 18 #[.agg #[.int .u64 E, .slice a n c]] W (IntsQ (backN E V) W) from by have h1 := Try.BackP_any E hE.1 a n c V hVw W h; rw [hb1] at h1; exact h1)
  have HB2 := fun (W : World) (a : Option Addr) (n c : Nat) (h : WordsAt W (.slice a n c) U) => Lib.hid (show Calls _ 18 #[.agg #[.int .u64 E, .slice a n c]] W (IntsQ (backN E U) W) from by have h1 := Try.BackP_any E hE.1 a n c U hUk W h; rw [hb2] at h1; exact h1)
  obtain ⟨la, hla⟩ : ∃ x, x = (backN E V).length := ⟨_, rfl⟩
  obtain ⟨lp, hlp⟩ : ∃ x, x = (backN E U).length := ⟨_, rfl⟩
  rw [← hla, ← hlp] at hlb
  have hgt : ∃ b, decide ((la : Int) > (lp : Int)) = b ∧ decide (by_ > 0) = b := by
    unfold b2n at hlb
    by_cases h : by_ = 0
    · subst h
      exact ⟨false, by simp at hlb ⊢; omega, by simp⟩
    · rw [show (by_ != 0) = true by simp [h]] at hlb
      exact ⟨true, by simp at hlb ⊢; omega, by simp; omega⟩
  obtain ⟨bz, hg1, hg2⟩ := hgt
  have hg3 : decide ((lp : Int) < (la : Int)) = bz := hg1
  have hg6 : decide (lp < la) = bz := by rw [← hg3]; simp
  have hg4 : decide (0 < by_) = bz := hg2
  have hg5 : (bz == bz) = true := by cases bz <;> rfl
  have hwr : IntKind.u64.wrap (E - by_) = E - by_ := wrap_u _ (by omega) (by omega)
  have hle : decide (m ≤ E - by_) = true := decide_eq_true ho2
  have HLA := Lib.hid hla
  have HLP := Lib.hid hlp
  clear h0 hr hs0 hdo hg hz hst hkU h8 hEm hV hVl hVk hVr hVw hkV hun hag hd1 hd2 hd3 ho1 ho2 hm hold hlb hb1 hb2 hla hlp hk hUk hE hS hb hby
  have hB0 : Below w.heap.size w (w.alloc (.cells #[.int .u64 E, .slice a n c] 25)) := Rows8.newB
  have X0 := Lib.hid (Rows8.new w 25 #[.int .u64 E, .slice a n c])
  have HW := fun W => Lib.hid (Try.wakes_any W)
  have HOW := fun (W : World) (h : Below w.heap.size w W) => Lib.hid (Try.own_any E a n c S W (RowAt.below hI h))
  rw [← hU] at HOW
  have B := Lib.hid hB0
  clear hB0 hI hU
  go_enter Try.func7, Try.ntmps7
  go_wp2_with fail
  refine (HW _).out.mono ?_
  rintro e w1 ⟨rfl, hB⟩
  have X0 := Lib.hid (X0.out.below hB X0.out.lt)
  have B := Lib.hid (B.out.trans (hB.mono B.out.size))
  have c0 : w1.cell? ⟨w.heap.size, 0, none⟩ = some (.int .u64 E) := X0.out.cell 0
  have c1 : w1.cell? ⟨w.heap.size, 1, none⟩ = some (.slice a n c) := X0.out.cell 1
  have HOl := HOW w1 B.out
  clear hB HOW HW
  go_wp2_with fail
  refine HOl.out.mono ?_
  rintro e w2 ⟨⟨a1, n1, d1, rfl, hn1, hO⟩, hB⟩
  clear HOl c0 c1 X0
  have hal : Below w2.heap.size w2 (w2.alloc (.cells #[.int .u64 E, .slice a1 n1 d1] 25)) := Rows8.newB
  have hOw : OwnsWords w.heap.size U (.slice a1 n1 d1) (w2.alloc (.cells #[.int .u64 E, .slice a1 n1 d1] 25)) := owns_keep (owns_mono hO B.out.size) hal (Nat.le_refl _)
  have hBw := hB.trans (hal.mono hB.size)
  have O1 := Lib.hid hOw
  have P1 := Lib.hid (Rows8.new w2 25 #[.int .u64 E, .slice a1 n1 d1])
  have B := Lib.hid (B.out.trans (hBw.mono B.out.size))
  clear hO hB hal hOw hBw
  go_upto_region 4 with fail
  generalize (w2.alloc (.cells #[.int .u64 E, .slice a1 n1 d1] 25)) = u2 at *
  obtain ⟨b1, hb1⟩ : ∃ b, b = w2.heap.size := ⟨_, rfl⟩
  rw [← hb1] at P1 ⊢
  clear hb1
  have c10 : u2.cell? ⟨b1, 0, none⟩ = some (.int .u64 E) := P1.out.cell 0
  have c11 : u2.cell? ⟨b1, 1, none⟩ = some (.slice a1 n1 d1) := P1.out.cell 1
  have HDl := HD1 u2 _ _ _ O1.out.at
  clear HD1
  go_wp2_with fail
  refine HDl.out.mono ?_
  rintro e w3 ⟨⟨v, rfl, hO⟩, hB⟩
  obtain ⟨a2, n2, d2, hv, hn2⟩ := hO.form2
  subst hv
  have N2 := Lib.hid hn2
  clear hn2
  clear HDl
  clear c10 c11
  have hal : Below w3.heap.size w3 (w3.alloc (.cells #[.int .u64 E, .slice a2 n2 d2] 25)) := Rows8.newB
  have hOw : OwnsWords w.heap.size V (.slice a2 n2 d2) (w3.alloc (.cells #[.int .u64 E, .slice a2 n2 d2] 25)) := owns_keep (owns_mono hO B.out.size) hal (Nat.le_refl _)
  have hBw := hB.trans (hal.mono hB.size)
  have O2 := Lib.hid hOw
  have P2 := Lib.hid (Rows8.new w3 25 #[.int .u64 E, .slice a2 n2 d2])
  have P1 := Lib.hid (P1.out.below hBw P1.out.lt)
  have O1 : Hid (OwnsWords w.heap.size U (.slice a1 n1 d1) (w3.alloc (.cells #[.int .u64 E, .slice a2 n2 d2] 25))) := Lib.hid (owns_keep O1.out hBw (Nat.le_refl _))
  have B := Lib.hid (B.out.trans (hBw.mono B.out.size))
  clear hO hB hal hOw hBw
  go_upto_region 5 with fail
  generalize (w3.alloc (.cells #[.int .u64 E, .slice a2 n2 d2] 25)) = u3 at *
  obtain ⟨b2, hb2⟩ : ∃ b, b = w3.heap.size := ⟨_, rfl⟩
  rw [← hb2] at P2 ⊢
  clear hb2
  have c20 : u3.cell? ⟨b2, 0, none⟩ = some (.int .u64 E) := P2.out.cell 0
  have c21 : u3.cell? ⟨b2, 1, none⟩ = some (.slice a2 n2 d2) := P2.out.cell 1
  have HOl := HO u3 _ _ _ O2.out.at
  clear HO
  go_wp2_with fail
  refine HOl.out.mono ?_
  rintro e w4 ⟨rfl, hB⟩
  clear c20 c21
  have P1 := Lib.hid (P1.out.below hB P1.out.lt)
  have O1 : Hid (OwnsWords w.heap.size U (.slice a1 n1 d1) w4) := Lib.hid (owns_keep O1.out hB (Nat.le_refl _))
  have P2 := Lib.hid (P2.out.below hB P2.out.lt)
  have O2 : Hid (OwnsWords w.heap.size V (.slice a2 n2 d2) w4) := Lib.hid (owns_keep O2.out hB (Nat.le_refl _))
  have B := Lib.hid (B.out.trans (hB.mono B.out.size))
  have c20 : w4.cell? ⟨b2, 0, none⟩ = some (.int .u64 E) := P2.out.cell 0
  have c21 : w4.cell? ⟨b2, 1, none⟩ = some (.slice a2 n2 d2) := P2.out.cell 1
  have HDl := HD2 w4 _ _ _ O2.out.at
  clear HD2 HOl hB
  go_wp2_with fail
  refine HDl.out.mono ?_
  rintro e w5 ⟨⟨v, rfl, hO⟩, hB⟩
  obtain ⟨a3, n3, d3, hv, hn3⟩ := hO.form2
  subst hv
  have N3 := Lib.hid hn3
  clear hn3
  clear HDl
  clear c20 c21
  have hal : Below w5.heap.size w5 (w5.alloc (.cells #[.int .u64 E, .slice a3 n3 d3] 25)) := Rows8.newB
  have hOw : OwnsWords w.heap.size U (.slice a3 n3 d3) (w5.alloc (.cells #[.int .u64 E, .slice a3 n3 d3] 25)) := owns_keep (owns_mono hO B.out.size) hal (Nat.le_refl _)
  have hBw := hB.trans (hal.mono hB.size)
  have O3 := Lib.hid hOw
  have P3 := Lib.hid (Rows8.new w5 25 #[.int .u64 E, .slice a3 n3 d3])
  have P1 := Lib.hid (P1.out.below hBw P1.out.lt)
  have O1 : Hid (OwnsWords w.heap.size U (.slice a1 n1 d1) (w5.alloc (.cells #[.int .u64 E, .slice a3 n3 d3] 25))) := Lib.hid (owns_keep O1.out hBw (Nat.le_refl _))
  have P2 := Lib.hid (P2.out.below hBw P2.out.lt)
  have O2 : Hid (OwnsWords w.heap.size V (.slice a2 n2 d2) (w5.alloc (.cells #[.int .u64 E, .slice a3 n3 d3] 25))) := Lib.hid (owns_keep O2.out hBw (Nat.le_refl _))
  have B := Lib.hid (B.out.trans (hBw.mono B.out.size))
  clear hO hB hal hOw hBw
  go_upto_region 9 with fail
  generalize (w5.alloc (.cells #[.int .u64 E, .slice a3 n3 d3] 25)) = u5 at *
  obtain ⟨b3, hb3⟩ : ∃ b, b = w5.heap.size := ⟨_, rfl⟩
  rw [← hb3] at P3 ⊢
  clear hb3
  have c20 : u5.cell? ⟨b2, 0, none⟩ = some (.int .u64 E) := P2.out.cell 0
  have c21 : u5.cell? ⟨b2, 1, none⟩ = some (.slice a2 n2 d2) := P2.out.cell 1
  have HDl := HD3 u5 _ _ _ O2.out.at
  clear HD3
  go_wp2_with fail
  refine HDl.out.mono ?_
  rintro e w6 ⟨⟨v, rfl, hO⟩, hB⟩
  obtain ⟨a4, n4, d4, hv, hn4⟩ := hO.form2
  replace hn4 : n4 = 0 := hn4
  subst hn4 hv
  clear HDl
  clear c20 c21
  have hal : Below w6.heap.size w6 (w6.alloc (.cells #[.int .u64 0, .slice a4 0 d4] 25)) := Rows8.newB
  replace hB := hB.trans (hal.mono hB.size)
  have P1 := Lib.hid (P1.out.below hB P1.out.lt)
  have O1 : Hid (OwnsWords w.heap.size U (.slice a1 n1 d1) (w6.alloc (.cells #[.int .u64 0, .slice a4 0 d4] 25))) := Lib.hid (owns_keep O1.out hB (Nat.le_refl _))
  have P2 := Lib.hid (P2.out.below hB P2.out.lt)
  have O2 : Hid (OwnsWords w.heap.size V (.slice a2 n2 d2) (w6.alloc (.cells #[.int .u64 0, .slice a4 0 d4] 25))) := Lib.hid (owns_keep O2.out hB (Nat.le_refl _))
  have P3 := Lib.hid (P3.out.below hB P3.out.lt)
  have O3 : Hid (OwnsWords w.heap.size U (.slice a3 n3 d3) (w6.alloc (.cells #[.int .u64 0, .slice a4 0 d4] 25))) := Lib.hid (owns_keep O3.out hB (Nat.le_refl _))
  have B := Lib.hid (B.out.trans (hB.mono B.out.size))
  clear hO hB hal
  go_upto_region 10 with fail
  generalize (w6.alloc (.cells #[.int .u64 0, .slice a4 0 d4] 25)) = W at *
  refine wp_region_X (fun W' => Rows8 W' b1 25 #[.int .u64 E, .slice a1 n1 d1] ∧ Rows8 W' b2 25 #[.int .u64 E, .slice a2 n2 d2] ∧ Rows8 W' b3 25 #[.int .u64 E, .slice a3 n3 d3]) 35 (by kernel_rfl) ?_
  have hS0 : Rows8 W.drew b1 25 #[.int .u64 E, .slice a1 n1 d1] ∧ Rows8 W.drew b2 25 #[.int .u64 E, .slice a2 n2 d2] ∧ Rows8 W.drew b3 25 #[.int .u64 E, .slice a3 n3 d3] := ⟨P1.out.drewA, P2.out.drewA, P3.out.drewA⟩
  have O1 : Hid (OwnsWords w.heap.size U (.slice a1 n1 d1) W.drew) := Lib.hid O1.out
  have O2 : Hid (OwnsWords w.heap.size V (.slice a2 n2 d2) W.drew) := Lib.hid O2.out
  have O3 : Hid (OwnsWords w.heap.size U (.slice a3 n3 d3) W.drew) := Lib.hid O3.out
  have B := Lib.hid B.out.drew
  clear P1 P2 P3
  generalize W.drew = Wd at *
  refine wpAnyN_take (i := 0) (oi := { dst := some 52, op := Go.Op.move (Go.Operand.tmp 9), type := 29, pos := "outright.go:83", after := #[], guard := none }) (v := .int .i64 0) rfl (by decide) (by kernel_rfl) (by kernel_rfl) (by kernel_rfl) (fun _ _ _ h => h) (Or.inl ⟨by rfl, ?_⟩) hS0 ?_
  · intro W9 hS9
    obtain ⟨q0, q1, q2⟩ := hS9
    clear q0 q1 q2
    go_simp
  try simp only [Act.put, List.setIfInBounds_toArray, List.set_cons_zero, List.set_cons_succ]
  refine wpAnyN_take (i := 1) (oi := { dst := some 53, op := Go.Op.binOp Go.BinOp.eql 29 (Go.Operand.tmp 52) (Go.Operand.const (Go.Value.int Go.IntKind.i64 0)) 29, type := 4, pos := "outright.go:83", after := #[{ on := 0, ground := Go.Ground.data }], guard := none }) (v := .bool true) rfl (by decide) (by kernel_rfl) (by kernel_rfl) (by kernel_rfl) (fun _ _ _ h => h) (Or.inl ⟨by rfl, ?_⟩) hS0 ?_
  · intro W9 hS9
    obtain ⟨q0, q1, q2⟩ := hS9
    clear q0 q1 q2
    go_simp
  try simp only [Act.put, List.setIfInBounds_toArray, List.set_cons_zero, List.set_cons_succ]
  refine wpAnyN_take (i := 2) (oi := { dst := some 54, op := Go.Op.move (Go.Operand.tmp 53), type := 4, pos := "outright.go:83", after := #[{ on := 1, ground := Go.Ground.data }], guard := none }) (v := .bool true) rfl (by decide) (by kernel_rfl) (by kernel_rfl) (by kernel_rfl) (fun _ _ _ h => h) (Or.inl ⟨by rfl, ?_⟩) hS0 ?_
  · intro W9 hS9
    obtain ⟨q0, q1, q2⟩ := hS9
    clear q0 q1 q2
    go_simp
  try simp only [Act.put, List.setIfInBounds_toArray, List.set_cons_zero, List.set_cons_succ]
  refine wpAnyN_take (i := 3) (oi := { dst := some 55, op := Go.Op.move (Go.Operand.tmp 14), type := 29, pos := "outright.go:83", after := #[{ on := 2, ground := Go.Ground.guard }], guard := some (2, true) }) (v := .int .i64 5) rfl (by decide) (by kernel_rfl) (by kernel_rfl) (by kernel_rfl) (fun _ _ _ h => h) (Or.inl ⟨by rfl, ?_⟩) hS0 ?_
  · intro W9 hS9
    obtain ⟨q0, q1, q2⟩ := hS9
    clear q0 q1 q2
    go_simp
  try simp only [Act.put, List.setIfInBounds_toArray, List.set_cons_zero, List.set_cons_succ]
  refine wpAnyN_take (i := 4) (oi := { dst := some 56, op := Go.Op.binOp Go.BinOp.eql 29 (Go.Operand.tmp 55) (Go.Operand.const (Go.Value.int Go.IntKind.i64 5)) 29, type := 4, pos := "outright.go:83", after := #[{ on := 3, ground := Go.Ground.data }, { on := 2, ground := Go.Ground.guard }], guard := some (2, true) }) (v := .bool true) rfl (by decide) (by kernel_rfl) (by kernel_rfl) (by kernel_rfl) (fun _ _ _ h => h) (Or.inl ⟨by rfl, ?_⟩) hS0 ?_
  · intro W9 hS9
    obtain ⟨q0, q1, q2⟩ := hS9
    clear q0 q1 q2
    go_simp
  try simp only [Act.put, List.setIfInBounds_toArray, List.set_cons_zero, List.set_cons_succ]
  refine wpAnyN_take (i := 5) (oi := { dst := some 57, op := Go.Op.pick (Go.Operand.tmp 54) (Go.Operand.tmp 56) (Go.Operand.const (Go.Value.bool false)), type := 4, pos := "outright.go:83", after := #[{ on := 2, ground := Go.Ground.data }, { on := 4, ground := Go.Ground.data }], guard := none }) (v := .bool true) rfl (by decide) (by kernel_rfl) (by kernel_rfl) (by kernel_rfl) (fun _ _ _ h => h) (Or.inl ⟨by rfl, ?_⟩) hS0 ?_
  · intro W9 hS9
    obtain ⟨q0, q1, q2⟩ := hS9
    clear q0 q1 q2
    go_simp
  try simp only [Act.put, List.setIfInBounds_toArray, List.set_cons_zero, List.set_cons_succ]
  refine wpAnyN_take (i := 6) (oi := { dst := some 58, op := Go.Op.move (Go.Operand.tmp 57), type := 4, pos := "outright.go:83", after := #[{ on := 5, ground := Go.Ground.data }, { on := 2, ground := Go.Ground.chain }], guard := none }) (v := .bool true) rfl (by decide) (by kernel_rfl) (by kernel_rfl) (by kernel_rfl) (fun _ _ _ h => h) (Or.inl ⟨by rfl, ?_⟩) hS0 ?_
  · intro W9 hS9
    obtain ⟨q0, q1, q2⟩ := hS9
    clear q0 q1 q2
    go_simp
  try simp only [Act.put, List.setIfInBounds_toArray, List.set_cons_zero, List.set_cons_succ]
  refine wpAnyN_take (i := 7) (oi := { dst := some 59, op := Go.Op.move (Go.Operand.tmp 11), type := 4, pos := "outright.go:83", after := #[{ on := 6, ground := Go.Ground.guard }], guard := some (6, true) }) (v := .bool true) rfl (by decide) (by kernel_rfl) (by kernel_rfl) (by kernel_rfl) (fun _ _ _ h => h) (Or.inl ⟨by rfl, ?_⟩) hS0 ?_
  · intro W9 hS9
    obtain ⟨q0, q1, q2⟩ := hS9
    clear q0 q1 q2
    go_simp
  try simp only [Act.put, List.setIfInBounds_toArray, List.set_cons_zero, List.set_cons_succ]
  refine wpAnyN_take (i := 8) (oi := { dst := some 60, op := Go.Op.pick (Go.Operand.tmp 58) (Go.Operand.tmp 59) (Go.Operand.const (Go.Value.bool false)), type := 4, pos := "outright.go:83", after := #[{ on := 6, ground := Go.Ground.data }, { on := 7, ground := Go.Ground.data }], guard := none }) (v := .bool true) rfl (by decide) (by kernel_rfl) (by kernel_rfl) (by kernel_rfl) (fun _ _ _ h => h) (Or.inl ⟨by rfl, ?_⟩) hS0 ?_
  · intro W9 hS9
    obtain ⟨q0, q1, q2⟩ := hS9
    clear q0 q1 q2
    go_simp
  try simp only [Act.put, List.setIfInBounds_toArray, List.set_cons_zero, List.set_cons_succ]
  refine wpAnyN_take (i := 9) (oi := { dst := some 61, op := Go.Op.move (Go.Operand.tmp 60), type := 4, pos := "outright.go:83", after := #[{ on := 8, ground := Go.Ground.data }, { on := 6, ground := Go.Ground.chain }], guard := none }) (v := .bool true) rfl (by decide) (by kernel_rfl) (by kernel_rfl) (by kernel_rfl) (fun _ _ _ h => h) (Or.inl ⟨by rfl, ?_⟩) hS0 ?_
  · intro W9 hS9
    obtain ⟨q0, q1, q2⟩ := hS9
    clear q0 q1 q2
    go_simp
  try simp only [Act.put, List.setIfInBounds_toArray, List.set_cons_zero, List.set_cons_succ]
  refine wpAnyN_take (i := 10) (oi := { dst := some 62, op := Go.Op.move (Go.Operand.tmp 10), type := 22, pos := "outright.go:83", after := #[{ on := 9, ground := Go.Ground.guard }], guard := some (9, true) }) (v := .int .u64 m) rfl (by decide) (by kernel_rfl) (by kernel_rfl) (by kernel_rfl) (fun _ _ _ h => h) (Or.inl ⟨by rfl, ?_⟩) hS0 ?_
  · intro W9 hS9
    obtain ⟨q0, q1, q2⟩ := hS9
    clear q0 q1 q2
    go_simp
  try simp only [Act.put, List.setIfInBounds_toArray, List.set_cons_zero, List.set_cons_succ]
  refine wpAnyN_take (i := 11) (oi := { dst := some 63, op := Go.Op.fieldAddr 25 (Go.Operand.tmp 7) 0, type := 0, pos := "outright.go:83", after := #[{ on := 9, ground := Go.Ground.guard }], guard := some (9, true) }) (v := .pointer (some ⟨b1, 0, none⟩)) rfl (by decide) (by kernel_rfl) (by kernel_rfl) (by kernel_rfl) (fun _ _ _ h => h) (Or.inl ⟨by rfl, ?_⟩) hS0 ?_
  · intro W9 hS9
    obtain ⟨q0, q1, q2⟩ := hS9
    clear q0 q1 q2
    go_simp
  try simp only [Act.put, List.setIfInBounds_toArray, List.set_cons_zero, List.set_cons_succ]
  refine wpAnyN_take (i := 12) (oi := { dst := some 64, op := Go.Op.load 22 (Go.Operand.tmp 63), type := 22, pos := "outright.go:83", after := #[{ on := 11, ground := Go.Ground.data }, { on := 9, ground := Go.Ground.guard }], guard := some (9, true) }) (v := .int .u64 E) rfl (by decide) (by kernel_rfl) (by kernel_rfl) (by kernel_rfl) (fun _ _ _ h => h) (Or.inl ⟨by rfl, ?_⟩) hS0 ?_
  · intro W9 hS9
    obtain ⟨q0, q1, q2⟩ := hS9
    have s0 : W9.cell? ⟨b1, 0, none⟩ = some (.int .u64 E) := q0.cell 0
    have s1 : W9.cell? ⟨b1, 1, none⟩ = some (.slice a1 n1 d1) := q0.cell 1
    clear q0 q1 q2
    go_simp
  try simp only [Act.put, List.setIfInBounds_toArray, List.set_cons_zero, List.set_cons_succ]
  refine wpAnyN_take (i := 13) (oi := { dst := some 65, op := Go.Op.move (Go.Operand.tmp 2), type := 22, pos := "outright.go:83", after := #[{ on := 9, ground := Go.Ground.guard }], guard := some (9, true) }) (v := .int .u64 by_) rfl (by decide) (by kernel_rfl) (by kernel_rfl) (by kernel_rfl) (fun _ _ _ h => h) (Or.inl ⟨by rfl, ?_⟩) hS0 ?_
  · intro W9 hS9
    obtain ⟨q0, q1, q2⟩ := hS9
    clear q0 q1 q2
    go_simp
  try simp only [Act.put, List.setIfInBounds_toArray, List.set_cons_zero, List.set_cons_succ]
  refine wpAnyN_take (i := 14) (oi := { dst := some 66, op := Go.Op.binOp Go.BinOp.sub 22 (Go.Operand.tmp 64) (Go.Operand.tmp 65) 22, type := 22, pos := "outright.go:83", after := #[{ on := 12, ground := Go.Ground.data }, { on := 13, ground := Go.Ground.data }, { on := 9, ground := Go.Ground.guard }], guard := some (9, true) }) (v := .int .u64 (E - by_)) rfl (by decide) (by kernel_rfl) (by kernel_rfl) (by kernel_rfl) (fun _ _ _ h => h) (Or.inl ⟨by rfl, ?_⟩) hS0 ?_
  · intro W9 hS9
    obtain ⟨q0, q1, q2⟩ := hS9
    clear q0 q1 q2
    go_simp
  try simp only [Act.put, List.setIfInBounds_toArray, List.set_cons_zero, List.set_cons_succ]
  refine wpAnyN_take (i := 15) (oi := { dst := some 67, op := Go.Op.binOp Go.BinOp.leq 22 (Go.Operand.tmp 62) (Go.Operand.tmp 66) 22, type := 4, pos := "outright.go:83", after := #[{ on := 10, ground := Go.Ground.data }, { on := 14, ground := Go.Ground.data }, { on := 9, ground := Go.Ground.guard }], guard := some (9, true) }) (v := .bool true) rfl (by decide) (by kernel_rfl) (by kernel_rfl) (by kernel_rfl) (fun _ _ _ h => h) (Or.inl ⟨by rfl, ?_⟩) hS0 ?_
  · intro W9 hS9
    obtain ⟨q0, q1, q2⟩ := hS9
    clear q0 q1 q2
    go_simp
  try simp only [Act.put, List.setIfInBounds_toArray, List.set_cons_zero, List.set_cons_succ]
  refine wpAnyN_take (i := 16) (oi := { dst := some 68, op := Go.Op.pick (Go.Operand.tmp 61) (Go.Operand.tmp 67) (Go.Operand.const (Go.Value.bool false)), type := 4, pos := "outright.go:83", after := #[{ on := 9, ground := Go.Ground.data }, { on := 15, ground := Go.Ground.data }], guard := none }) (v := .bool true) rfl (by decide) (by kernel_rfl) (by kernel_rfl) (by kernel_rfl) (fun _ _ _ h => h) (Or.inl ⟨by rfl, ?_⟩) hS0 ?_
  · intro W9 hS9
    obtain ⟨q0, q1, q2⟩ := hS9
    clear q0 q1 q2
    go_simp
  try simp only [Act.put, List.setIfInBounds_toArray, List.set_cons_zero, List.set_cons_succ]
  refine wpAnyN_take (i := 17) (oi := { dst := some 69, op := Go.Op.move (Go.Operand.tmp 68), type := 4, pos := "outright.go:83", after := #[{ on := 16, ground := Go.Ground.data }, { on := 9, ground := Go.Ground.chain }], guard := none }) (v := .bool true) rfl (by decide) (by kernel_rfl) (by kernel_rfl) (by kernel_rfl) (fun _ _ _ h => h) (Or.inl ⟨by rfl, ?_⟩) hS0 ?_
  · intro W9 hS9
    obtain ⟨q0, q1, q2⟩ := hS9
    clear q0 q1 q2
    go_simp
  try simp only [Act.put, List.setIfInBounds_toArray, List.set_cons_zero, List.set_cons_succ]
  refine wpAnyN_take (i := 18) (oi := { dst := some 70, op := Go.Op.load 25 (Go.Operand.tmp 12), type := 25, pos := "outright.go:83", after := #[{ on := 17, ground := Go.Ground.guard }], guard := some (17, true) }) (v := .agg #[.int .u64 E, .slice a3 n3 d3]) rfl (by decide) (by kernel_rfl) (by kernel_rfl) (by kernel_rfl) (fun _ _ _ h => h) (Or.inl ⟨by rfl, ?_⟩) hS0 ?_
  · intro W9 hS9
    obtain ⟨q0, q1, q2⟩ := hS9
    have s0 : W9.cell? ⟨b3, 0, none⟩ = some (.int .u64 E) := q2.cell 0
    have s1 : W9.cell? ⟨b3, 1, none⟩ = some (.slice a3 n3 d3) := q2.cell 1
    clear q0 q1 q2
    go_simp
  try simp only [Act.put, List.setIfInBounds_toArray, List.set_cons_zero, List.set_cons_succ]
  refine wpAnyN_take (i := 19) (oi := { dst := some 71, op := Go.Op.load 25 (Go.Operand.tmp 7), type := 25, pos := "outright.go:83", after := #[{ on := 17, ground := Go.Ground.guard }], guard := some (17, true) }) (v := .agg #[.int .u64 E, .slice a1 n1 d1]) rfl (by decide) (by kernel_rfl) (by kernel_rfl) (by kernel_rfl) (fun _ _ _ h => h) (Or.inl ⟨by rfl, ?_⟩) hS0 ?_
  · intro W9 hS9
    obtain ⟨q0, q1, q2⟩ := hS9
    have s0 : W9.cell? ⟨b1, 0, none⟩ = some (.int .u64 E) := q0.cell 0
    have s1 : W9.cell? ⟨b1, 1, none⟩ = some (.slice a1 n1 d1) := q0.cell 1
    clear q0 q1 q2
    go_simp
  try simp only [Act.put, List.setIfInBounds_toArray, List.set_cons_zero, List.set_cons_succ]
  refine wpAnyX_one (i := 20) (o := { dst := some 72, op := Go.Op.call { callee := Go.Callee.value (Go.Operand.func 12), args := #[Go.Operand.tmp 70, Go.Operand.tmp 71], argTypes := #[25, 25] }, type := 4, pos := "outright.go:83", after := #[{ on := 18, ground := Go.Ground.data }, { on := 19, ground := Go.Ground.data }, { on := 17, ground := Go.Ground.chain }, { on := 17, ground := Go.Ground.guard }], guard := some (17, true) }) (by kernel_rfl) rfl (fun K hK => ?_)
  refine step_call_g (by rfl) 12 _ _ rfl (fun _ _ => by kernel_rfl) #[.agg #[.int .u64 E, .slice a3 n3 d3], .agg #[.int .u64 E, .slice a1 n1 d1]] (by simp [go_sem]) _ (HSA Wd _ _ _ _ _ _ O3.out.at O1.out.at).out ?_
  rintro e y1 ⟨rfl, hC⟩
  refine ⟨_, rfl, ?_⟩
  have hS1 : Rows8 y1 b1 25 #[.int .u64 E, .slice a1 n1 d1] ∧ Rows8 y1 b2 25 #[.int .u64 E, .slice a2 n2 d2] ∧ Rows8 y1 b3 25 #[.int .u64 E, .slice a3 n3 d3] := ⟨hS0.1.below hC hS0.1.lt, hS0.2.1.below hC hS0.2.1.lt, hS0.2.2.below hC hS0.2.2.lt⟩
  have O1 : Hid (OwnsWords w.heap.size U (.slice a1 n1 d1) y1) := Lib.hid (owns_keep O1.out hC (Nat.le_refl _))
  have O2 : Hid (OwnsWords w.heap.size V (.slice a2 n2 d2) y1) := Lib.hid (owns_keep O2.out hC (Nat.le_refl _))
  have O3 : Hid (OwnsWords w.heap.size U (.slice a3 n3 d3) y1) := Lib.hid (owns_keep O3.out hC (Nat.le_refl _))
  have B := Lib.hid (B.out.trans (hC.mono B.out.size))
  clear hC
  refine hK.out _ _ (fun _ => hS1) ?_
  clear hK K
  try simp only [Act.put, List.setIfInBounds_toArray, List.set_cons_zero, List.set_cons_succ]
  refine wpAnyN_take (i := 21) (oi := { dst := some 73, op := Go.Op.pick (Go.Operand.tmp 69) (Go.Operand.tmp 72) (Go.Operand.const (Go.Value.bool false)), type := 4, pos := "outright.go:83", after := #[{ on := 17, ground := Go.Ground.data }, { on := 20, ground := Go.Ground.data }], guard := none }) (v := .bool true) rfl (by decide) (by kernel_rfl) (by kernel_rfl) (by kernel_rfl) (fun _ _ _ h => h) (Or.inl ⟨by rfl, ?_⟩) hS1 ?_
  · intro W9 hS9
    obtain ⟨q0, q1, q2⟩ := hS9
    clear q0 q1 q2
    go_simp
  try simp only [Act.put, List.setIfInBounds_toArray, List.set_cons_zero, List.set_cons_succ]
  refine wpAnyN_take (i := 22) (oi := { dst := some 74, op := Go.Op.move (Go.Operand.tmp 73), type := 4, pos := "outright.go:83", after := #[{ on := 21, ground := Go.Ground.data }, { on := 20, ground := Go.Ground.chain }], guard := none }) (v := .bool true) rfl (by decide) (by kernel_rfl) (by kernel_rfl) (by kernel_rfl) (fun _ _ _ h => h) (Or.inl ⟨by rfl, ?_⟩) hS1 ?_
  · intro W9 hS9
    obtain ⟨q0, q1, q2⟩ := hS9
    clear q0 q1 q2
    go_simp
  try simp only [Act.put, List.setIfInBounds_toArray, List.set_cons_zero, List.set_cons_succ]
  refine wpAnyN_take (i := 23) (oi := { dst := some 75, op := Go.Op.load 25 (Go.Operand.tmp 8), type := 25, pos := "outright.go:83", after := #[{ on := 22, ground := Go.Ground.guard }], guard := some (22, true) }) (v := .agg #[.int .u64 E, .slice a2 n2 d2]) rfl (by decide) (by kernel_rfl) (by kernel_rfl) (by kernel_rfl) (fun _ _ _ h => h) (Or.inl ⟨by rfl, ?_⟩) hS1 ?_
  · intro W9 hS9
    obtain ⟨q0, q1, q2⟩ := hS9
    have s0 : W9.cell? ⟨b2, 0, none⟩ = some (.int .u64 E) := q1.cell 0
    have s1 : W9.cell? ⟨b2, 1, none⟩ = some (.slice a2 n2 d2) := q1.cell 1
    clear q0 q1 q2
    go_simp
  try simp only [Act.put, List.setIfInBounds_toArray, List.set_cons_zero, List.set_cons_succ]
  refine wpAnyN_take (i := 26) (oi := { dst := some 78, op := Go.Op.load 25 (Go.Operand.tmp 7), type := 25, pos := "outright.go:83", after := #[{ on := 22, ground := Go.Ground.guard }], guard := some (22, true) }) (v := .agg #[.int .u64 E, .slice a1 n1 d1]) rfl (by decide) (by kernel_rfl) (by kernel_rfl) (by kernel_rfl) (fun _ _ _ h => h) (Or.inl ⟨by rfl, ?_⟩) hS1 ?_
  · intro W9 hS9
    obtain ⟨q0, q1, q2⟩ := hS9
    have s0 : W9.cell? ⟨b1, 0, none⟩ = some (.int .u64 E) := q0.cell 0
    have s1 : W9.cell? ⟨b1, 1, none⟩ = some (.slice a1 n1 d1) := q0.cell 1
    clear q0 q1 q2
    go_simp
  try simp only [Act.put, List.setIfInBounds_toArray, List.set_cons_zero, List.set_cons_succ]
  refine wpAnyN_take (i := 30) (oi := { dst := some 82, op := Go.Op.move (Go.Operand.tmp 2), type := 22, pos := "outright.go:83", after := #[{ on := 22, ground := Go.Ground.guard }], guard := some (22, true) }) (v := .int .u64 by_) rfl (by decide) (by kernel_rfl) (by kernel_rfl) (by kernel_rfl) (fun _ _ _ h => h) (Or.inl ⟨by rfl, ?_⟩) hS1 ?_
  · intro W9 hS9
    obtain ⟨q0, q1, q2⟩ := hS9
    clear q0 q1 q2
    go_simp
  try simp only [Act.put, List.setIfInBounds_toArray, List.set_cons_zero, List.set_cons_succ]
  refine wpAnyN_take (i := 31) (oi := { dst := some 83, op := Go.Op.binOp Go.BinOp.gtr 22 (Go.Operand.tmp 82) (Go.Operand.const (Go.Value.int Go.IntKind.u64 0)) 22, type := 4, pos := "outright.go:83", after := #[{ on := 30, ground := Go.Ground.data }, { on := 22, ground := Go.Ground.guard }], guard := some (22, true) }) (v := .bool bz) rfl (by decide) (by kernel_rfl) (by kernel_rfl) (by kernel_rfl) (fun _ _ _ h => h) (Or.inl ⟨by rfl, ?_⟩) hS1 ?_
  · intro W9 hS9
    obtain ⟨q0, q1, q2⟩ := hS9
    clear q0 q1 q2
    go_simp
  try simp only [Act.put, List.setIfInBounds_toArray, List.set_cons_zero, List.set_cons_succ]
  refine wpAnyX_one (i := 24) (o := { dst := some 76, op := Go.Op.call { callee := Go.Callee.value (Go.Operand.func 18), args := #[Go.Operand.tmp 75], argTypes := #[25] }, type := 32, pos := "outright.go:83", after := #[{ on := 23, ground := Go.Ground.data }, { on := 22, ground := Go.Ground.chain }, { on := 22, ground := Go.Ground.guard }], guard := some (22, true) }) (by kernel_rfl) rfl (fun K hK => ?_)
  refine step_call_g (by rfl) 18 _ _ rfl (fun _ _ => by kernel_rfl) #[.agg #[.int .u64 E, .slice a2 n2 d2]] (by simp [go_sem]) _ (HB1 y1 _ _ _ O2.out.at).out ?_
  rintro e y2 ⟨v, rfl, hO, hC⟩
  refine ⟨_, rfl, ?_⟩
  obtain ⟨ai, di, hv⟩ := hO.form
  rw [← HLA.out] at hv
  subst hv
  clear hO
  have hS2 : Rows8 y2 b1 25 #[.int .u64 E, .slice a1 n1 d1] ∧ Rows8 y2 b2 25 #[.int .u64 E, .slice a2 n2 d2] ∧ Rows8 y2 b3 25 #[.int .u64 E, .slice a3 n3 d3] := ⟨hS1.1.below hC hS1.1.lt, hS1.2.1.below hC hS1.2.1.lt, hS1.2.2.below hC hS1.2.2.lt⟩
  have O1 : Hid (OwnsWords w.heap.size U (.slice a1 n1 d1) y2) := Lib.hid (owns_keep O1.out hC (Nat.le_refl _))
  have O2 : Hid (OwnsWords w.heap.size V (.slice a2 n2 d2) y2) := Lib.hid (owns_keep O2.out hC (Nat.le_refl _))
  have O3 : Hid (OwnsWords w.heap.size U (.slice a3 n3 d3) y2) := Lib.hid (owns_keep O3.out hC (Nat.le_refl _))
  have B := Lib.hid (B.out.trans (hC.mono B.out.size))
  clear hC
  refine hK.out _ _ (fun _ => hS2) ?_
  clear hK K
  try simp only [Act.put, List.setIfInBounds_toArray, List.set_cons_zero, List.set_cons_succ]
  refine wpAnyN_take (i := 25) (oi := { dst := some 77, op := Go.Op.call { callee := Go.Callee.builtin Go.Builtin.len, args := #[Go.Operand.tmp 76], argTypes := #[32] }, type := 3, pos := "outright.go:83", after := #[{ on := 24, ground := Go.Ground.data }, { on := 22, ground := Go.Ground.guard }], guard := some (22, true) }) (v := .int .i64 la) rfl (by decide) (by kernel_rfl) (by kernel_rfl) (by kernel_rfl) (fun _ _ _ h => h) (Or.inl ⟨by rfl, ?_⟩) hS2 ?_
  · intro W9 hS9
    obtain ⟨q0, q1, q2⟩ := hS9
    clear q0 q1 q2
    go_simp
  try simp only [Act.put, List.setIfInBounds_toArray, List.set_cons_zero, List.set_cons_succ]
  refine wpAnyX_one (i := 27) (o := { dst := some 79, op := Go.Op.call { callee := Go.Callee.value (Go.Operand.func 18), args := #[Go.Operand.tmp 78], argTypes := #[25] }, type := 32, pos := "outright.go:83", after := #[{ on := 26, ground := Go.Ground.data }, { on := 24, ground := Go.Ground.chain }, { on := 22, ground := Go.Ground.guard }], guard := some (22, true) }) (by kernel_rfl) rfl (fun K hK => ?_)
  refine step_call_g (by rfl) 18 _ _ rfl (fun _ _ => by kernel_rfl) #[.agg #[.int .u64 E, .slice a1 n1 d1]] (by simp [go_sem]) _ (HB2 y2 _ _ _ O1.out.at).out ?_
  rintro e y3 ⟨v, rfl, hO, hC⟩
  refine ⟨_, rfl, ?_⟩
  obtain ⟨aj, dj, hv⟩ := hO.form
  rw [← HLP.out] at hv
  subst hv
  clear hO
  have hS3 : Rows8 y3 b1 25 #[.int .u64 E, .slice a1 n1 d1] ∧ Rows8 y3 b2 25 #[.int .u64 E, .slice a2 n2 d2] ∧ Rows8 y3 b3 25 #[.int .u64 E, .slice a3 n3 d3] := ⟨hS2.1.below hC hS2.1.lt, hS2.2.1.below hC hS2.2.1.lt, hS2.2.2.below hC hS2.2.2.lt⟩
  have O1 : Hid (OwnsWords w.heap.size U (.slice a1 n1 d1) y3) := Lib.hid (owns_keep O1.out hC (Nat.le_refl _))
  have O2 : Hid (OwnsWords w.heap.size V (.slice a2 n2 d2) y3) := Lib.hid (owns_keep O2.out hC (Nat.le_refl _))
  have O3 : Hid (OwnsWords w.heap.size U (.slice a3 n3 d3) y3) := Lib.hid (owns_keep O3.out hC (Nat.le_refl _))
  have B := Lib.hid (B.out.trans (hC.mono B.out.size))
  clear hC
  refine hK.out _ _ (fun _ => hS3) ?_
  clear hK K
  try simp only [Act.put, List.setIfInBounds_toArray, List.set_cons_zero, List.set_cons_succ]
  refine wpAnyN_take (i := 28) (oi := { dst := some 80, op := Go.Op.call { callee := Go.Callee.builtin Go.Builtin.len, args := #[Go.Operand.tmp 79], argTypes := #[32] }, type := 3, pos := "outright.go:83", after := #[{ on := 27, ground := Go.Ground.data }, { on := 22, ground := Go.Ground.guard }], guard := some (22, true) }) (v := .int .i64 lp) rfl (by decide) (by kernel_rfl) (by kernel_rfl) (by kernel_rfl) (fun _ _ _ h => h) (Or.inl ⟨by rfl, ?_⟩) hS3 ?_
  · intro W9 hS9
    obtain ⟨q0, q1, q2⟩ := hS9
    clear q0 q1 q2
    go_simp
  try simp only [Act.put, List.setIfInBounds_toArray, List.set_cons_zero, List.set_cons_succ]
  refine wpAnyN_take (i := 29) (oi := { dst := some 81, op := Go.Op.binOp Go.BinOp.gtr 3 (Go.Operand.tmp 77) (Go.Operand.tmp 80) 3, type := 4, pos := "outright.go:83", after := #[{ on := 25, ground := Go.Ground.data }, { on := 28, ground := Go.Ground.data }, { on := 22, ground := Go.Ground.guard }], guard := some (22, true) }) (v := .bool bz) rfl (by decide) (by kernel_rfl) (by kernel_rfl) (by kernel_rfl) (fun _ _ _ h => h) (Or.inl ⟨by rfl, ?_⟩) hS3 ?_
  · intro W9 hS9
    obtain ⟨q0, q1, q2⟩ := hS9
    clear q0 q1 q2
    go_simp
  try simp only [Act.put, List.setIfInBounds_toArray, List.set_cons_zero, List.set_cons_succ]
  refine wpAnyN_take (i := 32) (oi := { dst := some 84, op := Go.Op.binOp Go.BinOp.eql 4 (Go.Operand.tmp 81) (Go.Operand.tmp 83) 4, type := 4, pos := "outright.go:83", after := #[{ on := 29, ground := Go.Ground.data }, { on := 31, ground := Go.Ground.data }, { on := 22, ground := Go.Ground.guard }], guard := some (22, true) }) (v := .bool true) rfl (by decide) (by kernel_rfl) (by kernel_rfl) (by kernel_rfl) (fun _ _ _ h => h) (Or.inl ⟨by rfl, ?_⟩) hS3 ?_
  · intro W9 hS9
    obtain ⟨q0, q1, q2⟩ := hS9
    clear q0 q1 q2
    go_simp
  try simp only [Act.put, List.setIfInBounds_toArray, List.set_cons_zero, List.set_cons_succ]
  refine wpAnyN_take (i := 33) (oi := { dst := some 85, op := Go.Op.pick (Go.Operand.tmp 74) (Go.Operand.tmp 84) (Go.Operand.const (Go.Value.bool false)), type := 4, pos := "outright.go:83", after := #[{ on := 22, ground := Go.Ground.data }, { on := 32, ground := Go.Ground.data }], guard := none }) (v := .bool true) rfl (by decide) (by kernel_rfl) (by kernel_rfl) (by kernel_rfl) (fun _ _ _ h => h) (Or.inl ⟨by rfl, ?_⟩) hS3 ?_
  · intro W9 hS9
    obtain ⟨q0, q1, q2⟩ := hS9
    clear q0 q1 q2
    go_simp
  try simp only [Act.put, List.setIfInBounds_toArray, List.set_cons_zero, List.set_cons_succ]
  refine wpAnyN_take (i := 34) (oi := { dst := some 6, op := Go.Op.assign (Go.Operand.tmp 85), type := 4, pos := "outright.go:83", after := #[{ on := 33, ground := Go.Ground.data }, { on := 27, ground := Go.Ground.chain }, { on := 0, ground := Go.Ground.phase }, { on := 1, ground := Go.Ground.phase }, { on := 2, ground := Go.Ground.phase }, { on := 3, ground := Go.Ground.phase }, { on := 4, ground := Go.Ground.phase }, { on := 5, ground := Go.Ground.phase }, { on := 6, ground := Go.Ground.phase }, { on := 7, ground := Go.Ground.phase }, { on := 8, ground := Go.Ground.phase }, { on := 9, ground := Go.Ground.phase }, { on := 10, ground := Go.Ground.phase }, { on := 11, ground := Go.Ground.phase }, { on := 12, ground := Go.Ground.phase }, { on := 13, ground := Go.Ground.phase }, { on := 14, ground := Go.Ground.phase }, { on := 15, ground := Go.Ground.phase }, { on := 16, ground := Go.Ground.phase }, { on := 17, ground := Go.Ground.phase }, { on := 18, ground := Go.Ground.phase }, { on := 19, ground := Go.Ground.phase }, { on := 20, ground := Go.Ground.phase }, { on := 21, ground := Go.Ground.phase }, { on := 22, ground := Go.Ground.phase }, { on := 23, ground := Go.Ground.phase }, { on := 24, ground := Go.Ground.phase }, { on := 25, ground := Go.Ground.phase }, { on := 26, ground := Go.Ground.phase }, { on := 27, ground := Go.Ground.phase }, { on := 28, ground := Go.Ground.phase }, { on := 29, ground := Go.Ground.phase }, { on := 30, ground := Go.Ground.phase }, { on := 31, ground := Go.Ground.phase }, { on := 32, ground := Go.Ground.phase }, { on := 33, ground := Go.Ground.phase }], guard := none }) (v := .bool true) rfl (by decide) (by kernel_rfl) (by kernel_rfl) (by kernel_rfl) (fun _ _ _ h => h) (Or.inl ⟨by rfl, ?_⟩) hS3 ?_
  · intro W9 hS9
    obtain ⟨q0, q1, q2⟩ := hS9
    clear q0 q1 q2
    go_simp
  try simp only [Act.put, List.setIfInBounds_toArray, List.set_cons_zero, List.set_cons_succ]
  refine wpAnyX_end (by kernel_rfl) ?_
  go_wp2_with fail
  go_ret
  exact ⟨rfl, B.out⟩
theorem Try.backP_any (E : Int) (a : Option Addr) (n c : Nat) (S : List Int) (g by_ : Int) (w : World) (hI : WordsAt w (.slice a n c) S) (hE : 0 ≤ E ∧ E < 18446744073709551616) (hS : okW S) (hb : 0 ≤ by_) :
    Calls Try.prog 7 #[.agg #[.int .u64 E, .slice a n c], .int .i64 g, .int .u64 by_] w fun e w' => e = .returned (.bool true) ∧ Below w.heap.size w w' := by
  by_cases h0 : (doP E (S.take 10) ⟨1, g, by_⟩).1 = 0
  · exact Try.back_ok E a n c S g by_ w hI hE hS hb h0
  · exact Try.back_err E a n c S g by_ w hI hE hS hb h0
end Go.Proofs
namespace Go.Proofs.Ytdkpenfgeohddaa.pinsBack
open Go.ChangeShapes Go.WideShapes Go.ChangeAt Go.RowKit Go.Shelf

theorem own : ownKnob Try.prog.godebug = none := by kernel_rfl
theorem walk (g : Pv) (goer by_ : Int) (w : World) (hg : PvAt w g) (_ : (Lit.int .i64 goer).wf = true) (hb : (Lit.int .u64 by_).wf = true) :
    Calls Try.prog 7 #[.agg #[.int .u64 g.e, .slice g.a g.n g.c], .int .i64 goer, .int .u64 by_] w fun e w' => e = .returned (.bool true) ∧ Below w.heap.size w w' := Try.backP_any g.e g.a g.n g.c g.s goer by_ w hg.2.1 hg.1 hg.2.2 (u64_range hb).1
theorem laidOut : laidOutB Try.prog = true := by kernel_rfl
set_option maxRecDepth 100000 in
theorem lifted (os : Os) (started : os.Started) (H : Type) (enc : TypeId × Value → H) :
    ReturnsInHanded {} Try.checked os 7 .any (Rows.pinsBackSpec.pre6 enc Try.prog Try.f7 Rows.pinsBackRow.domain false) (Rows.pinsBackSpec.post enc Try.prog Try.f7 false true false false) := by
  refine returnsInHanded_of_change (C := Try.checked) own started (by kernel_rfl) Try.func7
    (ChangeSpec.witness6 (enc := enc) (C := Try.checked) false ⟨#[], #[.agg #[.int .u64 0, .slice none 0 0], .int .i64 0, .int .u64 0], []⟩ 8 (by kernel_rfl) (by kernel_rfl) (by kernel_rfl) (by kernel_rfl)) ?_
  intro W base args ds gs before hval0 hW hcnd _
  have hval : ∀ (j : Nat) t v, Try.f7.params[j]? = some t → args[j]? = some v → Value.okWide Try.prog W .any base t v := hval0
  have hW' := hW
  obtain ⟨p, q, hA0, hV, rfl, hfz, hnd⟩ := hW
  have hA : DataW.TrodAll enc Try.prog W 0 (fun _ => true) true Try.f7.params.toList args.toList ds p := hA0
  rw [Try.params7] at hA hval
  obtain ⟨v0, vs0, d0, ds0, p0, q0, hargs, rfl, rfl, h0, r0⟩ := trodAll_cons hA
  obtain ⟨v1, vs1, d1, ds1, p1, q1, rfl, rfl, rfl, h1, r1⟩ := trodAll_cons r0
  obtain ⟨v2, vs2, d2, ds2, p2, q2, rfl, rfl, rfl, h2, r2⟩ := trodAll_cons r1
  obtain ⟨rfl, rfl, rfl⟩ := trodAll_nil r2
  obtain rfl : args = #[v0, v1, v2] := by cases args; simp_all
  obtain ⟨rfl, rfl⟩ := trodVars_none hV
  have k0 := h0
  have lt0 : ∀ x ∈ p0, x.block < W.heap.size := by obtain ⟨m, hm⟩ := k0; exact DataW.trod_lt m _ _ _ hm
  obtain ⟨g0, rfl, w0⟩ := open_pins (hval 0 25 v0 rfl rfl) h0
  obtain ⟨a1, rfl, rfl, rfl, w1⟩ := open_int Try.underlying3 (hval 1 3 v1 rfl rfl) h1
  obtain ⟨a2, rfl, rfl, rfl, w2⟩ := open_int Try.underlying22 (hval 2 22 v2 rfl rfl) h2
  clear hA0 hval0
  refine (walk g0 a1 a2 W w0 w1 w2).mono fun e W' ⟨he, bel⟩ => ?_
  subst he
  exact ⟨_, rfl, _, _, _, [], _, [], hW', trodAll_mk1 (shut_bool Try.underlying4 _), (trodAll_cons_mk (Below.trod laidOut (by kernel_rfl) (of_decide_eq_true (by kernel_rfl)) k0 bel lt0) (trodAll_cons_mk (shut_int Try.underlying3 w1) (trodAll_cons_mk (shut_int Try.underlying22 w2) trodAll_mk0))), rfl, bel.frame _, fun h => by cases h⟩

theorem over : Rows.pinsBackRow.holds Try.pinned (OpenSpec.ofChange Rows.pinsBackSpec) :=
  OpenClaim.holds_of_wide 7 Try.f7 rfl rfl rfl rfl rfl rfl rfl ⟨rfl, rfl, rfl, rfl, rfl⟩ rfl rfl rfl rfl rfl (by kernel_rfl) Try.func7 (by kernel_rfl)
    (of_decide_eq_true (by kernel_rfl)) (by unfold Func.isWrapper; first | (rw [if_pos (by decide +kernel)]; kernel_rfl) | (rw [if_neg (by decide +kernel)]; exact ⟨rfl, rfl⟩))
    (fun os started H enc _ => lifted os started H enc)

theorem proved : Rows.PinsBackSaid := over
end Go.Proofs.Ytdkpenfgeohddaa.pinsBack
