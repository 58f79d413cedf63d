/- Choose, Steer, and the reference's Can, Choose; Max. -/
import Derived.Test.YtmkpjpdjjdmklaaKb
namespace Go.Proofs
open Go.RowKit Go.Shelf
attribute [local go_sem] Oper.semAt_some

theorem tmod_lt (p m : Int) (h : 1 ≤ m) : -m < p.tmod m ∧ p.tmod m < m := by
  refine ⟨?_, Int.tmod_lt_of_pos p (by omega)⟩
  have := Int.lt_tmod_of_pos p (show 0 < m by omega)
  omega
theorem left_eq (p m : Int) (_ : 1 ≤ m) : (p.tmod m + m) % m = p % m := by
  rw [Int.tmod_def, show p - m * p.tdiv m + m = p + m * (1 - p.tdiv m) by rw [Int.mul_sub]; omega, Int.add_mul_emod_self_left]

theorem Try.left_any (p m : Int) (h1 : 1 ≤ m) (h2 : m ≤ 1000) (w : World) :
    Calls Try.prog 33 #[.int .i64 p, .int .i64 m] w fun e w' => e = .returned (.int .i64 (p % m)) ∧ w = w' := by
  obtain ⟨h3, h4⟩ := tmod_lt p m h1
  have he := left_eq p m h1
  have HE := Lib.hid he
  clear he
  generalize hp : p.tmod m = r at *
  have h5 : 0 ≤ r + m := by omega
  have h6 : ¬ m = 0 := by omega
  go_enter Try.func33, Try.ntmps33
  go_wp2
  go_ret
  exact ⟨by rw [← HE.out]; rfl, rfl⟩

theorem upB_len (N : Int) (l : List Int) (k : Int) (h : upB N k l = true) : (l.length : Int) ≤ N - k ∨ l = [] := by
  induction l generalizing k with
  | nil => exact .inr rfl
  | cons g t ih =>
    rw [upB, Bool.and_eq_true, decide_eq_true_iff] at h
    rcases ih _ h.2 with h1 | h1
    · exact .inl (by simp; omega)
    · subst h1
      exact .inl (by simp; omega)
theorem upB_mem (N : Int) (l : List Int) (k : Int) (h : upB N k l = true) : ∀ g ∈ l, k ≤ g ∧ g < N := by
  induction l generalizing k with
  | nil => simp
  | cons x t ih =>
    rw [upB, Bool.and_eq_true, decide_eq_true_iff] at h
    intro g hg
    rcases List.mem_cons.1 hg with rfl | hg
    · exact h.1
    · have := ih _ h.2 g hg
      omega
theorem canB_len {N : Int} {l : List Int} (h : canB N l = true) : 1 ≤ l.length ∧ (l.length : Int) ≤ N := by
  unfold canB at h
  rw [Bool.and_eq_true] at h
  rcases upB_len N l 0 h.1 with h1 | h1
  · cases l with
    | nil => simp at h
    | cons x t => simp at h1 ⊢; omega
  · subst h1; simp at h
theorem canB_mem {N : Int} {l : List Int} (h : canB N l = true) : ∀ g ∈ l, 0 ≤ g ∧ g < N := by
  unfold canB at h
  rw [Bool.and_eq_true] at h
  exact upB_mem N l 0 h.1
/-- Who is chosen by a pick. -/
def pickB (l : List Int) (p : Int) : Int := l[(p % l.length).toNat]?.getD 0
def chooseB (l : List Int) (p : Int) : Int × Int := if canB 8 l = true then (pickB l p, 0) else (0, 2)
def steerB (l : List Int) (z : Int) : Int × Int := if canB 8 l = true then (if idxI z l 0 < 0 then (0, 4) else (idxI z l 0, 0)) else (0, 2)

set_option maxHeartbeats 1000000 in
theorem Try.Choose_any (a : Option Addr) (n cap : Nat) (ws : List Int) (hn : n = ws.length) (p : Int) (w : World) (hI : IntsAt w (.slice a n cap) ws) :
    Calls Try.prog 12 #[.slice a n cap, .int .i64 p] w fun e w' => e = .returned (.tuple #[.int .i64 (chooseB ws p).1, .int .i64 (chooseB ws p).2]) ∧ w = w' := by
  have hc := Try.areCan_any 8 (by omega) a n cap ws hn w hI
  by_cases h : canB 8 ws = true
  · have hl := canB_len h
    have hcb : chooseB ws p = (pickB ws p, 0) := by unfold chooseB; rw [if_pos h]
    rw [hcb]
    rw [h] at hc
    have hn1 : 1 ≤ n ∧ n ≤ 8 := by omega
    have hp0 := Int.emod_nonneg p (show (n : Int) ≠ 0 by omega)
    have hp1 := Int.emod_lt_of_pos p (show 0 < (n : Int) by omega)
    obtain ⟨j, hj⟩ : ∃ j : Nat, p % (n : Int) = (j : Int) := ⟨(p % (n : Int)).toNat, by omega⟩
    have hleft := Try.left_any p n (by omega) (by omega) w
    rw [hj] at hp1 hleft
    have hjn : j < n := by omega
    obtain ⟨b, off, rfl, hb, hcell⟩ := intsAt_get hI j (by omega)
    have hpk : Hid (pickB ws p = ws[j]?.getD 0) := Lib.hid (by unfold pickB; rw [← hn, hj]; simp)
    generalize ws[j]?.getD 0 = x at *
    have HC := Lib.hid hc
    have HL := Lib.hid hleft
    clear hc hleft hj hp0 hp1 hI hn hl h
    go_enter Try.func12, Try.ntmps12
    go_wp2_with fail
    refine HC.out.mono ?_
    rintro e w' ⟨rfl, rfl⟩
    go_wp2_with fail
    refine HL.out.mono ?_
    rintro e w' ⟨rfl, rfl⟩
    go_wp2_with fail
    go_ret2
    exact ⟨by rw [hpk.out]; rfl, rfl⟩
  · have hcb : chooseB ws p = (0, 2) := by unfold chooseB; rw [if_neg h]
    rw [hcb]
    rw [Bool.not_eq_true] at h
    rw [h] at hc
    have HC := Lib.hid hc
    clear hc hI hn h hcb
    go_enter Try.func12, Try.ntmps12
    go_wp2_with fail
    refine HC.out.mono ?_
    rintro e w' ⟨rfl, rfl⟩
    go_wp2_with fail
    go_ret2
    exact ⟨rfl, rfl⟩

set_option maxHeartbeats 1000000 in
theorem Try.Steer_any (a : Option Addr) (n cap : Nat) (ws : List Int) (hn : n = ws.length) (z : Int) (w : World) (hI : IntsAt w (.slice a n cap) ws) :
    Calls Try.prog 13 #[.slice a n cap, .int .i64 z] w fun e w' => e = .returned (.tuple #[.int .i64 (steerB ws z).1, .int .i64 (steerB ws z).2]) ∧ w = w' := by
  have hc := Try.areCan_any 8 (by omega) a n cap ws hn w hI
  have hi := Try.index_any a n cap ws hn z w hI
  by_cases h : canB 8 ws = true
  · rw [h] at hc
    have HI := Lib.hid hi
    have HC := Lib.hid hc
    by_cases hneg : idxI z ws 0 < 0
    · have hcb : steerB ws z = (0, 4) := by unfold steerB; rw [if_pos h, if_pos hneg]
      rw [hcb]
      clear hc hi hI hn h hcb
      generalize idxI z ws 0 = r at *
      go_enter Try.func13, Try.ntmps13
      go_wp2_with fail
      refine HC.out.mono ?_
      rintro e w' ⟨rfl, rfl⟩
      go_wp2_with fail
      refine HI.out.mono ?_
      rintro e w' ⟨rfl, rfl⟩
      go_wp2_with fail
      go_ret2
      exact ⟨rfl, rfl⟩
    · have hcb : steerB ws z = (idxI z ws 0, 0) := by unfold steerB; rw [if_pos h, if_neg hneg]
      rw [hcb]
      clear hc hi hI hn h hcb
      generalize idxI z ws 0 = r at *
      go_enter Try.func13, Try.ntmps13
      go_wp2_with fail
      refine HC.out.mono ?_
      rintro e w' ⟨rfl, rfl⟩
      go_wp2_with fail
      refine HI.out.mono ?_
      rintro e w' ⟨rfl, rfl⟩
      go_wp2_with fail
      go_ret2
      exact ⟨rfl, rfl⟩
  · have hcb : steerB ws z = (0, 2) := by unfold steerB; rw [if_neg h]
    rw [hcb]
    rw [Bool.not_eq_true] at h
    rw [h] at hc
    have HC := Lib.hid hc
    clear hc hI hn h hcb hi
    go_enter Try.func13, Try.ntmps13
    go_wp2_with fail
    refine HC.out.mono ?_
    rintro e w' ⟨rfl, rfl⟩
    go_wp2_with fail
    go_ret2
    exact ⟨rfl, rfl⟩

set_option maxHeartbeats 1000000 in
theorem Try.refChoose_any (a : Option Addr) (n cap : Nat) (ws : List Int) (hn : n = ws.length) (h1 : 1 ≤ n) (h8 : n ≤ 1000) (p : Int) (w : World) (hI : IntsAt w (.slice a n cap) ws) :
    Calls Try.prog 14 #[.slice a n cap, .int .i64 p] w fun e w' => e = .returned (.int .i64 (pickB ws p)) ∧ w = w' := by
  have hp0 := Int.emod_nonneg p (show (n : Int) ≠ 0 by omega)
  have hp1 := Int.emod_lt_of_pos p (show 0 < (n : Int) by omega)
  obtain ⟨j, hj⟩ : ∃ j : Nat, p % (n : Int) = (j : Int) := ⟨(p % (n : Int)).toNat, by omega⟩
  have he := left_eq p n (by omega)
  rw [hj] at hp1 he
  have hjn : j < n := by omega
  obtain ⟨b, off, rfl, hb, hcell⟩ := intsAt_get hI j (by omega)
  have hpk : Hid (pickB ws p = ws[j]?.getD 0) := Lib.hid (by unfold pickB; rw [← hn, hj]; simp)
  generalize ws[j]?.getD 0 = x at *
  obtain ⟨h3, h4⟩ := tmod_lt p n (by omega)
  generalize hp : p.tmod n = r at *
  have h5 : 0 ≤ r + n := by omega
  have h6 : ¬ n = 0 := by omega
  have h6i : ¬ (n : Int) = 0 := by omega
  clear hj hp0 hp1 hI hn
  go_enter Try.func14, Try.ntmps14
  go_wp2
  go_ret
  exact ⟨by rw [hpk.out]; rfl, rfl⟩

set_option maxRecDepth 100000 in
set_option maxHeartbeats 1000000 in
theorem Try.refCan_any (N : Int) (a : Option Addr) (n cap : Nat) (ws : List Int) (hn : n = ws.length) (w : World) (hI : IntsAt w (.slice a n cap) ws) :
    Calls Try.prog 11 #[.int .i64 N, .slice a n cap] w fun e w' => e = .returned (.bool (canB N ws)) ∧ w = w' := by
  have hreach : n ≤ maxLen := by
    obtain ⟨_, _, _, e, h1, h2, _⟩ := hI
    cases e
    omega
  unfold maxLen at hreach
  have HI := Lib.hid hI
  have HN := Lib.hid hn
  clear hI hn
  go_enter Try.func11, Try.ntmps11
  go_wp2
  go_loop [5, 6, 9] (fun _ _ j => ∃ (k : Nat), k ≤ n ∧ j = .int .i64 k ∧ Hid (upB N 0 ws = upB N (if k = 0 then 0 else ws[k - 1]?.getD 0 + 1) (ws.drop k) ∧ (0 < k → 0 ≤ ws[k - 1]?.getD 0))) (fun _ _ j => n - (intOf j).toNat)
  case atStart => exact ⟨0, Nat.zero_le _, rfl, Lib.hid ⟨rfl, fun h => absurd h (Nat.lt_irrefl _)⟩⟩
  case round =>
    obtain ⟨k, hk, rfl, hx⟩ := hrel
    by_cases hlt : k < n
    · have hkl : k < ws.length := by rw [← HN.out]; exact hlt
      obtain ⟨b, off, rfl, hb, hc⟩ := intsAt_get HI.out k hkl
      have hd := drop_next ws k hkl
      have hgd := getD_int ws k hkl
      rw [hgd] at hc
      generalize ws[k] = g at *
      have HD := Lib.hid hd
      have HG := Lib.hid hgd
      have hki : (k : Int) < (n : Int) := by omega
      clear hd hgd
      by_cases h1 : g < 0
      · have hf : Hid (canB N ws = false) := Lib.hid (by
          unfold canB
          rw [hx.out.1, HD.out, upB, decide_eq_false (by
            split
            · omega
            · have := hx.out.2 (by omega); omega)]; rfl)
        clear hkl
        go_wp2
        go_ret
        exact ⟨by rw [hf.out]; rfl, rfl⟩
      · by_cases h2 : N ≤ g
        · have hd3 := decide_eq_true h2
          have hf : Hid (canB N ws = false) := Lib.hid (by unfold canB; rw [hx.out.1, HD.out, upB, decide_eq_false (by omega)]; rfl)
          clear hkl
          go_wp2
          go_ret
          exact ⟨by rw [hf.out]; rfl, rfl⟩
        · by_cases h3 : 0 < k
          · obtain ⟨j, hj⟩ : ∃ j, j = k - 1 := ⟨_, rfl⟩
            obtain ⟨b', off', e', hb', hcp⟩ := intsAt_get HI.out j (by omega)
            cases e'
            have hpj : Hid (ws[k - 1]?.getD 0 = ws[j]?.getD 0) := Lib.hid (by rw [hj])
            generalize ws[j]?.getD 0 = pr at *
            have ei : (k : Int) - 1 = (j : Int) := by omega
            have hjn : j < n := by omega
            have h3i : 0 < (k : Int) := by omega
            have HK := Lib.hid (show ¬ k = 0 by omega)
            clear hj hkl
            by_cases h4 : g ≤ pr
            · have hd4 := decide_eq_true h4
              have hf : Hid (canB N ws = false) := Lib.hid (by unfold canB; rw [hx.out.1, HD.out, upB, if_neg HK.out, hpj.out, decide_eq_false (by omega)]; rfl)
              go_wp2
              go_ret
              exact ⟨by rw [hf.out]; rfl, rfl⟩
            · have ht : Hid (upB N 0 ws = upB N (if k + 1 = 0 then 0 else ws[k + 1 - 1]?.getD 0 + 1) (ws.drop (k + 1)) ∧ (0 < k + 1 → 0 ≤ ws[k + 1 - 1]?.getD 0)) := Lib.hid (by
                rw [Nat.add_sub_cancel, HG.out, if_neg (by omega)]
                refine ⟨?_, fun _ => by omega⟩
                rw [hx.out.1, HD.out, upB, if_neg HK.out, hpj.out, decide_eq_true (by omega)]; rfl)
              go_wp2
              go_round
              case rel => exact ⟨k + 1, by omega, by go_num, ht⟩
              case measure => simp [intOf]; omega
          · obtain rfl : k = 0 := by omega
            have ht : Hid (upB N 0 ws = upB N (if 0 + 1 = 0 then 0 else ws[0 + 1 - 1]?.getD 0 + 1) (ws.drop (0 + 1)) ∧ (0 < 0 + 1 → (0 : Int) ≤ ws[0 + 1 - 1]?.getD 0)) := Lib.hid (by
                rw [Nat.add_sub_cancel, HG.out, if_neg (by omega)]
                refine ⟨?_, fun _ => by omega⟩
                rw [hx.out.1, HD.out, upB, if_pos rfl, decide_eq_true (by omega)]; rfl)
            clear hkl
            have h00 : ¬ (0 : Int) < 0 := by omega
            rw [Nat.add_zero] at hc
            go_wp2
            go_round
            case rel => exact ⟨0 + 1, by omega, by go_num, ht⟩
            case measure => simp [intOf]; omega
    · obtain rfl : k = n := by omega
      have hf : Hid (canB N ws = decide (0 < k)) := Lib.hid (by rw [canB_eq N ws (by rw [hx.out.1, HN.out, List.drop_length]; rfl), ← HN.out])
      by_cases h0 : 0 < k
      · have h0i : 0 < (k : Int) := by omega
        go_wp2
        go_ret
        exact ⟨by rw [hf.out, decide_eq_true h0]; simp, rfl⟩
      · obtain rfl : k = 0 := by omega
        go_wp2
        go_ret
        exact ⟨by rw [hf.out]; rfl, rfl⟩
end Go.Proofs
