/- The next clear step. -/
import Derived.Test.YtbipekpohocjdaaDoorGc
import Derived.WalkMore
import Derived.ScopeJumps
namespace Go.Proofs
open Go.RowKit Go.Shelf
attribute [local go_sem] Oper.semAt_some

def lenV : Value → Nat
  | .slice _ n _ => n
  | _ => 0
theorem pAt_zero (W : World) (b off : Nat) : PAt W (.slice (some ⟨b, off, none⟩) 0 0) [] := ⟨rfl, _, 0, rfl, Nat.le_refl _, Nat.zero_le _, fun _ => rfl, fun _ hj => absurd hj (Nat.not_lt_zero _)⟩
set_option maxRecDepth 100000 in
set_option maxHeartbeats 2000000 in
theorem Tryd.next_any (z : Int) (x : Option Addr) (n cap : Nat) (l : List (Int × Int)) (w : World) (hP : PAt w (.slice x n cap) l) :
    Calls Tryd.prog 46 #[.slice x n cap, .int .i64 z] w fun e w' => e = .returned (.tuple #[.int .i64 (nextB l z).1, .int .i64 (nextB l z).2]) ∧ w = w' := by
  go_enter Tryd.func46, Tryd.ntmps46
  go_wp2
  refine wp_scope_jumps 0 (fun a' w' => w' = w ∧ ∃ (x : Option Addr) (n cap : Nat) (l' : List (Int × Int)) (u2 u3 u6 u7 u8 u9 u10 u11 u12 u13 u14 u15 u16 u17 u18 u19 u20 u21 u22 u23 u24 u25 u26 u27 u28 u29 u30 u31 u32 u33 u34 u35 u36 u37 : Value), a' = { tmps := #[.slice x n cap, .int .i64 z, u2, u3, .int .i64 0, .int .i64 0, u6, u7, u8, u9, u10, u11, u12, u13, u14, u15, u16, u17, u18, u19, u20, u21, u22, u23, u24, u25, u26, u27, u28, u29, u30, u31, u32, u33, u34, u35, u36, u37], defers := [] } ∧ PAt w (.slice x n cap) l' ∧ Hid (nextB l z = nextB l' z)) (fun a' _ => lenV (a'.tmps.getD 0 undef)) rfl ?_ ?_
  · obtain ⟨l', hN, hP⟩ : ∃ l', Hid (nextB l z = nextB l' z) ∧ PAt w (.slice x n cap) l' := ⟨l, Lib.hid rfl, hP⟩

    obtain ⟨hn, hnc, hcm⟩ := pAt_len hP
    have hreach : n ≤ maxLen := by omega
    unfold maxLen at hreach
    have HP := Lib.hid hP
    clear hP hcm
    cases l' with
    | nil =>
      simp only [List.length_nil] at hn
      subst hn
      clear hnc
      have hr : Hid (nextB l z = (z, 0)) := Lib.hid (by rw [hN.out]; rfl)
      clear hN
      go_wp2; go_step3; go_wp2
      first | simp only [Exit.jump] | skip
      go_ret2
      exact ⟨by rw [hr.out]; rfl, rfl⟩
    | cons s t =>
      obtain ⟨b, off, rfl, hb, p0, p1⟩ := pAt_get HP.out 0 (by simp)
      simp only [List.getElem_cons_zero, Nat.zero_mul, Nat.add_zero] at p0 p1
      obtain ⟨f, g⟩ := s
      dsimp only at p0 p1
      simp only [List.length_cons] at hn
      have HL := Lib.hid hn
      have hn0 : ((n : Int) == 0) = false := by simp; omega
      have hn1 : (0 : Int) < (n : Int) := by omega
      have hn2 : ¬ (n : Int) < 1 := by omega
      have hn3 : ¬ (cap : Int) < 1 := by omega
      have hn4 : ¬ (cap : Int) < (n : Int) := by omega
      clear hn
      by_cases h1 : z < f
      · have hr : Hid (nextB l z = (z, 0)) := Lib.hid (by rw [hN.out, nextB, if_pos h1])
        clear hN
        go_wp2; go_step3; go_wp2
        first | simp only [Exit.jump] | skip
        go_ret2
        exact ⟨by rw [hr.out]; rfl, rfl⟩
      · by_cases h2 : g = 0
        · subst h2
          have q2 : ((0 : Int) == 0) = true := by simp
          have hr : Hid (nextB l z = (0, 4)) := Lib.hid (by rw [hN.out, nextB, if_neg h1, if_pos rfl])
          clear hN
          go_wp2; go_step3; go_wp2
          first | simp only [Exit.jump] | skip
          go_ret2
          exact ⟨by rw [hr.out]; rfl, rfl⟩
        · have q2 : (g == 0) = false := by simp [h2]
          by_cases h3 : z < g
          · have hr : Hid (nextB l z = (g, 0)) := Lib.hid (by rw [hN.out, nextB, if_neg h1, if_neg h2, if_pos h3])
            clear hN h2
            go_wp2; go_step3; go_wp2
            first | simp only [Exit.jump] | skip
            go_ret2
            exact ⟨by rw [hr.out]; rfl, rfl⟩
          · have hnx : Hid (nextB l z = nextB t z) := Lib.hid (by rw [hN.out, nextB, if_neg h1, if_neg h2, if_neg h3])
            clear hN h2
            by_cases hc : cap = 1
            · subst hc
              obtain rfl : n = 1 := by omega
              obtain rfl : t = [] := List.eq_nil_of_length_eq_zero (by have := HL.out; omega)
              go_wp2; go_step3; go_wp2
              go_step3
              refine ⟨rfl, rfl, _, _, _, _, _, _, _, _, _, _, _, _, _, _, _, _, _, _, _, _, _, _, _, _, _, _, _, _, _, _, _, _, _, _, _, _, _, _, rfl, pAt_zero _ _ _, hnx⟩
            · have htl : PAt w (.slice (some ⟨b, off + 2, none⟩) (n - 1) (cap - 1)) t := by
                have h := HP.out
                obtain ⟨m, rfl⟩ : ∃ m, n = m + 1 := ⟨n - 1, by omega⟩
                obtain ⟨c, rfl⟩ : ∃ c, cap = c + 1 := ⟨cap - 1, by omega⟩
                exact pAt_tail h
              have hc2 : ¬ (cap : Int) = 1 := by omega
              have hc3 : ((cap : Int) == 1) = false := by simp; omega
              go_wp2; go_step3; go_wp2
              go_step3
              refine ⟨rfl, rfl, _, _, _, _, _, _, _, _, _, _, _, _, _, _, _, _, _, _, _, _, _, _, _, _, _, _, _, _, _, _, _, _, _, _, _, _, _, _, rfl, htl, hnx⟩

  · rintro a' w ⟨rfl, x, n, cap, l', u2, u3, u6, u7, u8, u9, u10, u11, u12, u13, u14, u15, u16, u17, u18, u19, u20, u21, u22, u23, u24, u25, u26, u27, u28, u29, u30, u31, u32, u33, u34, u35, u36, u37, rfl, hP, hN⟩

    obtain ⟨hn, hnc, hcm⟩ := pAt_len hP
    have hreach : n ≤ maxLen := by omega
    unfold maxLen at hreach
    have HP := Lib.hid hP
    clear hP hcm
    cases l' with
    | nil =>
      simp only [List.length_nil] at hn
      subst hn
      clear hnc
      have hr : Hid (nextB l z = (z, 0)) := Lib.hid (by rw [hN.out]; rfl)
      clear hN
      go_wp2
      first | simp only [Exit.jump] | skip
      go_ret2
      exact ⟨by rw [hr.out]; rfl, rfl⟩
    | cons s t =>
      obtain ⟨b, off, rfl, hb, p0, p1⟩ := pAt_get HP.out 0 (by simp)
      simp only [List.getElem_cons_zero, Nat.zero_mul, Nat.add_zero] at p0 p1
      obtain ⟨f, g⟩ := s
      dsimp only at p0 p1
      simp only [List.length_cons] at hn
      have HL := Lib.hid hn
      have hn0 : ((n : Int) == 0) = false := by simp; omega
      have hn1 : (0 : Int) < (n : Int) := by omega
      have hn2 : ¬ (n : Int) < 1 := by omega
      have hn3 : ¬ (cap : Int) < 1 := by omega
      have hn4 : ¬ (cap : Int) < (n : Int) := by omega
      clear hn
      by_cases h1 : z < f
      · have hr : Hid (nextB l z = (z, 0)) := Lib.hid (by rw [hN.out, nextB, if_pos h1])
        clear hN
        go_wp2
        first | simp only [Exit.jump] | skip
        go_ret2
        exact ⟨by rw [hr.out]; rfl, rfl⟩
      · by_cases h2 : g = 0
        · subst h2
          have q2 : ((0 : Int) == 0) = true := by simp
          have hr : Hid (nextB l z = (0, 4)) := Lib.hid (by rw [hN.out, nextB, if_neg h1, if_pos rfl])
          clear hN
          go_wp2
          first | simp only [Exit.jump] | skip
          go_ret2
          exact ⟨by rw [hr.out]; rfl, rfl⟩
        · have q2 : (g == 0) = false := by simp [h2]
          by_cases h3 : z < g
          · have hr : Hid (nextB l z = (g, 0)) := Lib.hid (by rw [hN.out, nextB, if_neg h1, if_neg h2, if_pos h3])
            clear hN h2
            go_wp2
            first | simp only [Exit.jump] | skip
            go_ret2
            exact ⟨by rw [hr.out]; rfl, rfl⟩
          · have hnx : Hid (nextB l z = nextB t z) := Lib.hid (by rw [hN.out, nextB, if_neg h1, if_neg h2, if_neg h3])
            clear hN h2
            by_cases hc : cap = 1
            · subst hc
              obtain rfl : n = 1 := by omega
              obtain rfl : t = [] := List.eq_nil_of_length_eq_zero (by have := HL.out; omega)
              go_wp2
              go_step3
              refine ⟨rfl, ⟨rfl, _, _, _, _, _, _, _, _, _, _, _, _, _, _, _, _, _, _, _, _, _, _, _, _, _, _, _, _, _, _, _, _, _, _, _, _, _, _, rfl, pAt_zero _ _ _, hnx⟩, ?_⟩
              simp [lenV] <;> omega
            · have htl : PAt w (.slice (some ⟨b, off + 2, none⟩) (n - 1) (cap - 1)) t := by
                have h := HP.out
                obtain ⟨m, rfl⟩ : ∃ m, n = m + 1 := ⟨n - 1, by omega⟩
                obtain ⟨c, rfl⟩ : ∃ c, cap = c + 1 := ⟨cap - 1, by omega⟩
                exact pAt_tail h
              have hc2 : ¬ (cap : Int) = 1 := by omega
              have hc3 : ((cap : Int) == 1) = false := by simp; omega
              go_wp2
              go_step3
              refine ⟨rfl, ⟨rfl, _, _, _, _, _, _, _, _, _, _, _, _, _, _, _, _, _, _, _, _, _, _, _, _, _, _, _, _, _, _, _, _, _, _, _, _, _, _, rfl, htl, hnx⟩, ?_⟩
              simp [lenV] <;> omega

end Go.Proofs
