/- Next. -/
import Derived.Test.YtmkpjpdjjdmklaaKn
namespace Go.Proofs
open Go.RowKit Go.Shelf
attribute [local go_sem] Oper.semAt_some

theorem turnsR_fwd {w₀ : World} (rs : List (Rt w₀)) : turnsR (fwdR rs) = rs.map Rt.t := fwdR_turns rs
theorem turnsR_bwd {w₀ : World} (rs : List (Rt w₀)) : turnsR (bwdR rs) = (rs.map Rt.t).reverse := bwdR_turns rs

set_option maxRecDepth 100000 in
set_option maxHeartbeats 2000000 in
theorem Try.next1_any (g : Int) (B : Nat) (a : Option Addr) (n cap : Nat) (ts : List Tn) (hlen : n ≤ 1000) (w : World) (hI : TurnsAt w (.slice a n cap) ts) (hb : Rows8 w B 32 #[.slice a n cap]) :
    Calls Try.prog 47 #[.int .i64 g, .pointer (some ⟨B, 0, none⟩)] w fun e w' => e = .returned (.int .i64 (waitB g ts : Nat)) ∧ Below w.heap.size w w' := by
  have c0 : w.cell? ⟨B, 0, none⟩ = some (.slice a n cap) := hb.cell 0
  have hB1 : Below w.heap.size w (w.alloc (.cells #[.slice a n cap] 32)) := (Below.refl _ w).alloc (Nat.le_refl _) _
  have hB2 : Below w.heap.size w ((w.alloc (.cells #[.slice a n cap] 32)).alloc (.cells #[.int .i64 g] 3)) := hB1.alloc hB1.size _
  have r1 := (Rows8.new w 32 #[.slice a n cap]).alloc (.cells #[.int .i64 g] 3)
  have r2 := Rows8.new (w.alloc (.cells #[.slice a n cap] 32)) 3 #[.int .i64 g]
  rw [World.size_alloc] at r2
  obtain ⟨rs, hrs, hrl, hraw⟩ := turnsAt_raw hI
  have hraw2 := hraw.below hB2
  subst hrl
  have hst := Try.backward_stops w.heap.size a cap rs (by omega) _ r1 hraw2
  have hrun := Try.run_any g (w.heap.size + 1) 59 #[.pointer (some ⟨w.heap.size, 0, none⟩)] (bwdR rs) (by rw [bwdR_length]; omega) _ hB2 r2 (fun _ _ => by kernel_rfl) hst
  have hld : leadB g (turnsR (bwdR rs)) = waitB g ts := by rw [turnsR_bwd, hrs, waitB_rev]; rfl
  rw [hld] at hrun
  have HRUN := Lib.hid hrun
  have HB2 := Lib.hid hB2
  clear hrun hst hraw2 hraw hB1 hB2 r1 r2 hI hb hrs hld
  go_enter Try.func47, Try.ntmps47
  go_wp2_with (first | (go_at_call 49; refine (Try.backward_any _ _ _ _).mono ?_; rintro e w' ⟨rfl, rfl⟩) | (go_at_call 50; refine (Try.passes_any _ _).mono ?_; rintro e w' ⟨rfl, rfl⟩; try simp only [World.size_alloc]) | (go_at_call 48; refine HRUN.out.mono ?_; rintro e w' ⟨rfl, hB3⟩))
  go_ret
  exact ⟨rfl, HB2.out.trans (hB3.mono HB2.out.size)⟩

set_option maxRecDepth 100000 in
set_option maxHeartbeats 2000000 in
theorem Try.lap1_any (g : Int) (B : Nat) (a : Option Addr) (n cap : Nat) (ts : List Tn) (hlen : n ≤ 1000) (w : World) (hI : TurnsAt w (.slice a n cap) ts) (hb : Rows8 w B 32 #[.slice a n cap]) :
    Calls Try.prog 57 #[.int .i64 g, .pointer (some ⟨B, 0, none⟩)] w fun e w' => e = .returned (.int .i64 (leadB g ts : Nat)) ∧ Below w.heap.size w w' := by
  have c0 : w.cell? ⟨B, 0, none⟩ = some (.slice a n cap) := hb.cell 0
  have hB1 : Below w.heap.size w (w.alloc (.cells #[.slice a n cap] 32)) := (Below.refl _ w).alloc (Nat.le_refl _) _
  have hB2 : Below w.heap.size w ((w.alloc (.cells #[.slice a n cap] 32)).alloc (.cells #[.int .i64 g] 3)) := hB1.alloc hB1.size _
  have r1 := (Rows8.new w 32 #[.slice a n cap]).alloc (.cells #[.int .i64 g] 3)
  have r2 := Rows8.new (w.alloc (.cells #[.slice a n cap] 32)) 3 #[.int .i64 g]
  rw [World.size_alloc] at r2
  obtain ⟨rs, hrs, hrl, hraw⟩ := turnsAt_raw hI
  have hraw2 := hraw.below hB2
  subst hrl
  have hst := Try.all_stops w.heap.size a cap rs (by omega) _ r1 hraw2
  have hrun := Try.run_any g (w.heap.size + 1) 61 #[.pointer (some ⟨w.heap.size, 0, none⟩)] (fwdR rs) (by rw [fwdR_length]; omega) _ hB2 r2 (fun _ _ => by kernel_rfl) hst
  have hld : leadB g (turnsR (fwdR rs)) = leadB g ts := by rw [turnsR_fwd, hrs]
  rw [hld] at hrun
  have HRUN := Lib.hid hrun
  have HB2 := Lib.hid hB2
  clear hrun hst hraw2 hraw hB1 hB2 r1 r2 hI hb hrs hld
  go_enter Try.func57, Try.ntmps57
  go_wp2_with (first | (go_at_call 58; refine (Try.all_any _ _ _ _).mono ?_; rintro e w' ⟨rfl, rfl⟩) | (go_at_call 50; refine (Try.passes_any _ _).mono ?_; rintro e w' ⟨rfl, rfl⟩; try simp only [World.size_alloc]) | (go_at_call 48; refine HRUN.out.mono ?_; rintro e w' ⟨rfl, hB3⟩))
  go_ret
  exact ⟨rfl, HB2.out.trans (hB3.mono HB2.out.size)⟩

theorem Try.next2_any (g : Int) (B : Nat) (f : Nat → Int) (h0 : 0 ≤ g) (h8 : g < 8) (w : World) (hb : Rows8 w B 59 (arr8I f)) :
    Calls Try.prog 52 #[.int .i64 g, .pointer (some ⟨B, 0, none⟩)] w fun e w' => e = .returned (.int .i64 (f g.toNat)) ∧ w = w' := by
  obtain ⟨k, rfl⟩ : ∃ k : Nat, g = (k : Int) := ⟨g.toNat, by omega⟩
  have c0 := hb.cell k
  rw [arr8I_get f k (by omega)] at c0
  rw [Int.toNat_natCast]
  generalize f k = z at *
  clear hb
  go_enter Try.func52, Try.ntmps52
  go_wp2
  go_ret
  exact ⟨rfl, rfl⟩

theorem bestB_head (f : Int → Nat) (c : Int) (t : List Int) : bestB f c (c :: t) = bestB f c t := by
  unfold bestB
  rw [List.foldl_cons, if_neg (Nat.lt_irrefl _)]
theorem bestB_mem (f : Int → Nat) (c : Int) (l : List Int) : bestB f c l = c ∨ bestB f c l ∈ l := by
  refine snoc_ind (P := fun l => bestB f c l = c ∨ bestB f c l ∈ l) (.inl rfl) (fun l x ih => ?_) l
  rw [bestB_snoc]
  split
  · exact .inr (by simp)
  · rcases ih with h | h
    · exact .inl h
    · exact .inr (List.mem_append_left _ h)
set_option maxRecDepth 100000 in
set_option maxHeartbeats 2000000 in
theorem Try.most_any (B N : Nat) (hN : N ≤ 8) (f : Int → Nat) (a : Option Addr) (n cap : Nat) (can : List Int) (hn : n = can.length) (h1 : 1 ≤ n) (hmem : ∀ g ∈ can, 0 ≤ g ∧ g < N) (w : World) (hI : IntsAt w (.slice a n cap) can) (hb : Rows8 w B 59 (arr8I (upTo N f))) :
    Calls Try.prog 51 #[.slice a n cap, .func (.func 52) #[] #[.pointer (some ⟨B, 0, none⟩)]] w fun e w' => e = .returned (.int .i64 (mostB f can)) ∧ w = w' := by
  have hreach : n ≤ maxLen ∧ n ≤ cap := by
    obtain ⟨_, _, _, e, h1, h2, _⟩ := hI
    cases e
    omega
  unfold maxLen at hreach
  obtain ⟨b, off, rfl, hb0, hc0⟩ := intsAt_get hI 0 (by omega)
  rw [Nat.add_zero] at hc0
  obtain ⟨c0, rest, rfl⟩ : ∃ c0 rest, can = c0 :: rest := by
    cases can with
    | nil => simp at hn; omega
    | cons x t => exact ⟨x, t, rfl⟩
  have hm : mostB f (c0 :: rest) = bestB f c0 rest := bestB_head f c0 rest
  rw [hm]
  have hrl : n = rest.length + 1 := hn
  simp only [List.getElem?_cons_zero, Option.getD_some] at hc0
  have hcon : ∀ g, (0 ≤ g ∧ g < (N : Int)) → Calls Try.prog 52 #[.int .i64 g, .pointer (some ⟨B, 0, none⟩)] w fun e w' => e = .returned (.int .i64 (f g : Nat)) ∧ w = w' := by
    intro g hg
    have h := Try.next2_any g B (upTo N f) hg.1 (by omega) w hb
    rw [show upTo N f g.toNat = (f g : Nat) by unfold upTo; rw [if_pos (by omega), show ((g.toNat : Nat) : Int) = g by omega]] at h
    exact h
  have HCON := Lib.hid hcon
  have HI := Lib.hid hI
  have HMEM := Lib.hid hmem
  have hc0r := hmem c0 (by simp)
  have HC0R := Lib.hid hc0r
  have HRL := Lib.hid hrl
  clear hI hn hm hb hcon hmem hc0r hrl
  by_cases hcap : cap = 1
  · subst hcap
    obtain rfl : n = 1 := by omega
    have hr0 : Hid (rest = []) := Lib.hid (List.eq_nil_of_length_eq_zero (by have := HRL.out; omega))
    clear hreach h1
    go_enter Try.func51, Try.ntmps51
    go_wp2_with fail
    go_loop [5, 14] (fun bv j => j = .int .i64 0 ∧ bv = .int .i64 c0) (fun _ _ => 0)
    case atStart => exact ⟨rfl, rfl⟩
    case round =>
      obtain ⟨rfl, rfl⟩ := hrel
      go_wp2_with fail
      go_ret
      exact ⟨by rw [hr0.out]; rfl, rfl⟩
  · have hcap1 : ¬ (cap : Int) = 1 := by omega
    have hcap2 : ¬ (cap : Int) < 1 := by omega
    have hni : ¬ (n : Int) < 1 := by omega
    have hnc : ¬ (cap : Int) < (n : Int) := by omega
    go_enter Try.func51, Try.ntmps51
    go_wp2_with fail
    go_loop [5, 14] (fun bv j => ∃ k : Nat, k + 1 ≤ n ∧ j = .int .i64 k ∧ bv = .int .i64 (bestB f c0 (rest.take k))) (fun _ j => n - (intOf j).toNat)
    case atStart => exact ⟨0, by omega, rfl, rfl⟩
    case round =>
      obtain ⟨k, hk, rfl, rfl⟩ := hrel
      by_cases hlt : k + 1 < n
      · have hkl : k < rest.length := by have := HRL.out; omega
        obtain ⟨b', off', e', hb', hc⟩ := intsAt_get HI.out (k + 1) (by simp; omega)
        cases e'
        have hsn := take_snoc rest k hkl
        have hgm := HMEM.out (rest[k]) (List.mem_cons_of_mem _ (List.getElem_mem _))
        have hbm : 0 ≤ bestB f c0 (rest.take k) ∧ bestB f c0 (rest.take k) < N := by
          rcases bestB_mem f c0 (rest.take k) with h | h
          · rw [h]; exact HC0R.out
          · exact HMEM.out _ (List.mem_cons_of_mem _ (List.mem_of_mem_take h))
        rw [List.getElem?_cons_succ, getD_int rest k hkl] at hc
        generalize rest[k] = g at *
        have hbs := bestB_snoc f c0 (rest.take k) g
        rw [← hsn] at hbs
        have h1' := HCON.out g hgm
        have h2' := HCON.out _ hbm
        have H1 := Lib.hid h1'
        have H2 := Lib.hid h2'
        have HBS := Lib.hid hbs
        clear hsn hkl hbs h1' h2' hgm hbm
        have hki : (k : Int) < (n : Int) - 1 := by omega
        have eoff : off + (k + 1) = off + 1 + k := by omega
        rw [eoff] at hc
        generalize bestB f c0 (rest.take k) = best at *
        generalize f g = wg at *
        generalize f best = wb at *
        clear eoff
        go_wp2_with fail
        refine H1.out.mono ?_
        rintro e w' ⟨rfl, rfl⟩
        go_wp2_with fail
        refine H2.out.mono ?_
        rintro e w' ⟨rfl, rfl⟩
        by_cases hc : wb < wg
        · have hci : (wb : Int) < (wg : Int) := by omega
          have ht : Hid (bestB f c0 (rest.take (k + 1)) = g) := Lib.hid (by rw [HBS.out, if_pos hc])
          clear hc
          go_wp2_with fail
          exact ⟨⟨k + 1, by omega, by go_num, by rw [ht.out]⟩, by simp [intOf]; omega⟩
        · have hci : ¬ (wb : Int) < (wg : Int) := by omega
          have ht : Hid (bestB f c0 (rest.take (k + 1)) = best) := Lib.hid (by rw [HBS.out, if_neg hc])
          clear hc
          go_wp2_with fail
          exact ⟨⟨k + 1, by omega, by go_num, by rw [ht.out]⟩, by simp [intOf]; omega⟩
      · have htk : rest.take k = rest := List.take_of_length_le (by have := HRL.out; omega)
        rw [htk]
        have hkn : n = k + 1 := by omega
        subst hkn
        clear htk
        go_wp2_with fail
        go_ret
        exact ⟨rfl, rfl⟩
end Go.Proofs
