/- ContainsFunc over flags; what sums come to. -/
import Derived.Test.YtehphohgnpbmpaaQl
namespace Go.Proofs
open Go.RowKit Go.Shelf
attribute [local go_sem] Oper.semAt_some

theorem Try.flagged2_any (fl : List Bool) (a : Option Addr) (n c y Bx : Nat) (w : World) (h : Rows8 w Bx 36 #[.slice a n c]) (hI : BAt w (.slice a n c) fl) (hy : y < n) : Calls Try.prog 29 #[.int .i64 (y : Int), .pointer (some ⟨Bx, 0, none⟩)] w fun e w' => e = .returned (.bool (flagB fl y)) ∧ w = w' := by
  have c0 : w.cell? ⟨Bx, 0, none⟩ = some (.slice a n c) := h.cell 0
  obtain ⟨hn, _, _⟩ := bAt_len hI
  have hyl : y < fl.length := by omega
  obtain ⟨b, off, rfl, hb, hc⟩ := bAt_get hI y hyl
  have hf : flagB fl y = fl[y] := by simp [flagB, hyl]
  rw [hf]
  generalize fl[y] = q at *
  have hyi : (y : Int) < (n : Int) := by omega
  clear hI hn hyl hf h
  go_enter Try.func29, Try.ntmps29
  go_wp2
  go_ret
  exact ⟨rfl, rfl⟩
/-- Where the first whose flag is true stands, or -1. -/
def idxF (fl : List Bool) : List Nat → Nat → Int
  | [], _ => -1
  | y :: t, k => if flagB fl y = true then (k : Int) else idxF fl t (k + 1)
theorem idxF_any (fl : List Bool) (l : List Nat) (k : Nat) : decide (0 ≤ idxF fl l k) = l.any (flagB fl) := by
  induction l generalizing k with
  | nil => simp [idxF]
  | cons y t ih =>
    unfold idxF
    cases h : flagB fl y with
    | true => rw [if_pos rfl]; simp [h]
    | false => rw [if_neg (by decide)]; simp [h, ih]
set_option maxRecDepth 100000 in
set_option maxHeartbeats 1000000 in
theorem Try.indexF_any (fl : List Bool) (fa : Option Addr) (fn fc Bx : Nat) (a : Option Addr) (n c : Nat) (ns : List Nat) (hn : n = ns.length) (hl : ∀ y ∈ ns, y < fn) (w : World) (h : Rows8 w Bx 36 #[.slice fa fn fc]) (hI : BAt w (.slice fa fn fc) fl) (hN : IntsAt w (.slice a n c) (natI ns)) :
    Calls Try.prog 41 #[.slice a n c, .func (.func 29) #[] #[.pointer (some ⟨Bx, 0, none⟩)]] w fun e w' => e = .returned (.int .i64 (idxF fl ns 0)) ∧ w = w' := by
  have hreach : n ≤ maxLen := by
    obtain ⟨_, _, _, e, h1, h2, _⟩ := hN
    cases e
    omega
  unfold maxLen at hreach
  have HI := Lib.hid hN
  have HN := Lib.hid hn
  have HL := Lib.hid hl
  have HP := fun y hy => Lib.hid (Try.flagged2_any fl fa fn fc y Bx w h hI hy)
  clear hN hn hl h hI
  go_enter Try.func41, Try.ntmps41
  go_wp2
  go_loop [5, 8] (fun _ j => ∃ k : Nat, k ≤ n ∧ j = .int .i64 k ∧ Hid (idxF fl ns 0 = idxF fl (ns.drop k) k)) (fun _ j => n - (intOf j).toNat)
  case atStart => exact ⟨0, Nat.zero_le _, rfl, Lib.hid rfl⟩
  case round =>
    obtain ⟨k, hk, rfl, hx⟩ := hrel
    by_cases hlt : k < n
    · have hkl : k < ns.length := by rw [← HN.out]; exact hlt
      obtain ⟨b, off, rfl, hb, hc⟩ := intsAt_get HI.out k (by rw [natI_len]; exact hkl)
      have hd := drop_next ns k hkl
      rw [natI_get ns k hkl] at hc
      have hP := HP _ (HL.out _ (List.getElem_mem hkl))
      generalize ns[k] = y at *
      have HD := Lib.hid hd
      have hki : (k : Int) < (n : Int) := by omega
      clear hd hkl HP
      cases hf : flagB fl y with
      | true =>
        rw [hf] at hP
        have hr : Hid (idxF fl ns 0 = (k : Int)) := Lib.hid (by rw [hx.out, HD.out, idxF, if_pos hf])
        clear hf
        go_wp2_with fail
        refine hP.out.mono ?_
        rintro e w' ⟨rfl, rfl⟩
        go_wp2_with fail
        go_ret
        exact ⟨by rw [hr.out]; rfl, rfl⟩
      | false =>
        rw [hf] at hP
        have hr : Hid (idxF fl ns 0 = idxF fl (ns.drop (k + 1)) (k + 1)) := Lib.hid (by rw [hx.out, HD.out, idxF, if_neg (by rw [hf]; decide)])
        clear hf
        go_wp2_with fail
        refine hP.out.mono ?_
        rintro e w' ⟨rfl, rfl⟩
        go_wp2_with fail
        go_round
        case rel => exact ⟨k + 1, by omega, by go_num, hr⟩
        case measure => simp [intOf]; omega
    · obtain rfl : k = n := by omega
      go_wp2_with fail
      go_ret
      exact ⟨by rw [hx.out, HN.out, List.drop_length]; rfl, rfl⟩
theorem Try.containsF_any (fl : List Bool) (fa : Option Addr) (fn fc Bx : Nat) (a : Option Addr) (n c : Nat) (ns : List Nat) (hn : n = ns.length) (hl : ∀ y ∈ ns, y < fn) (w : World) (h : Rows8 w Bx 36 #[.slice fa fn fc]) (hI : BAt w (.slice fa fn fc) fl) (hN : IntsAt w (.slice a n c) (natI ns)) :
    Calls Try.prog 28 #[.slice a n c, .func (.func 29) #[] #[.pointer (some ⟨Bx, 0, none⟩)]] w fun e w' => e = .returned (.bool (ns.any (flagB fl))) ∧ w = w' := by
  have H := Lib.hid (Try.indexF_any fl fa fn fc Bx a n c ns hn hl w h hI hN)
  have HH := Lib.hid (idxF_any fl ns 0)
  clear hI hn h hl hN
  generalize idxF fl ns 0 = r at *
  go_enter Try.func28, Try.ntmps28
  go_wp2_with fail
  refine H.out.mono ?_
  rintro e w' ⟨rfl, rfl⟩
  go_wp2
  go_ret
  exact ⟨by rw [← HH.out]; rfl, rfl⟩

/-- What 0, 1, .. up to below g are together. -/
theorem sum_range (g : Nat) : (List.range g).sum = g * (g - 1) / 2 := by
  induction g with
  | zero => rfl
  | succ n ih =>
    rw [List.range_succ, List.sum_append, ih]
    simp
    cases n with
    | zero => rfl
    | succ m =>
      have e1 : (m + 1 + 1) * (m + 1) = (m + 1) * m + 2 * (m + 1) := by rw [Nat.add_mul (m + 1) 1, Nat.one_mul, Nat.mul_add (m + 1) m 1]; omega
      rw [show m + 1 - 1 = m by omega, e1, Nat.add_mul_div_left _ _ (by decide)]
theorem place_sum {g l : Nat} (hm : mayB g = true) (hl : l < g) : ((List.range g).map (place g l)).sum = g * (g - 1) / 2 := by
  have h1 := ((rowG_perm hm hl).map (place g l)).symm
  rw [h1.sum_nat]
  rw [show (rowG g l).map (place g l) = List.range g from by
    unfold rowG
    rw [List.map_map]
    have e : ∀ i ∈ List.range g, (place g l ∘ rowAt g l) i = i := fun i hi => place_eq hm hl (List.mem_range.1 hi) rfl
    rw [List.map_congr_left e, List.map_id']]
  exact sum_range g
theorem far_total {g : Nat} (hm : mayB g = true) (ls : List Nat) (hl : ∀ l ∈ ls, l < g) : (farL g ls).sum = ls.length * (g * (g - 1) / 2) := by
  induction ls with
  | nil =>
    have : farL g [] = List.replicate g 0 := by
      unfold farL
      rw [show farB g [] = fun _ => 0 from by funext y; simp [farB]]
      simp [List.map_const']
    rw [this]
    simp
  | cons a t ih =>
    have e : farL g (a :: t) = (List.range g).map (fun y => place g a y + farB g t y) := by unfold farL; congr 1
    have e2 : ∀ (f h : Nat → Nat) (r : List Nat), (r.map fun y => f y + h y).sum = (r.map f).sum + (r.map h).sum := fun f h r => by
      induction r with
      | nil => rfl
      | cons a t ih => simp [ih]; omega
    rw [e, e2, place_sum hm (hl a (by simp)), show (List.range g).map (farB g t) = farL g t from rfl, ih (fun l h => hl l (by simp [h])), List.length_cons, Nat.add_mul]
    omega
theorem farB_le1 {g : Nat} (hm : mayB g = true) (ls : List Nat) (hl : ∀ l ∈ ls, l < g) (x : Nat) (hx : x < g) : farB g ls x ≤ ls.length * (g - 1) := by
  induction ls with
  | nil => simp [farB]
  | cons a t ih =>
    have e : farB g (a :: t) x = place g a x + farB g t x := by simp [farB]
    have h1 := (place_spec hm (hl a (by simp)) hx).1
    have h2 := ih fun l h => hl l (by simp [h])
    rw [e, List.length_cons, Nat.add_mul]
    omega
theorem lefts_lt {g : Nat} (hg : 1 ≤ g) (ws : List Int) : ∀ l ∈ lefts g ws, l < g := fun l hl => by
  unfold lefts at hl
  obtain ⟨z, _, rfl⟩ := List.mem_map.1 hl
  exact Nat.mod_lt _ hg
theorem lefts_len (g : Nat) (ws : List Int) : (lefts g ws).length = ws.length := by simp [lefts]
end Go.Proofs
