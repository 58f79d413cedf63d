/- The reference's May, At, Row, Place, First. -/
import Derived.Test.YtehphohgnpbmpaaQi
namespace Go.Proofs
open Go.RowKit Go.Shelf
attribute [local go_sem] Oper.semAt_some

def mayI (g : Int) : Bool := decide (checkE g = 0)
theorem mayI_at {g : Int} {n : Nat} (h1 : (n : Int) / 2 < g) (hn : n = 1 ∨ n = 2 ∨ n = 4 ∨ n = 8 ∨ n = 16 ∨ n = 32 ∨ n = 64) (h2 : g ≤ n ∨ n = 64) : ((n : Int) == g) = mayI g := by
  rw [Bool.eq_iff_iff]
  unfold mayI checkE mayB
  simp only [beq_iff_eq, decide_eq_true_eq, Bool.or_eq_true]
  constructor
  · intro e
    subst e
    rw [if_pos (by constructor <;> omega)]
  · intro h
    split at h
    · rename_i h3
      omega
    · cases h
theorem mayI_low {g : Int} (h : g ≤ 0) : ((1 : Int) == g) = mayI g := by
  rw [Bool.eq_iff_iff]
  unfold mayI checkE
  rw [if_neg (by omega)]
  simp
  omega
set_option maxRecDepth 100000 in
set_option maxHeartbeats 1000000 in
theorem Try.refMay_any (g : Int) (w : World) : Calls Try.prog 9 #[.int .i64 g] w fun e w' => e = .returned (.bool (mayI g)) ∧ w = w' := by
  by_cases h0 : g ≤ 0
  · have hq := mayI_low h0
    rw [← hq]
    clear hq
    go_enter Try.func9, Try.ntmps9
    go_wp2
    go_loop [3] (fun j => j = .int .i64 1) (fun _ => 0)
    case atStart => rfl
    case round =>
      subst hrel
      go_wp2
      go_ret
      exact ⟨rfl, rfl⟩
  · go_enter Try.func9, Try.ntmps9
    go_wp2
    go_loop [3] (fun j => ∃ n : Nat, j = .int .i64 n ∧ Hid (n = 1 ∨ n = 2 ∨ n = 4 ∨ n = 8 ∨ n = 16 ∨ n = 32 ∨ n = 64) ∧ Hid ((n : Int) / 2 < g) ∧ n ≤ 64) (fun j => 64 - (intOf j).toNat)
    case atStart => exact ⟨1, rfl, Lib.hid (.inl rfl), Lib.hid (by omega), by omega⟩
    case round =>
      obtain ⟨n, rfl, hn, h1, h64⟩ := hrel
      by_cases hg : (n : Int) < g
      · by_cases h6 : n < 64
        · have h6i : (n : Int) < 64 := by omega
          have hp : Hid (0 < n) := Lib.hid (by have := hn.out; omega)
          have hn2 : Hid (n * 2 = 1 ∨ n * 2 = 2 ∨ n * 2 = 4 ∨ n * 2 = 8 ∨ n * 2 = 16 ∨ n * 2 = 32 ∨ n * 2 = 64) := Lib.hid (by have := hn.out; omega)
          have hd2 : Hid (((n * 2 : Nat) : Int) / 2 < g) := Lib.hid (by omega)
          go_wp2
          go_round
          case rel => exact ⟨n * 2, by go_num, hn2, hd2, by have := hn.out; omega⟩
          case measure => have := hp.out; simp [intOf]; omega
        · have h6i : ¬ (n : Int) < 64 := by omega
          have hq := Lib.hid (mayI_at h1.out hn.out (.inr (by omega)))
          go_wp2
          go_ret
          exact ⟨by rw [← hq.out]; rfl, rfl⟩
      · have hq := Lib.hid (mayI_at h1.out hn.out (.inl (by omega)))
        go_wp2
        go_ret
        exact ⟨by rw [← hq.out]; rfl, rfl⟩
theorem sum_tri (i : Nat) : sumTo (fun j => j) (i + 1) = tri i := by
  induction i with
  | zero => rfl
  | succ n ih => rw [sumTo, ih, tri]
theorem sum_id_le : ∀ k, k ≤ 65 → sumTo (fun j => j) k ≤ k * 65
  | 0, _ => Nat.le_refl _
  | k + 1, h => by
    have := sum_id_le k (by omega)
    rw [sumTo]
    omega
set_option maxRecDepth 100000 in
set_option maxHeartbeats 1000000 in
theorem Try.refAt_any (g h i : Nat) (hg : 1 ≤ g) (hg2 : g ≤ 64) (hi : i < g) (hh : h < 18446744073709551616) (w : World) : Calls Try.prog 16 #[.int .i64 (g : Int), .int .u64 (h : Int), .int .i64 (i : Int)] w fun e w' => e = .returned (.int .i64 (rowAt g (h % g) i : Int)) ∧ w = w' := by
  have hl : h % g < g := Nat.mod_lt _ hg
  have hr : Hid ((h : Int) % (g : Int) = ((h % g : Nat) : Int)) := Lib.hid (by rw [Int.natCast_emod])
  generalize h % g = l at *
  go_enter Try.func16, Try.ntmps16
  go_wp2
  rw [hr.out]
  go_loop [7, 16] (fun s j => ∃ k : Nat, k ≤ i + 1 ∧ j = .int .i64 k ∧ s = .int .i64 ((l + sumTo (fun j => j) k : Nat) : Int)) (fun _ j => i + 1 - (intOf j).toNat)
  case atStart => exact ⟨0, Nat.zero_le _, rfl, by rw [IntWalk.wrap64_in _ (by omega)]; rfl⟩
  case round =>
    obtain ⟨k, hk, rfl, rfl⟩ := hrel
    have hsl := sum_id_le k (by omega)
    by_cases hlt : k < i + 1
    · have hs : Hid (l + sumTo (fun j => j) (k + 1) = l + sumTo (fun j => j) k + k) := Lib.hid (by rw [sumTo, Nat.add_assoc])
      have hki : (k : Int) < (i : Int) + 1 := by omega
      have hsb : l + sumTo (fun j => j) k ≤ 5000 := by omega
      generalize l + sumTo (fun j => j) k = s at *
      clear hsl
      go_wp2
      go_round
      case rel => exact ⟨k + 1, by omega, by go_num, by rw [hs.out]; go_num⟩
      case measure => simp [intOf]; omega
    · obtain rfl : k = i + 1 := by omega
      have hsb : l + sumTo (fun j => j) (i + 1) ≤ 5000 := by omega
      have hz : Hid (rowAt g l i = (l + sumTo (fun j => j) (i + 1)) % g) := Lib.hid (by rw [sum_tri]; rfl)
      generalize l + sumTo (fun j => j) (i + 1) = s at *
      clear hsl
      go_wp2
      go_ret
      exact ⟨by rw [hz.out]; push_cast; rfl, rfl⟩

theorem intVals_snoc (l : List Int) (z : Int) : intVals (l ++ [z]) = intVals l ++ [.int .i64 z] := by simp [intVals]
def rowI (g l : Nat) : List Int := natI (rowG g l)
theorem rowI_len (g l : Nat) : (rowI g l).length = g := by rw [rowI, natI_len, rowG_len]
def rowTo (g l k : Nat) : List Int := natI ((List.range k).map (rowAt g l))
theorem rowTo_len (g l k : Nat) : (rowTo g l k).length = k := by simp [rowTo, natI]
theorem rowTo_succ (g l k : Nat) : rowTo g l (k + 1) = rowTo g l k ++ [(rowAt g l k : Int)] := by simp [rowTo, natI, List.range_succ]
theorem rowTo_all (g l : Nat) : rowTo g l g = rowI g l := rfl
theorem rowI_get (g l k : Nat) (h : k < g) : (rowI g l)[k]?.getD 0 = (rowAt g l k : Int) := by
  unfold rowI
  rw [natI_get _ k (by rw [rowG_len]; exact h), rowG_get]
set_option maxRecDepth 100000 in
set_option maxHeartbeats 2000000 in
theorem Try.refRow_any (g h : Nat) (hg : 1 ≤ g) (hg2 : g ≤ 64) (hh : h < 18446744073709551616) (w : World) : Calls Try.prog 15 #[.int .i64 (g : Int), .int .u64 (h : Int)] w (IntsQ (rowI g (h % g)) w) := by
  obtain ⟨i0, hi, hz0, hz1, hz2⟩ := info_parts Try.infoInt
  have HA := fun i hi W => Lib.hid (Try.refAt_any g h i hg hg2 hi hh W)
  rw [← rowTo_all]
  generalize h % g = l at *
  go_enter Try.func15, Try.ntmps15
  go_wp2
  go_loopw [5, 8] (fun o j wr => ∃ k : Nat, k ≤ g ∧ j = .int .i64 k ∧ OwnsInts w.heap.size (rowTo g l k) o wr ∧ Below w.heap.size w wr) (fun _ j _ => g - (intOf j).toNat)
  case atStart => exact ⟨0, Nat.zero_le _, rfl, World.ownsRow_nil _ _ _ _, Below.refl _ _⟩
  case round =>
    obtain ⟨k, hk, rfl, hO, hB⟩ := hrel
    by_cases hlt : k < g
    · have hki : (k : Int) < (g : Int) := by omega
      have HO := Lib.hid hO
      have HB := Lib.hid hB
      have HAk := HA k hlt wr
      have hsu := rowTo_succ g l k
      have hln := rowTo_len g l k
      have HSU := Lib.hid hsu
      have hz := hB.size
      generalize rowAt g l k = z at *
      generalize rowTo g l k = pre at *
      clear hO hB hsu
      go_wp2_with fail
      refine HAk.out.mono ?_
      rintro e w' ⟨rfl, rfl⟩
      go_wp2_with (at_builtin; refine wpList_append_own _ rfl _ _ 23 rfl w.heap.size 3 i0 (.int .i64 0) 1 8 Try.underlying23 hi hz0 hz1 hz2 rfl (by decide) _ _ _ rfl (World.ownsRow.alloc HO.out _) ⟨wr.heap.size, 0, none⟩ 1 1 [.int .i64 z] rfl rfl (cells_new wr _ [.int .i64 z]) (by simp [Value.oneCell']) (by unfold maxLen; omega) (by omega) (by simp; omega) ?_)
      intro v' w1 hown' hgrow _
      have hoa := World.ownsRow.alloc HO.out (.cells #[.int .i64 (z : Int)] 3)
      have hB1 := (HB.out.alloc hz (.cells #[.int .i64 (z : Int)] 3)).grown hgrow (by simp; omega) (fun j ej => (World.ownsRow.lt hoa j ej).1)
      have hO1 : OwnsInts w.heap.size (rowTo g l (k + 1)) v' w1 := by
        rw [HSU.out]
        unfold OwnsInts
        rw [intVals_snoc, List.length_append, hln]
        exact hown'
      have HO1 := Lib.hid hO1
      have HB1 := Lib.hid hB1
      clear hown' hgrow hoa hO1 hB1 hz
      go_wp2_with fail
      exact ⟨⟨k + 1, by omega, by go_num, HO1.out, HB1.out⟩, by simp [intOf]; omega⟩
    · obtain rfl : k = g := by omega
      have HO := Lib.hid hO
      have HB := Lib.hid hB
      clear hO hB
      go_wp2_with fail
      go_ret
      exact ⟨_, rfl, HO.out, HB.out⟩
theorem ownsInts_form {n₀ : Nat} {v : Value} {ws : List Int} {W : World} (h : OwnsInts n₀ ws v W) : ∃ a c, v = .slice a ws.length c := by
  obtain ⟨_, a', cap', e, _⟩ := rowAt_own h
  exact ⟨a', cap', e⟩
set_option maxRecDepth 100000 in
set_option maxHeartbeats 2000000 in
theorem Try.refPlace_any (g h x : Nat) (hm : mayB g = true) (hx : x < g) (hh : h < 18446744073709551616) (w : World) : Calls Try.prog 17 #[.int .i64 (g : Int), .int .u64 (h : Int), .int .i64 (x : Int)] w fun e w' => e = .returned (.int .i64 (place g (h % g) x : Int)) ∧ Below w.heap.size w w' := by
  obtain ⟨hg, hg2⟩ := mayB_le hm
  have HR := Lib.hid (Try.refRow_any g h hg hg2 hh w)
  have hl : h % g < g := Nat.mod_lt _ hg
  generalize h % g = l at *
  obtain ⟨hp1, hp2⟩ := place_spec hm hl hx
  have HP2 := Lib.hid hp2
  have HPE := fun i (hi : i < g) (e : rowAt g l i = x) => Lib.hid (place_eq hm hl hi e)
  clear hp2
  go_enter Try.func17, Try.ntmps17
  go_wp2_with fail
  refine HR.out.mono ?_
  rintro e w2 ⟨v2, rfl, hO2, hB2⟩
  obtain ⟨a2, c2, rfl⟩ := ownsInts_form hO2
  rw [rowI_len]
  have HI := Lib.hid (rowAt_own hO2)
  have HB := Lib.hid hB2
  clear hO2 hB2 HR
  go_wp2_with fail
  go_loop [13] (fun j => ∃ k : Nat, k ≤ place g l x ∧ j = .int .i64 k) (fun j => g - (intOf j).toNat)
  case atStart => exact ⟨0, Nat.zero_le _, rfl⟩
  case round =>
    obtain ⟨k, hk, rfl⟩ := hrel
    have hkg : k < g := by omega
    have hki : (k : Int) < (g : Int) := by omega
    have hII : IntsAt w2 (.slice a2 g c2) (rowI g l) := by have h := HI.out; rw [rowI_len] at h; unfold IntsAt; rw [rowI_len]; exact h
    obtain ⟨b, off, rfl, hb, hc⟩ := intsAt_get hII k (by rw [rowI_len]; exact hkg)
    rw [rowI_get g l k hkg] at hc
    by_cases e : rowAt g l k = x
    · have hpk := HPE k hkg e
      have hq : ((rowAt g l k : Int) == (x : Int)) = true := by rw [e]; simp
      generalize rowAt g l k = y at *
      clear hII
      go_wp2_with fail
      go_ret
      exact ⟨by rw [hpk.out]; rfl, HB.out⟩
    · have hq : ((rowAt g l k : Int) == (x : Int)) = false := by simp; omega
      have hne : k ≠ place g l x := fun e2 => e (by rw [e2]; exact HP2.out)
      generalize rowAt g l k = y at *
      clear hII
      go_wp2_with fail
      go_round
      case rel => exact ⟨k + 1, by omega, by go_num⟩
      case measure => simp [intOf]; omega
/-- Which one is the first, or -1. -/
def whichI : Option (Nat × Nat) → Int
  | none => -1
  | some q => q.1
set_option maxRecDepth 100000 in
set_option maxHeartbeats 2000000 in
theorem Try.refFirst_any (g h : Nat) (hm : mayB g = true) (hh : h < 18446744073709551616) (fl : List Bool) (a : Option Addr) (n c : Nat) (hn : n = g) (w : World) (hI : BAt w (.slice a n c) fl) : Calls Try.prog 24 #[.int .i64 (g : Int), .int .u64 (h : Int), .slice a n c] w fun e w' => e = .returned (.int .i64 (whichI (firstP (flagB fl) g (h % g)))) ∧ Below w.heap.size w w' := by
  subst hn
  obtain ⟨hg, hg2⟩ := mayB_le hm
  have HR := Lib.hid (Try.refRow_any n h hg hg2 hh w)
  generalize h % n = l at *
  obtain ⟨hfl, _, _⟩ := bAt_len hI
  have HFL := Lib.hid hfl
  have HFI := Lib.hid hI
  clear hfl hI
  go_enter Try.func24, Try.ntmps24
  go_wp2_with fail
  refine HR.out.mono ?_
  rintro e w2 ⟨v2, rfl, hO2, hB2⟩
  obtain ⟨a2, c2, rfl⟩ := ownsInts_form hO2
  rw [rowI_len]
  have HI := Lib.hid (rowAt_own hO2)
  have HFI2 := Lib.hid (RowAt.below HFI.out hB2)
  have HB := Lib.hid hB2
  clear hO2 hB2 HR HFI
  go_wp2_with fail
  go_loop [13] (fun j => ∃ k : Nat, k ≤ n ∧ j = .int .i64 k ∧ Hid (∀ j, j < k → flagB fl (rowAt n l j) = false)) (fun j => n - (intOf j).toNat)
  case atStart => exact ⟨0, Nat.zero_le _, rfl, Lib.hid (fun j hj => by omega)⟩
  case round =>
    obtain ⟨k, hk, rfl, hF⟩ := hrel
    by_cases hkg : k < n
    · have hki : (k : Int) < (n : Int) := by omega
      have hII : IntsAt w2 (.slice a2 n c2) (rowI n l) := by have h := HI.out; rw [rowI_len] at h; unfold IntsAt; rw [rowI_len]; exact h
      obtain ⟨b, off, rfl, hb, hc⟩ := intsAt_get hII k (by rw [rowI_len]; exact hkg)
      rw [rowI_get n l k hkg] at hc
      have hr := rowAt_lt hg l k
      have hrl : rowAt n l k < fl.length := by rw [← HFL.out]; exact hr
      obtain ⟨b2, off2, rfl, hb2, hc2⟩ := bAt_get HFI2.out (rowAt n l k) hrl
      have hfe : flagB fl (rowAt n l k) = fl[rowAt n l k] := by simp [flagB, hrl]
      rw [← hfe] at hc2
      have hri : (rowAt n l k : Int) < (n : Int) := by omega
      cases hf : flagB fl (rowAt n l k) with
      | true =>
        have hfp : Hid (firstP (flagB fl) n l = some (k, rowAt n l k)) := Lib.hid (firstP_some hkg hf hF.out)
        rw [hf] at hc2
        clear hf hfe hII
        generalize rowAt n l k = y at *
        go_wp2_with fail
        go_ret
        exact ⟨by rw [hfp.out]; rfl, HB.out⟩
      | false =>
        have hF2 : Hid (∀ j, j < k + 1 → flagB fl (rowAt n l j) = false) := Lib.hid (fun j hj => by
          rcases Nat.lt_succ_iff_lt_or_eq.1 hj with h | rfl
          · exact hF.out j h
          · exact hf)
        rw [hf] at hc2
        clear hf hfe hII
        generalize rowAt n l k = y at *
        go_wp2_with fail
        go_round
        case rel => exact ⟨k + 1, by omega, by go_num, hF2⟩
        case measure => simp [intOf]; omega
    · obtain rfl : k = n := by omega
      have hfp : Hid (firstP (flagB fl) k l = none) := Lib.hid (firstP_none hF.out)
      go_wp2_with fail
      go_ret
      exact ⟨by rw [hfp.out]; rfl, HB.out⟩
end Go.Proofs
