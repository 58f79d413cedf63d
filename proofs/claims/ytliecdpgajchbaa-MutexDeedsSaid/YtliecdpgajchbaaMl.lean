/- has; Has; New. -/
import Derived.Test.YtliecdpgajchbaaMk
namespace Go.Proofs
open Go.RowKit Go.Shelf
attribute [local go_sem] Oper.semAt_some

/-- The mutexes that a goroutine has. -/
def hasF (g : Int) : Nat → List Mx → List Int
  | _, [] => []
  | k, m :: t => if m.own = g + 1 then (k : Int) :: hasF g (k + 1) t else hasF g (k + 1) t
def hasB (ms : List Mx) (g : Int) : List Int := hasF g 0 ms
theorem hasF_drop (g : Int) (ms : List Mx) (k : Nat) (h : k < ms.length) : hasF g k (ms.drop k) = if ms[k].own = g + 1 then (k : Int) :: hasF g (k + 1) (ms.drop (k + 1)) else hasF g (k + 1) (ms.drop (k + 1)) := by
  rw [drop_next ms k h, hasF]

theorem zero_of {P : Program} {t : TypeId} {z : Value} (h : (P.info? t).map (fun i => i.zero) = some (some z)) (x : World) : (zeroValue t).run P x = .ok z x := by
  obtain ⟨i, hi, hz⟩ := Option.map_eq_some_iff.1 h
  simp [zeroValue, typeInfo, hi, hz]
theorem Try.zero160 : (Try.prog.info? 83).map (fun i => i.zero) = some (some (.agg (Array.replicate 160 (.int .i64 0)))) := by kernel_rfl
/-- The first m cells of a block are these numbers. -/
def FirstI (W : World) (B : Nat) (t : TypeId) (N : Nat) (l : List Int) : Prop := ∃ cs : Array Value, Rows8 W B t cs ∧ cs.size = N ∧ ∀ i, i < l.length → cs[i]? = some (.int .i64 (l[i]?.getD 0))
theorem FirstI.at {W : World} {B : Nat} {t : TypeId} {N : Nat} {l : List Int} (h : FirstI W B t N l) (hl : l.length ≤ 1000) : IntsAt W (.slice (some ⟨B, 0, none⟩) l.length l.length) l := by
  obtain ⟨cs, h1, h2, h3⟩ := h
  refine ⟨by rw [intVals_length, Nat.mul_one], some ⟨B, 0, none⟩, l.length, rfl, Nat.le_refl _, by unfold maxLen; omega, (fun e => by cases e), fun j hj => ⟨B, 0, rfl, h1.lt, ?_⟩⟩
  rw [intVals_length] at hj
  rw [Nat.zero_add, h1.cell j, h3 j hj, intVals_get l j hj]
theorem FirstI.snoc {W : World} {B : Nat} {t : TypeId} {N : Nat} {l : List Int} (h : FirstI W B t N l) (hl : l.length < N) (z : Int) : FirstI (W.setCell ⟨B, l.length, none⟩ (.int .i64 z)) B t N (l ++ [z]) := by
  obtain ⟨cs, h1, h2, h3⟩ := h
  refine ⟨_, h1.set l.length (.int .i64 z), by simpa using h2, fun i hi => ?_⟩
  rw [List.length_append] at hi
  by_cases e : i = l.length
  · subst e
    simp [h2, hl]
  · have hi2 : i < l.length := by simp at hi; omega
    rw [Array.getElem?_setIfInBounds_ne (by omega), h3 i hi2, List.getElem?_append_left hi2]
theorem FirstI.below {A W : World} {B : Nat} {t : TypeId} {N : Nat} {l : List Int} (h : FirstI A B t N l) {hh : Nat} (p : Below hh A W) (hb : B < hh) : FirstI W B t N l := by
  obtain ⟨cs, h1, h2⟩ := h
  exact ⟨cs, h1.below p hb, h2⟩
theorem FirstI.cell {W : World} {B : Nat} {t : TypeId} {N : Nat} {l : List Int} (h : FirstI W B t N l) (hl : l.length < N) : ∃ v, W.cell? ⟨B, l.length, none⟩ = some v ∧ W.frozen? ⟨B, l.length, none⟩ = false := by
  obtain ⟨cs, h1, h2, h3⟩ := h
  exact ⟨cs[l.length]'(by omega), by rw [h1.cell]; simp [h2, hl], h1.frozen _⟩

set_option maxRecDepth 100000 in
set_option maxHeartbeats 2000000 in
theorem Try.has_any (g : Int) (hg : 0 ≤ g ∧ g ≤ 7) (a : Option Addr) (n cap : Nat) (ms : List Mx) (hr : n ≤ 160) (w : World) (hI : MxAt w (.slice a n cap) ms) :
    Calls Try.prog 39 #[.slice a n cap, .int .i64 g] w fun e w' => ∃ b c, e = .returned (.slice b (hasB ms g).length c) ∧ IntsAt w' (.slice b (hasB ms g).length c) (hasB ms g) ∧ Below w.heap.size w w' := by
  have hn := (mxAt_len hI).1
  have hz : ∀ x : World, (zeroValue 83).run Try.prog x = .ok (.agg (Array.replicate 160 (.int .i64 0))) x := zero_of Try.zero160
  have hz0 : FirstI (w.alloc (.cells (Array.replicate 160 (.int .i64 0)) 83)) w.heap.size 83 160 [] := ⟨_, Rows8.new _ _ _, by simp, fun i hi => absurd hi (Nat.not_lt_zero _)⟩
  generalize (Array.replicate 160 (Value.int .i64 0)) = z160 at *
  have hB0 : Below w.heap.size w (w.alloc (.cells z160 83)) := Rows8.newB
  have hall := fun (i : Nat) hi (W : World) (hB : Below w.heap.size w W) => Try.isOf_any i g (by omega) a n cap ms hi W (hI.below hB)
  have HALL := Lib.hid hall
  have HN := Lib.hid hn
  have HZ := Lib.hid hz0
  have HB0 := Lib.hid hB0
  clear hI hn hz0 hall hB0
  go_enter Try.func39, Try.ntmps39
  go_wp2
  generalize (w.alloc (.cells z160 83)) = W0 at *
  go_loopw [6, 10] (fun c j wr => ∃ (k m : Nat) (l : List Int), k ≤ n ∧ j = .int .i64 k ∧ c = .int .i64 m ∧ l.length = m ∧ m ≤ k ∧ Hid (hasB ms g = l ++ hasF g k (ms.drop k)) ∧ FirstI wr w.heap.size 83 160 l ∧ Below w.heap.size w wr) (fun _ j _ => n - (intOf j).toNat)
  case atStart => exact ⟨0, 0, [], Nat.zero_le _, rfl, rfl, rfl, Nat.le_refl _, Lib.hid rfl, HZ.out, HB0.out⟩
  case round =>
    obtain ⟨k, m, l, hk, rfl, rfl, hlm, hmk, hx, hF, hB⟩ := hrel
    by_cases hlt : k < n
    · have hkl : k < ms.length := by rw [← HN.out]; exact hlt
      have hd := hx.out
      rw [hasF_drop g ms k hkl] at hd
      have hC0 := HALL.out k hkl wr hB
      generalize ms[k].own = ow at *
      have hC := Lib.hid hC0
      have HD := Lib.hid hd
      have hki : (k : Int) < (n : Int) := by omega
      obtain ⟨v, hc, hfz⟩ := hF.cell (by omega)
      have hs := hF.snoc (by omega) (k : Int)
      have hB2 := hB.setCell (p := ⟨w.heap.size, l.length, none⟩) (Nat.le_refl _) (.int .i64 (k : Int))
      rw [hlm] at hc hfz hs hB2
      have HS := Lib.hid hs
      have HB2 := Lib.hid hB2
      have HF := Lib.hid hF
      have HB := Lib.hid hB
      have HLM := Lib.hid hlm
      have hmi : (m : Int) < 160 := by omega
      clear hd hx hs hB2 hF hB hlm hkl hC0
      go_wp2_with fail
      refine hC.out.mono ?_
      rintro e w' ⟨rfl, rfl⟩
      by_cases he : ow = g + 1
      · rw [decide_eq_true he]
        have hd := HD.out
        rw [if_pos he] at hd
        have HD2 := Lib.hid hd
        clear hd he
        go_wp2_with fail
        exact ⟨⟨k + 1, m + 1, l ++ [(k : Int)], by omega, by go_num, by go_num, by rw [List.length_append, HLM.out]; rfl, by omega, Lib.hid (by rw [HD2.out]; simp), HS.out, HB2.out⟩, by simp [intOf]; omega⟩
      · rw [decide_eq_false he]
        have hd := HD.out
        rw [if_neg he] at hd
        have HD2 := Lib.hid hd
        clear hd he
        go_wp2_with fail
        exact ⟨⟨k + 1, m, l, by omega, by go_num, rfl, HLM.out, by omega, Lib.hid HD2.out, HF.out, HB.out⟩, by simp [intOf]; omega⟩
    · obtain rfl : k = n := by omega
      have hfin : Hid (hasB ms g = l) := Lib.hid (by rw [hx.out, List.drop_of_length_le (Nat.le_of_eq HN.out.symm)]; simp [hasF])
      have hsl : ∀ x : World, (Instr.sliceAt 83 (.pointer (some ⟨w.heap.size, 0, none⟩)) none (some (.int .i64 (m : Int))) (some (.int .i64 (m : Int)))).run Try.prog x = .ok (.slice (some ⟨w.heap.size, 0, none⟩) m m) x := fun x => by
        rw [run_sliceAt_array_hm x 83 ⟨w.heap.size, 0, none⟩ Try.underlying83 .i64 .i64 _ _ (by omega) (Int.le_refl _) (by show (m : Int) ≤ 160; omega)]
        simp [go_sem, Addr.add]
      have HF := Lib.hid (hF.at (by omega))
      have HB := Lib.hid hB
      have HLM := Lib.hid hlm
      clear hx hF hB hlm
      go_wp2_with fail
      go_ret
      refine ⟨some ⟨w.heap.size, 0, none⟩, m, by rw [hfin.out, HLM.out]; rfl, ?_, HB.out⟩
      rw [hfin.out]
      have h := HF.out
      rw [HLM.out] at h ⊢
      exact h

/-- .. of mutexes that may be. -/
def hasR (ms : List Mx) (g : Int) : List Int := if goerB g = true ∧ rightB ms = true then hasB ms g else []
set_option maxHeartbeats 1000000 in
theorem Try.Has_any (g : Int) (a : Option Addr) (n cap : Nat) (ms : List Mx) (w : World) (hI : MxAt w (.slice a n cap) ms) :
    Calls Try.prog 19 #[.slice a n cap, .int .i64 g] w fun e w' => ∃ b c, e = .returned (.slice b (hasR ms g).length c) ∧ IntsAt w' (.slice b (hasR ms g).length c) (hasR ms g) ∧ Below w.heap.size w w' := by
  have hC := Try.Check_any a n cap ms w hI
  have hW := fun h1 h2 w' (hb : Below w.heap.size w w') => Try.has_any g h1 a n cap ms h2 w' (hI.below hb)
  have he : errB ms = if rightB ms = true then 0 else 150 := rfl
  have hr : hasR ms g = if goerB g = true ∧ rightB ms = true then hasB ms g else [] := rfl
  rw [hr]
  cases hg : goerB g with
  | false =>
    rw [if_neg (fun h => by have := h.1; cases this)]
    clear hC hW he hr hI
    go_enter Try.func19, Try.ntmps19
    go_wp2_with fail
    refine (Try.noGoer_any g w).mono ?_
    rintro e w' ⟨rfl, rfl⟩
    rw [hg]
    clear hg
    go_wp2_with fail
    go_ret
    exact ⟨none, 0, rfl, ints_none _, Below.refl _ _⟩
  | true =>
    cases hq : rightB ms with
    | true =>
      rw [hq, if_pos rfl] at he
      rw [he] at hC
      rw [if_pos ⟨rfl, rfl⟩]
      have HC := Lib.hid hC
      have HW := Lib.hid (hW (by simpa [goerB] using hg) (by have := ((rightB_iff ms).1 hq).1; have := (mxAt_len hI).1; omega))
      clear hC hW he hr hq hI
      go_enter Try.func19, Try.ntmps19
      go_wp2_with fail
      refine (Try.noGoer_any g w).mono ?_
      rintro e w' ⟨rfl, rfl⟩
      rw [hg]
      clear hg
      go_wp2_with fail
      refine HC.out.mono ?_
      rintro e w' ⟨rfl, hB⟩
      have HB := Lib.hid hB
      clear hB
      go_wp2_with fail
      refine (HW.out _ HB.out).mono ?_
      rintro e w' ⟨b, c, rfl, hR, hB⟩
      have HB2 := Lib.hid (HB.out.trans (hB.mono HB.out.size))
      have HR := Lib.hid hR
      clear hB hR
      go_wp2_with fail
      go_ret
      exact ⟨_, _, rfl, HR.out, HB2.out⟩
    | false =>
      rw [hq, if_neg (by decide)] at he
      rw [he] at hC
      rw [if_neg (fun h => by have := h.2; cases this)]
      have HC := Lib.hid hC
      clear hC hW he hr hq hI
      go_enter Try.func19, Try.ntmps19
      go_wp2_with fail
      refine (Try.noGoer_any g w).mono ?_
      rintro e w' ⟨rfl, rfl⟩
      rw [hg]
      clear hg
      go_wp2_with fail
      refine HC.out.mono ?_
      rintro e w' ⟨rfl, hB⟩
      have HB := Lib.hid hB
      clear hB
      go_wp2_with fail
      go_ret
      exact ⟨none, 0, rfl, ints_none _, HB.out⟩
end Go.Proofs
