/- slices.Clone of words; few; rows that are cut. -/
import Derived.Test.YtafccppobhhelaaCm
namespace Go.Proofs
open Go.RowKit Go.Shelf
attribute [local go_sem] Oper.semAt_some

theorem flat_take {α : Type} (f : α → List Value) (k : Nat) (h : ∀ a, (f a).length = k) (l : List α) (m : Nat) : (l.take m).flatMap f = (l.flatMap f).take (m * k) := by
  induction l generalizing m with
  | nil => simp
  | cons a l ih =>
    cases m with
    | zero => simp
    | succ m =>
      simp only [List.take_succ_cons, List.flatMap_cons]
      have e1 : List.take ((m + 1) * k) (f a) = f a := List.take_of_length_le (by rw [h, Nat.add_mul]; omega)
      rw [ih m, List.take_append, h, e1, show (m + 1) * k - k = m * k by rw [Nat.add_mul]; omega]
theorem RowAt.cut {W : World} {a : Option Addr} {n cap k : Nat} {cs : List Value} (h : RowAt W (.slice a n cap) n k cs) (m : Nat) (hm : m ≤ n) : RowAt W (.slice a m cap) m k (cs.take (m * k)) := by
  obtain ⟨h0, a', cap', e, h1, h2, h3, h4⟩ := h
  cases e
  have hmk : m * k ≤ n * k := Nat.mul_le_mul_right k hm
  refine ⟨by rw [List.length_take]; omega, a, cap, rfl, Nat.le_trans hm h1, h2, h3, fun j hj => ?_⟩
  rw [List.length_take] at hj
  obtain ⟨b, off, e, hb, hc⟩ := h4 j (by omega)
  exact ⟨b, off, e, hb, by rw [hc, List.getElem?_take, if_pos (by omega)]⟩
theorem words_cut {W : World} {a : Option Addr} {n cap : Nat} {ws : List Int} (hn : n = ws.length) (h : WordsAt W (.slice a n cap) ws) (m : Nat) (hm : m ≤ n) : WordsAt W (.slice a m cap) (ws.take m) := by
  subst hn
  have h1 := RowAt.cut h m hm
  unfold WordsAt
  have e : (ws.take m).length = m := by rw [List.length_take]; omega
  rw [e]
  have e2 : wordVals (ws.take m) = (wordVals ws).take (m * 1) := by rw [Nat.mul_one]; simp [wordVals]
  rw [e2]
  exact h1
theorem accs_cut {W : World} {a : Option Addr} {n cap : Nat} {l : List Acc} (hn : n = l.length) (h : AccsAt W (.slice a n cap) l) (m : Nat) (hm : m ≤ n) : AccsAt W (.slice a m cap) (l.take m) := by
  subst hn
  have h1 := RowAt.cut h m hm
  unfold AccsAt
  have e : (l.take m).length = m := by rw [List.length_take]; omega
  rw [e, show accVals (l.take m) = (accVals l).take (m * 5) from flat_take Acc.cells 5 (fun _ => rfl) l m]
  exact h1
theorem row_src {W : World} {x : Addr} {n cap : Nat} {cs : List Value} {k : Nat} (h : RowAt W (.slice (some x) n cap) n k cs) : ∀ j u, cs[j]? = some u → W.cell? (x.add j) = some u := by
  obtain ⟨h0, a', cap', e, h1, h2, h3, h4⟩ := h
  cases e
  intro j u hu
  obtain ⟨b, off, e, hb, hc⟩ := h4 j (List.getElem?_eq_some_iff.1 hu).1
  injection e with e
  subst e
  have hadd : (⟨b, off, none⟩ : Addr).add j = ⟨b, off + j, none⟩ := by unfold Addr.add; split <;> simp_all
  rw [hadd, hc, hu]

set_option maxRecDepth 100000 in
set_option maxHeartbeats 1000000 in
theorem Try.cloneWords_any (a : Option Addr) (n cap : Nat) (ws : List Int) (hn : n = ws.length) (hl : n ≤ 100) (w : World) (hI : WordsAt w (.slice a n cap) ws) :
    Calls Try.prog 19 #[.slice a n cap] w (WordsQ ws w) := by
  obtain ⟨i0, hi, hz0, hz1, hz2⟩ := info_parts Try.infoWord
  cases a with
  | none =>
    obtain ⟨h0, a', cap', e, h1, h2, h3, h4⟩ := hI
    cases e
    have hc0 : cap = 0 := h3 rfl
    subst hc0
    have hw0 : ws = [] := List.eq_nil_of_length_eq_zero (by omega)
    subst hw0
    have hnil := fun wx : World => Lib.run_eql_slice_nil (P := Try.prog) wx 22 25 none 0 0 0 0 Try.underlying22
    simp only [List.length_nil]
    clear h0 h1 h2 h3 h4 hn hl
    go_enter Try.func19, Try.ntmps19
    go_wp2
    go_ret
    exact ⟨_, rfl, World.ownsRow_nil _ _ _ _, Below.refl _ _⟩
  | some x =>
    have hnil := fun wx : World => Lib.run_eql_slice_nil (P := Try.prog) wx 22 25 (some x) n cap 0 0 Try.underlying22
    subst hn
    have hsrc := row_src hI
    have HC := Lib.hid hsrc
    clear hI hsrc
    have hO : OwnsWords w.heap.size [] (.slice (some ⟨w.heap.size, 0, none⟩) 0 0) (w.alloc (.cells #[] 25)) := World.ownsRow_lit w #[] 0 (Nat.le_refl _) (by unfold maxLen; omega) rfl
    have hB : Below w.heap.size w (w.alloc (.cells #[] 25)) := (Below.refl _ w).alloc (Nat.le_refl _) _
    have HO := Lib.hid hO
    clear hO
    go_enter Try.func19, Try.ntmps19
    go_wp2_with (at_builtin; refine wpList_append_own _ rfl _ _ 22 rfl w.heap.size 25 i0 (.int .u64 0) 1 8 Try.underlying22 hi hz0 hz1 hz2 rfl (by decide) _ _ _ rfl HO.out x ws.length cap (wordVals ws) rfl ?c1 ?c2 ?c3 ?c4 ?c5 ?c6 ?_)
    case c1 => rw [wordVals_length]; omega
    case c2 =>
      intro j u hu
      have h := HC.out j u hu
      have hlt : x.block < w.heap.size := by
        have hk := h
        unfold World.cell? at hk
        rcases Nat.lt_or_ge (x.add j).block w.heap.size with hq | hq
        · have : (x.add j).block = x.block := by unfold Addr.add; split <;> rfl
          omega
        · rw [Array.getElem?_eq_none hq] at hk
          cases hk
      have hblk : (x.add j).block = x.block := by unfold Addr.add; split <;> rfl
      exact (hB.cell (p := x.add j) (by rw [hblk]; exact hlt)).trans h
    case c3 => exact wordVals_one ws
    case c4 => simp; unfold maxLen; omega
    case c5 => simp; omega
    case c6 => simp
    intro v' w1 hown' hgrow _
    have hB1 : Below w.heap.size w w1 := hB.grown hgrow (by simp) (fun j ej => (World.ownsRow.lt HO.out j ej).1)
    have hO2 : OwnsWords w.heap.size ws v' w1 := by
      unfold OwnsWords
      simpa [wordVals] using hown'
    have HO2 := Lib.hid hO2
    clear hO2 hown' hgrow
    go_wp2
    go_ret
    exact ⟨_, rfl, HO2.out, hB1⟩

set_option maxHeartbeats 1000000 in
theorem Try.few_any (a : Option Addr) (n cap : Nat) (ws : List Int) (hn : n = ws.length) (w : World) (hI : WordsAt w (.slice a n cap) ws) :
    Calls Try.prog 17 #[.slice a n cap] w (WordsQ (ws.take 40) w) := by
  have hcap : n ≤ cap ∧ cap ≤ maxLen := by
    obtain ⟨h0, a', cap', e, h1, h2, h3, h4⟩ := hI
    cases e
    exact ⟨by omega, h2⟩
  by_cases h40 : n ≤ 40
  · have hc := words_cut hn hI n (Nat.le_refl _)
    rw [List.take_of_length_le (by omega)] at hc
    have hcl := Try.cloneWords_any a n cap ws hn (by omega) w hc
    have e : ws.take 40 = ws := List.take_of_length_le (by omega)
    rw [e]
    have HCL := Lib.hid hcl
    have hmin : min (n : Int) 40 = (n : Int) := by omega
    have hb3 : (n : Int) ≤ 40 := by omega
    have hb4 : ¬ (40 : Int) < (n : Int) := by omega
    have hb5 : ¬ (cap : Int) < (n : Int) := by omega
    clear hcl hc hI e hn hcap h40
    go_enter Try.func17, Try.ntmps17
    go_wp2_with fail
    refine HCL.out.mono ?_
    rintro e w' ⟨v, rfl, h1, h2⟩
    have H1 := Lib.hid h1
    clear h1
    go_wp2
    go_ret
    exact ⟨_, rfl, H1.out, h2⟩
  · have hc := words_cut hn hI 40 (by omega)
    have hcl := Try.cloneWords_any a 40 cap (ws.take 40) (by rw [List.length_take]; omega) (by decide) w hc
    have HCL := Lib.hid hcl
    have hmin : min (n : Int) 40 = 40 := by omega
    have hb : (40 : Nat) ≤ cap := by omega
    have hb2 : ¬ (cap : Int) < 40 := by omega
    have hb3 : ¬ (n : Int) ≤ 40 := by omega
    have hb4 : ¬ (n : Int) < 40 := by omega
    have hb5 : (40 : Int) < (n : Int) := by omega
    have HN := Lib.hid hn
    clear hcl hc hI hn hcap
    go_enter Try.func17, Try.ntmps17
    go_wp2_with fail
    refine HCL.out.mono ?_
    rintro e w' ⟨v, rfl, h1, h2⟩
    have H1 := Lib.hid h1
    clear h1
    go_wp2
    go_ret
    exact ⟨_, rfl, H1.out, h2⟩
end Go.Proofs
