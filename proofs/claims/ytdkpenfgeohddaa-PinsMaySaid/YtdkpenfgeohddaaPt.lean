/- Pins: the reference's with, Do, Run. -/
import Derived.Test.YtdkpenfgeohddaaPs
namespace Go.Proofs
set_option maxRecDepth 100000
open Go.RowKit Go.Shelf
attribute [local go_sem] Oper.semAt_some

/-- Slots of which one is another one. -/
def withL (S : List Int) (g z : Int) : List Int := if 0 ≤ g then S.set g.toNat z else S
theorem withL_len (S : List Int) (g z : Int) : (withL S g z).length = S.length := by unfold withL; split <;> simp
theorem withL_take (S : List Int) (g z : Int) (k : Nat) (h : k < S.length) : (withL S g z).take (k + 1) = (withL S g z).take k ++ [if (k : Int) = g then z else S[k]?.getD 0] := by
  rw [take_snoc _ k (by rw [withL_len]; exact h)]
  congr 2
  have h2 : (withL S g z)[k]?.getD 0 = if (k : Int) = g then z else S[k]?.getD 0 := by
    unfold withL
    by_cases hg : 0 ≤ g
    · rw [if_pos hg]
      by_cases he : (k : Int) = g
      · rw [if_pos he]
        have : g.toNat = k := by omega
        rw [this]; simp [h]
      · rw [if_neg he, List.getElem?_set_ne (by omega)]
    · rw [if_neg hg, if_neg (by omega)]
  rw [← h2]
  simp [List.getElem?_eq_getElem (show k < (withL S g z).length by rw [withL_len]; exact h)]
theorem withL_none (S : List Int) (z : Int) : withL S (-1) z = S := by unfold withL; rw [if_neg (by decide)]
set_option maxHeartbeats 8000000 in
theorem Try.with_any (E : Int) (a : Option Addr) (n c : Nat) (S : List Int) (g z : Int) (hl : S.length ≤ 100) (w : World) (hI : WordsAt w (.slice a n c) S) :
    Calls Try.prog 38 #[.agg #[.int .u64 E, .slice a n c], .int .i64 g, .int .u64 z] w fun e w' => (∃ v, e = .returned (.agg #[.int .u64 E, v]) ∧ OwnsWords w.heap.size (withL S g z) v w') ∧ Below w.heap.size w w' := by
  obtain ⟨i0, hi, hz0, hz1, hz2⟩ := info_parts Try.infoWord
  have hn := (wordsAt_len hI).1
  have hn1 : n ≤ 100 := by omega
  obtain ⟨W0, hW0⟩ : ∃ W, W = (w.alloc (.cells #[.int .u64 E, .slice a n c] 25)).alloc (.cells #[.int .u64 0, .slice none 0 0] 25) := ⟨_, rfl⟩
  have hs0 : W0.heap.size = w.heap.size + 1 + 1 := by rw [hW0]; simp only [World.size_alloc]
  obtain ⟨W1, hW1⟩ : ∃ W, W = W0.alloc (.cells #[.int .u64 E, .slice none 0 0] 25) := ⟨_, rfl⟩
  have hB0 : Below w.heap.size w W0 := by rw [hW0]; exact (Rows8.newB).alloc (by simp) _
  have hB1 : Below w.heap.size w W1 := by rw [hW1]; exact hB0.alloc hB0.size _
  have p0 : Rows8 W0 w.heap.size 25 #[.int .u64 E, .slice a n c] := by rw [hW0]; exact (Rows8.new _ _ _).alloc _
  have r0 : Rows8 W0 (w.heap.size + 1) 25 #[.int .u64 0, .slice none 0 0] := by rw [hW0]; exact rows_new2 _ _ _ _
  have P1 : Hid (Rows8 W1 w.heap.size 25 #[.int .u64 E, .slice a n c]) := Lib.hid (by rw [hW1]; exact p0.alloc _)
  have R1 : Hid (Rows8 W1 (w.heap.size + 1) 25 #[.int .u64 0, .slice none 0 0]) := Lib.hid (by rw [hW1]; exact r0.alloc _)
  have X1 : Hid (Rows8 W1 (w.heap.size + 1 + 1) 25 #[.int .u64 E, .slice none 0 0]) := Lib.hid (by rw [hW1, ← hs0]; exact Rows8.new _ _ _)
  obtain ⟨T, hT⟩ : ∃ T, T = withL S g z := ⟨_, rfl⟩
  have hTl : T.length = S.length := by rw [hT, withL_len]
  have hTk := fun k (h : k < S.length) => withL_take S g z k h
  rw [← hT] at hTk ⊢
  have HI := Lib.hid hI
  have HN := Lib.hid hn
  have HB1 := Lib.hid hB1
  have HTL := Lib.hid hTl
  have HTK := Lib.hid hTk
  have c0 : W0.cell? ⟨w.heap.size, 0, none⟩ = some (.int .u64 E) := p0.cell 0
  have O1 := Lib.hid (show W1.ownsRow (w.heap.size + 1 + 1 + 1) 22 1 (.slice none 0 0) 0 (wordVals (T.take 0)) from World.ownsRow_nil _ _ _ _)
  clear hI hn hB0 hB1 p0 r0 hT hTl hTk
  go_enter Try.func38, Try.ntmps38
  go_upto_region 1 with fail
  rw [← hW0]
  clear hW0
  go_upto_region 2 with fail
  rw [← hW1]
  first | rw [hs0] | skip
  clear hW1 c0
  have c1 : W1.cell? ⟨w.heap.size, 1, none⟩ = some (.slice a n c) := P1.out.cell 1
  go_wp2_with fail
  clear c1
  go_loopw [16] (fun j wr => ∃ (k : Nat) (av : Option Addr) (cv : Nat), k ≤ n ∧ j = .int .i64 k ∧ Hid (Rows8 wr (w.heap.size + 1) 25 #[.int .u64 0, .slice none 0 0]) ∧ Hid (Rows8 wr (w.heap.size + 1 + 1) 25 #[.int .u64 E, .slice av k cv]) ∧ Hid (wr.ownsRow (w.heap.size + 1 + 1 + 1) 22 1 (.slice av k cv) k (wordVals (T.take k))) ∧ Hid (Below w.heap.size w wr)) (fun j _ => n - (intOf j).toNat)
  case atStart => exact ⟨0, none, 0, Nat.zero_le _, rfl, R1, X1, O1, HB1⟩
  case round =>
    obtain ⟨k, av, cv, hk, rfl, hR, hX, hO, hB⟩ := hrel
    clear R1 X1 O1 HB1 P1
    have x0 : wr.cell? ⟨w.heap.size + 1 + 1, 0, none⟩ = some (.int .u64 E) := hX.out.cell 0
    have x1 : wr.cell? ⟨w.heap.size + 1 + 1, 1, none⟩ = some (.slice av k cv) := hX.out.cell 1
    have lX := hX.out.lt
    by_cases hlt : k < n
    · have hkl : k < S.length := by rw [← HN.out]; exact hlt
      obtain ⟨b, off, rfl, hb2, cz⟩ := wordsAt_get (RowAt.below HI.out hB.out) k hkl
      have htk := HTK.out k hkl
      generalize S[k]?.getD 0 = y at *
      have hki : (k : Int) < (n : Int) := by omega
      have hki0 : (0 : Int) ≤ (k : Int) := by omega
      have hsz1 : w.heap.size + 1 + 1 + 1 ≤ wr.heap.size := by omega
      clear hkl
      have main : ∀ x : Int, T.take (k + 1) = T.take k ++ [x] → (∀ (v' : Value) (w3 : World), w3.ownsRow (w.heap.size + 1 + 1 + 1) 22 1 v' (k + 1) (wordVals (T.take k) ++ [.int .u64 x]) → (wr.alloc (.cells #[.int .u64 x] 22)).grownBy w3 (.slice av k cv : Value).ownBlock → ∃ g' cap', v' = .slice (some ⟨g', 0, none⟩) (k + 1) cap' ∧ Hid (Rows8 (w3.setCell ⟨w.heap.size + 1 + 1, 1, none⟩ v') (w.heap.size + 1) 25 #[.int .u64 0, .slice none 0 0]) ∧ Hid (Rows8 (w3.setCell ⟨w.heap.size + 1 + 1, 1, none⟩ v') (w.heap.size + 1 + 1) 25 #[.int .u64 E, v']) ∧ Hid ((w3.setCell ⟨w.heap.size + 1 + 1, 1, none⟩ v').ownsRow (w.heap.size + 1 + 1 + 1) 22 1 v' (k + 1) (wordVals (T.take (k + 1)))) ∧ Hid (Below w.heap.size w (w3.setCell ⟨w.heap.size + 1 + 1, 1, none⟩ v')) ∧ w3.cell? ⟨w.heap.size + 1 + 1, 1, none⟩ = some (.slice av k cv) ∧ w3.frozen? ⟨w.heap.size + 1 + 1, 1, none⟩ = false) := fun x htx v' w3 hown' hgrow => by
        obtain ⟨g', cap', rfl⟩ := ownsRow_succ hown'
        have ho := hO.out.alloc (.cells #[.int .u64 x] 22)
        have r3 := (hR.out.alloc (.cells #[.int .u64 x] 22)).grownNe ho (by decide) hgrow
        have x3 := (hX.out.alloc (.cells #[.int .u64 x] 22)).grownNe ho (by decide) hgrow
        have b3 := (hB.out.alloc hB.out.size (.cells #[.int .u64 x] 22)).grown hgrow (by simp; omega) (fun j ej => by have := (World.ownsRow.lt ho j ej).1; omega)
        have x4 := x3.set 1 (.slice (some ⟨g', 0, none⟩) (k + 1) cap')
        simp only [List.setIfInBounds_toArray, List.set_cons_zero, List.set_cons_succ] at x4
        refine ⟨g', cap', rfl, Lib.hid (r3.setOther (a := ⟨w.heap.size + 1 + 1, 1, none⟩) (by simp) _), Lib.hid x4, Lib.hid ?_, Lib.hid (b3.setCell (p := ⟨w.heap.size + 1 + 1, 1, none⟩) (by show w.heap.size ≤ w.heap.size + 1 + 1; omega) _), x3.cell 1, x3.frozen 1⟩
        rw [htx, show wordVals (T.take k ++ [x]) = wordVals (T.take k) ++ [.int .u64 x] by simp [wordVals]]
        exact owns_setT hown' (a := ⟨w.heap.size + 1 + 1, 1, none⟩) x3 (by decide) _
      by_cases hg : (k : Int) = g
      · have d0 : ((k : Int) == g) = true := by simp [hg]
        rw [if_pos hg] at htk
        have hM := main z htk
        have HO := Lib.hid (hO.out.alloc (.cells #[.int .u64 z] 22))
        clear hg htk main hO hR hX hB
        go_wp2_with (at_builtin; refine wpList_append_own _ rfl _ _ 23 rfl (w.heap.size + 1 + 1 + 1) 22 i0 (.int .u64 0) 1 8 Try.underlying23 hi hz0 hz1 hz2 rfl (by decide) _ _ _ rfl HO.out ⟨wr.heap.size, 0, none⟩ 1 1 [.int .u64 z] rfl rfl (cells_new wr _ [.int .u64 z]) (by simp [Value.oneCell']) (by unfold maxLen; omega) (by omega) (by simp; omega) ?_; intro v' w3 hown' hgrow _; obtain ⟨g', cap', rfl, HR3, HX3, HO3, HB3, cx, fx⟩ := hM v' w3 hown' hgrow; have lx := HX3.out.lt; clear hown' hgrow hM x0 x1 lX)
        exact ⟨⟨k + 1, _, _, by omega, by go_num, HR3, HX3, HO3, HB3⟩, by simp [intOf]; omega⟩
      · have d0 : ((k : Int) == g) = false := by simp [hg]
        rw [if_neg hg] at htk
        have hM := main y htk
        have HO := Lib.hid (hO.out.alloc (.cells #[.int .u64 y] 22))
        clear hg htk main hO hR hX hB
        go_wp2_with (at_builtin; refine wpList_append_own _ rfl _ _ 23 rfl (w.heap.size + 1 + 1 + 1) 22 i0 (.int .u64 0) 1 8 Try.underlying23 hi hz0 hz1 hz2 rfl (by decide) _ _ _ rfl HO.out ⟨wr.heap.size, 0, none⟩ 1 1 [.int .u64 y] rfl rfl (cells_new wr _ [.int .u64 y]) (by simp [Value.oneCell']) (by unfold maxLen; omega) (by omega) (by simp; omega) ?_; intro v' w3 hown' hgrow _; obtain ⟨g', cap', rfl, HR3, HX3, HO3, HB3, cx, fx⟩ := hM v' w3 hown' hgrow; have lx := HX3.out.lt; clear hown' hgrow hM x0 x1 lX)
        exact ⟨⟨k + 1, _, _, by omega, by go_num, HR3, HX3, HO3, HB3⟩, by simp [intOf]; omega⟩
    · obtain rfl : k = n := by omega
      have hki : ¬ (k : Int) < (k : Int) := by omega
      have htk : T.take k = T := List.take_of_length_le (by rw [HTL.out, HN.out]; exact Nat.le_refl _)
      have r := hR.out
      have y0 : wr.cell? ⟨w.heap.size + 1, 0, none⟩ = some (.int .u64 0) := r.cell 0
      have y1 : wr.cell? ⟨w.heap.size + 1, 1, none⟩ = some (.slice none 0 0) := r.cell 1
      have f0 := r.frozen 0
      have f1 := r.frozen 1
      have lr := r.lt
      have HS := Lib.hid (r.set2 (.int .u64 E) (.slice av k cv))
      have ho := hO.out
      rw [htk] at ho
      have HO2 : Hid (OwnsWords w.heap.size T (.slice av k cv) _) := Lib.hid (by
        have h1 := owns_setLow (owns_setLow ho (show w.heap.size + 1 < w.heap.size + 1 + 1 + 1 by omega) 0 (.int .u64 E)) (show w.heap.size + 1 < w.heap.size + 1 + 1 + 1 by omega) 1 (.slice av k cv)
        have h2 := owns_mono (n₀ := w.heap.size) h1 (by omega)
        unfold OwnsWords
        rw [HTL.out, ← HN.out]
        exact h2)
      have HB2 := Lib.hid ((hB.out.setCell (p := ⟨w.heap.size + 1, 0, none⟩) (by show w.heap.size ≤ w.heap.size + 1; omega) (.int .u64 E)).setCell (p := ⟨w.heap.size + 1, 1, none⟩) (by show w.heap.size ≤ w.heap.size + 1; omega) (.slice av k cv))
      clear htk ho hO hR hX hB r hlt
      go_wp2_with fail
      refine bodyPost_ret (results_c rfl _ _ (w.heap.size + 1) 25 _ (0, 0) _ rfl HS.out Try.underlying25 rfl (by kernel_rfl)) rfl ?_
      exact ⟨⟨_, rfl, HO2.out⟩, HB2.out⟩
theorem held_lenR (E : Int) (S : List Int) : heldB E S = decide (0 < (backN E S).length) := by
  unfold heldB backN
  rw [trues_count]
  generalize bkB E S 0 = b0
  generalize bkB E S 1 = b1
  generalize bkB E S 2 = b2
  generalize bkB E S 3 = b3
  generalize bkB E S 4 = b4
  generalize bkB E S 5 = b5
  generalize bkB E S 6 = b6
  generalize bkB E S 7 = b7
  cases b0 <;> cases b1 <;> cases b2 <;> cases b3 <;> cases b4 <;> cases b5 <;> cases b6 <;> cases b7 <;> rfl
theorem OwnsInts.form3 {n₀ : Nat} {l : List Int} {v : Value} {W : World} (o : OwnsInts n₀ l v W) : ∃ a n c, v = .slice a n c ∧ n = l.length := by
  obtain ⟨a, c, h⟩ := o.form
  exact ⟨a, _, c, h, rfl⟩
set_option maxHeartbeats 16000000 in
theorem Try.refDo_any (E : Int) (a : Option Addr) (n c : Nat) (S : List Int) (o : Po) (w : World) (hI : WordsAt w (.slice a n c) S) (hk : Okp E S) (hr : rightN E S = true) (hb : 0 ≤ o.by_ ∧ o.by_ < 18446744073709551616) :
    Calls Try.prog 24 #[.agg #[.int .u64 E, .slice a n c], .agg #[.int .i64 o.kind, .int .i64 o.goer, .int .u64 o.by_]] w fun e w' => PinQ w.heap.size (doP E S o) e w' ∧ Below w.heap.size w w' := by
  have hR := (rightN_iff E S).1 hr
  have hn := (wordsAt_len hI).1
  rw [doP_of hr]
  obtain ⟨kd, gr, by_⟩ := o
  dsimp only at *
  obtain ⟨R, hRR⟩ : ∃ R, R = (if (stepP E S ⟨kd, gr, by_⟩).1 = 0 then stepP E S ⟨kd, gr, by_⟩ else ((stepP E S ⟨kd, gr, by_⟩).1, 0, [])) := ⟨_, rfl⟩
  rw [← hRR]
  obtain ⟨u0, hu0⟩ : ∃ u, u = ((w.alloc (.cells #[.int .u64 E, .slice a n c] 25)).alloc (.cells #[.int .i64 kd, .int .i64 gr, .int .u64 by_] 44)).alloc (.cells #[.int .u64 0, .slice none 0 0] 25) := ⟨_, rfl⟩
  have hB0 : Below w.heap.size w u0 := by rw [hu0]; exact ((Rows8.newB).alloc (by simp) _).alloc (by simp <;> omega) _
  have p0 : Rows8 u0 w.heap.size 25 #[.int .u64 E, .slice a n c] := by rw [hu0]; exact ((Rows8.new _ _ _).alloc _).alloc _
  have o0 : Rows8 u0 (w.heap.size + 1) 44 #[.int .i64 kd, .int .i64 gr, .int .u64 by_] := by rw [hu0]; exact (rows_new2 _ _ _ _).alloc _
  have r0 : Rows8 u0 (w.heap.size + 1 + 1) 25 #[.int .u64 0, .slice none 0 0] := by
    have h := Rows8.new ((w.alloc (.cells #[.int .u64 E, .slice a n c] 25)).alloc (.cells #[.int .i64 kd, .int .i64 gr, .int .u64 by_] 44)) 25 #[.int .u64 0, .slice none 0 0]
    rw [World.size_alloc, World.size_alloc] at h
    rw [hu0]
    exact h
  have HI := Lib.hid (RowAt.below hI hB0)
  have HB0 := Lib.hid hB0
  have P0 := Lib.hid p0
  have O0 := Lib.hid o0
  have R0 := Lib.hid r0
  have hsz : u0.heap.size = w.heap.size + 1 + 1 + 1 := by rw [hu0]; simp only [World.size_alloc]
  have HSZ := Lib.hid hsz
  have HW := fun (F g z : Int) => Lib.hid (Try.with_any F a n c S g z (by omega) u0 (RowAt.below hI hB0))
  have HBK := Lib.hid (Try.refBack_any E a n c S hk hr u0 (RowAt.below hI hB0))
  have HH := Lib.hid (held_lenR E S)
  have c0 : u0.cell? ⟨w.heap.size, 0, none⟩ = some (.int .u64 E) := p0.cell 0
  have c1 : u0.cell? ⟨w.heap.size, 1, none⟩ = some (.slice a n c) := p0.cell 1
  have e0 : u0.cell? ⟨w.heap.size + 1, 0, none⟩ = some (.int .i64 kd) := o0.cell 0
  have e1 : u0.cell? ⟨w.heap.size + 1, 1, none⟩ = some (.int .i64 gr) := o0.cell 1
  have e2 : u0.cell? ⟨w.heap.size + 1, 2, none⟩ = some (.int .u64 by_) := o0.cell 2
  have q0 : u0.cell? ⟨w.heap.size + 1 + 1, 0, none⟩ = some (.int .u64 0) := r0.cell 0
  have q1 : u0.cell? ⟨w.heap.size + 1 + 1, 1, none⟩ = some (.slice none 0 0) := r0.cell 1
  have f0 := r0.frozen 0
  have f1 := r0.frozen 1
  have lr := r0.lt
  have HN := Lib.hid hn
  have H8 := Lib.hid hR.2.2.1
  have HR := Lib.hid hRR
  have hEm := hR.1
  have hE0 := hk.e.1
  have HKS := Lib.hid hk.s
  have ZS := Lib.hid (r0.set2 (.int .u64 0) (.slice none 0 0))
  have ZB := Lib.hid ((hB0.setCell (p := ⟨w.heap.size + 1 + 1, 0, none⟩) (by show w.heap.size ≤ w.heap.size + 1 + 1; omega) (.int .u64 0)).setCell (p := ⟨w.heap.size + 1 + 1, 1, none⟩) (by show w.heap.size ≤ w.heap.size + 1 + 1; omega) (.slice none 0 0))
  clear hI hB0 p0 o0 r0 hRR hn hsz hk hr hR
  by_cases hlow : kd < 1
  · have d1 : decide (kd < 1) = true := decide_eq_true hlow
    have hst : stepP E S ⟨kd, gr, by_⟩ = (2, E, S) := if_pos (Or.inl hlow)
    clear hlow
    have HX : Hid (R = (2, 0, [])) := Lib.hid (by rw [HR.out, hst]; rfl)
    go_enter Try.func24, Try.ntmps24
    go_upto_region 1 with fail
    rw [← hu0]
    clear hu0
    go_wp2_with fail
    refine bodyPost_ret (results_ctA rfl _ _ (w.heap.size + 1 + 1) _ _ rfl rfl (load_row ZS.out Try.underlying25 rfl (by kernel_rfl))) rfl ?_
    exact ⟨⟨_, by rw [HX.out]; rfl, by rw [HX.out]; exact World.ownsRow_nil _ _ _ _⟩, ZB.out⟩
  · have d1 : decide (kd < 1) = false := decide_eq_false hlow
    by_cases hhi : 3 < kd
    · have d2 : decide (3 < kd) = true := decide_eq_true hhi
      have d2' : decide (kd > 3) = true := d2
      have hst : stepP E S ⟨kd, gr, by_⟩ = (2, E, S) := if_pos (Or.inr hhi)
      clear hlow hhi
      have HX : Hid (R = (2, 0, [])) := Lib.hid (by rw [HR.out, hst]; rfl)
      go_enter Try.func24, Try.ntmps24
      go_upto_region 1 with fail
      rw [← hu0]
      clear hu0
      go_wp2_with fail
      refine bodyPost_ret (results_ctA rfl _ _ (w.heap.size + 1 + 1) _ _ rfl rfl (load_row ZS.out Try.underlying25 rfl (by kernel_rfl))) rfl ?_
      exact ⟨⟨_, by rw [HX.out]; rfl, by rw [HX.out]; exact World.ownsRow_nil _ _ _ _⟩, ZB.out⟩
    · have d2 : decide (3 < kd) = false := decide_eq_false hhi
      have d2' : decide (kd > 3) = false := d2
      by_cases h3 : kd = 3
      · subst h3
        have d3 : ((3 : Int) != 3) = false := rfl
        have d4 : ((3 : Int) == 3) = true := rfl
        have hst : stepP E S ⟨3, gr, by_⟩ = goN E S := step_go rfl
        clear hlow hhi d1 d2 d2'
        go_enter Try.func24, Try.ntmps24
        go_upto_region 1 with fail
        rw [← hu0]
        clear hu0
        go_wp2_with fail
        refine HBK.out.mono ?_
        rintro e w1 ⟨v, rfl, hO, hB⟩
        obtain ⟨ai, ni, di, rfl, hni⟩ := OwnsInts.form3 hO
        have hh := HH.out
        rw [← hni] at hh
        obtain ⟨hb, hhb⟩ : ∃ b, b = heldB E S := ⟨_, rfl⟩
        rw [← hhb] at hh
        have g1 : decide (0 < ni) = hb := hh.symm
        have g2 : decide ((0 : Int) < (ni : Int)) = hb := by rw [← g1]; simp
        have g3 : decide ((ni : Int) > 0) = hb := g2
        have p1 := P0.out.below hB P0.out.lt
        have o1 := O0.out.below hB O0.out.lt
        have r1 := R0.out.below hB R0.out.lt
        have hb1 := HB0.out.trans (hB.mono HB0.out.size)
        have HI1 := Lib.hid (RowAt.below HI.out hB)
        have hW1 := fun (F g z : Int) => Lib.hid (Try.with_any F a n c S g z (by have := H8.out; omega) w1 HI1.out)
        have hsz1 : w.heap.size + 1 + 1 + 1 ≤ w1.heap.size := by have := hB.size; rw [HSZ.out] at this; exact this
        clear hh hni hO HBK HW ZS ZB c0 c1 e0 e1 e2 q0 q1 f0 f1 lr hB
        have c0 : w1.cell? ⟨w.heap.size, 0, none⟩ = some (.int .u64 E) := p1.cell 0
        have c1 : w1.cell? ⟨w.heap.size, 1, none⟩ = some (.slice a n c) := p1.cell 1
        have e0 : w1.cell? ⟨w.heap.size + 1, 0, none⟩ = some (.int .i64 3) := o1.cell 0
        have q0 : w1.cell? ⟨w.heap.size + 1 + 1, 0, none⟩ = some (.int .u64 0) := r1.cell 0
        have q1 : w1.cell? ⟨w.heap.size + 1 + 1, 1, none⟩ = some (.slice none 0 0) := r1.cell 1
        have f0 := r1.frozen 0
        have f1 := r1.frozen 1
        have lr := r1.lt
        have ZS := Lib.hid (r1.set2 (.int .u64 0) (.slice none 0 0))
        have ZB := Lib.hid ((hb1.setCell (p := ⟨w.heap.size + 1 + 1, 0, none⟩) (by show w.heap.size ≤ w.heap.size + 1 + 1; omega) (.int .u64 0)).setCell (p := ⟨w.heap.size + 1 + 1, 1, none⟩) (by show w.heap.size ≤ w.heap.size + 1 + 1; omega) (.slice none 0 0))
        have R1 := Lib.hid r1
        have HBb := Lib.hid hb1
        clear p1 o1 r1 hb1 P0 O0 R0 HB0
        unfold goN at hst
        rw [← hhb] at hst
        clear hhb
        cases hb with
        | true =>
          have HX : Hid (R = (231, 0, [])) := Lib.hid (by rw [HR.out, hst.trans (if_pos rfl)]; rfl)
          clear hst
          go_wp2_with fail
          refine bodyPost_ret (results_ctA rfl _ _ (w.heap.size + 1 + 1) _ _ rfl rfl (load_row ZS.out Try.underlying25 rfl (by kernel_rfl))) rfl ?_
          exact ⟨⟨_, by rw [HX.out]; rfl, by rw [HX.out]; exact World.ownsRow_nil _ _ _ _⟩, ZB.out⟩
        | false =>
          by_cases hm : E = 4611686018427387904
          · have HX : Hid (R = (6, 0, [])) := Lib.hid (by rw [HR.out, hst.trans ((if_neg (by decide)).trans (if_pos hm))]; rfl)
            have d5 : (E == 4611686018427387904) = true := by simp [hm]
            clear hst hm
            go_wp2_with fail
            refine bodyPost_ret (results_ctA rfl _ _ (w.heap.size + 1 + 1) _ _ rfl rfl (load_row ZS.out Try.underlying25 rfl (by kernel_rfl))) rfl ?_
            exact ⟨⟨_, by rw [HX.out]; rfl, by rw [HX.out]; exact World.ownsRow_nil _ _ _ _⟩, ZB.out⟩
          · have HX : Hid (R = (0, E + 1, S)) := Lib.hid (by rw [HR.out, hst.trans ((if_neg (by decide)).trans (if_neg hm))]; rfl)
            have d5 : (E == 4611686018427387904) = false := by simp [hm]
            have hw : IntKind.u64.wrap (E + 1) = E + 1 := wrap_u _ (by omega) (by omega)
            clear hst hm
            go_wp2_with fail
            refine (hW1 (E + 1) (-1) (0)).out.mono ?_
            rintro e w3 ⟨⟨v, rfl, ho⟩, hB⟩
            obtain ⟨av, nv, dv, rfl, -⟩ := ho.form2
            have r3 := R1.out.below hB R1.out.lt
            have q0 : w3.cell? ⟨w.heap.size + 1 + 1, 0, none⟩ = some (.int .u64 0) := r3.cell 0
            have q1 : w3.cell? ⟨w.heap.size + 1 + 1, 1, none⟩ = some (.slice none 0 0) := r3.cell 1
            have g0 := r3.frozen 0
            have g1 := r3.frozen 1
            have l3 := r3.lt
            have HS := Lib.hid (r3.set2 (.int .u64 (E + 1)) (.slice av nv dv))
            rw [withL_none] at ho
            replace ho := owns_mono (n₀ := w.heap.size + 1 + 1 + 1) ho hsz1
            have HO := Lib.hid (owns_mono (n₀ := w.heap.size) (owns_setLow (owns_setLow ho (show w.heap.size + 1 + 1 < w.heap.size + 1 + 1 + 1 by omega) 0 (.int .u64 (E + 1))) (show w.heap.size + 1 + 1 < w.heap.size + 1 + 1 + 1 by omega) 1 (.slice av nv dv)) (by omega))
            have HB := Lib.hid (((HBb.out.trans (hB.mono HBb.out.size)).setCell (p := ⟨w.heap.size + 1 + 1, 0, none⟩) (by show w.heap.size ≤ w.heap.size + 1 + 1; omega) (.int .u64 (E + 1))).setCell (p := ⟨w.heap.size + 1 + 1, 1, none⟩) (by show w.heap.size ≤ w.heap.size + 1 + 1; omega) (.slice av nv dv))
            clear ho hB r3 ZS ZB hW1
            go_wp2_with fail
            refine bodyPost_ret (results_ctA rfl _ _ (w.heap.size + 1 + 1) _ _ rfl rfl (load_row HS.out Try.underlying25 rfl (by kernel_rfl))) rfl ?_
            exact ⟨⟨_, by rw [HX.out]; rfl, by rw [HX.out]; exact HO.out⟩, HB.out⟩
      · have d3 : (kd != 3) = true := by simp [h3]
        have d4 : (kd == 3) = false := by simp [h3]
        have hs0 : stepP E S ⟨kd, gr, by_⟩ = if isOneN S gr = false then (2, E, S) else if kd = 1 then pinN E S ⟨kd, gr, by_⟩ else unpinN E S ⟨kd, gr, by_⟩ := by
          unfold stepP
          dsimp only
          rw [if_neg (by omega), if_neg h3]
        by_cases hg0 : gr < 0
        · have d5 : decide (gr < 0) = true := decide_eq_true hg0
          have hst : stepP E S ⟨kd, gr, by_⟩ = (2, E, S) := by rw [hs0, if_pos (by unfold isOneN; exact decide_eq_false (by omega))]
          clear hs0 hg0 hlow hhi h3
          have HX : Hid (R = (2, 0, [])) := Lib.hid (by rw [HR.out, hst]; rfl)
          go_enter Try.func24, Try.ntmps24
          go_upto_region 1 with fail
          rw [← hu0]
          clear hu0
          go_wp2_with fail
          refine bodyPost_ret (results_ctA rfl _ _ (w.heap.size + 1 + 1) _ _ rfl rfl (load_row ZS.out Try.underlying25 rfl (by kernel_rfl))) rfl ?_
          exact ⟨⟨_, by rw [HX.out]; rfl, by rw [HX.out]; exact World.ownsRow_nil _ _ _ _⟩, ZB.out⟩
        · have d5 : decide (gr < 0) = false := decide_eq_false hg0
          obtain ⟨k, rfl⟩ : ∃ k : Nat, gr = k := ⟨gr.toNat, by omega⟩
          by_cases hg1 : n ≤ k
          · have d6 : decide ((n : Int) ≤ (k : Int)) = true := decide_eq_true (by omega)
            have d6' : decide ((k : Int) ≥ (n : Int)) = true := d6
            have d6n : decide (n ≤ k) = true := decide_eq_true hg1
            have hst : stepP E S ⟨kd, (k : Int), by_⟩ = (2, E, S) := by rw [hs0, if_pos (by unfold isOneN; exact decide_eq_false (by have := HN.out; omega))]
            clear hs0 hg0 hg1 hlow hhi h3
            have HX : Hid (R = (2, 0, [])) := Lib.hid (by rw [HR.out, hst]; rfl)
            go_enter Try.func24, Try.ntmps24
            go_upto_region 1 with fail
            rw [← hu0]
            clear hu0
            go_wp2_with fail
            refine bodyPost_ret (results_ctA rfl _ _ (w.heap.size + 1 + 1) _ _ rfl rfl (load_row ZS.out Try.underlying25 rfl (by kernel_rfl))) rfl ?_
            exact ⟨⟨_, by rw [HX.out]; rfl, by rw [HX.out]; exact World.ownsRow_nil _ _ _ _⟩, ZB.out⟩
          · have d6 : decide ((n : Int) ≤ (k : Int)) = false := decide_eq_false (by omega)
            have d6' : decide ((k : Int) ≥ (n : Int)) = false := d6
            have d6n : decide (n ≤ k) = false := decide_eq_false hg1
            have hkn : (k : Int) < (n : Int) := by omega
            have hk0 : (0 : Int) ≤ (k : Int) := by omega
            have hkl : k < S.length := by have := HN.out; omega
            rw [if_neg (by unfold isOneN; rw [decide_eq_true (by omega)]; decide)] at hs0
            obtain ⟨b, off, rfl, hb2, cz⟩ := wordsAt_get HI.out k hkl
            have hzr := okW_get HKS.out k hkl
            unfold pinN unpinN at hs0
            dsimp only at hs0
            rw [Int.toNat_natCast] at hs0
            obtain ⟨z, hz⟩ : ∃ z, z = S[k]?.getD 0 := ⟨_, rfl⟩
            rw [← hz] at hs0 cz hzr
            clear hz hg0 hg1
            by_cases h1 : kd = 1
            · subst h1
              have d7 : ((1 : Int) == 1) = true := rfl
              rw [if_pos rfl] at hs0
              by_cases hz0 : z = 0
              · subst hz0
                have d8 : decide ((0 : Int) < 0) = false := rfl
                rw [if_neg (by decide)] at hs0
                by_cases hby : E < by_
                · have d9 : decide (E < by_) = true := decide_eq_true hby
                  have d9' : decide (by_ > E) = true := d9
                  rw [if_pos hby] at hs0
                  clear hby
                  have HX : Hid (R = (4, 0, [])) := Lib.hid (by rw [HR.out, hs0]; rfl)
                  go_enter Try.func24, Try.ntmps24
                  go_upto_region 1 with fail
                  rw [← hu0]
                  clear hu0
                  go_wp2_with fail
                  refine bodyPost_ret (results_ctA rfl _ _ (w.heap.size + 1 + 1) _ _ rfl rfl (load_row ZS.out Try.underlying25 rfl (by kernel_rfl))) rfl ?_
                  exact ⟨⟨_, by rw [HX.out]; rfl, by rw [HX.out]; exact World.ownsRow_nil _ _ _ _⟩, ZB.out⟩
                · have d9 : decide (E < by_) = false := decide_eq_false hby
                  have d9' : decide (by_ > E) = false := d9
                  have hw1 : IntKind.u64.wrap (E + 1) = E + 1 := wrap_u _ (by omega) (by omega)
                  have hw2 : IntKind.u64.wrap (E + 1 - by_) = E + 1 - by_ := wrap_u _ (by omega) (by omega)
                  rw [if_neg hby] at hs0
                  have HX : Hid (R = (0, E, S.set k (E - by_ + 1))) := Lib.hid (by rw [HR.out, hs0]; rfl)
                  clear hby hs0
                  go_enter Try.func24, Try.ntmps24
                  go_upto_region 1 with fail
                  rw [← hu0]
                  clear hu0
                  go_wp2_with fail
                  refine (HW (E) ((k : Nat)) (E + 1 - by_)).out.mono ?_
                  rintro e w3 ⟨⟨v, rfl, ho⟩, hB⟩
                  obtain ⟨av, nv, dv, rfl, -⟩ := ho.form2
                  have r3 := R0.out.below hB R0.out.lt
                  have q0 : w3.cell? ⟨w.heap.size + 1 + 1, 0, none⟩ = some (.int .u64 0) := r3.cell 0
                  have q1 : w3.cell? ⟨w.heap.size + 1 + 1, 1, none⟩ = some (.slice none 0 0) := r3.cell 1
                  have g0 := r3.frozen 0
                  have g1 := r3.frozen 1
                  have l3 := r3.lt
                  have HS := Lib.hid (r3.set2 (.int .u64 (E)) (.slice av nv dv))
                  rw [HSZ.out, show withL S (k : Nat) (E + 1 - by_) = S.set k (E - by_ + 1) by unfold withL; rw [if_pos (by omega), Int.toNat_natCast, show E + 1 - by_ = E - by_ + 1 by omega]] at ho
                  have HO := Lib.hid (owns_mono (n₀ := w.heap.size) (owns_setLow (owns_setLow ho (show w.heap.size + 1 + 1 < w.heap.size + 1 + 1 + 1 by omega) 0 (.int .u64 (E))) (show w.heap.size + 1 + 1 < w.heap.size + 1 + 1 + 1 by omega) 1 (.slice av nv dv)) (by omega))
                  have HB := Lib.hid (((HB0.out.trans (hB.mono HB0.out.size)).setCell (p := ⟨w.heap.size + 1 + 1, 0, none⟩) (by show w.heap.size ≤ w.heap.size + 1 + 1; omega) (.int .u64 (E))).setCell (p := ⟨w.heap.size + 1 + 1, 1, none⟩) (by show w.heap.size ≤ w.heap.size + 1 + 1; omega) (.slice av nv dv))
                  clear ho hB r3 ZS ZB HW HBK
                  go_wp2_with fail
                  refine bodyPost_ret (results_ctA rfl _ _ (w.heap.size + 1 + 1) _ _ rfl rfl (load_row HS.out Try.underlying25 rfl (by kernel_rfl))) rfl ?_
                  exact ⟨⟨_, by rw [HX.out]; rfl, by rw [HX.out]; exact HO.out⟩, HB.out⟩
              · have d8 : decide (0 < z) = true := decide_eq_true (by omega)
                have d8' : decide (z > 0) = true := d8
                rw [if_pos hz0] at hs0
                clear hz0
                have HX : Hid (R = (5, 0, [])) := Lib.hid (by rw [HR.out, hs0]; rfl)
                go_enter Try.func24, Try.ntmps24
                go_upto_region 1 with fail
                rw [← hu0]
                clear hu0
                go_wp2_with fail
                refine bodyPost_ret (results_ctA rfl _ _ (w.heap.size + 1 + 1) _ _ rfl rfl (load_row ZS.out Try.underlying25 rfl (by kernel_rfl))) rfl ?_
                exact ⟨⟨_, by rw [HX.out]; rfl, by rw [HX.out]; exact World.ownsRow_nil _ _ _ _⟩, ZB.out⟩
            · obtain rfl : kd = 2 := by omega
              have d7 : ((2 : Int) == 1) = false := rfl
              rw [if_neg (by decide)] at hs0
              by_cases hz0 : z = 0
              · subst hz0
                have d8 : ((0 : Int) == 0) = true := rfl
                rw [if_pos rfl] at hs0
                have HX : Hid (R = (4, 0, [])) := Lib.hid (by rw [HR.out, hs0]; rfl)
                go_enter Try.func24, Try.ntmps24
                go_upto_region 1 with fail
                rw [← hu0]
                clear hu0
                go_wp2_with fail
                refine bodyPost_ret (results_ctA rfl _ _ (w.heap.size + 1 + 1) _ _ rfl rfl (load_row ZS.out Try.underlying25 rfl (by kernel_rfl))) rfl ?_
                exact ⟨⟨_, by rw [HX.out]; rfl, by rw [HX.out]; exact World.ownsRow_nil _ _ _ _⟩, ZB.out⟩
              · have d8 : (z == 0) = false := by simp [hz0]
                rw [if_neg hz0] at hs0
                have HX : Hid (R = (0, E, S.set k 0)) := Lib.hid (by rw [HR.out, hs0]; rfl)
                clear hz0 hs0
                go_enter Try.func24, Try.ntmps24
                go_upto_region 1 with fail
                rw [← hu0]
                clear hu0
                go_wp2_with fail
                refine (HW (E) ((k : Nat)) (0)).out.mono ?_
                rintro e w3 ⟨⟨v, rfl, ho⟩, hB⟩
                obtain ⟨av, nv, dv, rfl, -⟩ := ho.form2
                have r3 := R0.out.below hB R0.out.lt
                have q0 : w3.cell? ⟨w.heap.size + 1 + 1, 0, none⟩ = some (.int .u64 0) := r3.cell 0
                have q1 : w3.cell? ⟨w.heap.size + 1 + 1, 1, none⟩ = some (.slice none 0 0) := r3.cell 1
                have g0 := r3.frozen 0
                have g1 := r3.frozen 1
                have l3 := r3.lt
                have HS := Lib.hid (r3.set2 (.int .u64 (E)) (.slice av nv dv))
                rw [HSZ.out, show withL S (k : Nat) 0 = S.set k 0 by unfold withL; rw [if_pos (by omega), Int.toNat_natCast]] at ho
                have HO := Lib.hid (owns_mono (n₀ := w.heap.size) (owns_setLow (owns_setLow ho (show w.heap.size + 1 + 1 < w.heap.size + 1 + 1 + 1 by omega) 0 (.int .u64 (E))) (show w.heap.size + 1 + 1 < w.heap.size + 1 + 1 + 1 by omega) 1 (.slice av nv dv)) (by omega))
                have HB := Lib.hid (((HB0.out.trans (hB.mono HB0.out.size)).setCell (p := ⟨w.heap.size + 1 + 1, 0, none⟩) (by show w.heap.size ≤ w.heap.size + 1 + 1; omega) (.int .u64 (E))).setCell (p := ⟨w.heap.size + 1 + 1, 1, none⟩) (by show w.heap.size ≤ w.heap.size + 1 + 1; omega) (.slice av nv dv))
                clear ho hB r3 ZS ZB HW HBK
                go_wp2_with fail
                refine bodyPost_ret (results_ctA rfl _ _ (w.heap.size + 1 + 1) _ _ rfl rfl (load_row HS.out Try.underlying25 rfl (by kernel_rfl))) rfl ?_
                exact ⟨⟨_, by rw [HX.out]; rfl, by rw [HX.out]; exact HO.out⟩, HB.out⟩
end Go.Proofs
