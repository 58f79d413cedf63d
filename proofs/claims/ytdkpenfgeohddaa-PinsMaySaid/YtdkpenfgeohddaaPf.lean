/- Pins: New; a hand. -/
import Derived.Test.YtdkpenfgeohddaaPe
namespace Go.Proofs
set_option maxRecDepth 100000
open Go.RowKit Go.Shelf
attribute [local go_sem] Oper.semAt_some

theorem made_words (n : Nat) : (madeCells (Value.int .u64 0).cells (n * 1)).toList = wordVals (List.replicate n 0) := by
  apply List.ext_getElem?
  intro j
  by_cases hj : j < n
  · simp [madeCells, hj, Value.cells, wordVals, Nat.mod_one]
  · rw [List.getElem?_eq_none (by simp [madeCells]; omega), List.getElem?_eq_none (by simp [wordVals]; omega)]
/-- Pins, and an error: what comes, its Epoch and its Slots. -/
abbrev Rn := Int × Int × List Int
def PinQ (n₀ : Nat) (R : Rn) (e : Ending) (w' : World) : Prop :=
  ∃ v, e = .returned (.tuple #[.agg #[.int .u64 R.2.1, v], .int .i64 R.1]) ∧ OwnsWords n₀ R.2.2 v w'
def newN (g : Int) : Rn := if manyN g then (0, 0, List.replicate g.toNat 0) else (2, 0, [])
set_option maxHeartbeats 2000000 in
theorem Try.NewP_any (g : Int) (w : World) :
    Calls Try.prog 21 #[.int .i64 g] w fun e w' => PinQ w.heap.size (newN g) e w' ∧ Below w.heap.size w w' := by
  obtain ⟨i0, hi, hz0, hz1, hz2⟩ := info_parts Try.infoWord
  have HM := fun W => Lib.hid (Try.mayHave_any g W)
  have hR0 := Rows8.new w 25 #[.int .u64 0, .slice none 0 0]
  have hB0 : Below w.heap.size w (w.alloc (.cells #[.int .u64 0, .slice none 0 0] 25)) := Rows8.newB
  have HR0 := Lib.hid hR0
  have HB0 := Lib.hid hB0
  clear hR0 hB0
  obtain ⟨R, hR⟩ : ∃ R, R = newN g := ⟨_, rfl⟩
  rw [← hR]
  unfold newN at hR
  have HR := Lib.hid hR
  clear hR
  cases hm : manyN g with
  | true =>
    obtain ⟨m, rfl, hm2⟩ : ∃ m : Nat, g = m ∧ m ≤ 8 := by
      unfold manyN at hm
      rw [decide_eq_true_eq] at hm
      exact ⟨g.toNat, by omega, by omega⟩
    have hRR : Hid (R = (0, 0, List.replicate m 0)) := Lib.hid (by rw [HR.out, hm]; rfl)
    rw [hm] at HM
    clear hm HR
    go_enter Try.func21, Try.ntmps21
    go_wp2_with fail
    refine (HM _).out.mono ?_
    rintro e w1 ⟨rfl, rfl⟩
    obtain ⟨w2, hrun, hown, hgr⟩ := run_make_full (P := Try.prog) (w.alloc (.cells #[.int .u64 0, .slice none 0 0] 25)) w.heap.size 23 22 i0 (.int .u64 0) 1 Try.underlying23 hi hz0 hz1 .i64 .i64 m (by rw [hz2]; omega) (by unfold maxLen; omega) (by simp)
    have hO : OwnsWords w.heap.size (List.replicate m 0) (.slice (some ⟨(w.alloc (.cells #[.int .u64 0, .slice none 0 0] 25)).heap.size, 0, none⟩) m m) w2 := by
      unfold OwnsWords
      rw [List.length_replicate, ← made_words]
      exact hown
    have hB2 := HB0.out.grown hgr (by simp) (fun j ej => by cases ej)
    have hR2 := HR0.out.below ((Below.refl _ (w.alloc (.cells #[.int .u64 0, .slice none 0 0] 25))).grown hgr (Nat.le_refl _) (fun j ej => by cases ej)) HR0.out.lt
    have c0 : w2.cell? ⟨w.heap.size, 0, none⟩ = some (.int .u64 0) := hR2.cell 0
    have c1 : w2.cell? ⟨w.heap.size, 1, none⟩ = some (.slice none 0 0) := hR2.cell 1
    have f0 := hR2.frozen 0
    have f1 := hR2.frozen 1
    generalize (w.alloc (.cells #[.int .u64 0, .slice none 0 0] 25)) = W0 at *
    have hS := (hR2.set2 (.int .u64 0) (.slice (some ⟨W0.heap.size, 0, none⟩) m m))
    have hO1 := owns_setT hO (a := ⟨w.heap.size, 0, none⟩) hR2 (by decide) (.int .u64 0)
    have hOs := owns_setT hO1 (a := ⟨w.heap.size, 1, none⟩) (hR2.set 0 (.int .u64 0)) (by decide) (.slice (some ⟨W0.heap.size, 0, none⟩) m m)
    have hB3 := (hB2.setCell (p := ⟨w.heap.size, 0, none⟩) (Nat.le_refl _) (.int .u64 0)).setCell (p := ⟨w.heap.size, 1, none⟩) (Nat.le_refl _) (.slice (some ⟨W0.heap.size, 0, none⟩) m m)
    have HS := Lib.hid hS
    have HO := Lib.hid hOs
    have HB3 := Lib.hid hB3
    clear hown hO hgr hB2 hR2 hS hOs hB3 hO1
    go_wp2_with fail
    refine bodyPost_ret (results_ctA rfl _ _ w.heap.size _ _ rfl rfl (load_row HS.out Try.underlying25 rfl (by kernel_rfl))) rfl ?_
    exact ⟨⟨_, by rw [hRR.out]; rfl, by rw [hRR.out]; exact HO.out⟩, HB3.out⟩
  | false =>
    have hRR : Hid (R = (2, 0, [])) := Lib.hid (by rw [HR.out, hm]; rfl)
    rw [hm] at HM
    clear hm HR
    go_enter Try.func21, Try.ntmps21
    go_wp2_with fail
    refine (HM _).out.mono ?_
    rintro e w1 ⟨rfl, rfl⟩
    have c0 : (w.alloc (.cells #[.int .u64 0, .slice none 0 0] 25)).cell? ⟨w.heap.size, 0, none⟩ = some (.int .u64 0) := HR0.out.cell 0
    have c1 : (w.alloc (.cells #[.int .u64 0, .slice none 0 0] 25)).cell? ⟨w.heap.size, 1, none⟩ = some (.slice none 0 0) := HR0.out.cell 1
    have f0 := HR0.out.frozen 0
    have f1 := HR0.out.frozen 1
    have HS := Lib.hid (HR0.out.set2 (.int .u64 0) (.slice none 0 0))
    have HB3 := Lib.hid ((HB0.out.setCell (p := ⟨w.heap.size, 0, none⟩) (Nat.le_refl _) (.int .u64 0)).setCell (p := ⟨w.heap.size, 1, none⟩) (Nat.le_refl _) (.slice none 0 0))
    generalize (w.alloc (.cells #[.int .u64 0, .slice none 0 0] 25)) = W0 at *
    go_wp2_with fail
    refine bodyPost_ret (results_ctA rfl _ _ w.heap.size _ _ rfl rfl (load_row HS.out Try.underlying25 rfl (by kernel_rfl))) rfl ?_
    exact ⟨⟨_, by rw [hRR.out]; rfl, by rw [hRR.out]; exact World.ownsRow_nil _ _ _ _⟩, HB3.out⟩
/-- A hand: a copy, if they may be. -/
def HofQ (n₀ : Nat) (E : Int) (S : List Int) (e : Ending) (w' : World) : Prop :=
  if rightN E S = true then ∃ g n, e = .returned (.tuple #[.agg #[.int .u64 E, .slice (some ⟨g, 0, none⟩) n n], .int .i64 0]) ∧ OwnsWords n₀ S (.slice (some ⟨g, 0, none⟩) n n) w'
  else e = .returned (.tuple #[.agg #[.int .u64 0, .slice none 0 0], .int .i64 230])
set_option maxHeartbeats 4000000 in
theorem Try.handOf_any (E : Int) (h0 : 0 ≤ E) (a : Option Addr) (n c : Nat) (S : List Int) (w : World) (hI : WordsAt w (.slice a n c) S) :
    Calls Try.prog 36 #[.agg #[.int .u64 E, .slice a n c]] w fun e w' => HofQ w.heap.size E S e w' ∧ Below w.heap.size w w' := by
  obtain ⟨i0, hi, hz0, hz1, hz2⟩ := info_parts Try.infoWord
  have hn := (wordsAt_len hI).1
  obtain ⟨W0, hW0⟩ : ∃ W, W = (w.alloc (.cells #[.int .u64 E, .slice a n c] 25)).alloc (.cells #[.int .u64 0, .slice none 0 0] 67) := ⟨_, rfl⟩
  have hB0 : Below w.heap.size w W0 := by rw [hW0]; exact (Rows8.newB).alloc (by simp) _
  have hP0 : Rows8 W0 w.heap.size 25 #[.int .u64 E, .slice a n c] := by rw [hW0]; exact (Rows8.new _ _ _).alloc _
  have hH0 : Rows8 W0 (w.heap.size + 1) 67 #[.int .u64 0, .slice none 0 0] := by rw [hW0]; exact rows_new2 _ _ _ _
  have HC := Lib.hid (Try.Check_any E h0 a n c S W0 (RowAt.below hI hB0))
  have HB0 := Lib.hid hB0
  have HP0 := Lib.hid hP0
  have HH0 := Lib.hid hH0
  have HI := Lib.hid hI
  have HN := Lib.hid hn
  have c0 : W0.cell? ⟨w.heap.size, 0, none⟩ = some (.int .u64 E) := hP0.cell 0
  have c1 : W0.cell? ⟨w.heap.size, 1, none⟩ = some (.slice a n c) := hP0.cell 1
  have hr8 := fun h : rightN E S = true => right_len h
  unfold HofQ
  obtain ⟨r, hr⟩ : ∃ r, r = rightN E S := ⟨_, rfl⟩
  rw [← hr] at HC hr8
  rw [← hr]
  have HR8 := Lib.hid hr8
  clear hr hB0 hP0 hH0 hI hn hr8
  go_enter Try.func36, Try.ntmps36
  go_wp2_with fail
  rw [← hW0]
  clear hW0
  refine HC.out.mono ?_
  rintro e w1 ⟨rfl, hB1⟩
  have hp1 := HP0.out.below hB1 HP0.out.lt
  have hh1 := HH0.out.below hB1 HH0.out.lt
  have HP1 := Lib.hid hp1
  have HH1 := Lib.hid hh1
  have hb1 := HB0.out.trans (hB1.mono HB0.out.size)
  have k0 : w1.cell? ⟨w.heap.size, 0, none⟩ = some (.int .u64 E) := hp1.cell 0
  have k1 : w1.cell? ⟨w.heap.size, 1, none⟩ = some (.slice a n c) := hp1.cell 1
  have q0 : w1.cell? ⟨w.heap.size + 1, 0, none⟩ = some (.int .u64 0) := hh1.cell 0
  have q1 : w1.cell? ⟨w.heap.size + 1, 1, none⟩ = some (.slice none 0 0) := hh1.cell 1
  have f0 := hh1.frozen 0
  have f1 := hh1.frozen 1
  have HB1 := Lib.hid hb1
  have HI1 := Lib.hid (RowAt.below HI.out hb1)
  clear hp1 hh1 hB1 c0 c1 HP0 HH0 HB0 HC hb1
  cases r with
  | false =>
    have HS := Lib.hid (HH1.out.set2 (.int .u64 0) (.slice none 0 0))
    have HB3 := Lib.hid ((HB1.out.setCell (p := ⟨w.heap.size + 1, 0, none⟩) (by simp) (.int .u64 0)).setCell (p := ⟨w.heap.size + 1, 1, none⟩) (by simp) (.slice none 0 0))
    go_wp2_with fail
    refine bodyPost_ret (results_ctA rfl _ _ (w.heap.size + 1) _ _ rfl rfl (load_row HS.out Try.underlying67 rfl (by kernel_rfl))) rfl ?_
    exact ⟨rfl, HB3.out⟩
  | true =>
    have hn8 : n ≤ 8 := by have := HR8.out rfl; have := HN.out; omega
    go_wp2_with (refine wpList_make_full _ rfl _ _ 23 rfl w.heap.size 22 i0 (.int .u64 0) 1 Try.underlying23 hi hz0 hz1 .i64 .i64 (n : Int) (n : Int) n rfl rfl rfl rfl (by rw [hz2]; omega) (by unfold maxLen; omega) (by have := HB1.out.size; omega) ?_)
    intro w2 hown hgr
    have hB2 : Below w1.heap.size w1 w2 := (Below.refl _ w1).grown hgr (Nat.le_refl _) (fun j ej => by cases ej)
    obtain ⟨cur, hcur, hcsz⟩ : ∃ cur, w2.heap[w1.heap.size]? = some (.cells cur 22 (0, 0)) ∧ cur.size = n * 1 := by
      rcases hown.2 with ⟨h0, _⟩ | ⟨g, cp, cur, h0, _, hh, _, _, hsz, _⟩
      · cases h0
      · cases h0; exact ⟨cur, hh, hsz⟩
    have hI2 : WordsAt w2 (.slice a n c) S := RowAt.below HI1.out hB2
    obtain ⟨w3, hcp, ho3, hB3⟩ : ∃ w3, (Builtin.copy_ #[23, 23] 3 #[.slice (some ⟨w1.heap.size, 0, none⟩) n n, .slice a n c]).run Try.prog w2 = .ok (goInt n) w3 ∧ OwnsWords w1.heap.size S (.slice (some ⟨w1.heap.size, 0, none⟩) n n) w3 ∧ Below w1.heap.size w1 w3 := by
      have hcl : (wordVals S).length = n := by rw [wordVals_length, HN.out]
      cases a with
      | none =>
        obtain ⟨_, a', cap', e, h2, _, h4, _⟩ := HI1.out
        have hz : c = 0 ∧ n ≤ c := by
          cases e
          exact ⟨h4 rfl, h2⟩
        obtain ⟨rfl, hnz⟩ := hz
        obtain rfl : n = 0 := by omega
        clear e h2 h4
        obtain rfl : S = [] := List.eq_nil_of_length_eq_zero HN.out.symm
        refine ⟨w2, run_copy_nil w2 23 23 3 22 w1.heap.size 0 0 1 Try.underlying23 (by rw [hi]; simp [hz1]), ?_, hB2⟩
        exact ⟨by simp [wordVals], .inr ⟨w1.heap.size, 0, cur, rfl, Nat.le_refl _, hcur, Nat.le_refl _, by unfold maxLen; omega, by simpa using hcsz, by simp [wordVals]⟩⟩
      | some x =>
        have hcp := run_copy_rowK (P := Try.prog) w2 23 23 3 22 w1.heap.size 0 n n x n c cur 22 (wordVals S) 1 Try.underlying23 (by rw [hi]; simp [hz1]) hcur (by rw [show Nat.min n n = n from Nat.min_self n, Nat.mul_one]; exact hcl) (row_src (n := n) (by have h := hI2; unfold WordsAt at h; rw [← HN.out] at h; exact h)) (by omega) (wordVals_one S)
        have htk : (List.take 0 cur.toList ++ wordVals S ++ List.drop (0 + (wordVals S).length) cur.toList).toArray = (wordVals S).toArray := by
          rw [List.take_zero, List.nil_append, List.drop_of_length_le (by rw [Array.length_toList, hcsz]; omega), List.append_nil]
        rw [htk, show Nat.min n n = n from Nat.min_self n] at hcp
        have hr4 : (w2.setRow w1.heap.size (wordVals S).toArray).heap[w1.heap.size]? = some (.cells (wordVals S).toArray 22 (0, 0)) := setRow_heap _ w1.heap.size _ _ _ _ hcur
        refine ⟨_, hcp, ?_, below_setRow hB2 (Nat.le_refl _) (wordVals S).toArray⟩
        refine ⟨by rw [hcl, HN.out]; omega, .inr ⟨w1.heap.size, n, _, ?_, Nat.le_refl _, hr4, ?_, by unfold maxLen; omega, by simp [hcl], List.take_of_length_le (by simp [wordVals])⟩⟩
        · rw [← HN.out]
        · rw [← HN.out]; exact Nat.le_refl _
    have hp3 := HP1.out.below hB3 HP1.out.lt
    have hh3 := HH1.out.below hB3 HH1.out.lt
    have hb3 := HB1.out.trans (hB3.mono HB1.out.size)
    have ho4 : OwnsWords w.heap.size S (.slice (some ⟨w1.heap.size, 0, none⟩) n n) w3 := owns_mono ho3 HB1.out.size
    have z0 : w3.cell? ⟨w.heap.size, 0, none⟩ = some (.int .u64 E) := hp3.cell 0
    have z1 : w3.cell? ⟨w.heap.size, 1, none⟩ = some (.slice a n c) := hp3.cell 1
    have y0 : w3.cell? ⟨w.heap.size + 1, 0, none⟩ = some (.int .u64 0) := hh3.cell 0
    have y1 : w3.cell? ⟨w.heap.size + 1, 1, none⟩ = some (.slice none 0 0) := hh3.cell 1
    have fz := hp3.frozen 1
    have fy0 := hh3.frozen 0
    have fy1 := hh3.frozen 1
    have lz := hp3.lt
    have ly := hh3.lt
    -- the stores
    have s1 := hh3.setOther (a := ⟨w.heap.size, 1, none⟩) (by simp) (.slice (some ⟨w1.heap.size, 0, none⟩) n n)
    have t1 := s1.set2 (.int .u64 E) (.slice (some ⟨w1.heap.size, 0, none⟩) n n)
    have o1 := owns_setT ho4 (a := ⟨w.heap.size, 1, none⟩) hp3 (by decide) (.slice (some ⟨w1.heap.size, 0, none⟩) n n)
    have o2 := owns_setT o1 (a := ⟨w.heap.size + 1, 0, none⟩) s1 (by decide) (.int .u64 E)
    have o3 := owns_setT o2 (a := ⟨w.heap.size + 1, 1, none⟩) (s1.set 0 (.int .u64 E)) (by decide) (.slice (some ⟨w1.heap.size, 0, none⟩) n n)
    have b4 := ((hb3.setCell (p := ⟨w.heap.size, 1, none⟩) (by simp) (.slice (some ⟨w1.heap.size, 0, none⟩) n n)).setCell (p := ⟨w.heap.size + 1, 0, none⟩) (by simp) (.int .u64 E)).setCell (p := ⟨w.heap.size + 1, 1, none⟩) (by simp) (.slice (some ⟨w1.heap.size, 0, none⟩) n n)
    have HT1 := Lib.hid t1
    have HO3 := Lib.hid o3
    have HB4 := Lib.hid b4
    have HCP := Lib.hid hcp
    -- the copy's world stands where the pins' slice is read
    have hp2 := HP1.out.below hB2 HP1.out.lt
    have x1 : w2.cell? ⟨w.heap.size, 1, none⟩ = some (.slice a n c) := hp2.cell 1
    clear s1 t1 o1 o2 o3 b4 hcp hp3 hh3 hb3 ho3 ho4 hB3 hB2 hp2 hown hgr hcur hcsz k0 k1 q0 q1 f0 f1 HP1 HH1 HI1 hI2
    go_wp2_with (refine wpList_copyK rfl _ _ _ _ rfl _ _ rfl rfl _ _ HCP.out ?_)
    refine bodyPost_ret (results_ctA rfl _ _ (w.heap.size + 1) _ _ rfl rfl (load_row HT1.out Try.underlying67 rfl (by kernel_rfl))) rfl ?_
    exact ⟨⟨_, _, rfl, HO3.out⟩, HB4.out⟩
end Go.Proofs
