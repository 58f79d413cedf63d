/- Next; few; wakes. -/
import Derived.Test.YtbipekpohocjdaaDoorGk
import Derived.Test.YtbipekpohocjdaaDoorGh
import Derived.Test.YtbipekpohocjdaaDoorGe
import Derived.Test.YtbipekpohocjdaaDoorGd
namespace Go.Proofs
open Go.RowKit Go.Shelf
attribute [local go_sem] Oper.semAt_some

set_option maxHeartbeats 1000000 in
theorem Tryd.Next_any (z : Int) (a : Option Addr) (n cap : Nat) (l : List (Int × Int)) (w : World) (hI : PAt w (.slice a n cap) l) :
    Calls Tryd.prog 26 #[.slice a n cap, .int .i64 z] w fun e w' => e = .returned (.tuple #[.int .i64 (nextR l z), .int .i64 (nextE l z)]) ∧ Below w.heap.size w w' := by
  have HC := Lib.hid (Tryd.Check_any a n cap l w hI)
  have HS := fun w' => Lib.hid (Tryd.noStep_any z w')
  have HT := fun w' (hB : Below w.heap.size w w') => Lib.hid (Tryd.next_any z a n cap l w' (hI.below hB))
  have e1 : checkE l = if rightB l = true then 0 else 160 := rfl
  have e2 : nextE l z = if rightB l = true then (if stepB z = true then (nextB l z).2 else 2) else 160 := rfl
  have e3 : nextR l z = if rightB l = true then (if stepB z = true then (nextB l z).1 else 0) else 0 := rfl
  clear hI
  cases hr : rightB l with
  | false =>
    rw [hr, if_neg (by decide)] at e1 e2 e3
    rw [e2, e3]
    rw [e1] at HC
    clear e1 e2 e3 hr HS HT
    go_enter Tryd.func26, Tryd.ntmps26
    go_wp2_with fail
    refine HC.out.mono ?_
    rintro e w1 ⟨rfl, hB⟩
    go_wp2_with fail
    go_ret2
    exact ⟨rfl, hB⟩
  | true =>
    rw [hr, if_pos rfl] at e1 e2 e3
    rw [e1] at HC
    cases hs : stepB z with
    | false =>
      rw [hs, if_neg (by decide)] at e2 e3
      rw [e2, e3]
      rw [hs] at HS
      clear e1 e2 e3 hr hs HT
      go_enter Tryd.func26, Tryd.ntmps26
      go_wp2_with fail
      refine HC.out.mono ?_
      rintro e w1 ⟨rfl, hB⟩
      go_wp2_with fail
      refine (HS _).out.mono ?_
      rintro e w2 ⟨rfl, rfl⟩
      go_wp2_with fail
      go_ret2
      exact ⟨rfl, hB⟩
    | true =>
      rw [hs, if_pos rfl] at e2 e3
      rw [e2, e3]
      rw [hs] at HS
      clear e1 e2 e3 hr hs
      generalize nextB l z = r at *
      go_enter Tryd.func26, Tryd.ntmps26
      go_wp2_with fail
      refine HC.out.mono ?_
      rintro e w1 ⟨rfl, hB⟩
      go_wp2_with fail
      refine (HS _).out.mono ?_
      rintro e w2 ⟨rfl, rfl⟩
      go_wp2_with fail
      refine (HT _ hB).out.mono ?_
      rintro e w3 ⟨rfl, rfl⟩
      go_wp2_with fail
      go_ret2
      exact ⟨rfl, hB⟩

def FewQ (l : List (Int × Int)) (w : World) (e : Ending) (w' : World) : Prop := ∃ b c, e = .returned (.slice b l.length c) ∧ PAt w' (.slice b l.length c) l ∧ Below w.heap.size w w'
set_option maxHeartbeats 1000000 in
theorem Tryd.few_any (a : Option Addr) (n cap : Nat) (l : List (Int × Int)) (w : World) (hI : PAt w (.slice a n cap) l) :
    Calls Tryd.prog 12 #[.slice a n cap] w (FewQ (l.take 16) w) := by
  obtain ⟨hn, hnc, hcm⟩ := pAt_len hI
  unfold maxLen at hcm
  obtain ⟨m, hm⟩ : ∃ m, m = (l.take 16).length := ⟨_, rfl⟩
  have hm2 : m = min 16 n := by rw [hm, List.length_take, hn]
  have hP := pAt_cut hI m (by omega)
  have htk : l.take m = l.take 16 := by
    rw [hm2]
    rcases Nat.le_total 16 n with h | h
    · rw [Nat.min_eq_left h]
    · rw [Nat.min_eq_right h, List.take_of_length_le (by omega), List.take_of_length_le (by omega)]
  rw [htk] at hP
  have HC := Lib.hid (Tryd.cloneSection_any a m cap (l.take 16) hm (by omega) w hP)
  have HM := Lib.hid hm
  unfold FewQ
  rw [← hm]
  generalize l.take 16 = l' at *
  clear hI hn htk hP hm
  by_cases h : n ≤ 16
  · obtain rfl : m = n := by omega
    have f2 : ¬ (16 : Int) < (m : Int) := by omega
    have f3 : ¬ (cap : Int) < (m : Int) := by omega
    have f7 : min (m : Int) 16 = (m : Int) := by omega
    have f8 : (if (16 : Int) < (m : Int) then (16 : Int) else (m : Int)) = (m : Int) := by rw [if_neg (by omega)]
    clear hm2
    go_enter Tryd.func12, Tryd.ntmps12
    go_wp2_with fail
    refine HC.out.mono ?_
    rintro e w1 ⟨b, c, rfl, hP, hB⟩
    go_wp2_with fail
    go_ret
    exact ⟨b, c, rfl, hP, hB⟩
  · obtain rfl : m = 16 := by omega
    have f2 : (16 : Int) < (n : Int) := by omega
    have f3 : ¬ (cap : Int) < 16 := by omega
    have f8 : (if (16 : Int) < (n : Int) then (16 : Int) else (n : Int)) = 16 := by rw [if_pos (by omega)]
    clear hm2
    go_enter Tryd.func12, Tryd.ntmps12
    go_wp2_with fail
    refine HC.out.mono ?_
    rintro e w1 ⟨b, c, rfl, hP, hB⟩
    go_wp2_with fail
    go_ret
    exact ⟨b, c, rfl, hP, hB⟩

/-- A row that was laid just so. -/
theorem pAt_lit {W : World} {B : Nat} {t : TypeId} {cs : Array Value} (h : Rows8 W B t cs) (ks : List (Int × Int)) (hc : cs = (pVals ks).toArray) (hl : ks.length ≤ 1000) : PAt W (.slice (some ⟨B, 0, none⟩) ks.length ks.length) ks := by
  refine ⟨pVals_length ks, _, ks.length, rfl, Nat.le_refl _, by unfold maxLen; omega, (fun e => by cases e), fun j hj => ⟨B, 0, rfl, h.lt, ?_⟩⟩
  rw [Nat.zero_add, h.cell j, hc]
  simp
theorem bAt_lit {W : World} {B : Nat} {t : TypeId} {cs : Array Value} (h : Rows8 W B t cs) (ks : List Bool) (hc : cs = (bVals ks).toArray) (hl : ks.length ≤ 1000) : BAt W (.slice (some ⟨B, 0, none⟩) ks.length ks.length) ks := by
  refine ⟨by rw [bVals_length, Nat.mul_one], _, ks.length, rfl, Nat.le_refl _, by unfold maxLen; omega, (fun e => by cases e), fun j hj => ⟨B, 0, rfl, h.lt, ?_⟩⟩
  rw [Nat.zero_add, h.cell j, hc]
  simp

def twoL : List (Int × Int) := [(3, 5), (8, 0)]
/-- The chapter's sections stand where they were laid. -/
structure TwoAt (w : World) : Prop where
  lt : 0 < w.heap.size
  ex : ∃ x c, w.cell? ⟨0, 0, none⟩ = some (.slice x 2 c) ∧ PAt w (.slice x 2 c) twoL
theorem TwoAt.below {w w' : World} (h : TwoAt w) (hB : Below w.heap.size w w') : TwoAt w' := by
  obtain ⟨h0, x, c, h1, h2⟩ := h
  exact ⟨Nat.lt_of_lt_of_le h0 hB.size, x, c, (hB.cell (p := ⟨0, 0, none⟩) h0).trans h1, h2.below hB⟩
set_option maxRecDepth 100000 in
set_option maxHeartbeats 4000000 in
theorem Tryd.wakes_any (w : World) (h2 : TwoAt w) : Calls Tryd.prog 8 #[] w fun e w' => e = .returned (.bool true) ∧ Below w.heap.size w w' := by
  obtain ⟨h0, x, c, hc, hP⟩ := h2
  have g0 := fun w' (hB : Below w.heap.size w w') => (hB.cell (p := ⟨0, 0, none⟩) h0).trans hc
  have k1 := fun w' (hB : Below w.heap.size w w') => Tryd.Count_any 9 x 2 c twoL w' (hP.below hB)
  have k2 := fun w' a (hB : Below w.heap.size w w') (hK : PAt w' (.slice a 4 4) [(1, 2), (2, 5), (5, 7), (9, 9)]) => Tryd.Reads_any x 2 c twoL (by decide) a 4 4 [(1, 2), (2, 5), (5, 7), (9, 9)] (by decide) w' (hP.below hB) hK
  have k3 := fun w' (hB : Below w.heap.size w w') => Tryd.Spans_any 1 10 x 2 c twoL (by decide) w' (hP.below hB)
  have k4 := fun w' (hB : Below w.heap.size w w') => Tryd.Next_any 3 x 2 c twoL w' (hP.below hB)
  have k5 := fun w' (hB : Below w.heap.size w w') => Tryd.Next_any 8 x 2 c twoL w' (hP.below hB)
  have k6 := fun w' => Tryd.Open_any 2 (by decide) w'
  have k7 := fun w' => Tryd.Close_any 3 (by decide) w'
  have k8 := fun w' => Tryd.Good_any 2 2 (by decide) w'
  have k9 := fun w' => Tryd.Good_any 3 3 (by decide) w'
  have k10 := fun w' (hB : Below w.heap.size w w') => Tryd.Clear_any 5 7 x 2 c twoL (by decide) w' (hP.below hB)
  rw [show countR twoL 9 = 3 by decide, show countE twoL 9 = 0 by decide] at k1
  rw [show readsR twoL [(1, 2), (2, 5), (5, 7), (9, 9)] = [true, false, true, false] by decide, show readsE twoL [(1, 2), (2, 5), (5, 7), (9, 9)] = 0 by decide] at k2
  rw [show spansR twoL 1 10 = [(1, 2), (5, 7)] by decide, show spansE twoL 1 10 = 0 by decide] at k3
  rw [show nextR twoL 3 = 5 by decide, show nextE twoL 3 = 0 by decide] at k4
  rw [show nextR twoL 8 = 0 by decide, show nextE twoL 8 = 4 by decide] at k5
  rw [show openR 2 = (3, 0) by decide] at k6
  rw [show shutR 3 = (4, 0) by decide] at k7
  rw [show goodB 2 2 = true by decide] at k8
  rw [show goodB 3 3 = false by decide] at k9
  rw [show clearR twoL 5 7 = true by decide] at k10
  have K1 := Lib.hid k1
  have K2 := Lib.hid k2
  have K3 := Lib.hid k3
  have K4 := Lib.hid k4
  have K5 := Lib.hid k5
  have K6 := Lib.hid k6
  have K7 := Lib.hid k7
  have K8 := Lib.hid k8
  have K9 := Lib.hid k9
  have K10 := Lib.hid k10
  clear k1 k2 k3 k4 k5 k6 k7 k8 k9 k10 hP
  go_enter Tryd.func8, Tryd.ntmps8
  go_wp2_with fail
  refine (K1.out w (Below.refl _ _)).mono ?_
  rintro e w1 ⟨rfl, hB1⟩
  have c1 := g0 w1 hB1
  have HB1 := Lib.hid hB1
  clear hB1
  go_wp2_with fail
  have b1 := Rows8.new w1 44 #[.int .i64 1, .int .i64 2, .int .i64 2, .int .i64 5, .int .i64 5, .int .i64 7, .int .i64 9, .int .i64 9]
  have hB2 := HB1.out.alloc HB1.out.size (.cells #[.int .i64 1, .int .i64 2, .int .i64 2, .int .i64 5, .int .i64 5, .int .i64 7, .int .i64 9, .int .i64 9] 44)
  have HK2 := Lib.hid (K2.out _ _ hB2 (pAt_lit b1 _ rfl (by decide)))
  have HB2 := Lib.hid hB2
  clear hB2 b1
  refine HK2.out.mono ?_
  rintro e w2 ⟨x2, c2, rfl, hR2, hB2⟩
  have HR2 := Lib.hid hR2
  have hb2 := HB2.out.trans (hB2.mono HB2.out.size)
  have c2' := g0 w2 hb2
  have HB3 := Lib.hid hb2
  clear hB2 hb2 hR2 HK2
  go_wp2_with fail
  refine (K3.out _ HB3.out).mono ?_
  rintro e w3 ⟨x3, c3, rfl, hR3, hB⟩
  have HR3 := Lib.hid hR3
  have HR23 := Lib.hid (RowAt.below HR2.out hB)
  have hb3 := HB3.out.trans (hB.mono HB3.out.size)
  have c3' := g0 w3 hb3
  have HB4 := Lib.hid hb3
  clear hB hb3 hR3
  go_wp2_with fail
  refine (K4.out _ HB4.out).mono ?_
  rintro e w4 ⟨rfl, hB⟩
  have HR24 := Lib.hid (RowAt.below HR23.out hB)
  have HR34 := Lib.hid (RowAt.below HR3.out hB)
  have hb4 := HB4.out.trans (hB.mono HB4.out.size)
  have c4' := g0 w4 hb4
  have HB5 := Lib.hid hb4
  clear hB hb4
  go_wp2_with fail
  refine (K5.out _ HB5.out).mono ?_
  rintro e w5 ⟨rfl, hB⟩
  have HR25 := Lib.hid (RowAt.below HR24.out hB)
  have HR35 := Lib.hid (RowAt.below HR34.out hB)
  have hb5 := HB5.out.trans (hB.mono HB5.out.size)
  have c5' := g0 w5 hb5
  have HB6 := Lib.hid hb5
  clear hB hb5
  go_wp2_with fail
  refine (K6.out _).mono ?_
  rintro e w6 ⟨rfl, rfl⟩
  go_wp2_with fail
  refine (K7.out _).mono ?_
  rintro e w6 ⟨rfl, rfl⟩
  go_wp2_with fail
  have b6 := Rows8.new w5 4 #[.bool true, .bool false, .bool true, .bool false]
  have hBn : Below w5.heap.size w5 (w5.alloc (.cells #[.bool true, .bool false, .bool true, .bool false] 4)) := Rows8.newB
  have HE := Lib.hid (Tryd.equalBools_any x2 (some ⟨w5.heap.size, 0, none⟩) 4 4 c2 4 [true, false, true, false] [true, false, true, false] _ (RowAt.below HR25.out hBn) (bAt_lit b6 _ rfl (by decide)) (by decide) (by decide))
  have HR36 := Lib.hid (RowAt.below HR35.out hBn)
  have HB7 := Lib.hid (HB6.out.trans (hBn.mono HB6.out.size))
  clear b6 hBn
  refine HE.out.mono ?_
  rintro e w7 ⟨rfl, hB⟩
  have HR37 := Lib.hid (RowAt.below HR36.out hB)
  have HB8 := Lib.hid (HB7.out.trans (hB.mono HB7.out.size))
  clear hB HE
  go_wp2_with fail
  have b8 := Rows8.new w7 44 #[.int .i64 1, .int .i64 2, .int .i64 5, .int .i64 7]
  have hBn : Below w7.heap.size w7 (w7.alloc (.cells #[.int .i64 1, .int .i64 2, .int .i64 5, .int .i64 7] 44)) := Rows8.newB
  have HE := Lib.hid (Tryd.equalLook_any x3 (some ⟨w7.heap.size, 0, none⟩) 2 2 c3 2 [(1, 2), (5, 7)] [(1, 2), (5, 7)] _ (RowAt.below HR37.out hBn) (pAt_lit b8 _ rfl (by decide)) (by decide) (by decide))
  have HB9 := Lib.hid (HB8.out.trans (hBn.mono HB8.out.size))
  clear b8 hBn
  refine HE.out.mono ?_
  rintro e w9 ⟨rfl, hB⟩
  have hb9 := HB9.out.trans (hB.mono HB9.out.size)
  have c9 := g0 w9 hb9
  have HB10 := Lib.hid hb9
  clear hB HE hb9
  go_wp2_with fail
  refine (K8.out _).mono ?_
  rintro e w6 ⟨rfl, rfl⟩
  go_wp2_with fail
  refine (K9.out _).mono ?_
  rintro e w6 ⟨rfl, rfl⟩
  go_wp2_with fail
  refine (K10.out _ HB10.out).mono ?_
  rintro e w10 ⟨rfl, hB⟩
  have HB11 := Lib.hid (HB10.out.trans (hB.mono HB10.out.size))
  clear hB
  go_wp2_with fail
  go_ret
  exact ⟨rfl, HB11.out⟩
end Go.Proofs
