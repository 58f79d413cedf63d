/- Proved: for every limbo, honeycomblaw14.LimboEnds returns true, and its argument reads as it did; the listed variable reads as the program's text lays it. -/
import Derived.Test.YteamlomcdiomkaaDoorLv
import Derived.SevenTiedAt
import Derived.Stop.Joined
import Derived.Test.YteamlomcdiomkaaDoorCards
import Derived.Test.YteamlomcdiomkaaDoorTie
namespace Go.Proofs.YteamlomcdiomkaaDoor.limboEnds
open Go.ChangeShapes Go.WideShapes Go.ChangeAt Go.RowKit Go.Shelf
attribute [local go_sem] Oper.semAt_some

set_option maxRecDepth 100000 in
set_option maxHeartbeats 16000000 in
theorem walk (E : Nat) (s : Ls) (r : Rw3) (w : World) (hT : OnAt w) (hI : LAt w s r) (hE : E < 18446744073709551616) (_ : r 3 = []) :
    Calls Tryd.prog 6 #[.agg #[.int .u64 (E : Nat), .slice (s.a 0) (s.n 0) (s.c 0), .slice (s.a 1) (s.n 1) (s.c 1), .slice (s.a 2) (s.n 2) (s.c 2)]] w fun e w' => e = .returned (.bool true) ∧ Below w.heap.size w w' := by
  obtain ⟨W0, hW0⟩ : ∃ W, W = w.alloc (.cells #[.int .u64 (E : Nat), .slice (s.a 0) (s.n 0) (s.c 0), .slice (s.a 1) (s.n 1) (s.c 1), .slice (s.a 2) (s.n 2) (s.c 2)] 26) := ⟨_, rfl⟩
  have hB0 : Below w.heap.size w W0 := by rw [hW0]; exact Rows8.newB
  have hk0 : Rows8 W0 w.heap.size 26 #[.int .u64 (E : Nat), .slice (s.a 0) (s.n 0) (s.c 0), .slice (s.a 1) (s.n 1) (s.c 1), .slice (s.a 2) (s.n 2) (s.c 2)] := by rw [hW0]; exact Rows8.new _ _ _
  have HW := Lib.hid (Tryd.wakes_any W0 (hT.below hB0))
  have HI := Lib.hid (hI.below hB0)
  have HT := Lib.hid (hT.below hB0)
  have HK := Lib.hid hk0
  have HB := Lib.hid hB0
  have HE := Lib.hid hE
  clear hT hI hk0 hB0 hE
  go_enter Tryd.func6, Tryd.ntmps6
  go_wp2_with fail
  rw [← hW0]
  clear hW0
  refine HW.out.mono ?_
  rintro e W1 ⟨rfl, hB1⟩
  have hk := HK.out.below hB1 HK.out.lt
  have hi := HI.out.below hB1
  have HT1 := Lib.hid (HT.out.below hB1)
  have HB1 := Lib.hid (HB.out.trans (hB1.mono HB.out.size))
  have c0 : W1.cell? ⟨w.heap.size, 0, none⟩ = some (.int .u64 (E : Nat)) := hk.cell 0
  have c1 : W1.cell? ⟨w.heap.size, 1, none⟩ = some (.slice (s.a 0) (s.n 0) (s.c 0)) := hk.cell 1
  have c2 : W1.cell? ⟨w.heap.size, 2, none⟩ = some (.slice (s.a 1) (s.n 1) (s.c 1)) := hk.cell 2
  have c3 : W1.cell? ⟨w.heap.size, 3, none⟩ = some (.slice (s.a 2) (s.n 2) (s.c 2)) := hk.cell 3
  have lt1 := hk.lt
  have HO := Lib.hid (Tryd.own_any E s r W1 hi)
  clear hB1 hk hi HK HI HT HB HW
  go_wp2_with fail
  refine HO.out.mono ?_
  rintro e W2 ⟨s2, rfl, hl, hB2⟩
  have HL2 := Lib.hid hl
  have HB2 := Lib.hid (HB1.out.trans (hB2.mono HB1.out.size))
  have HT2 := Lib.hid (HT1.out.below hB2)
  clear hl hB2 HO c0 c1 c2 c3 lt1
  obtain ⟨u, hu⟩ : ∃ u, u = ownR r := ⟨_, rfl⟩
  have U3 := Lib.hid (show u 3 = [] by rw [hu]; rfl)
  rw [← hu] at HL2
  go_wp2_with fail
  obtain ⟨W3, hW3⟩ : ∃ W, W = W2.alloc (.cells #[.int .u64 (E : Nat), .slice (s2.a 0) (s2.n 0) (s2.c 0), .slice (s2.a 1) (s2.n 1) (s2.c 1), .slice (s2.a 2) (s2.n 2) (s2.c 2)] 26) := ⟨_, rfl⟩
  rw [← hW3]
  have hB3 : Below W2.heap.size W2 W3 := by rw [hW3]; exact Rows8.newB
  have R3 : Hid (Rows8 W3 W2.heap.size 26 #[.int .u64 (E : Nat), .slice (s2.a 0) (s2.n 0) (s2.c 0), .slice (s2.a 1) (s2.n 1) (s2.c 1), .slice (s2.a 2) (s2.n 2) (s2.c 2)]) := Lib.hid (by rw [hW3]; exact Rows8.new _ _ _)
  have HL3 := Lib.hid (HL2.out.below hB3)
  have HB3 := Lib.hid (HB2.out.trans (hB3.mono HB2.out.size))
  have HT3 := Lib.hid (HT2.out.below hB3)
  have HH := Lib.hid (Tryd.Held_any E s2 u W3 HL3.out.at HE.out)
  obtain ⟨l, hl⟩ : ∃ l, l = (if rightL E u then heldL E u else []) := ⟨_, rfl⟩
  rw [← hl] at HH
  have HL := Lib.hid hl
  clear hl hB3 hW3 HL2 HB2 HT2
  refine HH.out.mono ?_
  rintro e W4 ⟨v, rfl, hv, hB⟩
  obtain ⟨a4, c4, rfl⟩ := hv.form
  have hr := R3.out.below hB R3.out.lt
  have HL4 := Lib.hid (HL3.out.below hB)
  have HB4 := Lib.hid (HB3.out.trans (hB.mono HB3.out.size))
  have HT4 := Lib.hid (HT3.out.below hB)
  have HV4 := Lib.hid hv
  have c0 : W4.cell? ⟨W2.heap.size, 0, none⟩ = some (.int .u64 (E : Nat)) := hr.cell 0
  have c1 : W4.cell? ⟨W2.heap.size, 1, none⟩ = some (.slice (s2.a 0) (s2.n 0) (s2.c 0)) := hr.cell 1
  have c2 : W4.cell? ⟨W2.heap.size, 2, none⟩ = some (.slice (s2.a 1) (s2.n 1) (s2.c 1)) := hr.cell 2
  have c3 : W4.cell? ⟨W2.heap.size, 3, none⟩ = some (.slice (s2.a 2) (s2.n 2) (s2.c 2)) := hr.cell 3
  have lt4 := hr.lt
  have R4 := Lib.hid hr
  have g0 := HT4.out.c0
  have g1 := HT4.out.c1
  have lg := HT4.out.lt
  clear hv hB HH R3 HL3 HB3 HT3 hr
  go_wp2_with fail
  obtain ⟨W5, hW5⟩ : ∃ W, W = W4.alloc (.cells #[.int .i64 (-1), .int .u64 0, .int .i64 (-1), .int .u64 0, .int .i64 (-1), .int .u64 0] 38) := ⟨_, rfl⟩
  rw [← hW5]
  have hB5 : Below W4.heap.size W4 W5 := by rw [hW5]; exact Rows8.newB
  have hp5 : PAt W5 (.slice (some ⟨W4.heap.size, 0, none⟩) 3 3) [onE, onE, onE] := by rw [hW5]; exact lit_ents W4 [onE, onE, onE] (by decide)
  have HRun := Lib.hid (Tryd.Run_any E s2 u _ 3 3 [onE, onE, onE] W5 (HL4.out.below hB5).at HE.out U3.out hp5 (by decide))
  have R5 := Lib.hid (R4.out.below hB5 R4.out.lt)
  have HL5 := Lib.hid (HL4.out.below hB5)
  have HB5 := Lib.hid (HB4.out.trans (hB5.mono HB4.out.size))
  have HV5 := Lib.hid (HV4.out.below hB5 (Nat.le_refl _))
  obtain ⟨T, hT⟩ : ∃ T, T = tryL E u (runL E u [onE, onE, onE]) := ⟨_, rfl⟩
  rw [← hT] at HRun
  have HC : Hid ((rightL E u = false ∧ T.1 = 240) ∨ (rightL E u = true ∧ T.1 = 6 ∧ 4611686018427387904 < E + 3 ∧ E ≤ 4611686018427387904) ∨ (rightL E u = true ∧ T.1 = 0 ∧ T.2.1 = E + 3 ∧ T.2.2 3 = l ∧ heldL (E + 3) T.2.2 = [] ∧ E + 3 ≤ 4611686018427387904 ∧ l.length ≤ 128)) := Lib.hid (by
    have hl := HL.out
    cases hr : rightL E u with
    | false => exact .inl ⟨rfl, by rw [hT]; unfold tryL; rw [hr]; rfl⟩
    | true =>
      rw [hr, if_pos rfl] at hl
      have hEE := (rightL_iff.1 hr).1.1
      rcases ends_ok hr U3.out with ⟨h1, h2, h3, h4, h5⟩ | ⟨h1, h2⟩
      · have e : T = runL E u [onE, onE, onE] := by rw [hT]; unfold tryL; rw [hr, if_pos rfl, if_pos h1]
        exact .inr (.inr ⟨rfl, by rw [e]; exact h1, by rw [e]; exact h2, by rw [e, h3, hl], by rw [e]; exact h4, h5, by rw [hl]; exact ends_len hr⟩)
      · exact .inr (.inl ⟨rfl, by rw [hT]; unfold tryL; rw [hr, if_pos rfl, if_neg (by rw [h1]; decide)]; exact h1, h2, hEE⟩))
  clear hB5 hp5 hT HL4 HB4 HT4 HV4 R4 c0 c1 c2 c3 lt4 g0 g1 lg hW5 HL
  refine HRun.out.mono ?_
  rintro e W6 ⟨⟨s6, v6, rfl, hl6, hv6⟩, hB6⟩
  obtain ⟨a6, c6, rfl, _⟩ := hv6.form
  have hr := R5.out.below hB6 R5.out.lt
  have HL6 := Lib.hid (HL5.out.below hB6)
  have HB6 := Lib.hid (HB5.out.trans (hB6.mono HB5.out.size))
  have HV6 := Lib.hid (HV5.out.below hB6 (Nat.le_refl _))
  have HN6 := Lib.hid hl6
  have HT6 := Lib.hid hv6
  obtain ⟨t1, t2, t3⟩ := T
  clear hl6 hv6 hB6 HRun R5 HL5 HB5 HV5
  rcases HC.out with ⟨hq, hz⟩ | ⟨hq, hz, hmx, hEm⟩ | ⟨hq, hz, h2, h3, h4, h5, h6⟩
  · simp only at hz
    subst hz
    clear HC
    have c0 : (W6.alloc (.cells #[.int .u64 (t2 : Nat), .slice (s6.a 0) (s6.n 0) (s6.c 0), .slice (s6.a 1) (s6.n 1) (s6.c 1), .slice (s6.a 2) (s6.n 2) (s6.c 2)] 26)).cell? ⟨W2.heap.size, 0, none⟩ = some (.int .u64 (E : Nat)) := (hr.alloc _).cell 0
    have c1 : (W6.alloc (.cells #[.int .u64 (t2 : Nat), .slice (s6.a 0) (s6.n 0) (s6.c 0), .slice (s6.a 1) (s6.n 1) (s6.c 1), .slice (s6.a 2) (s6.n 2) (s6.c 2)] 26)).cell? ⟨W2.heap.size, 1, none⟩ = some (.slice (s2.a 0) (s2.n 0) (s2.c 0)) := (hr.alloc _).cell 1
    have c2 : (W6.alloc (.cells #[.int .u64 (t2 : Nat), .slice (s6.a 0) (s6.n 0) (s6.c 0), .slice (s6.a 1) (s6.n 1) (s6.c 1), .slice (s6.a 2) (s6.n 2) (s6.c 2)] 26)).cell? ⟨W2.heap.size, 2, none⟩ = some (.slice (s2.a 1) (s2.n 1) (s2.c 1)) := (hr.alloc _).cell 2
    have c3 : (W6.alloc (.cells #[.int .u64 (t2 : Nat), .slice (s6.a 0) (s6.n 0) (s6.c 0), .slice (s6.a 1) (s6.n 1) (s6.c 1), .slice (s6.a 2) (s6.n 2) (s6.c 2)] 26)).cell? ⟨W2.heap.size, 3, none⟩ = some (.slice (s2.a 2) (s2.n 2) (s2.c 2)) := (hr.alloc _).cell 3
    have lt7 := (hr.alloc (.cells #[.int .u64 (t2 : Nat), .slice (s6.a 0) (s6.n 0) (s6.c 0), .slice (s6.a 1) (s6.n 1) (s6.c 1), .slice (s6.a 2) (s6.n 2) (s6.c 2)] 26)).lt
    have HB7 := Lib.hid (HB6.out.alloc HB6.out.size (.cells #[.int .u64 (t2 : Nat), .slice (s6.a 0) (s6.n 0) (s6.c 0), .slice (s6.a 1) (s6.n 1) (s6.c 1), .slice (s6.a 2) (s6.n 2) (s6.c 2)] 26))
    have hB7 : Below W6.heap.size W6 (W6.alloc (.cells #[.int .u64 (t2 : Nat), .slice (s6.a 0) (s6.n 0) (s6.c 0), .slice (s6.a 1) (s6.n 1) (s6.c 1), .slice (s6.a 2) (s6.n 2) (s6.c 2)] 26)) := Rows8.newB
    have HC := Lib.hid (Tryd.Check_any E s2 u (W6.alloc (.cells #[.int .u64 (t2 : Nat), .slice (s6.a 0) (s6.n 0) (s6.c 0), .slice (s6.a 1) (s6.n 1) (s6.c 1), .slice (s6.a 2) (s6.n 2) (s6.c 2)] 26)) (HL6.out.below hB7).at HE.out)
    rw [hq] at HC
    clear hB7
    go_wp2_with fail
    refine HC.out.mono ?_
    rintro e W8 ⟨rfl, hB8⟩
    have HB8 := Lib.hid (HB7.out.trans (hB8.mono HB7.out.size))
    go_wp2_with fail
    go_ret
    exact ⟨rfl, HB8.out⟩
  · simp only at hz
    subst hz
    clear HC
    have c0 : (W6.alloc (.cells #[.int .u64 (t2 : Nat), .slice (s6.a 0) (s6.n 0) (s6.c 0), .slice (s6.a 1) (s6.n 1) (s6.c 1), .slice (s6.a 2) (s6.n 2) (s6.c 2)] 26)).cell? ⟨W2.heap.size, 0, none⟩ = some (.int .u64 (E : Nat)) := (hr.alloc _).cell 0
    have c1 : (W6.alloc (.cells #[.int .u64 (t2 : Nat), .slice (s6.a 0) (s6.n 0) (s6.c 0), .slice (s6.a 1) (s6.n 1) (s6.c 1), .slice (s6.a 2) (s6.n 2) (s6.c 2)] 26)).cell? ⟨W2.heap.size, 1, none⟩ = some (.slice (s2.a 0) (s2.n 0) (s2.c 0)) := (hr.alloc _).cell 1
    have c2 : (W6.alloc (.cells #[.int .u64 (t2 : Nat), .slice (s6.a 0) (s6.n 0) (s6.c 0), .slice (s6.a 1) (s6.n 1) (s6.c 1), .slice (s6.a 2) (s6.n 2) (s6.c 2)] 26)).cell? ⟨W2.heap.size, 2, none⟩ = some (.slice (s2.a 1) (s2.n 1) (s2.c 1)) := (hr.alloc _).cell 2
    have c3 : (W6.alloc (.cells #[.int .u64 (t2 : Nat), .slice (s6.a 0) (s6.n 0) (s6.c 0), .slice (s6.a 1) (s6.n 1) (s6.c 1), .slice (s6.a 2) (s6.n 2) (s6.c 2)] 26)).cell? ⟨W2.heap.size, 3, none⟩ = some (.slice (s2.a 2) (s2.n 2) (s2.c 2)) := (hr.alloc _).cell 3
    have lt7 := (hr.alloc (.cells #[.int .u64 (t2 : Nat), .slice (s6.a 0) (s6.n 0) (s6.c 0), .slice (s6.a 1) (s6.n 1) (s6.c 1), .slice (s6.a 2) (s6.n 2) (s6.c 2)] 26)).lt
    have HB7 := Lib.hid (HB6.out.alloc HB6.out.size (.cells #[.int .u64 (t2 : Nat), .slice (s6.a 0) (s6.n 0) (s6.c 0), .slice (s6.a 1) (s6.n 1) (s6.c 1), .slice (s6.a 2) (s6.n 2) (s6.c 2)] 26))
    have hB7 : Below W6.heap.size W6 (W6.alloc (.cells #[.int .u64 (t2 : Nat), .slice (s6.a 0) (s6.n 0) (s6.c 0), .slice (s6.a 1) (s6.n 1) (s6.c 1), .slice (s6.a 2) (s6.n 2) (s6.c 2)] 26)) := Rows8.newB
    have HC := Lib.hid (Tryd.Check_any E s2 u (W6.alloc (.cells #[.int .u64 (t2 : Nat), .slice (s6.a 0) (s6.n 0) (s6.c 0), .slice (s6.a 1) (s6.n 1) (s6.c 1), .slice (s6.a 2) (s6.n 2) (s6.c 2)] 26)) (HL6.out.below hB7).at HE.out)
    rw [hq] at HC
    clear hB7
    go_wp2_with fail
    refine HC.out.mono ?_
    rintro e W8 ⟨rfl, hB8⟩
    have HB8 := Lib.hid (HB7.out.trans (hB8.mono HB7.out.size))
    have d0 := (hr.alloc (.cells #[.int .u64 (t2 : Nat), .slice (s6.a 0) (s6.n 0) (s6.c 0), .slice (s6.a 1) (s6.n 1) (s6.c 1), .slice (s6.a 2) (s6.n 2) (s6.c 2)] 26)).below hB8 (hr.alloc _).lt
    have c0 : W8.cell? ⟨W2.heap.size, 0, none⟩ = some (.int .u64 (E : Nat)) := d0.cell 0
    have lt8 := d0.lt
    clear d0 hB8
    have hgt : ((4611686018427387904 : Int) < ((E : Nat) : Int) + 3) := by omega
    go_wp2_with fail
    go_ret
    refine ⟨?_, HB8.out⟩
    simp [go_sem]
  · simp only at hz h2 h3 h4
    subst hz
    clear HC
    have H2 := Lib.hid h2
    clear h2
    have c0 : (W6.alloc (.cells #[.int .u64 (t2 : Nat), .slice (s6.a 0) (s6.n 0) (s6.c 0), .slice (s6.a 1) (s6.n 1) (s6.c 1), .slice (s6.a 2) (s6.n 2) (s6.c 2)] 26)).cell? ⟨W2.heap.size, 0, none⟩ = some (.int .u64 (E : Nat)) := (hr.alloc _).cell 0
    have c1 : (W6.alloc (.cells #[.int .u64 (t2 : Nat), .slice (s6.a 0) (s6.n 0) (s6.c 0), .slice (s6.a 1) (s6.n 1) (s6.c 1), .slice (s6.a 2) (s6.n 2) (s6.c 2)] 26)).cell? ⟨W2.heap.size, 1, none⟩ = some (.slice (s2.a 0) (s2.n 0) (s2.c 0)) := (hr.alloc _).cell 1
    have c2 : (W6.alloc (.cells #[.int .u64 (t2 : Nat), .slice (s6.a 0) (s6.n 0) (s6.c 0), .slice (s6.a 1) (s6.n 1) (s6.c 1), .slice (s6.a 2) (s6.n 2) (s6.c 2)] 26)).cell? ⟨W2.heap.size, 2, none⟩ = some (.slice (s2.a 1) (s2.n 1) (s2.c 1)) := (hr.alloc _).cell 2
    have c3 : (W6.alloc (.cells #[.int .u64 (t2 : Nat), .slice (s6.a 0) (s6.n 0) (s6.c 0), .slice (s6.a 1) (s6.n 1) (s6.c 1), .slice (s6.a 2) (s6.n 2) (s6.c 2)] 26)).cell? ⟨W2.heap.size, 3, none⟩ = some (.slice (s2.a 2) (s2.n 2) (s2.c 2)) := (hr.alloc _).cell 3
    have lt7 := (hr.alloc (.cells #[.int .u64 (t2 : Nat), .slice (s6.a 0) (s6.n 0) (s6.c 0), .slice (s6.a 1) (s6.n 1) (s6.c 1), .slice (s6.a 2) (s6.n 2) (s6.c 2)] 26)).lt
    have HB7 := Lib.hid (HB6.out.alloc HB6.out.size (.cells #[.int .u64 (t2 : Nat), .slice (s6.a 0) (s6.n 0) (s6.c 0), .slice (s6.a 1) (s6.n 1) (s6.c 1), .slice (s6.a 2) (s6.n 2) (s6.c 2)] 26))
    have hB7 : Below W6.heap.size W6 (W6.alloc (.cells #[.int .u64 (t2 : Nat), .slice (s6.a 0) (s6.n 0) (s6.c 0), .slice (s6.a 1) (s6.n 1) (s6.c 1), .slice (s6.a 2) (s6.n 2) (s6.c 2)] 26)) := Rows8.newB
    have HQ := Lib.hid (Tryd.equalEntry_any a6 a4 (t3 3).length l.length c6 c4 (t3 3) l (W6.alloc (.cells #[.int .u64 (t2 : Nat), .slice (s6.a 0) (s6.n 0) (s6.c 0), .slice (s6.a 1) (s6.n 1) (s6.c 1), .slice (s6.a 2) (s6.n 2) (s6.c 2)] 26)) (HT6.out.keep hB7 (Nat.le_refl _)).at (HV6.out.below hB7 (Nat.le_refl _)).at (by rw [h3]; omega) (by omega))
    rw [h3] at HQ
    go_wp2_with fail
    refine HQ.out.mono ?_
    rintro e W8 ⟨rfl, hB8⟩
    have HB8 := Lib.hid (HB7.out.trans (hB8.mono HB7.out.size))
    have HN8 := Lib.hid (((HN6.out.below hB7)).below hB8)
    have k0 := (Rows8.new W6 26 #[.int .u64 (t2 : Nat), .slice (s6.a 0) (s6.n 0) (s6.c 0), .slice (s6.a 1) (s6.n 1) (s6.c 1), .slice (s6.a 2) (s6.n 2) (s6.c 2)]).below hB8 (Rows8.new _ _ _).lt
    have d0 := (hr.alloc (.cells #[.int .u64 (t2 : Nat), .slice (s6.a 0) (s6.n 0) (s6.c 0), .slice (s6.a 1) (s6.n 1) (s6.c 1), .slice (s6.a 2) (s6.n 2) (s6.c 2)] 26)).below hB8 (hr.alloc _).lt
    have z0 : W8.cell? ⟨W6.heap.size, 0, none⟩ = some (.int .u64 (t2 : Nat)) := k0.cell 0
    have z1 : W8.cell? ⟨W6.heap.size, 1, none⟩ = some (.slice (s6.a 0) (s6.n 0) (s6.c 0)) := k0.cell 1
    have z2 : W8.cell? ⟨W6.heap.size, 2, none⟩ = some (.slice (s6.a 1) (s6.n 1) (s6.c 1)) := k0.cell 2
    have z3 : W8.cell? ⟨W6.heap.size, 3, none⟩ = some (.slice (s6.a 2) (s6.n 2) (s6.c 2)) := k0.cell 3
    have ltz := k0.lt
    have R8 := Lib.hid d0
    have K8 := Lib.hid k0
    have HD := Lib.hid (Tryd.Held_any t2 s6 t3 W8 HN8.out.at (by rw [H2.out]; omega))
    have hnil : (if rightL t2 t3 then heldL t2 t3 else []) = [] := by
      rw [H2.out, h4]
      split <;> rfl
    rw [hnil] at HD
    clear d0 k0 hB8 hB7 HQ c0 c1 c2 c3 lt7
    go_wp2_with fail
    refine HD.out.mono ?_
    rintro e W9 ⟨v9, rfl, hv9, hB9⟩
    obtain ⟨a9, c9, rfl⟩ := hv9.form
    have d0 := R8.out.below hB9 R8.out.lt
    have k0 := K8.out.below hB9 K8.out.lt
    have e0 : W9.cell? ⟨W2.heap.size, 0, none⟩ = some (.int .u64 (E : Nat)) := d0.cell 0
    have e1 : W9.cell? ⟨W6.heap.size, 0, none⟩ = some (.int .u64 (t2 : Nat)) := k0.cell 0
    have HB9 := Lib.hid (HB8.out.trans (hB9.mono HB8.out.size))
    have lt9 := d0.lt
    have lt10 := k0.lt
    have h2 := H2.out
    clear hv9 hB9 HD d0 k0 R8 K8 z0 z1 z2 z3 ltz
    go_wp2_with fail
    go_ret
    refine ⟨?_, HB9.out⟩
    simp [go_sem]
theorem own : ownKnob Tryd.prog.godebug = none := by kernel_rfl
theorem laidOut : laidOutB Tryd.prog = true := by kernel_rfl
set_option maxRecDepth 100000 in
theorem lifted (os : Os) (started : os.Started) (H : Type) (enc : TypeId × Value → H) :
    ReturnsInHanded {} Tryd.checked os 6 .any (fun w args => (Rows.limboEndsSpec.pre enc Tryd.prog Tryd.f6 [] false w args ∧ laidMetH Tryd.prog [("honeycomb/honeycomblaw14.on", Rows.laid_honeycomb_honeycomblaw14_on)] w) ∧ sizedMet enc Tryd.prog Tryd.f6 (OpenSpec.ofChange Rows.limboEndsSpec) false w args)
      (Rows.limboEndsSpec.post enc Tryd.prog Tryd.f6 false true false false) := by
  refine returnsInHanded_of_change_and (C := Tryd.checked) (X := fun w _ => laidMetH Tryd.prog [("honeycomb/honeycomblaw14.on", Rows.laid_honeycomb_honeycomblaw14_on)] w) (fun _ _ _ hh h => h.of_heap hh) own started (by kernel_rfl) Tryd.func6
    (ChangeSpec.witness_shaped (enc := enc) (C := Tryd.checked) (os := os) (X := fun w _ => laidMetH Tryd.prog [("honeycomb/honeycomblaw14.on", Rows.laid_honeycomb_honeycomblaw14_on)] w) false (World.laidAll Tryd.prog os [("honeycomb/honeycomblaw14.on", Rows.laid_honeycomb_honeycomblaw14_on)]) #[.agg #[.int .u64 0, .slice none 0 0, .slice none 0 0, .slice none 0 0]] 8 (World.laidAll_os _ _ _)
      (World.shaped_of_ZipB (by kernel_rfl) (by kernel_rfl)) (by kernel_rfl) (by kernel_rfl) (by kernel_rfl)
      (by rw [MakeChecks.laidMetH_plain _ _ _ (by kernel_rfl)]; exact laidMet_laidAll _ (by kernel_rfl) (by kernel_rfl))) ?_
  intro W base args ds gs before hval0 hW _ _ hL _
  have hval : ∀ (j : Nat) t v, Tryd.f6.params[j]? = some t → args[j]? = some v → Value.okWide Tryd.prog W .any base t v := hval0
  have hW' := hW
  obtain ⟨p, q, hA0, hV, rfl, _, _⟩ := hW
  have hA : DataW.TrodAll enc Tryd.prog W 0 (fun _ => true) true Tryd.f6.params.toList args.toList ds p := hA0
  rw [Tryd.params6] at hA hval
  have hT := of_laid hL
  obtain ⟨v0, vs0, d0, ds0, p0, q0, hargs, rfl, rfl, h0, r0⟩ := trodAll_cons hA
  obtain ⟨rfl, rfl, rfl⟩ := trodAll_nil r0
  obtain rfl : args = #[v0] := by cases args; simp_all
  obtain ⟨rfl, rfl⟩ := trodVars_none hV
  have k0 := h0
  have lt0 : ∀ x ∈ p0, x.block < W.heap.size := by obtain ⟨m, hm⟩ := k0; exact DataW.trod_lt m _ _ _ hm
  obtain ⟨a0, rfl, w0, u0, t0⟩ := open_limbo (hval 0 26 v0 rfl rfl) h0
  clear hA0 hval0
  refine (walk a0.e a0.s a0.r W hT w0 u0 t0).mono fun e W' ⟨he, bel⟩ => ?_
  subst he
  exact ⟨_, rfl, _, _, _, [], _, [], hW', trodAll_mk1 (shut_bool Tryd.underlying4 _), (trodAll_cons_mk (Below.trod laidOut (by kernel_rfl) (of_decide_eq_true (by kernel_rfl)) k0 bel lt0) trodAll_mk0), rfl, bel.frame _, fun h => by cases h⟩
theorem said : Rows.LimboEndsSaid :=
  OpenClaim.holds_of_wide 6 Tryd.f6 rfl rfl rfl rfl rfl rfl rfl ⟨rfl, rfl, rfl, rfl, rfl⟩ rfl rfl rfl rfl rfl (by kernel_rfl) Tryd.func6 (by kernel_rfl)
    (of_decide_eq_true (by kernel_rfl)) (by unfold Func.isWrapper; first | (rw [if_pos (by decide +kernel)]; kernel_rfl) | (rw [if_neg (by decide +kernel)]; exact ⟨rfl, rfl⟩))
    (fun os started H enc _ => lifted os started H enc)
theorem proved : Rows.LimboEndsCardSaid :=
  Claim7.holds_tied_plain_at .later [] [.data] true _ true said (fun _ h => by cases h) (by kernel_rfl) (fun _ h => by cases h) limboEnds_row_tie rfl ⟨rfl, rfl⟩ (by kernel_rfl) rfl
    (fun f fn hf hfn => by
      obtain rfl : f = 6 := Option.some.inj ((show Tryd.prog.funcNamed "honeycomb/honeycomblaw14.LimboEnds" = some 6 by kernel_rfl).symm.trans hf) |>.symm
      obtain rfl : fn = Tryd.f6 := (Option.some.inj (Tryd.func6.symm.trans hfn)).symm
      exact ⟨by kernel_rfl, fun j t ht => by
        rw [Tryd.params6] at ht
        have hm : t ∈ [26] := by simpa using Array.mem_of_getElem? ht
        have hall : ([26].all fun u => !Tryd.prog.wantsStandIn u) = true := by kernel_rfl
        exact (show Tryd.prog.wantsStandIn t = false by simpa using List.all_eq_true.1 hall t hm)⟩)
    (by kernel_rfl)
end Go.Proofs.YteamlomcdiomkaaDoor.limboEnds
