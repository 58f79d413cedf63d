/- Proved: for every words, marks and places, honeycomblaw02.CellsMarks returns true, and its arguments read as they did; no condition. -/
import Derived.Test.YtafccppobhhelaaDe
import Derived.Test.YtafccppobhhelaaDf
import Derived.BigQuiet
import Derived.ChangeAt
import Derived.JoinedAt
import Derived.ProofKit
import Derived.OpenShut
import Derived.Test.YtafccppobhhelaaRows
namespace Go.Proofs.Ytafccppobhhelaa.cellsMarks
open Go.ChangeShapes Go.WideShapes Go.ChangeAt Go.RowKit Go.Shelf
attribute [local go_sem] Oper.semAt_some

theorem own : ownKnob Try.prog.godebug = none := by kernel_rfl
/-- What Back comes to: the cells, and the error. -/
def backRes (ws : List Int) (ms : List Mk) : List Int × Int := if ws.length < 1 ∨ 8192 < ws.length then ([], 120) else match backAll ws ms.reverse with
  | none => ([], 2)
  | some ws' => (ws', 0)
theorem words_none (W : World) : WordsAt W (.slice none 0 0) [] := ⟨rfl, none, 0, rfl, Nat.le_refl _, Nat.zero_le _, fun _ => rfl, fun j hj => by simp [wordVals] at hj⟩
theorem backRes_length (ws : List Int) (ms : List Mk) : (backRes ws ms).1.length ≤ ws.length := by
  unfold backRes
  split
  · simp
  · split
    · simp
    · rename_i h
      exact Nat.le_of_eq (backAll_length h)
def BackR (r : List Int × Int) (w : World) (e : Ending) (w' : World) : Prop := ∃ a c, e = .returned (.tuple #[.slice a r.1.length c, .int .i64 r.2]) ∧ WordsAt w' (.slice a r.1.length c) r.1 ∧ Below w.heap.size w w'
theorem back1 (n₀ : Nat) (ws : List Int) (v vm : Value) (ms : List Mk) (hlen : ms.length ≤ 1000) (w : World) (hI : WordsAt w v ws) (hM : OwnsMarks n₀ ms vm w) :
    Calls Try.prog 29 #[v, vm] w (BackR (backRes ws ms) w) := by
  refine (Try.Back_any n₀ ws v vm ms hlen w hI hM).mono ?_
  unfold BackR backRes
  rintro e w' (⟨h, rfl, hB⟩ | ⟨h, h1, rfl, hB⟩ | ⟨h, ws', v', h1, rfl, o, hB⟩)
  · rw [if_pos h]
    exact ⟨_, _, rfl, words_none _, hB⟩
  · rw [if_neg h, h1]
    exact ⟨_, _, rfl, words_none _, hB⟩
  · rw [if_neg h, h1]
    obtain ⟨_, a, c, rfl, _⟩ := rowAt_own o
    exact ⟨_, _, rfl, rowAt_own o, hB⟩
theorem back2 (n₀ : Nat) (ws : List Int) (v : Value) (am : Option Addr) (nm cm : Nat) (ms : List Mk) (hnm : nm = ms.length) (hlen : nm ≤ 1000) (w : World) (hn₀ : n₀ ≤ w.heap.size) (hI : OwnsWords n₀ ws v w) (hM : MarksAt w (.slice am nm cm) ms) :
    Calls Try.prog 30 #[v, .slice am nm cm] w (BackR (backRes ws ms) w) := by
  refine (Try.refBack2_any n₀ ws v am nm cm ms hnm hlen w hn₀ hI hM).mono ?_
  unfold BackR backRes
  rintro e w' (⟨h, rfl, hB⟩ | ⟨h, h1, rfl, hB⟩ | ⟨h, ws', v', h1, rfl, o, hB⟩)
  · rw [if_pos h]
    exact ⟨_, _, rfl, words_none _, hB⟩
  · rw [if_neg h, h1]
    exact ⟨_, _, rfl, words_none _, hB⟩
  · rw [if_neg h, h1]
    obtain ⟨_, a, c, rfl, _⟩ := rowAt_own o
    exact ⟨_, _, rfl, rowAt_own o, hB⟩
set_option maxRecDepth 100000 in
set_option maxHeartbeats 16000000 in
theorem walk (a : Option Addr) (n cap : Nat) (xs : List Int) (am : Option Addr) (nm cm : Nat) (ys : List Mk) (ap : Option Addr) (np cp : Nat) (zs : List Int) (w : World) (hn : n = xs.length) (hI : WordsAt w (.slice a n cap) xs) (hnm : nm = ys.length) (hM : MarksAt w (.slice am nm cm) ys) (hnp : np = zs.length) (hP : IntsAt w (.slice ap np cp) zs) :
    Calls Try.prog 4 #[.slice a n cap, .slice am nm cm, .slice ap np cp] w fun e w' => e = .returned (.bool true) ∧ Below w.heap.size w w' := by
  obtain ⟨iI, hiI, hI0, hI1, hI2⟩ := info_parts Try.infoInt
  have HI := Lib.hid hI
  have HM := Lib.hid hM
  have HP := Lib.hid hP
  have HN := Lib.hid hn
  have HNM := Lib.hid hnm
  have HNP := Lib.hid hnp
  have hcm : nm ≤ cm := by
    obtain ⟨h0, a', cap', e, h1, h2, h3, h4⟩ := hM
    cases e
    omega
  have hcp : np ≤ cp := by
    obtain ⟨h0, a', cap', e, h1, h2, h3, h4⟩ := hP
    cases e
    omega
  have hlw : (xs.take 40).length ≤ 40 := by rw [List.length_take]; omega
  have hlm : (ys.take 30).length ≤ 30 := by rw [List.length_take]; omega
  have hlp : (zs.take 6).length ≤ 6 := by rw [List.length_take]; omega
  clear hI hM hP hn hnm hnp
  have FEW := Lib.hid fun W (hB : Below w.heap.size w W) => Try.few_any a n cap xs HN.out W (RowAt.below HI.out hB)
  have CLM : ∀ k W, k = (ys.take 30).length → k ≤ nm → Below w.heap.size w W → Calls Try.prog 28 #[.slice am k cm] W (MarksQ (ys.take 30) W) := by
    intro k W hk hkm hB
    have h := marks_cut HNM.out HM.out k hkm
    have e : ys.take k = ys.take 30 := by
      rw [hk, List.length_take]
      by_cases h30 : 30 ≤ ys.length
      · rw [Nat.min_eq_left h30]
      · rw [Nat.min_eq_right (by omega), List.take_of_length_le (Nat.le_refl _), List.take_of_length_le (by omega)]
    rw [e] at h
    exact Try.cloneMarks_any am k cm _ hk (by omega) W (RowAt.below h hB)
  have CLP : ∀ k W, k = (zs.take 6).length → k ≤ np → Below w.heap.size w W → Calls Try.prog 31 #[.slice ap k cp] W (IntsQ (zs.take 6) W) := by
    intro k W hk hkm hB
    have h := ints_cut HNP.out HP.out k hkm
    have e : zs.take k = zs.take 6 := by
      rw [hk, List.length_take]
      by_cases h30 : 6 ≤ zs.length
      · rw [Nat.min_eq_left h30]
      · rw [Nat.min_eq_right (by omega), List.take_of_length_le (Nat.le_refl _), List.take_of_length_le (by omega)]
    rw [e] at h
    exact Try.cloneInts_any ap k cp _ hk (by omega) W (RowAt.below h hB)
  have hkm : (nm ≤ 30 ∧ nm = (ys.take 30).length) ∨ (30 < nm ∧ 30 = (ys.take 30).length) := by
    rw [List.length_take, ← HNM.out]; omega
  have hkp : (np ≤ 6 ∧ np = (zs.take 6).length) ∨ (6 < np ∧ 6 = (zs.take 6).length) := by
    rw [List.length_take, ← HNP.out]; omega
  have HCLM := Lib.hid CLM
  have HCLP := Lib.hid CLP
  clear CLM CLP
  generalize xs.take 40 = ws at *
  generalize ys.take 30 = mk at *
  generalize zs.take 6 = ps at *
  have BK1 := fun n₀ v vm W h1 h2 => back1 n₀ ws v vm mk (by omega) W h1 h2
  have BK2 := fun n₀ v am cm W h1 h2 h3 => back2 n₀ ws v am mk.length cm mk rfl (by omega) W h1 h2 h3
  have hrl := backRes_length ws mk
  generalize backRes ws mk = r at *
  obtain ⟨us, q⟩ := r
  unfold BackR at BK1 BK2
  dsimp only at BK1 BK2 hrl
  have HBK1 := Lib.hid BK1
  have HBK2 := Lib.hid BK2
  have hqq : (q != q) = false := by simp
  clear BK1 BK2
  go_enter Try.func4, Try.ntmps4
  go_wp2_with fail
  refine (Try.wakes_any _).mono ?_
  rintro e w1 ⟨rfl, B1⟩
  go_wp2_with fail
  refine (FEW.out w1 B1).mono ?_
  rintro e w2 ⟨v, rfl, hO, B2⟩
  obtain ⟨_, a2, c2, rfl, _⟩ := rowAt_own hO
  have B02 := B1.trans (B2.mono B1.size)
  have HO := Lib.hid hO
  clear hO
  rcases hkm with ⟨hk1, hk2⟩ | ⟨hk1, hk2⟩
  all_goals first
    | (have f1 : (nm : Int) ≤ 30 := by omega
       have f2 : ¬ (30 : Int) < (nm : Int) := by omega
       have f3 : ¬ (cm : Int) < (nm : Int) := by omega
       have HK := Lib.hid (HCLM.out nm w2 hk2 (Nat.le_refl _) B02)
       clear hk2
       go_wp2_with fail
       refine HK.out.mono ?_
       clear hk1 f1 f2 f3 HK)
    | (have f1 : ¬ (nm : Int) ≤ 30 := by omega
       have f2 : ¬ (nm : Int) < 30 := by omega
       have f3 : (30 : Int) < (nm : Int) := by omega
       have f4 : (30 : Nat) ≤ cm := by omega
       have f5 : ¬ (cm : Int) < 30 := by omega
       have HK := Lib.hid (HCLM.out 30 w2 hk2 (by omega) B02)
       clear hk2
       go_wp2_with fail
       refine HK.out.mono ?_
       clear hk1 f1 f2 f3 f4 f5 HK)
  all_goals
    rintro e w3 ⟨vm, rfl, hOm, B3⟩
    obtain ⟨_, a3, c3, rfl, _⟩ := rowAt_own hOm
    have B03 := B02.trans (B3.mono B02.size)
    have HM3 := Lib.hid hOm
    have HW3 := Lib.hid (owns_keep HO.out B3 (Nat.le_refl _))
    have hz23 := B3.size
    clear hOm B3
    go_wp2_with fail
    refine (HBK1.out w2.heap.size _ _ w3 (rowAt_own HW3.out) HM3.out).mono ?_
    rintro e w4 ⟨a8, c8, rfl, q8, B4⟩
    have B04 := B03.trans (B4.mono B03.size)
    have HM4 := Lib.hid (owns_keep HM3.out B4 (Nat.le_refl _))
    have HW4 := Lib.hid (owns_keep HW3.out B4 (Nat.le_refl _))
    have HQ8 := Lib.hid q8
    clear q8 B4 HM3 HW3
    go_wp2_with fail
    refine (FEW.out w4 B04).mono ?_
    rintro e w5 ⟨v5, rfl, o5, B5⟩
    obtain ⟨_, a5, c5, rfl, _⟩ := rowAt_own o5
    have B05 := B04.trans (B5.mono B04.size)
    have HM5 := Lib.hid (owns_keep HM4.out B5 (Nat.le_refl _))
    have HW5 := Lib.hid (owns_keep HW4.out B5 (Nat.le_refl _))
    have HQ5 := Lib.hid (RowAt.below HQ8.out B5)
    have HO5 := Lib.hid o5
    have HB45 := Lib.hid B5
    clear o5 B5 HM4 HW4 HQ8
    go_wp2_with fail
    refine (HBK2.out w4.heap.size _ a3 c3 w5 HB45.out.size HO5.out (rowAt_own HM5.out)).mono ?_
    rintro e w6 ⟨a10, c10, rfl, q10, B6⟩
    have B06 := B05.trans (B6.mono B05.size)
    have HM6 := Lib.hid (owns_keep HM5.out B6 (Nat.le_refl _))
    have HW6 := Lib.hid (owns_keep HW5.out B6 (Nat.le_refl _))
    have hsame := Try.refSame2_any a8 a10 _ _ c8 c10 us us rfl rfl (by omega) (by omega) w6 (RowAt.below HQ5.out B6) q10
    have HSAME := Lib.hid hsame
    clear q10 B6 HM5 HW5 HQ5 HO5 HB45 hsame
    go_wp2_with fail
    refine HSAME.out.mono ?_
    rintro e w7 ⟨rfl, B7⟩
    have B07 := B06.trans (B7.mono B06.size)
    have HM7 := Lib.hid (owns_keep HM6.out B7 (Nat.le_refl _))
    have HW7 := Lib.hid (owns_keep HW6.out B7 (Nat.le_refl _))
    clear B7 HM6 HW6 HSAME
    go_wp2_with fail
    refine (FEW.out w7 B07).mono ?_
    rintro e w8 ⟨v8, rfl, o8, B8⟩
    obtain ⟨_, a9, c9, rfl, _⟩ := rowAt_own o8
    have B08 := B07.trans (B8.mono B07.size)
    have HM8 := Lib.hid (owns_keep HM7.out B8 (Nat.le_refl _))
    have heq := Try.equalWords_any a2 a9 _ _ c2 c9 ws ws rfl rfl (by omega) (by omega) w8 (rowAt_own (owns_keep HW7.out B8 (Nat.le_refl _))) (rowAt_own o8)
    have HEQ := Lib.hid heq
    clear o8 B8 HM7 HW7 heq
    go_wp2_with fail
    refine HEQ.out.mono ?_
    rintro e w9 ⟨rfl, B9⟩
    have B09 := B08.trans (B9.mono B08.size)
    have HM9 := Lib.hid (owns_keep HM8.out B9 (Nat.le_refl _))
    clear B9 HM8 HEQ
    rcases hkp with ⟨hk1, hk2⟩ | ⟨hk1, hk2⟩
    all_goals first
      | (have f1 : (np : Int) ≤ 6 := by omega
         have f2 : ¬ (6 : Int) < (np : Int) := by omega
         have f3 : ¬ (cp : Int) < (np : Int) := by omega
         have HK := Lib.hid (HCLP.out np w9 hk2 (Nat.le_refl _) B09)
         clear hk2
         go_wp2_with fail
         refine HK.out.mono ?_
         clear hk1 f1 f2 f3 HK)
      | (have f1 : ¬ (np : Int) ≤ 6 := by omega
         have f2 : ¬ (np : Int) < 6 := by omega
         have f3 : (6 : Int) < (np : Int) := by omega
         have f4 : (6 : Nat) ≤ cp := by omega
         have f5 : ¬ (cp : Int) < 6 := by omega
         have HK := Lib.hid (HCLP.out 6 w9 hk2 (by omega) B09)
         clear hk2
         go_wp2_with fail
         refine HK.out.mono ?_
         clear hk1 f1 f2 f3 f4 f5 HK)
    all_goals
      rintro e w10 ⟨vp, rfl, op, B10⟩
      obtain ⟨_, a11, c11, rfl, _⟩ := rowAt_own op
      have HOP := Lib.hid op
      have B010 := B09.trans (B10.mono B09.size)
      have HM10 := Lib.hid (owns_keep HM9.out B10 (Nat.le_refl _))
      have hz910 := B10.size
      have B910 := Lib.hid B10
      clear op B10 HM9
      go_wp2_with (at_builtin; refine wpList_append_own _ rfl _ _ 49 rfl w9.heap.size 3 iI (.int .i64 0) 1 8 Try.underlying49 hiI hI0 hI1 hI2 rfl (by decide) _ _ _ rfl (World.ownsRow.alloc HOP.out _) ⟨w10.heap.size, 0, none⟩ 2 2 [.int .i64 0, .int .i64 1] rfl rfl (cells_new w10 _ [.int .i64 0, .int .i64 1]) (by simp [Value.oneCell']) (by unfold maxLen; omega) (by omega) (by simp; omega) ?_)
      intro v' w11 hown' hgrow _
      have hoa := World.ownsRow.alloc HOP.out (.cells #[.int .i64 0, .int .i64 1] 3)
      have hB3 : Below w9.heap.size w9 w11 := (B910.out.alloc hz910 _).grown hgrow (by simp; omega) (fun j ej => (World.ownsRow.lt hoa j ej).1)
      obtain ⟨ls, hls⟩ : ∃ ls : List Int, ls = ps ++ [0, 1] := ⟨_, rfl⟩
      have hll : ls.length = ps.length + 2 := by rw [hls]; simp
      have hO11 : OwnsInts w9.heap.size ls v' w11 := by
        unfold OwnsInts
        rw [hll, hls, show intVals (ps ++ [0, 1]) = intVals ps ++ [.int .i64 0, .int .i64 1] by simp [intVals]]
        exact hown'
      obtain ⟨_, a12, c12, rfl, _⟩ := rowAt_own hO11
      have hm11 := grown_ne (World.ownsRow.alloc HM10.out (.cells #[.int .i64 0, .int .i64 1] 3)) hoa (by decide) hgrow
      have HM11 := Lib.hid hm11
      have HL11 := Lib.hid (rowAt_own hO11)
      have B011 := B09.trans (hB3.mono B09.size)
      have hlb : ls.length ≤ 8 := by omega
      clear hown' hgrow hoa hB3 hls hll hO11 hm11 HOP HM10 B910
      go_wp2_with fail
      go_loopw [13, 14, 15, 16, 17, 66] (fun _ _ _ _ _ j wr => ∃ k : Nat, k ≤ ls.length ∧ j = .int .i64 k ∧ Below w11.heap.size w11 wr) (fun _ _ _ _ _ j _ => ls.length - (intOf j).toNat)
      case atStart => exact ⟨0, Nat.zero_le _, rfl, Below.refl _ _⟩
      case round =>
        obtain ⟨k, hk, rfl, hBr⟩ := hrel
        by_cases hlt : k < ls.length
        · have hki : (k : Int) < (ls.length : Int) := by omega
          obtain ⟨bl, ol, rfl, hbl, x0⟩ := intsAt_get (RowAt.below HL11.out hBr) k hlt
          generalize ls[k]?.getD 0 = at_ at *
          have hMr := Lib.hid (owns_keep HM11.out hBr (Nat.le_refl _))
          have HBr := Lib.hid hBr
          clear hBr
          have hla := fun W h => Try.Last_any w2.heap.size (.slice a3 mk.length c3) mk (by omega) at_ W h
          have hlb2 := fun W h => Try.refLast2_any a3 mk.length c3 mk rfl (by omega) at_ W h
          generalize lastOf at_ mk = la at *
          obtain ⟨by_, some_⟩ := la
          dsimp only at hla hlb2
          have HLA := Lib.hid hla
          have HLB := Lib.hid hlb2
          have HHA := Lib.hid (fun W h => Try.Held_any w2.heap.size (.slice a3 mk.length c3) mk (by omega) at_ W h)
          have HHB := Lib.hid (fun W h => Try.refHeld2_any a3 mk.length c3 mk rfl (by omega) at_ W h)
          have hle := heldOf_length (mk.filter fun m => m.pl == at_)
          have hfl := List.length_filter_le (fun m : Mk => m.pl == at_) mk
          generalize heldOf (mk.filter fun m => m.pl == at_) = hs at *
          have hsl : hs.length ≤ 40 := by omega
          have hb1 : (by_ != by_) = false := by simp
          have hb2 : (some_ != some_) = false := by simp
          clear hla hlb2 hle hfl
          go_wp2_with fail
          refine (HLA.out wr hMr.out).mono ?_
          rintro e x1 ⟨rfl, C1⟩
          have HM1 := Lib.hid (owns_keep hMr.out C1 (Nat.le_refl _))
          have HC1 := Lib.hid (HBr.out.trans (C1.mono HBr.out.size))
          clear C1 hMr HBr x0
          go_wp2_with fail
          refine (HLB.out x1 (rowAt_own HM1.out)).mono ?_
          rintro e x2 ⟨rfl, C2⟩
          have HM2 := Lib.hid (owns_keep HM1.out C2 (Nat.le_refl _))
          have HC2 := Lib.hid (HC1.out.trans (C2.mono HC1.out.size))
          clear C2 HM1 HC1
          go_wp2_with fail
          refine (HHA.out x2 HM2.out).mono ?_
          rintro e x3 ⟨v3, rfl, o3, C3⟩
          obtain ⟨_, a13, c13, rfl, _⟩ := rowAt_own o3
          have HM3 := Lib.hid (owns_keep HM2.out C3 (Nat.le_refl _))
          have HC3 := Lib.hid (HC2.out.trans (C3.mono HC2.out.size))
          have HO3 := Lib.hid o3
          clear C3 HM2 HC2 o3
          go_wp2_with fail
          refine (HHB.out x3 (rowAt_own HM3.out)).mono ?_
          rintro e x4 ⟨v4, rfl, o4, C4⟩
          obtain ⟨_, a14, c14, rfl, _⟩ := rowAt_own o4
          have heq := Try.equalWords_any a13 a14 _ _ c13 c14 hs hs rfl rfl (by omega) (by omega) x4 (rowAt_own (owns_keep HO3.out C4 (Nat.le_refl _))) (rowAt_own o4)
          have HEQ := Lib.hid heq
          have HC4 := Lib.hid (HC3.out.trans (C4.mono HC3.out.size))
          clear C4 HM3 HC3 o4 heq HO3
          go_wp2_with fail
          refine HEQ.out.mono ?_
          rintro e x5 ⟨rfl, C5⟩
          have HC5 := Lib.hid (HC4.out.trans (C5.mono HC4.out.size))
          clear C5 HC4 HEQ
          go_wp2_with fail
          exact ⟨⟨k + 1, by omega, by go_num, HC5.out⟩, by simp [intOf]; omega⟩
        · obtain rfl : k = ls.length := by omega
          have HBZ := Lib.hid (B011.trans (hBr.mono B011.size))
          clear hBr
          go_wp2_with fail
          go_ret
          exact ⟨rfl, HBZ.out⟩
theorem laidOut : laidOutB Try.prog = true := by kernel_rfl
set_option maxRecDepth 100000 in
theorem lifted (os : Os) (started : os.Started) (H : Type) (enc : TypeId × Value → H) :
    ReturnsInHanded {} Try.checked os 4 .any (Rows.cellsMarksSpec.pre6 enc Try.prog Try.f4 Rows.cellsMarksRow.domain false) (Rows.cellsMarksSpec.post enc Try.prog Try.f4 false true false false) := by
  refine returnsInHanded_of_change (C := Try.checked) own started (by kernel_rfl) Try.func4
    (ChangeSpec.witness6 (enc := enc) (C := Try.checked) false ⟨#[], #[.slice none 0 0, .slice none 0 0, .slice none 0 0], []⟩ 8 (by kernel_rfl) (by kernel_rfl) (by kernel_rfl) (by kernel_rfl)) ?_
  intro W base args ds gs before hval0 hW hcnd _
  have hval : ∀ (j : Nat) t v, Try.f4.params[j]? = some t → args[j]? = some v → Value.okWide Try.prog W .any base t v := hval0
  have hW' := hW
  obtain ⟨p, q, hA0, hV, rfl, hfz, hnd⟩ := hW
  have hA : DataW.TrodAll enc Try.prog W 0 (fun _ => true) true Try.f4.params.toList args.toList ds p := hA0
  rw [Try.params4] at hA hval
  obtain ⟨v0, vs0, d0, ds0, p0, q0, hargs, rfl, rfl, h0, r0⟩ := trodAll_cons hA
  obtain ⟨v1, vs1, d1, ds1, p1, q1, rfl, rfl, rfl, h1, r1⟩ := trodAll_cons r0
  obtain ⟨v2, vs2, d2, ds2, p2, q2, rfl, rfl, rfl, h2, r2⟩ := trodAll_cons r1
  obtain ⟨rfl, rfl, rfl⟩ := trodAll_nil r2
  obtain rfl : args = #[v0, v1, v2] := by cases args; simp_all
  obtain ⟨rfl, rfl⟩ := trodVars_none hV
  obtain ⟨a0, len0, cap0, rfl⟩ := okWide_slice Try.underlying22 (hval 0 22 v0 rfl rfl)
  have k0 := h0
  have lt0 : ∀ x ∈ p0, x.block < W.heap.size := by obtain ⟨m, hm⟩ := k0; exact DataW.trod_lt m _ _ _ hm
  obtain ⟨z0, n0, w0⟩ : ∃ zs, len0 = zs.length ∧ WordsAt W (.slice a0 len0 cap0) zs := by
    obtain ⟨fuel, hf⟩ := h0
    exact open_words hf
  obtain ⟨a1, len1, cap1, rfl⟩ := okWide_slice Try.underlying40 (hval 1 40 v1 rfl rfl)
  have k1 := h1
  have lt1 : ∀ x ∈ p1, x.block < W.heap.size := by obtain ⟨m, hm⟩ := k1; exact DataW.trod_lt m _ _ _ hm
  obtain ⟨z1, n1, w1⟩ : ∃ zs, len1 = zs.length ∧ MarksAt W (.slice a1 len1 cap1) zs := by
    obtain ⟨fuel, hf⟩ := h1
    exact open_marks hf
  obtain ⟨a2, len2, cap2, rfl⟩ := okWide_slice Try.underlying49 (hval 2 49 v2 rfl rfl)
  have k2 := h2
  have lt2 : ∀ x ∈ p2, x.block < W.heap.size := by obtain ⟨m, hm⟩ := k2; exact DataW.trod_lt m _ _ _ hm
  obtain ⟨z2, n2, w2⟩ : ∃ zs, len2 = zs.length ∧ IntsAt W (.slice a2 len2 cap2) zs := by
    obtain ⟨fuel, hf⟩ := h2
    exact open_intRow hf
  clear hA0 hval0
  refine (walk a0 len0 cap0 z0 a1 len1 cap1 z1 a2 len2 cap2 z2 W n0 w0 n1 w1 n2 w2).mono fun e W' ⟨he, bel⟩ => ?_
  subst he
  exact ⟨_, rfl, _, _, _, [], _, [], hW', trodAll_mk1 (shut_bool Try.underlying4 _), (trodAll_cons_mk (Below.trod laidOut (by kernel_rfl) (of_decide_eq_true (by kernel_rfl)) k0 bel lt0) (trodAll_cons_mk (Below.trod laidOut (by kernel_rfl) (of_decide_eq_true (by kernel_rfl)) k1 bel lt1) (trodAll_cons_mk (Below.trod laidOut (by kernel_rfl) (of_decide_eq_true (by kernel_rfl)) k2 bel lt2) trodAll_mk0))), rfl, bel.frame _, fun h => by cases h⟩

theorem over : Rows.cellsMarksRow.holds Try.pinned (OpenSpec.ofChange Rows.cellsMarksSpec) :=
  OpenClaim.holds_of_wide 4 Try.f4 rfl rfl rfl rfl rfl rfl rfl ⟨rfl, rfl, rfl, rfl, rfl⟩ rfl rfl rfl rfl rfl (by kernel_rfl) Try.func4 (by kernel_rfl)
    (of_decide_eq_true (by kernel_rfl)) (by unfold Func.isWrapper; first | (rw [if_pos (by decide +kernel)]; kernel_rfl) | (rw [if_neg (by decide +kernel)]; exact ⟨rfl, rfl⟩))
    (fun os started H enc _ => lifted os started H enc)

theorem proved : Rows.CellsMarksSaid := over
end Go.Proofs.Ytafccppobhhelaa.cellsMarks
