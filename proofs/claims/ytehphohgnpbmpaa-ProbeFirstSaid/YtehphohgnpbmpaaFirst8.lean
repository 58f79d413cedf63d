/- Proved: for every number of groups, row of flags, and row of hashes, honeycomblaw08.ProbeFirst returns true, and its arguments read as they did; no condition. -/
import Derived.Test.YtehphohgnpbmpaaQl
import Derived.Test.YtehphohgnpbmpaaQs
import Derived.BigQuiet
import Derived.ChangeAt
import Derived.JoinedAt
import Derived.ProofKit
import Derived.OpenShut
import Derived.Test.YtehphohgnpbmpaaRows
namespace Go.Proofs.Ytehphohgnpbmpaa.probeFirst
open Go.ChangeShapes Go.WideShapes Go.ChangeAt Go.RowKit Go.Shelf
attribute [local go_sem] Oper.semAt_some

theorem own : ownKnob Try.prog.godebug = none := by kernel_rfl
theorem mayI_yes {g : Nat} (h : mayB g = true) : mayI (g : Int) = true := by unfold mayI; rw [checkE_may h]; rfl
theorem mayI_no {g : Int} (h : checkE g ≠ 0) : mayI g = false := decide_eq_false h
theorem words_cut {W : World} {a : Option Addr} {n cap : Nat} {ws : List Int} (hn : n = ws.length) (h : WordsAt W (.slice a n cap) ws) (m : Nat) (hm : m ≤ n) : WordsAt W (.slice a m cap) (ws.take m) := by
  have h2 := RowAt.cut (k := 1) (show RowAt W (.slice a n cap) n 1 (wordVals ws) by rw [hn]; rw [hn] at h; exact h) m hm
  unfold WordsAt
  rw [show (ws.take m).length = m by rw [List.length_take]; omega]
  rw [Nat.mul_one] at h2
  rw [show wordVals (ws.take m) = (wordVals ws).take m by unfold wordVals; rw [List.map_take]]
  exact h2
theorem ownsWords_form {n₀ : Nat} {v : Value} {ws : List Int} {W : World} (h : OwnsWords n₀ ws v W) : ∃ a c, v = .slice a ws.length c := by
  obtain ⟨_, a', cap', e, _⟩ := rowAt_own h
  exact ⟨a', cap', e⟩
theorem ownsBools_form {n₀ : Nat} {v : Value} {ws : List Bool} {W : World} (h : OwnsBools n₀ ws v W) : ∃ a c, v = .slice a ws.length c := by
  obtain ⟨_, a', cap', e, _⟩ := rowAt_own h
  exact ⟨a', cap', e⟩
/-- The two rows, cut and copied, behind wakes. -/
structure Cuts (w : World) (bs : List Bool) (ws : List Int) (a1 : Option Addr) (n1 c1 : Nat) (a2 : Option Addr) (n2 c2 : Nat) : Prop where
  h1 : n1 = bs.length
  h2 : n2 = ws.length
  b : BAt w (.slice a1 n1 c1) bs
  w : WordsAt w (.slice a2 n2 c2) ws
theorem take_cut6 {n : Nat} {ws : List Int} (h : n = ws.length) : (min (n : Int) 6 = (((ws.take 6).length : Nat) : Int) ∧ (if (6 : Int) < (n : Int) then (6 : Int) else (n : Int)) = (((ws.take 6).length : Nat) : Int) ∧ (((ws.take 6).length = n ∧ ¬ (6 : Int) < (n : Int)) ∨ ((ws.take 6).length = 6 ∧ (6 : Int) < (n : Int)))) ∧ (ws.take 6).length ≤ n ∧ (ws.take 6).length ≤ 6 ∧ ws.take (ws.take 6).length = ws.take 6 := by
  rw [List.length_take, ← h]
  refine ⟨⟨by omega, by split <;> omega, by omega⟩, by omega, by omega, ?_⟩
  rcases Nat.le_total 6 n with h6 | h6
  · rw [Nat.min_eq_left h6]
  · rw [Nat.min_eq_right h6, List.take_of_length_le (by omega), List.take_of_length_le (by omega)]
theorem take_cut70 {n : Nat} {ws : List Bool} (h : n = ws.length) : (min (n : Int) 70 = (((ws.take 70).length : Nat) : Int) ∧ (if (70 : Int) < (n : Int) then (70 : Int) else (n : Int)) = (((ws.take 70).length : Nat) : Int) ∧ (((ws.take 70).length = n ∧ ¬ (70 : Int) < (n : Int)) ∨ ((ws.take 70).length = 70 ∧ (70 : Int) < (n : Int)))) ∧ (ws.take 70).length ≤ n ∧ (ws.take 70).length ≤ 70 ∧ ws.take (ws.take 70).length = ws.take 70 := by
  rw [List.length_take, ← h]
  refine ⟨⟨by omega, by split <;> omega, by omega⟩, by omega, by omega, ?_⟩
  rcases Nat.le_total 70 n with h6 | h6
  · rw [Nat.min_eq_left h6]
  · rw [Nat.min_eq_right h6, List.take_of_length_le (by omega), List.take_of_length_le (by omega)]
set_option maxRecDepth 100000 in
set_option maxHeartbeats 4000000 in
theorem walkNo (g : Int) (hm : checkE g ≠ 0) (a1 : Option Addr) (n1 c1 : Nat) (bs : List Bool) (a2 : Option Addr) (n2 c2 : Nat) (ws : List Int) (w : World) (hc : Cuts w bs ws a1 n1 c1 a2 n2 c2) :
    Calls Try.prog 4 #[.int .i64 g, .slice a1 n1 c1, .slice a2 n2 c2] w fun e w' => e = .returned (.bool true) ∧ Below w.heap.size w w' := by
  obtain ⟨hn1, hn2, hb, hw⟩ := hc
  obtain ⟨⟨e6, e6b, e6c⟩, l6, m6, t6⟩ := take_cut6 hn2
  obtain ⟨⟨e70, e70b, e70c⟩, l70, m70, t70⟩ := take_cut70 hn1
  have hwc := words_cut hn2 hw (ws.take 6).length l6
  rw [t6] at hwc
  have hbc := bools_cut hn1 hb (bs.take 70).length l70
  rw [t70] at hbc
  have hcap2 : n2 ≤ c2 := by obtain ⟨_, _, _, e, h1, h2, _⟩ := hw; cases e; omega
  have hcap1 : n1 ≤ c1 := by obtain ⟨_, _, _, e, h1, h2, _⟩ := hb; cases e; omega
  have CW := Lib.hid (Try.wakes_any w)
  have CL := fun W (hB : Below w.heap.size w W) => Lib.hid (Try.cloneWords_any a2 (ws.take 6).length c2 (ws.take 6) rfl (by omega) W (RowAt.below hwc hB))
  have CB := fun W (hB : Below w.heap.size w W) => Lib.hid (Try.cloneBools_any a1 (bs.take 70).length c1 (bs.take 70) rfl (by omega) W (RowAt.below hbc hB))
  have CM := fun W => Lib.hid (Try.refMay_any g W)
  rw [mayI_no hm] at CM
  have CF := fun a n c W => Lib.hid (Try.Far_no g a n c hm W)
  have CI := fun a n c W => Lib.hid (Try.First_no g 0 a n c hm W)
  have CN := fun W => Lib.hid (Try.Next_no g 0 0 hm W)
  clear hb hw hwc hbc t6 t70 hm hn1 hn2
  generalize (ws.take 6) = hs at *
  generalize (bs.take 70) = fl at *
  generalize hm6 : hs.length = k6 at *
  generalize hm70 : fl.length = k70 at *
  have HM6 := Lib.hid hm6
  have HM70 := Lib.hid hm70
  go_enter Try.func4, Try.ntmps4
  go_wp2_with fail
  refine CW.out.mono ?_
  rintro e w1 ⟨rfl, hB1⟩
  have HB1 := Lib.hid hB1
  have CL := CL _ hB1
  clear hB1 CW
  have hi1 : (k6 : Int) ≤ (c2 : Int) := by omega
  have hi3 : ¬ (c2 : Int) < (k6 : Int) := by omega
  have hi2 : (k70 : Int) ≤ (c1 : Int) := by omega
  have hi4 : ¬ (c1 : Int) < (k70 : Int) := by omega
  go_wp2_with fail
  refine CL.out.mono ?_
  rintro e w2 ⟨v2, rfl, hO2, hB2⟩
  obtain ⟨x2, y2, rfl⟩ := ownsWords_form hO2
  have hB2' := HB1.out.trans (hB2.mono HB1.out.size)
  have CB := CB _ hB2'
  have HB2 := Lib.hid hB2'
  clear hO2 hB2 CL HB1 hB2'
  go_wp2_with fail
  refine CB.out.mono ?_
  rintro e w3 ⟨v3, rfl, hO3, hB3⟩
  obtain ⟨x3, y3, rfl⟩ := ownsBools_form hO3
  have HB3 := Lib.hid (HB2.out.trans (hB3.mono HB2.out.size))
  clear hO3 hB3 CB HB2
  go_wp2_with fail
  refine (CM _).out.mono ?_
  rintro e w4 ⟨rfl, rfl⟩
  go_wp2_with fail
  refine (CF _ _ _ _).out.mono ?_
  rintro e w4 ⟨rfl, rfl⟩
  go_wp2_with fail
  refine (CI _ _ _ _).out.mono ?_
  rintro e w4 ⟨rfl, hB4⟩
  have HB4 := Lib.hid (HB3.out.trans (hB4.mono HB3.out.size))
  clear hB4 HB3
  go_wp2_with fail
  refine (CN _).out.mono ?_
  rintro e w4 ⟨rfl, rfl⟩
  go_wp2_with fail
  go_ret
  exact ⟨rfl, HB4.out⟩
theorem next_out {g : Nat} {a i : Int} (h : a < 0 ∨ (g : Int) ≤ a ∨ i < 0 ∨ (g : Int) - 1 ≤ i) : nextV g a i = .tuple #[.int .i64 0, .int .i64 2] := by
  unfold nextV
  rw [if_pos]
  simp [outB]
  omega
theorem next_in {g : Nat} {a i : Int} (h : 0 ≤ a ∧ a < (g : Int) ∧ 0 ≤ i ∧ i < (g : Int) - 1) : nextV g a i = .tuple #[.int .i64 ((a + i + 1) % g), .int .i64 0] := by
  unfold nextV
  rw [if_neg]
  simp [outB]
  omega
set_option maxRecDepth 100000 in
set_option maxHeartbeats 16000000 in
theorem walkYes (g : Nat) (hm : mayB g = true) (a1 : Option Addr) (n1 c1 : Nat) (bs : List Bool) (a2 : Option Addr) (n2 c2 : Nat) (ws : List Int) (hk : KeysOk ws) (w : World) (hc : Cuts w bs ws a1 n1 c1 a2 n2 c2) :
    Calls Try.prog 4 #[.int .i64 (g : Int), .slice a1 n1 c1, .slice a2 n2 c2] w fun e w' => e = .returned (.bool true) ∧ Below w.heap.size w w' := by
  obtain ⟨hn1, hn2, hb, hw⟩ := hc
  obtain ⟨hg, hg2⟩ := mayB_le hm
  obtain ⟨⟨e6, e6b, e6c⟩, l6, m6, t6⟩ := take_cut6 hn2
  obtain ⟨⟨e70, e70b, e70c⟩, l70, m70, t70⟩ := take_cut70 hn1
  have hk6 : KeysOk (ws.take 6) := fun k h => hk k (List.mem_of_mem_take h)
  have hwc := words_cut hn2 hw (ws.take 6).length l6
  rw [t6] at hwc
  have hbc := bools_cut hn1 hb (bs.take 70).length l70
  rw [t70] at hbc
  have hcap2 : n2 ≤ c2 := by obtain ⟨_, _, _, e, h1, h2, _⟩ := hw; cases e; omega
  have hcap1 : n1 ≤ c1 := by obtain ⟨_, _, _, e, h1, h2, _⟩ := hb; cases e; omega
  have CW := Lib.hid (Try.wakes_any w)
  have CL := fun W (hB : Below w.heap.size w W) => Lib.hid (Try.cloneWords_any a2 (ws.take 6).length c2 (ws.take 6) rfl (by omega) W (RowAt.below hwc hB))
  have CB := fun W (hB : Below w.heap.size w W) => Lib.hid (Try.cloneBools_any a1 (bs.take 70).length c1 (bs.take 70) rfl (by omega) W (RowAt.below hbc hB))
  have CM := fun W => Lib.hid (Try.refMay_any g W)
  rw [mayI_yes hm] at CM
  have CF := fun a n c (hn : n = (ws.take 6).length) W hI => Lib.hid (Try.Far_ok g hm (ws.take 6) hk6 a n c hn (by omega) W hI)
  have CRF := fun a n c (hn : n = (ws.take 6).length) W hI => Lib.hid (Try.refFar_any g hm (ws.take 6) hk6 a n c hn (by omega) W hI)
  have HK6 := Lib.hid hk6
  clear hb hw hwc hbc t6 t70 hn1 hn2 hk hk6
  generalize (ws.take 6) = hs at *
  generalize (bs.take 70) = fl at *
  generalize hm6 : hs.length = k6 at *
  generalize hm70 : fl.length = k70 at *
  have HM6 := Lib.hid hm6
  have HM70 := Lib.hid hm70
  clear hm6 hm70
  have CE := fun b1 b2 W (h1 : Rows8 W b1 3 (arrN g (farB g (lefts g hs)))) (h2 : Rows8 W b2 3 (arrN g (farB g (lefts g hs)))) => Lib.hid (by
    have h := Try.equalInts_any (some ⟨b1, 0, none⟩) (some ⟨b2, 0, none⟩) g g g g (natI (farL g (lefts g hs))) (natI (farL g (lefts g hs))) (by rw [natI_len, farL_len]) (by rw [natI_len, farL_len]) (by omega) (by omega) W (farL_at hg2 h1) (farL_at hg2 h2)
    rw [decide_eq_true rfl] at h
    exact h)
  go_enter Try.func4, Try.ntmps4
  go_wp2_with fail
  refine CW.out.mono ?_
  rintro e w1 ⟨rfl, hB1⟩
  have HB1 := Lib.hid hB1
  have CL := CL _ hB1
  clear hB1 CW
  have hi1 : (k6 : Int) ≤ (c2 : Int) := by omega
  have hi3 : ¬ (c2 : Int) < (k6 : Int) := by omega
  have hi2 : (k70 : Int) ≤ (c1 : Int) := by omega
  have hi4 : ¬ (c1 : Int) < (k70 : Int) := by omega
  go_wp2_with fail
  refine CL.out.mono ?_
  rintro e w2 ⟨v2, rfl, hO2, hB2⟩
  obtain ⟨x2, y2, rfl⟩ := ownsWords_form hO2
  rw [HM6.out]
  have hB2' := HB1.out.trans (hB2.mono HB1.out.size)
  have CB := CB _ hB2'
  have HB2 := Lib.hid hB2'
  have HW2 := Lib.hid (show WordsAt w2 (.slice x2 k6 y2) hs from by have h := rowAt_own hO2; rw [HM6.out] at h; unfold WordsAt; rw [HM6.out]; exact h)
  clear hO2 hB2 CL HB1 hB2'
  go_wp2_with fail
  refine CB.out.mono ?_
  rintro e w3 ⟨v3, rfl, hO3, hB3⟩
  obtain ⟨x3, y3, rfl⟩ := ownsBools_form hO3
  rw [HM70.out]
  have HW3 := Lib.hid (RowAt.below HW2.out hB3)
  have HF3 := Lib.hid (show BAt w3 (.slice x3 k70 y3) fl from by have h := rowAt_own hO3; rw [HM70.out] at h; unfold BAt; rw [HM70.out]; exact h)
  have HB3 := Lib.hid (HB2.out.trans (hB3.mono HB2.out.size))
  clear hO3 hB3 CB HB2 HW2 e6 e6b e6c l6 e70 e70b e70c l70 hi1 hi2 hi3 hi4 hcap1 hcap2
  go_wp2_with fail
  refine (CM _).out.mono ?_
  rintro e w4 ⟨rfl, rfl⟩
  have hF := CF x2 k6 y2 rfl w3 HW3.out
  clear CF
  go_wp2_with fail
  refine hF.out.mono ?_
  rintro e w4 ⟨b4, rfl, hb4, hr4, hB4⟩
  have HW4 := Lib.hid (RowAt.below HW3.out hB4)
  have HF4 := Lib.hid (RowAt.below HF3.out hB4)
  have HB4 := Lib.hid (HB3.out.trans (hB4.mono HB3.out.size))
  have HR4 := Lib.hid hr4
  have hRF := CRF x2 k6 y2 rfl w4 HW4.out
  clear hF hr4 hB4 HW3 HF3 HB3 CRF
  go_wp2_with fail
  refine hRF.out.mono ?_
  rintro e w5 ⟨b5, rfl, hb5, hr5, hB5⟩
  have HW5 := Lib.hid (RowAt.below HW4.out hB5)
  have HF5 := Lib.hid (RowAt.below HF4.out hB5)
  have HB5 := Lib.hid (HB4.out.trans (hB5.mono HB4.out.size))
  have hE := CE _ _ _ (HR4.out.below hB5 HR4.out.lt) hr5
  clear hRF hr5 hB5 HW4 HF4 HB4 HR4 CE
  go_wp2_with fail
  refine hE.out.mono ?_
  rintro e w6 ⟨rfl, hB6⟩
  have HW6 := Lib.hid (RowAt.below HW5.out hB6)
  have HF6 := Lib.hid (RowAt.below HF5.out hB6)
  have HB6 := Lib.hid (HB5.out.trans (hB6.mono HB5.out.size))
  clear hE hB6 HW5 HF5 HB5
  go_wp2_with fail
  go_loopw [96] (fun j wr => ∃ k : Nat, k ≤ k6 ∧ j = .int .i64 k ∧ Below w6.heap.size w6 wr) (fun j _ => k6 - (intOf j).toNat)
  case atStart => exact ⟨0, Nat.zero_le _, rfl, Below.refl _ _⟩
  case round =>
    obtain ⟨k, hkk, rfl, hB⟩ := hrel
    by_cases hlt : k < k6
    · have hki : (k : Int) < (k6 : Int) := by omega
      obtain ⟨b, off, rfl, hb, hc⟩ := wordsAt_get (RowAt.below HW6.out hB) k (by rw [HM6.out]; exact hlt)
      have hlt2 : k < hs.length := by rw [HM6.out]; exact hlt
      have hkr := HK6.out _ (List.getElem_mem hlt2)
      rw [List.getElem?_eq_getElem hlt2, Option.getD_some] at hc
      obtain ⟨h, hh⟩ : ∃ h : Nat, hs[k] = (h : Int) := ⟨(hs[k]).toNat, by omega⟩
      rw [hh] at hc hkr
      have hh2 : h < 18446744073709551616 := by omega
      have HB := Lib.hid hB
      have HFr := Lib.hid (RowAt.below HF6.out hB)
      clear hB hh
      by_cases hfg : k70 = g
      · have hC := Try.First_ok g h hm hh2 fl x3 k70 y3 hfg wr HFr.out
        have hD := fun W (hB : Below wr.heap.size wr W) => Lib.hid (Try.refFirst_any g h hm hh2 fl x3 k70 y3 hfg W (RowAt.below HFr.out hB))
        have hq : ((k70 : Int) == (g : Int)) = true := by simp; omega
        cases hr : firstP (flagB fl) g (h % g) with
        | none =>
          rw [hr] at hC hD
          unfold firstV at hC
          unfold whichI at hD
          dsimp only at hC hD
          have HC := Lib.hid hC
          clear hC hr hfg
          go_wp2_with fail
          refine HC.out.mono ?_
          rintro e w7 ⟨rfl, hB7⟩
          have hD := hD _ hB7
          have HB7 := Lib.hid (HB.out.trans (hB7.mono HB.out.size))
          clear hB7 HB HC
          go_wp2_with fail
          refine hD.out.mono ?_
          rintro e w8 ⟨rfl, hB8⟩
          have HB8 := Lib.hid (HB7.out.trans (hB8.mono HB7.out.size))
          clear hB8 HB7 hD
          go_wp2_with fail
          go_roundw
          case rel => exact ⟨k + 1, by omega, by go_num, HB8.out⟩
          case measure => simp [intOf]; omega
        | some q =>
          obtain ⟨q1, q2, q3, -⟩ := firstP_at hr
          rw [hr] at hC hD
          unfold firstV at hC
          unfold whichI at hD
          dsimp only at hC hD
          have hA := fun W => Lib.hid (Try.refAt_any g h q.1 hg hg2 q1 hh2 W)
          rw [← q2] at hA
          have HC := Lib.hid hC
          clear hC hr hfg q2 q3
          obtain ⟨i, x⟩ := q
          dsimp only at *
          have e1 : ((i : Int) != (i : Int)) = false := by simp
          have e2 : ((x : Int) != (x : Int)) = false := by simp
          have e3 : (0 : Int) ≤ (i : Int) := by omega
          go_wp2_with fail
          refine HC.out.mono ?_
          rintro e w7 ⟨rfl, hB7⟩
          have hD := hD _ hB7
          have HB7 := Lib.hid (HB.out.trans (hB7.mono HB.out.size))
          clear hB7 HB HC
          go_wp2_with fail
          refine hD.out.mono ?_
          rintro e w8 ⟨rfl, hB8⟩
          have HB8 := Lib.hid (HB7.out.trans (hB8.mono HB7.out.size))
          clear hB8 HB7 hD
          go_wp2_with fail
          refine (hA _).out.mono ?_
          rintro e w9 ⟨rfl, rfl⟩
          go_wp2_with fail
          go_roundw
          case rel => exact ⟨k + 1, by omega, by go_num, HB8.out⟩
          case measure => simp [intOf]; omega
      · have HC := Lib.hid (Try.First_few g h x3 k70 y3 hm hfg wr)
        have hq : ((k70 : Int) == (g : Int)) = false := by simp; omega
        clear hfg
        go_wp2_with fail
        refine HC.out.mono ?_
        rintro e w7 ⟨rfl, hB7⟩
        have HB7 := Lib.hid (HB.out.trans (hB7.mono HB.out.size))
        clear hB7 HB HC
        go_wp2_with fail
        go_roundw
        case rel => exact ⟨k + 1, by omega, by go_num, HB7.out⟩
        case measure => simp [intOf]; omega
    · obtain rfl : k = k6 := by omega
      have HB := Lib.hid hB
      have HWr := Lib.hid (RowAt.below HW6.out hB)
      have HBr := Lib.hid (HB6.out.trans (hB.mono HB6.out.size))
      clear hB HB HW6 HF6 HB6
      rename World => w7
      go_wp2_with fail
      go_loop [139] (fun j => ∃ i : Nat, i ≤ k ∧ j = .int .i64 i) (fun j => k - (intOf j).toNat)
      case atStart => exact ⟨0, Nat.zero_le _, rfl⟩
      case round =>
        obtain ⟨i, hik, rfl⟩ := hrel
        by_cases hlt3 : i < k
        · have hii : (i : Int) < (k : Int) := by omega
          obtain ⟨b, off, rfl, hb, hc⟩ := wordsAt_get (show WordsAt w7 (.slice x2 k y2) hs from HWr.out) i (by rw [HM6.out]; exact hlt3)
          have hlt4 : i < hs.length := by rw [HM6.out]; exact hlt3
          have hkr := HK6.out _ (List.getElem_mem hlt4)
          rw [List.getElem?_eq_getElem hlt4, Option.getD_some] at hc
          obtain ⟨h, hh⟩ : ∃ h : Nat, hs[i] = (h : Int) := ⟨(hs[i]).toNat, by omega⟩
          rw [hh] at hc hkr
          have hr9 : (h : Int) % 9 = ((h % 9 : Nat) : Int) := by rw [Int.natCast_emod]; rfl
          have hrl : h % 9 < 9 := Nat.mod_lt _ (by decide)
          generalize h % 9 = r at *
          have HX := Lib.hid (Try.Next_any g ((r : Int) - 1) (i : Int) hm w7)
          have hi6 : i < 6 := by omega
          clear hh hlt4
          have HR9 := Lib.hid hr9
          clear hr9
          by_cases c1 : r = 0
          · rw [next_out (by omega)] at HX
            have q1 : ¬ (0 : Int) ≤ (r : Int) - 1 := by omega
            clear c1
            go_wp2_with fail
            rw [HR9.out]
            refine HX.out.mono ?_
            rintro e w8 ⟨rfl, rfl⟩
            go_wp2_with fail
            go_round
            case rel => exact ⟨i + 1, by omega, by go_num⟩
            case measure => simp [intOf]; omega
          · by_cases c2 : (g : Int) ≤ (r : Int) - 1
            · rw [next_out (by omega)] at HX
              have q1 : (0 : Int) ≤ (r : Int) - 1 := by omega
              have q2 : ¬ (r : Int) - 1 < (g : Int) := by omega
              go_wp2_with fail
              rw [HR9.out]
              refine HX.out.mono ?_
              rintro e w8 ⟨rfl, rfl⟩
              go_wp2_with fail
              go_round
              case rel => exact ⟨i + 1, by omega, by go_num⟩
              case measure => simp [intOf]; omega
            · by_cases c3 : (g : Int) - 1 ≤ (i : Int)
              · rw [next_out (by omega)] at HX
                have q1 : (0 : Int) ≤ (r : Int) - 1 := by omega
                have q2 : (r : Int) - 1 < (g : Int) := by omega
                have q3 : ¬ (i : Int) < (g : Int) - 1 := by omega
                go_wp2_with fail
                rw [HR9.out]
                refine HX.out.mono ?_
                rintro e w8 ⟨rfl, rfl⟩
                go_wp2_with fail
                go_round
                case rel => exact ⟨i + 1, by omega, by go_num⟩
                case measure => simp [intOf]; omega
              · rw [next_in (by omega)] at HX
                have q1 : (0 : Int) ≤ (r : Int) - 1 := by omega
                have q2 : (r : Int) - 1 < (g : Int) := by omega
                have q3 : (i : Int) < (g : Int) - 1 := by omega
                have q4 : (((r : Int) - 1 + (i : Int) + 1) % (g : Int) != ((r : Int) - 1 + (i : Int) + 1) % (g : Int)) = false := by simp
                go_wp2_with fail
                rw [HR9.out]
                refine HX.out.mono ?_
                rintro e w8 ⟨rfl, rfl⟩
                go_wp2_with fail
                go_round
                case rel => exact ⟨i + 1, by omega, by go_num⟩
                case measure => simp [intOf]; omega
        · obtain rfl : i = k := by omega
          go_wp2_with fail
          go_ret
          exact ⟨rfl, HBr.out⟩
theorem walk (a0 : Int) (a1 : Option Addr) (len1 cap1 : Nat) (z1 : List Bool) (a2 : Option Addr) (len2 cap2 : Nat) (z2 : List Int) (w : World) (_w0 : (Lit.int .i64 a0).wf = true) (n1 : len1 = z1.length) (w1 : BAt w (.slice a1 len1 cap1) z1) (n2 : len2 = z2.length) (w2 : WordsK w (.slice a2 len2 cap2) z2) :
    Calls Try.prog 4 #[.int .i64 a0, .slice a1 len1 cap1, .slice a2 len2 cap2] w fun e w' => e = .returned (.bool true) ∧ Below w.heap.size w w' := by
  by_cases hc : checkE a0 = 0
  · obtain ⟨g, rfl, hm, _⟩ := checkE_ok hc
    exact walkYes g hm a1 len1 cap1 z1 a2 len2 cap2 z2 w2.2 w ⟨n1, n2, w1, w2.1⟩
  · exact walkNo a0 hc a1 len1 cap1 z1 a2 len2 cap2 z2 w ⟨n1, n2, w1, w2.1⟩
theorem laidOut : laidOutB Try.prog = true := by kernel_rfl
set_option maxRecDepth 100000 in
theorem lifted (os : Os) (started : os.Started) (H : Type) (enc : TypeId × Value → H) :
    ReturnsInHanded {} Try.checked os 4 .any (Rows.probeFirstSpec.pre6 enc Try.prog Try.f4 Rows.probeFirstRow.domain false) (Rows.probeFirstSpec.post enc Try.prog Try.f4 false true false false) := by
  refine returnsInHanded_of_change (C := Try.checked) own started (by kernel_rfl) Try.func4
    (ChangeSpec.witness6 (enc := enc) (C := Try.checked) false ⟨#[], #[.int .i64 0, .slice none 0 0, .slice none 0 0], []⟩ 8 (by kernel_rfl) (by kernel_rfl) (by kernel_rfl) (by kernel_rfl)) ?_
  intro W base args ds gs before hval0 hW hcnd _
  have hval : ∀ (j : Nat) t v, Try.f4.params[j]? = some t → args[j]? = some v → Value.okWide Try.prog W .any base t v := hval0
  have hW' := hW
  obtain ⟨p, q, hA0, hV, rfl, hfz, hnd⟩ := hW
  have hA : DataW.TrodAll enc Try.prog W 0 (fun _ => true) true Try.f4.params.toList args.toList ds p := hA0
  rw [Try.params4] at hA hval
  obtain ⟨v0, vs0, d0, ds0, p0, q0, hargs, rfl, rfl, h0, r0⟩ := trodAll_cons hA
  obtain ⟨v1, vs1, d1, ds1, p1, q1, rfl, rfl, rfl, h1, r1⟩ := trodAll_cons r0
  obtain ⟨v2, vs2, d2, ds2, p2, q2, rfl, rfl, rfl, h2, r2⟩ := trodAll_cons r1
  obtain ⟨rfl, rfl, rfl⟩ := trodAll_nil r2
  obtain rfl : args = #[v0, v1, v2] := by cases args; simp_all
  obtain ⟨rfl, rfl⟩ := trodVars_none hV
  obtain ⟨a0, rfl, rfl, rfl, w0⟩ := open_int Try.underlying3 (hval 0 3 v0 rfl rfl) h0
  obtain ⟨a1, len1, cap1, rfl⟩ := okWide_slice Try.underlying36 (hval 1 36 v1 rfl rfl)
  have k1 := h1
  have lt1 : ∀ x ∈ p1, x.block < W.heap.size := by obtain ⟨m, hm⟩ := k1; exact DataW.trod_lt m _ _ _ hm
  obtain ⟨z1, n1, w1⟩ : ∃ zs, len1 = zs.length ∧ BAt W (.slice a1 len1 cap1) zs := by
    obtain ⟨fuel, hf⟩ := h1
    exact open_bools hf
  obtain ⟨a2, len2, cap2, rfl⟩ := okWide_slice Try.underlying37 (hval 2 37 v2 rfl rfl)
  have k2 := h2
  have lt2 : ∀ x ∈ p2, x.block < W.heap.size := by obtain ⟨m, hm⟩ := k2; exact DataW.trod_lt m _ _ _ hm
  obtain ⟨z2, n2, w2⟩ : ∃ zs, len2 = zs.length ∧ WordsK W (.slice a2 len2 cap2) zs := by
    obtain ⟨fuel, hf⟩ := h2
    exact open_wordsK hf
  clear hA0 hval0
  refine (walk a0 a1 len1 cap1 z1 a2 len2 cap2 z2 W w0 n1 w1 n2 w2).mono fun e W' ⟨he, bel⟩ => ?_
  subst he
  exact ⟨_, rfl, _, _, _, [], _, [], hW', trodAll_mk1 (shut_bool Try.underlying4 _), (trodAll_cons_mk (shut_int Try.underlying3 w0) (trodAll_cons_mk (Below.trod laidOut (by kernel_rfl) (of_decide_eq_true (by kernel_rfl)) k1 bel lt1) (trodAll_cons_mk (Below.trod laidOut (by kernel_rfl) (of_decide_eq_true (by kernel_rfl)) k2 bel lt2) trodAll_mk0))), rfl, bel.frame _, fun h => by cases h⟩

theorem over : Rows.probeFirstRow.holds Try.pinned (OpenSpec.ofChange Rows.probeFirstSpec) :=
  OpenClaim.holds_of_wide 4 Try.f4 rfl rfl rfl rfl rfl rfl rfl ⟨rfl, rfl, rfl, rfl, rfl⟩ rfl rfl rfl rfl rfl (by kernel_rfl) Try.func4 (by kernel_rfl)
    (of_decide_eq_true (by kernel_rfl)) (by unfold Func.isWrapper; first | (rw [if_pos (by decide +kernel)]; kernel_rfl) | (rw [if_neg (by decide +kernel)]; exact ⟨rfl, rfl⟩))
    (fun os started H enc _ => lifted os started H enc)

theorem proved : Rows.ProbeFirstSaid := over
end Go.Proofs.Ytehphohgnpbmpaa.probeFirst
