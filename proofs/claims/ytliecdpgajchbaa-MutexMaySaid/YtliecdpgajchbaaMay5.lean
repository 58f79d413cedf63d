/- Proved: for every two rows of mutexes and row of goroutines, honeycomblaw05.MutexMay returns true, and its arguments read as they did; no condition. -/
import Derived.Test.YtliecdpgajchbaaNb
import Derived.ChangeAt
import Derived.JoinedAt
import Derived.ProofKit
import Derived.OpenShut
import Derived.Test.YtliecdpgajchbaaRows
namespace Go.Proofs.Ytliecdpgajchbaa.mutexMay
open Go.ChangeShapes Go.WideShapes Go.ChangeAt Go.RowKit Go.Shelf
attribute [local go_sem] Oper.semAt_some

theorem own : ownKnob Try.prog.godebug = none := by kernel_rfl
theorem hasF_len (g : Int) (ms : List Mx) (k : Nat) : (hasF g k ms).length ≤ ms.length := by
  induction ms generalizing k with
  | nil => simp [hasF]
  | cons m t ih =>
    have := ih (k + 1)
    unfold hasF
    split
    · simp; omega
    · simp; omega
theorem hasZ_len (g : Int) (ms : List Mx) : (hasZ ms g).length ≤ ms.length := by
  unfold hasZ hasB
  split
  · exact hasF_len _ _ _
  · simp
theorem chase_len (f : Int → Int) (first : Int) (n : Nat) (cur : Int) (l : List Int) (h : chase f first n cur = some l) : l.length ≤ n := by
  induction n generalizing cur l with
  | zero => cases h
  | succ n ih =>
    unfold chase at h
    split at h
    · cases h
    · split at h
      · cases h; simp
      · rw [Option.map_eq_some_iff] at h
        obtain ⟨y, hy, rfl⟩ := h
        have := ih _ _ hy
        simp
        omega
theorem ringG_len (f : Int → Int) (n k : Nat) : (ringG f n k).length ≤ 8 := by
  induction n generalizing k with
  | zero => simp [ringG]
  | succ n ih =>
    unfold ringG
    split
    · rename_i l h
      exact chase_len _ _ _ _ _ h
    · exact ih _
theorem hasR_right {ms : List Mx} (h : rightB ms = true) (g : Int) : hasR ms g = hasZ ms g := by
  unfold hasR hasZ
  cases goerB g <;> simp [h]
theorem hasR_wrong {ms : List Mx} (h : rightB ms = false) (g : Int) : hasR ms g = [] := by
  unfold hasR
  simp [h]
theorem waitsR_right {ms : List Mx} (h : rightB ms = true) (g : Int) : (waitsB ms g = -1 ∧ waitsR ms g = (0, false)) ∨ ∃ i : Nat, waitsB ms g = (i : Int) ∧ waitsR ms g = ((i : Int), true) := by
  unfold waitsR waitsP
  rw [if_pos h]
  rcases waitsB_le ms g with e | e
  · exact .inl ⟨e, by rw [if_pos e]⟩
  · refine .inr ⟨(waitsB ms g).toNat, by omega, ?_⟩
    rw [if_neg (by omega), show (((waitsB ms g).toNat : Nat) : Int) = waitsB ms g by omega]

set_option maxRecDepth 100000 in
set_option maxHeartbeats 8000000 in
theorem walkT (a0 : Option Addr) (n0 c0 : Nat) (z0 : List Mx) (a1 : Option Addr) (n1 c1 : Nat) (z1 : List Mx) (a2 : Option Addr) (n2 c2 : Nat) (z2 : List Int) (w : World) (hr : rightB (cutB z0) = true) (hn2 : n2 = z2.length) (h0 : MxAt w (.slice a0 n0 c0) z0) (h1 : MxAt w (.slice a1 n1 c1) z1) (h2 : IntsAt w (.slice a2 n2 c2) z2) :
    Calls Try.prog 3 #[.slice a0 n0 c0, .slice a1 n1 c1, .slice a2 n2 c2] w fun e w' => e = .returned (.bool true) ∧ Below w.heap.size w w' := by
  obtain ⟨i0, hi, hz0, hz1, hz2⟩ := info_parts Try.infoMx
  have hql := cutB_q z0
  have hql2 := cutB_q z1
  have hll := cutB_length z0
  have ho0 := fun W (hB : Below w.heap.size w W) => Try.own_ok a0 n0 c0 z0 W (h0.below hB)
  have ho1 := fun W (hB : Below w.heap.size w W) => Try.own_ok a1 n1 c1 z1 W (h1.below hB)
  have hreach : n2 ≤ maxLen := by have := ints_len h2; omega
  unfold maxLen at hreach
  generalize cutB z0 = ms at *
  generalize cutB z1 = m2 at *
  have he : errB ms = 0 := by unfold errB; rw [hr]; rfl
  have HE := Lib.hid he
  have HR := Lib.hid hr
  have HQ := Lib.hid hql
  have HQ2 := Lib.hid hql2
  have HLL := Lib.hid hll
  have HO0 := Lib.hid ho0
  have HO1 := Lib.hid ho1
  have HG := Lib.hid h2
  have HN2 := Lib.hid hn2
  clear h0 h1 h2 ho0 ho1 hql hql2 hll hr he hn2
  go_enter Try.func3, Try.ntmps3
  go_wp2_with fail
  refine (Try.wakes_any w).mono ?_
  rintro e w1 ⟨rfl, b1⟩
  have B1 := Lib.hid b1
  clear b1
  go_wp2_with fail
  refine (HO0.out w1 B1.out).mono ?_
  rintro e w2 ⟨va, N, vc, rfl, hM, b2⟩
  have B2 := Lib.hid (B1.out.trans (b2.mono B1.out.size))
  have M2 := Lib.hid hM
  clear b2 hM B1
  go_wp2_with fail
  refine (HO1.out w2 B2.out).mono ?_
  rintro e w3 ⟨vb, Nb, vd, rfl, hM, b3⟩
  have B3 := Lib.hid (B2.out.trans (b3.mono B2.out.size))
  have M3 := Lib.hid (M2.out.below b3)
  have K3 := Lib.hid hM
  clear b3 hM B2 M2
  have HNL := Lib.hid (mxAt_len M3.out).1
  have hsm := fun W (h1 : MxAt W (.slice va N vc) ms) h2 => Try.same_any va vb N Nb vc vd ms m2 (by have := HQ.out; omega) (by have := HQ2.out; omega) W h1 h2
  have hrs := fun W (h1 : MxAt W (.slice va N vc) ms) h2 => Try.refSame_any va vb N Nb vc vd ms m2 W h1 h2
  generalize decide (ms = m2) = d at *
  have hdd : (d != d) = false := by cases d <;> rfl
  have HSM := Lib.hid hsm
  have HRS := Lib.hid hrs
  clear hsm hrs
  have hrt := Try.refRight_any va N vc ms (by have := HQ.out; omega) w3 M3.out
  rw [HR.out] at hrt
  have HRT := Lib.hid hrt
  clear hrt
  go_wp2_with fail
  refine HRT.out.mono ?_
  rintro e w4 ⟨rfl, b4⟩
  have B4 := Lib.hid (B3.out.trans (b4.mono B3.out.size))
  have M4 := Lib.hid (M3.out.below b4)
  have K4 := Lib.hid (K3.out.below b4)
  have hck := Try.Check_any va N vc ms w4 M4.out
  rw [HE.out] at hck
  have HCK := Lib.hid hck
  clear b4 B3 M3 K3 hck HRT
  go_wp2_with fail
  refine HCK.out.mono ?_
  rintro e w5 ⟨rfl, b5⟩
  have B5 := Lib.hid (B4.out.trans (b5.mono B4.out.size))
  have M5 := Lib.hid (M4.out.below b5)
  have K5 := Lib.hid (K4.out.below b5)
  clear b5 B4 M4 K4 HCK
  go_wp2_with fail
  refine (HSM.out w5 M5.out K5.out).mono ?_
  rintro e w6 ⟨rfl, b6⟩
  have B6 := Lib.hid (B5.out.trans (b6.mono B5.out.size))
  have M6 := Lib.hid (M5.out.below b6)
  have K6 := Lib.hid (K5.out.below b6)
  clear b6 B5 M5 K5 HSM
  go_wp2_with fail
  refine (HRS.out w6 M6.out K6.out).mono ?_
  rintro e w7 ⟨rfl, b7⟩
  have B7 := Lib.hid (B6.out.trans (b7.mono B6.out.size))
  have M7 := Lib.hid (M6.out.below b7)
  clear b7 B6 M6 K6 HRS
  go_wp2_with fail
  refine (HO0.out w7 B7.out).mono ?_
  rintro e w8 ⟨vx, Nx, vy, rfl, hM, b8⟩
  have B8 := Lib.hid (B7.out.trans (b8.mono B7.out.size))
  have M8 := Lib.hid (M7.out.below b8)
  have hsm := Try.same_any va vx N Nx vc vy ms ms (by have := HQ.out; omega) (by have := HQ.out; omega) w8 M8.out hM
  rw [show decide (ms = ms) = true from by simp] at hsm
  have HSM := Lib.hid hsm
  clear b8 B7 M7 hM hsm
  go_wp2_with fail
  refine HSM.out.mono ?_
  rintro e w9 ⟨rfl, b9⟩
  have B9 := Lib.hid (B8.out.trans (b9.mono B8.out.size))
  have M9 := Lib.hid (M8.out.below b9)
  clear b9 B8 M8 HSM hdd
  have hrr : ringR ms = ringB ms := by unfold ringR; rw [if_pos HR.out]
  have hrl : (ringB ms).length ≤ 8 := ringG_len _ _ _
  have hrg := Try.refRing_any va N vc ms HR.out w9 M9.out
  have hra := fun W (h : MxAt W (.slice va N vc) ms) => Try.Ring_any va N vc ms W h
  rw [hrr] at hra
  generalize ringB ms = R at *
  have HRL := Lib.hid hrl
  have HRG := Lib.hid hrg
  have HRA := Lib.hid hra
  clear hrl hrg hra hrr
  go_wp2_with fail
  refine HRG.out.mono ?_
  rintro e w10 ⟨v, rfl, ho, b10⟩
  have hro := rowAt_own ho
  obtain ⟨_, ra, rc, rfl, _⟩ := rowAt_own ho
  have HRO := Lib.hid (show IntsAt w10 (.slice ra R.length rc) R from hro)
  have B10 := Lib.hid (B9.out.trans (b10.mono B9.out.size))
  have M10 := Lib.hid (M9.out.below b10)
  clear b10 B9 M9 HRG ho hro
  obtain ⟨rn, hrn⟩ : ∃ rn, rn = R.length := ⟨_, rfl⟩
  rw [← hrn] at HRO ⊢
  have HRN := Lib.hid hrn
  clear hrn
  go_wp2_with fail
  go_loopw [63] (fun j wr => ∃ k : Nat, k ≤ n2 ∧ k ≤ 10 ∧ j = .int .i64 k ∧ Hid (IntsAt wr (.slice ra rn rc) R) ∧ Hid (MxAt wr (.slice va N vc) ms) ∧ Hid (Below w.heap.size w wr)) (fun j _ => n2 - (intOf j).toNat)
  case atStart => exact ⟨0, Nat.zero_le _, by omega, rfl, HRO, M10, B10⟩
  case round =>
    obtain ⟨k, hk, hk10, rfl, hRO, hM, hB⟩ := hrel
    have hfin : n2 = k ∨ k < n2 ∧ k = 10 ∨ k < n2 ∧ k < 10 := by omega
    rcases hfin with hfk | ⟨hlt, hfk⟩ | ⟨hlt, h10⟩
    case inl =>
      subst hfk
      go_wp2_with fail
      refine (HRA.out wr hM.out).mono ?_
      rintro e w20 ⟨ya, yc, rfl, h20, b20⟩
      have heq := Try.equalInts_any ya ra rn rn yc rc R R HRN.out HRN.out (by have := HRN.out; have := HRL.out; omega) (by have := HRN.out; have := HRL.out; omega) w20 (by rw [HRN.out]; exact h20) (RowAt.below hRO.out b20)
      rw [show decide (R = R) = true from by simp] at heq
      have HEQ := Lib.hid heq
      have B20 := Lib.hid (hB.out.trans (b20.mono hB.out.size))
      have M20 := Lib.hid (hM.out.below b20)
      clear b20 HRA heq h20 hM hB
      rw [← HRN.out]
      go_wp2_with fail
      refine HEQ.out.mono ?_
      rintro e w21 ⟨rfl, b21⟩
      have B21 := Lib.hid (B20.out.trans (b21.mono B20.out.size))
      have M21 := Lib.hid (M20.out.below b21)
      clear b21 B20 M20 HEQ
      go_wp2_with fail
      refine (HO0.out w21 B21.out).mono ?_
      rintro e w22 ⟨vp, Np, vq, rfl, hM, b22⟩
      have B22 := Lib.hid (B21.out.trans (b22.mono B21.out.size))
      have hsm := Try.refSame_any va vp N Np vc vq ms ms w22 (M21.out.below b22) hM
      rw [show decide (ms = ms) = true from by simp] at hsm
      have HSM := Lib.hid hsm
      clear b22 B21 M21 hM hsm
      go_wp2_with fail
      refine HSM.out.mono ?_
      rintro e w23 ⟨rfl, b23⟩
      have B23 := Lib.hid (B22.out.trans (b23.mono B22.out.size))
      clear b23
      go_wp2_with fail
      go_ret
      exact ⟨by simp, B23.out⟩
    case inr.inl =>
      subst hfk
      obtain ⟨b, off, rfl, hb, hz⟩ := intsAt_get (RowAt.below HG.out hB.out) 10 (by rw [← HN2.out]; exact hlt)
      generalize z2[10]?.getD 0 = g at *
      have hki : (10 : Int) < (n2 : Int) := by omega
      go_wp2_with fail
      refine (HRA.out wr hM.out).mono ?_
      rintro e w20 ⟨ya, yc, rfl, h20, b20⟩
      have heq := Try.equalInts_any ya ra rn rn yc rc R R HRN.out HRN.out (by have := HRN.out; have := HRL.out; omega) (by have := HRN.out; have := HRL.out; omega) w20 (by rw [HRN.out]; exact h20) (RowAt.below hRO.out b20)
      rw [show decide (R = R) = true from by simp] at heq
      have HEQ := Lib.hid heq
      have B20 := Lib.hid (hB.out.trans (b20.mono hB.out.size))
      have M20 := Lib.hid (hM.out.below b20)
      clear b20 HRA heq h20 hM hB
      rw [← HRN.out]
      go_wp2_with fail
      refine HEQ.out.mono ?_
      rintro e w21 ⟨rfl, b21⟩
      have B21 := Lib.hid (B20.out.trans (b21.mono B20.out.size))
      have M21 := Lib.hid (M20.out.below b21)
      clear b21 B20 M20 HEQ
      go_wp2_with fail
      refine (HO0.out w21 B21.out).mono ?_
      rintro e w22 ⟨vp, Np, vq, rfl, hM, b22⟩
      have B22 := Lib.hid (B21.out.trans (b22.mono B21.out.size))
      have hsm := Try.refSame_any va vp N Np vc vq ms ms w22 (M21.out.below b22) hM
      rw [show decide (ms = ms) = true from by simp] at hsm
      have HSM := Lib.hid hsm
      clear b22 B21 M21 hM hsm
      go_wp2_with fail
      refine HSM.out.mono ?_
      rintro e w23 ⟨rfl, b23⟩
      have B23 := Lib.hid (B22.out.trans (b23.mono B22.out.size))
      clear b23
      go_wp2_with fail
      go_ret
      exact ⟨by simp, B23.out⟩
    case inr.inr =>
      obtain ⟨b, off, rfl, hb, hz⟩ := intsAt_get (RowAt.below HG.out hB.out) k (by rw [← HN2.out]; exact hlt)
      generalize z2[k]?.getD 0 = g at *
      have hki : (k : Int) < (n2 : Int) := by omega
      have hkt : ((k : Int) == 10) = false := by simp; omega
      have hkt2 : ¬ (k : Int) = 10 := by omega
      have hW := Try.Waits_any g va N vc ms wr hM.out
      have hH := fun W (h : MxAt W (.slice va N vc) ms) => Try.Has_any g va N vc ms W h
      have hRW := fun W (h : MxAt W (.slice va N vc) ms) => Try.refWaits_any g va N vc ms W h
      have hRH := fun W (h : MxAt W (.slice va N vc) ms) => Try.refHas_any g va N vc ms (by have := HNL.out; have := HLL.out; omega) W h
      rw [hasR_right HR.out] at hH
      have hhl : (hasZ ms g).length ≤ 10000 := by have := hasZ_len g ms; have := HLL.out; omega
      have hcase := waitsR_right HR.out g
      generalize hasZ ms g = hs at *
      have HRH := Lib.hid hRH
      have HH := Lib.hid hH
      have HHL := Lib.hid hhl
      clear hRH hH hhl
      rcases hcase with ⟨e1, e2⟩ | ⟨i, e1, e2⟩
      case' inr =>
        have f1 : max (i : Int) 0 = i := by omega
        have f2 : ¬ (i : Int) < 0 := by omega
        have f3 : (0 : Int) ≤ i := by omega
        have f4 : (if (0 : Int) ≤ (i : Int) then (i : Int) else 0) = i := if_pos f3
        have f5 : (if (i : Int) < 0 then (0 : Int) else (i : Int)) = i := if_neg f2
      all_goals
        rw [e2] at hW
        simp only [e1] at hRW
        have HW := Lib.hid hW
        have HRW := Lib.hid hRW
        clear hW hRW e1 e2
        go_wp2_with fail
        refine HW.out.mono ?_
        rintro e w11 ⟨rfl, b11⟩
        have B11 := Lib.hid (hB.out.trans (b11.mono hB.out.size))
        have M11 := Lib.hid (hM.out.below b11)
        have R11 := Lib.hid (RowAt.below hRO.out b11)
        clear b11 HW
        go_wp2_with fail
        refine (HRW.out w11 M11.out).mono ?_
        rintro e w12 ⟨rfl, b12⟩
        have B12 := Lib.hid (B11.out.trans (b12.mono B11.out.size))
        have M12 := Lib.hid (M11.out.below b12)
        have R12 := Lib.hid (RowAt.below R11.out b12)
        clear b12 HRW B11 M11 R11
        go_wp2_with fail
        refine (HRH.out w12 M12.out).mono ?_
        rintro e w13 ⟨v, rfl, ho, b13⟩
        have hro := rowAt_own ho
        obtain ⟨_, xa, xc, rfl, _⟩ := rowAt_own ho
        have X13 := Lib.hid (show IntsAt w13 (.slice xa hs.length xc) hs from hro)
        have B13 := Lib.hid (B12.out.trans (b13.mono B12.out.size))
        have M13 := Lib.hid (M12.out.below b13)
        have R13 := Lib.hid (RowAt.below R12.out b13)
        clear b13 HRH B12 M12 R12 ho hro
        go_wp2_with fail
        refine (HH.out w13 M13.out).mono ?_
        rintro e w14 ⟨ya, yc, rfl, h14, b14⟩
        have heq := Try.equalInts_any ya xa hs.length hs.length yc xc hs hs rfl rfl HHL.out HHL.out w14 h14 (RowAt.below X13.out b14)
        rw [show decide (hs = hs) = true from by simp] at heq
        have HEQ := Lib.hid heq
        have B14 := Lib.hid (B13.out.trans (b14.mono B13.out.size))
        have M14 := Lib.hid (M13.out.below b14)
        have R14 := Lib.hid (RowAt.below R13.out b14)
        clear b14 HH B13 M13 R13 heq h14 X13
        go_wp2_with fail
        refine HEQ.out.mono ?_
        rintro e w15 ⟨rfl, b15⟩
        have B15 := Lib.hid (B14.out.trans (b15.mono B14.out.size))
        have M15 := Lib.hid (M14.out.below b15)
        have R15 := Lib.hid (RowAt.below R14.out b15)
        clear b15 HEQ B14 M14 R14
        go_wp2_with fail
        have hgc : g < 1 ∨ (¬ g < 1 ∧ 160 < g) ∨ (1 ≤ g ∧ g ≤ 160) := by omega
        rcases hgc with hg3 | ⟨hg3, hg5⟩ | ⟨hg3, hg4⟩
        case inr.inr =>
          obtain ⟨m, rfl⟩ : ∃ m : Nat, g = (m : Int) := ⟨g.toNat, by omega⟩
          have hg6 : (1 : Int) ≤ (m : Int) := hg3
          have hg7 : (m : Int) ≤ 160 := hg4
          have hnw := Try.new_ok m (by omega) w15
          refine hnw.mono ?_
          rintro e w16 ⟨r, rfl, h16, b16⟩
          have B16 := Lib.hid (B15.out.trans (b16.mono B15.out.size))
          have M16 := Lib.hid (M15.out.below b16)
          have R16 := Lib.hid (RowAt.below R15.out b16)
          have N16 := Lib.hid h16
          have HMM := Lib.hid hg4
          clear b16 B15 M15 R15 h16 hnw
          obtain ⟨w17, hrun, hown, hgr⟩ := run_make_full (P := Try.prog) w16 w16.heap.size 22 53 i0 (.agg #[.int .i64 0, .slice none 0 0]) 2 Try.underlying22 hi hz0 hz1 .i64 .i64 m (by rw [hz2]; omega) (by unfold maxLen; omega) (Nat.le_refl _)
          have b17 : Below w16.heap.size w16 w17 := (Below.refl w16.heap.size w16).grown hgr (Nat.le_refl _) (fun j ej => by cases ej)
          have hmade := (own_made hown).at
          have hsm := Try.refSame_any _ _ m m m m (freeM m) (freeM m) w17 (N16.out.below b17) hmade
          rw [show decide (freeM m = freeM m) = true from by simp] at hsm
          have HSM := Lib.hid hsm
          have B17 := Lib.hid (B16.out.trans (b17.mono B16.out.size))
          have M17 := Lib.hid (M16.out.below b17)
          have R17 := Lib.hid (RowAt.below R16.out b17)
          clear b17 B16 M16 R16 N16 hsm hown hgr hmade
          go_wp2_with fail
          refine HSM.out.mono ?_
          rintro e w18 ⟨rfl, b18⟩
          have B18 := Lib.hid (B17.out.trans (b18.mono B17.out.size))
          have M18 := Lib.hid (M17.out.below b18)
          have R18 := Lib.hid (RowAt.below R17.out b18)
          clear b18
          go_wp2_with fail
          exact ⟨⟨k + 1, by omega, by omega, by go_num, R18, M18, B18⟩, by simp [intOf]; omega⟩
        all_goals
          have hnw := Try.New_any g w15
          refine hnw.mono ?_
          rintro e w16 hq
          rcases hq with ⟨_, rfl, rfl⟩ | ⟨hq, _⟩
          case inr => exfalso; omega
          have hg8 : (1 ≤ g) = False ∨ ((1 ≤ g) = True ∧ (g ≤ 160) = False) := by
            by_cases h : 1 ≤ g
            · exact .inr ⟨eq_true h, eq_false (by omega)⟩
            · exact .inl (eq_false h)
          clear hnw
          rcases hg8 with hg8 | ⟨hg8, hg9⟩
          all_goals
            first
            | (exfalso; simp at hg8; omega)
            | (go_wp2_with fail
               exact ⟨⟨k + 1, by omega, by omega, by go_num, R15, M15, B15⟩, by simp [intOf]; omega⟩)

set_option maxRecDepth 100000 in
set_option maxHeartbeats 8000000 in
theorem walkF (a0 : Option Addr) (n0 c0 : Nat) (z0 : List Mx) (a1 : Option Addr) (n1 c1 : Nat) (z1 : List Mx) (a2 : Option Addr) (n2 c2 : Nat) (z2 : List Int) (w : World) (hr : rightB (cutB z0) = false) (hn2 : n2 = z2.length) (h0 : MxAt w (.slice a0 n0 c0) z0) (h1 : MxAt w (.slice a1 n1 c1) z1) (h2 : IntsAt w (.slice a2 n2 c2) z2) :
    Calls Try.prog 3 #[.slice a0 n0 c0, .slice a1 n1 c1, .slice a2 n2 c2] w fun e w' => e = .returned (.bool true) ∧ Below w.heap.size w w' := by
  obtain ⟨i0, hi, hz0, hz1, hz2⟩ := info_parts Try.infoMx
  have hql := cutB_q z0
  have hql2 := cutB_q z1
  have hll := cutB_length z0
  have ho0 := fun W (hB : Below w.heap.size w W) => Try.own_ok a0 n0 c0 z0 W (h0.below hB)
  have ho1 := fun W (hB : Below w.heap.size w W) => Try.own_ok a1 n1 c1 z1 W (h1.below hB)
  have hreach : n2 ≤ maxLen := by have := ints_len h2; omega
  unfold maxLen at hreach
  generalize cutB z0 = ms at *
  generalize cutB z1 = m2 at *
  have he : errB ms = 150 := by unfold errB; rw [hr]; rfl
  have HE := Lib.hid he
  have HR := Lib.hid hr
  have HQ := Lib.hid hql
  have HQ2 := Lib.hid hql2
  have HLL := Lib.hid hll
  have HO0 := Lib.hid ho0
  have HO1 := Lib.hid ho1
  have HG := Lib.hid h2
  have HN2 := Lib.hid hn2
  clear h0 h1 h2 ho0 ho1 hql hql2 hll hr he hn2
  go_enter Try.func3, Try.ntmps3
  go_wp2_with fail
  refine (Try.wakes_any w).mono ?_
  rintro e w1 ⟨rfl, b1⟩
  have B1 := Lib.hid b1
  clear b1
  go_wp2_with fail
  refine (HO0.out w1 B1.out).mono ?_
  rintro e w2 ⟨va, N, vc, rfl, hM, b2⟩
  have B2 := Lib.hid (B1.out.trans (b2.mono B1.out.size))
  have M2 := Lib.hid hM
  clear b2 hM B1
  go_wp2_with fail
  refine (HO1.out w2 B2.out).mono ?_
  rintro e w3 ⟨vb, Nb, vd, rfl, hM, b3⟩
  have B3 := Lib.hid (B2.out.trans (b3.mono B2.out.size))
  have M3 := Lib.hid (M2.out.below b3)
  have K3 := Lib.hid hM
  clear b3 hM B2 M2
  have HNL := Lib.hid (mxAt_len M3.out).1
  have hsm := fun W (h1 : MxAt W (.slice va N vc) ms) h2 => Try.same_any va vb N Nb vc vd ms m2 (by have := HQ.out; omega) (by have := HQ2.out; omega) W h1 h2
  have hrs := fun W (h1 : MxAt W (.slice va N vc) ms) h2 => Try.refSame_any va vb N Nb vc vd ms m2 W h1 h2
  generalize decide (ms = m2) = d at *
  have hdd : (d != d) = false := by cases d <;> rfl
  have HSM := Lib.hid hsm
  have HRS := Lib.hid hrs
  clear hsm hrs
  have hrt := Try.refRight_any va N vc ms (by have := HQ.out; omega) w3 M3.out
  rw [HR.out] at hrt
  have HRT := Lib.hid hrt
  clear hrt
  go_wp2_with fail
  refine HRT.out.mono ?_
  rintro e w4 ⟨rfl, b4⟩
  have B4 := Lib.hid (B3.out.trans (b4.mono B3.out.size))
  have M4 := Lib.hid (M3.out.below b4)
  have K4 := Lib.hid (K3.out.below b4)
  have hck := Try.Check_any va N vc ms w4 M4.out
  rw [HE.out] at hck
  have HCK := Lib.hid hck
  clear b4 B3 M3 K3 hck HRT
  go_wp2_with fail
  refine HCK.out.mono ?_
  rintro e w5 ⟨rfl, b5⟩
  have B5 := Lib.hid (B4.out.trans (b5.mono B4.out.size))
  have M5 := Lib.hid (M4.out.below b5)
  have K5 := Lib.hid (K4.out.below b5)
  clear b5 B4 M4 K4 HCK
  go_wp2_with fail
  refine (HSM.out w5 M5.out K5.out).mono ?_
  rintro e w6 ⟨rfl, b6⟩
  have B6 := Lib.hid (B5.out.trans (b6.mono B5.out.size))
  have M6 := Lib.hid (M5.out.below b6)
  have K6 := Lib.hid (K5.out.below b6)
  clear b6 B5 M5 K5 HSM
  go_wp2_with fail
  refine (HRS.out w6 M6.out K6.out).mono ?_
  rintro e w7 ⟨rfl, b7⟩
  have B7 := Lib.hid (B6.out.trans (b7.mono B6.out.size))
  have M7 := Lib.hid (M6.out.below b7)
  clear b7 B6 M6 K6 HRS
  go_wp2_with fail
  refine (HO0.out w7 B7.out).mono ?_
  rintro e w8 ⟨vx, Nx, vy, rfl, hM, b8⟩
  have B8 := Lib.hid (B7.out.trans (b8.mono B7.out.size))
  have M8 := Lib.hid (M7.out.below b8)
  have hsm := Try.same_any va vx N Nx vc vy ms ms (by have := HQ.out; omega) (by have := HQ.out; omega) w8 M8.out hM
  rw [show decide (ms = ms) = true from by simp] at hsm
  have HSM := Lib.hid hsm
  clear b8 B7 M7 hM hsm
  go_wp2_with fail
  refine HSM.out.mono ?_
  rintro e w9 ⟨rfl, b9⟩
  have B9 := Lib.hid (B8.out.trans (b9.mono B8.out.size))
  have M9 := Lib.hid (M8.out.below b9)
  clear b9 B8 M8 HSM hdd
  have hrr : ringR ms = [] := by unfold ringR; rw [HR.out]; rfl
  have hra := fun W (h : MxAt W (.slice va N vc) ms) => Try.Ring_any va N vc ms W h
  rw [hrr] at hra
  have HRA := Lib.hid hra
  clear hra hrr
  obtain ⟨w10, rfl⟩ : ∃ x, x = w9 := ⟨_, rfl⟩
  have B10 := B9
  have M10 := M9
  clear B9 M9
  go_wp2_with fail
  go_loopw [63] (fun j wr => ∃ k : Nat, k ≤ n2 ∧ k ≤ 10 ∧ j = .int .i64 k ∧ Hid (MxAt wr (.slice va N vc) ms) ∧ Hid (Below w.heap.size w wr)) (fun j _ => n2 - (intOf j).toNat)
  case atStart => exact ⟨0, Nat.zero_le _, by omega, rfl, M10, B10⟩
  case round =>
    obtain ⟨k, hk, hk10, rfl, hM, hB⟩ := hrel
    have hfin : n2 = k ∨ k < n2 ∧ k = 10 ∨ k < n2 ∧ k < 10 := by omega
    rcases hfin with hfk | ⟨hlt, hfk⟩ | ⟨hlt, h10⟩
    case inl =>
      subst hfk
      go_wp2_with fail
      refine (HRA.out wr hM.out).mono ?_
      rintro e w20 ⟨ya, yc, rfl, h20, b20⟩
      have heq := Try.equalInts_any ya none 0 0 yc 0 [] [] rfl rfl (by omega) (by omega) w20 h20 (ints_none _)
      rw [show decide (([] : List Int) = ([] : List Int)) = true from by simp] at heq
      have HEQ := Lib.hid heq
      have B20 := Lib.hid (hB.out.trans (b20.mono hB.out.size))
      have M20 := Lib.hid (hM.out.below b20)
      clear b20 HRA heq h20 hM hB
      skip
      go_wp2_with fail
      refine HEQ.out.mono ?_
      rintro e w21 ⟨rfl, b21⟩
      have B21 := Lib.hid (B20.out.trans (b21.mono B20.out.size))
      have M21 := Lib.hid (M20.out.below b21)
      clear b21 B20 M20 HEQ
      go_wp2_with fail
      refine (HO0.out w21 B21.out).mono ?_
      rintro e w22 ⟨vp, Np, vq, rfl, hM, b22⟩
      have B22 := Lib.hid (B21.out.trans (b22.mono B21.out.size))
      have hsm := Try.refSame_any va vp N Np vc vq ms ms w22 (M21.out.below b22) hM
      rw [show decide (ms = ms) = true from by simp] at hsm
      have HSM := Lib.hid hsm
      clear b22 B21 M21 hM hsm
      go_wp2_with fail
      refine HSM.out.mono ?_
      rintro e w23 ⟨rfl, b23⟩
      have B23 := Lib.hid (B22.out.trans (b23.mono B22.out.size))
      clear b23
      go_wp2_with fail
      go_ret
      exact ⟨by simp, B23.out⟩
    case inr.inl =>
      subst hfk
      obtain ⟨b, off, rfl, hb, hz⟩ := intsAt_get (RowAt.below HG.out hB.out) 10 (by rw [← HN2.out]; exact hlt)
      generalize z2[10]?.getD 0 = g at *
      have hki : (10 : Int) < (n2 : Int) := by omega
      go_wp2_with fail
      refine (HRA.out wr hM.out).mono ?_
      rintro e w20 ⟨ya, yc, rfl, h20, b20⟩
      have heq := Try.equalInts_any ya none 0 0 yc 0 [] [] rfl rfl (by omega) (by omega) w20 h20 (ints_none _)
      rw [show decide (([] : List Int) = ([] : List Int)) = true from by simp] at heq
      have HEQ := Lib.hid heq
      have B20 := Lib.hid (hB.out.trans (b20.mono hB.out.size))
      have M20 := Lib.hid (hM.out.below b20)
      clear b20 HRA heq h20 hM hB
      skip
      go_wp2_with fail
      refine HEQ.out.mono ?_
      rintro e w21 ⟨rfl, b21⟩
      have B21 := Lib.hid (B20.out.trans (b21.mono B20.out.size))
      have M21 := Lib.hid (M20.out.below b21)
      clear b21 B20 M20 HEQ
      go_wp2_with fail
      refine (HO0.out w21 B21.out).mono ?_
      rintro e w22 ⟨vp, Np, vq, rfl, hM, b22⟩
      have B22 := Lib.hid (B21.out.trans (b22.mono B21.out.size))
      have hsm := Try.refSame_any va vp N Np vc vq ms ms w22 (M21.out.below b22) hM
      rw [show decide (ms = ms) = true from by simp] at hsm
      have HSM := Lib.hid hsm
      clear b22 B21 M21 hM hsm
      go_wp2_with fail
      refine HSM.out.mono ?_
      rintro e w23 ⟨rfl, b23⟩
      have B23 := Lib.hid (B22.out.trans (b23.mono B22.out.size))
      clear b23
      go_wp2_with fail
      go_ret
      exact ⟨by simp, B23.out⟩
    case inr.inr =>
      obtain ⟨b, off, rfl, hb, hz⟩ := intsAt_get (RowAt.below HG.out hB.out) k (by rw [← HN2.out]; exact hlt)
      generalize z2[k]?.getD 0 = g at *
      have hki : (k : Int) < (n2 : Int) := by omega
      have hkt : ((k : Int) == 10) = false := by simp; omega
      have hkt2 : ¬ (k : Int) = 10 := by omega
      have hW := Try.Waits_any g va N vc ms wr hM.out
      have hH := fun W (h : MxAt W (.slice va N vc) ms) => Try.Has_any g va N vc ms W h
      rw [hasR_wrong HR.out] at hH
      rw [show waitsR ms g = (0, false) from by unfold waitsR; rw [HR.out]; rfl] at hW
      have HH := Lib.hid hH
      have HW := Lib.hid hW
      clear hH hW
      skip
      all_goals
        go_wp2_with fail
        refine HW.out.mono ?_
        rintro e w11 ⟨rfl, b11⟩
        have B11 := Lib.hid (hB.out.trans (b11.mono hB.out.size))
        have M11 := Lib.hid (hM.out.below b11)
        clear b11 HW
        go_wp2_with fail
        refine (HH.out w11 M11.out).mono ?_
        rintro e w14 ⟨ya, yc, rfl, h14, b14⟩
        have heq := Try.equalInts_any ya none 0 0 yc 0 [] [] rfl rfl (by omega) (by omega) w14 h14 (ints_none _)
        rw [show decide (([] : List Int) = []) = true from by simp] at heq
        have HEQ := Lib.hid heq
        have B14 := Lib.hid (B11.out.trans (b14.mono B11.out.size))
        have M14 := Lib.hid (M11.out.below b14)
        clear b14 HH B11 M11 heq h14
        go_wp2_with fail
        refine HEQ.out.mono ?_
        rintro e w15 ⟨rfl, b15⟩
        have B15 := Lib.hid (B14.out.trans (b15.mono B14.out.size))
        have M15 := Lib.hid (M14.out.below b15)
        clear b15 HEQ B14 M14
        go_wp2_with fail
        have hgc : g < 1 ∨ (¬ g < 1 ∧ 160 < g) ∨ (1 ≤ g ∧ g ≤ 160) := by omega
        rcases hgc with hg3 | ⟨hg3, hg5⟩ | ⟨hg3, hg4⟩
        case inr.inr =>
          obtain ⟨m, rfl⟩ : ∃ m : Nat, g = (m : Int) := ⟨g.toNat, by omega⟩
          have hg6 : (1 : Int) ≤ (m : Int) := hg3
          have hg7 : (m : Int) ≤ 160 := hg4
          have hnw := Try.new_ok m (by omega) w15
          refine hnw.mono ?_
          rintro e w16 ⟨r, rfl, h16, b16⟩
          have B16 := Lib.hid (B15.out.trans (b16.mono B15.out.size))
          have M16 := Lib.hid (M15.out.below b16)
          skip
          have N16 := Lib.hid h16
          have HMM := Lib.hid hg4
          clear b16 B15 M15  h16 hnw
          obtain ⟨w17, hrun, hown, hgr⟩ := run_make_full (P := Try.prog) w16 w16.heap.size 22 53 i0 (.agg #[.int .i64 0, .slice none 0 0]) 2 Try.underlying22 hi hz0 hz1 .i64 .i64 m (by rw [hz2]; omega) (by unfold maxLen; omega) (Nat.le_refl _)
          have b17 : Below w16.heap.size w16 w17 := (Below.refl w16.heap.size w16).grown hgr (Nat.le_refl _) (fun j ej => by cases ej)
          have hmade := (own_made hown).at
          have hsm := Try.refSame_any _ _ m m m m (freeM m) (freeM m) w17 (N16.out.below b17) hmade
          rw [show decide (freeM m = freeM m) = true from by simp] at hsm
          have HSM := Lib.hid hsm
          have B17 := Lib.hid (B16.out.trans (b17.mono B16.out.size))
          have M17 := Lib.hid (M16.out.below b17)
          skip
          clear b17 B16 M16  N16 hsm hown hgr hmade
          go_wp2_with fail
          refine HSM.out.mono ?_
          rintro e w18 ⟨rfl, b18⟩
          have B18 := Lib.hid (B17.out.trans (b18.mono B17.out.size))
          have M18 := Lib.hid (M17.out.below b18)
          skip
          clear b18
          go_wp2_with fail
          exact ⟨⟨k + 1, by omega, by omega, by go_num, M18, B18⟩, by simp [intOf]; omega⟩
        all_goals
          have hnw := Try.New_any g w15
          refine hnw.mono ?_
          rintro e w16 hq
          rcases hq with ⟨_, rfl, rfl⟩ | ⟨hq, _⟩
          case inr => exfalso; omega
          have hg8 : (1 ≤ g) = False ∨ ((1 ≤ g) = True ∧ (g ≤ 160) = False) := by
            by_cases h : 1 ≤ g
            · exact .inr ⟨eq_true h, eq_false (by omega)⟩
            · exact .inl (eq_false h)
          clear hnw
          rcases hg8 with hg8 | ⟨hg8, hg9⟩
          all_goals
            first
            | (exfalso; simp at hg8; omega)
            | (go_wp2_with fail
               exact ⟨⟨k + 1, by omega, by omega, by go_num, M15, B15⟩, by simp [intOf]; omega⟩)

theorem walk (a0 : Option Addr) (n0 c0 : Nat) (z0 : List Mx) (a1 : Option Addr) (n1 c1 : Nat) (z1 : List Mx) (a2 : Option Addr) (n2 c2 : Nat) (z2 : List Int) (w : World) (_ : n0 = z0.length) (h0 : MxAt w (.slice a0 n0 c0) z0) (_ : n1 = z1.length) (h1 : MxAt w (.slice a1 n1 c1) z1) (hn2 : n2 = z2.length) (h2 : IntsAt w (.slice a2 n2 c2) z2) :
    Calls Try.prog 3 #[.slice a0 n0 c0, .slice a1 n1 c1, .slice a2 n2 c2] w fun e w' => e = .returned (.bool true) ∧ Below w.heap.size w w' := by
  cases hr : rightB (cutB z0) with
  | true => exact walkT a0 n0 c0 z0 a1 n1 c1 z1 a2 n2 c2 z2 w hr hn2 h0 h1 h2
  | false => exact walkF a0 n0 c0 z0 a1 n1 c1 z1 a2 n2 c2 z2 w hr hn2 h0 h1 h2
theorem laidOut : laidOutB Try.prog = true := by kernel_rfl
set_option maxRecDepth 100000 in
theorem lifted (os : Os) (started : os.Started) (H : Type) (enc : TypeId × Value → H) :
    ReturnsInHanded {} Try.checked os 3 .any (Rows.mutexMaySpec.pre6 enc Try.prog Try.f3 Rows.mutexMayRow.domain false) (Rows.mutexMaySpec.post enc Try.prog Try.f3 false true false false) := by
  refine returnsInHanded_of_change (C := Try.checked) own started (by kernel_rfl) Try.func3
    (ChangeSpec.witness6 (enc := enc) (C := Try.checked) false ⟨#[], #[.slice none 0 0, .slice none 0 0, .slice none 0 0], []⟩ 8 (by kernel_rfl) (by kernel_rfl) (by kernel_rfl) (by kernel_rfl)) ?_
  intro W base args ds gs before hval0 hW hcnd _
  have hval : ∀ (j : Nat) t v, Try.f3.params[j]? = some t → args[j]? = some v → Value.okWide Try.prog W .any base t v := hval0
  have hW' := hW
  obtain ⟨p, q, hA0, hV, rfl, hfz, hnd⟩ := hW
  have hA : DataW.TrodAll enc Try.prog W 0 (fun _ => true) true Try.f3.params.toList args.toList ds p := hA0
  rw [Try.params3] at hA hval
  obtain ⟨v0, vs0, d0, ds0, p0, q0, hargs, rfl, rfl, h0, r0⟩ := trodAll_cons hA
  obtain ⟨v1, vs1, d1, ds1, p1, q1, rfl, rfl, rfl, h1, r1⟩ := trodAll_cons r0
  obtain ⟨v2, vs2, d2, ds2, p2, q2, rfl, rfl, rfl, h2, r2⟩ := trodAll_cons r1
  obtain ⟨rfl, rfl, rfl⟩ := trodAll_nil r2
  obtain rfl : args = #[v0, v1, v2] := by cases args; simp_all
  obtain ⟨rfl, rfl⟩ := trodVars_none hV
  obtain ⟨a0, len0, cap0, rfl⟩ := okWide_slice Try.underlying22 (hval 0 22 v0 rfl rfl)
  have k0 := h0
  have lt0 : ∀ x ∈ p0, x.block < W.heap.size := by obtain ⟨m, hm⟩ := k0; exact DataW.trod_lt m _ _ _ hm
  obtain ⟨z0, n0, w0⟩ : ∃ zs, len0 = zs.length ∧ MxAt W (.slice a0 len0 cap0) zs := by
    obtain ⟨fuel, hf⟩ := h0
    exact open_mxs hf
  obtain ⟨a1, len1, cap1, rfl⟩ := okWide_slice Try.underlying22 (hval 1 22 v1 rfl rfl)
  have k1 := h1
  have lt1 : ∀ x ∈ p1, x.block < W.heap.size := by obtain ⟨m, hm⟩ := k1; exact DataW.trod_lt m _ _ _ hm
  obtain ⟨z1, n1, w1⟩ : ∃ zs, len1 = zs.length ∧ MxAt W (.slice a1 len1 cap1) zs := by
    obtain ⟨fuel, hf⟩ := h1
    exact open_mxs hf
  obtain ⟨a2, len2, cap2, rfl⟩ := okWide_slice Try.underlying23 (hval 2 23 v2 rfl rfl)
  have k2 := h2
  have lt2 : ∀ x ∈ p2, x.block < W.heap.size := by obtain ⟨m, hm⟩ := k2; exact DataW.trod_lt m _ _ _ hm
  obtain ⟨z2, n2, w2⟩ : ∃ zs, len2 = zs.length ∧ IntsAt W (.slice a2 len2 cap2) zs := by
    obtain ⟨fuel, hf⟩ := h2
    exact open_intRow hf
  clear hA0 hval0
  refine (walk a0 len0 cap0 z0 a1 len1 cap1 z1 a2 len2 cap2 z2 W n0 w0 n1 w1 n2 w2).mono fun e W' ⟨he, bel⟩ => ?_
  subst he
  exact ⟨_, rfl, _, _, _, [], _, [], hW', trodAll_mk1 (shut_bool Try.underlying4 _), (trodAll_cons_mk (Below.trod laidOut (by kernel_rfl) (of_decide_eq_true (by kernel_rfl)) k0 bel lt0) (trodAll_cons_mk (Below.trod laidOut (by kernel_rfl) (of_decide_eq_true (by kernel_rfl)) k1 bel lt1) (trodAll_cons_mk (Below.trod laidOut (by kernel_rfl) (of_decide_eq_true (by kernel_rfl)) k2 bel lt2) trodAll_mk0))), rfl, bel.frame _, fun h => by cases h⟩

theorem over : Rows.mutexMayRow.holds Try.pinned (OpenSpec.ofChange Rows.mutexMaySpec) :=
  OpenClaim.holds_of_wide 3 Try.f3 rfl rfl rfl rfl rfl rfl rfl ⟨rfl, rfl, rfl, rfl, rfl⟩ rfl rfl rfl rfl rfl (by kernel_rfl) Try.func3 (by kernel_rfl)
    (of_decide_eq_true (by kernel_rfl)) (by unfold Func.isWrapper; first | (rw [if_pos (by decide +kernel)]; kernel_rfl) | (rw [if_neg (by decide +kernel)]; exact ⟨rfl, rfl⟩))
    (fun os started H enc _ => lifted os started H enc)

theorem proved : Rows.MutexMaySaid := over
end Go.Proofs.Ytliecdpgajchbaa.mutexMay
