/- Proved: for every row of mutexes and row of deeds, honeycomblaw05.MutexDeeds returns true, and its arguments read as they did; no condition. -/
import Derived.Test.YtliecdpgajchbaaOf
import Derived.ChangeAt
import Derived.JoinedAt
import Derived.ProofKit
import Derived.OpenShut
import Derived.Test.YtliecdpgajchbaaRows
namespace Go.Proofs.Ytliecdpgajchbaa.mutexDeeds
open Go.ChangeShapes Go.WideShapes Go.ChangeAt Go.RowKit Go.Shelf
attribute [local go_sem] Oper.semAt_some

theorem own : ownKnob Try.prog.godebug = none := by kernel_rfl
theorem mx_n {W : World} {x : Option Addr} {n cap : Nat} {ms : List Mx} (h : MxAt W (.slice x n cap) ms) (hs : Small ms) : n ≤ 10000 := by
  have := (mxAt_len h).1
  have := hs.1
  omega
theorem wrong_ask {ms : List Mx} (h : rightB ms = false) (a b : Int) : toldS (askR ms a b) = [] ∧ gotV ms a b = false ∧ (askR ms a b).1 = 150 := by
  have e : askR ms a b = (150, [], 0) := by unfold askR resR; rw [h]; rfl
  exact ⟨by rw [e]; rfl, by unfold gotV; rw [e]; rfl, by rw [e]⟩
theorem wrong_leave {ms : List Mx} (h : rightB ms = false) (a b : Int) : toldS (leaveR ms a b) = [] ∧ nextV ms a b = 0 ∧ (leaveR ms a b).1 = 150 := by
  have e : leaveR ms a b = (150, [], 0) := by unfold leaveR resR; rw [h]; rfl
  exact ⟨by rw [e]; rfl, by unfold nextV; rw [e]; rfl, by rw [e]⟩
theorem wrong_play {ms : List Mx} (h : rightB ms = false) (ds : List Dd) : toldS (playP ms ds) = [] ∧ overV ms ds = 0 ∧ (playP ms ds).1 = 150 := by
  have e : playP ms ds = (150, [], 0) := by unfold playP resR; rw [h]; rfl
  exact ⟨by rw [e]; rfl, by unfold overV; rw [e]; rfl, by rw [e]⟩
theorem cut_right {ms : List Mx} (h : rightB ms = true) : cutB ms = ms := by
  have hl := ((rightB_iff ms).1 h).1.2
  have h8 := right_len h
  unfold cutB
  rw [List.take_of_length_le (by omega)]
  have key : ∀ m ∈ ms, cutM m = m := fun m hm => by
    obtain ⟨k, hk, rfl⟩ := List.getElem_of_mem hm
    have := qlen_le ms k hk
    unfold cutM
    rw [List.take_of_length_le (by omega)]
  exact (List.map_congr_left key).trans (List.map_id ms)

set_option maxRecDepth 100000 in
set_option maxHeartbeats 8000000 in
theorem walkT (a0 : Option Addr) (n0 c0 : Nat) (z0 : List Mx) (a1 : Option Addr) (n1 c1 : Nat) (z1 : List Dd) (w : World) (hr : rightB (cutB z0) = true) (hn1 : n1 = z1.length) (h0 : MxAt w (.slice a0 n0 c0) z0) (h1 : DdAt w (.slice a1 n1 c1) z1) :
    Calls Try.prog 4 #[.slice a0 n0 c0, .slice a1 n1 c1] w fun e w' => e = .returned (.bool true) ∧ Below w.heap.size w w' := by
  have hql := cutB_q z0
  have ho0 := fun W (hB : Below w.heap.size w W) => Try.own_ok a0 n0 c0 z0 W (h0.below hB)
  generalize cutB z0 = ms at *
  obtain ⟨-, hnc, hcm⟩ := ddAt_len h1
  unfold maxLen at hcm
  obtain ⟨N, ds, hN, hN12, hds, hmin⟩ : ∃ (N : Nat) (ds : List Dd), N = ds.length ∧ N ≤ 12 ∧ (∀ W, Below w.heap.size w W → DdAt W (.slice a1 N c1) ds) ∧ ((n1 ≤ 12 ∧ N = n1) ∨ (12 < n1 ∧ N = 12)) := by
    by_cases h : n1 ≤ 12
    · exact ⟨n1, z1, hn1, h, fun W hB => RowAt.below h1 hB, .inl ⟨h, rfl⟩⟩
    · exact ⟨12, z1.take 12, by rw [List.length_take]; omega, Nat.le_refl _, fun W hB => RowAt.below (dd_cut h1 12 (by omega)) hB, .inr ⟨by omega, rfl⟩⟩
  have hcl := fun W (hB : Below w.heap.size w W) => Try.cloneDeeds_any a1 N c1 ds hN (by omega) W (hds W hB)
  have HR := Lib.hid hr
  have HQ := Lib.hid hql
  have HO0 := Lib.hid ho0
  have HCL := Lib.hid hcl
  have HN := Lib.hid hN
  clear hr hql ho0 h0 h1 hds hcl hN hn1
  have hf : min (n1 : Int) 12 = (N : Int) ∧ (if (n1 : Int) ≤ 12 then (n1 : Int) else 12) = (N : Int) ∧ (if (12 : Int) < (n1 : Int) then (12 : Int) else (n1 : Int)) = (N : Int) := by
    rcases hmin with ⟨h, e⟩ | ⟨h, e⟩
    · rw [if_pos (show (n1 : Int) ≤ 12 by omega), if_neg (show ¬ (12 : Int) < (n1 : Int) by omega)]
      omega
    · rw [if_neg (show ¬ (n1 : Int) ≤ 12 by omega), if_pos (show (12 : Int) < (n1 : Int) by omega)]
      omega
  obtain ⟨f7, f8, f9⟩ := hf
  have g1 : (N : Int) ≤ (c1 : Int) := by omega
  have g2 : ¬ (c1 : Int) < (N : Int) := by omega
  have g3 : (N : Int) ≤ (n1 : Int) := by omega
  go_enter Try.func4, Try.ntmps4
  go_wp2_with fail
  refine (Try.wakes_any w).mono ?_
  rintro e w1 ⟨rfl, b1⟩
  have B1 := Lib.hid b1
  clear b1
  go_wp2_with fail
  refine (HO0.out w1 B1.out).mono ?_
  rintro e w2 ⟨va, M, vc, rfl, hM, b2⟩
  have B2 := Lib.hid (B1.out.trans (b2.mono B1.out.size))
  have M2 := Lib.hid hM
  have hrt := Try.refRight_any va M vc ms (by have := HQ.out; omega) w2 hM
  rw [HR.out] at hrt
  have HRT := Lib.hid hrt
  clear b2 hM B1 hrt
  go_wp2_with fail
  refine HRT.out.mono ?_
  rintro e w4 ⟨rfl, b4⟩
  have B4 := Lib.hid (B2.out.trans (b4.mono B2.out.size))
  have M4 := Lib.hid (M2.out.below b4)
  clear b4 B2 M2 HRT
  go_wp2_with fail
  refine (HCL.out w4 B4.out).mono ?_
  rintro e w5 ⟨vd, vk, rfl, hD, b5⟩
  have B5 := Lib.hid (B4.out.trans (b5.mono B4.out.size))
  have M5 := Lib.hid (M4.out.below b5)
  have D5 := Lib.hid hD
  clear b5 B4 M4 HCL hD f7 f8 f9 g1 g2 g3 hmin
  go_wp2_with fail
  go_loopw [41] (fun j wr => ∃ k : Nat, k ≤ N ∧ j = .int .i64 k ∧ Hid (MxAt wr (.slice va M vc) ms) ∧ Hid (DdAt wr (.slice vd N vk) ds) ∧ Hid (Below w.heap.size w wr)) (fun j _ => N - (intOf j).toNat)
  case atStart => exact ⟨0, Nat.zero_le _, rfl, M5, D5, B5⟩
  case round =>
    obtain ⟨k, hk, rfl, hM, hD, hB⟩ := hrel
    by_cases hlt : k < N
    · have hkl : k < ds.length := by rw [← HN.out]; exact hlt
      obtain ⟨bd, off, rfl, hb, x0, x1, x2⟩ := ddAt_get hD.out k hkl
      generalize ds[k] = d at *
      obtain ⟨lv, go, wh⟩ := d
      dsimp only at x0 x1 x2
      have hki : (k : Int) < (N : Int) := by omega
      have hB1 : Below wr.heap.size wr (wr.alloc (.cells #[.bool lv, .int .i64 go, .int .i64 wh] 42)) := Rows8.newB
      have r1 := Rows8.new wr 42 #[.bool lv, .int .i64 go, .int .i64 wh]
      obtain ⟨W1, hW1⟩ : ∃ W1, W1 = wr.alloc (.cells #[.bool lv, .int .i64 go, .int .i64 wh] 42) := ⟨_, rfl⟩
      rw [← hW1] at hB1 r1
      have BK1 := Lib.hid hB1
      have R1 := Lib.hid r1
      have HWW := Lib.hid hW1.symm
      have hak := fun W (hB : Below wr.heap.size wr W) => Try.askU wh go va M vc ms W (hM.out.below hB)
      have hlv := fun W (hB : Below wr.heap.size wr W) => Try.leaveU wh go va M vc ms W (hM.out.below hB)
      have hsa := ask_small ms wh go
      have hsl := leave_small ms wh go
      have hz0 : wr.heap.size ≤ W1.heap.size := hB1.size
      have hra := fun W (hB : Below wr.heap.size wr W) => Try.refAskU wh go va M vc ms HR.out W (hM.out.below hB)
      have hrl := fun W (hB : Below wr.heap.size wr W) => Try.refLeaveU wh go va M vc ms HR.out W (hM.out.below hB)
      generalize toldS (askR ms wh go) = SA at *
      generalize toldS (leaveR ms wh go) = SL at *
      generalize gotV ms wh go = GA at *
      generalize nextV ms wh go = GL at *
      generalize (askR ms wh go).1 = EA at *
      generalize (leaveR ms wh go).1 = EL at *
      have HAK := Lib.hid hak
      have HLV := Lib.hid hlv
      have HSA := Lib.hid hsa
      have HSL := Lib.hid hsl
      have HRA := Lib.hid hra
      have HRL := Lib.hid hrl
      clear hra hrl
      clear hB1 r1 hW1 hak hlv hsa hsl hkl hb
      obtain ⟨we, rfl⟩ : ∃ x, x = wr := ⟨_, rfl⟩
      obtain ⟨D, hDD⟩ : ∃ D, D = we.heap.size := ⟨_, rfl⟩
      go_wp2_with fail
      rw [HWW.out]
      refine (HAK.out W1 BK1.out).mono ?_
      rintro e w6 ⟨aa, na, ca, rfl, oa, b6⟩
      have OA6 := Lib.hid oa
      have BK6 := Lib.hid (BK1.out.trans (b6.mono hz0))
      have R6 := Lib.hid (R1.out.below b6 R1.out.lt)
      have y1 : w6.cell? ⟨we.heap.size, 1, none⟩ = some (.int .i64 go) := R6.out.cell 1
      have y2 : w6.cell? ⟨we.heap.size, 2, none⟩ = some (.int .i64 wh) := R6.out.cell 2
      clear oa b6
      go_wp2_with fail
      refine (HLV.out w6 BK6.out).mono ?_
      rintro e w7 ⟨ab, nb, cb, rfl, ob, b7⟩
      have OB7 := Lib.hid ob
      have A67 := Lib.hid b7
      have BK7 := Lib.hid (BK6.out.trans (b7.mono BK6.out.size))
      have R7 := Lib.hid (R6.out.below b7 R6.out.lt)
      have MA7 := Lib.hid (OA6.out.at.below b7)
      have MB7 := Lib.hid ob.at
      clear ob b7 y1 y2
      have y1 : w7.cell? ⟨we.heap.size, 1, none⟩ = some (.int .i64 go) := R7.out.cell 1
      have y2 : w7.cell? ⟨we.heap.size, 2, none⟩ = some (.int .i64 wh) := R7.out.cell 2
      go_wp2_with fail
      refine (HRA.out w7 BK7.out).mono ?_
      rintro e w8 ⟨ax, nx, cx, rfl, mx, b8⟩
      have MX8 := Lib.hid mx
      have BK8 := Lib.hid (BK7.out.trans (b8.mono BK7.out.size))
      have A78 := Lib.hid b8
      have R8 := Lib.hid (R7.out.below b8 R7.out.lt)
      have z1 : w8.cell? ⟨we.heap.size, 1, none⟩ = some (.int .i64 go) := R8.out.cell 1
      have z2 : w8.cell? ⟨we.heap.size, 2, none⟩ = some (.int .i64 wh) := R8.out.cell 2
      clear mx b8 y1 y2
      go_wp2_with fail
      refine (HRL.out w8 BK8.out).mono ?_
      rintro e w9 ⟨ay, ny, cy, rfl, my, b9⟩
      have A79 := Lib.hid (A78.out.trans (b9.mono A78.out.size))
      have BK9 := Lib.hid (BK8.out.trans (b9.mono BK8.out.size))
      have hm1 := Try.refSame_any aa ax na nx ca cx SA SA w9 (MA7.out.below A79.out) (MX8.out.below b9)
      rw [show decide (SA = SA) = true from by simp] at hm1
      have HM1 := Lib.hid hm1
      have MY9 := Lib.hid my
      clear my b9 hm1 z1 z2
      go_wp2_with fail
      refine HM1.out.mono ?_
      rintro e w10 ⟨rfl, b10⟩
      have A710 := Lib.hid (A79.out.trans (b10.mono A79.out.size))
      have BK10 := Lib.hid (BK9.out.trans (b10.mono BK9.out.size))
      have hm2 := Try.refSame_any ab ay nb ny cb cy SL SL w10 (MB7.out.below A710.out) (MY9.out.below b10)
      rw [show decide (SL = SL) = true from by simp] at hm2
      have HM2 := Lib.hid hm2
      clear b10 hm2
      go_wp2_with fail
      refine HM2.out.mono ?_
      rintro e w11 ⟨rfl, b11⟩
      have A711 := Lib.hid (A710.out.trans (b11.mono A710.out.size))
      have BK11 := Lib.hid (BK10.out.trans (b11.mono BK10.out.size))
      have A611 := Lib.hid (A67.out.trans (A711.out.mono A67.out.size))
      have OB11 := Lib.hid (OB7.out.keep A711.out (Nat.le_refl _))
      clear b11
      have hs1 := Try.spoil_any aa na ca W1.heap.size SA w6 OA6.out (mx_n OA6.out.at HSA.out) HSA.out.2 w11 A611.out SL (.slice ab nb cb) OB11.out
      have HS1 := Lib.hid hs1
      have hz6 : we.heap.size ≤ w6.heap.size := BK6.out.size
      clear hs1
      go_wp2_with fail
      refine HS1.out.mono ?_
      rintro e w12 ⟨rfl, b12, o12⟩
      have BK12 := Lib.hid (BK11.out.trans (b12.mono hz0))
      have hs2 := Try.spoil_any ab nb cb w6.heap.size SL w12 (o12) (mx_n o12.at HSL.out) HSL.out.2 w12 (Below.refl _ _) [] (.slice none 0 0) ⟨_, ownM_nil _ _⟩
      have HS2 := Lib.hid hs2
      clear hs2 b12 o12
      go_wp2_with fail
      refine HS2.out.mono ?_
      rintro e w13 ⟨rfl, b13, -⟩
      have BK13 := Lib.hid (BK12.out.trans (b13.mono hz6))
      clear b13
      go_wp2_with fail
      exact ⟨⟨k + 1, by omega, by go_num, Lib.hid (hM.out.below BK13.out), Lib.hid (RowAt.below hD.out BK13.out), Lib.hid (hB.out.trans (BK13.out.mono hB.out.size))⟩, by simp [intOf]; omega⟩
    · obtain rfl : k = N := by omega
      have hpl := Try.playU va M vc ms vd k vk ds (by omega) wr hM.out hD.out
      have hsp := play_small ms ds
      have hrp := fun (a : Option Addr) (n c : Nat) (W : World) h1 h2 => Try.refPlayU a n c ms HR.out vd k vk ds (by omega) W h1 h2
      generalize toldS (playP ms ds) = SP at *
      generalize overV ms ds = GP at *
      generalize (playP ms ds).1 = EP at *
      have HPL := Lib.hid hpl
      have HSP := Lib.hid hsp
      have HRP := Lib.hid hrp
      clear hrp
      clear hpl hsp
      go_wp2_with fail
      refine HPL.out.mono ?_
      rintro e w6 ⟨ap, np, cp, rfl, op, b6⟩
      have OP6 := Lib.hid op
      have B6 := Lib.hid (hB.out.trans (b6.mono hB.out.size))
      have M6 := Lib.hid (hM.out.below b6)
      have D6 := Lib.hid (RowAt.below hD.out b6)
      have hz6 : w.heap.size ≤ wr.heap.size := hB.out.size
      have A66 := Lib.hid b6
      clear op b6
      go_wp2_with fail
      have how := Try.own_ok va M vc ms w6 M6.out
      rw [cut_right HR.out] at how
      refine how.mono ?_
      rintro e w7 ⟨vo, no, co, rfl, mo, b7⟩
      have hrp := HRP.out vo no co w7 mo (RowAt.below D6.out b7)
      have HRQ := Lib.hid hrp
      have A67 := Lib.hid b7
      clear mo b7 hrp
      go_wp2_with fail
      refine HRQ.out.mono ?_
      rintro e w8 ⟨ax, nx, cx, rfl, mx, b8⟩
      have A68 := Lib.hid (A67.out.trans (b8.mono A67.out.size))
      have hm1 := Try.refSame_any ap ax np nx cp cx SP SP w8 (OP6.out.at.below A68.out) mx
      rw [show decide (SP = SP) = true from by simp] at hm1
      have HM1 := Lib.hid hm1
      clear mx b8 hm1
      go_wp2_with fail
      refine HM1.out.mono ?_
      rintro e w9 ⟨rfl, b9⟩
      have A69 := Lib.hid (A68.out.trans (b9.mono A68.out.size))
      clear b9
      have hs1 := Try.spoil_any ap np cp wr.heap.size SP w6 OP6.out (mx_n OP6.out.at HSP.out) HSP.out.2 w9 A69.out [] (.slice none 0 0) ⟨_, ownM_nil _ _⟩
      have HS1 := Lib.hid hs1
      have BR9 := Lib.hid (A66.out.trans (A69.out.mono A66.out.size))
      clear hs1
      go_wp2_with fail
      refine HS1.out.mono ?_
      rintro e w12 ⟨rfl, b12, -⟩
      have BR12 := Lib.hid (BR9.out.trans b12)
      have B12 := Lib.hid (hB.out.trans (BR12.out.mono hB.out.size))
      have M12 := Lib.hid (hM.out.below BR12.out)
      clear b12
      go_wp2_with fail
      refine (HO0.out w12 B12.out).mono ?_
      rintro e w13 ⟨vp, Np, vq, rfl, hM13, b13⟩
      have B13 := Lib.hid (B12.out.trans (b13.mono B12.out.size))
      have hsm := Try.refSame_any va vp M Np vc vq ms ms w13 (M12.out.below b13) hM13
      rw [show decide (ms = ms) = true from by simp] at hsm
      have HSM := Lib.hid hsm
      clear b13 hM13 hsm
      go_wp2_with fail
      refine HSM.out.mono ?_
      rintro e w14 ⟨rfl, b14⟩
      have B14 := Lib.hid (B13.out.trans (b14.mono B13.out.size))
      clear b14
      go_wp2_with fail
      go_ret
      exact ⟨rfl, B14.out⟩

set_option maxRecDepth 100000 in
set_option maxHeartbeats 8000000 in
theorem walkF (a0 : Option Addr) (n0 c0 : Nat) (z0 : List Mx) (a1 : Option Addr) (n1 c1 : Nat) (z1 : List Dd) (w : World) (hr : rightB (cutB z0) = false) (hn1 : n1 = z1.length) (h0 : MxAt w (.slice a0 n0 c0) z0) (h1 : DdAt w (.slice a1 n1 c1) z1) :
    Calls Try.prog 4 #[.slice a0 n0 c0, .slice a1 n1 c1] w fun e w' => e = .returned (.bool true) ∧ Below w.heap.size w w' := by
  have hql := cutB_q z0
  have ho0 := fun W (hB : Below w.heap.size w W) => Try.own_ok a0 n0 c0 z0 W (h0.below hB)
  generalize cutB z0 = ms at *
  obtain ⟨-, hnc, hcm⟩ := ddAt_len h1
  unfold maxLen at hcm
  obtain ⟨N, ds, hN, hN12, hds, hmin⟩ : ∃ (N : Nat) (ds : List Dd), N = ds.length ∧ N ≤ 12 ∧ (∀ W, Below w.heap.size w W → DdAt W (.slice a1 N c1) ds) ∧ ((n1 ≤ 12 ∧ N = n1) ∨ (12 < n1 ∧ N = 12)) := by
    by_cases h : n1 ≤ 12
    · exact ⟨n1, z1, hn1, h, fun W hB => RowAt.below h1 hB, .inl ⟨h, rfl⟩⟩
    · exact ⟨12, z1.take 12, by rw [List.length_take]; omega, Nat.le_refl _, fun W hB => RowAt.below (dd_cut h1 12 (by omega)) hB, .inr ⟨by omega, rfl⟩⟩
  have hcl := fun W (hB : Below w.heap.size w W) => Try.cloneDeeds_any a1 N c1 ds hN (by omega) W (hds W hB)
  have HR := Lib.hid hr
  have HQ := Lib.hid hql
  have HO0 := Lib.hid ho0
  have HCL := Lib.hid hcl
  have HN := Lib.hid hN
  clear hr hql ho0 h0 h1 hds hcl hN hn1
  have hf : min (n1 : Int) 12 = (N : Int) ∧ (if (n1 : Int) ≤ 12 then (n1 : Int) else 12) = (N : Int) ∧ (if (12 : Int) < (n1 : Int) then (12 : Int) else (n1 : Int)) = (N : Int) := by
    rcases hmin with ⟨h, e⟩ | ⟨h, e⟩
    · rw [if_pos (show (n1 : Int) ≤ 12 by omega), if_neg (show ¬ (12 : Int) < (n1 : Int) by omega)]
      omega
    · rw [if_neg (show ¬ (n1 : Int) ≤ 12 by omega), if_pos (show (12 : Int) < (n1 : Int) by omega)]
      omega
  obtain ⟨f7, f8, f9⟩ := hf
  have g1 : (N : Int) ≤ (c1 : Int) := by omega
  have g2 : ¬ (c1 : Int) < (N : Int) := by omega
  have g3 : (N : Int) ≤ (n1 : Int) := by omega
  go_enter Try.func4, Try.ntmps4
  go_wp2_with fail
  refine (Try.wakes_any w).mono ?_
  rintro e w1 ⟨rfl, b1⟩
  have B1 := Lib.hid b1
  clear b1
  go_wp2_with fail
  refine (HO0.out w1 B1.out).mono ?_
  rintro e w2 ⟨va, M, vc, rfl, hM, b2⟩
  have B2 := Lib.hid (B1.out.trans (b2.mono B1.out.size))
  have M2 := Lib.hid hM
  have hrt := Try.refRight_any va M vc ms (by have := HQ.out; omega) w2 hM
  rw [HR.out] at hrt
  have HRT := Lib.hid hrt
  clear b2 hM B1 hrt
  go_wp2_with fail
  refine HRT.out.mono ?_
  rintro e w4 ⟨rfl, b4⟩
  have B4 := Lib.hid (B2.out.trans (b4.mono B2.out.size))
  have M4 := Lib.hid (M2.out.below b4)
  clear b4 B2 M2 HRT
  go_wp2_with fail
  refine (HCL.out w4 B4.out).mono ?_
  rintro e w5 ⟨vd, vk, rfl, hD, b5⟩
  have B5 := Lib.hid (B4.out.trans (b5.mono B4.out.size))
  have M5 := Lib.hid (M4.out.below b5)
  have D5 := Lib.hid hD
  clear b5 B4 M4 HCL hD f7 f8 f9 g1 g2 g3 hmin
  go_wp2_with fail
  go_loopw [41] (fun j wr => ∃ k : Nat, k ≤ N ∧ j = .int .i64 k ∧ Hid (MxAt wr (.slice va M vc) ms) ∧ Hid (DdAt wr (.slice vd N vk) ds) ∧ Hid (Below w.heap.size w wr)) (fun j _ => N - (intOf j).toNat)
  case atStart => exact ⟨0, Nat.zero_le _, rfl, M5, D5, B5⟩
  case round =>
    obtain ⟨k, hk, rfl, hM, hD, hB⟩ := hrel
    by_cases hlt : k < N
    · have hkl : k < ds.length := by rw [← HN.out]; exact hlt
      obtain ⟨bd, off, rfl, hb, x0, x1, x2⟩ := ddAt_get hD.out k hkl
      generalize ds[k] = d at *
      obtain ⟨lv, go, wh⟩ := d
      dsimp only at x0 x1 x2
      have hki : (k : Int) < (N : Int) := by omega
      have hB1 : Below wr.heap.size wr (wr.alloc (.cells #[.bool lv, .int .i64 go, .int .i64 wh] 42)) := Rows8.newB
      have r1 := Rows8.new wr 42 #[.bool lv, .int .i64 go, .int .i64 wh]
      obtain ⟨W1, hW1⟩ : ∃ W1, W1 = wr.alloc (.cells #[.bool lv, .int .i64 go, .int .i64 wh] 42) := ⟨_, rfl⟩
      rw [← hW1] at hB1 r1
      have BK1 := Lib.hid hB1
      have R1 := Lib.hid r1
      have HWW := Lib.hid hW1.symm
      have hak := fun W (hB : Below wr.heap.size wr W) => Try.askU wh go va M vc ms W (hM.out.below hB)
      have hlv := fun W (hB : Below wr.heap.size wr W) => Try.leaveU wh go va M vc ms W (hM.out.below hB)
      have hsa := ask_small ms wh go
      have hsl := leave_small ms wh go
      have hz0 : wr.heap.size ≤ W1.heap.size := hB1.size
      obtain ⟨q1, q2, q3⟩ := wrong_ask HR.out wh go
      obtain ⟨q4, q5, q6⟩ := wrong_leave HR.out wh go
      simp only [q1, q2, q3] at hak hsa
      simp only [q4, q5, q6] at hlv hsl
      clear q1 q2 q3 q4 q5 q6
      obtain ⟨SA, hSA⟩ : ∃ S : List Mx, S = [] := ⟨_, rfl⟩
      obtain ⟨SL, hSL⟩ : ∃ S : List Mx, S = [] := ⟨_, rfl⟩
      rw [← hSA] at hak hsa
      rw [← hSL] at hlv hsl
      have HSE := Lib.hid hSA
      have HLE := Lib.hid hSL
      clear hSA hSL
      have HAK := Lib.hid hak
      have HLV := Lib.hid hlv
      have HSA := Lib.hid hsa
      have HSL := Lib.hid hsl
      skip
      clear hB1 r1 hW1 hak hlv hsa hsl hkl hb
      obtain ⟨we, rfl⟩ : ∃ x, x = wr := ⟨_, rfl⟩
      obtain ⟨D, hDD⟩ : ∃ D, D = we.heap.size := ⟨_, rfl⟩
      go_wp2_with fail
      rw [HWW.out]
      refine (HAK.out W1 BK1.out).mono ?_
      rintro e w6 ⟨aa, na, ca, rfl, oa, b6⟩
      have OA6 := Lib.hid oa
      have BK6 := Lib.hid (BK1.out.trans (b6.mono hz0))
      have R6 := Lib.hid (R1.out.below b6 R1.out.lt)
      have y1 : w6.cell? ⟨we.heap.size, 1, none⟩ = some (.int .i64 go) := R6.out.cell 1
      have y2 : w6.cell? ⟨we.heap.size, 2, none⟩ = some (.int .i64 wh) := R6.out.cell 2
      clear oa b6
      go_wp2_with fail
      refine (HLV.out w6 BK6.out).mono ?_
      rintro e w7 ⟨ab, nb, cb, rfl, ob, b7⟩
      have OB7 := Lib.hid ob
      have A67 := Lib.hid b7
      have BK7 := Lib.hid (BK6.out.trans (b7.mono BK6.out.size))
      have R7 := Lib.hid (R6.out.below b7 R6.out.lt)
      have MA7 := Lib.hid (OA6.out.at.below b7)
      have MB7 := Lib.hid ob.at
      clear ob b7 y1 y2
      have hm1 := Try.refSame_any aa none na 0 ca 0 SA [] w7 MA7.out (mxAt_none _)
      rw [show decide (SA = []) = true from by rw [HSE.out]; simp] at hm1
      have HM1 := Lib.hid hm1
      clear hm1
      go_wp2_with fail
      refine HM1.out.mono ?_
      rintro e w10 ⟨rfl, b10⟩
      have A710 := Lib.hid b10
      have BK10 := Lib.hid (BK7.out.trans (b10.mono BK7.out.size))
      have hm2 := Try.refSame_any ab none nb 0 cb 0 SL [] w10 (MB7.out.below A710.out) (mxAt_none _)
      rw [show decide (SL = []) = true from by rw [HLE.out]; simp] at hm2
      have HM2 := Lib.hid hm2
      clear b10 hm2
      go_wp2_with fail
      refine HM2.out.mono ?_
      rintro e w11 ⟨rfl, b11⟩
      have A711 := Lib.hid (A710.out.trans (b11.mono A710.out.size))
      have BK11 := Lib.hid (BK10.out.trans (b11.mono BK10.out.size))
      have A611 := Lib.hid (A67.out.trans (A711.out.mono A67.out.size))
      have OB11 := Lib.hid (OB7.out.keep A711.out (Nat.le_refl _))
      clear b11
      have hs1 := Try.spoil_any aa na ca W1.heap.size SA w6 OA6.out (mx_n OA6.out.at HSA.out) HSA.out.2 w11 A611.out SL (.slice ab nb cb) OB11.out
      have HS1 := Lib.hid hs1
      have hz6 : we.heap.size ≤ w6.heap.size := BK6.out.size
      clear hs1
      go_wp2_with fail
      refine HS1.out.mono ?_
      rintro e w12 ⟨rfl, b12, o12⟩
      have BK12 := Lib.hid (BK11.out.trans (b12.mono hz0))
      have hs2 := Try.spoil_any ab nb cb w6.heap.size SL w12 (o12) (mx_n o12.at HSL.out) HSL.out.2 w12 (Below.refl _ _) [] (.slice none 0 0) ⟨_, ownM_nil _ _⟩
      have HS2 := Lib.hid hs2
      clear hs2 b12 o12
      go_wp2_with fail
      refine HS2.out.mono ?_
      rintro e w13 ⟨rfl, b13, -⟩
      have BK13 := Lib.hid (BK12.out.trans (b13.mono hz6))
      clear b13
      go_wp2_with fail
      exact ⟨⟨k + 1, by omega, by go_num, Lib.hid (hM.out.below BK13.out), Lib.hid (RowAt.below hD.out BK13.out), Lib.hid (hB.out.trans (BK13.out.mono hB.out.size))⟩, by simp [intOf]; omega⟩
    · obtain rfl : k = N := by omega
      have hpl := Try.playU va M vc ms vd k vk ds (by omega) wr hM.out hD.out
      have hsp := play_small ms ds
      obtain ⟨q1, q2, q3⟩ := wrong_play HR.out ds
      simp only [q1, q2, q3] at hpl hsp
      clear q1 q2 q3
      obtain ⟨SP, hSP⟩ : ∃ S : List Mx, S = [] := ⟨_, rfl⟩
      rw [← hSP] at hpl hsp
      have HPE := Lib.hid hSP
      clear hSP
      have HPL := Lib.hid hpl
      have HSP := Lib.hid hsp
      skip
      clear hpl hsp
      go_wp2_with fail
      refine HPL.out.mono ?_
      rintro e w6 ⟨ap, np, cp, rfl, op, b6⟩
      have OP6 := Lib.hid op
      have B6 := Lib.hid (hB.out.trans (b6.mono hB.out.size))
      have M6 := Lib.hid (hM.out.below b6)
      have D6 := Lib.hid (RowAt.below hD.out b6)
      have hz6 : w.heap.size ≤ wr.heap.size := hB.out.size
      have A66 := Lib.hid b6
      clear op b6
      have hm1 := Try.refSame_any ap none np 0 cp 0 SP [] w6 OP6.out.at (mxAt_none _)
      rw [show decide (SP = []) = true from by rw [HPE.out]; simp] at hm1
      have HM1 := Lib.hid hm1
      clear hm1
      go_wp2_with fail
      refine HM1.out.mono ?_
      rintro e w9 ⟨rfl, b9⟩
      have A69 := Lib.hid b9
      clear b9
      have hs1 := Try.spoil_any ap np cp wr.heap.size SP w6 OP6.out (mx_n OP6.out.at HSP.out) HSP.out.2 w9 A69.out [] (.slice none 0 0) ⟨_, ownM_nil _ _⟩
      have HS1 := Lib.hid hs1
      have BR9 := Lib.hid (A66.out.trans (A69.out.mono A66.out.size))
      clear hs1
      go_wp2_with fail
      refine HS1.out.mono ?_
      rintro e w12 ⟨rfl, b12, -⟩
      have BR12 := Lib.hid (BR9.out.trans b12)
      have B12 := Lib.hid (hB.out.trans (BR12.out.mono hB.out.size))
      have M12 := Lib.hid (hM.out.below BR12.out)
      clear b12
      go_wp2_with fail
      refine (HO0.out w12 B12.out).mono ?_
      rintro e w13 ⟨vp, Np, vq, rfl, hM13, b13⟩
      have B13 := Lib.hid (B12.out.trans (b13.mono B12.out.size))
      have hsm := Try.refSame_any va vp M Np vc vq ms ms w13 (M12.out.below b13) hM13
      rw [show decide (ms = ms) = true from by simp] at hsm
      have HSM := Lib.hid hsm
      clear b13 hM13 hsm
      go_wp2_with fail
      refine HSM.out.mono ?_
      rintro e w14 ⟨rfl, b14⟩
      have B14 := Lib.hid (B13.out.trans (b14.mono B13.out.size))
      clear b14
      go_wp2_with fail
      go_ret
      exact ⟨rfl, B14.out⟩

theorem walk (a0 : Option Addr) (n0 c0 : Nat) (z0 : List Mx) (a1 : Option Addr) (n1 c1 : Nat) (z1 : List Dd) (w : World) (_ : n0 = z0.length) (h0 : MxAt w (.slice a0 n0 c0) z0) (hn1 : n1 = z1.length) (h1 : DdAt w (.slice a1 n1 c1) z1) :
    Calls Try.prog 4 #[.slice a0 n0 c0, .slice a1 n1 c1] w fun e w' => e = .returned (.bool true) ∧ Below w.heap.size w w' := by
  cases hr : rightB (cutB z0) with
  | true => exact walkT a0 n0 c0 z0 a1 n1 c1 z1 w hr hn1 h0 h1
  | false => exact walkF a0 n0 c0 z0 a1 n1 c1 z1 w hr hn1 h0 h1
theorem laidOut : laidOutB Try.prog = true := by kernel_rfl
set_option maxRecDepth 100000 in
theorem lifted (os : Os) (started : os.Started) (H : Type) (enc : TypeId × Value → H) :
    ReturnsInHanded {} Try.checked os 4 .any (Rows.mutexDeedsSpec.pre6 enc Try.prog Try.f4 Rows.mutexDeedsRow.domain false) (Rows.mutexDeedsSpec.post enc Try.prog Try.f4 false true false false) := by
  refine returnsInHanded_of_change (C := Try.checked) own started (by kernel_rfl) Try.func4
    (ChangeSpec.witness6 (enc := enc) (C := Try.checked) false ⟨#[], #[.slice none 0 0, .slice none 0 0], []⟩ 8 (by kernel_rfl) (by kernel_rfl) (by kernel_rfl) (by kernel_rfl)) ?_
  intro W base args ds gs before hval0 hW hcnd _
  have hval : ∀ (j : Nat) t v, Try.f4.params[j]? = some t → args[j]? = some v → Value.okWide Try.prog W .any base t v := hval0
  have hW' := hW
  obtain ⟨p, q, hA0, hV, rfl, hfz, hnd⟩ := hW
  have hA : DataW.TrodAll enc Try.prog W 0 (fun _ => true) true Try.f4.params.toList args.toList ds p := hA0
  rw [Try.params4] at hA hval
  obtain ⟨v0, vs0, d0, ds0, p0, q0, hargs, rfl, rfl, h0, r0⟩ := trodAll_cons hA
  obtain ⟨v1, vs1, d1, ds1, p1, q1, rfl, rfl, rfl, h1, r1⟩ := trodAll_cons r0
  obtain ⟨rfl, rfl, rfl⟩ := trodAll_nil r1
  obtain rfl : args = #[v0, v1] := by cases args; simp_all
  obtain ⟨rfl, rfl⟩ := trodVars_none hV
  obtain ⟨a0, len0, cap0, rfl⟩ := okWide_slice Try.underlying22 (hval 0 22 v0 rfl rfl)
  have k0 := h0
  have lt0 : ∀ x ∈ p0, x.block < W.heap.size := by obtain ⟨m, hm⟩ := k0; exact DataW.trod_lt m _ _ _ hm
  obtain ⟨z0, n0, w0⟩ : ∃ zs, len0 = zs.length ∧ MxAt W (.slice a0 len0 cap0) zs := by
    obtain ⟨fuel, hf⟩ := h0
    exact open_mxs hf
  obtain ⟨a1, len1, cap1, rfl⟩ := okWide_slice Try.underlying39 (hval 1 39 v1 rfl rfl)
  have k1 := h1
  have lt1 : ∀ x ∈ p1, x.block < W.heap.size := by obtain ⟨m, hm⟩ := k1; exact DataW.trod_lt m _ _ _ hm
  obtain ⟨z1, n1, w1⟩ : ∃ zs, len1 = zs.length ∧ DdAt W (.slice a1 len1 cap1) zs := by
    obtain ⟨fuel, hf⟩ := h1
    exact open_deeds hf
  clear hA0 hval0
  refine (walk a0 len0 cap0 z0 a1 len1 cap1 z1 W n0 w0 n1 w1).mono fun e W' ⟨he, bel⟩ => ?_
  subst he
  exact ⟨_, rfl, _, _, _, [], _, [], hW', trodAll_mk1 (shut_bool Try.underlying4 _), (trodAll_cons_mk (Below.trod laidOut (by kernel_rfl) (of_decide_eq_true (by kernel_rfl)) k0 bel lt0) (trodAll_cons_mk (Below.trod laidOut (by kernel_rfl) (of_decide_eq_true (by kernel_rfl)) k1 bel lt1) trodAll_mk0)), rfl, bel.frame _, fun h => by cases h⟩

theorem over : Rows.mutexDeedsRow.holds Try.pinned (OpenSpec.ofChange Rows.mutexDeedsSpec) :=
  OpenClaim.holds_of_wide 4 Try.f4 rfl rfl rfl rfl rfl rfl rfl ⟨rfl, rfl, rfl, rfl, rfl⟩ rfl rfl rfl rfl rfl (by kernel_rfl) Try.func4 (by kernel_rfl)
    (of_decide_eq_true (by kernel_rfl)) (by unfold Func.isWrapper; first | (rw [if_pos (by decide +kernel)]; kernel_rfl) | (rw [if_neg (by decide +kernel)]; exact ⟨rfl, rfl⟩))
    (fun os started H enc _ => lifted os started H enc)

theorem proved : Rows.MutexDeedsSaid := over
end Go.Proofs.Ytliecdpgajchbaa.mutexDeeds
