/- Proved: for every limbo and row of steps, honeycomblaw14.LimboSteps returns true, and its arguments read as they did; the listed variable reads as the program's text lays it. -/
import Derived.Test.YtghnfiegihfdnaaDoorLsk
import Derived.Deep.CutBlock
import Derived.SevenTiedAt
import Derived.Stop.Joined
import Derived.Test.YtghnfiegihfdnaaDoorCards
import Derived.Test.YtghnfiegihfdnaaDoorTie
namespace Go.Proofs.YtghnfiegihfdnaaDoor.limboSteps
open Go.ChangeShapes Go.WideShapes Go.ChangeAt Go.RowKit Go.Shelf
attribute [local go_sem] Oper.semAt_some

set_option maxRecDepth 100000 in
set_option maxHeartbeats 64000000 in
theorem walk (E : Nat) (s : Ls) (r : Rw3) (a : Option Addr) (n c : Nat) (ps : List Pr) (w : World) (hT : OnAt w) (hI : LAt w s r) (hE : E < 18446744073709551616) (_ : r 3 = []) (hn : n = ps.length) (hP : PAt w (.slice a n c) ps) :
    Calls Tryd.prog 4 #[.agg #[.int .u64 (E : Nat), .slice (s.a 0) (s.n 0) (s.c 0), .slice (s.a 1) (s.n 1) (s.c 1), .slice (s.a 2) (s.n 2) (s.c 2)], .slice a n c] w fun e w' => e = .returned (.bool true) ∧ Below w.heap.size w w' := by
  obtain ⟨W0, hW0⟩ : ∃ W, W = w.alloc (.cells #[.int .u64 (E : Nat), .slice (s.a 0) (s.n 0) (s.c 0), .slice (s.a 1) (s.n 1) (s.c 1), .slice (s.a 2) (s.n 2) (s.c 2)] 26) := ⟨_, rfl⟩
  have hB0 : Below w.heap.size w W0 := by rw [hW0]; exact Rows8.newB
  have hk0 : Rows8 W0 w.heap.size 26 #[.int .u64 (E : Nat), .slice (s.a 0) (s.n 0) (s.c 0), .slice (s.a 1) (s.n 1) (s.c 1), .slice (s.a 2) (s.n 2) (s.c 2)] := by rw [hW0]; exact Rows8.new _ _ _
  have HW := Lib.hid (Tryd.wakes_any W0 (hT.below hB0))
  have HI := Lib.hid (hI.below hB0)
  have HK := Lib.hid hk0
  have HB := Lib.hid hB0
  have HE := Lib.hid hE
  have HP := Lib.hid hP
  clear hT hI hk0 hB0 hE hP hn
  go_enter Tryd.func4, Tryd.ntmps4
  go_wp2_with fail
  rw [← hW0]
  clear hW0
  refine HW.out.mono ?_
  rintro e W1 ⟨rfl, hB1⟩
  have HK := Lib.hid (HK.out.below hB1 HK.out.lt)
  have HI := Lib.hid (HI.out.below hB1)
  have HB := Lib.hid (HB.out.trans (hB1.mono HB.out.size))
  have hk := HK.out
  have c0 : W1.cell? ⟨w.heap.size, 0, none⟩ = some (.int .u64 (E : Nat)) := hk.cell 0
  have c1 : W1.cell? ⟨w.heap.size, 1, none⟩ = some (.slice (s.a 0) (s.n 0) (s.c 0)) := hk.cell 1
  have c2 : W1.cell? ⟨w.heap.size, 2, none⟩ = some (.slice (s.a 1) (s.n 1) (s.c 1)) := hk.cell 2
  have c3 : W1.cell? ⟨w.heap.size, 3, none⟩ = some (.slice (s.a 2) (s.n 2) (s.c 2)) := hk.cell 3
  have lt1 := hk.lt
  have HO := Lib.hid (Tryd.own_any E s r W1 HI.out)
  clear hB1 hk HW
  go_wp2_with fail
  refine HO.out.mono ?_
  rintro e W2 ⟨s2, rfl, hl, hB2⟩
  have HK := Lib.hid (HK.out.below hB2 HK.out.lt)
  have HI := Lib.hid (HI.out.below hB2)
  have HL2 := Lib.hid hl.at
  have HKL := Lib.hid HK.out.lt
  have HB2 := Lib.hid (HB.out.trans (hB2.mono HB.out.size))
  clear hl hB2 HO HB c0 c1 c2 c3 lt1
  obtain ⟨u, hu⟩ : ∃ u, u = ownR r := ⟨_, rfl⟩
  have HU := Lib.hid (show ownR u = u by rw [hu, own_own])
  rw [← hu] at HL2
  have HUR := Lib.hid hu
  clear hu
  obtain ⟨b5, hb5⟩ : ∃ b, b = W2.heap.size := ⟨_, rfl⟩
  obtain ⟨W3, hW3⟩ : ∃ W, W = (W2.alloc (.cells #[.int .u64 (E : Nat), .slice (s2.a 0) (s2.n 0) (s2.c 0), .slice (s2.a 1) (s2.n 1) (s2.c 1), .slice (s2.a 2) (s2.n 2) (s2.c 2)] 26)) := ⟨_, rfl⟩
  have hB3 : Below W2.heap.size W2 W3 := by rw [hW3]; exact Rows8.newB
  have HK := Lib.hid (HK.out.below hB3 HK.out.lt)
  have HI := Lib.hid (HI.out.below hB3)
  have HL2 := Lib.hid (HL2.out.below hB3)
  have HX5 : Hid (Rows8 W3 b5 26 #[.int .u64 (E : Nat), .slice (s2.a 0) (s2.n 0) (s2.c 0), .slice (s2.a 1) (s2.n 1) (s2.c 1), .slice (s2.a 2) (s2.n 2) (s2.c 2)]) := Lib.hid (by rw [hW3, hb5]; exact Rows8.new _ _ _)
  have HBL : Hid (w.heap.size ≤ b5) := Lib.hid (by rw [hb5]; exact HB2.out.size)
  have HNE : Hid (b5 ≠ w.heap.size) := Lib.hid (by
    have h1 := HB2.out.size
    have h2 : w.heap.size < W2.heap.size := HKL.out
    omega)
  have HB3 := Lib.hid (HB2.out.trans (hB3.mono HB2.out.size))
  clear hB3 HB2
  go_upto_region 4 with fail
  rw [← hW3, ← hb5]
  clear hW3 hb5
  have hpl := pAt_len HP.out
  obtain ⟨m, hm⟩ : ∃ m, m = min n 20 := ⟨_, rfl⟩
  have hmn : m ≤ n := by omega
  have hm20 : m ≤ 20 := by omega
  have HCl := Lib.hid (Tryd.cloneEntry_any a m c (ps.take m) (by rw [List.length_take]; omega) (by omega) W3 (pAt_cut (HP.out.below HB3.out) m hmn))
  have hreach : c ≤ 9223372036854775807 := by have := hpl.2.2; unfold maxLen at this; exact this
  have hmc : m ≤ c := by omega
  have hnn : n ≤ c := hpl.2.1
  have hmi : min (n : Int) 20 = (m : Int) := by omega
  have hmi2 : (if (n : Int) ≤ 20 then (n : Int) else 20) = (m : Int) := by split <;> omega
  have hmi3 : (if (n : Int) < 20 then (n : Int) else 20) = (m : Int) := by split <;> omega
  have hmi4 : (if (20 : Int) < (n : Int) then (20 : Int) else (n : Int)) = (m : Int) := by split <;> omega
  have HM20 := Lib.hid hm20
  clear hpl hm
  go_wp2_with fail
  refine HCl.out.mono ?_
  rintro e W4 ⟨a6, c6, rfl, hO, hB4⟩
  have HK := Lib.hid (HK.out.below hB4 HK.out.lt)
  have HI := Lib.hid (HI.out.below hB4)
  have HL2 := Lib.hid (HL2.out.below hB4)
  have HX5 := Lib.hid (HX5.out.below hB4 HX5.out.lt)
  have HB4 := Lib.hid (HB3.out.trans (hB4.mono HB3.out.size))
  have HST := Lib.hid (OwnsP.at hO)
  have hx5 := HX5.out
  have c0 : W4.cell? ⟨b5, 0, none⟩ = some (.int .u64 (E : Nat)) := hx5.cell 0
  have c1 : W4.cell? ⟨b5, 1, none⟩ = some (.slice (s2.a 0) (s2.n 0) (s2.c 0)) := hx5.cell 1
  have c2 : W4.cell? ⟨b5, 2, none⟩ = some (.slice (s2.a 1) (s2.n 1) (s2.c 1)) := hx5.cell 2
  have c3 : W4.cell? ⟨b5, 3, none⟩ = some (.slice (s2.a 2) (s2.n 2) (s2.c 2)) := hx5.cell 3
  have lt5 := hx5.lt
  have HRt := Lib.hid (Tryd.refRight_any E s2 u W4 HL2.out HE.out (fun k hk => Nat.le_trans (own_le HU.out k hk) (by decide)))
  clear hO hB4 HB3 HCl hx5 hmi hmi2 hmi3 hmi4 hmc hnn hreach hmn hm20
  go_wp2_with fail
  refine HRt.out.mono ?_
  rintro e W5 ⟨rfl, hB5⟩
  obtain ⟨rt, hrt⟩ : ∃ x, x = rightL E u := ⟨_, rfl⟩
  rw [← hrt]
  obtain ⟨ps2, hps⟩ : ∃ x, x = ps.take m := ⟨_, rfl⟩
  rw [← hps] at HST
  have HX0 : Hid (SpI w w.heap.size b5 E s r E s2 u a6 m c6 ps2 rt W5) := Lib.hid ⟨HK.out.below hB5 HK.out.lt, HI.out.below hB5, HX5.out.below hB5 HX5.out.lt, HL2.out.below hB5, HST.out.below hB5, HB4.out.trans (hB5.mono HB4.out.size), HBL.out, HNE.out, HU.out, hrt.symm, HE.out⟩
  have HRR : Hid (rightL E (ownR r) = rt) := Lib.hid (by rw [← HUR.out]; exact hrt.symm)
  clear hB5 HK HI HX5 HL2 HST HB4 HBL HNE hrt hps HRt c0 c1 c2 c3 lt5 HU HUR HP
  generalize w.heap.size = b1 at HX0 ⊢
  go_wp2_with fail
  go_loopg [45] m (fun g v45 wr => ∃ (k E2 : Nat) (s2 : Ls) (r2 : Rw3), k ≤ m ∧ m - k ≤ g ∧ v45 = .int .i64 k ∧ Hid (SpI w b1 b5 E s r E2 s2 r2 a6 m c6 ps2 rt wr))
  case atStart => exact ⟨0, E, s2, u, Nat.zero_le _, Nat.sub_le _ _, rfl, HX0⟩
  case round =>
    obtain ⟨k, E2, s2, r2, hk, hg, rfl, hX⟩ := hrel
    clear HX0
    by_cases hlt : k < m
    · have hkl : k < ps2.length := by rw [← (pAt_len hX.out.st).1]; exact hlt
      have hki : (k : Int) < (m : Int) := by omega
      have hki0 : (0 : Int) ≤ (k : Int) := by omega
      obtain ⟨b, off, rfl, hb3, z0, z1⟩ := pAt_get hX.out.st k hkl
      obtain ⟨p, hp⟩ : ∃ p, p = ps2[k] := ⟨_, rfl⟩
      rw [← hp] at z0 z1
      have HX1 : Hid (SpI w b1 b5 E s r E2 s2 r2 (some ⟨b, off, none⟩) m c6 ps2 rt (wr.alloc (.cells #[.int .i64 p.1, .int .u64 (p.2 : Nat)] 38))) := Lib.hid (hX.out.below Rows8.newB)
      have P8 : Hid (Rows8 (wr.alloc (.cells #[.int .i64 p.1, .int .u64 (p.2 : Nat)] 38)) wr.heap.size 38 #[.int .i64 p.1, .int .u64 (p.2 : Nat)]) := Lib.hid (Rows8.new _ _ _)
      have HQ := Lib.hid (Tryd.own_any E2 s2 r2 (wr.alloc (.cells #[.int .i64 p.1, .int .u64 (p.2 : Nat)] 38)) HX1.out.hl)
      have hb5 := HX1.out.x5
      have c0 : (wr.alloc (.cells #[.int .i64 p.1, .int .u64 (p.2 : Nat)] 38)).cell? ⟨b5, 0, none⟩ = some (.int .u64 (E2 : Nat)) := hb5.cell 0
      have c1 : (wr.alloc (.cells #[.int .i64 p.1, .int .u64 (p.2 : Nat)] 38)).cell? ⟨b5, 1, none⟩ = some (.slice (s2.a 0) (s2.n 0) (s2.c 0)) := hb5.cell 1
      have c2 : (wr.alloc (.cells #[.int .i64 p.1, .int .u64 (p.2 : Nat)] 38)).cell? ⟨b5, 2, none⟩ = some (.slice (s2.a 1) (s2.n 1) (s2.c 1)) := hb5.cell 2
      have c3 : (wr.alloc (.cells #[.int .i64 p.1, .int .u64 (p.2 : Nat)] 38)).cell? ⟨b5, 3, none⟩ = some (.slice (s2.a 2) (s2.n 2) (s2.c 2)) := hb5.cell 3
      have lt5 := hb5.lt
      clear hX hkl hb3 hp hb5
      go_wp2_with fail
      refine HQ.out.mono ?_
      rintro e V2 ⟨s9, rfl, hO9, hC⟩
      obtain ⟨b9, hb9⟩ : ∃ b, b = V2.heap.size := ⟨_, rfl⟩
      obtain ⟨V3, hV3⟩ : ∃ V, V = (V2.alloc (.cells #[.int .u64 (E2 : Nat), .slice (s9.a 0) (s9.n 0) (s9.c 0), .slice (s9.a 1) (s9.n 1) (s9.c 1), .slice (s9.a 2) (s9.n 2) (s9.c 2)] 26)) := ⟨_, rfl⟩
      have hal : Below V2.heap.size V2 V3 := by rw [hV3]; exact Rows8.newB
      have hx2 := HX1.out.below hC
      have hp2 := P8.out.below hC P8.out.lt
      have h9 := hO9.at
      rw [HX1.out.own] at h9
      have HBs : Hid (BsI w b1 b5 E s r E2 s2 r2 (some ⟨b, off, none⟩) m c6 ps2 rt wr.heap.size b9 p s9 V3) := Lib.hid ⟨hx2.below hal, hp2.below hal hp2.lt, by rw [hV3, hb9]; exact Rows8.new _ _ _, h9.below hal⟩
      clear hO9 hC hal hx2 hp2 h9 HX1 P8 HQ c0 c1 c2 c3 lt5 z0 z1
      go_upto_region 10 with fail
      rw [← hV3, ← hb9]
      clear hV3 hb9
      generalize wr.heap.size = b8 at *
      obtain ⟨TA, hTA⟩ : ∃ T, T = tryL E2 r2 (retN E2 r2 p) := ⟨_, rfl⟩
      have HQ := Lib.hid (Tryd.Retire_any E2 s2 r2 p V3 HBs.out.sp.hl HBs.out.sp.e2 (own_three HBs.out.sp.own))
      rw [← hTA] at HQ
      have HTA := Lib.hid hTA
      have hb5 := HBs.out.sp.x5
      have c0 : V3.cell? ⟨b5, 0, none⟩ = some (.int .u64 (E2 : Nat)) := hb5.cell 0
      have c1 : V3.cell? ⟨b5, 1, none⟩ = some (.slice (s2.a 0) (s2.n 0) (s2.c 0)) := hb5.cell 1
      have c2 : V3.cell? ⟨b5, 2, none⟩ = some (.slice (s2.a 1) (s2.n 1) (s2.c 1)) := hb5.cell 2
      have c3 : V3.cell? ⟨b5, 3, none⟩ = some (.slice (s2.a 2) (s2.n 2) (s2.c 2)) := hb5.cell 3
      have lt5 := hb5.lt
      have r8 := HBs.out.r8
      have e0 : V3.cell? ⟨b8, 0, none⟩ = some (.int .i64 p.1) := r8.cell 0
      have e1 : V3.cell? ⟨b8, 1, none⟩ = some (.int .u64 (p.2 : Nat)) := r8.cell 1
      have lt8 := r8.lt
      clear hb5 r8 hTA
      go_wp2_with fail
      refine HQ.out.mono ?_
      rintro e V4 ⟨⟨sA, rfl, hA⟩, hC⟩
      obtain ⟨b10, hb10⟩ : ∃ b, b = V4.heap.size := ⟨_, rfl⟩
      obtain ⟨V5, hV5⟩ : ∃ V, V = (V4.alloc (.cells #[.int .u64 (TA.2.1 : Nat), .slice (sA.a 0) (sA.n 0) (sA.c 0), .slice (sA.a 1) (sA.n 1) (sA.c 1), .slice (sA.a 2) (sA.n 2) (sA.c 2)] 26)) := ⟨_, rfl⟩
      have hal : Below V4.heap.size V4 V5 := by rw [hV5]; exact Rows8.newB
      have HB5 := Lib.hid (hC.trans (hal.mono hC.size))
      have HRA : Hid (Rows8 V5 b10 26 #[.int .u64 (TA.2.1 : Nat), .slice (sA.a 0) (sA.n 0) (sA.c 0), .slice (sA.a 1) (sA.n 1) (sA.c 1), .slice (sA.a 2) (sA.n 2) (sA.c 2)]) := Lib.hid (by rw [hV5, hb10]; exact Rows8.new _ _ _)
      have HLA := Lib.hid (hA.below hal)
      have HOA : Hid (∀ k j, k < 3 → (sA.v k).ownBlock = some j → j < b10) := Lib.hid (fun k j hk e => by rw [hb10]; exact hA.top k j hk e)
      have HS5 : Hid (V5.heap.size = b10 + 1) := Lib.hid (by rw [hV5, hb10, World.size_alloc])
      have HN10 : Hid (V3.heap.size ≤ b10) := Lib.hid (by rw [hb10]; exact hC.size)
      clear hA hC hal HQ c0 c1 c2 c3 lt5 e0 e1 lt8
      go_upto_region 11 with fail
      rw [← hV5, ← hb10]
      clear hV5 hb10
      obtain ⟨TB, hTB⟩ : ∃ T, T = tryL E2 r2 (advN E2 r2) := ⟨_, rfl⟩
      have hbs := HBs.out.below HB5.out
      have HQ := Lib.hid (Tryd.Advance_any E2 s2 r2 V5 hbs.sp.hl hbs.sp.e2 (own_three hbs.sp.own))
      rw [← hTB] at HQ
      have HTB := Lib.hid hTB
      have hb5 := hbs.sp.x5
      have c0 : V5.cell? ⟨b5, 0, none⟩ = some (.int .u64 (E2 : Nat)) := hb5.cell 0
      have c1 : V5.cell? ⟨b5, 1, none⟩ = some (.slice (s2.a 0) (s2.n 0) (s2.c 0)) := hb5.cell 1
      have c2 : V5.cell? ⟨b5, 2, none⟩ = some (.slice (s2.a 1) (s2.n 1) (s2.c 1)) := hb5.cell 2
      have c3 : V5.cell? ⟨b5, 3, none⟩ = some (.slice (s2.a 2) (s2.n 2) (s2.c 2)) := hb5.cell 3
      have lt5 := hb5.lt
      clear hb5 hbs hTB
      go_wp2_with fail
      refine HQ.out.mono ?_
      rintro e V6 ⟨⟨sB, rfl, hB⟩, hC⟩
      rw [HS5.out] at hB
      obtain ⟨b12, hb12⟩ : ∃ b, b = V6.heap.size := ⟨_, rfl⟩
      obtain ⟨V7, hV7⟩ : ∃ V, V = (V6.alloc (.cells #[.int .u64 (TB.2.1 : Nat), .slice (sB.a 0) (sB.n 0) (sB.c 0), .slice (sB.a 1) (sB.n 1) (sB.c 1), .slice (sB.a 2) (sB.n 2) (sB.c 2)] 26)) := ⟨_, rfl⟩
      have hal : Below V6.heap.size V6 V7 := by rw [hV7]; exact Rows8.newB
      have hc7 := hC.trans (hal.mono hC.size)
      have HB7 := Lib.hid (HB5.out.trans (hc7.mono HB5.out.size))
      have HRA := Lib.hid (HRA.out.below hc7 HRA.out.lt)
      have HLA := Lib.hid (HLA.out.below hc7)
      have HRB : Hid (Rows8 V7 b12 26 #[.int .u64 (TB.2.1 : Nat), .slice (sB.a 0) (sB.n 0) (sB.c 0), .slice (sB.a 1) (sB.n 1) (sB.c 1), .slice (sB.a 2) (sB.n 2) (sB.c 2)]) := Lib.hid (by rw [hV7, hb12]; exact Rows8.new _ _ _)
      have HLB := Lib.hid (hB.below hal)
      have HOB : Hid (∀ k j, k < 3 → (sB.v k).ownBlock = some j → j < b12) := Lib.hid (fun k j hk e => by rw [hb12]; exact hB.top k j hk e)
      have HS7 : Hid (V7.heap.size = b12 + 1) := Lib.hid (by rw [hV7, hb12, World.size_alloc])
      have HN12 : Hid (b10 < b12) := Lib.hid (by have h1 := hC.size; have h2 := HS5.out; omega)
      clear hB hC hal hc7 HQ HB5 HS5 c0 c1 c2 c3 lt5
      go_upto_region 12 with fail
      rw [← hV7, ← hb12]
      clear hV7 hb12
      obtain ⟨TC, hTC⟩ : ∃ T, T = tryL E2 r2 (takN E2 r2) := ⟨_, rfl⟩
      have hbs := HBs.out.below HB7.out
      have HQ := Tryd.Take_any E2 s2 r2 V7 hbs.sp.hl hbs.sp.e2 (own_three hbs.sp.own)
      rw [← hTC] at HQ
      obtain ⟨zC, hzC⟩ : ∃ z, z = (TC.2.2 3).headD (0, 0) := ⟨_, rfl⟩
      unfold TakQ at HQ
      rw [← hzC] at HQ
      have HQ := Lib.hid HQ
      have HZC := Lib.hid hzC
      have HTC := Lib.hid hTC
      have hb5 := hbs.sp.x5
      have c0 : V7.cell? ⟨b5, 0, none⟩ = some (.int .u64 (E2 : Nat)) := hb5.cell 0
      have c1 : V7.cell? ⟨b5, 1, none⟩ = some (.slice (s2.a 0) (s2.n 0) (s2.c 0)) := hb5.cell 1
      have c2 : V7.cell? ⟨b5, 2, none⟩ = some (.slice (s2.a 1) (s2.n 1) (s2.c 1)) := hb5.cell 2
      have c3 : V7.cell? ⟨b5, 3, none⟩ = some (.slice (s2.a 2) (s2.n 2) (s2.c 2)) := hb5.cell 3
      have lt5 := hb5.lt
      clear hb5 hbs hTC hzC
      go_wp2_with fail
      refine HQ.out.mono ?_
      rintro e V8 ⟨⟨sC, rfl, hCC⟩, hC⟩
      rw [HS7.out] at hCC
      obtain ⟨b14, hb14⟩ : ∃ b, b = V8.heap.size := ⟨_, rfl⟩
      obtain ⟨V10, hV10⟩ : ∃ V, V = ((((((V8.alloc (.cells #[.int .u64 (TC.2.1 : Nat), .slice (sC.a 0) (sC.n 0) (sC.c 0), .slice (sC.a 1) (sC.n 1) (sC.c 1), .slice (sC.a 2) (sC.n 2) (sC.c 2)] 26)).alloc (.cells #[.int .i64 zC.1, .int .u64 (zC.2 : Nat)] 38)).alloc (.cells #[.int .u64 0, .slice none 0 0, .slice none 0 0, .slice none 0 0] 26)).alloc (.cells #[.int .u64 0, .slice none 0 0, .slice none 0 0, .slice none 0 0] 26)).alloc (.cells #[.int .u64 0, .slice none 0 0, .slice none 0 0, .slice none 0 0] 26)).alloc (.cells #[.int .i64 0, .int .u64 0] 38)) := ⟨_, rfl⟩
      have hal : Below V8.heap.size V8 V10 := by rw [hV10]; exact ((((((Rows8.newB).alloc (by simp <;> omega) _).alloc (by simp <;> omega) _).alloc (by simp <;> omega) _).alloc (by simp <;> omega) _).alloc (by simp <;> omega) _)
      have hc10 := hC.trans (hal.mono hC.size)
      have HB := Lib.hid (HB7.out.trans (hc10.mono HB7.out.size))
      have h3 : b12 < b14 := by have h1 := hC.size; have h2 := HS7.out; omega
      have HA : Hid (AbI V3.heap.size b10 b12 b14 TA TB TC zC sA sB sC V10) := Lib.hid ⟨HRA.out.below hc10 HRA.out.lt, HRB.out.below hc10 HRB.out.lt, by rw [hV10, hb14]; exact (((((Rows8.new V8 26 (#[.int .u64 (TC.2.1 : Nat), .slice (sC.a 0) (sC.n 0) (sC.c 0), .slice (sC.a 1) (sC.n 1) (sC.c 1), .slice (sC.a 2) (sC.n 2) (sC.c 2)])).alloc _).alloc _).alloc _).alloc _).alloc _, HLA.out.below hc10, HLB.out.below hc10, hCC.below hal, HOA.out, HOB.out, fun k j hk e => by rw [hb14]; exact hCC.top k j hk e, HN10.out, HN12.out, h3, by
          rw [hV10, hb14]
          have h9 := Rows8.new (V8.alloc (.cells #[.int .u64 (TC.2.1 : Nat), .slice (sC.a 0) (sC.n 0) (sC.c 0), .slice (sC.a 1) (sC.n 1) (sC.c 1), .slice (sC.a 2) (sC.n 2) (sC.c 2)] 26)) 38 (#[.int .i64 zC.1, .int .u64 (zC.2 : Nat)])
          rw [World.size_alloc] at h9
          exact ((((h9).alloc _).alloc _).alloc _).alloc _⟩
      have HW : Hid (WnI (b14 + 1 + 1) (b14 + 1 + 1 + 1) (b14 + 1 + 1 + 1 + 1) (b14 + 1 + 1 + 1 + 1 + 1) (0, 0, fun _ => []) (0, 0, fun _ => []) (0, 0, fun _ => []) (0, 0) zLs zLs zLs V10) := Lib.hid ⟨by
          rw [hV10, hb14]
          have h9 := Rows8.new ((V8.alloc (.cells #[.int .u64 (TC.2.1 : Nat), .slice (sC.a 0) (sC.n 0) (sC.c 0), .slice (sC.a 1) (sC.n 1) (sC.c 1), .slice (sC.a 2) (sC.n 2) (sC.c 2)] 26)).alloc (.cells #[.int .i64 zC.1, .int .u64 (zC.2 : Nat)] 38)) 26 (#[.int .u64 0, .slice none 0 0, .slice none 0 0, .slice none 0 0])
          rw [World.size_alloc, World.size_alloc] at h9
          exact (((h9).alloc _).alloc _).alloc _, by
          rw [hV10, hb14]
          have h9 := Rows8.new (((V8.alloc (.cells #[.int .u64 (TC.2.1 : Nat), .slice (sC.a 0) (sC.n 0) (sC.c 0), .slice (sC.a 1) (sC.n 1) (sC.c 1), .slice (sC.a 2) (sC.n 2) (sC.c 2)] 26)).alloc (.cells #[.int .i64 zC.1, .int .u64 (zC.2 : Nat)] 38)).alloc (.cells #[.int .u64 0, .slice none 0 0, .slice none 0 0, .slice none 0 0] 26)) 26 (#[.int .u64 0, .slice none 0 0, .slice none 0 0, .slice none 0 0])
          rw [World.size_alloc, World.size_alloc, World.size_alloc] at h9
          exact ((h9).alloc _).alloc _, by
          rw [hV10, hb14]
          have h9 := Rows8.new ((((V8.alloc (.cells #[.int .u64 (TC.2.1 : Nat), .slice (sC.a 0) (sC.n 0) (sC.c 0), .slice (sC.a 1) (sC.n 1) (sC.c 1), .slice (sC.a 2) (sC.n 2) (sC.c 2)] 26)).alloc (.cells #[.int .i64 zC.1, .int .u64 (zC.2 : Nat)] 38)).alloc (.cells #[.int .u64 0, .slice none 0 0, .slice none 0 0, .slice none 0 0] 26)).alloc (.cells #[.int .u64 0, .slice none 0 0, .slice none 0 0, .slice none 0 0] 26)) 26 (#[.int .u64 0, .slice none 0 0, .slice none 0 0, .slice none 0 0])
          rw [World.size_alloc, World.size_alloc, World.size_alloc, World.size_alloc] at h9
          exact (h9).alloc _, by
          rw [hV10, hb14]
          have h9 := Rows8.new (((((V8.alloc (.cells #[.int .u64 (TC.2.1 : Nat), .slice (sC.a 0) (sC.n 0) (sC.c 0), .slice (sC.a 1) (sC.n 1) (sC.c 1), .slice (sC.a 2) (sC.n 2) (sC.c 2)] 26)).alloc (.cells #[.int .i64 zC.1, .int .u64 (zC.2 : Nat)] 38)).alloc (.cells #[.int .u64 0, .slice none 0 0, .slice none 0 0, .slice none 0 0] 26)).alloc (.cells #[.int .u64 0, .slice none 0 0, .slice none 0 0, .slice none 0 0] 26)).alloc (.cells #[.int .u64 0, .slice none 0 0, .slice none 0 0, .slice none 0 0] 26)) 38 (#[.int .i64 0, .int .u64 0])
          rw [World.size_alloc, World.size_alloc, World.size_alloc, World.size_alloc, World.size_alloc] at h9
          exact h9, z3_at _, z3_at _, z3_at _, notAt_z _ _, notAt_z _ _, notAt_z _ _, by omega, by omega, by omega⟩
      clear hCC hC hal hc10 h3 HQ HB7 HS7 HRA HRB HLA HLB HOA HOB HN10 HN12 c0 c1 c2 c3 lt5
      go_upto_if 68 with fail
      rw [← hV10, ← hb14]
      clear hV10 hb14
      have HN : Hid (V3.heap.size ≤ b14 ∧ b14 + 1 < b14 + 1 + 1) := Lib.hid (by have h1 := HA.out.o1; have h2 := HA.out.o2; have h3 := HA.out.o3; omega)
      generalize b14 + 1 + 1 + 1 + 1 + 1 = b20 at *
      generalize b14 + 1 + 1 + 1 + 1 = b19 at *
      generalize b14 + 1 + 1 + 1 = b18 at *
      generalize b14 + 1 + 1 = b17 at *
      as_aux_lemma =>
        go_cut [21, 22, 23, 45] from 45 to 167 (fun v21 v22 v23 v45 wc => ∃ uA uB uC : Ls, v21 = .int .i64 TA.1 ∧ v22 = .int .i64 TB.1 ∧ v23 = .int .i64 TC.1 ∧ v45 = .int .i64 k ∧ Hid (AbI V3.heap.size b10 b12 b14 TA TB TC zC sA sB sC wc) ∧ Hid (WnI b17 b18 b19 b20 TA TB TC zC uA uB uC wc) ∧ Hid (Below V3.heap.size V3 wc))
        case first =>
          cases rt with
          | false =>
            have hr := HBs.out.sp.rt
            obtain rfl : TA = (240, 0, fun _ => []) := by rw [HTA.out]; unfold tryL; rw [hr]; rfl
            obtain rfl : TB = (240, 0, fun _ => []) := by rw [HTB.out]; unfold tryL; rw [hr]; rfl
            obtain rfl : TC = (240, 0, fun _ => []) := by rw [HTC.out]; unfold tryL; rw [hr]; rfl
            obtain rfl : zC = (0, 0) := HZC.out
            go_wp2_with fail
            go_meet
            exact ⟨zLs, zLs, zLs, rfl, rfl, rfl, rfl, HA, Lib.hid ⟨HW.out.rA, HW.out.rB, HW.out.rC, HW.out.rE, HW.out.lA, HW.out.lB, HW.out.lC, HW.out.nA, HW.out.nB, HW.out.nC, HW.out.d1, HW.out.d2, HW.out.d3⟩, HB⟩
          | true =>
            go_upto_region 17 with fail
            refine wp_region_L (fun W' => BsI w b1 b5 E s r E2 s2 r2 (some ⟨b, off, none⟩) m c6 ps2 true b8 b9 p s9 W') 5 (by kernel_rfl) ?_
            have hS0 : Hid (BsI w b1 b5 E s r E2 s2 r2 (some ⟨b, off, none⟩) m c6 ps2 true b8 b9 p s9 V10.drew) := Lib.hid (HBs.out.below HB.out.drew)
            have HA := Lib.hid (HA.out.keep ((Below.refl V10.heap.size V10).drew) HA.out.rE.lt)
            have HW := Lib.hid HW.out.drew
            have HB := Lib.hid HB.out.drew
            have HRT := Lib.hid HBs.out.sp.rt
            generalize V10.drew = Wd at *
            as_aux_lemma =>
              refine wpAnyL_takeT (i := 0) (oi := { dst := some 70, op := Go.Op.load 26 (Go.Operand.tmp 5), type := 26, pos := "law.go:102", after := #[], guard := none }) (v := .agg #[.int .u64 (E2 : Nat), .slice (s2.a 0) (s2.n 0) (s2.c 0), .slice (s2.a 1) (s2.n 1) (s2.c 1), .slice (s2.a 2) (s2.n 2) (s2.c 2)]) [1, 3, 4, 5, 6, 7, 8] rfl (by kernel_rfl) (by kernel_rfl) (by kernel_rfl) (by kernel_rfl) (fun _ _ _ h => h) (Or.inl ⟨by rfl, ?_⟩) hS0.out ?_
              · intro W9 hS9
                have hq := hS9.sp.x5
                have c0 : W9.cell? ⟨b5, 0, none⟩ = some (.int .u64 (E2 : Nat)) := hq.cell 0
                have c1 : W9.cell? ⟨b5, 1, none⟩ = some (.slice (s2.a 0) (s2.n 0) (s2.c 0)) := hq.cell 1
                have c2 : W9.cell? ⟨b5, 2, none⟩ = some (.slice (s2.a 1) (s2.n 1) (s2.c 1)) := hq.cell 2
                have c3 : W9.cell? ⟨b5, 3, none⟩ = some (.slice (s2.a 2) (s2.n 2) (s2.c 2)) := hq.cell 3
                clear hq
                clear hS9
                go_simp
              try simp only [Act.put, List.setIfInBounds_toArray, List.set_cons_zero, List.set_cons_succ]
              refine wpAnyL_takeT (i := 2) (oi := { dst := some 72, op := Go.Op.load 38 (Go.Operand.tmp 8), type := 38, pos := "law.go:102", after := #[], guard := none }) (v := .agg #[.int .i64 p.1, .int .u64 (p.2 : Nat)]) [3, 4, 5, 6, 7, 8] rfl (by kernel_rfl) (by kernel_rfl) (by kernel_rfl) (by kernel_rfl) (fun _ _ _ h => h) (Or.inl ⟨by rfl, ?_⟩) hS0.out ?_
              · intro W9 hS9
                have hq := hS9.r8
                have s0 : W9.cell? ⟨b8, 0, none⟩ = some (.int .i64 p.1) := hq.cell 0
                have s1 : W9.cell? ⟨b8, 1, none⟩ = some (.int .u64 (p.2 : Nat)) := hq.cell 1
                clear hq
                clear hS9
                go_simp
              try simp only [Act.put, List.setIfInBounds_toArray, List.set_cons_zero, List.set_cons_succ]
              refine wpAnyL_one (i := 1) (o := { dst := some 71, op := Go.Op.call { callee := Go.Callee.value (Go.Operand.func 8), args := #[Go.Operand.tmp 70], argTypes := #[26] }, type := 26, pos := "law.go:102", after := #[{ on := 0, ground := Go.Ground.data }], guard := none }) (by kernel_rfl) rfl (fun K hK => ?_)
              refine step_call_g (by rfl) 8 _ _ rfl (fun _ _ => by kernel_rfl) #[.agg #[.int .u64 (E2 : Nat), .slice (s2.a 0) (s2.n 0) (s2.c 0), .slice (s2.a 1) (s2.n 1) (s2.c 1), .slice (s2.a 2) (s2.n 2) (s2.c 2)]] (by simp [go_sem]) _ (Tryd.own_any E2 s2 r2 Wd hS0.out.sp.hl) ?_
              rintro e W1 ⟨sq, rfl, hO, hC⟩
              rw [hS0.out.sp.own] at hO
              have HD20 := Lib.hid HW.out.rE.lt
              have HOq := Lib.hid hO
              have hS0 := Lib.hid (hS0.out.below hC)
              have HA := Lib.hid (HA.out.keep hC HA.out.rE.lt)
              have HW := Lib.hid (HW.out.below hC)
              have HB := Lib.hid (HB.out.trans (hC.mono HB.out.size))
              clear hC hO
              refine ⟨_, rfl, ?_⟩
              refine hK.out _ _ (fun _ => hS0.out) ?_
              clear hK K
              try simp only [Act.put, List.setIfInBounds_toArray, List.set_cons_zero, List.set_cons_succ]
              refine wpAnyL_one (i := 3) (o := { dst := some 73, op := Go.Op.call { callee := Go.Callee.value (Go.Operand.func 25), args := #[Go.Operand.tmp 71, Go.Operand.tmp 72], argTypes := #[26, 38] }, type := 44, pos := "law.go:102", after := #[{ on := 1, ground := Go.Ground.data }, { on := 2, ground := Go.Ground.data }, { on := 1, ground := Go.Ground.chain }], guard := none }) (by kernel_rfl) rfl (fun K hK => ?_)
              have HQ := Tryd.refRetire_any E2 sq r2 p W1 HOq.out.at HRT.out
              rw [← HTA.out] at HQ
              refine step_call_g (by rfl) 25 _ _ rfl (fun _ _ => by kernel_rfl) #[.agg #[.int .u64 (E2 : Nat), .slice (sq.a 0) (sq.n 0) (sq.c 0), .slice (sq.a 1) (sq.n 1) (sq.c 1), .slice (sq.a 2) (sq.n 2) (sq.c 2)], .agg #[.int .i64 p.1, .int .u64 (p.2 : Nat)]] (by simp [go_sem]) _ HQ ?_
              rintro e W2 ⟨⟨uA, rfl, hl, hna⟩, hC⟩
              have HNA := Lib.hid (hna b20 HW.out.rE.lt (HOq.out.not HD20.out))
              have HLA := Lib.hid hl
              have hS0 := Lib.hid (hS0.out.below hC)
              have HA := Lib.hid (HA.out.keep hC HA.out.rE.lt)
              have HW := Lib.hid (HW.out.below hC)
              have HB := Lib.hid (HB.out.trans (hC.mono HB.out.size))
              clear hC hl hna HQ HOq HD20
              refine ⟨_, rfl, ?_⟩
              refine hK.out _ _ (fun _ => hS0.out) ?_
              clear hK K
              try simp only [Act.put, List.setIfInBounds_toArray, List.set_cons_zero, List.set_cons_succ]
              refine wpAnyL_one (i := 4) (o := { dst := some 69, op := Go.Op.move (Go.Operand.tmp 73), type := 44, pos := "law.go:102", after := #[{ on := 3, ground := Go.Ground.data }], guard := none }) (by kernel_rfl) rfl (fun K hK => ?_)
              refine step_value_g (by rfl) (.tuple #[.agg #[.int .u64 (TA.2.1 : Nat), .slice (uA.a 0) (uA.n 0) (uA.c 0), .slice (uA.a 1) (uA.n 1) (uA.c 1), .slice (uA.a 2) (uA.n 2) (uA.c 2)], .int .i64 TA.1]) (w' := W2) (by go_simp) ?_
              refine hK.out _ _ (fun _ => hS0.out) ?_
              clear hK K
              try simp only [Act.put, List.setIfInBounds_toArray, List.set_cons_zero, List.set_cons_succ]
              refine wpAnyL_takeP (i := 5) (oi := { dst := some 74, op := Go.Op.extract (Go.Operand.tmp 69) 0, type := 26, pos := "law.go:102", after := #[{ on := 4, ground := Go.Ground.data }], guard := none }) (v := .agg #[.int .u64 (TA.2.1 : Nat), .slice (uA.a 0) (uA.n 0) (uA.c 0), .slice (uA.a 1) (uA.n 1) (uA.c 1), .slice (uA.a 2) (uA.n 2) (uA.c 2)]) rfl (by kernel_rfl) (by kernel_rfl) (by kernel_rfl) (by kernel_rfl) (fun _ _ _ h => h) (Or.inl ⟨by rfl, ?_⟩) ?_
              · intro W9 _
                go_simp
              try simp only [Act.put, List.setIfInBounds_toArray, List.set_cons_zero, List.set_cons_succ]
              refine wpAnyL_takeP (i := 6) (oi := { dst := some 75, op := Go.Op.extract (Go.Operand.tmp 69) 1, type := 31, pos := "law.go:102", after := #[{ on := 4, ground := Go.Ground.data }, { on := 7, ground := Go.Ground.gcOnly Go.Departure.lateStores }], guard := none }) (v := .int .i64 TA.1) rfl (by kernel_rfl) (by kernel_rfl) (by kernel_rfl) (by kernel_rfl) (fun _ _ _ h => h) (Or.inl ⟨by rfl, ?_⟩) ?_
              · intro W9 _
                go_simp
              try simp only [Act.put, List.setIfInBounds_toArray, List.set_cons_zero, List.set_cons_succ]
              refine wpAnyL_one (i := 7) (o := { dst := none, op := Go.Op.store 26 (Go.Operand.tmp 17) (Go.Operand.tmp 74), type := 0, pos := "law.go:102", after := #[{ on := 5, ground := Go.Ground.data }, { on := 3, ground := Go.Ground.chain }, { on := 0, ground := Go.Ground.phase }, { on := 1, ground := Go.Ground.phase }, { on := 2, ground := Go.Ground.phase }, { on := 3, ground := Go.Ground.phase }, { on := 4, ground := Go.Ground.phase }, { on := 5, ground := Go.Ground.phase }, { on := 6, ground := Go.Ground.textOnly Go.Departure.lateStores }], guard := none }) (by kernel_rfl) rfl (fun K hK => ?_)
              have z0 : W2.cell? ⟨b17, 0, none⟩ = some (.int .u64 0) := HW.out.rA.cell 0
              have f0 := HW.out.rA.frozen 0
              have z1 : W2.cell? ⟨b17, 1, none⟩ = some (.slice none 0 0) := HW.out.rA.cell 1
              have f1 := HW.out.rA.frozen 1
              have z2 : W2.cell? ⟨b17, 2, none⟩ = some (.slice none 0 0) := HW.out.rA.cell 2
              have f2 := HW.out.rA.frozen 2
              have z3 : W2.cell? ⟨b17, 3, none⟩ = some (.slice none 0 0) := HW.out.rA.cell 3
              have f3 := HW.out.rA.frozen 3
              have ltz := HW.out.rA.lt
              refine step_skip_g (by rfl) (w' := ((((W2.setCell ⟨b17, 0, none⟩ (.int .u64 (TA.2.1 : Nat))).setCell ⟨b17, 1, none⟩ (.slice (uA.a 0) (uA.n 0) (uA.c 0))).setCell ⟨b17, 2, none⟩ (.slice (uA.a 1) (uA.n 1) (uA.c 1))).setCell ⟨b17, 3, none⟩ (.slice (uA.a 2) (uA.n 2) (uA.c 2)))) (by go_simp) ?_
              have HN9 := HN.out
              have HD9 : b17 < b18 ∧ b18 < b19 ∧ b19 < b20 := ⟨HW.out.d1, HW.out.d2, HW.out.d3⟩
              have HA := Lib.hid (HA.out.keep (below4 (Below.refl b17 W2) (Nat.le_refl _) (.int .u64 (TA.2.1 : Nat)) (.slice (uA.a 0) (uA.n 0) (uA.c 0)) (.slice (uA.a 1) (uA.n 1) (uA.c 1)) (.slice (uA.a 2) (uA.n 2) (uA.c 2))) (by omega))
              have HB := Lib.hid (below4 HB.out (B := b17) (by omega) (.int .u64 (TA.2.1 : Nat)) (.slice (uA.a 0) (uA.n 0) (uA.c 0)) (.slice (uA.a 1) (uA.n 1) (uA.c 1)) (.slice (uA.a 2) (uA.n 2) (uA.c 2)))
              clear HN9 HD9
              have HW := Lib.hid (HW.out.setA HLA.out HNA.out)
              clear z0 z1 z2 z3 f0 f1 f2 f3 ltz HLA HNA
              refine hK.out _ _ (fun h => absurd h (by decide)) ?_
              clear hK K
              try simp only [Act.put, List.setIfInBounds_toArray, List.set_cons_zero, List.set_cons_succ]
              refine wpAnyL_one (i := 8) (o := { dst := some 21, op := Go.Op.assign (Go.Operand.tmp 75), type := 31, pos := "law.go:102", after := #[{ on := 6, ground := Go.Ground.data }, { on := 7, ground := Go.Ground.chain }, { on := 0, ground := Go.Ground.phase }, { on := 1, ground := Go.Ground.phase }, { on := 2, ground := Go.Ground.phase }, { on := 3, ground := Go.Ground.phase }, { on := 4, ground := Go.Ground.phase }, { on := 5, ground := Go.Ground.phase }, { on := 6, ground := Go.Ground.phase }, { on := 7, ground := Go.Ground.phase }], guard := none }) (by kernel_rfl) rfl (fun K hK => ?_)
              refine step_value_g (by rfl) (.int .i64 TA.1) (w' := ((((W2.setCell ⟨b17, 0, none⟩ (.int .u64 (TA.2.1 : Nat))).setCell ⟨b17, 1, none⟩ (.slice (uA.a 0) (uA.n 0) (uA.c 0))).setCell ⟨b17, 2, none⟩ (.slice (uA.a 1) (uA.n 1) (uA.c 1))).setCell ⟨b17, 3, none⟩ (.slice (uA.a 2) (uA.n 2) (uA.c 2)))) (by go_simp) ?_
              refine hK.out _ _ (fun h => absurd h (by decide)) ?_
              clear hK K
              try simp only [Act.put, List.setIfInBounds_toArray, List.set_cons_zero, List.set_cons_succ]
              refine wpAnyL_end (by kernel_rfl) ?_
              clear hS0
              generalize ((((W2.setCell ⟨b17, 0, none⟩ (.int .u64 (TA.2.1 : Nat))).setCell ⟨b17, 1, none⟩ (.slice (uA.a 0) (uA.n 0) (uA.c 0))).setCell ⟨b17, 2, none⟩ (.slice (uA.a 1) (uA.n 1) (uA.c 1))).setCell ⟨b17, 3, none⟩ (.slice (uA.a 2) (uA.n 2) (uA.c 2))) = W3 at *
              as_aux_lemma =>
                have hbs := HBs.out.below HB.out
                have HRT := Lib.hid hbs.sp.rt
                have HON := Lib.hid hbs.sp.own
                have HOq := Lib.hid (Tryd.own_any E2 s2 r2 W3 hbs.sp.hl)
                have hb5 := hbs.sp.x5
                have c0 : W3.cell? ⟨b5, 0, none⟩ = some (.int .u64 (E2 : Nat)) := hb5.cell 0
                have c1 : W3.cell? ⟨b5, 1, none⟩ = some (.slice (s2.a 0) (s2.n 0) (s2.c 0)) := hb5.cell 1
                have c2 : W3.cell? ⟨b5, 2, none⟩ = some (.slice (s2.a 1) (s2.n 1) (s2.c 1)) := hb5.cell 2
                have c3 : W3.cell? ⟨b5, 3, none⟩ = some (.slice (s2.a 2) (s2.n 2) (s2.c 2)) := hb5.cell 3
                have lt5 := hb5.lt
                clear hb5 hbs
                go_wp2_with fail
                refine HOq.out.mono ?_
                rintro e W4 ⟨sq2, rfl, hO, hC⟩
                rw [HON.out] at hO
                have HD20 := Lib.hid HW.out.rE.lt
                have HOw := Lib.hid hO
                have HA := Lib.hid (HA.out.keep hC HA.out.rE.lt)
                have HW := Lib.hid (HW.out.below hC)
                have HB := Lib.hid (HB.out.trans (hC.mono HB.out.size))
                clear hC hO HOq c0 c1 c2 c3 lt5
                have HQ := Tryd.refAdvance_any E2 sq2 r2 W4 HOw.out.at HRT.out
                rw [← HTB.out] at HQ
                have HQ := Lib.hid HQ
                go_wp2_with fail
                refine HQ.out.mono ?_
                rintro e W5 ⟨⟨uB, rfl, hl, hna⟩, hC⟩
                have HNA := Lib.hid (hna b20 HW.out.rE.lt (HOw.out.not HD20.out))
                have HLA := Lib.hid hl
                have HA := Lib.hid (HA.out.keep hC HA.out.rE.lt)
                have HW := Lib.hid (HW.out.below hC)
                have HB := Lib.hid (HB.out.trans (hC.mono HB.out.size))
                clear hC hl hna HQ HOw HD20
                have z0 : W5.cell? ⟨b18, 0, none⟩ = some (.int .u64 0) := HW.out.rB.cell 0
                have f0 := HW.out.rB.frozen 0
                have z1 : W5.cell? ⟨b18, 1, none⟩ = some (.slice none 0 0) := HW.out.rB.cell 1
                have f1 := HW.out.rB.frozen 1
                have z2 : W5.cell? ⟨b18, 2, none⟩ = some (.slice none 0 0) := HW.out.rB.cell 2
                have f2 := HW.out.rB.frozen 2
                have z3 : W5.cell? ⟨b18, 3, none⟩ = some (.slice none 0 0) := HW.out.rB.cell 3
                have f3 := HW.out.rB.frozen 3
                have ltz := HW.out.rB.lt
                have HN9 := HN.out
                have HD9 : b17 < b18 ∧ b18 < b19 ∧ b19 < b20 := ⟨HW.out.d1, HW.out.d2, HW.out.d3⟩
                have HA := Lib.hid (HA.out.keep (below4 (Below.refl b18 W5) (Nat.le_refl _) (.int .u64 (TB.2.1 : Nat)) (.slice (uB.a 0) (uB.n 0) (uB.c 0)) (.slice (uB.a 1) (uB.n 1) (uB.c 1)) (.slice (uB.a 2) (uB.n 2) (uB.c 2))) (by omega))
                have HB := Lib.hid (below4 HB.out (B := b18) (by omega) (.int .u64 (TB.2.1 : Nat)) (.slice (uB.a 0) (uB.n 0) (uB.c 0)) (.slice (uB.a 1) (uB.n 1) (uB.c 1)) (.slice (uB.a 2) (uB.n 2) (uB.c 2)))
                clear HN9 HD9
                have HW := Lib.hid (HW.out.setB HLA.out HNA.out)
                clear HLA HNA
                go_upto_region 19 with fail
                clear z0 z1 z2 z3 f0 f1 f2 f3 ltz
                generalize ((((W5.setCell ⟨b18, 0, none⟩ (.int .u64 (TB.2.1 : Nat))).setCell ⟨b18, 1, none⟩ (.slice (uB.a 0) (uB.n 0) (uB.c 0))).setCell ⟨b18, 2, none⟩ (.slice (uB.a 1) (uB.n 1) (uB.c 1))).setCell ⟨b18, 3, none⟩ (.slice (uB.a 2) (uB.n 2) (uB.c 2))) = W6 at *
                as_aux_lemma =>
                  have hbs := HBs.out.below HB.out
                  have HRT := Lib.hid hbs.sp.rt
                  have HON := Lib.hid hbs.sp.own
                  have HOq := Lib.hid (Tryd.own_any E2 s2 r2 W6 hbs.sp.hl)
                  have hb5 := hbs.sp.x5
                  have c0 : W6.cell? ⟨b5, 0, none⟩ = some (.int .u64 (E2 : Nat)) := hb5.cell 0
                  have c1 : W6.cell? ⟨b5, 1, none⟩ = some (.slice (s2.a 0) (s2.n 0) (s2.c 0)) := hb5.cell 1
                  have c2 : W6.cell? ⟨b5, 2, none⟩ = some (.slice (s2.a 1) (s2.n 1) (s2.c 1)) := hb5.cell 2
                  have c3 : W6.cell? ⟨b5, 3, none⟩ = some (.slice (s2.a 2) (s2.n 2) (s2.c 2)) := hb5.cell 3
                  have lt5 := hb5.lt
                  clear hb5 hbs
                  go_wp2_with fail
                  refine HOq.out.mono ?_
                  rintro e W7 ⟨sq3, rfl, hO, hC⟩
                  rw [HON.out] at hO
                  have HD20 := Lib.hid HW.out.rE.lt
                  have HOw := Lib.hid hO
                  have HA := Lib.hid (HA.out.keep hC HA.out.rE.lt)
                  have HW := Lib.hid (HW.out.below hC)
                  have HB := Lib.hid (HB.out.trans (hC.mono HB.out.size))
                  clear hC hO HOq c0 c1 c2 c3 lt5
                  have HQ := Tryd.refTake_any E2 sq3 r2 W7 HOw.out.at HRT.out (own_three HON.out)
                  rw [← HTC.out] at HQ
                  unfold RefTakQ at HQ
                  rw [← HZC.out] at HQ
                  have HQ := Lib.hid HQ
                  go_wp2_with fail
                  refine HQ.out.mono ?_
                  rintro e W8 ⟨⟨uC, rfl, hl, hna⟩, hC⟩
                  have HNA := Lib.hid (hna b20 HW.out.rE.lt (HOw.out.not HD20.out))
                  have HLA := Lib.hid hl
                  have HA := Lib.hid (HA.out.keep hC HA.out.rE.lt)
                  have HW := Lib.hid (HW.out.below hC)
                  have HB := Lib.hid (HB.out.trans (hC.mono HB.out.size))
                  clear hC hl hna HQ HOw HD20
                  have z0 : W8.cell? ⟨b19, 0, none⟩ = some (.int .u64 0) := HW.out.rC.cell 0
                  have f0 := HW.out.rC.frozen 0
                  have z1 : W8.cell? ⟨b19, 1, none⟩ = some (.slice none 0 0) := HW.out.rC.cell 1
                  have f1 := HW.out.rC.frozen 1
                  have z2 : W8.cell? ⟨b19, 2, none⟩ = some (.slice none 0 0) := HW.out.rC.cell 2
                  have f2 := HW.out.rC.frozen 2
                  have z3 : W8.cell? ⟨b19, 3, none⟩ = some (.slice none 0 0) := HW.out.rC.cell 3
                  have f3 := HW.out.rC.frozen 3
                  have ltz := HW.out.rC.lt
                  have HN9 := HN.out
                  have HD9 : b17 < b18 ∧ b18 < b19 ∧ b19 < b20 := ⟨HW.out.d1, HW.out.d2, HW.out.d3⟩
                  have HA := Lib.hid (HA.out.keep (below4 (Below.refl b19 W8) (Nat.le_refl _) (.int .u64 (TC.2.1 : Nat)) (.slice (uC.a 0) (uC.n 0) (uC.c 0)) (.slice (uC.a 1) (uC.n 1) (uC.c 1)) (.slice (uC.a 2) (uC.n 2) (uC.c 2))) (by omega))
                  have HB := Lib.hid (below4 HB.out (B := b19) (by omega) (.int .u64 (TC.2.1 : Nat)) (.slice (uC.a 0) (uC.n 0) (uC.c 0)) (.slice (uC.a 1) (uC.n 1) (uC.c 1)) (.slice (uC.a 2) (uC.n 2) (uC.c 2)))
                  clear HN9 HD9
                  have HW := Lib.hid (HW.out.setC HLA.out HNA.out)
                  have y0 : ((((W8.setCell ⟨b19, 0, none⟩ (.int .u64 (TC.2.1 : Nat))).setCell ⟨b19, 1, none⟩ (.slice (uC.a 0) (uC.n 0) (uC.c 0))).setCell ⟨b19, 2, none⟩ (.slice (uC.a 1) (uC.n 1) (uC.c 1))).setCell ⟨b19, 3, none⟩ (.slice (uC.a 2) (uC.n 2) (uC.c 2))).cell? ⟨b20, 0, none⟩ = some (.int .i64 0) := HW.out.rE.cell 0
                  have g0 := HW.out.rE.frozen 0
                  have y1 : ((((W8.setCell ⟨b19, 0, none⟩ (.int .u64 (TC.2.1 : Nat))).setCell ⟨b19, 1, none⟩ (.slice (uC.a 0) (uC.n 0) (uC.c 0))).setCell ⟨b19, 2, none⟩ (.slice (uC.a 1) (uC.n 1) (uC.c 1))).setCell ⟨b19, 3, none⟩ (.slice (uC.a 2) (uC.n 2) (uC.c 2))).cell? ⟨b20, 1, none⟩ = some (.int .u64 0) := HW.out.rE.cell 1
                  have g1 := HW.out.rE.frozen 1
                  have lty := HW.out.rE.lt
                  have HN9 := HN.out
                  have HD9 : b17 < b18 ∧ b18 < b19 ∧ b19 < b20 := ⟨HW.out.d1, HW.out.d2, HW.out.d3⟩
                  have HW := Lib.hid (HW.out.setE (y := zC))
                  have HA := Lib.hid (HA.out.keep (((Below.refl b20 ((((W8.setCell ⟨b19, 0, none⟩ (.int .u64 (TC.2.1 : Nat))).setCell ⟨b19, 1, none⟩ (.slice (uC.a 0) (uC.n 0) (uC.c 0))).setCell ⟨b19, 2, none⟩ (.slice (uC.a 1) (uC.n 1) (uC.c 1))).setCell ⟨b19, 3, none⟩ (.slice (uC.a 2) (uC.n 2) (uC.c 2)))).setCell (p := ⟨b20, 0, none⟩) (Nat.le_refl _) (.int .i64 zC.1)).setCell (p := ⟨b20, 1, none⟩) (Nat.le_refl _) (.int .u64 (zC.2 : Nat))) (by omega))
                  have HB := Lib.hid ((HB.out.setCell (p := ⟨b20, 0, none⟩) (by show _ ≤ b20; omega) (.int .i64 zC.1)).setCell (p := ⟨b20, 1, none⟩) (by show _ ≤ b20; omega) (.int .u64 (zC.2 : Nat)))
                  clear HN9 HD9 HLA HNA
                  go_wp2_with fail
                  go_meet
                  exact ⟨_, _, _, rfl, rfl, rfl, rfl, HA, HW, HB⟩
        case rest =>
          clear HA HW HB
          obtain ⟨uA, uB, uC, rfl, rfl, rfl, rfl, HA, HW, HB⟩ := hcut
          have rE1 := HA.out.rE
          have rE2 := HW.out.rE
          have e0 : wc.cell? ⟨b14 + 1, 0, none⟩ = some (.int .i64 zC.1) := rE1.cell 0
          have e1 : wc.cell? ⟨b14 + 1, 1, none⟩ = some (.int .u64 (zC.2 : Nat)) := rE1.cell 1
          have lte := rE1.lt
          have y0 : wc.cell? ⟨b20, 0, none⟩ = some (.int .i64 zC.1) := rE2.cell 0
          have y1 : wc.cell? ⟨b20, 1, none⟩ = some (.int .u64 (zC.2 : Nat)) := rE2.cell 1
          have lty := rE2.lt
          have hAA : (TA.1 != TA.1) = false := by simp
          have hBB : (TB.1 != TB.1) = false := by simp
          have hCC : (TC.1 != TC.1) = false := by simp
          clear rE1 rE2
          go_upto_region 22 with fail
          clear e0 e1 lte y0 y1 lty hAA hBB hCC
          have hl9 : ∀ k9, k9 < 3 → (TA.2.2 k9).length ≤ 13 := by
            rw [HTA.out]
            exact fun k9 hk9 => tryL_len (m := 13) (fun k8 hk8 => retN_len (m := 12) (own_le HBs.out.sp.own) k8 hk8) k9 hk9
          have HQ := Tryd.refSame_any TA.2.1 TA.2.1 sA uA TA.2.2 TA.2.2 wc HA.out.lA.at HW.out.lA (fun k9 hk9 => ⟨by rw [(HA.out.lA.at.len k9 hk9).1]; exact Nat.le_trans (hl9 k9 hk9) (by decide), by rw [(HW.out.lA.len k9 hk9).1]; exact Nat.le_trans (hl9 k9 hk9) (by decide)⟩)
          rw [show sameB TA.2.1 TA.2.2 TA.2.1 TA.2.2 = true from sameB_iff.2 ⟨rfl, rfl, rfl, rfl⟩] at HQ
          have HQ := Lib.hid HQ
          have ra := HA.out.rA
          have rb := HW.out.rA
          have c0 : wc.cell? ⟨b10, 0, none⟩ = some (.int .u64 (TA.2.1 : Nat)) := ra.cell 0
          have c1 : wc.cell? ⟨b10, 1, none⟩ = some (.slice (sA.a 0) (sA.n 0) (sA.c 0)) := ra.cell 1
          have c2 : wc.cell? ⟨b10, 2, none⟩ = some (.slice (sA.a 1) (sA.n 1) (sA.c 1)) := ra.cell 2
          have c3 : wc.cell? ⟨b10, 3, none⟩ = some (.slice (sA.a 2) (sA.n 2) (sA.c 2)) := ra.cell 3
          have d0 : wc.cell? ⟨b17, 0, none⟩ = some (.int .u64 (TA.2.1 : Nat)) := rb.cell 0
          have d1 : wc.cell? ⟨b17, 1, none⟩ = some (.slice (uA.a 0) (uA.n 0) (uA.c 0)) := rb.cell 1
          have d2 : wc.cell? ⟨b17, 2, none⟩ = some (.slice (uA.a 1) (uA.n 1) (uA.c 1)) := rb.cell 2
          have d3 : wc.cell? ⟨b17, 3, none⟩ = some (.slice (uA.a 2) (uA.n 2) (uA.c 2)) := rb.cell 3
          have ltc := ra.lt
          have ltd := rb.lt
          clear hl9 ra rb
          go_wp2_with fail
          refine HQ.out.mono ?_
          rintro e Y1 ⟨rfl, hC⟩
          have HA := Lib.hid (HA.out.keep hC HA.out.rE.lt)
          have HW := Lib.hid (HW.out.below hC)
          have HB := Lib.hid (HB.out.trans (hC.mono HB.out.size))
          clear hC HQ c0 c1 c2 c3 d0 d1 d2 d3 ltc ltd
          have hl9 : ∀ k9, k9 < 3 → (TB.2.2 k9).length ≤ 13 := by
            rw [HTB.out]
            exact fun k9 hk9 => tryL_len (m := 13) (fun k8 hk8 => Nat.le_succ_of_le (advN_len (m := 12) (own_le HBs.out.sp.own) k8 hk8)) k9 hk9
          have HQ := Tryd.refSame_any TB.2.1 TB.2.1 sB uB TB.2.2 TB.2.2 Y1 HA.out.lB.at HW.out.lB (fun k9 hk9 => ⟨by rw [(HA.out.lB.at.len k9 hk9).1]; exact Nat.le_trans (hl9 k9 hk9) (by decide), by rw [(HW.out.lB.len k9 hk9).1]; exact Nat.le_trans (hl9 k9 hk9) (by decide)⟩)
          rw [show sameB TB.2.1 TB.2.2 TB.2.1 TB.2.2 = true from sameB_iff.2 ⟨rfl, rfl, rfl, rfl⟩] at HQ
          have HQ := Lib.hid HQ
          have ra := HA.out.rB
          have rb := HW.out.rB
          have c0 : Y1.cell? ⟨b12, 0, none⟩ = some (.int .u64 (TB.2.1 : Nat)) := ra.cell 0
          have c1 : Y1.cell? ⟨b12, 1, none⟩ = some (.slice (sB.a 0) (sB.n 0) (sB.c 0)) := ra.cell 1
          have c2 : Y1.cell? ⟨b12, 2, none⟩ = some (.slice (sB.a 1) (sB.n 1) (sB.c 1)) := ra.cell 2
          have c3 : Y1.cell? ⟨b12, 3, none⟩ = some (.slice (sB.a 2) (sB.n 2) (sB.c 2)) := ra.cell 3
          have d0 : Y1.cell? ⟨b18, 0, none⟩ = some (.int .u64 (TB.2.1 : Nat)) := rb.cell 0
          have d1 : Y1.cell? ⟨b18, 1, none⟩ = some (.slice (uB.a 0) (uB.n 0) (uB.c 0)) := rb.cell 1
          have d2 : Y1.cell? ⟨b18, 2, none⟩ = some (.slice (uB.a 1) (uB.n 1) (uB.c 1)) := rb.cell 2
          have d3 : Y1.cell? ⟨b18, 3, none⟩ = some (.slice (uB.a 2) (uB.n 2) (uB.c 2)) := rb.cell 3
          have ltc := ra.lt
          have ltd := rb.lt
          clear hl9 ra rb
          go_wp2_with fail
          refine HQ.out.mono ?_
          rintro e Y2 ⟨rfl, hC⟩
          have HA := Lib.hid (HA.out.keep hC HA.out.rE.lt)
          have HW := Lib.hid (HW.out.below hC)
          have HB := Lib.hid (HB.out.trans (hC.mono HB.out.size))
          clear hC HQ c0 c1 c2 c3 d0 d1 d2 d3 ltc ltd
          have hl9 : ∀ k9, k9 < 3 → (TC.2.2 k9).length ≤ 13 := by
            rw [HTC.out]
            exact fun k9 hk9 => tryL_len (m := 13) (fun k8 hk8 => Nat.le_succ_of_le (takN_len (m := 12) (own_le HBs.out.sp.own) k8 hk8)) k9 hk9
          have HQ := Tryd.refSame_any TC.2.1 TC.2.1 sC uC TC.2.2 TC.2.2 Y2 HA.out.lC.at HW.out.lC (fun k9 hk9 => ⟨by rw [(HA.out.lC.at.len k9 hk9).1]; exact Nat.le_trans (hl9 k9 hk9) (by decide), by rw [(HW.out.lC.len k9 hk9).1]; exact Nat.le_trans (hl9 k9 hk9) (by decide)⟩)
          rw [show sameB TC.2.1 TC.2.2 TC.2.1 TC.2.2 = true from sameB_iff.2 ⟨rfl, rfl, rfl, rfl⟩] at HQ
          have HQ := Lib.hid HQ
          have ra := HA.out.rC
          have rb := HW.out.rC
          have c0 : Y2.cell? ⟨b14, 0, none⟩ = some (.int .u64 (TC.2.1 : Nat)) := ra.cell 0
          have c1 : Y2.cell? ⟨b14, 1, none⟩ = some (.slice (sC.a 0) (sC.n 0) (sC.c 0)) := ra.cell 1
          have c2 : Y2.cell? ⟨b14, 2, none⟩ = some (.slice (sC.a 1) (sC.n 1) (sC.c 1)) := ra.cell 2
          have c3 : Y2.cell? ⟨b14, 3, none⟩ = some (.slice (sC.a 2) (sC.n 2) (sC.c 2)) := ra.cell 3
          have d0 : Y2.cell? ⟨b19, 0, none⟩ = some (.int .u64 (TC.2.1 : Nat)) := rb.cell 0
          have d1 : Y2.cell? ⟨b19, 1, none⟩ = some (.slice (uC.a 0) (uC.n 0) (uC.c 0)) := rb.cell 1
          have d2 : Y2.cell? ⟨b19, 2, none⟩ = some (.slice (uC.a 1) (uC.n 1) (uC.c 1)) := rb.cell 2
          have d3 : Y2.cell? ⟨b19, 3, none⟩ = some (.slice (uC.a 2) (uC.n 2) (uC.c 2)) := rb.cell 3
          have ltc := ra.lt
          have ltd := rb.lt
          clear hl9 ra rb
          go_wp2_with fail
          refine HQ.out.mono ?_
          rintro e Y3 ⟨rfl, hC⟩
          have HA := Lib.hid (HA.out.keep hC HA.out.rE.lt)
          have HW := Lib.hid (HW.out.below hC)
          have HB := Lib.hid (HB.out.trans (hC.mono HB.out.size))
          clear hC HQ c0 c1 c2 c3 d0 d1 d2 d3 ltc ltd
          have hb5 := (HBs.out.below HB.out).sp.x5
          have c0 : Y3.cell? ⟨b5, 0, none⟩ = some (.int .u64 (E2 : Nat)) := hb5.cell 0
          have c1 : Y3.cell? ⟨b5, 1, none⟩ = some (.slice (s2.a 0) (s2.n 0) (s2.c 0)) := hb5.cell 1
          have c2 : Y3.cell? ⟨b5, 2, none⟩ = some (.slice (s2.a 1) (s2.n 1) (s2.c 1)) := hb5.cell 2
          have c3 : Y3.cell? ⟨b5, 3, none⟩ = some (.slice (s2.a 2) (s2.n 2) (s2.c 2)) := hb5.cell 3
          have lt5 := hb5.lt
          clear hb5
          go_upto_block 2 with fail
          obtain ⟨b24, hb24⟩ : ∃ b, b = Y3.heap.size := ⟨_, rfl⟩
          obtain ⟨X0, hX0⟩ : ∃ X, X = (Y3.alloc (.cells #[.int .u64 (E2 : Nat), .slice (s2.a 0) (s2.n 0) (s2.c 0), .slice (s2.a 1) (s2.n 1) (s2.c 1), .slice (s2.a 2) (s2.n 2) (s2.c 2)] 26)) := ⟨_, rfl⟩
          rw [← hX0, ← hb24]
          have hal : Below Y3.heap.size Y3 X0 := by rw [hX0]; exact Rows8.newB
          have HN24 : Hid (b14 + 1 < b24 ∧ V3.heap.size ≤ b24) := Lib.hid (by rw [hb24]; exact ⟨HA.out.rE.lt, HB.out.size⟩)
          have HA := Lib.hid (HA.out.keep hal HA.out.rE.lt)
          have HB := Lib.hid (HB.out.trans (hal.mono HB.out.size))
          have HNX : Hid (Rows8 X0 b24 26 #[.int .u64 (E2 : Nat), .slice (s2.a 0) (s2.n 0) (s2.c 0), .slice (s2.a 1) (s2.n 1) (s2.c 1), .slice (s2.a 2) (s2.n 2) (s2.c 2)]) := Lib.hid (by rw [hX0, hb24]; exact Rows8.new _ _ _)
          clear hal hX0 hb24 HW HN c0 c1 c2 c3 lt5
          as_aux_lemma =>
            go_cut [45] from 45 to 167 (fun v45 wc => ∃ (F : Nat) (u : Ls) (v : Rw3), v45 = .int .i64 k ∧ Hid (Rows8 wc b24 26 #[.int .u64 (F : Nat), .slice (u.a 0) (u.n 0) (u.c 0), .slice (u.a 1) (u.n 1) (u.c 1), .slice (u.a 2) (u.n 2) (u.c 2)]) ∧ Hid (LAt wc u v) ∧ Hid (rightL F (ownR v) = rt) ∧ Hid (F < 18446744073709551616) ∧ Hid (AbI V3.heap.size b10 b12 b14 TA TB TC zC sA sB sC wc) ∧ Hid (Below V3.heap.size V3 wc))
            case first =>
              have r8 := (HBs.out.below HB.out).r8
              have e0 : X0.cell? ⟨b8, 0, none⟩ = some (.int .i64 p.1) := r8.cell 0
              have lt8 := r8.lt
              clear r8
              by_cases hp : 0 ≤ p.1
              · have hp2 : p.1 ≥ 0 := hp
                have hp3 : ¬ p.1 < 0 := by omega
                by_cases hq_TA : TA.1 = 0
                · as_aux_lemma =>
                    have q1_TA : (TA.1 == 0) = true := by rw [hq_TA]; rfl
                    have q2_TA : decide (TA.1 = 0) = true := decide_eq_true hq_TA
                    have HQ_TA := Lib.hid hq_TA
                    clear hq_TA
                    have ra := HA.out.rA
                    have c0 : X0.cell? ⟨b10, 0, none⟩ = some (.int .u64 (TA.2.1 : Nat)) := ra.cell 0
                    have c1 : X0.cell? ⟨b10, 1, none⟩ = some (.slice (sA.a 0) (sA.n 0) (sA.c 0)) := ra.cell 1
                    have c2 : X0.cell? ⟨b10, 2, none⟩ = some (.slice (sA.a 1) (sA.n 1) (sA.c 1)) := ra.cell 2
                    have c3 : X0.cell? ⟨b10, 3, none⟩ = some (.slice (sA.a 2) (sA.n 2) (sA.c 2)) := ra.cell 3
                    have ltc := ra.lt
                    have HQ := Lib.hid (Tryd.own_any TA.2.1 sA TA.2.2 X0 HA.out.lA.at)
                    clear ra
                    go_wp2_with fail
                    refine HQ.out.mono ?_
                    rintro e X1 ⟨sn, rfl, hO, hC⟩
                    have HNX := Lib.hid (HNX.out.below hC HNX.out.lt)
                    have HA := Lib.hid (HA.out.keep hC (HA.out.rE.lt))
                    have HB := Lib.hid (HB.out.trans (hC.mono HB.out.size))
                    have HL := Lib.hid (lat_set4 hO.at HNX.out (.int .u64 (TA.2.1 : Nat)) (.slice (sn.a 0) (sn.n 0) (sn.c 0)) (.slice (sn.a 1) (sn.n 1) (sn.c 1)) (.slice (sn.a 2) (sn.n 2) (sn.c 2)))
                    have HNX2 := Lib.hid (rows4 HNX.out (.int .u64 (TA.2.1 : Nat)) (.slice (sn.a 0) (sn.n 0) (sn.c 0)) (.slice (sn.a 1) (sn.n 1) (sn.c 1)) (.slice (sn.a 2) (sn.n 2) (sn.c 2)))
                    have z0 : X1.cell? ⟨b24, 0, none⟩ = some (.int .u64 (E2 : Nat)) := HNX.out.cell 0
                    have f0 := HNX.out.frozen 0
                    have z1 : X1.cell? ⟨b24, 1, none⟩ = some (.slice (s2.a 0) (s2.n 0) (s2.c 0)) := HNX.out.cell 1
                    have f1 := HNX.out.frozen 1
                    have z2 : X1.cell? ⟨b24, 2, none⟩ = some (.slice (s2.a 1) (s2.n 1) (s2.c 1)) := HNX.out.cell 2
                    have f2 := HNX.out.frozen 2
                    have z3 : X1.cell? ⟨b24, 3, none⟩ = some (.slice (s2.a 2) (s2.n 2) (s2.c 2)) := HNX.out.cell 3
                    have f3 := HNX.out.frozen 3
                    have ltz := HNX.out.lt
                    have HA := Lib.hid (HA.out.keep (below4 (Below.refl b24 X1) (Nat.le_refl _) (.int .u64 (TA.2.1 : Nat)) (.slice (sn.a 0) (sn.n 0) (sn.c 0)) (.slice (sn.a 1) (sn.n 1) (sn.c 1)) (.slice (sn.a 2) (sn.n 2) (sn.c 2))) HN24.out.1)
                    have HB := Lib.hid (below4 HB.out (B := b24) HN24.out.2 (.int .u64 (TA.2.1 : Nat)) (.slice (sn.a 0) (sn.n 0) (sn.c 0)) (.slice (sn.a 1) (sn.n 1) (sn.c 1)) (.slice (sn.a 2) (sn.n 2) (sn.c 2)))
                    have HOK : Hid (rightL TA.2.1 (ownR TA.2.2) = rt ∧ TA.2.1 < 18446744073709551616) := Lib.hid (ret_ok HBs.out.sp.rt HTA.out HQ_TA.out)
                    clear hO hC HQ c0 c1 c2 c3 ltc e0 lt8 HNX
                    go_wp2_with fail
                    go_meet
                    exact ⟨_, sn, ownR TA.2.2, rfl, HNX2, HL, Lib.hid (by rw [own_own]; exact HOK.out.1), Lib.hid HOK.out.2, HA, HB⟩
                · as_aux_lemma =>
                    have q1_TA : (TA.1 == 0) = false := by simp [hq_TA]
                    have q2_TA : decide (TA.1 = 0) = false := decide_eq_false hq_TA
                    clear hq_TA
                    go_wp2_with fail
                    go_meet
                    exact ⟨E2, s2, r2, rfl, HNX, Lib.hid (HBs.out.below HB.out).sp.hl, Lib.hid (by rw [HBs.out.sp.own]; exact HBs.out.sp.rt), Lib.hid HBs.out.sp.e2, HA, HB⟩
              · have hp2 : ¬ p.1 ≥ 0 := hp
                have hp3 : p.1 < 0 := by omega
                by_cases hq_TC : TC.1 = 0
                · as_aux_lemma =>
                    have q1_TC : (TC.1 == 0) = true := by rw [hq_TC]; rfl
                    have q2_TC : decide (TC.1 = 0) = true := decide_eq_true hq_TC
                    have HQ_TC := Lib.hid hq_TC
                    clear hq_TC
                    have ra := HA.out.rC
                    have c0 : X0.cell? ⟨b14, 0, none⟩ = some (.int .u64 (TC.2.1 : Nat)) := ra.cell 0
                    have c1 : X0.cell? ⟨b14, 1, none⟩ = some (.slice (sC.a 0) (sC.n 0) (sC.c 0)) := ra.cell 1
                    have c2 : X0.cell? ⟨b14, 2, none⟩ = some (.slice (sC.a 1) (sC.n 1) (sC.c 1)) := ra.cell 2
                    have c3 : X0.cell? ⟨b14, 3, none⟩ = some (.slice (sC.a 2) (sC.n 2) (sC.c 2)) := ra.cell 3
                    have ltc := ra.lt
                    have HQ := Lib.hid (Tryd.own_any TC.2.1 sC TC.2.2 X0 HA.out.lC.at)
                    clear ra
                    go_wp2_with fail
                    refine HQ.out.mono ?_
                    rintro e X1 ⟨sn, rfl, hO, hC⟩
                    have HNX := Lib.hid (HNX.out.below hC HNX.out.lt)
                    have HA := Lib.hid (HA.out.keep hC (HA.out.rE.lt))
                    have HB := Lib.hid (HB.out.trans (hC.mono HB.out.size))
                    have HL := Lib.hid (lat_set4 hO.at HNX.out (.int .u64 (TC.2.1 : Nat)) (.slice (sn.a 0) (sn.n 0) (sn.c 0)) (.slice (sn.a 1) (sn.n 1) (sn.c 1)) (.slice (sn.a 2) (sn.n 2) (sn.c 2)))
                    have HNX2 := Lib.hid (rows4 HNX.out (.int .u64 (TC.2.1 : Nat)) (.slice (sn.a 0) (sn.n 0) (sn.c 0)) (.slice (sn.a 1) (sn.n 1) (sn.c 1)) (.slice (sn.a 2) (sn.n 2) (sn.c 2)))
                    have z0 : X1.cell? ⟨b24, 0, none⟩ = some (.int .u64 (E2 : Nat)) := HNX.out.cell 0
                    have f0 := HNX.out.frozen 0
                    have z1 : X1.cell? ⟨b24, 1, none⟩ = some (.slice (s2.a 0) (s2.n 0) (s2.c 0)) := HNX.out.cell 1
                    have f1 := HNX.out.frozen 1
                    have z2 : X1.cell? ⟨b24, 2, none⟩ = some (.slice (s2.a 1) (s2.n 1) (s2.c 1)) := HNX.out.cell 2
                    have f2 := HNX.out.frozen 2
                    have z3 : X1.cell? ⟨b24, 3, none⟩ = some (.slice (s2.a 2) (s2.n 2) (s2.c 2)) := HNX.out.cell 3
                    have f3 := HNX.out.frozen 3
                    have ltz := HNX.out.lt
                    have HA := Lib.hid (HA.out.keep (below4 (Below.refl b24 X1) (Nat.le_refl _) (.int .u64 (TC.2.1 : Nat)) (.slice (sn.a 0) (sn.n 0) (sn.c 0)) (.slice (sn.a 1) (sn.n 1) (sn.c 1)) (.slice (sn.a 2) (sn.n 2) (sn.c 2))) HN24.out.1)
                    have HB := Lib.hid (below4 HB.out (B := b24) HN24.out.2 (.int .u64 (TC.2.1 : Nat)) (.slice (sn.a 0) (sn.n 0) (sn.c 0)) (.slice (sn.a 1) (sn.n 1) (sn.c 1)) (.slice (sn.a 2) (sn.n 2) (sn.c 2)))
                    have HOK : Hid (rightL TC.2.1 (ownR TC.2.2) = rt ∧ TC.2.1 < 18446744073709551616) := Lib.hid (tak_ok HBs.out.sp.rt HTC.out HQ_TC.out)
                    clear hO hC HQ c0 c1 c2 c3 ltc e0 lt8 HNX
                    go_wp2_with fail
                    go_meet
                    exact ⟨_, sn, ownR TC.2.2, rfl, HNX2, HL, Lib.hid (by rw [own_own]; exact HOK.out.1), Lib.hid HOK.out.2, HA, HB⟩
                · by_cases hq_TB : TB.1 = 0
                  · as_aux_lemma =>
                      have q1_TC : (TC.1 == 0) = false := by simp [hq_TC]
                      have q2_TC : decide (TC.1 = 0) = false := decide_eq_false hq_TC
                      clear hq_TC
                      have q1_TB : (TB.1 == 0) = true := by rw [hq_TB]; rfl
                      have q2_TB : decide (TB.1 = 0) = true := decide_eq_true hq_TB
                      have HQ_TB := Lib.hid hq_TB
                      clear hq_TB
                      have ra := HA.out.rB
                      have c0 : X0.cell? ⟨b12, 0, none⟩ = some (.int .u64 (TB.2.1 : Nat)) := ra.cell 0
                      have c1 : X0.cell? ⟨b12, 1, none⟩ = some (.slice (sB.a 0) (sB.n 0) (sB.c 0)) := ra.cell 1
                      have c2 : X0.cell? ⟨b12, 2, none⟩ = some (.slice (sB.a 1) (sB.n 1) (sB.c 1)) := ra.cell 2
                      have c3 : X0.cell? ⟨b12, 3, none⟩ = some (.slice (sB.a 2) (sB.n 2) (sB.c 2)) := ra.cell 3
                      have ltc := ra.lt
                      have HQ := Lib.hid (Tryd.own_any TB.2.1 sB TB.2.2 X0 HA.out.lB.at)
                      clear ra
                      go_wp2_with fail
                      refine HQ.out.mono ?_
                      rintro e X1 ⟨sn, rfl, hO, hC⟩
                      have HNX := Lib.hid (HNX.out.below hC HNX.out.lt)
                      have HA := Lib.hid (HA.out.keep hC (HA.out.rE.lt))
                      have HB := Lib.hid (HB.out.trans (hC.mono HB.out.size))
                      have HL := Lib.hid (lat_set4 hO.at HNX.out (.int .u64 (TB.2.1 : Nat)) (.slice (sn.a 0) (sn.n 0) (sn.c 0)) (.slice (sn.a 1) (sn.n 1) (sn.c 1)) (.slice (sn.a 2) (sn.n 2) (sn.c 2)))
                      have HNX2 := Lib.hid (rows4 HNX.out (.int .u64 (TB.2.1 : Nat)) (.slice (sn.a 0) (sn.n 0) (sn.c 0)) (.slice (sn.a 1) (sn.n 1) (sn.c 1)) (.slice (sn.a 2) (sn.n 2) (sn.c 2)))
                      have z0 : X1.cell? ⟨b24, 0, none⟩ = some (.int .u64 (E2 : Nat)) := HNX.out.cell 0
                      have f0 := HNX.out.frozen 0
                      have z1 : X1.cell? ⟨b24, 1, none⟩ = some (.slice (s2.a 0) (s2.n 0) (s2.c 0)) := HNX.out.cell 1
                      have f1 := HNX.out.frozen 1
                      have z2 : X1.cell? ⟨b24, 2, none⟩ = some (.slice (s2.a 1) (s2.n 1) (s2.c 1)) := HNX.out.cell 2
                      have f2 := HNX.out.frozen 2
                      have z3 : X1.cell? ⟨b24, 3, none⟩ = some (.slice (s2.a 2) (s2.n 2) (s2.c 2)) := HNX.out.cell 3
                      have f3 := HNX.out.frozen 3
                      have ltz := HNX.out.lt
                      have HA := Lib.hid (HA.out.keep (below4 (Below.refl b24 X1) (Nat.le_refl _) (.int .u64 (TB.2.1 : Nat)) (.slice (sn.a 0) (sn.n 0) (sn.c 0)) (.slice (sn.a 1) (sn.n 1) (sn.c 1)) (.slice (sn.a 2) (sn.n 2) (sn.c 2))) HN24.out.1)
                      have HB := Lib.hid (below4 HB.out (B := b24) HN24.out.2 (.int .u64 (TB.2.1 : Nat)) (.slice (sn.a 0) (sn.n 0) (sn.c 0)) (.slice (sn.a 1) (sn.n 1) (sn.c 1)) (.slice (sn.a 2) (sn.n 2) (sn.c 2)))
                      have HOK : Hid (rightL TB.2.1 (ownR TB.2.2) = rt ∧ TB.2.1 < 18446744073709551616) := Lib.hid (adv_ok HBs.out.sp.rt HTB.out HQ_TB.out)
                      clear hO hC HQ c0 c1 c2 c3 ltc e0 lt8 HNX
                      go_wp2_with fail
                      go_meet
                      exact ⟨_, sn, ownR TB.2.2, rfl, HNX2, HL, Lib.hid (by rw [own_own]; exact HOK.out.1), Lib.hid HOK.out.2, HA, HB⟩
                  · as_aux_lemma =>
                      have q1_TC : (TC.1 == 0) = false := by simp [hq_TC]
                      have q2_TC : decide (TC.1 = 0) = false := decide_eq_false hq_TC
                      clear hq_TC
                      have q1_TB : (TB.1 == 0) = false := by simp [hq_TB]
                      have q2_TB : decide (TB.1 = 0) = false := decide_eq_false hq_TB
                      clear hq_TB
                      go_wp2_with fail
                      go_meet
                      exact ⟨E2, s2, r2, rfl, HNX, Lib.hid (HBs.out.below HB.out).sp.hl, Lib.hid (by rw [HBs.out.sp.own]; exact HBs.out.sp.rt), Lib.hid HBs.out.sp.e2, HA, HB⟩
            case rest =>
              clear HA HB HNX
              obtain ⟨F, u, v, rfl, HNX, HL, HRV, HF, HA, HB⟩ := hcut
              have HQ := Lib.hid (Tryd.own_any F u v wc HL.out)
              have ra := HNX.out
              have c0 : wc.cell? ⟨b24, 0, none⟩ = some (.int .u64 (F : Nat)) := ra.cell 0
              have c1 : wc.cell? ⟨b24, 1, none⟩ = some (.slice (u.a 0) (u.n 0) (u.c 0)) := ra.cell 1
              have c2 : wc.cell? ⟨b24, 2, none⟩ = some (.slice (u.a 1) (u.n 1) (u.c 1)) := ra.cell 2
              have c3 : wc.cell? ⟨b24, 3, none⟩ = some (.slice (u.a 2) (u.n 2) (u.c 2)) := ra.cell 3
              have ltc := ra.lt
              have HLT := Lib.hid ltc
              clear ra
              go_wp2_with fail
              refine HQ.out.mono ?_
              rintro e X1 ⟨u2, rfl, hO, hC⟩
              have HNX := Lib.hid (HNX.out.below hC HNX.out.lt)
              have HA := Lib.hid (HA.out.keep hC (HA.out.rE.lt))
              have HB := Lib.hid (HB.out.trans (hC.mono HB.out.size))
              have HSC : Hid (Below b24 wc X1) := Lib.hid (hC.mono (Nat.le_of_lt HLT.out))
              have HNC : Hid (b24 ≤ b24) := Lib.hid (Nat.le_refl _)
              have HLO := Lib.hid (hO.set4 HLT.out (.int .u64 (F : Nat)) (.slice (u2.a 0) (u2.n 0) (u2.c 0)) (.slice (u2.a 1) (u2.n 1) (u2.c 1)) (.slice (u2.a 2) (u2.n 2) (u2.c 2)))
              have z0 : X1.cell? ⟨b24, 0, none⟩ = some (.int .u64 (F : Nat)) := HNX.out.cell 0
              have f0 := HNX.out.frozen 0
              have z1 : X1.cell? ⟨b24, 1, none⟩ = some (.slice (u.a 0) (u.n 0) (u.c 0)) := HNX.out.cell 1
              have f1 := HNX.out.frozen 1
              have z2 : X1.cell? ⟨b24, 2, none⟩ = some (.slice (u.a 1) (u.n 1) (u.c 1)) := HNX.out.cell 2
              have f2 := HNX.out.frozen 2
              have z3 : X1.cell? ⟨b24, 3, none⟩ = some (.slice (u.a 2) (u.n 2) (u.c 2)) := HNX.out.cell 3
              have f3 := HNX.out.frozen 3
              have ltz := HNX.out.lt
              have HA := Lib.hid (HA.out.keep (below4 (Below.refl b24 X1) (Nat.le_refl _) (.int .u64 (F : Nat)) (.slice (u2.a 0) (u2.n 0) (u2.c 0)) (.slice (u2.a 1) (u2.n 1) (u2.c 1)) (.slice (u2.a 2) (u2.n 2) (u2.c 2))) HN24.out.1)
              have HB := Lib.hid (below4 HB.out (B := b24) HN24.out.2 (.int .u64 (F : Nat)) (.slice (u2.a 0) (u2.n 0) (u2.c 0)) (.slice (u2.a 1) (u2.n 1) (u2.c 1)) (.slice (u2.a 2) (u2.n 2) (u2.c 2)))
              have HNX2 := Lib.hid (rows4 HNX.out (.int .u64 (F : Nat)) (.slice (u2.a 0) (u2.n 0) (u2.c 0)) (.slice (u2.a 1) (u2.n 1) (u2.c 1)) (.slice (u2.a 2) (u2.n 2) (u2.c 2)))
              clear hO hC HQ c0 c1 c2 c3 ltc HNX HL
              go_upto_region 32 with fail
              clear z0 z1 z2 z3 f0 f1 f2 f3 ltz
              have HSZ : Hid (wc.heap.size ≤ ((((X1.setCell ⟨b24, 0, none⟩ (.int .u64 (F : Nat))).setCell ⟨b24, 1, none⟩ (.slice (u2.a 0) (u2.n 0) (u2.c 0))).setCell ⟨b24, 2, none⟩ (.slice (u2.a 1) (u2.n 1) (u2.c 1))).setCell ⟨b24, 3, none⟩ (.slice (u2.a 2) (u2.n 2) (u2.c 2))).heap.size) := Lib.hid (below4 (HSC.out) (B := b24) HNC.out (.int .u64 (F : Nat)) (.slice (u2.a 0) (u2.n 0) (u2.c 0)) (.slice (u2.a 1) (u2.n 1) (u2.c 1)) (.slice (u2.a 2) (u2.n 2) (u2.c 2))).size
              generalize ((((X1.setCell ⟨b24, 0, none⟩ (.int .u64 (F : Nat))).setCell ⟨b24, 1, none⟩ (.slice (u2.a 0) (u2.n 0) (u2.c 0))).setCell ⟨b24, 2, none⟩ (.slice (u2.a 1) (u2.n 1) (u2.c 1))).setCell ⟨b24, 3, none⟩ (.slice (u2.a 2) (u2.n 2) (u2.c 2))) = X2 at *
              as_aux_lemma =>
                have HO3 : Hid (V3.heap.size ≤ b10 ∧ b10 < b12 ∧ b12 < b14 ∧ b14 < b24 ∧ b24 < wc.heap.size ∧ wc.heap.size ≤ X2.heap.size) := Lib.hid (by
                  have h1 := HA.out.o1
                  have h2 := HA.out.o2
                  have h3 := HA.out.o3
                  have h4 := HN24.out.1
                  have h5 := HLT.out
                  exact ⟨h1, h2, h3, by omega, h5, HSZ.out⟩)
                have HRA := Lib.hid HA.out.rA
                have HRB := Lib.hid HA.out.rB
                have HRC := Lib.hid HA.out.rC
                have HLA := Lib.hid HA.out.lA
                have HLB := Lib.hid HA.out.lB
                have HLC := Lib.hid HA.out.lC
                have OA := Lib.hid HA.out.oA
                have OB := Lib.hid HA.out.oB
                have OC := Lib.hid HA.out.oC
                clear HA HLT
                have ra := HRA.out
                have c0 : X2.cell? ⟨b10, 0, none⟩ = some (.int .u64 (TA.2.1 : Nat)) := ra.cell 0
                have c1 : X2.cell? ⟨b10, 1, none⟩ = some (.slice (sA.a 0) (sA.n 0) (sA.c 0)) := ra.cell 1
                have c2 : X2.cell? ⟨b10, 2, none⟩ = some (.slice (sA.a 1) (sA.n 1) (sA.c 1)) := ra.cell 2
                have c3 : X2.cell? ⟨b10, 3, none⟩ = some (.slice (sA.a 2) (sA.n 2) (sA.c 2)) := ra.cell 3
                have ltc := ra.lt
                have HQ := Lib.hid (Tryd.spoil_any TA.2.1 sA TA.2.2 (V3.heap.size) X2 HLA.out (by have h1 := HO3.out; have h2 := HB.out.size; omega))
                clear ra
                go_wp2_with fail
                refine HQ.out.mono ?_
                rintro e X3 ⟨rfl, hB9, hS9⟩
                have HB := Lib.hid (HB.out.trans (hB9.mono (by have h1 := HO3.out; omega)))
                have HRB := Lib.hid (HRB.out.spk hS9 (fun k9 j9 hk9 e9 => by have h1 := HO3.out; have h2 := OA.out k9 j9 hk9 e9; omega))
                have HLB := Lib.hid (HLB.out.spk hS9 (fun k9 j9 hk9 e9 => by have h1 := HO3.out; have h2 := OA.out k9 j9 hk9 e9; omega))
                have HRC := Lib.hid (HRC.out.spk hS9 (fun k9 j9 hk9 e9 => by have h1 := HO3.out; have h2 := OA.out k9 j9 hk9 e9; omega))
                have HLC := Lib.hid (HLC.out.spk hS9 (fun k9 j9 hk9 e9 => by have h1 := HO3.out; have h2 := OA.out k9 j9 hk9 e9; omega))
                have HNX2 := Lib.hid (HNX2.out.spk hS9 (fun k9 j9 hk9 e9 => by have h1 := HO3.out; have h2 := OA.out k9 j9 hk9 e9; omega))
                have HLO := Lib.hid (HLO.out.spk hS9 (fun k9 j9 hk9 e9 => by have h1 := HO3.out; have h2 := OA.out k9 j9 hk9 e9; omega))
                have HS3 := Lib.hid hS9.1
                clear hB9 hS9 HQ c0 c1 c2 c3 ltc
                have ra := HRB.out
                have c0 : X3.cell? ⟨b12, 0, none⟩ = some (.int .u64 (TB.2.1 : Nat)) := ra.cell 0
                have c1 : X3.cell? ⟨b12, 1, none⟩ = some (.slice (sB.a 0) (sB.n 0) (sB.c 0)) := ra.cell 1
                have c2 : X3.cell? ⟨b12, 2, none⟩ = some (.slice (sB.a 1) (sB.n 1) (sB.c 1)) := ra.cell 2
                have c3 : X3.cell? ⟨b12, 3, none⟩ = some (.slice (sB.a 2) (sB.n 2) (sB.c 2)) := ra.cell 3
                have ltc := ra.lt
                have HQ := Lib.hid (Tryd.spoil_any TB.2.1 sB TB.2.2 (b10 + 1) X3 HLB.out (by have h1 := HO3.out; have h2 := HS3.out; omega))
                clear ra
                go_wp2_with fail
                refine HQ.out.mono ?_
                rintro e X4 ⟨rfl, hB9, hS9⟩
                have HB := Lib.hid (HB.out.trans (hB9.mono (by have h1 := HO3.out; omega)))
                have HRC := Lib.hid (HRC.out.spk hS9 (fun k9 j9 hk9 e9 => by have h1 := HO3.out; have h2 := OB.out k9 j9 hk9 e9; omega))
                have HLC := Lib.hid (HLC.out.spk hS9 (fun k9 j9 hk9 e9 => by have h1 := HO3.out; have h2 := OB.out k9 j9 hk9 e9; omega))
                have HNX2 := Lib.hid (HNX2.out.spk hS9 (fun k9 j9 hk9 e9 => by have h1 := HO3.out; have h2 := OB.out k9 j9 hk9 e9; omega))
                have HLO := Lib.hid (HLO.out.spk hS9 (fun k9 j9 hk9 e9 => by have h1 := HO3.out; have h2 := OB.out k9 j9 hk9 e9; omega))
                have HS4 := Lib.hid (Nat.le_trans HS3.out hS9.1)
                clear hB9 hS9 HQ c0 c1 c2 c3 ltc
                have ra := HRC.out
                have c0 : X4.cell? ⟨b14, 0, none⟩ = some (.int .u64 (TC.2.1 : Nat)) := ra.cell 0
                have c1 : X4.cell? ⟨b14, 1, none⟩ = some (.slice (sC.a 0) (sC.n 0) (sC.c 0)) := ra.cell 1
                have c2 : X4.cell? ⟨b14, 2, none⟩ = some (.slice (sC.a 1) (sC.n 1) (sC.c 1)) := ra.cell 2
                have c3 : X4.cell? ⟨b14, 3, none⟩ = some (.slice (sC.a 2) (sC.n 2) (sC.c 2)) := ra.cell 3
                have ltc := ra.lt
                have HQ := Lib.hid (Tryd.spoil_any TC.2.1 sC TC.2.2 (b12 + 1) X4 HLC.out (by have h1 := HO3.out; have h2 := HS4.out; omega))
                clear ra
                go_wp2_with fail
                refine HQ.out.mono ?_
                rintro e X5 ⟨rfl, hB9, hS9⟩
                have HB := Lib.hid (HB.out.trans (hB9.mono (by have h1 := HO3.out; omega)))
                have HNX2 := Lib.hid (HNX2.out.spk hS9 (fun k9 j9 hk9 e9 => by have h1 := HO3.out; have h2 := OC.out k9 j9 hk9 e9; omega))
                have HLO := Lib.hid (HLO.out.spk hS9 (fun k9 j9 hk9 e9 => by have h1 := HO3.out; have h2 := OC.out k9 j9 hk9 e9; omega))
                clear hB9 hS9 HQ c0 c1 c2 c3 ltc
                have hbs := HBs.out.below HB.out
                have HQ := Tryd.refSame_any E2 E2 s2 s9 r2 r2 X5 hbs.sp.hl hbs.h9 (fun k9 hk9 => ⟨by rw [(hbs.sp.hl.len k9 hk9).1]; exact Nat.le_trans (own_le hbs.sp.own k9 hk9) (by decide), by rw [(hbs.h9.len k9 hk9).1]; exact Nat.le_trans (own_le hbs.sp.own k9 hk9) (by decide)⟩)
                rw [show sameB E2 r2 E2 r2 = true from sameB_iff.2 ⟨rfl, rfl, rfl, rfl⟩] at HQ
                have HQ := Lib.hid HQ
                have ra := hbs.sp.x5
                have rb := hbs.r9
                have c0 : X5.cell? ⟨b5, 0, none⟩ = some (.int .u64 (E2 : Nat)) := ra.cell 0
                have c1 : X5.cell? ⟨b5, 1, none⟩ = some (.slice (s2.a 0) (s2.n 0) (s2.c 0)) := ra.cell 1
                have c2 : X5.cell? ⟨b5, 2, none⟩ = some (.slice (s2.a 1) (s2.n 1) (s2.c 1)) := ra.cell 2
                have c3 : X5.cell? ⟨b5, 3, none⟩ = some (.slice (s2.a 2) (s2.n 2) (s2.c 2)) := ra.cell 3
                have d0 : X5.cell? ⟨b9, 0, none⟩ = some (.int .u64 (E2 : Nat)) := rb.cell 0
                have d1 : X5.cell? ⟨b9, 1, none⟩ = some (.slice (s9.a 0) (s9.n 0) (s9.c 0)) := rb.cell 1
                have d2 : X5.cell? ⟨b9, 2, none⟩ = some (.slice (s9.a 1) (s9.n 1) (s9.c 1)) := rb.cell 2
                have d3 : X5.cell? ⟨b9, 3, none⟩ = some (.slice (s9.a 2) (s9.n 2) (s9.c 2)) := rb.cell 3
                have ltc := ra.lt
                have ltd := rb.lt
                clear ra rb hbs
                go_wp2_with fail
                refine HQ.out.mono ?_
                rintro e X6 ⟨rfl, hC⟩
                have hbs := (HBs.out.below (HB.out.trans (hC.mono HB.out.size))).sp
                have hnx := HNX2.out.below hC HNX2.out.lt
                have hlo := HLO.out.below hC
                clear c0 c1 c2 c3 d0 d1 d2 d3 ltc ltd
                have HX9 := Lib.hid (hbs.next hlo.at (own_own v) HRV.out HF.out)
                have hx5 := hbs.x5
                have c0 : X6.cell? ⟨b24, 0, none⟩ = some (.int .u64 (F : Nat)) := hnx.cell 0
                have c1 : X6.cell? ⟨b24, 1, none⟩ = some (.slice (u2.a 0) (u2.n 0) (u2.c 0)) := hnx.cell 1
                have c2 : X6.cell? ⟨b24, 2, none⟩ = some (.slice (u2.a 1) (u2.n 1) (u2.c 1)) := hnx.cell 2
                have c3 : X6.cell? ⟨b24, 3, none⟩ = some (.slice (u2.a 2) (u2.n 2) (u2.c 2)) := hnx.cell 3
                have ltc := hnx.lt
                have z0 : X6.cell? ⟨b5, 0, none⟩ = some (.int .u64 (E2 : Nat)) := hx5.cell 0
                have f0 := hx5.frozen 0
                have z1 : X6.cell? ⟨b5, 1, none⟩ = some (.slice (s2.a 0) (s2.n 0) (s2.c 0)) := hx5.cell 1
                have f1 := hx5.frozen 1
                have z2 : X6.cell? ⟨b5, 2, none⟩ = some (.slice (s2.a 1) (s2.n 1) (s2.c 1)) := hx5.cell 2
                have f2 := hx5.frozen 2
                have z3 : X6.cell? ⟨b5, 3, none⟩ = some (.slice (s2.a 2) (s2.n 2) (s2.c 2)) := hx5.cell 3
                have f3 := hx5.frozen 3
                have ltz := hx5.lt
                have hm20 := HM20.out
                clear hbs hnx hlo hC hx5 HQ HNX2 HLO HB
                go_wp2_with fail
                go_roundg (gk - 1)
                case measure => omega
                case rel => exact ⟨k + 1, F, u2, ownR v, by omega, by omega, by go_num, HX9⟩
    · have hki : ¬ (k : Int) < (m : Int) := by omega
      have HQ := Lib.hid (Tryd.own_any E s r wr hX.out.hx)
      have hb1 := hX.out.x1
      have c0 : wr.cell? ⟨b1, 0, none⟩ = some (.int .u64 (E : Nat)) := hb1.cell 0
      have c1 : wr.cell? ⟨b1, 1, none⟩ = some (.slice (s.a 0) (s.n 0) (s.c 0)) := hb1.cell 1
      have c2 : wr.cell? ⟨b1, 2, none⟩ = some (.slice (s.a 1) (s.n 1) (s.c 1)) := hb1.cell 2
      have c3 : wr.cell? ⟨b1, 3, none⟩ = some (.slice (s.a 2) (s.n 2) (s.c 2)) := hb1.cell 3
      have lt1 := hb1.lt
      clear hb1
      go_wp2_with fail
      refine HQ.out.mono ?_
      rintro e X1 ⟨sn, rfl, hO, hC⟩
      have HX := Lib.hid (hX.out.below hC)
      obtain ⟨T, hT⟩ : ∃ T, T = tryL E (ownR r) (runL E (ownR r) ps2) := ⟨_, rfl⟩
      have HQ := Lib.hid (Tryd.Run_any E sn (ownR r) a6 m c6 ps2 X1 hO.at HE.out rfl HX.out.st (by have := HM20.out; omega))
      rw [← hT] at HQ
      have HT := Lib.hid hT
      have HPS : Hid (ps2.length ≤ 20) := Lib.hid (by have h1 := (pAt_len HX.out.st).1; have h2 := HM20.out; omega)
      clear hT hX hO hC hki c0 c1 c2 c3 lt1
      go_wp2_with fail
      refine HQ.out.mono ?_
      rintro e X2 ⟨⟨sT, vT, rfl, hl, hv⟩, hC⟩
      obtain ⟨aT, cT, rfl, _⟩ := hv.form
      obtain ⟨nT, hnT⟩ : ∃ n, n = (T.2.2 3).length := ⟨_, rfl⟩
      rw [← hnT] at hv ⊢
      obtain ⟨b25, hb25⟩ : ∃ b, b = X2.heap.size := ⟨_, rfl⟩
      obtain ⟨X3, hX3⟩ : ∃ X, X = ((X2.alloc (.cells #[.int .u64 (T.2.1 : Nat), .slice (sT.a 0) (sT.n 0) (sT.c 0), .slice (sT.a 1) (sT.n 1) (sT.c 1), .slice (sT.a 2) (sT.n 2) (sT.c 2)] 26)).alloc (.cells #[.int .u64 0, .slice none 0 0, .slice none 0 0, .slice none 0 0] 26)) := ⟨_, rfl⟩
      have hal : Below X2.heap.size X2 X3 := by rw [hX3]; exact (Rows8.newB).alloc (by simp) _
      have HX := Lib.hid (HX.out.below hC)
      have HB25 : Hid (w.heap.size ≤ b25) := Lib.hid (by rw [hb25]; exact HX.out.bl.size)
      have HX := Lib.hid (HX.out.below hal)
      have HLT := Lib.hid (hl.at.below hal)
      have HVT := Lib.hid (RowAt.below hv.at hal)
      have R25 : Hid (Rows8 X3 b25 26 #[.int .u64 (T.2.1 : Nat), .slice (sT.a 0) (sT.n 0) (sT.c 0), .slice (sT.a 1) (sT.n 1) (sT.c 1), .slice (sT.a 2) (sT.n 2) (sT.c 2)]) := Lib.hid (by rw [hX3, hb25]; exact (Rows8.new _ _ _).alloc _)
      have R28 : Hid (Rows8 X3 (b25 + 1) 26 #[.int .u64 0, .slice none 0 0, .slice none 0 0, .slice none 0 0]) := Lib.hid (by rw [hX3, hb25]; exact rows_new2 _ _ _ _)
      clear hl hv hC hnT HQ hal
      go_upto_region 43 with fail
      rw [← hX3, ← hb25]
      clear hX3 hb25
      have hb1 := HX.out.x1
      have c0 : X3.cell? ⟨b1, 0, none⟩ = some (.int .u64 (E : Nat)) := hb1.cell 0
      have c1 : X3.cell? ⟨b1, 1, none⟩ = some (.slice (s.a 0) (s.n 0) (s.c 0)) := hb1.cell 1
      have c2 : X3.cell? ⟨b1, 2, none⟩ = some (.slice (s.a 1) (s.n 1) (s.c 1)) := hb1.cell 2
      have c3 : X3.cell? ⟨b1, 3, none⟩ = some (.slice (s.a 2) (s.n 2) (s.c 2)) := hb1.cell 3
      have lt1 := hb1.lt
      have HQ := Lib.hid (Tryd.own_any E s r X3 HX.out.hx)
      clear hb1
      go_wp2_with fail
      refine HQ.out.mono ?_
      rintro e X4 ⟨sq, rfl, hO, hC⟩
      have HQ := Tryd.refRight_any E sq (ownR r) X4 hO.at HE.out (fun k9 hk9 => Nat.le_trans (ownR_len r k9 hk9) (by decide))
      rw [HRR.out] at HQ
      have HQ := Lib.hid HQ
      have HX := Lib.hid (HX.out.below hC)
      have R25 := Lib.hid (R25.out.below hC R25.out.lt)
      have R28 := Lib.hid (R28.out.below hC R28.out.lt)
      have HLT := Lib.hid (HLT.out.below hC)
      have HVT := Lib.hid (RowAt.below HVT.out hC)
      clear hO hC c0 c1 c2 c3 lt1
      go_wp2_with fail
      refine HQ.out.mono ?_
      rintro e X5 ⟨rfl, hC⟩
      have HX := Lib.hid (HX.out.below hC)
      have R25 := Lib.hid (R25.out.below hC R25.out.lt)
      have R28 := Lib.hid (R28.out.below hC R28.out.lt)
      have HLT := Lib.hid (HLT.out.below hC)
      have HVT := Lib.hid (RowAt.below HVT.out hC)
      clear hC HQ
      cases rt with
      | false =>
        obtain rfl : T = (240, 0, fun _ => []) := by rw [HT.out]; unfold tryL; rw [HRR.out]; rfl
        as_aux_lemma =>
          have Z25 := R25.out
          have c0 : X5.cell? ⟨b25, 0, none⟩ = some (.int .u64 0) := Z25.cell 0
          have c1 : X5.cell? ⟨b25, 1, none⟩ = some (.slice (sT.a 0) (sT.n 0) (sT.c 0)) := Z25.cell 1
          have c2 : X5.cell? ⟨b25, 2, none⟩ = some (.slice (sT.a 1) (sT.n 1) (sT.c 1)) := Z25.cell 2
          have c3 : X5.cell? ⟨b25, 3, none⟩ = some (.slice (sT.a 2) (sT.n 2) (sT.c 2)) := Z25.cell 3
          have ltc := Z25.lt
          have d0 : X5.cell? ⟨b25 + 1, 0, none⟩ = some (.int .u64 0) := R28.out.cell 0
          have d1 : X5.cell? ⟨b25 + 1, 1, none⟩ = some (.slice none 0 0) := R28.out.cell 1
          have d2 : X5.cell? ⟨b25 + 1, 2, none⟩ = some (.slice none 0 0) := R28.out.cell 2
          have d3 : X5.cell? ⟨b25 + 1, 3, none⟩ = some (.slice none 0 0) := R28.out.cell 3
          have ltd := R28.out.lt
          have hq := Tryd.refSame_any 0 0 sT zLs (fun _ => []) (fun _ => []) X5 HLT.out (z3_at _) (fun k9 hk9 => ⟨by rw [(LAt.len HLT.out k9 hk9).1]; exact Nat.zero_le _, Nat.zero_le _⟩)
          rw [show sameB 0 (fun _ => []) 0 (fun _ => []) = true from sameB_iff.2 ⟨rfl, rfl, rfl, rfl⟩] at hq
          have HQ : Hid (Calls Tryd.prog 12 #[.agg #[.int .u64 0, .slice (sT.a 0) (sT.n 0) (sT.c 0), .slice (sT.a 1) (sT.n 1) (sT.c 1), .slice (sT.a 2) (sT.n 2) (sT.c 2)], .agg #[.int .u64 0, .slice none 0 0, .slice none 0 0, .slice none 0 0]] X5 fun e w' => e = .returned (.bool true) ∧ Below X5.heap.size X5 w') := Lib.hid hq
          clear Z25 hq
          go_wp2_with fail
          refine HQ.out.mono ?_
          rintro e X6 ⟨rfl, hC⟩
          have hv6 := RowAt.below HVT.out hC
          have hn6 : nT = 0 := (pAt_len hv6).1
          have HQ := Lib.hid (Tryd.equalEntry_any aT none nT 0 cT 0 [] [] X6 hv6 (pAt_none _) (by omega) (by omega))
          rw [decide_eq_true (rfl : ([] : List Pr) = [])] at HQ
          have HX := Lib.hid (HX.out.below hC)
          clear hC hv6 hn6 c0 c1 c2 c3 ltc d0 d1 d2 d3 ltd
          go_wp2_with fail
          refine HQ.out.mono ?_
          rintro e X7 ⟨rfl, hC⟩
          have HX := Lib.hid (HX.out.below hC)
          clear hC HQ
          go_wp2_with fail
          go_ret
          exact ⟨rfl, HX.out.bl⟩
      | true =>
        as_aux_lemma =>
          have hb1 := HX.out.x1
          have c0 : X5.cell? ⟨b1, 0, none⟩ = some (.int .u64 (E : Nat)) := hb1.cell 0
          have c1 : X5.cell? ⟨b1, 1, none⟩ = some (.slice (s.a 0) (s.n 0) (s.c 0)) := hb1.cell 1
          have c2 : X5.cell? ⟨b1, 2, none⟩ = some (.slice (s.a 1) (s.n 1) (s.c 1)) := hb1.cell 2
          have c3 : X5.cell? ⟨b1, 3, none⟩ = some (.slice (s.a 2) (s.n 2) (s.c 2)) := hb1.cell 3
          have lt1 := hb1.lt
          have HQ := Lib.hid (Tryd.own_any E s r X5 HX.out.hx)
          clear hb1
          go_wp2_with fail
          refine HQ.out.mono ?_
          rintro e X6 ⟨sr, rfl, hO, hC⟩
          have HX := Lib.hid (HX.out.below hC)
          have R25 := Lib.hid (R25.out.below hC R25.out.lt)
          have R28 := Lib.hid (R28.out.below hC R28.out.lt)
          have HLT := Lib.hid (HLT.out.below hC)
          have HVT := Lib.hid (RowAt.below HVT.out hC)
          have HQ := Tryd.refRun_any E sr (ownR r) a6 m c6 ps2 X6 hO.at HRR.out rfl HX.out.st (by have := HM20.out; omega)
          rw [← HT.out] at HQ
          have HQ := Lib.hid HQ
          clear hO hC c0 c1 c2 c3 lt1
          go_wp2_with fail
          refine HQ.out.mono ?_
          rintro e X7 ⟨⟨sR, vR, rfl, hlR, hvR⟩, hC⟩
          have HX := Lib.hid (HX.out.below hC)
          have R25 := Lib.hid (R25.out.below hC R25.out.lt)
          have R28 := Lib.hid (R28.out.below hC R28.out.lt)
          have HLT := Lib.hid (HLT.out.below hC)
          have HVT := Lib.hid (RowAt.below HVT.out hC)
          obtain ⟨aR, nR, cR, rfl⟩ : ∃ a n c, vR = .slice a n c := by
            obtain ⟨_, aR, cR, e, _⟩ := hvR
            exact ⟨_, _, _, e⟩
          have z0 : X7.cell? ⟨(b25 + 1), 0, none⟩ = some (.int .u64 0) := R28.out.cell 0
          have f0 := R28.out.frozen 0
          have z1 : X7.cell? ⟨(b25 + 1), 1, none⟩ = some (.slice none 0 0) := R28.out.cell 1
          have f1 := R28.out.frozen 1
          have z2 : X7.cell? ⟨(b25 + 1), 2, none⟩ = some (.slice none 0 0) := R28.out.cell 2
          have f2 := R28.out.frozen 2
          have z3 : X7.cell? ⟨(b25 + 1), 3, none⟩ = some (.slice none 0 0) := R28.out.cell 3
          have f3 := R28.out.frozen 3
          have ltz := R28.out.lt
          have HX := Lib.hid (show Below w.heap.size w ((((X7.setCell ⟨(b25 + 1), 0, none⟩ (.int .u64 (T.2.1 : Nat))).setCell ⟨(b25 + 1), 1, none⟩ (.slice (sR.a 0) (sR.n 0) (sR.c 0))).setCell ⟨(b25 + 1), 2, none⟩ (.slice (sR.a 1) (sR.n 1) (sR.c 1))).setCell ⟨(b25 + 1), 3, none⟩ (.slice (sR.a 2) (sR.n 2) (sR.c 2))) from below4 HX.out.bl (B := b25 + 1) (by have := HB25.out; omega) (.int .u64 (T.2.1 : Nat)) (.slice (sR.a 0) (sR.n 0) (sR.c 0)) (.slice (sR.a 1) (sR.n 1) (sR.c 1)) (.slice (sR.a 2) (sR.n 2) (sR.c 2)))
          have HLT := Lib.hid (lat_set4 HLT.out R28.out (.int .u64 (T.2.1 : Nat)) (.slice (sR.a 0) (sR.n 0) (sR.c 0)) (.slice (sR.a 1) (sR.n 1) (sR.c 1)) (.slice (sR.a 2) (sR.n 2) (sR.c 2)))
          have HVT := Lib.hid (pat_set4 HVT.out R28.out (.int .u64 (T.2.1 : Nat)) (.slice (sR.a 0) (sR.n 0) (sR.c 0)) (.slice (sR.a 1) (sR.n 1) (sR.c 1)) (.slice (sR.a 2) (sR.n 2) (sR.c 2)))
          have HLR := Lib.hid (lat_set4 hlR R28.out (.int .u64 (T.2.1 : Nat)) (.slice (sR.a 0) (sR.n 0) (sR.c 0)) (.slice (sR.a 1) (sR.n 1) (sR.c 1)) (.slice (sR.a 2) (sR.n 2) (sR.c 2)))
          have HVR := Lib.hid (pat_set4 hvR R28.out (.int .u64 (T.2.1 : Nat)) (.slice (sR.a 0) (sR.n 0) (sR.c 0)) (.slice (sR.a 1) (sR.n 1) (sR.c 1)) (.slice (sR.a 2) (sR.n 2) (sR.c 2)))
          have R25 := Lib.hid (R25.out.oth4 (B := b25 + 1) (by omega) (.int .u64 (T.2.1 : Nat)) (.slice (sR.a 0) (sR.n 0) (sR.c 0)) (.slice (sR.a 1) (sR.n 1) (sR.c 1)) (.slice (sR.a 2) (sR.n 2) (sR.c 2)))
          have R28 := Lib.hid (rows4 R28.out (.int .u64 (T.2.1 : Nat)) (.slice (sR.a 0) (sR.n 0) (sR.c 0)) (.slice (sR.a 1) (sR.n 1) (sR.c 1)) (.slice (sR.a 2) (sR.n 2) (sR.c 2)))
          clear hC hlR hvR HQ
          go_upto_region 45 with fail
          clear z0 z1 z2 z3 f0 f1 f2 f3 ltz
          generalize ((((X7.setCell ⟨(b25 + 1), 0, none⟩ (.int .u64 (T.2.1 : Nat))).setCell ⟨(b25 + 1), 1, none⟩ (.slice (sR.a 0) (sR.n 0) (sR.c 0))).setCell ⟨(b25 + 1), 2, none⟩ (.slice (sR.a 1) (sR.n 1) (sR.c 1))).setCell ⟨(b25 + 1), 3, none⟩ (.slice (sR.a 2) (sR.n 2) (sR.c 2))) = X8 at *
          as_aux_lemma =>
            have hl9 : ∀ k9, k9 < 4 → (T.2.2 k9).length ≤ 56 := by
              rw [HT.out]
              exact fun k9 hk9 => tryRun_len (own_own r) HPS.out k9 hk9
            have HQ := Tryd.refSame_any T.2.1 T.2.1 sT sR T.2.2 T.2.2 X8 HLT.out HLR.out (fun k9 hk9 => ⟨by rw [(LAt.len HLT.out k9 hk9).1]; exact Nat.le_trans (hl9 k9 (by omega)) (by decide), by rw [(LAt.len HLR.out k9 hk9).1]; exact Nat.le_trans (hl9 k9 (by omega)) (by decide)⟩)
            rw [show sameB T.2.1 T.2.2 T.2.1 T.2.2 = true from sameB_iff.2 ⟨rfl, rfl, rfl, rfl⟩] at HQ
            have HQ := Lib.hid HQ
            have HN9 := Lib.hid (hl9 3 (by omega))
            have ra := R25.out
            have rb := R28.out
            have c0 : X8.cell? ⟨b25, 0, none⟩ = some (.int .u64 (T.2.1 : Nat)) := ra.cell 0
            have c1 : X8.cell? ⟨b25, 1, none⟩ = some (.slice (sT.a 0) (sT.n 0) (sT.c 0)) := ra.cell 1
            have c2 : X8.cell? ⟨b25, 2, none⟩ = some (.slice (sT.a 1) (sT.n 1) (sT.c 1)) := ra.cell 2
            have c3 : X8.cell? ⟨b25, 3, none⟩ = some (.slice (sT.a 2) (sT.n 2) (sT.c 2)) := ra.cell 3
            have d0 : X8.cell? ⟨(b25 + 1), 0, none⟩ = some (.int .u64 (T.2.1 : Nat)) := rb.cell 0
            have d1 : X8.cell? ⟨(b25 + 1), 1, none⟩ = some (.slice (sR.a 0) (sR.n 0) (sR.c 0)) := rb.cell 1
            have d2 : X8.cell? ⟨(b25 + 1), 2, none⟩ = some (.slice (sR.a 1) (sR.n 1) (sR.c 1)) := rb.cell 2
            have d3 : X8.cell? ⟨(b25 + 1), 3, none⟩ = some (.slice (sR.a 2) (sR.n 2) (sR.c 2)) := rb.cell 3
            have ltc := ra.lt
            have ltd := rb.lt
            have hTT : (T.1 == T.1) = true := by simp
            clear hl9 ra rb
            go_wp2_with fail
            refine HQ.out.mono ?_
            rintro e X9 ⟨rfl, hC⟩
            have hv6 := RowAt.below HVT.out hC
            have hv7 := RowAt.below HVR.out hC
            have HQ := Lib.hid (Tryd.equalEntry_any aT aR nT nR cT cR (T.2.2 3) (T.2.2 3) X9 hv6 hv7 (by have h1 := (pAt_len hv6).1; have h2 := HN9.out; omega) (by have h1 := (pAt_len hv7).1; have h2 := HN9.out; omega))
            rw [decide_eq_true (rfl : T.2.2 3 = T.2.2 3)] at HQ
            have HX := Lib.hid (HX.out.trans (hC.mono HX.out.size))
            clear hC hv6 hv7 c0 c1 c2 c3 ltc d0 d1 d2 d3 ltd
            go_wp2_with fail
            refine HQ.out.mono ?_
            rintro e X10 ⟨rfl, hC⟩
            have HX := Lib.hid (HX.out.trans (hC.mono HX.out.size))
            clear hC HQ
            go_wp2_with fail
            go_ret
            exact ⟨rfl, HX.out⟩
theorem own : ownKnob Tryd.prog.godebug = none := by kernel_rfl
theorem laidOut : laidOutB Tryd.prog = true := by kernel_rfl
set_option maxRecDepth 100000 in
theorem lifted (os : Os) (started : os.Started) (H : Type) (enc : TypeId × Value → H) :
    ReturnsInHanded {} Tryd.checked os 4 .any (fun w args => (Rows.limboStepsSpec.pre enc Tryd.prog Tryd.f4 [] false w args ∧ laidMetH Tryd.prog [("honeycomb/honeycomblaw14.on", Rows.laid_honeycomb_honeycomblaw14_on)] w) ∧ sizedMet enc Tryd.prog Tryd.f4 (OpenSpec.ofChange Rows.limboStepsSpec) false w args)
      (Rows.limboStepsSpec.post enc Tryd.prog Tryd.f4 false true false false) := by
  refine returnsInHanded_of_change_and (C := Tryd.checked) (X := fun w _ => laidMetH Tryd.prog [("honeycomb/honeycomblaw14.on", Rows.laid_honeycomb_honeycomblaw14_on)] w) (fun _ _ _ hh h => h.of_heap hh) own started (by kernel_rfl) Tryd.func4
    (ChangeSpec.witness_shaped (enc := enc) (C := Tryd.checked) (os := os) (X := fun w _ => laidMetH Tryd.prog [("honeycomb/honeycomblaw14.on", Rows.laid_honeycomb_honeycomblaw14_on)] w) false (World.laidAll Tryd.prog os [("honeycomb/honeycomblaw14.on", Rows.laid_honeycomb_honeycomblaw14_on)]) #[.agg #[.int .u64 0, .slice none 0 0, .slice none 0 0, .slice none 0 0], .slice none 0 0] 8 (World.laidAll_os _ _ _)
      (World.shaped_of_ZipB (by kernel_rfl) (by kernel_rfl)) (by kernel_rfl) (by kernel_rfl) (by kernel_rfl)
      (by rw [MakeChecks.laidMetH_plain _ _ _ (by kernel_rfl)]; exact laidMet_laidAll _ (by kernel_rfl) (by kernel_rfl))) ?_
  intro W base args ds gs before hval0 hW _ _ hL _
  have hval : ∀ (j : Nat) t v, Tryd.f4.params[j]? = some t → args[j]? = some v → Value.okWide Tryd.prog W .any base t v := hval0
  have hW' := hW
  obtain ⟨p, q, hA0, hV, rfl, _, _⟩ := hW
  have hA : DataW.TrodAll enc Tryd.prog W 0 (fun _ => true) true Tryd.f4.params.toList args.toList ds p := hA0
  rw [Tryd.params4] at hA hval
  have hT := of_laid hL
  obtain ⟨v0, vs0, d0, ds0, p0, q0, hargs, rfl, rfl, h0, r0⟩ := trodAll_cons hA
  obtain ⟨v1, vs1, d1, ds1, p1, q1, rfl, rfl, rfl, h1, r1⟩ := trodAll_cons r0
  obtain ⟨rfl, rfl, rfl⟩ := trodAll_nil r1
  obtain rfl : args = #[v0, v1] := by cases args; simp_all
  obtain ⟨rfl, rfl⟩ := trodVars_none hV
  have k0 := h0
  have lt0 : ∀ x ∈ p0, x.block < W.heap.size := by obtain ⟨m, hm⟩ := k0; exact DataW.trod_lt m _ _ _ hm
  obtain ⟨a0, rfl, w0, u0, t0⟩ := open_limbo (hval 0 26 v0 rfl rfl) h0
  obtain ⟨a1, len1, cap1, rfl⟩ := okWide_slice Tryd.underlying23 (hval 1 23 v1 rfl rfl)
  have k1 := h1
  have lt1 : ∀ x ∈ p1, x.block < W.heap.size := by obtain ⟨m, hm⟩ := k1; exact DataW.trod_lt m _ _ _ hm
  obtain ⟨z1, n1, w1⟩ : ∃ zs, len1 = zs.length ∧ PAt W (.slice a1 len1 cap1) zs := by
    obtain ⟨fuel, hf⟩ := h1
    exact open_ents hf
  clear hA0 hval0
  refine (walk a0.e a0.s a0.r a1 len1 cap1 z1 W hT w0 u0 t0 n1 w1).mono fun e W' ⟨he, bel⟩ => ?_
  subst he
  exact ⟨_, rfl, _, _, _, [], _, [], hW', trodAll_mk1 (shut_bool Tryd.underlying4 _), (trodAll_cons_mk (Below.trod laidOut (by kernel_rfl) (of_decide_eq_true (by kernel_rfl)) k0 bel lt0) (trodAll_cons_mk (Below.trod laidOut (by kernel_rfl) (of_decide_eq_true (by kernel_rfl)) k1 bel lt1) trodAll_mk0)), rfl, bel.frame _, fun h => by cases h⟩
theorem said : Rows.LimboStepsSaid :=
  OpenClaim.holds_of_wide 4 Tryd.f4 rfl rfl rfl rfl rfl rfl rfl ⟨rfl, rfl, rfl, rfl, rfl⟩ rfl rfl rfl rfl rfl (by kernel_rfl) Tryd.func4 (by kernel_rfl)
    (of_decide_eq_true (by kernel_rfl)) (by unfold Func.isWrapper; first | (rw [if_pos (by decide +kernel)]; kernel_rfl) | (rw [if_neg (by decide +kernel)]; exact ⟨rfl, rfl⟩))
    (fun os started H enc _ => lifted os started H enc)
theorem proved : Rows.LimboStepsCardSaid :=
  Claim7.holds_tied_plain_at .later [] [.data] true _ true said (fun _ h => by cases h) (by kernel_rfl) (fun _ h => by cases h) limboSteps_row_tie rfl ⟨rfl, rfl⟩ (by kernel_rfl) rfl
    (fun f fn hf hfn => by
      obtain rfl : f = 4 := Option.some.inj ((show Tryd.prog.funcNamed "honeycomb/honeycomblaw14.LimboSteps" = some 4 by kernel_rfl).symm.trans hf) |>.symm
      obtain rfl : fn = Tryd.f4 := (Option.some.inj (Tryd.func4.symm.trans hfn)).symm
      exact ⟨by kernel_rfl, fun j t ht => by
        rw [Tryd.params4] at ht
        have hm : t ∈ [26, 23] := by simpa using Array.mem_of_getElem? ht
        have hall : ([26, 23].all fun u => !Tryd.prog.wantsStandIn u) = true := by kernel_rfl
        exact (show Tryd.prog.wantsStandIn t = false by simpa using List.all_eq_true.1 hall t hm)⟩)
    (by kernel_rfl)
end Go.Proofs.YtghnfiegihfdnaaDoor.limboSteps
