/- Proved: for every arena and number, honeycomblaw11.ArenaBack returns true, and its arguments read as they did; no condition. -/
import Derived.Test.YteldjolofglnpaaAt
namespace Go.Proofs
set_option maxRecDepth 100000
open Go.RowKit Go.Shelf
attribute [local go_sem] Oper.semAt_some

set_option maxHeartbeats 8000000 in
theorem Try.back_err (a : Option Addr) (n c : Nat) (x : List Pr) (many E : Int) (F0 F1 F2 : Nat) (w : World) (hI : PAt w (.slice a n c) x) (hT : takT (x.take 130) many = (E, [], [])) (h0 : E ≠ 0) (h6 : E = 6 → (F0 : Int) < many)
    (hF0 : (if rightA (x.take 130) then cnt (x.take 130) 0 else 0) = F0) (hF1 : (if rightA (x.take 130) then cnt (x.take 130) 1 else 0) = F1) (hF2 : (if rightA (x.take 130) then cnt (x.take 130) 2 else 0) = F2) :
    Calls Try.prog 6 #[.agg #[.slice a n c], .int .i64 many] w fun e w' => e = .returned (.bool true) ∧ Below w.heap.size w w' := by
  have HWk := fun W => Lib.hid (Try.wakes_any W)
  have HOw := fun (W : World) (h : PAt W (.slice a n c) x) => Lib.hid (Try.own_any a n c x W h)
  obtain ⟨L, hL⟩ : ∃ L, L = x.take 130 := ⟨_, rfl⟩
  rw [← hL] at HOw hT hF0 hF1 hF2
  clear hL
  have HCt := fun (W : World) (a : Option Addr) (n c : Nat) (h : PAt W (.slice a n c) L) => Lib.hid (Try.Counts_any a n c L W h)
  have HTk := fun (W : World) (a : Option Addr) (n c : Nat) (h : PAt W (.slice a n c) L) => Lib.hid (Try.Take_any a n c L many W h)
  rw [hF0, hF1, hF2] at HCt
  rw [hT] at HTk
  clear hT hF0 hF1 hF2
  have hBx : Below w.heap.size w (w.alloc (.cells #[.slice a n c] 24)) := Rows8.newB
  have RX := Lib.hid (Rows8.new w 24 #[.slice a n c])
  have B0 := Lib.hid hBx
  have HI := Lib.hid hI
  clear hBx hI
  go_enter Try.func6, Try.ntmps6
  go_wp2_with fail
  generalize (w.alloc (.cells #[.slice a n c] 24)) = u0 at *
  refine (HWk _).out.mono ?_
  rintro e u1 ⟨rfl, hB⟩
  have RX := Lib.hid (RX.out.below hB RX.out.lt)
  have B0 := Lib.hid (B0.out.trans (hB.mono B0.out.size))
  clear hB HWk
  go_upto_region 3 with fail
  have cb0 : u1.cell? ⟨w.heap.size, 0, none⟩ = some (.slice a n c) := RX.out.cell 0
  have lb0 := RX.out.lt
  have HCL := HOw u1 (PAt.below HI.out B0.out)
  go_wp2_with fail
  refine HCL.out.mono ?_
  rintro e u2 ⟨a5, n5, c5, rfl, h130, hO, hB⟩
  have hal : Below u2.heap.size u2 (u2.alloc (.cells #[.slice a5 n5 c5] 24)) := Rows8.newB
  have hBB := hB.trans (hal.mono hB.size)
  have o1 := (hO.mono B0.out.size).below hal (Nat.le_refl _)
  have RX := Lib.hid (RX.out.below hBB RX.out.lt)
  have B0 := Lib.hid (B0.out.trans (hBB.mono B0.out.size))
  have RA := Lib.hid (Rows8.new u2 24 #[.slice a5 n5 c5])
  have OA := Lib.hid o1
  clear hal hBB o1 hO hB HCL HOw RX HI h130 cb0 lb0
  go_upto_region 4 with fail
  generalize hu3 : (u2.alloc (.cells #[.slice a5 n5 c5] 24)) = u3 at *
  clear hu3
  have cb0 : u3.cell? ⟨u2.heap.size, 0, none⟩ = some (.slice a5 n5 c5) := RA.out.cell 0
  have lb0 := RA.out.lt
  have HCL := HCt u3 _ _ _ OA.out.at
  go_wp2_with fail
  refine HCL.out.mono ?_
  rintro e u4 ⟨rfl, hB⟩
  have RA := Lib.hid (RA.out.below hB RA.out.lt)
  have OA := Lib.hid (OwnsP.below OA.out hB (Nat.le_refl _))
  have B0 := Lib.hid (B0.out.trans (hB.mono B0.out.size))
  clear hB HCL cb0 lb0
  go_upto_region 5 with fail
  have cb0 : u4.cell? ⟨u2.heap.size, 0, none⟩ = some (.slice a5 n5 c5) := RA.out.cell 0
  have lb0 := RA.out.lt
  have HCL := HTk u4 _ _ _ OA.out.at
  go_wp2_with fail
  refine HCL.out.mono ?_
  rintro e u5 ⟨v, u, rfl, hO, hE, hB⟩
  obtain ⟨a9, c9, hv⟩ := hO.form
  dsimp only [List.length_nil] at hv
  subst hv
  obtain ⟨e9, f9, hu⟩ := hE.form
  dsimp only [List.length_nil] at hu
  subst hu
  have hal : Below u5.heap.size u5 (u5.alloc (.cells #[.slice a9 0 c9] 24)) := Rows8.newB
  have hBB := hB.trans (hal.mono hB.size)
  have o1 := (hO.mono B0.out.size).below hal (Nat.le_refl _)
  have RA := Lib.hid (RA.out.below hBB RA.out.lt)
  have OA := Lib.hid (OwnsP.below OA.out hBB (Nat.le_refl _))
  have B0 := Lib.hid (B0.out.trans (hBB.mono B0.out.size))
  have RT := Lib.hid (Rows8.new u5 24 #[.slice a9 0 c9])
  have OT := Lib.hid o1
  clear hal hBB o1 hO hE hB HCL cb0 lb0 HCt HTk OA RA
  go_upto_region 6 with fail
  generalize hu6 : (u5.alloc (.cells #[.slice a9 0 c9] 24)) = u6 at *
  clear hu6 OT
  have hn0 : (E != 0) = true := by simpa using h0
  have cb0 : u6.cell? ⟨u5.heap.size, 0, none⟩ = some (.slice a9 0 c9) := RT.out.cell 0
  have lb0 := RT.out.lt
  by_cases h6' : E = 6
  · have hlt := h6 h6'
    subst h6'
    clear h6 h0
    have hq : decide ((F0 : Int) < many) = true := by simpa using hlt
    go_wp2_with fail
    go_ret
    exact ⟨by simp, B0.out⟩
  · have hn6 : (E != 6) = true := by simpa using h6'
    clear h6 h0
    go_wp2_with fail
    go_ret
    exact ⟨by simp, B0.out⟩

set_option maxHeartbeats 8000000 in
theorem Try.back_ok (a : Option Addr) (n c : Nat) (x : List Pr) (M F0 F1 F2 : Nat) (w : World) (hI : PAt w (.slice a n c) x) (hr : rightA (x.take 130) = true) (hM : M ≤ F0)
    (hF0 : cnt (x.take 130) 0 = F0) (hF1 : cnt (x.take 130) 1 = F1) (hF2 : cnt (x.take 130) 2 = F2) :
    Calls Try.prog 6 #[.agg #[.slice a n c], .int .i64 (M : Nat)] w fun e w' => e = .returned (.bool true) ∧ Below w.heap.size w w' := by
  obtain ⟨many, hmany⟩ : ∃ many : Int, many = (M : Nat) := ⟨_, rfl⟩
  have HWk := fun W => Lib.hid (Try.wakes_any W)
  have HOw := fun (W : World) (h : PAt W (.slice a n c) x) => Lib.hid (Try.own_any a n c x W h)
  obtain ⟨L, hL⟩ : ∃ L, L = x.take 130 := ⟨_, rfl⟩
  rw [← hL] at HOw hr hF0 hF1 hF2
  clear hL
  have HCt := fun (W : World) (a : Option Addr) (n c : Nat) (h : PAt W (.slice a n c) L) => Lib.hid (Try.Counts_any a n c L W h)
  have HTk := fun (W : World) (a : Option Addr) (n c : Nat) (h : PAt W (.slice a n c) L) => Lib.hid (Try.Take_any a n c L many W h)
  have hq : (fun (W : World) (a : Option Addr) (n c : Nat) => True) = fun _ _ _ _ => True := rfl
  clear hq
  have hmT : takT L many = (0, takeL L M, (ents L 0).take M) := by
    unfold takT triR takeR
    rw [hr, hmany, if_neg (by omega : ¬ ((M : Nat) : Int) < 0), Int.toNat_natCast, hF0, if_pos hM]
    rfl
  rw [hmT] at HTk
  have HCt2 : ∀ (W : World) (a : Option Addr) (n c : Nat), PAt W (.slice a n c) L → Hid (Calls Try.prog 16 #[.agg #[.slice a n c]] W fun r w' => r = .returned (.tuple #[.int .i64 (F0 : Nat), .int .i64 (F1 : Nat), .int .i64 (F2 : Nat)]) ∧ Below W.heap.size W w') := fun W a n c h => by
    have h1 := HCt W a n c h
    rw [hr, if_pos rfl, if_pos rfl, if_pos rfl, hF0, hF1, hF2] at h1
    exact h1
  obtain ⟨hTc0, hTc1, hTc2⟩ := takeL_cnt L M (by omega)
  have hTr := takeL_right hr M
  obtain ⟨r, hrt, hrr, hr0, hr1, hr2, hall⟩ := back_all hr (M := M) (by omega)
  rw [hF0] at hTc0 hr0
  rw [hF1] at hTc1 hr1
  rw [hF2] at hTc2 hr2
  rw [hF0, hF1, hF2] at hall
  have hel : ((ents L 0).take M).length = M := by rw [List.length_take, ents_length]; omega
  have hMM : M ≤ 130 := by
    have := cnt_le L 0
    have := (rightA_iff.1 hr).1
    omega
  have hF130 : F0 ≤ 130 ∧ F1 ≤ 130 ∧ F2 ≤ 130 := by
    have := cnt_le L 0
    have := cnt_le L 1
    have := cnt_le L 2
    have := (rightA_iff.1 hr).1
    omega
  generalize takeL L M = T at *
  generalize hes : (ents L 0).take M = es at *
  have HCtT : ∀ (W : World) (a : Option Addr) (n c : Nat), PAt W (.slice a n c) T → Hid (Calls Try.prog 16 #[.agg #[.slice a n c]] W fun r w' => r = .returned (.tuple #[.int .i64 ((F0 : Int) - (M : Int)), .int .i64 ((F1 : Int) + (M : Int)), .int .i64 (F2 : Nat)]) ∧ Below W.heap.size W w') := fun W a n c h => by
    have h1 := Try.Counts_any a n c T W h
    rw [hTr, if_pos rfl, if_pos rfl, if_pos rfl, hTc0, hTc1, hTc2, Int.ofNat_sub hM, Int.natCast_add] at h1
    exact Lib.hid h1
  have HCtR : ∀ (W : World) (a : Option Addr) (n c : Nat), PAt W (.slice a n c) r → Hid (Calls Try.prog 16 #[.agg #[.slice a n c]] W fun r w' => r = .returned (.tuple #[.int .i64 ((F0 : Int) - (M : Int)), .int .i64 (F1 : Nat), .int .i64 ((F2 : Int) + (M : Int))]) ∧ Below W.heap.size W w') := fun W a n c h => by
    have h1 := Try.Counts_any a n c r W h
    rw [hrr, if_pos rfl, if_pos rfl, if_pos rfl, hr0, hr1, hr2, Int.ofNat_sub hM, Int.natCast_add] at h1
    exact Lib.hid h1
  have HRt : ∀ (W : World) (a : Option Addr) (n c : Nat), PAt W (.slice a n c) T → ∀ (b : Option Addr) (d : Nat), PAt W (.slice b M d) es → Hid (Calls Try.prog 24 #[.agg #[.slice a n c], .slice b M d] W (ArgQ W (0, r, []))) := fun W a n c h b d h2 => by
    have h1 := Try.Retire_any a n c T b M d es (by omega) W h h2
    rw [hrt] at h1
    exact Lib.hid h1
  have HALL := Lib.hid hall
  have HGv := fun (g : List Pr) (hg : givT r es = (0, g, [])) (W : World) (a : Option Addr) (n c : Nat) (h : PAt W (.slice a n c) r) (b : Option Addr) (d : Nat) (h2 : PAt W (.slice b M d) es) => Lib.hid (show Calls _ _ _ W (ArgQ W (0, g, [])) from by have h1 := Try.Give_any a n c r b M d es (by omega) W h h2; rw [hg] at h1; exact h1)
  have HGw := fun (g : List Pr) (hg : givT T es = (0, g, [])) (W : World) (a : Option Addr) (n c : Nat) (h : PAt W (.slice a n c) T) (b : Option Addr) (d : Nat) (h2 : PAt W (.slice b M d) es) => Lib.hid (show Calls _ _ _ W (ArgQ W (0, g, [])) from by have h1 := Try.Give_any a n c T b M d es (by omega) W h h2; rw [hg] at h1; exact h1)
  have HEL := Lib.hid hel
  have HMY := Lib.hid hmany
  subst hmany
  have hF0' : ((F0 : Nat) : Int) ≤ 130 := by omega
  have hF1' : ((F1 : Nat) : Int) ≤ 130 := by omega
  have hF2' : ((F2 : Nat) : Int) ≤ 130 := by omega
  have hM' : ((M : Nat) : Int) ≤ 130 := by omega
  have hMF : ((M : Nat) : Int) ≤ ((F0 : Nat) : Int) := by omega
  have hlenR := (rightA_iff.1 hrr).1
  have HLR := Lib.hid hlenR
  clear hmT HCt hTc0 hTc1 hTc2 hTr hrt hrr hr0 hr1 hr2 hall hel hF130 hF0 hF1 hF2 hr hes hlenR
  have hBx : Below w.heap.size w (w.alloc (.cells #[.slice a n c] 24)) := Rows8.newB
  have RX := Lib.hid (Rows8.new w 24 #[.slice a n c])
  have B0 := Lib.hid hBx
  have HI := Lib.hid hI
  clear hBx hI
  go_enter Try.func6, Try.ntmps6
  go_wp2_with fail
  generalize (w.alloc (.cells #[.slice a n c] 24)) = u0 at *
  refine (HWk _).out.mono ?_
  rintro e u1 ⟨rfl, hB⟩
  have RX := Lib.hid (RX.out.below hB RX.out.lt)
  have B0 := Lib.hid (B0.out.trans (hB.mono B0.out.size))
  clear hB HWk
  go_upto_region 3 with fail
  have cb0 : u1.cell? ⟨w.heap.size, 0, none⟩ = some (.slice a n c) := RX.out.cell 0
  have lb0 := RX.out.lt
  have HCL := HOw u1 (PAt.below HI.out B0.out)
  go_wp2_with fail
  refine HCL.out.mono ?_
  rintro e u2 ⟨a5, n5, c5, rfl, h130, hO, hB⟩
  have hal : Below u2.heap.size u2 (u2.alloc (.cells #[.slice a5 n5 c5] 24)) := Rows8.newB
  have hBB := hB.trans (hal.mono hB.size)
  have o1 := (hO.mono B0.out.size).below hal (Nat.le_refl _)
  have RX := Lib.hid (RX.out.below hBB RX.out.lt)
  have B0 := Lib.hid (B0.out.trans (hBB.mono B0.out.size))
  have RA := Lib.hid (Rows8.new u2 24 #[.slice a5 n5 c5])
  have OA := Lib.hid o1
  clear hal hBB o1 hO hB HCL HOw RX HI h130 cb0 lb0
  go_upto_region 4 with fail
  generalize hu3 : (u2.alloc (.cells #[.slice a5 n5 c5] 24)) = u3 at *
  clear hu3
  have cb0 : u3.cell? ⟨u2.heap.size, 0, none⟩ = some (.slice a5 n5 c5) := RA.out.cell 0
  have lb0 := RA.out.lt
  have HCL := HCt2 u3 _ _ _ OA.out.at
  go_wp2_with fail
  refine HCL.out.mono ?_
  rintro e u4 ⟨rfl, hB⟩
  have RA := Lib.hid (RA.out.below hB RA.out.lt)
  have OA := Lib.hid (OwnsP.below OA.out hB (Nat.le_refl _))
  have B0 := Lib.hid (B0.out.trans (hB.mono B0.out.size))
  clear hB HCL cb0 lb0
  go_upto_region 5 with fail
  have cb0 : u4.cell? ⟨u2.heap.size, 0, none⟩ = some (.slice a5 n5 c5) := RA.out.cell 0
  have lb0 := RA.out.lt
  have HCL := HTk u4 _ _ _ OA.out.at
  go_wp2_with fail
  refine HCL.out.mono ?_
  rintro e u5 ⟨v, u, rfl, hO, hE, hB⟩
  obtain ⟨a9, c9, hv⟩ := hO.form
  obtain ⟨k9, hk9⟩ : ∃ k, k = T.length := ⟨_, rfl⟩
  dsimp only at hv
  rw [← hk9] at hv
  subst hv
  obtain ⟨e9, f9, hu⟩ := hE.form
  dsimp only at hu
  rw [HEL.out] at hu
  subst hu
  have hal : Below u5.heap.size u5 (u5.alloc (.cells #[.slice a9 k9 c9] 24)) := Rows8.newB
  have hBB := hB.trans (hal.mono hB.size)
  have oE0 := (hE.mono B0.out.size)
  have o1 := (hO.mono B0.out.size).below hal (Nat.le_refl _)
  have RA := Lib.hid (RA.out.below hBB RA.out.lt)
  have OA := Lib.hid (OwnsP.below OA.out hBB (Nat.le_refl _))
  have B0 := Lib.hid (B0.out.trans (hBB.mono B0.out.size))
  have RT := Lib.hid (Rows8.new u5 24 #[.slice a9 k9 c9])
  have OT := Lib.hid o1
  have OE := Lib.hid (oE0.below hal (Nat.le_refl _))
  clear oE0 hal hBB o1 hO hE hB HCL cb0 lb0 HCt2 HTk OA RA hk9
  go_upto_region 6 with fail
  generalize hu6 : (u5.alloc (.cells #[.slice a9 k9 c9] 24)) = u6 at *
  clear hu6
  go_upto_region 8 with fail
  have cb0 : u6.cell? ⟨u5.heap.size, 0, none⟩ = some (.slice a9 k9 c9) := RT.out.cell 0
  have lb0 := RT.out.lt
  have HCL := HCtT u6 _ _ _ OT.out.at
  go_wp2_with fail
  refine HCL.out.mono ?_
  rintro e u7 ⟨rfl, hB⟩
  have RT := Lib.hid (RT.out.below hB RT.out.lt)
  have OT := Lib.hid (OwnsP.below OT.out hB (Nat.le_refl _))
  have OE := Lib.hid (OwnsP.below OE.out hB (Nat.le_refl _))
  have B0 := Lib.hid (B0.out.trans (hB.mono B0.out.size))
  clear hB HCL cb0 lb0
  go_upto_region 9 with fail
  clear HCtT
  go_upto_region 11 with fail
  have cb0 : u7.cell? ⟨u5.heap.size, 0, none⟩ = some (.slice a9 k9 c9) := RT.out.cell 0
  have lb0 := RT.out.lt
  have HCL := HRt u7 _ _ _ OT.out.at _ _ OE.out.at
  go_wp2_with fail
  refine HCL.out.mono ?_
  rintro e u8 ⟨v, rfl, hO, hB⟩
  obtain ⟨a15, c15, hv⟩ := hO.form
  obtain ⟨k15, hk15⟩ : ∃ k, k = r.length := ⟨_, rfl⟩
  dsimp only at hv
  rw [← hk15] at hv
  subst hv
  have hal : Below u8.heap.size u8 (u8.alloc (.cells #[.slice a15 k15 c15] 24)) := Rows8.newB
  have hBB := hB.trans (hal.mono hB.size)
  have o1 := (hO.mono B0.out.size).below hal (Nat.le_refl _)
  have RT := Lib.hid (RT.out.below hBB RT.out.lt)
  have OT := Lib.hid (OwnsP.below OT.out hBB (Nat.le_refl _))
  have OE := Lib.hid (OwnsP.below OE.out hBB (Nat.le_refl _))
  have B0 := Lib.hid (B0.out.trans (hBB.mono B0.out.size))
  have RQ := Lib.hid (Rows8.new u8 24 #[.slice a15 k15 c15])
  have OQ := Lib.hid o1
  clear hal hBB o1 hO hB HCL cb0 lb0 HRt hk15
  go_upto_region 12 with fail
  generalize hu9 : (u8.alloc (.cells #[.slice a15 k15 c15] 24)) = u9 at *
  clear hu9
  go_upto_region 14 with fail
  have cb0 : u9.cell? ⟨u8.heap.size, 0, none⟩ = some (.slice a15 k15 c15) := RQ.out.cell 0
  have lb0 := RQ.out.lt
  have HCL := HCtR u9 _ _ _ OQ.out.at
  go_wp2_with fail
  refine HCL.out.mono ?_
  rintro e u10 ⟨rfl, hB⟩
  have RT := Lib.hid (RT.out.below hB RT.out.lt)
  have RQ := Lib.hid (RQ.out.below hB RQ.out.lt)
  have OT := Lib.hid (OwnsP.below OT.out hB (Nat.le_refl _))
  have OE := Lib.hid (OwnsP.below OE.out hB (Nat.le_refl _))
  have OQ := Lib.hid (OwnsP.below OQ.out hB (Nat.le_refl _))
  have B0 := Lib.hid (B0.out.trans (hB.mono B0.out.size))
  clear hB HCL cb0 lb0
  go_upto_region 15 with fail
  clear HCtR
  go_upto_region 17 with fail
  go_wp2_with fail
  go_loopw [124] (fun j wr => ∃ k : Nat, k ≤ M ∧ j = .int .i64 k ∧ Hid (∀ e ∈ es.take k, e.2 ≠ 1099511627775) ∧ Hid (Rows8 wr u5.heap.size 24 #[.slice a9 k9 c9]) ∧ Hid (Rows8 wr u8.heap.size 24 #[.slice a15 k15 c15]) ∧ Hid (OwnsP 44 w.heap.size T (.slice a9 k9 c9) wr) ∧ Hid (OwnsP 44 w.heap.size r (.slice a15 k15 c15) wr) ∧ Hid (OwnsP 37 w.heap.size es (.slice e9 M f9) wr) ∧ Hid (Below w.heap.size w wr)) (fun j _ => M - (intOf j).toNat)
  case atStart => exact ⟨0, Nat.zero_le _, rfl, Lib.hid (fun e h => by simp at h), RT, RQ, OT, OQ, OE, B0⟩
  case round =>
    obtain ⟨k, hk, rfl, hmx, RT, RQ, OT, OQ, OE, B0⟩ := hrel
    by_cases hlt : k < M
    · have hkl : k < es.length := by rw [HEL.out]; exact hlt
      have hki : (k : Int) < (M : Int) := by omega
      obtain ⟨b, off, rfl, hb2, c0, c1⟩ := pAt_get OE.out.at k hkl
      have hnx : es.take (k + 1) = es.take k ++ [es[k]] := take_snoc es k hkl
      rcases hq : es[k] with ⟨i, g⟩
      rw [hq] at c0 c1 hnx
      dsimp only at c0 c1
      have hal : Below wr.heap.size wr (wr.alloc (.cells #[.int .i64 i, .int .u64 (g : Nat)] 37)) := Rows8.newB
      have RT := Lib.hid (RT.out.below hal RT.out.lt)
      have RQ := Lib.hid (RQ.out.below hal RQ.out.lt)
      have OT := Lib.hid (OwnsP.below OT.out hal (Nat.le_refl _))
      have OQ := Lib.hid (OwnsP.below OQ.out hal (Nat.le_refl _))
      have OE := Lib.hid (OwnsP.below OE.out hal (Nat.le_refl _))
      have B0 := Lib.hid (B0.out.trans (hal.mono B0.out.size))
      have HNX := Lib.hid hnx
      clear hal hq hnx hkl
      by_cases hg : g = 1099511627775
      · have hgb : (((g : Nat) : Int) == 1099511627775) = true := by simp; omega
        clear hg
        go_wp2_with fail
        go_ret
        exact ⟨rfl, B0.out⟩
      · have hgb : (((g : Nat) : Int) == 1099511627775) = false := by simp; omega
        have hm2 : Hid (∀ e ∈ es.take (k + 1), e.2 ≠ 1099511627775) := Lib.hid (fun e he => by
          rw [HNX.out] at he
          rcases List.mem_append.1 he with h | h
          · exact hmx.out e h
          · rw [List.mem_singleton.1 h]; exact hg)
        clear hg
        go_wp2_with fail
        exact ⟨⟨k + 1, by omega, by go_num, hm2, RT, RQ, OT, OQ, OE, B0⟩, by simp [intOf]; omega⟩
    · obtain rfl : k = M := by omega
      have hki : ¬ (k : Int) < (k : Int) := by omega
      obtain ⟨g, hg1, hg2, hgr, hg3, hg4, hg5⟩ := HALL.out (by have := hmx.out; rwa [List.take_of_length_le (Nat.le_of_eq HEL.out)] at this)
      have HGv := HGv g hg1
      have HGw := HGw g hg2
      have hgl := (rightA_iff.1 hgr).1
      have HCtG : ∀ (W : World) (a : Option Addr) (n c : Nat), PAt W (.slice a n c) g → Hid (Calls Try.prog 16 #[.agg #[.slice a n c]] W fun r w' => r = .returned (.tuple #[.int .i64 (F0 : Nat), .int .i64 (F1 : Nat), .int .i64 (F2 : Nat)]) ∧ Below W.heap.size W w') := fun W a n c h => by
        have h1 := Try.Counts_any a n c g W h
        rw [hgr, if_pos rfl, if_pos rfl, if_pos rfl, hg3, hg4, hg5] at h1
        exact Lib.hid h1
      clear hg1 hg2 hgr hg3 hg4 hg5 HALL hmx
      go_upto_region 23 with fail
      have cb0 : wr.cell? ⟨u8.heap.size, 0, none⟩ = some (.slice a15 k15 c15) := RQ.out.cell 0
      have lb0 := RQ.out.lt
      have HCL := HGv wr _ _ _ OQ.out.at _ _ OE.out.at
      go_wp2_with fail
      refine HCL.out.mono ?_
      rintro e v1 ⟨v, rfl, hO, hB⟩
      obtain ⟨a21, c21, hv⟩ := hO.form
      obtain ⟨k21, hk21⟩ : ∃ k, k = g.length := ⟨_, rfl⟩
      dsimp only at hv
      rw [← hk21] at hv
      subst hv
      have hal : Below v1.heap.size v1 (v1.alloc (.cells #[.slice a21 k21 c21] 24)) := Rows8.newB
      have hBB := hB.trans (hal.mono hB.size)
      have o1 := (hO.mono B0.out.size).below hal (Nat.le_refl _)
      have RT := Lib.hid (RT.out.below hBB RT.out.lt)
      have RQ := Lib.hid (RQ.out.below hBB RQ.out.lt)
      have OT := Lib.hid (OwnsP.below OT.out hBB (Nat.le_refl _))
      have OE := Lib.hid (OwnsP.below OE.out hBB (Nat.le_refl _))
      have OQ := Lib.hid (OwnsP.below OQ.out hBB (Nat.le_refl _))
      have B0 := Lib.hid (B0.out.trans (hBB.mono B0.out.size))
      have RG := Lib.hid (Rows8.new v1 24 #[.slice a21 k21 c21])
      have OG := Lib.hid o1
      have HK21 := Lib.hid hk21
      clear hk21 hal hBB o1 hO hB HCL cb0 lb0 HGv
      go_upto_region 24 with fail
      generalize hv2 : (v1.alloc (.cells #[.slice a21 k21 c21] 24)) = v2 at *
      clear hv2
      have cb0 : v2.cell? ⟨u5.heap.size, 0, none⟩ = some (.slice a9 k9 c9) := RT.out.cell 0
      have lb0 := RT.out.lt
      have HCL := HGw v2 _ _ _ OT.out.at _ _ OE.out.at
      go_wp2_with fail
      refine HCL.out.mono ?_
      rintro e v3 ⟨v, rfl, hO, hB⟩
      obtain ⟨a22, c22, hv⟩ := hO.form
      dsimp only at hv
      rw [← HK21.out] at hv
      subst hv
      have hal : Below v3.heap.size v3 (v3.alloc (.cells #[.slice a22 k21 c22] 24)) := Rows8.newB
      have hBB := hB.trans (hal.mono hB.size)
      have o1 := (hO.mono B0.out.size).below hal (Nat.le_refl _)
      have RT := Lib.hid (RT.out.below hBB RT.out.lt)
      have RQ := Lib.hid (RQ.out.below hBB RQ.out.lt)
      have RG := Lib.hid (RG.out.below hBB RG.out.lt)
      have OT := Lib.hid (OwnsP.below OT.out hBB (Nat.le_refl _))
      have OE := Lib.hid (OwnsP.below OE.out hBB (Nat.le_refl _))
      have OQ := Lib.hid (OwnsP.below OQ.out hBB (Nat.le_refl _))
      have OG := Lib.hid (OwnsP.below OG.out hBB (Nat.le_refl _))
      have B0 := Lib.hid (B0.out.trans (hBB.mono B0.out.size))
      have RH := Lib.hid (Rows8.new v3 24 #[.slice a22 k21 c22])
      have OH := Lib.hid o1
      have hk21b : k21 ≤ 10000 := by have := HK21.out; omega
      clear hal hBB o1 hO hB HCL cb0 lb0 HGw
      go_upto_region 25 with fail
      generalize hv4 : (v3.alloc (.cells #[.slice a22 k21 c22] 24)) = v4 at *
      clear hv4
      have cb0 : v4.cell? ⟨v1.heap.size, 0, none⟩ = some (.slice a21 k21 c21) := RG.out.cell 0
      have lb0 := RG.out.lt
      have cb1 : v4.cell? ⟨v3.heap.size, 0, none⟩ = some (.slice a22 k21 c22) := RH.out.cell 0
      have lb1 := RH.out.lt
      have HCL := Lib.hid (Try.Same_any _ _ _ _ _ _ _ _ v4 OG.out.at OH.out.at hk21b hk21b)
      rw [decide_eq_true (rfl : g = g)] at HCL
      go_wp2_with fail
      refine HCL.out.mono ?_
      rintro e v5 ⟨rfl, hB⟩
      have RT := Lib.hid (RT.out.below hB RT.out.lt)
      have RQ := Lib.hid (RQ.out.below hB RQ.out.lt)
      have RG := Lib.hid (RG.out.below hB RG.out.lt)
      have RH := Lib.hid (RH.out.below hB RH.out.lt)
      have OT := Lib.hid (OwnsP.below OT.out hB (Nat.le_refl _))
      have OE := Lib.hid (OwnsP.below OE.out hB (Nat.le_refl _))
      have OQ := Lib.hid (OwnsP.below OQ.out hB (Nat.le_refl _))
      have OG := Lib.hid (OwnsP.below OG.out hB (Nat.le_refl _))
      have OH := Lib.hid (OwnsP.below OH.out hB (Nat.le_refl _))
      have B0 := Lib.hid (B0.out.trans (hB.mono B0.out.size))
      clear hB HCL cb0 lb0 cb1 lb1
      go_upto_region 27 with fail
      have cb0 : v5.cell? ⟨v1.heap.size, 0, none⟩ = some (.slice a21 k21 c21) := RG.out.cell 0
      have lb0 := RG.out.lt
      have HCL := HCtG v5 _ _ _ OG.out.at
      go_wp2_with fail
      refine HCL.out.mono ?_
      rintro e v6 ⟨rfl, hB⟩
      have B0 := Lib.hid (B0.out.trans (hB.mono B0.out.size))
      clear hB HCL
      go_wp2_with fail
      go_ret
      exact ⟨rfl, B0.out⟩

theorem Try.back_any (a : Option Addr) (n c : Nat) (x : List Pr) (many : Int) (w : World) (hI : PAt w (.slice a n c) x) :
    Calls Try.prog 6 #[.agg #[.slice a n c], .int .i64 many] w fun e w' => e = .returned (.bool true) ∧ Below w.heap.size w w' := by
  cases hr : rightA (x.take 130) with
  | false => exact Try.back_err a n c x many 210 0 0 0 w hI (by unfold takT triR; rw [hr]; rfl) (by decide) (fun h => by cases h) (by rw [hr]; rfl) (by rw [hr]; rfl) (by rw [hr]; rfl)
  | true =>
    by_cases h1 : many < 0
    · exact Try.back_err a n c x many 2 _ _ _ w hI (by unfold takT triR takeR; rw [hr, if_pos h1]; rfl) (by decide) (fun h => by cases h) rfl rfl rfl
    · by_cases h2 : many.toNat ≤ cnt (x.take 130) 0
      · have h := Try.back_ok a n c x many.toNat _ _ _ w hI hr h2 rfl rfl rfl
        rwa [Int.toNat_of_nonneg (by omega)] at h
      · exact Try.back_err a n c x many 6 _ _ _ w hI (by unfold takT triR takeR; rw [hr, if_neg h1, if_neg h2]; rfl) (by decide) (fun _ => by rw [hr, if_pos rfl]; omega) rfl rfl rfl
end Go.Proofs
namespace Go.Proofs.Yteldjolofglnpaa.arenaBack
open Go.ChangeShapes Go.WideShapes Go.ChangeAt Go.RowKit Go.Shelf

theorem own : ownKnob Try.prog.godebug = none := by kernel_rfl
theorem walk (g : Arv) (many : Int) (w : World) (hg : PAt w (.slice g.a g.n g.c) g.l) (_ : (Lit.int .i64 many).wf = true) :
    Calls Try.prog 6 #[.agg #[.slice g.a g.n g.c], .int .i64 many] w fun e w' => e = .returned (.bool true) ∧ Below w.heap.size w w' := Try.back_any g.a g.n g.c g.l many w hg
theorem laidOut : laidOutB Try.prog = true := by kernel_rfl
set_option maxRecDepth 100000 in
theorem lifted (os : Os) (started : os.Started) (H : Type) (enc : TypeId × Value → H) :
    ReturnsInHanded {} Try.checked os 6 .any (Rows.arenaBackSpec.pre6 enc Try.prog Try.f6 Rows.arenaBackRow.domain false) (Rows.arenaBackSpec.post enc Try.prog Try.f6 false true false false) := by
  refine returnsInHanded_of_change (C := Try.checked) own started (by kernel_rfl) Try.func6
    (ChangeSpec.witness6 (enc := enc) (C := Try.checked) false ⟨#[], #[.agg #[.slice none 0 0], .int .i64 0], []⟩ 8 (by kernel_rfl) (by kernel_rfl) (by kernel_rfl) (by kernel_rfl)) ?_
  intro W base args ds gs before hval0 hW hcnd _
  have hval : ∀ (j : Nat) t v, Try.f6.params[j]? = some t → args[j]? = some v → Value.okWide Try.prog W .any base t v := hval0
  have hW' := hW
  obtain ⟨p, q, hA0, hV, rfl, hfz, hnd⟩ := hW
  have hA : DataW.TrodAll enc Try.prog W 0 (fun _ => true) true Try.f6.params.toList args.toList ds p := hA0
  rw [Try.params6] at hA hval
  obtain ⟨v0, vs0, d0, ds0, p0, q0, hargs, rfl, rfl, h0, r0⟩ := trodAll_cons hA
  obtain ⟨v1, vs1, d1, ds1, p1, q1, rfl, rfl, rfl, h1, r1⟩ := trodAll_cons r0
  obtain ⟨rfl, rfl, rfl⟩ := trodAll_nil r1
  obtain rfl : args = #[v0, v1] := by cases args; simp_all
  obtain ⟨rfl, rfl⟩ := trodVars_none hV
  have k0 := h0
  have lt0 : ∀ x ∈ p0, x.block < W.heap.size := by obtain ⟨m, hm⟩ := k0; exact DataW.trod_lt m _ _ _ hm
  obtain ⟨g0, rfl, w0⟩ := open_arena (hval 0 24 v0 rfl rfl) h0
  obtain ⟨a1, rfl, rfl, rfl, w1⟩ := open_int Try.underlying3 (hval 1 3 v1 rfl rfl) h1
  clear hA0 hval0
  refine (walk g0 a1 W w0 w1).mono fun e W' ⟨he, bel⟩ => ?_
  subst he
  exact ⟨_, rfl, _, _, _, [], _, [], hW', trodAll_mk1 (shut_bool Try.underlying4 _), (trodAll_cons_mk (Below.trod laidOut (by kernel_rfl) (of_decide_eq_true (by kernel_rfl)) k0 bel lt0) (trodAll_cons_mk (shut_int Try.underlying3 w1) trodAll_mk0)), rfl, bel.frame _, fun h => by cases h⟩

theorem over : Rows.arenaBackRow.holds Try.pinned (OpenSpec.ofChange Rows.arenaBackSpec) :=
  OpenClaim.holds_of_wide 6 Try.f6 rfl rfl rfl rfl rfl rfl rfl ⟨rfl, rfl, rfl, rfl, rfl⟩ rfl rfl rfl rfl rfl (by kernel_rfl) Try.func6 (by kernel_rfl)
    (of_decide_eq_true (by kernel_rfl)) (by unfold Func.isWrapper; first | (rw [if_pos (by decide +kernel)]; kernel_rfl) | (rw [if_neg (by decide +kernel)]; exact ⟨rfl, rfl⟩))
    (fun os started H enc _ => lifted os started H enc)

theorem proved : Rows.ArenaBackSaid := over
end Go.Proofs.Yteldjolofglnpaa.arenaBack
