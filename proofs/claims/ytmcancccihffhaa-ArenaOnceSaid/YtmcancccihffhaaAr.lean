/- Arena: wakes. -/
import Derived.Test.YtmcancccihffhaaAq
namespace Go.Proofs
set_option maxRecDepth 100000
open Go.RowKit Go.Shelf
attribute [local go_sem] Oper.semAt_some

/-- A literal row of entries. -/
theorem lit_at (W : World) (l : List Pr) (hl : l.length ≤ 100) : PAt (W.alloc (.cells (pVals l).toArray 41)) (.slice (some ⟨W.heap.size, 0, none⟩) l.length l.length) l := by
  refine ⟨pVals_length l, _, l.length, rfl, Nat.le_refl _, by unfold maxLen; omega, (fun e => by cases e), fun j hj => ⟨W.heap.size, 0, rfl, by simp, ?_⟩⟩
  rw [Nat.zero_add, Rows8.cell (Rows8.new W _ _) j]
  simp
set_option maxRecDepth 100000 in
set_option maxHeartbeats 8000000 in
theorem Try.wakes_any (w : World) : Calls Try.prog 4 #[] w fun e w' => e = .returned (.bool true) ∧ Below w.heap.size w w' := by
  have HN := Lib.hid (show Calls _ 13 #[.int .i64 3] w (fun e w' => (∃ v, e = .returned (.tuple #[.agg #[v], .int .i64 0]) ∧ OwnsP 52 w.heap.size [(0, 0), (0, 0), (0, 0)] v w') ∧ Below w.heap.size w w') from by have h1 := Try.New_any 3 w; rw [show newL 3 = [(0, 0), (0, 0), (0, 0)] from by decide +kernel, show manyA 3 = true from by decide +kernel] at h1; exact h1)
  have HT1 := fun (W : World) (a : Option Addr) (n c : Nat) (h : PAt W (.slice a n c) [(0, 0), (0, 0), (0, 0)]) => Lib.hid (show Calls _ _ _ W (ArlQ W (0, [(1, 0), (1, 0), (0, 0)], [(0, 0), (1, 0)])) from by have h1 := Try.Take_any a n c _ 2 W h; rw [show takT [(0, 0), (0, 0), (0, 0)] 2 = (0, [(1, 0), (1, 0), (0, 0)], [(0, 0), (1, 0)]) from by decide +kernel] at h1; exact h1)
  have HR2 := fun (W : World) (a : Option Addr) (n c : Nat) (h : PAt W (.slice a n c) [(1, 0), (1, 0), (0, 0)]) (b : Option Addr) (h2 : PAt W (.slice b 1 1) [(0, 0)]) => Lib.hid (show Calls _ _ _ W (ArgQ W (0, [(2, 0), (1, 0), (0, 0)], [])) from by have h1 := Try.Retire_any a n c _ b 1 1 _ (by decide) W h h2; rw [show retT [(1, 0), (1, 0), (0, 0)] [(0, 0)] = (0, [(2, 0), (1, 0), (0, 0)], []) from by decide +kernel] at h1; exact h1)
  have HC3 := fun (W : World) (a : Option Addr) (n c : Nat) (h : PAt W (.slice a n c) [(2, 0), (1, 0), (0, 0)]) => Lib.hid (show Calls _ 7 _ W (fun r w' => r = .returned (.tuple #[.int .i64 1, .int .i64 1, .int .i64 1]) ∧ Below W.heap.size W w') from by have h1 := Try.Counts_any a n c _ W h; rw [show rightA [(2, 0), (1, 0), (0, 0)] = true from by decide +kernel] at h1; exact h1)
  have HG4 := fun (W : World) (a : Option Addr) (n c : Nat) (h : PAt W (.slice a n c) [(2, 0), (1, 0), (0, 0)]) (b : Option Addr) (h2 : PAt W (.slice b 1 1) [(0, 0)]) => Lib.hid (show Calls _ _ _ W (ArgQ W (0, [(0, 1), (1, 0), (0, 0)], [])) from by have h1 := Try.Give_any a n c _ b 1 1 _ (by decide) W h h2; rw [show givT [(2, 0), (1, 0), (0, 0)] [(0, 0)] = (0, [(0, 1), (1, 0), (0, 0)], []) from by decide +kernel] at h1; exact h1)
  have HT5 := fun (W : World) (a : Option Addr) (n c : Nat) (h : PAt W (.slice a n c) [(0, 1), (1, 0), (0, 0)]) => Lib.hid (show Calls _ _ _ W (ArlQ W (0, [(1, 1), (1, 0), (0, 0)], [(0, 1)])) from by have h1 := Try.Take_any a n c _ 1 W h; rw [show takT [(0, 1), (1, 0), (0, 0)] 1 = (0, [(1, 1), (1, 0), (0, 0)], [(0, 1)]) from by decide +kernel] at h1; exact h1)
  have HR6 := fun (W : World) (a : Option Addr) (n c : Nat) (h : PAt W (.slice a n c) [(1, 1), (1, 0), (0, 0)]) (b : Option Addr) (h2 : PAt W (.slice b 1 1) [(0, 0)]) => Lib.hid (show Calls _ _ _ W (ArgQ W (4, [], [])) from by have h1 := Try.Retire_any a n c _ b 1 1 _ (by decide) W h h2; rw [show retT [(1, 1), (1, 0), (0, 0)] [(0, 0)] = (4, [], []) from by decide +kernel] at h1; exact h1)
  have HG7 := fun (W : World) (a : Option Addr) (n c : Nat) (h : PAt W (.slice a n c) [(1, 1), (1, 0), (0, 0)]) => Lib.hid (show Calls _ 12 #[.agg #[.slice a n c], .agg #[.int .i64 0, .int .u64 1]] W (fun r w' => r = .returned (.tuple #[.int .i64 1, .bool true]) ∧ Below W.heap.size W w') from by have h1 := Try.Tag_any a n c _ (0, 1) W h; rw [show rightA [(1, 1), (1, 0), (0, 0)] = true from by decide +kernel, show tagA [(1, 1), (1, 0), (0, 0)] (0, 1) = 1 from by decide +kernel, show tagB [(1, 1), (1, 0), (0, 0)] (0, 1) = true from by decide +kernel] at h1; exact h1)
  have HT8 := fun (W : World) (a : Option Addr) (n c : Nat) (h : PAt W (.slice a n c) [(1, 1), (1, 0), (0, 0)]) => Lib.hid (show Calls _ _ _ W (ArlQ W (6, [], [])) from by have h1 := Try.Take_any a n c _ 3 W h; rw [show takT [(1, 1), (1, 0), (0, 0)] 3 = (6, [], []) from by decide +kernel] at h1; exact h1)
  go_enter Try.func4, Try.ntmps4
  go_wp2_with fail
  refine HN.out.mono ?_
  rintro e w1 ⟨⟨v, rfl, hO⟩, hB⟩
  obtain ⟨a0, c0, hv⟩ := hO.form
  dsimp only [List.length_cons, List.length_nil, Nat.reduceAdd] at hv
  subst hv
  have hal : Below w1.heap.size w1 (w1.alloc (.cells #[.slice a0 3 c0] 24)) := Rows8.newB
  have O1 : Hid (OwnsP 52 w.heap.size [(0, 0), (0, 0), (0, 0)] (.slice a0 3 c0) (w1.alloc (.cells #[.slice a0 3 c0] 24))) := Lib.hid (OwnsP.below hO hal (Nat.le_refl _))
  have R1 := Lib.hid (Rows8.new w1 24 #[.slice a0 3 c0])
  have B1 := Lib.hid (hB.trans (hal.mono hB.size))
  have hwb := hB.size
  clear hO hB hal HN
  go_upto_region 2 with fail
  generalize (w1.alloc (.cells #[.slice a0 3 c0] 24)) = u2 at *
  have cb : u2.cell? ⟨w1.heap.size, 0, none⟩ = some (.slice a0 3 c0) := R1.out.cell 0
  have HCL := HT1 u2 _ _ _ O1.out.at
  have RW := R1
  have BW := B1
  go_wp2_with fail
  refine HCL.out.mono ?_
  rintro e v2 ⟨v, u, rfl, hO, hE, hB⟩
  obtain ⟨a2, c2, hv⟩ := hO.form
  dsimp only [List.length_cons, List.length_nil, Nat.reduceAdd] at hv
  subst hv
  obtain ⟨e2, f2, hu⟩ := hE.form
  dsimp only [List.length_cons, List.length_nil, Nat.reduceAdd] at hu
  subst hu
  have rB := RW.out.below hB RW.out.lt
  have cB : v2.cell? ⟨w1.heap.size, 0, none⟩ = some _ := rB.cell 0
  have fB := rB.frozen 0
  have r2 := rB.set 0 (.slice a2 3 c2)
  simp only [List.setIfInBounds_toArray, List.set_cons_zero] at r2
  have R2 := Lib.hid r2
  have O2 : Hid (OwnsP 52 w.heap.size [(1, 0), (1, 0), (0, 0)] (.slice a2 3 c2) (v2.setCell ⟨w1.heap.size, 0, none⟩ (.slice a2 3 c2))) := Lib.hid ((hO.mono BW.out.size).setNe (a := ⟨w1.heap.size, 0, none⟩) rB (by decide) (.slice a2 3 c2))
  have B2 := Lib.hid ((BW.out.trans (hB.mono BW.out.size)).setCell (p := ⟨w1.heap.size, 0, none⟩) hwb (.slice a2 3 c2))
  have EL := Lib.hid ((hE.mono BW.out.size).setNe (a := ⟨w1.heap.size, 0, none⟩) rB (by decide) (.slice a2 3 c2))
  clear hO hB rB r2 hE HCL RW BW  HT1 cb
  go_upto_region 3 with fail
  generalize (v2.setCell ⟨w1.heap.size, 0, none⟩ (.slice a2 3 c2)) = u3 at *
  clear cB fB
  have cb : u3.cell? ⟨w1.heap.size, 0, none⟩ = some (.slice a2 3 c2) := R2.out.cell 0
  have hal : Below u3.heap.size u3 (u3.alloc (.cells #[.int .i64 0, .int .u64 0] 41)) := Rows8.newB
  have hli : PAt (u3.alloc (.cells #[.int .i64 0, .int .u64 0] 41)) (.slice (some ⟨u3.heap.size, 0, none⟩) 1 1) [(0, 0)] := lit_at u3 [(0, 0)] (by decide)
  have HCL := HR2 _ _ _ _ (OwnsP.below O2.out hal (Nat.le_refl _)).at _ hli
  have RW := Lib.hid (R2.out.below hal R2.out.lt)
  have BW := Lib.hid (B2.out.trans (hal.mono B2.out.size))
  have ELw := Lib.hid (OwnsP.below EL.out hal (Nat.le_refl _))
  clear hal hli
  go_wp2_with fail
  refine HCL.out.mono ?_
  rintro e v3 ⟨v, rfl, hO, hB⟩
  obtain ⟨a3, c3, hv⟩ := hO.form
  dsimp only [List.length_cons, List.length_nil, Nat.reduceAdd] at hv
  subst hv
  have rB := RW.out.below hB RW.out.lt
  have cB : v3.cell? ⟨w1.heap.size, 0, none⟩ = some _ := rB.cell 0
  have fB := rB.frozen 0
  have r2 := rB.set 0 (.slice a3 3 c3)
  simp only [List.setIfInBounds_toArray, List.set_cons_zero] at r2
  have R3 := Lib.hid r2
  have O3 : Hid (OwnsP 52 w.heap.size [(2, 0), (1, 0), (0, 0)] (.slice a3 3 c3) (v3.setCell ⟨w1.heap.size, 0, none⟩ (.slice a3 3 c3))) := Lib.hid ((hO.mono BW.out.size).setNe (a := ⟨w1.heap.size, 0, none⟩) rB (by decide) (.slice a3 3 c3))
  have B3 := Lib.hid ((BW.out.trans (hB.mono BW.out.size)).setCell (p := ⟨w1.heap.size, 0, none⟩) hwb (.slice a3 3 c3))
  have EL := Lib.hid ((OwnsP.below ELw.out hB (Nat.le_refl _)).setNe (a := ⟨w1.heap.size, 0, none⟩) rB (by decide) (.slice a3 3 c3))
  clear hO hB rB r2 HCL RW BW ELw HR2 cb
  go_upto_region 4 with fail
  generalize (v3.setCell ⟨w1.heap.size, 0, none⟩ (.slice a3 3 c3)) = u4 at *
  clear cB fB
  have cb : u4.cell? ⟨w1.heap.size, 0, none⟩ = some (.slice a3 3 c3) := R3.out.cell 0
  have HCL := HC3 u4 _ _ _ O3.out.at
  go_wp2_with fail
  refine HCL.out.mono ?_
  rintro e u5 ⟨rfl, hB⟩
  have O4 := Lib.hid (OwnsP.below O3.out hB (Nat.le_refl _))
  have R4 := Lib.hid (R3.out.below hB R3.out.lt)
  have B4 := Lib.hid (B3.out.trans (hB.mono B3.out.size))
  have EL := Lib.hid (OwnsP.below EL.out hB (Nat.le_refl _))
  clear hB HCL HC3 cb
  go_upto_region 5 with fail
  have cb : u5.cell? ⟨w1.heap.size, 0, none⟩ = some (.slice a3 3 c3) := R4.out.cell 0
  have hal : Below u5.heap.size u5 (u5.alloc (.cells #[.int .i64 0, .int .u64 0] 41)) := Rows8.newB
  have hli : PAt (u5.alloc (.cells #[.int .i64 0, .int .u64 0] 41)) (.slice (some ⟨u5.heap.size, 0, none⟩) 1 1) [(0, 0)] := lit_at u5 [(0, 0)] (by decide)
  have HCL := HG4 _ _ _ _ (OwnsP.below O4.out hal (Nat.le_refl _)).at _ hli
  have RW := Lib.hid (R4.out.below hal R4.out.lt)
  have BW := Lib.hid (B4.out.trans (hal.mono B4.out.size))
  have ELw := Lib.hid (OwnsP.below EL.out hal (Nat.le_refl _))
  clear hal hli
  go_wp2_with fail
  refine HCL.out.mono ?_
  rintro e v5 ⟨v, rfl, hO, hB⟩
  obtain ⟨a5, c5, hv⟩ := hO.form
  dsimp only [List.length_cons, List.length_nil, Nat.reduceAdd] at hv
  subst hv
  have rB := RW.out.below hB RW.out.lt
  have cB : v5.cell? ⟨w1.heap.size, 0, none⟩ = some _ := rB.cell 0
  have fB := rB.frozen 0
  have r2 := rB.set 0 (.slice a5 3 c5)
  simp only [List.setIfInBounds_toArray, List.set_cons_zero] at r2
  have R5 := Lib.hid r2
  have O5 : Hid (OwnsP 52 w.heap.size [(0, 1), (1, 0), (0, 0)] (.slice a5 3 c5) (v5.setCell ⟨w1.heap.size, 0, none⟩ (.slice a5 3 c5))) := Lib.hid ((hO.mono BW.out.size).setNe (a := ⟨w1.heap.size, 0, none⟩) rB (by decide) (.slice a5 3 c5))
  have B5 := Lib.hid ((BW.out.trans (hB.mono BW.out.size)).setCell (p := ⟨w1.heap.size, 0, none⟩) hwb (.slice a5 3 c5))
  have EL := Lib.hid ((OwnsP.below ELw.out hB (Nat.le_refl _)).setNe (a := ⟨w1.heap.size, 0, none⟩) rB (by decide) (.slice a5 3 c5))
  clear hO hB rB r2 HCL RW BW ELw HG4 cb
  go_upto_region 6 with fail
  generalize (v5.setCell ⟨w1.heap.size, 0, none⟩ (.slice a5 3 c5)) = u6 at *
  clear cB fB
  have cb : u6.cell? ⟨w1.heap.size, 0, none⟩ = some (.slice a5 3 c5) := R5.out.cell 0
  have HCL := HT5 u6 _ _ _ O5.out.at
  have RW := R5
  have BW := B5
  have ELw := EL
  go_wp2_with fail
  refine HCL.out.mono ?_
  rintro e v6 ⟨v, u, rfl, hO, hE, hB⟩
  obtain ⟨a6, c6, hv⟩ := hO.form
  dsimp only [List.length_cons, List.length_nil, Nat.reduceAdd] at hv
  subst hv
  obtain ⟨e6, f6, hu⟩ := hE.form
  dsimp only [List.length_cons, List.length_nil, Nat.reduceAdd] at hu
  subst hu
  have rB := RW.out.below hB RW.out.lt
  have cB : v6.cell? ⟨w1.heap.size, 0, none⟩ = some _ := rB.cell 0
  have fB := rB.frozen 0
  have r2 := rB.set 0 (.slice a6 3 c6)
  simp only [List.setIfInBounds_toArray, List.set_cons_zero] at r2
  have R6 := Lib.hid r2
  have O6 : Hid (OwnsP 52 w.heap.size [(1, 1), (1, 0), (0, 0)] (.slice a6 3 c6) (v6.setCell ⟨w1.heap.size, 0, none⟩ (.slice a6 3 c6))) := Lib.hid ((hO.mono BW.out.size).setNe (a := ⟨w1.heap.size, 0, none⟩) rB (by decide) (.slice a6 3 c6))
  have B6 := Lib.hid ((BW.out.trans (hB.mono BW.out.size)).setCell (p := ⟨w1.heap.size, 0, none⟩) hwb (.slice a6 3 c6))
  have EL := Lib.hid ((OwnsP.below ELw.out hB (Nat.le_refl _)).setNe (a := ⟨w1.heap.size, 0, none⟩) rB (by decide) (.slice a6 3 c6))
  have EM := Lib.hid ((hE.mono BW.out.size).setNe (a := ⟨w1.heap.size, 0, none⟩) rB (by decide) (.slice a6 3 c6))
  clear hO hB rB r2 hE HCL RW BW ELw HT5 cb
  go_upto_region 7 with fail
  generalize (v6.setCell ⟨w1.heap.size, 0, none⟩ (.slice a6 3 c6)) = u7 at *
  clear cB fB
  have cb : u7.cell? ⟨w1.heap.size, 0, none⟩ = some (.slice a6 3 c6) := R6.out.cell 0
  have hal : Below u7.heap.size u7 (u7.alloc (.cells #[.int .i64 0, .int .u64 0] 41)) := Rows8.newB
  have hli : PAt (u7.alloc (.cells #[.int .i64 0, .int .u64 0] 41)) (.slice (some ⟨u7.heap.size, 0, none⟩) 1 1) [(0, 0)] := lit_at u7 [(0, 0)] (by decide)
  have HCL := HR6 _ _ _ _ (OwnsP.below O6.out hal (Nat.le_refl _)).at _ hli
  have RW := Lib.hid (R6.out.below hal R6.out.lt)
  have BW := Lib.hid (B6.out.trans (hal.mono B6.out.size))
  have ELw := Lib.hid (OwnsP.below EL.out hal (Nat.le_refl _))
  have EMw := Lib.hid (OwnsP.below EM.out hal (Nat.le_refl _))
  have OW := Lib.hid (OwnsP.below O6.out hal (Nat.le_refl _))
  clear hal hli
  go_wp2_with fail
  refine HCL.out.mono ?_
  rintro e v7 ⟨v, rfl, hO, hB⟩
  obtain ⟨a7, c7, hv⟩ := hO.form
  dsimp only [List.length_cons, List.length_nil, Nat.reduceAdd] at hv
  subst hv
  have rB := RW.out.below hB RW.out.lt
  have hal : Below v7.heap.size v7 (v7.alloc (.cells #[.slice a7 0 c7] 24)) := Rows8.newB
  have O7 := Lib.hid (OwnsP.below (OwnsP.below OW.out hB (Nat.le_refl _)) hal (Nat.le_refl _))
  have R7 := Lib.hid (rB.below hal rB.lt)
  have B7 := Lib.hid ((BW.out.trans (hB.mono BW.out.size)).trans (hal.mono (Nat.le_trans BW.out.size hB.size)))
  have EL := Lib.hid (OwnsP.below (OwnsP.below ELw.out hB (Nat.le_refl _)) hal (Nat.le_refl _))
  have EM := Lib.hid (OwnsP.below (OwnsP.below EMw.out hB (Nat.le_refl _)) hal (Nat.le_refl _))
  clear hO hB rB hal HCL OW RW BW ELw EMw HR6 cb
  go_upto_region 8 with fail
  generalize (v7.alloc (.cells #[.slice a7 0 c7] 24)) = u8 at *
  have cb : u8.cell? ⟨w1.heap.size, 0, none⟩ = some (.slice a6 3 c6) := R7.out.cell 0
  have HCL := HG7 u8 _ _ _ O7.out.at
  go_wp2_with fail
  refine HCL.out.mono ?_
  rintro e u9 ⟨rfl, hB⟩
  have O8 := Lib.hid (OwnsP.below O7.out hB (Nat.le_refl _))
  have R8 := Lib.hid (R7.out.below hB R7.out.lt)
  have B8 := Lib.hid (B7.out.trans (hB.mono B7.out.size))
  have EL := Lib.hid (OwnsP.below EL.out hB (Nat.le_refl _))
  have EM := Lib.hid (OwnsP.below EM.out hB (Nat.le_refl _))
  clear hB HCL HG7 cb
  go_upto_region 9 with fail
  have cb : u9.cell? ⟨w1.heap.size, 0, none⟩ = some (.slice a6 3 c6) := R8.out.cell 0
  have HCL := HT8 u9 _ _ _ O8.out.at
  have RW := R8
  have BW := B8
  have ELw := EL
  have EMw := EM
  go_wp2_with fail
  refine HCL.out.mono ?_
  rintro e v9 ⟨v, u, rfl, hO, hE, hB⟩
  obtain ⟨ex, fx, hu⟩ := hE.form
  dsimp only [List.length_cons, List.length_nil, Nat.reduceAdd] at hu
  subst hu
  obtain ⟨a9, c9, hv⟩ := hO.form
  dsimp only [List.length_cons, List.length_nil, Nat.reduceAdd] at hv
  subst hv
  have rB := RW.out.below hB RW.out.lt
  have hal : Below v9.heap.size v9 (v9.alloc (.cells #[.slice a9 0 c9] 24)) := Rows8.newB
  have R9 := Lib.hid (rB.below hal rB.lt)
  have B9 := Lib.hid ((BW.out.trans (hB.mono BW.out.size)).trans (hal.mono (Nat.le_trans BW.out.size hB.size)))
  have EL := Lib.hid (OwnsP.below (OwnsP.below ELw.out hB (Nat.le_refl _)) hal (Nat.le_refl _))
  have EM := Lib.hid (OwnsP.below (OwnsP.below EMw.out hB (Nat.le_refl _)) hal (Nat.le_refl _))
  clear hO hB rB hal hE HCL RW BW ELw EMw HT8 cb
  go_upto_region 10 with fail
  generalize (v9.alloc (.cells #[.slice a9 0 c9] 24)) = u10 at *
  have hal : Below u10.heap.size u10 (u10.alloc (.cells #[.int .i64 0, .int .u64 0, .int .i64 1, .int .u64 0] 41)) := Rows8.newB
  have hq1 := Try.equalEntry_any e2 (some ⟨u10.heap.size, 0, none⟩) 2 2 f2 2 [(0, 0), (1, 0)] [(0, 0), (1, 0)] (u10.alloc (.cells #[.int .i64 0, .int .u64 0, .int .i64 1, .int .u64 0] 41)) (OwnsP.below EL.out hal (Nat.le_refl _)).at (lit_at u10 [(0, 0), (1, 0)] (by decide)) (by decide) (by decide)
  rw [decide_eq_true (rfl : ([(0, 0), (1, 0)] : List Pr) = [(0, 0), (1, 0)])] at hq1
  have HQ1 := Lib.hid hq1
  have EM1 := Lib.hid (OwnsP.below EM.out hal (Nat.le_refl _))
  have B10 := Lib.hid (B9.out.trans (hal.mono B9.out.size))
  clear hal hq1
  go_wp2_with fail
  refine HQ1.out.mono ?_
  rintro e u11 ⟨rfl, hB⟩
  have hal : Below u11.heap.size u11 (u11.alloc (.cells #[.int .i64 0, .int .u64 1] 41)) := Rows8.newB
  have hq2 := Try.equalEntry_any e6 (some ⟨u11.heap.size, 0, none⟩) 1 1 f6 1 [(0, 1)] [(0, 1)] (u11.alloc (.cells #[.int .i64 0, .int .u64 1] 41)) (OwnsP.below (OwnsP.below EM1.out hB (Nat.le_refl _)) hal (Nat.le_refl _)).at (lit_at u11 [(0, 1)] (by decide)) (by decide) (by decide)
  rw [decide_eq_true (rfl : ([(0, 1)] : List Pr) = [(0, 1)])] at hq2
  have HQ2 := Lib.hid hq2
  have B11 := Lib.hid ((B10.out.trans (hB.mono B10.out.size)).trans (hal.mono (Nat.le_trans B10.out.size hB.size)))
  clear hal hq2 hB HQ1
  go_wp2_with fail
  refine HQ2.out.mono ?_
  rintro e u12 ⟨rfl, hB⟩
  have B12 := Lib.hid (B11.out.trans (hB.mono B11.out.size))
  clear hB HQ2
  go_wp2_with fail
  go_ret
  exact ⟨rfl, B12.out⟩
end Go.Proofs
