/- Limbo: the law's first line. -/
import Derived.Test.YtghnfiegihfdnaaDoorLs
namespace Go.Proofs
set_option maxRecDepth 100000
open Go.RowKit Go.Shelf
attribute [local go_sem] Oper.semAt_some

set_option maxHeartbeats 64000000 in
theorem Tryd.wakes_any (w : World) (hon : OnAt w) : Calls Tryd.prog 7 #[] w fun e w' => e = .returned (.bool true) ∧ Below w.heap.size w w' := by
  obtain ⟨W0, hW0⟩ : ∃ W, W = ((w.alloc (.cells #[.int .i64 1, .int .u64 0] 38)).alloc (.cells #[.int .i64 2, .int .u64 0] 38)).alloc (.cells #[.int .i64 3, .int .u64 0] 38) := ⟨_, rfl⟩
  have hB0 : Below w.heap.size w W0 := by rw [hW0]; exact ((Rows8.newB).alloc (by simp) _).alloc (by simp <;> omega) _
  have ha : Rows8 W0 w.heap.size 38 #[.int .i64 1, .int .u64 0] := by rw [hW0]; exact ((Rows8.new _ _ _).alloc _).alloc _
  have hb : Rows8 W0 (w.heap.size + 1) 38 #[.int .i64 2, .int .u64 0] := by rw [hW0]; exact (rows_new2 _ _ _ _).alloc _
  have hc : Rows8 W0 (w.heap.size + 1 + 1) 38 #[.int .i64 3, .int .u64 0] := by
    have h := Rows8.new ((w.alloc (.cells #[.int .i64 1, .int .u64 0] 38)).alloc (.cells #[.int .i64 2, .int .u64 0] 38)) 38 #[.int .i64 3, .int .u64 0]
    rw [World.size_alloc, World.size_alloc] at h
    rw [hW0]; exact h
  have C0 : Hid (WkC W0 W0 w.heap.size) := Lib.hid ⟨hon.below hB0, ha, hb, hc, Below.refl _ _⟩
  have HB0 := Lib.hid hB0
  clear hon hB0 ha hb hc
  go_enter Tryd.func7, Tryd.ntmps7
  go_wp2_with fail
  rw [← hW0]
  clear hW0
  refine Tryd.wk_r2 w.heap.size W0 w.heap.size _ (Lib.hid HB0.out.size) C0 (Lib.hid ?_) (fun c d v a w h => by cases d <;> exact h)
  intro B4 s1 z19 z20 z21 z22 z23 z24 W1 hbn hr hlo hcc
  have R4 := Lib.hid hr
  have L4 := Lib.hid hlo
  have C4 := Lib.hid hcc
  have HBN := Lib.hid hbn
  clear hr hlo hcc hbn
  have c0 : W1.cell? ⟨B4, 0, none⟩ = some (.int .u64 (k1.2.1 : Nat)) := R4.out.cell 0
  have c1 : W1.cell? ⟨B4, 1, none⟩ = some (.slice (s1.a 0) (s1.n 0) (s1.c 0)) := R4.out.cell 1
  have c2 : W1.cell? ⟨B4, 2, none⟩ = some (.slice (s1.a 1) (s1.n 1) (s1.c 1)) := R4.out.cell 2
  have c3 : W1.cell? ⟨B4, 3, none⟩ = some (.slice (s1.a 2) (s1.n 2) (s1.c 2)) := R4.out.cell 3
  have l4 := R4.out.lt
  have HC := Lib.hid (Tryd.wkAdvancek2 W1 s1 _ L4.out)
  go_wp2_with fail
  refine HC.out.mono ?_
  rintro e V1 ⟨⟨s2, rfl, hlo⟩, hC⟩
  have hr := R4.out.below hC R4.out.lt
  have hcc := C4.out.below hC
  clear c0 c1 c2 c3 l4 HC
  have d0 : V1.cell? ⟨B4, 0, none⟩ = some (.int .u64 (k1.2.1 : Nat)) := hr.cell 0
  have f0 := hr.frozen 0
  have d1 : V1.cell? ⟨B4, 1, none⟩ = some (.slice (s1.a 0) (s1.n 0) (s1.c 0)) := hr.cell 1
  have f1 := hr.frozen 1
  have d2 : V1.cell? ⟨B4, 2, none⟩ = some (.slice (s1.a 1) (s1.n 1) (s1.c 1)) := hr.cell 2
  have f2 := hr.frozen 2
  have d3 : V1.cell? ⟨B4, 3, none⟩ = some (.slice (s1.a 2) (s1.n 2) (s1.c 2)) := hr.cell 3
  have f3 := hr.frozen 3
  have l5 := hr.lt
  have R5 := Lib.hid (rows4 hr (.int .u64 (k2.2.1 : Nat)) (.slice (s2.a 0) (s2.n 0) (s2.c 0)) (.slice (s2.a 1) (s2.n 1) (s2.c 1)) (.slice (s2.a 2) (s2.n 2) (s2.c 2)))
  have L5 := Lib.hid (LO.setT hlo hr (.int .u64 (k2.2.1 : Nat)) (.slice (s2.a 0) (s2.n 0) (s2.c 0)) (.slice (s2.a 1) (s2.n 1) (s2.c 1)) (.slice (s2.a 2) (s2.n 2) (s2.c 2)))
  have C5 := Lib.hid (hcc.set4 hr HBN.out (.int .u64 (k2.2.1 : Nat)) (.slice (s2.a 0) (s2.n 0) (s2.c 0)) (.slice (s2.a 1) (s2.n 1) (s2.c 1)) (.slice (s2.a 2) (s2.n 2) (s2.c 2)) C0.out.on)
  clear hr hlo hcc hC R4 L4 C4
  have R4 := R5
  have L4 := L5
  have C4 := C5
  clear R5 L5 C5
  have c0 : ((((V1.setCell ⟨B4, 0, none⟩ (.int .u64 (k2.2.1 : Nat))).setCell ⟨B4, 1, none⟩ (.slice (s2.a 0) (s2.n 0) (s2.c 0))).setCell ⟨B4, 2, none⟩ (.slice (s2.a 1) (s2.n 1) (s2.c 1))).setCell ⟨B4, 3, none⟩ (.slice (s2.a 2) (s2.n 2) (s2.c 2))).cell? ⟨B4, 0, none⟩ = some (.int .u64 (k2.2.1 : Nat)) := R4.out.cell 0
  have c1 : ((((V1.setCell ⟨B4, 0, none⟩ (.int .u64 (k2.2.1 : Nat))).setCell ⟨B4, 1, none⟩ (.slice (s2.a 0) (s2.n 0) (s2.c 0))).setCell ⟨B4, 2, none⟩ (.slice (s2.a 1) (s2.n 1) (s2.c 1))).setCell ⟨B4, 3, none⟩ (.slice (s2.a 2) (s2.n 2) (s2.c 2))).cell? ⟨B4, 1, none⟩ = some (.slice (s2.a 0) (s2.n 0) (s2.c 0)) := R4.out.cell 1
  have c2 : ((((V1.setCell ⟨B4, 0, none⟩ (.int .u64 (k2.2.1 : Nat))).setCell ⟨B4, 1, none⟩ (.slice (s2.a 0) (s2.n 0) (s2.c 0))).setCell ⟨B4, 2, none⟩ (.slice (s2.a 1) (s2.n 1) (s2.c 1))).setCell ⟨B4, 3, none⟩ (.slice (s2.a 2) (s2.n 2) (s2.c 2))).cell? ⟨B4, 2, none⟩ = some (.slice (s2.a 1) (s2.n 1) (s2.c 1)) := R4.out.cell 2
  have c3 : ((((V1.setCell ⟨B4, 0, none⟩ (.int .u64 (k2.2.1 : Nat))).setCell ⟨B4, 1, none⟩ (.slice (s2.a 0) (s2.n 0) (s2.c 0))).setCell ⟨B4, 2, none⟩ (.slice (s2.a 1) (s2.n 1) (s2.c 1))).setCell ⟨B4, 3, none⟩ (.slice (s2.a 2) (s2.n 2) (s2.c 2))).cell? ⟨B4, 3, none⟩ = some (.slice (s2.a 2) (s2.n 2) (s2.c 2)) := R4.out.cell 3
  have y0 : ((((V1.setCell ⟨B4, 0, none⟩ (.int .u64 (k2.2.1 : Nat))).setCell ⟨B4, 1, none⟩ (.slice (s2.a 0) (s2.n 0) (s2.c 0))).setCell ⟨B4, 2, none⟩ (.slice (s2.a 1) (s2.n 1) (s2.c 1))).setCell ⟨B4, 3, none⟩ (.slice (s2.a 2) (s2.n 2) (s2.c 2))).cell? ⟨w.heap.size + 1, 0, none⟩ = some (.int .i64 2) := C4.out.b.cell 0
  have y1 : ((((V1.setCell ⟨B4, 0, none⟩ (.int .u64 (k2.2.1 : Nat))).setCell ⟨B4, 1, none⟩ (.slice (s2.a 0) (s2.n 0) (s2.c 0))).setCell ⟨B4, 2, none⟩ (.slice (s2.a 1) (s2.n 1) (s2.c 1))).setCell ⟨B4, 3, none⟩ (.slice (s2.a 2) (s2.n 2) (s2.c 2))).cell? ⟨w.heap.size + 1, 1, none⟩ = some (.int .u64 0) := C4.out.b.cell 1
  have ly := C4.out.b.lt
  have l4 := R4.out.lt
  have HC := Lib.hid (Tryd.wkRetirek3 ((((V1.setCell ⟨B4, 0, none⟩ (.int .u64 (k2.2.1 : Nat))).setCell ⟨B4, 1, none⟩ (.slice (s2.a 0) (s2.n 0) (s2.c 0))).setCell ⟨B4, 2, none⟩ (.slice (s2.a 1) (s2.n 1) (s2.c 1))).setCell ⟨B4, 3, none⟩ (.slice (s2.a 2) (s2.n 2) (s2.c 2))) s2 _ L4.out)
  go_wp2_with fail
  refine HC.out.mono ?_
  rintro e V2 ⟨⟨s3, rfl, hlo⟩, hC⟩
  have hr := R4.out.below hC R4.out.lt
  have hcc := C4.out.below hC
  clear c0 c1 c2 c3 l4 HC
  clear d0 d1 d2 d3 f0 f1 f2 f3
  clear y0 y1 ly
  have d0 : V2.cell? ⟨B4, 0, none⟩ = some (.int .u64 (k2.2.1 : Nat)) := hr.cell 0
  have f0 := hr.frozen 0
  have d1 : V2.cell? ⟨B4, 1, none⟩ = some (.slice (s2.a 0) (s2.n 0) (s2.c 0)) := hr.cell 1
  have f1 := hr.frozen 1
  have d2 : V2.cell? ⟨B4, 2, none⟩ = some (.slice (s2.a 1) (s2.n 1) (s2.c 1)) := hr.cell 2
  have f2 := hr.frozen 2
  have d3 : V2.cell? ⟨B4, 3, none⟩ = some (.slice (s2.a 2) (s2.n 2) (s2.c 2)) := hr.cell 3
  have f3 := hr.frozen 3
  have l5 := hr.lt
  have R5 := Lib.hid (rows4 hr (.int .u64 (k3.2.1 : Nat)) (.slice (s3.a 0) (s3.n 0) (s3.c 0)) (.slice (s3.a 1) (s3.n 1) (s3.c 1)) (.slice (s3.a 2) (s3.n 2) (s3.c 2)))
  have L5 := Lib.hid (LO.setT hlo hr (.int .u64 (k3.2.1 : Nat)) (.slice (s3.a 0) (s3.n 0) (s3.c 0)) (.slice (s3.a 1) (s3.n 1) (s3.c 1)) (.slice (s3.a 2) (s3.n 2) (s3.c 2)))
  have C5 := Lib.hid (hcc.set4 hr HBN.out (.int .u64 (k3.2.1 : Nat)) (.slice (s3.a 0) (s3.n 0) (s3.c 0)) (.slice (s3.a 1) (s3.n 1) (s3.c 1)) (.slice (s3.a 2) (s3.n 2) (s3.c 2)) C0.out.on)
  clear hr hlo hcc hC R4 L4 C4
  have R4 := R5
  have L4 := L5
  have C4 := C5
  clear R5 L5 C5
  have c0 : ((((V2.setCell ⟨B4, 0, none⟩ (.int .u64 (k3.2.1 : Nat))).setCell ⟨B4, 1, none⟩ (.slice (s3.a 0) (s3.n 0) (s3.c 0))).setCell ⟨B4, 2, none⟩ (.slice (s3.a 1) (s3.n 1) (s3.c 1))).setCell ⟨B4, 3, none⟩ (.slice (s3.a 2) (s3.n 2) (s3.c 2))).cell? ⟨B4, 0, none⟩ = some (.int .u64 (k3.2.1 : Nat)) := R4.out.cell 0
  have c1 : ((((V2.setCell ⟨B4, 0, none⟩ (.int .u64 (k3.2.1 : Nat))).setCell ⟨B4, 1, none⟩ (.slice (s3.a 0) (s3.n 0) (s3.c 0))).setCell ⟨B4, 2, none⟩ (.slice (s3.a 1) (s3.n 1) (s3.c 1))).setCell ⟨B4, 3, none⟩ (.slice (s3.a 2) (s3.n 2) (s3.c 2))).cell? ⟨B4, 1, none⟩ = some (.slice (s3.a 0) (s3.n 0) (s3.c 0)) := R4.out.cell 1
  have c2 : ((((V2.setCell ⟨B4, 0, none⟩ (.int .u64 (k3.2.1 : Nat))).setCell ⟨B4, 1, none⟩ (.slice (s3.a 0) (s3.n 0) (s3.c 0))).setCell ⟨B4, 2, none⟩ (.slice (s3.a 1) (s3.n 1) (s3.c 1))).setCell ⟨B4, 3, none⟩ (.slice (s3.a 2) (s3.n 2) (s3.c 2))).cell? ⟨B4, 2, none⟩ = some (.slice (s3.a 1) (s3.n 1) (s3.c 1)) := R4.out.cell 2
  have c3 : ((((V2.setCell ⟨B4, 0, none⟩ (.int .u64 (k3.2.1 : Nat))).setCell ⟨B4, 1, none⟩ (.slice (s3.a 0) (s3.n 0) (s3.c 0))).setCell ⟨B4, 2, none⟩ (.slice (s3.a 1) (s3.n 1) (s3.c 1))).setCell ⟨B4, 3, none⟩ (.slice (s3.a 2) (s3.n 2) (s3.c 2))).cell? ⟨B4, 3, none⟩ = some (.slice (s3.a 2) (s3.n 2) (s3.c 2)) := R4.out.cell 3
  have l4 := R4.out.lt
  have HC := Lib.hid (Tryd.wkAdvancek4 ((((V2.setCell ⟨B4, 0, none⟩ (.int .u64 (k3.2.1 : Nat))).setCell ⟨B4, 1, none⟩ (.slice (s3.a 0) (s3.n 0) (s3.c 0))).setCell ⟨B4, 2, none⟩ (.slice (s3.a 1) (s3.n 1) (s3.c 1))).setCell ⟨B4, 3, none⟩ (.slice (s3.a 2) (s3.n 2) (s3.c 2))) s3 _ L4.out)
  go_wp2_with fail
  refine HC.out.mono ?_
  rintro e V3 ⟨⟨s4, rfl, hlo⟩, hC⟩
  have hr := R4.out.below hC R4.out.lt
  have hcc := C4.out.below hC
  clear c0 c1 c2 c3 l4 HC
  clear d0 d1 d2 d3 f0 f1 f2 f3
  have d0 : V3.cell? ⟨B4, 0, none⟩ = some (.int .u64 (k3.2.1 : Nat)) := hr.cell 0
  have f0 := hr.frozen 0
  have d1 : V3.cell? ⟨B4, 1, none⟩ = some (.slice (s3.a 0) (s3.n 0) (s3.c 0)) := hr.cell 1
  have f1 := hr.frozen 1
  have d2 : V3.cell? ⟨B4, 2, none⟩ = some (.slice (s3.a 1) (s3.n 1) (s3.c 1)) := hr.cell 2
  have f2 := hr.frozen 2
  have d3 : V3.cell? ⟨B4, 3, none⟩ = some (.slice (s3.a 2) (s3.n 2) (s3.c 2)) := hr.cell 3
  have f3 := hr.frozen 3
  have l5 := hr.lt
  have R5 := Lib.hid (rows4 hr (.int .u64 (k4.2.1 : Nat)) (.slice (s4.a 0) (s4.n 0) (s4.c 0)) (.slice (s4.a 1) (s4.n 1) (s4.c 1)) (.slice (s4.a 2) (s4.n 2) (s4.c 2)))
  have L5 := Lib.hid (LO.setT hlo hr (.int .u64 (k4.2.1 : Nat)) (.slice (s4.a 0) (s4.n 0) (s4.c 0)) (.slice (s4.a 1) (s4.n 1) (s4.c 1)) (.slice (s4.a 2) (s4.n 2) (s4.c 2)))
  have C5 := Lib.hid (hcc.set4 hr HBN.out (.int .u64 (k4.2.1 : Nat)) (.slice (s4.a 0) (s4.n 0) (s4.c 0)) (.slice (s4.a 1) (s4.n 1) (s4.c 1)) (.slice (s4.a 2) (s4.n 2) (s4.c 2)) C0.out.on)
  clear hr hlo hcc hC R4 L4 C4
  have R4 := R5
  have L4 := L5
  have C4 := C5
  clear R5 L5 C5
  have c0 : ((((V3.setCell ⟨B4, 0, none⟩ (.int .u64 (k4.2.1 : Nat))).setCell ⟨B4, 1, none⟩ (.slice (s4.a 0) (s4.n 0) (s4.c 0))).setCell ⟨B4, 2, none⟩ (.slice (s4.a 1) (s4.n 1) (s4.c 1))).setCell ⟨B4, 3, none⟩ (.slice (s4.a 2) (s4.n 2) (s4.c 2))).cell? ⟨B4, 0, none⟩ = some (.int .u64 (k4.2.1 : Nat)) := R4.out.cell 0
  have c1 : ((((V3.setCell ⟨B4, 0, none⟩ (.int .u64 (k4.2.1 : Nat))).setCell ⟨B4, 1, none⟩ (.slice (s4.a 0) (s4.n 0) (s4.c 0))).setCell ⟨B4, 2, none⟩ (.slice (s4.a 1) (s4.n 1) (s4.c 1))).setCell ⟨B4, 3, none⟩ (.slice (s4.a 2) (s4.n 2) (s4.c 2))).cell? ⟨B4, 1, none⟩ = some (.slice (s4.a 0) (s4.n 0) (s4.c 0)) := R4.out.cell 1
  have c2 : ((((V3.setCell ⟨B4, 0, none⟩ (.int .u64 (k4.2.1 : Nat))).setCell ⟨B4, 1, none⟩ (.slice (s4.a 0) (s4.n 0) (s4.c 0))).setCell ⟨B4, 2, none⟩ (.slice (s4.a 1) (s4.n 1) (s4.c 1))).setCell ⟨B4, 3, none⟩ (.slice (s4.a 2) (s4.n 2) (s4.c 2))).cell? ⟨B4, 2, none⟩ = some (.slice (s4.a 1) (s4.n 1) (s4.c 1)) := R4.out.cell 2
  have c3 : ((((V3.setCell ⟨B4, 0, none⟩ (.int .u64 (k4.2.1 : Nat))).setCell ⟨B4, 1, none⟩ (.slice (s4.a 0) (s4.n 0) (s4.c 0))).setCell ⟨B4, 2, none⟩ (.slice (s4.a 1) (s4.n 1) (s4.c 1))).setCell ⟨B4, 3, none⟩ (.slice (s4.a 2) (s4.n 2) (s4.c 2))).cell? ⟨B4, 3, none⟩ = some (.slice (s4.a 2) (s4.n 2) (s4.c 2)) := R4.out.cell 3
  have l4 := R4.out.lt
  have HC := Lib.hid (Tryd.wkAdvancek5 ((((V3.setCell ⟨B4, 0, none⟩ (.int .u64 (k4.2.1 : Nat))).setCell ⟨B4, 1, none⟩ (.slice (s4.a 0) (s4.n 0) (s4.c 0))).setCell ⟨B4, 2, none⟩ (.slice (s4.a 1) (s4.n 1) (s4.c 1))).setCell ⟨B4, 3, none⟩ (.slice (s4.a 2) (s4.n 2) (s4.c 2))) s4 _ L4.out)
  go_wp2_with fail
  refine HC.out.mono ?_
  rintro e V5 ⟨⟨s5, rfl, -⟩, hC⟩
  have hal : Below V5.heap.size V5 (V5.alloc (.cells #[.int .u64 (k5.2.1 : Nat), .slice (s5.a 0) (s5.n 0) (s5.c 0), .slice (s5.a 1) (s5.n 1) (s5.c 1), .slice (s5.a 2) (s5.n 2) (s5.c 2)] 26)) := Rows8.newB
  have hC2 := hC.trans (hal.mono hC.size)
  have R5 := Lib.hid (R4.out.below hC2 R4.out.lt)
  have L5 := Lib.hid (L4.out.below hC2)
  have C5 := Lib.hid (C4.out.below hC2)
  have l6 : B4 < V5.heap.size := Nat.lt_of_lt_of_le R4.out.lt hC.size
  clear c0 c1 c2 c3 l4 l5 d0 d1 d2 d3 f0 f1 f2 f3 HC hC hal hC2 R4 L4 C4
  have R4 := R5
  have L4 := L5
  have C4 := C5
  clear R5 L5 C5
  have c0 : (V5.alloc (.cells #[.int .u64 (k5.2.1 : Nat), .slice (s5.a 0) (s5.n 0) (s5.c 0), .slice (s5.a 1) (s5.n 1) (s5.c 1), .slice (s5.a 2) (s5.n 2) (s5.c 2)] 26)).cell? ⟨B4, 0, none⟩ = some (.int .u64 (k4.2.1 : Nat)) := R4.out.cell 0
  have c1 : (V5.alloc (.cells #[.int .u64 (k5.2.1 : Nat), .slice (s5.a 0) (s5.n 0) (s5.c 0), .slice (s5.a 1) (s5.n 1) (s5.c 1), .slice (s5.a 2) (s5.n 2) (s5.c 2)] 26)).cell? ⟨B4, 1, none⟩ = some (.slice (s4.a 0) (s4.n 0) (s4.c 0)) := R4.out.cell 1
  have c2 : (V5.alloc (.cells #[.int .u64 (k5.2.1 : Nat), .slice (s5.a 0) (s5.n 0) (s5.c 0), .slice (s5.a 1) (s5.n 1) (s5.c 1), .slice (s5.a 2) (s5.n 2) (s5.c 2)] 26)).cell? ⟨B4, 2, none⟩ = some (.slice (s4.a 1) (s4.n 1) (s4.c 1)) := R4.out.cell 2
  have c3 : (V5.alloc (.cells #[.int .u64 (k5.2.1 : Nat), .slice (s5.a 0) (s5.n 0) (s5.c 0), .slice (s5.a 1) (s5.n 1) (s5.c 1), .slice (s5.a 2) (s5.n 2) (s5.c 2)] 26)).cell? ⟨B4, 3, none⟩ = some (.slice (s4.a 2) (s4.n 2) (s4.c 2)) := R4.out.cell 3
  have l4 := R4.out.lt
  have HC := Lib.hid (Tryd.wkWhen (V5.alloc (.cells #[.int .u64 (k5.2.1 : Nat), .slice (s5.a 0) (s5.n 0) (s5.c 0), .slice (s5.a 1) (s5.n 1) (s5.c 1), .slice (s5.a 2) (s5.n 2) (s5.c 2)] 26)) s4 _ L4.out)
  go_wp2_with fail
  refine HC.out.mono ?_
  rintro e W6 ⟨rfl, hC⟩
  have R5 := Lib.hid (R4.out.below hC R4.out.lt)
  have L5 := Lib.hid (L4.out.below hC)
  have C5 := Lib.hid (C4.out.below hC)
  clear c0 c1 c2 c3 l4 l6 HC hC R4 L4 C4
  go_wp2_with fail
  refine Tryd.wk_r8 w.heap.size W6 w.heap.size _ (Lib.hid (Nat.le_trans HB0.out.size C5.out.bl.size)) (Lib.hid ⟨C5.out.on, C5.out.a, C5.out.b, C5.out.c, Below.refl _ _⟩) (Lib.hid ?_) (fun c d v a w h => by cases d <;> exact h)
  intro BR ta tc z51 z52 z53 z54 z55 z56 z57 z58 z59 z60 z61 z62 z63 z64 z65 W7 ht hcc
  have R4 := Lib.hid (R5.out.below hcc.bl R5.out.lt)
  have L4 := Lib.hid (L5.out.below hcc.bl)
  have HB := Lib.hid (HB0.out.trans ((C5.out.bl.trans (hcc.bl.mono C5.out.bl.size)).mono HB0.out.size))
  have HT := Lib.hid ht
  have C4 := Lib.hid hcc
  clear ht hcc R5 L5 C5 C0 HB0 HBN
  go_wp2_with fail
  obtain ⟨NN, hNN⟩ : ∃ N, Hid (LO N k4.2.2 s4 W7) := ⟨_, L4⟩
  refine wp_region_X (fun W' => Rows8 W' B4 26 #[.int .u64 (k4.2.1 : Nat), .slice (s4.a 0) (s4.n 0) (s4.c 0), .slice (s4.a 1) (s4.n 1) (s4.c 1), .slice (s4.a 2) (s4.n 2) (s4.c 2)] ∧ Rows8 W' w.heap.size 38 #[.int .i64 1, .int .u64 0] ∧ Rows8 W' (w.heap.size + 1) 38 #[.int .i64 2, .int .u64 0] ∧ Rows8 W' (w.heap.size + 1 + 1) 38 #[.int .i64 3, .int .u64 0]) 51 (by kernel_rfl) ?_
  have hS0 : Rows8 W7.drew B4 26 #[.int .u64 (k4.2.1 : Nat), .slice (s4.a 0) (s4.n 0) (s4.c 0), .slice (s4.a 1) (s4.n 1) (s4.c 1), .slice (s4.a 2) (s4.n 2) (s4.c 2)] ∧ Rows8 W7.drew w.heap.size 38 #[.int .i64 1, .int .u64 0] ∧ Rows8 W7.drew (w.heap.size + 1) 38 #[.int .i64 2, .int .u64 0] ∧ Rows8 W7.drew (w.heap.size + 1 + 1) 38 #[.int .i64 3, .int .u64 0] := ⟨R4.out.drewA, C4.out.a.drewA, C4.out.b.drewA, C4.out.c.drewA⟩
  have HL : Hid (LO NN k4.2.2 s4 W7.drew) := Lib.hid ⟨fun k hk => (hNN.out.1 k hk).drew, hNN.out.2⟩
  have HT2 : Hid (PAt W7.drew (.slice ta 3 tc) [(1, 0), (2, 0), (3, 0)]) := Lib.hid HT.out.drew.at
  have HBB : Hid (Below w.heap.size w W7.drew) := Lib.hid HB.out.drew
  clear R4 C4 L4 hNN HT HB
  generalize W7.drew = X0 at *
  refine wpAnyN_take (i := 0) (oi := { dst := some 66, op := Go.Op.move (Go.Operand.tmp 5), type := 31, pos := "law.go:25", after := #[], guard := none }) (v := .int .i64 0) rfl (by decide) (by kernel_rfl) (by kernel_rfl) (by kernel_rfl) (fun _ _ _ h => h) (Or.inl ⟨by rfl, ?_⟩) hS0 ?_
  · intro W9 hS9
    obtain ⟨q0, q1, q2, q3⟩ := hS9
    clear q0 q1 q2 q3
    go_simp
  try simp only [Act.put, List.setIfInBounds_toArray, List.set_cons_zero, List.set_cons_succ]
  refine wpAnyN_take (i := 1) (oi := { dst := some 67, op := Go.Op.binOp Go.BinOp.eql 31 (Go.Operand.tmp 66) (Go.Operand.const (Go.Value.int Go.IntKind.i64 0)) 31, type := 4, pos := "law.go:25", after := #[{ on := 0, ground := Go.Ground.data }], guard := none }) (v := .bool true) rfl (by decide) (by kernel_rfl) (by kernel_rfl) (by kernel_rfl) (fun _ _ _ h => h) (Or.inl ⟨by rfl, ?_⟩) hS0 ?_
  · intro W9 hS9
    obtain ⟨q0, q1, q2, q3⟩ := hS9
    clear q0 q1 q2 q3
    go_simp
  try simp only [Act.put, List.setIfInBounds_toArray, List.set_cons_zero, List.set_cons_succ]
  refine wpAnyN_take (i := 2) (oi := { dst := some 68, op := Go.Op.move (Go.Operand.tmp 67), type := 4, pos := "law.go:25", after := #[{ on := 1, ground := Go.Ground.data }], guard := none }) (v := .bool true) rfl (by decide) (by kernel_rfl) (by kernel_rfl) (by kernel_rfl) (fun _ _ _ h => h) (Or.inl ⟨by rfl, ?_⟩) hS0 ?_
  · intro W9 hS9
    obtain ⟨q0, q1, q2, q3⟩ := hS9
    clear q0 q1 q2 q3
    go_simp
  try simp only [Act.put, List.setIfInBounds_toArray, List.set_cons_zero, List.set_cons_succ]
  refine wpAnyN_take (i := 3) (oi := { dst := some 69, op := Go.Op.move (Go.Operand.tmp 6), type := 31, pos := "law.go:25", after := #[{ on := 2, ground := Go.Ground.guard }], guard := some (2, true) }) (v := .int .i64 0) rfl (by decide) (by kernel_rfl) (by kernel_rfl) (by kernel_rfl) (fun _ _ _ h => h) (Or.inl ⟨by rfl, ?_⟩) hS0 ?_
  · intro W9 hS9
    obtain ⟨q0, q1, q2, q3⟩ := hS9
    clear q0 q1 q2 q3
    go_simp
  try simp only [Act.put, List.setIfInBounds_toArray, List.set_cons_zero, List.set_cons_succ]
  refine wpAnyN_take (i := 4) (oi := { dst := some 70, op := Go.Op.binOp Go.BinOp.eql 31 (Go.Operand.tmp 69) (Go.Operand.const (Go.Value.int Go.IntKind.i64 0)) 31, type := 4, pos := "law.go:25", after := #[{ on := 3, ground := Go.Ground.data }, { on := 2, ground := Go.Ground.guard }], guard := some (2, true) }) (v := .bool true) rfl (by decide) (by kernel_rfl) (by kernel_rfl) (by kernel_rfl) (fun _ _ _ h => h) (Or.inl ⟨by rfl, ?_⟩) hS0 ?_
  · intro W9 hS9
    obtain ⟨q0, q1, q2, q3⟩ := hS9
    clear q0 q1 q2 q3
    go_simp
  try simp only [Act.put, List.setIfInBounds_toArray, List.set_cons_zero, List.set_cons_succ]
  refine wpAnyN_take (i := 5) (oi := { dst := some 71, op := Go.Op.pick (Go.Operand.tmp 68) (Go.Operand.tmp 70) (Go.Operand.const (Go.Value.bool false)), type := 4, pos := "law.go:25", after := #[{ on := 2, ground := Go.Ground.data }, { on := 4, ground := Go.Ground.data }], guard := none }) (v := .bool true) rfl (by decide) (by kernel_rfl) (by kernel_rfl) (by kernel_rfl) (fun _ _ _ h => h) (Or.inl ⟨by rfl, ?_⟩) hS0 ?_
  · intro W9 hS9
    obtain ⟨q0, q1, q2, q3⟩ := hS9
    clear q0 q1 q2 q3
    go_simp
  try simp only [Act.put, List.setIfInBounds_toArray, List.set_cons_zero, List.set_cons_succ]
  refine wpAnyN_take (i := 6) (oi := { dst := some 72, op := Go.Op.move (Go.Operand.tmp 71), type := 4, pos := "law.go:25", after := #[{ on := 5, ground := Go.Ground.data }, { on := 2, ground := Go.Ground.chain }], guard := none }) (v := .bool true) rfl (by decide) (by kernel_rfl) (by kernel_rfl) (by kernel_rfl) (fun _ _ _ h => h) (Or.inl ⟨by rfl, ?_⟩) hS0 ?_
  · intro W9 hS9
    obtain ⟨q0, q1, q2, q3⟩ := hS9
    clear q0 q1 q2 q3
    go_simp
  try simp only [Act.put, List.setIfInBounds_toArray, List.set_cons_zero, List.set_cons_succ]
  refine wpAnyN_take (i := 7) (oi := { dst := some 73, op := Go.Op.move (Go.Operand.tmp 7), type := 31, pos := "law.go:25", after := #[{ on := 6, ground := Go.Ground.guard }], guard := some (6, true) }) (v := .int .i64 0) rfl (by decide) (by kernel_rfl) (by kernel_rfl) (by kernel_rfl) (fun _ _ _ h => h) (Or.inl ⟨by rfl, ?_⟩) hS0 ?_
  · intro W9 hS9
    obtain ⟨q0, q1, q2, q3⟩ := hS9
    clear q0 q1 q2 q3
    go_simp
  try simp only [Act.put, List.setIfInBounds_toArray, List.set_cons_zero, List.set_cons_succ]
  refine wpAnyN_take (i := 8) (oi := { dst := some 74, op := Go.Op.binOp Go.BinOp.eql 31 (Go.Operand.tmp 73) (Go.Operand.const (Go.Value.int Go.IntKind.i64 0)) 31, type := 4, pos := "law.go:25", after := #[{ on := 7, ground := Go.Ground.data }, { on := 6, ground := Go.Ground.guard }], guard := some (6, true) }) (v := .bool true) rfl (by decide) (by kernel_rfl) (by kernel_rfl) (by kernel_rfl) (fun _ _ _ h => h) (Or.inl ⟨by rfl, ?_⟩) hS0 ?_
  · intro W9 hS9
    obtain ⟨q0, q1, q2, q3⟩ := hS9
    clear q0 q1 q2 q3
    go_simp
  try simp only [Act.put, List.setIfInBounds_toArray, List.set_cons_zero, List.set_cons_succ]
  refine wpAnyN_take (i := 9) (oi := { dst := some 75, op := Go.Op.pick (Go.Operand.tmp 72) (Go.Operand.tmp 74) (Go.Operand.const (Go.Value.bool false)), type := 4, pos := "law.go:25", after := #[{ on := 6, ground := Go.Ground.data }, { on := 8, ground := Go.Ground.data }], guard := none }) (v := .bool true) rfl (by decide) (by kernel_rfl) (by kernel_rfl) (by kernel_rfl) (fun _ _ _ h => h) (Or.inl ⟨by rfl, ?_⟩) hS0 ?_
  · intro W9 hS9
    obtain ⟨q0, q1, q2, q3⟩ := hS9
    clear q0 q1 q2 q3
    go_simp
  try simp only [Act.put, List.setIfInBounds_toArray, List.set_cons_zero, List.set_cons_succ]
  refine wpAnyN_take (i := 10) (oi := { dst := some 76, op := Go.Op.move (Go.Operand.tmp 75), type := 4, pos := "law.go:25", after := #[{ on := 9, ground := Go.Ground.data }, { on := 6, ground := Go.Ground.chain }], guard := none }) (v := .bool true) rfl (by decide) (by kernel_rfl) (by kernel_rfl) (by kernel_rfl) (fun _ _ _ h => h) (Or.inl ⟨by rfl, ?_⟩) hS0 ?_
  · intro W9 hS9
    obtain ⟨q0, q1, q2, q3⟩ := hS9
    clear q0 q1 q2 q3
    go_simp
  try simp only [Act.put, List.setIfInBounds_toArray, List.set_cons_zero, List.set_cons_succ]
  refine wpAnyN_take (i := 11) (oi := { dst := some 77, op := Go.Op.move (Go.Operand.tmp 8), type := 31, pos := "law.go:25", after := #[{ on := 10, ground := Go.Ground.guard }], guard := some (10, true) }) (v := .int .i64 0) rfl (by decide) (by kernel_rfl) (by kernel_rfl) (by kernel_rfl) (fun _ _ _ h => h) (Or.inl ⟨by rfl, ?_⟩) hS0 ?_
  · intro W9 hS9
    obtain ⟨q0, q1, q2, q3⟩ := hS9
    clear q0 q1 q2 q3
    go_simp
  try simp only [Act.put, List.setIfInBounds_toArray, List.set_cons_zero, List.set_cons_succ]
  refine wpAnyN_take (i := 12) (oi := { dst := some 78, op := Go.Op.binOp Go.BinOp.eql 31 (Go.Operand.tmp 77) (Go.Operand.const (Go.Value.int Go.IntKind.i64 0)) 31, type := 4, pos := "law.go:25", after := #[{ on := 11, ground := Go.Ground.data }, { on := 10, ground := Go.Ground.guard }], guard := some (10, true) }) (v := .bool true) rfl (by decide) (by kernel_rfl) (by kernel_rfl) (by kernel_rfl) (fun _ _ _ h => h) (Or.inl ⟨by rfl, ?_⟩) hS0 ?_
  · intro W9 hS9
    obtain ⟨q0, q1, q2, q3⟩ := hS9
    clear q0 q1 q2 q3
    go_simp
  try simp only [Act.put, List.setIfInBounds_toArray, List.set_cons_zero, List.set_cons_succ]
  refine wpAnyN_take (i := 13) (oi := { dst := some 79, op := Go.Op.pick (Go.Operand.tmp 76) (Go.Operand.tmp 78) (Go.Operand.const (Go.Value.bool false)), type := 4, pos := "law.go:25", after := #[{ on := 10, ground := Go.Ground.data }, { on := 12, ground := Go.Ground.data }], guard := none }) (v := .bool true) rfl (by decide) (by kernel_rfl) (by kernel_rfl) (by kernel_rfl) (fun _ _ _ h => h) (Or.inl ⟨by rfl, ?_⟩) hS0 ?_
  · intro W9 hS9
    obtain ⟨q0, q1, q2, q3⟩ := hS9
    clear q0 q1 q2 q3
    go_simp
  try simp only [Act.put, List.setIfInBounds_toArray, List.set_cons_zero, List.set_cons_succ]
  refine wpAnyN_take (i := 14) (oi := { dst := some 80, op := Go.Op.move (Go.Operand.tmp 79), type := 4, pos := "law.go:25", after := #[{ on := 13, ground := Go.Ground.data }, { on := 10, ground := Go.Ground.chain }], guard := none }) (v := .bool true) rfl (by decide) (by kernel_rfl) (by kernel_rfl) (by kernel_rfl) (fun _ _ _ h => h) (Or.inl ⟨by rfl, ?_⟩) hS0 ?_
  · intro W9 hS9
    obtain ⟨q0, q1, q2, q3⟩ := hS9
    clear q0 q1 q2 q3
    go_simp
  try simp only [Act.put, List.setIfInBounds_toArray, List.set_cons_zero, List.set_cons_succ]
  refine wpAnyN_take (i := 15) (oi := { dst := some 81, op := Go.Op.move (Go.Operand.tmp 15), type := 31, pos := "law.go:25", after := #[{ on := 14, ground := Go.Ground.guard }], guard := some (14, true) }) (v := .int .i64 0) rfl (by decide) (by kernel_rfl) (by kernel_rfl) (by kernel_rfl) (fun _ _ _ h => h) (Or.inl ⟨by rfl, ?_⟩) hS0 ?_
  · intro W9 hS9
    obtain ⟨q0, q1, q2, q3⟩ := hS9
    clear q0 q1 q2 q3
    go_simp
  try simp only [Act.put, List.setIfInBounds_toArray, List.set_cons_zero, List.set_cons_succ]
  refine wpAnyN_take (i := 16) (oi := { dst := some 82, op := Go.Op.binOp Go.BinOp.eql 31 (Go.Operand.tmp 81) (Go.Operand.const (Go.Value.int Go.IntKind.i64 0)) 31, type := 4, pos := "law.go:25", after := #[{ on := 15, ground := Go.Ground.data }, { on := 14, ground := Go.Ground.guard }], guard := some (14, true) }) (v := .bool true) rfl (by decide) (by kernel_rfl) (by kernel_rfl) (by kernel_rfl) (fun _ _ _ h => h) (Or.inl ⟨by rfl, ?_⟩) hS0 ?_
  · intro W9 hS9
    obtain ⟨q0, q1, q2, q3⟩ := hS9
    clear q0 q1 q2 q3
    go_simp
  try simp only [Act.put, List.setIfInBounds_toArray, List.set_cons_zero, List.set_cons_succ]
  refine wpAnyN_take (i := 17) (oi := { dst := some 83, op := Go.Op.pick (Go.Operand.tmp 80) (Go.Operand.tmp 82) (Go.Operand.const (Go.Value.bool false)), type := 4, pos := "law.go:25", after := #[{ on := 14, ground := Go.Ground.data }, { on := 16, ground := Go.Ground.data }], guard := none }) (v := .bool true) rfl (by decide) (by kernel_rfl) (by kernel_rfl) (by kernel_rfl) (fun _ _ _ h => h) (Or.inl ⟨by rfl, ?_⟩) hS0 ?_
  · intro W9 hS9
    obtain ⟨q0, q1, q2, q3⟩ := hS9
    clear q0 q1 q2 q3
    go_simp
  try simp only [Act.put, List.setIfInBounds_toArray, List.set_cons_zero, List.set_cons_succ]
  refine wpAnyN_take (i := 18) (oi := { dst := some 84, op := Go.Op.move (Go.Operand.tmp 83), type := 4, pos := "law.go:25", after := #[{ on := 17, ground := Go.Ground.data }, { on := 14, ground := Go.Ground.chain }], guard := none }) (v := .bool true) rfl (by decide) (by kernel_rfl) (by kernel_rfl) (by kernel_rfl) (fun _ _ _ h => h) (Or.inl ⟨by rfl, ?_⟩) hS0 ?_
  · intro W9 hS9
    obtain ⟨q0, q1, q2, q3⟩ := hS9
    clear q0 q1 q2 q3
    go_simp
  try simp only [Act.put, List.setIfInBounds_toArray, List.set_cons_zero, List.set_cons_succ]
  refine wpAnyN_take (i := 19) (oi := { dst := some 85, op := Go.Op.move (Go.Operand.tmp 10), type := 31, pos := "law.go:25", after := #[{ on := 18, ground := Go.Ground.guard }], guard := some (18, true) }) (v := .int .i64 241) rfl (by decide) (by kernel_rfl) (by kernel_rfl) (by kernel_rfl) (fun _ _ _ h => h) (Or.inl ⟨by rfl, ?_⟩) hS0 ?_
  · intro W9 hS9
    obtain ⟨q0, q1, q2, q3⟩ := hS9
    clear q0 q1 q2 q3
    go_simp
  try simp only [Act.put, List.setIfInBounds_toArray, List.set_cons_zero, List.set_cons_succ]
  refine wpAnyN_take (i := 20) (oi := { dst := some 86, op := Go.Op.binOp Go.BinOp.eql 31 (Go.Operand.tmp 85) (Go.Operand.const (Go.Value.int Go.IntKind.i64 241)) 31, type := 4, pos := "law.go:25", after := #[{ on := 19, ground := Go.Ground.data }, { on := 18, ground := Go.Ground.guard }], guard := some (18, true) }) (v := .bool true) rfl (by decide) (by kernel_rfl) (by kernel_rfl) (by kernel_rfl) (fun _ _ _ h => h) (Or.inl ⟨by rfl, ?_⟩) hS0 ?_
  · intro W9 hS9
    obtain ⟨q0, q1, q2, q3⟩ := hS9
    clear q0 q1 q2 q3
    go_simp
  try simp only [Act.put, List.setIfInBounds_toArray, List.set_cons_zero, List.set_cons_succ]
  refine wpAnyN_take (i := 21) (oi := { dst := some 87, op := Go.Op.pick (Go.Operand.tmp 84) (Go.Operand.tmp 86) (Go.Operand.const (Go.Value.bool false)), type := 4, pos := "law.go:25", after := #[{ on := 18, ground := Go.Ground.data }, { on := 20, ground := Go.Ground.data }], guard := none }) (v := .bool true) rfl (by decide) (by kernel_rfl) (by kernel_rfl) (by kernel_rfl) (fun _ _ _ h => h) (Or.inl ⟨by rfl, ?_⟩) hS0 ?_
  · intro W9 hS9
    obtain ⟨q0, q1, q2, q3⟩ := hS9
    clear q0 q1 q2 q3
    go_simp
  try simp only [Act.put, List.setIfInBounds_toArray, List.set_cons_zero, List.set_cons_succ]
  refine wpAnyN_take (i := 22) (oi := { dst := some 88, op := Go.Op.move (Go.Operand.tmp 87), type := 4, pos := "law.go:25", after := #[{ on := 21, ground := Go.Ground.data }, { on := 18, ground := Go.Ground.chain }], guard := none }) (v := .bool true) rfl (by decide) (by kernel_rfl) (by kernel_rfl) (by kernel_rfl) (fun _ _ _ h => h) (Or.inl ⟨by rfl, ?_⟩) hS0 ?_
  · intro W9 hS9
    obtain ⟨q0, q1, q2, q3⟩ := hS9
    clear q0 q1 q2 q3
    go_simp
  try simp only [Act.put, List.setIfInBounds_toArray, List.set_cons_zero, List.set_cons_succ]
  refine wpAnyN_take (i := 23) (oi := { dst := some 89, op := Go.Op.load 26 (Go.Operand.tmp 4), type := 26, pos := "law.go:25", after := #[{ on := 22, ground := Go.Ground.guard }], guard := some (22, true) }) (v := .agg #[.int .u64 (k4.2.1 : Nat), .slice (s4.a 0) (s4.n 0) (s4.c 0), .slice (s4.a 1) (s4.n 1) (s4.c 1), .slice (s4.a 2) (s4.n 2) (s4.c 2)]) rfl (by decide) (by kernel_rfl) (by kernel_rfl) (by kernel_rfl) (fun _ _ _ h => h) (Or.inl ⟨by rfl, ?_⟩) hS0 ?_
  · intro W9 hS9
    obtain ⟨q0, q1, q2, q3⟩ := hS9
    have s0 : W9.cell? ⟨B4, 0, none⟩ = some (.int .u64 (k4.2.1 : Nat)) := q0.cell 0
    have s1 : W9.cell? ⟨B4, 1, none⟩ = some (.slice (s4.a 0) (s4.n 0) (s4.c 0)) := q0.cell 1
    have s2 : W9.cell? ⟨B4, 2, none⟩ = some (.slice (s4.a 1) (s4.n 1) (s4.c 1)) := q0.cell 2
    have s3 : W9.cell? ⟨B4, 3, none⟩ = some (.slice (s4.a 2) (s4.n 2) (s4.c 2)) := q0.cell 3
    clear q0 q1 q2 q3
    go_simp
  try simp only [Act.put, List.setIfInBounds_toArray, List.set_cons_zero, List.set_cons_succ]
  refine wpAnyN_take (i := 25) (oi := { dst := some 91, op := Go.Op.load 38 (Go.Operand.tmp 1), type := 38, pos := "law.go:25", after := #[{ on := 22, ground := Go.Ground.guard }], guard := some (22, true) }) (v := .agg #[.int .i64 1, .int .u64 0]) rfl (by decide) (by kernel_rfl) (by kernel_rfl) (by kernel_rfl) (fun _ _ _ h => h) (Or.inl ⟨by rfl, ?_⟩) hS0 ?_
  · intro W9 hS9
    obtain ⟨q0, q1, q2, q3⟩ := hS9
    have s0 : W9.cell? ⟨w.heap.size, 0, none⟩ = some (.int .i64 1) := q1.cell 0
    have s1 : W9.cell? ⟨w.heap.size, 1, none⟩ = some (.int .u64 0) := q1.cell 1
    clear q0 q1 q2 q3
    go_simp
  try simp only [Act.put, List.setIfInBounds_toArray, List.set_cons_zero, List.set_cons_succ]
  refine wpAnyX_two (i := 24) (j := 26) (oi := { dst := some 90, op := Go.Op.call { callee := Go.Callee.value (Go.Operand.func 15), args := #[Go.Operand.tmp 89], argTypes := #[26] }, type := 23, pos := "law.go:25", after := #[{ on := 23, ground := Go.Ground.data }, { on := 22, ground := Go.Ground.chain }, { on := 22, ground := Go.Ground.guard }], guard := some (22, true) }) (oj := { dst := some 92, op := Go.Op.buildSlice 23 1 #[(0, Go.Operand.tmp 91)], type := 23, pos := "law.go:25", after := #[{ on := 25, ground := Go.Ground.data }, { on := 22, ground := Go.Ground.guard }], guard := some (22, true) }) (by kernel_rfl) rfl rfl (fun K hK => ?_) (fun K hK => ?_)
  · refine step_call_g (by rfl) 15 _ _ rfl (fun _ _ => by kernel_rfl) #[.agg #[.int .u64 (k4.2.1 : Nat), .slice (s4.a 0) (s4.n 0) (s4.c 0), .slice (s4.a 1) (s4.n 1) (s4.c 1), .slice (s4.a 2) (s4.n 2) (s4.c 2)]] (by simp [go_sem]) _ (Tryd.wkReady X0 s4 _ HL.out) ?_
    rintro e x1 ⟨⟨ra, rc, rfl, hP⟩, hC⟩
    refine ⟨_, rfl, ?_⟩
    have HRD : Hid (PAt x1 (.slice ra 1 rc) [(1, 0)]) := Lib.hid hP
    clear hP
    have hS1 : Rows8 x1 B4 26 #[.int .u64 (k4.2.1 : Nat), .slice (s4.a 0) (s4.n 0) (s4.c 0), .slice (s4.a 1) (s4.n 1) (s4.c 1), .slice (s4.a 2) (s4.n 2) (s4.c 2)] ∧ Rows8 x1 w.heap.size 38 #[.int .i64 1, .int .u64 0] ∧ Rows8 x1 (w.heap.size + 1) 38 #[.int .i64 2, .int .u64 0] ∧ Rows8 x1 (w.heap.size + 1 + 1) 38 #[.int .i64 3, .int .u64 0] := ⟨hS0.1.below hC hS0.1.lt, hS0.2.1.below hC hS0.2.1.lt, hS0.2.2.1.below hC hS0.2.2.1.lt, hS0.2.2.2.below hC hS0.2.2.2.lt⟩
    have HL := Lib.hid (HL.out.below hC)
    have HT2 : Hid (PAt x1 (.slice ta 3 tc) [(1, 0), (2, 0), (3, 0)]) := Lib.hid (PAt.below HT2.out hC)
    have HBB := Lib.hid (HBB.out.trans (hC.mono HBB.out.size))
    clear hC
    refine hK.out _ _ (fun _ => hS1) ?_
    clear hK K
    try simp only [Act.put, List.setIfInBounds_toArray, List.set_cons_zero, List.set_cons_succ]
    refine wpAnyX_one (i := 26) (o := { dst := some 92, op := Go.Op.buildSlice 23 1 #[(0, Go.Operand.tmp 91)], type := 23, pos := "law.go:25", after := #[{ on := 25, ground := Go.Ground.data }, { on := 22, ground := Go.Ground.guard }], guard := some (22, true) }) (by kernel_rfl) rfl (fun K hK => ?_)
    obtain ⟨g26, hg26⟩ : ∃ b, b = x1.heap.size := ⟨_, rfl⟩
    have hC : Below x1.heap.size x1 (x1.alloc (.cells #[.int .i64 1, .int .u64 0] 38)) := Rows8.newB
    have L26 : Hid (PAt (x1.alloc (.cells #[.int .i64 1, .int .u64 0] 38)) (.slice (some ⟨g26, 0, none⟩) 1 1) [(1, 0)]) := Lib.hid (by rw [hg26]; exact lit_ents x1 [(1, 0)] (by decide))
    refine step_value_g (by rfl) (.slice (some ⟨g26, 0, none⟩) 1 1) (w' := (x1.alloc (.cells #[.int .i64 1, .int .u64 0] 38))) (by rw [hg26]; go_simp) ?_
    clear hg26
    generalize (x1.alloc (.cells #[.int .i64 1, .int .u64 0] 38)) = x2 at *
    have hS2 : Rows8 x2 B4 26 #[.int .u64 (k4.2.1 : Nat), .slice (s4.a 0) (s4.n 0) (s4.c 0), .slice (s4.a 1) (s4.n 1) (s4.c 1), .slice (s4.a 2) (s4.n 2) (s4.c 2)] ∧ Rows8 x2 w.heap.size 38 #[.int .i64 1, .int .u64 0] ∧ Rows8 x2 (w.heap.size + 1) 38 #[.int .i64 2, .int .u64 0] ∧ Rows8 x2 (w.heap.size + 1 + 1) 38 #[.int .i64 3, .int .u64 0] := ⟨hS1.1.below hC hS1.1.lt, hS1.2.1.below hC hS1.2.1.lt, hS1.2.2.1.below hC hS1.2.2.1.lt, hS1.2.2.2.below hC hS1.2.2.2.lt⟩
    have HL := Lib.hid (HL.out.below hC)
    have HT2 : Hid (PAt x2 (.slice ta 3 tc) [(1, 0), (2, 0), (3, 0)]) := Lib.hid (PAt.below HT2.out hC)
    have HBB := Lib.hid (HBB.out.trans (hC.mono HBB.out.size))
    have HRD := Lib.hid (PAt.below HRD.out hC)
    clear hC
    refine hK.out _ _ (fun _ => hS2) ?_
    clear hK K
    try simp only [Act.put, List.setIfInBounds_toArray, List.set_cons_zero, List.set_cons_succ]
    refine wpAnyX_one (i := 27) (o := { dst := some 93, op := Go.Op.call { callee := Go.Callee.value (Go.Operand.func 17), args := #[Go.Operand.tmp 90, Go.Operand.tmp 92], argTypes := #[23, 23] }, type := 4, pos := "law.go:25", after := #[{ on := 24, ground := Go.Ground.data }, { on := 26, ground := Go.Ground.data }, { on := 24, ground := Go.Ground.chain }, { on := 22, ground := Go.Ground.guard }], guard := some (22, true) }) (by kernel_rfl) rfl (fun K hK => ?_)
    refine step_call_g (by rfl) 17 _ _ rfl (fun _ _ => by kernel_rfl) #[.slice ra 1 rc, .slice (some ⟨g26, 0, none⟩) 1 1] (by simp [go_sem]) _ ((Tryd.equalEntry_any ra (some ⟨g26, 0, none⟩) 1 1 rc 1 [(1, 0)] [(1, 0)] x2 HRD.out L26.out (by decide) (by decide))) ?_
    rintro e x3 ⟨rfl, hC⟩
    refine ⟨.bool true, by simp, ?_⟩
    have hS3 : Rows8 x3 B4 26 #[.int .u64 (k4.2.1 : Nat), .slice (s4.a 0) (s4.n 0) (s4.c 0), .slice (s4.a 1) (s4.n 1) (s4.c 1), .slice (s4.a 2) (s4.n 2) (s4.c 2)] ∧ Rows8 x3 w.heap.size 38 #[.int .i64 1, .int .u64 0] ∧ Rows8 x3 (w.heap.size + 1) 38 #[.int .i64 2, .int .u64 0] ∧ Rows8 x3 (w.heap.size + 1 + 1) 38 #[.int .i64 3, .int .u64 0] := ⟨hS2.1.below hC hS2.1.lt, hS2.2.1.below hC hS2.2.1.lt, hS2.2.2.1.below hC hS2.2.2.1.lt, hS2.2.2.2.below hC hS2.2.2.2.lt⟩
    have HL := Lib.hid (HL.out.below hC)
    have HT2 : Hid (PAt x3 (.slice ta 3 tc) [(1, 0), (2, 0), (3, 0)]) := Lib.hid (PAt.below HT2.out hC)
    have HBB := Lib.hid (HBB.out.trans (hC.mono HBB.out.size))
    clear hC
    refine hK.out _ _ (fun _ => hS3) ?_
    clear hK K
    try simp only [Act.put, List.setIfInBounds_toArray, List.set_cons_zero, List.set_cons_succ]
    refine wpAnyN_take (i := 28) (oi := { dst := some 94, op := Go.Op.pick (Go.Operand.tmp 88) (Go.Operand.tmp 93) (Go.Operand.const (Go.Value.bool false)), type := 4, pos := "law.go:25", after := #[{ on := 22, ground := Go.Ground.data }, { on := 27, ground := Go.Ground.data }], guard := none }) (v := .bool true) rfl (by decide) (by kernel_rfl) (by kernel_rfl) (by kernel_rfl) (fun _ _ _ h => h) (Or.inl ⟨by rfl, ?_⟩) hS3 ?_
    · intro W9 hS9
      obtain ⟨q0, q1, q2, q3⟩ := hS9
      clear q0 q1 q2 q3
      go_simp
    try simp only [Act.put, List.setIfInBounds_toArray, List.set_cons_zero, List.set_cons_succ]
    refine wpAnyN_take (i := 29) (oi := { dst := some 95, op := Go.Op.move (Go.Operand.tmp 94), type := 4, pos := "law.go:25", after := #[{ on := 28, ground := Go.Ground.data }, { on := 27, ground := Go.Ground.chain }], guard := none }) (v := .bool true) rfl (by decide) (by kernel_rfl) (by kernel_rfl) (by kernel_rfl) (fun _ _ _ h => h) (Or.inl ⟨by rfl, ?_⟩) hS3 ?_
    · intro W9 hS9
      obtain ⟨q0, q1, q2, q3⟩ := hS9
      clear q0 q1 q2 q3
      go_simp
    try simp only [Act.put, List.setIfInBounds_toArray, List.set_cons_zero, List.set_cons_succ]
    refine wpAnyN_take (i := 30) (oi := { dst := some 96, op := Go.Op.move (Go.Operand.tmp 11), type := 22, pos := "law.go:25", after := #[{ on := 29, ground := Go.Ground.guard }], guard := some (29, true) }) (v := .int .u64 1) rfl (by decide) (by kernel_rfl) (by kernel_rfl) (by kernel_rfl) (fun _ _ _ h => h) (Or.inl ⟨by rfl, ?_⟩) hS3 ?_
    · intro W9 hS9
      obtain ⟨q0, q1, q2, q3⟩ := hS9
      clear q0 q1 q2 q3
      go_simp
    try simp only [Act.put, List.setIfInBounds_toArray, List.set_cons_zero, List.set_cons_succ]
    refine wpAnyN_take (i := 31) (oi := { dst := some 97, op := Go.Op.binOp Go.BinOp.eql 22 (Go.Operand.tmp 96) (Go.Operand.const (Go.Value.int Go.IntKind.u64 1)) 22, type := 4, pos := "law.go:25", after := #[{ on := 30, ground := Go.Ground.data }, { on := 29, ground := Go.Ground.guard }], guard := some (29, true) }) (v := .bool true) rfl (by decide) (by kernel_rfl) (by kernel_rfl) (by kernel_rfl) (fun _ _ _ h => h) (Or.inl ⟨by rfl, ?_⟩) hS3 ?_
    · intro W9 hS9
      obtain ⟨q0, q1, q2, q3⟩ := hS9
      clear q0 q1 q2 q3
      go_simp
    try simp only [Act.put, List.setIfInBounds_toArray, List.set_cons_zero, List.set_cons_succ]
    refine wpAnyN_take (i := 32) (oi := { dst := some 98, op := Go.Op.pick (Go.Operand.tmp 95) (Go.Operand.tmp 97) (Go.Operand.const (Go.Value.bool false)), type := 4, pos := "law.go:25", after := #[{ on := 29, ground := Go.Ground.data }, { on := 31, ground := Go.Ground.data }], guard := none }) (v := .bool true) rfl (by decide) (by kernel_rfl) (by kernel_rfl) (by kernel_rfl) (fun _ _ _ h => h) (Or.inl ⟨by rfl, ?_⟩) hS3 ?_
    · intro W9 hS9
      obtain ⟨q0, q1, q2, q3⟩ := hS9
      clear q0 q1 q2 q3
      go_simp
    try simp only [Act.put, List.setIfInBounds_toArray, List.set_cons_zero, List.set_cons_succ]
    refine wpAnyN_take (i := 33) (oi := { dst := some 99, op := Go.Op.move (Go.Operand.tmp 98), type := 4, pos := "law.go:25", after := #[{ on := 32, ground := Go.Ground.data }, { on := 29, ground := Go.Ground.chain }], guard := none }) (v := .bool true) rfl (by decide) (by kernel_rfl) (by kernel_rfl) (by kernel_rfl) (fun _ _ _ h => h) (Or.inl ⟨by rfl, ?_⟩) hS3 ?_
    · intro W9 hS9
      obtain ⟨q0, q1, q2, q3⟩ := hS9
      clear q0 q1 q2 q3
      go_simp
    try simp only [Act.put, List.setIfInBounds_toArray, List.set_cons_zero, List.set_cons_succ]
    refine wpAnyN_take (i := 34) (oi := { dst := some 100, op := Go.Op.move (Go.Operand.tmp 12), type := 4, pos := "law.go:25", after := #[{ on := 33, ground := Go.Ground.guard }], guard := some (33, true) }) (v := .bool true) rfl (by decide) (by kernel_rfl) (by kernel_rfl) (by kernel_rfl) (fun _ _ _ h => h) (Or.inl ⟨by rfl, ?_⟩) hS3 ?_
    · intro W9 hS9
      obtain ⟨q0, q1, q2, q3⟩ := hS9
      clear q0 q1 q2 q3
      go_simp
    try simp only [Act.put, List.setIfInBounds_toArray, List.set_cons_zero, List.set_cons_succ]
    refine wpAnyN_take (i := 35) (oi := { dst := some 101, op := Go.Op.pick (Go.Operand.tmp 99) (Go.Operand.tmp 100) (Go.Operand.const (Go.Value.bool false)), type := 4, pos := "law.go:25", after := #[{ on := 33, ground := Go.Ground.data }, { on := 34, ground := Go.Ground.data }], guard := none }) (v := .bool true) rfl (by decide) (by kernel_rfl) (by kernel_rfl) (by kernel_rfl) (fun _ _ _ h => h) (Or.inl ⟨by rfl, ?_⟩) hS3 ?_
    · intro W9 hS9
      obtain ⟨q0, q1, q2, q3⟩ := hS9
      clear q0 q1 q2 q3
      go_simp
    try simp only [Act.put, List.setIfInBounds_toArray, List.set_cons_zero, List.set_cons_succ]
    refine wpAnyN_take (i := 36) (oi := { dst := some 102, op := Go.Op.move (Go.Operand.tmp 101), type := 4, pos := "law.go:25", after := #[{ on := 35, ground := Go.Ground.data }, { on := 33, ground := Go.Ground.chain }], guard := none }) (v := .bool true) rfl (by decide) (by kernel_rfl) (by kernel_rfl) (by kernel_rfl) (fun _ _ _ h => h) (Or.inl ⟨by rfl, ?_⟩) hS3 ?_
    · intro W9 hS9
      obtain ⟨q0, q1, q2, q3⟩ := hS9
      clear q0 q1 q2 q3
      go_simp
    try simp only [Act.put, List.setIfInBounds_toArray, List.set_cons_zero, List.set_cons_succ]
    refine wpAnyN_take (i := 37) (oi := { dst := some 103, op := Go.Op.move (Go.Operand.tmp 14), type := 23, pos := "law.go:25", after := #[{ on := 36, ground := Go.Ground.guard }], guard := some (36, true) }) (v := .slice ta 3 tc) rfl (by decide) (by kernel_rfl) (by kernel_rfl) (by kernel_rfl) (fun _ _ _ h => h) (Or.inl ⟨by rfl, ?_⟩) hS3 ?_
    · intro W9 hS9
      obtain ⟨q0, q1, q2, q3⟩ := hS9
      clear q0 q1 q2 q3
      go_simp
    try simp only [Act.put, List.setIfInBounds_toArray, List.set_cons_zero, List.set_cons_succ]
    refine wpAnyN_take (i := 38) (oi := { dst := some 104, op := Go.Op.load 38 (Go.Operand.tmp 1), type := 38, pos := "law.go:25", after := #[{ on := 36, ground := Go.Ground.guard }], guard := some (36, true) }) (v := .agg #[.int .i64 1, .int .u64 0]) rfl (by decide) (by kernel_rfl) (by kernel_rfl) (by kernel_rfl) (fun _ _ _ h => h) (Or.inl ⟨by rfl, ?_⟩) hS3 ?_
    · intro W9 hS9
      obtain ⟨q0, q1, q2, q3⟩ := hS9
      have s0 : W9.cell? ⟨w.heap.size, 0, none⟩ = some (.int .i64 1) := q1.cell 0
      have s1 : W9.cell? ⟨w.heap.size, 1, none⟩ = some (.int .u64 0) := q1.cell 1
      clear q0 q1 q2 q3
      go_simp
    try simp only [Act.put, List.setIfInBounds_toArray, List.set_cons_zero, List.set_cons_succ]
    refine wpAnyN_take (i := 39) (oi := { dst := some 105, op := Go.Op.load 38 (Go.Operand.tmp 2), type := 38, pos := "law.go:25", after := #[{ on := 36, ground := Go.Ground.guard }], guard := some (36, true) }) (v := .agg #[.int .i64 2, .int .u64 0]) rfl (by decide) (by kernel_rfl) (by kernel_rfl) (by kernel_rfl) (fun _ _ _ h => h) (Or.inl ⟨by rfl, ?_⟩) hS3 ?_
    · intro W9 hS9
      obtain ⟨q0, q1, q2, q3⟩ := hS9
      have s0 : W9.cell? ⟨w.heap.size + 1, 0, none⟩ = some (.int .i64 2) := q2.cell 0
      have s1 : W9.cell? ⟨w.heap.size + 1, 1, none⟩ = some (.int .u64 0) := q2.cell 1
      clear q0 q1 q2 q3
      go_simp
    try simp only [Act.put, List.setIfInBounds_toArray, List.set_cons_zero, List.set_cons_succ]
    refine wpAnyN_take (i := 40) (oi := { dst := some 106, op := Go.Op.load 38 (Go.Operand.tmp 3), type := 38, pos := "law.go:25", after := #[{ on := 36, ground := Go.Ground.guard }], guard := some (36, true) }) (v := .agg #[.int .i64 3, .int .u64 0]) rfl (by decide) (by kernel_rfl) (by kernel_rfl) (by kernel_rfl) (fun _ _ _ h => h) (Or.inl ⟨by rfl, ?_⟩) hS3 ?_
    · intro W9 hS9
      obtain ⟨q0, q1, q2, q3⟩ := hS9
      have s0 : W9.cell? ⟨w.heap.size + 1 + 1, 0, none⟩ = some (.int .i64 3) := q3.cell 0
      have s1 : W9.cell? ⟨w.heap.size + 1 + 1, 1, none⟩ = some (.int .u64 0) := q3.cell 1
      clear q0 q1 q2 q3
      go_simp
    try simp only [Act.put, List.setIfInBounds_toArray, List.set_cons_zero, List.set_cons_succ]
    refine wpAnyX_one (i := 41) (o := { dst := some 107, op := Go.Op.buildSlice 23 3 #[(0, Go.Operand.tmp 104), (1, Go.Operand.tmp 105), (2, Go.Operand.tmp 106)], type := 23, pos := "law.go:25", after := #[{ on := 38, ground := Go.Ground.data }, { on := 39, ground := Go.Ground.data }, { on := 40, ground := Go.Ground.data }, { on := 36, ground := Go.Ground.guard }], guard := some (36, true) }) (by kernel_rfl) rfl (fun K hK => ?_)
    obtain ⟨g41, hg41⟩ : ∃ b, b = x3.heap.size := ⟨_, rfl⟩
    have hC : Below x3.heap.size x3 (x3.alloc (.cells #[.int .i64 1, .int .u64 0, .int .i64 2, .int .u64 0, .int .i64 3, .int .u64 0] 38)) := Rows8.newB
    have L41 : Hid (PAt (x3.alloc (.cells #[.int .i64 1, .int .u64 0, .int .i64 2, .int .u64 0, .int .i64 3, .int .u64 0] 38)) (.slice (some ⟨g41, 0, none⟩) 3 3) [(1, 0), (2, 0), (3, 0)]) := Lib.hid (by rw [hg41]; exact lit_ents x3 [(1, 0), (2, 0), (3, 0)] (by decide))
    refine step_value_g (by rfl) (.slice (some ⟨g41, 0, none⟩) 3 3) (w' := (x3.alloc (.cells #[.int .i64 1, .int .u64 0, .int .i64 2, .int .u64 0, .int .i64 3, .int .u64 0] 38))) (by rw [hg41]; go_simp) ?_
    clear hg41
    generalize (x3.alloc (.cells #[.int .i64 1, .int .u64 0, .int .i64 2, .int .u64 0, .int .i64 3, .int .u64 0] 38)) = x4 at *
    have hS4 : Rows8 x4 B4 26 #[.int .u64 (k4.2.1 : Nat), .slice (s4.a 0) (s4.n 0) (s4.c 0), .slice (s4.a 1) (s4.n 1) (s4.c 1), .slice (s4.a 2) (s4.n 2) (s4.c 2)] ∧ Rows8 x4 w.heap.size 38 #[.int .i64 1, .int .u64 0] ∧ Rows8 x4 (w.heap.size + 1) 38 #[.int .i64 2, .int .u64 0] ∧ Rows8 x4 (w.heap.size + 1 + 1) 38 #[.int .i64 3, .int .u64 0] := ⟨hS3.1.below hC hS3.1.lt, hS3.2.1.below hC hS3.2.1.lt, hS3.2.2.1.below hC hS3.2.2.1.lt, hS3.2.2.2.below hC hS3.2.2.2.lt⟩
    have HL := Lib.hid (HL.out.below hC)
    have HT2 : Hid (PAt x4 (.slice ta 3 tc) [(1, 0), (2, 0), (3, 0)]) := Lib.hid (PAt.below HT2.out hC)
    have HBB := Lib.hid (HBB.out.trans (hC.mono HBB.out.size))
    clear hC
    refine hK.out _ _ (fun _ => hS4) ?_
    clear hK K
    try simp only [Act.put, List.setIfInBounds_toArray, List.set_cons_zero, List.set_cons_succ]
    refine wpAnyX_one (i := 42) (o := { dst := some 108, op := Go.Op.call { callee := Go.Callee.value (Go.Operand.func 17), args := #[Go.Operand.tmp 103, Go.Operand.tmp 107], argTypes := #[23, 23] }, type := 4, pos := "law.go:25", after := #[{ on := 37, ground := Go.Ground.data }, { on := 41, ground := Go.Ground.data }, { on := 36, ground := Go.Ground.chain }, { on := 36, ground := Go.Ground.guard }], guard := some (36, true) }) (by kernel_rfl) rfl (fun K hK => ?_)
    refine step_call_g (by rfl) 17 _ _ rfl (fun _ _ => by kernel_rfl) #[.slice ta 3 tc, .slice (some ⟨g41, 0, none⟩) 3 3] (by simp [go_sem]) _ ((Tryd.equalEntry_any ta (some ⟨g41, 0, none⟩) 3 3 tc 3 [(1, 0), (2, 0), (3, 0)] [(1, 0), (2, 0), (3, 0)] x4 HT2.out L41.out (by decide) (by decide))) ?_
    rintro e x5 ⟨rfl, hC⟩
    refine ⟨.bool true, by simp, ?_⟩
    have hS5 : Rows8 x5 B4 26 #[.int .u64 (k4.2.1 : Nat), .slice (s4.a 0) (s4.n 0) (s4.c 0), .slice (s4.a 1) (s4.n 1) (s4.c 1), .slice (s4.a 2) (s4.n 2) (s4.c 2)] ∧ Rows8 x5 w.heap.size 38 #[.int .i64 1, .int .u64 0] ∧ Rows8 x5 (w.heap.size + 1) 38 #[.int .i64 2, .int .u64 0] ∧ Rows8 x5 (w.heap.size + 1 + 1) 38 #[.int .i64 3, .int .u64 0] := ⟨hS4.1.below hC hS4.1.lt, hS4.2.1.below hC hS4.2.1.lt, hS4.2.2.1.below hC hS4.2.2.1.lt, hS4.2.2.2.below hC hS4.2.2.2.lt⟩
    have HL := Lib.hid (HL.out.below hC)
    have HT2 : Hid (PAt x5 (.slice ta 3 tc) [(1, 0), (2, 0), (3, 0)]) := Lib.hid (PAt.below HT2.out hC)
    have HBB := Lib.hid (HBB.out.trans (hC.mono HBB.out.size))
    clear hC
    refine hK.out _ _ (fun _ => hS5) ?_
    clear hK K
    try simp only [Act.put, List.setIfInBounds_toArray, List.set_cons_zero, List.set_cons_succ]
    refine wpAnyN_take (i := 43) (oi := { dst := some 109, op := Go.Op.pick (Go.Operand.tmp 102) (Go.Operand.tmp 108) (Go.Operand.const (Go.Value.bool false)), type := 4, pos := "law.go:25", after := #[{ on := 36, ground := Go.Ground.data }, { on := 42, ground := Go.Ground.data }], guard := none }) (v := .bool true) rfl (by decide) (by kernel_rfl) (by kernel_rfl) (by kernel_rfl) (fun _ _ _ h => h) (Or.inl ⟨by rfl, ?_⟩) hS5 ?_
    · intro W9 hS9
      obtain ⟨q0, q1, q2, q3⟩ := hS9
      clear q0 q1 q2 q3
      go_simp
    try simp only [Act.put, List.setIfInBounds_toArray, List.set_cons_zero, List.set_cons_succ]
    refine wpAnyN_take (i := 44) (oi := { dst := some 110, op := Go.Op.move (Go.Operand.tmp 109), type := 4, pos := "law.go:25", after := #[{ on := 43, ground := Go.Ground.data }, { on := 42, ground := Go.Ground.chain }], guard := none }) (v := .bool true) rfl (by decide) (by kernel_rfl) (by kernel_rfl) (by kernel_rfl) (fun _ _ _ h => h) (Or.inl ⟨by rfl, ?_⟩) hS5 ?_
    · intro W9 hS9
      obtain ⟨q0, q1, q2, q3⟩ := hS9
      clear q0 q1 q2 q3
      go_simp
    try simp only [Act.put, List.setIfInBounds_toArray, List.set_cons_zero, List.set_cons_succ]
    refine wpAnyN_take (i := 45) (oi := { dst := some 111, op := Go.Op.load 26 (Go.Operand.tmp 4), type := 26, pos := "law.go:25", after := #[{ on := 44, ground := Go.Ground.guard }], guard := some (44, true) }) (v := .agg #[.int .u64 (k4.2.1 : Nat), .slice (s4.a 0) (s4.n 0) (s4.c 0), .slice (s4.a 1) (s4.n 1) (s4.c 1), .slice (s4.a 2) (s4.n 2) (s4.c 2)]) rfl (by decide) (by kernel_rfl) (by kernel_rfl) (by kernel_rfl) (fun _ _ _ h => h) (Or.inl ⟨by rfl, ?_⟩) hS5 ?_
    · intro W9 hS9
      obtain ⟨q0, q1, q2, q3⟩ := hS9
      have s0 : W9.cell? ⟨B4, 0, none⟩ = some (.int .u64 (k4.2.1 : Nat)) := q0.cell 0
      have s1 : W9.cell? ⟨B4, 1, none⟩ = some (.slice (s4.a 0) (s4.n 0) (s4.c 0)) := q0.cell 1
      have s2 : W9.cell? ⟨B4, 2, none⟩ = some (.slice (s4.a 1) (s4.n 1) (s4.c 1)) := q0.cell 2
      have s3 : W9.cell? ⟨B4, 3, none⟩ = some (.slice (s4.a 2) (s4.n 2) (s4.c 2)) := q0.cell 3
      clear q0 q1 q2 q3
      go_simp
    try simp only [Act.put, List.setIfInBounds_toArray, List.set_cons_zero, List.set_cons_succ]
    refine wpAnyX_one (i := 46) (o := { dst := some 112, op := Go.Op.call { callee := Go.Callee.value (Go.Operand.func 16), args := #[Go.Operand.tmp 111], argTypes := #[26] }, type := 23, pos := "law.go:25", after := #[{ on := 45, ground := Go.Ground.data }, { on := 44, ground := Go.Ground.chain }, { on := 44, ground := Go.Ground.guard }], guard := some (44, true) }) (by kernel_rfl) rfl (fun K hK => ?_)
    refine step_call_g (by rfl) 16 _ _ rfl (fun _ _ => by kernel_rfl) #[.agg #[.int .u64 (k4.2.1 : Nat), .slice (s4.a 0) (s4.n 0) (s4.c 0), .slice (s4.a 1) (s4.n 1) (s4.c 1), .slice (s4.a 2) (s4.n 2) (s4.c 2)]] (by simp [go_sem]) _ (Tryd.wkHeld x5 s4 _ HL.out) ?_
    rintro e x6 ⟨⟨ha, hc, rfl⟩, hC⟩
    refine ⟨_, rfl, ?_⟩
    have hS6 : Rows8 x6 B4 26 #[.int .u64 (k4.2.1 : Nat), .slice (s4.a 0) (s4.n 0) (s4.c 0), .slice (s4.a 1) (s4.n 1) (s4.c 1), .slice (s4.a 2) (s4.n 2) (s4.c 2)] ∧ Rows8 x6 w.heap.size 38 #[.int .i64 1, .int .u64 0] ∧ Rows8 x6 (w.heap.size + 1) 38 #[.int .i64 2, .int .u64 0] ∧ Rows8 x6 (w.heap.size + 1 + 1) 38 #[.int .i64 3, .int .u64 0] := ⟨hS5.1.below hC hS5.1.lt, hS5.2.1.below hC hS5.2.1.lt, hS5.2.2.1.below hC hS5.2.2.1.lt, hS5.2.2.2.below hC hS5.2.2.2.lt⟩
    have HL := Lib.hid (HL.out.below hC)
    have HT2 : Hid (PAt x6 (.slice ta 3 tc) [(1, 0), (2, 0), (3, 0)]) := Lib.hid (PAt.below HT2.out hC)
    have HBB := Lib.hid (HBB.out.trans (hC.mono HBB.out.size))
    clear hC
    refine hK.out _ _ (fun _ => hS6) ?_
    clear hK K
    try simp only [Act.put, List.setIfInBounds_toArray, List.set_cons_zero, List.set_cons_succ]
    refine wpAnyN_take (i := 47) (oi := { dst := some 113, op := Go.Op.call { callee := Go.Callee.builtin Go.Builtin.len, args := #[Go.Operand.tmp 112], argTypes := #[23] }, type := 3, pos := "law.go:25", after := #[{ on := 46, ground := Go.Ground.data }, { on := 44, ground := Go.Ground.guard }], guard := some (44, true) }) (v := .int .i64 2) rfl (by decide) (by kernel_rfl) (by kernel_rfl) (by kernel_rfl) (fun _ _ _ h => h) (Or.inl ⟨by rfl, ?_⟩) hS6 ?_
    · intro W9 hS9
      obtain ⟨q0, q1, q2, q3⟩ := hS9
      clear q0 q1 q2 q3
      go_simp
    try simp only [Act.put, List.setIfInBounds_toArray, List.set_cons_zero, List.set_cons_succ]
    refine wpAnyN_take (i := 48) (oi := { dst := some 114, op := Go.Op.binOp Go.BinOp.eql 3 (Go.Operand.tmp 113) (Go.Operand.const (Go.Value.int Go.IntKind.i64 2)) 3, type := 4, pos := "law.go:25", after := #[{ on := 47, ground := Go.Ground.data }, { on := 44, ground := Go.Ground.guard }], guard := some (44, true) }) (v := .bool true) rfl (by decide) (by kernel_rfl) (by kernel_rfl) (by kernel_rfl) (fun _ _ _ h => h) (Or.inl ⟨by rfl, ?_⟩) hS6 ?_
    · intro W9 hS9
      obtain ⟨q0, q1, q2, q3⟩ := hS9
      clear q0 q1 q2 q3
      go_simp
    try simp only [Act.put, List.setIfInBounds_toArray, List.set_cons_zero, List.set_cons_succ]
    refine wpAnyN_take (i := 49) (oi := { dst := some 115, op := Go.Op.pick (Go.Operand.tmp 110) (Go.Operand.tmp 114) (Go.Operand.const (Go.Value.bool false)), type := 4, pos := "law.go:25", after := #[{ on := 44, ground := Go.Ground.data }, { on := 48, ground := Go.Ground.data }], guard := none }) (v := .bool true) rfl (by decide) (by kernel_rfl) (by kernel_rfl) (by kernel_rfl) (fun _ _ _ h => h) (Or.inl ⟨by rfl, ?_⟩) hS6 ?_
    · intro W9 hS9
      obtain ⟨q0, q1, q2, q3⟩ := hS9
      clear q0 q1 q2 q3
      go_simp
    try simp only [Act.put, List.setIfInBounds_toArray, List.set_cons_zero, List.set_cons_succ]
    refine wpAnyN_take (i := 50) (oi := { dst := some 0, op := Go.Op.assign (Go.Operand.tmp 115), type := 4, pos := "law.go:25", after := #[{ on := 49, ground := Go.Ground.data }, { on := 46, ground := Go.Ground.chain }, { on := 0, ground := Go.Ground.phase }, { on := 1, ground := Go.Ground.phase }, { on := 2, ground := Go.Ground.phase }, { on := 3, ground := Go.Ground.phase }, { on := 4, ground := Go.Ground.phase }, { on := 5, ground := Go.Ground.phase }, { on := 6, ground := Go.Ground.phase }, { on := 7, ground := Go.Ground.phase }, { on := 8, ground := Go.Ground.phase }, { on := 9, ground := Go.Ground.phase }, { on := 10, ground := Go.Ground.phase }, { on := 11, ground := Go.Ground.phase }, { on := 12, ground := Go.Ground.phase }, { on := 13, ground := Go.Ground.phase }, { on := 14, ground := Go.Ground.phase }, { on := 15, ground := Go.Ground.phase }, { on := 16, ground := Go.Ground.phase }, { on := 17, ground := Go.Ground.phase }, { on := 18, ground := Go.Ground.phase }, { on := 19, ground := Go.Ground.phase }, { on := 20, ground := Go.Ground.phase }, { on := 21, ground := Go.Ground.phase }, { on := 22, ground := Go.Ground.phase }, { on := 23, ground := Go.Ground.phase }, { on := 24, ground := Go.Ground.phase }, { on := 25, ground := Go.Ground.phase }, { on := 26, ground := Go.Ground.phase }, { on := 27, ground := Go.Ground.phase }, { on := 28, ground := Go.Ground.phase }, { on := 29, ground := Go.Ground.phase }, { on := 30, ground := Go.Ground.phase }, { on := 31, ground := Go.Ground.phase }, { on := 32, ground := Go.Ground.phase }, { on := 33, ground := Go.Ground.phase }, { on := 34, ground := Go.Ground.phase }, { on := 35, ground := Go.Ground.phase }, { on := 36, ground := Go.Ground.phase }, { on := 37, ground := Go.Ground.phase }, { on := 38, ground := Go.Ground.phase }, { on := 39, ground := Go.Ground.phase }, { on := 40, ground := Go.Ground.phase }, { on := 41, ground := Go.Ground.phase }, { on := 42, ground := Go.Ground.phase }, { on := 43, ground := Go.Ground.phase }, { on := 44, ground := Go.Ground.phase }, { on := 45, ground := Go.Ground.phase }, { on := 46, ground := Go.Ground.phase }, { on := 47, ground := Go.Ground.phase }, { on := 48, ground := Go.Ground.phase }, { on := 49, ground := Go.Ground.phase }], guard := none }) (v := .bool true) rfl (by decide) (by kernel_rfl) (by kernel_rfl) (by kernel_rfl) (fun _ _ _ h => h) (Or.inl ⟨by rfl, ?_⟩) hS6 ?_
    · intro W9 hS9
      obtain ⟨q0, q1, q2, q3⟩ := hS9
      clear q0 q1 q2 q3
      go_simp
    try simp only [Act.put, List.setIfInBounds_toArray, List.set_cons_zero, List.set_cons_succ]
    refine wpAnyX_end (by kernel_rfl) ?_
    go_wp2_with fail
    go_ret
    exact ⟨rfl, HBB.out⟩
  · obtain ⟨g26, hg26⟩ : ∃ b, b = X0.heap.size := ⟨_, rfl⟩
    have hC : Below X0.heap.size X0 (X0.alloc (.cells #[.int .i64 1, .int .u64 0] 38)) := Rows8.newB
    have L26 : Hid (PAt (X0.alloc (.cells #[.int .i64 1, .int .u64 0] 38)) (.slice (some ⟨g26, 0, none⟩) 1 1) [(1, 0)]) := Lib.hid (by rw [hg26]; exact lit_ents X0 [(1, 0)] (by decide))
    refine step_value_g (by rfl) (.slice (some ⟨g26, 0, none⟩) 1 1) (w' := (X0.alloc (.cells #[.int .i64 1, .int .u64 0] 38))) (by rw [hg26]; go_simp) ?_
    clear hg26
    generalize (X0.alloc (.cells #[.int .i64 1, .int .u64 0] 38)) = x7 at *
    have hS1 : Rows8 x7 B4 26 #[.int .u64 (k4.2.1 : Nat), .slice (s4.a 0) (s4.n 0) (s4.c 0), .slice (s4.a 1) (s4.n 1) (s4.c 1), .slice (s4.a 2) (s4.n 2) (s4.c 2)] ∧ Rows8 x7 w.heap.size 38 #[.int .i64 1, .int .u64 0] ∧ Rows8 x7 (w.heap.size + 1) 38 #[.int .i64 2, .int .u64 0] ∧ Rows8 x7 (w.heap.size + 1 + 1) 38 #[.int .i64 3, .int .u64 0] := ⟨hS0.1.below hC hS0.1.lt, hS0.2.1.below hC hS0.2.1.lt, hS0.2.2.1.below hC hS0.2.2.1.lt, hS0.2.2.2.below hC hS0.2.2.2.lt⟩
    have HL := Lib.hid (HL.out.below hC)
    have HT2 : Hid (PAt x7 (.slice ta 3 tc) [(1, 0), (2, 0), (3, 0)]) := Lib.hid (PAt.below HT2.out hC)
    have HBB := Lib.hid (HBB.out.trans (hC.mono HBB.out.size))
    clear hC
    refine hK.out _ _ (fun _ => hS1) ?_
    clear hK K
    try simp only [Act.put, List.setIfInBounds_toArray, List.set_cons_zero, List.set_cons_succ]
    refine wpAnyX_one (i := 24) (o := { dst := some 90, op := Go.Op.call { callee := Go.Callee.value (Go.Operand.func 15), args := #[Go.Operand.tmp 89], argTypes := #[26] }, type := 23, pos := "law.go:25", after := #[{ on := 23, ground := Go.Ground.data }, { on := 22, ground := Go.Ground.chain }, { on := 22, ground := Go.Ground.guard }], guard := some (22, true) }) (by kernel_rfl) rfl (fun K hK => ?_)
    refine step_call_g (by rfl) 15 _ _ rfl (fun _ _ => by kernel_rfl) #[.agg #[.int .u64 (k4.2.1 : Nat), .slice (s4.a 0) (s4.n 0) (s4.c 0), .slice (s4.a 1) (s4.n 1) (s4.c 1), .slice (s4.a 2) (s4.n 2) (s4.c 2)]] (by simp [go_sem]) _ (Tryd.wkReady x7 s4 _ HL.out) ?_
    rintro e x8 ⟨⟨ra, rc, rfl, hP⟩, hC⟩
    refine ⟨_, rfl, ?_⟩
    have HRD : Hid (PAt x8 (.slice ra 1 rc) [(1, 0)]) := Lib.hid hP
    clear hP
    have hS2 : Rows8 x8 B4 26 #[.int .u64 (k4.2.1 : Nat), .slice (s4.a 0) (s4.n 0) (s4.c 0), .slice (s4.a 1) (s4.n 1) (s4.c 1), .slice (s4.a 2) (s4.n 2) (s4.c 2)] ∧ Rows8 x8 w.heap.size 38 #[.int .i64 1, .int .u64 0] ∧ Rows8 x8 (w.heap.size + 1) 38 #[.int .i64 2, .int .u64 0] ∧ Rows8 x8 (w.heap.size + 1 + 1) 38 #[.int .i64 3, .int .u64 0] := ⟨hS1.1.below hC hS1.1.lt, hS1.2.1.below hC hS1.2.1.lt, hS1.2.2.1.below hC hS1.2.2.1.lt, hS1.2.2.2.below hC hS1.2.2.2.lt⟩
    have HL := Lib.hid (HL.out.below hC)
    have HT2 : Hid (PAt x8 (.slice ta 3 tc) [(1, 0), (2, 0), (3, 0)]) := Lib.hid (PAt.below HT2.out hC)
    have HBB := Lib.hid (HBB.out.trans (hC.mono HBB.out.size))
    have L26 := Lib.hid (PAt.below L26.out hC)
    clear hC
    refine hK.out _ _ (fun _ => hS2) ?_
    clear hK K
    try simp only [Act.put, List.setIfInBounds_toArray, List.set_cons_zero, List.set_cons_succ]
    refine wpAnyX_one (i := 27) (o := { dst := some 93, op := Go.Op.call { callee := Go.Callee.value (Go.Operand.func 17), args := #[Go.Operand.tmp 90, Go.Operand.tmp 92], argTypes := #[23, 23] }, type := 4, pos := "law.go:25", after := #[{ on := 24, ground := Go.Ground.data }, { on := 26, ground := Go.Ground.data }, { on := 24, ground := Go.Ground.chain }, { on := 22, ground := Go.Ground.guard }], guard := some (22, true) }) (by kernel_rfl) rfl (fun K hK => ?_)
    refine step_call_g (by rfl) 17 _ _ rfl (fun _ _ => by kernel_rfl) #[.slice ra 1 rc, .slice (some ⟨g26, 0, none⟩) 1 1] (by simp [go_sem]) _ ((Tryd.equalEntry_any ra (some ⟨g26, 0, none⟩) 1 1 rc 1 [(1, 0)] [(1, 0)] x8 HRD.out L26.out (by decide) (by decide))) ?_
    rintro e x9 ⟨rfl, hC⟩
    refine ⟨.bool true, by simp, ?_⟩
    have hS3 : Rows8 x9 B4 26 #[.int .u64 (k4.2.1 : Nat), .slice (s4.a 0) (s4.n 0) (s4.c 0), .slice (s4.a 1) (s4.n 1) (s4.c 1), .slice (s4.a 2) (s4.n 2) (s4.c 2)] ∧ Rows8 x9 w.heap.size 38 #[.int .i64 1, .int .u64 0] ∧ Rows8 x9 (w.heap.size + 1) 38 #[.int .i64 2, .int .u64 0] ∧ Rows8 x9 (w.heap.size + 1 + 1) 38 #[.int .i64 3, .int .u64 0] := ⟨hS2.1.below hC hS2.1.lt, hS2.2.1.below hC hS2.2.1.lt, hS2.2.2.1.below hC hS2.2.2.1.lt, hS2.2.2.2.below hC hS2.2.2.2.lt⟩
    have HL := Lib.hid (HL.out.below hC)
    have HT2 : Hid (PAt x9 (.slice ta 3 tc) [(1, 0), (2, 0), (3, 0)]) := Lib.hid (PAt.below HT2.out hC)
    have HBB := Lib.hid (HBB.out.trans (hC.mono HBB.out.size))
    clear hC
    refine hK.out _ _ (fun _ => hS3) ?_
    clear hK K
    try simp only [Act.put, List.setIfInBounds_toArray, List.set_cons_zero, List.set_cons_succ]
    refine wpAnyN_take (i := 28) (oi := { dst := some 94, op := Go.Op.pick (Go.Operand.tmp 88) (Go.Operand.tmp 93) (Go.Operand.const (Go.Value.bool false)), type := 4, pos := "law.go:25", after := #[{ on := 22, ground := Go.Ground.data }, { on := 27, ground := Go.Ground.data }], guard := none }) (v := .bool true) rfl (by decide) (by kernel_rfl) (by kernel_rfl) (by kernel_rfl) (fun _ _ _ h => h) (Or.inl ⟨by rfl, ?_⟩) hS3 ?_
    · intro W9 hS9
      obtain ⟨q0, q1, q2, q3⟩ := hS9
      clear q0 q1 q2 q3
      go_simp
    try simp only [Act.put, List.setIfInBounds_toArray, List.set_cons_zero, List.set_cons_succ]
    refine wpAnyN_take (i := 29) (oi := { dst := some 95, op := Go.Op.move (Go.Operand.tmp 94), type := 4, pos := "law.go:25", after := #[{ on := 28, ground := Go.Ground.data }, { on := 27, ground := Go.Ground.chain }], guard := none }) (v := .bool true) rfl (by decide) (by kernel_rfl) (by kernel_rfl) (by kernel_rfl) (fun _ _ _ h => h) (Or.inl ⟨by rfl, ?_⟩) hS3 ?_
    · intro W9 hS9
      obtain ⟨q0, q1, q2, q3⟩ := hS9
      clear q0 q1 q2 q3
      go_simp
    try simp only [Act.put, List.setIfInBounds_toArray, List.set_cons_zero, List.set_cons_succ]
    refine wpAnyN_take (i := 30) (oi := { dst := some 96, op := Go.Op.move (Go.Operand.tmp 11), type := 22, pos := "law.go:25", after := #[{ on := 29, ground := Go.Ground.guard }], guard := some (29, true) }) (v := .int .u64 1) rfl (by decide) (by kernel_rfl) (by kernel_rfl) (by kernel_rfl) (fun _ _ _ h => h) (Or.inl ⟨by rfl, ?_⟩) hS3 ?_
    · intro W9 hS9
      obtain ⟨q0, q1, q2, q3⟩ := hS9
      clear q0 q1 q2 q3
      go_simp
    try simp only [Act.put, List.setIfInBounds_toArray, List.set_cons_zero, List.set_cons_succ]
    refine wpAnyN_take (i := 31) (oi := { dst := some 97, op := Go.Op.binOp Go.BinOp.eql 22 (Go.Operand.tmp 96) (Go.Operand.const (Go.Value.int Go.IntKind.u64 1)) 22, type := 4, pos := "law.go:25", after := #[{ on := 30, ground := Go.Ground.data }, { on := 29, ground := Go.Ground.guard }], guard := some (29, true) }) (v := .bool true) rfl (by decide) (by kernel_rfl) (by kernel_rfl) (by kernel_rfl) (fun _ _ _ h => h) (Or.inl ⟨by rfl, ?_⟩) hS3 ?_
    · intro W9 hS9
      obtain ⟨q0, q1, q2, q3⟩ := hS9
      clear q0 q1 q2 q3
      go_simp
    try simp only [Act.put, List.setIfInBounds_toArray, List.set_cons_zero, List.set_cons_succ]
    refine wpAnyN_take (i := 32) (oi := { dst := some 98, op := Go.Op.pick (Go.Operand.tmp 95) (Go.Operand.tmp 97) (Go.Operand.const (Go.Value.bool false)), type := 4, pos := "law.go:25", after := #[{ on := 29, ground := Go.Ground.data }, { on := 31, ground := Go.Ground.data }], guard := none }) (v := .bool true) rfl (by decide) (by kernel_rfl) (by kernel_rfl) (by kernel_rfl) (fun _ _ _ h => h) (Or.inl ⟨by rfl, ?_⟩) hS3 ?_
    · intro W9 hS9
      obtain ⟨q0, q1, q2, q3⟩ := hS9
      clear q0 q1 q2 q3
      go_simp
    try simp only [Act.put, List.setIfInBounds_toArray, List.set_cons_zero, List.set_cons_succ]
    refine wpAnyN_take (i := 33) (oi := { dst := some 99, op := Go.Op.move (Go.Operand.tmp 98), type := 4, pos := "law.go:25", after := #[{ on := 32, ground := Go.Ground.data }, { on := 29, ground := Go.Ground.chain }], guard := none }) (v := .bool true) rfl (by decide) (by kernel_rfl) (by kernel_rfl) (by kernel_rfl) (fun _ _ _ h => h) (Or.inl ⟨by rfl, ?_⟩) hS3 ?_
    · intro W9 hS9
      obtain ⟨q0, q1, q2, q3⟩ := hS9
      clear q0 q1 q2 q3
      go_simp
    try simp only [Act.put, List.setIfInBounds_toArray, List.set_cons_zero, List.set_cons_succ]
    refine wpAnyN_take (i := 34) (oi := { dst := some 100, op := Go.Op.move (Go.Operand.tmp 12), type := 4, pos := "law.go:25", after := #[{ on := 33, ground := Go.Ground.guard }], guard := some (33, true) }) (v := .bool true) rfl (by decide) (by kernel_rfl) (by kernel_rfl) (by kernel_rfl) (fun _ _ _ h => h) (Or.inl ⟨by rfl, ?_⟩) hS3 ?_
    · intro W9 hS9
      obtain ⟨q0, q1, q2, q3⟩ := hS9
      clear q0 q1 q2 q3
      go_simp
    try simp only [Act.put, List.setIfInBounds_toArray, List.set_cons_zero, List.set_cons_succ]
    refine wpAnyN_take (i := 35) (oi := { dst := some 101, op := Go.Op.pick (Go.Operand.tmp 99) (Go.Operand.tmp 100) (Go.Operand.const (Go.Value.bool false)), type := 4, pos := "law.go:25", after := #[{ on := 33, ground := Go.Ground.data }, { on := 34, ground := Go.Ground.data }], guard := none }) (v := .bool true) rfl (by decide) (by kernel_rfl) (by kernel_rfl) (by kernel_rfl) (fun _ _ _ h => h) (Or.inl ⟨by rfl, ?_⟩) hS3 ?_
    · intro W9 hS9
      obtain ⟨q0, q1, q2, q3⟩ := hS9
      clear q0 q1 q2 q3
      go_simp
    try simp only [Act.put, List.setIfInBounds_toArray, List.set_cons_zero, List.set_cons_succ]
    refine wpAnyN_take (i := 36) (oi := { dst := some 102, op := Go.Op.move (Go.Operand.tmp 101), type := 4, pos := "law.go:25", after := #[{ on := 35, ground := Go.Ground.data }, { on := 33, ground := Go.Ground.chain }], guard := none }) (v := .bool true) rfl (by decide) (by kernel_rfl) (by kernel_rfl) (by kernel_rfl) (fun _ _ _ h => h) (Or.inl ⟨by rfl, ?_⟩) hS3 ?_
    · intro W9 hS9
      obtain ⟨q0, q1, q2, q3⟩ := hS9
      clear q0 q1 q2 q3
      go_simp
    try simp only [Act.put, List.setIfInBounds_toArray, List.set_cons_zero, List.set_cons_succ]
    refine wpAnyN_take (i := 37) (oi := { dst := some 103, op := Go.Op.move (Go.Operand.tmp 14), type := 23, pos := "law.go:25", after := #[{ on := 36, ground := Go.Ground.guard }], guard := some (36, true) }) (v := .slice ta 3 tc) rfl (by decide) (by kernel_rfl) (by kernel_rfl) (by kernel_rfl) (fun _ _ _ h => h) (Or.inl ⟨by rfl, ?_⟩) hS3 ?_
    · intro W9 hS9
      obtain ⟨q0, q1, q2, q3⟩ := hS9
      clear q0 q1 q2 q3
      go_simp
    try simp only [Act.put, List.setIfInBounds_toArray, List.set_cons_zero, List.set_cons_succ]
    refine wpAnyN_take (i := 38) (oi := { dst := some 104, op := Go.Op.load 38 (Go.Operand.tmp 1), type := 38, pos := "law.go:25", after := #[{ on := 36, ground := Go.Ground.guard }], guard := some (36, true) }) (v := .agg #[.int .i64 1, .int .u64 0]) rfl (by decide) (by kernel_rfl) (by kernel_rfl) (by kernel_rfl) (fun _ _ _ h => h) (Or.inl ⟨by rfl, ?_⟩) hS3 ?_
    · intro W9 hS9
      obtain ⟨q0, q1, q2, q3⟩ := hS9
      have s0 : W9.cell? ⟨w.heap.size, 0, none⟩ = some (.int .i64 1) := q1.cell 0
      have s1 : W9.cell? ⟨w.heap.size, 1, none⟩ = some (.int .u64 0) := q1.cell 1
      clear q0 q1 q2 q3
      go_simp
    try simp only [Act.put, List.setIfInBounds_toArray, List.set_cons_zero, List.set_cons_succ]
    refine wpAnyN_take (i := 39) (oi := { dst := some 105, op := Go.Op.load 38 (Go.Operand.tmp 2), type := 38, pos := "law.go:25", after := #[{ on := 36, ground := Go.Ground.guard }], guard := some (36, true) }) (v := .agg #[.int .i64 2, .int .u64 0]) rfl (by decide) (by kernel_rfl) (by kernel_rfl) (by kernel_rfl) (fun _ _ _ h => h) (Or.inl ⟨by rfl, ?_⟩) hS3 ?_
    · intro W9 hS9
      obtain ⟨q0, q1, q2, q3⟩ := hS9
      have s0 : W9.cell? ⟨w.heap.size + 1, 0, none⟩ = some (.int .i64 2) := q2.cell 0
      have s1 : W9.cell? ⟨w.heap.size + 1, 1, none⟩ = some (.int .u64 0) := q2.cell 1
      clear q0 q1 q2 q3
      go_simp
    try simp only [Act.put, List.setIfInBounds_toArray, List.set_cons_zero, List.set_cons_succ]
    refine wpAnyN_take (i := 40) (oi := { dst := some 106, op := Go.Op.load 38 (Go.Operand.tmp 3), type := 38, pos := "law.go:25", after := #[{ on := 36, ground := Go.Ground.guard }], guard := some (36, true) }) (v := .agg #[.int .i64 3, .int .u64 0]) rfl (by decide) (by kernel_rfl) (by kernel_rfl) (by kernel_rfl) (fun _ _ _ h => h) (Or.inl ⟨by rfl, ?_⟩) hS3 ?_
    · intro W9 hS9
      obtain ⟨q0, q1, q2, q3⟩ := hS9
      have s0 : W9.cell? ⟨w.heap.size + 1 + 1, 0, none⟩ = some (.int .i64 3) := q3.cell 0
      have s1 : W9.cell? ⟨w.heap.size + 1 + 1, 1, none⟩ = some (.int .u64 0) := q3.cell 1
      clear q0 q1 q2 q3
      go_simp
    try simp only [Act.put, List.setIfInBounds_toArray, List.set_cons_zero, List.set_cons_succ]
    refine wpAnyX_one (i := 41) (o := { dst := some 107, op := Go.Op.buildSlice 23 3 #[(0, Go.Operand.tmp 104), (1, Go.Operand.tmp 105), (2, Go.Operand.tmp 106)], type := 23, pos := "law.go:25", after := #[{ on := 38, ground := Go.Ground.data }, { on := 39, ground := Go.Ground.data }, { on := 40, ground := Go.Ground.data }, { on := 36, ground := Go.Ground.guard }], guard := some (36, true) }) (by kernel_rfl) rfl (fun K hK => ?_)
    obtain ⟨g41, hg41⟩ : ∃ b, b = x9.heap.size := ⟨_, rfl⟩
    have hC : Below x9.heap.size x9 (x9.alloc (.cells #[.int .i64 1, .int .u64 0, .int .i64 2, .int .u64 0, .int .i64 3, .int .u64 0] 38)) := Rows8.newB
    have L41 : Hid (PAt (x9.alloc (.cells #[.int .i64 1, .int .u64 0, .int .i64 2, .int .u64 0, .int .i64 3, .int .u64 0] 38)) (.slice (some ⟨g41, 0, none⟩) 3 3) [(1, 0), (2, 0), (3, 0)]) := Lib.hid (by rw [hg41]; exact lit_ents x9 [(1, 0), (2, 0), (3, 0)] (by decide))
    refine step_value_g (by rfl) (.slice (some ⟨g41, 0, none⟩) 3 3) (w' := (x9.alloc (.cells #[.int .i64 1, .int .u64 0, .int .i64 2, .int .u64 0, .int .i64 3, .int .u64 0] 38))) (by rw [hg41]; go_simp) ?_
    clear hg41
    generalize (x9.alloc (.cells #[.int .i64 1, .int .u64 0, .int .i64 2, .int .u64 0, .int .i64 3, .int .u64 0] 38)) = x10 at *
    have hS4 : Rows8 x10 B4 26 #[.int .u64 (k4.2.1 : Nat), .slice (s4.a 0) (s4.n 0) (s4.c 0), .slice (s4.a 1) (s4.n 1) (s4.c 1), .slice (s4.a 2) (s4.n 2) (s4.c 2)] ∧ Rows8 x10 w.heap.size 38 #[.int .i64 1, .int .u64 0] ∧ Rows8 x10 (w.heap.size + 1) 38 #[.int .i64 2, .int .u64 0] ∧ Rows8 x10 (w.heap.size + 1 + 1) 38 #[.int .i64 3, .int .u64 0] := ⟨hS3.1.below hC hS3.1.lt, hS3.2.1.below hC hS3.2.1.lt, hS3.2.2.1.below hC hS3.2.2.1.lt, hS3.2.2.2.below hC hS3.2.2.2.lt⟩
    have HL := Lib.hid (HL.out.below hC)
    have HT2 : Hid (PAt x10 (.slice ta 3 tc) [(1, 0), (2, 0), (3, 0)]) := Lib.hid (PAt.below HT2.out hC)
    have HBB := Lib.hid (HBB.out.trans (hC.mono HBB.out.size))
    clear hC
    refine hK.out _ _ (fun _ => hS4) ?_
    clear hK K
    try simp only [Act.put, List.setIfInBounds_toArray, List.set_cons_zero, List.set_cons_succ]
    refine wpAnyX_one (i := 42) (o := { dst := some 108, op := Go.Op.call { callee := Go.Callee.value (Go.Operand.func 17), args := #[Go.Operand.tmp 103, Go.Operand.tmp 107], argTypes := #[23, 23] }, type := 4, pos := "law.go:25", after := #[{ on := 37, ground := Go.Ground.data }, { on := 41, ground := Go.Ground.data }, { on := 36, ground := Go.Ground.chain }, { on := 36, ground := Go.Ground.guard }], guard := some (36, true) }) (by kernel_rfl) rfl (fun K hK => ?_)
    refine step_call_g (by rfl) 17 _ _ rfl (fun _ _ => by kernel_rfl) #[.slice ta 3 tc, .slice (some ⟨g41, 0, none⟩) 3 3] (by simp [go_sem]) _ ((Tryd.equalEntry_any ta (some ⟨g41, 0, none⟩) 3 3 tc 3 [(1, 0), (2, 0), (3, 0)] [(1, 0), (2, 0), (3, 0)] x10 HT2.out L41.out (by decide) (by decide))) ?_
    rintro e x11 ⟨rfl, hC⟩
    refine ⟨.bool true, by simp, ?_⟩
    have hS5 : Rows8 x11 B4 26 #[.int .u64 (k4.2.1 : Nat), .slice (s4.a 0) (s4.n 0) (s4.c 0), .slice (s4.a 1) (s4.n 1) (s4.c 1), .slice (s4.a 2) (s4.n 2) (s4.c 2)] ∧ Rows8 x11 w.heap.size 38 #[.int .i64 1, .int .u64 0] ∧ Rows8 x11 (w.heap.size + 1) 38 #[.int .i64 2, .int .u64 0] ∧ Rows8 x11 (w.heap.size + 1 + 1) 38 #[.int .i64 3, .int .u64 0] := ⟨hS4.1.below hC hS4.1.lt, hS4.2.1.below hC hS4.2.1.lt, hS4.2.2.1.below hC hS4.2.2.1.lt, hS4.2.2.2.below hC hS4.2.2.2.lt⟩
    have HL := Lib.hid (HL.out.below hC)
    have HT2 : Hid (PAt x11 (.slice ta 3 tc) [(1, 0), (2, 0), (3, 0)]) := Lib.hid (PAt.below HT2.out hC)
    have HBB := Lib.hid (HBB.out.trans (hC.mono HBB.out.size))
    clear hC
    refine hK.out _ _ (fun _ => hS5) ?_
    clear hK K
    try simp only [Act.put, List.setIfInBounds_toArray, List.set_cons_zero, List.set_cons_succ]
    refine wpAnyN_take (i := 43) (oi := { dst := some 109, op := Go.Op.pick (Go.Operand.tmp 102) (Go.Operand.tmp 108) (Go.Operand.const (Go.Value.bool false)), type := 4, pos := "law.go:25", after := #[{ on := 36, ground := Go.Ground.data }, { on := 42, ground := Go.Ground.data }], guard := none }) (v := .bool true) rfl (by decide) (by kernel_rfl) (by kernel_rfl) (by kernel_rfl) (fun _ _ _ h => h) (Or.inl ⟨by rfl, ?_⟩) hS5 ?_
    · intro W9 hS9
      obtain ⟨q0, q1, q2, q3⟩ := hS9
      clear q0 q1 q2 q3
      go_simp
    try simp only [Act.put, List.setIfInBounds_toArray, List.set_cons_zero, List.set_cons_succ]
    refine wpAnyN_take (i := 44) (oi := { dst := some 110, op := Go.Op.move (Go.Operand.tmp 109), type := 4, pos := "law.go:25", after := #[{ on := 43, ground := Go.Ground.data }, { on := 42, ground := Go.Ground.chain }], guard := none }) (v := .bool true) rfl (by decide) (by kernel_rfl) (by kernel_rfl) (by kernel_rfl) (fun _ _ _ h => h) (Or.inl ⟨by rfl, ?_⟩) hS5 ?_
    · intro W9 hS9
      obtain ⟨q0, q1, q2, q3⟩ := hS9
      clear q0 q1 q2 q3
      go_simp
    try simp only [Act.put, List.setIfInBounds_toArray, List.set_cons_zero, List.set_cons_succ]
    refine wpAnyN_take (i := 45) (oi := { dst := some 111, op := Go.Op.load 26 (Go.Operand.tmp 4), type := 26, pos := "law.go:25", after := #[{ on := 44, ground := Go.Ground.guard }], guard := some (44, true) }) (v := .agg #[.int .u64 (k4.2.1 : Nat), .slice (s4.a 0) (s4.n 0) (s4.c 0), .slice (s4.a 1) (s4.n 1) (s4.c 1), .slice (s4.a 2) (s4.n 2) (s4.c 2)]) rfl (by decide) (by kernel_rfl) (by kernel_rfl) (by kernel_rfl) (fun _ _ _ h => h) (Or.inl ⟨by rfl, ?_⟩) hS5 ?_
    · intro W9 hS9
      obtain ⟨q0, q1, q2, q3⟩ := hS9
      have s0 : W9.cell? ⟨B4, 0, none⟩ = some (.int .u64 (k4.2.1 : Nat)) := q0.cell 0
      have s1 : W9.cell? ⟨B4, 1, none⟩ = some (.slice (s4.a 0) (s4.n 0) (s4.c 0)) := q0.cell 1
      have s2 : W9.cell? ⟨B4, 2, none⟩ = some (.slice (s4.a 1) (s4.n 1) (s4.c 1)) := q0.cell 2
      have s3 : W9.cell? ⟨B4, 3, none⟩ = some (.slice (s4.a 2) (s4.n 2) (s4.c 2)) := q0.cell 3
      clear q0 q1 q2 q3
      go_simp
    try simp only [Act.put, List.setIfInBounds_toArray, List.set_cons_zero, List.set_cons_succ]
    refine wpAnyX_one (i := 46) (o := { dst := some 112, op := Go.Op.call { callee := Go.Callee.value (Go.Operand.func 16), args := #[Go.Operand.tmp 111], argTypes := #[26] }, type := 23, pos := "law.go:25", after := #[{ on := 45, ground := Go.Ground.data }, { on := 44, ground := Go.Ground.chain }, { on := 44, ground := Go.Ground.guard }], guard := some (44, true) }) (by kernel_rfl) rfl (fun K hK => ?_)
    refine step_call_g (by rfl) 16 _ _ rfl (fun _ _ => by kernel_rfl) #[.agg #[.int .u64 (k4.2.1 : Nat), .slice (s4.a 0) (s4.n 0) (s4.c 0), .slice (s4.a 1) (s4.n 1) (s4.c 1), .slice (s4.a 2) (s4.n 2) (s4.c 2)]] (by simp [go_sem]) _ (Tryd.wkHeld x11 s4 _ HL.out) ?_
    rintro e x12 ⟨⟨ha, hc, rfl⟩, hC⟩
    refine ⟨_, rfl, ?_⟩
    have hS6 : Rows8 x12 B4 26 #[.int .u64 (k4.2.1 : Nat), .slice (s4.a 0) (s4.n 0) (s4.c 0), .slice (s4.a 1) (s4.n 1) (s4.c 1), .slice (s4.a 2) (s4.n 2) (s4.c 2)] ∧ Rows8 x12 w.heap.size 38 #[.int .i64 1, .int .u64 0] ∧ Rows8 x12 (w.heap.size + 1) 38 #[.int .i64 2, .int .u64 0] ∧ Rows8 x12 (w.heap.size + 1 + 1) 38 #[.int .i64 3, .int .u64 0] := ⟨hS5.1.below hC hS5.1.lt, hS5.2.1.below hC hS5.2.1.lt, hS5.2.2.1.below hC hS5.2.2.1.lt, hS5.2.2.2.below hC hS5.2.2.2.lt⟩
    have HL := Lib.hid (HL.out.below hC)
    have HT2 : Hid (PAt x12 (.slice ta 3 tc) [(1, 0), (2, 0), (3, 0)]) := Lib.hid (PAt.below HT2.out hC)
    have HBB := Lib.hid (HBB.out.trans (hC.mono HBB.out.size))
    clear hC
    refine hK.out _ _ (fun _ => hS6) ?_
    clear hK K
    try simp only [Act.put, List.setIfInBounds_toArray, List.set_cons_zero, List.set_cons_succ]
    refine wpAnyN_take (i := 47) (oi := { dst := some 113, op := Go.Op.call { callee := Go.Callee.builtin Go.Builtin.len, args := #[Go.Operand.tmp 112], argTypes := #[23] }, type := 3, pos := "law.go:25", after := #[{ on := 46, ground := Go.Ground.data }, { on := 44, ground := Go.Ground.guard }], guard := some (44, true) }) (v := .int .i64 2) rfl (by decide) (by kernel_rfl) (by kernel_rfl) (by kernel_rfl) (fun _ _ _ h => h) (Or.inl ⟨by rfl, ?_⟩) hS6 ?_
    · intro W9 hS9
      obtain ⟨q0, q1, q2, q3⟩ := hS9
      clear q0 q1 q2 q3
      go_simp
    try simp only [Act.put, List.setIfInBounds_toArray, List.set_cons_zero, List.set_cons_succ]
    refine wpAnyN_take (i := 48) (oi := { dst := some 114, op := Go.Op.binOp Go.BinOp.eql 3 (Go.Operand.tmp 113) (Go.Operand.const (Go.Value.int Go.IntKind.i64 2)) 3, type := 4, pos := "law.go:25", after := #[{ on := 47, ground := Go.Ground.data }, { on := 44, ground := Go.Ground.guard }], guard := some (44, true) }) (v := .bool true) rfl (by decide) (by kernel_rfl) (by kernel_rfl) (by kernel_rfl) (fun _ _ _ h => h) (Or.inl ⟨by rfl, ?_⟩) hS6 ?_
    · intro W9 hS9
      obtain ⟨q0, q1, q2, q3⟩ := hS9
      clear q0 q1 q2 q3
      go_simp
    try simp only [Act.put, List.setIfInBounds_toArray, List.set_cons_zero, List.set_cons_succ]
    refine wpAnyN_take (i := 49) (oi := { dst := some 115, op := Go.Op.pick (Go.Operand.tmp 110) (Go.Operand.tmp 114) (Go.Operand.const (Go.Value.bool false)), type := 4, pos := "law.go:25", after := #[{ on := 44, ground := Go.Ground.data }, { on := 48, ground := Go.Ground.data }], guard := none }) (v := .bool true) rfl (by decide) (by kernel_rfl) (by kernel_rfl) (by kernel_rfl) (fun _ _ _ h => h) (Or.inl ⟨by rfl, ?_⟩) hS6 ?_
    · intro W9 hS9
      obtain ⟨q0, q1, q2, q3⟩ := hS9
      clear q0 q1 q2 q3
      go_simp
    try simp only [Act.put, List.setIfInBounds_toArray, List.set_cons_zero, List.set_cons_succ]
    refine wpAnyN_take (i := 50) (oi := { dst := some 0, op := Go.Op.assign (Go.Operand.tmp 115), type := 4, pos := "law.go:25", after := #[{ on := 49, ground := Go.Ground.data }, { on := 46, ground := Go.Ground.chain }, { on := 0, ground := Go.Ground.phase }, { on := 1, ground := Go.Ground.phase }, { on := 2, ground := Go.Ground.phase }, { on := 3, ground := Go.Ground.phase }, { on := 4, ground := Go.Ground.phase }, { on := 5, ground := Go.Ground.phase }, { on := 6, ground := Go.Ground.phase }, { on := 7, ground := Go.Ground.phase }, { on := 8, ground := Go.Ground.phase }, { on := 9, ground := Go.Ground.phase }, { on := 10, ground := Go.Ground.phase }, { on := 11, ground := Go.Ground.phase }, { on := 12, ground := Go.Ground.phase }, { on := 13, ground := Go.Ground.phase }, { on := 14, ground := Go.Ground.phase }, { on := 15, ground := Go.Ground.phase }, { on := 16, ground := Go.Ground.phase }, { on := 17, ground := Go.Ground.phase }, { on := 18, ground := Go.Ground.phase }, { on := 19, ground := Go.Ground.phase }, { on := 20, ground := Go.Ground.phase }, { on := 21, ground := Go.Ground.phase }, { on := 22, ground := Go.Ground.phase }, { on := 23, ground := Go.Ground.phase }, { on := 24, ground := Go.Ground.phase }, { on := 25, ground := Go.Ground.phase }, { on := 26, ground := Go.Ground.phase }, { on := 27, ground := Go.Ground.phase }, { on := 28, ground := Go.Ground.phase }, { on := 29, ground := Go.Ground.phase }, { on := 30, ground := Go.Ground.phase }, { on := 31, ground := Go.Ground.phase }, { on := 32, ground := Go.Ground.phase }, { on := 33, ground := Go.Ground.phase }, { on := 34, ground := Go.Ground.phase }, { on := 35, ground := Go.Ground.phase }, { on := 36, ground := Go.Ground.phase }, { on := 37, ground := Go.Ground.phase }, { on := 38, ground := Go.Ground.phase }, { on := 39, ground := Go.Ground.phase }, { on := 40, ground := Go.Ground.phase }, { on := 41, ground := Go.Ground.phase }, { on := 42, ground := Go.Ground.phase }, { on := 43, ground := Go.Ground.phase }, { on := 44, ground := Go.Ground.phase }, { on := 45, ground := Go.Ground.phase }, { on := 46, ground := Go.Ground.phase }, { on := 47, ground := Go.Ground.phase }, { on := 48, ground := Go.Ground.phase }, { on := 49, ground := Go.Ground.phase }], guard := none }) (v := .bool true) rfl (by decide) (by kernel_rfl) (by kernel_rfl) (by kernel_rfl) (fun _ _ _ h => h) (Or.inl ⟨by rfl, ?_⟩) hS6 ?_
    · intro W9 hS9
      obtain ⟨q0, q1, q2, q3⟩ := hS9
      clear q0 q1 q2 q3
      go_simp
    try simp only [Act.put, List.setIfInBounds_toArray, List.set_cons_zero, List.set_cons_succ]
    refine wpAnyX_end (by kernel_rfl) ?_
    go_wp2_with fail
    go_ret
    exact ⟨rfl, HBB.out⟩
end Go.Proofs
