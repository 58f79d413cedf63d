/- Layout: Unpack; wakes, its first part. -/
import Derived.Test.YtkddfihfilhhdaaWf
namespace Go.Proofs
set_option maxRecDepth 100000
open Go.RowKit Go.Shelf
attribute [local go_sem] Oper.semAt_some

set_option maxHeartbeats 1000000 in
theorem Try.Unpack1_any (z : Nat) (hz : z < 18446744073709551616) (B : Nat) (w : World) (hr : Rows8 w B 34 #[.int .u64 (z : Nat)]) : Calls Try.prog 49 #[.pointer (some ⟨B, 0, none⟩)] w fun e w' => Below w.heap.size w w' ∧ ((∃ x y : Int, e = .returned (.agg #[.int .i64 x, .int .u64 y]) ∧ x = (z % 65536 : Nat) - 1 ∧ y = (z / 65536 : Nat) ∧ okU z = true) ∨ ∃ q', e = .panicked (panicA q') ∧ q' = 262 ∧ okU z = false) := by
  obtain ⟨W0, hW0⟩ : ∃ W, W = w.alloc (.cells #[.int .i64 0, .int .u64 0] 36) := ⟨_, rfl⟩
  have HR : Hid (Rows8 W0 w.heap.size 36 #[.int .i64 0, .int .u64 0]) := Lib.hid (by rw [hW0]; exact Rows8.new _ _ _)
  have HB : Hid (Below w.heap.size w W0) := Lib.hid (by rw [hW0]; exact Rows8.newB)
  have c0 : W0.cell? ⟨B, 0, none⟩ = some (.int .u64 (z : Nat)) := (hr.below HB.out hr.lt).cell 0
  have HQ := Lib.hid (Try.unpacked_any z hz 262 W0)
  clear hr hz
  go_enter Try.func49, Try.ntmps49
  go_upto_region 1 with fail
  rw [← hW0]
  clear hW0
  go_wp2_with fail
  refine HQ.out.mono ?_
  rintro e W1 ⟨hC, ⟨x, y, rfl, hx, hy, h⟩ | ⟨q, rfl, rfl, h⟩⟩
  · have H := Lib.hid (And.intro hx (And.intro hy h))
    have HR := Lib.hid (HR.out.below hC HR.out.lt)
    have HB := Lib.hid (HB.out.trans (hC.mono HB.out.size))
    clear hC h hx hy HQ c0
    have c0 : W1.cell? ⟨w.heap.size, 0, none⟩ = some (.int .i64 0) := HR.out.cell 0
    have c1 : W1.cell? ⟨w.heap.size, 1, none⟩ = some (.int .u64 0) := HR.out.cell 1
    have f0 := HR.out.frozen 0
    have f1 := HR.out.frozen 1
    have l0 := HR.out.lt
    have HT := Lib.hid (HR.out.set2 (.int .i64 x) (.int .u64 y))
    go_wp2_with fail
    refine bodyPost_ret (results_c1 rfl _ _ (w.heap.size) _ rfl (load_row HT.out Try.underlying36 rfl (by kernel_rfl))) rfl ?_
    exact ⟨(HB.out.setCell (Nat.le_refl _) _).setCell (Nat.le_refl _) _, .inl ⟨x, y, rfl, H.out.1, H.out.2.1, H.out.2.2⟩⟩
  · have H := Lib.hid h
    have HB := Lib.hid (HB.out.trans (hC.mono HB.out.size))
    clear hC h HQ c0
    unfold panicA
    go_wp2_with fail
    exact ⟨(by first | rfl | trivial), HB.out, .inr ⟨_, rfl, rfl, H.out⟩⟩
set_option maxHeartbeats 2000000 in
theorem Try.Unpack_any (z : Nat) (hz : z < 18446744073709551616) (w : World) : Calls Try.prog 17 #[.int .u64 (z : Nat)] w fun e w' => ((okU z = true ∧ e = .returned (.tuple #[(.agg #[.int .i64 ((z % 65536 : Nat) - 1), .int .u64 (z / 65536 : Nat)]), .int .i64 0])) ∨ (okU z = false ∧ e = .returned (.tuple #[.agg #[.int .i64 0, .int .u64 0], .int .i64 262]))) ∧ Below w.heap.size w w' := by
  obtain ⟨W0, hW0⟩ : ∃ W, W = ((w.alloc (.cells #[.int .u64 (z : Nat)] 34)).alloc (.cells #[.int .i64 0, .int .u64 0] 36)) := ⟨_, rfl⟩
  have r0 : Rows8 W0 w.heap.size 34 #[.int .u64 (z : Nat)] := by rw [hW0]; exact (Rows8.new _ _ _).alloc _
  have HR : Hid (Rows8 W0 (w.heap.size + 1) 36 #[.int .i64 0, .int .u64 0]) := Lib.hid (by rw [hW0]; exact rows_new2 _ _ _ _)
  have HB : Hid (Below w.heap.size w W0) := Lib.hid (by rw [hW0]; exact (Rows8.newB).alloc (by simp) _)
  have hT := Try.caughtE_any 49 #[.pointer (some ⟨w.heap.size, 0, none⟩)] W0 (fun v _ => v = (.agg #[.int .i64 ((z % 65536 : Nat) - 1), .int .u64 (z / 65536 : Nat)]) ∧ okU z = true) (fun q => q = 262 ∧ okU z = false) (fun _ _ => by kernel_rfl)
    ((Try.Unpack1_any z hz _ _ ((r0.alloc _).alloc _)).mono (by
      rintro e w' ⟨hC, ⟨x, y, rfl, rfl, rfl, h⟩ | h⟩
      · exact ⟨hC, .inl ⟨_, _, rfl, rfl, h⟩⟩
      · exact ⟨hC, .inr h⟩)) (fun _ _ _ _ _ h _ => h)
  have HT := Lib.hid hT
  clear hT r0 hz
  go_enter Try.func17, Try.ntmps17
  go_upto_region 1 with fail
  rw [← hW0]
  clear hW0
  go_wp2_with fail
  refine HT.out.mono ?_
  rintro e W1 ⟨hC, ⟨x, y, rfl, hv, h⟩ | ⟨q, rfl, rfl, h⟩⟩
  · have H := Lib.hid (And.intro hv h)
    have HR := Lib.hid (HR.out.below hC HR.out.lt)
    have HB := Lib.hid (HB.out.trans (hC.mono HB.out.size))
    clear hC hv h HT
    have c0 : W1.cell? ⟨w.heap.size + 1, 0, none⟩ = some (.int .i64 0) := HR.out.cell 0
    have c1 : W1.cell? ⟨w.heap.size + 1, 1, none⟩ = some (.int .u64 0) := HR.out.cell 1
    have f0 := HR.out.frozen 0
    have f1 := HR.out.frozen 1
    have l0 := HR.out.lt
    have HT := Lib.hid (HR.out.set2 (.int .i64 x) (.int .u64 y))
    go_wp2_with fail
    refine bodyPost_ret (results_ct1 rfl _ _ (w.heap.size + 1) _ _ rfl rfl (load_row HT.out Try.underlying36 rfl (by kernel_rfl))) rfl ?_
    exact ⟨.inl ⟨H.out.2, by rw [← H.out.1]; rfl⟩, (HB.out.setCell (p := ⟨w.heap.size + 1, 0, none⟩) (by simp) _).setCell (p := ⟨w.heap.size + 1, 1, none⟩) (by simp) _⟩
  · have H := Lib.hid h
    have HR := Lib.hid (HR.out.below hC HR.out.lt)
    have HB := Lib.hid (HB.out.trans (hC.mono HB.out.size))
    clear hC h HT
    have c0 : W1.cell? ⟨w.heap.size + 1, 0, none⟩ = some (.int .i64 0) := HR.out.cell 0
    have c1 : W1.cell? ⟨w.heap.size + 1, 1, none⟩ = some (.int .u64 0) := HR.out.cell 1
    have f0 := HR.out.frozen 0
    have f1 := HR.out.frozen 1
    have l0 := HR.out.lt
    have HT := Lib.hid (HR.out.set2 (.int .i64 0) (.int .u64 0))
    go_wp2_with fail
    refine bodyPost_ret (results_ct1 rfl _ _ (w.heap.size + 1) _ _ rfl rfl (load_row HT.out Try.underlying36 rfl (by kernel_rfl))) rfl ?_
    exact ⟨.inr ⟨H.out, rfl⟩, (HB.out.setCell (p := ⟨w.heap.size + 1, 0, none⟩) (by simp) _).setCell (p := ⟨w.heap.size + 1, 1, none⟩) (by simp) _⟩
end Go.Proofs
