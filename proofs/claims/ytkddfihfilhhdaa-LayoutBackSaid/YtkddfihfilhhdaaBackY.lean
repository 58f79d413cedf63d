/- Proved: for every slab, word, and entry, honeycomblaw16.LayoutBack returns true, and its arguments read as they did; no condition. -/
import Derived.Test.YtkddfihfilhhdaaWp
import Derived.BigQuiet
namespace Go.Proofs.Ytkddfihfilhhdaa.layoutBack
set_option maxRecDepth 100000
open Go.ChangeShapes Go.WideShapes Go.ChangeAt Go.RowKit Go.Shelf
attribute [local go_sem] Oper.semAt_some

theorem own : ownKnob Try.prog.godebug = none := by kernel_rfl
theorem both {a b : Bool} (h : (a && b) = true) : a = true ∧ b = true := by simpa using h
theorem cell_of {n k : Int} (h : (slabB n && wordB k) = true) : cellB (16 + n * 40 + k) = true ∧ (16 + n * 40 + k - 16) / 40 = n ∧ (16 + n * 40 + k - 16) % 40 = k ∧ I64 (16 + n * 40 + k) ∧ I64 (n + 1) := by
  have h1 := slabB_yes (both h).1
  have h2 := wordB_yes (both h).2
  refine ⟨by simp [cellB]; omega, by omega, by omega, by unfold I64; omega, by unfold I64; omega⟩
theorem of_cell {k : Int} (h : cellB k = true) : (slabB ((k - 16) / 40) && wordB ((k - 16) % 40)) = true ∧ 16 + (k - 16) / 40 * 40 + (k - 16) % 40 = k ∧ I64 ((k - 16) / 40) ∧ I64 ((k - 16) % 40) := by
  have h1 : 16 ≤ k ∧ k ≤ 5135 := by simpa [cellB] using h
  refine ⟨by simp [slabB, wordB]; omega, by omega, by unfold I64; omega, by unfold I64; omega⟩
theorem pack_back {x : Int} {y : Nat} (h : entB x y = true) : okU (packV x y) = true ∧ ((packV x y % 65536 : Nat) : Int) - 1 = x ∧ packV x y / 65536 = y ∧ 0 < packV x y ∧ packV x y < 18446744073709551616 := by
  have h1 := slabB_yes (both h).1
  have h2 : y < 1099511627776 := of_decide_eq_true (both h).2
  have e : packV x y = x.toNat + 1 + 65536 * y := rfl
  refine ⟨by unfold okU; rw [e]; simp; omega, by omega, by omega, by omega, by omega⟩
set_option maxHeartbeats 8000000 in
theorem law_any (n k x : Int) (y : Nat) (hn : I64 n) (hk : I64 k) (hx : I64 x) (w : World) : Calls Try.prog 6 #[.int .i64 n, .int .i64 k, .agg #[.int .i64 x, .int .u64 (y : Nat)]] w fun e w' => e = .returned (.bool true) ∧ Below w.heap.size w w' := by
  have HN := Lib.hid hn
  have HK := Lib.hid hk
  have HX := Lib.hid hx
  clear hn hk hx
  obtain ⟨W0, hW0⟩ : ∃ W, W = w.alloc (.cells #[.int .i64 x, .int .u64 (y : Nat)] 36) := ⟨_, rfl⟩
  have HR : Hid (Rows8 W0 w.heap.size 36 #[.int .i64 x, .int .u64 (y : Nat)]) := Lib.hid (by rw [hW0]; exact Rows8.new _ _ _)
  have HB : Hid (Below w.heap.size w W0) := Lib.hid (by rw [hW0]; exact Rows8.newB)
  have HQ := Lib.hid (Try.wakes_any W0)
  go_enter Try.func6, Try.ntmps6
  go_upto_region 1 with fail
  rw [← hW0]
  clear hW0
  go_wp2_with fail
  refine HQ.out.mono ?_
  rintro e Z0 ⟨rfl, hC⟩
  have HR := Lib.hid (HR.out.below hC HR.out.lt)
  have HB := Lib.hid (HB.out.trans (hC.mono HB.out.size))
  clear hC HQ
  have HQ := Lib.hid (Try.Cell_any n k HN.out HK.out Z0)
  go_wp2_with fail
  refine HQ.out.mono ?_
  rintro e Z1 ⟨⟨h, rfl⟩ | ⟨h, rfl⟩, hC⟩
  · have HR := Lib.hid (HR.out.below hC HR.out.lt)
    have HB := Lib.hid (HB.out.trans (hC.mono HB.out.size))
    clear hC HQ
    obtain ⟨g1, g2, g3, g4, g5⟩ := cell_of h
    have hn1 := slabB_yes (both h).1
    have hk1 := wordB_yes (both h).2
    have HQ := Lib.hid (Try.Of_any (16 + n * 40 + k) g4 Z1)
    rw [g2, g3] at HQ
    have HO := Lib.hid g1
    have HN2 := Lib.hid (fun W => Try.Cell_any (n + 1) k g5 HK.out W)
    have hw1 : IntKind.i64.wrap (n + 1) = n + 1 := IntWalk.i64_in _ (by omega)
    have hw2 : IntKind.i64.wrap (16 + n * 40 + k + 40) = 16 + n * 40 + k + 40 := IntWalk.i64_in _ (by omega)
    have he : 16 + (n + 1) * 40 + k = 16 + n * 40 + k + 40 := by omega
    rw [he] at HN2
    obtain ⟨c, hc⟩ : ∃ c, c = 16 + n * 40 + k := ⟨_, rfl⟩
    rw [← hc] at HQ HO HN2 hw2 ⊢
    clear h g1 g2 g3 g4 g5 hn1 hk1 he hc
    go_wp2_with fail
    refine HQ.out.mono ?_
    rintro e Z2 ⟨⟨_, rfl⟩ | ⟨h, _⟩, hC⟩
    rotate_left
    · rw [HO.out] at h
      cases h
    have HR := Lib.hid (HR.out.below hC HR.out.lt)
    have HB := Lib.hid (HB.out.trans (hC.mono HB.out.size))
    clear hC HQ HO
    have HQ := Lib.hid (HN2.out Z2)
    clear HN2
    go_wp2_with fail
    refine HQ.out.mono ?_
    rintro e Z3 ⟨⟨_, rfl⟩ | ⟨_, rfl⟩, hC⟩
    · have HR := Lib.hid (HR.out.below hC HR.out.lt)
      have HB := Lib.hid (HB.out.trans (hC.mono HB.out.size))
      clear hC HQ
      have HQ := Lib.hid (Try.Of_any k HK.out Z3)
      go_wp2_with fail
      refine HQ.out.mono ?_
      rintro e Y1 ⟨⟨h, rfl⟩ | ⟨h, rfl⟩, hC⟩
      · have HR := Lib.hid (HR.out.below hC HR.out.lt)
        have HB := Lib.hid (HB.out.trans (hC.mono HB.out.size))
        clear hC HQ
        obtain ⟨b1, b2, b3, b4⟩ := of_cell h
        have HQ := Lib.hid (Try.Cell_any ((k - 16) / 40) ((k - 16) % 40) b3 b4 Y1)
        rw [b2] at HQ
        have HO := Lib.hid b1
        obtain ⟨u, hu⟩ : ∃ u, u = (k - 16) / 40 := ⟨_, rfl⟩
        obtain ⟨v, hv⟩ : ∃ v, v = (k - 16) % 40 := ⟨_, rfl⟩
        rw [← hu, ← hv] at HQ HO ⊢
        clear h hu hv b1 b2 b3 b4
        go_wp2_with fail
        refine HQ.out.mono ?_
        rintro e Y2 ⟨⟨_, rfl⟩ | ⟨h, _⟩, hC⟩
        rotate_left
        · rw [HO.out] at h
          cases h
        have HR := Lib.hid (HR.out.below hC HR.out.lt)
        have HB := Lib.hid (HB.out.trans (hC.mono HB.out.size))
        clear hC HQ HO
        have c0 : Y2.cell? ⟨w.heap.size, 0, none⟩ = some (.int .i64 x) := HR.out.cell 0
        have c1 : Y2.cell? ⟨w.heap.size, 1, none⟩ = some (.int .u64 (y : Nat)) := HR.out.cell 1
        have HQ := Lib.hid (Try.Pack_any x y HX.out Y2)
        go_wp2_with fail
        refine HQ.out.mono ?_
        rintro e X1 ⟨⟨h, rfl⟩ | ⟨h, rfl⟩, hC⟩
        rotate_left
        · have HB := Lib.hid (HB.out.trans (hC.mono HB.out.size))
          clear hC h HQ c0 c1
          go_wp2_with fail
          go_ret
          exact ⟨rfl, HB.out⟩
        have HR := Lib.hid (HR.out.below hC HR.out.lt)
        have HB := Lib.hid (HB.out.trans (hC.mono HB.out.size))
        clear hC HQ c0 c1
        obtain ⟨b1, b2, b3, b4, b5⟩ := pack_back h
        have HQ := Lib.hid (Try.Unpack_any (packV x y) b5 X1)
        rw [b2, b3] at HQ
        obtain ⟨p, hp⟩ : ∃ p, p = packV x y := ⟨_, rfl⟩
        rw [← hp] at HQ b1 b4 ⊢
        have hz : ((p : Int) == 0) = false := by simp; omega
        have hg : (0 : Int) < (p : Int) := by omega
        have HOK := Lib.hid b1
        clear h hp b1 b2 b3 b4 b5
        go_wp2_with fail
        refine HQ.out.mono ?_
        rintro e X2 ⟨⟨_, rfl⟩ | ⟨h, _⟩, hC⟩
        rotate_left
        · rw [HOK.out] at h
          cases h
        have HR := Lib.hid (HR.out.below hC HR.out.lt)
        have HB := Lib.hid (HB.out.trans (hC.mono HB.out.size))
        clear hC HQ hz
        have c0 : X2.cell? ⟨w.heap.size, 0, none⟩ = some (.int .i64 x) := HR.out.cell 0
        have c1 : X2.cell? ⟨w.heap.size, 1, none⟩ = some (.int .u64 (y : Nat)) := HR.out.cell 1
        have l0 := HR.out.lt
        go_wp2_with fail
        go_ret
        exact ⟨by simp; omega, HB.out.alloc HB.out.size _⟩
      · have HR := Lib.hid (HR.out.below hC HR.out.lt)
        have HB := Lib.hid (HB.out.trans (hC.mono HB.out.size))
        clear hC HQ
        clear h
        have c0 : Y1.cell? ⟨w.heap.size, 0, none⟩ = some (.int .i64 x) := HR.out.cell 0
        have c1 : Y1.cell? ⟨w.heap.size, 1, none⟩ = some (.int .u64 (y : Nat)) := HR.out.cell 1
        have HQ := Lib.hid (Try.Pack_any x y HX.out Y1)
        go_wp2_with fail
        refine HQ.out.mono ?_
        rintro e X1 ⟨⟨h, rfl⟩ | ⟨h, rfl⟩, hC⟩
        rotate_left
        · have HB := Lib.hid (HB.out.trans (hC.mono HB.out.size))
          clear hC h HQ c0 c1
          go_wp2_with fail
          go_ret
          exact ⟨rfl, HB.out⟩
        have HR := Lib.hid (HR.out.below hC HR.out.lt)
        have HB := Lib.hid (HB.out.trans (hC.mono HB.out.size))
        clear hC HQ c0 c1
        obtain ⟨b1, b2, b3, b4, b5⟩ := pack_back h
        have HQ := Lib.hid (Try.Unpack_any (packV x y) b5 X1)
        rw [b2, b3] at HQ
        obtain ⟨p, hp⟩ : ∃ p, p = packV x y := ⟨_, rfl⟩
        rw [← hp] at HQ b1 b4 ⊢
        have hz : ((p : Int) == 0) = false := by simp; omega
        have hg : (0 : Int) < (p : Int) := by omega
        have HOK := Lib.hid b1
        clear h hp b1 b2 b3 b4 b5
        go_wp2_with fail
        refine HQ.out.mono ?_
        rintro e X2 ⟨⟨_, rfl⟩ | ⟨h, _⟩, hC⟩
        rotate_left
        · rw [HOK.out] at h
          cases h
        have HR := Lib.hid (HR.out.below hC HR.out.lt)
        have HB := Lib.hid (HB.out.trans (hC.mono HB.out.size))
        clear hC HQ hz
        have c0 : X2.cell? ⟨w.heap.size, 0, none⟩ = some (.int .i64 x) := HR.out.cell 0
        have c1 : X2.cell? ⟨w.heap.size, 1, none⟩ = some (.int .u64 (y : Nat)) := HR.out.cell 1
        have l0 := HR.out.lt
        go_wp2_with fail
        go_ret
        exact ⟨by simp; omega, HB.out.alloc HB.out.size _⟩
    · have HR := Lib.hid (HR.out.below hC HR.out.lt)
      have HB := Lib.hid (HB.out.trans (hC.mono HB.out.size))
      clear hC HQ
      have HQ := Lib.hid (Try.Of_any k HK.out Z3)
      go_wp2_with fail
      refine HQ.out.mono ?_
      rintro e Y1 ⟨⟨h, rfl⟩ | ⟨h, rfl⟩, hC⟩
      · have HR := Lib.hid (HR.out.below hC HR.out.lt)
        have HB := Lib.hid (HB.out.trans (hC.mono HB.out.size))
        clear hC HQ
        obtain ⟨b1, b2, b3, b4⟩ := of_cell h
        have HQ := Lib.hid (Try.Cell_any ((k - 16) / 40) ((k - 16) % 40) b3 b4 Y1)
        rw [b2] at HQ
        have HO := Lib.hid b1
        obtain ⟨u, hu⟩ : ∃ u, u = (k - 16) / 40 := ⟨_, rfl⟩
        obtain ⟨v, hv⟩ : ∃ v, v = (k - 16) % 40 := ⟨_, rfl⟩
        rw [← hu, ← hv] at HQ HO ⊢
        clear h hu hv b1 b2 b3 b4
        go_wp2_with fail
        refine HQ.out.mono ?_
        rintro e Y2 ⟨⟨_, rfl⟩ | ⟨h, _⟩, hC⟩
        rotate_left
        · rw [HO.out] at h
          cases h
        have HR := Lib.hid (HR.out.below hC HR.out.lt)
        have HB := Lib.hid (HB.out.trans (hC.mono HB.out.size))
        clear hC HQ HO
        have c0 : Y2.cell? ⟨w.heap.size, 0, none⟩ = some (.int .i64 x) := HR.out.cell 0
        have c1 : Y2.cell? ⟨w.heap.size, 1, none⟩ = some (.int .u64 (y : Nat)) := HR.out.cell 1
        have HQ := Lib.hid (Try.Pack_any x y HX.out Y2)
        go_wp2_with fail
        refine HQ.out.mono ?_
        rintro e X1 ⟨⟨h, rfl⟩ | ⟨h, rfl⟩, hC⟩
        rotate_left
        · have HB := Lib.hid (HB.out.trans (hC.mono HB.out.size))
          clear hC h HQ c0 c1
          go_wp2_with fail
          go_ret
          exact ⟨rfl, HB.out⟩
        have HR := Lib.hid (HR.out.below hC HR.out.lt)
        have HB := Lib.hid (HB.out.trans (hC.mono HB.out.size))
        clear hC HQ c0 c1
        obtain ⟨b1, b2, b3, b4, b5⟩ := pack_back h
        have HQ := Lib.hid (Try.Unpack_any (packV x y) b5 X1)
        rw [b2, b3] at HQ
        obtain ⟨p, hp⟩ : ∃ p, p = packV x y := ⟨_, rfl⟩
        rw [← hp] at HQ b1 b4 ⊢
        have hz : ((p : Int) == 0) = false := by simp; omega
        have hg : (0 : Int) < (p : Int) := by omega
        have HOK := Lib.hid b1
        clear h hp b1 b2 b3 b4 b5
        go_wp2_with fail
        refine HQ.out.mono ?_
        rintro e X2 ⟨⟨_, rfl⟩ | ⟨h, _⟩, hC⟩
        rotate_left
        · rw [HOK.out] at h
          cases h
        have HR := Lib.hid (HR.out.below hC HR.out.lt)
        have HB := Lib.hid (HB.out.trans (hC.mono HB.out.size))
        clear hC HQ hz
        have c0 : X2.cell? ⟨w.heap.size, 0, none⟩ = some (.int .i64 x) := HR.out.cell 0
        have c1 : X2.cell? ⟨w.heap.size, 1, none⟩ = some (.int .u64 (y : Nat)) := HR.out.cell 1
        have l0 := HR.out.lt
        go_wp2_with fail
        go_ret
        exact ⟨by simp; omega, HB.out.alloc HB.out.size _⟩
      · have HR := Lib.hid (HR.out.below hC HR.out.lt)
        have HB := Lib.hid (HB.out.trans (hC.mono HB.out.size))
        clear hC HQ
        clear h
        have c0 : Y1.cell? ⟨w.heap.size, 0, none⟩ = some (.int .i64 x) := HR.out.cell 0
        have c1 : Y1.cell? ⟨w.heap.size, 1, none⟩ = some (.int .u64 (y : Nat)) := HR.out.cell 1
        have HQ := Lib.hid (Try.Pack_any x y HX.out Y1)
        go_wp2_with fail
        refine HQ.out.mono ?_
        rintro e X1 ⟨⟨h, rfl⟩ | ⟨h, rfl⟩, hC⟩
        rotate_left
        · have HB := Lib.hid (HB.out.trans (hC.mono HB.out.size))
          clear hC h HQ c0 c1
          go_wp2_with fail
          go_ret
          exact ⟨rfl, HB.out⟩
        have HR := Lib.hid (HR.out.below hC HR.out.lt)
        have HB := Lib.hid (HB.out.trans (hC.mono HB.out.size))
        clear hC HQ c0 c1
        obtain ⟨b1, b2, b3, b4, b5⟩ := pack_back h
        have HQ := Lib.hid (Try.Unpack_any (packV x y) b5 X1)
        rw [b2, b3] at HQ
        obtain ⟨p, hp⟩ : ∃ p, p = packV x y := ⟨_, rfl⟩
        rw [← hp] at HQ b1 b4 ⊢
        have hz : ((p : Int) == 0) = false := by simp; omega
        have hg : (0 : Int) < (p : Int) := by omega
        have HOK := Lib.hid b1
        clear h hp b1 b2 b3 b4 b5
        go_wp2_with fail
        refine HQ.out.mono ?_
        rintro e X2 ⟨⟨_, rfl⟩ | ⟨h, _⟩, hC⟩
        rotate_left
        · rw [HOK.out] at h
          cases h
        have HR := Lib.hid (HR.out.below hC HR.out.lt)
        have HB := Lib.hid (HB.out.trans (hC.mono HB.out.size))
        clear hC HQ hz
        have c0 : X2.cell? ⟨w.heap.size, 0, none⟩ = some (.int .i64 x) := HR.out.cell 0
        have c1 : X2.cell? ⟨w.heap.size, 1, none⟩ = some (.int .u64 (y : Nat)) := HR.out.cell 1
        have l0 := HR.out.lt
        go_wp2_with fail
        go_ret
        exact ⟨by simp; omega, HB.out.alloc HB.out.size _⟩
  · have HR := Lib.hid (HR.out.below hC HR.out.lt)
    have HB := Lib.hid (HB.out.trans (hC.mono HB.out.size))
    clear hC HQ
    clear h
    have HQ := Lib.hid (Try.Of_any k HK.out Z1)
    go_wp2_with fail
    refine HQ.out.mono ?_
    rintro e Y1 ⟨⟨h, rfl⟩ | ⟨h, rfl⟩, hC⟩
    · have HR := Lib.hid (HR.out.below hC HR.out.lt)
      have HB := Lib.hid (HB.out.trans (hC.mono HB.out.size))
      clear hC HQ
      obtain ⟨b1, b2, b3, b4⟩ := of_cell h
      have HQ := Lib.hid (Try.Cell_any ((k - 16) / 40) ((k - 16) % 40) b3 b4 Y1)
      rw [b2] at HQ
      have HO := Lib.hid b1
      obtain ⟨u, hu⟩ : ∃ u, u = (k - 16) / 40 := ⟨_, rfl⟩
      obtain ⟨v, hv⟩ : ∃ v, v = (k - 16) % 40 := ⟨_, rfl⟩
      rw [← hu, ← hv] at HQ HO ⊢
      clear h hu hv b1 b2 b3 b4
      go_wp2_with fail
      refine HQ.out.mono ?_
      rintro e Y2 ⟨⟨_, rfl⟩ | ⟨h, _⟩, hC⟩
      rotate_left
      · rw [HO.out] at h
        cases h
      have HR := Lib.hid (HR.out.below hC HR.out.lt)
      have HB := Lib.hid (HB.out.trans (hC.mono HB.out.size))
      clear hC HQ HO
      have c0 : Y2.cell? ⟨w.heap.size, 0, none⟩ = some (.int .i64 x) := HR.out.cell 0
      have c1 : Y2.cell? ⟨w.heap.size, 1, none⟩ = some (.int .u64 (y : Nat)) := HR.out.cell 1
      have HQ := Lib.hid (Try.Pack_any x y HX.out Y2)
      go_wp2_with fail
      refine HQ.out.mono ?_
      rintro e X1 ⟨⟨h, rfl⟩ | ⟨h, rfl⟩, hC⟩
      rotate_left
      · have HB := Lib.hid (HB.out.trans (hC.mono HB.out.size))
        clear hC h HQ c0 c1
        go_wp2_with fail
        go_ret
        exact ⟨rfl, HB.out⟩
      have HR := Lib.hid (HR.out.below hC HR.out.lt)
      have HB := Lib.hid (HB.out.trans (hC.mono HB.out.size))
      clear hC HQ c0 c1
      obtain ⟨b1, b2, b3, b4, b5⟩ := pack_back h
      have HQ := Lib.hid (Try.Unpack_any (packV x y) b5 X1)
      rw [b2, b3] at HQ
      obtain ⟨p, hp⟩ : ∃ p, p = packV x y := ⟨_, rfl⟩
      rw [← hp] at HQ b1 b4 ⊢
      have hz : ((p : Int) == 0) = false := by simp; omega
      have hg : (0 : Int) < (p : Int) := by omega
      have HOK := Lib.hid b1
      clear h hp b1 b2 b3 b4 b5
      go_wp2_with fail
      refine HQ.out.mono ?_
      rintro e X2 ⟨⟨_, rfl⟩ | ⟨h, _⟩, hC⟩
      rotate_left
      · rw [HOK.out] at h
        cases h
      have HR := Lib.hid (HR.out.below hC HR.out.lt)
      have HB := Lib.hid (HB.out.trans (hC.mono HB.out.size))
      clear hC HQ hz
      have c0 : X2.cell? ⟨w.heap.size, 0, none⟩ = some (.int .i64 x) := HR.out.cell 0
      have c1 : X2.cell? ⟨w.heap.size, 1, none⟩ = some (.int .u64 (y : Nat)) := HR.out.cell 1
      have l0 := HR.out.lt
      go_wp2_with fail
      go_ret
      exact ⟨by simp; omega, HB.out.alloc HB.out.size _⟩
    · have HR := Lib.hid (HR.out.below hC HR.out.lt)
      have HB := Lib.hid (HB.out.trans (hC.mono HB.out.size))
      clear hC HQ
      clear h
      have c0 : Y1.cell? ⟨w.heap.size, 0, none⟩ = some (.int .i64 x) := HR.out.cell 0
      have c1 : Y1.cell? ⟨w.heap.size, 1, none⟩ = some (.int .u64 (y : Nat)) := HR.out.cell 1
      have HQ := Lib.hid (Try.Pack_any x y HX.out Y1)
      go_wp2_with fail
      refine HQ.out.mono ?_
      rintro e X1 ⟨⟨h, rfl⟩ | ⟨h, rfl⟩, hC⟩
      rotate_left
      · have HB := Lib.hid (HB.out.trans (hC.mono HB.out.size))
        clear hC h HQ c0 c1
        go_wp2_with fail
        go_ret
        exact ⟨rfl, HB.out⟩
      have HR := Lib.hid (HR.out.below hC HR.out.lt)
      have HB := Lib.hid (HB.out.trans (hC.mono HB.out.size))
      clear hC HQ c0 c1
      obtain ⟨b1, b2, b3, b4, b5⟩ := pack_back h
      have HQ := Lib.hid (Try.Unpack_any (packV x y) b5 X1)
      rw [b2, b3] at HQ
      obtain ⟨p, hp⟩ : ∃ p, p = packV x y := ⟨_, rfl⟩
      rw [← hp] at HQ b1 b4 ⊢
      have hz : ((p : Int) == 0) = false := by simp; omega
      have hg : (0 : Int) < (p : Int) := by omega
      have HOK := Lib.hid b1
      clear h hp b1 b2 b3 b4 b5
      go_wp2_with fail
      refine HQ.out.mono ?_
      rintro e X2 ⟨⟨_, rfl⟩ | ⟨h, _⟩, hC⟩
      rotate_left
      · rw [HOK.out] at h
        cases h
      have HR := Lib.hid (HR.out.below hC HR.out.lt)
      have HB := Lib.hid (HB.out.trans (hC.mono HB.out.size))
      clear hC HQ hz
      have c0 : X2.cell? ⟨w.heap.size, 0, none⟩ = some (.int .i64 x) := HR.out.cell 0
      have c1 : X2.cell? ⟨w.heap.size, 1, none⟩ = some (.int .u64 (y : Nat)) := HR.out.cell 1
      have l0 := HR.out.lt
      go_wp2_with fail
      go_ret
      exact ⟨by simp; omega, HB.out.alloc HB.out.size _⟩

theorem walk (n k : Int) (g : Pr) (w : World) (hn : (Lit.int .i64 n).wf = true) (hk : (Lit.int .i64 k).wf = true) (hg : okP g) :
    Calls Try.prog 6 #[.int .i64 n, .int .i64 k, .agg #[.int .i64 g.1, .int .u64 (g.2 : Nat)]] w fun e w' => e = .returned (.bool true) ∧ Below w.heap.size w w' := law_any n k g.1 g.2 (i64_in hn) (i64_in hk) hg.1 w
theorem laidOut : laidOutB Try.prog = true := by kernel_rfl
set_option maxRecDepth 100000 in
theorem lifted (os : Os) (started : os.Started) (H : Type) (enc : TypeId × Value → H) :
    ReturnsInHanded {} Try.checked os 6 .any (Rows.layoutBackSpec.pre6 enc Try.prog Try.f6 Rows.layoutBackRow.domain false) (Rows.layoutBackSpec.post enc Try.prog Try.f6 false true false false) := by
  refine returnsInHanded_of_change (C := Try.checked) own started (by kernel_rfl) Try.func6
    (ChangeSpec.witness6 (enc := enc) (C := Try.checked) false ⟨#[], #[.int .i64 0, .int .i64 0, .agg #[.int .i64 0, .int .u64 0]], []⟩ 8 (by kernel_rfl) (by kernel_rfl) (by kernel_rfl) (by kernel_rfl)) ?_
  intro W base args ds gs before hval0 hW hcnd _
  have hval : ∀ (j : Nat) t v, Try.f6.params[j]? = some t → args[j]? = some v → Value.okWide Try.prog W .any base t v := hval0
  have hW' := hW
  obtain ⟨p, q, hA0, hV, rfl, hfz, hnd⟩ := hW
  have hA : DataW.TrodAll enc Try.prog W 0 (fun _ => true) true Try.f6.params.toList args.toList ds p := hA0
  rw [Try.params6] at hA hval
  obtain ⟨v0, vs0, d0, ds0, p0, q0, hargs, rfl, rfl, h0, r0⟩ := trodAll_cons hA
  obtain ⟨v1, vs1, d1, ds1, p1, q1, rfl, rfl, rfl, h1, r1⟩ := trodAll_cons r0
  obtain ⟨v2, vs2, d2, ds2, p2, q2, rfl, rfl, rfl, h2, r2⟩ := trodAll_cons r1
  obtain ⟨rfl, rfl, rfl⟩ := trodAll_nil r2
  obtain rfl : args = #[v0, v1, v2] := by cases args; simp_all
  obtain ⟨rfl, rfl⟩ := trodVars_none hV
  obtain ⟨a0, rfl, rfl, rfl, w0⟩ := open_int Try.underlying3 (hval 0 3 v0 rfl rfl) h0
  obtain ⟨a1, rfl, rfl, rfl, w1⟩ := open_int Try.underlying3 (hval 1 3 v1 rfl rfl) h1
  have k2 := h2
  have lt2 : ∀ x ∈ p2, x.block < W.heap.size := by obtain ⟨m, hm⟩ := k2; exact DataW.trod_lt m _ _ _ hm
  obtain ⟨g2, rfl, w2⟩ := open_entry (hval 2 36 v2 rfl rfl) h2
  clear hA0 hval0
  refine (walk a0 a1 g2 W w0 w1 w2).mono fun e W' ⟨he, bel⟩ => ?_
  subst he
  exact ⟨_, rfl, _, _, _, [], _, [], hW', trodAll_mk1 (shut_bool Try.underlying4 _), (trodAll_cons_mk (shut_int Try.underlying3 w0) (trodAll_cons_mk (shut_int Try.underlying3 w1) (trodAll_cons_mk (Below.trod laidOut (by kernel_rfl) (of_decide_eq_true (by kernel_rfl)) k2 bel lt2) trodAll_mk0))), rfl, bel.frame _, fun h => by cases h⟩

theorem over : Rows.layoutBackRow.holds Try.pinned (OpenSpec.ofChange Rows.layoutBackSpec) :=
  OpenClaim.holds_of_wide 6 Try.f6 rfl rfl rfl rfl rfl rfl rfl ⟨rfl, rfl, rfl, rfl, rfl⟩ rfl rfl rfl rfl rfl (by kernel_rfl) Try.func6 (by kernel_rfl)
    (of_decide_eq_true (by kernel_rfl)) (by unfold Func.isWrapper; first | (rw [if_pos (by decide +kernel)]; kernel_rfl) | (rw [if_neg (by decide +kernel)]; exact ⟨rfl, rfl⟩))
    (fun os started H enc _ => lifted os started H enc)

theorem proved : Rows.LayoutBackSaid := over
end Go.Proofs.Ytkddfihfilhhdaa.layoutBack
