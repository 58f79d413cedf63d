/- Place, Next. -/
import Derived.Test.YtehphohgnpbmpaaQe
import Derived.Test.YtehphohgnpbmpaaQf
namespace Go.Proofs
open Go.RowKit Go.Shelf
attribute [local go_sem] Oper.semAt_some

theorem firstP_some {p : Nat → Bool} {g l k : Nat} (hk : k < g) (hp : p (rowAt g l k) = true) (hn : ∀ j, j < k → p (rowAt g l j) = false) : firstP p g l = some (k, rowAt g l k) := by
  unfold firstP
  rw [List.find?_eq_some_iff_getElem]
  refine ⟨hp, k, by rw [rowL_len]; exact hk, rowL_get g l k _, fun j hj => ?_⟩
  rw [rowL_get]
  simp [hn j hj]
theorem firstP_none {p : Nat → Bool} {g l : Nat} (h : ∀ k, k < g → p (rowAt g l k) = false) : firstP p g l = none := by
  unfold firstP
  rw [List.find?_eq_none]
  intro q hq
  unfold rowL at hq
  obtain ⟨i, hi, rfl⟩ := List.mem_map.1 hq
  simp [h i (List.mem_range.1 hi)]
theorem firstP_at {p : Nat → Bool} {g l : Nat} {q : Nat × Nat} (h : firstP p g l = some q) : q.1 < g ∧ q.2 = rowAt g l q.1 ∧ p q.2 = true ∧ ∀ j, j < q.1 → p (rowAt g l j) = false := by
  unfold firstP at h
  rw [List.find?_eq_some_iff_getElem] at h
  obtain ⟨h1, i, hi, he, hj⟩ := h
  rw [rowL_get] at he
  subst he
  refine ⟨by rw [rowL_len] at hi; exact hi, rfl, h1, fun j hji => ?_⟩
  have := hj j hji
  rw [rowL_get] at this
  simpa using this
theorem firstP_no {p : Nat → Bool} {g l : Nat} (h : firstP p g l = none) (k : Nat) (hk : k < g) : p (rowAt g l k) = false := by
  unfold firstP at h
  rw [List.find?_eq_none] at h
  have := h (k, rowAt g l k) (by unfold rowL; exact List.mem_map.2 ⟨k, List.mem_range.2 hk, rfl⟩)
  simpa using this
theorem firstP_place {g l x : Nat} (hm : mayB g = true) (hl : l < g) (hx : x < g) : firstP (fun y => y == x) g l = some (place g l x, x) := by
  obtain ⟨h1, h2⟩ := place_spec hm hl hx
  have h := firstP_some (p := fun y => y == x) (l := l) h1 (by simpa using h2) (fun j hj => by
    have : rowAt g l j ≠ x := fun e => by
      have := rowAt_inj hm (by omega) h1 (e.trans h2.symm)
      omega
    simpa using this)
  rwa [h2] at h

theorem Try.placed_any (x y Bx : Nat) (w : World) (h : Rows8 w Bx 3 #[.int .i64 (x : Int)]) : Calls Try.prog 34 #[.int .i64 (y : Int), .pointer (some ⟨Bx, 0, none⟩)] w fun e w' => e = .returned (.bool (y == x)) ∧ w = w' := by
  have c0 : w.cell? ⟨Bx, 0, none⟩ = some (.int .i64 (x : Int)) := h.cell 0
  have hq : ((y : Int) == (x : Int)) = (y == x) := by rw [Bool.eq_iff_iff]; simp; omega
  generalize (y == x) = b at *
  go_enter Try.func34, Try.ntmps34
  go_wp2
  go_ret
  exact ⟨rfl, rfl⟩
theorem Try.Place_no (g h i : Int) (hm : checkE g ≠ 0) (w : World) :
    Calls Try.prog 13 #[.int .i64 g, .int .u64 h, .int .i64 i] w fun e w' => e = .returned (.tuple #[.int .i64 0, .int .i64 180]) ∧ Below w.heap.size w w' := by
  have HC := fun W => Lib.hid (Try.Check_any g W)
  rw [checkE_not hm] at HC
  clear hm
  go_enter Try.func13, Try.ntmps13
  go_wp2_with fail
  refine (HC _).out.mono ?_
  rintro e w1 ⟨rfl, rfl⟩
  go_wp2_with fail
  go_ret2
  exact ⟨rfl, (Below.refl _ w).alloc (Nat.le_refl _) _⟩
theorem Try.Place_out (g : Nat) (h i : Int) (hm : mayB g = true) (ho : outB (g : Int) i = true) (w : World) :
    Calls Try.prog 13 #[.int .i64 (g : Int), .int .u64 h, .int .i64 i] w fun e w' => e = .returned (.tuple #[.int .i64 0, .int .i64 2]) ∧ Below w.heap.size w w' := by
  have HC := fun W => Lib.hid (Try.Check_any (g : Int) W)
  rw [checkE_may hm] at HC
  have HO := fun W => Lib.hid (Try.outside_any (g : Int) i W)
  rw [ho] at HO
  clear hm ho
  go_enter Try.func13, Try.ntmps13
  go_wp2_with fail
  refine (HC _).out.mono ?_
  rintro e w1 ⟨rfl, rfl⟩
  go_wp2_with fail
  refine (HO _).out.mono ?_
  rintro e w1 ⟨rfl, rfl⟩
  go_wp2_with fail
  go_ret2
  exact ⟨rfl, (Below.refl _ w).alloc (Nat.le_refl _) _⟩
set_option maxRecDepth 100000 in
set_option maxHeartbeats 2000000 in
theorem Try.Place_ok (g h i : Nat) (hm : mayB g = true) (hi : i < g) (hh : h < 18446744073709551616) (w : World) :
    Calls Try.prog 13 #[.int .i64 (g : Int), .int .u64 (h : Int), .int .i64 (i : Int)] w fun e w' => e = .returned (.tuple #[.int .i64 (place g (h % g) i : Int), .int .i64 0]) ∧ Below w.heap.size w w' := by
  obtain ⟨hg, hg2⟩ := mayB_le hm
  have HC := fun W => Lib.hid (Try.Check_any (g : Int) W)
  rw [checkE_may hm] at HC
  have HO := fun W => Lib.hid (Try.outside_any (g : Int) i W)
  rw [show outB (g : Int) (i : Int) = false by simp [outB]; omega] at HO
  have HR := fun W => Lib.hid (Try.row_any (g : Int) (h : Int) W)
  have HP := fun W (hx : Rows8 W w.heap.size 3 #[.int .i64 (i : Int)]) B1 B2 (h1 : Rows8 W B1 3 #[.int .i64 (g : Int)]) (h2 : Rows8 W B2 22 #[.int .u64 (h : Int)]) =>
    Lib.hid (Try.where_any g h hg hg2 hh B1 B2 34 #[.pointer (some ⟨w.heap.size, 0, none⟩)] (fun y => y == i) W (fun y W' _ hB => Try.placed_any i y w.heap.size W' (hx.below hB hx.lt)) (fun _ _ => by kernel_rfl) h1 h2)
  rw [firstP_place hm (Nat.mod_lt _ hg) hi] at HP
  unfold whereV at HP
  dsimp only at HP
  generalize place g (h % g) i = pl at *
  have b0 := Rows8.new w 3 #[.int .i64 (i : Int)]
  have hBw : Below w.heap.size w (w.alloc (.cells #[.int .i64 (i : Int)] 3)) := (Below.refl _ w).alloc (Nat.le_refl _) _
  have B0 := Lib.hid b0
  have HBw := Lib.hid hBw
  clear b0 hBw hm hi
  go_enter Try.func13, Try.ntmps13
  go_wp2_with fail
  refine (HC _).out.mono ?_
  rintro e w1 ⟨rfl, rfl⟩
  go_wp2_with fail
  refine (HO _).out.mono ?_
  rintro e w1 ⟨rfl, rfl⟩
  go_wp2_with fail
  refine (HR _).out.mono ?_
  rintro e w2 ⟨rfl, hw2⟩
  rw [World.size_alloc]
  have h1 : Rows8 w2 (w.alloc (.cells #[.int .i64 (i : Int)] 3)).heap.size 3 #[.int .i64 (g : Int)] := by rw [hw2]; exact (Rows8.new _ _ _).alloc _
  have h2 : Rows8 w2 ((w.alloc (.cells #[.int .i64 (i : Int)] 3)).heap.size + 1) 22 #[.int .u64 (h : Int)] := by
    rw [hw2]
    have h := Rows8.new ((w.alloc (.cells #[.int .i64 (i : Int)] 3)).alloc (.cells #[.int .i64 (g : Int)] 3)) 22 #[.int .u64 (h : Int)]
    rwa [World.size_alloc] at h
  have hx : Rows8 w2 w.heap.size 3 #[.int .i64 (i : Int)] := by rw [hw2]; exact (B0.out.alloc _).alloc _
  have HB2 : Hid (Below w.heap.size w w2) := Lib.hid (by rw [hw2]; exact (HBw.out.alloc (by simp) _).alloc (by simp; omega) _)
  clear hw2
  rw [World.size_alloc] at h1 h2
  have HC2 := HP w2 hx _ _ h1 h2
  clear h1 h2 hx HP
  go_wp2_with fail
  refine HC2.out.mono ?_
  rintro e w3 ⟨rfl, hB3⟩
  go_wp2_with fail
  go_ret2
  exact ⟨rfl, HB2.out.trans (hB3.mono HB2.out.size)⟩

theorem Try.Next_no (g a i : Int) (hm : checkE g ≠ 0) (w : World) :
    Calls Try.prog 22 #[.int .i64 g, .int .i64 a, .int .i64 i] w fun e w' => e = .returned (.tuple #[.int .i64 0, .int .i64 180]) ∧ w = w' := by
  have HC := Lib.hid (Try.Check_any g w)
  rw [checkE_not hm] at HC
  clear hm
  go_enter Try.func22, Try.ntmps22
  go_wp2_with fail
  refine HC.out.mono ?_
  rintro e w1 ⟨rfl, rfl⟩
  go_wp2_with fail
  go_ret2
  exact ⟨rfl, rfl⟩
/-- What Next answers. -/
def nextV (g a i : Int) : Value := if outB g a = true ∨ outB (g - 1) i = true then .tuple #[.int .i64 0, .int .i64 2] else .tuple #[.int .i64 ((a + i + 1) % g), .int .i64 0]
set_option maxRecDepth 100000 in
set_option maxHeartbeats 2000000 in
theorem Try.Next_any (g : Nat) (a i : Int) (hm : mayB g = true) (w : World) :
    Calls Try.prog 22 #[.int .i64 (g : Int), .int .i64 a, .int .i64 i] w fun e w' => e = .returned (nextV g a i) ∧ w = w' := by
  obtain ⟨hg, hg2⟩ := mayB_le hm
  have HC := Lib.hid (Try.Check_any (g : Int) w)
  rw [checkE_may hm] at HC
  have HO1 := Lib.hid (Try.outside_any (g : Int) a w)
  have HO2 := Lib.hid (Try.outside_any ((g : Int) - 1) i w)
  unfold nextV
  clear hm
  cases h1 : outB (g : Int) a with
  | true =>
    rw [h1] at HO1
    rw [if_pos (.inl rfl)]
    clear h1
    go_enter Try.func22, Try.ntmps22
    go_wp2_with fail
    refine HC.out.mono ?_
    rintro e w1 ⟨rfl, rfl⟩
    go_wp2_with fail
    refine HO1.out.mono ?_
    rintro e w1 ⟨rfl, rfl⟩
    go_wp2_with fail
    go_ret2
    exact ⟨rfl, rfl⟩
  | false =>
    rw [h1] at HO1
    cases h2 : outB ((g : Int) - 1) i with
    | true =>
      rw [h2] at HO2
      rw [if_pos (.inr rfl)]
      clear h1 h2
      go_enter Try.func22, Try.ntmps22
      go_wp2_with fail
      refine HC.out.mono ?_
      rintro e w1 ⟨rfl, rfl⟩
      go_wp2_with fail
      refine HO1.out.mono ?_
      rintro e w1 ⟨rfl, rfl⟩
      go_wp2_with fail
      refine HO2.out.mono ?_
      rintro e w1 ⟨rfl, rfl⟩
      go_wp2_with fail
      go_ret2
      exact ⟨rfl, rfl⟩
    | false =>
      rw [h2] at HO2
      rw [if_neg (by simp)]
      simp [outB] at h1 h2
      obtain ⟨x, rfl⟩ : ∃ x : Nat, a = x := ⟨a.toNat, by omega⟩
      obtain ⟨y, rfl⟩ : ∃ y : Nat, i = y := ⟨i.toNat, by omega⟩
      have HB := Lib.hid (Try.behind_any g x y hg hg2 (by omega) (by omega) w)
      have hz := Lib.hid (show (((x + y + 1) % g : Nat) : Int) = ((x : Int) + (y : Int) + 1) % (g : Int) by push_cast; rfl)
      clear h1 h2
      go_enter Try.func22, Try.ntmps22
      go_wp2_with fail
      refine HC.out.mono ?_
      rintro e w1 ⟨rfl, rfl⟩
      go_wp2_with fail
      refine HO1.out.mono ?_
      rintro e w1 ⟨rfl, rfl⟩
      go_wp2_with fail
      refine HO2.out.mono ?_
      rintro e w1 ⟨rfl, rfl⟩
      go_wp2_with fail
      refine HB.out.mono ?_
      rintro e w1 ⟨rfl, rfl⟩
      go_wp2_with fail
      go_ret2
      exact ⟨by rw [hz.out.symm.symm.symm]; rfl, rfl⟩
end Go.Proofs
