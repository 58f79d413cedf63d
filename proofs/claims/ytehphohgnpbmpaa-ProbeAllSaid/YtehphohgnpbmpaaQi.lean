/- First. -/
import Derived.Test.YtehphohgnpbmpaaQg
import Derived.Test.YtehphohgnpbmpaaQh
namespace Go.Proofs
open Go.RowKit Go.Shelf
attribute [local go_sem] Oper.semAt_some

/-- Is a group's flag true? -/
def flagB (fl : List Bool) (y : Nat) : Bool := fl[y]?.getD false
theorem Try.flagged_any (fl : List Bool) (a : Option Addr) (n c y Bx : Nat) (w : World) (h : Rows8 w Bx 36 #[.slice a n c]) (hI : BAt w (.slice a n c) fl) (hy : y < n) : Calls Try.prog 36 #[.int .i64 (y : Int), .pointer (some ⟨Bx, 0, none⟩)] w fun e w' => e = .returned (.bool (flagB fl y)) ∧ w = w' := by
  have c0 : w.cell? ⟨Bx, 0, none⟩ = some (.slice a n c) := h.cell 0
  obtain ⟨hn, _, _⟩ := bAt_len hI
  have hyl : y < fl.length := by omega
  obtain ⟨b, off, rfl, hb, hc⟩ := bAt_get hI y hyl
  have hf : flagB fl y = fl[y] := by simp [flagB, hyl]
  rw [hf]
  generalize fl[y] = q at *
  have hyi : (y : Int) < (n : Int) := by omega
  clear hI hn hyl hf h
  go_enter Try.func36, Try.ntmps36
  go_wp2
  go_ret
  exact ⟨rfl, rfl⟩
/-- What First answers, of as many flags as groups. -/
def firstV : Option (Nat × Nat) → Value
  | none => .tuple #[.int .i64 0, .int .i64 0, .int .i64 4]
  | some q => .tuple #[.int .i64 (q.1 : Int), .int .i64 (q.2 : Int), .int .i64 0]
theorem Try.First_no (g h : Int) (a : Option Addr) (n c : Nat) (hm : checkE g ≠ 0) (w : World) :
    Calls Try.prog 21 #[.int .i64 g, .int .u64 h, .slice a n c] w fun e w' => e = .returned (.tuple #[.int .i64 0, .int .i64 0, .int .i64 180]) ∧ Below w.heap.size w w' := by
  have HC := fun W => Lib.hid (Try.Check_any g W)
  rw [checkE_not hm] at HC
  clear hm
  go_enter Try.func21, Try.ntmps21
  go_wp2_with fail
  refine (HC _).out.mono ?_
  rintro e w1 ⟨rfl, rfl⟩
  go_wp2_with fail
  go_ret3
  exact ⟨rfl, (Below.refl _ w).alloc (Nat.le_refl _) _⟩
theorem Try.First_few (g : Nat) (h : Int) (a : Option Addr) (n c : Nat) (hm : mayB g = true) (hn : n ≠ g) (w : World) :
    Calls Try.prog 21 #[.int .i64 (g : Int), .int .u64 h, .slice a n c] w fun e w' => e = .returned (.tuple #[.int .i64 0, .int .i64 0, .int .i64 2]) ∧ Below w.heap.size w w' := by
  have HC := fun W => Lib.hid (Try.Check_any (g : Int) W)
  rw [checkE_may hm] at HC
  have hq : ((n : Int) != (g : Int)) = true := by simp; omega
  clear hm
  go_enter Try.func21, Try.ntmps21
  go_wp2_with fail
  refine (HC _).out.mono ?_
  rintro e w1 ⟨rfl, rfl⟩
  go_wp2_with fail
  go_ret3
  exact ⟨rfl, (Below.refl _ w).alloc (Nat.le_refl _) _⟩
set_option maxRecDepth 100000 in
set_option maxHeartbeats 2000000 in
theorem Try.First_ok (g h : Nat) (hm : mayB g = true) (hh : h < 18446744073709551616) (fl : List Bool) (a : Option Addr) (n c : Nat) (hn : n = g) (w : World) (hI : BAt w (.slice a n c) fl) :
    Calls Try.prog 21 #[.int .i64 (g : Int), .int .u64 (h : Int), .slice a n c] w fun e w' => e = .returned (firstV (firstP (flagB fl) g (h % g))) ∧ Below w.heap.size w w' := by
  subst hn
  obtain ⟨hg, hg2⟩ := mayB_le hm
  have HC := fun W => Lib.hid (Try.Check_any (n : Int) W)
  rw [checkE_may hm] at HC
  have HR := fun W => Lib.hid (Try.row_any (n : Int) (h : Int) W)
  have HP := fun W (hB0 : Below w.heap.size w W) (hx : Rows8 W w.heap.size 36 #[.slice a n c]) B1 B2 (h1 : Rows8 W B1 3 #[.int .i64 (n : Int)]) (h2 : Rows8 W B2 22 #[.int .u64 (h : Int)]) =>
    Lib.hid (Try.where_any n h hg hg2 hh B1 B2 36 #[.pointer (some ⟨w.heap.size, 0, none⟩)] (flagB fl) W (fun y W' hy hB => Try.flagged_any fl a n c y w.heap.size W' (hx.below hB hx.lt) (RowAt.below (RowAt.below hI hB0) hB) hy) (fun _ _ => by kernel_rfl) h1 h2)
  generalize firstP (flagB fl) n (h % n) = r at *
  have b0 := Rows8.new w 36 #[.slice a n c]
  have hBw : Below w.heap.size w (w.alloc (.cells #[.slice a n c] 36)) := (Below.refl _ w).alloc (Nat.le_refl _) _
  have B0 := Lib.hid b0
  have HBw := Lib.hid hBw
  clear b0 hBw hm hI
  go_enter Try.func21, Try.ntmps21
  go_wp2_with fail
  refine (HC _).out.mono ?_
  rintro e w1 ⟨rfl, rfl⟩
  go_wp2_with fail
  refine (HR _).out.mono ?_
  rintro e w2 ⟨rfl, hw2⟩
  rw [World.size_alloc]
  have h1 : Rows8 w2 (w.alloc (.cells #[.slice a n c] 36)).heap.size 3 #[.int .i64 (n : Int)] := by rw [hw2]; exact (Rows8.new _ _ _).alloc _
  have h2 : Rows8 w2 ((w.alloc (.cells #[.slice a n c] 36)).heap.size + 1) 22 #[.int .u64 (h : Int)] := by
    rw [hw2]
    have h := Rows8.new ((w.alloc (.cells #[.slice a n c] 36)).alloc (.cells #[.int .i64 (n : Int)] 3)) 22 #[.int .u64 (h : Int)]
    rwa [World.size_alloc] at h
  have hx : Rows8 w2 w.heap.size 36 #[.slice a n c] := by rw [hw2]; exact (B0.out.alloc _).alloc _
  have hB2 : Below w.heap.size w w2 := by rw [hw2]; exact (HBw.out.alloc (by simp) _).alloc (by simp; omega) _
  clear hw2
  rw [World.size_alloc] at h1 h2
  have HC2 := HP w2 hB2 hx _ _ h1 h2
  have HB2 := Lib.hid hB2
  clear h1 h2 hx HP hB2
  cases r with
  | none =>
    unfold whereV at HC2
    dsimp only at HC2
    go_wp2_with fail
    refine HC2.out.mono ?_
    rintro e w3 ⟨rfl, hB3⟩
    go_wp2_with fail
    go_ret3
    exact ⟨rfl, HB2.out.trans (hB3.mono HB2.out.size)⟩
  | some q =>
    unfold whereV at HC2
    dsimp only at HC2
    go_wp2_with fail
    refine HC2.out.mono ?_
    rintro e w3 ⟨rfl, hB3⟩
    go_wp2_with fail
    go_ret3
    exact ⟨rfl, HB2.out.trans (hB3.mono HB2.out.size)⟩
end Go.Proofs
