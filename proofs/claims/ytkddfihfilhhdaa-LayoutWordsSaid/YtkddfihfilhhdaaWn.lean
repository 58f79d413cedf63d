/- Layout: DirWords, At, Same. -/
import Derived.Test.YtkddfihfilhhdaaWm
namespace Go.Proofs
set_option maxRecDepth 100000
open Go.RowKit Go.Shelf
attribute [local go_sem] Oper.semAt_some

set_option maxHeartbeats 1000000 in
theorem Try.DirWords1_any (d : Int) (a : Option Addr) (n c : Nat) (l : List Pr) (hi : I64 d) (hE : ∀ p ∈ l, I64 p.1) (B : Nat) (w : World) (hA : PAt w (.slice a n c) l) (hr : Rows8 w B 64 #[.int .i64 d, .slice a n c]) : Calls Try.prog 61 #[.pointer (some ⟨B, 0, none⟩)] w fun e w' => Below w.heap.size w w' ∧ ((∃ x, e = .returned x ∧ (∃ B, x = .slice (some ⟨B, 0, none⟩) 40 40 ∧ w.heap.size < B ∧ Rows8 w' B 34 (wordVals (dwords d l)).toArray) ∧ okD d l = true) ∨ ∃ q, e = .panicked (panicA q) ∧ q = 261 ∧ okD d l = false) := by
  have HQ := Lib.hid (Try.wordsOfDir_any d a n c l hi hE w hA)
  have c0 : w.cell? ⟨B, 0, none⟩ = some (.int .i64 d) := hr.cell 0
  have c1 : w.cell? ⟨B, 1, none⟩ = some (.slice a n c) := hr.cell 1
  clear hr hi hE hA
  go_enter Try.func61, Try.ntmps61
  go_wp2_with fail
  refine HQ.out.mono ?_
  rintro e W1 ⟨hC, ⟨v, rfl, hv, h⟩ | ⟨q, rfl, rfl, h⟩⟩
  · have HB := Lib.hid hC
    have H := Lib.hid (And.intro hv h)
    clear hC h HQ hv c0 c1
    go_wp2_with fail
    go_ret
    exact ⟨HB.out, .inl ⟨_, rfl, H.out.1, H.out.2⟩⟩
  · have HB := Lib.hid hC
    have H := Lib.hid h
    clear hC h HQ c0 c1
    unfold panicA
    go_wp2_with fail
    exact ⟨(by first | rfl | trivial), HB.out, .inr ⟨_, rfl, rfl, H.out⟩⟩
/-- What DirWords tells. -/
def DwQ (d : Int) (l : List Pr) (n₀ : Nat) (e : Ending) (w : World) : Prop := (okD d l = true ∧ ∃ B, e = .returned (.tuple #[.slice (some ⟨B, 0, none⟩) 40 40, .int .i64 0]) ∧ n₀ ≤ B ∧ Rows8 w B 34 (wordVals (dwords d l)).toArray) ∨ (okD d l = false ∧ e = .returned (.tuple #[.slice none 0 0, .int .i64 261]))
set_option maxHeartbeats 1000000 in
theorem Try.DirWords_any (d : Int) (a : Option Addr) (n c : Nat) (l : List Pr) (hi : I64 d) (hE : ∀ p ∈ l, I64 p.1) (w : World) (hA : PAt w (.slice a n c) l) : Calls Try.prog 30 #[.agg #[.int .i64 d, .slice a n c]] w fun e w' => DwQ d l w.heap.size e w' ∧ Below w.heap.size w w' := by
  obtain ⟨W0, hW0⟩ : ∃ W, W = w.alloc (.cells #[.int .i64 d, .slice a n c] 64) := ⟨_, rfl⟩
  have hs0 : W0.heap.size = w.heap.size + 1 := by rw [hW0]; simp
  have HB : Hid (Below w.heap.size w W0) := Lib.hid (by rw [hW0]; exact Rows8.newB)
  have r0 : Rows8 W0 w.heap.size 64 #[.int .i64 d, .slice a n c] := by rw [hW0]; exact Rows8.new _ _ _
  have hT := Try.caughtW_any 61 #[.pointer (some ⟨w.heap.size, 0, none⟩)] W0 (fun x W => (∃ B, x = .slice (some ⟨B, 0, none⟩) 40 40 ∧ w.heap.size + 1 < B ∧ Rows8 W B 34 (wordVals (dwords d l)).toArray) ∧ okD d l = true) (fun q => q = 261 ∧ okD d l = false) (fun _ _ => by kernel_rfl)
    ((Try.DirWords1_any d a n c l hi hE _ _ ((PAt.below hA HB.out).below Rows8.newB) (r0.alloc _)).mono (by
      rintro e w' ⟨hC, ⟨x, rfl, ⟨B, rfl, hb, hr⟩, h⟩ | h⟩
      · exact ⟨hC, .inl ⟨_, rfl, ⟨B, rfl, by simp [hs0] at hb; omega, hr⟩, h⟩⟩
      · exact ⟨hC, .inr h⟩)) (by
      rintro x W u _ ⟨⟨B, hx, hb, hr⟩, h⟩
      exact ⟨⟨B, hx, hb, hr.setOther (a := ⟨W0.heap.size, 0, none⟩) (by simp [hs0]; omega) u⟩, h⟩)
  have HT := Lib.hid hT
  clear hT r0 hi hE hA hs0
  go_enter Try.func30, Try.ntmps30
  go_upto_region 1 with fail
  rw [← hW0]
  clear hW0
  go_wp2_with fail
  refine HT.out.mono ?_
  rintro e W1 ⟨hC, ⟨v, rfl, ⟨B, rfl, hb, hr⟩, h⟩ | ⟨q, rfl, rfl, h⟩⟩
  · have HB := Lib.hid (HB.out.trans (hC.mono HB.out.size))
    have H := Lib.hid (And.intro hb (And.intro hr h))
    clear hC HT hb hr h
    go_wp2_with fail
    go_ret2
    exact ⟨.inl ⟨H.out.2.2, B, rfl, by have := H.out.1; omega, H.out.2.1⟩, HB.out⟩
  · have HB := Lib.hid (HB.out.trans (hC.mono HB.out.size))
    have H := Lib.hid h
    clear hC HT h
    go_wp2_with fail
    go_ret2
    exact ⟨.inr ⟨H.out, rfl⟩, HB.out⟩
theorem okD_d {d : Int} {l : List Pr} (h : okD d l = true) : 0 ≤ d ∧ d ≤ 5 := by
  simp [okD] at h
  omega
theorem topB_lt {h d : Nat} (hd : d ≤ 5) (hh : h < 18446744073709551616) : topB h d < 2 ^ d := by
  unfold topB
  rw [Nat.div_lt_iff_lt_mul (Nat.two_pow_pos _), ← Nat.pow_add, show d + (64 - d) = 64 by omega]
  exact hh
set_option maxHeartbeats 1000000 in
theorem Try.At1_any (d : Int) (a : Option Addr) (n c : Nat) (l : List Pr) (hi : I64 d) (hE : ∀ p ∈ l, I64 p.1) (B C h : Nat) (hh : h < 18446744073709551616) (w : World) (hA : PAt w (.slice a n c) l) (hr : Rows8 w B 64 #[.int .i64 d, .slice a n c]) (hs : Rows8 w C 34 #[.int .u64 (h : Nat)]) : Calls Try.prog 67 #[.pointer (some ⟨B, 0, none⟩), .pointer (some ⟨C, 0, none⟩)] w fun e w' => Below w.heap.size w w' ∧ ((∃ x, e = .returned x ∧ x = .int .i64 (topB h d.toNat : Nat) ∧ okD d l = true) ∨ ∃ q, e = .panicked (panicA q) ∧ q = 261 ∧ okD d l = false) := by
  have HQ := Lib.hid (Try.wordsOfDir_any d a n c l hi hE w hA)
  have HR := Lib.hid hr
  have HS := Lib.hid hs
  have HH := Lib.hid hh
  have c0 : w.cell? ⟨B, 0, none⟩ = some (.int .i64 d) := hr.cell 0
  have c1 : w.cell? ⟨B, 1, none⟩ = some (.slice a n c) := hr.cell 1
  clear hr hi hE hA hs hh
  go_enter Try.func67, Try.ntmps67
  go_wp2_with fail
  refine HQ.out.mono ?_
  rintro e W1 ⟨hC, ⟨v, rfl, hv, h⟩ | ⟨q, rfl, rfl, h⟩⟩
  · have HR := Lib.hid (HR.out.below hC HR.out.lt)
    have HS := Lib.hid (HS.out.below hC HS.out.lt)
    have HB := Lib.hid hC
    have HO := Lib.hid h
    clear hC h HQ hv c0 c1
    have hd := okD_d HO.out
    have hq := Try.highest_any h d.toNat (by omega) HH.out W1
    rw [show ((d.toNat : Nat) : Int) = d from Int.toNat_of_nonneg hd.1] at hq
    have hlt := topB_lt (show d.toNat ≤ 5 by omega) HH.out
    have h32 : 2 ^ d.toNat ≤ 2 ^ 5 := Nat.pow_le_pow_right (by decide) (by omega)
    obtain ⟨z, hz⟩ : ∃ z, z = topB h d.toNat := ⟨_, rfl⟩
    rw [← hz] at hq hlt
    have hw : wrap64 (z : Int) = (z : Int) := IntWalk.wrap64_in _ ⟨by omega, by omega⟩
    have hw2 : IntKind.i64.wrap (z : Int) = (z : Int) := IntWalk.i64_in _ ⟨by omega, by omega⟩
    have HQ := Lib.hid hq
    have HZ := Lib.hid hz
    have c0 : W1.cell? ⟨B, 0, none⟩ = some (.int .i64 d) := HR.out.cell 0
    have c1 : W1.cell? ⟨C, 0, none⟩ = some (.int .u64 (h : Nat)) := HS.out.cell 0
    clear hq hlt h32 hz hd
    go_wp2_with fail
    refine HQ.out.mono ?_
    rintro e w9 ⟨rfl, hw9⟩
    subst w9
    go_wp2_with fail
    go_ret
    exact ⟨HB.out, .inl ⟨_, rfl, by (try rw [hw]); rw [HZ.out]; rfl, HO.out⟩⟩
  · have HB := Lib.hid hC
    have H := Lib.hid h
    clear hC h HQ c0 c1
    unfold panicA
    go_wp2_with fail
    exact ⟨(by first | rfl | trivial), HB.out, .inr ⟨_, rfl, rfl, H.out⟩⟩
set_option maxHeartbeats 1000000 in
theorem Try.At_any (d : Int) (a : Option Addr) (n c : Nat) (l : List Pr) (hi : I64 d) (hE : ∀ p ∈ l, I64 p.1) (h : Nat) (hh : h < 18446744073709551616) (w : World) (hA : PAt w (.slice a n c) l) : Calls Try.prog 36 #[.agg #[.int .i64 d, .slice a n c], .int .u64 (h : Nat)] w fun e w' => ((okD d l = true ∧ e = .returned (.tuple #[.int .i64 (topB h d.toNat : Nat), .int .i64 0])) ∨ (okD d l = false ∧ e = .returned (.tuple #[.int .i64 0, .int .i64 261]))) ∧ Below w.heap.size w w' := by
  obtain ⟨W0, hW0⟩ : ∃ W, W = ((w.alloc (.cells #[.int .i64 d, .slice a n c] 64)).alloc (.cells #[.int .u64 (h : Nat)] 34)) := ⟨_, rfl⟩
  have HB : Hid (Below w.heap.size w W0) := Lib.hid (by rw [hW0]; exact (Rows8.newB).alloc (by simp) _)
  have r0 : Rows8 W0 w.heap.size 64 #[.int .i64 d, .slice a n c] := by rw [hW0]; exact (Rows8.new _ _ _).alloc _
  have r1 : Rows8 W0 (w.heap.size + 1) 34 #[.int .u64 (h : Nat)] := by rw [hW0]; exact rows_new2 _ _ _ _
  have hT := Try.caughtI_any 67 #[.pointer (some ⟨w.heap.size, 0, none⟩), .pointer (some ⟨w.heap.size + 1, 0, none⟩)] W0 (fun x _ => x = .int .i64 (topB h d.toNat : Nat) ∧ okD d l = true) (fun q => q = 261 ∧ okD d l = false) (fun _ _ => by kernel_rfl)
    (Try.At1_any d a n c l hi hE _ _ h hh _ ((PAt.below hA HB.out).below Rows8.newB) (r0.alloc _) (r1.alloc _)) (fun _ _ _ _ h => h)
  have HT := Lib.hid hT
  clear hT r0 r1 hi hE hA hh
  go_enter Try.func36, Try.ntmps36
  go_upto_region 1 with fail
  rw [← hW0]
  clear hW0
  go_wp2_with fail
  refine HT.out.mono ?_
  rintro e W1 ⟨hC, ⟨v, rfl, rfl, h⟩ | ⟨q, rfl, rfl, h⟩⟩
  · have HB := Lib.hid (HB.out.trans (hC.mono HB.out.size))
    have H := Lib.hid h
    clear hC HT h
    go_wp2_with fail
    go_ret2
    exact ⟨.inl ⟨H.out, rfl⟩, HB.out⟩
  · have HB := Lib.hid (HB.out.trans (hC.mono HB.out.size))
    have H := Lib.hid h
    clear hC HT h
    go_wp2_with fail
    go_ret2
    exact ⟨.inr ⟨H.out, rfl⟩, HB.out⟩
/-- Are these the same? -/
def sameD (d : Int) (l : List Pr) (d2 : Int) (l2 : List Pr) : Bool := decide (d = d2) && decide (l = l2)
set_option maxHeartbeats 1000000 in
theorem Try.SameD_any (d d2 : Int) (a a2 : Option Addr) (n n2 c c2 : Nat) (l l2 : List Pr) (w : World) (hA : PAt w (.slice a n c) l) (hA2 : PAt w (.slice a2 n2 c2) l2) (h1 : n ≤ 10000) (h2 : n2 ≤ 10000) : Calls Try.prog 32 #[.agg #[.int .i64 d, .slice a n c], .agg #[.int .i64 d2, .slice a2 n2 c2]] w fun e w' => e = .returned (.bool (sameD d l d2 l2)) ∧ Below w.heap.size w w' := by
  obtain ⟨W0, hW0⟩ : ∃ W, W = ((w.alloc (.cells #[.int .i64 d, .slice a n c] 64)).alloc (.cells #[.int .i64 d2, .slice a2 n2 c2] 64)) := ⟨_, rfl⟩
  have HB : Hid (Below w.heap.size w W0) := Lib.hid (by rw [hW0]; exact (Rows8.newB).alloc (by simp) _)
  have r0 : Rows8 W0 w.heap.size 64 #[.int .i64 d, .slice a n c] := by rw [hW0]; exact (Rows8.new _ _ _).alloc _
  have r1 : Rows8 W0 (w.heap.size + 1) 64 #[.int .i64 d2, .slice a2 n2 c2] := by rw [hW0]; exact rows_new2 _ _ _ _
  have HQ := Lib.hid (Try.equalEntry_any a a2 n n2 c c2 l l2 W0 (PAt.below hA HB.out) (PAt.below hA2 HB.out) h1 h2)
  have c0 : W0.cell? ⟨w.heap.size, 0, none⟩ = some (.int .i64 d) := r0.cell 0
  have c1 : W0.cell? ⟨w.heap.size, 1, none⟩ = some (.slice a n c) := r0.cell 1
  have e0 : W0.cell? ⟨w.heap.size + 1, 0, none⟩ = some (.int .i64 d2) := r1.cell 0
  have e1 : W0.cell? ⟨w.heap.size + 1, 1, none⟩ = some (.slice a2 n2 c2) := r1.cell 1
  clear hA hA2 h1 h2 r0 r1
  by_cases hd : d = d2
  · subst hd
    obtain ⟨z, hz⟩ : ∃ z, z = sameD d l d l2 := ⟨_, rfl⟩
    rw [← hz]
    have HZ := Lib.hid hz
    clear hz
    go_enter Try.func32, Try.ntmps32
    go_upto_region 1 with fail
    rw [← hW0]
    clear hW0
    go_wp2_with fail
    refine HQ.out.mono ?_
    rintro e W1 ⟨rfl, hC⟩
    have HB := Lib.hid (HB.out.trans (hC.mono HB.out.size))
    clear hC HQ c0 c1 e0 e1
    go_wp2_with fail
    go_ret
    exact ⟨by rw [HZ.out]; simp [sameD], HB.out⟩
  · have hb : (d == d2) = false := by simp [hd]
    have HD := Lib.hid hd
    obtain ⟨z, hz⟩ : ∃ z, z = sameD d l d2 l2 := ⟨_, rfl⟩
    rw [← hz]
    have HZ := Lib.hid hz
    clear hz hd
    go_enter Try.func32, Try.ntmps32
    go_upto_region 1 with fail
    rw [← hW0]
    clear hW0
    go_wp2_with fail
    go_ret
    exact ⟨by rw [HZ.out]; simp [sameD, HD.out], HB.out⟩
end Go.Proofs
