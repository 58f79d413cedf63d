/- bits.Len64, bits.Len. -/
import Derived.Test.YtfboppjedgfacaaZKa
import Derived.Lib.Tables
import Derived.Lib.BitFns
namespace Go.Proofs
open Go.RowKit Go.Shelf
attribute [local go_sem] Oper.semAt_some

theorem len_add (k a b : Nat) (hk : k ≤ 56) (ha : a ≤ 8) (hb : b = k + a) : wrap64 ((k : Int) + wrap64 (a : Int)) = (b : Int) := by
  unfold wrap64
  omega
theorem len_one (a : Nat) (ha : a ≤ 8) : wrap64 (a : Int) = (a : Int) := by
  unfold wrap64
  omega
theorem u8_wrap_small {y : Int} (h0 : 0 ≤ y) (h1 : y ≤ 255) : IntKind.u8.wrap y = y := by
  have e : IntKind.u8.wrap y = y % 256 := by simp [IntKind.wrap, IntKind.bits, IntKind.signed]
  rw [e]; omega
set_option maxRecDepth 1000000 in
set_option maxHeartbeats 2000000 in
theorem Try.len64_111 (x : Int) (h0 : 0 ≤ x) (hx : x ≤ 18446744073709551615) (h1 : 4294967296 ≤ x) (h2 : 65536 ≤ x / 4294967296) (h3 : 256 ≤ x / 4294967296 / 65536) (w : World) :
    Calls Try.prog 84 #[.int .u64 x] w fun e w' => e = .returned (.int .i64 (Lib.bitLen x.toNat)) ∧ w = w' := by
  have y0 : 0 ≤ x / 4294967296 / 65536 / 256 := by omega
  have y1 : x / 4294967296 / 65536 / 256 ≤ 255 := by omega
  have yw := u8_wrap_small y0 y1
  have e := Lib.len8_of (x / 4294967296 / 65536 / 256) y0 y1
  have l := Lib.bitLen_le8' (x / 4294967296 / 65536 / 256) y0 y1
  have d1 : decide (4294967296 ≤ x) = true := by simp; omega
  have d2 : decide (65536 ≤ x / 4294967296) = true := by simp; omega
  have d3 : decide (256 ≤ x / 4294967296 / 65536) = true := by simp; omega
  have en : (x / 4294967296 / 65536 / 256).toNat = x.toNat / 72057594037927936 := by omega
  have s := Lib.bitLen_shift56 x.toNat (by omega) (by omega)
  have r : wrap64 (56 + wrap64 (Lib.len8 (x / 4294967296 / 65536 / 256))) = (Lib.bitLen x.toNat : Int) := by rw [e]; rw [en] at l ⊢; exact len_add 56 _ _ (by decide) l s
  clear en s
  have hs := Try.underlying9
  clear e l
  go_enter Try.func84, Try.ntmps84
  go_wp2
  go_ret
  first | exact ⟨rfl, rfl⟩ | exact ⟨by rw [r]; rfl, rfl⟩
set_option maxRecDepth 1000000 in
set_option maxHeartbeats 2000000 in
theorem Try.len64_110 (x : Int) (h0 : 0 ≤ x) (hx : x ≤ 18446744073709551615) (h1 : 4294967296 ≤ x) (h2 : 65536 ≤ x / 4294967296) (h3 : x / 4294967296 / 65536 < 256) (w : World) :
    Calls Try.prog 84 #[.int .u64 x] w fun e w' => e = .returned (.int .i64 (Lib.bitLen x.toNat)) ∧ w = w' := by
  have y0 : 0 ≤ x / 4294967296 / 65536 := by omega
  have y1 : x / 4294967296 / 65536 ≤ 255 := by omega
  have yw := u8_wrap_small y0 y1
  have e := Lib.len8_of (x / 4294967296 / 65536) y0 y1
  have l := Lib.bitLen_le8' (x / 4294967296 / 65536) y0 y1
  have d1 : decide (4294967296 ≤ x) = true := by simp; omega
  have d2 : decide (65536 ≤ x / 4294967296) = true := by simp; omega
  have d3 : decide (256 ≤ x / 4294967296 / 65536) = false := by simp; omega
  have n3 : ¬ 256 ≤ x / 4294967296 / 65536 := by omega
  have en : (x / 4294967296 / 65536).toNat = x.toNat / 281474976710656 := by omega
  have s := Lib.bitLen_shift48 x.toNat (by omega) (by omega)
  have r : wrap64 (48 + wrap64 (Lib.len8 (x / 4294967296 / 65536))) = (Lib.bitLen x.toNat : Int) := by rw [e]; rw [en] at l ⊢; exact len_add 48 _ _ (by decide) l s
  clear en s
  have hs := Try.underlying9
  clear e l
  go_enter Try.func84, Try.ntmps84
  go_wp2
  go_ret
  first | exact ⟨rfl, rfl⟩ | exact ⟨by rw [r]; rfl, rfl⟩
set_option maxRecDepth 1000000 in
set_option maxHeartbeats 2000000 in
theorem Try.len64_101 (x : Int) (h0 : 0 ≤ x) (hx : x ≤ 18446744073709551615) (h1 : 4294967296 ≤ x) (h2 : x / 4294967296 < 65536) (h3 : 256 ≤ x / 4294967296) (w : World) :
    Calls Try.prog 84 #[.int .u64 x] w fun e w' => e = .returned (.int .i64 (Lib.bitLen x.toNat)) ∧ w = w' := by
  have y0 : 0 ≤ x / 4294967296 / 256 := by omega
  have y1 : x / 4294967296 / 256 ≤ 255 := by omega
  have yw := u8_wrap_small y0 y1
  have e := Lib.len8_of (x / 4294967296 / 256) y0 y1
  have l := Lib.bitLen_le8' (x / 4294967296 / 256) y0 y1
  have d1 : decide (4294967296 ≤ x) = true := by simp; omega
  have d2 : decide (65536 ≤ x / 4294967296) = false := by simp; omega
  have n2 : ¬ 65536 ≤ x / 4294967296 := by omega
  have d3 : decide (256 ≤ x / 4294967296) = true := by simp; omega
  have en : (x / 4294967296 / 256).toNat = x.toNat / 1099511627776 := by omega
  have s := Lib.bitLen_shift40 x.toNat (by omega) (by omega)
  have r : wrap64 (40 + wrap64 (Lib.len8 (x / 4294967296 / 256))) = (Lib.bitLen x.toNat : Int) := by rw [e]; rw [en] at l ⊢; exact len_add 40 _ _ (by decide) l s
  clear en s
  have hs := Try.underlying9
  clear e l
  go_enter Try.func84, Try.ntmps84
  go_wp2
  go_ret
  first | exact ⟨rfl, rfl⟩ | exact ⟨by rw [r]; rfl, rfl⟩
set_option maxRecDepth 1000000 in
set_option maxHeartbeats 2000000 in
theorem Try.len64_100 (x : Int) (h0 : 0 ≤ x) (hx : x ≤ 18446744073709551615) (h1 : 4294967296 ≤ x) (h2 : x / 4294967296 < 65536) (h3 : x / 4294967296 < 256) (w : World) :
    Calls Try.prog 84 #[.int .u64 x] w fun e w' => e = .returned (.int .i64 (Lib.bitLen x.toNat)) ∧ w = w' := by
  have y0 : 0 ≤ x / 4294967296 := by omega
  have y1 : x / 4294967296 ≤ 255 := by omega
  have yw := u8_wrap_small y0 y1
  have e := Lib.len8_of (x / 4294967296) y0 y1
  have l := Lib.bitLen_le8' (x / 4294967296) y0 y1
  have d1 : decide (4294967296 ≤ x) = true := by simp; omega
  have d2 : decide (65536 ≤ x / 4294967296) = false := by simp; omega
  have n2 : ¬ 65536 ≤ x / 4294967296 := by omega
  have d3 : decide (256 ≤ x / 4294967296) = false := by simp; omega
  have n3 : ¬ 256 ≤ x / 4294967296 := by omega
  have en : (x / 4294967296).toNat = x.toNat / 4294967296 := by omega
  have s := Lib.bitLen_shift32 x.toNat (by omega) (by omega)
  have r : wrap64 (32 + wrap64 (Lib.len8 (x / 4294967296))) = (Lib.bitLen x.toNat : Int) := by rw [e]; rw [en] at l ⊢; exact len_add 32 _ _ (by decide) l s
  clear en s
  have hs := Try.underlying9
  clear e l
  go_enter Try.func84, Try.ntmps84
  go_wp2
  go_ret
  first | exact ⟨rfl, rfl⟩ | exact ⟨by rw [r]; rfl, rfl⟩
set_option maxRecDepth 1000000 in
set_option maxHeartbeats 2000000 in
theorem Try.len64_011 (x : Int) (h0 : 0 ≤ x) (hx : x ≤ 18446744073709551615) (h1 : x < 4294967296) (h2 : 65536 ≤ x) (h3 : 256 ≤ x / 65536) (w : World) :
    Calls Try.prog 84 #[.int .u64 x] w fun e w' => e = .returned (.int .i64 (Lib.bitLen x.toNat)) ∧ w = w' := by
  have y0 : 0 ≤ x / 65536 / 256 := by omega
  have y1 : x / 65536 / 256 ≤ 255 := by omega
  have yw := u8_wrap_small y0 y1
  have e := Lib.len8_of (x / 65536 / 256) y0 y1
  have l := Lib.bitLen_le8' (x / 65536 / 256) y0 y1
  have d1 : decide (4294967296 ≤ x) = false := by simp; omega
  have n1 : ¬ 4294967296 ≤ x := by omega
  have d2 : decide (65536 ≤ x) = true := by simp; omega
  have d3 : decide (256 ≤ x / 65536) = true := by simp; omega
  have en : (x / 65536 / 256).toNat = x.toNat / 16777216 := by omega
  have s := Lib.bitLen_shift24 x.toNat (by omega) (by omega)
  have r : wrap64 (24 + wrap64 (Lib.len8 (x / 65536 / 256))) = (Lib.bitLen x.toNat : Int) := by rw [e]; rw [en] at l ⊢; exact len_add 24 _ _ (by decide) l s
  clear en s
  have hs := Try.underlying9
  clear e l
  go_enter Try.func84, Try.ntmps84
  go_wp2
  go_ret
  first | exact ⟨rfl, rfl⟩ | exact ⟨by rw [r]; rfl, rfl⟩
set_option maxRecDepth 1000000 in
set_option maxHeartbeats 2000000 in
theorem Try.len64_010 (x : Int) (h0 : 0 ≤ x) (hx : x ≤ 18446744073709551615) (h1 : x < 4294967296) (h2 : 65536 ≤ x) (h3 : x / 65536 < 256) (w : World) :
    Calls Try.prog 84 #[.int .u64 x] w fun e w' => e = .returned (.int .i64 (Lib.bitLen x.toNat)) ∧ w = w' := by
  have y0 : 0 ≤ x / 65536 := by omega
  have y1 : x / 65536 ≤ 255 := by omega
  have yw := u8_wrap_small y0 y1
  have e := Lib.len8_of (x / 65536) y0 y1
  have l := Lib.bitLen_le8' (x / 65536) y0 y1
  have d1 : decide (4294967296 ≤ x) = false := by simp; omega
  have n1 : ¬ 4294967296 ≤ x := by omega
  have d2 : decide (65536 ≤ x) = true := by simp; omega
  have d3 : decide (256 ≤ x / 65536) = false := by simp; omega
  have n3 : ¬ 256 ≤ x / 65536 := by omega
  have en : (x / 65536).toNat = x.toNat / 65536 := by omega
  have s := Lib.bitLen_shift16 x.toNat (by omega) (by omega)
  have r : wrap64 (16 + wrap64 (Lib.len8 (x / 65536))) = (Lib.bitLen x.toNat : Int) := by rw [e]; rw [en] at l ⊢; exact len_add 16 _ _ (by decide) l s
  clear en s
  have hs := Try.underlying9
  clear e l
  go_enter Try.func84, Try.ntmps84
  go_wp2
  go_ret
  first | exact ⟨rfl, rfl⟩ | exact ⟨by rw [r]; rfl, rfl⟩
set_option maxRecDepth 1000000 in
set_option maxHeartbeats 2000000 in
theorem Try.len64_001 (x : Int) (h0 : 0 ≤ x) (hx : x ≤ 18446744073709551615) (h1 : x < 4294967296) (h2 : x < 65536) (h3 : 256 ≤ x) (w : World) :
    Calls Try.prog 84 #[.int .u64 x] w fun e w' => e = .returned (.int .i64 (Lib.bitLen x.toNat)) ∧ w = w' := by
  have y0 : 0 ≤ x / 256 := by omega
  have y1 : x / 256 ≤ 255 := by omega
  have yw := u8_wrap_small y0 y1
  have e := Lib.len8_of (x / 256) y0 y1
  have l := Lib.bitLen_le8' (x / 256) y0 y1
  have d1 : decide (4294967296 ≤ x) = false := by simp; omega
  have n1 : ¬ 4294967296 ≤ x := by omega
  have d2 : decide (65536 ≤ x) = false := by simp; omega
  have n2 : ¬ 65536 ≤ x := by omega
  have d3 : decide (256 ≤ x) = true := by simp; omega
  have en : (x / 256).toNat = x.toNat / 256 := by omega
  have s := Lib.bitLen_shift8 x.toNat (by omega) (by omega)
  have r : wrap64 (8 + wrap64 (Lib.len8 (x / 256))) = (Lib.bitLen x.toNat : Int) := by rw [e]; rw [en] at l ⊢; exact len_add 8 _ _ (by decide) l s
  clear en s
  have hs := Try.underlying9
  clear e l
  go_enter Try.func84, Try.ntmps84
  go_wp2
  go_ret
  first | exact ⟨rfl, rfl⟩ | exact ⟨by rw [r]; rfl, rfl⟩
set_option maxRecDepth 1000000 in
set_option maxHeartbeats 2000000 in
theorem Try.len64_000 (x : Int) (h0 : 0 ≤ x) (hx : x ≤ 18446744073709551615) (h1 : x < 4294967296) (h2 : x < 65536) (h3 : x < 256) (w : World) :
    Calls Try.prog 84 #[.int .u64 x] w fun e w' => e = .returned (.int .i64 (Lib.bitLen x.toNat)) ∧ w = w' := by
  have y0 : 0 ≤ x := by omega
  have y1 : x ≤ 255 := by omega
  have yw := u8_wrap_small y0 y1
  have e := Lib.len8_of (x) y0 y1
  have l := Lib.bitLen_le8' (x) y0 y1
  have d1 : decide (4294967296 ≤ x) = false := by simp; omega
  have n1 : ¬ 4294967296 ≤ x := by omega
  have d2 : decide (65536 ≤ x) = false := by simp; omega
  have n2 : ¬ 65536 ≤ x := by omega
  have d3 : decide (256 ≤ x) = false := by simp; omega
  have n3 : ¬ 256 ≤ x := by omega
  have r : wrap64 (Lib.len8 (x)) = (Lib.bitLen x.toNat : Int) := by rw [e]; exact len_one _ l
  have r2 := len_one _ l
  have hs := Try.underlying9
  clear e l
  go_enter Try.func84, Try.ntmps84
  go_wp2
  go_ret
  first | exact ⟨rfl, rfl⟩ | exact ⟨by rw [r]; rfl, rfl⟩
theorem Try.Len64_any (x : Nat) (hx : x < 18446744073709551616) (w : World) :
    Calls Try.prog 84 #[.int .u64 (x : Int)] w fun e w' => e = .returned (.int .i64 (Lib.bitLen x)) ∧ w = w' := by
  have key : Calls Try.prog 84 #[.int .u64 (x : Int)] w fun e w' => e = .returned (.int .i64 (Lib.bitLen (x : Int).toNat)) ∧ w = w' := by
    have h0 : (0 : Int) ≤ x := by omega
    have hx : (x : Int) ≤ 18446744073709551615 := by omega
    generalize (x : Int) = y at *
    by_cases h1 : 4294967296 ≤ y
    ·
      by_cases h2 : 65536 ≤ y / 4294967296
      ·
        by_cases h3 : 256 ≤ y / 4294967296 / 65536
        ·
          exact Try.len64_111 y h0 hx h1 h2 h3 w
        ·
          exact Try.len64_110 y h0 hx h1 h2 (by omega) w
      ·
        by_cases h3 : 256 ≤ y / 4294967296
        ·
          exact Try.len64_101 y h0 hx h1 (by omega) h3 w
        ·
          exact Try.len64_100 y h0 hx h1 (by omega) (by omega) w
    ·
      by_cases h2 : 65536 ≤ y
      ·
        by_cases h3 : 256 ≤ y / 65536
        ·
          exact Try.len64_011 y h0 hx (by omega) h2 h3 w
        ·
          exact Try.len64_010 y h0 hx (by omega) h2 (by omega) w
      ·
        by_cases h3 : 256 ≤ y
        ·
          exact Try.len64_001 y h0 hx (by omega) (by omega) h3 w
        ·
          exact Try.len64_000 y h0 hx (by omega) (by omega) (by omega) w
  rw [Int.toNat_natCast] at key
  exact key
set_option maxRecDepth 100000 in
set_option maxHeartbeats 1000000 in
theorem Try.Len_any (x : Nat) (hx : x < 18446744073709551616) (w : World) :
    Calls Try.prog 72 #[.int .u64 (x : Int)] w fun e w' => e = .returned (.int .i64 (Lib.bitLen x)) ∧ w = w' := by
  have hl := Try.Len64_any x hx w
  generalize Lib.bitLen x = n at *
  go_enter Try.func72, Try.ntmps72
  go_wp2_with fail
  refine hl.mono ?_
  rintro e' w' ⟨rfl, rfl⟩
  go_wp2_with fail
  go_ret
  exact ⟨rfl, rfl⟩
end Go.Proofs
