/- Hashes that are made: times, turn, unturn. -/
import Derived.Test.YtobomgedghbflaaKa
import Derived.Test.YtobomgedghbflaaHm
import Derived.LoopN
namespace Go.Proofs
open Go.RowKit Go.Shelf
attribute [local go_sem] Oper.semAt_some

/-- A draft that holds x. -/
def DraftAt (W : World) (B x : Nat) : Prop := Rows8 W B 52 #[.int .u64 (x : Int)]
theorem wrap_mul (x c : Nat) : IntKind.u64.wrap ((x : Int) * (c : Int)) = ((mulB c x : Nat) : Int) := by
  have e : ∀ n : Int, IntKind.u64.wrap n = n % 18446744073709551616 := fun n => by simp [IntKind.wrap, IntKind.bits, IntKind.signed]
  rw [e]
  unfold mulB
  exact (Int.natCast_emod _ _).symm
theorem grown_drew {A B : World} {r : Option Nat} (h : A.grownBy B r) : A.grownBy B.drew r := ⟨h.os, h.tape, h.output, h.size, h.block⟩
set_option maxRecDepth 100000 in
set_option maxHeartbeats 1000000 in
theorem Try.times_any (B x c : Nat) (w : World) (hR : DraftAt w B x) :
    Calls Try.prog 43 #[.pointer (some ⟨B, 0, none⟩), .int .u64 (c : Int)] w fun e w' => e = .returned (.tuple #[]) ∧ DraftAt w' B (mulB c x) ∧ w.grownBy w' (some B) := by
  have hc0 := Rows8.cell hR 0
  have hf := Rows8.frozen hR 0
  have hm := wrap_mul x c
  have hS := Rows8.set hR 0 (.int .u64 ((mulB c x : Nat) : Int))
  have HS := Lib.hid hS
  clear hS hR
  simp at hc0
  generalize mulB c x = y at *
  go_enter Try.func43, Try.ntmps43
  go_wp2
  go_end0
  exact ⟨rfl, HS.out, grownBy_setCell' _ _ _⟩

set_option maxRecDepth 100000 in
set_option maxHeartbeats 1000000 in
theorem Try.turn_any (B x p : Nat) (hx : x < 18446744073709551616) (hp : p ≤ 64) (w : World) (hR : DraftAt w B x) :
    Calls Try.prog 44 #[.pointer (some ⟨B, 0, none⟩), .int .i64 (p : Int)] w fun e w' => e = .returned (.tuple #[]) ∧ DraftAt w' B (turnB p x) ∧ w.grownBy w' (some B) := by
  have hR' : DraftAt w.drew B x := hR
  have hc0 := Rows8.cell hR' 0
  have hf := Rows8.frozen hR' 0
  have hm : bits .xor .u64 (x : Int) ((x : Int) / 2 ^ p) = ((turnB p x : Nat) : Int) := by
    have e : (x : Int) / 2 ^ p = ((x / 2 ^ p : Nat) : Int) := by simp
    rw [e, u64_xor_nat _ _ hx (div_lt64 p hx)]
    rfl
  have hS := Rows8.set hR' 0 (.int .u64 ((turnB p x : Nat) : Int))
  have HS := Lib.hid hS
  have h0 : (0 : Int) ≤ (p : Int) := by omega
  have h1 : (p : Int) ≤ 64 := by omega
  clear hS hR hR'
  simp at hc0
  generalize turnB p x = y at *
  go_enter Try.func44, Try.ntmps44
  go_wp2_with fail
  go_region
  go_wp2
  go_end0
  exact ⟨rfl, HS.out, grown_drew (grownBy_setCell' _ _ _)⟩

theorem xor_walk {a b : Nat} (ha : a < 18446744073709551616) (hb : b < 18446744073709551616) {c : Nat} (h : a ^^^ b = c) : bits .xor .u64 (a : Int) (b : Int) = (c : Int) := by rw [u64_xor_nat _ _ ha hb, h]
theorem div_walk' (x p : Nat) : (x : Int) / 2 ^ p = ((x / 2 ^ p : Nat) : Int) := by simp
theorem div_lit {x p : Nat} {q : Nat} (h : 2 ^ p = q) : (x : Int) / (q : Int) = ((x / 2 ^ p : Nat) : Int) := by subst h; simp
set_option maxRecDepth 100000 in
set_option maxHeartbeats 1000000 in
theorem Try.unturn32_any (B x : Nat) (hx : x < 18446744073709551616) (w : World) (hR : DraftAt w B x) :
    Calls Try.prog 45 #[.pointer (some ⟨B, 0, none⟩), .int .i64 32] w fun e w' => e = .returned (.tuple #[]) ∧ DraftAt w' B (turnB 32 x) ∧ w.grownBy w' (some B) := by
  have hR' : DraftAt w.drew B x := hR
  have hc0 := Rows8.cell hR' 0
  have hf := Rows8.frozen hR' 0
  have hm : bits .xor .u64 (x : Int) ((x : Int) / 4294967296) = ((turnB 32 x : Nat) : Int) := by
    rw [show (4294967296 : Int) = ((4294967296 : Nat) : Int) from rfl, div_lit (p := 32) (by decide)]
    exact xor_walk hx (div_lt64 32 hx) rfl
  have hS := Rows8.set hR' 0 (.int .u64 ((turnB 32 x : Nat) : Int))
  have HS := Lib.hid hS
  clear hS hR hR'
  simp at hc0
  generalize turnB 32 x = y at *
  go_enter Try.func45, Try.ntmps45
  go_wp2_with fail
  refine wp_loop_rounds 2 ?_
  rw [rounds_succ]
  go_wp2_with fail
  go_region
  go_wp2_with fail
  rw [rounds_succ]
  go_wp2_with fail
  go_end0
  exact ⟨rfl, HS.out, grown_drew (grownBy_setCell' _ _ _)⟩
set_option maxRecDepth 100000 in
set_option maxHeartbeats 1000000 in
theorem Try.unturn29_any (B x : Nat) (hx : x < 18446744073709551616) (w : World) (hR : DraftAt w B x) :
    Calls Try.prog 45 #[.pointer (some ⟨B, 0, none⟩), .int .i64 29] w fun e w' => e = .returned (.tuple #[]) ∧ DraftAt w' B (unturn29 x) ∧ w.grownBy w' (some B) := by
  have hR' : DraftAt w.drew B x := hR
  have hc0 := Rows8.cell hR' 0
  have hf := Rows8.frozen hR' 0
  obtain ⟨y, hy⟩ : ∃ y, y = x ^^^ (x / 2 ^ 29) := ⟨_, rfl⟩
  have hy1 : y < 18446744073709551616 := by rw [hy]; exact xor_lt hx (div_lt64 29 hx)
  have hm : bits .xor .u64 (x : Int) ((x : Int) / 536870912) = (y : Int) := by
    rw [show (536870912 : Int) = ((536870912 : Nat) : Int) from rfl, div_lit (p := 29) (by decide)]
    exact xor_walk hx (div_lt64 29 hx) hy.symm
  have hm2 : bits .xor .u64 (y : Int) ((x : Int) / 288230376151711744) = ((unturn29 x : Nat) : Int) := by
    rw [show (288230376151711744 : Int) = ((288230376151711744 : Nat) : Int) from rfl, div_lit (p := 58) (by decide)]
    exact xor_walk hy1 (div_lt64 58 hx) (by rw [hy]; rfl)
  have hS : DraftAt (w.setCell ⟨B, 0, none⟩ (.int .u64 (y : Int))).drew B y := Rows8.set hR' 0 (.int .u64 (y : Int))
  have hG : w.grownBy (w.setCell ⟨B, 0, none⟩ (.int .u64 (y : Int))).drew (some B) := grown_drew (grownBy_setCell' _ _ _)
  have HS := Lib.hid hS
  have HG := Lib.hid hG
  clear hS hG hR hR' hy
  simp at hc0
  generalize unturn29 x = z at *
  go_enter Try.func45, Try.ntmps45
  go_wp2_with fail
  refine wp_loop_rounds 3 ?_
  rw [rounds_succ]
  go_wp2_with fail
  go_region
  go_wp2_with fail
  rw [rounds_succ]
  clear hc0 hf
  generalize (w.setCell ⟨B, 0, none⟩ (.int .u64 (y : Int))).drew = W1 at *
  have hR1 : DraftAt W1.drew B y := HS.out
  have hc0 := Rows8.cell hR1 0
  have hf := Rows8.frozen hR1 0
  have hS2 : DraftAt (W1.setCell ⟨B, 0, none⟩ (.int .u64 (z : Int))).drew B z := Rows8.set hR1 0 (.int .u64 (z : Int))
  have HS2 := Lib.hid hS2
  clear hR1 hS2
  simp at hc0
  go_wp2_with fail
  go_region
  go_wp2_with fail
  rw [rounds_succ]
  go_wp2_with fail
  go_end0
  exact ⟨rfl, HS2.out, HG.out.trans (grown_drew (grownBy_setCell' _ _ _))⟩
end Go.Proofs
