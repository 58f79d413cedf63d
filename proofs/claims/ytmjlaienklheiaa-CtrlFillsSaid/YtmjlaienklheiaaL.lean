/- The document's own masks; rows of bytes that are cloned and appended to. -/
import Derived.Test.YtmjlaienklheiaaK
namespace Go.Proofs
set_option maxRecDepth 100000
open Go.RowKit Go.Shelf
attribute [local go_sem] Oper.semAt_some

/-- The mask of the lanes less than k that are so. -/
def mt (g : Nat → Bool) : Nat → Nat
  | 0 => 0
  | k + 1 => if g k then mt g k ||| 2 ^ k else mt g k
theorem mt_lt (g : Nat → Bool) (k : Nat) : mt g k < 2 ^ k := by
  induction k with
  | zero => simp [mt]
  | succ k ih =>
    have h1 : mt g k < 2 ^ (k + 1) := Nat.lt_of_lt_of_le ih (Nat.pow_le_pow_right (by decide) (by omega))
    rw [mt]
    split
    · exact Nat.or_lt_two_pow h1 (Nat.pow_lt_pow_right (by decide) (by omega))
    · exact h1
theorem mt_add (g : Nat → Bool) (k : Nat) : mt g k + 2 ^ k = mt g k ||| 2 ^ k := by
  have := Nat.two_pow_add_eq_or_of_lt (mt_lt g k) 1
  rw [Nat.mul_one] at this
  rw [Nat.add_comm, this, Nat.or_comm]
theorem mt_yes {g : Nat → Bool} {k : Nat} (h : g k = true) : mt g (k + 1) = mt g k + 2 ^ k := by rw [mt, if_pos h, mt_add]
theorem mt_no {g : Nat → Bool} {k : Nat} (h : g k = false) : mt g (k + 1) = mt g k := by rw [mt, if_neg (by rw [h]; decide)]
theorem mt_8 (g : Nat → Bool) : mt g 8 = maskB g := rfl
theorem mt_256 {g : Nat → Bool} {k : Nat} (hk : k < 8) (h : g k = true) : mt g k + 2 ^ k < 256 := by
  rw [← mt_yes h]
  exact Nat.lt_of_lt_of_le (mt_lt g (k + 1)) (Nat.pow_le_pow_right (show 0 < 2 by decide) (show k + 1 ≤ 8 by omega))

theorem owns_at {n₀ : Nat} {l : List Nat} {v : Value} {W : World} (h : OwnsBytes n₀ l v W) (hl : 0 < l.length) :
    ∃ g cap, v = .slice (some ⟨g, 0, none⟩) l.length cap ∧ n₀ ≤ g ∧ g < W.heap.size ∧ ∀ j, j < l.length → W.cell? ⟨g, j, none⟩ = some (.int .u8 ((l[j]?.getD 0 : Nat) : Int)) := by
  have h' := h
  rcases h.2 with ⟨_, h2⟩ | ⟨g, cap, cur, rfl, hg, hh, _⟩
  · omega
  · refine ⟨g, cap, rfl, hg, (Array.getElem?_eq_some_iff.1 hh).1, fun j hj => ?_⟩
    have hc := World.ownsRow.cellAt h' j (by omega)
    rw [hc]
    simp [byteVals, hj]
theorem owns_bytesAt {n₀ : Nat} {l : List Nat} {v : Value} {W : World} (h : OwnsBytes n₀ l v W) : (∃ a cap, v = .slice a l.length cap) ∧ BytesAt W v l := by
  by_cases hl : 0 < l.length
  · obtain ⟨g, cap, rfl, _, hg, hc⟩ := owns_at h hl
    exact ⟨⟨_, _, rfl⟩, .inr ⟨g, 0, cap, rfl, hg, fun j hj => by rw [Nat.zero_add]; exact hc j hj⟩⟩
  · obtain rfl : l = [] := List.eq_nil_of_length_eq_zero (by omega)
    rcases h.2 with ⟨rfl, _⟩ | ⟨g, cap, cur, rfl, hg, hh, _⟩
    · exact ⟨⟨none, 0, rfl⟩, .inl ⟨rfl, rfl⟩⟩
    · exact ⟨⟨_, _, rfl⟩, .inr ⟨g, 0, cap, rfl, (Array.getElem?_eq_some_iff.1 hh).1, fun j hj => absurd hj (Nat.not_lt_zero _)⟩⟩
theorem bytesTo_get (x : Nat) {k n : Nat} (h : k < n) : (bytesTo x n)[k]?.getD 0 = byt x k := by simp [bytesTo, h]

set_option maxHeartbeats 2000000 in
theorem Try.refEqual_any (x b : Nat) (hx : x < 18446744073709551616) (w : World) :
    Calls Try.prog 17 #[.int .u64 x, .int .u8 b] w fun e w' => e = .returned (.int .u8 (maskB (fun n => byt x n == b) : Nat)) ∧ Below w.heap.size w w' := by
  have hBy := Try.refBytes_any x hx w
  have HBy := Lib.hid hBy
  clear hBy hx
  go_enter Try.func17, Try.ntmps17
  go_wp2_with fail
  refine HBy.out.mono ?_
  rintro e w1 ⟨v, rfl, hown, hB⟩
  obtain ⟨g, cap, rfl, hg, hgl, hcell⟩ := owns_at hown (by rw [bytesTo_length]; decide)
  rw [bytesTo_length] at hcell ⊢
  have HC := Lib.hid hcell
  clear hcell hown
  go_wp2_with fail
  go_loopw [5, 6, 7, 11] (fun ov _ _ j wr => ∃ k : Nat, k ≤ 8 ∧ j = .int .i64 k ∧ ov = .int .u8 (mt (fun n => byt x n == b) k : Nat) ∧ w1 = wr) (fun _ _ _ j _ => 8 - (intOf j).toNat)
  case atStart => exact ⟨0, Nat.zero_le _, rfl, rfl, rfl⟩
  case round =>
    obtain ⟨k, hk, rfl, rfl, rfl⟩ := hrel
    by_cases hlt : k < 8
    · have hcx := HC.out k hlt
      rw [bytesTo_get _ hlt] at hcx
      by_cases hq : byt x k = b
      · have hg1 : (fun n => byt x n == b) k = true := by simp [hq]
        have h256 := mt_256 (g := (fun n => byt x n == b)) hlt hg1
        have hyes := mt_yes (g := (fun n => byt x n == b)) hg1
        have hW := Try.With_any (mt (fun n => byt x n == b) k) k hlt h256 w1
        rw [← hyes] at hW
        have HW := Lib.hid hW
        have ht : (((byt x k : Nat) : Int) == ((b : Nat) : Int)) = true := by rw [natEq_walk]; simp [hq]
        clear hW hyes h256 hg1 hq
        go_wp2_with (go_at_call 36; refine HW.out.mono ?_; rintro e w' ⟨rfl, rfl⟩)
        exact ⟨⟨k + 1, by omega, by go_num, rfl, by first | rfl | trivial⟩, by simp [intOf]; omega⟩
      · have hg1 : (fun n => byt x n == b) k = false := by simp [hq]
        have hno := mt_no (g := (fun n => byt x n == b)) (k := k) hg1
        have HNO := Lib.hid hno
        have ht : (((byt x k : Nat) : Int) == ((b : Nat) : Int)) = false := by rw [natEq_walk]; simp [hq]
        clear hno hg1 hq
        go_wp2
        exact ⟨⟨k + 1, by omega, by go_num, by rw [HNO.out], by first | rfl | trivial⟩, by simp [intOf]; omega⟩
    · obtain rfl : k = 8 := by omega
      rw [mt_8]
      go_wp2
      go_ret
      exact ⟨rfl, hB⟩

end Go.Proofs
