/- Ctrl: what bytes say; lanes, told. -/
import Derived.Test.YtmjlaienklheiaaGv
namespace Go.Proofs
set_option maxRecDepth 100000
open Go.RowKit Go.Shelf
attribute [local go_sem] Oper.semAt_some

/-- What a control byte says: full, empty, deleted, nothing. -/
def kd (b : Nat) : Nat := if b ≤ 127 then 0 else if b = 128 then 1 else if b = 254 then 2 else 3
theorem kd_lt (b : Nat) : kd b < 4 := by unfold kd; repeat' split
                                         all_goals omega
theorem Try.said_any (b : Nat) (w : World) : Calls Try.prog 38 #[.int .u8 b] w fun e w' => e = .returned (.int .i64 (kd b : Nat)) ∧ w = w' := by
  by_cases h1 : b ≤ 127
  · have hk : kd b = 0 := by simp [kd, h1]
    have h1' : (b : Int) ≤ 127 := by omega
    rw [hk]
    go_enter Try.func38, Try.ntmps38
    go_wp2
    go_ret
    exact ⟨rfl, rfl⟩
  · have h1' : ¬ (b : Int) ≤ 127 := by omega
    by_cases h2 : b = 128
    · subst h2
      go_enter Try.func38, Try.ntmps38
      go_wp2
      go_ret
      exact ⟨rfl, rfl⟩
    · have h2' : ((b : Int) == 128) = false := by simp; omega
      by_cases h3 : b = 254
      · subst h3
        go_enter Try.func38, Try.ntmps38
        go_wp2
        go_ret
        exact ⟨rfl, rfl⟩
      · have h3' : ((b : Int) == 254) = false := by simp; omega
        have hk : kd b = 3 := by simp [kd, h1, h2, h3]
        rw [hk]
        go_enter Try.func38, Try.ntmps38
        go_wp2
        go_ret
        exact ⟨rfl, rfl⟩
theorem Try.cnumber_any (x : Int) (w : World) : Calls Try.prog 54 #[.int .u64 x] w fun e w' => e = .returned (.int .u64 x) ∧ w = w' := by
  go_enter Try.func54, Try.ntmps54
  go_wp2
  go_ret
  exact ⟨rfl, rfl⟩
theorem Try.bytes_any (x : Int) (w : World) : Calls Try.prog 40 #[.int .u64 x] w fun e w' => e = .returned (.func (.func 52) #[] #[.pointer (some ⟨w.heap.size, 0, none⟩)]) ∧ w' = w.alloc (.cells #[.int .u64 x] 59) := by
  go_enter Try.func40, Try.ntmps40
  go_wp2
  go_ret
  exact ⟨rfl, rfl⟩
theorem Try.slots_any (x : Int) (w : World) : Calls Try.prog 62 #[.int .u64 x] w fun e w' => e = .returned (.func (.func 73) #[] #[.pointer (some ⟨w.heap.size, 0, none⟩)]) ∧ w' = w.alloc (.cells #[.int .u64 x] 59) := by
  go_enter Try.func62, Try.ntmps62
  go_wp2
  go_ret
  exact ⟨rfl, rfl⟩

def encB (x k : Nat) : Array Value := #[.int .i64 k, .int .u8 (byt x k : Nat)]
def encK (x k : Nat) : Array Value := #[.int .i64 k, .int .i64 (kd (byt x k) : Nat)]
/-- Lanes come in order. -/
def Lane (pre : List Nat) (y : Nat) : Prop := pre = List.range y ∧ y < 8
theorem lane_range {k : Nat} (h : k < 8) : Lane (List.range k) k := ⟨rfl, h⟩

theorem Try.index_arr8 (g : Nat → Value) (k : Nat) (h : k < 8) (W : World) : (Instr.index 81 (.agg (arr8 g)) (.int .i64 k)).run Try.prog W = .ok (g k) W := by
  obtain ⟨i0, hi, hz0, hz1, hz2⟩ := info_parts Try.infoByte
  have ha : (isAgg 5).run Try.prog W = .ok false W := run_isAgg_plain Try.underlying5 rfl W
  have hg := arr8_get g ⟨k, h⟩
  dsimp only at hg
  have hk : ¬ 8 ≤ k := by omega
  simp [Instr.index, asIntOf, run_underlying Try.underlying81, sizeOf, typeInfo, hi, hz1, part, ha, hg, hk, Sem.run_bind]

set_option maxHeartbeats 2000000 in
theorem Try.bytes1_tells (d : Nat) (Kp : World → World → Prop) (Bs x : Nat) (w : World) (hBs : Rows8 w Bs 59 #[.int .u64 x]) :
    TellsX Fence.wide d Try.prog 52 #[.pointer (some ⟨Bs, 0, none⟩)] (encB x) Kp (fun xs => xs = List.range 8) Lane w := fun l J Jx Jp W hW hJ hJx hJp hY h0 => by
  refine callsIn_wide.2 ?_
  refine (callsIn_wide (n := 9)).1 ?_
  have HY := Lib.hid hY
  have c0 : W.cell? ⟨Bs, 0, none⟩ = some (.int .u64 x) := (hBs.below hW hBs.lt).cell 0
  have HJ : Hid (∀ W', Below W.heap.size W W' → J [] W') := Lib.hid fun W' b => hJ [] W W' none h0 ⟨b.os, b.tape, b.output, b.size, fun k hk _ => b.block k hk⟩ (fun r e => by cases e)
  clear hY hBs h0 hJ
  refine callsIn_of_wp Try.func52 rfl trivial ?_ rfl
  simp only [Try.ntmps52, List.size_toArray, List.length_cons, List.length_nil, Nat.reduceAdd, Nat.reduceSub, Array.replicate_succ, Array.replicate_zero, List.push_toArray, List.append_toArray, List.nil_append, List.cons_append]
  gi_wp2_with (first
    | (refine ⟨trivial, ?_⟩; gi_at_call 54; refine (callsIn_wide.2 (Try.cnumber_any _ _)).mono ?_; rintro e w' ⟨rfl, rfl⟩)
    | (refine ⟨trivial, ?_⟩; gi_at_call 53; refine (callsIn_wide.2 (Try.Bytes_any _ _)).mono ?_; rintro e w1 ⟨rfl, hB1⟩; have HB1 := Lib.hid hB1; clear hB1))
  gi_loopw [8] (fun j wr => ∃ k : Nat, k ≤ 8 ∧ j = .int .i64 k ∧ J (List.range k) wr) (fun j _ => 8 - (intOf j).toNat)
  case atStart => exact ⟨0, Nat.zero_le _, rfl, HJ.out _ HB1.out⟩
  case round =>
    obtain ⟨k, hk, rfl, hJs⟩ := hrel
    by_cases hlt : k < 8
    · have hg := Try.index_arr8 (fun n => .int .u8 (byt x n : Nat)) k hlt wr
      have hki : (k : Int) < 8 := by omega
      obtain ⟨fn, tmps, assign, body, hy, hR⟩ := yield_any rfl 8 (HY.out _ k wr hJs (lane_range hlt))
      unfold encB at hy
      have HK := Lib.hid hJs
      clear hJs
      gi_wp2_with fail
      refine hR.mono ?_
      rintro e w5 (⟨rfl, hJ5, _, _⟩ | ⟨rfl, hJ5, _⟩ | ⟨ch, rfl, hJ5, _⟩)
      · have HJ5 := Lib.hid hJ5
        clear hJ5
        gi_wp2_with fail
        go_roundw
        case rel => exact ⟨k + 1, by omega, by go_num, by rw [List.range_succ]; exact HJ5.out⟩
        case measure => simp [intOf]; omega
      · have HJ5 := Lib.hid hJ5
        clear hJ5
        gi_wp2_with fail
        refine bodyPost_ret (results_none rfl _ _ _) rfl ?_
        exact .inl ⟨⟨_, rfl⟩, .inr ⟨_, HJ5.out⟩⟩
      · exact ⟨rfl, .inr ⟨_, _, rfl, hJ5⟩⟩
    · obtain rfl : k = 8 := by omega
      have HK := Lib.hid hJs
      clear hJs
      gi_wp2_with fail
      go_end0
      exact .inl ⟨⟨_, rfl⟩, .inl ⟨_, rfl, HK.out⟩⟩
end Go.Proofs
