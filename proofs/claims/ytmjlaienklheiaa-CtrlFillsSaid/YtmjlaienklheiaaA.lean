/- Trial: the plain functions of lanes. -/
import Derived.RangeFuncNested
import Derived.RangeFuncBound
import Derived.RangeFuncCalls
import Derived.RangeFuncLeaves
import Derived.RangeFuncBox
import Derived.Shelf.Abstract
import Derived.Shelf.RegionOpen
import Derived.WalkKit
import Derived.OwnWalkIn
import Derived.TacticsInMore
import Derived.LoopNIn
import Derived.LoopIn
import Derived.WalkLawsBesides
import Derived.WalkSpells
import Derived.Lib.Hide
import Derived.Deep.QuietTactic
import Derived.BigQuiet
import Derived.StillTailTactics
import Derived.Outline
import Derived.Test.YtmjlaienklheiaaProg
import Derived.Test.YtmjlaienklheiaaM
import Derived.Test.YtmjlaienklheiaaR
namespace Go.Proofs
set_option maxRecDepth 100000
open Go.RowKit Go.Shelf
attribute [local go_sem] Oper.semAt_some

/-- Beneath h all but block x is as it was. -/
structure But (h x : Nat) (A B : World) : Prop where
  os : B.os = A.os
  tape : B.tape = A.tape
  output : B.output = A.output
  size : A.heap.size ≤ B.heap.size
  block : ∀ k, k < h → k ≠ x → B.heap[k]? = A.heap[k]?
theorem But.refl (h x : Nat) (A : World) : But h x A A := ⟨rfl, rfl, rfl, Nat.le_refl _, fun _ _ _ => rfl⟩
theorem But.trans {h x : Nat} {A B C : World} (p : But h x A B) (q : But h x B C) : But h x A C :=
  ⟨q.os.trans p.os, q.tape.trans p.tape, q.output.trans p.output, Nat.le_trans p.size q.size, fun k a b => (q.block k a b).trans (p.block k a b)⟩
theorem But.of_below {h x : Nat} {A B : World} (p : Below h A B) : But h x A B := ⟨p.os, p.tape, p.output, p.size, fun k a _ => p.block k a⟩
theorem But.below {h x n₀ : Nat} {A B : World} (p : But h x A B) (h1 : n₀ ≤ h) (h2 : n₀ ≤ x) : Below n₀ A B := ⟨p.os, p.tape, p.output, p.size, fun k a => p.block k (by omega) (by omega)⟩
theorem But.drew {h x : Nat} {A B : World} (p : But h x A B) : But h x A B.drew := ⟨p.os, p.tape, p.output, p.size, p.block⟩
theorem But.drewN {h x : Nat} {A B : World} (p : But h x A B) (n : Nat) : But h x A (B.drewN n) := ⟨p.os, p.tape, p.output, p.size, p.block⟩
theorem But.setCell {h x : Nat} {A B : World} (p : But h x A B) (o : Nat) (v : Value) : But h x A (B.setCell ⟨x, o, none⟩ v) :=
  p.trans ⟨rfl, rfl, rfl, by simp [World.setCell], fun k _ b => Below.heap_setCell _ _ _ _ b⟩
theorem But.alloc {h x : Nat} {A B : World} (p : But h x A B) (hB : h ≤ B.heap.size) (o : Obj) : But h x A (B.alloc o) :=
  p.trans ⟨rfl, rfl, rfl, by simp, fun k a _ => Below.heap_alloc _ _ _ (by omega)⟩
theorem But.cell {h x : Nat} {A B : World} (p : But h x A B) {a : Addr} (h1 : a.block < h) (h2 : a.block ≠ x) : B.cell? a = A.cell? a := World.cell?_of_block (w := A) (p.block a.block h1 h2)
theorem But.frozen {h x : Nat} {A B : World} (p : But h x A B) {a : Addr} (h1 : a.block < h) (h2 : a.block ≠ x) : B.frozen? a = A.frozen? a := World.frozen?_of_block (w := A) (p.block a.block h1 h2)
theorem but_t {h x : Nat} {A B C : World} (p : But h x A B) (q : But h x B C) : But h x A C := p.trans q
theorem but_b {h x : Nat} {w : World} (hn : h ≤ w.heap.size) (W : World) (l : Nat) (o o' : Obj) (hl : w.heap.size ≤ l) (hh : W.heap[l]? = some o) (_ : o.isCells = false) (_ : o.isWalk = false) : But h x W (W.putObj l o') :=
  .of_below (belowK_b hn W l o o' hl hh (by assumption) (by assumption))
theorem ownFrom_but {β : Type} {h x B : Nat} {w₀ : World} (hn : h ≤ w₀.heap.size) (hB : h ≤ B) : OwnFrom B (fun (_ : β) W => But h x w₀ W) :=
  fun _ _ _ _ hs hg hr => hs.trans ⟨hg.os, hg.tape, hg.output, hg.size, fun k hk _ => hg.block k (by have := hs.size; omega) (fun e => by have := (hr k e.symm).1; omega)⟩

theorem Try.shift_any (n : Nat) (h : n < 8) (w : World) : Calls Try.prog 74 #[.int .i64 n] w fun e w' => e = .returned (.int .i64 (8 * (n : Int))) ∧ w = w' := by
  go_enter Try.func74, Try.ntmps74
  go_wp2
  go_ret
  exact ⟨rfl, rfl⟩

theorem Try.at_any (x n : Nat) (h : n < 8) (w : World) : Calls Try.prog 65 #[.int .u64 x, .int .i64 n] w fun e w' => e = .returned (.int .u8 (byt x n)) ∧ w = w' := by
  rw [byt_cast]
  go_enter Try.func65, Try.ntmps65
  go_wp2_with (go_at_call 74; refine (Try.shift_any _ h _).mono ?_; rintro e w' ⟨rfl, rfl⟩)
  go_ret
  exact ⟨rfl, rfl⟩

theorem Try.noLane_any (i : Int) (w : World) : Calls Try.prog 76 #[.int .i64 i] w fun e w' => e = .returned (.bool (decide (i < 0 ∨ 8 ≤ i))) ∧ w = w' := by
  by_cases h : i < 0
  · rw [decide_eq_true (.inl h)]
    go_enter Try.func76, Try.ntmps76
    go_wp2
    go_ret
    exact ⟨rfl, rfl⟩
  · by_cases h8 : 8 ≤ i
    · rw [decide_eq_true (.inr h8)]
      go_enter Try.func76, Try.ntmps76
      go_wp2
      go_ret
      exact ⟨rfl, rfl⟩
    · rw [decide_eq_false (by omega)]
      go_enter Try.func76, Try.ntmps76
      go_wp2
      go_ret
      exact ⟨rfl, rfl⟩

theorem Try.number_any (x : Int) (w : World) : Calls Try.prog 70 #[.int .u64 x] w fun e w' => e = .returned (.int .u64 x) ∧ w = w' := by
  go_enter Try.func70, Try.ntmps70
  go_wp2
  go_ret
  exact ⟨rfl, rfl⟩

theorem and7 (i : Int) : bits .and .i64 (wrap64 i) 7 = i % 8 := by
  show IntKind.i64.wrap ((BitVec.ofInt 64 (wrap64 i) &&& BitVec.ofInt 64 7).toNat : Int) = _
  have e7 : (BitVec.ofInt 64 7).toNat = 7 := by decide
  rw [BitVec.toNat_and, e7, nat_mask3, BitVec.toNat_ofInt]
  have e : IntKind.i64.wrap (((wrap64 i % ((2 ^ 64 : Nat) : Int)).toNat % 8 : Nat) : Int) = wrap64 (((wrap64 i % ((2 ^ 64 : Nat) : Int)).toNat % 8 : Nat) : Int) := by
    simp [IntKind.wrap, IntKind.bits, IntKind.signed, wrap64]
    omega
  rw [e]
  unfold wrap64
  omega
set_option maxRecDepth 100000 in
theorem Try.put_any (x n b B : Nat) (h : n < 8) (hx : x < 18446744073709551616) (hb : b < 256) (w : World) (hc : w.cell? ⟨B, 0, none⟩ = some (.int .u64 x)) (hf : w.frozen? ⟨B, 0, none⟩ = false) :
   Calls Try.prog 69 #[.pointer (some ⟨B, 0, none⟩), .int .i64 n, .int .u8 b] w fun e w' => (∃ v, e = .returned v) ∧ w' = (w.setCell ⟨B, 0, none⟩ (.int .u64 (setB x n b))).drew := by
  have hd := setB_walk hx h hb
  have HD := Lib.hid hd; clear hd hx hb
  go_enter Try.func69, Try.ntmps69
  go_still_tail 17, (by kernel_rfl)
  still_call (quietR (Try.at_any x n h _))
  repeat still_step
  still_call (quietR (Try.shift_any n h _))
  repeat still_step
  refine wpStill_nil ?_
  change wpList _ _ _ _ _ w.drew
  go_wp2
  rw [HD.out]
  go_end0
  exact ⟨⟨_, rfl⟩, rfl⟩

theorem Try.in_any (m : Int) (w : World) : Calls Try.prog 67 #[.int .u8 m] w fun e w' => e = .returned (.func (.func 75) #[] #[.pointer (some ⟨w.heap.size, 0, none⟩)]) ∧ w' = w.alloc (.cells #[.int .u8 m] 29) := by
  go_enter Try.func67, Try.ntmps67
  go_wp2
  go_ret
  exact ⟨rfl, rfl⟩

theorem noGoto_normal' {Q : Exit → Act → World → Prop} {a : Act} {w : World} : Exit.noGoto Q .normal a w = Q .normal a w := rfl
theorem wpIn_scope_straight {F : Fence} {n : Nat} {P : Program} {c : Code} {Q : Exit → Act → World → Prop} {a : Act} {w : World} (hF : F = Fence.wide) (h : c.wpIn F n P (Exit.noGoto Q) a w) : (Code.scope c).wpIn F n P Q a w := by
  subst hF
  exact wpIn_wide.2 (wp_scope_straight (wpIn_wide.1 h))

set_option maxRecDepth 100000 in
set_option maxHeartbeats 2000000 in
theorem Try.in1_in (F : Fence) (n : Nat) (hFw : Hid (F = Fence.wide)) (hF : F.fn 75) (hro : F.round = none) (hn : 1 ≤ n) (l Bm h x m : Nat) (hm : m < 256) (hb : Bm < h) (hbx : Bm ≠ x) (J Jx : List (Fin 8) → World → Prop)
    (hY : ∀ pre (y : Fin 8) W, J pre W → pre.length < 8 → YieldAt F (n - 1) Try.prog l #[.int .i64 (y : Nat)] W fun e W' =>
      (e = .returned (.bool true) ∧ J (pre ++ [y]) W' ∧ But h x W W') ∨ (e = .returned (.bool false) ∧ Jx (pre ++ [y]) W'))
    (W : World) (hBm : W.cell? ⟨Bm, 0, none⟩ = some (.int .u8 m)) (h0 : J [] W) :
    CallsIn F n Try.prog 75 #[.func (.yield l) #[] #[], .pointer (some ⟨Bm, 0, none⟩)] W fun e W' => (∃ v, e = .returned v) ∧
      ((∃ ys, ys = lanesOf m ∧ J ys W') ∨ (∃ pre, pre <+: lanesOf m ∧ Jx pre W')) := by
  refine callsIn_of_wp Try.func75 rfl hF ?_ hro
  simp only [Try.ntmps75, List.size_toArray, List.length_cons, List.length_nil, Nat.reduceAdd, Nat.reduceSub, Array.replicate_succ, Array.replicate_zero, List.push_toArray, List.append_toArray, List.nil_append, List.cons_append]
  refine wpIn_scope_straight hFw.out ?_
  gi_wp2
  refine wpIn_label ?_
  gi_wp2
  gi_loopw [5] (fun i wr => ∃ k : Nat, k ≤ 8 ∧ i = .int .i64 k ∧ J (lanesTo m k) wr ∧ But h x W wr)
    (fun i _ => 8 - (intOf i).toNat)
  case atStart => exact ⟨0, Nat.zero_le _, rfl, h0, But.refl _ _ _⟩
  case round =>
    obtain ⟨k, hk, rfl, hJs, hnx⟩ := hrel
    have hcx : wr.cell? ⟨Bm, 0, none⟩ = some (.int .u8 m) := (hnx.cell (a := ⟨Bm, 0, none⟩) hb hbx).trans hBm
    by_cases hlt : k < 8
    · obtain ⟨fn, tmps, assign, body, hy, hR⟩ := hY _ ⟨k, hlt⟩ wr hJs (by have := lanesTo_length m k; omega)
      dsimp only at hy
      gi_wp2
      · -- no lane is left
        have h0' : ((m : Int) / 2 ^ k == 0) = true := by assumption
        rw [noGoto_normal']
        go_end0
        exact ⟨⟨_, rfl⟩, .inl ⟨_, rfl, by rw [← lanesTo_end hk (div_zero_of h0')]; exact hJs⟩⟩
      · have h1 : (bits .and .u8 ((m : Int) / 2 ^ k) 1 == 0) = true := by assumption
        exact ⟨⟨k + 1, by omega, by simp, by rw [lanesTo_no (and1_no hm h1)]; exact hJs, hnx⟩, by simp [intOf]; omega⟩
      · have h1 : (bits .and .u8 ((m : Int) / 2 ^ k) 1 == 0) = false := by assumption
        have h2 := lanesTo_yes hlt (and1_yes hm h1)
        have H2 := Lib.hid h2
        clear h2
        refine hR.mono ?_
        rintro e W3 (⟨rfl, hJ3, hk3⟩ | ⟨rfl, hJx3⟩)
        · gi_wp2
          exact ⟨⟨k + 1, by omega, by simp, by rw [H2.out]; exact hJ3, hnx.trans hk3⟩, by simp [intOf]; omega⟩
        · gi_wp2
          rw [noGoto_normal']
          go_end0
          exact ⟨⟨_, rfl⟩, .inr ⟨_, lanesTo_le (Nat.succ_le_of_lt hlt), by rw [H2.out]; exact hJx3⟩⟩
    · obtain rfl : k = 8 := by omega
      gi_wp2
      rw [noGoto_normal']
      go_end0
      exact ⟨⟨_, rfl⟩, .inl ⟨_, rfl, hJs⟩⟩

/-- What in tells: the lanes of m, rising; the round may write block x. -/
theorem Try.in_stops (F : Fence) (n : Nat) (hFw : F = Fence.wide) (hF : F.fn 75) (hro : F.round = none) (hn : 1 ≤ n) (Bm h x m : Nat) (hm : m < 256) (hb : Bm < h) (hbx : Bm ≠ x) (w : World) (hw : h ≤ w.heap.size)
    (hc : w.cell? ⟨Bm, 0, none⟩ = some (.int .u8 m)) :
    SeqStopsK F n Try.prog 75 #[.pointer (some ⟨Bm, 0, none⟩)] (fun y : Fin 8 => #[Value.int .i64 (y : Nat)]) (But h x) (fun ys => ys = lanesOf m) (fun pre => pre <+: lanesOf m) 8 w := fun l J Jx W hW _ _ hY h0 =>
  Try.in1_in F n hFw hF hro hn l Bm h x m hm hb hbx J Jx hY W ((hW.cell (p := ⟨Bm, 0, none⟩) (Nat.lt_of_lt_of_le hb hw)).trans hc) h0
end Go.Proofs
