/- Trial: the plain functions of lanes. -/
import Derived.RangeFuncNested
import Derived.RangeFuncBound
import Derived.RangeFuncCalls
import Derived.RangeFuncLeaves
import Derived.RangeFuncBox
import Derived.Shelf.Abstract
import Derived.Shelf.RegionOpen
import Derived.WalkKit
import Derived.OwnWalkIn
import Derived.TacticsInMore
import Derived.LoopNIn
import Derived.LoopIn
import Derived.WalkLawsBesides
import Derived.WalkSpells
import Derived.Lib.Hide
import Derived.Deep.QuietTactic
import Derived.BigQuiet
import Derived.StillTailTactics
import Derived.Outline
import Derived.Test.YtacphakpmmickaaGreatProg
import Derived.Test.YtacphakpmmickaaGreatZM
import Derived.Test.YtacphakpmmickaaGreatZR
namespace Go.Proofs
set_option maxRecDepth 100000
open Go.RowKit Go.Shelf
attribute [local go_sem] Oper.semAt_some

/-- Beneath h all but block x is as it was. -/
structure But (h x : Nat) (A B : World) : Prop where
  os : B.os = A.os
  tape : B.tape = A.tape
  output : B.output = A.output
  size : A.heap.size ≤ B.heap.size
  block : ∀ k, k < h → k ≠ x → B.heap[k]? = A.heap[k]?
theorem But.refl (h x : Nat) (A : World) : But h x A A := ⟨rfl, rfl, rfl, Nat.le_refl _, fun _ _ _ => rfl⟩
theorem But.trans {h x : Nat} {A B C : World} (p : But h x A B) (q : But h x B C) : But h x A C :=
  ⟨q.os.trans p.os, q.tape.trans p.tape, q.output.trans p.output, Nat.le_trans p.size q.size, fun k a b => (q.block k a b).trans (p.block k a b)⟩
theorem But.of_below {h x : Nat} {A B : World} (p : Below h A B) : But h x A B := ⟨p.os, p.tape, p.output, p.size, fun k a _ => p.block k a⟩
theorem But.below {h x n₀ : Nat} {A B : World} (p : But h x A B) (h1 : n₀ ≤ h) (h2 : n₀ ≤ x) : Below n₀ A B := ⟨p.os, p.tape, p.output, p.size, fun k a => p.block k (by omega) (by omega)⟩
theorem But.drew {h x : Nat} {A B : World} (p : But h x A B) : But h x A B.drew := ⟨p.os, p.tape, p.output, p.size, p.block⟩
theorem But.drewN {h x : Nat} {A B : World} (p : But h x A B) (n : Nat) : But h x A (B.drewN n) := ⟨p.os, p.tape, p.output, p.size, p.block⟩
theorem But.setCell {h x : Nat} {A B : World} (p : But h x A B) (o : Nat) (v : Value) : But h x A (B.setCell ⟨x, o, none⟩ v) :=
  p.trans ⟨rfl, rfl, rfl, by simp [World.setCell], fun k _ b => Below.heap_setCell _ _ _ _ b⟩
theorem But.alloc {h x : Nat} {A B : World} (p : But h x A B) (hB : h ≤ B.heap.size) (o : Obj) : But h x A (B.alloc o) :=
  p.trans ⟨rfl, rfl, rfl, by simp, fun k a _ => Below.heap_alloc _ _ _ (by omega)⟩
theorem But.cell {h x : Nat} {A B : World} (p : But h x A B) {a : Addr} (h1 : a.block < h) (h2 : a.block ≠ x) : B.cell? a = A.cell? a := World.cell?_of_block (w := A) (p.block a.block h1 h2)
theorem But.frozen {h x : Nat} {A B : World} (p : But h x A B) {a : Addr} (h1 : a.block < h) (h2 : a.block ≠ x) : B.frozen? a = A.frozen? a := World.frozen?_of_block (w := A) (p.block a.block h1 h2)
theorem but_t {h x : Nat} {A B C : World} (p : But h x A B) (q : But h x B C) : But h x A C := p.trans q
theorem but_b {h x : Nat} {w : World} (hn : h ≤ w.heap.size) (W : World) (l : Nat) (o o' : Obj) (hl : w.heap.size ≤ l) (hh : W.heap[l]? = some o) (_ : o.isCells = false) (_ : o.isWalk = false) : But h x W (W.putObj l o') :=
  .of_below (belowK_b hn W l o o' hl hh (by assumption) (by assumption))
theorem ownFrom_but {β : Type} {h x B : Nat} {w₀ : World} (hn : h ≤ w₀.heap.size) (hB : h ≤ B) : OwnFrom B (fun (_ : β) W => But h x w₀ W) :=
  fun _ _ _ _ hs hg hr => hs.trans ⟨hg.os, hg.tape, hg.output, hg.size, fun k hk _ => hg.block k (by have := hs.size; omega) (fun e => by have := (hr k e.symm).1; omega)⟩

theorem Tryz.shift_any (n : Nat) (h : n < 8) (w : World) : Calls Tryz.prog 86 #[.int .i64 n] w fun e w' => e = .returned (.int .i64 (8 * (n : Int))) ∧ w = w' := by
  go_enter Tryz.func86, Tryz.ntmps86
  go_wp2
  go_ret
  exact ⟨rfl, rfl⟩

theorem Tryz.at_any (x n : Nat) (h : n < 8) (w : World) : Calls Tryz.prog 67 #[.int .u64 x, .int .i64 n] w fun e w' => e = .returned (.int .u8 (byt x n)) ∧ w = w' := by
  rw [byt_cast]
  go_enter Tryz.func67, Tryz.ntmps67
  go_wp2_with (go_at_call 86; refine (Tryz.shift_any _ h _).mono ?_; rintro e w' ⟨rfl, rfl⟩)
  go_ret
  exact ⟨rfl, rfl⟩

theorem Tryz.noLane_any (i : Int) (w : World) : Calls Tryz.prog 66 #[.int .i64 i] w fun e w' => e = .returned (.bool (decide (i < 0 ∨ 8 ≤ i))) ∧ w = w' := by
  by_cases h : i < 0
  · rw [decide_eq_true (.inl h)]
    go_enter Tryz.func66, Tryz.ntmps66
    go_wp2
    go_ret
    exact ⟨rfl, rfl⟩
  · by_cases h8 : 8 ≤ i
    · rw [decide_eq_true (.inr h8)]
      go_enter Tryz.func66, Tryz.ntmps66
      go_wp2
      go_ret
      exact ⟨rfl, rfl⟩
    · rw [decide_eq_false (by omega)]
      go_enter Tryz.func66, Tryz.ntmps66
      go_wp2
      go_ret
      exact ⟨rfl, rfl⟩

theorem Tryz.number_any (x : Int) (w : World) : Calls Tryz.prog 95 #[.int .u64 x] w fun e w' => e = .returned (.int .u64 x) ∧ w = w' := by
  go_enter Tryz.func95, Tryz.ntmps95
  go_wp2
  go_ret
  exact ⟨rfl, rfl⟩

theorem and7 (i : Int) : bits .and .i64 (wrap64 i) 7 = i % 8 := by
  show IntKind.i64.wrap ((BitVec.ofInt 64 (wrap64 i) &&& BitVec.ofInt 64 7).toNat : Int) = _
  have e7 : (BitVec.ofInt 64 7).toNat = 7 := by decide
  rw [BitVec.toNat_and, e7, nat_mask3, BitVec.toNat_ofInt]
  have e : IntKind.i64.wrap (((wrap64 i % ((2 ^ 64 : Nat) : Int)).toNat % 8 : Nat) : Int) = wrap64 (((wrap64 i % ((2 ^ 64 : Nat) : Int)).toNat % 8 : Nat) : Int) := by
    simp [IntKind.wrap, IntKind.bits, IntKind.signed, wrap64]
    omega
  rw [e]
  unfold wrap64
  omega
set_option maxRecDepth 100000 in
theorem Tryz.put_any (x n b B : Nat) (h : n < 8) (hx : x < 18446744073709551616) (hb : b < 256) (w : World) (hc : w.cell? ⟨B, 0, none⟩ = some (.int .u64 x)) (hf : w.frozen? ⟨B, 0, none⟩ = false) :
   Calls Tryz.prog 94 #[.pointer (some ⟨B, 0, none⟩), .int .i64 n, .int .u8 b] w fun e w' => (∃ v, e = .returned v) ∧ w' = (w.setCell ⟨B, 0, none⟩ (.int .u64 (setB x n b))).drew := by
  have hd := setB_walk hx h hb
  have HD := Lib.hid hd; clear hd hx hb
  go_enter Tryz.func94, Tryz.ntmps94
  go_still_tail 17, (by kernel_rfl)
  still_call (quietR (Tryz.at_any x n h _))
  repeat still_step
  still_call (quietR (Tryz.shift_any n h _))
  repeat still_step
  refine wpStill_nil ?_
  change wpList _ _ _ _ _ w.drew
  go_wp2
  rw [HD.out]
  go_end0
  exact ⟨⟨_, rfl⟩, rfl⟩

theorem Tryz.in_any (m : Int) (w : World) : Calls Tryz.prog 60 #[.int .u8 m] w fun e w' => e = .returned (.func (.func 80) #[] #[.pointer (some ⟨w.heap.size, 0, none⟩)]) ∧ w' = w.alloc (.cells #[.int .u8 m] 69) := by
  go_enter Tryz.func60, Tryz.ntmps60
  go_wp2
  go_ret
  exact ⟨rfl, rfl⟩

theorem noGoto_normal' {Q : Exit → Act → World → Prop} {a : Act} {w : World} : Exit.noGoto Q .normal a w = Q .normal a w := rfl
theorem wpIn_scope_straight {F : Fence} {n : Nat} {P : Program} {c : Code} {Q : Exit → Act → World → Prop} {a : Act} {w : World} (hF : F = Fence.wide) (h : c.wpIn F n P (Exit.noGoto Q) a w) : (Code.scope c).wpIn F n P Q a w := by
  subst hF
  exact wpIn_wide.2 (wp_scope_straight (wpIn_wide.1 h))

set_option maxRecDepth 100000 in
set_option maxHeartbeats 2000000 in
theorem Tryz.in1_in (F : Fence) (n : Nat) (hFw : Hid (F = Fence.wide)) (hF : F.fn 80) (hro : F.round = none) (hn : 1 ≤ n) (l Bm h x m : Nat) (hm : m < 256) (hb : Bm < h) (hbx : Bm ≠ x) (J Jx : List (Fin 8) → World → Prop)
    (hY : ∀ pre (y : Fin 8) W, J pre W → pre.length < 8 → YieldAt F (n - 1) Tryz.prog l #[.int .i64 (y : Nat)] W fun e W' =>
      (e = .returned (.bool true) ∧ J (pre ++ [y]) W' ∧ But h x W W') ∨ (e = .returned (.bool false) ∧ Jx (pre ++ [y]) W'))
    (W : World) (hBm : W.cell? ⟨Bm, 0, none⟩ = some (.int .u8 m)) (h0 : J [] W) :
    CallsIn F n Tryz.prog 80 #[.func (.yield l) #[] #[], .pointer (some ⟨Bm, 0, none⟩)] W fun e W' => (∃ v, e = .returned v) ∧
      ((∃ ys, ys = lanesOf m ∧ J ys W') ∨ (∃ pre, pre <+: lanesOf m ∧ Jx pre W')) := by
  refine callsIn_of_wp Tryz.func80 rfl hF ?_ hro
  simp only [Tryz.ntmps80, List.size_toArray, List.length_cons, List.length_nil, Nat.reduceAdd, Nat.reduceSub, Array.replicate_succ, Array.replicate_zero, List.push_toArray, List.append_toArray, List.nil_append, List.cons_append]
  refine wpIn_scope_straight hFw.out ?_
  gi_wp2
  refine wpIn_label ?_
  gi_wp2
  gi_loopw [5] (fun i wr => ∃ k : Nat, k ≤ 8 ∧ i = .int .i64 k ∧ J (lanesTo m k) wr ∧ But h x W wr)
    (fun i _ => 8 - (intOf i).toNat)
  case atStart => exact ⟨0, Nat.zero_le _, rfl, h0, But.refl _ _ _⟩
  case round =>
    obtain ⟨k, hk, rfl, hJs, hnx⟩ := hrel
    have hcx : wr.cell? ⟨Bm, 0, none⟩ = some (.int .u8 m) := (hnx.cell (a := ⟨Bm, 0, none⟩) hb hbx).trans hBm
    by_cases hlt : k < 8
    · obtain ⟨fn, tmps, assign, body, hy, hR⟩ := hY _ ⟨k, hlt⟩ wr hJs (by have := lanesTo_length m k; omega)
      dsimp only at hy
      gi_wp2
      · -- no lane is left
        have h0' : ((m : Int) / 2 ^ k == 0) = true := by assumption
        rw [noGoto_normal']
        go_end0
        exact ⟨⟨_, rfl⟩, .inl ⟨_, rfl, by rw [← lanesTo_end hk (div_zero_of h0')]; exact hJs⟩⟩
      · have h1 : (bits .and .u8 ((m : Int) / 2 ^ k) 1 == 0) = true := by assumption
        exact ⟨⟨k + 1, by omega, by simp, by rw [lanesTo_no (and1_no hm h1)]; exact hJs, hnx⟩, by simp [intOf]; omega⟩
      · have h1 : (bits .and .u8 ((m : Int) / 2 ^ k) 1 == 0) = false := by assumption
        have h2 := lanesTo_yes hlt (and1_yes hm h1)
        have H2 := Lib.hid h2
        clear h2
        refine hR.mono ?_
        rintro e W3 (⟨rfl, hJ3, hk3⟩ | ⟨rfl, hJx3⟩)
        · gi_wp2
          exact ⟨⟨k + 1, by omega, by simp, by rw [H2.out]; exact hJ3, hnx.trans hk3⟩, by simp [intOf]; omega⟩
        · gi_wp2
          rw [noGoto_normal']
          go_end0
          exact ⟨⟨_, rfl⟩, .inr ⟨_, lanesTo_le (Nat.succ_le_of_lt hlt), by rw [H2.out]; exact hJx3⟩⟩
    · obtain rfl : k = 8 := by omega
      gi_wp2
      rw [noGoto_normal']
      go_end0
      exact ⟨⟨_, rfl⟩, .inl ⟨_, rfl, hJs⟩⟩

/-- What in tells: the lanes of m, rising; the round may write block x. -/
theorem Tryz.in_stops (F : Fence) (n : Nat) (hFw : F = Fence.wide) (hF : F.fn 80) (hro : F.round = none) (hn : 1 ≤ n) (Bm h x m : Nat) (hm : m < 256) (hb : Bm < h) (hbx : Bm ≠ x) (w : World) (hw : h ≤ w.heap.size)
    (hc : w.cell? ⟨Bm, 0, none⟩ = some (.int .u8 m)) :
    SeqStopsK F n Tryz.prog 80 #[.pointer (some ⟨Bm, 0, none⟩)] (fun y : Fin 8 => #[Value.int .i64 (y : Nat)]) (But h x) (fun ys => ys = lanesOf m) (fun pre => pre <+: lanesOf m) 8 w := fun l J Jx W hW _ _ hY h0 =>
  Tryz.in1_in F n hFw hF hro hn l Bm h x m hm hb hbx J Jx hY W ((hW.cell (p := ⟨Bm, 0, none⟩) (Nat.lt_of_lt_of_le hb hw)).trans hc) h0
end Go.Proofs

/- each, lay, join, where of lanes. -/
namespace Go.Proofs
set_option maxRecDepth 100000
open Go.RowKit Go.Shelf
attribute [local go_sem] Oper.semAt_some

/-- A block of cells. -/
def Rows8 (W : World) (B : Nat) (t : TypeId) (cs : Array Value) : Prop := W.heap[B]? = some (.cells cs t (0, 0))
theorem Rows8.lt {W : World} {B : Nat} {t : TypeId} {cs : Array Value} (h : Rows8 W B t cs) : B < W.heap.size := (Array.getElem?_eq_some_iff.1 h).1
theorem Rows8.cell {W : World} {B : Nat} {t : TypeId} {cs : Array Value} (h : Rows8 W B t cs) (o : Nat) : W.cell? ⟨B, o, none⟩ = cs[o]? := by simp [World.cell?, show W.heap[B]? = _ from h]
theorem Rows8.frozen {W : World} {B : Nat} {t : TypeId} {cs : Array Value} (h : Rows8 W B t cs) (o : Nat) : W.frozen? ⟨B, o, none⟩ = false := by simp [World.frozen?, show W.heap[B]? = _ from h]
theorem Rows8.new (W : World) (t : TypeId) (cs : Array Value) : Rows8 (W.alloc (.cells cs t)) W.heap.size t cs := World.alloc_heap_new W _
theorem Rows8.alloc {W : World} {B : Nat} {t : TypeId} {cs : Array Value} (h : Rows8 W B t cs) (o : Obj) : Rows8 (W.alloc o) B t cs := (Below.heap_alloc _ _ _ h.lt).trans h
theorem Rows8.set {W : World} {B : Nat} {t : TypeId} {cs : Array Value} (h : Rows8 W B t cs) (o : Nat) (v : Value) : Rows8 (W.setCell ⟨B, o, none⟩ v) B t (cs.setIfInBounds o v) := by
  obtain ⟨hlt, hk⟩ := Array.getElem?_eq_some_iff.1 h
  show (W.heap.modify B _)[B]? = _
  rw [Array.getElem?_eq_getElem (by rw [Array.size_modify]; exact hlt), Array.getElem_modify_self, hk]
  rfl
theorem Rows8.but {A B : World} {h x b : Nat} {t : TypeId} {cs : Array Value} (p : But h x A B) (r : Rows8 A b t cs) (h1 : b < h) (h2 : b ≠ x) : Rows8 B b t cs := (p.block b h1 h2).trans r
theorem Rows8.own {β : Type} (B : Nat) (t : TypeId) (f : β → Array Value) : Own (fun (s : β) W => Rows8 W B t (f s)) := fun s X Y row hs hg hr =>
  (hg.block B hs.lt (fun e => by obtain ⟨o, ho, hc⟩ := hr B e.symm; rw [show X.heap[B]? = _ from hs] at ho; cases ho; cases hc)).trans hs

/-- The array when the lanes of l have been set. -/
def arrAll (g : Nat → Value) (a : Array Value) (l : List (Fin 8)) : Array Value := l.foldl (fun a (y : Fin 8) => a.setIfInBounds y (g y)) a
theorem arrAll_snoc (g : Nat → Value) (a : Array Value) (l : List (Fin 8)) (y : Fin 8) : arrAll g a (l ++ [y]) = (arrAll g a l).setIfInBounds y (g y) := by simp [arrAll]
theorem arrAll_size (g : Nat → Value) (a : Array Value) (l : List (Fin 8)) : (arrAll g a l).size = a.size := by
  induction l generalizing a with
  | nil => rfl
  | cons y l ih => exact (ih _).trans (by simp)
def arr8 (g : Nat → Value) : Array Value := #[g 0, g 1, g 2, g 3, g 4, g 5, g 6, g 7]
theorem arrAll_all8 (g : Nat → Value) (v : Value) : arrAll g #[v, v, v, v, v, v, v, v] all8 = arr8 g := by simp only [arrAll, all8, List.foldl_cons, List.foldl_nil, List.setIfInBounds_toArray, List.set_cons_zero, List.set_cons_succ, arr8]

theorem Rows8.all {W : World} {B : Nat} {t : TypeId} {v0 v1 v2 v3 v4 v5 v6 v7 : Value} (h : Rows8 W B t #[v0, v1, v2, v3, v4, v5, v6, v7]) :
    W.cell? ⟨B, 0, none⟩ = some v0 ∧ W.cell? ⟨B, 1, none⟩ = some v1 ∧ W.cell? ⟨B, 2, none⟩ = some v2 ∧ W.cell? ⟨B, 3, none⟩ = some v3 ∧ W.cell? ⟨B, 4, none⟩ = some v4 ∧ W.cell? ⟨B, 5, none⟩ = some v5 ∧ W.cell? ⟨B, 6, none⟩ = some v6 ∧ W.cell? ⟨B, 7, none⟩ = some v7 :=
  ⟨h.cell 0, h.cell 1, h.cell 2, h.cell 3, h.cell 4, h.cell 5, h.cell 6, h.cell 7⟩
theorem Rows8.allf {W : World} {B : Nat} {t : TypeId} {cs : Array Value} (h : Rows8 W B t cs) :
    W.frozen? ⟨B, 0, none⟩ = false ∧ W.frozen? ⟨B, 1, none⟩ = false ∧ W.frozen? ⟨B, 2, none⟩ = false ∧ W.frozen? ⟨B, 3, none⟩ = false ∧ W.frozen? ⟨B, 4, none⟩ = false ∧ W.frozen? ⟨B, 5, none⟩ = false ∧ W.frozen? ⟨B, 6, none⟩ = false ∧ W.frozen? ⟨B, 7, none⟩ = false :=
  ⟨h.frozen 0, h.frozen 1, h.frozen 2, h.frozen 3, h.frozen 4, h.frozen 5, h.frozen 6, h.frozen 7⟩

theorem Rows8.set8 {W : World} {B : Nat} {t : TypeId} {v : Value} (h : Rows8 W B t #[v, v, v, v, v, v, v, v]) (g : Nat → Value) :
    Rows8 ((((((((W.setCell ⟨B, 0, none⟩ (g 0)).setCell ⟨B, 1, none⟩ (g 1)).setCell ⟨B, 2, none⟩ (g 2)).setCell ⟨B, 3, none⟩ (g 3)).setCell ⟨B, 4, none⟩ (g 4)).setCell ⟨B, 5, none⟩ (g 5)).setCell ⟨B, 6, none⟩ (g 6)).setCell ⟨B, 7, none⟩ (g 7)) B t (arr8 g) := by
  have h8 := (((((((h.set 0 (g 0)).set 1 (g 1)).set 2 (g 2)).set 3 (g 3)).set 4 (g 4)).set 5 (g 5)).set 6 (g 6)).set 7 (g 7)
  simp only [List.setIfInBounds_toArray, List.set_cons_zero, List.set_cons_succ] at h8
  exact h8
theorem Rows8.set1 {W : World} {B : Nat} {t : TypeId} {v : Value} (h : Rows8 W B t #[v]) (u : Value) : Rows8 (W.setCell ⟨B, 0, none⟩ u) B t #[u] := by
  have h1 := h.set 0 u
  simp only [List.setIfInBounds_toArray, List.set_cons_zero] at h1
  exact h1
theorem Rows8.drew {W : World} {B : Nat} {t : TypeId} {cs : Array Value} (h : Rows8 W B t cs) : Rows8 W.drew B t cs := h
theorem KeepsOthers.drewN' (W : World) (q : Nat) : KeepsOthers W (W.drewN q) := ⟨Nat.le_refl _, fun _ _ h _ => h⟩

/-- The function k, its arguments bound ahead and its captured cells behind: of a lane it says g. -/
def Says8 (P : Program) (k : FuncId) (bnd cap : Array Value) (g : Nat → Value) (w : World) : Prop :=
  ∀ (y : Fin 8) (W : World), Below w.heap.size w W → Calls P k (bnd.push (.int .i64 (y : Nat)) ++ cap) W fun e W' => e = .returned (g y) ∧ ∃ q, W' = W.drewN q

set_option maxRecDepth 100000 in
set_option maxHeartbeats 2000000 in
theorem Tryz.each37_any (k : FuncId) (bnd cap : Array Value) (g : Nat → Int) (w : World) (hs : Says8 Tryz.prog k bnd cap (fun n => .int .u8 (g n)) w)
    (eg : ∀ args w, (callFunc k args).run Tryz.prog w = .ok (.enter k args) w) :
    Calls Tryz.prog 74 #[.func (.func k) bnd cap] w fun e w' => e = .returned (.agg (arr8 fun n => .int .u8 (g n))) ∧ Below w.heap.size w w' := by
  refine (callsIn_wide (n := 3)).1 ?_
  refine callsIn_of_wp_marks Tryz.func74 rfl trivial ?_ rfl
  simp only [Tryz.ntmps74, List.size_toArray, List.length_cons, List.length_nil, Nat.reduceAdd, Nat.reduceSub, Array.replicate_succ, Array.replicate_zero, List.push_toArray, List.append_toArray, List.nil_append, List.cons_append]
  gi_wp2_with (refine ⟨trivial, ?_⟩; gi_at_call 60; refine (callsIn_wide.2 (Tryz.in_any _ _)).mono ?_; rintro e w' ⟨rfl, rfl⟩)
  have b0 : Rows8 (w.alloc (.cells #[.func (.func k) bnd cap] 116)) w.heap.size 116 #[.func (.func k) bnd cap] := Rows8.new w _ _
  have b1 := Rows8.new (w.alloc (.cells #[.func (.func k) bnd cap] 116)) 113 #[.int .u8 0, .int .u8 0, .int .u8 0, .int .u8 0, .int .u8 0, .int .u8 0, .int .u8 0, .int .u8 0]
  have b2 := Rows8.new ((w.alloc (.cells #[.func (.func k) bnd cap] 116)).alloc (.cells #[.int .u8 0, .int .u8 0, .int .u8 0, .int .u8 0, .int .u8 0, .int .u8 0, .int .u8 0, .int .u8 0] 113)) 113 #[.int .u8 0, .int .u8 0, .int .u8 0, .int .u8 0, .int .u8 0, .int .u8 0, .int .u8 0, .int .u8 0]
  have b3 := Rows8.new (((w.alloc (.cells #[.func (.func k) bnd cap] 116)).alloc (.cells #[.int .u8 0, .int .u8 0, .int .u8 0, .int .u8 0, .int .u8 0, .int .u8 0, .int .u8 0, .int .u8 0] 113)).alloc (.cells #[.int .u8 0, .int .u8 0, .int .u8 0, .int .u8 0, .int .u8 0, .int .u8 0, .int .u8 0, .int .u8 0] 113)) 69 #[.int .u8 255]
  simp only [World.size_alloc] at b1 b2 b3
  have b0' := ((b0.alloc (.cells #[.int .u8 0, .int .u8 0, .int .u8 0, .int .u8 0, .int .u8 0, .int .u8 0, .int .u8 0, .int .u8 0] 113)).alloc (.cells #[.int .u8 0, .int .u8 0, .int .u8 0, .int .u8 0, .int .u8 0, .int .u8 0, .int .u8 0, .int .u8 0] 113)).alloc (.cells #[.int .u8 255] 69)
  have b1' := (b1.alloc (.cells #[.int .u8 0, .int .u8 0, .int .u8 0, .int .u8 0, .int .u8 0, .int .u8 0, .int .u8 0, .int .u8 0] 113)).alloc (.cells #[.int .u8 255] 69)
  have b2' := b2.alloc (.cells #[.int .u8 255] 69)
  have hB0 : Below w.heap.size w ((((w.alloc (.cells #[.func (.func k) bnd cap] 116)).alloc (.cells #[.int .u8 0, .int .u8 0, .int .u8 0, .int .u8 0, .int .u8 0, .int .u8 0, .int .u8 0, .int .u8 0] 113)).alloc (.cells #[.int .u8 0, .int .u8 0, .int .u8 0, .int .u8 0, .int .u8 0, .int .u8 0, .int .u8 0, .int .u8 0] 113)).alloc (.cells #[.int .u8 255] 69)) :=
    ((((Below.refl _ w).alloc (Nat.le_refl _) _).alloc (by simp) _).alloc (by simp; omega) _).alloc (by simp; omega) _
  have hsz : ((((w.alloc (.cells #[.func (.func k) bnd cap] 116)).alloc (.cells #[.int .u8 0, .int .u8 0, .int .u8 0, .int .u8 0, .int .u8 0, .int .u8 0, .int .u8 0, .int .u8 0] 113)).alloc (.cells #[.int .u8 0, .int .u8 0, .int .u8 0, .int .u8 0, .int .u8 0, .int .u8 0, .int .u8 0, .int .u8 0] 113)).alloc (.cells #[.int .u8 255] 69)).heap.size = w.heap.size + 4 := by simp
  generalize ((((w.alloc (.cells #[.func (.func k) bnd cap] 116)).alloc (.cells #[.int .u8 0, .int .u8 0, .int .u8 0, .int .u8 0, .int .u8 0, .int .u8 0, .int .u8 0, .int .u8 0] 113)).alloc (.cells #[.int .u8 0, .int .u8 0, .int .u8 0, .int .u8 0, .int .u8 0, .int .u8 0, .int .u8 0, .int .u8 0] 113)).alloc (.cells #[.int .u8 255] 69)) = W0 at *
  clear b0 b1 b2
  have HSZ := Lib.hid hsz
  clear hsz
  refine wpIn_rangeFunc_ownG rfl (by omega) (gf := 80) (lb := #[.pointer (some ⟨w.heap.size + 1 + 1 + 1, 0, none⟩)]) rfl trivial (enters_of Tryz.func80 (by kernel_rfl) rfl)
    (Tryz.in_stops Fence.wide _ rfl trivial rfl (by omega) (w.heap.size + 1 + 1 + 1) (w.heap.size + 4) (w.heap.size + 1 + 1) 255 (by decide) (by omega) (by omega) W0 (by rw [HSZ.out]; exact Nat.le_refl _) (b3.cell 0)) but_t (but_b (by rw [HSZ.out]; exact Nat.le_refl _)) (Below.refl _ _) (fun _ => rfl)
    (fun pre W => Rows8 W (w.heap.size + 1 + 1) 113 (arrAll (fun n => .int .u8 (g n)) #[.int .u8 0, .int .u8 0, .int .u8 0, .int .u8 0, .int .u8 0, .int .u8 0, .int .u8 0, .int .u8 0] pre) ∧ But (w.heap.size + 4) (w.heap.size + 1 + 1) W0 W)
    (fun _ _ _ => False)
    (OwnFrom.and (Own.from (Rows8.own _ _ _) _) (ownFrom_but (by rw [HSZ.out]; exact Nat.le_refl _) (by rw [HSZ.out]; exact Nat.le_refl _)))
    (fun _ _ _ _ _ hs _ _ => hs)
    ⟨b2', But.refl _ _ _⟩
    (fun x => { tmps := #[.func (.func k) bnd cap, .pointer (some ⟨w.heap.size, 0, none⟩), .pointer (some ⟨w.heap.size + 1, 0, none⟩), .pointer (some ⟨w.heap.size + 1 + 1, 0, none⟩), .int .i64 (x : Nat), .func (.func 80) #[] #[.pointer (some ⟨w.heap.size + 1 + 1 + 1, 0, none⟩)], .int .i64 (x : Nat), undef, undef, undef, undef, undef, undef], defers := [] }) ?assign ?body ?done ?stop
  case assign =>
    intro l x W K hK
    gi_wp2
    exact hK
  case body =>
    rintro l pre x W ⟨hr, hB⟩ _
    have hof : W.cell? ⟨w.heap.size, 0, none⟩ = some (.func (.func k) bnd cap) := (hB.cell (a := ⟨w.heap.size, 0, none⟩) (by simp) (by simp; omega)).trans (b0'.cell 0)
    have hx := x.isLt
    have hbl : Below w.heap.size w W := hB0.trans (hB.below (by omega) (by omega))
    have hcl := hr.cell x
    have hfr := hr.frozen x
    obtain ⟨v0, hv0⟩ : ∃ v, (arrAll (fun n => Value.int .u8 (g n)) #[.int .u8 0, .int .u8 0, .int .u8 0, .int .u8 0, .int .u8 0, .int .u8 0, .int .u8 0, .int .u8 0] pre)[(x : Nat)]? = some v :=
      ⟨_, Array.getElem?_eq_getElem (by rw [arrAll_size]; exact hx)⟩
    rw [hv0] at hcl
    have hK := hs x W hbl
    have HK := Lib.hid hK
    have HR := Lib.hid hr
    clear hK hs hr hv0
    gi_wp2_with fail
    refine ⟨trivial, ?_⟩
    refine (CallsIn.inRound l (callsIn_wide.2 HK.out)).mono ?_
    rintro e W1 ⟨rfl, q, rfl⟩
    gi_wp2
    refine ⟨(KeepsOthers.from (KeepsOthers.trans (KeepsOthers.drewN' _ _) (KeepsOthers.setCell _ _ _)) _), (But.drewN (But.refl _ _ _) _).setCell _ _, ?_, (hB.drewN _).setCell _ _⟩
    rw [arrAll_snoc]
    exact Rows8.set (W := W.drewN q) HR.out _ _
  case done =>
    rintro D ys W hD rfl ⟨hr, hB⟩ hK
    have hb1 := hB.block (w.heap.size + 1) (by omega) (by omega)
    have hb2 : Rows8 W (w.heap.size + 1) _ _ := hb1.trans b1'
    rw [lanesOf_255, arrAll_all8] at hr
    obtain ⟨r0, r1, r2, r3, r4, r5, r6, r7⟩ := Rows8.all hr
    obtain ⟨s0, s1, s2, s3, s4, s5, s6, s7⟩ := Rows8.all hb2
    obtain ⟨f0, f1, f2, f3, f4, f5, f6, f7⟩ := Rows8.allf hb2
    have HR := Lib.hid hr
    have HB2 := Lib.hid hb2
    clear hb1 hb2 hr hs
    gi_wp2
    have hR := Rows8.set8 HB2.out (fun n => .int .u8 (g n))
    have hKO : KeepsOthers W _ := (((((((KeepsOthers.setCell W ⟨w.heap.size + 1, 0, none⟩ (.int .u8 (g 0))).trans (KeepsOthers.setCell _ ⟨w.heap.size + 1, 1, none⟩ (.int .u8 (g 1)))).trans (KeepsOthers.setCell _ ⟨w.heap.size + 1, 2, none⟩ (.int .u8 (g 2)))).trans (KeepsOthers.setCell _ ⟨w.heap.size + 1, 3, none⟩ (.int .u8 (g 3)))).trans (KeepsOthers.setCell _ ⟨w.heap.size + 1, 4, none⟩ (.int .u8 (g 4)))).trans (KeepsOthers.setCell _ ⟨w.heap.size + 1, 5, none⟩ (.int .u8 (g 5)))).trans (KeepsOthers.setCell _ ⟨w.heap.size + 1, 6, none⟩ (.int .u8 (g 6)))).trans (KeepsOthers.setCell _ ⟨w.heap.size + 1, 7, none⟩ (.int .u8 (g 7)))
    have hBE : Below w.heap.size w _ := (((((((((hB0.trans (hB.below (by omega) (by omega))).setCell (p := ⟨w.heap.size + 1, 0, none⟩) (by simp) (.int .u8 (g 0))).setCell (p := ⟨w.heap.size + 1, 1, none⟩) (by simp) (.int .u8 (g 1))).setCell (p := ⟨w.heap.size + 1, 2, none⟩) (by simp) (.int .u8 (g 2))).setCell (p := ⟨w.heap.size + 1, 3, none⟩) (by simp) (.int .u8 (g 3))).setCell (p := ⟨w.heap.size + 1, 4, none⟩) (by simp) (.int .u8 (g 4))).setCell (p := ⟨w.heap.size + 1, 5, none⟩) (by simp) (.int .u8 (g 5))).setCell (p := ⟨w.heap.size + 1, 6, none⟩) (by simp) (.int .u8 (g 6))).setCell (p := ⟨w.heap.size + 1, 7, none⟩) (by simp) (.int .u8 (g 7)))
    have hK' := hKO.same D _ hK rfl
    have hDn : w.heap.size + 1 ≠ D := by have := HSZ.out; omega
    refine ⟨by simp, .inl ⟨_, _, rfl, run_takeDeferred hK', ?_⟩⟩
    refine ⟨.agg (arr8 fun n => .int .u8 (g n)), results_cell_row rfl _ _ (w.heap.size + 1) 113 _ (0, 0) _ rfl ((World.putObj_heap_other hDn).trans hR) Tryz.underlying113 rfl (by kernel_rfl), rfl, hBE.trans (belowK_b (w := w) (Nat.le_refl _) _ D _ _ (by have := HSZ.out; omega) hK' rfl rfl)⟩
  case stop =>
    rintro D c pre W _ _ h _
    exact h.elim
set_option maxRecDepth 100000 in
set_option maxHeartbeats 2000000 in
theorem Tryz.each49_any (k : FuncId) (bnd cap : Array Value) (g : Nat → Bool) (w : World) (hs : Says8 Tryz.prog k bnd cap (fun n => .bool (g n)) w)
    (eg : ∀ args w, (callFunc k args).run Tryz.prog w = .ok (.enter k args) w) :
    Calls Tryz.prog 84 #[.func (.func k) bnd cap] w fun e w' => e = .returned (.agg (arr8 fun n => .bool (g n))) ∧ Below w.heap.size w w' := by
  refine (callsIn_wide (n := 3)).1 ?_
  refine callsIn_of_wp_marks Tryz.func84 rfl trivial ?_ rfl
  simp only [Tryz.ntmps84, List.size_toArray, List.length_cons, List.length_nil, Nat.reduceAdd, Nat.reduceSub, Array.replicate_succ, Array.replicate_zero, List.push_toArray, List.append_toArray, List.nil_append, List.cons_append]
  gi_wp2_with (refine ⟨trivial, ?_⟩; gi_at_call 60; refine (callsIn_wide.2 (Tryz.in_any _ _)).mono ?_; rintro e w' ⟨rfl, rfl⟩)
  have b0 : Rows8 (w.alloc (.cells #[.func (.func k) bnd cap] 37)) w.heap.size 37 #[.func (.func k) bnd cap] := Rows8.new w _ _
  have b1 := Rows8.new (w.alloc (.cells #[.func (.func k) bnd cap] 37)) 128 #[.bool false, .bool false, .bool false, .bool false, .bool false, .bool false, .bool false, .bool false]
  have b2 := Rows8.new ((w.alloc (.cells #[.func (.func k) bnd cap] 37)).alloc (.cells #[.bool false, .bool false, .bool false, .bool false, .bool false, .bool false, .bool false, .bool false] 128)) 128 #[.bool false, .bool false, .bool false, .bool false, .bool false, .bool false, .bool false, .bool false]
  have b3 := Rows8.new (((w.alloc (.cells #[.func (.func k) bnd cap] 37)).alloc (.cells #[.bool false, .bool false, .bool false, .bool false, .bool false, .bool false, .bool false, .bool false] 128)).alloc (.cells #[.bool false, .bool false, .bool false, .bool false, .bool false, .bool false, .bool false, .bool false] 128)) 69 #[.int .u8 255]
  simp only [World.size_alloc] at b1 b2 b3
  have b0' := ((b0.alloc (.cells #[.bool false, .bool false, .bool false, .bool false, .bool false, .bool false, .bool false, .bool false] 128)).alloc (.cells #[.bool false, .bool false, .bool false, .bool false, .bool false, .bool false, .bool false, .bool false] 128)).alloc (.cells #[.int .u8 255] 69)
  have b1' := (b1.alloc (.cells #[.bool false, .bool false, .bool false, .bool false, .bool false, .bool false, .bool false, .bool false] 128)).alloc (.cells #[.int .u8 255] 69)
  have b2' := b2.alloc (.cells #[.int .u8 255] 69)
  have hB0 : Below w.heap.size w ((((w.alloc (.cells #[.func (.func k) bnd cap] 37)).alloc (.cells #[.bool false, .bool false, .bool false, .bool false, .bool false, .bool false, .bool false, .bool false] 128)).alloc (.cells #[.bool false, .bool false, .bool false, .bool false, .bool false, .bool false, .bool false, .bool false] 128)).alloc (.cells #[.int .u8 255] 69)) :=
    ((((Below.refl _ w).alloc (Nat.le_refl _) _).alloc (by simp) _).alloc (by simp; omega) _).alloc (by simp; omega) _
  have hsz : ((((w.alloc (.cells #[.func (.func k) bnd cap] 37)).alloc (.cells #[.bool false, .bool false, .bool false, .bool false, .bool false, .bool false, .bool false, .bool false] 128)).alloc (.cells #[.bool false, .bool false, .bool false, .bool false, .bool false, .bool false, .bool false, .bool false] 128)).alloc (.cells #[.int .u8 255] 69)).heap.size = w.heap.size + 4 := by simp
  generalize ((((w.alloc (.cells #[.func (.func k) bnd cap] 37)).alloc (.cells #[.bool false, .bool false, .bool false, .bool false, .bool false, .bool false, .bool false, .bool false] 128)).alloc (.cells #[.bool false, .bool false, .bool false, .bool false, .bool false, .bool false, .bool false, .bool false] 128)).alloc (.cells #[.int .u8 255] 69)) = W0 at *
  clear b0 b1 b2
  have HSZ := Lib.hid hsz
  clear hsz
  refine wpIn_rangeFunc_ownG rfl (by omega) (gf := 80) (lb := #[.pointer (some ⟨w.heap.size + 1 + 1 + 1, 0, none⟩)]) rfl trivial (enters_of Tryz.func80 (by kernel_rfl) rfl)
    (Tryz.in_stops Fence.wide _ rfl trivial rfl (by omega) (w.heap.size + 1 + 1 + 1) (w.heap.size + 4) (w.heap.size + 1 + 1) 255 (by decide) (by omega) (by omega) W0 (by rw [HSZ.out]; exact Nat.le_refl _) (b3.cell 0)) but_t (but_b (by rw [HSZ.out]; exact Nat.le_refl _)) (Below.refl _ _) (fun _ => rfl)
    (fun pre W => Rows8 W (w.heap.size + 1 + 1) 128 (arrAll (fun n => .bool (g n)) #[.bool false, .bool false, .bool false, .bool false, .bool false, .bool false, .bool false, .bool false] pre) ∧ But (w.heap.size + 4) (w.heap.size + 1 + 1) W0 W)
    (fun _ _ _ => False)
    (OwnFrom.and (Own.from (Rows8.own _ _ _) _) (ownFrom_but (by rw [HSZ.out]; exact Nat.le_refl _) (by rw [HSZ.out]; exact Nat.le_refl _)))
    (fun _ _ _ _ _ hs _ _ => hs)
    ⟨b2', But.refl _ _ _⟩
    (fun x => { tmps := #[.func (.func k) bnd cap, .pointer (some ⟨w.heap.size, 0, none⟩), .pointer (some ⟨w.heap.size + 1, 0, none⟩), .pointer (some ⟨w.heap.size + 1 + 1, 0, none⟩), .int .i64 (x : Nat), .func (.func 80) #[] #[.pointer (some ⟨w.heap.size + 1 + 1 + 1, 0, none⟩)], .int .i64 (x : Nat), undef, undef, undef, undef, undef, undef], defers := [] }) ?assign ?body ?done ?stop
  case assign =>
    intro l x W K hK
    gi_wp2
    exact hK
  case body =>
    rintro l pre x W ⟨hr, hB⟩ _
    have hof : W.cell? ⟨w.heap.size, 0, none⟩ = some (.func (.func k) bnd cap) := (hB.cell (a := ⟨w.heap.size, 0, none⟩) (by simp) (by simp; omega)).trans (b0'.cell 0)
    have hx := x.isLt
    have hbl : Below w.heap.size w W := hB0.trans (hB.below (by omega) (by omega))
    have hcl := hr.cell x
    have hfr := hr.frozen x
    obtain ⟨v0, hv0⟩ : ∃ v, (arrAll (fun n => Value.bool (g n)) #[.bool false, .bool false, .bool false, .bool false, .bool false, .bool false, .bool false, .bool false] pre)[(x : Nat)]? = some v :=
      ⟨_, Array.getElem?_eq_getElem (by rw [arrAll_size]; exact hx)⟩
    rw [hv0] at hcl
    have hK := hs x W hbl
    have HK := Lib.hid hK
    have HR := Lib.hid hr
    clear hK hs hr hv0
    gi_wp2_with fail
    refine ⟨trivial, ?_⟩
    refine (CallsIn.inRound l (callsIn_wide.2 HK.out)).mono ?_
    rintro e W1 ⟨rfl, q, rfl⟩
    gi_wp2
    refine ⟨(KeepsOthers.from (KeepsOthers.trans (KeepsOthers.drewN' _ _) (KeepsOthers.setCell _ _ _)) _), (But.drewN (But.refl _ _ _) _).setCell _ _, ?_, (hB.drewN _).setCell _ _⟩
    rw [arrAll_snoc]
    exact Rows8.set (W := W.drewN q) HR.out _ _
  case done =>
    rintro D ys W hD rfl ⟨hr, hB⟩ hK
    have hb1 := hB.block (w.heap.size + 1) (by omega) (by omega)
    have hb2 : Rows8 W (w.heap.size + 1) _ _ := hb1.trans b1'
    rw [lanesOf_255, arrAll_all8] at hr
    obtain ⟨r0, r1, r2, r3, r4, r5, r6, r7⟩ := Rows8.all hr
    obtain ⟨s0, s1, s2, s3, s4, s5, s6, s7⟩ := Rows8.all hb2
    obtain ⟨f0, f1, f2, f3, f4, f5, f6, f7⟩ := Rows8.allf hb2
    have HR := Lib.hid hr
    have HB2 := Lib.hid hb2
    clear hb1 hb2 hr hs
    gi_wp2
    have hR := Rows8.set8 HB2.out (fun n => .bool (g n))
    have hKO : KeepsOthers W _ := (((((((KeepsOthers.setCell W ⟨w.heap.size + 1, 0, none⟩ (.bool (g 0))).trans (KeepsOthers.setCell _ ⟨w.heap.size + 1, 1, none⟩ (.bool (g 1)))).trans (KeepsOthers.setCell _ ⟨w.heap.size + 1, 2, none⟩ (.bool (g 2)))).trans (KeepsOthers.setCell _ ⟨w.heap.size + 1, 3, none⟩ (.bool (g 3)))).trans (KeepsOthers.setCell _ ⟨w.heap.size + 1, 4, none⟩ (.bool (g 4)))).trans (KeepsOthers.setCell _ ⟨w.heap.size + 1, 5, none⟩ (.bool (g 5)))).trans (KeepsOthers.setCell _ ⟨w.heap.size + 1, 6, none⟩ (.bool (g 6)))).trans (KeepsOthers.setCell _ ⟨w.heap.size + 1, 7, none⟩ (.bool (g 7)))
    have hBE : Below w.heap.size w _ := (((((((((hB0.trans (hB.below (by omega) (by omega))).setCell (p := ⟨w.heap.size + 1, 0, none⟩) (by simp) (.bool (g 0))).setCell (p := ⟨w.heap.size + 1, 1, none⟩) (by simp) (.bool (g 1))).setCell (p := ⟨w.heap.size + 1, 2, none⟩) (by simp) (.bool (g 2))).setCell (p := ⟨w.heap.size + 1, 3, none⟩) (by simp) (.bool (g 3))).setCell (p := ⟨w.heap.size + 1, 4, none⟩) (by simp) (.bool (g 4))).setCell (p := ⟨w.heap.size + 1, 5, none⟩) (by simp) (.bool (g 5))).setCell (p := ⟨w.heap.size + 1, 6, none⟩) (by simp) (.bool (g 6))).setCell (p := ⟨w.heap.size + 1, 7, none⟩) (by simp) (.bool (g 7)))
    have hK' := hKO.same D _ hK rfl
    have hDn : w.heap.size + 1 ≠ D := by have := HSZ.out; omega
    refine ⟨by simp, .inl ⟨_, _, rfl, run_takeDeferred hK', ?_⟩⟩
    refine ⟨.agg (arr8 fun n => .bool (g n)), results_cell_row rfl _ _ (w.heap.size + 1) 128 _ (0, 0) _ rfl ((World.putObj_heap_other hDn).trans hR) Tryz.underlying128 rfl (by kernel_rfl), rfl, hBE.trans (belowK_b (w := w) (Nat.le_refl _) _ D _ _ (by have := HSZ.out; omega) hK' rfl rfl)⟩
  case stop =>
    rintro D c pre W _ _ h _
    exact h.elim

end Go.Proofs

/- lay, join, where of lanes. -/
namespace Go.Proofs
set_option maxRecDepth 100000
open Go.RowKit Go.Shelf
attribute [local go_sem] Oper.semAt_some

/-- Of a lane k says g, whatever block x holds. -/
def SaysBut (P : Program) (k : FuncId) (bnd cap : Array Value) (g : Nat → Value) (x : Nat) (w : World) : Prop :=
  ∀ (y : Fin 8) (W : World), But w.heap.size x w W → Calls P k (bnd.push (.int .i64 (y : Nat)) ++ cap) W fun e W' => e = .returned (g y) ∧ W = W'

set_option maxRecDepth 100000 in
set_option maxHeartbeats 2000000 in
theorem Tryz.lay_any (gf : Nat) (lb : Array Value) (k : FuncId) (bnd cap : Array Value) (Bd x0 h N : Nat) (g : Nat → Nat) (xs : List (Fin 8)) (Sp : List (Fin 8) → Prop) (w : World)
    (hx0 : x0 < 18446744073709551616) (hg : ∀ n, g n < 256) (hh : h ≤ w.heap.size)
    (hseq : SeqStopsK Fence.wide 2 Tryz.prog gf lb (fun y : Fin 8 => #[.int .i64 (y : Nat)]) (But h Bd) (fun ys => ys = xs) Sp N w)
    (hs : SaysBut Tryz.prog k bnd cap (fun n => .int .u8 (g n)) Bd w)
    (hd : Rows8 w Bd 137 #[.int .u64 x0])
    (ef : ∀ args w, (callFunc gf args).run Tryz.prog w = .ok (.enter gf args) w)
    (eg : ∀ args w, (callFunc k args).run Tryz.prog w = .ok (.enter k args) w) :
    Calls Tryz.prog 92 #[.func (.func gf) #[] lb, .func (.func k) bnd cap, .func (.func 94) #[.pointer (some ⟨Bd, 0, none⟩)] #[]] w fun e w' =>
      (∃ v, e = .returned v) ∧ Rows8 w' Bd 137 #[.int .u64 (setAll g x0 xs)] ∧ But w.heap.size Bd w w' := by
  refine (callsIn_wide (n := 3)).1 ?_
  refine callsIn_of_wp_marks Tryz.func92 rfl trivial ?_ rfl
  simp only [Tryz.ntmps92, List.size_toArray, List.length_cons, List.length_nil, Nat.reduceAdd, Nat.reduceSub, Array.replicate_succ, Array.replicate_zero, List.push_toArray, List.append_toArray, List.nil_append, List.cons_append]
  have HD := Lib.hid hd
  have HS := Lib.hid hs
  have HQ := Lib.hid hseq
  clear hd hs hseq
  gi_wp2_with fail
  have b0 := Rows8.new w 116 #[.func (.func k) bnd cap]
  have b0' := b0.alloc (.cells #[.func (.func 94) #[.pointer (some ⟨Bd, 0, none⟩)] #[]] 139)
  have b1 := Rows8.new (w.alloc (.cells #[.func (.func k) bnd cap] 116)) 139 #[.func (.func 94) #[.pointer (some ⟨Bd, 0, none⟩)] #[]]
  rw [World.size_alloc] at b1
  have hdl : Bd < w.heap.size := HD.out.lt
  have bd := (HD.out.alloc (.cells #[.func (.func k) bnd cap] 116)).alloc (.cells #[.func (.func 94) #[.pointer (some ⟨Bd, 0, none⟩)] #[]] 139)
  have hB0 : Below w.heap.size w ((w.alloc (.cells #[.func (.func k) bnd cap] 116)).alloc (.cells #[.func (.func 94) #[.pointer (some ⟨Bd, 0, none⟩)] #[]] 139)) := ((Below.refl _ w).alloc (Nat.le_refl _) _).alloc (by simp) _
  have hsz : ((w.alloc (.cells #[.func (.func k) bnd cap] 116)).alloc (.cells #[.func (.func 94) #[.pointer (some ⟨Bd, 0, none⟩)] #[]] 139)).heap.size = w.heap.size + 2 := by simp
  generalize ((w.alloc (.cells #[.func (.func k) bnd cap] 116)).alloc (.cells #[.func (.func 94) #[.pointer (some ⟨Bd, 0, none⟩)] #[]] 139)) = W0 at *
  clear b0
  have HSZ := Lib.hid hsz
  clear hsz
  refine wpIn_rangeFunc_ownG rfl (by omega) (gf := gf) (lb := lb) rfl trivial ef HQ.out but_t (but_b (by rw [HSZ.out]; omega)) hB0 (fun _ => rfl)
    (fun pre W => Rows8 W Bd 137 #[.int .u64 (setAll g x0 pre : Nat)] ∧ But (w.heap.size + 2) Bd W0 W)
    (fun _ _ _ => False)
    (OwnFrom.and (Own.from (Rows8.own _ _ (fun pre => #[.int .u64 (setAll g x0 pre : Nat)])) _) (ownFrom_but (by rw [HSZ.out]; exact Nat.le_refl _) (by rw [HSZ.out]; exact Nat.le_refl _)))
    (fun _ _ _ _ _ hs _ _ => hs)
    ⟨bd, But.refl _ _ _⟩
    (fun x => { tmps := #[.func (.func gf) #[] lb, .func (.func k) bnd cap, .func (.func 94) #[.pointer (some ⟨Bd, 0, none⟩)] #[], undef, .pointer (some ⟨w.heap.size, 0, none⟩), .pointer (some ⟨w.heap.size + 1, 0, none⟩), .int .i64 (x : Nat), .func (.func gf) #[] lb, .int .i64 (x : Nat), undef, undef, undef, undef, undef, undef], defers := [] }) ?assign ?body ?done ?stop
  case assign =>
    intro l x W K hK
    gi_wp2
    exact hK
  case body =>
    rintro l pre x W ⟨hr, hB⟩ _
    have hof : W.cell? ⟨w.heap.size, 0, none⟩ = some (.func (.func k) bnd cap) := (hB.cell (a := ⟨w.heap.size, 0, none⟩) (by simp) (by simp; omega)).trans (b0'.cell 0)
    have hpu : W.cell? ⟨w.heap.size + 1, 0, none⟩ = some (.func (.func 94) #[.pointer (some ⟨Bd, 0, none⟩)] #[]) := (hB.cell (a := ⟨w.heap.size + 1, 0, none⟩) (by simp) (by simp; omega)).trans (b1.cell 0)
    have hx := x.isLt
    have hbt : But w.heap.size Bd w W := (But.of_below hB0).trans ⟨hB.os, hB.tape, hB.output, hB.size, fun k a b => hB.block k (by omega) b⟩
    have hmx : Tryz.prog.follows .mixedOrders = true := by kernel_rfl
    have hlt := setAll_lt hg hx0 pre
    have hgx := hg x
    have hcl := hr.cell 0
    have hfr := hr.frozen 0
    have HR := Lib.hid hr
    have hputs : Calls Tryz.prog 94 #[.pointer (some ⟨Bd, 0, none⟩), .int .i64 (x : Nat), .int .u8 (g x : Nat)] W.drew fun e w' => (∃ v, e = .returned v) ∧ w' = (W.drew.setCell ⟨Bd, 0, none⟩ (.int .u64 (setB (setAll g x0 pre) x (g x)))).drew :=
      Tryz.put_any _ _ _ Bd hx hlt hgx W.drew hcl hfr
    have HP := Lib.hid hputs
    clear hr hputs hlt hgx ef hcl hfr
    gi_wp2
    have hofs : Calls Tryz.prog k (bnd.push (.int .i64 (x : Nat)) ++ cap) W.drew fun e W' => e = .returned (.int .u8 (g x : Nat)) ∧ W.drew = W' := HS.out x _ hbt.drew
    have HO := Lib.hid hofs
    clear hofs
    refine wpIn_region_still_tail (free_round l) 5 hmx rfl (by kernel_rfl) ?_
    simp only [List.take_succ_cons, List.take_zero, List.drop_succ_cons, List.drop_zero]
    repeat still_step
    still_call (quietR HO.out)
    repeat still_step
    refine wpStill_nil ?_
    gi_wp2_with (refine ⟨trivial, ?_⟩; gi_at_call 94; (with_reducible refine (CallsIn.inRound l (callsIn_wide.2 HP.out)).mono ?_); rintro e W1 ⟨⟨v, rfl⟩, rfl⟩)
    refine ⟨KeepsOthers.from (((KeepsOthers.setCell _ _ _).trans (KeepsOthers.drew _)).trans (KeepsOthers.drew _)) _, ((But.refl _ _ _).setCell _ _).drew.drew, ?_, (hB.setCell _ _).drew.drew⟩
    rw [setAll_snoc]
    exact (Rows8.set1 HR.out _).drew.drew
  case done =>
    rintro D ys W hD rfl ⟨hr, hB⟩ hK
    gi_wp2
    have hDn : Bd ≠ D := by have := HSZ.out; omega
    refine ⟨by simp, .inl ⟨_, _, rfl, run_takeDeferred hK, ?_⟩⟩
    refine ⟨_, results_none rfl _ _ _, ⟨_, rfl⟩, (World.putObj_heap_other hDn).trans hr, ?_⟩
    refine (But.of_below hB0).trans ?_
    refine But.trans ⟨hB.os, hB.tape, hB.output, hB.size, fun k a b => hB.block k (by omega) b⟩ (but_b (w := W0) hB0.size W D _ _ hD hK rfl rfl)
  case stop =>
    rintro D c pre W _ _ h _
    exact h.elim

theorem Tryz.join1_any (Bt : Nat) (g : Nat → Nat) (x : Nat) (w : World) (hb : Rows8 w Bt 113 (arr8 fun n => .int .u8 (g n))) (y : Fin 8) (W : World) (hW : But w.heap.size x w W) (hx : Bt ≠ x) :
    Calls Tryz.prog 93 #[.int .i64 (y : Nat), .pointer (some ⟨Bt, 0, none⟩)] W fun e W' => e = .returned (.int .u8 (g y : Nat)) ∧ W = W' := by
  have hc : W.cell? ⟨Bt, (y : Nat), none⟩ = some (.int .u8 (g y : Nat)) := (hW.cell (a := ⟨Bt, (y : Nat), none⟩) hb.lt hx).trans (by
    rw [hb.cell]
    obtain ⟨k, hk⟩ := y
    match k, hk with
    | 0, _ => rfl
    | 1, _ => rfl
    | 2, _ => rfl
    | 3, _ => rfl
    | 4, _ => rfl
    | 5, _ => rfl
    | 6, _ => rfl
    | 7, _ => rfl)
  have hy := y.isLt
  clear hb hW
  go_enter Tryz.func93, Tryz.ntmps93
  go_wp2
  go_ret
  exact ⟨rfl, rfl⟩

set_option maxHeartbeats 1000000 in
theorem Tryz.join_any (g : Nat → Nat) (hg : ∀ n, g n < 256) (w : World) :
    Calls Tryz.prog 73 #[.agg (arr8 fun n => .int .u8 (g n))] w fun e w' => e = .returned (.int .u64 (ofB g)) ∧ Below w.heap.size w w' := by
  unfold arr8
  go_enter Tryz.func73, Tryz.ntmps73
  go_wp2_with (go_at_call 60; refine (Tryz.in_any _ _).mono ?_; rintro e w' ⟨rfl, rfl⟩)
  have b0 : Rows8 (((w.alloc (.cells #[.int .u8 (g 0 : Nat), .int .u8 (g 1 : Nat), .int .u8 (g 2 : Nat), .int .u8 (g 3 : Nat), .int .u8 (g 4 : Nat), .int .u8 (g 5 : Nat), .int .u8 (g 6 : Nat), .int .u8 (g 7 : Nat)] 113)).alloc (.cells #[.int .u64 0] 137)).alloc (.cells #[.int .u8 255] 69)) w.heap.size 113 (arr8 fun n => .int .u8 (g n : Nat)) := ((Rows8.new w 113 #[.int .u8 (g 0 : Nat), .int .u8 (g 1 : Nat), .int .u8 (g 2 : Nat), .int .u8 (g 3 : Nat), .int .u8 (g 4 : Nat), .int .u8 (g 5 : Nat), .int .u8 (g 6 : Nat), .int .u8 (g 7 : Nat)]).alloc (.cells #[.int .u64 0] 137)).alloc (.cells #[.int .u8 255] 69)
  have b1 := (Rows8.new (w.alloc (.cells #[.int .u8 (g 0 : Nat), .int .u8 (g 1 : Nat), .int .u8 (g 2 : Nat), .int .u8 (g 3 : Nat), .int .u8 (g 4 : Nat), .int .u8 (g 5 : Nat), .int .u8 (g 6 : Nat), .int .u8 (g 7 : Nat)] 113)) 137 #[.int .u64 0]).alloc (.cells #[.int .u8 255] 69)
  have b2 := Rows8.new ((w.alloc (.cells #[.int .u8 (g 0 : Nat), .int .u8 (g 1 : Nat), .int .u8 (g 2 : Nat), .int .u8 (g 3 : Nat), .int .u8 (g 4 : Nat), .int .u8 (g 5 : Nat), .int .u8 (g 6 : Nat), .int .u8 (g 7 : Nat)] 113)).alloc (.cells #[.int .u64 0] 137)) 69 #[.int .u8 255]
  simp only [World.size_alloc] at b1 b2
  have hB0 : Below w.heap.size w (((w.alloc (.cells #[.int .u8 (g 0 : Nat), .int .u8 (g 1 : Nat), .int .u8 (g 2 : Nat), .int .u8 (g 3 : Nat), .int .u8 (g 4 : Nat), .int .u8 (g 5 : Nat), .int .u8 (g 6 : Nat), .int .u8 (g 7 : Nat)] 113)).alloc (.cells #[.int .u64 0] 137)).alloc (.cells #[.int .u8 255] 69)) := (((Below.refl _ w).alloc (Nat.le_refl _) _).alloc (by simp) _).alloc (by simp; omega) _
  have hsz : (((w.alloc (.cells #[.int .u8 (g 0 : Nat), .int .u8 (g 1 : Nat), .int .u8 (g 2 : Nat), .int .u8 (g 3 : Nat), .int .u8 (g 4 : Nat), .int .u8 (g 5 : Nat), .int .u8 (g 6 : Nat), .int .u8 (g 7 : Nat)] 113)).alloc (.cells #[.int .u64 0] 137)).alloc (.cells #[.int .u8 255] 69)).heap.size = w.heap.size + 3 := by simp
  generalize (((w.alloc (.cells #[.int .u8 (g 0 : Nat), .int .u8 (g 1 : Nat), .int .u8 (g 2 : Nat), .int .u8 (g 3 : Nat), .int .u8 (g 4 : Nat), .int .u8 (g 5 : Nat), .int .u8 (g 6 : Nat), .int .u8 (g 7 : Nat)] 113)).alloc (.cells #[.int .u64 0] 137)).alloc (.cells #[.int .u8 255] 69)) = W0 at *
  have HSZ := Lib.hid hsz
  clear hsz
  have hL := Tryz.lay_any 80 #[.pointer (some ⟨w.heap.size + 1 + 1, 0, none⟩)] 93 #[] #[.pointer (some ⟨w.heap.size, 0, none⟩)] (w.heap.size + 1) 0 (w.heap.size + 3) 8 g (lanesOf 255) _ W0 (by decide) hg (by rw [HSZ.out]; exact Nat.le_refl _)
    (Tryz.in_stops Fence.wide 2 rfl trivial rfl (by omega) (w.heap.size + 1 + 1) (w.heap.size + 3) (w.heap.size + 1) 255 (by decide) (by omega) (by omega) W0 (by rw [HSZ.out]; exact Nat.le_refl _) (b2.cell 0))
    (fun y W hW => Tryz.join1_any w.heap.size g (w.heap.size + 1) W0 b0 y W hW (by omega))
    b1 (enters_of Tryz.func80 (by kernel_rfl) rfl) (enters_of Tryz.func93 (by kernel_rfl) rfl)
  have HL := Lib.hid hL
  clear hL b0 b1 b2
  refine HL.out.mono ?_
  rintro e W1 ⟨⟨v, rfl⟩, hr, hB⟩
  rw [lanesOf_255] at hr
  have hc : W1.cell? ⟨w.heap.size + 1, 0, none⟩ = some (.int .u64 (ofB g)) := hr.cell 0
  clear hr
  go_wp2_with (go_at_call 95; refine (Tryz.number_any _ _).mono ?_; rintro e w' ⟨rfl, rfl⟩)
  go_ret
  exact ⟨rfl, hB0.trans (hB.below (by rw [HSZ.out]; omega) (by omega))⟩
end Go.Proofs

/- where of lanes; the calls that are built of each, join and where. -/
namespace Go.Proofs
set_option maxRecDepth 100000
open Go.RowKit Go.Shelf
attribute [local go_sem] Oper.semAt_some

theorem arr8_get (g : Nat → Value) (y : Fin 8) : (arr8 g)[(y : Nat)]? = some (g y) := by
  obtain ⟨k, hk⟩ := y
  match k, hk with
  | 0, _ => rfl
  | 1, _ => rfl
  | 2, _ => rfl
  | 3, _ => rfl
  | 4, _ => rfl
  | 5, _ => rfl
  | 6, _ => rfl
  | 7, _ => rfl

set_option maxRecDepth 100000 in
set_option maxHeartbeats 2000000 in
theorem Tryz.where_any (g : Nat → Bool) (w : World) :
    Calls Tryz.prog 83 #[.agg (arr8 fun n => .bool (g n))] w fun e w' => e = .returned (.int .u8 (maskB g)) ∧ Below w.heap.size w w' := by
  unfold arr8
  refine (callsIn_wide (n := 3)).1 ?_
  refine callsIn_of_wp_marks Tryz.func83 rfl trivial ?_ rfl
  simp only [Tryz.ntmps83, List.size_toArray, List.length_cons, List.length_nil, Nat.reduceAdd, Nat.reduceSub, Array.replicate_succ, Array.replicate_zero, List.push_toArray, List.append_toArray, List.nil_append, List.cons_append]
  gi_wp2_with (refine ⟨trivial, ?_⟩; gi_at_call 60; refine (callsIn_wide.2 (Tryz.in_any _ _)).mono ?_; rintro e w' ⟨rfl, rfl⟩)
  have b0 : Rows8 (((w.alloc (.cells #[.bool (g 0), .bool (g 1), .bool (g 2), .bool (g 3), .bool (g 4), .bool (g 5), .bool (g 6), .bool (g 7)] 128)).alloc (.cells #[.int .u8 0] 69)).alloc (.cells #[.int .u8 255] 69)) w.heap.size 128 (arr8 fun n => .bool (g n)) := ((Rows8.new w 128 #[.bool (g 0), .bool (g 1), .bool (g 2), .bool (g 3), .bool (g 4), .bool (g 5), .bool (g 6), .bool (g 7)]).alloc (.cells #[.int .u8 0] 69)).alloc (.cells #[.int .u8 255] 69)
  have b1 := (Rows8.new (w.alloc (.cells #[.bool (g 0), .bool (g 1), .bool (g 2), .bool (g 3), .bool (g 4), .bool (g 5), .bool (g 6), .bool (g 7)] 128)) 69 #[.int .u8 0]).alloc (.cells #[.int .u8 255] 69)
  have b2 := Rows8.new ((w.alloc (.cells #[.bool (g 0), .bool (g 1), .bool (g 2), .bool (g 3), .bool (g 4), .bool (g 5), .bool (g 6), .bool (g 7)] 128)).alloc (.cells #[.int .u8 0] 69)) 69 #[.int .u8 255]
  simp only [World.size_alloc] at b1 b2
  have hB0 : Below w.heap.size w (((w.alloc (.cells #[.bool (g 0), .bool (g 1), .bool (g 2), .bool (g 3), .bool (g 4), .bool (g 5), .bool (g 6), .bool (g 7)] 128)).alloc (.cells #[.int .u8 0] 69)).alloc (.cells #[.int .u8 255] 69)) := (((Below.refl _ w).alloc (Nat.le_refl _) _).alloc (by simp) _).alloc (by simp [Nat.add_assoc]) _
  have hsz : (((w.alloc (.cells #[.bool (g 0), .bool (g 1), .bool (g 2), .bool (g 3), .bool (g 4), .bool (g 5), .bool (g 6), .bool (g 7)] 128)).alloc (.cells #[.int .u8 0] 69)).alloc (.cells #[.int .u8 255] 69)).heap.size = w.heap.size + 3 := by simp
  generalize (((w.alloc (.cells #[.bool (g 0), .bool (g 1), .bool (g 2), .bool (g 3), .bool (g 4), .bool (g 5), .bool (g 6), .bool (g 7)] 128)).alloc (.cells #[.int .u8 0] 69)).alloc (.cells #[.int .u8 255] 69)) = W0 at *
  have HSZ := Lib.hid hsz
  clear hsz
  refine wpIn_rangeFunc_ownG rfl (by omega) (gf := 80) (lb := #[.pointer (some ⟨w.heap.size + 1 + 1, 0, none⟩)]) rfl trivial (enters_of Tryz.func80 (by kernel_rfl) rfl)
    (Tryz.in_stops Fence.wide _ rfl trivial rfl (by omega) (w.heap.size + 1 + 1) (w.heap.size + 3) (w.heap.size + 1) 255 (by decide) (by omega) (by omega) W0 (by rw [HSZ.out]; exact Nat.le_refl _) (b2.cell 0)) but_t (but_b (by rw [HSZ.out]; exact Nat.le_refl _)) (Below.refl _ _) (fun _ => rfl)
    (fun pre W => Rows8 W (w.heap.size + 1) 69 #[.int .u8 (orAll g 0 pre : Nat)] ∧ But (w.heap.size + 3) (w.heap.size + 1) W0 W)
    (fun _ _ _ => False)
    (OwnFrom.and (Own.from (Rows8.own _ _ (fun pre => #[.int .u8 (orAll g 0 pre : Nat)])) _) (ownFrom_but (by rw [HSZ.out]; exact Nat.le_refl _) (by rw [HSZ.out]; exact Nat.le_refl _)))
    (fun _ _ _ _ _ hs _ _ => hs)
    ⟨b1, But.refl _ _ _⟩
    (fun x => { tmps := #[.agg #[.bool (g 0), .bool (g 1), .bool (g 2), .bool (g 3), .bool (g 4), .bool (g 5), .bool (g 6), .bool (g 7)], .pointer (some ⟨w.heap.size, 0, none⟩), .int .u8 0, .pointer (some ⟨w.heap.size + 1, 0, none⟩), .int .i64 (x : Nat), .func (.func 80) #[] #[.pointer (some ⟨w.heap.size + 1 + 1, 0, none⟩)], .int .i64 (x : Nat), undef, undef, undef, undef, undef, undef, undef, undef], defers := [] }) ?assign ?body ?done ?stop
  case assign =>
    intro l x W K hK
    gi_wp2
    exact hK
  case body =>
    rintro l pre x W ⟨hr, hB⟩ _
    have hso : W.cell? ⟨w.heap.size, (x : Nat), none⟩ = some (.bool (g x)) := (hB.cell (a := ⟨w.heap.size, (x : Nat), none⟩) (by simp) (by simp)).trans ((b0.cell _).trans (arr8_get _ x))
    have hx := x.isLt
    have hmx : Tryz.prog.follows .mixedOrders = true := by kernel_rfl
    have hcl : W.cell? ⟨w.heap.size + 1, 0, none⟩ = some (.int .u8 (orAll g 0 pre : Nat)) := hr.cell 0
    have hfr := hr.frozen 0
    have HR := Lib.hid hr
    clear hr
    cases hgx : g x
    · have HG := Lib.hid hgx
      rw [hgx] at hso
      clear hgx
      gi_wp2
      exact ⟨KeepsFrom.refl _ _, But.refl _ _ _, by rw [orAll_snoc, if_neg (by rw [HG.out]; decide)]; exact HR.out, hB⟩
    · have HG := Lib.hid hgx
      rw [hgx] at hso
      clear hgx
      gi_wp2
      refine wpIn_region_still_tail (free_round l) 4 hmx rfl (by kernel_rfl) ?_
      simp only [List.take_succ_cons, List.take_zero, List.drop_succ_cons, List.drop_zero]
      repeat still_step
      refine wpStill_nil ?_
      gi_wp2
      refine ⟨KeepsOthers.from ((KeepsOthers.setCell _ _ _).trans (KeepsOthers.drew _)) _, ((But.refl _ _ _).setCell _ _).drew, ?_, (hB.setCell _ _).drew⟩
      rw [orAll_snoc, if_pos HG.out, or_walk (orAll_lt g (by decide) pre) hx]
      exact (Rows8.set1 HR.out _).drew
  case done =>
    rintro D ys W hD rfl ⟨hr, hB⟩ hK
    rw [lanesOf_255] at hr
    have hcl : W.cell? ⟨w.heap.size + 1, 0, none⟩ = some (.int .u8 (maskB g)) := hr.cell 0
    clear hr
    gi_wp2
    refine ⟨by simp, .inl ⟨_, _, rfl, run_takeDeferred hK, ?_⟩⟩
    exact ⟨_, results_tmp rfl _ _ _, rfl, (hB0.trans (hB.below (by omega) (by omega))).trans (belowK_b (w := w) (Nat.le_refl _) W D _ _ (by have := HSZ.out; omega) hK rfl rfl)⟩
  case stop =>
    rintro D c pre W _ _ h _
    exact h.elim

theorem drewN_one (W : World) : W.drew = W.drewN 1 := rfl
theorem Tryz.fill1_any (b : Int) (Bb : Nat) (y : Nat) (W : World) (h2 : W.cell? ⟨Bb, 0, none⟩ = some (.int .u8 b)) :
    Calls Tryz.prog 75 #[.int .i64 y, .pointer (some ⟨Bb, 0, none⟩)] W fun e W' => e = .returned (.int .u8 b) ∧ W = W' := by
  go_enter Tryz.func75, Tryz.ntmps75
  go_wp2
  go_ret
  exact ⟨rfl, rfl⟩
theorem Tryz.put1_any (b : Int) (Bb : Nat) (y : Nat) (W : World) (h2 : W.cell? ⟨Bb, 0, none⟩ = some (.int .u8 b)) :
    Calls Tryz.prog 103 #[.int .i64 y, .pointer (some ⟨Bb, 0, none⟩)] W fun e W' => e = .returned (.int .u8 b) ∧ W = W' := by
  go_enter Tryz.func103, Tryz.ntmps103
  go_wp2
  go_ret
  exact ⟨rfl, rfl⟩
theorem Tryz.below1_any (x b Bx Bb y : Nat) (hy : y < 8) (W : World) (h1 : W.cell? ⟨Bx, 0, none⟩ = some (.int .u64 x)) (h2 : W.cell? ⟨Bb, 0, none⟩ = some (.int .u8 b)) :
    Calls Tryz.prog 85 #[.int .i64 y, .pointer (some ⟨Bx, 0, none⟩), .pointer (some ⟨Bb, 0, none⟩)] W fun e W' => e = .returned (.bool (decide (byt x y < b))) ∧ W.drew = W' := by
  go_enter Tryz.func85, Tryz.ntmps85
  go_wp2
  refine wp_region_still_lit (by kernel_rfl) (by kernel_rfl) ?_
  repeat still_step
  still_call (quietR (Tryz.at_any x y hy _))
  repeat still_step
  refine wpStill_nil ?_
  go_wp2
  go_ret
  exact ⟨rfl, rfl⟩
set_option maxHeartbeats 1000000 in
set_option maxHeartbeats 1000000 in
/-- Bytes: the array of the lanes' bytes. -/
theorem Tryz.Bytes_any (x : Nat) (w : World) :
    Calls Tryz.prog 65 #[.int .u64 x] w fun e w' => e = .returned (.agg (arr8 fun n => .int .u8 (byt x n : Nat))) ∧ Below w.heap.size w w' := by
  have hE := Tryz.each37_any 67 #[.int .u64 x] #[] (fun n => (byt x n : Nat)) (w.alloc (.cells #[.int .u8 0, .int .u8 0, .int .u8 0, .int .u8 0, .int .u8 0, .int .u8 0, .int .u8 0, .int .u8 0] 113))
    (fun y W hW => (Tryz.at_any x y y.isLt W).mono fun e W' ⟨h1, h2⟩ => ⟨h1, 0, h2.symm⟩)
    (enters_of Tryz.func67 (by kernel_rfl) rfl)
  have b0 := Rows8.new w 113 #[.int .u8 0, .int .u8 0, .int .u8 0, .int .u8 0, .int .u8 0, .int .u8 0, .int .u8 0, .int .u8 0]
  have hB0 : Below w.heap.size w (w.alloc (.cells #[.int .u8 0, .int .u8 0, .int .u8 0, .int .u8 0, .int .u8 0, .int .u8 0, .int .u8 0, .int .u8 0] 113)) := (Below.refl _ w).alloc (Nat.le_refl _) _
  have HE := Lib.hid hE
  clear hE
  go_enter Tryz.func65, Tryz.ntmps65
  go_wp2_with fail
  generalize (w.alloc (.cells #[.int .u8 0, .int .u8 0, .int .u8 0, .int .u8 0, .int .u8 0, .int .u8 0, .int .u8 0, .int .u8 0] 113)) = W0 at *
  refine HE.out.mono ?_
  rintro e W1 ⟨rfl, hB⟩
  have hb2 : Rows8 W1 w.heap.size 113 _ := (hB.block _ b0.lt).trans b0
  obtain ⟨s0, s1, s2, s3, s4, s5, s6, s7⟩ := Rows8.all hb2
  obtain ⟨f0, f1, f2, f3, f4, f5, f6, f7⟩ := Rows8.allf hb2
  have HB2 := Lib.hid hb2
  clear hb2
  simp only [arr8]
  go_wp2
  refine bodyPost_ret (results_cell_row rfl _ _ w.heap.size 113 _ (0, 0) _ rfl (Rows8.set8 HB2.out (fun n => .int .u8 (byt x n : Nat))) Tryz.underlying113 rfl (by kernel_rfl)) rfl ⟨rfl, ?_⟩
  exact (((((((((hB0.trans (hB.mono hB0.size)).setCell (p := ⟨w.heap.size, 0, none⟩) (Nat.le_refl _) (.int .u8 (byt x 0 : Nat))).setCell (p := ⟨w.heap.size, 1, none⟩) (Nat.le_refl _) (.int .u8 (byt x 1 : Nat))).setCell (p := ⟨w.heap.size, 2, none⟩) (Nat.le_refl _) (.int .u8 (byt x 2 : Nat))).setCell (p := ⟨w.heap.size, 3, none⟩) (Nat.le_refl _) (.int .u8 (byt x 3 : Nat))).setCell (p := ⟨w.heap.size, 4, none⟩) (Nat.le_refl _) (.int .u8 (byt x 4 : Nat))).setCell (p := ⟨w.heap.size, 5, none⟩) (Nat.le_refl _) (.int .u8 (byt x 5 : Nat))).setCell (p := ⟨w.heap.size, 6, none⟩) (Nat.le_refl _) (.int .u8 (byt x 6 : Nat))).setCell (p := ⟨w.heap.size, 7, none⟩) (Nat.le_refl _) (.int .u8 (byt x 7 : Nat)))

set_option maxHeartbeats 1000000 in
theorem Tryz.Below_any (x b : Nat) (w : World) :
    Calls Tryz.prog 64 #[.int .u64 x, .int .u8 b] w fun e w' => e = .returned (.int .u8 (maskB fun n => decide (byt x n < b))) ∧ Below w.heap.size w w' := by
  go_enter Tryz.func64, Tryz.ntmps64
  go_wp2_with fail
  have b0 := (Rows8.new w 22 #[.int .u64 x]).alloc (.cells #[.int .u8 b] 5)
  have b1 := Rows8.new (w.alloc (.cells #[.int .u64 x] 22)) 5 #[.int .u8 b]
  rw [World.size_alloc] at b1
  have hB0 : Below w.heap.size w ((w.alloc (.cells #[.int .u64 x] 22)).alloc (.cells #[.int .u8 b] 5)) := ((Below.refl _ w).alloc (Nat.le_refl _) _).alloc (by simp) _
  generalize ((w.alloc (.cells #[.int .u64 x] 22)).alloc (.cells #[.int .u8 b] 5)) = W0 at *
  have hE := Tryz.each49_any 85 #[] #[.pointer (some ⟨w.heap.size, 0, none⟩), .pointer (some ⟨w.heap.size + 1, 0, none⟩)] (fun n => decide (byt x n < b)) W0
    (fun y W hW => (Tryz.below1_any x b w.heap.size (w.heap.size + 1) y y.isLt W ((hW.cell (p := ⟨w.heap.size, 0, none⟩) b0.lt).trans (b0.cell 0)) ((hW.cell (p := ⟨w.heap.size + 1, 0, none⟩) b1.lt).trans (b1.cell 0))).mono fun e W' ⟨h1, h2⟩ => ⟨h1, 1, h2.symm⟩)
    (enters_of Tryz.func85 (by kernel_rfl) rfl)
  have HE := Lib.hid hE
  clear hE
  refine HE.out.mono ?_
  rintro e W1 ⟨rfl, hB⟩
  have hJ := Tryz.where_any (fun n => decide (byt x n < b)) W1
  have HJ := Lib.hid hJ
  clear hJ
  go_wp2_with fail
  refine HJ.out.mono ?_
  rintro e W2 ⟨rfl, hB2⟩
  go_wp2
  go_ret
  exact ⟨rfl, hB0.trans ((hB.mono hB0.size).trans (hB2.mono (Nat.le_trans hB0.size hB.size)))⟩

set_option maxHeartbeats 1000000 in
theorem Tryz.Fill_any (b : Nat) (hb : b < 256) (w : World) :
    Calls Tryz.prog 53 #[.int .u8 b] w fun e w' => e = .returned (.int .u64 (ofB fun _ => b)) ∧ Below w.heap.size w w' := by
  have hb' : ∀ _ : Nat, b < 256 := fun _ => hb
  have HBB := Lib.hid hb'
  clear hb hb'
  go_enter Tryz.func53, Tryz.ntmps53
  go_wp2_with fail
  have b0 := Rows8.new w 5 #[.int .u8 b]
  have hB0 : Below w.heap.size w (w.alloc (.cells #[.int .u8 b] 5)) := (Below.refl _ w).alloc (Nat.le_refl _) _
  generalize (w.alloc (.cells #[.int .u8 b] 5)) = W0 at *
  have hE := Tryz.each37_any 75 #[] #[.pointer (some ⟨w.heap.size, 0, none⟩)] (fun _ => (b : Nat)) W0
    (fun y W hW => (Tryz.fill1_any b w.heap.size y W ((hW.cell (p := ⟨w.heap.size, 0, none⟩) b0.lt).trans (b0.cell 0))).mono fun e W' ⟨h1, h2⟩ => ⟨h1, 0, h2.symm⟩)
    (enters_of Tryz.func75 (by kernel_rfl) rfl)
  have HE := Lib.hid hE
  clear hE
  refine HE.out.mono ?_
  rintro e W1 ⟨rfl, hB⟩
  have hJ := Tryz.join_any (fun _ => b) HBB.out W1
  have HJ := Lib.hid hJ
  clear hJ
  go_wp2_with fail
  refine HJ.out.mono ?_
  rintro e W2 ⟨rfl, hB2⟩
  go_wp2
  go_ret
  exact ⟨rfl, hB0.trans ((hB.mono hB0.size).trans (hB2.mono (Nat.le_trans hB0.size hB.size)))⟩

theorem Tryz.Get_no (x i : Int) (h : i < 0 ∨ 8 ≤ i) (w : World) : Calls Tryz.prog 42 #[.int .u64 x, .int .i64 i] w fun e w' => e = .returned (.tuple #[.int .u8 0, .int .i64 110]) ∧ w = w' := by
  have hn := Tryz.noLane_any i w
  rw [decide_eq_true h] at hn
  have HN := Lib.hid hn
  clear hn h
  go_enter Tryz.func42, Tryz.ntmps42
  go_wp2_with (go_at_call 66; refine HN.out.mono ?_; rintro e w' ⟨rfl, rfl⟩)
  go_ret2
  exact ⟨rfl, rfl⟩
theorem Tryz.Get_yes (x n : Nat) (h : n < 8) (w : World) : Calls Tryz.prog 42 #[.int .u64 x, .int .i64 n] w fun e w' => e = .returned (.tuple #[.int .u8 (byt x n : Nat), .int .i64 0]) ∧ w = w' := by
  have hn := Tryz.noLane_any n w
  rw [decide_eq_false (by omega)] at hn
  have ha := Tryz.at_any x n h w
  have HN := Lib.hid hn
  have HA := Lib.hid ha
  clear hn ha
  go_enter Tryz.func42, Tryz.ntmps42
  go_wp2_with (first | (go_at_call 66; refine HN.out.mono ?_; rintro e w' ⟨rfl, rfl⟩) | (go_at_call 67; refine HA.out.mono ?_; rintro e w' ⟨rfl, rfl⟩))
  go_ret2
  exact ⟨rfl, rfl⟩

end Go.Proofs

/- The library's functions over rows of lanes; Put, First, All, Of. -/
namespace Go.Proofs
set_option maxRecDepth 100000
open Go.RowKit Go.Shelf
attribute [local go_sem] Oper.semAt_some

/-- The slice value sv holds the ints zs. -/
def IntsAt (W : World) (sv : Value) (zs : List Int) : Prop :=
  (sv = .slice none 0 0 ∧ zs = []) ∨ ∃ b off cap, sv = .slice (some ⟨b, off, none⟩) zs.length cap ∧ b < W.heap.size ∧ ∀ j, j < zs.length → W.cell? ⟨b, off + j, none⟩ = some (.int .i64 (zs[j]?.getD 0))
theorem IntsAt.below {A B : World} {h : Nat} (p : Below h A B) (hh : A.heap.size ≤ h) {sv : Value} {zs : List Int} : IntsAt A sv zs → IntsAt B sv zs
  | .inl e => .inl e
  | .inr ⟨b, off, cap, e, hb, hc⟩ => .inr ⟨b, off, cap, e, Nat.lt_of_lt_of_le hb p.size, fun j hj => (p.cell (p := ⟨b, off + j, none⟩) (Nat.lt_of_lt_of_le hb hh)).trans (hc j hj)⟩
def bad (z : Int) : Prop := z < 0 ∨ 8 ≤ z
instance (z : Int) : Decidable (bad z) := inferInstanceAs (Decidable (_ ∨ _))

theorem Tryz.noLane_yes (i : Int) (h : bad i) (w : World) : Calls Tryz.prog 66 #[.int .i64 i] w fun e w' => e = .returned (.bool true) ∧ w = w' := by
  have := Tryz.noLane_any i w
  rwa [decide_eq_true (show i < 0 ∨ 8 ≤ i from h)] at this
theorem Tryz.noLane_no (i : Int) (h : ¬ bad i) (w : World) : Calls Tryz.prog 66 #[.int .i64 i] w fun e w' => e = .returned (.bool false) ∧ w = w' := by
  have := Tryz.noLane_any i w
  rwa [decide_eq_false (show ¬ (i < 0 ∨ 8 ≤ i) from h)] at this

def Found (zs : List Int) (w : World) (e : Ending) (w' : World) : Prop := ∃ r : Int, e = .returned (.int .i64 r) ∧ (0 ≤ r ↔ ∃ z, z ∈ zs ∧ bad z) ∧ w = w'

set_option maxHeartbeats 1000000 in
theorem Tryz.indexNil_any (w : World) :
    Calls Tryz.prog 104 #[.slice none 0 0, .func (.func 66) #[] #[]] w (Found [] w) := by
  go_enter Tryz.func104, Tryz.ntmps104
  go_wp2
  go_loop [8] (fun i => i = .int .i64 0) (fun _ => 0)
  case atStart => rfl
  case round =>
    obtain rfl := hrel
    go_wp2
    go_ret
    exact ⟨-1, rfl, by simp, rfl⟩

set_option maxHeartbeats 1000000 in
theorem Tryz.index_any (b off cap : Nat) (zs : List Int) (hreach : zs.length * 8 ≤ 140737488351232) (w : World) (hc : ∀ j, j < zs.length → w.cell? ⟨b, off + j, none⟩ = some (.int .i64 (zs[j]?.getD 0))) :
    Calls Tryz.prog 104 #[.slice (some ⟨b, off, none⟩) zs.length cap, .func (.func 66) #[] #[]] w (Found zs w) := by
  have HC := Lib.hid hc
  clear hc
  obtain ⟨n, hn⟩ : ∃ n, n = zs.length := ⟨_, rfl⟩
  rw [← hn] at hreach ⊢
  have HN := Lib.hid hn
  clear hn
  go_enter Tryz.func104, Tryz.ntmps104
  go_wp2
  go_loop [8] (fun i => ∃ k : Nat, k ≤ n ∧ i = .int .i64 k ∧ Hid (∀ j, j < k → ¬ bad (zs[j]?.getD 0))) (fun i => n - (intOf i).toNat)
  case atStart => exact ⟨0, Nat.zero_le _, rfl, Lib.hid (fun j hj => absurd hj (Nat.not_lt_zero _))⟩
  case round =>
    obtain ⟨k, hk, rfl, hok⟩ := hrel
    by_cases hlt : k < n
    · have hcell := HC.out k (by have := HN.out; omega)
      generalize hz : zs[k]?.getD 0 = z at hcell
      have HZ := Lib.hid hz
      clear hz
      by_cases hb : bad z
      · have hno := fun w => Tryz.noLane_yes z hb w
        have HNO := Lib.hid hno
        have HB := Lib.hid hb
        clear hno hb
        go_wp2_with (go_at_call 66; refine (HNO.out _).mono ?_; rintro e w' ⟨rfl, rfl⟩)
        go_ret
        exact ⟨(k : Int), rfl, ⟨fun _ => ⟨z, by
          have hlt' : k < zs.length := by have := HN.out; omega
          have e := HZ.out
          rw [List.getElem?_eq_getElem hlt'] at e
          simp at e
          rw [← e]
          exact List.getElem_mem hlt', HB.out⟩, fun _ => by omega⟩, rfl⟩
      · have hno := fun w => Tryz.noLane_no z hb w
        have HNO := Lib.hid hno
        have HB := Lib.hid hb
        clear hno hb
        go_wp2_with (go_at_call 66; refine (HNO.out _).mono ?_; rintro e w' ⟨rfl, rfl⟩)
        go_round
        case rel => exact ⟨k + 1, by omega, by go_num, Lib.hid (fun j hj => by
          by_cases hj' : j < k
          · exact hok.out j hj'
          · obtain rfl : j = k := by omega
            rw [HZ.out]
            exact HB.out)⟩
        case measure => simp [intOf]; omega
    · obtain rfl : k = n := by omega
      go_wp2
      go_ret
      refine ⟨-1, rfl, ⟨fun h => by omega, ?_⟩, rfl⟩
      rintro ⟨z, hz, hb⟩
      obtain ⟨j, hj, rfl⟩ := List.mem_iff_getElem.1 hz
      have := hok.out j (by rw [HN.out]; exact hj)
      rw [List.getElem?_eq_getElem hj] at this
      exact absurd hb this

theorem Tryz.indexInts_any (sv : Value) (zs : List Int) (hreach : zs.length * 8 ≤ 140737488351232) (w : World) (h : IntsAt w sv zs) :
    Calls Tryz.prog 104 #[sv, .func (.func 66) #[] #[]] w (Found zs w) := by
  rcases h with ⟨rfl, rfl⟩ | ⟨b, off, cap, rfl, _, hc⟩
  · exact Tryz.indexNil_any w
  · exact Tryz.index_any b off cap zs hreach w hc

theorem Tryz.contains_any (sv : Value) (zs : List Int) (hreach : zs.length * 8 ≤ 140737488351232) (w : World) (h : IntsAt w sv zs) (t : Bool) (ht : t = true ↔ ∃ z, z ∈ zs ∧ bad z) :
    Calls Tryz.prog 102 #[sv, .func (.func 66) #[] #[]] w fun e w' => e = .returned (.bool t) ∧ w = w' := by
  have hI := Tryz.indexInts_any sv zs hreach w h
  have HI := Lib.hid hI
  have HT := Lib.hid ht
  clear hI h ht
  go_enter Tryz.func102, Tryz.ntmps102
  go_wp2_with fail
  refine HI.out.mono ?_
  rintro e w' ⟨r, rfl, hr, rfl⟩
  have et : (decide (0 ≤ r)) = t := by
    rw [Bool.eq_iff_iff, decide_eq_true_iff, hr, HT.out]
  have ET := Lib.hid et
  clear hr et
  go_wp2
  go_ret
  exact ⟨by rw [← ET.out]; rfl, rfl⟩

set_option maxHeartbeats 1000000 in
theorem Tryz.values_any (a : Option Addr) (len cap : Nat) (w : World) :
    Calls Tryz.prog 82 #[.slice a len cap] w fun e w' => e = .returned (.func (.func 99) #[] #[.pointer (some ⟨w.heap.size, 0, none⟩)]) ∧ w' = w.alloc (.cells #[.slice a len cap] 46) := by
  go_enter Tryz.func82, Tryz.ntmps82
  go_wp2
  go_ret
  exact ⟨rfl, rfl⟩

def lanesInt (xs : List (Fin 8)) : List Int := xs.map fun (y : Fin 8) => ((y : Nat) : Int)
theorem lanesInt_get (xs : List (Fin 8)) (k : Nat) (h : k < xs.length) : (lanesInt xs)[k]?.getD 0 = ((xs[k] : Nat) : Int) := by
  simp [lanesInt, h]
theorem take_next {α : Type} (xs : List α) (k : Nat) (h : k < xs.length) : xs.take (k + 1) = xs.take k ++ [xs[k]] := by
  rw [List.take_succ_eq_append_getElem h]

set_option maxRecDepth 100000 in
set_option maxHeartbeats 2000000 in
theorem Tryz.values1_in (F : Fence) (n : Nat) (hF : F.fn 99) (hro : F.round = none) (hn : 1 ≤ n) (l Bs h x b off len cap : Nat) (xs : List (Fin 8)) (hlen : Hid (len = xs.length)) (hreach : len * 8 ≤ 140737488351232) (hb : b < h) (hbx : b ≠ x) (J Jx : List (Fin 8) → World → Prop)
    (hY : ∀ pre (y : Fin 8) W, J pre W → pre.length < len → YieldAt F (n - 1) Tryz.prog l #[.int .i64 (y : Nat)] W fun e W' =>
      (e = .returned (.bool true) ∧ J (pre ++ [y]) W' ∧ But h x W W') ∨ (e = .returned (.bool false) ∧ Jx (pre ++ [y]) W'))
    (W : World) (hBs : W.cell? ⟨Bs, 0, none⟩ = some (.slice (some ⟨b, off, none⟩) len cap)) (hc : Hid (∀ j (hj : j < xs.length), W.cell? ⟨b, off + j, none⟩ = some (.int .i64 ((xs[j] : Nat) : Int)))) (h0 : J [] W) :
    CallsIn F n Tryz.prog 99 #[.func (.yield l) #[] #[], .pointer (some ⟨Bs, 0, none⟩)] W fun e W' => (∃ v, e = .returned v) ∧
      ((∃ ys, ys = xs ∧ J ys W') ∨ (∃ pre, pre <+: xs ∧ Jx pre W')) := by
  refine callsIn_of_wp Tryz.func99 rfl hF ?_ hro
  simp only [Tryz.ntmps99, List.size_toArray, List.length_cons, List.length_nil, Nat.reduceAdd, Nat.reduceSub, Array.replicate_succ, Array.replicate_zero, List.push_toArray, List.append_toArray, List.nil_append, List.cons_append]
  gi_wp2
  gi_loopw [7] (fun i wr => ∃ k : Nat, k ≤ len ∧ i = .int .i64 k ∧ J (xs.take k) wr ∧ But h x W wr)
    (fun i _ => len - (intOf i).toNat)
  case atStart => exact ⟨0, Nat.zero_le _, rfl, h0, But.refl _ _ _⟩
  case round =>
    obtain ⟨k, hk, rfl, hJs, hnx⟩ := hrel
    by_cases hlt : k < len
    · have hlt' : k < xs.length := by have := hlen.out; omega
      have hcx : wr.cell? ⟨b, off + k, none⟩ = some (.int .i64 ((xs[k] : Nat) : Int)) := (hnx.cell (a := ⟨b, off + k, none⟩) hb hbx).trans (hc.out k hlt')
      have ht := take_next xs k hlt'
      obtain ⟨fn, tmps, assign, body, hy, hR⟩ := hY _ xs[k] wr hJs (by rw [List.length_take]; omega)
      generalize xs[k] = y at *
      have HT := Lib.hid ht
      clear ht
      gi_wp2
      refine hR.mono ?_
      rintro e W3 (⟨rfl, hJ3, hk3⟩ | ⟨rfl, hJx3⟩)
      · -- THE ROUND GOES ON
        gi_wp2
        go_roundw
        case rel => exact ⟨k + 1, by omega, by simp, by rw [HT.out]; exact hJ3, hnx.trans hk3⟩
        case measure => simp [intOf]; omega
      · gi_wp2
        refine bodyPost_ret (results_none rfl _ _ _) rfl ?_
        exact ⟨⟨_, rfl⟩, .inr ⟨_, List.take_prefix (k + 1) xs, by rw [HT.out]; exact hJx3⟩⟩
    · obtain rfl : k = len := by omega
      gi_wp2
      go_end0
      exact ⟨⟨_, rfl⟩, .inl ⟨_, rfl, by rw [List.take_of_length_le (by have := hlen.out; omega)] at hJs; exact hJs⟩⟩

set_option maxRecDepth 100000 in
set_option maxHeartbeats 1000000 in
theorem Tryz.values1_nil_in (F : Fence) (n : Nat) (hF : F.fn 99) (hro : F.round = none) (l Bs : Nat) (J : List (Fin 8) → World → Prop) (W : World) (hBs : W.cell? ⟨Bs, 0, none⟩ = some (.slice none 0 0)) (h0 : J [] W) :
    CallsIn F n Tryz.prog 99 #[.func (.yield l) #[] #[], .pointer (some ⟨Bs, 0, none⟩)] W fun e W' => (∃ v, e = .returned v) ∧ J [] W' := by
  refine callsIn_of_wp Tryz.func99 rfl hF ?_ hro
  simp only [Tryz.ntmps99, List.size_toArray, List.length_cons, List.length_nil, Nat.reduceAdd, Nat.reduceSub, Array.replicate_succ, Array.replicate_zero, List.push_toArray, List.append_toArray, List.nil_append, List.cons_append]
  gi_wp2
  gi_loopw [7] (fun i wr => i = .int .i64 0 ∧ J [] wr) (fun _ _ => 0)
  case atStart => exact ⟨rfl, h0⟩
  case round =>
    obtain ⟨rfl, hJs⟩ := hrel
    gi_wp2
    go_end0
    exact ⟨⟨_, rfl⟩, hJs⟩

theorem Tryz.values_stops (F : Fence) (n : Nat) (hF : F.fn 99) (hro : F.round = none) (hn : 1 ≤ n) (Bs h x : Nat) (sv : Value) (xs : List (Fin 8)) (hreach : xs.length * 8 ≤ 140737488351232) (w : World) (hBs : Bs < w.heap.size)
    (hc : w.cell? ⟨Bs, 0, none⟩ = some sv) (hI : ∃ A, IntsAt A sv (lanesInt xs) ∧ Below A.heap.size A w ∧ A.heap.size ≤ h ∧ A.heap.size ≤ x) :
    SeqStopsK F n Tryz.prog 99 #[.pointer (some ⟨Bs, 0, none⟩)] (fun y : Fin 8 => #[Value.int .i64 (y : Nat)]) (But h x) (fun ys => ys = xs) (fun pre => pre <+: xs) xs.length w := fun l J Jx W hW _ _ hY h0 => by
  have hc' := (hW.cell (p := ⟨Bs, 0, none⟩) hBs).trans hc
  obtain ⟨A, hA, hAw, hAh, hAx⟩ := hI
  rcases hA with ⟨rfl, hz⟩ | ⟨b, off, cap, rfl, hb, hcs⟩
  · have hx : xs = [] := by simpa [lanesInt] using hz
    subst hx
    exact (Tryz.values1_nil_in F n hF hro l Bs J W hc' h0).mono fun e W' ⟨he, hj⟩ => ⟨he, .inl ⟨_, rfl, hj⟩⟩
  · have hl : (lanesInt xs).length = xs.length := by simp [lanesInt]
    rw [hl] at hc'
    exact Tryz.values1_in F n hF hro hn l Bs h x b off xs.length cap xs (Lib.hid rfl) hreach (by omega) (by omega) J Jx hY W hc'
      (Lib.hid fun j hj => by
        have h1 := hcs j (by rw [hl]; exact hj)
        rw [lanesInt_get xs j hj] at h1
        exact (hW.cell (p := ⟨b, off + j, none⟩) (by have := hAw.size; show b < w.heap.size; omega)).trans ((hAw.cell (p := ⟨b, off + j, none⟩) hb).trans h1)) h0
end Go.Proofs
