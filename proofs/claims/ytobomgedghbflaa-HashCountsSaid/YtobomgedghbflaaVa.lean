/- Rows of words that are sorted in place: the row, Less. -/
import Derived.Test.YtobomgedghbflaaKa
import Derived.Sort.AssemblyPlain
import Derived.LoopN
namespace Go.Proofs
open Go.RowKit Go.Shelf
attribute [local go_sem] Oper.semAt_some

/-- Block B, of so many cells, begins with these words. -/
def SRow (W : World) (B cap : Nat) (d : Array Int) : Prop :=
  ∃ cs : Array Value, Rows8 W B 22 cs ∧ cs.size = cap ∧ d.size ≤ cap ∧ ∀ i, i < d.size → cs[i]? = some (.int .u64 d[i]!)
theorem SRow.lt {W : World} {B cap : Nat} {d : Array Int} (h : SRow W B cap d) : B < W.heap.size := let ⟨_, hR, _⟩ := h; hR.lt
theorem SRow.cell {W : World} {B cap : Nat} {d : Array Int} (h : SRow W B cap d) (i : Nat) (hi : i < d.size) : W.cell? ⟨B, i, none⟩ = some (.int .u64 d[i]!) := by
  obtain ⟨cs, hR, _, _, hc⟩ := h
  rw [Rows8.cell hR, hc i hi]
theorem SRow.frozen {W : World} {B cap : Nat} {d : Array Int} (h : SRow W B cap d) (i : Nat) : W.frozen? ⟨B, i, none⟩ = false := by
  obtain ⟨cs, hR, _⟩ := h
  exact Rows8.frozen hR i
theorem SRow.drew {W : World} {B cap : Nat} {d : Array Int} (h : SRow W B cap d) : SRow W.drew B cap d := h
theorem SRow.drewN {W : World} {B cap : Nat} {d : Array Int} (h : SRow W B cap d) (n : Nat) : SRow (W.drewN n) B cap d := by
  exact h
theorem SRow.set {W : World} {B cap : Nat} {d : Array Int} (h : SRow W B cap d) (i : Nat) (z : Int) (hi : i < d.size) : SRow (W.setCell ⟨B, i, none⟩ (.int .u64 z)) B cap (d.setIfInBounds i z) := by
  obtain ⟨cs, hR, h1, h2, h3⟩ := h
  refine ⟨cs.setIfInBounds i (.int .u64 z), Rows8.set hR i _, by simpa using h1, by simpa using h2, fun k hk => ?_⟩
  simp only [Array.size_setIfInBounds] at hk
  by_cases e : k = i
  · subst e
    rw [Array.getElem?_setIfInBounds_self, if_pos (by omega)]
    simp [hk]
  · rw [Array.getElem?_setIfInBounds_ne (fun e2 => e e2.symm), h3 k hk]
    have hk2 : k < (d.setIfInBounds i z).size := by simpa using hk
    rw [getElem!_pos d k hk, getElem!_pos _ k hk2, Array.getElem_setIfInBounds_ne _ (fun e2 => e e2.symm)]
theorem SRow.below {A W : World} {B cap h : Nat} {d : Array Int} (r : SRow A B cap d) (p : Below h A W) (h1 : B < h) : SRow W B cap d := by
  obtain ⟨cs, hR, h2⟩ := r
  exact ⟨cs, hR.below p h1, h2⟩
theorem size_swp (d : Array Int) (i j : Nat) : (Sort.swp d i j).size = d.size := by simp [Sort.swp]
theorem SRow.swp {W : World} {B cap : Nat} {d : Array Int} (h : SRow W B cap d) (i j : Nat) (hi : i < d.size) (hj : j < d.size) :
    SRow ((W.setCell ⟨B, i, none⟩ (.int .u64 d[j]!)).setCell ⟨B, j, none⟩ (.int .u64 d[i]!)) B cap (Sort.swp d i j) :=
  (h.set i d[j]! hi).set j d[i]! (by simpa using hj)
theorem grown_set (W : World) (B i : Nat) (v : Value) : W.grownBy (W.setCell ⟨B, i, none⟩ v) (some B) := by
  refine ⟨rfl, rfl, rfl, by simp [World.setCell], fun k hk hne => ?_⟩
  show (W.heap.modify B _)[k]? = _
  rw [Array.getElem?_modify, if_neg (fun e => hne (by rw [e]))]
theorem grown_set2 (W : World) (B i j : Nat) (u v : Value) : W.grownBy ((W.setCell ⟨B, i, none⟩ u).setCell ⟨B, j, none⟩ v) (some B) := (grown_set W B i u).trans (grown_set _ B j v)
theorem grown_drew' {A B : World} {r : Option Nat} (h : A.grownBy B r) : A.grownBy B.drew r := ⟨h.os, h.tape, h.output, h.size, h.block⟩
theorem grown_drewN (A : World) (n : Nat) (r : Option Nat) : A.grownBy (A.drewN n) r := ⟨rfl, rfl, rfl, Nat.le_refl _, fun _ _ _ => rfl⟩

set_option maxRecDepth 100000 in
set_option maxHeartbeats 1000000 in
theorem Try.isNaN_any (x : Int) (w : World) : Calls Try.prog 53 #[.int .u64 x] w fun e w' => e = .returned (.bool false) ∧ w = w' := by
  have hx : (x != x) = false := by simp
  go_enter Try.func53, Try.ntmps53
  go_wp2
  go_ret
  exact ⟨rfl, rfl⟩
def ltB (x y : Int) : Bool := decide (x < y)
set_option maxRecDepth 100000 in
set_option maxHeartbeats 1000000 in
theorem Try.less_any (x y : Int) (w : World) : Calls Try.prog 35 #[.int .u64 x, .int .u64 y] w fun e w' => e = .returned (.bool (ltB x y)) ∧ w = w' := by
  have hr : decide (x < y) = ltB x y := rfl
  generalize ltB x y = b at *
  go_enter Try.func35, Try.ntmps35
  go_wp2_with (go_at_call 53; refine (Try.isNaN_any _ _).mono ?_; rintro e w'' ⟨rfl, rfl⟩)
  go_ret
  exact ⟨rfl, rfl⟩
end Go.Proofs
