/- The small functions of cells; rows of words. -/
import Derived.RangeFuncNested
import Derived.RangeFuncBound
import Derived.RangeFuncCalls
import Derived.RangeFuncLeaves
import Derived.RangeFuncBox
import Derived.Shelf.Abstract
import Derived.Shelf.RegionOpen
import Derived.WalkKit
import Derived.OwnWalkIn
import Derived.TacticsInMore
import Derived.LoopNIn
import Derived.LoopIn
import Derived.WalkLawsBesides
import Derived.WalkSpells
import Derived.Lib.Hide
import Derived.Deep.QuietTactic
import Derived.Deep.RegionHeld3
import Derived.BigQuiet
import Derived.StillTailTactics
import Derived.Outline
import Derived.Laws.CopyOwn
import Derived.Laws.LoneSync
import Derived.Maps.AppendAt
import Derived.Lib.SliceRun
import Derived.OneCell
import Derived.Below
import Derived.Test.YtafccppobhhelaaProg
namespace Go.Proofs
open Go.RowKit Go.Shelf
attribute [local go_sem] Oper.semAt_some

/-- The cells of a row of words. -/
def wordVals (ws : List Int) : List Value := ws.map fun z => Value.int .u64 z
theorem wordVals_length (ws : List Int) : (wordVals ws).length = ws.length := by simp [wordVals]
theorem wordVals_one (ws : List Int) : ∀ u ∈ wordVals ws, u.oneCell' = true := by
  intro u hu
  obtain ⟨b, _, rfl⟩ := List.mem_map.1 hu
  rfl
theorem wordVals_get (ws : List Int) (j : Nat) (h : j < ws.length) : (wordVals ws)[j]? = some (.int .u64 (ws[j]?.getD 0)) := by
  simp [wordVals, h]
/-- A row that reads as these cells, n elements of k cells each. -/
def RowAt (W : World) (v : Value) (n k : Nat) (cs : List Value) : Prop :=
  cs.length = n * k ∧ ∃ a cap, v = .slice a n cap ∧ n ≤ cap ∧ cap ≤ maxLen ∧ (a = none → cap = 0) ∧
    ∀ j, j < cs.length → ∃ b off, a = some ⟨b, off, none⟩ ∧ b < W.heap.size ∧ W.cell? ⟨b, off + j, none⟩ = cs[j]?
def WordsAt (W : World) (v : Value) (ws : List Int) : Prop := RowAt W v ws.length 1 (wordVals ws)
def OwnsWords (n₀ : Nat) (ws : List Int) (v : Value) (W : World) : Prop := W.ownsRow n₀ 25 1 v ws.length (wordVals ws)
theorem RowAt.below {W W' : World} {v : Value} {n k : Nat} {cs : List Value} (h : RowAt W v n k cs) (hB : Below W.heap.size W W') : RowAt W' v n k cs := by
  obtain ⟨h0, a, cap, h1, h2, h3, h4, h5⟩ := h
  refine ⟨h0, a, cap, h1, h2, h3, h4, fun j hj => ?_⟩
  obtain ⟨b, off, e, hb, hc⟩ := h5 j hj
  exact ⟨b, off, e, Nat.lt_of_lt_of_le hb hB.size, (hB.cell (p := ⟨b, off + j, none⟩) hb).trans hc⟩
theorem rowAt_own {n₀ : Nat} {e : TypeId} {k n : Nat} {v : Value} {cs : List Value} {W : World} (h : W.ownsRow n₀ e k v n cs) : RowAt W v n k cs := by
  rcases h.2 with ⟨rfl, rfl⟩ | ⟨g, cap, cur, rfl, hg, hh, hl, hm, _, _⟩
  · exact ⟨h.1, none, 0, rfl, Nat.le_refl _, Nat.zero_le _, fun _ => rfl, fun j hj => by rw [h.1] at hj; omega⟩
  · refine ⟨h.1, _, cap, rfl, hl, hm, (fun e => by cases e), fun j hj => ⟨g, 0, rfl, (Array.getElem?_eq_some_iff.1 hh).1, ?_⟩⟩
    rw [Nat.zero_add]
    exact World.ownsRow.cellAt h j (by have := h.1; omega)
theorem owns_mono {n₀ n₁ : Nat} {e : TypeId} {k n : Nat} {v : Value} {cs : List Value} {W : World} (h : W.ownsRow n₁ e k v n cs) (hn : n₀ ≤ n₁) : W.ownsRow n₀ e k v n cs :=
  ⟨h.1, h.2.imp id fun ⟨g, cap, cur, h1, h2, h3⟩ => ⟨g, cap, cur, h1, Nat.le_trans hn h2, h3⟩⟩
theorem owns_keep {n₀ h : Nat} {e : TypeId} {k n : Nat} {v : Value} {cs : List Value} {A B : World} (o : A.ownsRow n₀ e k v n cs) (hB : Below h A B) (hh : A.heap.size ≤ h) : B.ownsRow n₀ e k v n cs := by
  refine World.ownsRow.kept o (row := none) ⟨hB.os, hB.tape, hB.output, hB.size, fun k hk _ => hB.block k (Nat.lt_of_lt_of_le hk hh)⟩ ?_
  cases e : v.ownBlock <;> simp

/-- Why an access of n cells can't be made. -/
def why (n : Nat) (who kind pl : Int) : Int := if n < 1 ∨ 8192 < n then 120 else if kind < 1 ∨ 4 < kind ∨ who < 0 ∨ 8 ≤ who then 121 else if pl < 0 ∨ (n : Int) ≤ pl then 2 else 0

theorem Try.noCells_any (n : Nat) (w : World) : Calls Try.prog 68 #[.int .i64 n] w fun e w' => e = .returned (.bool (decide (n < 1 ∨ 8192 < n))) ∧ w = w' := by
  by_cases h : n < 1
  · rw [decide_eq_true (.inl h)]
    have h' : (n : Int) < 1 := by omega
    go_enter Try.func68, Try.ntmps68
    go_wp2
    go_ret
    exact ⟨rfl, rfl⟩
  · have h' : ¬ (n : Int) < 1 := by omega
    by_cases h8 : 8192 < n
    · rw [decide_eq_true (.inr h8)]
      have h8' : (8192 : Int) < (n : Int) := by omega
      go_enter Try.func68, Try.ntmps68
      go_wp2
      go_ret
      exact ⟨by simp, rfl⟩
    · rw [decide_eq_false (by omega)]
      have h8' : ¬ (8192 : Int) < (n : Int) := by omega
      go_enter Try.func68, Try.ntmps68
      go_wp2
      go_ret
      exact ⟨by simp, rfl⟩

theorem Try.noCell_any (n : Nat) (i : Int) (w : World) : Calls Try.prog 70 #[.int .i64 n, .int .i64 i] w fun e w' => e = .returned (.bool (decide (i < 0 ∨ (n : Int) ≤ i))) ∧ w = w' := by
  by_cases h : i < 0
  · rw [decide_eq_true (.inl h)]
    go_enter Try.func70, Try.ntmps70
    go_wp2
    go_ret
    exact ⟨rfl, rfl⟩
  · by_cases h8 : (n : Int) ≤ i
    · rw [decide_eq_true (.inr h8)]
      go_enter Try.func70, Try.ntmps70
      go_wp2
      go_ret
      exact ⟨by simp, rfl⟩
    · rw [decide_eq_false (by omega)]
      go_enter Try.func70, Try.ntmps70
      go_wp2
      go_ret
      exact ⟨by simp, rfl⟩

set_option maxHeartbeats 1000000 in
theorem Try.wrong_any (n : Nat) (who kind pl old new : Int) (w : World) :
    Calls Try.prog 63 #[.int .i64 n, .agg #[.int .i64 who, .int .i64 kind, .int .i64 pl, .int .u64 old, .int .u64 new]] w fun e w' => e = .returned (.int .i64 (why n who kind pl)) ∧ Below w.heap.size w w' := by
  have hB : Below w.heap.size w (w.alloc (.cells #[.int .i64 who, .int .i64 kind, .int .i64 pl, .int .u64 old, .int .u64 new] 32)) := (Below.refl _ w).alloc (Nat.le_refl _) _
  have h1 := fun W => Try.noCells_any n W
  have h2 := fun W => Try.noCell_any n pl W
  unfold why
  by_cases hn : n < 1 ∨ 8192 < n
  · rw [decide_eq_true hn] at h1
    rw [if_pos hn]
    have H1 := Lib.hid h1
    clear h1 h2 hn
    go_enter Try.func63, Try.ntmps63
    go_wp2_with fail
    refine (H1.out _).mono ?_
    rintro e w' ⟨rfl, rfl⟩
    go_wp2
    go_ret
    exact ⟨rfl, hB⟩
  · rw [decide_eq_false hn] at h1
    rw [if_neg hn]
    have H1 := Lib.hid h1
    clear h1 hn
    by_cases hk : kind < 1 ∨ 4 < kind ∨ who < 0 ∨ 8 ≤ who
    · rw [if_pos hk]
      have HB := Lib.hid hB
      clear h2 hB
      go_enter Try.func63, Try.ntmps63
      go_wp2_with fail
      refine (H1.out _).mono ?_
      rintro e w' ⟨rfl, rfl⟩
      rcases hk with hk | hk | hk | hk
      · go_wp2
        go_ret
        exact ⟨rfl, HB.out⟩
      · by_cases k1 : kind < 1
        · clear hk
          go_wp2
          go_ret
          exact ⟨rfl, HB.out⟩
        · have hd := decide_eq_true hk
          go_wp2
          go_ret
          exact ⟨rfl, HB.out⟩
      · by_cases k1 : kind < 1
        · go_wp2
          go_ret
          exact ⟨rfl, HB.out⟩
        · by_cases k2 : 4 < kind
          · have hd := decide_eq_true k2
            go_wp2
            go_ret
            exact ⟨rfl, HB.out⟩
          · have hd := decide_eq_false k2
            go_wp2
            go_ret
            exact ⟨rfl, HB.out⟩
      · by_cases k1 : kind < 1
        · go_wp2
          go_ret
          exact ⟨rfl, HB.out⟩
        · by_cases k2 : 4 < kind
          · have hd := decide_eq_true k2
            go_wp2
            go_ret
            exact ⟨rfl, HB.out⟩
          · have k3 : ¬ who < 0 := by omega
            go_wp2
            go_ret
            exact ⟨rfl, HB.out⟩
    · rw [if_neg hk]
      have k1 : ¬ kind < 1 := by omega
      have k2 : ¬ 4 < kind := by omega
      have k3 : ¬ who < 0 := by omega
      have k4 : ¬ 8 ≤ who := by omega
      have HB := Lib.hid hB
      clear hB hk
      by_cases hp : pl < 0 ∨ (n : Int) ≤ pl
      · rw [decide_eq_true hp] at h2
        rw [if_pos hp]
        have H2 := Lib.hid h2
        clear h2 hp
        go_enter Try.func63, Try.ntmps63
        go_wp2_with (first | (go_at_call 68; refine (H1.out _).mono ?_; rintro e w' ⟨rfl, rfl⟩) | (go_at_call 70; refine (H2.out _).mono ?_; rintro e w' ⟨rfl, rfl⟩))
        go_ret
        exact ⟨rfl, HB.out⟩
      · rw [decide_eq_false hp] at h2
        rw [if_neg hp]
        have H2 := Lib.hid h2
        clear h2 hp
        go_enter Try.func63, Try.ntmps63
        go_wp2_with (first | (go_at_call 68; refine (H1.out _).mono ?_; rintro e w' ⟨rfl, rfl⟩) | (go_at_call 70; refine (H2.out _).mono ?_; rintro e w' ⟨rfl, rfl⟩))
        go_ret
        exact ⟨rfl, HB.out⟩

theorem Try.alone_any (b n cap : Nat) (k : Nat) (hk : k < n) (hn : n ≤ cap) (hm : cap ≤ maxLen) (w : World) :
    Calls Try.prog 65 #[.slice (some ⟨b, 0, none⟩) n cap, .int .i64 k] w fun e w' => e = .returned (.slice (some ⟨b, k, none⟩) 1 1) ∧ w = w' := by
  have hw : IntKind.i64.wrap ((k : Int) + 1) = (k : Int) + 1 := IntWalk.i64_in _ (by unfold maxLen at hm; omega)
  go_enter Try.func65, Try.ntmps65
  go_wp2
  go_ret
  exact ⟨rfl, rfl⟩

theorem Try.plainLoad_any (b k : Nat) (h : Int) (w : World) (hc : w.cell? ⟨b, k, none⟩ = some (.int .u64 h)) :
    Calls Try.prog 161 #[.slice (some ⟨b, k, none⟩) 1 1] w fun e w' => e = .returned (.int .u64 h) ∧ w = w' := by
  go_enter Try.func161, Try.ntmps161
  go_wp2
  go_ret
  exact ⟨rfl, rfl⟩

theorem Try.plainCas_any (b k : Nat) (h o n : Int) (w : World) (hc : w.cell? ⟨b, k, none⟩ = some (.int .u64 h)) (hf : w.frozen? ⟨b, k, none⟩ = false) :
    Calls Try.prog 71 #[.slice (some ⟨b, k, none⟩) 1 1, .int .u64 o, .int .u64 n] w fun e w' => e = .returned (.bool (h == o)) ∧ w' = if h = o then w.setCell ⟨b, k, none⟩ (.int .u64 n) else w := by
  by_cases he : h = o
  · subst he
    have hd : (h != h) = false := by simp
    rw [if_pos rfl]
    go_enter Try.func71, Try.ntmps71
    go_wp2
    go_ret
    exact ⟨by simp, rfl⟩
  · have hd : (h != o) = true := by simp [he]
    rw [if_neg he]
    go_enter Try.func71, Try.ntmps71
    go_wp2
    go_ret
    exact ⟨by simp [he], rfl⟩

theorem Try.atomLoad_any (b k : Nat) (h : Int) (w : World) (hc : w.cell? ⟨b, k, none⟩ = some (.int .u64 h)) :
    Calls Try.prog 75 #[.pointer (some ⟨b, k, none⟩)] w fun e w' => e = .returned (.int .u64 h) ∧ w = w' := by
  have hl := run_call_load (P := Try.prog) Try.func99 (by kernel_rfl) (by kernel_rfl) (by kernel_rfl) .u64 (by kernel_rfl) hc
  go_enter Try.func75, Try.ntmps75
  go_wp2
  go_ret
  exact ⟨rfl, rfl⟩
end Go.Proofs
