/- slices.Clone of accesses and of marks. -/
import Derived.Test.YtafccppobhhelaaCn
namespace Go.Proofs
open Go.RowKit Go.Shelf
attribute [local go_sem] Oper.semAt_some

theorem Try.infoAccess : (Try.prog.info? 32).map (fun i => (i.zero, i.size, i.bytes)) = some (some (.agg #[.int .i64 0, .int .i64 0, .int .i64 0, .int .u64 0, .int .u64 0]), 5, 40) := by kernel_rfl
theorem accVals_one (l : List Acc) : ∀ u ∈ accVals l, u.oneCell' = true := by
  intro u hu
  obtain ⟨a, _, h⟩ := List.mem_flatMap.1 hu
  simp [Acc.cells] at h
  rcases h with rfl | rfl | rfl | rfl | rfl <;> rfl
theorem markVals_one (l : List Mk) : ∀ u ∈ markVals l, u.oneCell' = true := by
  intro u hu
  obtain ⟨a, _, h⟩ := List.mem_flatMap.1 hu
  simp [Mk.cells] at h
  rcases h with rfl | rfl | rfl | rfl <;> rfl
def OwnsAccs (n₀ : Nat) (l : List Acc) (v : Value) (W : World) : Prop := W.ownsRow n₀ 32 5 v l.length (accVals l)
def AccsQ (l : List Acc) (w : World) (e : Ending) (w' : World) : Prop := ∃ v, e = .returned v ∧ OwnsAccs w.heap.size l v w' ∧ Below w.heap.size w w'
def MarksQ (l : List Mk) (w : World) (e : Ending) (w' : World) : Prop := ∃ v, e = .returned v ∧ OwnsMarks w.heap.size l v w' ∧ Below w.heap.size w w'

set_option maxRecDepth 100000 in
set_option maxHeartbeats 1000000 in
theorem Try.cloneAccs_any (a : Option Addr) (n cap : Nat) (ws : List Acc) (hn : n = ws.length) (hl : n ≤ 100) (w : World) (hI : AccsAt w (.slice a n cap) ws) :
    Calls Try.prog 18 #[.slice a n cap] w (AccsQ ws w) := by
  obtain ⟨i0, hi, hz0, hz1, hz2⟩ := info_parts Try.infoAccess
  cases a with
  | none =>
    obtain ⟨h0, a', cap', e, h1, h2, h3, h4⟩ := hI
    cases e
    have hc0 : cap = 0 := h3 rfl
    subst hc0
    have hw0 : ws = [] := List.eq_nil_of_length_eq_zero (by omega)
    subst hw0
    have hnil := fun wx : World => Lib.run_eql_slice_nil (P := Try.prog) wx 23 32 none 0 0 0 0 Try.underlying23
    simp only [List.length_nil]
    clear h0 h1 h2 h3 h4 hn hl
    go_enter Try.func18, Try.ntmps18
    go_wp2
    go_ret
    exact ⟨_, rfl, World.ownsRow_nil _ _ _ _, Below.refl _ _⟩
  | some x =>
    have hnil := fun wx : World => Lib.run_eql_slice_nil (P := Try.prog) wx 23 32 (some x) n cap 0 0 Try.underlying23
    subst hn
    have hsrc := row_src hI
    have HC := Lib.hid hsrc
    clear hI hsrc
    have hO : OwnsAccs w.heap.size [] (.slice (some ⟨w.heap.size, 0, none⟩) 0 0) (w.alloc (.cells #[] 32)) := World.ownsRow_lit w #[] 0 (Nat.le_refl _) (by unfold maxLen; omega) rfl
    have hB : Below w.heap.size w (w.alloc (.cells #[] 32)) := (Below.refl _ w).alloc (Nat.le_refl _) _
    have HO := Lib.hid hO
    clear hO
    go_enter Try.func18, Try.ntmps18
    go_wp2_with (at_builtin; refine wpList_append_own _ rfl _ _ 23 rfl w.heap.size 32 i0 (.agg #[.int .i64 0, .int .i64 0, .int .i64 0, .int .u64 0, .int .u64 0]) 5 40 Try.underlying23 hi hz0 hz1 hz2 rfl (by decide) _ _ _ rfl HO.out x ws.length cap (accVals ws) rfl ?c1 ?c2 ?c3 ?c4 ?c5 ?c6 ?_)
    case c1 => rw [accVals_length]
    case c2 =>
      intro j u hu
      have h := HC.out j u hu
      have hlt : x.block < w.heap.size := by
        have hk := h
        unfold World.cell? at hk
        rcases Nat.lt_or_ge (x.add j).block w.heap.size with hq | hq
        · have : (x.add j).block = x.block := by unfold Addr.add; split <;> rfl
          omega
        · rw [Array.getElem?_eq_none hq] at hk
          cases hk
      have hblk : (x.add j).block = x.block := by unfold Addr.add; split <;> rfl
      exact (hB.cell (p := x.add j) (by rw [hblk]; exact hlt)).trans h
    case c3 => exact accVals_one ws
    case c4 => simp; unfold maxLen; omega
    case c5 => simp; omega
    case c6 => simp
    intro v' w1 hown' hgrow _
    have hB1 : Below w.heap.size w w1 := hB.grown hgrow (by simp) (fun j ej => (World.ownsRow.lt HO.out j ej).1)
    have hO2 : OwnsAccs w.heap.size ws v' w1 := by
      unfold OwnsAccs
      simpa [accVals] using hown'
    have HO2 := Lib.hid hO2
    clear hO2 hown' hgrow
    go_wp2
    go_ret
    exact ⟨_, rfl, HO2.out, hB1⟩

set_option maxRecDepth 100000 in
set_option maxHeartbeats 1000000 in
theorem Try.cloneMarks_any (a : Option Addr) (n cap : Nat) (ws : List Mk) (hn : n = ws.length) (hl : n ≤ 100) (w : World) (hI : MarksAt w (.slice a n cap) ws) :
    Calls Try.prog 28 #[.slice a n cap] w (MarksQ ws w) := by
  obtain ⟨i0, hi, hz0, hz1, hz2⟩ := info_parts Try.infoMark
  cases a with
  | none =>
    obtain ⟨h0, a', cap', e, h1, h2, h3, h4⟩ := hI
    cases e
    have hc0 : cap = 0 := h3 rfl
    subst hc0
    have hw0 : ws = [] := List.eq_nil_of_length_eq_zero (by omega)
    subst hw0
    have hnil := fun wx : World => Lib.run_eql_slice_nil (P := Try.prog) wx 40 47 none 0 0 0 0 Try.underlying40
    simp only [List.length_nil]
    clear h0 h1 h2 h3 h4 hn hl
    go_enter Try.func28, Try.ntmps28
    go_wp2
    go_ret
    exact ⟨_, rfl, World.ownsRow_nil _ _ _ _, Below.refl _ _⟩
  | some x =>
    have hnil := fun wx : World => Lib.run_eql_slice_nil (P := Try.prog) wx 40 47 (some x) n cap 0 0 Try.underlying40
    subst hn
    have hsrc := row_src hI
    have HC := Lib.hid hsrc
    clear hI hsrc
    have hO : OwnsMarks w.heap.size [] (.slice (some ⟨w.heap.size, 0, none⟩) 0 0) (w.alloc (.cells #[] 47)) := World.ownsRow_lit w #[] 0 (Nat.le_refl _) (by unfold maxLen; omega) rfl
    have hB : Below w.heap.size w (w.alloc (.cells #[] 47)) := (Below.refl _ w).alloc (Nat.le_refl _) _
    have HO := Lib.hid hO
    clear hO
    go_enter Try.func28, Try.ntmps28
    go_wp2_with (at_builtin; refine wpList_append_own _ rfl _ _ 40 rfl w.heap.size 47 i0 (.agg #[.int .i64 0, .int .i64 0, .int .u64 0, .int .u64 0]) 4 32 Try.underlying40 hi hz0 hz1 hz2 rfl (by decide) _ _ _ rfl HO.out x ws.length cap (markVals ws) rfl ?c1 ?c2 ?c3 ?c4 ?c5 ?c6 ?_)
    case c1 => rw [markVals_length]
    case c2 =>
      intro j u hu
      have h := HC.out j u hu
      have hlt : x.block < w.heap.size := by
        have hk := h
        unfold World.cell? at hk
        rcases Nat.lt_or_ge (x.add j).block w.heap.size with hq | hq
        · have : (x.add j).block = x.block := by unfold Addr.add; split <;> rfl
          omega
        · rw [Array.getElem?_eq_none hq] at hk
          cases hk
      have hblk : (x.add j).block = x.block := by unfold Addr.add; split <;> rfl
      exact (hB.cell (p := x.add j) (by rw [hblk]; exact hlt)).trans h
    case c3 => exact markVals_one ws
    case c4 => simp; unfold maxLen; omega
    case c5 => simp; omega
    case c6 => simp
    intro v' w1 hown' hgrow _
    have hB1 : Below w.heap.size w w1 := hB.grown hgrow (by simp) (fun j ej => (World.ownsRow.lt HO.out j ej).1)
    have hO2 : OwnsMarks w.heap.size ws v' w1 := by
      unfold OwnsMarks
      simpa [markVals] using hown'
    have HO2 := Lib.hid hO2
    clear hO2 hown' hgrow
    go_wp2
    go_ret
    exact ⟨_, rfl, HO2.out, hB1⟩
end Go.Proofs
