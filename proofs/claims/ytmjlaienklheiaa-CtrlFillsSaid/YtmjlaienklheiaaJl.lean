/- Ctrl: Fills. -/
import Derived.Test.YtmjlaienklheiaaJk
namespace Go.Proofs
set_option maxRecDepth 100000
open Go.RowKit Go.Shelf
attribute [local go_sem] Oper.semAt_some

def resL (x : Nat) (hs : List Nat) : List Nat := if rightC x = true ∧ fillsE x hs = 0 then fillsL x hs else []
theorem fillsE_two (x : Nat) (hs : List Nat) : fillsE x hs = 0 ∨ fillsE x hs = 2 := by
  unfold fillsE
  split
  · exact .inl rfl
  · exact .inr rfl
theorem fillsL_len {x : Nat} {hs : List Nat} (h : fillsE x hs = 0) : (fillsL x hs).length = hs.length := by
  unfold fillsE at h
  split at h
  · rename_i h1
    unfold fillsL
    rw [List.length_take]
    omega
  · cases h
def FillsQ (x : Nat) (hs : List Nat) (w : World) (e : Ending) (w' : World) : Prop :=
  ∃ lv, e = .returned (.tuple #[.int .u64 (resY x (fillsE x hs) (fillsS x hs) : Nat), lv, .int .i64 (resE x (fillsE x hs))]) ∧ w'.ownsRow w.heap.size 3 1 lv (resL x hs).length (nvals (resL x hs)) ∧ Below w.heap.size w w'

set_option maxHeartbeats 2000000 in
theorem Try.ftried (x : Nat) (hx : x < 18446744073709551616) (sv : Value) (hs : List Nat) (hh : ∀ u ∈ hs, u < 256) (hl : hs.length ≤ 100000) (D : Nat) (w : World) (hR : Rows8 w D 78 #[.int .u64 x, .int .i64 0, .int .u8 0, sv, .slice none 0 0]) (hB : BA w D sv hs) :
    Calls Try.prog 43 #[.pointer (some ⟨D, 0, none⟩), .func (.func 50) #[.pointer (some ⟨D, 0, none⟩)] #[]] w fun e w' =>
      e = .returned (.tuple #[.int .u64 (resY x (fillsE x hs) (fillsS x hs) : Nat), .int .i64 (resE x (fillsE x hs))]) ∧ But w.heap.size D w w' ∧ (rightC x = true → fillsE x hs = 0 → ∃ (l : Int) (h : Nat) (a : Option Addr) (c : Nat), Rows8 w' D 78 #[.int .u64 (fillsS x hs : Nat), .int .i64 l, .int .u8 h, sv, .slice a hs.length c] ∧ w'.ownsRow w.heap.size 3 1 (.slice a hs.length c) hs.length (nvals (fillsL x hs))) := by
  unfold resY resE
  have hDl := hR.lt
  have hD : Draft w D 78 #[.int .u64 x, .int .i64 0, .int .u8 0, sv, .slice none 0 0] x 0 0 := ⟨hR, rfl, rfl, rfl⟩
  cases hr : rightC x
  · exact (Try.tried_no x hr 0 0 D _ _ 50 _ _ w hD).mono fun e w' ⟨h1, h2⟩ => ⟨h1, But.of_below h2, fun h => by cases h⟩
  · refine (Try.tried_yes x hr 0 0 D _ _ 50 _ _ w hD (enters_of Try.func50 (by kernel_rfl) rfl)
      (fun y W => y = fillsS x hs ∧ fillsE x hs = 0 ∧ But w.heap.size D w W ∧ W.heap.size > w.heap.size ∧ ∃ (l : Int) (h : Nat) (wv : Value), Rows8 W D 78 #[.int .u64 (fillsS x hs : Nat), .int .i64 l, .int .u8 h, sv, wv] ∧ W.ownsRow (w.heap.size + 1) 3 1 wv hs.length (nvals (fillsL x hs)))
      (fun E W => E = 2 ∧ fillsE x hs = 2 ∧ But w.heap.size D w W) fun W hW hE => ?_).mono ?_
    · have hel := hE.lt
      have hne : w.heap.size ≠ D := by omega
      refine (Try.rfills_any x D hx 0 0 sv hs hh hl W (hR.below hW hDl) (hB.below hW (by omega))).mono ?_
      rintro e w' (⟨h1, ⟨v, rfl⟩, h3, l, h, wv, h4, h5⟩ | ⟨h1, rfl, h3⟩)
      · exact ⟨(h3.block _ hel hne).trans hE, .inl ⟨v, fillsS x hs, rfl, h4.cell 0, rfl, h1, (But.of_below hW).trans (h3.mono hW.size), Nat.lt_of_lt_of_le hel h3.size, l, h, wv, h4, owns_mono h5 (by omega)⟩⟩
      · exact ⟨(h3.block _ hel hne).trans hE, .inr ⟨2, rfl, rfl, h1, (But.of_below hW).trans (h3.mono hW.size)⟩⟩
    · rintro e w' (⟨y', W1, rfl, ⟨rfl, h2, h3, h6, l, h, wv, h4, h5⟩, rfl⟩ | ⟨E', W1, rfl, ⟨rfl, h2, h3⟩, rfl⟩)
      · obtain ⟨_, a, c, rfl, _⟩ := rowAt_own h5
        refine ⟨by rw [if_pos h2, h2]; rfl, h3.trans ⟨rfl, rfl, rfl, by simp [World.setCell], fun k a _ => Below.heap_setCell _ _ _ _ (by show k ≠ w.heap.size; omega)⟩, fun _ _ => ⟨l, h, a, c, h4.setOther (by show w.heap.size ≠ D; omega) _, ?_⟩⟩
        rcases h5 with ⟨hl5, ⟨e5, n5⟩ | ⟨g, cap, cur, e5, g2, g3, g4⟩⟩
        · exact ⟨hl5, .inl ⟨e5, n5⟩⟩
        · exact ⟨hl5, .inr ⟨g, cap, cur, e5, by omega, (Below.heap_setCell _ _ _ _ (by show g ≠ w.heap.size; omega)).trans g3, g4⟩⟩
      · refine ⟨by rw [h2]; rfl, h3.trans ⟨rfl, rfl, rfl, by simp [World.setCell], fun k a _ => Below.heap_setCell _ _ _ _ (by show k ≠ w.heap.size; omega)⟩, fun _ h => by rw [h2] at h; cases h⟩

set_option maxHeartbeats 2000000 in
theorem Try.cFills_any (x : Nat) (hx : x < 18446744073709551616) (sv : Value) (hs : List Nat) (hh : ∀ u ∈ hs, u < 256) (hl : hs.length ≤ 100000) (w : World) (hB : BA w w.heap.size sv hs) :
    Calls Try.prog 26 #[.int .u64 x, sv] w (FillsQ x hs w) := by
  obtain ⟨a0, n0, cp0, rfl⟩ : ∃ a n c, sv = Value.slice a n c := by obtain ⟨a, c, e, _⟩ := hB; exact ⟨_, _, _, e⟩
  have hB0 : Below w.heap.size w (w.alloc (.cells #[.int .u64 x, .int .i64 0, .int .u8 0, .slice a0 n0 cp0, .slice none 0 0] 78)) := (Below.refl _ w).alloc (Nat.le_refl _) _
  have hT := Try.ftried x hx _ hs hh hl _ _ (Rows8.new w 78 #[.int .u64 x, .int .i64 0, .int .u8 0, .slice a0 n0 cp0, .slice none 0 0]) (hB.below hB0 (Nat.le_refl _))
  have hmf : ∀ (fn : Fn) (first cap : Array Value) (w : World), (Instr.makeFunc fn first cap).run Try.prog w = .ok (.func fn first cap) w := fun _ _ _ _ => rfl
  unfold FillsQ
  by_cases hok : rightC x = true ∧ fillsE x hs = 0
  · have hL : resL x hs = fillsL x hs := if_pos hok
    have hN : (fillsL x hs).length = hs.length := fillsL_len hok.2
    have hE : resE x (fillsE x hs) = 0 := by unfold resE; rw [if_pos hok.1, hok.2]
    rw [hL, hN, hE]
    rw [hE] at hT
    have hT2 : Hid (Calls Try.prog 43 #[.pointer (some ⟨w.heap.size, 0, none⟩), .func (.func 50) #[.pointer (some ⟨w.heap.size, 0, none⟩)] #[]] (w.alloc (.cells #[.int .u64 x, .int .i64 0, .int .u8 0, .slice a0 n0 cp0, .slice none 0 0] 78)) fun e w' =>
      e = .returned (.tuple #[.int .u64 (resY x (fillsE x hs) (fillsS x hs) : Nat), .int .i64 0]) ∧ Below w.heap.size w w' ∧ ∃ (a : Option Addr) (c : Nat), w'.cell? ⟨w.heap.size, 4, none⟩ = some (.slice a hs.length c) ∧ w'.ownsRow w.heap.size 3 1 (.slice a hs.length c) hs.length (nvals (fillsL x hs))) :=
      Lib.hid (hT.mono fun e w' ⟨h1, h2, h3⟩ => by
        obtain ⟨l, h, a, c, h4, h5⟩ := h3 hok.1 hok.2
        exact ⟨h1, hB0.trans (h2.below hB0.size (Nat.le_refl _)), a, c, h4.cell 4, owns_mono h5 hB0.size⟩)
    generalize resY x (fillsE x hs) (fillsS x hs) = ry, fillsL x hs = fl, hs.length = n at *
    clear hT hB0 hB hx hh hl hL hN hE hok
    go_enter Try.func26, Try.ntmps26
    go_wp2_with (go_at_call 43; refine hT2.out.mono ?_; rintro e w2 ⟨rfl, hB2, a, c, hc, ho⟩)
    go_quiet (fail)
    go_wp2
    refine bodyPost_ret (results_tmp3 rfl _ _ _) rfl ?_
    exact ⟨_, rfl, ho, below_drewN hB2 _⟩
  · have hL : resL x hs = [] := if_neg hok
    have hY : resY x (fillsE x hs) (fillsS x hs) = 0 := by
      unfold resY
      by_cases h1 : rightC x = true
      · rw [if_pos h1, if_neg fun h2 => hok ⟨h1, h2⟩]
      · rw [if_neg h1]
    have hE : resE x (fillsE x hs) = 2 ∨ resE x (fillsE x hs) = 190 := by
      unfold resE
      by_cases h1 : rightC x = true
      · rw [if_pos h1]
        rcases fillsE_two x hs with h2 | h2
        · exact absurd ⟨h1, h2⟩ hok
        · exact .inl h2
      · rw [if_neg h1]; exact .inr rfl
    rw [hL, hY]
    rw [hY] at hT
    have hT2 := hT.mono fun e w' h => (⟨h.1, hB0.trans (h.2.1.below hB0.size (Nat.le_refl _))⟩ : _ ∧ Below w.heap.size w w')
    have HT2 := Lib.hid hT2
    clear hT hT2 hB0 hB hx hh hl hL hY hok
    generalize resE x (fillsE x hs) = re at *
    have hne : (re == 0) = false := by rcases hE with rfl | rfl <;> rfl
    clear hE
    go_enter Try.func26, Try.ntmps26
    go_wp2_with (go_at_call 43; refine HT2.out.mono ?_; rintro e w2 ⟨rfl, hB2⟩)
    refine bodyPost_ret (results_tmp3 rfl _ _ _) rfl ?_
    exact ⟨_, rfl, ⟨rfl, .inl ⟨rfl, rfl⟩⟩, hB2⟩
end Go.Proofs
