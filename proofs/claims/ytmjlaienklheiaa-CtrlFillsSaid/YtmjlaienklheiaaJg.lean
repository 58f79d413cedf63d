/- Ctrl: a byte laid into a draft's lane. -/
import Derived.Test.YtmjlaienklheiaaJf
namespace Go.Proofs
set_option maxRecDepth 100000
open Go.RowKit Go.Shelf
attribute [local go_sem] Oper.semAt_some

theorem setAll_one (x b k : Nat) (h : k < 8) : setAll (fun _ => b) x [⟨k, h⟩] = setB x k b := rfl
set_option maxHeartbeats 2000000 in
theorem Try.cput_any (x b k h D : Nat) (hk : k < 8) (hx : x < 18446744073709551616) (hb : b < 256) (t : TypeId) (cs : Array Value) (w : World) (hD : Draft w D t cs x k h) :
    Calls Try.prog 60 #[.pointer (some ⟨D, 0, none⟩), .int .u8 b] w fun e w' => (∃ v, e = .returned v) ∧ Rows8 w' D t (cs.setIfInBounds 0 (.int .u64 (setB x k b : Nat))) ∧ But w.heap.size D w w' := by
  have c0 := hD.c0
  have c1 := hD.c1
  have hl := hD.row.lt
  have hmx : Try.prog.follows .mixedOrders = true := by kernel_rfl
  have hB0 : Below w.heap.size w (w.drew.alloc (.cells #[.int .i64 k] 3)) := (Below.refl _ w).drew.alloc (Nat.le_refl _) _
  have hn : Rows8 (w.drew.alloc (.cells #[.int .i64 k] 3)) w.heap.size 3 #[.int .i64 k] := Rows8.new w.drew 3 #[.int .i64 k]
  have HP := Lib.hid (Try.Put_yes x b hx hb (some ⟨w.heap.size, 0, none⟩) 1 1 [⟨k, hk⟩] (by simp) (w.drew.alloc (.cells #[.int .i64 k] 3)) (.inr ⟨_, 0, 1, rfl, hn.lt, fun j hj => by
    obtain rfl : j = 0 := by simp [lanesInt] at hj; omega
    exact hn.cell 0⟩))
  rw [setAll_one] at HP
  have HN := Lib.hid fun W => Try.cnumber_any x W
  have HD := Lib.hid (hD.below hB0 hl)
  have HB := Lib.hid hB0
  have two : ∀ W', W' = w.drew ∨ W' = w.drew.alloc (.cells #[.int .i64 k] 3) → W'.cell? ⟨D, 0, none⟩ = some (.int .u64 x) ∧ W'.cell? ⟨D, 1, none⟩ = some (.int .i64 k) := fun W' hw => by
    rcases hw with rfl | rfl
    · exact ⟨c0, c1⟩
    · exact ⟨HD.out.c0, HD.out.c1⟩
  have TWO := Lib.hid two
  clear hD hB0 hn two hx hb
  go_enter Try.func60, Try.ntmps60
  go_wp2_with fail
  go_region_held3 (fun W' => W'.cell? ⟨D, 0, none⟩ = some (.int .u64 x) ∧ W'.cell? ⟨D, 1, none⟩ = some (.int .i64 k)) (first | exact TWO.out _ (.inl rfl) | exact TWO.out _ (.inr rfl) | exact ⟨HD2.out.c0, HD2.out.c1⟩ | simp [*]) (first
    | (go_at_call 54; refine (HN.out _).mono ?_; rintro e w' ⟨rfl, rfl⟩)
    | (go_at_call 72; refine HP.out.mono ?_; rintro e w2 ⟨rfl, hB2⟩; have HD2 := Lib.hid (HD.out.below hB2 (Nat.lt_of_lt_of_le hl HB.out.size)); have HB2 := Lib.hid (HB.out.trans (hB2.mono HB.out.size)); clear hB2))
  all_goals
    have c2 := HD2.out.c0
    have f2 := HD2.out.row.frozen 0
    go_wp2_with fail
    go_end0
    exact ⟨⟨_, rfl⟩, HD2.out.row.set 0 _, (But.of_below HB2.out).setCell _ _⟩
end Go.Proofs
