/- Ctrl: Fill, Erase, Ready. -/
import Derived.Test.YtmjlaienklheiaaJi
namespace Go.Proofs
set_option maxRecDepth 100000
open Go.RowKit Go.Shelf
attribute [local go_sem] Oper.semAt_some

def resY (x : Nat) (E : Int) (y : Nat) : Nat := if rightC x then (if E = 0 then y else 0) else 0
def resE (x : Nat) (E : Int) : Int := if rightC x then E else 190
theorem Try.chTried (x : Nat) (lane : Int) (h D : Nat) (t : TypeId) (ht : t ≠ 27) (cs : Array Value) (f : FuncId) (E : Int) (y : Nat) (w : World) (hD : Draft w D t cs x lane h) (eg : ∀ args w, (callFunc f args).run Try.prog w = .ok (.enter f args) w)
    (hwork : ∀ W, Draft W D t cs x lane h → Calls Try.prog f #[.pointer (some ⟨D, 0, none⟩)] W (ChQ D t cs E y W)) :
    Calls Try.prog 43 #[.pointer (some ⟨D, 0, none⟩), .func (.func f) #[.pointer (some ⟨D, 0, none⟩)] #[]] w fun e w' => e = .returned (.tuple #[.int .u64 (resY x E y : Nat), .int .i64 (resE x E)]) ∧ But w.heap.size D w w' := by
  unfold resY resE
  have hl := hD.row.lt
  cases hr : rightC x
  · exact (Try.tried_no x hr lane h D t cs f _ _ w hD).mono fun e w' ⟨h1, h2⟩ => ⟨h1, But.of_below h2⟩
  · have hsz : ∀ {i : Nat} {v : Value}, cs[i]? = some v → i < cs.size := fun h => (Array.getElem?_eq_some_iff.1 h).1
    refine (Try.tried_yes x hr lane h D t cs f _ _ w hD eg (fun y' W' => E = 0 ∧ y' = y ∧ But w.heap.size D w W') (fun E' W' => E ≠ 0 ∧ E' = E ∧ But w.heap.size D w W') fun W hW hE => ?_).mono ?_
    · refine (hwork W (hD.below hW hl)).mono ?_
      have hne : w.heap.size ≠ D := by omega
      rintro e w' (⟨h1, ⟨v, rfl⟩, h3, h4⟩ | ⟨h1, rfl, h3⟩)
      · refine ⟨(h4.block _ hE.lt hne).trans hE, .inl ⟨v, y, rfl, ?_, h1, rfl, (But.of_below hW).trans ⟨h4.os, h4.tape, h4.output, h4.size, fun j a b => h4.block j (Nat.lt_of_lt_of_le a hW.size) b⟩⟩⟩
        rw [h3.cell 0]
        simp [hsz hD.e0]
      · exact ⟨hE.below h3 hE.lt, .inr ⟨E, rfl, h1, rfl, But.of_below (hW.trans (h3.mono hW.size))⟩⟩
    · rintro e w' (⟨y', W1, rfl, ⟨h1, rfl, h3⟩, rfl⟩ | ⟨E', W1, rfl, ⟨h1, rfl, h3⟩, rfl⟩)
      · subst h1
        refine ⟨rfl, h3.trans ⟨rfl, rfl, rfl, by simp [World.setCell], fun k a _ => Below.heap_setCell _ _ _ _ (by show k ≠ w.heap.size; omega)⟩⟩
      · refine ⟨by rw [if_neg h1]; rfl, h3.trans ⟨rfl, rfl, rfl, by simp [World.setCell], fun k a _ => Below.heap_setCell _ _ _ _ (by show k ≠ w.heap.size; omega)⟩⟩

set_option maxHeartbeats 1000000 in
theorem Try.cFill_any (x : Nat) (lane : Int) (h : Nat) (hx : x < 18446744073709551616) (hh : h < 256) (w : World) :
    Calls Try.prog 20 #[.int .u64 x, .int .i64 lane, .int .u8 h] w fun e w' => e = .returned (.tuple #[.int .u64 (resY x (fillE x lane h) (fillS x lane h) : Nat), .int .i64 (resE x (fillE x lane h))]) ∧ Below w.heap.size w w' := by
  have d0 : Draft (w.alloc (.cells #[.int .u64 x, .int .i64 lane, .int .u8 h] 72)) w.heap.size 72 #[.int .u64 x, .int .i64 lane, .int .u8 h] x (lane) (h) := ⟨Rows8.new w _ _, rfl, rfl, rfl⟩
  have hB0 : Below w.heap.size w (w.alloc (.cells #[.int .u64 x, .int .i64 lane, .int .u8 h] 72)) := (Below.refl _ w).alloc (Nat.le_refl _) _
  have hC := Try.chTried x (lane) (h) _ _ (by decide) _ 44 (fillE x lane h) (fillS x lane h) _ d0 (enters_of Try.func44 (by kernel_rfl) rfl) (fun W hW => Try.cfill_any x (lane) (h) w.heap.size hx hh _ _ W hW)
  have hmf : ∀ (fn : Fn) (first cap : Array Value) (w : World), (Instr.makeFunc fn first cap).run Try.prog w = .ok (.func fn first cap) w := fun _ _ _ _ => rfl
  have HC := Lib.hid hC
  generalize resY x (fillE x lane h) (fillS x lane h) = ry, resE x (fillE x lane h) = re at *
  clear d0 hC hx hh
  go_enter Try.func20, Try.ntmps20
  go_wp2_with (go_at_call 43; refine HC.out.mono ?_; rintro e w2 ⟨rfl, hB2⟩)
  go_ret2
  exact ⟨rfl, hB0.trans (hB2.below hB0.size (Nat.le_refl _))⟩

set_option maxHeartbeats 1000000 in
theorem Try.cErase_any (x : Nat) (lane : Int) (hx : x < 18446744073709551616) (w : World) :
    Calls Try.prog 21 #[.int .u64 x, .int .i64 lane] w fun e w' => e = .returned (.tuple #[.int .u64 (resY x (eraseE x lane) (eraseS x lane) : Nat), .int .i64 (resE x (eraseE x lane))]) ∧ Below w.heap.size w w' := by
  have d0 : Draft (w.alloc (.cells #[.int .u64 x, .int .i64 lane, .int .u8 0] 72)) w.heap.size 72 #[.int .u64 x, .int .i64 lane, .int .u8 0] x (lane) (0) := ⟨Rows8.new w _ _, rfl, rfl, rfl⟩
  have hB0 : Below w.heap.size w (w.alloc (.cells #[.int .u64 x, .int .i64 lane, .int .u8 0] 72)) := (Below.refl _ w).alloc (Nat.le_refl _) _
  have hC := Try.chTried x (lane) (0) _ _ (by decide) _ 45 (eraseE x lane) (eraseS x lane) _ d0 (enters_of Try.func45 (by kernel_rfl) rfl) (fun W hW => Try.cerase_any x (lane) (0) w.heap.size hx _ _ W hW)
  have hmf : ∀ (fn : Fn) (first cap : Array Value) (w : World), (Instr.makeFunc fn first cap).run Try.prog w = .ok (.func fn first cap) w := fun _ _ _ _ => rfl
  have HC := Lib.hid hC
  generalize resY x (eraseE x lane) (eraseS x lane) = ry, resE x (eraseE x lane) = re at *
  clear d0 hC hx
  go_enter Try.func21, Try.ntmps21
  go_wp2_with (go_at_call 43; refine HC.out.mono ?_; rintro e w2 ⟨rfl, hB2⟩)
  go_ret2
  exact ⟨rfl, hB0.trans (hB2.below hB0.size (Nat.le_refl _))⟩

set_option maxHeartbeats 1000000 in
theorem Try.cReady_any (x : Nat) (w : World) :
    Calls Try.prog 25 #[.int .u64 x] w fun e w' => e = .returned (.tuple #[.int .u64 (resY x (0) (readyS x) : Nat), .int .i64 (resE x (0))]) ∧ Below w.heap.size w w' := by
  have d0 : Draft (w.alloc (.cells #[.int .u64 x, .int .i64 0, .int .u8 0] 72)) w.heap.size 72 #[.int .u64 x, .int .i64 0, .int .u8 0] x (0) (0) := ⟨Rows8.new w _ _, rfl, rfl, rfl⟩
  have hB0 : Below w.heap.size w (w.alloc (.cells #[.int .u64 x, .int .i64 0, .int .u8 0] 72)) := (Below.refl _ w).alloc (Nat.le_refl _) _
  have hC := Try.chTried x (0) (0) _ _ (by decide) _ 49 (0) (readyS x) _ d0 (enters_of Try.func49 (by kernel_rfl) rfl) (fun W hW => Try.cready_any x (0) (0) w.heap.size _ _ W hW)
  have hmf : ∀ (fn : Fn) (first cap : Array Value) (w : World), (Instr.makeFunc fn first cap).run Try.prog w = .ok (.func fn first cap) w := fun _ _ _ _ => rfl
  have HC := Lib.hid hC
  generalize resY x (0) (readyS x) = ry, resE x (0) = re at *
  clear d0 hC 
  go_enter Try.func25, Try.ntmps25
  go_wp2_with (go_at_call 43; refine HC.out.mono ?_; rintro e w2 ⟨rfl, hB2⟩)
  go_ret2
  exact ⟨rfl, hB0.trans (hB2.below hB0.size (Nat.le_refl _))⟩
end Go.Proofs
