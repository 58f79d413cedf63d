/- A region that draws its order, in the round of a loop over a function, by the plain walk that holds what is loaded. -/
import Derived.Test.YtkddfihfilhhdaaGa
import Derived.OrdersIn
import Derived.Deep.RegionHeld
namespace Go.Proofs

/-- A fence that bars nothing. -/
structure Free2 (F : Fence) : Prop where
  fn : ∀ f, F.fn f
  depth : F.depth.isSome = false
  calls : ∀ (P : Program) (f : FuncId) (args : Array Value) (w : World) (R : Ending → World → Prop) (n : Nat), Calls P f args w R → CallsIn F n P f args w R
  rows : ∀ (P : Program) (r : String) (args : Array Value) (w : World) (R : Value → World → Prop) (n : Nat), Rows P r args w R → RowsIn F n P r args w R
theorem free2_wide : Free2 Fence.wide := ⟨fun _ => trivial, rfl, fun _ _ _ _ _ _ h => callsIn_wide.2 h, fun _ _ _ _ _ _ h c cs _ => let ⟨v, w', r, s⟩ := h c cs; ⟨v, w', r, stepsIn_wide.2 s⟩⟩
theorem free2_round (l : Nat) : Free2 (Fence.wide.inRound l) := ⟨fun _ => trivial, rfl, fun _ _ _ _ _ _ h => CallsIn.inRound l (callsIn_wide.2 h), fun _ _ _ _ _ _ h c cs _ => let ⟨v, w', r, s⟩ := h c cs; ⟨v, w', r, stepsIn_wide.2 s⟩⟩
def noDefer2 (l : Array Oper) : Bool := l.all fun o => match o.op with | .defer _ => false | _ => true
theorem noDefer2_spec {l : Array Oper} (h : noDefer2 l = true) {i : Nat} {o : Oper} (ho : l[i]? = some o) : ∀ c, o.op ≠ .defer c := by
  intro c e
  have := (Array.all_eq_true_iff_forall_mem.1 h) o (Array.mem_of_getElem? ho)
  simp [e] at this

section
variable {P : Program} {F : Fence} {n : Nat} {md : Region.Mode} {Q : Exit → Act → World → Prop}
theorem oper_wpIn_of_wp (hF : Free2 F) {o : Oper} {a : Act} {w : World} {K K' : Act → World → Prop} (hd : ∀ c, o.op ≠ .defer c) (h : ∀ a w, K a w → K' a w) (hh : o.wp P a w K Q) : o.wpIn F n P a w K' Q := by
  unfold Oper.wp at hh
  unfold Oper.wpIn
  refine ⟨fun f _ => hF.fn f, ?_⟩
  rw [Oper.semAt_eq _ _ _ hd]
  generalize (execOp a.eval o).run P w = r at *
  cases r with
  | ok x w' =>
    cases x <;> simp only [Oper.upon] at hh <;> simp only [Oper.uponIn]
    case enter f args =>
      refine ⟨fun e => (by rw [hF.depth] at e; cases e), (hF.calls _ _ _ _ _ _ hh).mono fun e w'' he => ?_⟩
      cases e <;> first | exact h _ _ he | exact he
    case row r args =>
      exact ⟨fun e => (by rw [hF.depth] at e; cases e), hF.rows _ _ _ _ _ _ (hh.mono fun v w'' he => h _ _ he)⟩
    all_goals first | exact h _ _ hh | exact hh.elim
  | halt x w' =>
    cases x <;> simp only [Oper.upon] at hh <;> simp only [Oper.uponIn] <;> first | exact hh | exact hh.elim

theorem wpOpIn_of_wpOp (hF : Free2 F) (hQ : ¬ LetsOut Q) {l : Array Oper} (hnd : noDefer2 l = true) {i : Nat} {a : Act} {w : World} {K K' : Act → World → Prop} (h : ∀ a w, K a w → K' a w) (hh : wpOp P l Q i K a w) : wpOpIn F n P l Q i K' a w := by
  unfold wpOp at hh
  unfold wpOpIn
  split
  · rename_i ho; simp only [ho] at hh; exact h _ _ hh
  · rename_i o ho
    simp only [ho] at hh
    split
    · rename_i hw
      simp only [hw, if_true] at hh
      exact oper_wpIn_of_wp hF (noDefer2_spec hnd ho) h (hh.resolve_right fun h2 => hQ h2.2)
    · rename_i hw; simp only [hw] at hh; exact ⟨fun f _ => hF.fn f, h _ _ hh⟩
theorem wpAnyIn_of_wpAny (hF : Free2 F) (hQ : ¬ LetsOut Q) {l : Array Oper} (hnd : noDefer2 l = true) : ∀ (fuel : Nat) (listed : Array Bool) (a : Act) (w : World), wpAny P md l Q fuel listed a w → wpAnyIn F n P md l Q fuel listed a w
  | 0, _, _, _, h => h
  | fuel + 1, _, _, _, h => ⟨h.1, fun i hi => wpOpIn_of_wpOp hF hQ hnd (fun a' w' h' => wpAnyIn_of_wpAny hF hQ hnd fuel _ a' w' h') (h.2 i hi)⟩
/-- The beginning: S is shown of the world behind the draw, once, and handed on. -/
theorem wpIn_region_held (hF : Free2 F) {S : World → Prop} {id : Nat} {ops : Array Oper} {a : Act} {w : World} (hQ : ¬ LetsOut Q) (hm : P.follows .mixedOrders = true) (hnd : noDefer2 ops = true) (hS : S w.drew)
    (h : S w.drew → wpAnyH P .any ops Q S ops.size (Array.replicate ops.size false) a w.drew) : (Code.region id ops true).wpIn F n P Q a w :=
  wpIn_region_any hm (wpAnyIn_of_wpAny hF hQ hnd _ _ _ _ (wpAny_of_held _ _ _ _ (h hS)))
end
end Go.Proofs
