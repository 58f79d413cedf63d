/- Ranges over what may panic: what holds at every seat. -/
import Derived.Test.YtkddfihfilhhdaaGt
namespace Go.Proofs
set_option maxRecDepth 100000
open Go.RowKit Go.Shelf
attribute [local go_sem] Oper.semAt_some
section
variable {F : Fence} {n : Nat} {P : Program} {α : Type}
/-- What an iterator tells, to whatever never leaves the loop; or it panics behind some. -/
def TellsP (F : Fence) (n : Nat) (P : Program) (g : Nat) (lb : Array Value) (encs : α → Array Value) (Kp : World → World → Prop) (x : Nat) (S : List α → World → Prop) (ch : List PanicEntry) (Sp : List α → Prop) (Ok : List α → α → Prop) (w : World) : Prop :=
  ∀ (l : Nat) (J : List α → World → Prop) (W : World), Below w.heap.size w W → (∀ s X Y, J s X → But X.heap.size x X Y → J s Y) →
    (∀ pre y W1, J pre W1 → Ok pre y → YieldAt F (n - 1) P l (encs y) W1 fun e W' => e = .returned (.bool true) ∧ J (pre ++ [y]) W' ∧ KeepsFrom W.heap.size W1 W' ∧ Kp W1 W') →
    J [] W → CallsIn F n P g (#[.func (.yield l) #[] #[]] ++ lb) W fun e W' => ((∃ v, e = .returned v) ∧ ∃ xs, S xs W' ∧ J xs W') ∨ (e = .panicked ch ∧ ∃ pre, Sp pre ∧ J pre W')

/-- The statement, over an iterator that tells, where no round leaves the loop, or that panics. -/
theorem range_tellsP {g : Operand} {ps : Array Tmp} {asg body : Code} {Q : Exit → Act → World → Prop} {a : Act} {w : World}
    (hro : F.round = none) (h1 : 1 ≤ n) {gf : Nat} {lb : Array Value} (hg : a.eval g = .func (.func gf) #[] lb) (hF : F.fn gf) (eg : ∀ args w, (callFunc gf args).run P w = .ok (.enter gf args) w)
    {encs : α → Array Value} {Kp : World → World → Prop} {rb : Nat} {S : List α → World → Prop} {ch : List PanicEntry} {Sp : List α → Prop} {Ok : List α → α → Prop} {w0 : World} (hseq : TellsP F (n - 1) P gf lb encs Kp rb S ch Sp Ok w0)
    (hKt : ∀ {X Y Z : World}, Kp X Y → Kp Y Z → Kp X Z) (hKb : ∀ (W : World) (k : Nat) (o o' : Obj), w.heap.size ≤ k → W.heap[k]? = some o → o.isCells = false → o.isWalk = false → Kp W (W.putObj k o')) (hb0 : Below w0.heap.size w0 w) (hrb : rb < w.heap.size) (hSp : ∀ xs (W : World) (k : Nat) (o o' : Obj), S xs W → W.heap[k]? = some o → o.isCells = false → S xs (W.putObj k o')) (hps : ∀ x, (encs x).size = ps.size)
    (I : List α → World → Prop) (hI : OwnFrom w.heap.size I) (hIb : ∀ s X Y, I s X → But X.heap.size rb X Y → I s Y) (h0 : I [] w) (Ax : α → Act → World → Prop) (hAx : ∀ x a', OwnFrom w.heap.size (fun (_ : Unit) W => Ax x a' W))
    (hassign : ∀ (l : Nat) (pre : List α) (x : α) (W : World) (K : Act → World → Prop), I pre W → (∀ a' W', KeepsFrom w.heap.size W W' → Kp W W' → I pre W' → Ax x a' W' → K a' W') →
      asg.wpIn (F.inRound l) (n - 1 - 1) P (Exit.then K (fun _ _ _ => False)) { tmps := (ps.zip (encs x)).foldl (fun t (p, v) => t.setIfInBounds p v) a.tmps, defers := [] } W)
    (hbody : ∀ (l : Nat) (pre : List α) (x : α) (a' : Act) (W : World), I pre W → Ax x a' W → Ok pre x → body.wpIn (F.inRound l) (n - 1 - 1) P (ownPostG w.heap.size Kp I (fun _ _ _ => False) (pre ++ [x]) W) a' W)
    (hdone : ∀ (D : Nat) (xs : List α) (W : World), w.heap.size ≤ D → S xs W → I xs W → W.heap[D]? = some (.deferred (some [])) → Q .normal { a with defers := { target := .collected D, args := #[] } :: a.defers } W)
    (hpan : ∀ (D : Nat) (pre : List α) (W : World), w.heap.size ≤ D → Sp pre → I pre W → W.heap[D]? = some (.deferred (some [])) → Q (.panic ch) { a with defers := { target := .collected D, args := #[] } :: a.defers } W) :
    (Code.rangeFunc g ps asg body).wpIn F n P Q a w := by
  refine wpIn_rangeFunc fun fn hfn => ?_
  rw [hro]
  have hne : w.heap.size + 1 ≠ w.heap.size := by omega
  have hbk : Book (w.heap.size + 1) w.heap.size (recOf fn a.tmps ps asg body w.heap.size .ready none) ((w.alloc (.deferred (some []))).alloc (.loop (recOf fn a.tmps ps asg body w.heap.size .ready none))) := by
    constructor
    · have h := World.alloc_heap_new (w.alloc (.deferred (some []))) (.loop (recOf fn a.tmps ps asg body w.heap.size .ready none))
      rwa [World.size_alloc] at h
    · exact (Below.heap_alloc _ _ _ (by simp)).trans (World.alloc_heap_new w _)
  have hi1 : I [] ((w.alloc (.deferred (some []))).alloc (.loop (recOf fn a.tmps ps asg body w.heap.size .ready none))) := hI.alloc _ (hI.alloc _ h0)
  have hb1 : Below w0.heap.size w0 ((w.alloc (.deferred (some []))).alloc (.loop (recOf fn a.tmps ps asg body w.heap.size .ready none))) :=
    hb0.trans ((((Below.refl _ w).alloc (Nat.le_refl _) _).alloc (by simp) _).mono hb0.size)
  have hent := run_enterLoop_outer (P := P) (w := w) fn a.tmps ps asg body
  have hsz : ((w.alloc (.deferred (some []))).alloc (.loop (recOf fn a.tmps ps asg body w.heap.size .ready none))).heap.size = w.heap.size + 2 := by simp
  refine ⟨w.heap.size + 1, [{ target := .collected w.heap.size, args := #[] }], (w.alloc (.deferred (some []))).alloc (.loop (recOf fn a.tmps ps asg body w.heap.size .ready none)), { target := .fn (.func gf) lb, args := #[.func (.yield (w.heap.size + 1)) #[] #[]] }, (w.alloc (.deferred (some []))).alloc (.loop (recOf fn a.tmps ps asg body w.heap.size .ready none)), gf,
    #[.func (.yield (w.heap.size + 1)) #[] #[]] ++ lb, (w.alloc (.deferred (some []))).alloc (.loop (recOf fn a.tmps ps asg body w.heap.size .ready none)), hent, ?_, ?_, ?_, fun _ => h1, ?_⟩
  · simp only [resolve, hg]
    simp [go_sem]
  · intro f' hf'
    simp [Target.leads] at hf'
    subst hf'
    exact hF
  · simp [invoke, go_sem, eg]
  · generalize ((w.alloc (.deferred (some []))).alloc (.loop (recOf fn a.tmps ps asg body w.heap.size .ready none))) = W1 at *
    have abide : ∀ {X Y : World} {r : Loop}, But X.heap.size rb X Y → Book (w.heap.size + 1) w.heap.size r X → Book (w.heap.size + 1) w.heap.size r Y := by
      intro X Y r hXY hb
      exact ⟨(hXY.block _ (Array.getElem?_eq_some_iff.1 hb.1).1 (by omega)).trans hb.1, (hXY.block _ (Array.getElem?_eq_some_iff.1 hb.2).1 (by omega)).trans hb.2⟩
    refine (hseq (w.heap.size + 1) (fun pre W => I pre W ∧ Book (w.heap.size + 1) w.heap.size (recOf fn a.tmps ps asg body w.heap.size .ready none) W) W1 hb1
      (fun s X Y hs hXY => ⟨hIb s X Y hs.1 hXY, abide hXY hs.2⟩)
      (fun pre x W hJ hN => yield_mono (R' := fun e W' => e = .returned (.bool true) ∧ (I (pre ++ [x]) W' ∧ Book (w.heap.size + 1) w.heap.size (recOf fn a.tmps ps asg body w.heap.size .ready none) W') ∧ KeepsFrom W1.heap.size W W' ∧ Kp W W') (fun e W' h => h.elim id fun ⟨_, ⟨_, hc, _⟩, _⟩ => hc.elim) (one_roundD (Kp := Kp) (P := P) (m := n - 1 - 1) (B := w.heap.size) (l := w.heap.size + 1) (D := w.heap.size) (tmps := a.tmps) (ps := ps) (asg := asg) (body := body) (I := I) (Ix := fun _ _ _ => False) (Ax := Ax) (Ok := Ok) hfn (Nat.le_succ _) (Nat.le_refl _) hne hps hKt hKb (H := W1.heap.size) (by omega) hI (fun _ _ _ _ _ h _ _ => h) hAx (hassign (w.heap.size + 1)) (hbody (w.heap.size + 1)) pre x W hJ.1 hJ.2 hN)) ⟨hi1, hbk⟩).mono ?_
    rintro e W2 (⟨⟨v, rfl⟩, xs, hS, hi, hb⟩ | ⟨rfl, pre, hS, hi, hb⟩)
    · exact ⟨none, _, run_endLoop hb.1 (by simp [recOf]), hdone _ xs _ (Nat.le_refl _) (hSp _ _ _ _ _ hS hb.1 rfl) (hI.putObj _ hi (by omega) hb.1 rfl) ((World.putObj_heap_other (by omega)).trans hb.2)⟩
    · exact hpan _ pre _ (Nat.le_refl _) hS hi hb.2

end
end Go.Proofs
