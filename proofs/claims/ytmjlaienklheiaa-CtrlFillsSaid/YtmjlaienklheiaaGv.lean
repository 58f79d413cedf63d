/- Ranges over functions whose rounds may leave, or panic: what holds at every seat. -/
import Derived.Test.YtmjlaienklheiaaGt
namespace Go.Proofs
set_option maxRecDepth 100000
open Go.RowKit Go.Shelf
attribute [local go_sem] Oper.semAt_some

/-- All cells are as they were, but those of blocks of these types. -/
structure Kq (T : TypeId → Bool) (A B : World) : Prop where
  size : A.heap.size ≤ B.heap.size
  same : ∀ (k : Nat) (cs : Array Value) (t : TypeId) (fr : Nat × Nat), A.heap[k]? = some (.cells cs t fr) → T t = false → B.heap[k]? = some (.cells cs t fr)
theorem Kq.refl (T : TypeId → Bool) (A : World) : Kq T A A := ⟨Nat.le_refl _, fun _ _ _ _ h _ => h⟩
theorem Kq.trans {T : TypeId → Bool} {A B C : World} (p : Kq T A B) (q : Kq T B C) : Kq T A C := ⟨Nat.le_trans p.size q.size, fun k cs t fr hk hh => q.same k cs t fr (p.same k cs t fr hk hh) hh⟩
theorem Kq.rows {T : TypeId → Bool} {A B : World} (p : Kq T A B) {k : Nat} {t : TypeId} {cs : Array Value} (r : Rows8 A k t cs) (h1 : T t = false) : Rows8 B k t cs := p.same k cs t (0, 0) r h1
theorem Kq.of_below {T : TypeId → Bool} {A B : World} (p : Below A.heap.size A B) : Kq T A B := ⟨p.size, fun k _ _ _ hk _ => (p.block k (Array.getElem?_eq_some_iff.1 hk).1).trans hk⟩
theorem Kq.alloc {T : TypeId → Bool} (A : World) (o : Obj) : Kq T A (A.alloc o) := .of_below ((Below.refl _ A).alloc (Nat.le_refl _) o)
theorem Kq.set {T : TypeId → Bool} {A B : World} (p : Kq T A B) {a : Addr} {t : TypeId} {cs : Array Value} (r : Rows8 B a.block t cs) (h1 : T t = true) (v : Value) : Kq T A (B.setCell a v) := by
  refine ⟨Nat.le_trans p.size (by simp [World.setCell]), fun k cs' t' fr hk hh => ?_⟩
  have hq := p.same k cs' t' fr hk hh
  have hne : k ≠ a.block := fun e => by
    subst e
    rw [show B.heap[a.block]? = _ from r] at hq
    injection hq with hq
    injection hq with _ e2 _
    subst e2
    rw [h1] at hh
    cases hh
  exact (Below.heap_setCell _ _ _ _ hne).trans hq
theorem Kq.grown {T : TypeId → Bool} {A B C : World} (p : Kq T A B) {n₀ k n : Nat} {t : TypeId} {v : Value} {cs : List Value} (ht : T t = true) (o : B.ownsRow n₀ t k v n cs) (hg : B.grownBy C v.ownBlock) : Kq T A C := by
  refine ⟨Nat.le_trans p.size hg.size, fun j cs' t' fr hk hh => ?_⟩
  have hq := p.same j cs' t' fr hk hh
  refine (hg.block j (Array.getElem?_eq_some_iff.1 hq).1 fun e => ?_).trans hq
  rcases o.2 with ⟨rfl, _⟩ | ⟨g, cap, cur, rfl, _, hh2, _⟩
  · simp [Value.ownBlock] at e
  · obtain rfl : j = g := by simpa [Value.ownBlock] using e
    rw [hq] at hh2
    injection hh2 with h1
    injection h1 with _ h2 _
    subst h2
    rw [ht] at hh
    cases hh
theorem kq_t {T : TypeId → Bool} {A B C : World} (p : Kq T A B) (q : Kq T B C) : Kq T A C := p.trans q
theorem kq_b {T : TypeId → Bool} {B : Nat} (W : World) (l : Nat) (o o' : Obj) (_ : B ≤ l) (hh : W.heap[l]? = some o) (hc : o.isCells = false) (_ : o.isWalk = false) : Kq T W (W.putObj l o') := by
  refine ⟨by simp [World.putObj], fun k cs t fr hk _ => ?_⟩
  have hne : l ≠ k := fun e => by
    subst e
    rw [hk] at hh
    injection hh with hh
    subst hh
    cases hc
  exact (World.putObj_heap_other (fun e => hne e.symm)).trans hk

section
variable {F : Fence} {n : Nat} {P : Program} {α : Type}

/-- What an iterator tells, to whatever asks it, goes on, leaves the loop, or panics. -/
def TellsX (F : Fence) (n : Nat) (P : Program) (g : Nat) (lb : Array Value) (encs : α → Array Value) (Kp : World → World → Prop) (S : List α → Prop) (Ok : List α → α → Prop) (w : World) : Prop :=
  ∀ (l : Nat) (J Jx : List α → World → Prop) (Jp : List α × List PanicEntry → World → Prop) (W : World), Below w.heap.size w W → OwnFrom W.heap.size J → OwnFrom W.heap.size Jx → OwnFrom W.heap.size Jp →
    (∀ pre x W1, J pre W1 → Ok pre x → YieldAt F (n - 1) P l (encs x) W1 fun e W' =>
      (e = .returned (.bool true) ∧ J (pre ++ [x]) W' ∧ KeepsFrom W.heap.size W1 W' ∧ Kp W1 W') ∨ (e = .returned (.bool false) ∧ Jx (pre ++ [x]) W' ∧ KeepsFrom W.heap.size W1 W') ∨
      (∃ ch, e = .panicked ch ∧ Jp (pre ++ [x], ch) W' ∧ KeepsFrom W.heap.size W1 W')) →
    J [] W → CallsIn F n P g (#[.func (.yield l) #[] #[]] ++ lb) W fun e W' => ((∃ v, e = .returned v) ∧ ((∃ xs, S xs ∧ J xs W') ∨ (∃ pre, Jx pre W'))) ∨ (∃ pre ch, e = .panicked ch ∧ Jp (pre, ch) W')

theorem ownFrom_book {β : Type} {l D H : Nat} {r : Loop} (hl : l < H) (hD : D < H) : OwnFrom H (fun (_ : β) W => Book l D r W) := fun _ X Y row hb hg hr =>
  ⟨(hg.block l (Array.getElem?_eq_some_iff.1 hb.1).1 (fun e => by have := (hr l e.symm).1; omega)).trans hb.1, (hg.block D (Array.getElem?_eq_some_iff.1 hb.2).1 (fun e => by have := (hr D e.symm).1; omega)).trans hb.2⟩
theorem ownFrom_ex {β γ : Type} {H : Nat} {I : γ → β → World → Prop} (h : ∀ c, OwnFrom H (I c)) : OwnFrom H (fun s W => ∃ c, I c s W) := fun s X Y row ⟨c, hs⟩ hg hr => ⟨c, h c s X Y row hs hg hr⟩

/-- The statement, over an iterator that tells, where no round panics. -/
theorem range_tellsX {g : Operand} {ps : Array Tmp} {asg body : Code} {Q : Exit → Act → World → Prop} {a : Act} {w : World}
    (hro : F.round = none) (h1 : 1 ≤ n) {gf : Nat} {lb : Array Value} (hg : a.eval g = .func (.func gf) #[] lb) (hF : F.fn gf) (eg : ∀ args w, (callFunc gf args).run P w = .ok (.enter gf args) w)
    {encs : α → Array Value} {Kp : World → World → Prop} {S : List α → Prop} {Ok : List α → α → Prop} {w0 : World} (hseq : TellsX F (n - 1) P gf lb encs Kp S Ok w0)
    (hKt : ∀ {X Y Z : World}, Kp X Y → Kp Y Z → Kp X Z) (hKb : ∀ (W : World) (k : Nat) (o o' : Obj), w.heap.size ≤ k → W.heap[k]? = some o → o.isCells = false → o.isWalk = false → Kp W (W.putObj k o')) (hb0 : Below w0.heap.size w0 w) (hps : ∀ x, (encs x).size = ps.size)
    (I : List α → World → Prop) (Ix : Code → List α → World → Prop) (hI : OwnFrom w.heap.size I) (hIx : ∀ c, OwnFrom w.heap.size (Ix c)) (h0 : I [] w) (Ax : α → Act → World → Prop) (hAx : ∀ x a', OwnFrom w.heap.size (fun (_ : Unit) W => Ax x a' W))
    (hassign : ∀ (l : Nat) (pre : List α) (x : α) (W : World) (K : Act → World → Prop), I pre W → (∀ a' W', KeepsFrom w.heap.size W W' → Kp W W' → I pre W' → Ax x a' W' → K a' W') →
      asg.wpIn (F.inRound l) (n - 1 - 1) P (Exit.then K (fun _ _ _ => False)) { tmps := (ps.zip (encs x)).foldl (fun t (p, v) => t.setIfInBounds p v) a.tmps, defers := [] } W)
    (hbody : ∀ (l : Nat) (pre : List α) (x : α) (a' : Act) (W : World), I pre W → Ax x a' W → Ok pre x → body.wpIn (F.inRound l) (n - 1 - 1) P (ownPostG w.heap.size Kp I Ix (pre ++ [x]) W) a' W)
    (hdone : ∀ (D : Nat) (xs : List α) (W : World), w.heap.size ≤ D → S xs → I xs W → W.heap[D]? = some (.deferred (some [])) → Q .normal { a with defers := { target := .collected D, args := #[] } :: a.defers } W)
    (hstop : ∀ (D : Nat) (c : Code) (pre : List α) (W : World), w.heap.size ≤ D → Ix c pre W → W.heap[D]? = some (.deferred (some [])) → c.wpIn F n P Q { a with defers := { target := .collected D, args := #[] } :: a.defers } W) :
    (Code.rangeFunc g ps asg body).wpIn F n P Q a w := by
  refine wpIn_rangeFunc fun fn hfn => ?_
  rw [hro]
  have hne : w.heap.size + 1 ≠ w.heap.size := by omega
  have hbk : Book (w.heap.size + 1) w.heap.size (recOf fn a.tmps ps asg body w.heap.size .ready none) ((w.alloc (.deferred (some []))).alloc (.loop (recOf fn a.tmps ps asg body w.heap.size .ready none))) := by
    constructor
    · have h := World.alloc_heap_new (w.alloc (.deferred (some []))) (.loop (recOf fn a.tmps ps asg body w.heap.size .ready none))
      rwa [World.size_alloc] at h
    · exact (Below.heap_alloc _ _ _ (by simp)).trans (World.alloc_heap_new w _)
  have hi1 : I [] ((w.alloc (.deferred (some []))).alloc (.loop (recOf fn a.tmps ps asg body w.heap.size .ready none))) := hI.alloc _ (hI.alloc _ h0)
  have hb1 : Below w0.heap.size w0 ((w.alloc (.deferred (some []))).alloc (.loop (recOf fn a.tmps ps asg body w.heap.size .ready none))) :=
    hb0.trans ((((Below.refl _ w).alloc (Nat.le_refl _) _).alloc (by simp) _).mono hb0.size)
  have hent := run_enterLoop_outer (P := P) (w := w) fn a.tmps ps asg body
  have hsz : ((w.alloc (.deferred (some []))).alloc (.loop (recOf fn a.tmps ps asg body w.heap.size .ready none))).heap.size = w.heap.size + 2 := by simp
  refine ⟨w.heap.size + 1, [{ target := .collected w.heap.size, args := #[] }], (w.alloc (.deferred (some []))).alloc (.loop (recOf fn a.tmps ps asg body w.heap.size .ready none)), { target := .fn (.func gf) lb, args := #[.func (.yield (w.heap.size + 1)) #[] #[]] }, (w.alloc (.deferred (some []))).alloc (.loop (recOf fn a.tmps ps asg body w.heap.size .ready none)), gf,
    #[.func (.yield (w.heap.size + 1)) #[] #[]] ++ lb, (w.alloc (.deferred (some []))).alloc (.loop (recOf fn a.tmps ps asg body w.heap.size .ready none)), hent, ?_, ?_, ?_, fun _ => h1, ?_⟩
  · simp only [resolve, hg]
    simp [go_sem]
  · intro f' hf'
    simp [Target.leads] at hf'
    subst hf'
    exact hF
  · simp [invoke, go_sem, eg]
  · generalize ((w.alloc (.deferred (some []))).alloc (.loop (recOf fn a.tmps ps asg body w.heap.size .ready none))) = W1 at *
    have hlW : w.heap.size + 1 < W1.heap.size := by omega
    have hDW : w.heap.size < W1.heap.size := by omega
    refine (hseq (w.heap.size + 1) (fun pre W => I pre W ∧ Book (w.heap.size + 1) w.heap.size (recOf fn a.tmps ps asg body w.heap.size .ready none) W)
      (fun pre W => ∃ c, Ix c pre W ∧ Book (w.heap.size + 1) w.heap.size (recOf fn a.tmps ps asg body w.heap.size .done (some c)) W) (fun _ _ => False) W1 hb1
      (OwnFrom.and (ownFrom_mono hI (by omega)) (ownFrom_book hlW hDW))
      (ownFrom_ex fun c => OwnFrom.and (ownFrom_mono (hIx c) (by omega)) (ownFrom_book hlW hDW))
      (fun _ _ _ _ h _ _ => h)
      (fun pre x W hJ hN => yield_mono (fun e W' h => h.elim .inl fun h => .inr (.inl h)) (one_roundD (Kp := Kp) (P := P) (m := n - 1 - 1) (B := w.heap.size) (l := w.heap.size + 1) (D := w.heap.size) (tmps := a.tmps) (ps := ps) (asg := asg) (body := body) (I := I) (Ix := Ix) (Ax := Ax) (Ok := Ok) hfn (Nat.le_succ _) (Nat.le_refl _) hne hps hKt hKb (H := W1.heap.size) (by omega) hI hIx hAx (hassign (w.heap.size + 1)) (hbody (w.heap.size + 1)) pre x W hJ.1 hJ.2 hN)) ⟨hi1, hbk⟩).mono ?_
    rintro e W2 (⟨⟨v, rfl⟩, (⟨xs, hS, hi, hb⟩ | ⟨pre, c, hi, hb⟩)⟩ | ⟨_, _, _, h⟩)
    · exact ⟨none, _, run_endLoop hb.1 (by simp [recOf]), hdone _ xs _ (Nat.le_refl _) hS (hI.putObj _ hi (by omega) hb.1 rfl) ((World.putObj_heap_other (by omega)).trans hb.2)⟩
    · exact ⟨some c, _, run_endLoop hb.1 (by simp [recOf]), hstop _ c pre _ (Nat.le_refl _) ((hIx c).putObj _ hi (by omega) hb.1 rfl) ((World.putObj_heap_other (by omega)).trans hb.2)⟩
    · exact h.elim

end
end Go.Proofs
