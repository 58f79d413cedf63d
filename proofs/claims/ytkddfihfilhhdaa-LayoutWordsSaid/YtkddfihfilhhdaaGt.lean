/- Ranges over what rounds may append to: what holds at every seat. -/
import Derived.Test.YtkddfihfilhhdaaGa
namespace Go.Proofs
set_option maxRecDepth 100000
open Go.RowKit Go.Shelf
attribute [local go_sem] Oper.semAt_some

/-- All cells are as they were, but those of two types that lie from h on. -/
structure Kt (h : Nat) (t1 t2 : TypeId) (A B : World) : Prop where
  size : A.heap.size ≤ B.heap.size
  same : ∀ (k : Nat) (cs : Array Value) (t : TypeId) (fr : Nat × Nat), A.heap[k]? = some (Obj.cells cs t fr) → (k < h ∨ (t ≠ t1 ∧ t ≠ t2)) → B.heap[k]? = some (Obj.cells cs t fr)
theorem Kt.refl (h : Nat) (t1 t2 : TypeId) (A : World) : Kt h t1 t2 A A := ⟨Nat.le_refl _, fun _ _ _ _ h _ => h⟩
theorem Kt.trans {h : Nat} {t1 t2 : TypeId} {A B C : World} (p : Kt h t1 t2 A B) (q : Kt h t1 t2 B C) : Kt h t1 t2 A C := ⟨Nat.le_trans p.size q.size, fun k cs t fr hk hh => q.same k cs t fr (p.same k cs t fr hk hh) hh⟩
theorem Kt.rows {h : Nat} {t1 t2 : TypeId} {A B : World} (p : Kt h t1 t2 A B) {k : Nat} {t : TypeId} {cs : Array Value} (r : Rows8 A k t cs) (h1 : t ≠ t1) (h2 : t ≠ t2) : Rows8 B k t cs := p.same k cs t (0, 0) r (.inr ⟨h1, h2⟩)
theorem Kt.of_below {h : Nat} {t1 t2 : TypeId} {A B : World} (p : Below A.heap.size A B) : Kt h t1 t2 A B := ⟨p.size, fun k _ _ _ hk _ => (p.block k (Array.getElem?_eq_some_iff.1 hk).1).trans hk⟩
theorem Kt.alloc {h : Nat} {t1 t2 : TypeId} (A : World) (o : Obj) : Kt h t1 t2 A (A.alloc o) := .of_below ((Below.refl _ A).alloc (Nat.le_refl _) o)
theorem Kt.cell {h : Nat} {t1 t2 : TypeId} {A B : World} (p : Kt h t1 t2 A B) {a : Addr} {v : Value} (hb : a.block < h) (hc : A.cell? a = some v) : B.cell? a = some v := by
  cases ho : A.heap[a.block]? with
  | none => simp [World.cell?, ho] at hc
  | some o =>
    cases o with
    | cells cs t fr =>
      have h2 := p.same a.block cs t fr ho (.inl hb)
      rw [World.cell?_of_block (w := A) (h2.trans ho.symm)]
      exact hc
    | _ => simp [World.cell?, ho] at hc
theorem Kt.set {h : Nat} {t1 t2 : TypeId} {A B : World} (p : Kt h t1 t2 A B) {a : Addr} {t : TypeId} {cs : Array Value} (r : Rows8 B a.block t cs) (h0 : h ≤ a.block) (h1 : t = t1 ∨ t = t2) (v : Value) : Kt h t1 t2 A (B.setCell a v) :=
  p.trans ⟨by simp [World.setCell], fun k cs' t' fr hk hh => by
    have hne : a.block ≠ k := fun e => by
      subst e
      rw [show B.heap[a.block]? = _ from r] at hk
      injection hk with hk
      injection hk with _ hk _
      rcases hh with hh | ⟨e1, e2⟩
      · omega
      · rcases h1 with h1 | h1
        · exact e1 (hk ▸ h1)
        · exact e2 (hk ▸ h1)
    show (B.heap.modify a.block _)[k]? = _
    rw [Array.getElem?_modify, if_neg hne]
    exact hk⟩
theorem Kt.grown {h : Nat} {t1 t2 : TypeId} {A B C : World} (p : Kt h t1 t2 A B) {n₀ k n : Nat} {v : Value} {cs : List Value} (hn : h ≤ n₀) (o : B.ownsRow n₀ t2 k v n cs) (hg : B.grownBy C v.ownBlock) : Kt h t1 t2 A C :=
  p.trans ⟨hg.size, fun q cs' t' fr hk hh => (hg.block q (Array.getElem?_eq_some_iff.1 hk).1 (fun e => by
    rcases o.2 with ⟨rfl, _⟩ | ⟨g, cap, cur, rfl, hb, hc, _⟩
    · simp [Value.ownBlock] at e
    · obtain rfl : q = g := by simpa [Value.ownBlock] using e
      rcases hh with hh | ⟨_, e2⟩
      · omega
      · rw [hc] at hk
        injection hk with hk
        injection hk with _ hk _
        exact e2 hk.symm)).trans hk⟩
theorem kt_b {h : Nat} {t1 t2 : TypeId} {B : Nat} (W : World) (l : Nat) (o o' : Obj) (_ : B ≤ l) (hh : W.heap[l]? = some o) (hc : o.isCells = false) (_ : o.isWalk = false) : Kt h t1 t2 W (W.putObj l o') := by
  refine ⟨by simp [World.putObj], fun k cs t fr hk _ => ?_⟩
  have hne : l ≠ k := fun e => by
    subst e
    rw [hk] at hh
    injection hh with hh
    subst hh
    cases hc
  exact (World.putObj_heap_other (fun e => hne e.symm)).trans hk
theorem keepsFrom_below {B : Nat} {W W' : World} (p : Below W.heap.size W W') : KeepsFrom B W W' := ⟨p.size, fun k _ _ ho _ => (p.block k (Array.getElem?_eq_some_iff.1 ho).1).trans ho⟩
theorem kt_t {h : Nat} {t1 t2 : TypeId} {A B C : World} (p : Kt h t1 t2 A B) (q : Kt h t1 t2 B C) : Kt h t1 t2 A C := p.trans q

section
variable {F : Fence} {n : Nat} {P : Program} {α : Type}
/-- What an iterator tells, to whatever asks it while abiding the turn of records that are laid later. -/
def TellsD (F : Fence) (n : Nat) (P : Program) (g : Nat) (lb : Array Value) (encs : α → Array Value) (Kp : World → World → Prop) (S Sp : List α → Prop) (Ok : List α → α → Prop) (w : World) : Prop :=
  ∀ (l : Nat) (J Jx : List α → World → Prop) (W : World), Below w.heap.size w W → (∀ s X Y, J s X → Below X.heap.size X Y → J s Y) → (∀ s X Y, Jx s X → Below X.heap.size X Y → Jx s Y) →
    (∀ pre x W1, J pre W1 → Ok pre x → YieldAt F (n - 1) P l (encs x) W1 fun e W' =>
      (e = .returned (.bool true) ∧ J (pre ++ [x]) W' ∧ KeepsFrom W.heap.size W1 W' ∧ Kp W1 W') ∨ (e = .returned (.bool false) ∧ Jx (pre ++ [x]) W' ∧ KeepsFrom W.heap.size W1 W')) →
    J [] W → CallsIn F n P g (#[.func (.yield l) #[] #[]] ++ lb) W fun e W' => (∃ v, e = .returned v) ∧ ((∃ xs, S xs ∧ J xs W') ∨ (∃ pre, Sp pre ∧ Jx pre W'))

/-- One round, told by its body's walk. -/
theorem one_roundD {fn : FuncId} (hfn : F.fn fn) {m B l D : Nat} (hl : B ≤ l) (hD : B ≤ D) (hne : l ≠ D) {tmps : Array Value} {ps : Array Tmp} {asg body : Code} {encs : α → Array Value} (hps : ∀ x, (encs x).size = ps.size) {Kp : World → World → Prop}
    (hKt : ∀ {X Y Z : World}, Kp X Y → Kp Y Z → Kp X Z) (hKb : ∀ (W : World) (k : Nat) (o o' : Obj), B ≤ k → W.heap[k]? = some o → o.isCells = false → o.isWalk = false → Kp W (W.putObj k o')) {H : Nat} (hH : l < H)
    {I : List α → World → Prop} {Ix : Code → List α → World → Prop} (hI : OwnFrom B I) (hIx : ∀ c, OwnFrom B (Ix c)) {Ax : α → Act → World → Prop} (hAx : ∀ x a', OwnFrom B (fun (_ : Unit) W => Ax x a' W)) {Ok : List α → α → Prop}
    (hassign : ∀ (pre : List α) (x : α) (W : World) (K : Act → World → Prop), I pre W → (∀ a' W', KeepsFrom B W W' → Kp W W' → I pre W' → Ax x a' W' → K a' W') →
      asg.wpIn (F.inRound l) m P (Exit.then K (fun _ _ _ => False)) { tmps := (ps.zip (encs x)).foldl (fun t (p, v) => t.setIfInBounds p v) tmps, defers := [] } W)
    (hbody : ∀ (pre : List α) (x : α) (a' : Act) (W : World), I pre W → Ax x a' W → Ok pre x → body.wpIn (F.inRound l) m P (ownPostG B Kp I Ix (pre ++ [x]) W) a' W)
    (pre : List α) (x : α) (W : World) (hi : I pre W) (hb : Book l D (recOf fn tmps ps asg body D .ready none) W) (hN : Ok pre x) :
    YieldAt F m P l (encs x) W fun e W' =>
      (e = .returned (.bool true) ∧ (I (pre ++ [x]) W' ∧ Book l D (recOf fn tmps ps asg body D .ready none) W') ∧ KeepsFrom H W W' ∧ Kp W W') ∨
      (e = .returned (.bool false) ∧ (∃ c, Ix c (pre ++ [x]) W' ∧ Book l D (recOf fn tmps ps asg body D .done (some c)) W') ∧ KeepsFrom H W W') := by
  refine ⟨fn, _, asg, body, run_yield hb.1 (hps x), roundIn_of_wpIn hfn (hassign pre x W _ hi ?_)⟩
  intro a' Wa k1 p1 hia hax
  have hba := hb.keep k1 hl hD
  refine ⟨_, run_beginRound hba.1 rfl, ?_⟩
  have hbb := hba.turn (r' := recOf fn tmps ps asg body D .busy none) hne
  have p2 := hKb Wa l _ (.loop (recOf fn tmps ps asg body D .busy none)) hl hba.1 rfl rfl
  have hib := hI.putObj (.loop (recOf fn tmps ps asg body D .busy none)) hia hl hba.1 rfl
  have hxb := (hAx x a').putObj (s := ()) (.loop (recOf fn tmps ps asg body D .busy none)) hax hl hba.1 rfl
  refine wpIn_mono (hbody pre x a' _ hib hxb hN) ?_
  have out : ∀ (c : Code) (W3 : World), KeepsFrom B (Wa.putObj l (.loop (recOf fn tmps ps asg body D .busy none))) W3 → Ix c (pre ++ [x]) W3 →
      ∃ v w', (Instr.endRound l (some c)).run P W3 = .ok v w' ∧ v = .bool false ∧ Ix c (pre ++ [x]) w' ∧ Book l D (recOf fn tmps ps asg body D .done (some c)) w' ∧ KeepsFrom H W w' := fun c W3 k3 hx => by
    have hb3 := hbb.keep k3 hl hD
    exact ⟨_, _, run_endRound (some c) hb3.1, rfl, (hIx c).putObj _ hx hl hb3.1 rfl, hb3.turn hne, keepsFrom_trans' (keepsFrom_mono k1 (by omega)) (keepsFrom_trans' (keepsFrom_put _ _ hH) (keepsFrom_trans' (keepsFrom_mono k3 (by omega)) (keepsFrom_put _ _ hH)))⟩
  rintro e a3 W3 hp
  cases e with
  | normal =>
    obtain ⟨k3, p3, hi3⟩ := hp
    have hb3 := hbb.keep k3 hl hD
    exact ⟨_, _, run_endRound none hb3.1, .inl ⟨rfl, ⟨hI.putObj _ hi3 hl hb3.1 rfl, hb3.turn hne⟩, keepsFrom_trans' (keepsFrom_mono k1 (by omega)) (keepsFrom_trans' (keepsFrom_put _ _ hH) (keepsFrom_trans' (keepsFrom_mono k3 (by omega)) (keepsFrom_put _ _ hH))), hKt p1 (hKt (hKt p2 p3) (hKb _ _ _ _ hl hb3.1 rfl rfl))⟩⟩
  | ret =>
    obtain ⟨v, w', h1, h2, h3, h4, h5⟩ := out .ret W3 hp.1 hp.2
    exact ⟨v, w', h1, .inr ⟨by rw [h2], ⟨_, h3, h4⟩, h5⟩⟩
  | exit id =>
    obtain ⟨v, w', h1, h2, h3, h4, h5⟩ := out (.exit id) W3 hp.1 hp.2
    exact ⟨v, w', h1, .inr ⟨by rw [h2], ⟨_, h3, h4⟩, h5⟩⟩
  | goto t =>
    obtain ⟨v, w', h1, h2, h3, h4, h5⟩ := out (.goto t) W3 hp.1 hp.2
    exact ⟨v, w', h1, .inr ⟨by rw [h2], ⟨_, h3, h4⟩, h5⟩⟩
  | panic ch => exact hp.elim
  | outgrown => exact hp.elim

/-- The statement, over an iterator that tells. -/
theorem range_tellsD {g : Operand} {ps : Array Tmp} {asg body : Code} {Q : Exit → Act → World → Prop} {a : Act} {w : World}
    (hro : F.round = none) (h1 : 1 ≤ n) {gf : Nat} {lb : Array Value} (hg : a.eval g = .func (.func gf) #[] lb) (hF : F.fn gf) (eg : ∀ args w, (callFunc gf args).run P w = .ok (.enter gf args) w)
    {encs : α → Array Value} {Kp : World → World → Prop} {S Sp : List α → Prop} {Ok : List α → α → Prop} {w0 : World} (hseq : TellsD F (n - 1) P gf lb encs Kp S Sp Ok w0)
    (hKt : ∀ {X Y Z : World}, Kp X Y → Kp Y Z → Kp X Z) (hKb : ∀ (W : World) (k : Nat) (o o' : Obj), w.heap.size ≤ k → W.heap[k]? = some o → o.isCells = false → o.isWalk = false → Kp W (W.putObj k o')) (hb0 : Below w0.heap.size w0 w) (hps : ∀ x, (encs x).size = ps.size)
    (I : List α → World → Prop) (Ix : Code → List α → World → Prop) (hI : OwnFrom w.heap.size I) (hIx : ∀ c, OwnFrom w.heap.size (Ix c)) (hIb : ∀ s X Y, I s X → Below X.heap.size X Y → I s Y) (hIxb : ∀ c s X Y, Ix c s X → Below X.heap.size X Y → Ix c s Y) (h0 : I [] w) (Ax : α → Act → World → Prop) (hAx : ∀ x a', OwnFrom w.heap.size (fun (_ : Unit) W => Ax x a' W))
    (hassign : ∀ (l : Nat) (pre : List α) (x : α) (W : World) (K : Act → World → Prop), I pre W → (∀ a' W', KeepsFrom w.heap.size W W' → Kp W W' → I pre W' → Ax x a' W' → K a' W') →
      asg.wpIn (F.inRound l) (n - 1 - 1) P (Exit.then K (fun _ _ _ => False)) { tmps := (ps.zip (encs x)).foldl (fun t (p, v) => t.setIfInBounds p v) a.tmps, defers := [] } W)
    (hbody : ∀ (l : Nat) (pre : List α) (x : α) (a' : Act) (W : World), I pre W → Ax x a' W → Ok pre x → body.wpIn (F.inRound l) (n - 1 - 1) P (ownPostG w.heap.size Kp I Ix (pre ++ [x]) W) a' W)
    (hdone : ∀ (D : Nat) (xs : List α) (W : World), w.heap.size ≤ D → S xs → I xs W → W.heap[D]? = some (.deferred (some [])) → Q .normal { a with defers := { target := .collected D, args := #[] } :: a.defers } W)
    (hstop : ∀ (D : Nat) (c : Code) (pre : List α) (W : World), w.heap.size ≤ D → Sp pre → Ix c pre W → W.heap[D]? = some (.deferred (some [])) → c.wpIn F n P Q { a with defers := { target := .collected D, args := #[] } :: a.defers } W) :
    (Code.rangeFunc g ps asg body).wpIn F n P Q a w := by
  refine wpIn_rangeFunc fun fn hfn => ?_
  rw [hro]
  have hne : w.heap.size + 1 ≠ w.heap.size := by omega
  have hbk : Book (w.heap.size + 1) w.heap.size (recOf fn a.tmps ps asg body w.heap.size .ready none) ((w.alloc (.deferred (some []))).alloc (.loop (recOf fn a.tmps ps asg body w.heap.size .ready none))) := by
    constructor
    · have h := World.alloc_heap_new (w.alloc (.deferred (some []))) (.loop (recOf fn a.tmps ps asg body w.heap.size .ready none))
      rwa [World.size_alloc] at h
    · exact (Below.heap_alloc _ _ _ (by simp)).trans (World.alloc_heap_new w _)
  have hi1 : I [] ((w.alloc (.deferred (some []))).alloc (.loop (recOf fn a.tmps ps asg body w.heap.size .ready none))) := hI.alloc _ (hI.alloc _ h0)
  have hb1 : Below w0.heap.size w0 ((w.alloc (.deferred (some []))).alloc (.loop (recOf fn a.tmps ps asg body w.heap.size .ready none))) :=
    hb0.trans ((((Below.refl _ w).alloc (Nat.le_refl _) _).alloc (by simp) _).mono hb0.size)
  have hent := run_enterLoop_outer (P := P) (w := w) fn a.tmps ps asg body
  have hsz : ((w.alloc (.deferred (some []))).alloc (.loop (recOf fn a.tmps ps asg body w.heap.size .ready none))).heap.size = w.heap.size + 2 := by simp
  refine ⟨w.heap.size + 1, [{ target := .collected w.heap.size, args := #[] }], (w.alloc (.deferred (some []))).alloc (.loop (recOf fn a.tmps ps asg body w.heap.size .ready none)), { target := .fn (.func gf) lb, args := #[.func (.yield (w.heap.size + 1)) #[] #[]] }, (w.alloc (.deferred (some []))).alloc (.loop (recOf fn a.tmps ps asg body w.heap.size .ready none)), gf,
    #[.func (.yield (w.heap.size + 1)) #[] #[]] ++ lb, (w.alloc (.deferred (some []))).alloc (.loop (recOf fn a.tmps ps asg body w.heap.size .ready none)), hent, ?_, ?_, ?_, fun _ => h1, ?_⟩
  · simp only [resolve, hg]
    simp [go_sem]
  · intro f' hf'
    simp [Target.leads] at hf'
    subst hf'
    exact hF
  · simp [invoke, go_sem, eg]
  · generalize ((w.alloc (.deferred (some []))).alloc (.loop (recOf fn a.tmps ps asg body w.heap.size .ready none))) = W1 at *
    have abide : ∀ {X Y : World} {r : Loop}, Below X.heap.size X Y → Book (w.heap.size + 1) w.heap.size r X → Book (w.heap.size + 1) w.heap.size r Y := by
      intro X Y r hXY hb
      exact ⟨(hXY.block _ (Array.getElem?_eq_some_iff.1 hb.1).1).trans hb.1, (hXY.block _ (Array.getElem?_eq_some_iff.1 hb.2).1).trans hb.2⟩
    refine (hseq (w.heap.size + 1) (fun pre W => I pre W ∧ Book (w.heap.size + 1) w.heap.size (recOf fn a.tmps ps asg body w.heap.size .ready none) W)
      (fun pre W => ∃ c, Ix c pre W ∧ Book (w.heap.size + 1) w.heap.size (recOf fn a.tmps ps asg body w.heap.size .done (some c)) W) W1 hb1
      (fun s X Y hs hXY => ⟨hIb s X Y hs.1 hXY, abide hXY hs.2⟩)
      (fun s X Y hs hXY => by obtain ⟨c, hc, hb⟩ := hs; exact ⟨c, hIxb c s X Y hc hXY, abide hXY hb⟩)
      (fun pre x W hJ hN => one_roundD (Kp := Kp) (P := P) (m := n - 1 - 1) (B := w.heap.size) (l := w.heap.size + 1) (D := w.heap.size) (tmps := a.tmps) (ps := ps) (asg := asg) (body := body) (I := I) (Ix := Ix) (Ax := Ax) (Ok := Ok) hfn (Nat.le_succ _) (Nat.le_refl _) hne hps hKt hKb (H := W1.heap.size) (by omega) hI hIx hAx (hassign (w.heap.size + 1)) (hbody (w.heap.size + 1)) pre x W hJ.1 hJ.2 hN) ⟨hi1, hbk⟩).mono ?_
    rintro e W2 ⟨⟨v, rfl⟩, (⟨xs, hS, hi, hb⟩ | ⟨pre, hSp, c, hi, hb⟩)⟩
    · exact ⟨none, _, run_endLoop hb.1 (by simp [recOf]), hdone _ xs _ (Nat.le_refl _) hS (hI.putObj _ hi (by omega) hb.1 rfl) ((World.putObj_heap_other (by omega)).trans hb.2)⟩
    · exact ⟨some c, _, run_endLoop hb.1 (by simp [recOf]), hstop _ c pre _ (Nat.le_refl _) hSp ((hIx c).putObj _ hi (by omega) hb.1 rfl) ((World.putObj_heap_other (by omega)).trans hb.2)⟩

theorem yield_mono {m : Nat} {l : Nat} {args : Array Value} {W : World} {R R' : Ending → World → Prop} (hR : ∀ e W', R e W' → R' e W') (h : YieldAt F m P l args W R) : YieldAt F m P l args W R' := by
  obtain ⟨fn, tmps, asg, body, hy, hr⟩ := h
  exact ⟨fn, tmps, asg, body, hy, hr.mono hR⟩
/-- What an iterator tells, to whatever never leaves the loop. -/
def TellsE (F : Fence) (n : Nat) (P : Program) (g : Nat) (lb : Array Value) (encs : α → Array Value) (Kp : World → World → Prop) (S : List α → Prop) (Ok : List α → α → Prop) (w : World) : Prop :=
  ∀ (l : Nat) (J : List α → World → Prop) (W : World), Below w.heap.size w W → (∀ s X Y, J s X → Below X.heap.size X Y → J s Y) →
    (∀ pre x W1, J pre W1 → Ok pre x → YieldAt F (n - 1) P l (encs x) W1 fun e W' => e = .returned (.bool true) ∧ J (pre ++ [x]) W' ∧ KeepsFrom W.heap.size W1 W' ∧ Kp W1 W') →
    J [] W → CallsIn F n P g (#[.func (.yield l) #[] #[]] ++ lb) W fun e W' => (∃ v, e = .returned v) ∧ ∃ xs, S xs ∧ J xs W'

/-- The statement, over an iterator that tells, where no round leaves the loop. -/
theorem range_tellsE {g : Operand} {ps : Array Tmp} {asg body : Code} {Q : Exit → Act → World → Prop} {a : Act} {w : World}
    (hro : F.round = none) (h1 : 1 ≤ n) {gf : Nat} {lb : Array Value} (hg : a.eval g = .func (.func gf) #[] lb) (hF : F.fn gf) (eg : ∀ args w, (callFunc gf args).run P w = .ok (.enter gf args) w)
    {encs : α → Array Value} {Kp : World → World → Prop} {S : List α → Prop} {Ok : List α → α → Prop} {w0 : World} (hseq : TellsE F (n - 1) P gf lb encs Kp S Ok w0)
    (hKt : ∀ {X Y Z : World}, Kp X Y → Kp Y Z → Kp X Z) (hKb : ∀ (W : World) (k : Nat) (o o' : Obj), w.heap.size ≤ k → W.heap[k]? = some o → o.isCells = false → o.isWalk = false → Kp W (W.putObj k o')) (hb0 : Below w0.heap.size w0 w) (hps : ∀ x, (encs x).size = ps.size)
    (I : List α → World → Prop) (hI : OwnFrom w.heap.size I) (hIb : ∀ s X Y, I s X → Below X.heap.size X Y → I s Y) (h0 : I [] w) (Ax : α → Act → World → Prop) (hAx : ∀ x a', OwnFrom w.heap.size (fun (_ : Unit) W => Ax x a' W))
    (hassign : ∀ (l : Nat) (pre : List α) (x : α) (W : World) (K : Act → World → Prop), I pre W → (∀ a' W', KeepsFrom w.heap.size W W' → Kp W W' → I pre W' → Ax x a' W' → K a' W') →
      asg.wpIn (F.inRound l) (n - 1 - 1) P (Exit.then K (fun _ _ _ => False)) { tmps := (ps.zip (encs x)).foldl (fun t (p, v) => t.setIfInBounds p v) a.tmps, defers := [] } W)
    (hbody : ∀ (l : Nat) (pre : List α) (x : α) (a' : Act) (W : World), I pre W → Ax x a' W → Ok pre x → body.wpIn (F.inRound l) (n - 1 - 1) P (ownPostG w.heap.size Kp I (fun _ _ _ => False) (pre ++ [x]) W) a' W)
    (hdone : ∀ (D : Nat) (xs : List α) (W : World), w.heap.size ≤ D → S xs → I xs W → W.heap[D]? = some (.deferred (some [])) → Q .normal { a with defers := { target := .collected D, args := #[] } :: a.defers } W) :
    (Code.rangeFunc g ps asg body).wpIn F n P Q a w := by
  refine wpIn_rangeFunc fun fn hfn => ?_
  rw [hro]
  have hne : w.heap.size + 1 ≠ w.heap.size := by omega
  have hbk : Book (w.heap.size + 1) w.heap.size (recOf fn a.tmps ps asg body w.heap.size .ready none) ((w.alloc (.deferred (some []))).alloc (.loop (recOf fn a.tmps ps asg body w.heap.size .ready none))) := by
    constructor
    · have h := World.alloc_heap_new (w.alloc (.deferred (some []))) (.loop (recOf fn a.tmps ps asg body w.heap.size .ready none))
      rwa [World.size_alloc] at h
    · exact (Below.heap_alloc _ _ _ (by simp)).trans (World.alloc_heap_new w _)
  have hi1 : I [] ((w.alloc (.deferred (some []))).alloc (.loop (recOf fn a.tmps ps asg body w.heap.size .ready none))) := hI.alloc _ (hI.alloc _ h0)
  have hb1 : Below w0.heap.size w0 ((w.alloc (.deferred (some []))).alloc (.loop (recOf fn a.tmps ps asg body w.heap.size .ready none))) :=
    hb0.trans ((((Below.refl _ w).alloc (Nat.le_refl _) _).alloc (by simp) _).mono hb0.size)
  have hent := run_enterLoop_outer (P := P) (w := w) fn a.tmps ps asg body
  have hsz : ((w.alloc (.deferred (some []))).alloc (.loop (recOf fn a.tmps ps asg body w.heap.size .ready none))).heap.size = w.heap.size + 2 := by simp
  refine ⟨w.heap.size + 1, [{ target := .collected w.heap.size, args := #[] }], (w.alloc (.deferred (some []))).alloc (.loop (recOf fn a.tmps ps asg body w.heap.size .ready none)), { target := .fn (.func gf) lb, args := #[.func (.yield (w.heap.size + 1)) #[] #[]] }, (w.alloc (.deferred (some []))).alloc (.loop (recOf fn a.tmps ps asg body w.heap.size .ready none)), gf,
    #[.func (.yield (w.heap.size + 1)) #[] #[]] ++ lb, (w.alloc (.deferred (some []))).alloc (.loop (recOf fn a.tmps ps asg body w.heap.size .ready none)), hent, ?_, ?_, ?_, fun _ => h1, ?_⟩
  · simp only [resolve, hg]
    simp [go_sem]
  · intro f' hf'
    simp [Target.leads] at hf'
    subst hf'
    exact hF
  · simp [invoke, go_sem, eg]
  · generalize ((w.alloc (.deferred (some []))).alloc (.loop (recOf fn a.tmps ps asg body w.heap.size .ready none))) = W1 at *
    have abide : ∀ {X Y : World} {r : Loop}, Below X.heap.size X Y → Book (w.heap.size + 1) w.heap.size r X → Book (w.heap.size + 1) w.heap.size r Y := by
      intro X Y r hXY hb
      exact ⟨(hXY.block _ (Array.getElem?_eq_some_iff.1 hb.1).1).trans hb.1, (hXY.block _ (Array.getElem?_eq_some_iff.1 hb.2).1).trans hb.2⟩
    refine (hseq (w.heap.size + 1) (fun pre W => I pre W ∧ Book (w.heap.size + 1) w.heap.size (recOf fn a.tmps ps asg body w.heap.size .ready none) W) W1 hb1
      (fun s X Y hs hXY => ⟨hIb s X Y hs.1 hXY, abide hXY hs.2⟩)
      (fun pre x W hJ hN => yield_mono (R' := fun e W' => e = .returned (.bool true) ∧ (I (pre ++ [x]) W' ∧ Book (w.heap.size + 1) w.heap.size (recOf fn a.tmps ps asg body w.heap.size .ready none) W') ∧ KeepsFrom W1.heap.size W W' ∧ Kp W W') (fun e W' h => h.elim id fun ⟨_, ⟨_, hc, _⟩, _⟩ => hc.elim) (one_roundD (Kp := Kp) (P := P) (m := n - 1 - 1) (B := w.heap.size) (l := w.heap.size + 1) (D := w.heap.size) (tmps := a.tmps) (ps := ps) (asg := asg) (body := body) (I := I) (Ix := fun _ _ _ => False) (Ax := Ax) (Ok := Ok) hfn (Nat.le_succ _) (Nat.le_refl _) hne hps hKt hKb (H := W1.heap.size) (by omega) hI (fun _ _ _ _ _ h _ _ => h) hAx (hassign (w.heap.size + 1)) (hbody (w.heap.size + 1)) pre x W hJ.1 hJ.2 hN)) ⟨hi1, hbk⟩).mono ?_
    rintro e W2 ⟨⟨v, rfl⟩, xs, hS, hi, hb⟩
    exact ⟨none, _, run_endLoop hb.1 (by simp [recOf]), hdone _ xs _ (Nat.le_refl _) hS (hI.putObj _ hi (by omega) hb.1 rfl) ((World.putObj_heap_other (by omega)).trans hb.2)⟩

end
end Go.Proofs
