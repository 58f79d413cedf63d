/- Ranges over functions, blocks but one: what holds at every seat (Ma without arrays and numbers). -/
import Derived.Test.YtkddfihfilhhdaaKa
namespace Go.Proofs
set_option maxRecDepth 100000
open Go.RowKit Go.Shelf
attribute [local go_sem] Oper.semAt_some

theorem take_snoc {α : Type} (l : List α) (k : Nat) (h : k < l.length) : l.take (k + 1) = l.take k ++ [l[k]] := by
  rw [List.take_succ_eq_append_getElem h]
theorem snoc_ind {α : Type} {P : List α → Prop} (h0 : P []) (h1 : ∀ l x, P l → P (l ++ [x])) (l : List α) : P l := by
  have h : ∀ n (l : List α), l.length = n → P l := by
    intro n
    induction n with
    | zero => intro l h; obtain rfl := List.eq_nil_of_length_eq_zero h; exact h0
    | succ n ih =>
      intro l h
      have hne : l ≠ [] := by intro e; subst e; simp at h
      rw [← List.dropLast_concat_getLast hne]
      exact h1 _ _ (ih _ (by rw [List.length_dropLast]; omega))
  exact h _ l rfl
/-- Beneath h all but block x is as it was. -/
structure But (h x : Nat) (A B : World) : Prop where
  os : B.os = A.os
  tape : B.tape = A.tape
  output : B.output = A.output
  size : A.heap.size ≤ B.heap.size
  block : ∀ k, k < h → k ≠ x → B.heap[k]? = A.heap[k]?
theorem But.refl (h x : Nat) (A : World) : But h x A A := ⟨rfl, rfl, rfl, Nat.le_refl _, fun _ _ _ => rfl⟩
theorem But.trans {h x : Nat} {A B C : World} (p : But h x A B) (q : But h x B C) : But h x A C :=
  ⟨q.os.trans p.os, q.tape.trans p.tape, q.output.trans p.output, Nat.le_trans p.size q.size, fun k a b => (q.block k a b).trans (p.block k a b)⟩
theorem But.of_below {h x : Nat} {A B : World} (p : Below h A B) : But h x A B := ⟨p.os, p.tape, p.output, p.size, fun k a _ => p.block k a⟩
theorem But.below {h x n₀ : Nat} {A B : World} (p : But h x A B) (h1 : n₀ ≤ h) (h2 : n₀ ≤ x) : Below n₀ A B := ⟨p.os, p.tape, p.output, p.size, fun k a => p.block k (by omega) (by omega)⟩
theorem But.drew {h x : Nat} {A B : World} (p : But h x A B) : But h x A B.drew := ⟨p.os, p.tape, p.output, p.size, p.block⟩
theorem But.drewN {h x : Nat} {A B : World} (p : But h x A B) (n : Nat) : But h x A (B.drewN n) := ⟨p.os, p.tape, p.output, p.size, p.block⟩
theorem But.setCell {h x : Nat} {A B : World} (p : But h x A B) (o : Nat) (v : Value) : But h x A (B.setCell ⟨x, o, none⟩ v) :=
  p.trans ⟨rfl, rfl, rfl, by simp [World.setCell], fun k _ b => Below.heap_setCell _ _ _ _ b⟩
theorem But.alloc {h x : Nat} {A B : World} (p : But h x A B) (hB : h ≤ B.heap.size) (o : Obj) : But h x A (B.alloc o) :=
  p.trans ⟨rfl, rfl, rfl, by simp, fun k a _ => Below.heap_alloc _ _ _ (by omega)⟩
theorem But.cell {h x : Nat} {A B : World} (p : But h x A B) {a : Addr} (h1 : a.block < h) (h2 : a.block ≠ x) : B.cell? a = A.cell? a := World.cell?_of_block (w := A) (p.block a.block h1 h2)
theorem But.frozen {h x : Nat} {A B : World} (p : But h x A B) {a : Addr} (h1 : a.block < h) (h2 : a.block ≠ x) : B.frozen? a = A.frozen? a := World.frozen?_of_block (w := A) (p.block a.block h1 h2)
theorem but_t {h x : Nat} {A B C : World} (p : But h x A B) (q : But h x B C) : But h x A C := p.trans q
theorem but_b {h x : Nat} {w : World} (hn : h ≤ w.heap.size) (W : World) (l : Nat) (o o' : Obj) (hl : w.heap.size ≤ l) (hh : W.heap[l]? = some o) (_ : o.isCells = false) (_ : o.isWalk = false) : But h x W (W.putObj l o') :=
  .of_below (belowK_b hn W l o o' hl hh (by assumption) (by assumption))
theorem ownFrom_but {β : Type} {h x B : Nat} {w₀ : World} (hn : h ≤ w₀.heap.size) (hB : h ≤ B) : OwnFrom B (fun (_ : β) W => But h x w₀ W) :=
  fun _ _ _ _ hs hg hr => hs.trans ⟨hg.os, hg.tape, hg.output, hg.size, fun k hk _ => hg.block k (by have := hs.size; omega) (fun e => by have := (hr k e.symm).1; omega)⟩

theorem room_none {F : Fence} (hd : F.depth = none) (k : Nat) : F.room k := fun d h => by rw [hd] at h; cases h
theorem yield_any {F : Fence} (hd : F.depth = none) {m : Nat} (m' : Nat) {P : Program} {l : Nat} {args : Array Value} {W : World} {R : Ending → World → Prop} (h : YieldAt F m P l args W R) : YieldAt F m' P l args W R := by
  obtain ⟨fn, tmps, asg, body, hy, hR⟩ := h
  exact ⟨fn, tmps, asg, body, hy, hR.1, fun c cs _ => hR.2 c cs (room_none hd _)⟩

theorem Rows8.own {β : Type} (B : Nat) (t : TypeId) (f : β → Array Value) : Own (fun (s : β) W => Rows8 W B t (f s)) := fun s X Y row hs hg hr =>
  (hg.block B hs.lt (fun e => by obtain ⟨o, ho, hc⟩ := hr B e.symm; rw [show X.heap[B]? = _ from hs] at ho; cases ho; cases hc)).trans hs
theorem ownFrom_mono {β : Type} {B B' : Nat} {I : β → World → Prop} (h : OwnFrom B I) (hB : B ≤ B') : OwnFrom B' I := fun s X Y row hs hg hr => h s X Y row hs hg (fun r e => ⟨Nat.le_trans hB (hr r e).1, (hr r e).2⟩)

/-- All cells are as they were, but those of block x. -/
structure Kx (x : Nat) (A B : World) : Prop where
  size : A.heap.size ≤ B.heap.size
  same : ∀ (k : Nat) (o : Obj), A.heap[k]? = some o → o.isCells = true → k ≠ x → B.heap[k]? = some o
theorem Kx.refl (x : Nat) (A : World) : Kx x A A := ⟨Nat.le_refl _, fun _ _ h _ _ => h⟩
theorem Kx.trans {x : Nat} {A B C : World} (p : Kx x A B) (q : Kx x B C) : Kx x A C := ⟨Nat.le_trans p.size q.size, fun k o h hc hx => q.same k o (p.same k o h hc hx) hc hx⟩
theorem Kx.of_below {x : Nat} {A B : World} (p : Below A.heap.size A B) : Kx x A B := ⟨p.size, fun k _ h _ _ => (p.block k (Array.getElem?_eq_some_iff.1 h).1).trans h⟩
theorem Kx.set (x : Nat) (A : World) (o : Nat) (v : Value) : Kx x A (A.setCell ⟨x, o, none⟩ v) := ⟨by simp [World.setCell], fun k ob h _ hx => (Below.heap_setCell A ⟨x, o, none⟩ v k hx).trans h⟩
theorem kx_t {x : Nat} {A B C : World} (p : Kx x A B) (q : Kx x B C) : Kx x A C := p.trans q
theorem kx_b {x B : Nat} (W : World) (l : Nat) (o o' : Obj) (_ : B ≤ l) (hh : W.heap[l]? = some o) (hc : o.isCells = false) (_ : o.isWalk = false) : Kx x W (W.putObj l o') := by
  refine ⟨by simp [World.putObj], fun k ob hk hkc _ => ?_⟩
  have hne : l ≠ k := fun e => by
    subst e
    rw [hk] at hh
    injection hh with hh
    subst hh
    rw [hc] at hkc
    cases hkc
  exact (World.putObj_heap_other (fun e => hne e.symm)).trans hk
/-- .. of those beneath h. -/
structure Kb (h x : Nat) (A B : World) : Prop where
  size : A.heap.size ≤ B.heap.size
  same : ∀ (k : Nat) (o : Obj), k < h → A.heap[k]? = some o → o.isCells = true → k ≠ x → B.heap[k]? = some o
theorem Kb.refl (h x : Nat) (A : World) : Kb h x A A := ⟨Nat.le_refl _, fun _ _ _ h _ _ => h⟩
theorem Kb.trans {h x : Nat} {A B C : World} (p : Kb h x A B) (q : Kb h x B C) : Kb h x A C := ⟨Nat.le_trans p.size q.size, fun k o hk h hc hx => q.same k o hk (p.same k o hk h hc hx) hc hx⟩
theorem Kb.mono {h h' x : Nat} {A B : World} (p : Kb h x A B) (hh : h' ≤ h) : Kb h' x A B := ⟨p.size, fun k o hk => p.same k o (Nat.lt_of_lt_of_le hk hh)⟩
theorem Kb.of_kx {h x : Nat} {A B : World} (p : Kx x A B) : Kb h x A B := ⟨p.size, fun k o _ h hc hx => p.same k o h hc hx⟩
theorem Kb.of_below {h x : Nat} {A B : World} (p : Below h A B) : Kb h x A B := ⟨p.size, fun k _ hk h _ _ => (p.block k hk).trans h⟩
theorem Kb.set {h x : Nat} (A : World) {b : Nat} (hb : h ≤ b) (o : Nat) (v : Value) : Kb h x A (A.setCell ⟨b, o, none⟩ v) := ⟨by simp [World.setCell], fun k ob hk hh _ _ => (Below.heap_setCell A ⟨b, o, none⟩ v k (by show k ≠ b; omega)).trans hh⟩
theorem Kb.rows {h x : Nat} {A B : World} (p : Kb h x A B) {b : Nat} {t : TypeId} {cs : Array Value} (r : Rows8 A b t cs) (hb : b < h) (hx : b ≠ x) : Rows8 B b t cs := p.same b _ hb r rfl hx
theorem Kb.cell {h x : Nat} {A B : World} (p : Kb h x A B) {a : Addr} {v : Value} (hb : a.block < h) (hx : a.block ≠ x) (hc : A.cell? a = some v) : B.cell? a = some v := by
  cases ho : A.heap[a.block]? with
  | none => simp [World.cell?, ho] at hc
  | some o =>
    cases hi : o.isCells with
    | true =>
      have h2 := p.same a.block o hb ho hi hx
      rw [World.cell?_of_block (w := A) (h2.trans ho.symm)]
      exact hc
    | false =>
      cases o <;> simp [Obj.isCells] at hi <;> simp [World.cell?, ho] at hc
theorem Kb.row {h x : Nat} {A B : World} (p : Kb h x A B) {v : Value} {n k : Nat} {cs : List Value} (r : RowAt A v n k cs) (hA : A.heap.size ≤ h) (hx : A.heap.size ≤ x) : RowAt B v n k cs := by
  obtain ⟨h0, a, cap, h1, h2, h3, h4, h5⟩ := r
  refine ⟨h0, a, cap, h1, h2, h3, h4, fun j hj => ?_⟩
  obtain ⟨b, off, e, hb, hc⟩ := h5 j hj
  rw [List.getElem?_eq_getElem hj] at hc
  exact ⟨b, off, e, Nat.lt_of_lt_of_le hb p.size, by rw [List.getElem?_eq_getElem hj]; exact p.cell (a := ⟨b, off + j, none⟩) (by show b < h; omega) (by show b ≠ x; omega) hc⟩
theorem noGoto_normal' {Q : Exit → Act → World → Prop} {a : Act} {w : World} : Exit.noGoto Q .normal a w = Q .normal a w := rfl
theorem wpIn_scope_straight {F : Fence} {n : Nat} {P : Program} {c : Code} {Q : Exit → Act → World → Prop} {a : Act} {w : World} (hF : F = Fence.wide) (h : c.wpIn F n P (Exit.noGoto Q) a w) : (Code.scope c).wpIn F n P Q a w := by
  subst hF
  exact wpIn_wide.2 (wp_scope_straight (wpIn_wide.1 h))

/-- A variable of one cell that is no aggregate. -/
theorem load_one {P : Program} {w : World} {B : Nat} {t ty : TypeId} {v : Value} (h : Rows8 w B t #[v]) (hu : (P.underlying ty).map (fun d => match d with | .struct _ => true | .array _ _ => true | _ => false) = some false) :
    (loadVar ty ⟨B, 0, none⟩).run P w = .ok v w := by
  obtain ⟨d, hd, he⟩ := Option.map_eq_some_iff.1 hu
  have hc := h.cell 0
  simp at hc
  have hagg : (isAgg ty).run P w = .ok false w := by
    unfold isAgg
    rw [Sem.run_bind, run_underlying hd w]
    cases d <;> simp_all
  simp [loadVar, Sem.run_bind, hagg, Result.andThen, hc]
theorem results_cc {P : Program} {fn : Func} {p q : Tmp} {ty uy : TypeId} (h : fn.results = #[.cell p ty, .cell q uy]) (tmps : Array Value) (w : World) (B C : Nat) (u v : Value)
    (hp : tmps.getD p undef = .pointer (some ⟨B, 0, none⟩)) (hq : tmps.getD q undef = .pointer (some ⟨C, 0, none⟩)) (h1 : (loadVar ty ⟨B, 0, none⟩).run P w = .ok u w) (h2 : (loadVar uy ⟨C, 0, none⟩).run P w = .ok v w) :
    (results fn tmps).run P w = .ok (.tuple #[u, v]) w := by
  have hp' : tmps[p]?.getD undef = .pointer (some ⟨B, 0, none⟩) := by simpa using hp
  have hq' : tmps[q]?.getD undef = .pointer (some ⟨C, 0, none⟩) := by simpa using hq
  simp [results, h, hp', hq', asAddr, h1, h2, Result.andThen]

theorem rows_put {W : World} {B D : Nat} {t : TypeId} {cs : Array Value} {x : Option (List Deferred)} {o : Obj} (h : Rows8 W B t cs) (hK : W.heap[D]? = some (.deferred x)) : Rows8 (W.putObj D o) B t cs := by
  have hne : B ≠ D := fun e => by
    subst e
    rw [show W.heap[B]? = _ from h] at hK
    cases hK
  exact (World.putObj_heap_other (r := D) (k := B) hne).trans h
section
variable {F : Fence} {n : Nat} {P : Program} {α : Type}

/-- What an iterator tells, to whatever asks it while abiding the turn of records that are laid later. -/
def TellsB (F : Fence) (n : Nat) (P : Program) (g : Nat) (lb : Array Value) (encs : α → Array Value) (Kp : World → World → Prop) (S Sp : List α → Prop) (N : Nat) (w : World) : Prop :=
  ∀ (l : Nat) (J Jx : List α → World → Prop) (W : World), Below w.heap.size w W → (∀ s X Y, J s X → Below W.heap.size X Y → J s Y) → (∀ s X Y, Jx s X → Below W.heap.size X Y → Jx s Y) →
    (∀ pre x W1, J pre W1 → pre.length < N → YieldAt F (n - 1) P l (encs x) W1 fun e W' =>
      (e = .returned (.bool true) ∧ J (pre ++ [x]) W' ∧ KeepsFrom W.heap.size W1 W' ∧ Kp W1 W') ∨ (e = .returned (.bool false) ∧ Jx (pre ++ [x]) W' ∧ KeepsFrom W.heap.size W1 W')) →
    J [] W → CallsIn F n P g (#[.func (.yield l) #[] #[]] ++ lb) W fun e W' => (∃ v, e = .returned v) ∧ ((∃ xs, S xs ∧ J xs W') ∨ (∃ pre, Sp pre ∧ Jx pre W'))

def recOf (fn : FuncId) (tmps : Array Value) (ps : Array Tmp) (asg body : Code) (D : Nat) (st : LoopState) (pe : Option Code) : Loop :=
  { state := st, pending := pe, fn := fn, tmps := tmps, params := ps, assign := asg, body := body, defers := D }
/-- The loop's two blocks. -/
def Book (l D : Nat) (r : Loop) (W : World) : Prop := W.heap[l]? = some (.loop r) ∧ W.heap[D]? = some (.deferred (some []))
theorem Book.turn {l D : Nat} {r r' : Loop} {W : World} (h : Book l D r W) (hne : l ≠ D) : Book l D r' (W.putObj l (.loop r')) :=
  ⟨World.putObj_heap_same (Array.getElem?_eq_some_iff.1 h.1).1, (World.putObj_heap_other (fun e => hne e.symm)).trans h.2⟩
theorem Book.keep {l D B : Nat} {r : Loop} {W W' : World} (h : Book l D r W) (k : KeepsFrom B W W') (hl : B ≤ l) (hD : B ≤ D) : Book l D r W' := ⟨k.same l _ hl h.1 rfl, k.same D _ hD h.2 rfl⟩

theorem keepsFrom_mono {B H : Nat} {W W' : World} (h : KeepsFrom B W W') (hB : B ≤ H) : KeepsFrom H W W' := ⟨h.size, fun k o hk => h.same k o (Nat.le_trans hB hk)⟩
theorem keepsFrom_trans' {B : Nat} {X Y Z : World} (h : KeepsFrom B X Y) (k : KeepsFrom B Y Z) : KeepsFrom B X Z := ⟨Nat.le_trans h.size k.size, fun q o hq ho hc => k.same q o hq (h.same q o hq ho hc) hc⟩
theorem keepsFrom_put {H l : Nat} (W : World) (o : Obj) (hl : l < H) : KeepsFrom H W (W.putObj l o) := ⟨by simp [World.putObj], fun k o' hk ho _ => (World.putObj_heap_other (by omega)).trans ho⟩
/-- One round, told by its body's walk. -/
theorem one_round {fn : FuncId} (hfn : F.fn fn) {m B l D : Nat} (hl : B ≤ l) (hD : B ≤ D) (hne : l ≠ D) {tmps : Array Value} {ps : Array Tmp} {asg body : Code} {encs : α → Array Value} (hps : ∀ x, (encs x).size = ps.size) {Kp : World → World → Prop}
    (hKt : ∀ {X Y Z : World}, Kp X Y → Kp Y Z → Kp X Z) (hKb : ∀ (W : World) (k : Nat) (o o' : Obj), B ≤ k → W.heap[k]? = some o → o.isCells = false → o.isWalk = false → Kp W (W.putObj k o')) {H : Nat} (hH : l < H)
    {I : List α → World → Prop} {Ix : Code → List α → World → Prop} (hI : OwnFrom B I) (hIx : ∀ c, OwnFrom B (Ix c)) {Ax : α → Act → World → Prop} (hAx : ∀ x a', OwnFrom B (fun (_ : Unit) W => Ax x a' W)) {N : Nat}
    (hassign : ∀ (pre : List α) (x : α) (W : World) (K : Act → World → Prop), I pre W → (∀ a' W', KeepsFrom B W W' → Kp W W' → I pre W' → Ax x a' W' → K a' W') →
      asg.wpIn (F.inRound l) m P (Exit.then K (fun _ _ _ => False)) { tmps := (ps.zip (encs x)).foldl (fun t (p, v) => t.setIfInBounds p v) tmps, defers := [] } W)
    (hbody : ∀ (pre : List α) (x : α) (a' : Act) (W : World), I pre W → Ax x a' W → pre.length < N → body.wpIn (F.inRound l) m P (ownPostG B Kp I Ix (pre ++ [x]) W) a' W)
    (pre : List α) (x : α) (W : World) (hi : I pre W) (hb : Book l D (recOf fn tmps ps asg body D .ready none) W) (hN : pre.length < N) :
    YieldAt F m P l (encs x) W fun e W' =>
      (e = .returned (.bool true) ∧ (I (pre ++ [x]) W' ∧ Book l D (recOf fn tmps ps asg body D .ready none) W') ∧ KeepsFrom H W W' ∧ Kp W W') ∨
      (e = .returned (.bool false) ∧ (∃ c, Ix c (pre ++ [x]) W' ∧ Book l D (recOf fn tmps ps asg body D .done (some c)) W') ∧ KeepsFrom H W W') := by
  refine ⟨fn, _, asg, body, run_yield hb.1 (hps x), roundIn_of_wpIn hfn (hassign pre x W _ hi ?_)⟩
  intro a' Wa k1 p1 hia hax
  have hba := hb.keep k1 hl hD
  refine ⟨_, run_beginRound hba.1 rfl, ?_⟩
  have hbb := hba.turn (r' := recOf fn tmps ps asg body D .busy none) hne
  have p2 := hKb Wa l _ (.loop (recOf fn tmps ps asg body D .busy none)) hl hba.1 rfl rfl
  have hib := hI.putObj (.loop (recOf fn tmps ps asg body D .busy none)) hia hl hba.1 rfl
  have hxb := (hAx x a').putObj (s := ()) (.loop (recOf fn tmps ps asg body D .busy none)) hax hl hba.1 rfl
  refine wpIn_mono (hbody pre x a' _ hib hxb hN) ?_
  have out : ∀ (c : Code) (W3 : World), KeepsFrom B (Wa.putObj l (.loop (recOf fn tmps ps asg body D .busy none))) W3 → Ix c (pre ++ [x]) W3 →
      ∃ v w', (Instr.endRound l (some c)).run P W3 = .ok v w' ∧ v = .bool false ∧ Ix c (pre ++ [x]) w' ∧ Book l D (recOf fn tmps ps asg body D .done (some c)) w' ∧ KeepsFrom H W w' := fun c W3 k3 hx => by
    have hb3 := hbb.keep k3 hl hD
    exact ⟨_, _, run_endRound (some c) hb3.1, rfl, (hIx c).putObj _ hx hl hb3.1 rfl, hb3.turn hne, keepsFrom_trans' (keepsFrom_mono k1 (by omega)) (keepsFrom_trans' (keepsFrom_put _ _ hH) (keepsFrom_trans' (keepsFrom_mono k3 (by omega)) (keepsFrom_put _ _ hH)))⟩
  rintro e a3 W3 hp
  cases e with
  | normal =>
    obtain ⟨k3, p3, hi3⟩ := hp
    have hb3 := hbb.keep k3 hl hD
    exact ⟨_, _, run_endRound none hb3.1, .inl ⟨rfl, ⟨hI.putObj _ hi3 hl hb3.1 rfl, hb3.turn hne⟩, keepsFrom_trans' (keepsFrom_mono k1 (by omega)) (keepsFrom_trans' (keepsFrom_put _ _ hH) (keepsFrom_trans' (keepsFrom_mono k3 (by omega)) (keepsFrom_put _ _ hH))), hKt p1 (hKt (hKt p2 p3) (hKb _ _ _ _ hl hb3.1 rfl rfl))⟩⟩
  | ret =>
    obtain ⟨v, w', h1, h2, h3, h4, h5⟩ := out .ret W3 hp.1 hp.2
    exact ⟨v, w', h1, .inr ⟨by rw [h2], ⟨_, h3, h4⟩, h5⟩⟩
  | exit id =>
    obtain ⟨v, w', h1, h2, h3, h4, h5⟩ := out (.exit id) W3 hp.1 hp.2
    exact ⟨v, w', h1, .inr ⟨by rw [h2], ⟨_, h3, h4⟩, h5⟩⟩
  | goto t =>
    obtain ⟨v, w', h1, h2, h3, h4, h5⟩ := out (.goto t) W3 hp.1 hp.2
    exact ⟨v, w', h1, .inr ⟨by rw [h2], ⟨_, h3, h4⟩, h5⟩⟩
  | panic ch => exact hp.elim
  | outgrown => exact hp.elim

/-- The statement, over an iterator that tells. -/
theorem range_tellsB {g : Operand} {ps : Array Tmp} {asg body : Code} {Q : Exit → Act → World → Prop} {a : Act} {w : World}
    (hro : F.round = none) (h1 : 1 ≤ n) {gf : Nat} {lb : Array Value} (hg : a.eval g = .func (.func gf) #[] lb) (hF : F.fn gf) (eg : ∀ args w, (callFunc gf args).run P w = .ok (.enter gf args) w)
    {encs : α → Array Value} {Kp : World → World → Prop} {S Sp : List α → Prop} {N : Nat} {w0 : World} (hseq : TellsB F (n - 1) P gf lb encs Kp S Sp N w0)
    (hKt : ∀ {X Y Z : World}, Kp X Y → Kp Y Z → Kp X Z) (hKb : ∀ (W : World) (k : Nat) (o o' : Obj), w.heap.size ≤ k → W.heap[k]? = some o → o.isCells = false → o.isWalk = false → Kp W (W.putObj k o')) (hb0 : Below w0.heap.size w0 w) (hps : ∀ x, (encs x).size = ps.size)
    (I : List α → World → Prop) (Ix : Code → List α → World → Prop) (hI : OwnFrom w.heap.size I) (hIx : ∀ c, OwnFrom w.heap.size (Ix c)) (hIb : ∀ s X Y, I s X → Below (w.heap.size + 2) X Y → I s Y) (hIxb : ∀ c s X Y, Ix c s X → Below (w.heap.size + 2) X Y → Ix c s Y) (h0 : I [] w) (Ax : α → Act → World → Prop) (hAx : ∀ x a', OwnFrom w.heap.size (fun (_ : Unit) W => Ax x a' W))
    (hassign : ∀ (l : Nat) (pre : List α) (x : α) (W : World) (K : Act → World → Prop), I pre W → (∀ a' W', KeepsFrom w.heap.size W W' → Kp W W' → I pre W' → Ax x a' W' → K a' W') →
      asg.wpIn (F.inRound l) (n - 1 - 1) P (Exit.then K (fun _ _ _ => False)) { tmps := (ps.zip (encs x)).foldl (fun t (p, v) => t.setIfInBounds p v) a.tmps, defers := [] } W)
    (hbody : ∀ (l : Nat) (pre : List α) (x : α) (a' : Act) (W : World), I pre W → Ax x a' W → pre.length < N → body.wpIn (F.inRound l) (n - 1 - 1) P (ownPostG w.heap.size Kp I Ix (pre ++ [x]) W) a' W)
    (hdone : ∀ (D : Nat) (xs : List α) (W : World), w.heap.size ≤ D → S xs → I xs W → W.heap[D]? = some (.deferred (some [])) → Q .normal { a with defers := { target := .collected D, args := #[] } :: a.defers } W)
    (hstop : ∀ (D : Nat) (c : Code) (pre : List α) (W : World), w.heap.size ≤ D → Sp pre → Ix c pre W → W.heap[D]? = some (.deferred (some [])) → c.wpIn F n P Q { a with defers := { target := .collected D, args := #[] } :: a.defers } W) :
    (Code.rangeFunc g ps asg body).wpIn F n P Q a w := by
  refine wpIn_rangeFunc fun fn hfn => ?_
  rw [hro]
  have hne : w.heap.size + 1 ≠ w.heap.size := by omega
  have hbk : Book (w.heap.size + 1) w.heap.size (recOf fn a.tmps ps asg body w.heap.size .ready none) ((w.alloc (.deferred (some []))).alloc (.loop (recOf fn a.tmps ps asg body w.heap.size .ready none))) := by
    constructor
    · have h := World.alloc_heap_new (w.alloc (.deferred (some []))) (.loop (recOf fn a.tmps ps asg body w.heap.size .ready none))
      rwa [World.size_alloc] at h
    · exact (Below.heap_alloc _ _ _ (by simp)).trans (World.alloc_heap_new w _)
  have hi1 : I [] ((w.alloc (.deferred (some []))).alloc (.loop (recOf fn a.tmps ps asg body w.heap.size .ready none))) := hI.alloc _ (hI.alloc _ h0)
  have hb1 : Below w0.heap.size w0 ((w.alloc (.deferred (some []))).alloc (.loop (recOf fn a.tmps ps asg body w.heap.size .ready none))) :=
    hb0.trans ((((Below.refl _ w).alloc (Nat.le_refl _) _).alloc (by simp) _).mono hb0.size)
  have hent := run_enterLoop_outer (P := P) (w := w) fn a.tmps ps asg body
  have hsz : ((w.alloc (.deferred (some []))).alloc (.loop (recOf fn a.tmps ps asg body w.heap.size .ready none))).heap.size = w.heap.size + 2 := by simp
  refine ⟨w.heap.size + 1, [{ target := .collected w.heap.size, args := #[] }], (w.alloc (.deferred (some []))).alloc (.loop (recOf fn a.tmps ps asg body w.heap.size .ready none)), { target := .fn (.func gf) lb, args := #[.func (.yield (w.heap.size + 1)) #[] #[]] }, (w.alloc (.deferred (some []))).alloc (.loop (recOf fn a.tmps ps asg body w.heap.size .ready none)), gf,
    #[.func (.yield (w.heap.size + 1)) #[] #[]] ++ lb, (w.alloc (.deferred (some []))).alloc (.loop (recOf fn a.tmps ps asg body w.heap.size .ready none)), hent, ?_, ?_, ?_, fun _ => h1, ?_⟩
  · simp only [resolve, hg]
    simp [go_sem]
  · intro f' hf'
    simp [Target.leads] at hf'
    subst hf'
    exact hF
  · simp [invoke, go_sem, eg]
  · generalize ((w.alloc (.deferred (some []))).alloc (.loop (recOf fn a.tmps ps asg body w.heap.size .ready none))) = W1 at *
    have abide : ∀ {X Y : World} {r : Loop}, Below W1.heap.size X Y → Book (w.heap.size + 1) w.heap.size r X → Book (w.heap.size + 1) w.heap.size r Y := by
      intro X Y r hXY hb
      exact ⟨(hXY.block _ (by omega)).trans hb.1, (hXY.block _ (by omega)).trans hb.2⟩
    refine (hseq (w.heap.size + 1) (fun pre W => I pre W ∧ Book (w.heap.size + 1) w.heap.size (recOf fn a.tmps ps asg body w.heap.size .ready none) W)
      (fun pre W => ∃ c, Ix c pre W ∧ Book (w.heap.size + 1) w.heap.size (recOf fn a.tmps ps asg body w.heap.size .done (some c)) W) W1 hb1
      (fun s X Y hs hXY => ⟨hIb s X Y hs.1 (by rw [hsz] at hXY; exact hXY), abide hXY hs.2⟩)
      (fun s X Y hs hXY => by obtain ⟨c, hc, hb⟩ := hs; exact ⟨c, hIxb c s X Y hc (by rw [hsz] at hXY; exact hXY), abide hXY hb⟩)
      (fun pre x W hJ hN => one_round (Kp := Kp) (P := P) (m := n - 1 - 1) (B := w.heap.size) (l := w.heap.size + 1) (D := w.heap.size) (tmps := a.tmps) (ps := ps) (asg := asg) (body := body) (I := I) (Ix := Ix) (Ax := Ax) (N := N) hfn (Nat.le_succ _) (Nat.le_refl _) hne hps hKt hKb (H := W1.heap.size) (by omega) hI hIx hAx (hassign (w.heap.size + 1)) (hbody (w.heap.size + 1)) pre x W hJ.1 hJ.2 hN) ⟨hi1, hbk⟩).mono ?_
    rintro e W2 ⟨⟨v, rfl⟩, (⟨xs, hS, hi, hb⟩ | ⟨pre, hSp, c, hi, hb⟩)⟩
    · exact ⟨none, _, run_endLoop hb.1 (by simp [recOf]), hdone _ xs _ (Nat.le_refl _) hS (hI.putObj _ hi (by omega) hb.1 rfl) ((World.putObj_heap_other (by omega)).trans hb.2)⟩
    · exact ⟨some c, _, run_endLoop hb.1 (by simp [recOf]), hstop _ c pre _ (Nat.le_refl _) hSp ((hIx c).putObj _ hi (by omega) hb.1 rfl) ((World.putObj_heap_other (by omega)).trans hb.2)⟩

end
end Go.Proofs
