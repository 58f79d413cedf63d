/- Limbo: generic laws; rows of entries that the call owns. -/
import Derived.Test.YtghnfiegihfdnaaDoorAa
import Derived.Test.YtghnfiegihfdnaaDoorRz
import Derived.ArgAppend
import Derived.Defers
import Derived.Recover
import Derived.RangeFuncLeaves
import Derived.Laws.CopyRow
import Derived.Laws.EntriesVeiled
namespace Go.Proofs
set_option maxRecDepth 100000
open Go.RowKit Go.Shelf
attribute [local go_sem] Oper.semAt_some

theorem results_ctA {P : Program} {fn : Func} {p q : Tmp} {ty : TypeId} (h : fn.results = #[.cell p ty, .tmp q]) (tmps : Array Value) (w : World) (B : Nat) (u x : Value)
    (hp : tmps.getD p undef = .pointer (some ⟨B, 0, none⟩)) (hx : tmps.getD q undef = x) (h1 : (loadVar ty ⟨B, 0, none⟩).run P w = .ok u w) :
    (results fn tmps).run P w = .ok (.tuple #[u, x]) w := by
  have hp' : tmps[p]?.getD undef = .pointer (some ⟨B, 0, none⟩) := by simpa using hp
  have hx' : tmps[q]?.getD undef = x := by simpa using hx
  simp [results, h, hp', hx', asAddr, h1, Result.andThen]
theorem load_row {P : Program} {W : World} {B : Nat} {t : TypeId} {cs : Array Value} (h : Rows8 W B t cs) {d : TypeDesc} (hu : P.underlying t = some d) (hd : (match d with | .struct _ | .array _ _ => true | _ => false) = true) (hi : (P.info? t).map (·.size) = some cs.size) :
    (loadVar t ⟨B, 0, none⟩).run P W = .ok (.agg cs) W := run_loadVar_row W B t t cs (0, 0) d h hu hd hi
theorem below_drewN {h : Nat} {A B : World} (p : Below h A B) (n : Nat) : Below h A (B.drewN n) := ⟨p.os, p.tape, p.output, p.size, p.block⟩
theorem rows_apart {W : World} {B g : Nat} {t e : TypeId} {cs ds : Array Value} (r : Rows8 W B t cs) (q : Rows8 W g e ds) (h : t ≠ e) : B ≠ g := fun ee => by
  subst ee
  have q9 : W.heap[B]? = some (Obj.cells ds e (0, 0)) := q
  rw [show W.heap[B]? = _ from r] at q9
  injection q9 with q1
  injection q1 with _ q2 _
  exact h q2
theorem Rows8.drewA {W : World} {B : Nat} {t : TypeId} {cs : Array Value} (h : Rows8 W B t cs) : Rows8 W.drew B t cs := h
theorem Rows8.keepM {X Y : World} {row : Option Nat} {B : Nat} {t : TypeId} {cs : Array Value} (p : Rows8 X B t cs) (hg : X.grownBy Y row) (hr : ∀ r, row = some r → ∃ o : Obj, X.heap[r]? = some o ∧ o.isCells = false) : Rows8 Y B t cs := Rows8.own B t (fun _ : Unit => cs) () X Y row p hg hr
theorem keepsFrom_set {H : Nat} (W : World) {a : Addr} {t : TypeId} {cs : Array Value} (r : Rows8 W a.block t cs) (v : Value) : KeepsFrom H W (W.setCell a v) :=
  ⟨by simp [World.setCell], fun k o _ hk hc => by
    have hne : a.block ≠ k := fun e => by
      subst e
      rw [show W.heap[a.block]? = _ from r] at hk
      cases hk
      cases hc
    show (W.heap.modify a.block _)[k]? = _
    rw [Array.getElem?_modify, if_neg hne]
    exact hk⟩
theorem results_c1 {P : Program} {fn : Func} {p : Tmp} {ty : TypeId} (h : fn.results = #[.cell p ty]) (tmps : Array Value) (w : World) (B : Nat) (u : Value)
    (hp : tmps.getD p undef = .pointer (some ⟨B, 0, none⟩)) (h1 : (loadVar ty ⟨B, 0, none⟩).run P w = .ok u w) : (results fn tmps).run P w = .ok u w := by
  have hp' : tmps[p]?.getD undef = .pointer (some ⟨B, 0, none⟩) := by simpa using hp
  simp [results, h, hp', asAddr, h1, Result.andThen]
theorem owns_setT {n₀ k n : Nat} {T t : TypeId} {v : Value} {cs : List Value} {W : World} (o : W.ownsRow n₀ T k v n cs) {a : Addr} {ds : Array Value} (r : Rows8 W a.block t ds) (hne : T ≠ t) (u : Value) : (W.setCell a u).ownsRow n₀ T k v n cs :=
  ownsRow_setCell_other o (owns_not o r hne) u
def shutAll (W : World) (Ds : List Nat) : World := Ds.foldl (fun W D => W.putObj D (.deferred none)) W
def marks (Ds : List Nat) : List Deferred := Ds.map fun D => { target := .collected D, args := #[] }
theorem leaves_marks {F : Fence} {n : Nat} {P : Program} {fn : Func} {tmps : Array Value} {R : Ending → World → Prop} {u : FrameMode} (hu : u ≠ .run) : ∀ (Ds : List Nat) (W : World), Ds.Nodup → (∀ D ∈ Ds, W.heap[D]? = some (.deferred (some []))) →
    LeavesInM F n P fn tmps R [] u (shutAll W Ds) → LeavesInM F n P fn tmps R (marks Ds) u W
  | [], _, _, _, h => h
  | D :: Ds, W, hn, hK, h => by
    obtain ⟨h1, h2⟩ := List.nodup_cons.1 hn
    refine ⟨hu, .inl ⟨D, _, rfl, run_takeDeferred (hK D (by simp)), ?_⟩⟩
    exact leaves_marks hu Ds _ h2 (fun E hE => (World.putObj_heap_other (by rintro rfl; exact h1 hE)).trans (hK E (by simp [hE]))) h
theorem setRow_self {W : World} {g : Nat} {cur : Array Value} {t : TypeId} (h : W.heap[g]? = some (.cells cur t (0, 0))) (cs : List Value) (e : cs.toArray = cur) : (W.setRow g cs.toArray).heap[g]? = some (.cells cs.toArray t (0, 0)) := setRow_heap _ g _ _ _ _ h
theorem run_copy_nil {P : Program} (w : World) (dT sT ty elem : TypeId) (g o dCap : Nat) (k : Nat) (hu : P.underlying dT = some (.slice elem)) (hs : (P.info? elem).map (·.size) = some k) :
    (Builtin.copy_ #[dT, sT] ty #[.slice (some ⟨g, o, none⟩) 0 dCap, .slice none 0 0]).run P w = .ok (goInt 0) w := by
  cases hq : P.info? elem with
  | none => simp [hq] at hs
  | some i => simp [Builtin.copy_, run_underlying hu, Builtin.lenOf, Builtin.firstCells, sizeOf, typeInfo, hq, loadCells, storeCells]
theorem own_rows {W : World} {n₀ k n g c : Nat} {T : TypeId} {len : Nat} {cs : List Value} (h : W.ownsRow n₀ T k (.slice (some ⟨g, 0, none⟩) len c) n cs) : ∃ cur, Rows8 W g T cur ∧ n = len ∧ n₀ ≤ g ∧ ∀ j, j < cs.length → W.cell? ⟨g, j, none⟩ = cs[j]? := by
  have hr := rowAt_own h
  rcases h.2 with ⟨h0, _⟩ | ⟨g', cap, cur, e, hg, hh, _⟩
  · cases h0
  · cases e
    refine ⟨cur, hh, rfl, hg, fun j hj => ?_⟩
    obtain ⟨_, a, cp, e, _, _, _, hc⟩ := hr
    cases e
    obtain ⟨b, off, e, _, h3⟩ := hc j hj
    cases e
    rw [Nat.zero_add] at h3
    exact h3
theorem grownBy_set (W : World) (B o : Nat) (u : Value) : W.grownBy (W.setCell ⟨B, o, none⟩ u) (some B) :=
  ⟨rfl, rfl, rfl, by simp [World.setCell], fun k _ hk => Below.heap_setCell W ⟨B, o, none⟩ u k (by show k ≠ B; exact fun e => hk (by rw [e]))⟩
theorem run_copy_rowK {P : Program} (w : World) (dT sT ty elem : TypeId) (g o dLen dCap : Nat) (a : Addr) (sLen sCap : Nat) (cur : Array Value) (t : TypeId) (cs : List Value) (k : Nat)
    (hu : P.underlying dT = some (.slice elem)) (hs : (P.info? elem).map (·.size) = some k)
    (hg : w.heap[g]? = some (.cells cur t (0, 0))) (hn : cs.length = Nat.min sLen dLen * k)
    (hsrc : ∀ j v, cs[j]? = some v → w.cell? (a.add j) = some v) (hfit : o + cs.length ≤ cur.size) (h1 : ∀ v ∈ cs, v.oneCell' = true) :
    (Builtin.copy_ #[dT, sT] ty #[.slice (some ⟨g, o, none⟩) dLen dCap, .slice (some a) sLen sCap]).run P w =
      .ok (goInt (Nat.min sLen dLen)) (w.setRow g (cur.toList.take o ++ cs ++ cur.toList.drop (o + cs.length)).toArray) := by
  have hl := run_loadCells_list (P := P) w a cs hsrc
  have hst := run_storeCells_at P g o t cs 0 cur w hg (by simpa using hfit) h1
  cases hq : P.info? elem with
  | none => simp [hq] at hs
  | some i =>
    have hi : i.size = k := by simpa [hq] using hs
    simp [Builtin.copy_, run_underlying hu, Builtin.lenOf, Builtin.firstCells, sizeOf, typeInfo, hq, hi, ← hn, hl, hst]
theorem wpList_copyK {P : Program} {w : World} {ops : Array Oper} {rest : List Oper} {o : Oper} {a : Act} {Q : Exit → Act → World → Prop} (hgd : o.guard = none) (d s : Operand) (dT sT : TypeId)
    (ho : o.op = .call { callee := .builtin .copy, args := #[d, s], argTypes := #[dT, sT] }) (vd vs : Value) (hd : a.eval d = vd) (hs : a.eval s = vs) (r : Value) (w' : World)
    (hrun : (Builtin.copy_ #[dT, sT] o.type #[vd, vs]).run P w = .ok r w') (h : wpList P ops Q rest (a.put o.dst r) w') : wpList P ops Q (o :: rest) a w := by
  refine wpList_plain hgd fun K hK => ?_
  unfold Oper.wp
  simp [execOp, ho, resolve, invoke, builtin, hd, hs, hrun, Result.andThen]
  exact hK _ _ h
/-- All but blocks of these types is as it was. -/
structure Kf (T : TypeId → Bool) (A B : World) : Prop where
  size : A.heap.size ≤ B.heap.size
  same : ∀ (k : Nat) (cs : Array Value) (t : TypeId) (fr : Nat × Nat), A.heap[k]? = some (Obj.cells cs t fr) → T t = false → B.heap[k]? = some (Obj.cells cs t fr)
theorem Kf.refl (T : TypeId → Bool) (A : World) : Kf T A A := ⟨Nat.le_refl _, fun _ _ _ _ h _ => h⟩
theorem Kf.trans {T : TypeId → Bool} {A B C : World} (p : Kf T A B) (q : Kf T B C) : Kf T A C := ⟨Nat.le_trans p.size q.size, fun k cs t fr h ht => q.same k cs t fr (p.same k cs t fr h ht) ht⟩
theorem Kf.of_below {T : TypeId → Bool} {A B : World} (p : Below A.heap.size A B) : Kf T A B := ⟨p.size, fun k _ _ _ h _ => (p.block k (Array.getElem?_eq_some_iff.1 h).1).trans h⟩
theorem Kf.rows {T : TypeId → Bool} {t : TypeId} {A B : World} (p : Kf T A B) {k : Nat} {cs : Array Value} (r : Rows8 A k t cs) (ht : T t = false) : Rows8 B k t cs := p.same k cs t (0, 0) r ht
theorem Kf.drew {T : TypeId → Bool} {A B : World} (p : Kf T A B) : Kf T A B.drew := ⟨p.size, p.same⟩
theorem shutAll_below {h : Nat} : ∀ (Ds : List Nat) (W : World), Ds.Nodup → (∀ D ∈ Ds, W.heap[D]? = some (.deferred (some [])) ∧ h ≤ D) → Below h W (shutAll W Ds)
  | [], W, _, _ => Below.refl _ _
  | D :: Ds, W, hn, hK => by
    obtain ⟨h1, h2⟩ := List.nodup_cons.1 hn
    have hlt := (Array.getElem?_eq_some_iff.1 (hK D (by simp)).1).1
    have p : Below h W (W.putObj D (.deferred none)) := ⟨rfl, rfl, rfl, by simp [World.putObj], fun k hk => World.putObj_heap_other (by have := (hK D (by simp)).2; omega)⟩
    exact p.trans (shutAll_below Ds _ h2 (fun E hE => ⟨(World.putObj_heap_other (by rintro rfl; exact h1 hE)).trans (hK E (by simp [hE])).1, (hK E (by simp [hE])).2⟩))
theorem shutAll_owns {n₀ k n : Nat} {e : TypeId} {v : Value} {cs : List Value} : ∀ (Ds : List Nat) (W : World), Ds.Nodup → (∀ D ∈ Ds, W.heap[D]? = some (.deferred (some []))) → W.ownsRow n₀ e k v n cs → (shutAll W Ds).ownsRow n₀ e k v n cs
  | [], _, _, _, h => h
  | D :: Ds, W, hn, hK, h => by
    obtain ⟨h1, h2⟩ := List.nodup_cons.1 hn
    exact shutAll_owns Ds _ h2 (fun E hE => (World.putObj_heap_other (by rintro rfl; exact h1 hE)).trans (hK E (by simp [hE]))) (ownsRow_putObj h _ (hK D (by simp)) rfl)
theorem made_pairs (n : Nat) : (madeCells (Value.agg #[.int .i64 0, .int .u64 0]).cells (n * 2)).toList = pVals (List.replicate n (0, 0)) := by
  apply List.ext_getElem?
  intro j
  have hl : (pVals (List.replicate n (0, 0))).length = n * 2 := by rw [pVals_length, List.length_replicate]
  by_cases hj : j < n * 2
  · have h2 : j / 2 < (List.replicate n ((0, 0) : Pr)).length := by rw [List.length_replicate]; omega
    have f0 := flat_get pCells 2 (fun _ => rfl) (List.replicate n (0, 0)) (j / 2) (j % 2) h2 (by omega)
    rw [show j / 2 * 2 + j % 2 = j by omega] at f0
    unfold pVals
    rw [f0, List.getElem_replicate]
    rcases (by omega : j % 2 = 0 ∨ j % 2 = 1) with e | e
    · rw [e]; simp [madeCells, hj, e, Value.cells, pCells]
    · rw [e]; simp [madeCells, hj, e, Value.cells, pCells]
  · rw [List.getElem?_eq_none (by simp [madeCells]; omega), List.getElem?_eq_none (by omega)]
def panicA (n : Int) : List PanicEntry := [{ v := .iface 31 (.int .i64 n), recovered := false }]
theorem Tryd.neq_nil (n : Int) (W : World) : (binOp BinOp.neq 20 (.iface 31 (.int .i64 n)) .nilIface).run Tryd.prog W = .ok (.bool true) W := by kernel_rfl
theorem Tryd.assert_yes (v : Value) (W : World) : (Instr.typeAssert (.iface 31 v) 20 31 true).run Tryd.prog W = .ok (.tuple #[v, .bool true]) W := by kernel_rfl
theorem Tryd.nil_nil (W : World) : (binOp BinOp.neq 20 .nilIface .nilIface).run Tryd.prog W = .ok (.bool false) W := by kernel_rfl
theorem results_ctt {P : Program} {fn : Func} {p q r : Tmp} {ty : TypeId} (h : fn.results = #[.cell p ty, .tmp q, .tmp r]) (tmps : Array Value) (w : World) (B : Nat) (u x y : Value)
    (hp : tmps.getD p undef = .pointer (some ⟨B, 0, none⟩)) (hx : tmps.getD q undef = x) (hy : tmps.getD r undef = y) (h1 : (loadVar ty ⟨B, 0, none⟩).run P w = .ok u w) :
    (results fn tmps).run P w = .ok (.tuple #[u, x, y]) w := by
  have hp' : tmps[p]?.getD undef = .pointer (some ⟨B, 0, none⟩) := by simpa using hp
  have hx' : tmps[q]?.getD undef = x := by simpa using hx
  have hy' : tmps[r]?.getD undef = y := by simpa using hy
  simp [results, h, hp', hx', hy', asAddr, h1, Result.andThen]
theorem Kf.set {T : TypeId → Bool} {t : TypeId} (ht : T t = true) (A : World) {a : Addr} {cs : Array Value} (r : Rows8 A a.block t cs) (v : Value) : Kf T A (A.setCell a v) :=
  ⟨by simp [World.setCell], fun k cs' t' fr hk hf => by
    have hne : a.block ≠ k := fun e => by
      subst e
      rw [show A.heap[a.block]? = _ from r] at hk
      injection hk with hk
      injection hk with _ hk _
      rw [← hk, ht] at hf
      cases hf
    show (A.heap.modify a.block _)[k]? = _
    rw [Array.getElem?_modify, if_neg hne]
    exact hk⟩
theorem Kf.setNew {T : TypeId → Bool} {A B : World} (p : Kf T A B) {a : Addr} (h : A.heap.size ≤ a.block) (v : Value) : Kf T A (B.setCell a v) :=
  ⟨by simpa [World.setCell] using p.size, fun k cs t fr hk hf => by
    have hlt := (Array.getElem?_eq_some_iff.1 hk).1
    show (B.heap.modify a.block _)[k]? = _
    rw [Array.getElem?_modify, if_neg (by omega)]
    exact p.same k cs t fr hk hf⟩
theorem Kf.grownT {T : TypeId → Bool} {t : TypeId} (ht : T t = true) {A B : World} {row : Option Nat} (hg : A.grownBy B row) (hr : ∀ r, row = some r → ∃ cs, Rows8 A r t cs) : Kf T A B :=
  ⟨hg.size, fun q cs' t' fr hk hf => (hg.block q (Array.getElem?_eq_some_iff.1 hk).1 (fun e => by
    obtain ⟨cs, hc⟩ := hr q e.symm
    rw [show A.heap[q]? = _ from hc] at hk
    injection hk with hk
    injection hk with _ hk _
    rw [← hk, ht] at hf
    cases hf)).trans hk⟩
abbrev tE : TypeId := 38
/-- A row of entries that lies in memory of the call's own: a piece of a block, with the room behind it. -/
def OwnE (n₀ : Nat) (q : List Pr) (v : Value) (W : World) : Prop :=
  (v = .slice none 0 0 ∧ q = []) ∨ ∃ g o c cs, v = .slice (some ⟨g, o, none⟩) q.length c ∧ n₀ ≤ g ∧ Rows8 W g tE cs ∧ q.length ≤ c ∧ c ≤ maxLen ∧ o + c * 2 ≤ cs.size ∧ ∀ j, j < q.length * 2 → cs[o + j]? = (pVals q)[j]?
theorem ownE_nil (n₀ : Nat) (W : World) : OwnE n₀ [] (.slice none 0 0) W := .inl ⟨rfl, rfl⟩
theorem OwnE.of {n₀ : Nat} {q : List Pr} {v : Value} {W : World} (h : OwnsP tE n₀ q v W) : OwnE n₀ q v W := by
  rcases h.2 with ⟨rfl, h0⟩ | ⟨g, cap, cur, rfl, hg, hh, hl, hm, hz, ht⟩
  · exact .inl ⟨rfl, List.eq_nil_of_length_eq_zero h0⟩
  · refine .inr ⟨g, 0, cap, cur, rfl, hg, hh, hl, hm, by omega, fun j hj => ?_⟩
    rw [← ht, List.getElem?_take_of_lt hj, Array.getElem?_toList, Nat.zero_add]
theorem OwnE.at {n₀ : Nat} {q : List Pr} {v : Value} {W : World} (h : OwnE n₀ q v W) : PAt W v q := by
  rcases h with ⟨rfl, rfl⟩ | ⟨g, o, c, cs, rfl, hg, hR, hl, hm, hz, hc⟩
  · exact pAt_none W
  · refine ⟨pVals_length q, some ⟨g, o, none⟩, c, rfl, hl, hm, (fun e => by cases e), fun j hj => ⟨g, o, rfl, hR.lt, ?_⟩⟩
    rw [pVals_length] at hj
    rw [hR.cell, hc j hj]
theorem OwnE.form {n₀ : Nat} {q : List Pr} {v : Value} {W : World} (h : OwnE n₀ q v W) : ∃ a c, v = .slice a q.length c ∧ q.length ≤ c ∧ c ≤ maxLen := by
  obtain ⟨_, a, c, h1, h2, h3, _⟩ := h.at
  exact ⟨a, c, h1, h2, h3⟩
theorem OwnE.lt {n₀ : Nat} {q : List Pr} {v : Value} {W : World} (h : OwnE n₀ q v W) (j : Nat) (e : v.ownBlock = some j) : n₀ ≤ j ∧ j < W.heap.size := by
  rcases h with ⟨rfl, _⟩ | ⟨g, o, c, cs, rfl, hg, hR, _⟩
  · simp [Value.ownBlock] at e
  · simp [Value.ownBlock] at e
    subst e
    exact ⟨hg, hR.lt⟩
theorem OwnE.rows {n₀ : Nat} {q : List Pr} {v : Value} {W : World} (h : OwnE n₀ q v W) (j : Nat) (e : v.ownBlock = some j) : ∃ cs, Rows8 W j tE cs := by
  rcases h with ⟨rfl, _⟩ | ⟨g, o, c, cs, rfl, hg, hR, _⟩
  · simp [Value.ownBlock] at e
  · simp [Value.ownBlock] at e
    subst e
    exact ⟨_, hR⟩
theorem OwnE.mono {n₀ n₁ : Nat} {q : List Pr} {v : Value} {W : World} (h : OwnE n₁ q v W) (hn : n₀ ≤ n₁) : OwnE n₀ q v W := by
  rcases h with h | ⟨g, o, c, cs, h1, hg, h2⟩
  · exact .inl h
  · exact .inr ⟨g, o, c, cs, h1, Nat.le_trans hn hg, h2⟩
/-- .. is kept where its block is. -/
theorem OwnE.kept {n₀ : Nat} {q : List Pr} {v : Value} {A B : World} (h : OwnE n₀ q v A) (hb : ∀ j, v.ownBlock = some j → B.heap[j]? = A.heap[j]?) : OwnE n₀ q v B := by
  rcases h with h | ⟨g, o, c, cs, rfl, h0, hR, h2⟩
  · exact .inl h
  · exact .inr ⟨g, o, c, cs, rfl, h0, (hb g (by simp [Value.ownBlock])).trans hR, h2⟩
theorem OwnE.grown {n₀ : Nat} {q : List Pr} {v : Value} {A B : World} {row : Option Nat} (h : OwnE n₀ q v A) (hg : A.grownBy B row) (hne : v.ownBlock = none ∨ v.ownBlock ≠ row) : OwnE n₀ q v B :=
  h.kept fun j ej => hg.block j (h.lt j ej).2 (fun e => by
    rcases hne with h1 | h1
    · rw [h1] at ej; cases ej
    · exact h1 (ej.trans e))
theorem OwnE.keep {n₀ hh : Nat} {q : List Pr} {v : Value} {A B : World} (h : OwnE n₀ q v A) (hB : Below hh A B) (hA : A.heap.size ≤ hh) : OwnE n₀ q v B :=
  h.kept fun j ej => hB.block j (Nat.lt_of_lt_of_le (h.lt j ej).2 hA)
theorem OwnE.drew {n₀ : Nat} {q : List Pr} {v : Value} {W : World} (h : OwnE n₀ q v W) : OwnE n₀ q v W.drew := h.kept fun _ _ => rfl
theorem OwnE.ne {n₀ : Nat} {q : List Pr} {v : Value} {W : World} (h : OwnE n₀ q v W) {B : Nat} {t : TypeId} {ds : Array Value} (hR : Rows8 W B t ds) (hne : t ≠ tE) : v.ownBlock ≠ some B := fun e => by
  obtain ⟨cs, hc⟩ := h.rows B e
  exact rows_apart hR hc hne rfl
/-- .. and where a cell of a block of another type is written. -/
theorem OwnE.setCell {n₀ : Nat} {q : List Pr} {v : Value} {W : World} (h : OwnE n₀ q v W) {B : Nat} {t : TypeId} {ds : Array Value} (hR : Rows8 W B t ds) (hne : t ≠ tE) (o : Nat) (u : Value) : OwnE n₀ q v (W.setCell ⟨B, o, none⟩ u) :=
  h.kept fun j ej => Below.heap_setCell W ⟨B, o, none⟩ u j (fun e => h.ne hR hne (by rw [ej]; exact congrArg some e))
theorem OwnE.setLow {n₀ : Nat} {q : List Pr} {v : Value} {W : World} (h : OwnE n₀ q v W) {B : Nat} (hB : B < n₀) (o : Nat) (u : Value) : OwnE n₀ q v (W.setCell ⟨B, o, none⟩ u) :=
  h.kept fun j ej => Below.heap_setCell W ⟨B, o, none⟩ u j (fun e => by have h1 := (h.lt j ej).1; have h2 : j = B := e; omega)
theorem pVals_get {q : List Pr} {z : Pr} (j : Nat) (h : j < q.length * 2) : (pVals (q ++ [z]))[j]? = (pVals q)[j]? := by
  rw [pVals_snoc, List.getElem?_append_left (by rw [pVals_length]; exact h)]
/-- One is appended. -/
theorem Tryd.append_e (w : World) (n₀ : Nat) (ty : TypeId) (q : List Pr) (v : Value) (h : OwnE n₀ q v w) (z : Pr) (x : Addr) (c0 : Nat) (hs : ∀ j u, (pCells z)[j]? = some u → w.cell? (x.add j) = some u) (hl : q.length + 1 ≤ 1000000) (hbase : n₀ ≤ w.heap.size) :
    ∃ v' w', (Builtin.append_ #[23, 23] ty #[v, .slice (some x) 1 c0]).run Tryd.prog w = .ok v' w' ∧ OwnE n₀ (q ++ [z]) v' w' ∧ w.grownBy w' v.ownBlock ∧ (v'.ownBlock = v.ownBlock ∨ ∀ j, v'.ownBlock = some j → w.heap.size ≤ j) := by
  obtain ⟨i0, hi, hz0, hz1, hz2⟩ := info_parts Tryd.infoEntry
  have h1c : ∀ u ∈ pCells z, u.oneCell' = true := by
    intro u hu
    simp [pCells] at hu
    rcases hu with rfl | rfl <;> rfl
  rcases h with ⟨rfl, rfl⟩ | ⟨g, o, c, cs, rfl, h0, hR, hlc, hm, hz, hc⟩
  · obtain ⟨v', w', h1, h2, h3, h4, h5⟩ := run_append_own_at (P := Tryd.prog) w n₀ 23 ty tE i0 (.agg #[.int .i64 0, .int .u64 0]) 2 16 Tryd.underlying23 hi hz0 hz1 hz2 rfl (by decide) (.slice none 0 0) 0 [] (World.ownsRow_nil _ _ _ _) x 1 c0 (pCells z) rfl hs h1c (by unfold maxLen; omega) (by omega) hbase
    exact ⟨v', w', h1, .of h2, h3, h5.imp id fun e j ej => by rw [e] at ej; injection ej with ej; omega⟩
  · by_cases hr : q.length + 1 ≤ c
    · have hcell : ∀ j, j < 2 → w.cell? ⟨g, o + q.length * 2 + j, none⟩ = cs[o + q.length * 2 + j]? ∧ o + q.length * 2 + j < cs.size := fun j hj => ⟨hR.cell _, by omega⟩
      have hrun := run_append_room_cells (P := Tryd.prog) w 23 ty tE i0 Tryd.underlying23 hi g o q.length c x 1 c0 (pCells z) (by rw [hz1]; rfl) hs h1c hr
        (fun j hj => by
          rw [hz1]
          have := hcell j hj
          rw [this.1, Array.getElem?_eq_getElem this.2]
          rfl)
        (fun j hj => hR.frozen _)
      rw [hz1] at hrun
      have hset : w.setCells g (o + q.length * 2) (pCells z) = (w.setCell ⟨g, o + q.length * 2, none⟩ (.int .i64 z.1)).setCell ⟨g, o + q.length * 2 + 1, none⟩ (.int .u64 (z.2 : Nat)) := rfl
      rw [hset] at hrun
      have r2 := (hR.set (o + q.length * 2) (.int .i64 z.1)).set (o + q.length * 2 + 1) (.int .u64 (z.2 : Nat))
      refine ⟨_, _, hrun, .inr ⟨g, o, c, _, by rw [List.length_append]; rfl, h0, r2, by simpa using hr, hm, by simpa using hz, fun j hj => ?_⟩, ?_, .inl rfl⟩
      · rw [List.length_append] at hj
        simp only [List.length_singleton] at hj
        by_cases hj2 : j < q.length * 2
        · rw [pVals_get j hj2, ← hc j hj2, Array.getElem?_setIfInBounds_ne (by omega), Array.getElem?_setIfInBounds_ne (by omega)]
        · rw [pVals_snoc, List.getElem?_append_right (by rw [pVals_length]; omega), pVals_length]
          rcases (by omega : j = q.length * 2 ∨ j = q.length * 2 + 1) with rfl | rfl
          · rw [Array.getElem?_setIfInBounds_ne (by omega), Array.getElem?_setIfInBounds_self, if_pos (by omega), Nat.sub_self]
            rfl
          · rw [show o + (q.length * 2 + 1) = o + q.length * 2 + 1 by omega, Array.getElem?_setIfInBounds_self, if_pos (by simp; omega), show q.length * 2 + 1 - q.length * 2 = 1 by omega]
            rfl
      · exact ⟨rfl, rfl, rfl, by simp [World.setCell], fun k _ hk => (Below.heap_setCell _ ⟨g, _, none⟩ _ k (fun e => hk (by simp [Value.ownBlock, show k = g from e]))).trans (Below.heap_setCell _ ⟨g, _, none⟩ _ k (fun e => hk (by simp [Value.ownBlock, show k = g from e])))⟩
    · have hat : PAt w (.slice (some ⟨g, o, none⟩) q.length c) q := OwnE.at (.inr ⟨g, o, c, cs, rfl, h0, hR, hlc, hm, hz, hc⟩)
      obtain ⟨v', w', h1, h2, h3⟩ := run_append_arg_grows (P := Tryd.prog) w 23 ty tE i0 (.agg #[.int .i64 0, .int .u64 0]) 2 16 Tryd.underlying23 hi hz0 hz1 hz2 rfl (by decide) ⟨g, o, none⟩ q.length c (pVals q) (pVals_length q) (row_src hat) x 1 c0 (pCells z) rfl hs (by omega) (by unfold maxLen; omega) (by omega)
      have hO : OwnsP tE w.heap.size (q ++ [z]) v' w' := by
        unfold OwnsP
        rw [pVals_snoc, List.length_append]
        exact h2
      exact ⟨v', w', h1, (OwnE.of hO).mono hbase, ⟨h3.os, h3.tape, h3.output, h3.size, fun k hk _ => h3.block k hk (by simp)⟩, .inr fun j ej => (OwnE.lt (.of hO) j ej).1⟩
/-- The first one is cut off; the room may be, too. -/
theorem OwnE.cut {n₀ : Nat} {z : Pr} {q : List Pr} {g o c : Nat} {W : World} (h : OwnE n₀ (z :: q) (.slice (some ⟨g, o, none⟩) (q.length + 1) (c + 1)) W) (d : Nat) (hd : d ≤ c) (hq : q.length ≤ d) : OwnE n₀ q (.slice (some ⟨g, o + 2, none⟩) q.length d) W := by
  rcases h with ⟨h, _⟩ | ⟨g, o, c, cs, e, h0, hR, hl, hm, hz, hc⟩
  · cases h
  · injection e with e1 _ e3
    injection e1 with e1
    injection e1 with e1 e2
    subst e1 e2 e3
    refine .inr ⟨_, _, d, cs, rfl, h0, hR, hq, by omega, by omega, fun j hj => ?_⟩
    have := hc (j + 2) (by simp; omega)
    rw [show o + 2 + j = o + (j + 2) by omega, this]
    show (pCells z ++ pVals q)[j + 2]? = _
    rw [List.getElem?_append_right (by simp [pCells])]
    simp [pCells]
/-- .. of one that had but that: where it points doesn't matter. -/
theorem OwnE.cut0 {n₀ : Nat} {z : Pr} {g o c : Nat} {W : World} (h : OwnE n₀ [z] (.slice (some ⟨g, o, none⟩) 1 (c + 1)) W) : OwnE n₀ [] (.slice (some ⟨g, o, none⟩) 0 0) W := by
  rcases h with ⟨h, _⟩ | ⟨g, o, c, cs, e, h0, hR, hl, hm, hz, hc⟩
  · cases h
  · injection e with e1 _ e3
    injection e1 with e1
    injection e1 with e1 e2
    subst e1 e2 e3
    exact .inr ⟨_, _, 0, cs, rfl, h0, hR, Nat.le_refl _, by omega, by omega, fun j hj => absurd hj (by simp)⟩
end Go.Proofs
