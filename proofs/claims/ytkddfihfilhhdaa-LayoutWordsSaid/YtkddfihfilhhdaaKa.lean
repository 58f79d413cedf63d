/- Rows, blocks, appends: what holds at every seat. -/
import Derived.RangeFuncNested
import Derived.RangeFuncBound
import Derived.RangeFuncCalls
import Derived.RangeFuncLeaves
import Derived.RangeFuncBox
import Derived.Shelf.Abstract
import Derived.Shelf.RegionOpen
import Derived.WalkKit
import Derived.OwnWalkIn
import Derived.TacticsInMore
import Derived.LoopNIn
import Derived.LoopIn
import Derived.WalkLawsBesides
import Derived.WalkSpells
import Derived.Lib.Hide
import Derived.Deep.QuietTactic
import Derived.Deep.RegionHeld3
import Derived.BigQuiet
import Derived.StillTailTactics
import Derived.Outline
import Derived.Laws.CopyOwn
import Derived.Laws.LoneSync
import Derived.Maps.AppendAt
import Derived.Lib.SliceRun
import Derived.OneCell
import Derived.Below
import Derived.Deep.CutRange
import Derived.Deep.LoopGhost
import Derived.Deep.AppendLies
import Derived.Deep.SlicePairs
import Derived.OpenShut
import Derived.IntWalk
import Derived.Test.YtkddfihfilhhdaaProg
namespace Go.Proofs
set_option maxRecDepth 100000
open Go.RowKit Go.Shelf
attribute [local go_sem] Oper.semAt_some

/-- A row that reads as these cells, n elements of k cells each. -/
def RowAt (W : World) (v : Value) (n k : Nat) (cs : List Value) : Prop :=
  cs.length = n * k ∧ ∃ a cap, v = .slice a n cap ∧ n ≤ cap ∧ cap ≤ maxLen ∧ (a = none → cap = 0) ∧
    ∀ j, j < cs.length → ∃ b off, a = some ⟨b, off, none⟩ ∧ b < W.heap.size ∧ W.cell? ⟨b, off + j, none⟩ = cs[j]?
theorem RowAt.below {W W' : World} {v : Value} {n k : Nat} {cs : List Value} (h : RowAt W v n k cs) (hB : Below W.heap.size W W') : RowAt W' v n k cs := by
  obtain ⟨h0, a, cap, h1, h2, h3, h4, h5⟩ := h
  refine ⟨h0, a, cap, h1, h2, h3, h4, fun j hj => ?_⟩
  obtain ⟨b, off, e, hb, hc⟩ := h5 j hj
  exact ⟨b, off, e, Nat.lt_of_lt_of_le hb hB.size, (hB.cell (p := ⟨b, off + j, none⟩) hb).trans hc⟩
theorem rowAt_own {n₀ : Nat} {e : TypeId} {k n : Nat} {v : Value} {cs : List Value} {W : World} (h : W.ownsRow n₀ e k v n cs) : RowAt W v n k cs := by
  rcases h.2 with ⟨rfl, rfl⟩ | ⟨g, cap, cur, rfl, hg, hh, hl, hm, _, _⟩
  · exact ⟨h.1, none, 0, rfl, Nat.le_refl _, Nat.zero_le _, fun _ => rfl, fun j hj => by rw [h.1] at hj; omega⟩
  · refine ⟨h.1, _, cap, rfl, hl, hm, (fun e => by cases e), fun j hj => ⟨g, 0, rfl, (Array.getElem?_eq_some_iff.1 hh).1, ?_⟩⟩
    rw [Nat.zero_add]
    exact World.ownsRow.cellAt h j (by have := h.1; omega)
theorem owns_mono {n₀ n₁ : Nat} {e : TypeId} {k n : Nat} {v : Value} {cs : List Value} {W : World} (h : W.ownsRow n₁ e k v n cs) (hn : n₀ ≤ n₁) : W.ownsRow n₀ e k v n cs :=
  ⟨h.1, h.2.imp id fun ⟨g, cap, cur, h1, h2, h3⟩ => ⟨g, cap, cur, h1, Nat.le_trans hn h2, h3⟩⟩
theorem owns_keep {n₀ h : Nat} {e : TypeId} {k n : Nat} {v : Value} {cs : List Value} {A B : World} (o : A.ownsRow n₀ e k v n cs) (hB : Below h A B) (hh : A.heap.size ≤ h) : B.ownsRow n₀ e k v n cs := by
  refine World.ownsRow.kept o (row := none) ⟨hB.os, hB.tape, hB.output, hB.size, fun k hk _ => hB.block k (Nat.lt_of_lt_of_le hk hh)⟩ ?_
  cases e : v.ownBlock <;> simp

/-- A block of cells. -/
def Rows8 (W : World) (B : Nat) (t : TypeId) (cs : Array Value) : Prop := W.heap[B]? = some (.cells cs t (0, 0))
theorem Rows8.lt {W : World} {B : Nat} {t : TypeId} {cs : Array Value} (h : Rows8 W B t cs) : B < W.heap.size := (Array.getElem?_eq_some_iff.1 h).1
theorem Rows8.cell {W : World} {B : Nat} {t : TypeId} {cs : Array Value} (h : Rows8 W B t cs) (o : Nat) : W.cell? ⟨B, o, none⟩ = cs[o]? := by simp [World.cell?, show W.heap[B]? = _ from h]
theorem Rows8.frozen {W : World} {B : Nat} {t : TypeId} {cs : Array Value} (h : Rows8 W B t cs) (o : Nat) : W.frozen? ⟨B, o, none⟩ = false := by simp [World.frozen?, show W.heap[B]? = _ from h]
theorem Rows8.new (W : World) (t : TypeId) (cs : Array Value) : Rows8 (W.alloc (.cells cs t)) W.heap.size t cs := World.alloc_heap_new W _
theorem Rows8.alloc {W : World} {B : Nat} {t : TypeId} {cs : Array Value} (h : Rows8 W B t cs) (o : Obj) : Rows8 (W.alloc o) B t cs := (Below.heap_alloc _ _ _ h.lt).trans h
theorem Rows8.set {W : World} {B : Nat} {t : TypeId} {cs : Array Value} (h : Rows8 W B t cs) (o : Nat) (v : Value) : Rows8 (W.setCell ⟨B, o, none⟩ v) B t (cs.setIfInBounds o v) := by
  obtain ⟨hlt, hk⟩ := Array.getElem?_eq_some_iff.1 h
  show (W.heap.modify B _)[B]? = _
  rw [Array.getElem?_eq_getElem (by rw [Array.size_modify]; exact hlt), Array.getElem_modify_self, hk]
  rfl
theorem Rows8.set2 {W : World} {B : Nat} {t : TypeId} {a b : Value} (h : Rows8 W B t #[a, b]) (u v : Value) : Rows8 ((W.setCell ⟨B, 0, none⟩ u).setCell ⟨B, 1, none⟩ v) B t #[u, v] := by
  have h1 := (h.set 0 u).set 1 v
  simp only [List.setIfInBounds_toArray, List.set_cons_zero, List.set_cons_succ] at h1
  exact h1
theorem Rows8.setOther {W : World} {B : Nat} {t : TypeId} {cs : Array Value} (h : Rows8 W B t cs) {a : Addr} (ha : a.block ≠ B) (v : Value) : Rows8 (W.setCell a v) B t cs := by
  have h' : W.heap[B]? = _ := h
  show (W.heap.modify a.block _)[B]? = _
  rw [Array.getElem?_modify, if_neg ha]
  exact h'
theorem Rows8.below {A B : World} {h b : Nat} {t : TypeId} {cs : Array Value} (r : Rows8 A b t cs) (p : Below h A B) (h1 : b < h) : Rows8 B b t cs := (p.block b h1).trans r

theorem below_setBoth {h : Nat} {A B : World} (p : Below h A B) {a : Addr} (v : Value) : Below h (A.setCell a v) (B.setCell a v) := by
  refine ⟨p.os, p.tape, p.output, by simpa [World.setCell] using p.size, fun k hk => ?_⟩
  have hb := p.block k hk
  by_cases e : k = a.block
  · subst e
    simp only [World.setCell, Array.getElem?_modify, hb]
  · simp only [World.setCell, Array.getElem?_modify, hb, if_neg (fun h : a.block = k => e h.symm)]

theorem flat_length {α : Type} (f : α → List Value) (k : Nat) (h : ∀ a, (f a).length = k) (l : List α) : (l.flatMap f).length = l.length * k := by
  induction l with
  | nil => simp
  | cons a l ih => simp [h, ih, Nat.add_mul]; omega
theorem flat_get {α : Type} (f : α → List Value) (k : Nat) (h : ∀ a, (f a).length = k) (l : List α) (j i : Nat) (hj : j < l.length) (hi : i < k) : (l.flatMap f)[j * k + i]? = (f l[j])[i]? := by
  induction l generalizing j with
  | nil => simp at hj
  | cons a l ih =>
    cases j with
    | zero =>
      simp only [List.flatMap_cons, Nat.zero_mul, Nat.zero_add, List.getElem_cons_zero]
      rw [List.getElem?_append_left (by rw [h]; exact hi)]
    | succ j =>
      simp only [List.flatMap_cons, List.getElem_cons_succ]
      rw [List.getElem?_append_right (by rw [h, Nat.add_mul]; omega), h, show (j + 1) * k + i - k = j * k + i by rw [Nat.add_mul]; omega]
      exact ih j (by simpa using hj)
theorem owns_ne {W : World} {n₀ n₁ k k' n n' : Nat} {e e' : TypeId} {v v' : Value} {cs cs' : List Value} (h : W.ownsRow n₀ e k v n cs) (h' : W.ownsRow n₁ e' k' v' n' cs') (hne : e ≠ e') : v.ownBlock = none ∨ v.ownBlock ≠ v'.ownBlock := by
  rcases h.2 with ⟨rfl, _⟩ | ⟨g, cap, cur, rfl, _, hh, _⟩
  · exact .inl rfl
  · rcases h'.2 with ⟨rfl, _⟩ | ⟨g', cap', cur', rfl, _, hh', _⟩
    · exact .inr (by simp [Value.ownBlock])
    · refine .inr fun e2 => ?_
      obtain rfl : g = g' := by simpa [Value.ownBlock] using e2
      rw [hh] at hh'
      injection hh' with h1
      injection h1 with _ h2 _
      exact hne h2
theorem owns_not {W : World} {n₀ k n : Nat} {e : TypeId} {v : Value} {cs : List Value} (h : W.ownsRow n₀ e k v n cs) {B : Nat} {t : TypeId} {ds : Array Value} (hR : Rows8 W B t ds) (hne : e ≠ t) : v.ownBlock ≠ some B := by
  rcases h.2 with ⟨rfl, _⟩ | ⟨g, cap, cur, rfl, _, hh, _⟩
  · simp [Value.ownBlock]
  · intro e2
    obtain rfl : g = B := by simpa [Value.ownBlock] using e2
    rw [show W.heap[g]? = _ from hR] at hh
    injection hh with h1
    injection h1 with _ h2 _
    exact hne h2.symm
theorem cells_new (W : World) (t : TypeId) (cs : List Value) : ∀ j u, cs[j]? = some u → (W.alloc (.cells cs.toArray t)).cell? ((⟨W.heap.size, 0, none⟩ : Addr).add j) = some u := by
  intro j u hu
  have hadd : (⟨W.heap.size, 0, none⟩ : Addr).add j = ⟨W.heap.size, j, none⟩ := by unfold Addr.add; split <;> simp_all
  rw [hadd, Rows8.cell (Rows8.new W t cs.toArray) j]
  simpa using hu
theorem grown_ne {W w1 : World} {n₀ n₁ k k' n n' : Nat} {e e' : TypeId} {v v' : Value} {cs cs' : List Value} (h : W.ownsRow n₀ e k v n cs) (h' : W.ownsRow n₁ e' k' v' n' cs') (hne : e ≠ e') (hg : W.grownBy w1 v'.ownBlock) : w1.ownsRow n₀ e k v n cs :=
  World.ownsRow.kept h hg (owns_ne h h' hne)
theorem flat_take {α : Type} (f : α → List Value) (k : Nat) (h : ∀ a, (f a).length = k) (l : List α) (m : Nat) : (l.take m).flatMap f = (l.flatMap f).take (m * k) := by
  induction l generalizing m with
  | nil => simp
  | cons a l ih =>
    cases m with
    | zero => simp
    | succ m =>
      simp only [List.take_succ_cons, List.flatMap_cons]
      have e1 : List.take ((m + 1) * k) (f a) = f a := List.take_of_length_le (by rw [h, Nat.add_mul]; omega)
      rw [ih m, List.take_append, h, e1, show (m + 1) * k - k = m * k by rw [Nat.add_mul]; omega]
theorem RowAt.cut {W : World} {a : Option Addr} {n cap k : Nat} {cs : List Value} (h : RowAt W (.slice a n cap) n k cs) (m : Nat) (hm : m ≤ n) : RowAt W (.slice a m cap) m k (cs.take (m * k)) := by
  obtain ⟨h0, a', cap', e, h1, h2, h3, h4⟩ := h
  cases e
  have hmk : m * k ≤ n * k := Nat.mul_le_mul_right k hm
  refine ⟨by rw [List.length_take]; omega, a, cap, rfl, Nat.le_trans hm h1, h2, h3, fun j hj => ?_⟩
  rw [List.length_take] at hj
  obtain ⟨b, off, e, hb, hc⟩ := h4 j (by omega)
  exact ⟨b, off, e, hb, by rw [hc, List.getElem?_take, if_pos (by omega)]⟩
theorem row_src {W : World} {x : Addr} {n cap : Nat} {cs : List Value} {k : Nat} (h : RowAt W (.slice (some x) n cap) n k cs) : ∀ j u, cs[j]? = some u → W.cell? (x.add j) = some u := by
  obtain ⟨h0, a', cap', e, h1, h2, h3, h4⟩ := h
  cases e
  intro j u hu
  obtain ⟨b, off, e, hb, hc⟩ := h4 j (List.getElem?_eq_some_iff.1 hu).1
  injection e with e
  subst e
  have hadd : (⟨b, off, none⟩ : Addr).add j = ⟨b, off + j, none⟩ := by unfold Addr.add; split <;> simp_all
  rw [hadd, hc, hu]

theorem take_eq_next {xs ys : List Int} {k : Nat} (h : xs.take k = ys.take k) (hx : k < xs.length) (hy : k < ys.length) (he : xs[k]?.getD 0 = ys[k]?.getD 0) : xs.take (k + 1) = ys.take (k + 1) := by
  rw [List.take_succ_eq_append_getElem hx, List.take_succ_eq_append_getElem hy, h]
  simp [hx, hy] at he
  rw [he]

theorem run_append_row {P : Program} (w : World) (base : Nat) (t ty e : TypeId) (i : TypeInfo) (z : Value) (size bytes : Nat) (ht : P.underlying t = some (.slice e)) (hi : P.info? e = some i) (hz : i.zero = some z)
    (hsize : i.size = size) (hby : i.bytes = bytes) (hzs : z.cells.size = size) (hsz : 0 < size) (v : Value) (n : Nat) (xs : List Value) (hown : w.ownsRow base e size v n xs)
    (src : Value) (m : Nat) (news : List Value) (hr : RowAt w src m size news) (h1 : ∀ u ∈ news, u.oneCell' = true) (h63 : n + m ≤ maxLen) (hbytes : (n + m) * bytes ≤ 140737488355328) (hbase : base ≤ w.heap.size) :
    ∃ v' w', (Builtin.append_ #[t, t] ty #[v, src]).run P w = .ok v' w' ∧ w'.ownsRow base e size v' (n + m) (xs ++ news) ∧ w.grownBy w' v.ownBlock ∧ (v'.ownBlock = v.ownBlock ∨ v'.ownBlock = some w.heap.size) := by
  have hr0 := hr
  obtain ⟨h0, a, cap, rfl, hc, _, hn, _⟩ := hr
  cases a with
  | none =>
    have hc0 := hn rfl
    subst hc0
    obtain rfl : m = 0 := by omega
    obtain rfl : news = [] := List.eq_nil_of_length_eq_zero (by omega)
    refine ⟨v, w, ?_, by simpa using hown, World.grownBy.refl w _, .inl rfl⟩
    rcases hown.2 with ⟨rfl, rfl⟩ | ⟨g, cap, cur, rfl, _, _, hnc, _⟩
    · simp [Builtin.append_, run_underlying ht, sizeOf, typeInfo, hi, Builtin.lenOf, Builtin.firstCells]
    · simp [Builtin.append_, run_underlying ht, sizeOf, typeInfo, hi, Builtin.lenOf, Builtin.firstCells, hnc, storeCells]
  | some x =>
    obtain ⟨v', w', hrun, h2, h3, _, h5⟩ := run_append_own_at (P := P) w base t ty e i z size bytes ht hi hz hsize hby hzs hsz v n xs hown x m cap news h0 (row_src hr0) h1 h63 hbytes hbase
    exact ⟨v', w', hrun, h2, h3, h5⟩
theorem step_append_row {P : Program} (w : World) {ops : Array Oper} {o : Oper} {a : Act} {K : Act → World → Prop} {Q : Exit → Act → World → Prop} {E : Prop} (hgd : o.guard = none) (s x : Operand) (t : TypeId)
    (ho : o.op = .call { callee := .builtin .append, args := #[s, x], argTypes := #[t, t] }) (base : Nat) (e : TypeId) (i : TypeInfo) (z : Value) (size bytes : Nat) (ht : P.underlying t = some (.slice e)) (hi : P.info? e = some i) (hz : i.zero = some z)
    (hsize : i.size = size) (hby : i.bytes = bytes) (hzs : z.cells.size = size) (hsz : 0 < size) (v : Value) (n : Nat) (xs : List Value) (hs : a.eval s = v) (hown : w.ownsRow base e size v n xs)
    (src : Value) (m : Nat) (news : List Value) (hx : a.eval x = src) (hr : RowAt w src m size news) (h1 : ∀ u ∈ news, u.oneCell' = true) (h63 : n + m ≤ maxLen) (hbytes : (n + m) * bytes ≤ 140737488355328) (hbase : base ≤ w.heap.size)
    (h : ∀ v' w', w'.ownsRow base e size v' (n + m) (xs ++ news) → w.grownBy w' v.ownBlock → (v'.ownBlock = v.ownBlock ∨ v'.ownBlock = some w.heap.size) → K (a.put o.dst v') w') :
    if Region.wanted o (yielded ops a.tmps) = true then Oper.wp P o a w K Q else E := by
  have hw : Region.wanted o (yielded ops a.tmps) = true := by simp [Region.wanted, hgd]
  rw [if_pos hw]
  obtain ⟨v', w', hrun, h2, h3, h4⟩ := run_append_row (P := P) w base t o.type e i z size bytes ht hi hz hsize hby hzs hsz v n xs hown src m news hr h1 h63 hbytes hbase
  unfold Oper.wp execOp
  simp only [ho, resolve, invoke, builtin, Sem.run_bind, Sem.run_pure, Result.andThen_ok, List.map_toArray, List.map_cons, List.map_nil, hs, hx, hrun]
  exact h v' w' h2 h3 h4
theorem wpList_append_row {P : Program} (w : World) {ops : Array Oper} {rest : List Oper} {o : Oper} {a : Act} {Q : Exit → Act → World → Prop} (hgd : o.guard = none) (s x : Operand) (t : TypeId)
    (ho : o.op = .call { callee := .builtin .append, args := #[s, x], argTypes := #[t, t] }) (base : Nat) (e : TypeId) (i : TypeInfo) (z : Value) (size bytes : Nat) (ht : P.underlying t = some (.slice e)) (hi : P.info? e = some i) (hz : i.zero = some z)
    (hsize : i.size = size) (hby : i.bytes = bytes) (hzs : z.cells.size = size) (hsz : 0 < size) (v : Value) (n : Nat) (xs : List Value) (hs : a.eval s = v) (hown : w.ownsRow base e size v n xs)
    (src : Value) (m : Nat) (news : List Value) (hx : a.eval x = src) (hr : RowAt w src m size news) (h1 : ∀ u ∈ news, u.oneCell' = true) (h63 : n + m ≤ maxLen) (hbytes : (n + m) * bytes ≤ 140737488355328) (hbase : base ≤ w.heap.size)
    (h : ∀ v' w', w'.ownsRow base e size v' (n + m) (xs ++ news) → w.grownBy w' v.ownBlock → (v'.ownBlock = v.ownBlock ∨ v'.ownBlock = some w.heap.size) → wpList P ops Q rest (a.put o.dst v') w') : wpList P ops Q (o :: rest) a w :=
  wpList_plain hgd fun K hK => by
    obtain ⟨v', w', hrun, h2, h3, h4⟩ := run_append_row (P := P) w base t o.type e i z size bytes ht hi hz hsize hby hzs hsz v n xs hown src m news hr h1 h63 hbytes hbase
    unfold Oper.wp execOp
    simp only [ho, resolve, invoke, builtin, Sem.run_bind, Sem.run_pure, Result.andThen_ok, List.map_toArray, List.map_cons, List.map_nil, hs, hx, hrun]
    exact hK _ _ (h v' w' h2 h3 h4)

/-- A block that holds one element, as a row. -/
theorem own1 {W : World} {B : Nat} {t : TypeId} {cs : Array Value} {n₀ k : Nat} (h : Rows8 W B t cs) (hb : n₀ ≤ B) (hk : cs.size = k) : W.ownsRow n₀ t k (.slice (some ⟨B, 0, none⟩) 1 1) 1 cs.toList :=
  ⟨by simpa using hk, .inr ⟨B, 1, cs, rfl, hb, h, Nat.le_refl _, by unfold maxLen; omega, by rw [Nat.one_mul]; exact hk, List.take_of_length_le (by rw [Array.length_toList, hk, Nat.one_mul]; exact Nat.le_refl _)⟩⟩
theorem rows_new2 (W : World) (o : Obj) (t : TypeId) (cs : Array Value) : Rows8 ((W.alloc o).alloc (.cells cs t)) (W.heap.size + 1) t cs := by
  have h := Rows8.new (W.alloc o) t cs
  rwa [World.size_alloc] at h
/-- What stands behind a first append, whatever was laid ahead of it. -/
structure After1 (n₀ : Nat) (W X wx : World) (u v : Value) : Prop where
  below : Below n₀ W wx
  size : W.heap.size ≤ X.heap.size ∧ X.heap.size ≤ wx.heap.size
  news : ∀ B t cs, Rows8 X B t cs → W.heap.size ≤ B → Rows8 wx B t cs
  olds : ∀ B t cs, Rows8 W B t cs → u.ownBlock ≠ some B → Rows8 wx B t cs
  own : ∀ n₁ e k v' n cs, W.ownsRow n₁ e k v' n cs → (v'.ownBlock = none ∨ v'.ownBlock ≠ u.ownBlock) → wx.ownsRow n₁ e k v' n cs
  lies : ∀ j, v.ownBlock = some j → (j < W.heap.size ∧ u.ownBlock = some j) ∨ j = X.heap.size
theorem after1 {n₀ : Nat} {W X wx : World} {u v : Value} {e : TypeId} {k n : Nat} {cs : List Value} (hu : W.ownsRow n₀ e k u n cs) (hn : n₀ ≤ W.heap.size) (hX : Below W.heap.size W X) (hg : X.grownBy wx u.ownBlock) (hv : v.ownBlock = u.ownBlock ∨ v.ownBlock = some X.heap.size) : After1 n₀ W X wx u v := by
  have hul : ∀ j, u.ownBlock = some j → n₀ ≤ j ∧ j < W.heap.size := fun j e2 => World.ownsRow.lt hu j e2
  refine ⟨(hX.mono hn).grown hg (Nat.le_trans hn hX.size) (fun j e2 => (hul j e2).1), ⟨hX.size, hg.size⟩, fun B t cs hR hB => ?_, fun B t cs hR hne => ?_, fun n₁ e' k' v' n' cs' ho hne => ?_, fun j ej => ?_⟩
  · exact (hg.block B hR.lt (fun e2 => by have := (hul B e2.symm).2; omega)).trans hR
  · exact (hg.block B (Nat.lt_of_lt_of_le hR.lt hX.size) (fun e2 => hne e2.symm)).trans (hR.below hX hR.lt)
  · exact World.ownsRow.kept (owns_keep ho hX (Nat.le_refl _)) hg hne
  · rcases hv with hv | hv
    · rw [hv] at ej
      exact .inl ⟨(hul j ej).2, ej⟩
    · rw [hv] at ej
      injection ej with ej
      exact .inr ej.symm
theorem after2 {n₀ n₁ : Nat} {W X wx Y wy : World} {u v v9 : Value} {e : TypeId} {k n b5 : Nat} {cs : List Value} (ha : After1 n₀ W X wx u v) (h8 : wx.ownsRow n₁ e k v n cs) (hY : Below wx.heap.size wx Y) (hn : n₀ ≤ wx.heap.size)
    (hg : Y.grownBy wy (some b5)) (h9 : v9.ownBlock = some b5 ∨ v9.ownBlock = some Y.heap.size) (hb : b5 = wx.heap.size ∨ (W.heap.size ≤ b5 ∧ b5 < X.heap.size)) (hnb : n₀ ≤ b5) :
    wy.ownsRow n₁ e k v n cs ∧ (v.ownBlock = none ∨ v.ownBlock ≠ v9.ownBlock) ∧ Below n₀ W wy := by
  have key : ∀ j, v.ownBlock = some j → j ≠ b5 ∧ j < wx.heap.size := fun j ej => by
    have h1 := (World.ownsRow.lt h8 j ej).2
    refine ⟨?_, h1⟩
    rcases hb with hb | ⟨hb1, hb2⟩
    · omega
    · rcases ha.lies j ej with ⟨h2, _⟩ | h2 <;> omega
  refine ⟨World.ownsRow.kept (owns_keep h8 hY (Nat.le_refl _)) hg ?_, ?_, (ha.below.trans (hY.mono hn)).grown hg (Nat.le_trans hn hY.size) (fun j e2 => by injection e2 with e2; omega)⟩
  · cases ej : v.ownBlock with
    | none => exact .inl rfl
    | some j => exact .inr fun e2 => (key j ej).1 (by injection e2)
  · cases ej : v.ownBlock with
    | none => exact .inl rfl
    | some j =>
      refine .inr fun e2 => ?_
      have h1 := key j ej
      have h2 := hY.size
      rcases h9 with h9 | h9
      · rw [h9] at e2; injection e2 with e2; exact h1.1 e2
      · rw [h9] at e2; injection e2 with e2; omega
theorem results_c {P : Program} {fn : Func} {p : Tmp} {ty : TypeId} (h : fn.results = #[.cell p ty]) (tmps : Array Value) (w : World) (g : Nat) (t : TypeId) (cs : Array Value) (fr : Nat × Nat) (d : TypeDesc)
    (hp : tmps.getD p undef = .pointer (some ⟨g, 0, none⟩)) (hg : w.heap[g]? = some (.cells cs t fr))
    (hu : P.underlying ty = some d) (hd : (match d with | .struct _ | .array _ _ => true | _ => false) = true) (hi : (P.info? ty).map (·.size) = some cs.size) :
    (results fn tmps).run P w = .ok (.agg cs) w := by
  have hp' : tmps[p]?.getD undef = .pointer (some ⟨g, 0, none⟩) := by simpa using hp
  simp [results, h, hp', asAddr, run_loadVar_row w g t ty cs fr d hg hu hd hi]
end Go.Proofs
