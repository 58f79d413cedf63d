/- Rows, blocks, appends: what holds at every seat. -/
import Derived.RangeFuncNested
import Derived.RangeFuncBound
import Derived.RangeFuncCalls
import Derived.RangeFuncLeaves
import Derived.RangeFuncBox
import Derived.Shelf.Abstract
import Derived.Shelf.RegionOpen
import Derived.WalkKit
import Derived.OwnWalkIn
import Derived.TacticsInMore
import Derived.LoopNIn
import Derived.LoopIn
import Derived.WalkLawsBesides
import Derived.WalkSpells
import Derived.Lib.Hide
import Derived.Deep.QuietTactic
import Derived.Deep.RegionHeld3
import Derived.BigQuiet
import Derived.StillTailTactics
import Derived.Outline
import Derived.Laws.CopyOwn
import Derived.Laws.LoneSync
import Derived.Maps.AppendAt
import Derived.Lib.SliceRun
import Derived.OneCell
import Derived.Below
import Derived.Deep.CutRange
import Derived.Deep.LoopGhost
import Derived.Deep.AppendLies
import Derived.Deep.SlicePairs
import Derived.OpenShut
import Derived.IntWalk
import Derived.Test.YtacphakpmmickaaGreatZI
namespace Go.Proofs
set_option maxRecDepth 100000
open Go.RowKit Go.Shelf
attribute [local go_sem] Oper.semAt_some

/-- A row that reads as these cells, n elements of k cells each. -/
def RowAt (W : World) (v : Value) (n k : Nat) (cs : List Value) : Prop :=
  cs.length = n * k ∧ ∃ a cap, v = .slice a n cap ∧ n ≤ cap ∧ cap ≤ maxLen ∧ (a = none → cap = 0) ∧
    ∀ j, j < cs.length → ∃ b off, a = some ⟨b, off, none⟩ ∧ b < W.heap.size ∧ W.cell? ⟨b, off + j, none⟩ = cs[j]?
theorem RowAt.below {W W' : World} {v : Value} {n k : Nat} {cs : List Value} (h : RowAt W v n k cs) (hB : Below W.heap.size W W') : RowAt W' v n k cs := by
  obtain ⟨h0, a, cap, h1, h2, h3, h4, h5⟩ := h
  refine ⟨h0, a, cap, h1, h2, h3, h4, fun j hj => ?_⟩
  obtain ⟨b, off, e, hb, hc⟩ := h5 j hj
  exact ⟨b, off, e, Nat.lt_of_lt_of_le hb hB.size, (hB.cell (p := ⟨b, off + j, none⟩) hb).trans hc⟩
theorem rowAt_own {n₀ : Nat} {e : TypeId} {k n : Nat} {v : Value} {cs : List Value} {W : World} (h : W.ownsRow n₀ e k v n cs) : RowAt W v n k cs := by
  rcases h.2 with ⟨rfl, rfl⟩ | ⟨g, cap, cur, rfl, hg, hh, hl, hm, _, _⟩
  · exact ⟨h.1, none, 0, rfl, Nat.le_refl _, Nat.zero_le _, fun _ => rfl, fun j hj => by rw [h.1] at hj; omega⟩
  · refine ⟨h.1, _, cap, rfl, hl, hm, (fun e => by cases e), fun j hj => ⟨g, 0, rfl, (Array.getElem?_eq_some_iff.1 hh).1, ?_⟩⟩
    rw [Nat.zero_add]
    exact World.ownsRow.cellAt h j (by have := h.1; omega)
theorem owns_mono {n₀ n₁ : Nat} {e : TypeId} {k n : Nat} {v : Value} {cs : List Value} {W : World} (h : W.ownsRow n₁ e k v n cs) (hn : n₀ ≤ n₁) : W.ownsRow n₀ e k v n cs :=
  ⟨h.1, h.2.imp id fun ⟨g, cap, cur, h1, h2, h3⟩ => ⟨g, cap, cur, h1, Nat.le_trans hn h2, h3⟩⟩
theorem owns_keep {n₀ h : Nat} {e : TypeId} {k n : Nat} {v : Value} {cs : List Value} {A B : World} (o : A.ownsRow n₀ e k v n cs) (hB : Below h A B) (hh : A.heap.size ≤ h) : B.ownsRow n₀ e k v n cs := by
  refine World.ownsRow.kept o (row := none) ⟨hB.os, hB.tape, hB.output, hB.size, fun k hk _ => hB.block k (Nat.lt_of_lt_of_le hk hh)⟩ ?_
  cases e : v.ownBlock <;> simp

theorem Rows8.set2 {W : World} {B : Nat} {t : TypeId} {a b : Value} (h : Rows8 W B t #[a, b]) (u v : Value) : Rows8 ((W.setCell ⟨B, 0, none⟩ u).setCell ⟨B, 1, none⟩ v) B t #[u, v] := by
  have h1 := (h.set 0 u).set 1 v
  simp only [List.setIfInBounds_toArray, List.set_cons_zero, List.set_cons_succ] at h1
  exact h1
theorem Rows8.setOther {W : World} {B : Nat} {t : TypeId} {cs : Array Value} (h : Rows8 W B t cs) {a : Addr} (ha : a.block ≠ B) (v : Value) : Rows8 (W.setCell a v) B t cs := by
  have h' : W.heap[B]? = _ := h
  show (W.heap.modify a.block _)[B]? = _
  rw [Array.getElem?_modify, if_neg ha]
  exact h'
theorem Rows8.below {A B : World} {h b : Nat} {t : TypeId} {cs : Array Value} (r : Rows8 A b t cs) (p : Below h A B) (h1 : b < h) : Rows8 B b t cs := (p.block b h1).trans r

theorem below_setBoth {h : Nat} {A B : World} (p : Below h A B) {a : Addr} (v : Value) : Below h (A.setCell a v) (B.setCell a v) := by
  refine ⟨p.os, p.tape, p.output, by simpa [World.setCell] using p.size, fun k hk => ?_⟩
  have hb := p.block k hk
  by_cases e : k = a.block
  · subst e
    simp only [World.setCell, Array.getElem?_modify, hb]
  · simp only [World.setCell, Array.getElem?_modify, hb, if_neg (fun h : a.block = k => e h.symm)]

theorem flat_length {α : Type} (f : α → List Value) (k : Nat) (h : ∀ a, (f a).length = k) (l : List α) : (l.flatMap f).length = l.length * k := by
  induction l with
  | nil => simp
  | cons a l ih => simp [h, ih, Nat.add_mul]; omega
theorem flat_get {α : Type} (f : α → List Value) (k : Nat) (h : ∀ a, (f a).length = k) (l : List α) (j i : Nat) (hj : j < l.length) (hi : i < k) : (l.flatMap f)[j * k + i]? = (f l[j])[i]? := by
  induction l generalizing j with
  | nil => simp at hj
  | cons a l ih =>
    cases j with
    | zero =>
      simp only [List.flatMap_cons, Nat.zero_mul, Nat.zero_add, List.getElem_cons_zero]
      rw [List.getElem?_append_left (by rw [h]; exact hi)]
    | succ j =>
      simp only [List.flatMap_cons, List.getElem_cons_succ]
      rw [List.getElem?_append_right (by rw [h, Nat.add_mul]; omega), h, show (j + 1) * k + i - k = j * k + i by rw [Nat.add_mul]; omega]
      exact ih j (by simpa using hj)
theorem owns_ne {W : World} {n₀ n₁ k k' n n' : Nat} {e e' : TypeId} {v v' : Value} {cs cs' : List Value} (h : W.ownsRow n₀ e k v n cs) (h' : W.ownsRow n₁ e' k' v' n' cs') (hne : e ≠ e') : v.ownBlock = none ∨ v.ownBlock ≠ v'.ownBlock := by
  rcases h.2 with ⟨rfl, _⟩ | ⟨g, cap, cur, rfl, _, hh, _⟩
  · exact .inl rfl
  · rcases h'.2 with ⟨rfl, _⟩ | ⟨g', cap', cur', rfl, _, hh', _⟩
    · exact .inr (by simp [Value.ownBlock])
    · refine .inr fun e2 => ?_
      obtain rfl : g = g' := by simpa [Value.ownBlock] using e2
      rw [hh] at hh'
      injection hh' with h1
      injection h1 with _ h2 _
      exact hne h2
theorem owns_not {W : World} {n₀ k n : Nat} {e : TypeId} {v : Value} {cs : List Value} (h : W.ownsRow n₀ e k v n cs) {B : Nat} {t : TypeId} {ds : Array Value} (hR : Rows8 W B t ds) (hne : e ≠ t) : v.ownBlock ≠ some B := by
  rcases h.2 with ⟨rfl, _⟩ | ⟨g, cap, cur, rfl, _, hh, _⟩
  · simp [Value.ownBlock]
  · intro e2
    obtain rfl : g = B := by simpa [Value.ownBlock] using e2
    rw [show W.heap[g]? = _ from hR] at hh
    injection hh with h1
    injection h1 with _ h2 _
    exact hne h2.symm
theorem cells_new (W : World) (t : TypeId) (cs : List Value) : ∀ j u, cs[j]? = some u → (W.alloc (.cells cs.toArray t)).cell? ((⟨W.heap.size, 0, none⟩ : Addr).add j) = some u := by
  intro j u hu
  have hadd : (⟨W.heap.size, 0, none⟩ : Addr).add j = ⟨W.heap.size, j, none⟩ := by unfold Addr.add; split <;> simp_all
  rw [hadd, Rows8.cell (Rows8.new W t cs.toArray) j]
  simpa using hu
theorem grown_ne {W w1 : World} {n₀ n₁ k k' n n' : Nat} {e e' : TypeId} {v v' : Value} {cs cs' : List Value} (h : W.ownsRow n₀ e k v n cs) (h' : W.ownsRow n₁ e' k' v' n' cs') (hne : e ≠ e') (hg : W.grownBy w1 v'.ownBlock) : w1.ownsRow n₀ e k v n cs :=
  World.ownsRow.kept h hg (owns_ne h h' hne)
theorem flat_take {α : Type} (f : α → List Value) (k : Nat) (h : ∀ a, (f a).length = k) (l : List α) (m : Nat) : (l.take m).flatMap f = (l.flatMap f).take (m * k) := by
  induction l generalizing m with
  | nil => simp
  | cons a l ih =>
    cases m with
    | zero => simp
    | succ m =>
      simp only [List.take_succ_cons, List.flatMap_cons]
      have e1 : List.take ((m + 1) * k) (f a) = f a := List.take_of_length_le (by rw [h, Nat.add_mul]; omega)
      rw [ih m, List.take_append, h, e1, show (m + 1) * k - k = m * k by rw [Nat.add_mul]; omega]
theorem RowAt.cut {W : World} {a : Option Addr} {n cap k : Nat} {cs : List Value} (h : RowAt W (.slice a n cap) n k cs) (m : Nat) (hm : m ≤ n) : RowAt W (.slice a m cap) m k (cs.take (m * k)) := by
  obtain ⟨h0, a', cap', e, h1, h2, h3, h4⟩ := h
  cases e
  have hmk : m * k ≤ n * k := Nat.mul_le_mul_right k hm
  refine ⟨by rw [List.length_take]; omega, a, cap, rfl, Nat.le_trans hm h1, h2, h3, fun j hj => ?_⟩
  rw [List.length_take] at hj
  obtain ⟨b, off, e, hb, hc⟩ := h4 j (by omega)
  exact ⟨b, off, e, hb, by rw [hc, List.getElem?_take, if_pos (by omega)]⟩
theorem row_src {W : World} {x : Addr} {n cap : Nat} {cs : List Value} {k : Nat} (h : RowAt W (.slice (some x) n cap) n k cs) : ∀ j u, cs[j]? = some u → W.cell? (x.add j) = some u := by
  obtain ⟨h0, a', cap', e, h1, h2, h3, h4⟩ := h
  cases e
  intro j u hu
  obtain ⟨b, off, e, hb, hc⟩ := h4 j (List.getElem?_eq_some_iff.1 hu).1
  injection e with e
  subst e
  have hadd : (⟨b, off, none⟩ : Addr).add j = ⟨b, off + j, none⟩ := by unfold Addr.add; split <;> simp_all
  rw [hadd, hc, hu]

theorem take_eq_next {xs ys : List Int} {k : Nat} (h : xs.take k = ys.take k) (hx : k < xs.length) (hy : k < ys.length) (he : xs[k]?.getD 0 = ys[k]?.getD 0) : xs.take (k + 1) = ys.take (k + 1) := by
  rw [List.take_succ_eq_append_getElem hx, List.take_succ_eq_append_getElem hy, h]
  simp [hx, hy] at he
  rw [he]

theorem run_append_row {P : Program} (w : World) (base : Nat) (t ty e : TypeId) (i : TypeInfo) (z : Value) (size bytes : Nat) (ht : P.underlying t = some (.slice e)) (hi : P.info? e = some i) (hz : i.zero = some z)
    (hsize : i.size = size) (hby : i.bytes = bytes) (hzs : z.cells.size = size) (hsz : 0 < size) (v : Value) (n : Nat) (xs : List Value) (hown : w.ownsRow base e size v n xs)
    (src : Value) (m : Nat) (news : List Value) (hr : RowAt w src m size news) (h1 : ∀ u ∈ news, u.oneCell' = true) (h63 : n + m ≤ maxLen) (hbytes : (n + m) * bytes ≤ 140737488355328) (hbase : base ≤ w.heap.size) :
    ∃ v' w', (Builtin.append_ #[t, t] ty #[v, src]).run P w = .ok v' w' ∧ w'.ownsRow base e size v' (n + m) (xs ++ news) ∧ w.grownBy w' v.ownBlock ∧ (v'.ownBlock = v.ownBlock ∨ v'.ownBlock = some w.heap.size) := by
  have hr0 := hr
  obtain ⟨h0, a, cap, rfl, hc, _, hn, _⟩ := hr
  cases a with
  | none =>
    have hc0 := hn rfl
    subst hc0
    obtain rfl : m = 0 := by omega
    obtain rfl : news = [] := List.eq_nil_of_length_eq_zero (by omega)
    refine ⟨v, w, ?_, by simpa using hown, World.grownBy.refl w _, .inl rfl⟩
    rcases hown.2 with ⟨rfl, rfl⟩ | ⟨g, cap, cur, rfl, _, _, hnc, _⟩
    · simp [Builtin.append_, run_underlying ht, sizeOf, typeInfo, hi, Builtin.lenOf, Builtin.firstCells]
    · simp [Builtin.append_, run_underlying ht, sizeOf, typeInfo, hi, Builtin.lenOf, Builtin.firstCells, hnc, storeCells]
  | some x =>
    obtain ⟨v', w', hrun, h2, h3, _, h5⟩ := run_append_own_at (P := P) w base t ty e i z size bytes ht hi hz hsize hby hzs hsz v n xs hown x m cap news h0 (row_src hr0) h1 h63 hbytes hbase
    exact ⟨v', w', hrun, h2, h3, h5⟩
theorem step_append_row {P : Program} (w : World) {ops : Array Oper} {o : Oper} {a : Act} {K : Act → World → Prop} {Q : Exit → Act → World → Prop} {E : Prop} (hgd : o.guard = none) (s x : Operand) (t : TypeId)
    (ho : o.op = .call { callee := .builtin .append, args := #[s, x], argTypes := #[t, t] }) (base : Nat) (e : TypeId) (i : TypeInfo) (z : Value) (size bytes : Nat) (ht : P.underlying t = some (.slice e)) (hi : P.info? e = some i) (hz : i.zero = some z)
    (hsize : i.size = size) (hby : i.bytes = bytes) (hzs : z.cells.size = size) (hsz : 0 < size) (v : Value) (n : Nat) (xs : List Value) (hs : a.eval s = v) (hown : w.ownsRow base e size v n xs)
    (src : Value) (m : Nat) (news : List Value) (hx : a.eval x = src) (hr : RowAt w src m size news) (h1 : ∀ u ∈ news, u.oneCell' = true) (h63 : n + m ≤ maxLen) (hbytes : (n + m) * bytes ≤ 140737488355328) (hbase : base ≤ w.heap.size)
    (h : ∀ v' w', w'.ownsRow base e size v' (n + m) (xs ++ news) → w.grownBy w' v.ownBlock → (v'.ownBlock = v.ownBlock ∨ v'.ownBlock = some w.heap.size) → K (a.put o.dst v') w') :
    if Region.wanted o (yielded ops a.tmps) = true then Oper.wp P o a w K Q else E := by
  have hw : Region.wanted o (yielded ops a.tmps) = true := by simp [Region.wanted, hgd]
  rw [if_pos hw]
  obtain ⟨v', w', hrun, h2, h3, h4⟩ := run_append_row (P := P) w base t o.type e i z size bytes ht hi hz hsize hby hzs hsz v n xs hown src m news hr h1 h63 hbytes hbase
  unfold Oper.wp execOp
  simp only [ho, resolve, invoke, builtin, Sem.run_bind, Sem.run_pure, Result.andThen_ok, List.map_toArray, List.map_cons, List.map_nil, hs, hx, hrun]
  exact h v' w' h2 h3 h4
theorem wpList_append_row {P : Program} (w : World) {ops : Array Oper} {rest : List Oper} {o : Oper} {a : Act} {Q : Exit → Act → World → Prop} (hgd : o.guard = none) (s x : Operand) (t : TypeId)
    (ho : o.op = .call { callee := .builtin .append, args := #[s, x], argTypes := #[t, t] }) (base : Nat) (e : TypeId) (i : TypeInfo) (z : Value) (size bytes : Nat) (ht : P.underlying t = some (.slice e)) (hi : P.info? e = some i) (hz : i.zero = some z)
    (hsize : i.size = size) (hby : i.bytes = bytes) (hzs : z.cells.size = size) (hsz : 0 < size) (v : Value) (n : Nat) (xs : List Value) (hs : a.eval s = v) (hown : w.ownsRow base e size v n xs)
    (src : Value) (m : Nat) (news : List Value) (hx : a.eval x = src) (hr : RowAt w src m size news) (h1 : ∀ u ∈ news, u.oneCell' = true) (h63 : n + m ≤ maxLen) (hbytes : (n + m) * bytes ≤ 140737488355328) (hbase : base ≤ w.heap.size)
    (h : ∀ v' w', w'.ownsRow base e size v' (n + m) (xs ++ news) → w.grownBy w' v.ownBlock → (v'.ownBlock = v.ownBlock ∨ v'.ownBlock = some w.heap.size) → wpList P ops Q rest (a.put o.dst v') w') : wpList P ops Q (o :: rest) a w :=
  wpList_plain hgd fun K hK => by
    obtain ⟨v', w', hrun, h2, h3, h4⟩ := run_append_row (P := P) w base t o.type e i z size bytes ht hi hz hsize hby hzs hsz v n xs hown src m news hr h1 h63 hbytes hbase
    unfold Oper.wp execOp
    simp only [ho, resolve, invoke, builtin, Sem.run_bind, Sem.run_pure, Result.andThen_ok, List.map_toArray, List.map_cons, List.map_nil, hs, hx, hrun]
    exact hK _ _ (h v' w' h2 h3 h4)

/-- A block that holds one element, as a row. -/
theorem own1 {W : World} {B : Nat} {t : TypeId} {cs : Array Value} {n₀ k : Nat} (h : Rows8 W B t cs) (hb : n₀ ≤ B) (hk : cs.size = k) : W.ownsRow n₀ t k (.slice (some ⟨B, 0, none⟩) 1 1) 1 cs.toList :=
  ⟨by simpa using hk, .inr ⟨B, 1, cs, rfl, hb, h, Nat.le_refl _, by unfold maxLen; omega, by rw [Nat.one_mul]; exact hk, List.take_of_length_le (by rw [Array.length_toList, hk, Nat.one_mul]; exact Nat.le_refl _)⟩⟩
theorem rows_new2 (W : World) (o : Obj) (t : TypeId) (cs : Array Value) : Rows8 ((W.alloc o).alloc (.cells cs t)) (W.heap.size + 1) t cs := by
  have h := Rows8.new (W.alloc o) t cs
  rwa [World.size_alloc] at h
/-- What stands behind a first append, whatever was laid ahead of it. -/
structure After1 (n₀ : Nat) (W X wx : World) (u v : Value) : Prop where
  below : Below n₀ W wx
  size : W.heap.size ≤ X.heap.size ∧ X.heap.size ≤ wx.heap.size
  news : ∀ B t cs, Rows8 X B t cs → W.heap.size ≤ B → Rows8 wx B t cs
  olds : ∀ B t cs, Rows8 W B t cs → u.ownBlock ≠ some B → Rows8 wx B t cs
  own : ∀ n₁ e k v' n cs, W.ownsRow n₁ e k v' n cs → (v'.ownBlock = none ∨ v'.ownBlock ≠ u.ownBlock) → wx.ownsRow n₁ e k v' n cs
  lies : ∀ j, v.ownBlock = some j → (j < W.heap.size ∧ u.ownBlock = some j) ∨ j = X.heap.size
theorem after1 {n₀ : Nat} {W X wx : World} {u v : Value} {e : TypeId} {k n : Nat} {cs : List Value} (hu : W.ownsRow n₀ e k u n cs) (hn : n₀ ≤ W.heap.size) (hX : Below W.heap.size W X) (hg : X.grownBy wx u.ownBlock) (hv : v.ownBlock = u.ownBlock ∨ v.ownBlock = some X.heap.size) : After1 n₀ W X wx u v := by
  have hul : ∀ j, u.ownBlock = some j → n₀ ≤ j ∧ j < W.heap.size := fun j e2 => World.ownsRow.lt hu j e2
  refine ⟨(hX.mono hn).grown hg (Nat.le_trans hn hX.size) (fun j e2 => (hul j e2).1), ⟨hX.size, hg.size⟩, fun B t cs hR hB => ?_, fun B t cs hR hne => ?_, fun n₁ e' k' v' n' cs' ho hne => ?_, fun j ej => ?_⟩
  · exact (hg.block B hR.lt (fun e2 => by have := (hul B e2.symm).2; omega)).trans hR
  · exact (hg.block B (Nat.lt_of_lt_of_le hR.lt hX.size) (fun e2 => hne e2.symm)).trans (hR.below hX hR.lt)
  · exact World.ownsRow.kept (owns_keep ho hX (Nat.le_refl _)) hg hne
  · rcases hv with hv | hv
    · rw [hv] at ej
      exact .inl ⟨(hul j ej).2, ej⟩
    · rw [hv] at ej
      injection ej with ej
      exact .inr ej.symm
theorem after2 {n₀ n₁ : Nat} {W X wx Y wy : World} {u v v9 : Value} {e : TypeId} {k n b5 : Nat} {cs : List Value} (ha : After1 n₀ W X wx u v) (h8 : wx.ownsRow n₁ e k v n cs) (hY : Below wx.heap.size wx Y) (hn : n₀ ≤ wx.heap.size)
    (hg : Y.grownBy wy (some b5)) (h9 : v9.ownBlock = some b5 ∨ v9.ownBlock = some Y.heap.size) (hb : b5 = wx.heap.size ∨ (W.heap.size ≤ b5 ∧ b5 < X.heap.size)) (hnb : n₀ ≤ b5) :
    wy.ownsRow n₁ e k v n cs ∧ (v.ownBlock = none ∨ v.ownBlock ≠ v9.ownBlock) ∧ Below n₀ W wy := by
  have key : ∀ j, v.ownBlock = some j → j ≠ b5 ∧ j < wx.heap.size := fun j ej => by
    have h1 := (World.ownsRow.lt h8 j ej).2
    refine ⟨?_, h1⟩
    rcases hb with hb | ⟨hb1, hb2⟩
    · omega
    · rcases ha.lies j ej with ⟨h2, _⟩ | h2 <;> omega
  refine ⟨World.ownsRow.kept (owns_keep h8 hY (Nat.le_refl _)) hg ?_, ?_, (ha.below.trans (hY.mono hn)).grown hg (Nat.le_trans hn hY.size) (fun j e2 => by injection e2 with e2; omega)⟩
  · cases ej : v.ownBlock with
    | none => exact .inl rfl
    | some j => exact .inr fun e2 => (key j ej).1 (by injection e2)
  · cases ej : v.ownBlock with
    | none => exact .inl rfl
    | some j =>
      refine .inr fun e2 => ?_
      have h1 := key j ej
      have h2 := hY.size
      rcases h9 with h9 | h9
      · rw [h9] at e2; injection e2 with e2; exact h1.1 e2
      · rw [h9] at e2; injection e2 with e2; omega
theorem results_c {P : Program} {fn : Func} {p : Tmp} {ty : TypeId} (h : fn.results = #[.cell p ty]) (tmps : Array Value) (w : World) (g : Nat) (t : TypeId) (cs : Array Value) (fr : Nat × Nat) (d : TypeDesc)
    (hp : tmps.getD p undef = .pointer (some ⟨g, 0, none⟩)) (hg : w.heap[g]? = some (.cells cs t fr))
    (hu : P.underlying ty = some d) (hd : (match d with | .struct _ | .array _ _ => true | _ => false) = true) (hi : (P.info? ty).map (·.size) = some cs.size) :
    (results fn tmps).run P w = .ok (.agg cs) w := by
  have hp' : tmps[p]?.getD undef = .pointer (some ⟨g, 0, none⟩) := by simpa using hp
  simp [results, h, hp', asAddr, run_loadVar_row w g t ty cs fr d hg hu hd hi]
end Go.Proofs

/- Ranges over functions, blocks but one: what holds at every seat (Ma without arrays and numbers). -/
namespace Go.Proofs
set_option maxRecDepth 100000
open Go.RowKit Go.Shelf
attribute [local go_sem] Oper.semAt_some

theorem take_snoc {α : Type} (l : List α) (k : Nat) (h : k < l.length) : l.take (k + 1) = l.take k ++ [l[k]] := by
  rw [List.take_succ_eq_append_getElem h]
theorem snoc_ind {α : Type} {P : List α → Prop} (h0 : P []) (h1 : ∀ l x, P l → P (l ++ [x])) (l : List α) : P l := by
  have h : ∀ n (l : List α), l.length = n → P l := by
    intro n
    induction n with
    | zero => intro l h; obtain rfl := List.eq_nil_of_length_eq_zero h; exact h0
    | succ n ih =>
      intro l h
      have hne : l ≠ [] := by intro e; subst e; simp at h
      rw [← List.dropLast_concat_getLast hne]
      exact h1 _ _ (ih _ (by rw [List.length_dropLast]; omega))
  exact h _ l rfl
theorem room_none {F : Fence} (hd : F.depth = none) (k : Nat) : F.room k := fun d h => by rw [hd] at h; cases h
theorem yield_any {F : Fence} (hd : F.depth = none) {m : Nat} (m' : Nat) {P : Program} {l : Nat} {args : Array Value} {W : World} {R : Ending → World → Prop} (h : YieldAt F m P l args W R) : YieldAt F m' P l args W R := by
  obtain ⟨fn, tmps, asg, body, hy, hR⟩ := h
  exact ⟨fn, tmps, asg, body, hy, hR.1, fun c cs _ => hR.2 c cs (room_none hd _)⟩

theorem ownFrom_mono {β : Type} {B B' : Nat} {I : β → World → Prop} (h : OwnFrom B I) (hB : B ≤ B') : OwnFrom B' I := fun s X Y row hs hg hr => h s X Y row hs hg (fun r e => ⟨Nat.le_trans hB (hr r e).1, (hr r e).2⟩)

/-- All cells are as they were, but those of block x. -/
structure Kx (x : Nat) (A B : World) : Prop where
  size : A.heap.size ≤ B.heap.size
  same : ∀ (k : Nat) (o : Obj), A.heap[k]? = some o → o.isCells = true → k ≠ x → B.heap[k]? = some o
theorem Kx.refl (x : Nat) (A : World) : Kx x A A := ⟨Nat.le_refl _, fun _ _ h _ _ => h⟩
theorem Kx.trans {x : Nat} {A B C : World} (p : Kx x A B) (q : Kx x B C) : Kx x A C := ⟨Nat.le_trans p.size q.size, fun k o h hc hx => q.same k o (p.same k o h hc hx) hc hx⟩
theorem Kx.of_below {x : Nat} {A B : World} (p : Below A.heap.size A B) : Kx x A B := ⟨p.size, fun k _ h _ _ => (p.block k (Array.getElem?_eq_some_iff.1 h).1).trans h⟩
theorem Kx.set (x : Nat) (A : World) (o : Nat) (v : Value) : Kx x A (A.setCell ⟨x, o, none⟩ v) := ⟨by simp [World.setCell], fun k ob h _ hx => (Below.heap_setCell A ⟨x, o, none⟩ v k hx).trans h⟩
theorem kx_t {x : Nat} {A B C : World} (p : Kx x A B) (q : Kx x B C) : Kx x A C := p.trans q
theorem kx_b {x B : Nat} (W : World) (l : Nat) (o o' : Obj) (_ : B ≤ l) (hh : W.heap[l]? = some o) (hc : o.isCells = false) (_ : o.isWalk = false) : Kx x W (W.putObj l o') := by
  refine ⟨by simp [World.putObj], fun k ob hk hkc _ => ?_⟩
  have hne : l ≠ k := fun e => by
    subst e
    rw [hk] at hh
    injection hh with hh
    subst hh
    rw [hc] at hkc
    cases hkc
  exact (World.putObj_heap_other (fun e => hne e.symm)).trans hk
/-- .. of those beneath h. -/
structure Kb (h x : Nat) (A B : World) : Prop where
  size : A.heap.size ≤ B.heap.size
  same : ∀ (k : Nat) (o : Obj), k < h → A.heap[k]? = some o → o.isCells = true → k ≠ x → B.heap[k]? = some o
theorem Kb.refl (h x : Nat) (A : World) : Kb h x A A := ⟨Nat.le_refl _, fun _ _ _ h _ _ => h⟩
theorem Kb.trans {h x : Nat} {A B C : World} (p : Kb h x A B) (q : Kb h x B C) : Kb h x A C := ⟨Nat.le_trans p.size q.size, fun k o hk h hc hx => q.same k o hk (p.same k o hk h hc hx) hc hx⟩
theorem Kb.mono {h h' x : Nat} {A B : World} (p : Kb h x A B) (hh : h' ≤ h) : Kb h' x A B := ⟨p.size, fun k o hk => p.same k o (Nat.lt_of_lt_of_le hk hh)⟩
theorem Kb.of_kx {h x : Nat} {A B : World} (p : Kx x A B) : Kb h x A B := ⟨p.size, fun k o _ h hc hx => p.same k o h hc hx⟩
theorem Kb.of_below {h x : Nat} {A B : World} (p : Below h A B) : Kb h x A B := ⟨p.size, fun k _ hk h _ _ => (p.block k hk).trans h⟩
theorem Kb.set {h x : Nat} (A : World) {b : Nat} (hb : h ≤ b) (o : Nat) (v : Value) : Kb h x A (A.setCell ⟨b, o, none⟩ v) := ⟨by simp [World.setCell], fun k ob hk hh _ _ => (Below.heap_setCell A ⟨b, o, none⟩ v k (by show k ≠ b; omega)).trans hh⟩
theorem Kb.rows {h x : Nat} {A B : World} (p : Kb h x A B) {b : Nat} {t : TypeId} {cs : Array Value} (r : Rows8 A b t cs) (hb : b < h) (hx : b ≠ x) : Rows8 B b t cs := p.same b _ hb r rfl hx
theorem Kb.cell {h x : Nat} {A B : World} (p : Kb h x A B) {a : Addr} {v : Value} (hb : a.block < h) (hx : a.block ≠ x) (hc : A.cell? a = some v) : B.cell? a = some v := by
  cases ho : A.heap[a.block]? with
  | none => simp [World.cell?, ho] at hc
  | some o =>
    cases hi : o.isCells with
    | true =>
      have h2 := p.same a.block o hb ho hi hx
      rw [World.cell?_of_block (w := A) (h2.trans ho.symm)]
      exact hc
    | false =>
      cases o <;> simp [Obj.isCells] at hi <;> simp [World.cell?, ho] at hc
theorem Kb.row {h x : Nat} {A B : World} (p : Kb h x A B) {v : Value} {n k : Nat} {cs : List Value} (r : RowAt A v n k cs) (hA : A.heap.size ≤ h) (hx : A.heap.size ≤ x) : RowAt B v n k cs := by
  obtain ⟨h0, a, cap, h1, h2, h3, h4, h5⟩ := r
  refine ⟨h0, a, cap, h1, h2, h3, h4, fun j hj => ?_⟩
  obtain ⟨b, off, e, hb, hc⟩ := h5 j hj
  rw [List.getElem?_eq_getElem hj] at hc
  exact ⟨b, off, e, Nat.lt_of_lt_of_le hb p.size, by rw [List.getElem?_eq_getElem hj]; exact p.cell (a := ⟨b, off + j, none⟩) (by show b < h; omega) (by show b ≠ x; omega) hc⟩
/-- A variable of one cell that is no aggregate. -/
theorem load_one {P : Program} {w : World} {B : Nat} {t ty : TypeId} {v : Value} (h : Rows8 w B t #[v]) (hu : (P.underlying ty).map (fun d => match d with | .struct _ => true | .array _ _ => true | _ => false) = some false) :
    (loadVar ty ⟨B, 0, none⟩).run P w = .ok v w := by
  obtain ⟨d, hd, he⟩ := Option.map_eq_some_iff.1 hu
  have hc := h.cell 0
  simp at hc
  have hagg : (isAgg ty).run P w = .ok false w := by
    unfold isAgg
    rw [Sem.run_bind, run_underlying hd w]
    cases d <;> simp_all
  simp [loadVar, Sem.run_bind, hagg, Result.andThen, hc]
theorem results_cc {P : Program} {fn : Func} {p q : Tmp} {ty uy : TypeId} (h : fn.results = #[.cell p ty, .cell q uy]) (tmps : Array Value) (w : World) (B C : Nat) (u v : Value)
    (hp : tmps.getD p undef = .pointer (some ⟨B, 0, none⟩)) (hq : tmps.getD q undef = .pointer (some ⟨C, 0, none⟩)) (h1 : (loadVar ty ⟨B, 0, none⟩).run P w = .ok u w) (h2 : (loadVar uy ⟨C, 0, none⟩).run P w = .ok v w) :
    (results fn tmps).run P w = .ok (.tuple #[u, v]) w := by
  have hp' : tmps[p]?.getD undef = .pointer (some ⟨B, 0, none⟩) := by simpa using hp
  have hq' : tmps[q]?.getD undef = .pointer (some ⟨C, 0, none⟩) := by simpa using hq
  simp [results, h, hp', hq', asAddr, h1, h2, Result.andThen]

theorem rows_put {W : World} {B D : Nat} {t : TypeId} {cs : Array Value} {x : Option (List Deferred)} {o : Obj} (h : Rows8 W B t cs) (hK : W.heap[D]? = some (.deferred x)) : Rows8 (W.putObj D o) B t cs := by
  have hne : B ≠ D := fun e => by
    subst e
    rw [show W.heap[B]? = _ from h] at hK
    cases hK
  exact (World.putObj_heap_other (r := D) (k := B) hne).trans h
section
variable {F : Fence} {n : Nat} {P : Program} {α : Type}

/-- What an iterator tells, to whatever asks it while abiding the turn of records that are laid later. -/
def TellsB (F : Fence) (n : Nat) (P : Program) (g : Nat) (lb : Array Value) (encs : α → Array Value) (Kp : World → World → Prop) (S Sp : List α → Prop) (N : Nat) (w : World) : Prop :=
  ∀ (l : Nat) (J Jx : List α → World → Prop) (W : World), Below w.heap.size w W → (∀ s X Y, J s X → Below W.heap.size X Y → J s Y) → (∀ s X Y, Jx s X → Below W.heap.size X Y → Jx s Y) →
    (∀ pre x W1, J pre W1 → pre.length < N → YieldAt F (n - 1) P l (encs x) W1 fun e W' =>
      (e = .returned (.bool true) ∧ J (pre ++ [x]) W' ∧ KeepsFrom W.heap.size W1 W' ∧ Kp W1 W') ∨ (e = .returned (.bool false) ∧ Jx (pre ++ [x]) W' ∧ KeepsFrom W.heap.size W1 W')) →
    J [] W → CallsIn F n P g (#[.func (.yield l) #[] #[]] ++ lb) W fun e W' => (∃ v, e = .returned v) ∧ ((∃ xs, S xs ∧ J xs W') ∨ (∃ pre, Sp pre ∧ Jx pre W'))

def recOf (fn : FuncId) (tmps : Array Value) (ps : Array Tmp) (asg body : Code) (D : Nat) (st : LoopState) (pe : Option Code) : Loop :=
  { state := st, pending := pe, fn := fn, tmps := tmps, params := ps, assign := asg, body := body, defers := D }
/-- The loop's two blocks. -/
def Book (l D : Nat) (r : Loop) (W : World) : Prop := W.heap[l]? = some (.loop r) ∧ W.heap[D]? = some (.deferred (some []))
theorem Book.turn {l D : Nat} {r r' : Loop} {W : World} (h : Book l D r W) (hne : l ≠ D) : Book l D r' (W.putObj l (.loop r')) :=
  ⟨World.putObj_heap_same (Array.getElem?_eq_some_iff.1 h.1).1, (World.putObj_heap_other (fun e => hne e.symm)).trans h.2⟩
theorem Book.keep {l D B : Nat} {r : Loop} {W W' : World} (h : Book l D r W) (k : KeepsFrom B W W') (hl : B ≤ l) (hD : B ≤ D) : Book l D r W' := ⟨k.same l _ hl h.1 rfl, k.same D _ hD h.2 rfl⟩

theorem keepsFrom_mono {B H : Nat} {W W' : World} (h : KeepsFrom B W W') (hB : B ≤ H) : KeepsFrom H W W' := ⟨h.size, fun k o hk => h.same k o (Nat.le_trans hB hk)⟩
theorem keepsFrom_trans' {B : Nat} {X Y Z : World} (h : KeepsFrom B X Y) (k : KeepsFrom B Y Z) : KeepsFrom B X Z := ⟨Nat.le_trans h.size k.size, fun q o hq ho hc => k.same q o hq (h.same q o hq ho hc) hc⟩
theorem keepsFrom_put {H l : Nat} (W : World) (o : Obj) (hl : l < H) : KeepsFrom H W (W.putObj l o) := ⟨by simp [World.putObj], fun k o' hk ho _ => (World.putObj_heap_other (by omega)).trans ho⟩
/-- One round, told by its body's walk. -/
theorem one_round {fn : FuncId} (hfn : F.fn fn) {m B l D : Nat} (hl : B ≤ l) (hD : B ≤ D) (hne : l ≠ D) {tmps : Array Value} {ps : Array Tmp} {asg body : Code} {encs : α → Array Value} (hps : ∀ x, (encs x).size = ps.size) {Kp : World → World → Prop}
    (hKt : ∀ {X Y Z : World}, Kp X Y → Kp Y Z → Kp X Z) (hKb : ∀ (W : World) (k : Nat) (o o' : Obj), B ≤ k → W.heap[k]? = some o → o.isCells = false → o.isWalk = false → Kp W (W.putObj k o')) {H : Nat} (hH : l < H)
    {I : List α → World → Prop} {Ix : Code → List α → World → Prop} (hI : OwnFrom B I) (hIx : ∀ c, OwnFrom B (Ix c)) {Ax : α → Act → World → Prop} (hAx : ∀ x a', OwnFrom B (fun (_ : Unit) W => Ax x a' W)) {N : Nat}
    (hassign : ∀ (pre : List α) (x : α) (W : World) (K : Act → World → Prop), I pre W → (∀ a' W', KeepsFrom B W W' → Kp W W' → I pre W' → Ax x a' W' → K a' W') →
      asg.wpIn (F.inRound l) m P (Exit.then K (fun _ _ _ => False)) { tmps := (ps.zip (encs x)).foldl (fun t (p, v) => t.setIfInBounds p v) tmps, defers := [] } W)
    (hbody : ∀ (pre : List α) (x : α) (a' : Act) (W : World), I pre W → Ax x a' W → pre.length < N → body.wpIn (F.inRound l) m P (ownPostG B Kp I Ix (pre ++ [x]) W) a' W)
    (pre : List α) (x : α) (W : World) (hi : I pre W) (hb : Book l D (recOf fn tmps ps asg body D .ready none) W) (hN : pre.length < N) :
    YieldAt F m P l (encs x) W fun e W' =>
      (e = .returned (.bool true) ∧ (I (pre ++ [x]) W' ∧ Book l D (recOf fn tmps ps asg body D .ready none) W') ∧ KeepsFrom H W W' ∧ Kp W W') ∨
      (e = .returned (.bool false) ∧ (∃ c, Ix c (pre ++ [x]) W' ∧ Book l D (recOf fn tmps ps asg body D .done (some c)) W') ∧ KeepsFrom H W W') := by
  refine ⟨fn, _, asg, body, run_yield hb.1 (hps x), roundIn_of_wpIn hfn (hassign pre x W _ hi ?_)⟩
  intro a' Wa k1 p1 hia hax
  have hba := hb.keep k1 hl hD
  refine ⟨_, run_beginRound hba.1 rfl, ?_⟩
  have hbb := hba.turn (r' := recOf fn tmps ps asg body D .busy none) hne
  have p2 := hKb Wa l _ (.loop (recOf fn tmps ps asg body D .busy none)) hl hba.1 rfl rfl
  have hib := hI.putObj (.loop (recOf fn tmps ps asg body D .busy none)) hia hl hba.1 rfl
  have hxb := (hAx x a').putObj (s := ()) (.loop (recOf fn tmps ps asg body D .busy none)) hax hl hba.1 rfl
  refine wpIn_mono (hbody pre x a' _ hib hxb hN) ?_
  have out : ∀ (c : Code) (W3 : World), KeepsFrom B (Wa.putObj l (.loop (recOf fn tmps ps asg body D .busy none))) W3 → Ix c (pre ++ [x]) W3 →
      ∃ v w', (Instr.endRound l (some c)).run P W3 = .ok v w' ∧ v = .bool false ∧ Ix c (pre ++ [x]) w' ∧ Book l D (recOf fn tmps ps asg body D .done (some c)) w' ∧ KeepsFrom H W w' := fun c W3 k3 hx => by
    have hb3 := hbb.keep k3 hl hD
    exact ⟨_, _, run_endRound (some c) hb3.1, rfl, (hIx c).putObj _ hx hl hb3.1 rfl, hb3.turn hne, keepsFrom_trans' (keepsFrom_mono k1 (by omega)) (keepsFrom_trans' (keepsFrom_put _ _ hH) (keepsFrom_trans' (keepsFrom_mono k3 (by omega)) (keepsFrom_put _ _ hH)))⟩
  rintro e a3 W3 hp
  cases e with
  | normal =>
    obtain ⟨k3, p3, hi3⟩ := hp
    have hb3 := hbb.keep k3 hl hD
    exact ⟨_, _, run_endRound none hb3.1, .inl ⟨rfl, ⟨hI.putObj _ hi3 hl hb3.1 rfl, hb3.turn hne⟩, keepsFrom_trans' (keepsFrom_mono k1 (by omega)) (keepsFrom_trans' (keepsFrom_put _ _ hH) (keepsFrom_trans' (keepsFrom_mono k3 (by omega)) (keepsFrom_put _ _ hH))), hKt p1 (hKt (hKt p2 p3) (hKb _ _ _ _ hl hb3.1 rfl rfl))⟩⟩
  | ret =>
    obtain ⟨v, w', h1, h2, h3, h4, h5⟩ := out .ret W3 hp.1 hp.2
    exact ⟨v, w', h1, .inr ⟨by rw [h2], ⟨_, h3, h4⟩, h5⟩⟩
  | exit id =>
    obtain ⟨v, w', h1, h2, h3, h4, h5⟩ := out (.exit id) W3 hp.1 hp.2
    exact ⟨v, w', h1, .inr ⟨by rw [h2], ⟨_, h3, h4⟩, h5⟩⟩
  | goto t =>
    obtain ⟨v, w', h1, h2, h3, h4, h5⟩ := out (.goto t) W3 hp.1 hp.2
    exact ⟨v, w', h1, .inr ⟨by rw [h2], ⟨_, h3, h4⟩, h5⟩⟩
  | panic ch => exact hp.elim
  | outgrown => exact hp.elim

/-- The statement, over an iterator that tells. -/
theorem range_tellsB {g : Operand} {ps : Array Tmp} {asg body : Code} {Q : Exit → Act → World → Prop} {a : Act} {w : World}
    (hro : F.round = none) (h1 : 1 ≤ n) {gf : Nat} {lb : Array Value} (hg : a.eval g = .func (.func gf) #[] lb) (hF : F.fn gf) (eg : ∀ args w, (callFunc gf args).run P w = .ok (.enter gf args) w)
    {encs : α → Array Value} {Kp : World → World → Prop} {S Sp : List α → Prop} {N : Nat} {w0 : World} (hseq : TellsB F (n - 1) P gf lb encs Kp S Sp N w0)
    (hKt : ∀ {X Y Z : World}, Kp X Y → Kp Y Z → Kp X Z) (hKb : ∀ (W : World) (k : Nat) (o o' : Obj), w.heap.size ≤ k → W.heap[k]? = some o → o.isCells = false → o.isWalk = false → Kp W (W.putObj k o')) (hb0 : Below w0.heap.size w0 w) (hps : ∀ x, (encs x).size = ps.size)
    (I : List α → World → Prop) (Ix : Code → List α → World → Prop) (hI : OwnFrom w.heap.size I) (hIx : ∀ c, OwnFrom w.heap.size (Ix c)) (hIb : ∀ s X Y, I s X → Below (w.heap.size + 2) X Y → I s Y) (hIxb : ∀ c s X Y, Ix c s X → Below (w.heap.size + 2) X Y → Ix c s Y) (h0 : I [] w) (Ax : α → Act → World → Prop) (hAx : ∀ x a', OwnFrom w.heap.size (fun (_ : Unit) W => Ax x a' W))
    (hassign : ∀ (l : Nat) (pre : List α) (x : α) (W : World) (K : Act → World → Prop), I pre W → (∀ a' W', KeepsFrom w.heap.size W W' → Kp W W' → I pre W' → Ax x a' W' → K a' W') →
      asg.wpIn (F.inRound l) (n - 1 - 1) P (Exit.then K (fun _ _ _ => False)) { tmps := (ps.zip (encs x)).foldl (fun t (p, v) => t.setIfInBounds p v) a.tmps, defers := [] } W)
    (hbody : ∀ (l : Nat) (pre : List α) (x : α) (a' : Act) (W : World), I pre W → Ax x a' W → pre.length < N → body.wpIn (F.inRound l) (n - 1 - 1) P (ownPostG w.heap.size Kp I Ix (pre ++ [x]) W) a' W)
    (hdone : ∀ (D : Nat) (xs : List α) (W : World), w.heap.size ≤ D → S xs → I xs W → W.heap[D]? = some (.deferred (some [])) → Q .normal { a with defers := { target := .collected D, args := #[] } :: a.defers } W)
    (hstop : ∀ (D : Nat) (c : Code) (pre : List α) (W : World), w.heap.size ≤ D → Sp pre → Ix c pre W → W.heap[D]? = some (.deferred (some [])) → c.wpIn F n P Q { a with defers := { target := .collected D, args := #[] } :: a.defers } W) :
    (Code.rangeFunc g ps asg body).wpIn F n P Q a w := by
  refine wpIn_rangeFunc fun fn hfn => ?_
  rw [hro]
  have hne : w.heap.size + 1 ≠ w.heap.size := by omega
  have hbk : Book (w.heap.size + 1) w.heap.size (recOf fn a.tmps ps asg body w.heap.size .ready none) ((w.alloc (.deferred (some []))).alloc (.loop (recOf fn a.tmps ps asg body w.heap.size .ready none))) := by
    constructor
    · have h := World.alloc_heap_new (w.alloc (.deferred (some []))) (.loop (recOf fn a.tmps ps asg body w.heap.size .ready none))
      rwa [World.size_alloc] at h
    · exact (Below.heap_alloc _ _ _ (by simp)).trans (World.alloc_heap_new w _)
  have hi1 : I [] ((w.alloc (.deferred (some []))).alloc (.loop (recOf fn a.tmps ps asg body w.heap.size .ready none))) := hI.alloc _ (hI.alloc _ h0)
  have hb1 : Below w0.heap.size w0 ((w.alloc (.deferred (some []))).alloc (.loop (recOf fn a.tmps ps asg body w.heap.size .ready none))) :=
    hb0.trans ((((Below.refl _ w).alloc (Nat.le_refl _) _).alloc (by simp) _).mono hb0.size)
  have hent := run_enterLoop_outer (P := P) (w := w) fn a.tmps ps asg body
  have hsz : ((w.alloc (.deferred (some []))).alloc (.loop (recOf fn a.tmps ps asg body w.heap.size .ready none))).heap.size = w.heap.size + 2 := by simp
  refine ⟨w.heap.size + 1, [{ target := .collected w.heap.size, args := #[] }], (w.alloc (.deferred (some []))).alloc (.loop (recOf fn a.tmps ps asg body w.heap.size .ready none)), { target := .fn (.func gf) lb, args := #[.func (.yield (w.heap.size + 1)) #[] #[]] }, (w.alloc (.deferred (some []))).alloc (.loop (recOf fn a.tmps ps asg body w.heap.size .ready none)), gf,
    #[.func (.yield (w.heap.size + 1)) #[] #[]] ++ lb, (w.alloc (.deferred (some []))).alloc (.loop (recOf fn a.tmps ps asg body w.heap.size .ready none)), hent, ?_, ?_, ?_, fun _ => h1, ?_⟩
  · simp only [resolve, hg]
    simp [go_sem]
  · intro f' hf'
    simp [Target.leads] at hf'
    subst hf'
    exact hF
  · simp [invoke, go_sem, eg]
  · generalize ((w.alloc (.deferred (some []))).alloc (.loop (recOf fn a.tmps ps asg body w.heap.size .ready none))) = W1 at *
    have abide : ∀ {X Y : World} {r : Loop}, Below W1.heap.size X Y → Book (w.heap.size + 1) w.heap.size r X → Book (w.heap.size + 1) w.heap.size r Y := by
      intro X Y r hXY hb
      exact ⟨(hXY.block _ (by omega)).trans hb.1, (hXY.block _ (by omega)).trans hb.2⟩
    refine (hseq (w.heap.size + 1) (fun pre W => I pre W ∧ Book (w.heap.size + 1) w.heap.size (recOf fn a.tmps ps asg body w.heap.size .ready none) W)
      (fun pre W => ∃ c, Ix c pre W ∧ Book (w.heap.size + 1) w.heap.size (recOf fn a.tmps ps asg body w.heap.size .done (some c)) W) W1 hb1
      (fun s X Y hs hXY => ⟨hIb s X Y hs.1 (by rw [hsz] at hXY; exact hXY), abide hXY hs.2⟩)
      (fun s X Y hs hXY => by obtain ⟨c, hc, hb⟩ := hs; exact ⟨c, hIxb c s X Y hc (by rw [hsz] at hXY; exact hXY), abide hXY hb⟩)
      (fun pre x W hJ hN => one_round (Kp := Kp) (P := P) (m := n - 1 - 1) (B := w.heap.size) (l := w.heap.size + 1) (D := w.heap.size) (tmps := a.tmps) (ps := ps) (asg := asg) (body := body) (I := I) (Ix := Ix) (Ax := Ax) (N := N) hfn (Nat.le_succ _) (Nat.le_refl _) hne hps hKt hKb (H := W1.heap.size) (by omega) hI hIx hAx (hassign (w.heap.size + 1)) (hbody (w.heap.size + 1)) pre x W hJ.1 hJ.2 hN) ⟨hi1, hbk⟩).mono ?_
    rintro e W2 ⟨⟨v, rfl⟩, (⟨xs, hS, hi, hb⟩ | ⟨pre, hSp, c, hi, hb⟩)⟩
    · exact ⟨none, _, run_endLoop hb.1 (by simp [recOf]), hdone _ xs _ (Nat.le_refl _) hS (hI.putObj _ hi (by omega) hb.1 rfl) ((World.putObj_heap_other (by omega)).trans hb.2)⟩
    · exact ⟨some c, _, run_endLoop hb.1 (by simp [recOf]), hstop _ c pre _ (Nat.le_refl _) hSp ((hIx c).putObj _ hi (by omega) hb.1 rfl) ((World.putObj_heap_other (by omega)).trans hb.2)⟩

end
end Go.Proofs

/- Ranges over what rounds may append to: what holds at every seat. -/
namespace Go.Proofs
set_option maxRecDepth 100000
open Go.RowKit Go.Shelf
attribute [local go_sem] Oper.semAt_some

/-- All cells are as they were, but those of two types that lie from h on. -/
structure Kt (h : Nat) (t1 t2 : TypeId) (A B : World) : Prop where
  size : A.heap.size ≤ B.heap.size
  same : ∀ (k : Nat) (cs : Array Value) (t : TypeId) (fr : Nat × Nat), A.heap[k]? = some (Obj.cells cs t fr) → (k < h ∨ (t ≠ t1 ∧ t ≠ t2)) → B.heap[k]? = some (Obj.cells cs t fr)
theorem Kt.refl (h : Nat) (t1 t2 : TypeId) (A : World) : Kt h t1 t2 A A := ⟨Nat.le_refl _, fun _ _ _ _ h _ => h⟩
theorem Kt.trans {h : Nat} {t1 t2 : TypeId} {A B C : World} (p : Kt h t1 t2 A B) (q : Kt h t1 t2 B C) : Kt h t1 t2 A C := ⟨Nat.le_trans p.size q.size, fun k cs t fr hk hh => q.same k cs t fr (p.same k cs t fr hk hh) hh⟩
theorem Kt.rows {h : Nat} {t1 t2 : TypeId} {A B : World} (p : Kt h t1 t2 A B) {k : Nat} {t : TypeId} {cs : Array Value} (r : Rows8 A k t cs) (h1 : t ≠ t1) (h2 : t ≠ t2) : Rows8 B k t cs := p.same k cs t (0, 0) r (.inr ⟨h1, h2⟩)
theorem Kt.of_below {h : Nat} {t1 t2 : TypeId} {A B : World} (p : Below A.heap.size A B) : Kt h t1 t2 A B := ⟨p.size, fun k _ _ _ hk _ => (p.block k (Array.getElem?_eq_some_iff.1 hk).1).trans hk⟩
theorem Kt.alloc {h : Nat} {t1 t2 : TypeId} (A : World) (o : Obj) : Kt h t1 t2 A (A.alloc o) := .of_below ((Below.refl _ A).alloc (Nat.le_refl _) o)
theorem Kt.cell {h : Nat} {t1 t2 : TypeId} {A B : World} (p : Kt h t1 t2 A B) {a : Addr} {v : Value} (hb : a.block < h) (hc : A.cell? a = some v) : B.cell? a = some v := by
  cases ho : A.heap[a.block]? with
  | none => simp [World.cell?, ho] at hc
  | some o =>
    cases o with
    | cells cs t fr =>
      have h2 := p.same a.block cs t fr ho (.inl hb)
      rw [World.cell?_of_block (w := A) (h2.trans ho.symm)]
      exact hc
    | _ => simp [World.cell?, ho] at hc
theorem Kt.set {h : Nat} {t1 t2 : TypeId} {A B : World} (p : Kt h t1 t2 A B) {a : Addr} {t : TypeId} {cs : Array Value} (r : Rows8 B a.block t cs) (h0 : h ≤ a.block) (h1 : t = t1 ∨ t = t2) (v : Value) : Kt h t1 t2 A (B.setCell a v) :=
  p.trans ⟨by simp [World.setCell], fun k cs' t' fr hk hh => by
    have hne : a.block ≠ k := fun e => by
      subst e
      rw [show B.heap[a.block]? = _ from r] at hk
      injection hk with hk
      injection hk with _ hk _
      rcases hh with hh | ⟨e1, e2⟩
      · omega
      · rcases h1 with h1 | h1
        · exact e1 (hk ▸ h1)
        · exact e2 (hk ▸ h1)
    show (B.heap.modify a.block _)[k]? = _
    rw [Array.getElem?_modify, if_neg hne]
    exact hk⟩
theorem Kt.grown {h : Nat} {t1 t2 : TypeId} {A B C : World} (p : Kt h t1 t2 A B) {n₀ k n : Nat} {v : Value} {cs : List Value} (hn : h ≤ n₀) (o : B.ownsRow n₀ t2 k v n cs) (hg : B.grownBy C v.ownBlock) : Kt h t1 t2 A C :=
  p.trans ⟨hg.size, fun q cs' t' fr hk hh => (hg.block q (Array.getElem?_eq_some_iff.1 hk).1 (fun e => by
    rcases o.2 with ⟨rfl, _⟩ | ⟨g, cap, cur, rfl, hb, hc, _⟩
    · simp [Value.ownBlock] at e
    · obtain rfl : q = g := by simpa [Value.ownBlock] using e
      rcases hh with hh | ⟨_, e2⟩
      · omega
      · rw [hc] at hk
        injection hk with hk
        injection hk with _ hk _
        exact e2 hk.symm)).trans hk⟩
theorem kt_b {h : Nat} {t1 t2 : TypeId} {B : Nat} (W : World) (l : Nat) (o o' : Obj) (_ : B ≤ l) (hh : W.heap[l]? = some o) (hc : o.isCells = false) (_ : o.isWalk = false) : Kt h t1 t2 W (W.putObj l o') := by
  refine ⟨by simp [World.putObj], fun k cs t fr hk _ => ?_⟩
  have hne : l ≠ k := fun e => by
    subst e
    rw [hk] at hh
    injection hh with hh
    subst hh
    cases hc
  exact (World.putObj_heap_other (fun e => hne e.symm)).trans hk
theorem keepsFrom_below {B : Nat} {W W' : World} (p : Below W.heap.size W W') : KeepsFrom B W W' := ⟨p.size, fun k _ _ ho _ => (p.block k (Array.getElem?_eq_some_iff.1 ho).1).trans ho⟩
theorem kt_t {h : Nat} {t1 t2 : TypeId} {A B C : World} (p : Kt h t1 t2 A B) (q : Kt h t1 t2 B C) : Kt h t1 t2 A C := p.trans q

section
variable {F : Fence} {n : Nat} {P : Program} {α : Type}
/-- What an iterator tells, to whatever asks it while abiding the turn of records that are laid later. -/
def TellsD (F : Fence) (n : Nat) (P : Program) (g : Nat) (lb : Array Value) (encs : α → Array Value) (Kp : World → World → Prop) (S Sp : List α → Prop) (Ok : List α → α → Prop) (w : World) : Prop :=
  ∀ (l : Nat) (J Jx : List α → World → Prop) (W : World), Below w.heap.size w W → (∀ s X Y, J s X → Below X.heap.size X Y → J s Y) → (∀ s X Y, Jx s X → Below X.heap.size X Y → Jx s Y) →
    (∀ pre x W1, J pre W1 → Ok pre x → YieldAt F (n - 1) P l (encs x) W1 fun e W' =>
      (e = .returned (.bool true) ∧ J (pre ++ [x]) W' ∧ KeepsFrom W.heap.size W1 W' ∧ Kp W1 W') ∨ (e = .returned (.bool false) ∧ Jx (pre ++ [x]) W' ∧ KeepsFrom W.heap.size W1 W')) →
    J [] W → CallsIn F n P g (#[.func (.yield l) #[] #[]] ++ lb) W fun e W' => (∃ v, e = .returned v) ∧ ((∃ xs, S xs ∧ J xs W') ∨ (∃ pre, Sp pre ∧ Jx pre W'))

/-- One round, told by its body's walk. -/
theorem one_roundD {fn : FuncId} (hfn : F.fn fn) {m B l D : Nat} (hl : B ≤ l) (hD : B ≤ D) (hne : l ≠ D) {tmps : Array Value} {ps : Array Tmp} {asg body : Code} {encs : α → Array Value} (hps : ∀ x, (encs x).size = ps.size) {Kp : World → World → Prop}
    (hKt : ∀ {X Y Z : World}, Kp X Y → Kp Y Z → Kp X Z) (hKb : ∀ (W : World) (k : Nat) (o o' : Obj), B ≤ k → W.heap[k]? = some o → o.isCells = false → o.isWalk = false → Kp W (W.putObj k o')) {H : Nat} (hH : l < H)
    {I : List α → World → Prop} {Ix : Code → List α → World → Prop} (hI : OwnFrom B I) (hIx : ∀ c, OwnFrom B (Ix c)) {Ax : α → Act → World → Prop} (hAx : ∀ x a', OwnFrom B (fun (_ : Unit) W => Ax x a' W)) {Ok : List α → α → Prop}
    (hassign : ∀ (pre : List α) (x : α) (W : World) (K : Act → World → Prop), I pre W → (∀ a' W', KeepsFrom B W W' → Kp W W' → I pre W' → Ax x a' W' → K a' W') →
      asg.wpIn (F.inRound l) m P (Exit.then K (fun _ _ _ => False)) { tmps := (ps.zip (encs x)).foldl (fun t (p, v) => t.setIfInBounds p v) tmps, defers := [] } W)
    (hbody : ∀ (pre : List α) (x : α) (a' : Act) (W : World), I pre W → Ax x a' W → Ok pre x → body.wpIn (F.inRound l) m P (ownPostG B Kp I Ix (pre ++ [x]) W) a' W)
    (pre : List α) (x : α) (W : World) (hi : I pre W) (hb : Book l D (recOf fn tmps ps asg body D .ready none) W) (hN : Ok pre x) :
    YieldAt F m P l (encs x) W fun e W' =>
      (e = .returned (.bool true) ∧ (I (pre ++ [x]) W' ∧ Book l D (recOf fn tmps ps asg body D .ready none) W') ∧ KeepsFrom H W W' ∧ Kp W W') ∨
      (e = .returned (.bool false) ∧ (∃ c, Ix c (pre ++ [x]) W' ∧ Book l D (recOf fn tmps ps asg body D .done (some c)) W') ∧ KeepsFrom H W W') := by
  refine ⟨fn, _, asg, body, run_yield hb.1 (hps x), roundIn_of_wpIn hfn (hassign pre x W _ hi ?_)⟩
  intro a' Wa k1 p1 hia hax
  have hba := hb.keep k1 hl hD
  refine ⟨_, run_beginRound hba.1 rfl, ?_⟩
  have hbb := hba.turn (r' := recOf fn tmps ps asg body D .busy none) hne
  have p2 := hKb Wa l _ (.loop (recOf fn tmps ps asg body D .busy none)) hl hba.1 rfl rfl
  have hib := hI.putObj (.loop (recOf fn tmps ps asg body D .busy none)) hia hl hba.1 rfl
  have hxb := (hAx x a').putObj (s := ()) (.loop (recOf fn tmps ps asg body D .busy none)) hax hl hba.1 rfl
  refine wpIn_mono (hbody pre x a' _ hib hxb hN) ?_
  have out : ∀ (c : Code) (W3 : World), KeepsFrom B (Wa.putObj l (.loop (recOf fn tmps ps asg body D .busy none))) W3 → Ix c (pre ++ [x]) W3 →
      ∃ v w', (Instr.endRound l (some c)).run P W3 = .ok v w' ∧ v = .bool false ∧ Ix c (pre ++ [x]) w' ∧ Book l D (recOf fn tmps ps asg body D .done (some c)) w' ∧ KeepsFrom H W w' := fun c W3 k3 hx => by
    have hb3 := hbb.keep k3 hl hD
    exact ⟨_, _, run_endRound (some c) hb3.1, rfl, (hIx c).putObj _ hx hl hb3.1 rfl, hb3.turn hne, keepsFrom_trans' (keepsFrom_mono k1 (by omega)) (keepsFrom_trans' (keepsFrom_put _ _ hH) (keepsFrom_trans' (keepsFrom_mono k3 (by omega)) (keepsFrom_put _ _ hH)))⟩
  rintro e a3 W3 hp
  cases e with
  | normal =>
    obtain ⟨k3, p3, hi3⟩ := hp
    have hb3 := hbb.keep k3 hl hD
    exact ⟨_, _, run_endRound none hb3.1, .inl ⟨rfl, ⟨hI.putObj _ hi3 hl hb3.1 rfl, hb3.turn hne⟩, keepsFrom_trans' (keepsFrom_mono k1 (by omega)) (keepsFrom_trans' (keepsFrom_put _ _ hH) (keepsFrom_trans' (keepsFrom_mono k3 (by omega)) (keepsFrom_put _ _ hH))), hKt p1 (hKt (hKt p2 p3) (hKb _ _ _ _ hl hb3.1 rfl rfl))⟩⟩
  | ret =>
    obtain ⟨v, w', h1, h2, h3, h4, h5⟩ := out .ret W3 hp.1 hp.2
    exact ⟨v, w', h1, .inr ⟨by rw [h2], ⟨_, h3, h4⟩, h5⟩⟩
  | exit id =>
    obtain ⟨v, w', h1, h2, h3, h4, h5⟩ := out (.exit id) W3 hp.1 hp.2
    exact ⟨v, w', h1, .inr ⟨by rw [h2], ⟨_, h3, h4⟩, h5⟩⟩
  | goto t =>
    obtain ⟨v, w', h1, h2, h3, h4, h5⟩ := out (.goto t) W3 hp.1 hp.2
    exact ⟨v, w', h1, .inr ⟨by rw [h2], ⟨_, h3, h4⟩, h5⟩⟩
  | panic ch => exact hp.elim
  | outgrown => exact hp.elim

/-- The statement, over an iterator that tells. -/
theorem range_tellsD {g : Operand} {ps : Array Tmp} {asg body : Code} {Q : Exit → Act → World → Prop} {a : Act} {w : World}
    (hro : F.round = none) (h1 : 1 ≤ n) {gf : Nat} {lb : Array Value} (hg : a.eval g = .func (.func gf) #[] lb) (hF : F.fn gf) (eg : ∀ args w, (callFunc gf args).run P w = .ok (.enter gf args) w)
    {encs : α → Array Value} {Kp : World → World → Prop} {S Sp : List α → Prop} {Ok : List α → α → Prop} {w0 : World} (hseq : TellsD F (n - 1) P gf lb encs Kp S Sp Ok w0)
    (hKt : ∀ {X Y Z : World}, Kp X Y → Kp Y Z → Kp X Z) (hKb : ∀ (W : World) (k : Nat) (o o' : Obj), w.heap.size ≤ k → W.heap[k]? = some o → o.isCells = false → o.isWalk = false → Kp W (W.putObj k o')) (hb0 : Below w0.heap.size w0 w) (hps : ∀ x, (encs x).size = ps.size)
    (I : List α → World → Prop) (Ix : Code → List α → World → Prop) (hI : OwnFrom w.heap.size I) (hIx : ∀ c, OwnFrom w.heap.size (Ix c)) (hIb : ∀ s X Y, I s X → Below X.heap.size X Y → I s Y) (hIxb : ∀ c s X Y, Ix c s X → Below X.heap.size X Y → Ix c s Y) (h0 : I [] w) (Ax : α → Act → World → Prop) (hAx : ∀ x a', OwnFrom w.heap.size (fun (_ : Unit) W => Ax x a' W))
    (hassign : ∀ (l : Nat) (pre : List α) (x : α) (W : World) (K : Act → World → Prop), I pre W → (∀ a' W', KeepsFrom w.heap.size W W' → Kp W W' → I pre W' → Ax x a' W' → K a' W') →
      asg.wpIn (F.inRound l) (n - 1 - 1) P (Exit.then K (fun _ _ _ => False)) { tmps := (ps.zip (encs x)).foldl (fun t (p, v) => t.setIfInBounds p v) a.tmps, defers := [] } W)
    (hbody : ∀ (l : Nat) (pre : List α) (x : α) (a' : Act) (W : World), I pre W → Ax x a' W → Ok pre x → body.wpIn (F.inRound l) (n - 1 - 1) P (ownPostG w.heap.size Kp I Ix (pre ++ [x]) W) a' W)
    (hdone : ∀ (D : Nat) (xs : List α) (W : World), w.heap.size ≤ D → S xs → I xs W → W.heap[D]? = some (.deferred (some [])) → Q .normal { a with defers := { target := .collected D, args := #[] } :: a.defers } W)
    (hstop : ∀ (D : Nat) (c : Code) (pre : List α) (W : World), w.heap.size ≤ D → Sp pre → Ix c pre W → W.heap[D]? = some (.deferred (some [])) → c.wpIn F n P Q { a with defers := { target := .collected D, args := #[] } :: a.defers } W) :
    (Code.rangeFunc g ps asg body).wpIn F n P Q a w := by
  refine wpIn_rangeFunc fun fn hfn => ?_
  rw [hro]
  have hne : w.heap.size + 1 ≠ w.heap.size := by omega
  have hbk : Book (w.heap.size + 1) w.heap.size (recOf fn a.tmps ps asg body w.heap.size .ready none) ((w.alloc (.deferred (some []))).alloc (.loop (recOf fn a.tmps ps asg body w.heap.size .ready none))) := by
    constructor
    · have h := World.alloc_heap_new (w.alloc (.deferred (some []))) (.loop (recOf fn a.tmps ps asg body w.heap.size .ready none))
      rwa [World.size_alloc] at h
    · exact (Below.heap_alloc _ _ _ (by simp)).trans (World.alloc_heap_new w _)
  have hi1 : I [] ((w.alloc (.deferred (some []))).alloc (.loop (recOf fn a.tmps ps asg body w.heap.size .ready none))) := hI.alloc _ (hI.alloc _ h0)
  have hb1 : Below w0.heap.size w0 ((w.alloc (.deferred (some []))).alloc (.loop (recOf fn a.tmps ps asg body w.heap.size .ready none))) :=
    hb0.trans ((((Below.refl _ w).alloc (Nat.le_refl _) _).alloc (by simp) _).mono hb0.size)
  have hent := run_enterLoop_outer (P := P) (w := w) fn a.tmps ps asg body
  have hsz : ((w.alloc (.deferred (some []))).alloc (.loop (recOf fn a.tmps ps asg body w.heap.size .ready none))).heap.size = w.heap.size + 2 := by simp
  refine ⟨w.heap.size + 1, [{ target := .collected w.heap.size, args := #[] }], (w.alloc (.deferred (some []))).alloc (.loop (recOf fn a.tmps ps asg body w.heap.size .ready none)), { target := .fn (.func gf) lb, args := #[.func (.yield (w.heap.size + 1)) #[] #[]] }, (w.alloc (.deferred (some []))).alloc (.loop (recOf fn a.tmps ps asg body w.heap.size .ready none)), gf,
    #[.func (.yield (w.heap.size + 1)) #[] #[]] ++ lb, (w.alloc (.deferred (some []))).alloc (.loop (recOf fn a.tmps ps asg body w.heap.size .ready none)), hent, ?_, ?_, ?_, fun _ => h1, ?_⟩
  · simp only [resolve, hg]
    simp [go_sem]
  · intro f' hf'
    simp [Target.leads] at hf'
    subst hf'
    exact hF
  · simp [invoke, go_sem, eg]
  · generalize ((w.alloc (.deferred (some []))).alloc (.loop (recOf fn a.tmps ps asg body w.heap.size .ready none))) = W1 at *
    have abide : ∀ {X Y : World} {r : Loop}, Below X.heap.size X Y → Book (w.heap.size + 1) w.heap.size r X → Book (w.heap.size + 1) w.heap.size r Y := by
      intro X Y r hXY hb
      exact ⟨(hXY.block _ (Array.getElem?_eq_some_iff.1 hb.1).1).trans hb.1, (hXY.block _ (Array.getElem?_eq_some_iff.1 hb.2).1).trans hb.2⟩
    refine (hseq (w.heap.size + 1) (fun pre W => I pre W ∧ Book (w.heap.size + 1) w.heap.size (recOf fn a.tmps ps asg body w.heap.size .ready none) W)
      (fun pre W => ∃ c, Ix c pre W ∧ Book (w.heap.size + 1) w.heap.size (recOf fn a.tmps ps asg body w.heap.size .done (some c)) W) W1 hb1
      (fun s X Y hs hXY => ⟨hIb s X Y hs.1 hXY, abide hXY hs.2⟩)
      (fun s X Y hs hXY => by obtain ⟨c, hc, hb⟩ := hs; exact ⟨c, hIxb c s X Y hc hXY, abide hXY hb⟩)
      (fun pre x W hJ hN => one_roundD (Kp := Kp) (P := P) (m := n - 1 - 1) (B := w.heap.size) (l := w.heap.size + 1) (D := w.heap.size) (tmps := a.tmps) (ps := ps) (asg := asg) (body := body) (I := I) (Ix := Ix) (Ax := Ax) (Ok := Ok) hfn (Nat.le_succ _) (Nat.le_refl _) hne hps hKt hKb (H := W1.heap.size) (by omega) hI hIx hAx (hassign (w.heap.size + 1)) (hbody (w.heap.size + 1)) pre x W hJ.1 hJ.2 hN) ⟨hi1, hbk⟩).mono ?_
    rintro e W2 ⟨⟨v, rfl⟩, (⟨xs, hS, hi, hb⟩ | ⟨pre, hSp, c, hi, hb⟩)⟩
    · exact ⟨none, _, run_endLoop hb.1 (by simp [recOf]), hdone _ xs _ (Nat.le_refl _) hS (hI.putObj _ hi (by omega) hb.1 rfl) ((World.putObj_heap_other (by omega)).trans hb.2)⟩
    · exact ⟨some c, _, run_endLoop hb.1 (by simp [recOf]), hstop _ c pre _ (Nat.le_refl _) hSp ((hIx c).putObj _ hi (by omega) hb.1 rfl) ((World.putObj_heap_other (by omega)).trans hb.2)⟩

theorem yield_mono {m : Nat} {l : Nat} {args : Array Value} {W : World} {R R' : Ending → World → Prop} (hR : ∀ e W', R e W' → R' e W') (h : YieldAt F m P l args W R) : YieldAt F m P l args W R' := by
  obtain ⟨fn, tmps, asg, body, hy, hr⟩ := h
  exact ⟨fn, tmps, asg, body, hy, hr.mono hR⟩
/-- What an iterator tells, to whatever never leaves the loop. -/
def TellsE (F : Fence) (n : Nat) (P : Program) (g : Nat) (lb : Array Value) (encs : α → Array Value) (Kp : World → World → Prop) (S : List α → Prop) (Ok : List α → α → Prop) (w : World) : Prop :=
  ∀ (l : Nat) (J : List α → World → Prop) (W : World), Below w.heap.size w W → (∀ s X Y, J s X → Below X.heap.size X Y → J s Y) →
    (∀ pre x W1, J pre W1 → Ok pre x → YieldAt F (n - 1) P l (encs x) W1 fun e W' => e = .returned (.bool true) ∧ J (pre ++ [x]) W' ∧ KeepsFrom W.heap.size W1 W' ∧ Kp W1 W') →
    J [] W → CallsIn F n P g (#[.func (.yield l) #[] #[]] ++ lb) W fun e W' => (∃ v, e = .returned v) ∧ ∃ xs, S xs ∧ J xs W'

/-- The statement, over an iterator that tells, where no round leaves the loop. -/
theorem range_tellsE {g : Operand} {ps : Array Tmp} {asg body : Code} {Q : Exit → Act → World → Prop} {a : Act} {w : World}
    (hro : F.round = none) (h1 : 1 ≤ n) {gf : Nat} {lb : Array Value} (hg : a.eval g = .func (.func gf) #[] lb) (hF : F.fn gf) (eg : ∀ args w, (callFunc gf args).run P w = .ok (.enter gf args) w)
    {encs : α → Array Value} {Kp : World → World → Prop} {S : List α → Prop} {Ok : List α → α → Prop} {w0 : World} (hseq : TellsE F (n - 1) P gf lb encs Kp S Ok w0)
    (hKt : ∀ {X Y Z : World}, Kp X Y → Kp Y Z → Kp X Z) (hKb : ∀ (W : World) (k : Nat) (o o' : Obj), w.heap.size ≤ k → W.heap[k]? = some o → o.isCells = false → o.isWalk = false → Kp W (W.putObj k o')) (hb0 : Below w0.heap.size w0 w) (hps : ∀ x, (encs x).size = ps.size)
    (I : List α → World → Prop) (hI : OwnFrom w.heap.size I) (hIb : ∀ s X Y, I s X → Below X.heap.size X Y → I s Y) (h0 : I [] w) (Ax : α → Act → World → Prop) (hAx : ∀ x a', OwnFrom w.heap.size (fun (_ : Unit) W => Ax x a' W))
    (hassign : ∀ (l : Nat) (pre : List α) (x : α) (W : World) (K : Act → World → Prop), I pre W → (∀ a' W', KeepsFrom w.heap.size W W' → Kp W W' → I pre W' → Ax x a' W' → K a' W') →
      asg.wpIn (F.inRound l) (n - 1 - 1) P (Exit.then K (fun _ _ _ => False)) { tmps := (ps.zip (encs x)).foldl (fun t (p, v) => t.setIfInBounds p v) a.tmps, defers := [] } W)
    (hbody : ∀ (l : Nat) (pre : List α) (x : α) (a' : Act) (W : World), I pre W → Ax x a' W → Ok pre x → body.wpIn (F.inRound l) (n - 1 - 1) P (ownPostG w.heap.size Kp I (fun _ _ _ => False) (pre ++ [x]) W) a' W)
    (hdone : ∀ (D : Nat) (xs : List α) (W : World), w.heap.size ≤ D → S xs → I xs W → W.heap[D]? = some (.deferred (some [])) → Q .normal { a with defers := { target := .collected D, args := #[] } :: a.defers } W) :
    (Code.rangeFunc g ps asg body).wpIn F n P Q a w := by
  refine wpIn_rangeFunc fun fn hfn => ?_
  rw [hro]
  have hne : w.heap.size + 1 ≠ w.heap.size := by omega
  have hbk : Book (w.heap.size + 1) w.heap.size (recOf fn a.tmps ps asg body w.heap.size .ready none) ((w.alloc (.deferred (some []))).alloc (.loop (recOf fn a.tmps ps asg body w.heap.size .ready none))) := by
    constructor
    · have h := World.alloc_heap_new (w.alloc (.deferred (some []))) (.loop (recOf fn a.tmps ps asg body w.heap.size .ready none))
      rwa [World.size_alloc] at h
    · exact (Below.heap_alloc _ _ _ (by simp)).trans (World.alloc_heap_new w _)
  have hi1 : I [] ((w.alloc (.deferred (some []))).alloc (.loop (recOf fn a.tmps ps asg body w.heap.size .ready none))) := hI.alloc _ (hI.alloc _ h0)
  have hb1 : Below w0.heap.size w0 ((w.alloc (.deferred (some []))).alloc (.loop (recOf fn a.tmps ps asg body w.heap.size .ready none))) :=
    hb0.trans ((((Below.refl _ w).alloc (Nat.le_refl _) _).alloc (by simp) _).mono hb0.size)
  have hent := run_enterLoop_outer (P := P) (w := w) fn a.tmps ps asg body
  have hsz : ((w.alloc (.deferred (some []))).alloc (.loop (recOf fn a.tmps ps asg body w.heap.size .ready none))).heap.size = w.heap.size + 2 := by simp
  refine ⟨w.heap.size + 1, [{ target := .collected w.heap.size, args := #[] }], (w.alloc (.deferred (some []))).alloc (.loop (recOf fn a.tmps ps asg body w.heap.size .ready none)), { target := .fn (.func gf) lb, args := #[.func (.yield (w.heap.size + 1)) #[] #[]] }, (w.alloc (.deferred (some []))).alloc (.loop (recOf fn a.tmps ps asg body w.heap.size .ready none)), gf,
    #[.func (.yield (w.heap.size + 1)) #[] #[]] ++ lb, (w.alloc (.deferred (some []))).alloc (.loop (recOf fn a.tmps ps asg body w.heap.size .ready none)), hent, ?_, ?_, ?_, fun _ => h1, ?_⟩
  · simp only [resolve, hg]
    simp [go_sem]
  · intro f' hf'
    simp [Target.leads] at hf'
    subst hf'
    exact hF
  · simp [invoke, go_sem, eg]
  · generalize ((w.alloc (.deferred (some []))).alloc (.loop (recOf fn a.tmps ps asg body w.heap.size .ready none))) = W1 at *
    have abide : ∀ {X Y : World} {r : Loop}, Below X.heap.size X Y → Book (w.heap.size + 1) w.heap.size r X → Book (w.heap.size + 1) w.heap.size r Y := by
      intro X Y r hXY hb
      exact ⟨(hXY.block _ (Array.getElem?_eq_some_iff.1 hb.1).1).trans hb.1, (hXY.block _ (Array.getElem?_eq_some_iff.1 hb.2).1).trans hb.2⟩
    refine (hseq (w.heap.size + 1) (fun pre W => I pre W ∧ Book (w.heap.size + 1) w.heap.size (recOf fn a.tmps ps asg body w.heap.size .ready none) W) W1 hb1
      (fun s X Y hs hXY => ⟨hIb s X Y hs.1 hXY, abide hXY hs.2⟩)
      (fun pre x W hJ hN => yield_mono (R' := fun e W' => e = .returned (.bool true) ∧ (I (pre ++ [x]) W' ∧ Book (w.heap.size + 1) w.heap.size (recOf fn a.tmps ps asg body w.heap.size .ready none) W') ∧ KeepsFrom W1.heap.size W W' ∧ Kp W W') (fun e W' h => h.elim id fun ⟨_, ⟨_, hc, _⟩, _⟩ => hc.elim) (one_roundD (Kp := Kp) (P := P) (m := n - 1 - 1) (B := w.heap.size) (l := w.heap.size + 1) (D := w.heap.size) (tmps := a.tmps) (ps := ps) (asg := asg) (body := body) (I := I) (Ix := fun _ _ _ => False) (Ax := Ax) (Ok := Ok) hfn (Nat.le_succ _) (Nat.le_refl _) hne hps hKt hKb (H := W1.heap.size) (by omega) hI (fun _ _ _ _ _ h _ _ => h) hAx (hassign (w.heap.size + 1)) (hbody (w.heap.size + 1)) pre x W hJ.1 hJ.2 hN)) ⟨hi1, hbk⟩).mono ?_
    rintro e W2 ⟨⟨v, rfl⟩, xs, hS, hi, hb⟩
    exact ⟨none, _, run_endLoop hb.1 (by simp [recOf]), hdone _ xs _ (Nat.le_refl _) hS (hI.putObj _ hi (by omega) hb.1 rfl) ((World.putObj_heap_other (by omega)).trans hb.2)⟩

end
end Go.Proofs

/- Ranges over functions whose rounds may leave, or panic: what holds at every seat. -/
namespace Go.Proofs
set_option maxRecDepth 100000
open Go.RowKit Go.Shelf
attribute [local go_sem] Oper.semAt_some

/-- All cells are as they were, but those of blocks of these types. -/
structure Kq (T : TypeId → Bool) (A B : World) : Prop where
  size : A.heap.size ≤ B.heap.size
  same : ∀ (k : Nat) (cs : Array Value) (t : TypeId) (fr : Nat × Nat), A.heap[k]? = some (.cells cs t fr) → T t = false → B.heap[k]? = some (.cells cs t fr)
theorem Kq.refl (T : TypeId → Bool) (A : World) : Kq T A A := ⟨Nat.le_refl _, fun _ _ _ _ h _ => h⟩
theorem Kq.trans {T : TypeId → Bool} {A B C : World} (p : Kq T A B) (q : Kq T B C) : Kq T A C := ⟨Nat.le_trans p.size q.size, fun k cs t fr hk hh => q.same k cs t fr (p.same k cs t fr hk hh) hh⟩
theorem Kq.rows {T : TypeId → Bool} {A B : World} (p : Kq T A B) {k : Nat} {t : TypeId} {cs : Array Value} (r : Rows8 A k t cs) (h1 : T t = false) : Rows8 B k t cs := p.same k cs t (0, 0) r h1
theorem Kq.of_below {T : TypeId → Bool} {A B : World} (p : Below A.heap.size A B) : Kq T A B := ⟨p.size, fun k _ _ _ hk _ => (p.block k (Array.getElem?_eq_some_iff.1 hk).1).trans hk⟩
theorem Kq.alloc {T : TypeId → Bool} (A : World) (o : Obj) : Kq T A (A.alloc o) := .of_below ((Below.refl _ A).alloc (Nat.le_refl _) o)
theorem Kq.set {T : TypeId → Bool} {A B : World} (p : Kq T A B) {a : Addr} {t : TypeId} {cs : Array Value} (r : Rows8 B a.block t cs) (h1 : T t = true) (v : Value) : Kq T A (B.setCell a v) := by
  refine ⟨Nat.le_trans p.size (by simp [World.setCell]), fun k cs' t' fr hk hh => ?_⟩
  have hq := p.same k cs' t' fr hk hh
  have hne : k ≠ a.block := fun e => by
    subst e
    rw [show B.heap[a.block]? = _ from r] at hq
    injection hq with hq
    injection hq with _ e2 _
    subst e2
    rw [h1] at hh
    cases hh
  exact (Below.heap_setCell _ _ _ _ hne).trans hq
theorem Kq.grown {T : TypeId → Bool} {A B C : World} (p : Kq T A B) {n₀ k n : Nat} {t : TypeId} {v : Value} {cs : List Value} (ht : T t = true) (o : B.ownsRow n₀ t k v n cs) (hg : B.grownBy C v.ownBlock) : Kq T A C := by
  refine ⟨Nat.le_trans p.size hg.size, fun j cs' t' fr hk hh => ?_⟩
  have hq := p.same j cs' t' fr hk hh
  refine (hg.block j (Array.getElem?_eq_some_iff.1 hq).1 fun e => ?_).trans hq
  rcases o.2 with ⟨rfl, _⟩ | ⟨g, cap, cur, rfl, _, hh2, _⟩
  · simp [Value.ownBlock] at e
  · obtain rfl : j = g := by simpa [Value.ownBlock] using e
    rw [hq] at hh2
    injection hh2 with h1
    injection h1 with _ h2 _
    subst h2
    rw [ht] at hh
    cases hh
theorem kq_t {T : TypeId → Bool} {A B C : World} (p : Kq T A B) (q : Kq T B C) : Kq T A C := p.trans q
theorem kq_b {T : TypeId → Bool} {B : Nat} (W : World) (l : Nat) (o o' : Obj) (_ : B ≤ l) (hh : W.heap[l]? = some o) (hc : o.isCells = false) (_ : o.isWalk = false) : Kq T W (W.putObj l o') := by
  refine ⟨by simp [World.putObj], fun k cs t fr hk _ => ?_⟩
  have hne : l ≠ k := fun e => by
    subst e
    rw [hk] at hh
    injection hh with hh
    subst hh
    cases hc
  exact (World.putObj_heap_other (fun e => hne e.symm)).trans hk

section
variable {F : Fence} {n : Nat} {P : Program} {α : Type}

/-- What an iterator tells, to whatever asks it, goes on, leaves the loop, or panics. -/
def TellsX (F : Fence) (n : Nat) (P : Program) (g : Nat) (lb : Array Value) (encs : α → Array Value) (Kp : World → World → Prop) (S : List α → Prop) (Ok : List α → α → Prop) (w : World) : Prop :=
  ∀ (l : Nat) (J Jx : List α → World → Prop) (Jp : List α × List PanicEntry → World → Prop) (W : World), Below w.heap.size w W → OwnFrom W.heap.size J → OwnFrom W.heap.size Jx → OwnFrom W.heap.size Jp →
    (∀ pre x W1, J pre W1 → Ok pre x → YieldAt F (n - 1) P l (encs x) W1 fun e W' =>
      (e = .returned (.bool true) ∧ J (pre ++ [x]) W' ∧ KeepsFrom W.heap.size W1 W' ∧ Kp W1 W') ∨ (e = .returned (.bool false) ∧ Jx (pre ++ [x]) W' ∧ KeepsFrom W.heap.size W1 W') ∨
      (∃ ch, e = .panicked ch ∧ Jp (pre ++ [x], ch) W' ∧ KeepsFrom W.heap.size W1 W')) →
    J [] W → CallsIn F n P g (#[.func (.yield l) #[] #[]] ++ lb) W fun e W' => ((∃ v, e = .returned v) ∧ ((∃ xs, S xs ∧ J xs W') ∨ (∃ pre, Jx pre W'))) ∨ (∃ pre ch, e = .panicked ch ∧ Jp (pre, ch) W')

theorem ownFrom_book {β : Type} {l D H : Nat} {r : Loop} (hl : l < H) (hD : D < H) : OwnFrom H (fun (_ : β) W => Book l D r W) := fun _ X Y row hb hg hr =>
  ⟨(hg.block l (Array.getElem?_eq_some_iff.1 hb.1).1 (fun e => by have := (hr l e.symm).1; omega)).trans hb.1, (hg.block D (Array.getElem?_eq_some_iff.1 hb.2).1 (fun e => by have := (hr D e.symm).1; omega)).trans hb.2⟩
theorem ownFrom_ex {β γ : Type} {H : Nat} {I : γ → β → World → Prop} (h : ∀ c, OwnFrom H (I c)) : OwnFrom H (fun s W => ∃ c, I c s W) := fun s X Y row ⟨c, hs⟩ hg hr => ⟨c, h c s X Y row hs hg hr⟩

/-- The statement, over an iterator that tells, where no round panics. -/
theorem range_tellsX {g : Operand} {ps : Array Tmp} {asg body : Code} {Q : Exit → Act → World → Prop} {a : Act} {w : World}
    (hro : F.round = none) (h1 : 1 ≤ n) {gf : Nat} {lb : Array Value} (hg : a.eval g = .func (.func gf) #[] lb) (hF : F.fn gf) (eg : ∀ args w, (callFunc gf args).run P w = .ok (.enter gf args) w)
    {encs : α → Array Value} {Kp : World → World → Prop} {S : List α → Prop} {Ok : List α → α → Prop} {w0 : World} (hseq : TellsX F (n - 1) P gf lb encs Kp S Ok w0)
    (hKt : ∀ {X Y Z : World}, Kp X Y → Kp Y Z → Kp X Z) (hKb : ∀ (W : World) (k : Nat) (o o' : Obj), w.heap.size ≤ k → W.heap[k]? = some o → o.isCells = false → o.isWalk = false → Kp W (W.putObj k o')) (hb0 : Below w0.heap.size w0 w) (hps : ∀ x, (encs x).size = ps.size)
    (I : List α → World → Prop) (Ix : Code → List α → World → Prop) (hI : OwnFrom w.heap.size I) (hIx : ∀ c, OwnFrom w.heap.size (Ix c)) (h0 : I [] w) (Ax : α → Act → World → Prop) (hAx : ∀ x a', OwnFrom w.heap.size (fun (_ : Unit) W => Ax x a' W))
    (hassign : ∀ (l : Nat) (pre : List α) (x : α) (W : World) (K : Act → World → Prop), I pre W → (∀ a' W', KeepsFrom w.heap.size W W' → Kp W W' → I pre W' → Ax x a' W' → K a' W') →
      asg.wpIn (F.inRound l) (n - 1 - 1) P (Exit.then K (fun _ _ _ => False)) { tmps := (ps.zip (encs x)).foldl (fun t (p, v) => t.setIfInBounds p v) a.tmps, defers := [] } W)
    (hbody : ∀ (l : Nat) (pre : List α) (x : α) (a' : Act) (W : World), I pre W → Ax x a' W → Ok pre x → body.wpIn (F.inRound l) (n - 1 - 1) P (ownPostG w.heap.size Kp I Ix (pre ++ [x]) W) a' W)
    (hdone : ∀ (D : Nat) (xs : List α) (W : World), w.heap.size ≤ D → S xs → I xs W → W.heap[D]? = some (.deferred (some [])) → Q .normal { a with defers := { target := .collected D, args := #[] } :: a.defers } W)
    (hstop : ∀ (D : Nat) (c : Code) (pre : List α) (W : World), w.heap.size ≤ D → Ix c pre W → W.heap[D]? = some (.deferred (some [])) → c.wpIn F n P Q { a with defers := { target := .collected D, args := #[] } :: a.defers } W) :
    (Code.rangeFunc g ps asg body).wpIn F n P Q a w := by
  refine wpIn_rangeFunc fun fn hfn => ?_
  rw [hro]
  have hne : w.heap.size + 1 ≠ w.heap.size := by omega
  have hbk : Book (w.heap.size + 1) w.heap.size (recOf fn a.tmps ps asg body w.heap.size .ready none) ((w.alloc (.deferred (some []))).alloc (.loop (recOf fn a.tmps ps asg body w.heap.size .ready none))) := by
    constructor
    · have h := World.alloc_heap_new (w.alloc (.deferred (some []))) (.loop (recOf fn a.tmps ps asg body w.heap.size .ready none))
      rwa [World.size_alloc] at h
    · exact (Below.heap_alloc _ _ _ (by simp)).trans (World.alloc_heap_new w _)
  have hi1 : I [] ((w.alloc (.deferred (some []))).alloc (.loop (recOf fn a.tmps ps asg body w.heap.size .ready none))) := hI.alloc _ (hI.alloc _ h0)
  have hb1 : Below w0.heap.size w0 ((w.alloc (.deferred (some []))).alloc (.loop (recOf fn a.tmps ps asg body w.heap.size .ready none))) :=
    hb0.trans ((((Below.refl _ w).alloc (Nat.le_refl _) _).alloc (by simp) _).mono hb0.size)
  have hent := run_enterLoop_outer (P := P) (w := w) fn a.tmps ps asg body
  have hsz : ((w.alloc (.deferred (some []))).alloc (.loop (recOf fn a.tmps ps asg body w.heap.size .ready none))).heap.size = w.heap.size + 2 := by simp
  refine ⟨w.heap.size + 1, [{ target := .collected w.heap.size, args := #[] }], (w.alloc (.deferred (some []))).alloc (.loop (recOf fn a.tmps ps asg body w.heap.size .ready none)), { target := .fn (.func gf) lb, args := #[.func (.yield (w.heap.size + 1)) #[] #[]] }, (w.alloc (.deferred (some []))).alloc (.loop (recOf fn a.tmps ps asg body w.heap.size .ready none)), gf,
    #[.func (.yield (w.heap.size + 1)) #[] #[]] ++ lb, (w.alloc (.deferred (some []))).alloc (.loop (recOf fn a.tmps ps asg body w.heap.size .ready none)), hent, ?_, ?_, ?_, fun _ => h1, ?_⟩
  · simp only [resolve, hg]
    simp [go_sem]
  · intro f' hf'
    simp [Target.leads] at hf'
    subst hf'
    exact hF
  · simp [invoke, go_sem, eg]
  · generalize ((w.alloc (.deferred (some []))).alloc (.loop (recOf fn a.tmps ps asg body w.heap.size .ready none))) = W1 at *
    have hlW : w.heap.size + 1 < W1.heap.size := by omega
    have hDW : w.heap.size < W1.heap.size := by omega
    refine (hseq (w.heap.size + 1) (fun pre W => I pre W ∧ Book (w.heap.size + 1) w.heap.size (recOf fn a.tmps ps asg body w.heap.size .ready none) W)
      (fun pre W => ∃ c, Ix c pre W ∧ Book (w.heap.size + 1) w.heap.size (recOf fn a.tmps ps asg body w.heap.size .done (some c)) W) (fun _ _ => False) W1 hb1
      (OwnFrom.and (ownFrom_mono hI (by omega)) (ownFrom_book hlW hDW))
      (ownFrom_ex fun c => OwnFrom.and (ownFrom_mono (hIx c) (by omega)) (ownFrom_book hlW hDW))
      (fun _ _ _ _ h _ _ => h)
      (fun pre x W hJ hN => yield_mono (fun e W' h => h.elim .inl fun h => .inr (.inl h)) (one_roundD (Kp := Kp) (P := P) (m := n - 1 - 1) (B := w.heap.size) (l := w.heap.size + 1) (D := w.heap.size) (tmps := a.tmps) (ps := ps) (asg := asg) (body := body) (I := I) (Ix := Ix) (Ax := Ax) (Ok := Ok) hfn (Nat.le_succ _) (Nat.le_refl _) hne hps hKt hKb (H := W1.heap.size) (by omega) hI hIx hAx (hassign (w.heap.size + 1)) (hbody (w.heap.size + 1)) pre x W hJ.1 hJ.2 hN)) ⟨hi1, hbk⟩).mono ?_
    rintro e W2 (⟨⟨v, rfl⟩, (⟨xs, hS, hi, hb⟩ | ⟨pre, c, hi, hb⟩)⟩ | ⟨_, _, _, h⟩)
    · exact ⟨none, _, run_endLoop hb.1 (by simp [recOf]), hdone _ xs _ (Nat.le_refl _) hS (hI.putObj _ hi (by omega) hb.1 rfl) ((World.putObj_heap_other (by omega)).trans hb.2)⟩
    · exact ⟨some c, _, run_endLoop hb.1 (by simp [recOf]), hstop _ c pre _ (Nat.le_refl _) ((hIx c).putObj _ hi (by omega) hb.1 rfl) ((World.putObj_heap_other (by omega)).trans hb.2)⟩
    · exact h.elim

end
end Go.Proofs

/- Ranges over functions whose rounds may panic: a walk in frames of one function. -/
namespace Go.Proofs
set_option maxRecDepth 100000
set_option maxRecDepth 100000
open Go.RowKit Go.Shelf
attribute [local go_sem] Oper.semAt_some

section
variable {P : Program} {fn : FuncId} {c x y : Code} {Q : Exit → Act → World → Prop} {a : Act} {w : World}
/-- The walk in the frames of one function, no round's. -/
def WpAt (P : Program) (fn : FuncId) (c : Code) (Q : Exit → Act → World → Prop) (a : Act) (w : World) : Prop :=
  ∀ (b : Frame) (k : List Item) (cs : List Frame), b.roundOf = none → b.fn = fn → ∃ e a' w', Q e a' w' ∧ ArrivesIn (Machine.fenced P Fence.wide) P (lone (b.atR a (.code c :: k)) cs w) b k cs e a' w'
theorem wpAt_of {n : Nat} (h : c.wpIn Fence.wide n P Q a w) : WpAt P fn c Q a w := fun b k cs hro _ => h b k cs hro trivial (room_wide _)
theorem wpAt_mono {Q' : Exit → Act → World → Prop} (h : WpAt P fn c Q a w) (hQ : ∀ e a' w', Q e a' w' → Q' e a' w') : WpAt P fn c Q' a w := fun b k cs hro hb =>
  let ⟨e, a', w', hq, harr⟩ := h b k cs hro hb
  ⟨e, a', w', hQ _ _ _ hq, harr⟩
theorem wpAt_seq (h : WpAt P fn x (Exit.then (WpAt P fn y Q) Q) a w) : WpAt P fn (.seq x y) Q a w := by
  intro b k cs hro hb
  obtain ⟨e, a₁, w₁, hq, harr⟩ := h b (.code y :: k) cs hro hb
  have s0 : StepsIn (Machine.fenced P Fence.wide) P (lone (b.atR a (.code (.seq x y) :: k)) cs w) (lone (b.atR a (.code x :: .code y :: k)) cs w) := .one (fenced_wide P _) stepR_seq
  cases e with
  | normal =>
    obtain ⟨e₂, a₂, w₂, hq₂, harr₂⟩ := hq b k cs hro hb
    exact ⟨e₂, a₂, w₂, hq₂, .of_steps (s0.trans harr) harr₂⟩
  | exit id => exact ⟨_, a₁, w₁, hq, .of_steps s0 (.pass (x := .code y) rfl (fun _ _ => .inl (by simp)) harr)⟩
  | goto l => exact ⟨_, a₁, w₁, hq, .of_steps s0 (.pass (x := .code y) rfl (fun _ _ => .inl (by simp)) harr)⟩
  | ret => exact ⟨_, a₁, w₁, hq, .of_steps s0 (.pass (x := .code y) rfl (fun _ _ => .inl (by simp)) harr)⟩
  | panic ch => exact ⟨_, a₁, w₁, hq, .of_steps s0 (.pass (x := .code y) rfl (fun _ _ => .inl (by simp)) harr)⟩
  | outgrown => exact ⟨_, a₁, w₁, hq, .of_steps s0 (.pass (x := .code y) rfl (fun _ _ => .inl (by simp)) harr)⟩
theorem wpAt_block {id : Nat} (h : WpAt P fn c (Exit.inBlock id Q) a w) : WpAt P fn (.block id c) Q a w := by
  intro b k cs hro hb
  obtain ⟨e, a₁, w₁, hq, harr⟩ := h b (.inBlock id :: k) cs hro hb
  have s0 : StepsIn (Machine.fenced P Fence.wide) P (lone (b.atR a (.code (.block id c) :: k)) cs w) (lone (b.atR a (.code c :: .inBlock id :: k)) cs w) := .one (fenced_wide P _) stepR_block
  have hn : b.roundOf.isSome ≠ true := by rw [hro]; simp
  cases e with
  | normal => exact ⟨.normal, a₁, w₁, hq, s0.trans (StepsIn.trans harr (.one (fenced_wide P _) stepR_inBlock))⟩
  | exit id' =>
    by_cases hid : id' = id
    · simp only [Exit.inBlock, hid, if_true] at hq
      exact ⟨.normal, a₁, w₁, hq, s0.trans (harr.1 k (by simp [exitTo, hid]))⟩
    · simp only [Exit.inBlock, hid, if_false] at hq
      have hx : exitTo id' (.inBlock id :: k) = exitTo id' k := by
        have hf : ¬ id = id' := fun h => hid h.symm
        simp [exitTo, hf]
      exact ⟨.exit id', a₁, w₁, hq, fun k' hk => s0.trans (harr.1 k' (by rw [hx]; exact hk)), fun h => absurd h hn⟩
  | goto l =>
    have hx : gotoIn l (.inBlock id :: k) = gotoIn l k := by simp [gotoIn]
    exact ⟨.goto l, a₁, w₁, hq, fun k' hk => s0.trans (harr.1 k' (by rw [hx]; exact hk)), fun h => absurd h hn⟩
  | ret => exact ⟨_, a₁, w₁, hq, .of_steps s0 harr⟩
  | panic ch => exact ⟨_, a₁, w₁, hq, .of_steps s0 harr⟩
  | outgrown => exact ⟨_, a₁, w₁, hq, .of_steps s0 harr⟩
theorem wpAt_scope (h : WpAt P fn c (Exit.noGoto Q) a w) : WpAt P fn (.scope c) Q a w := by
  intro b k cs hro hb
  obtain ⟨e, a₁, w₁, hq, harr⟩ := h b (.inScope c :: k) cs hro hb
  have s0 : StepsIn (Machine.fenced P Fence.wide) P (lone (b.atR a (.code (.scope c) :: k)) cs w) (lone (b.atR a (.code c :: .inScope c :: k)) cs w) := .one (fenced_wide P _) (by rw [Frame.atR_of_none hro, Frame.atR_of_none hro]; exact step_scope)
  have hn : b.roundOf.isSome ≠ true := by rw [hro]; simp
  cases e with
  | normal => exact ⟨.normal, a₁, w₁, hq, s0.trans (StepsIn.trans harr (.one (fenced_wide P _) (by rw [Frame.atR_of_none hro, Frame.atR_of_none hro]; exact step_inScope)))⟩
  | exit id => exact ⟨.exit id, a₁, w₁, hq, fun k' hk => s0.trans (harr.1 k' (by simp [exitTo, hk])), fun h => absurd h hn⟩
  | goto l => exact hq.elim
  | ret => exact ⟨_, a₁, w₁, hq, .of_steps s0 harr⟩
  | panic ch => exact ⟨_, a₁, w₁, hq, .of_steps s0 harr⟩
  | outgrown => exact ⟨_, a₁, w₁, hq, .of_steps s0 harr⟩

/-- A function's contract by such a walk. -/
theorem callsIn_of_wpAt {n : Nat} {fx : Func} {args : Array Value} {R : Ending → World → Prop} (hf : P.funcs[fn]? = some fx) (hb : fx.body = some c)
    (h : WpAt P fn c (bodyPostM Fence.wide n P fx R) { tmps := args ++ Array.replicate (fx.ntmps - args.size) undef, defers := [] } w) : CallsIn Fence.wide n P fn args w R := by
  refine ⟨trivial, fun cs hr => ?_⟩
  obtain ⟨b, hb1, hb2, hb3⟩ : ∃ b : Frame, b.fn = fn ∧ b.kind = .normal ∧ b.roundOf = none := ⟨{ (default : Frame) with fn := fn, kind := .normal, roundOf := none }, rfl, rfl, rfl⟩
  have henter : Frame.enter P fn args .normal = b.atR { tmps := args ++ Array.replicate (fx.ntmps - args.size) undef, defers := [] } [.code c] := by
    simp [Frame.enter, Frame.atR, hf, hb, hb1, hb2, hb3]
  obtain ⟨e, a', w', hq, harr⟩ := h b [] cs hb3 hb1
  rw [← henter] at harr
  have on : ∀ (u : FrameMode) (todo : List Item), StepsIn (Machine.fenced P Fence.wide) P (lone (Frame.enter P fn args .normal) cs w) (lone { b.atR a' todo with mode := u } cs w') → LeavesInM Fence.wide n P fx a'.tmps R a'.defers u w' →
      ∃ e w' fr, R e w' ∧ ComesIn (Machine.fenced P Fence.wide) P (lone (Frame.enter P fn args .normal) cs w) (lone fr cs w') e ∧ fr.fn = fn ∧ fr.leaving P w' e := fun u todo hs hl => by
    obtain ⟨e', w'', fr', hR, hs', hfn, hl'⟩ := leaves_stepsInM a'.defers u w' { b.atR a' todo with mode := u } cs rfl rfl rfl (by show P.funcs[b.fn]? = some fx; rw [hb1]; exact hf) hb2 trivial hr hl
    exact ⟨e', w'', fr', hR, ComesIn.of_steps hs hs', hfn.trans hb1, hl'⟩
  cases e with
  | normal => exact on .returning [] (StepsIn.trans harr (.one (fenced_wide P _) (stepR_end hb3))) hq
  | ret =>
    obtain ⟨todo, hs⟩ := harr.1 hb3
    exact on .returning todo hs hq
  | panic ch =>
    obtain ⟨todo, hs⟩ := harr
    exact on (.panicking ch) todo hs hq
  | exit id => exact hq.elim
  | goto l => exact hq.elim
  | outgrown => exact ⟨.outgrown, w', b, hq, harr.resolve_left (by simp [hb2]), hb1, trivial⟩

/-- What a round's body must achieve, where it may panic. -/
def roundPostP (P : Program) (l : Nat) (R : Ending → World → Prop) : Exit → Act → World → Prop
  | .panic ch, a, w => a.defers = [] ∧ R (.panicked ch) w
  | e, a, w => roundPost P l R e a w
theorem roundIn_of_wpP {n : Nat} {l : Nat} {f : FuncId} {fx : Func} {tmps : Array Value} {assign body : Code} {R : Ending → World → Prop} (hf : P.funcs[f]? = some fx)
    (h : assign.wpIn (Fence.wide.inRound l) n P (Exit.then (fun a₁ w₁ => ∃ w₂, (Instr.beginRound l).run P w₁ = .ok () w₂ ∧ body.wpIn (Fence.wide.inRound l) n P (roundPostP P l R) a₁ w₂) (fun _ _ _ => False))
      { tmps := tmps, defers := [] } w) : RoundIn Fence.wide n P l f tmps assign body w R := by
  refine ⟨trivial, fun c cs hr => ?_⟩
  obtain ⟨b, hb1, hb2, hb3, hb0⟩ : ∃ b : Frame, b.fn = f ∧ b.kind = .normal ∧ b.roundOf = some l ∧ Frame.round l f tmps assign body .normal = b.atR { tmps := tmps, defers := [] } [.code assign, .beginRound, .code body] :=
    ⟨{ (default : Frame) with fn := f, kind := .normal, roundOf := some l }, rfl, rfl, rfl, by simp [Frame.round, Frame.atR]⟩
  obtain ⟨e, a₁, w₁, hq, harr⟩ := h b [.beginRound, .code body] (c :: cs) hb3 trivial hr
  rw [← hb0] at harr
  cases e with
  | normal =>
    obtain ⟨w₂, hbr, hbody⟩ := hq
    have s2 := StepsIn.trans harr (.one (fenced_wide P _) (stepR_beginRound hb3 hbr))
    obtain ⟨e₂, a₂, w₃, hq₂, harr₂⟩ := hbody b [] (c :: cs) hb3 trivial hr
    cases e₂ with
    | normal =>
      obtain ⟨v, w₄, hend, hR⟩ := hq₂
      exact ⟨.returned v, w₄, hR, s2.trans (StepsIn.trans harr₂ (.one (fenced_wide P _) (stepR_round_end hb3 hb2 hend)))⟩
    | ret =>
      obtain ⟨v, w₄, hend, hR⟩ := hq₂
      obtain ⟨k₁, hs⟩ := harr₂.2 (by rw [hb3]; rfl)
      exact ⟨.returned v, w₄, hR, s2.trans (StepsIn.trans hs (.one (fenced_wide P _) (stepR_round_ret hb3 hb2 hend)))⟩
    | exit id =>
      obtain ⟨v, w₄, hend, hR⟩ := hq₂
      obtain ⟨k₁, hk, hs⟩ := harr₂.2 (by rw [hb3]; rfl) rfl
      exact ⟨.returned v, w₄, hR, s2.trans (StepsIn.trans hs (.one (fenced_wide P _) (stepR_round_exit hb3 hb2 hk hend)))⟩
    | goto t =>
      obtain ⟨v, w₄, hend, hR⟩ := hq₂
      obtain ⟨k₁, hk, hs⟩ := harr₂.2 (by rw [hb3]; rfl) rfl
      exact ⟨.returned v, w₄, hR, s2.trans (StepsIn.trans hs (.one (fenced_wide P _) (stepR_round_goto hb3 hb2 hk hend)))⟩
    | panic ch =>
      obtain ⟨hd, hR⟩ := hq₂
      obtain ⟨todo, hs⟩ := harr₂
      have hleave : Frame.leaving P { b.atR a₂ todo with mode := .panicking ch } w₃ (.panicked ch) := ⟨rfl, hd, fx, by show P.funcs[b.fn]? = some fx; rw [hb1]; exact hf⟩
      exact ⟨.panicked ch, w₃, hR, s2.trans (StepsIn.trans hs (.one (fenced_wide P _) (step_leave_panicked hleave)))⟩
    | outgrown => exact hq₂.elim
  | exit id => exact hq.elim
  | goto t => exact hq.elim
  | ret => exact hq.elim
  | panic ch => exact hq.elim
  | outgrown => exact hq.elim

/-- The statement, in a frame of one function. -/
theorem wpAt_rangeFunc {n : Nat} {g : Operand} {ps : Array Tmp} {assign body : Code} {l : Nat} {mark : List Deferred} {w₁ w₁' w₂ : World} {d : Deferred} {f : FuncId} {args : Array Value}
    (he : (Instr.enterLoop fn a.tmps ps assign body none).run P w = .ok (l, mark) w₁) (hres : (resolve a.eval (rangeCall g l) 0).run P w₁ = .ok d w₁') (hinv : (invoke d.target d.args).run P w₁' = .ok (.enter f args) w₂)
    (hcall : CallsIn Fence.wide n P f args w₂ (rangePost Fence.wide n P l Q { a with defers := mark ++ a.defers })) : WpAt P fn (.rangeFunc g ps assign body) Q a w := by
  intro b k cs hro hb
  rw [← hro, ← hb] at he
  have henter := stepR_rangeFunc (P := P) (b := b) (a := a) (k := k) (cs := cs) (w := w) he hres hinv
  obtain ⟨e, w₃, fr, hR, hsteps, hfn, hleave⟩ := hcall.2 (b.atR { a with defers := mark ++ a.defers } (.inRangeFunc l :: k) :: cs) (room_wide _)
  cases e with
  | outgrown =>
    obtain ⟨a₀, w₀, hq⟩ := hR
    exact ⟨.outgrown, a₀, w₀, hq, .inr (Outgrown.of_steps (.one henter) hsteps)⟩
  | returned v =>
    obtain ⟨jump, w₄, hend, hj⟩ := hR
    have s1 : StepsIn (Machine.fenced P Fence.wide) P (lone (b.atR a (.code (.rangeFunc g ps assign body) :: k)) cs w) (lone (b.atR { a with defers := mark ++ a.defers } ((jump.map Item.code).toList ++ k)) cs w₄) :=
      .head (fenced_wide P _) henter (StepsIn.trans hsteps (.head (fenced_wide P _) (step_leave_returned hleave) (by rw [finish_atR_inRangeFunc l v]; exact .one (fenced_wide P _) (stepR_endRangeFunc hend))))
    cases jump with
    | none => exact ⟨.normal, _, w₄, hj, s1⟩
    | some c =>
      obtain ⟨e', a'', w₅, hq, harr⟩ := hj b k cs hro trivial (room_wide _)
      exact ⟨e', a'', w₅, hq, .of_steps s1 harr⟩
  | panicked ch =>
    refine ⟨.panic ch, _, w₃, hR, .inRangeFunc l :: k, .head (fenced_wide P _) henter (StepsIn.trans hsteps (.one (fenced_wide P _) ?_))⟩
    rw [← Frame.raise_atR]
    exact step_leave_panicked hleave
end
section
variable {n : Nat} {P : Program} {α : Type}
/-- What a round's body must achieve, where it may leave the loop, or panic. -/
def ownPostP (B : Nat) (Kp : World → World → Prop) (I : List α → World → Prop) (Ix : Code → List α → World → Prop) (Ip : List α × List PanicEntry → World → Prop) (xs : List α) (W : World) : Exit → Act → World → Prop
  | .panic ch, a', W' => a'.defers = [] ∧ KeepsFrom B W W' ∧ Ip (xs, ch) W'
  | e, a', W' => ownPostG B Kp I Ix xs W e a' W'

theorem one_roundP {fn : FuncId} {fx : Func} (hfx : P.funcs[fn]? = some fx) {m B l D : Nat} (hl : B ≤ l) (hD : B ≤ D) (hne : l ≠ D) {tmps : Array Value} {ps : Array Tmp} {asg body : Code} {encs : α → Array Value} (hps : ∀ x, (encs x).size = ps.size) {Kp : World → World → Prop}
    (hKt : ∀ {X Y Z : World}, Kp X Y → Kp Y Z → Kp X Z) (hKb : ∀ (W : World) (k : Nat) (o o' : Obj), B ≤ k → W.heap[k]? = some o → o.isCells = false → o.isWalk = false → Kp W (W.putObj k o')) {H : Nat} (hH : l < H)
    {I : List α → World → Prop} {Ix : Code → List α → World → Prop} {Ip : List α × List PanicEntry → World → Prop} (hI : OwnFrom B I) (hIx : ∀ c, OwnFrom B (Ix c)) {Ax : α → Act → World → Prop} (hAx : ∀ x a', OwnFrom B (fun (_ : Unit) W => Ax x a' W)) {Ok : List α → α → Prop}
    (hassign : ∀ (pre : List α) (x : α) (W : World) (K : Act → World → Prop), I pre W → (∀ a' W', KeepsFrom B W W' → Kp W W' → I pre W' → Ax x a' W' → K a' W') →
      asg.wpIn (Fence.wide.inRound l) m P (Exit.then K (fun _ _ _ => False)) { tmps := (ps.zip (encs x)).foldl (fun t (p, v) => t.setIfInBounds p v) tmps, defers := [] } W)
    (hbody : ∀ (pre : List α) (x : α) (a' : Act) (W : World), I pre W → Ax x a' W → Ok pre x → body.wpIn (Fence.wide.inRound l) m P (ownPostP B Kp I Ix Ip (pre ++ [x]) W) a' W)
    (pre : List α) (x : α) (W : World) (hi : I pre W) (hb : Book l D (recOf fn tmps ps asg body D .ready none) W) (hN : Ok pre x) :
    YieldAt Fence.wide m P l (encs x) W fun e W' =>
      (e = .returned (.bool true) ∧ (I (pre ++ [x]) W' ∧ Book l D (recOf fn tmps ps asg body D .ready none) W') ∧ KeepsFrom H W W' ∧ Kp W W') ∨
      (e = .returned (.bool false) ∧ (∃ c, Ix c (pre ++ [x]) W' ∧ Book l D (recOf fn tmps ps asg body D .done (some c)) W') ∧ KeepsFrom H W W') ∨
      (∃ ch, e = .panicked ch ∧ (Ip (pre ++ [x], ch) W' ∧ Book l D (recOf fn tmps ps asg body D .busy none) W') ∧ KeepsFrom H W W') := by
  refine ⟨fn, _, asg, body, run_yield hb.1 (hps x), roundIn_of_wpP hfx (hassign pre x W _ hi ?_)⟩
  intro a' Wa k1 p1 hia hax
  have hba := hb.keep k1 hl hD
  refine ⟨_, run_beginRound hba.1 rfl, ?_⟩
  have hbb := hba.turn (r' := recOf fn tmps ps asg body D .busy none) hne
  have p2 := hKb Wa l _ (.loop (recOf fn tmps ps asg body D .busy none)) hl hba.1 rfl rfl
  have hib := hI.putObj (.loop (recOf fn tmps ps asg body D .busy none)) hia hl hba.1 rfl
  have hxb := (hAx x a').putObj (s := ()) (.loop (recOf fn tmps ps asg body D .busy none)) hax hl hba.1 rfl
  refine wpIn_mono (hbody pre x a' _ hib hxb hN) ?_
  have kk : ∀ W3, KeepsFrom B (Wa.putObj l (.loop (recOf fn tmps ps asg body D .busy none))) W3 → KeepsFrom H W W3 := fun W3 k3 => keepsFrom_trans' (keepsFrom_mono k1 (by omega)) (keepsFrom_trans' (keepsFrom_put _ _ hH) (keepsFrom_mono k3 (by omega)))
  have out : ∀ (c : Code) (W3 : World), KeepsFrom B (Wa.putObj l (.loop (recOf fn tmps ps asg body D .busy none))) W3 → Ix c (pre ++ [x]) W3 →
      ∃ v w', (Instr.endRound l (some c)).run P W3 = .ok v w' ∧ v = .bool false ∧ Ix c (pre ++ [x]) w' ∧ Book l D (recOf fn tmps ps asg body D .done (some c)) w' ∧ KeepsFrom H W w' := fun c W3 k3 hx => by
    have hb3 := hbb.keep k3 hl hD
    exact ⟨_, _, run_endRound (some c) hb3.1, rfl, (hIx c).putObj _ hx hl hb3.1 rfl, hb3.turn hne, keepsFrom_trans' (kk W3 k3) (keepsFrom_put _ _ hH)⟩
  rintro e a3 W3 hp
  cases e with
  | normal =>
    obtain ⟨k3, p3, hi3⟩ := hp
    have hb3 := hbb.keep k3 hl hD
    exact ⟨_, _, run_endRound none hb3.1, .inl ⟨rfl, ⟨hI.putObj _ hi3 hl hb3.1 rfl, hb3.turn hne⟩, keepsFrom_trans' (kk W3 k3) (keepsFrom_put _ _ hH), hKt p1 (hKt (hKt p2 p3) (hKb _ _ _ _ hl hb3.1 rfl rfl))⟩⟩
  | ret =>
    obtain ⟨v, w', h1, h2, h3, h4, h5⟩ := out .ret W3 hp.1 hp.2
    exact ⟨v, w', h1, .inr (.inl ⟨by rw [h2], ⟨_, h3, h4⟩, h5⟩)⟩
  | exit id =>
    obtain ⟨v, w', h1, h2, h3, h4, h5⟩ := out (.exit id) W3 hp.1 hp.2
    exact ⟨v, w', h1, .inr (.inl ⟨by rw [h2], ⟨_, h3, h4⟩, h5⟩)⟩
  | goto t =>
    obtain ⟨v, w', h1, h2, h3, h4, h5⟩ := out (.goto t) W3 hp.1 hp.2
    exact ⟨v, w', h1, .inr (.inl ⟨by rw [h2], ⟨_, h3, h4⟩, h5⟩)⟩
  | panic ch =>
    obtain ⟨hd, k3, hp3⟩ := hp
    exact ⟨hd, .inr (.inr ⟨ch, rfl, ⟨hp3, hbb.keep k3 hl hD⟩, kk W3 k3⟩)⟩
  | outgrown => exact hp.elim

/-- The statement, over an iterator that tells, whose rounds may leave, or panic. -/
theorem range_tellsP2 {fn : FuncId} {fx : Func} (hfx : P.funcs[fn]? = some fx) {g : Operand} {ps : Array Tmp} {asg body : Code} {Q : Exit → Act → World → Prop} {a : Act} {w : World}
    {gf : Nat} {lb : Array Value} (hg : a.eval g = .func (.func gf) #[] lb) (eg : ∀ args w, (callFunc gf args).run P w = .ok (.enter gf args) w)
    {encs : α → Array Value} {Kp : World → World → Prop} {S : List α → Prop} {Ok : List α → α → Prop} {w0 : World} (hseq : TellsX Fence.wide n P gf lb encs Kp S Ok w0)
    (hKt : ∀ {X Y Z : World}, Kp X Y → Kp Y Z → Kp X Z) (hKb : ∀ (W : World) (k : Nat) (o o' : Obj), w.heap.size ≤ k → W.heap[k]? = some o → o.isCells = false → o.isWalk = false → Kp W (W.putObj k o')) (hb0 : Below w0.heap.size w0 w) (hps : ∀ x, (encs x).size = ps.size)
    (I : List α → World → Prop) (Ix : Code → List α → World → Prop) (Ip : List α × List PanicEntry → World → Prop) (hI : OwnFrom w.heap.size I) (hIx : ∀ c, OwnFrom w.heap.size (Ix c)) (hIp : OwnFrom w.heap.size Ip) (h0 : I [] w) (Ax : α → Act → World → Prop) (hAx : ∀ x a', OwnFrom w.heap.size (fun (_ : Unit) W => Ax x a' W))
    (hassign : ∀ (l : Nat) (pre : List α) (x : α) (W : World) (K : Act → World → Prop), I pre W → (∀ a' W', KeepsFrom w.heap.size W W' → Kp W W' → I pre W' → Ax x a' W' → K a' W') →
      asg.wpIn (Fence.wide.inRound l) (n - 1) P (Exit.then K (fun _ _ _ => False)) { tmps := (ps.zip (encs x)).foldl (fun t (p, v) => t.setIfInBounds p v) a.tmps, defers := [] } W)
    (hbody : ∀ (l : Nat) (pre : List α) (x : α) (a' : Act) (W : World), I pre W → Ax x a' W → Ok pre x → body.wpIn (Fence.wide.inRound l) (n - 1) P (ownPostP w.heap.size Kp I Ix Ip (pre ++ [x]) W) a' W)
    (hdone : ∀ (D : Nat) (xs : List α) (W : World), w.heap.size ≤ D → S xs → I xs W → W.heap[D]? = some (.deferred (some [])) → Q .normal { a with defers := { target := .collected D, args := #[] } :: a.defers } W)
    (hstop : ∀ (D : Nat) (c : Code) (pre : List α) (W : World), w.heap.size ≤ D → Ix c pre W → W.heap[D]? = some (.deferred (some [])) → c.wpIn Fence.wide n P Q { a with defers := { target := .collected D, args := #[] } :: a.defers } W)
    (hpan : ∀ (D : Nat) (ch : List PanicEntry) (pre : List α) (W : World), w.heap.size ≤ D → Ip (pre, ch) W → W.heap[D]? = some (.deferred (some [])) → Q (.panic ch) { a with defers := { target := .collected D, args := #[] } :: a.defers } W) :
    WpAt P fn (Code.rangeFunc g ps asg body) Q a w := by
  have hne : w.heap.size + 1 ≠ w.heap.size := by omega
  have hbk : Book (w.heap.size + 1) w.heap.size (recOf fn a.tmps ps asg body w.heap.size .ready none) ((w.alloc (.deferred (some []))).alloc (.loop (recOf fn a.tmps ps asg body w.heap.size .ready none))) := by
    constructor
    · have h := World.alloc_heap_new (w.alloc (.deferred (some []))) (.loop (recOf fn a.tmps ps asg body w.heap.size .ready none))
      rwa [World.size_alloc] at h
    · exact (Below.heap_alloc _ _ _ (by simp)).trans (World.alloc_heap_new w _)
  have hi1 : I [] ((w.alloc (.deferred (some []))).alloc (.loop (recOf fn a.tmps ps asg body w.heap.size .ready none))) := hI.alloc _ (hI.alloc _ h0)
  have hb1 : Below w0.heap.size w0 ((w.alloc (.deferred (some []))).alloc (.loop (recOf fn a.tmps ps asg body w.heap.size .ready none))) :=
    hb0.trans ((((Below.refl _ w).alloc (Nat.le_refl _) _).alloc (by simp) _).mono hb0.size)
  have hent := run_enterLoop_outer (P := P) (w := w) fn a.tmps ps asg body
  have hsz : ((w.alloc (.deferred (some []))).alloc (.loop (recOf fn a.tmps ps asg body w.heap.size .ready none))).heap.size = w.heap.size + 2 := by simp
  refine wpAt_rangeFunc (n := n) (w₁ := ((w.alloc (.deferred (some []))).alloc (.loop (recOf fn a.tmps ps asg body w.heap.size .ready none)))) (w₁' := ((w.alloc (.deferred (some []))).alloc (.loop (recOf fn a.tmps ps asg body w.heap.size .ready none)))) (w₂ := ((w.alloc (.deferred (some []))).alloc (.loop (recOf fn a.tmps ps asg body w.heap.size .ready none)))) (d := { target := .fn (.func gf) lb, args := #[.func (.yield (w.heap.size + 1)) #[] #[]] }) (f := gf) (args := #[.func (.yield (w.heap.size + 1)) #[] #[]] ++ lb) hent (by simp only [resolve, hg]; simp [go_sem]) (by simp [invoke, go_sem, eg]) ?_
  generalize ((w.alloc (.deferred (some []))).alloc (.loop (recOf fn a.tmps ps asg body w.heap.size .ready none))) = W1 at *
  have hlW : w.heap.size + 1 < W1.heap.size := by omega
  have hDW : w.heap.size < W1.heap.size := by omega
  refine (hseq (w.heap.size + 1) (fun pre W => I pre W ∧ Book (w.heap.size + 1) w.heap.size (recOf fn a.tmps ps asg body w.heap.size .ready none) W)
    (fun pre W => ∃ c, Ix c pre W ∧ Book (w.heap.size + 1) w.heap.size (recOf fn a.tmps ps asg body w.heap.size .done (some c)) W)
    (fun s W => Ip s W ∧ Book (w.heap.size + 1) w.heap.size (recOf fn a.tmps ps asg body w.heap.size .busy none) W) W1 hb1
    (OwnFrom.and (ownFrom_mono hI (by omega)) (ownFrom_book hlW hDW))
    (ownFrom_ex fun c => OwnFrom.and (ownFrom_mono (hIx c) (by omega)) (ownFrom_book hlW hDW))
    (OwnFrom.and (ownFrom_mono hIp (by omega)) (ownFrom_book hlW hDW))
    (fun pre x W hJ hN => one_roundP (Kp := Kp) (P := P) (m := n - 1) (B := w.heap.size) (l := w.heap.size + 1) (D := w.heap.size) (tmps := a.tmps) (ps := ps) (asg := asg) (body := body) (I := I) (Ix := Ix) (Ip := Ip) (Ax := Ax) (Ok := Ok) hfx (Nat.le_succ _) (Nat.le_refl _) hne hps hKt hKb (H := W1.heap.size) (by omega) hI hIx hAx (hassign (w.heap.size + 1)) (hbody (w.heap.size + 1)) pre x W hJ.1 hJ.2 hN) ⟨hi1, hbk⟩).mono ?_
  rintro e W2 (⟨⟨v, rfl⟩, (⟨xs, hS, hi, hb⟩ | ⟨pre, c, hi, hb⟩)⟩ | ⟨pre, ch, rfl, hi, hb⟩)
  · exact ⟨none, _, run_endLoop hb.1 (by simp [recOf]), hdone _ xs _ (Nat.le_refl _) hS (hI.putObj _ hi (by omega) hb.1 rfl) ((World.putObj_heap_other (by omega)).trans hb.2)⟩
  · exact ⟨some c, _, run_endLoop hb.1 (by simp [recOf]), hstop _ c pre _ (Nat.le_refl _) ((hIx c).putObj _ hi (by omega) hb.1 rfl) ((World.putObj_heap_other (by omega)).trans hb.2)⟩
  · exact hpan _ ch pre _ (Nat.le_refl _) hi hb.2

end
end Go.Proofs

/- Ranges over functions within a round of another one: generic. -/
namespace Go.Proofs
set_option maxRecDepth 100000
open Go.RowKit Go.Shelf
attribute [local go_sem] Oper.semAt_some

section
variable {F : Fence} {n : Nat} {P : Program} {α : Type}
/-- One round, told by its body's walk. -/
theorem one_roundH {fn : FuncId} (hfn : F.fn fn) {m B l D : Nat} (hl : B ≤ l) (hD : B ≤ D) (hne : l ≠ D) {tmps : Array Value} {ps : Array Tmp} {asg body : Code} {encs : α → Array Value} (hps : ∀ x, (encs x).size = ps.size) {Kp : World → World → Prop}
    (hKt : ∀ {X Y Z : World}, Kp X Y → Kp Y Z → Kp X Z) (hKb : ∀ (W : World) (k : Nat) (o o' : Obj), B ≤ k → W.heap[k]? = some o → o.isCells = false → o.isWalk = false → Kp W (W.putObj k o')) {H : Nat} (hH : l < H)
    {I : List α → World → Prop} {Ix : Code → List α → World → Prop} (hI : OwnFrom B I) (hIx : ∀ c, OwnFrom B (Ix c)) {Ax : α → Act → World → Prop} (hAx : ∀ x a', OwnFrom B (fun (_ : Unit) W => Ax x a' W)) {Ok : List α → α → Prop}
    (hassign : ∀ (pre : List α) (x : α) (W : World) (K : Act → World → Prop), I pre W → (∀ a' W', KeepsFrom B W W' → Kp W W' → I pre W' → Ax x a' W' → K a' W') →
      asg.wpIn (F.inRound l) m P (Exit.then K (fun _ _ _ => False)) { tmps := (ps.zip (encs x)).foldl (fun t (p, v) => t.setIfInBounds p v) tmps, defers := [] } W)
    (hbody : ∀ (pre : List α) (x : α) (a' : Act) (W : World), (∃ r, W.heap[l]? = some (.loop r)) → I pre W → Ax x a' W → Ok pre x → body.wpIn (F.inRound l) m P (ownPostG B Kp I Ix (pre ++ [x]) W) a' W)
    (pre : List α) (x : α) (W : World) (hi : I pre W) (hb : Book l D (recOf fn tmps ps asg body D .ready none) W) (hN : Ok pre x) :
    YieldAt F m P l (encs x) W fun e W' =>
      (e = .returned (.bool true) ∧ (I (pre ++ [x]) W' ∧ Book l D (recOf fn tmps ps asg body D .ready none) W') ∧ KeepsFrom H W W' ∧ Kp W W') ∨
      (e = .returned (.bool false) ∧ (∃ c, Ix c (pre ++ [x]) W' ∧ Book l D (recOf fn tmps ps asg body D .done (some c)) W') ∧ KeepsFrom H W W') := by
  refine ⟨fn, _, asg, body, run_yield hb.1 (hps x), roundIn_of_wpIn hfn (hassign pre x W _ hi ?_)⟩
  intro a' Wa k1 p1 hia hax
  have hba := hb.keep k1 hl hD
  refine ⟨_, run_beginRound hba.1 rfl, ?_⟩
  have hbb := hba.turn (r' := recOf fn tmps ps asg body D .busy none) hne
  have p2 := hKb Wa l _ (.loop (recOf fn tmps ps asg body D .busy none)) hl hba.1 rfl rfl
  have hib := hI.putObj (.loop (recOf fn tmps ps asg body D .busy none)) hia hl hba.1 rfl
  have hxb := (hAx x a').putObj (s := ()) (.loop (recOf fn tmps ps asg body D .busy none)) hax hl hba.1 rfl
  refine wpIn_mono (hbody pre x a' _ ⟨_, hbb.1⟩ hib hxb hN) ?_
  have out : ∀ (c : Code) (W3 : World), KeepsFrom B (Wa.putObj l (.loop (recOf fn tmps ps asg body D .busy none))) W3 → Ix c (pre ++ [x]) W3 →
      ∃ v w', (Instr.endRound l (some c)).run P W3 = .ok v w' ∧ v = .bool false ∧ Ix c (pre ++ [x]) w' ∧ Book l D (recOf fn tmps ps asg body D .done (some c)) w' ∧ KeepsFrom H W w' := fun c W3 k3 hx => by
    have hb3 := hbb.keep k3 hl hD
    exact ⟨_, _, run_endRound (some c) hb3.1, rfl, (hIx c).putObj _ hx hl hb3.1 rfl, hb3.turn hne, keepsFrom_trans' (keepsFrom_mono k1 (by omega)) (keepsFrom_trans' (keepsFrom_put _ _ hH) (keepsFrom_trans' (keepsFrom_mono k3 (by omega)) (keepsFrom_put _ _ hH)))⟩
  rintro e a3 W3 hp
  cases e with
  | normal =>
    obtain ⟨k3, p3, hi3⟩ := hp
    have hb3 := hbb.keep k3 hl hD
    exact ⟨_, _, run_endRound none hb3.1, .inl ⟨rfl, ⟨hI.putObj _ hi3 hl hb3.1 rfl, hb3.turn hne⟩, keepsFrom_trans' (keepsFrom_mono k1 (by omega)) (keepsFrom_trans' (keepsFrom_put _ _ hH) (keepsFrom_trans' (keepsFrom_mono k3 (by omega)) (keepsFrom_put _ _ hH))), hKt p1 (hKt (hKt p2 p3) (hKb _ _ _ _ hl hb3.1 rfl rfl))⟩⟩
  | ret =>
    obtain ⟨v, w', h1, h2, h3, h4, h5⟩ := out .ret W3 hp.1 hp.2
    exact ⟨v, w', h1, .inr ⟨by rw [h2], ⟨_, h3, h4⟩, h5⟩⟩
  | exit id =>
    obtain ⟨v, w', h1, h2, h3, h4, h5⟩ := out (.exit id) W3 hp.1 hp.2
    exact ⟨v, w', h1, .inr ⟨by rw [h2], ⟨_, h3, h4⟩, h5⟩⟩
  | goto t =>
    obtain ⟨v, w', h1, h2, h3, h4, h5⟩ := out (.goto t) W3 hp.1 hp.2
    exact ⟨v, w', h1, .inr ⟨by rw [h2], ⟨_, h3, h4⟩, h5⟩⟩
  | panic ch => exact hp.elim
  | outgrown => exact hp.elim

/-- The statement, over an iterator that tells. -/
theorem range_tellsH {g : Operand} {ps : Array Tmp} {asg body : Code} {Q : Exit → Act → World → Prop} {a : Act} {w : World}
    (hro : F.round = none) (h1 : 1 ≤ n) {gf : Nat} {lb : Array Value} (hg : a.eval g = .func (.func gf) #[] lb) (hF : F.fn gf) (eg : ∀ args w, (callFunc gf args).run P w = .ok (.enter gf args) w)
    {encs : α → Array Value} {Kp : World → World → Prop} {S Sp : List α → Prop} {Ok : List α → α → Prop} {w0 : World} (hseq : TellsD F (n - 1) P gf lb encs Kp S Sp Ok w0)
    (hKt : ∀ {X Y Z : World}, Kp X Y → Kp Y Z → Kp X Z) (hKb : ∀ (W : World) (k : Nat) (o o' : Obj), w.heap.size ≤ k → W.heap[k]? = some o → o.isCells = false → o.isWalk = false → Kp W (W.putObj k o')) (hb0 : Below w0.heap.size w0 w) (hps : ∀ x, (encs x).size = ps.size)
    (I : List α → World → Prop) (Ix : Code → List α → World → Prop) (hI : OwnFrom w.heap.size I) (hIx : ∀ c, OwnFrom w.heap.size (Ix c)) (hIb : ∀ s X Y, I s X → Below X.heap.size X Y → I s Y) (hIxb : ∀ c s X Y, Ix c s X → Below X.heap.size X Y → Ix c s Y) (h0 : I [] w) (Ax : α → Act → World → Prop) (hAx : ∀ x a', OwnFrom w.heap.size (fun (_ : Unit) W => Ax x a' W))
    (hassign : ∀ (l : Nat) (pre : List α) (x : α) (W : World) (K : Act → World → Prop), I pre W → (∀ a' W', KeepsFrom w.heap.size W W' → Kp W W' → I pre W' → Ax x a' W' → K a' W') →
      asg.wpIn (F.inRound l) (n - 1 - 1) P (Exit.then K (fun _ _ _ => False)) { tmps := (ps.zip (encs x)).foldl (fun t (p, v) => t.setIfInBounds p v) a.tmps, defers := [] } W)
    (hbody : ∀ (l : Nat) (pre : List α) (x : α) (a' : Act) (W : World), w.heap.size ≤ l → (∃ r, W.heap[l]? = some (.loop r)) → I pre W → Ax x a' W → Ok pre x → body.wpIn (F.inRound l) (n - 1 - 1) P (ownPostG w.heap.size Kp I Ix (pre ++ [x]) W) a' W)
    (hdone : ∀ (D : Nat) (xs : List α) (W : World), w.heap.size ≤ D → S xs → I xs W → W.heap[D]? = some (.deferred (some [])) → Q .normal { a with defers := { target := .collected D, args := #[] } :: a.defers } W)
    (hstop : ∀ (D : Nat) (c : Code) (pre : List α) (W : World), w.heap.size ≤ D → Sp pre → Ix c pre W → W.heap[D]? = some (.deferred (some [])) → c.wpIn F n P Q { a with defers := { target := .collected D, args := #[] } :: a.defers } W) :
    (Code.rangeFunc g ps asg body).wpIn F n P Q a w := by
  refine wpIn_rangeFunc fun fn hfn => ?_
  rw [hro]
  have hne : w.heap.size + 1 ≠ w.heap.size := by omega
  have hbk : Book (w.heap.size + 1) w.heap.size (recOf fn a.tmps ps asg body w.heap.size .ready none) ((w.alloc (.deferred (some []))).alloc (.loop (recOf fn a.tmps ps asg body w.heap.size .ready none))) := by
    constructor
    · have h := World.alloc_heap_new (w.alloc (.deferred (some []))) (.loop (recOf fn a.tmps ps asg body w.heap.size .ready none))
      rwa [World.size_alloc] at h
    · exact (Below.heap_alloc _ _ _ (by simp)).trans (World.alloc_heap_new w _)
  have hi1 : I [] ((w.alloc (.deferred (some []))).alloc (.loop (recOf fn a.tmps ps asg body w.heap.size .ready none))) := hI.alloc _ (hI.alloc _ h0)
  have hb1 : Below w0.heap.size w0 ((w.alloc (.deferred (some []))).alloc (.loop (recOf fn a.tmps ps asg body w.heap.size .ready none))) :=
    hb0.trans ((((Below.refl _ w).alloc (Nat.le_refl _) _).alloc (by simp) _).mono hb0.size)
  have hent := run_enterLoop_outer (P := P) (w := w) fn a.tmps ps asg body
  have hsz : ((w.alloc (.deferred (some []))).alloc (.loop (recOf fn a.tmps ps asg body w.heap.size .ready none))).heap.size = w.heap.size + 2 := by simp
  refine ⟨w.heap.size + 1, [{ target := .collected w.heap.size, args := #[] }], (w.alloc (.deferred (some []))).alloc (.loop (recOf fn a.tmps ps asg body w.heap.size .ready none)), { target := .fn (.func gf) lb, args := #[.func (.yield (w.heap.size + 1)) #[] #[]] }, (w.alloc (.deferred (some []))).alloc (.loop (recOf fn a.tmps ps asg body w.heap.size .ready none)), gf,
    #[.func (.yield (w.heap.size + 1)) #[] #[]] ++ lb, (w.alloc (.deferred (some []))).alloc (.loop (recOf fn a.tmps ps asg body w.heap.size .ready none)), hent, ?_, ?_, ?_, fun _ => h1, ?_⟩
  · simp only [resolve, hg]
    simp [go_sem]
  · intro f' hf'
    simp [Target.leads] at hf'
    subst hf'
    exact hF
  · simp [invoke, go_sem, eg]
  · generalize ((w.alloc (.deferred (some []))).alloc (.loop (recOf fn a.tmps ps asg body w.heap.size .ready none))) = W1 at *
    have abide : ∀ {X Y : World} {r : Loop}, Below X.heap.size X Y → Book (w.heap.size + 1) w.heap.size r X → Book (w.heap.size + 1) w.heap.size r Y := by
      intro X Y r hXY hb
      exact ⟨(hXY.block _ (Array.getElem?_eq_some_iff.1 hb.1).1).trans hb.1, (hXY.block _ (Array.getElem?_eq_some_iff.1 hb.2).1).trans hb.2⟩
    refine (hseq (w.heap.size + 1) (fun pre W => I pre W ∧ Book (w.heap.size + 1) w.heap.size (recOf fn a.tmps ps asg body w.heap.size .ready none) W)
      (fun pre W => ∃ c, Ix c pre W ∧ Book (w.heap.size + 1) w.heap.size (recOf fn a.tmps ps asg body w.heap.size .done (some c)) W) W1 hb1
      (fun s X Y hs hXY => ⟨hIb s X Y hs.1 hXY, abide hXY hs.2⟩)
      (fun s X Y hs hXY => by obtain ⟨c, hc, hb⟩ := hs; exact ⟨c, hIxb c s X Y hc hXY, abide hXY hb⟩)
      (fun pre x W hJ hN => one_roundH (Kp := Kp) (P := P) (m := n - 1 - 1) (B := w.heap.size) (l := w.heap.size + 1) (D := w.heap.size) (tmps := a.tmps) (ps := ps) (asg := asg) (body := body) (I := I) (Ix := Ix) (Ax := Ax) (Ok := Ok) hfn (Nat.le_succ _) (Nat.le_refl _) hne hps hKt hKb (H := W1.heap.size) (by omega) hI hIx hAx (hassign (w.heap.size + 1)) (fun pre x a' W hr => hbody (w.heap.size + 1) pre x a' W (Nat.le_succ _) hr) pre x W hJ.1 hJ.2 hN) ⟨hi1, hbk⟩).mono ?_
    rintro e W2 ⟨⟨v, rfl⟩, (⟨xs, hS, hi, hb⟩ | ⟨pre, hSp, c, hi, hb⟩)⟩
    · exact ⟨none, _, run_endLoop hb.1 (by simp [recOf]), hdone _ xs _ (Nat.le_refl _) hS (hI.putObj _ hi (by omega) hb.1 rfl) ((World.putObj_heap_other (by omega)).trans hb.2)⟩
    · exact ⟨some c, _, run_endLoop hb.1 (by simp [recOf]), hstop _ c pre _ (Nat.le_refl _) hSp ((hIx c).putObj _ hi (by omega) hb.1 rfl) ((World.putObj_heap_other (by omega)).trans hb.2)⟩

def BookN (l : Nat) (r : Loop) (W : World) : Prop := W.heap[l]? = some (.loop r)
theorem BookN.turn {l : Nat} {r r' : Loop} {W : World} (h : BookN l r W) : BookN l r' (W.putObj l (.loop r')) := World.putObj_heap_same (Array.getElem?_eq_some_iff.1 h).1
theorem BookN.keep {l B : Nat} {r : Loop} {W W' : World} (h : BookN l r W) (k : KeepsFrom B W W') (hl : B ≤ l) : BookN l r W' := k.same l _ hl h rfl
/-- One round, told by its body's walk. -/
theorem one_roundN {fn : FuncId} (hfn : F.fn fn) {m B l D : Nat} (hl : B ≤ l) {tmps : Array Value} {ps : Array Tmp} {asg body : Code} {encs : α → Array Value} (hps : ∀ x, (encs x).size = ps.size) {Kp : World → World → Prop}
    (hKt : ∀ {X Y Z : World}, Kp X Y → Kp Y Z → Kp X Z) (hKb : ∀ (W : World) (k : Nat) (o o' : Obj), B ≤ k → W.heap[k]? = some o → o.isCells = false → o.isWalk = false → Kp W (W.putObj k o')) {H : Nat} (hH : l < H)
    {I : List α → World → Prop} {Ix : Code → List α → World → Prop} (hI : OwnFrom B I) (hIx : ∀ c, OwnFrom B (Ix c)) {Ax : α → Act → World → Prop} (hAx : ∀ x a', OwnFrom B (fun (_ : Unit) W => Ax x a' W)) {Ok : List α → α → Prop}
    (hassign : ∀ (pre : List α) (x : α) (W : World) (K : Act → World → Prop), I pre W → (∀ a' W', KeepsFrom B W W' → Kp W W' → I pre W' → Ax x a' W' → K a' W') →
      asg.wpIn (F.inRound l) m P (Exit.then K (fun _ _ _ => False)) { tmps := (ps.zip (encs x)).foldl (fun t (p, v) => t.setIfInBounds p v) tmps, defers := [] } W)
    (hbody : ∀ (pre : List α) (x : α) (a' : Act) (W : World), I pre W → Ax x a' W → Ok pre x → body.wpIn (F.inRound l) m P (ownPostG B Kp I Ix (pre ++ [x]) W) a' W)
    (pre : List α) (x : α) (W : World) (hi : I pre W) (hb : BookN l (recOf fn tmps ps asg body D .ready none) W) (hN : Ok pre x) :
    YieldAt F m P l (encs x) W fun e W' =>
      (e = .returned (.bool true) ∧ (I (pre ++ [x]) W' ∧ BookN l (recOf fn tmps ps asg body D .ready none) W') ∧ KeepsFrom H W W' ∧ Kp W W') ∨
      (e = .returned (.bool false) ∧ (∃ c, Ix c (pre ++ [x]) W' ∧ BookN l (recOf fn tmps ps asg body D .done (some c)) W') ∧ KeepsFrom H W W') := by
  refine ⟨fn, _, asg, body, run_yield hb (hps x), roundIn_of_wpIn hfn (hassign pre x W _ hi ?_)⟩
  intro a' Wa k1 p1 hia hax
  have hba := hb.keep k1 hl
  refine ⟨_, run_beginRound hba rfl, ?_⟩
  have hbb := hba.turn (r' := recOf fn tmps ps asg body D .busy none)
  have p2 := hKb Wa l _ (.loop (recOf fn tmps ps asg body D .busy none)) hl hba rfl rfl
  have hib := hI.putObj (.loop (recOf fn tmps ps asg body D .busy none)) hia hl hba rfl
  have hxb := (hAx x a').putObj (s := ()) (.loop (recOf fn tmps ps asg body D .busy none)) hax hl hba rfl
  refine wpIn_mono (hbody pre x a' _ hib hxb hN) ?_
  have out : ∀ (c : Code) (W3 : World), KeepsFrom B (Wa.putObj l (.loop (recOf fn tmps ps asg body D .busy none))) W3 → Ix c (pre ++ [x]) W3 →
      ∃ v w', (Instr.endRound l (some c)).run P W3 = .ok v w' ∧ v = .bool false ∧ Ix c (pre ++ [x]) w' ∧ BookN l (recOf fn tmps ps asg body D .done (some c)) w' ∧ KeepsFrom H W w' := fun c W3 k3 hx => by
    have hb3 := hbb.keep k3 hl
    exact ⟨_, _, run_endRound (some c) hb3, rfl, (hIx c).putObj _ hx hl hb3 rfl, hb3.turn, keepsFrom_trans' (keepsFrom_mono k1 (by omega)) (keepsFrom_trans' (keepsFrom_put _ _ hH) (keepsFrom_trans' (keepsFrom_mono k3 (by omega)) (keepsFrom_put _ _ hH)))⟩
  rintro e a3 W3 hp
  cases e with
  | normal =>
    obtain ⟨k3, p3, hi3⟩ := hp
    have hb3 := hbb.keep k3 hl
    exact ⟨_, _, run_endRound none hb3, .inl ⟨rfl, ⟨hI.putObj _ hi3 hl hb3 rfl, hb3.turn⟩, keepsFrom_trans' (keepsFrom_mono k1 (by omega)) (keepsFrom_trans' (keepsFrom_put _ _ hH) (keepsFrom_trans' (keepsFrom_mono k3 (by omega)) (keepsFrom_put _ _ hH))), hKt p1 (hKt (hKt p2 p3) (hKb _ _ _ _ hl hb3 rfl rfl))⟩⟩
  | ret =>
    obtain ⟨v, w', h1, h2, h3, h4, h5⟩ := out .ret W3 hp.1 hp.2
    exact ⟨v, w', h1, .inr ⟨by rw [h2], ⟨_, h3, h4⟩, h5⟩⟩
  | exit id =>
    obtain ⟨v, w', h1, h2, h3, h4, h5⟩ := out (.exit id) W3 hp.1 hp.2
    exact ⟨v, w', h1, .inr ⟨by rw [h2], ⟨_, h3, h4⟩, h5⟩⟩
  | goto t =>
    obtain ⟨v, w', h1, h2, h3, h4, h5⟩ := out (.goto t) W3 hp.1 hp.2
    exact ⟨v, w', h1, .inr ⟨by rw [h2], ⟨_, h3, h4⟩, h5⟩⟩
  | panic ch => exact hp.elim
  | outgrown => exact hp.elim

/-- The statement, over an iterator that tells. -/
theorem range_tellsN {g : Operand} {ps : Array Tmp} {asg body : Code} {Q : Exit → Act → World → Prop} {a : Act} {w : World}
    {l₀ : Nat} {r₀ : Loop} (hro : F.round = some l₀) (hl₀ : w.heap[l₀]? = some (.loop r₀)) (h1 : 1 ≤ n) {gf : Nat} {lb : Array Value} (hg : a.eval g = .func (.func gf) #[] lb) (hF : F.fn gf) (eg : ∀ args w, (callFunc gf args).run P w = .ok (.enter gf args) w)
    {encs : α → Array Value} {Kp : World → World → Prop} {S Sp : List α → Prop} {Ok : List α → α → Prop} {w0 : World} (hseq : TellsD F (n - 1) P gf lb encs Kp S Sp Ok w0)
    (hKt : ∀ {X Y Z : World}, Kp X Y → Kp Y Z → Kp X Z) (hKb : ∀ (W : World) (k : Nat) (o o' : Obj), w.heap.size ≤ k → W.heap[k]? = some o → o.isCells = false → o.isWalk = false → Kp W (W.putObj k o')) (hb0 : Below w0.heap.size w0 w) (hps : ∀ x, (encs x).size = ps.size)
    (I : List α → World → Prop) (Ix : Code → List α → World → Prop) (hI : OwnFrom w.heap.size I) (hIx : ∀ c, OwnFrom w.heap.size (Ix c)) (hIb : ∀ s X Y, I s X → Below X.heap.size X Y → I s Y) (hIxb : ∀ c s X Y, Ix c s X → Below X.heap.size X Y → Ix c s Y) (h0 : I [] w) (Ax : α → Act → World → Prop) (hAx : ∀ x a', OwnFrom w.heap.size (fun (_ : Unit) W => Ax x a' W))
    (hassign : ∀ (l : Nat) (pre : List α) (x : α) (W : World) (K : Act → World → Prop), I pre W → (∀ a' W', KeepsFrom w.heap.size W W' → Kp W W' → I pre W' → Ax x a' W' → K a' W') →
      asg.wpIn (F.inRound l) (n - 1 - 1) P (Exit.then K (fun _ _ _ => False)) { tmps := (ps.zip (encs x)).foldl (fun t (p, v) => t.setIfInBounds p v) a.tmps, defers := [] } W)
    (hbody : ∀ (l : Nat) (pre : List α) (x : α) (a' : Act) (W : World), I pre W → Ax x a' W → Ok pre x → body.wpIn (F.inRound l) (n - 1 - 1) P (ownPostG w.heap.size Kp I Ix (pre ++ [x]) W) a' W)
    (hdone : ∀ (xs : List α) (W : World), S xs → I xs W → Q .normal a W)
    (hstop : ∀ (c : Code) (pre : List α) (W : World), Sp pre → Ix c pre W → c.wpIn F n P Q a W) :
    (Code.rangeFunc g ps asg body).wpIn F n P Q a w := by
  refine wpIn_rangeFunc fun fn hfn => ?_
  rw [hro]
  have hbk : BookN w.heap.size (recOf fn a.tmps ps asg body r₀.defers .ready none) (w.alloc (.loop (recOf fn a.tmps ps asg body r₀.defers .ready none))) := World.alloc_heap_new w _
  have hi1 : I [] (w.alloc (.loop (recOf fn a.tmps ps asg body r₀.defers .ready none))) := hI.alloc _ h0
  have hb1 : Below w0.heap.size w0 (w.alloc (.loop (recOf fn a.tmps ps asg body r₀.defers .ready none))) := hb0.trans (((Below.refl _ w).alloc (Nat.le_refl _) _).mono hb0.size)
  have hent := run_enterLoop_inner (P := P) (w := w) hl₀ fn a.tmps ps asg body
  have hsz : (w.alloc (.loop (recOf fn a.tmps ps asg body r₀.defers .ready none))).heap.size = w.heap.size + 1 := by simp
  refine ⟨w.heap.size, [], w.alloc (.loop (recOf fn a.tmps ps asg body r₀.defers .ready none)), { target := .fn (.func gf) lb, args := #[.func (.yield w.heap.size) #[] #[]] }, w.alloc (.loop (recOf fn a.tmps ps asg body r₀.defers .ready none)), gf,
    #[.func (.yield w.heap.size) #[] #[]] ++ lb, w.alloc (.loop (recOf fn a.tmps ps asg body r₀.defers .ready none)), hent, ?_, ?_, ?_, fun _ => h1, ?_⟩
  · simp only [resolve, hg]
    simp [go_sem]
  · intro f' hf'
    simp [Target.leads] at hf'
    subst hf'
    exact hF
  · simp [invoke, go_sem, eg]
  · generalize (w.alloc (.loop (recOf fn a.tmps ps asg body r₀.defers .ready none))) = W1 at *
    have abide : ∀ {X Y : World} {r : Loop}, Below X.heap.size X Y → BookN w.heap.size r X → BookN w.heap.size r Y := fun hXY hb => (hXY.block _ (Array.getElem?_eq_some_iff.1 hb).1).trans hb
    refine (hseq w.heap.size (fun pre W => I pre W ∧ BookN w.heap.size (recOf fn a.tmps ps asg body r₀.defers .ready none) W)
      (fun pre W => ∃ c, Ix c pre W ∧ BookN w.heap.size (recOf fn a.tmps ps asg body r₀.defers .done (some c)) W) W1 hb1
      (fun s X Y hs hXY => ⟨hIb s X Y hs.1 hXY, abide hXY hs.2⟩)
      (fun s X Y hs hXY => by obtain ⟨c, hc, hb⟩ := hs; exact ⟨c, hIxb c s X Y hc hXY, abide hXY hb⟩)
      (fun pre x W hJ hN => one_roundN (Kp := Kp) (P := P) (m := n - 1 - 1) (B := w.heap.size) (l := w.heap.size) (D := r₀.defers) (tmps := a.tmps) (ps := ps) (asg := asg) (body := body) (I := I) (Ix := Ix) (Ax := Ax) (Ok := Ok) hfn (Nat.le_refl _) hps hKt hKb (H := W1.heap.size) (by omega) hI hIx hAx (hassign w.heap.size) (hbody w.heap.size) pre x W hJ.1 hJ.2 hN) ⟨hi1, hbk⟩).mono ?_
    rintro e W2 ⟨⟨v, rfl⟩, (⟨xs, hS, hi, hb⟩ | ⟨pre, hSp, c, hi, hb⟩)⟩
    · exact ⟨none, _, run_endLoop hb (by simp [recOf]), hdone xs _ hS (hI.putObj _ hi (Nat.le_refl _) hb rfl)⟩
    · exact ⟨some c, _, run_endLoop hb (by simp [recOf]), hstop c pre _ hSp ((hIx c).putObj _ hi (Nat.le_refl _) hb rfl)⟩

end
end Go.Proofs

/- Ctrl: what bytes say; lanes, told. -/
namespace Go.Proofs
set_option maxRecDepth 100000
set_option maxRecDepth 100000
open Go.RowKit Go.Shelf
attribute [local go_sem] Oper.semAt_some

/-- What a control byte says: full, empty, deleted, nothing. -/
def kd (b : Nat) : Nat := if b ≤ 127 then 0 else if b = 128 then 1 else if b = 254 then 2 else 3
theorem kd_lt (b : Nat) : kd b < 4 := by unfold kd; repeat' split
                                         all_goals omega
theorem Tryz.said_any (b : Nat) (w : World) : Calls Tryz.prog 55 #[.int .u8 b] w fun e w' => e = .returned (.int .i64 (kd b : Nat)) ∧ w = w' := by
  by_cases h1 : b ≤ 127
  · have hk : kd b = 0 := by simp [kd, h1]
    have h1' : (b : Int) ≤ 127 := by omega
    rw [hk]
    go_enter Tryz.func55, Tryz.ntmps55
    go_wp2
    go_ret
    exact ⟨rfl, rfl⟩
  · have h1' : ¬ (b : Int) ≤ 127 := by omega
    by_cases h2 : b = 128
    · subst h2
      go_enter Tryz.func55, Tryz.ntmps55
      go_wp2
      go_ret
      exact ⟨rfl, rfl⟩
    · have h2' : ((b : Int) == 128) = false := by simp; omega
      by_cases h3 : b = 254
      · subst h3
        go_enter Tryz.func55, Tryz.ntmps55
        go_wp2
        go_ret
        exact ⟨rfl, rfl⟩
      · have h3' : ((b : Int) == 254) = false := by simp; omega
        have hk : kd b = 3 := by simp [kd, h1, h2, h3]
        rw [hk]
        go_enter Tryz.func55, Tryz.ntmps55
        go_wp2
        go_ret
        exact ⟨rfl, rfl⟩
theorem Tryz.cnumber_any (x : Int) (w : World) : Calls Tryz.prog 78 #[.int .u64 x] w fun e w' => e = .returned (.int .u64 x) ∧ w = w' := by
  go_enter Tryz.func78, Tryz.ntmps78
  go_wp2
  go_ret
  exact ⟨rfl, rfl⟩
theorem Tryz.bytes_any (x : Int) (w : World) : Calls Tryz.prog 57 #[.int .u64 x] w fun e w' => e = .returned (.func (.func 77) #[] #[.pointer (some ⟨w.heap.size, 0, none⟩)]) ∧ w' = w.alloc (.cells #[.int .u64 x] 103) := by
  go_enter Tryz.func57, Tryz.ntmps57
  go_wp2
  go_ret
  exact ⟨rfl, rfl⟩
theorem Tryz.slots_any (x : Int) (w : World) : Calls Tryz.prog 97 #[.int .u64 x] w fun e w' => e = .returned (.func (.func 101) #[] #[.pointer (some ⟨w.heap.size, 0, none⟩)]) ∧ w' = w.alloc (.cells #[.int .u64 x] 103) := by
  go_enter Tryz.func97, Tryz.ntmps97
  go_wp2
  go_ret
  exact ⟨rfl, rfl⟩

def encB (x k : Nat) : Array Value := #[.int .i64 k, .int .u8 (byt x k : Nat)]
def encK (x k : Nat) : Array Value := #[.int .i64 k, .int .i64 (kd (byt x k) : Nat)]
/-- Lanes come in order. -/
def Lane (pre : List Nat) (y : Nat) : Prop := pre = List.range y ∧ y < 8
theorem lane_range {k : Nat} (h : k < 8) : Lane (List.range k) k := ⟨rfl, h⟩

theorem Tryz.index_arr8 (g : Nat → Value) (k : Nat) (h : k < 8) (W : World) : (Instr.index 113 (.agg (arr8 g)) (.int .i64 k)).run Tryz.prog W = .ok (g k) W := by
  obtain ⟨i0, hi, hz0, hz1, hz2⟩ := info_parts Tryz.infoByte
  have ha : (isAgg 5).run Tryz.prog W = .ok false W := run_isAgg_plain Tryz.underlying5 rfl W
  have hg := arr8_get g ⟨k, h⟩
  dsimp only at hg
  have hk : ¬ 8 ≤ k := by omega
  simp [Instr.index, asIntOf, run_underlying Tryz.underlying113, sizeOf, typeInfo, hi, hz1, part, ha, hg, hk, Sem.run_bind]

set_option maxHeartbeats 2000000 in
theorem Tryz.bytes1_tells (d : Nat) (Kp : World → World → Prop) (Bs x : Nat) (w : World) (hBs : Rows8 w Bs 103 #[.int .u64 x]) :
    TellsX Fence.wide d Tryz.prog 77 #[.pointer (some ⟨Bs, 0, none⟩)] (encB x) Kp (fun xs => xs = List.range 8) Lane w := fun l J Jx Jp W hW hJ hJx hJp hY h0 => by
  refine callsIn_wide.2 ?_
  refine (callsIn_wide (n := 9)).1 ?_
  have HY := Lib.hid hY
  have c0 : W.cell? ⟨Bs, 0, none⟩ = some (.int .u64 x) := (hBs.below hW hBs.lt).cell 0
  have HJ : Hid (∀ W', Below W.heap.size W W' → J [] W') := Lib.hid fun W' b => hJ [] W W' none h0 ⟨b.os, b.tape, b.output, b.size, fun k hk _ => b.block k hk⟩ (fun r e => by cases e)
  clear hY hBs h0 hJ
  refine callsIn_of_wp Tryz.func77 rfl trivial ?_ rfl
  simp only [Tryz.ntmps77, List.size_toArray, List.length_cons, List.length_nil, Nat.reduceAdd, Nat.reduceSub, Array.replicate_succ, Array.replicate_zero, List.push_toArray, List.append_toArray, List.nil_append, List.cons_append]
  gi_wp2_with (first
    | (refine ⟨trivial, ?_⟩; gi_at_call 78; refine (callsIn_wide.2 (Tryz.cnumber_any _ _)).mono ?_; rintro e w' ⟨rfl, rfl⟩)
    | (refine ⟨trivial, ?_⟩; gi_at_call 65; refine (callsIn_wide.2 (Tryz.Bytes_any _ _)).mono ?_; rintro e w1 ⟨rfl, hB1⟩; have HB1 := Lib.hid hB1; clear hB1))
  gi_loopw [8] (fun j wr => ∃ k : Nat, k ≤ 8 ∧ j = .int .i64 k ∧ J (List.range k) wr) (fun j _ => 8 - (intOf j).toNat)
  case atStart => exact ⟨0, Nat.zero_le _, rfl, HJ.out _ HB1.out⟩
  case round =>
    obtain ⟨k, hk, rfl, hJs⟩ := hrel
    by_cases hlt : k < 8
    · have hg := Tryz.index_arr8 (fun n => .int .u8 (byt x n : Nat)) k hlt wr
      have hki : (k : Int) < 8 := by omega
      obtain ⟨fn, tmps, assign, body, hy, hR⟩ := yield_any rfl 8 (HY.out _ k wr hJs (lane_range hlt))
      unfold encB at hy
      have HK := Lib.hid hJs
      clear hJs
      gi_wp2_with fail
      refine hR.mono ?_
      rintro e w5 (⟨rfl, hJ5, _, _⟩ | ⟨rfl, hJ5, _⟩ | ⟨ch, rfl, hJ5, _⟩)
      · have HJ5 := Lib.hid hJ5
        clear hJ5
        gi_wp2_with fail
        go_roundw
        case rel => exact ⟨k + 1, by omega, by go_num, by rw [List.range_succ]; exact HJ5.out⟩
        case measure => simp [intOf]; omega
      · have HJ5 := Lib.hid hJ5
        clear hJ5
        gi_wp2_with fail
        refine bodyPost_ret (results_none rfl _ _ _) rfl ?_
        exact .inl ⟨⟨_, rfl⟩, .inr ⟨_, HJ5.out⟩⟩
      · exact ⟨rfl, .inr ⟨_, _, rfl, hJ5⟩⟩
    · obtain rfl : k = 8 := by omega
      have HK := Lib.hid hJs
      clear hJs
      gi_wp2_with fail
      go_end0
      exact .inl ⟨⟨_, rfl⟩, .inl ⟨_, rfl, HK.out⟩⟩
end Go.Proofs
