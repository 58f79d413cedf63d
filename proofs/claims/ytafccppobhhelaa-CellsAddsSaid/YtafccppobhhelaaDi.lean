/- An append whose source is any row, nil too. -/
import Derived.Test.YtafccppobhhelaaCq
namespace Go.Proofs
open Go.RowKit Go.Shelf

theorem run_append_row {P : Program} (w : World) (base : Nat) (t ty e : TypeId) (i : TypeInfo) (z : Value) (size bytes : Nat) (ht : P.underlying t = some (.slice e)) (hi : P.info? e = some i) (hz : i.zero = some z)
    (hsize : i.size = size) (hby : i.bytes = bytes) (hzs : z.cells.size = size) (hsz : 0 < size) (v : Value) (n : Nat) (xs : List Value) (hown : w.ownsRow base e size v n xs)
    (src : Value) (m : Nat) (news : List Value) (hr : RowAt w src m size news) (h1 : ∀ u ∈ news, u.oneCell' = true) (h63 : n + m ≤ maxLen) (hbytes : (n + m) * bytes ≤ 140737488355328) (hbase : base ≤ w.heap.size) :
    ∃ v' w', (Builtin.append_ #[t, t] ty #[v, src]).run P w = .ok v' w' ∧ w'.ownsRow base e size v' (n + m) (xs ++ news) ∧ w.grownBy w' v.ownBlock ∧ (v'.ownBlock = v.ownBlock ∨ v'.ownBlock = some w.heap.size) := by
  have hr0 := hr
  obtain ⟨h0, a, cap, rfl, hc, _, hn, _⟩ := hr
  cases a with
  | none =>
    have hc0 := hn rfl
    subst hc0
    obtain rfl : m = 0 := by omega
    obtain rfl : news = [] := List.eq_nil_of_length_eq_zero (by omega)
    refine ⟨v, w, ?_, by simpa using hown, World.grownBy.refl w _, .inl rfl⟩
    rcases hown.2 with ⟨rfl, rfl⟩ | ⟨g, cap, cur, rfl, _, _, hnc, _⟩
    · simp [Builtin.append_, run_underlying ht, sizeOf, typeInfo, hi, Builtin.lenOf, Builtin.firstCells]
    · simp [Builtin.append_, run_underlying ht, sizeOf, typeInfo, hi, Builtin.lenOf, Builtin.firstCells, hnc, storeCells]
  | some x =>
    obtain ⟨v', w', hrun, h2, h3, _, h5⟩ := run_append_own_at (P := P) w base t ty e i z size bytes ht hi hz hsize hby hzs hsz v n xs hown x m cap news h0 (row_src hr0) h1 h63 hbytes hbase
    exact ⟨v', w', hrun, h2, h3, h5⟩
theorem step_append_row {P : Program} (w : World) {ops : Array Oper} {o : Oper} {a : Act} {K : Act → World → Prop} {Q : Exit → Act → World → Prop} {E : Prop} (hgd : o.guard = none) (s x : Operand) (t : TypeId)
    (ho : o.op = .call { callee := .builtin .append, args := #[s, x], argTypes := #[t, t] }) (base : Nat) (e : TypeId) (i : TypeInfo) (z : Value) (size bytes : Nat) (ht : P.underlying t = some (.slice e)) (hi : P.info? e = some i) (hz : i.zero = some z)
    (hsize : i.size = size) (hby : i.bytes = bytes) (hzs : z.cells.size = size) (hsz : 0 < size) (v : Value) (n : Nat) (xs : List Value) (hs : a.eval s = v) (hown : w.ownsRow base e size v n xs)
    (src : Value) (m : Nat) (news : List Value) (hx : a.eval x = src) (hr : RowAt w src m size news) (h1 : ∀ u ∈ news, u.oneCell' = true) (h63 : n + m ≤ maxLen) (hbytes : (n + m) * bytes ≤ 140737488355328) (hbase : base ≤ w.heap.size)
    (h : ∀ v' w', w'.ownsRow base e size v' (n + m) (xs ++ news) → w.grownBy w' v.ownBlock → (v'.ownBlock = v.ownBlock ∨ v'.ownBlock = some w.heap.size) → K (a.put o.dst v') w') :
    if Region.wanted o (yielded ops a.tmps) = true then Oper.wp P o a w K Q else E := by
  have hw : Region.wanted o (yielded ops a.tmps) = true := by simp [Region.wanted, hgd]
  rw [if_pos hw]
  obtain ⟨v', w', hrun, h2, h3, h4⟩ := run_append_row (P := P) w base t o.type e i z size bytes ht hi hz hsize hby hzs hsz v n xs hown src m news hr h1 h63 hbytes hbase
  unfold Oper.wp execOp
  simp only [ho, resolve, invoke, builtin, Sem.run_bind, Sem.run_pure, Result.andThen_ok, List.map_toArray, List.map_cons, List.map_nil, hs, hx, hrun]
  exact h v' w' h2 h3 h4
theorem wpList_append_row {P : Program} (w : World) {ops : Array Oper} {rest : List Oper} {o : Oper} {a : Act} {Q : Exit → Act → World → Prop} (hgd : o.guard = none) (s x : Operand) (t : TypeId)
    (ho : o.op = .call { callee := .builtin .append, args := #[s, x], argTypes := #[t, t] }) (base : Nat) (e : TypeId) (i : TypeInfo) (z : Value) (size bytes : Nat) (ht : P.underlying t = some (.slice e)) (hi : P.info? e = some i) (hz : i.zero = some z)
    (hsize : i.size = size) (hby : i.bytes = bytes) (hzs : z.cells.size = size) (hsz : 0 < size) (v : Value) (n : Nat) (xs : List Value) (hs : a.eval s = v) (hown : w.ownsRow base e size v n xs)
    (src : Value) (m : Nat) (news : List Value) (hx : a.eval x = src) (hr : RowAt w src m size news) (h1 : ∀ u ∈ news, u.oneCell' = true) (h63 : n + m ≤ maxLen) (hbytes : (n + m) * bytes ≤ 140737488355328) (hbase : base ≤ w.heap.size)
    (h : ∀ v' w', w'.ownsRow base e size v' (n + m) (xs ++ news) → w.grownBy w' v.ownBlock → (v'.ownBlock = v.ownBlock ∨ v'.ownBlock = some w.heap.size) → wpList P ops Q rest (a.put o.dst v') w') : wpList P ops Q (o :: rest) a w :=
  wpList_plain hgd fun K hK => by
    obtain ⟨v', w', hrun, h2, h3, h4⟩ := run_append_row (P := P) w base t o.type e i z size bytes ht hi hz hsize hby hzs hsz v n xs hown src m news hr h1 h63 hbytes hbase
    unfold Oper.wp execOp
    simp only [ho, resolve, invoke, builtin, Sem.run_bind, Sem.run_pure, Result.andThen_ok, List.map_toArray, List.map_cons, List.map_nil, hs, hx, hrun]
    exact hK _ _ (h v' w' h2 h3 h4)

/-- A block that holds one element, as a row. -/
theorem own1 {W : World} {B : Nat} {t : TypeId} {cs : Array Value} {n₀ k : Nat} (h : Rows8 W B t cs) (hb : n₀ ≤ B) (hk : cs.size = k) : W.ownsRow n₀ t k (.slice (some ⟨B, 0, none⟩) 1 1) 1 cs.toList :=
  ⟨by simpa using hk, .inr ⟨B, 1, cs, rfl, hb, h, Nat.le_refl _, by unfold maxLen; omega, by rw [Nat.one_mul]; exact hk, List.take_of_length_le (by rw [Array.length_toList, hk, Nat.one_mul]; exact Nat.le_refl _)⟩⟩
theorem rows_new2 (W : World) (o : Obj) (t : TypeId) (cs : Array Value) : Rows8 ((W.alloc o).alloc (.cells cs t)) (W.heap.size + 1) t cs := by
  have h := Rows8.new (W.alloc o) t cs
  rwa [World.size_alloc] at h
/-- What stands behind a first append, whatever was laid ahead of it. -/
structure After1 (n₀ : Nat) (W X wx : World) (u v : Value) : Prop where
  below : Below n₀ W wx
  size : W.heap.size ≤ X.heap.size ∧ X.heap.size ≤ wx.heap.size
  news : ∀ B t cs, Rows8 X B t cs → W.heap.size ≤ B → Rows8 wx B t cs
  olds : ∀ B t cs, Rows8 W B t cs → u.ownBlock ≠ some B → Rows8 wx B t cs
  own : ∀ n₁ e k v' n cs, W.ownsRow n₁ e k v' n cs → (v'.ownBlock = none ∨ v'.ownBlock ≠ u.ownBlock) → wx.ownsRow n₁ e k v' n cs
  lies : ∀ j, v.ownBlock = some j → (j < W.heap.size ∧ u.ownBlock = some j) ∨ j = X.heap.size
theorem after1 {n₀ : Nat} {W X wx : World} {u v : Value} {e : TypeId} {k n : Nat} {cs : List Value} (hu : W.ownsRow n₀ e k u n cs) (hn : n₀ ≤ W.heap.size) (hX : Below W.heap.size W X) (hg : X.grownBy wx u.ownBlock) (hv : v.ownBlock = u.ownBlock ∨ v.ownBlock = some X.heap.size) : After1 n₀ W X wx u v := by
  have hul : ∀ j, u.ownBlock = some j → n₀ ≤ j ∧ j < W.heap.size := fun j e2 => World.ownsRow.lt hu j e2
  refine ⟨(hX.mono hn).grown hg (Nat.le_trans hn hX.size) (fun j e2 => (hul j e2).1), ⟨hX.size, hg.size⟩, fun B t cs hR hB => ?_, fun B t cs hR hne => ?_, fun n₁ e' k' v' n' cs' ho hne => ?_, fun j ej => ?_⟩
  · exact (hg.block B hR.lt (fun e2 => by have := (hul B e2.symm).2; omega)).trans hR
  · exact (hg.block B (Nat.lt_of_lt_of_le hR.lt hX.size) (fun e2 => hne e2.symm)).trans (hR.below hX hR.lt)
  · exact World.ownsRow.kept (owns_keep ho hX (Nat.le_refl _)) hg hne
  · rcases hv with hv | hv
    · rw [hv] at ej
      exact .inl ⟨(hul j ej).2, ej⟩
    · rw [hv] at ej
      injection ej with ej
      exact .inr ej.symm
theorem after2 {n₀ n₁ : Nat} {W X wx Y wy : World} {u v v9 : Value} {e : TypeId} {k n b5 : Nat} {cs : List Value} (ha : After1 n₀ W X wx u v) (h8 : wx.ownsRow n₁ e k v n cs) (hY : Below wx.heap.size wx Y) (hn : n₀ ≤ wx.heap.size)
    (hg : Y.grownBy wy (some b5)) (h9 : v9.ownBlock = some b5 ∨ v9.ownBlock = some Y.heap.size) (hb : b5 = wx.heap.size ∨ (W.heap.size ≤ b5 ∧ b5 < X.heap.size)) (hnb : n₀ ≤ b5) :
    wy.ownsRow n₁ e k v n cs ∧ (v.ownBlock = none ∨ v.ownBlock ≠ v9.ownBlock) ∧ Below n₀ W wy := by
  have key : ∀ j, v.ownBlock = some j → j ≠ b5 ∧ j < wx.heap.size := fun j ej => by
    have h1 := (World.ownsRow.lt h8 j ej).2
    refine ⟨?_, h1⟩
    rcases hb with hb | ⟨hb1, hb2⟩
    · omega
    · rcases ha.lies j ej with ⟨h2, _⟩ | h2 <;> omega
  refine ⟨World.ownsRow.kept (owns_keep h8 hY (Nat.le_refl _)) hg ?_, ?_, (ha.below.trans (hY.mono hn)).grown hg (Nat.le_trans hn hY.size) (fun j e2 => by injection e2 with e2; omega)⟩
  · cases ej : v.ownBlock with
    | none => exact .inl rfl
    | some j => exact .inr fun e2 => (key j ej).1 (by injection e2)
  · cases ej : v.ownBlock with
    | none => exact .inl rfl
    | some j =>
      refine .inr fun e2 => ?_
      have h1 := key j ej
      have h2 := hY.size
      rcases h9 with h9 | h9
      · rw [h9] at e2; injection e2 with e2; exact h1.1 e2
      · rw [h9] at e2; injection e2 with e2; omega
end Go.Proofs
