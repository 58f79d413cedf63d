/- slices.Backward and slices.All of marks. -/
import Derived.Test.YtafccppobhhelaaCf
namespace Go.Proofs
open Go.RowKit Go.Shelf
attribute [local go_sem] Oper.semAt_some

/-- All cells are as they were, but words, and boxes of rows of words. -/
structure Tk (A B : World) : Prop where
  size : A.heap.size ≤ B.heap.size
  same : ∀ (k : Nat) (cs : Array Value) (t : TypeId) (fr : Nat × Nat), A.heap[k]? = some (Obj.cells cs t fr) → t ≠ 22 → t ≠ 25 → B.heap[k]? = some (Obj.cells cs t fr)
theorem Tk.refl (A : World) : Tk A A := ⟨Nat.le_refl _, fun _ _ _ _ h _ _ => h⟩
theorem Tk.trans {A B C : World} (p : Tk A B) (q : Tk B C) : Tk A C := ⟨Nat.le_trans p.size q.size, fun k cs t fr h h1 h2 => q.same k cs t fr (p.same k cs t fr h h1 h2) h1 h2⟩
theorem Tk.rows {A B : World} (p : Tk A B) {k : Nat} {t : TypeId} {cs : Array Value} (h : Rows8 A k t cs) (h1 : t ≠ 22) (h2 : t ≠ 25) : Rows8 B k t cs := p.same k cs t (0, 0) h h1 h2
theorem Tk.own {A B : World} (p : Tk A B) {n₀ k n : Nat} {e : TypeId} {v : Value} {cs : List Value} (h : A.ownsRow n₀ e k v n cs) (h1 : e ≠ 22) (h2 : e ≠ 25) : B.ownsRow n₀ e k v n cs :=
  ⟨h.1, h.2.imp id fun ⟨g, cap, cur, e1, e2, e3, e4⟩ => ⟨g, cap, cur, e1, e2, p.same g cur e (0, 0) e3 h1 h2, e4⟩⟩
theorem Tk.of_below {A B : World} (p : Below A.heap.size A B) : Tk A B := ⟨p.size, fun k _ _ _ h _ _ => (p.block k (Array.getElem?_eq_some_iff.1 h).1).trans h⟩
theorem Tk.alloc (A : World) (o : Obj) : Tk A (A.alloc o) := .of_below ((Below.refl _ A).alloc (Nat.le_refl _) o)
theorem Tk.drew {A B : World} (p : Tk A B) : Tk A B.drew := ⟨p.size, p.same⟩
theorem Tk.set {A B : World} (p : Tk A B) {a : Addr} {t : TypeId} {cs : Array Value} (h : Rows8 B a.block t cs) (h1 : t = 22 ∨ t = 25) (v : Value) : Tk A (B.setCell a v) :=
  p.trans ⟨by simp [World.setCell], fun k cs' t' fr hk e1 e2 => by
    have hne : a.block ≠ k := fun e => by
      subst e
      rw [show B.heap[a.block]? = _ from h] at hk
      injection hk with hk
      injection hk with _ hk _
      rcases h1 with h1 | h1
      · exact e1 (hk ▸ h1)
      · exact e2 (hk ▸ h1)
    show (B.heap.modify a.block _)[k]? = _
    rw [Array.getElem?_modify, if_neg hne]
    exact hk⟩
theorem Tk.grown {A B C : World} (p : Tk A B) {n₀ k n : Nat} {v : Value} {cs : List Value} (h : B.ownsRow n₀ 25 k v n cs) (hg : B.grownBy C v.ownBlock) : Tk A C :=
  p.trans ⟨hg.size, fun q cs' t' fr hk e1 e2 => (hg.block q (Array.getElem?_eq_some_iff.1 hk).1 (fun e => by
    rcases h.2 with ⟨rfl, _⟩ | ⟨g, cap, cur, rfl, _, hh, _⟩
    · simp [Value.ownBlock] at e
    · obtain rfl : q = g := by simpa [Value.ownBlock] using e
      rw [hh] at hk
      injection hk with hk
      injection hk with _ hk _
      exact e2 hk.symm)).trans hk⟩
theorem tk_b {B : Nat} (W : World) (l : Nat) (o o' : Obj) (_ : B ≤ l) (hh : W.heap[l]? = some o) (hc : o.isCells = false) (_ : o.isWalk = false) : Tk W (W.putObj l o') := by
  refine ⟨by simp [World.putObj], fun k cs t fr hk _ _ => ?_⟩
  have hne : l ≠ k := fun e => by
    subst e
    rw [hk] at hh
    injection hh with hh
    subst hh
    cases hc
  exact (World.putObj_heap_other (fun e => hne e.symm)).trans hk
theorem tk_t {A B C : World} (p : Tk A B) (q : Tk B C) : Tk A C := p.trans q
def mk0 : Mk := ⟨0, 0, 0, 0⟩
/-- The marks from the last one on, with their places. -/
def bwd (ms : List Mk) : List (Nat × Mk) := (List.range ms.length).map fun k => (ms.length - 1 - k, ms[ms.length - 1 - k]?.getD mk0)
def fwd (ms : List Mk) : List (Nat × Mk) := (List.range ms.length).map fun k => (k, ms[k]?.getD mk0)
theorem bwd_length (ms : List Mk) : (bwd ms).length = ms.length := by simp [bwd]
theorem fwd_length (ms : List Mk) : (fwd ms).length = ms.length := by simp [fwd]
theorem bwd_get (ms : List Mk) (k : Nat) (h : k < (bwd ms).length) : (bwd ms)[k] = (ms.length - 1 - k, ms[ms.length - 1 - k]?.getD mk0) := by simp [bwd]
theorem fwd_get (ms : List Mk) (k : Nat) (h : k < (fwd ms).length) : (fwd ms)[k] = (k, ms[k]?.getD mk0) := by simp [fwd]
theorem bwd_marks (ms : List Mk) : (bwd ms).map Prod.snd = ms.reverse := by
  apply List.ext_getElem
  · simp [bwd]
  · intro i h1 h2
    simp only [List.length_map, bwd_length] at h1
    have h3 : ms.length - 1 - i < ms.length := by omega
    simp [bwd, h3]
theorem fwd_marks (ms : List Mk) : (fwd ms).map Prod.snd = ms := by
  apply List.ext_getElem
  · simp [fwd]
  · intro i h1 h2
    simp [fwd, h2]
theorem take_next {α : Type} (xs : List α) (k : Nat) (h : k < xs.length) : xs.take (k + 1) = xs.take k ++ [xs[k]] := by
  rw [List.take_succ_eq_append_getElem h]
/-- What a round is told of a mark. -/
def encM (x : Nat × Mk) : Array Value := #[.int .i64 (x.1 : Nat), .agg #[.int .i64 x.2.no, .int .i64 x.2.pl, .int .u64 x.2.was, .int .u64 x.2.is]]
theorem marksAt_get {W : World} {x : Option Addr} {n cap : Nat} {l : List Mk} (h : MarksAt W (.slice x n cap) l) (j : Nat) (hj : j < l.length) :
    ∃ b off, x = some ⟨b, off, none⟩ ∧ b < W.heap.size ∧ W.cell? ⟨b, off + j * 4, none⟩ = some (.int .i64 (l[j]?.getD mk0).no) ∧ W.cell? ⟨b, off + j * 4 + 1, none⟩ = some (.int .i64 (l[j]?.getD mk0).pl) ∧ W.cell? ⟨b, off + j * 4 + 2, none⟩ = some (.int .u64 (l[j]?.getD mk0).was) ∧ W.cell? ⟨b, off + j * 4 + 3, none⟩ = some (.int .u64 (l[j]?.getD mk0).is) := by
  obtain ⟨h0, a, cap', e, _, _, _, hc⟩ := h
  cases e
  obtain ⟨b, off, e, hb, _⟩ := hc (j * 4) (by rw [markVals_length]; omega)
  refine ⟨b, off, e, hb, ?_⟩
  have hg : l[j]?.getD mk0 = l[j] := by simp [hj]
  rw [hg]
  have hh : ∀ i, i < 4 → W.cell? ⟨b, off + j * 4 + i, none⟩ = (l[j].cells)[i]? := by
    intro i hi
    obtain ⟨b', off', e', _, h3⟩ := hc (j * 4 + i) (by rw [markVals_length]; omega)
    rw [e] at e'
    cases e'
    rw [Nat.add_assoc, h3]
    exact flat_get Mk.cells 4 (fun _ => rfl) l j i hj hi
  exact ⟨hh 0 (by decide), hh 1 (by decide), hh 2 (by decide), hh 3 (by decide)⟩
theorem Try.backward_any (a : Option Addr) (len cap : Nat) (w : World) :
    Calls Try.prog 69 #[.slice a len cap] w fun e w' => e = .returned (.func (.func 95) #[] #[.pointer (some ⟨w.heap.size, 0, none⟩)]) ∧ w' = w.alloc (.cells #[.slice a len cap] 40) := by
  go_enter Try.func69, Try.ntmps69
  go_wp2
  go_ret
  exact ⟨rfl, rfl⟩
theorem Try.all_any (a : Option Addr) (len cap : Nat) (w : World) :
    Calls Try.prog 73 #[.slice a len cap] w fun e w' => e = .returned (.func (.func 97) #[] #[.pointer (some ⟨w.heap.size, 0, none⟩)]) ∧ w' = w.alloc (.cells #[.slice a len cap] 40) := by
  go_enter Try.func73, Try.ntmps73
  go_wp2
  go_ret
  exact ⟨rfl, rfl⟩

set_option maxRecDepth 100000 in
set_option maxHeartbeats 2000000 in
theorem Try.backward1_in (F : Fence) (n : Nat) (hF : F.fn 95) (hro : F.round = none) (hn : 1 ≤ n) (l Bs n₀ : Nat) (a : Option Addr) (cap : Nat) (ms : List Mk) (hlen : ms.length ≤ 1000) (J Jx : List (Nat × Mk) → World → Prop)
    (hY : ∀ pre (y : Nat × Mk) W, J pre W → pre.length < ms.length → YieldAt F (n - 1) Try.prog l (encM y) W fun e W' =>
      (e = .returned (.bool true) ∧ J (pre ++ [y]) W' ∧ Tk W W') ∨ (e = .returned (.bool false) ∧ Jx (pre ++ [y]) W'))
    (W : World) (hBs : Rows8 W Bs 40 #[.slice a ms.length cap]) (hM : OwnsMarks n₀ ms (.slice a ms.length cap) W) (h0 : J [] W) :
    CallsIn F n Try.prog 95 #[.func (.yield l) #[] #[], .pointer (some ⟨Bs, 0, none⟩)] W fun e W' => (∃ v, e = .returned v) ∧
      ((∃ ys, ys = bwd ms ∧ J ys W') ∨ (∃ pre, pre <+: bwd ms ∧ Jx pre W')) := by
  have HM := Lib.hid hM
  clear hM
  have hbs0 := hBs.cell 0
  simp at hbs0
  refine callsIn_of_wp Try.func95 rfl hF ?_ hro
  simp only [Try.ntmps95, List.size_toArray, List.length_cons, List.length_nil, Nat.reduceAdd, Nat.reduceSub, Array.replicate_succ, Array.replicate_zero, List.push_toArray, List.append_toArray, List.nil_append, List.cons_append]
  have hw0 : IntKind.i64.wrap ((ms.length : Int) - 1) = (ms.length : Int) - 1 := IntWalk.i64_in _ (by omega)
  gi_wp2
  gi_loopw [3] (fun i wr => ∃ k : Nat, k ≤ ms.length ∧ i = .int .i64 ((ms.length : Int) - 1 - k) ∧ J ((bwd ms).take k) wr ∧ Tk W wr)
    (fun i _ => (intOf i + 1).toNat)
  case atStart => exact ⟨0, Nat.zero_le _, by simp, h0, Tk.refl _⟩
  case round =>
    obtain ⟨k, hk, rfl, hJs, hnx⟩ := hrel
    by_cases hlt : k < ms.length
    · have hlt' : k < (bwd ms).length := by rw [bwd_length]; exact hlt
      obtain ⟨b, off, rfl, hb, q0, q1, q2, q3⟩ := marksAt_get (rowAt_own (hnx.own HM.out (by decide) (by decide))) (ms.length - 1 - k) (by omega)
      have hbs := (hnx.rows hBs (by decide) (by decide)).cell 0
      simp at hbs
      have ht := take_next (bwd ms) k hlt'
      rw [bwd_get ms k hlt'] at ht
      obtain ⟨fn, tmps, assign, body, hy, hR⟩ := hY _ (ms.length - 1 - k, ms[ms.length - 1 - k]?.getD mk0) wr hJs (by rw [List.length_take]; omega)
      have hi : ∃ i : Nat, i = ms.length - 1 - k := ⟨_, rfl⟩
      obtain ⟨i, hi⟩ := hi
      rw [← hi] at hy hR ht q0 q1 q2 q3
      have ei : (ms.length : Int) - 1 - (k : Int) = (i : Int) := by omega
      rw [ei]
      have hil : 0 ≤ (i : Int) ∧ (i : Int) < (ms.length : Int) := by omega
      have hil0 : ¬ (i : Int) < 0 := by omega
      have hw1 : IntKind.i64.wrap ((i : Int) - 1) = (i : Int) - 1 := IntWalk.i64_in _ (by omega)
      unfold encM at hy
      dsimp only at hy
      generalize ms[i]?.getD mk0 = m at *
      obtain ⟨no, pl, was, is⟩ := m
      dsimp only at hy q0 q1 q2 q3
      have HT := Lib.hid ht
      have HEI := Lib.hid ei
      clear ht hi ei
      gi_wp2
      refine hR.mono ?_
      rintro e W3 (⟨rfl, hJ3, hk3⟩ | ⟨rfl, hJx3⟩)
      · gi_wp2
        have ei := HEI.out
        go_roundw
        case rel => exact ⟨k + 1, by omega, by first | (simp; done) | (simp; omega), by rw [HT.out]; exact hJ3, hnx.trans hk3⟩
        case measure => (first | (simp [intOf]; done) | (simp [intOf]; omega))
      · gi_wp2
        refine bodyPost_ret (results_none rfl _ _ _) rfl ?_
        exact ⟨⟨_, rfl⟩, .inr ⟨_, List.take_prefix (k + 1) (bwd ms), by rw [HT.out]; exact hJx3⟩⟩
    · obtain rfl : k = ms.length := by omega
      have ei : (ms.length : Int) - 1 - (ms.length : Int) = -1 := by omega
      rw [ei]
      gi_wp2
      go_end0
      exact ⟨⟨_, rfl⟩, .inl ⟨_, rfl, by rw [List.take_of_length_le (by rw [bwd_length]; omega)] at hJs; exact hJs⟩⟩

set_option maxRecDepth 100000 in
set_option maxHeartbeats 2000000 in
theorem Try.all1_in (F : Fence) (n : Nat) (hF : F.fn 97) (hro : F.round = none) (hn : 1 ≤ n) (l Bs n₀ : Nat) (a : Option Addr) (cap : Nat) (ms : List Mk) (hlen : ms.length ≤ 1000) (J Jx : List (Nat × Mk) → World → Prop)
    (hJa : ∀ s A o, J s A → J s (A.alloc o))
    (hY : ∀ pre (y : Nat × Mk) W, J pre W → pre.length < ms.length → YieldAt F (n - 1) Try.prog l (encM y) W fun e W' =>
      (e = .returned (.bool true) ∧ J (pre ++ [y]) W' ∧ Tk W W') ∨ (e = .returned (.bool false) ∧ Jx (pre ++ [y]) W'))
    (W : World) (hBs : Rows8 W Bs 40 #[.slice a ms.length cap]) (hM : OwnsMarks n₀ ms (.slice a ms.length cap) W) (h0 : J [] W) :
    CallsIn F n Try.prog 97 #[.func (.yield l) #[] #[], .pointer (some ⟨Bs, 0, none⟩)] W fun e W' => (∃ v, e = .returned v) ∧
      ((∃ ys, ys = fwd ms ∧ J ys W') ∨ (∃ pre, pre <+: fwd ms ∧ Jx pre W')) := by
  have HM := Lib.hid hM
  clear hM
  have hbs0 := hBs.cell 0
  simp at hbs0
  refine callsIn_of_wp Try.func97 rfl hF ?_ hro
  simp only [Try.ntmps97, List.size_toArray, List.length_cons, List.length_nil, Nat.reduceAdd, Nat.reduceSub, Array.replicate_succ, Array.replicate_zero, List.push_toArray, List.append_toArray, List.nil_append, List.cons_append]
  gi_wp2
  gi_loopw [7] (fun i wr => ∃ k : Nat, k ≤ ms.length ∧ i = .int .i64 k ∧ J ((fwd ms).take k) wr ∧ Tk W wr)
    (fun i _ => ms.length - (intOf i).toNat)
  case atStart => exact ⟨0, Nat.zero_le _, by simp, h0, Tk.refl _⟩
  case round =>
    obtain ⟨k, hk, rfl, hJs, hnx⟩ := hrel
    by_cases hlt : k < ms.length
    · have hlt' : k < (fwd ms).length := by rw [fwd_length]; exact hlt
      obtain ⟨b, off, rfl, hb, q0, q1, q2, q3⟩ := marksAt_get (rowAt_own (hnx.own HM.out (by decide) (by decide))) k hlt
      have ht := take_next (fwd ms) k hlt'
      rw [fwd_get ms k hlt'] at ht
      generalize ms[k]?.getD mk0 = m at *
      obtain ⟨no, pl, was, is⟩ := m
      dsimp only at q0 q1 q2 q3
      obtain ⟨fn, tmps, assign, body, hy, hR⟩ := hY _ (k, ⟨no, pl, was, is⟩) (wr.alloc (.cells #[.int .i64 no, .int .i64 pl, .int .u64 was, .int .u64 is] 47)) (hJa _ _ _ hJs) (by rw [List.length_take]; omega)
      unfold encM at hy
      dsimp only at hy
      have hki : (k : Int) < (ms.length : Int) := by omega
      have HT := Lib.hid ht
      clear ht
      gi_wp2
      refine hR.mono ?_
      rintro e W3 (⟨rfl, hJ3, hk3⟩ | ⟨rfl, hJx3⟩)
      · gi_wp2
        go_roundw
        case rel => exact ⟨k + 1, by omega, by simp, by rw [HT.out]; exact hJ3, (hnx.trans (Tk.alloc _ _)).trans hk3⟩
        case measure => simp [intOf]; omega
      · gi_wp2
        refine bodyPost_ret (results_none rfl _ _ _) rfl ?_
        exact ⟨⟨_, rfl⟩, .inr ⟨_, List.take_prefix (k + 1) (fwd ms), by rw [HT.out]; exact hJx3⟩⟩
    · obtain rfl : k = ms.length := by omega
      gi_wp2
      go_end0
      exact ⟨⟨_, rfl⟩, .inl ⟨_, rfl, by rw [List.take_of_length_le (by rw [fwd_length]; omega)] at hJs; exact hJs⟩⟩
end Go.Proofs
