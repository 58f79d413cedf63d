/- Group: rows of turns that come in; tools for the law of turns. -/
import Derived.Test.YtacphakpmmickaaGreatZTw
import Derived.Deep.SlicePairs
import Derived.WideShapes
namespace Go.Proofs
set_option maxRecDepth 100000
open Go.RowKit Go.Shelf Go.Deep
attribute [local go_sem] Oper.semAt_some

/-- A turn: it drops or puts; its slot; a lane. -/
structure Tu where
  d : Bool
  s : Sl
  lane : Int
def Tu.cells (t : Tu) : List Value := [.bool t.d, .int .u64 (t.s.key : Nat), .int .u64 (t.s.val : Nat), .int .u8 (t.s.h2 : Nat), .int .i64 t.lane]
def tuVals (l : List Tu) : List Value := l.flatMap Tu.cells
theorem tuVals_length (l : List Tu) : (tuVals l).length = l.length * 5 := flat_length Tu.cells 5 (fun _ => rfl) l
def GTurnsK (W : World) (v : Value) (l : List Tu) : Prop := RowAt W v l.length 5 (tuVals l) ∧ ∀ t ∈ l, t.s.h2 < 256
theorem turnsK_get {W : World} {a : Option Addr} {n cap : Nat} {ts : List Tu} (h : RowAt W (.slice a n cap) n 5 (tuVals ts)) (k : Nat) (hk : k < ts.length) :
    ∃ b off, a = some ⟨b, off, none⟩ ∧ b < W.heap.size ∧ W.cell? ⟨b, off + k * 5, none⟩ = some (.bool (ts[k]).d) ∧ W.cell? ⟨b, off + k * 5 + 1, none⟩ = some (.int .u64 ((ts[k]).s.key : Nat)) ∧ W.cell? ⟨b, off + k * 5 + 2, none⟩ = some (.int .u64 ((ts[k]).s.val : Nat)) ∧ W.cell? ⟨b, off + k * 5 + 3, none⟩ = some (.int .u8 ((ts[k]).s.h2 : Nat)) ∧ W.cell? ⟨b, off + k * 5 + 4, none⟩ = some (.int .i64 (ts[k]).lane) := by
  obtain ⟨_, a', cap', h1, _, _, _, h5⟩ := h
  cases h1
  have hl := tuVals_length ts
  have g : ∀ i, i < 5 → (tuVals ts)[k * 5 + i]? = ((ts[k]).cells : List Value)[i]? := fun i hi => flat_get Tu.cells 5 (fun _ => rfl) ts k i hk hi
  obtain ⟨b, off, e, hb, c0⟩ := h5 (k * 5 + 0) (by omega)
  obtain ⟨b1, off1, e1, _, c1⟩ := h5 (k * 5 + 1) (by omega)
  obtain ⟨b2, off2, e2, _, c2⟩ := h5 (k * 5 + 2) (by omega)
  obtain ⟨b3, off3, e3, _, c3⟩ := h5 (k * 5 + 3) (by omega)
  obtain ⟨b4, off4, e4, _, c4⟩ := h5 (k * 5 + 4) (by omega)
  rw [e] at e1 e2 e3 e4
  cases e1; cases e2; cases e3; cases e4
  rw [g 0 (by omega)] at c0
  rw [g 1 (by omega)] at c1
  rw [g 2 (by omega)] at c2
  rw [g 3 (by omega)] at c3
  rw [g 4 (by omega)] at c4
  exact ⟨b, off, e, hb, c0, by rw [Nat.add_assoc]; exact c1, by rw [Nat.add_assoc]; exact c2, by rw [Nat.add_assoc]; exact c3, by rw [Nat.add_assoc]; exact c4⟩
theorem cellsTu : Tryz.prog.cellsOf 32 = 5 := by kernel_rfl
theorem cellsBo : Tryz.prog.cellsOf 4 = 1 := by kernel_rfl
theorem cellsIn : Tryz.prog.cellsOf 3 = 1 := by kernel_rfl
theorem trod_oneB {H : Type} {P : Program} {enc : TypeId × Value → H} {w : World} {base : Nat} {sp : Nat → Bool} {held : Bool} {fuel : Nat} {t : TypeId} {v : Value} {x : DataW H × List MemPlace} (ht : P.underlying t = some .bool)
    (h : DataW.trod enc P w base sp held fuel t [v] = some x) : ∃ b, v = .bool b := by
  cases fuel with
  | zero => simp [DataW.trod] at h
  | succ n =>
    unfold DataW.trod at h
    rw [ht] at h
    split at h <;> simp_all
theorem open_tu {H : Type} {enc : TypeId × Value → H} {W : World} {base : Nat} {sp : Nat → Bool} {held : Bool} {fuel : Nat} {cs : List Value} {x : DataW H × List MemPlace} (hl : cs.length = 5)
    (h : DataW.trod enc Tryz.prog W base sp held fuel 32 cs = some x) : ∃ t : Tu, cs = t.cells ∧ t.s.h2 < 256 := by
  obtain ⟨xs, k, hk, hxy, _, hxl, hf⟩ := DataW.trod_struct Tryz.underlying32 h
  match xs, hxl, cs, hl with
  | [y0, y1, y2], _, [v0, v1, v2, v3, v4], _ =>
    have g0 := hf 0 _ rfl
    have g1 := hf 1 _ rfl
    have g2 := hf 2 _ rfl
    simp [cellsBo, cellsS, cellsIn] at g0 g1 g2
    obtain ⟨d, rfl⟩ := trod_oneB Tryz.underlying4 g0
    obtain ⟨z, e4, _, _⟩ := DataW.trod_int Tryz.underlying3 g2
    obtain ⟨xs', k', hk', _, _, hxl', hf'⟩ := DataW.trod_struct Tryz.underlying30 g1
    match xs', hxl' with
    | [q0, q1, q2], _ =>
      have u0 := hf' 0 _ rfl
      have u1 := hf' 1 _ rfl
      have u2 := hf' 2 _ rfl
      simp [cellsU, cellsB] at u0 u1 u2
      obtain ⟨a0, f0, _, w0⟩ := DataW.trod_int Tryz.underlying22 u0
      obtain ⟨a1, f1, _, w1⟩ := DataW.trod_int Tryz.underlying22 u1
      obtain ⟨a2, f2, _, w2⟩ := DataW.trod_int Tryz.underlying5 u2
      simp at e4 f0 f1 f2
      subst e4 f0 f1 f2
      have b0 := wf64 w0
      have b1 := wf64 w1
      have b2 := wf8 w2
      obtain ⟨n0, rfl⟩ := Int.eq_ofNat_of_zero_le b0.1
      obtain ⟨n1, rfl⟩ := Int.eq_ofNat_of_zero_le b1.1
      obtain ⟨n2, rfl⟩ := Int.eq_ofNat_of_zero_le b2.1
      exact ⟨⟨d, ⟨n0, n1, n2⟩, z⟩, rfl, by show n2 < 256; omega⟩
theorem open_gturns {H : Type} {enc : TypeId × Value → H} {W : World} {base : Nat} {sp : Nat → Bool} {held : Bool} {fuel : Nat} {a : Option Addr} {len cap : Nat} {x : DataW H × List MemPlace}
    (h : DataW.trod enc Tryz.prog W base sp held fuel 26 [.slice a len cap] = some x) : ∃ l : List Tu, len = l.length ∧ GTurnsK W (.slice a len cap) l := by
  rcases open_slice Tryz.underlying26 h with ⟨hcs, _⟩ | ⟨ad, len', cap', m, n, D, Pl, hcs, hb, hl, hm, hmm, _, hx⟩
  · simp at hcs
    obtain ⟨rfl, rfl, rfl⟩ := hcs
    exact ⟨[], rfl, ⟨rfl, none, 0, rfl, Nat.le_refl _, Nat.zero_le _, fun _ => rfl, fun j hj => by simp [tuVals] at hj⟩, fun t ht => by cases ht⟩
  · simp at hcs
    obtain ⟨rfl, rfl, rfl⟩ := hcs
    have hlm : len ≤ m := by rw [hmm]; split <;> omega
    have each : ∀ i, i < m → ∃ q : Tu, (∀ r, r < 5 → W.cell? (ad.add (i * 5 + r)) = q.cells[r]?) ∧ q.s.h2 < 256 := by
      intro i hi
      obtain ⟨cs', h1, h2⟩ := hx i hi
      rw [cellsTu] at h1
      obtain ⟨_, hlen, hcell⟩ := World.cells?_some h1
      obtain ⟨q, rfl, hq⟩ := open_tu hlen h2
      refine ⟨q, fun r hr => ?_, hq⟩
      have e := hcell r hr
      rw [add_add] at e
      exact e
    haveI : Inhabited Tu := ⟨⟨false, ⟨0, 0, 0⟩, 0⟩⟩
    obtain ⟨q, hq⟩ := choose_lt each
    have hll : ((List.range len).map q).length = len := by simp
    refine ⟨(List.range len).map q, hll.symm, ?_, fun t ht => ?_⟩
    rotate_left
    · obtain ⟨i, hi, rfl⟩ := List.mem_map.1 ht
      exact (hq i (by have := List.mem_range.1 hi; omega)).2
    refine ⟨by rw [tuVals_length], some ad, cap, by rw [hll], by rw [hll]; exact hl, hm, (fun e => by cases e), fun j hj => ?_⟩
    rw [tuVals_length, hll] at hj
    have hi : j / 5 < len := by omega
    have hr : j % 5 < 5 := Nat.mod_lt _ (by decide)
    have hc := (hq (j / 5) (by omega)).1 (j % 5) hr
    have hg := flat_get Tu.cells 5 (fun _ => rfl) ((List.range len).map q) (j / 5) (j % 5) (by rw [hll]; exact hi) hr
    have ej : j / 5 * 5 + j % 5 = j := by omega
    rw [ej] at hc hg
    rw [List.getElem_map, List.getElem_range] at hg
    have hv : (q (j / 5)).cells[j % 5]? = some (((q (j / 5)).cells)[j % 5]'(by simpa [Tu.cells] using hr)) := List.getElem?_eq_getElem _
    obtain ⟨b, off, spot⟩ := ad
    rw [hv] at hc
    have hspot : spot = none := by
      have h00 := (hq 0 (by omega)).1 0 (by decide)
      have h01 : W.cell? ((⟨b, off, spot⟩ : Addr).add 0) = some (.bool (q 0).d) := h00
      simpa [Addr.add] using World.cell?_spot h01
    subst hspot
    have hadd : (⟨b, off, none⟩ : Addr).add j = ⟨b, off + j, none⟩ := by unfold Addr.add; split <;> simp_all
    rw [hadd] at hc
    refine ⟨b, off, rfl, ?_, ?_⟩
    · rcases Nat.lt_or_ge b W.heap.size with hq | hq
      · exact hq
      · simp [World.cell?, Array.getElem?_eq_none hq] at hc
    · rw [hc]
      unfold tuVals
      rw [hg, hv]

/-- A slot's box, drawn out of its cells. -/
theorem putW {g : Gr} (hr : rightG g = true) (s : Sl) : ansG g (putE g s) (putG g s) = rpG g s ∧ ((ansL g (putE g s) (putL g) : Nat) : Int) = rpL g s ∧ ansE g (putE g s) = putE g s := by
  unfold ansG ansL ansE rpG rpL
  rw [if_pos hr]
  by_cases h : putE g s = 0
  · rw [if_pos ⟨hr, h⟩, if_pos h, if_pos ⟨hr, h⟩, if_pos h]; exact ⟨rfl, rfl, rfl⟩
  · rw [if_neg (fun e => h e.2), if_neg h, if_neg (fun e => h e.2), if_neg h]; exact ⟨rfl, rfl, rfl⟩
theorem dropW {g : Gr} (hr : rightG g = true) (key h : Nat) : ansG g (findE g key h) (dropG g key h) = rdG g key h ∧ ansL g (findE g key h) (findL g key h) = findL g key h ∧ ansE g (findE g key h) = findE g key h := by
  unfold ansG ansL ansE rdG
  rw [if_pos hr]
  by_cases he : findE g key h = 0
  · rw [if_pos ⟨hr, he⟩, if_pos he, if_pos ⟨hr, he⟩]; exact ⟨rfl, rfl, rfl⟩
  · rw [if_neg (fun e => he e.2), if_neg he, if_neg (fun e => he e.2)]
    refine ⟨rfl, ?_, rfl⟩
    unfold findL
    by_cases h127 : 127 < h
    · rw [if_pos h127]
    · rw [if_neg h127]
      unfold findE at he
      rw [if_neg h127] at he
      cases hf : findO g key h with
      | none => rfl
      | some q => rw [hf] at he; exact absurd rfl he
theorem wrongW {g : Gr} (hr : rightG g = false) (E : Int) (g' : Gr) (l : Nat) : ansG g E g' = zG ∧ ansL g E l = 0 ∧ ansE g E = 200 := by
  unfold ansG ansL ansE
  rw [hr]
  exact ⟨if_neg (fun e => by cases e.1), if_neg (fun e => by cases e.1), if_neg (by decide)⟩
end Go.Proofs

/- Group: what lies there in the law of turns. -/
namespace Go.Proofs
set_option maxRecDepth 100000
open Go.RowKit Go.Shelf
attribute [local go_sem] Oper.semAt_some

theorem owns_setRow {W : World} {n₀ k n : Nat} {e t : TypeId} {v : Value} {xs : List Value} (o : W.ownsRow n₀ e k v n xs) {B : Nat} {cs : Array Value} (r : Rows8 W B t cs) (hne : e ≠ t) (ds : Array Value) : (W.setRow B ds).ownsRow n₀ e k v n xs := by
  rcases o with ⟨hl, ⟨h1, h2⟩ | ⟨g, cap, cur, h1, h2, h3, h4⟩⟩
  · exact ⟨hl, .inl ⟨h1, h2⟩⟩
  · refine ⟨hl, .inr ⟨g, cap, cur, h1, h2, ?_, h4⟩⟩
    refine (setRow_other _ _ _ _ fun ee => ?_).trans h3
    subst ee
    rw [show W.heap[g]? = _ from r] at h3
    cases h3
    exact hne rfl
theorem owns_fresh {W : World} {n₀ k n B : Nat} {e : TypeId} {v : Value} {cs : List Value} (h : W.ownsRow n₀ e k v n cs) (hB : W.heap.size ≤ B) : v.ownBlock ≠ some B := fun e2 => by
  rcases h.2 with ⟨rfl, _⟩ | ⟨g, cap, cur, rfl, _, hh, _⟩
  · simp [Value.ownBlock] at e2
  · obtain rfl : g = B := by simpa [Value.ownBlock] using e2
    have := (Array.getElem?_eq_some_iff.1 hh).1
    omega
theorem slot_ne_group : (30 : TypeId) ≠ 25 := by decide
theorem slot_ne_turn : (30 : TypeId) ≠ 32 := by decide
/-- At a round's head. -/
structure Rd (B5 : Nat) (w : World) (g cur : Gr) (sl : List Sl) (sv : Value) (W : World) : Prop where
  x : Rows8 W w.heap.size 25 (gc g)
  c : Rows8 W B5 25 (gc cur)
  o : OwnsSlots w.heap.size sl sv W
  b : Below w.heap.size w W
  h5 : w.heap.size < B5
theorem Rd.below {B5 : Nat} {w W W' : World} {g cur : Gr} {sl : List Sl} {sv : Value} (p : Rd B5 w g cur sl sv W) (q : Below W.heap.size W W') : Rd B5 w g cur sl sv W' :=
  ⟨p.x.below q p.x.lt, p.c.below q p.c.lt, ownsRow_below p.o q (Nat.le_refl _), p.b.trans (q.mono p.b.size), p.h5⟩
/-- Within a round. -/
structure Rt (B5 B8 B10 : Nat) (w : World) (g cur : Gr) (sl : List Sl) (sv : Value) (d : Bool) (s : Sl) (lane : Int) (W : World) : Prop where
  r : Rd B5 w g cur sl sv W
  a : Rows8 W B8 32 #[.bool d, .int .u64 (s.key : Nat), .int .u64 (s.val : Nat), .int .u8 (s.h2 : Nat), .int .i64 lane]
  s : Rows8 W B10 30 (sc s)
  h8 : B5 < B8
  h10 : B8 < B10
theorem Rt.below {B5 B8 B10 : Nat} {w W W' : World} {g cur : Gr} {sl : List Sl} {sv : Value} {d : Bool} {s : Sl} {lane : Int} (p : Rt B5 B8 B10 w g cur sl sv d s lane W) (q : Below W.heap.size W W') : Rt B5 B8 B10 w g cur sl sv d s lane W' :=
  ⟨p.r.below q, p.a.below q p.a.lt, p.s.below q p.s.lt, p.h8, p.h10⟩
theorem Rt.setRow {B5 B8 B10 B : Nat} {w W : World} {g cur : Gr} {sl : List Sl} {sv : Value} {d : Bool} {s : Sl} {lane : Int} {cs : Array Value} (p : Rt B5 B8 B10 w g cur sl sv d s lane W) (r : Rows8 W B 25 cs) (hB : B10 < B) (ds : Array Value) : Rt B5 B8 B10 w g cur sl sv d s lane (W.setRow B ds) := by
  have h5 := p.r.h5
  have h8 := p.h8
  have h10 := p.h10
  exact ⟨⟨(setRow_other _ _ _ _ (by omega)).trans p.r.x, (setRow_other _ _ _ _ (by omega)).trans p.r.c, owns_setRow p.r.o r slot_ne_group ds, below_setRow p.r.b (by omega) ds, h5⟩, (setRow_other _ _ _ _ (by omega)).trans p.a, (setRow_other _ _ _ _ (by omega)).trans p.s, h8, h10⟩
theorem Rt.setCell {B5 B8 B10 B : Nat} {w W : World} {g cur : Gr} {sl : List Sl} {sv : Value} {d : Bool} {s : Sl} {lane : Int} {cs : Array Value} (p : Rt B5 B8 B10 w g cur sl sv d s lane W) (r : Rows8 W B 25 cs) (hB : B10 < B) (i : Nat) (u : Value) : Rt B5 B8 B10 w g cur sl sv d s lane (W.setCell ⟨B, i, none⟩ u) := by
  have h5 := p.r.h5
  have h8 := p.h8
  have h10 := p.h10
  exact ⟨⟨p.r.x.setOther (a := ⟨B, i, none⟩) (by simp; omega) u, p.r.c.setOther (a := ⟨B, i, none⟩) (by simp; omega) u, owns_set p.r.o (a := ⟨B, i, none⟩) r slot_ne_group u, p.r.b.setCell (p := ⟨B, i, none⟩) (by simp; omega) u, h5⟩, p.a.setOther (a := ⟨B, i, none⟩) (by simp; omega) u, p.s.setOther (a := ⟨B, i, none⟩) (by simp; omega) u, h8, h10⟩
theorem Rt.next {B5 B8 B10 : Nat} {w W : World} {g cur : Gr} {sl : List Sl} {sv : Value} {d : Bool} {s : Sl} {lane : Int} (p : Rt B5 B8 B10 w g cur sl sv d s lane W) (g' : Gr) : Rd B5 w g g' sl sv (W.setRow B5 (gc g')) := by
  have h5 := p.r.h5
  exact ⟨(setRow_other _ _ _ _ (by omega)).trans p.r.x, setRow_heap _ _ _ _ _ _ p.r.c, owns_setRow p.r.o p.r.c slot_ne_group _, below_setRow p.r.b (by omega) _, h5⟩
theorem Rt.push {B5 B8 B10 : Nat} {w W W' : World} {g cur : Gr} {sl : List Sl} {sv v' : Value} {d : Bool} {s : Sl} {lane : Int} (p : Rt B5 B8 B10 w g cur sl sv d s lane W) (hn : sv.ownBlock ≠ some B10) (hg : W.grownBy W' sv.ownBlock) (ho : OwnsSlots w.heap.size (sl ++ [s]) v' W') : Rt B5 B8 B10 w g cur (sl ++ [s]) v' d s lane W' :=
  ⟨⟨rows_grown p.r.o slot_ne_group hg p.r.x, rows_grown p.r.o slot_ne_group hg p.r.c, ho, p.r.b.grown hg p.r.b.size (fun j ej => (World.ownsRow.lt p.r.o j ej).1), p.r.h5⟩, rows_grown p.r.o slot_ne_turn hg p.a, (hg.block B10 p.s.lt (fun e => hn e.symm)).trans p.s, p.h8, p.h10⟩
theorem wpList_neqW {P : Program} {ops : Array Oper} {rest : List Oper} {o : Oper} {a : Act} {w : World} {Q : Exit → Act → World → Prop} (hw : Region.wanted o (yielded ops a.tmps) = true) (t : TypeId) (x y : Operand) (ho : o.op = .binOp .neq t x y t) (xs ys : Array Value) (hx : a.eval x = .agg xs) (hy : a.eval y = .agg ys)
    (hm : P.eqGuardType P.depth t = false) (b : Bool) (hb : (Op.equalIn 10000 t (.agg xs) (.agg ys)).run P w = .ok b w) (h : wpList P ops Q rest (a.put o.dst (.bool (!b))) w) : wpList P ops Q (o :: rest) a w := by
  unfold wpList
  rw [if_pos hw]
  refine .inl ?_
  unfold Oper.wp
  rw [exec_neq t x y ho xs ys hx hy hm b hb]
  exact h
/-- Puts, as the reference's loop goes. -/
def stepT (p : Int × Gr) (s : Sl) : Int × Gr := if p.1 = 0 then (putE p.2 s, rpG p.2 s) else p
theorem foldT_ne : ∀ (l : List Sl) (p : Int × Gr), p.1 ≠ 0 → l.foldl stepT p = p
  | [], _, _ => rfl
  | s :: l, p, h => by
    rw [List.foldl_cons]
    have e : stepT p s = p := if_neg h
    rw [e]
    exact foldT_ne l p h
theorem foldT_run : ∀ (l : List Sl) (g : Gr) (x : Int), (runC chPut (g, x) l).1 = (l.foldl stepT (0, g)).1 ∧ ((l.foldl stepT (0, g)).1 = 0 → (runC chPut (g, x) l).2.1 = (l.foldl stepT (0, g)).2)
  | [], g, x => ⟨rfl, fun _ => rfl⟩
  | s :: l, g, x => by
    rw [List.foldl_cons, runC]
    by_cases h : putE g s = 0
    · have e : stepT (0, g) s = (0, putG g s) := by
        unfold stepT rpG
        simp only [if_pos, h]
      rw [e, if_pos (show (chPut (g, x) s).1 = 0 from h)]
      exact foldT_run l (putG g s) (putL g : Nat)
    · have e : stepT (0, g) s = (putE g s, rpG g s) := by unfold stepT; simp only [if_pos]
      rw [e, if_neg (show ¬ (chPut (g, x) s).1 = 0 from h), foldT_ne _ _ h]
      exact ⟨rfl, fun h0 => absurd h0 h⟩
def startT (g : Gr) : Int := if rightG g then 0 else 200
theorem puts_same (g : Gr) (l : List Sl) : bE chPut (g, 0) l = (l.foldl stepT (startT g, g)).1 ∧ bG chPut (g, 0) l = if (l.foldl stepT (startT g, g)).1 = 0 then (l.foldl stepT (startT g, g)).2 else zG := by
  unfold bG
  unfold bE startT
  cases hr : rightG g
  · rw [if_neg (by decide), if_neg (by decide), foldT_ne l (200, g) (show (200 : Int) ≠ 0 by decide)]
    exact ⟨rfl, rfl⟩
  · rw [if_pos rfl, if_pos rfl]
    obtain ⟨h1, h2⟩ := foldT_run l g 0
    refine ⟨h1, ?_⟩
    rw [h1]
    by_cases h : (l.foldl stepT (0, g)).1 = 0
    · rw [if_pos h, if_pos h]; exact h2 h
    · rw [if_neg h, if_neg h]
end Go.Proofs
