/- Ctrl: the free slots of a word, filled. -/
import Derived.Test.YtmjlaienklheiaaJj
import Derived.Test.YtmjlaienklheiaaGx
import Derived.Test.YtmjlaienklheiaaRx
namespace Go.Proofs
set_option maxRecDepth 100000
open Go.RowKit Go.Shelf
attribute [local go_sem] Oper.semAt_some

/-- The free slots among the first ones. -/
def frTo (x y : Nat) : List Nat := (List.range y).filter fun k => !(kd (byt x k) == 0)
theorem frTo_yes {x y : Nat} (h : (kd (byt x y) == 0) = false) : frTo x (y + 1) = frTo x y ++ [y] := by simp [frTo, List.range_succ, List.filter_append, h]
theorem frTo_no {x y : Nat} (h : (kd (byt x y) == 0) = true) : frTo x (y + 1) = frTo x y := by simp [frTo, List.range_succ, List.filter_append, h]
theorem frTo_lt {x y k : Nat} (h : k ∈ frTo x y) : k < y := by simpa using (List.mem_filter.1 h).1
theorem frTo_pre (x y j : Nat) : frTo x y <+: frTo x (y + j) := by
  unfold frTo
  rw [List.range_add, List.filter_append]
  exact List.prefix_append _ _
theorem frTo_len (x y : Nat) : (frTo x y).length ≤ y := by
  unfold frTo
  refine Nat.le_trans (List.length_filter_le _ _) ?_
  simp
/-- Bytes laid into slots. -/
def layTo (x : Nat) (fr hs : List Nat) : Nat := (fr.zip hs).foldl (fun x p => setB x p.1 p.2) x
theorem layTo_lt {hs : List Nat} (hh : ∀ u ∈ hs, u < 256) : ∀ (fr : List Nat) (x : Nat), x < 18446744073709551616 → (∀ k ∈ fr, k < 8) → layTo x fr hs < 18446744073709551616 := by
  unfold layTo
  induction hs with
  | nil => intro fr x hx _; simpa using hx
  | cons u hs ih =>
    intro fr x hx hf
    cases fr with
    | nil => simpa using hx
    | cons k fr => exact ih (fun v hv => hh v (List.mem_cons_of_mem _ hv)) fr _ (setB_lt hx (hf k (by simp)) (hh u (by simp))) fun j hj => hf j (List.mem_cons_of_mem _ hj)
theorem layTo_snoc (y : Nat) : ∀ (fr hs : List Nat) (x : Nat), fr.length < hs.length → layTo x (fr ++ [y]) hs = setB (layTo x fr hs) y (hs[fr.length]?.getD 0)
  | [], u :: hs, x, _ => by simp [layTo]
  | k :: fr, u :: hs, x, h => by
    have := layTo_snoc y fr hs (setB x k u) (by simpa using h)
    simpa [layTo] using this
theorem byt_layTo (k : Nat) : ∀ (fr hs : List Nat) (x : Nat), (∀ u ∈ hs, u < 256) → k ∉ fr → byt (layTo x fr hs) k = byt x k
  | [], _, _, _, _ => rfl
  | _ :: _, [], _, _, _ => rfl
  | j :: fr, u :: hs, x, hh, hk => by
    have h := byt_layTo k fr hs (setB x j u) (fun v hv => hh v (List.mem_cons_of_mem _ hv)) (fun h => hk (List.mem_cons_of_mem _ h))
    have h2 : byt (setB x j u) k = byt x k := byt_setB_other (hh u (by simp)) fun e => hk (by simp [e])
    exact h.trans h2
theorem layTo_more (x : Nat) (fr more hs : List Nat) (h : hs.length ≤ fr.length) : layTo x (fr ++ more) hs = layTo x fr hs := by
  unfold layTo
  rw [show (fr ++ more).zip hs = fr.zip hs from ?_]
  induction fr generalizing hs x with
  | nil => obtain rfl : hs = [] := List.eq_nil_of_length_eq_zero (by simpa using h); simp
  | cons k fr ih =>
    cases hs with
    | nil => simp
    | cons u hs => simp [ih x hs (by simpa using h)]
def fillsE (x : Nat) (hs : List Nat) : Int := if hs.length ≤ (frTo x 8).length ∧ ∀ u ∈ hs, u ≤ 127 then 0 else 2
def fillsS (x : Nat) (hs : List Nat) : Nat := layTo x (frTo x 8) hs
def fillsL (x : Nat) (hs : List Nat) : List Nat := (frTo x 8).take hs.length
theorem fills_ok {x y : Nat} {hs : List Nat} (hy : y ≤ 8) (hl : hs.length = (frTo x y).length) (hf : ∀ u ∈ hs.take (frTo x y).length, u ≤ 127) : fillsE x hs = 0 ∧ fillsS x hs = layTo x (frTo x y) hs ∧ fillsL x hs = frTo x y := by
  obtain ⟨more, hm⟩ := frTo_pre x y (8 - y)
  rw [show y + (8 - y) = 8 by omega] at hm
  rw [← hl, List.take_length] at hf
  refine ⟨if_pos ⟨(by rw [← hm, List.length_append]; omega), hf⟩, ?_, ?_⟩
  · unfold fillsS
    rw [← hm]
    exact layTo_more _ _ _ _ (by omega)
  · unfold fillsL
    rw [← hm, hl, List.take_left']
    rfl
theorem fills_bad1 {x : Nat} {hs : List Nat} {u : Nat} (hu : u ∈ hs) (h : 127 < u) : fillsE x hs = 2 := if_neg fun hx => by have := hx.2 u hu; omega
theorem fills_bad2 {x : Nat} {hs : List Nat} (h : (frTo x 8).length < hs.length) : fillsE x hs = 2 := if_neg fun hx => by omega
def nvals (l : List Nat) : List Value := l.map fun k => .int .i64 (k : Nat)

/-- The state at the loop, y slots passed. -/
structure FV (D x : Nat) (hs : List Nat) (sv : Value) (w : World) (y : Nat) (lane : Int) (h : Nat) (lv wv : Value) (W : World) : Prop where
  le : (frTo x y).length ≤ hs.length
  few : ∀ u ∈ hs.take (frTo x y).length, u ≤ 127
  box : Rows8 W w.heap.size 91 #[.pointer (some ⟨D, 0, none⟩)]
  left : Rows8 W (w.heap.size + 1) 23 #[lv]
  ba : BA W D lv (hs.drop (frTo x y).length)
  row : Rows8 W D 78 #[.int .u64 (layTo x (frTo x y) hs : Nat), .int .i64 lane, .int .u8 h, sv, wv]
  which : W.ownsRow w.heap.size 3 1 wv (frTo x y).length (nvals (frTo x y))
  but : But w.heap.size D w W
theorem FV.own {D x : Nat} {hs : List Nat} {sv : Value} {w : World} {B : Nat} (hD : D < w.heap.size) (hB : w.heap.size ≤ B) {y : Nat} {lane : Int} {h : Nat} {lv wv : Value} {β : Type} : OwnFrom B (fun (_ : β) W => FV D x hs sv w y lane h lv wv W) := fun _ X Y row p hg hr =>
  ⟨p.le, p.few, Own.from (Rows8.own (β := Unit) _ _ fun _ => _) B () X Y row p.box hg hr, Own.from (Rows8.own (β := Unit) _ _ fun _ => _) B () X Y row p.left hg hr, BA.own D (by omega) lv _ (β := Unit) () X Y row p.ba hg hr,
    Own.from (Rows8.own (β := Unit) _ _ fun _ => _) B () X Y row p.row hg hr, Own.from (owns_own' (β := Unit) _ _ _ (fun _ => wv) (fun _ => _) (fun _ => _)) B () X Y row p.which hg hr, ownFrom_but (β := Unit) (Nat.le_refl _) hB () X Y row p.but hg hr⟩
def FI (D x : Nat) (hs : List Nat) (sv : Value) (w : World) (y : Nat) (W : World) : Prop := ∃ (lane : Int) (h : Nat) (lv wv : Value), FV D x hs sv w y lane h lv wv W
theorem FI.own {D x : Nat} {hs : List Nat} {sv : Value} {w : World} {B : Nat} (hD : D < w.heap.size) (hB : w.heap.size ≤ B) {β : Type} (f : β → Nat) : OwnFrom B (fun s W => FI D x hs sv w (f s) W) := fun s X Y row ⟨a, b, c, d, p⟩ hg hr =>
  ⟨a, b, c, d, FV.own hD hB (β := Unit) () X Y row p hg hr⟩
def RfQ (D x : Nat) (hs : List Nat) (sv : Value) (w : World) (e : Ending) (w' : World) : Prop :=
  (fillsE x hs = 0 ∧ (∃ v, e = .returned v) ∧ But w.heap.size D w w' ∧ ∃ (l : Int) (h : Nat) (wv : Value), Rows8 w' D 78 #[.int .u64 (fillsS x hs : Nat), .int .i64 l, .int .u8 h, sv, wv] ∧ w'.ownsRow w.heap.size 3 1 wv hs.length (nvals (fillsL x hs))) ∨
  (fillsE x hs = 2 ∧ e = .panicked (panic1 2) ∧ But w.heap.size D w w')
theorem rfq_yes {D x y : Nat} {hs : List Nat} {sv : Value} {w W : World} {lane : Int} {h : Nat} {lv wv : Value} (hy : y ≤ 8) (hl : hs.length = (frTo x y).length) (p : FV D x hs sv w y lane h lv wv W) (v : Value) : RfQ D x hs sv w (.returned v) W := by
  obtain ⟨h1, h2, h3⟩ := fills_ok hy hl p.few
  refine .inl ⟨h1, ⟨v, rfl⟩, p.but, lane, h, wv, ?_, ?_⟩
  · rw [h2]; exact p.row
  · rw [h3, hl]; exact p.which
def exT : TypeId → Bool := fun t => !(t == 108)
theorem FV.drew {D x : Nat} {hs : List Nat} {sv : Value} {w : World} {y : Nat} {lane : Int} {h : Nat} {lv wv : Value} {W : World} (p : FV D x hs sv w y lane h lv wv W) : FV D x hs sv w y lane h lv wv W.drew :=
  ⟨p.le, p.few, p.box, p.left, p.ba, p.row, p.which, p.but.drew⟩
theorem FV.set1 {D x : Nat} {hs : List Nat} {sv : Value} {w : World} {y : Nat} {lane : Int} {h : Nat} {lv wv : Value} {W : World} (hD : D < w.heap.size) (p : FV D x hs sv w y lane h lv wv W) (l2 : Int) : FV D x hs sv w y l2 h lv wv (W.setCell ⟨D, 1, none⟩ (.int .i64 l2)) :=
  ⟨p.le, p.few, p.box.setOther (by show D ≠ _; omega) _, p.left.setOther (by show D ≠ _; omega) _, p.ba.but (h := D) ((But.refl _ D W).setCell _ _) (Nat.le_refl _), p.row.set 1 _, owns_set p.which (a := ⟨D, 1, none⟩) p.row (by decide) _, p.but.setCell _ _⟩
theorem FV.set2 {D x : Nat} {hs : List Nat} {sv : Value} {w : World} {y : Nat} {lane : Int} {h : Nat} {lv wv : Value} {W : World} (hD : D < w.heap.size) (p : FV D x hs sv w y lane h lv wv W) (u : Nat) : FV D x hs sv w y lane u lv wv (W.setCell ⟨D, 2, none⟩ (.int .u8 u)) :=
  ⟨p.le, p.few, p.box.setOther (by show D ≠ _; omega) _, p.left.setOther (by show D ≠ _; omega) _, p.ba.but (h := D) ((But.refl _ D W).setCell _ _) (Nat.le_refl _), p.row.set 2 _, owns_set p.which (a := ⟨D, 2, none⟩) p.row (by decide) _, p.but.setCell _ _⟩
/-- The state within a round, behind its first byte. -/
structure FG (D : Nat) (sv : Value) (w : World) (rest fr : List Nat) (X : Nat) (lane : Int) (h : Nat) (lv wv : Value) (W : World) : Prop where
  box : Rows8 W w.heap.size 91 #[.pointer (some ⟨D, 0, none⟩)]
  left : Rows8 W (w.heap.size + 1) 23 #[lv]
  ba : BA W D lv rest
  row : Rows8 W D 78 #[.int .u64 (X : Nat), .int .i64 lane, .int .u8 h, sv, wv]
  which : W.ownsRow w.heap.size 3 1 wv fr.length (nvals fr)
  but : But w.heap.size D w W
theorem FV.left2 {D x : Nat} {hs : List Nat} {sv : Value} {w : World} {y : Nat} {lane : Int} {h : Nat} {lv wv lv2 : Value} {W : World} {rest : List Nat} (hD : D < w.heap.size) (p : FV D x hs sv w y lane h lv wv W) (hb : BA W D lv2 rest) : FG D sv w rest (frTo x y) (layTo x (frTo x y) hs) lane h lv2 wv (W.setCell ⟨w.heap.size + 1, 0, none⟩ lv2) := by
  have hb2 : But (w.heap.size + 1) D W (W.setCell ⟨w.heap.size + 1, 0, none⟩ lv2) := ⟨rfl, rfl, rfl, by simp [World.setCell], fun k a _ => Below.heap_setCell _ _ _ _ (by show k ≠ w.heap.size + 1; omega)⟩
  exact ⟨p.box.setOther (by show w.heap.size + 1 ≠ _; omega) _, p.left.set 0 _, hb.but hb2 (by omega), p.row.setOther (by show w.heap.size + 1 ≠ D; omega) _, owns_set p.which (a := ⟨w.heap.size + 1, 0, none⟩) p.left (by decide) _, p.but.trans (hb2.mono (by omega))⟩
theorem FG.drew {D : Nat} {sv : Value} {w : World} {rest fr : List Nat} {X : Nat} {lane : Int} {h : Nat} {lv wv : Value} {W : World} (p : FG D sv w rest fr X lane h lv wv W) : FG D sv w rest fr X lane h lv wv W.drew := ⟨p.box, p.left, p.ba, p.row, p.which, p.but.drew⟩
theorem FG.size {D : Nat} {sv : Value} {w : World} {rest fr : List Nat} {X : Nat} {lane : Int} {h : Nat} {lv wv : Value} {W : World} (p : FG D sv w rest fr X lane h lv wv W) : w.heap.size + 1 < W.heap.size := p.left.lt
theorem FG.alloc {D : Nat} {sv : Value} {w : World} {rest fr : List Nat} {X : Nat} {lane : Int} {h : Nat} {lv wv : Value} {W : World} (hD : D < w.heap.size) (p : FG D sv w rest fr X lane h lv wv W) (o : Obj) : FG D sv w rest fr X lane h lv wv (W.alloc o) := by
  have hb : Below W.heap.size W (W.alloc o) := (Below.refl _ W).alloc (Nat.le_refl _) o
  have hs := p.size
  exact ⟨p.box.alloc o, p.left.alloc o, p.ba.below hb (by omega), p.row.alloc o, owns_keep p.which hb (Nat.le_refl _), p.but.trans (But.of_below (hb.mono (by omega)))⟩
theorem FG.filled {D : Nat} {sv : Value} {w : World} {rest fr : List Nat} {X X' : Nat} {lane : Int} {h : Nat} {lv wv : Value} {W W' : World} (hD : D < w.heap.size) (p : FG D sv w rest fr X lane h lv wv W) (q : But W.heap.size D W W') (r : Rows8 W' D 78 #[.int .u64 (X' : Nat), .int .i64 lane, .int .u8 h, sv, wv]) : FG D sv w rest fr X' lane h lv wv W' := by
  have hs := p.size
  exact ⟨Rows8.but q p.box (by omega) (by omega), Rows8.but q p.left (by omega) (by omega), p.ba.but q (by omega), r, owns_but p.which p.row (by decide) q (Nat.le_refl _), p.but.trans (q.mono (by omega))⟩
theorem nvals_snoc (l : List Nat) (y : Nat) : nvals (l ++ [y]) = nvals l ++ [.int .i64 (y : Nat)] := by simp [nvals]
/-- A slot more. -/
theorem FG.more {D : Nat} {sv : Value} {w : World} {rest fr : List Nat} {X y : Nat} {lane : Int} {h : Nat} {lv wv v' : Value} {W W' : World} (hD : D < w.heap.size) (p : FG D sv w rest fr X lane h lv wv W) (o : W'.ownsRow w.heap.size 3 1 v' (fr.length + 1) (nvals fr ++ [.int .i64 (y : Nat)])) (g : W.grownBy W' wv.ownBlock) :
    Rows8 W' w.heap.size 91 #[.pointer (some ⟨D, 0, none⟩)] ∧ Rows8 W' D 78 #[.int .u64 (X : Nat), .int .i64 lane, .int .u8 h, sv, wv] ∧ Ke exT W W' ∧ FG D sv w rest (fr ++ [y]) X lane h lv v' (W'.setCell ⟨D, 4, none⟩ v') := by
  have hs := p.size
  have r1 := rows_grown p.which (by decide) g p.box
  have r2 := rows_grown p.which (by decide) g p.left
  have r3 := rows_grown p.which (by decide) g p.row
  have hb : But w.heap.size D W W' := But.grown (But.refl _ D W) p.which (Nat.le_refl _) (by omega) g
  refine ⟨r1, r3, Ke.grown (by decide) p.which g, ?_⟩
  exact ⟨r1.setOther (by show D ≠ _; omega) _, r2.setOther (by show D ≠ _; omega) _, p.ba.but (hb.setCell _ _) (by omega), r3.set 4 _, by rw [nvals_snoc, List.length_append]; exact owns_set o (a := ⟨D, 4, none⟩) r3 (by decide) _, (p.but.trans hb).setCell _ _⟩
/-- The state behind a round. -/
theorem FG.next {D x : Nat} {hs : List Nat} {sv : Value} {w : World} {y u : Nat} {lane : Int} {h : Nat} {lv wv : Value} {W : World} (e : frTo x (y + 1) = frTo x y ++ [y]) (hle : (frTo x y).length < hs.length) (hu : hs[(frTo x y).length]? = some u) (h127 : ¬ 127 < u) (few : ∀ u ∈ hs.take (frTo x y).length, u ≤ 127)
    (p : FG D sv w (hs.drop ((frTo x y).length + 1)) (frTo x y ++ [y]) (setB (layTo x (frTo x y) hs) y u) lane h lv wv W) : FV D x hs sv w (y + 1) lane h lv wv W := by
  have e2 : layTo x (frTo x y ++ [y]) hs = setB (layTo x (frTo x y) hs) y u := by rw [layTo_snoc _ _ _ _ hle, hu]; rfl
  refine ⟨by rw [e, List.length_append]; exact hle, ?_, p.box, p.left, by rw [e, List.length_append]; exact p.ba, by rw [e, e2]; exact p.row, by rw [e]; exact p.which, p.but⟩
  rw [e, List.length_append]
  intro v hv
  have e3 : hs.take ((frTo x y).length + 1) = hs.take (frTo x y).length ++ [u] := by
    rw [List.take_succ_eq_append_getElem hle]
    rw [List.getElem?_eq_getElem hle] at hu
    cases hu
    rfl
  rw [show (frTo x y).length + [y].length = (frTo x y).length + 1 from rfl, e3] at hv
  rcases List.mem_append.1 hv with hv | hv
  · exact few v hv
  · rw [List.mem_singleton] at hv
    omega

set_option maxHeartbeats 8000000 in
theorem Try.rfills_any (x D : Nat) (hx : x < 18446744073709551616) (lane0 : Int) (h0 : Nat) (sv : Value) (hs : List Nat) (hh : ∀ u ∈ hs, u < 256) (hl : hs.length ≤ 100000) (w : World)
    (hR : Rows8 w D 78 #[.int .u64 x, .int .i64 lane0, .int .u8 h0, sv, .slice none 0 0]) (hB : BA w D sv hs) :
    Calls Try.prog 50 #[.pointer (some ⟨D, 0, none⟩)] w (RfQ D x hs sv w) := by
  obtain ⟨a0, n0, cp0, rfl⟩ : ∃ a n c, sv = Value.slice a n c := by obtain ⟨a, c, e, _⟩ := hB; exact ⟨_, _, _, e⟩
  refine (callsIn_wide (n := 9)).1 ?_
  refine callsIn_of_wpAt Try.func50 rfl ?_
  simp only [Try.ntmps50, List.size_toArray, List.length_cons, List.length_nil, Nat.reduceAdd, Nat.reduceSub, Array.replicate_succ, Array.replicate_zero, List.push_toArray, List.append_toArray, List.nil_append, List.cons_append]
  have hDl := hR.lt
  have e3 : (w.alloc (.cells #[.pointer (some ⟨D, 0, none⟩)] 91)).cell? ⟨D, 3, none⟩ = some (.slice a0 n0 cp0) := (hR.alloc _).cell 3
  refine wpAt_seq (wpAt_of (n := 9) ?_)
  gi_wp2
  refine wpAt_scope ?_
  refine wpAt_seq (wpAt_of (n := 9) ?_)
  gi_wp2
  refine wpAt_seq (wpAt_of (n := 9) (wpIn_label ?_))
  refine wpAt_seq ?_
  refine wpAt_seq (wpAt_of (n := 9) ?_)
  have b0 := ((Rows8.new w 91 #[.pointer (some ⟨D, 0, none⟩)]).alloc (.cells #[.slice a0 n0 cp0] 23))
  have l0 := Rows8.new (w.alloc (.cells #[.pointer (some ⟨D, 0, none⟩)] 91)) 23 #[.slice a0 n0 cp0]
  rw [World.size_alloc] at l0
  have r0 := (hR.alloc (.cells #[.pointer (some ⟨D, 0, none⟩)] 91)).alloc (.cells #[.slice a0 n0 cp0] 23)
  have hB0 : Below w.heap.size w ((w.alloc (.cells #[.pointer (some ⟨D, 0, none⟩)] 91)).alloc (.cells #[.slice a0 n0 cp0] 23)) := ((Below.refl _ w).alloc (Nat.le_refl _) _).alloc (by simp) _
  have hsz : ((w.alloc (.cells #[.pointer (some ⟨D, 0, none⟩)] 91)).alloc (.cells #[.slice a0 n0 cp0] 23)).heap.size = w.heap.size + 2 := by simp
  have b1 := hB.below hB0 (Nat.le_of_lt hDl)
  generalize ((w.alloc (.cells #[.pointer (some ⟨D, 0, none⟩)] 91)).alloc (.cells #[.slice a0 n0 cp0] 23)) = W0 at *
  have k0 := b0.cell 0
  have k1 := r0.cell 0
  simp at k0 k1
  clear e3 hB hR
  gi_wp2_with (refine ⟨trivial, ?_⟩; gi_at_call 62; refine (callsIn_wide.2 (Try.slots_any _ _)).mono ?_; rintro e w' ⟨rfl, rfl⟩)
  have d5 := Rows8.new W0 59 #[.int .u64 x]
  have hsz2 : (W0.alloc (.cells #[.int .u64 x] 59)).heap.size = w.heap.size + 3 := by simp; omega
  have hF0 : FV D x hs (.slice a0 n0 cp0) w 0 lane0 h0 (.slice a0 n0 cp0) (.slice none 0 0) (W0.alloc (.cells #[.int .u64 x] 59)) :=
    ⟨Nat.zero_le _, (fun u hu => by simp [frTo] at hu), b0.alloc _, l0.alloc _, b1.below ((Below.refl _ W0).alloc (Nat.le_refl _) _) (by omega), r0.alloc _, ⟨rfl, .inl ⟨rfl, rfl⟩⟩, But.of_below (hB0.trans (((Below.refl _ W0).alloc (Nat.le_refl _) _).mono (by omega)))⟩
  rw [hsz] at d5
  clear b0 l0 r0 hB0 b1 k0 k1
  generalize (W0.alloc (.cells #[.int .u64 x] 59)) = W1 at *
  have HT := Lib.hid (Try.slots1_tells 9 exT (by decide) _ x W1 d5)
  clear d5 hsz
  have HH := Lib.hid hh
  have HX := Lib.hid hx
  have HL := Lib.hid hl
  have hne0 : w.heap.size ≠ D := by omega
  have hne1 : w.heap.size + 1 ≠ D := by omega
  clear hh hx hl
  refine wpAt_block ?_
  refine range_tellsP2 Try.func50 (n := 9) (gf := 73) (lb := #[.pointer (some ⟨w.heap.size + 2, 0, none⟩)]) rfl (enters_of Try.func73 (by kernel_rfl) rfl) HT.out kq_t (kq_b (B := W1.heap.size)) (Below.refl _ _) (fun _ => rfl)
    (fun pre W' => FI D x hs (.slice a0 n0 cp0) w pre.length W')
    (fun c pre W' => (c = .exit 0 ∧ ∃ y, y ≤ 8 ∧ hs.length = (frTo x y).length ∧ pre.length = y + 1) ∧ FI D x hs (.slice a0 n0 cp0) w (pre.length - 1) W')
    (fun s W' => (s.2 = panic1 2 ∧ fillsE x hs = 2) ∧ But w.heap.size D w W')
    (FI.own hDl (by omega) _)
    (fun c => OwnFrom.and (ownFrom_pure _ _) (FI.own hDl (by omega) _))
    (OwnFrom.and (ownFrom_pure _ _) (ownFrom_but (Nat.le_refl _) (by omega))) ⟨_, _, _, _, hF0⟩
    (fun y a' _ => a' = { tmps := #[.pointer (some ⟨D, 0, none⟩), .pointer (some ⟨w.heap.size, 0, none⟩), .pointer (some ⟨w.heap.size + 1, 0, none⟩), .int .i64 (y : Nat), .int .i64 (kd (byt x y) : Nat), .pointer (some ⟨D, 0, none⟩), .pointer (some ⟨D, 0, none⟩), .pointer (some ⟨D, 3, none⟩), .slice a0 n0 cp0, .pointer (some ⟨D, 0, none⟩), .pointer (some ⟨D, 0, none⟩), .pointer (some ⟨D, 0, none⟩), .pointer (some ⟨D, 0, none⟩), .int .u64 x, .func (.func 73) #[] #[.pointer (some ⟨w.heap.size + 2, 0, none⟩)], .int .i64 (y : Nat), .int .i64 (kd (byt x y) : Nat), undef, undef, undef, undef, undef, undef, undef, undef, undef, undef, undef, undef, undef, undef, undef, undef, undef, undef, undef, undef, undef, undef, undef, undef, undef, undef, undef, undef, undef, undef, undef, undef, undef, undef, undef, undef, undef, undef, undef], defers := [] })
    (fun y a' s X Y row hs hg hr => hs) ?assign ?body ?done ?stop ?pan
  case assign =>
    rintro l2 pre y W' K hj hK
    unfold encK
    gi_wp2
    exact hK _ _ (KeepsFrom.refl _ _) (Kq.refl _ _) hj rfl
  case body =>
    rintro l2 pre y a' W' ⟨lane, h, lv, wv, hF⟩ rfl ⟨rfl, hy⟩
    rw [List.length_range] at hF
    obtain ⟨_, aw, cw, rfl, _⟩ := rowAt_own hF.which
    obtain ⟨wv, hwv⟩ : ∃ v, Value.slice aw (frTo x y).length cw = v := ⟨_, rfl⟩
    rw [hwv] at hF
    have HWV := Lib.hid hwv
    clear hwv
    have hmx : Try.prog.follows .mixedOrders = true := by kernel_rfl
    have hlr : (List.range y ++ [y]).length = y + 1 := by simp
    have HLR := Lib.hid hlr
    clear hlr
    have c0 : W'.cell? ⟨w.heap.size, 0, none⟩ = some (.pointer (some ⟨D, 0, none⟩)) := hF.box.cell 0
    by_cases hfull : hs.length = (frTo x y).length
    · obtain ⟨a, c, rfl, _, _⟩ := hF.ba
      have hz : (hs.drop (frTo x y).length).length = 0 := by simp; omega
      have c1 : W'.cell? ⟨w.heap.size + 1, 0, none⟩ = some (.slice a 0 c) := by
        have h := hF.left.cell 0
        rw [hz] at h
        exact h
      have HF := Lib.hid hF
      have HFU := Lib.hid hfull
      clear hF hfull hz
      generalize kd (byt x y) = kk at *
      gi_wp2_with fail
      exact ⟨KeepsFrom.refl _ _, ⟨⟨rfl, y, by omega, HFU.out, HLR.out⟩, by rw [HLR.out]; exact ⟨_, _, _, _, HF.out⟩⟩⟩
    have hlt : (frTo x y).length < hs.length := by have := hF.le; omega
    obtain ⟨u, hu⟩ : ∃ u, hs[(frTo x y).length]? = some u := ⟨hs[(frTo x y).length], List.getElem?_eq_getElem hlt⟩
    have hdrop : hs.drop (frTo x y).length = u :: hs.drop ((frTo x y).length + 1) := by
      rw [List.drop_eq_getElem_cons hlt]
      rw [List.getElem?_eq_getElem hlt] at hu
      cases hu
      rfl
    have hum : u ∈ hs := List.mem_of_getElem? hu
    have hba := hF.ba
    rw [hdrop] at hba
    obtain ⟨bl, off, c, rfl, hbl, hc3, hcap, hba2⟩ := hba.head
    have c1 : W'.cell? ⟨w.heap.size + 1, 0, none⟩ = some (.slice (some ⟨bl, off, none⟩) ((hs.drop ((frTo x y).length + 1)).length + 1) c) := hF.left.cell 0
    have hm0 : (0 : Int) < (((hs.drop ((frTo x y).length + 1)).length + 1 : Nat) : Int) := by omega
    have hmz : ((((hs.drop ((frTo x y).length + 1)).length + 1 : Nat) : Int) == 0) = false := by simp; omega
    cases hk : (kd (byt x y) == 0)
    case true =>
      have hki := kdi hk
      have hF' : FV D x hs (.slice a0 n0 cp0) w (y + 1) lane h (.slice (some ⟨bl, off, none⟩) ((hs.drop ((frTo x y).length + 1)).length + 1) c) wv W' := by
        obtain ⟨p1, p2, p3, p4, p5, p6, p7, p8⟩ := hF
        have e := frTo_no hk
        exact ⟨by rw [e]; exact p1, by rw [e]; exact p2, p3, p4, by rw [e]; exact p5, by rw [e]; exact p6, by rw [e]; exact p7, p8⟩
      have HF := Lib.hid hF'
      clear hF hF' hba hba2 hdrop hum hu hfull hlt hk
      generalize (hs.drop ((frTo x y).length + 1)).length + 1 = m at *
      generalize kd (byt x y) = kk at *
      gi_wp2_with fail
      exact ⟨KeepsFrom.refl _ _, Kq.refl _ _, by show FI D x hs (.slice a0 n0 cp0) w (List.range y ++ [y]).length W'; rw [HLR.out]; exact ⟨_, _, _, _, HF.out⟩⟩
    have hki := kdi hk
    have HF := Lib.hid hF
    have HBA := Lib.hid hba2
    have HLT := Lib.hid hlt
    have HU := Lib.hid hu
    have HUM := Lib.hid hum
    have HK := Lib.hid (frTo_yes hk)
    have HY := Lib.hid hy
    have hfE : Hid (fillE (layTo x (frTo x y) hs) y u = if 127 < u then 2 else 0) := Lib.hid (by
      unfold fillE
      rw [if_neg (by omega), Int.toNat_natCast, byt_layTo _ _ _ _ HH.out (fun h => by have := frTo_lt h; omega)]
      have : kd (byt x y) ≠ 0 := by simpa using hk
      rw [if_neg this])
    have hu256 := HH.out u hum
    have hrest : (hs.drop ((frTo x y).length + 1)).length = hs.length - ((frTo x y).length + 1) := by simp
    clear hF hba hba2 hdrop hum hu hfull hlt hk hy
    obtain ⟨a2, ha2⟩ : ∃ v, v = (if c = 1 then some (⟨bl, off, none⟩ : Addr) else some ⟨bl, off + 1, none⟩) := ⟨_, rfl⟩
    obtain ⟨c9, hc9⟩ : ∃ v, v = c - 1 := ⟨_, rfl⟩
    rw [← ha2, ← hc9] at HBA
    clear hrest
    generalize (hs.drop ((frTo x y).length + 1)).length = m0 at *
    obtain ⟨m, hm⟩ : ∃ m, m = m0 + 1 := ⟨_, rfl⟩
    rw [← hm] at c1 hm0 hmz hcap HF
    have hm1 : (1 : Int) ≤ (m : Int) := by omega
    have hsl : ∀ W, (Instr.sliceAt 23 (.slice (some ⟨bl, off, none⟩) m c) (some (.int .i64 1)) none none).run Try.prog W = .ok (.slice a2 m0 c9) W := by
      intro W
      obtain rfl : m0 = m - 1 := by omega
      rw [ha2, hc9]
      clear ha2 hc9 hm c1 HF HBA
      by_cases h1 : c = 1
      · subst h1; go_simp
      · have h1' : ¬ 1 = c := fun e => h1 e.symm
        go_simp
    have hmn : ¬ m = 0 := by omega
    clear ha2 hc9 hm
    generalize kd (byt x y) = kk at *
    gi_wp2_with fail
    have Fd := HF.out.drew
    have ke0 : Ke exT W' W'.drew := Ke.drew _ _
    refine wpIn_region_X (free2_round l2) (fun W9 => W9.cell? ⟨w.heap.size, 0, none⟩ = some (.pointer (some ⟨D, 0, none⟩)) ∧ W9.cell? ⟨w.heap.size + 1, 0, none⟩ = some (.slice (some ⟨bl, off, none⟩) m c) ∧ W9.cell? ⟨bl, off, none⟩ = some (.int .u8 (u : Int))) 16 (by rintro ⟨_, _, h⟩; exact h) (by kernel_rfl) (by kernel_rfl) ?_
    have c0d : W'.drew.cell? ⟨w.heap.size, 0, none⟩ = some (.pointer (some ⟨D, 0, none⟩)) := c0
    have c1d : W'.drew.cell? ⟨w.heap.size + 1, 0, none⟩ = some (.slice (some ⟨bl, off, none⟩) m c) := c1
    have c2d : W'.drew.cell? ⟨bl, off, none⟩ = some (.int .u8 (u : Int)) := hc3
    have ba1 : BA W'.drew D (.slice a2 m0 c9) (hs.drop ((frTo x y).length + 1)) := HBA.out
    clear c0 c1 hc3 HBA
    generalize W'.drew = Wd at *
    have c0 := c0d
    have c1 := c1d
    have c2 := c2d
    have g1 : Wd.cell? ⟨D, 1, none⟩ = some (.int .i64 lane) := Fd.row.cell 1
    have f1 := Fd.row.frozen 1
    have Fe := Fd.set1 hDl y
    have ke1 := ke0.trans (Ke.set (a := ⟨D, 1, none⟩) Fd.row (by decide) (.int .i64 (y : Nat)))
    have hS2 : (Wd.setCell ⟨D, 1, none⟩ (.int .i64 (y : Nat))).cell? ⟨w.heap.size, 0, none⟩ = some (.pointer (some ⟨D, 0, none⟩)) ∧ (Wd.setCell ⟨D, 1, none⟩ (.int .i64 (y : Nat))).cell? ⟨w.heap.size + 1, 0, none⟩ = some (.slice (some ⟨bl, off, none⟩) m c) ∧ (Wd.setCell ⟨D, 1, none⟩ (.int .i64 (y : Nat))).cell? ⟨bl, off, none⟩ = some (.int .u8 (u : Int)) :=
      ⟨Fe.box.cell 0, Fe.left.cell 0, (World.cell?_setCell_far _ _ _ _ (show D ≠ bl by omega)).trans c2⟩
    have ba2 := ba1.but (h := D) ((But.refl _ D Wd).setCell 1 (.int .i64 (y : Nat))) (Nat.le_refl _)
    have HFD := Lib.hid Fd
    have HFE := Lib.hid Fe
    have HK1 := Lib.hid ke1
    have HB2 := Lib.hid ba2
    clear Fd Fe ke0 ke1 c0d c1d c2d ba1 ba2
    refine wpAnyX_take (i := 0) (oi := { dst := some 24, op := Go.Op.load 91 (Go.Operand.tmp 1), type := 91, pos := "draft.go:94", after := #[], guard := none }) (oX := { dst := none, op := Go.Op.store 23 (Go.Operand.tmp 2) (Go.Operand.tmp 31), type := 0, pos := "draft.go:94", after := #[{ on := 7, ground := Go.Ground.data }, { on := 15, ground := Go.Ground.chain }, { on := 0, ground := Go.Ground.phase }, { on := 1, ground := Go.Ground.phase }, { on := 2, ground := Go.Ground.phase }, { on := 3, ground := Go.Ground.phase }, { on := 4, ground := Go.Ground.phase }, { on := 5, ground := Go.Ground.phase }, { on := 6, ground := Go.Ground.phase }, { on := 7, ground := Go.Ground.phase }, { on := 8, ground := Go.Ground.phase }, { on := 9, ground := Go.Ground.phase }, { on := 10, ground := Go.Ground.phase }, { on := 11, ground := Go.Ground.phase }, { on := 12, ground := Go.Ground.phase }, { on := 13, ground := Go.Ground.phase }, { on := 14, ground := Go.Ground.phase }, { on := 15, ground := Go.Ground.phase }], guard := none }) (v := .pointer (some ⟨D, 0, none⟩)) rfl rfl (by kernel_rfl) (by kernel_rfl) (by kernel_rfl) (by kernel_rfl) (fun _ _ _ h => h) (Or.inl ⟨by rfl, ?_⟩) (by first | exact ⟨c0, c1, c2⟩ | exact hS2 | exact hS3) ?_
    · intro W9 hS9
      obtain ⟨q0, q1, q2⟩ := hS9
      go_simp
    try simp only [Act.put, List.setIfInBounds_toArray, List.set_cons_zero, List.set_cons_succ]
    refine wpAnyX_take (i := 1) (oi := { dst := some 25, op := Go.Op.load 91 (Go.Operand.tmp 1), type := 91, pos := "draft.go:94", after := #[{ on := 11, ground := Go.Ground.gcOnly Go.Departure.lateStores }], guard := none }) (oX := { dst := none, op := Go.Op.store 23 (Go.Operand.tmp 2) (Go.Operand.tmp 31), type := 0, pos := "draft.go:94", after := #[{ on := 7, ground := Go.Ground.data }, { on := 15, ground := Go.Ground.chain }, { on := 0, ground := Go.Ground.phase }, { on := 1, ground := Go.Ground.phase }, { on := 2, ground := Go.Ground.phase }, { on := 3, ground := Go.Ground.phase }, { on := 4, ground := Go.Ground.phase }, { on := 5, ground := Go.Ground.phase }, { on := 6, ground := Go.Ground.phase }, { on := 7, ground := Go.Ground.phase }, { on := 8, ground := Go.Ground.phase }, { on := 9, ground := Go.Ground.phase }, { on := 10, ground := Go.Ground.phase }, { on := 11, ground := Go.Ground.phase }, { on := 12, ground := Go.Ground.phase }, { on := 13, ground := Go.Ground.phase }, { on := 14, ground := Go.Ground.phase }, { on := 15, ground := Go.Ground.phase }], guard := none }) (v := .pointer (some ⟨D, 0, none⟩)) rfl rfl (by kernel_rfl) (by kernel_rfl) (by kernel_rfl) (by kernel_rfl) (fun _ _ _ h => h) (Or.inl ⟨by rfl, ?_⟩) (by first | exact ⟨c0, c1, c2⟩ | exact hS2 | exact hS3) ?_
    · intro W9 hS9
      obtain ⟨q0, q1, q2⟩ := hS9
      go_simp
    try simp only [Act.put, List.setIfInBounds_toArray, List.set_cons_zero, List.set_cons_succ]
    refine wpAnyX_take (i := 2) (oi := { dst := some 26, op := Go.Op.move (Go.Operand.tmp 3), type := 3, pos := "draft.go:94", after := #[], guard := none }) (oX := { dst := none, op := Go.Op.store 23 (Go.Operand.tmp 2) (Go.Operand.tmp 31), type := 0, pos := "draft.go:94", after := #[{ on := 7, ground := Go.Ground.data }, { on := 15, ground := Go.Ground.chain }, { on := 0, ground := Go.Ground.phase }, { on := 1, ground := Go.Ground.phase }, { on := 2, ground := Go.Ground.phase }, { on := 3, ground := Go.Ground.phase }, { on := 4, ground := Go.Ground.phase }, { on := 5, ground := Go.Ground.phase }, { on := 6, ground := Go.Ground.phase }, { on := 7, ground := Go.Ground.phase }, { on := 8, ground := Go.Ground.phase }, { on := 9, ground := Go.Ground.phase }, { on := 10, ground := Go.Ground.phase }, { on := 11, ground := Go.Ground.phase }, { on := 12, ground := Go.Ground.phase }, { on := 13, ground := Go.Ground.phase }, { on := 14, ground := Go.Ground.phase }, { on := 15, ground := Go.Ground.phase }], guard := none }) (v := .int .i64 (y : Nat)) rfl rfl (by kernel_rfl) (by kernel_rfl) (by kernel_rfl) (by kernel_rfl) (fun _ _ _ h => h) (Or.inl ⟨by rfl, ?_⟩) (by first | exact ⟨c0, c1, c2⟩ | exact hS2 | exact hS3) ?_
    · intro W9 hS9
      obtain ⟨q0, q1, q2⟩ := hS9
      go_simp
    try simp only [Act.put, List.setIfInBounds_toArray, List.set_cons_zero, List.set_cons_succ]
    refine wpAnyX_take (i := 3) (oi := { dst := some 27, op := Go.Op.load 23 (Go.Operand.tmp 2), type := 23, pos := "draft.go:94", after := #[], guard := none }) (oX := { dst := none, op := Go.Op.store 23 (Go.Operand.tmp 2) (Go.Operand.tmp 31), type := 0, pos := "draft.go:94", after := #[{ on := 7, ground := Go.Ground.data }, { on := 15, ground := Go.Ground.chain }, { on := 0, ground := Go.Ground.phase }, { on := 1, ground := Go.Ground.phase }, { on := 2, ground := Go.Ground.phase }, { on := 3, ground := Go.Ground.phase }, { on := 4, ground := Go.Ground.phase }, { on := 5, ground := Go.Ground.phase }, { on := 6, ground := Go.Ground.phase }, { on := 7, ground := Go.Ground.phase }, { on := 8, ground := Go.Ground.phase }, { on := 9, ground := Go.Ground.phase }, { on := 10, ground := Go.Ground.phase }, { on := 11, ground := Go.Ground.phase }, { on := 12, ground := Go.Ground.phase }, { on := 13, ground := Go.Ground.phase }, { on := 14, ground := Go.Ground.phase }, { on := 15, ground := Go.Ground.phase }], guard := none }) (v := .slice (some ⟨bl, off, none⟩) m c) rfl rfl (by kernel_rfl) (by kernel_rfl) (by kernel_rfl) (by kernel_rfl) (fun _ _ _ h => h) (Or.inl ⟨by rfl, ?_⟩) (by first | exact ⟨c0, c1, c2⟩ | exact hS2 | exact hS3) ?_
    · intro W9 hS9
      obtain ⟨q0, q1, q2⟩ := hS9
      go_simp
    try simp only [Act.put, List.setIfInBounds_toArray, List.set_cons_zero, List.set_cons_succ]
    refine wpAnyX_take (i := 4) (oi := { dst := some 28, op := Go.Op.indexAddr 23 (Go.Operand.tmp 27) (Go.Operand.const (Go.Value.int Go.IntKind.i64 0)), type := 0, pos := "draft.go:94", after := #[{ on := 3, ground := Go.Ground.data }], guard := none }) (oX := { dst := none, op := Go.Op.store 23 (Go.Operand.tmp 2) (Go.Operand.tmp 31), type := 0, pos := "draft.go:94", after := #[{ on := 7, ground := Go.Ground.data }, { on := 15, ground := Go.Ground.chain }, { on := 0, ground := Go.Ground.phase }, { on := 1, ground := Go.Ground.phase }, { on := 2, ground := Go.Ground.phase }, { on := 3, ground := Go.Ground.phase }, { on := 4, ground := Go.Ground.phase }, { on := 5, ground := Go.Ground.phase }, { on := 6, ground := Go.Ground.phase }, { on := 7, ground := Go.Ground.phase }, { on := 8, ground := Go.Ground.phase }, { on := 9, ground := Go.Ground.phase }, { on := 10, ground := Go.Ground.phase }, { on := 11, ground := Go.Ground.phase }, { on := 12, ground := Go.Ground.phase }, { on := 13, ground := Go.Ground.phase }, { on := 14, ground := Go.Ground.phase }, { on := 15, ground := Go.Ground.phase }], guard := none }) (v := .pointer (some ⟨bl, off, none⟩)) rfl rfl (by kernel_rfl) (by kernel_rfl) (by kernel_rfl) (by kernel_rfl) (fun _ _ _ h => h) (Or.inl ⟨by rfl, ?_⟩) (by first | exact ⟨c0, c1, c2⟩ | exact hS2 | exact hS3) ?_
    · intro W9 hS9
      obtain ⟨q0, q1, q2⟩ := hS9
      go_simp
    try simp only [Act.put, List.setIfInBounds_toArray, List.set_cons_zero, List.set_cons_succ]
    refine wpAnyX_take (i := 5) (oi := { dst := some 29, op := Go.Op.load 5 (Go.Operand.tmp 28), type := 5, pos := "draft.go:94", after := #[{ on := 4, ground := Go.Ground.data }], guard := none }) (oX := { dst := none, op := Go.Op.store 23 (Go.Operand.tmp 2) (Go.Operand.tmp 31), type := 0, pos := "draft.go:94", after := #[{ on := 7, ground := Go.Ground.data }, { on := 15, ground := Go.Ground.chain }, { on := 0, ground := Go.Ground.phase }, { on := 1, ground := Go.Ground.phase }, { on := 2, ground := Go.Ground.phase }, { on := 3, ground := Go.Ground.phase }, { on := 4, ground := Go.Ground.phase }, { on := 5, ground := Go.Ground.phase }, { on := 6, ground := Go.Ground.phase }, { on := 7, ground := Go.Ground.phase }, { on := 8, ground := Go.Ground.phase }, { on := 9, ground := Go.Ground.phase }, { on := 10, ground := Go.Ground.phase }, { on := 11, ground := Go.Ground.phase }, { on := 12, ground := Go.Ground.phase }, { on := 13, ground := Go.Ground.phase }, { on := 14, ground := Go.Ground.phase }, { on := 15, ground := Go.Ground.phase }], guard := none }) (v := .int .u8 (u : Int)) rfl rfl (by kernel_rfl) (by kernel_rfl) (by kernel_rfl) (by kernel_rfl) (fun _ _ _ h => h) (Or.inl ⟨by rfl, ?_⟩) (by first | exact ⟨c0, c1, c2⟩ | exact hS2 | exact hS3) ?_
    · intro W9 hS9
      obtain ⟨q0, q1, q2⟩ := hS9
      go_simp
    try simp only [Act.put, List.setIfInBounds_toArray, List.set_cons_zero, List.set_cons_succ]
    refine wpAnyX_take (i := 6) (oi := { dst := some 30, op := Go.Op.load 23 (Go.Operand.tmp 2), type := 23, pos := "draft.go:94", after := #[], guard := none }) (oX := { dst := none, op := Go.Op.store 23 (Go.Operand.tmp 2) (Go.Operand.tmp 31), type := 0, pos := "draft.go:94", after := #[{ on := 7, ground := Go.Ground.data }, { on := 15, ground := Go.Ground.chain }, { on := 0, ground := Go.Ground.phase }, { on := 1, ground := Go.Ground.phase }, { on := 2, ground := Go.Ground.phase }, { on := 3, ground := Go.Ground.phase }, { on := 4, ground := Go.Ground.phase }, { on := 5, ground := Go.Ground.phase }, { on := 6, ground := Go.Ground.phase }, { on := 7, ground := Go.Ground.phase }, { on := 8, ground := Go.Ground.phase }, { on := 9, ground := Go.Ground.phase }, { on := 10, ground := Go.Ground.phase }, { on := 11, ground := Go.Ground.phase }, { on := 12, ground := Go.Ground.phase }, { on := 13, ground := Go.Ground.phase }, { on := 14, ground := Go.Ground.phase }, { on := 15, ground := Go.Ground.phase }], guard := none }) (v := .slice (some ⟨bl, off, none⟩) m c) rfl rfl (by kernel_rfl) (by kernel_rfl) (by kernel_rfl) (by kernel_rfl) (fun _ _ _ h => h) (Or.inl ⟨by rfl, ?_⟩) (by first | exact ⟨c0, c1, c2⟩ | exact hS2 | exact hS3) ?_
    · intro W9 hS9
      obtain ⟨q0, q1, q2⟩ := hS9
      go_simp
    try simp only [Act.put, List.setIfInBounds_toArray, List.set_cons_zero, List.set_cons_succ]
    refine wpAnyX_take (i := 7) (oi := { dst := some 31, op := Go.Op.slice 23 (Go.Operand.tmp 30) (some (Go.Operand.const (Go.Value.int Go.IntKind.i64 1))) none none, type := 23, pos := "draft.go:94", after := #[{ on := 6, ground := Go.Ground.data }], guard := none }) (oX := { dst := none, op := Go.Op.store 23 (Go.Operand.tmp 2) (Go.Operand.tmp 31), type := 0, pos := "draft.go:94", after := #[{ on := 7, ground := Go.Ground.data }, { on := 15, ground := Go.Ground.chain }, { on := 0, ground := Go.Ground.phase }, { on := 1, ground := Go.Ground.phase }, { on := 2, ground := Go.Ground.phase }, { on := 3, ground := Go.Ground.phase }, { on := 4, ground := Go.Ground.phase }, { on := 5, ground := Go.Ground.phase }, { on := 6, ground := Go.Ground.phase }, { on := 7, ground := Go.Ground.phase }, { on := 8, ground := Go.Ground.phase }, { on := 9, ground := Go.Ground.phase }, { on := 10, ground := Go.Ground.phase }, { on := 11, ground := Go.Ground.phase }, { on := 12, ground := Go.Ground.phase }, { on := 13, ground := Go.Ground.phase }, { on := 14, ground := Go.Ground.phase }, { on := 15, ground := Go.Ground.phase }], guard := none }) (v := .slice a2 m0 c9) rfl rfl (by kernel_rfl) (by kernel_rfl) (by kernel_rfl) (by kernel_rfl) (fun _ _ _ h => h) (Or.inl ⟨by rfl, ?_⟩) (by first | exact ⟨c0, c1, c2⟩ | exact hS2 | exact hS3) ?_
    · intro W9 hS9
      obtain ⟨q0, q1, q2⟩ := hS9
      go_simp
    try simp only [Act.put, List.setIfInBounds_toArray, List.set_cons_zero, List.set_cons_succ]
    refine wpAnyX_take (i := 8) (oi := { dst := some 32, op := Go.Op.nilCheck (Go.Operand.tmp 24), type := 0, pos := "draft.go:94", after := #[{ on := 0, ground := Go.Ground.data }, { on := 0, ground := Go.Ground.phase }, { on := 1, ground := Go.Ground.textOnly Go.Departure.lateStores }, { on := 2, ground := Go.Ground.phase }, { on := 3, ground := Go.Ground.textOnly Go.Departure.inlinedCapture }, { on := 4, ground := Go.Ground.textOnly Go.Departure.lateStoresUnsure }, { on := 5, ground := Go.Ground.phase }, { on := 6, ground := Go.Ground.textOnly Go.Departure.inlinedCapture }, { on := 7, ground := Go.Ground.textOnly Go.Departure.lateStoresUnsure }], guard := none }) (oX := { dst := none, op := Go.Op.store 23 (Go.Operand.tmp 2) (Go.Operand.tmp 31), type := 0, pos := "draft.go:94", after := #[{ on := 7, ground := Go.Ground.data }, { on := 15, ground := Go.Ground.chain }, { on := 0, ground := Go.Ground.phase }, { on := 1, ground := Go.Ground.phase }, { on := 2, ground := Go.Ground.phase }, { on := 3, ground := Go.Ground.phase }, { on := 4, ground := Go.Ground.phase }, { on := 5, ground := Go.Ground.phase }, { on := 6, ground := Go.Ground.phase }, { on := 7, ground := Go.Ground.phase }, { on := 8, ground := Go.Ground.phase }, { on := 9, ground := Go.Ground.phase }, { on := 10, ground := Go.Ground.phase }, { on := 11, ground := Go.Ground.phase }, { on := 12, ground := Go.Ground.phase }, { on := 13, ground := Go.Ground.phase }, { on := 14, ground := Go.Ground.phase }, { on := 15, ground := Go.Ground.phase }], guard := none }) (v := .pointer (some ⟨D, 0, none⟩)) rfl rfl (by kernel_rfl) (by kernel_rfl) (by kernel_rfl) (by kernel_rfl) (fun _ _ _ h => h) (Or.inl ⟨by rfl, ?_⟩) (by first | exact ⟨c0, c1, c2⟩ | exact hS2 | exact hS3) ?_
    · intro W9 hS9
      obtain ⟨q0, q1, q2⟩ := hS9
      go_simp
    try simp only [Act.put, List.setIfInBounds_toArray, List.set_cons_zero, List.set_cons_succ]
    refine wpAnyX_take (i := 9) (oi := { dst := some 33, op := Go.Op.fieldAddr 78 (Go.Operand.tmp 32) 0, type := 0, pos := "draft.go:94", after := #[{ on := 8, ground := Go.Ground.data }, { on := 0, ground := Go.Ground.phase }, { on := 1, ground := Go.Ground.textOnly Go.Departure.lateStores }, { on := 2, ground := Go.Ground.phase }, { on := 3, ground := Go.Ground.textOnly Go.Departure.inlinedCapture }, { on := 4, ground := Go.Ground.textOnly Go.Departure.lateStoresUnsure }, { on := 5, ground := Go.Ground.phase }, { on := 6, ground := Go.Ground.textOnly Go.Departure.inlinedCapture }, { on := 7, ground := Go.Ground.textOnly Go.Departure.lateStoresUnsure }], guard := none }) (oX := { dst := none, op := Go.Op.store 23 (Go.Operand.tmp 2) (Go.Operand.tmp 31), type := 0, pos := "draft.go:94", after := #[{ on := 7, ground := Go.Ground.data }, { on := 15, ground := Go.Ground.chain }, { on := 0, ground := Go.Ground.phase }, { on := 1, ground := Go.Ground.phase }, { on := 2, ground := Go.Ground.phase }, { on := 3, ground := Go.Ground.phase }, { on := 4, ground := Go.Ground.phase }, { on := 5, ground := Go.Ground.phase }, { on := 6, ground := Go.Ground.phase }, { on := 7, ground := Go.Ground.phase }, { on := 8, ground := Go.Ground.phase }, { on := 9, ground := Go.Ground.phase }, { on := 10, ground := Go.Ground.phase }, { on := 11, ground := Go.Ground.phase }, { on := 12, ground := Go.Ground.phase }, { on := 13, ground := Go.Ground.phase }, { on := 14, ground := Go.Ground.phase }, { on := 15, ground := Go.Ground.phase }], guard := none }) (v := .pointer (some ⟨D, 0, none⟩)) rfl rfl (by kernel_rfl) (by kernel_rfl) (by kernel_rfl) (by kernel_rfl) (fun _ _ _ h => h) (Or.inl ⟨by rfl, ?_⟩) (by first | exact ⟨c0, c1, c2⟩ | exact hS2 | exact hS3) ?_
    · intro W9 hS9
      obtain ⟨q0, q1, q2⟩ := hS9
      go_simp
    try simp only [Act.put, List.setIfInBounds_toArray, List.set_cons_zero, List.set_cons_succ]
    refine wpAnyX_take (i := 10) (oi := { dst := some 34, op := Go.Op.fieldAddr 72 (Go.Operand.tmp 33) 1, type := 0, pos := "draft.go:94", after := #[{ on := 9, ground := Go.Ground.data }, { on := 0, ground := Go.Ground.phase }, { on := 1, ground := Go.Ground.textOnly Go.Departure.lateStores }, { on := 2, ground := Go.Ground.phase }, { on := 3, ground := Go.Ground.textOnly Go.Departure.inlinedCapture }, { on := 4, ground := Go.Ground.textOnly Go.Departure.lateStoresUnsure }, { on := 5, ground := Go.Ground.phase }, { on := 6, ground := Go.Ground.textOnly Go.Departure.inlinedCapture }, { on := 7, ground := Go.Ground.textOnly Go.Departure.lateStoresUnsure }], guard := none }) (oX := { dst := none, op := Go.Op.store 23 (Go.Operand.tmp 2) (Go.Operand.tmp 31), type := 0, pos := "draft.go:94", after := #[{ on := 7, ground := Go.Ground.data }, { on := 15, ground := Go.Ground.chain }, { on := 0, ground := Go.Ground.phase }, { on := 1, ground := Go.Ground.phase }, { on := 2, ground := Go.Ground.phase }, { on := 3, ground := Go.Ground.phase }, { on := 4, ground := Go.Ground.phase }, { on := 5, ground := Go.Ground.phase }, { on := 6, ground := Go.Ground.phase }, { on := 7, ground := Go.Ground.phase }, { on := 8, ground := Go.Ground.phase }, { on := 9, ground := Go.Ground.phase }, { on := 10, ground := Go.Ground.phase }, { on := 11, ground := Go.Ground.phase }, { on := 12, ground := Go.Ground.phase }, { on := 13, ground := Go.Ground.phase }, { on := 14, ground := Go.Ground.phase }, { on := 15, ground := Go.Ground.phase }], guard := none }) (v := .pointer (some ⟨D, 1, none⟩)) rfl rfl (by kernel_rfl) (by kernel_rfl) (by kernel_rfl) (by kernel_rfl) (fun _ _ _ h => h) (Or.inl ⟨by rfl, ?_⟩) (by first | exact ⟨c0, c1, c2⟩ | exact hS2 | exact hS3) ?_
    · intro W9 hS9
      obtain ⟨q0, q1, q2⟩ := hS9
      go_simp
    try simp only [Act.put, List.setIfInBounds_toArray, List.set_cons_zero, List.set_cons_succ]
    refine wpAnyX_one (i := 11) (o := { dst := none, op := Go.Op.store 3 (Go.Operand.tmp 34) (Go.Operand.tmp 26), type := 0, pos := "draft.go:94", after := #[{ on := 10, ground := Go.Ground.data }, { on := 2, ground := Go.Ground.data }, { on := 0, ground := Go.Ground.phase }, { on := 1, ground := Go.Ground.textOnly Go.Departure.lateStores }, { on := 2, ground := Go.Ground.phase }, { on := 3, ground := Go.Ground.textOnly Go.Departure.inlinedCapture }, { on := 4, ground := Go.Ground.textOnly Go.Departure.lateStoresUnsure }, { on := 5, ground := Go.Ground.phase }, { on := 6, ground := Go.Ground.textOnly Go.Departure.inlinedCapture }, { on := 7, ground := Go.Ground.textOnly Go.Departure.lateStoresUnsure }], guard := none }) (by kernel_rfl) rfl (fun K hK => ?_)
    refine step_skip rfl (w' := Wd.setCell ⟨D, 1, none⟩ (.int .i64 (y : Nat))) (by go_simp) ?_
    refine hK.out _ _ (fun _ => hS2) ?_
    clear hK K
    try simp only [Act.put, List.setIfInBounds_toArray, List.set_cons_zero, List.set_cons_succ]
    generalize Wd.setCell ⟨D, 1, none⟩ (.int .i64 (y : Nat)) = We at *
    clear c0 c1 c2 g1 f1 HFD
    obtain ⟨c0, c1, c2⟩ := hS2
    have g2 : We.cell? ⟨D, 2, none⟩ = some (.int .u8 h) := HFE.out.row.cell 2
    have f2 := HFE.out.row.frozen 2
    have Ff := HFE.out.set2 hDl u
    have ke2 := HK1.out.trans (Ke.set (a := ⟨D, 2, none⟩) HFE.out.row (by decide) (.int .u8 (u : Nat)))
    have hS3 : (We.setCell ⟨D, 2, none⟩ (.int .u8 (u : Nat))).cell? ⟨w.heap.size, 0, none⟩ = some (.pointer (some ⟨D, 0, none⟩)) ∧ (We.setCell ⟨D, 2, none⟩ (.int .u8 (u : Nat))).cell? ⟨w.heap.size + 1, 0, none⟩ = some (.slice (some ⟨bl, off, none⟩) m c) ∧ (We.setCell ⟨D, 2, none⟩ (.int .u8 (u : Nat))).cell? ⟨bl, off, none⟩ = some (.int .u8 (u : Int)) :=
      ⟨Ff.box.cell 0, Ff.left.cell 0, (World.cell?_setCell_far _ _ _ _ (show D ≠ bl by omega)).trans c2⟩
    have ba3 := HB2.out.but (h := D) ((But.refl _ D We).setCell 2 (.int .u8 (u : Nat))) (Nat.le_refl _)
    have HFF := Lib.hid Ff
    have HK2 := Lib.hid ke2
    have HB3 := Lib.hid ba3
    clear Ff ke2 ba3 HB2 HK1
    refine wpAnyX_take (i := 12) (oi := { dst := some 35, op := Go.Op.nilCheck (Go.Operand.tmp 25), type := 0, pos := "draft.go:94", after := #[{ on := 1, ground := Go.Ground.data }, { on := 0, ground := Go.Ground.phase }, { on := 1, ground := Go.Ground.phase }, { on := 2, ground := Go.Ground.phase }, { on := 3, ground := Go.Ground.phase }, { on := 4, ground := Go.Ground.phase }, { on := 5, ground := Go.Ground.phase }, { on := 6, ground := Go.Ground.textOnly Go.Departure.inlinedCapture }, { on := 7, ground := Go.Ground.textOnly Go.Departure.lateStoresUnsure }, { on := 8, ground := Go.Ground.phase }, { on := 9, ground := Go.Ground.phase }, { on := 10, ground := Go.Ground.phase }, { on := 11, ground := Go.Ground.phase }], guard := none }) (oX := { dst := none, op := Go.Op.store 23 (Go.Operand.tmp 2) (Go.Operand.tmp 31), type := 0, pos := "draft.go:94", after := #[{ on := 7, ground := Go.Ground.data }, { on := 15, ground := Go.Ground.chain }, { on := 0, ground := Go.Ground.phase }, { on := 1, ground := Go.Ground.phase }, { on := 2, ground := Go.Ground.phase }, { on := 3, ground := Go.Ground.phase }, { on := 4, ground := Go.Ground.phase }, { on := 5, ground := Go.Ground.phase }, { on := 6, ground := Go.Ground.phase }, { on := 7, ground := Go.Ground.phase }, { on := 8, ground := Go.Ground.phase }, { on := 9, ground := Go.Ground.phase }, { on := 10, ground := Go.Ground.phase }, { on := 11, ground := Go.Ground.phase }, { on := 12, ground := Go.Ground.phase }, { on := 13, ground := Go.Ground.phase }, { on := 14, ground := Go.Ground.phase }, { on := 15, ground := Go.Ground.phase }], guard := none }) (v := .pointer (some ⟨D, 0, none⟩)) rfl rfl (by kernel_rfl) (by kernel_rfl) (by kernel_rfl) (by kernel_rfl) (fun _ _ _ h => h) (Or.inl ⟨by rfl, ?_⟩) (by first | exact ⟨c0, c1, c2⟩ | exact hS2 | exact hS3) ?_
    · intro W9 hS9
      obtain ⟨q0, q1, q2⟩ := hS9
      go_simp
    try simp only [Act.put, List.setIfInBounds_toArray, List.set_cons_zero, List.set_cons_succ]
    refine wpAnyX_take (i := 13) (oi := { dst := some 36, op := Go.Op.fieldAddr 78 (Go.Operand.tmp 35) 0, type := 0, pos := "draft.go:94", after := #[{ on := 12, ground := Go.Ground.data }, { on := 0, ground := Go.Ground.phase }, { on := 1, ground := Go.Ground.phase }, { on := 2, ground := Go.Ground.phase }, { on := 3, ground := Go.Ground.phase }, { on := 4, ground := Go.Ground.phase }, { on := 5, ground := Go.Ground.phase }, { on := 6, ground := Go.Ground.textOnly Go.Departure.inlinedCapture }, { on := 7, ground := Go.Ground.textOnly Go.Departure.lateStoresUnsure }, { on := 8, ground := Go.Ground.phase }, { on := 9, ground := Go.Ground.phase }, { on := 10, ground := Go.Ground.phase }, { on := 11, ground := Go.Ground.phase }], guard := none }) (oX := { dst := none, op := Go.Op.store 23 (Go.Operand.tmp 2) (Go.Operand.tmp 31), type := 0, pos := "draft.go:94", after := #[{ on := 7, ground := Go.Ground.data }, { on := 15, ground := Go.Ground.chain }, { on := 0, ground := Go.Ground.phase }, { on := 1, ground := Go.Ground.phase }, { on := 2, ground := Go.Ground.phase }, { on := 3, ground := Go.Ground.phase }, { on := 4, ground := Go.Ground.phase }, { on := 5, ground := Go.Ground.phase }, { on := 6, ground := Go.Ground.phase }, { on := 7, ground := Go.Ground.phase }, { on := 8, ground := Go.Ground.phase }, { on := 9, ground := Go.Ground.phase }, { on := 10, ground := Go.Ground.phase }, { on := 11, ground := Go.Ground.phase }, { on := 12, ground := Go.Ground.phase }, { on := 13, ground := Go.Ground.phase }, { on := 14, ground := Go.Ground.phase }, { on := 15, ground := Go.Ground.phase }], guard := none }) (v := .pointer (some ⟨D, 0, none⟩)) rfl rfl (by kernel_rfl) (by kernel_rfl) (by kernel_rfl) (by kernel_rfl) (fun _ _ _ h => h) (Or.inl ⟨by rfl, ?_⟩) (by first | exact ⟨c0, c1, c2⟩ | exact hS2 | exact hS3) ?_
    · intro W9 hS9
      obtain ⟨q0, q1, q2⟩ := hS9
      go_simp
    try simp only [Act.put, List.setIfInBounds_toArray, List.set_cons_zero, List.set_cons_succ]
    refine wpAnyX_take (i := 14) (oi := { dst := some 37, op := Go.Op.fieldAddr 72 (Go.Operand.tmp 36) 2, type := 0, pos := "draft.go:94", after := #[{ on := 13, ground := Go.Ground.data }, { on := 0, ground := Go.Ground.phase }, { on := 1, ground := Go.Ground.phase }, { on := 2, ground := Go.Ground.phase }, { on := 3, ground := Go.Ground.phase }, { on := 4, ground := Go.Ground.phase }, { on := 5, ground := Go.Ground.phase }, { on := 6, ground := Go.Ground.textOnly Go.Departure.inlinedCapture }, { on := 7, ground := Go.Ground.textOnly Go.Departure.lateStoresUnsure }, { on := 8, ground := Go.Ground.phase }, { on := 9, ground := Go.Ground.phase }, { on := 10, ground := Go.Ground.phase }, { on := 11, ground := Go.Ground.phase }], guard := none }) (oX := { dst := none, op := Go.Op.store 23 (Go.Operand.tmp 2) (Go.Operand.tmp 31), type := 0, pos := "draft.go:94", after := #[{ on := 7, ground := Go.Ground.data }, { on := 15, ground := Go.Ground.chain }, { on := 0, ground := Go.Ground.phase }, { on := 1, ground := Go.Ground.phase }, { on := 2, ground := Go.Ground.phase }, { on := 3, ground := Go.Ground.phase }, { on := 4, ground := Go.Ground.phase }, { on := 5, ground := Go.Ground.phase }, { on := 6, ground := Go.Ground.phase }, { on := 7, ground := Go.Ground.phase }, { on := 8, ground := Go.Ground.phase }, { on := 9, ground := Go.Ground.phase }, { on := 10, ground := Go.Ground.phase }, { on := 11, ground := Go.Ground.phase }, { on := 12, ground := Go.Ground.phase }, { on := 13, ground := Go.Ground.phase }, { on := 14, ground := Go.Ground.phase }, { on := 15, ground := Go.Ground.phase }], guard := none }) (v := .pointer (some ⟨D, 2, none⟩)) rfl rfl (by kernel_rfl) (by kernel_rfl) (by kernel_rfl) (by kernel_rfl) (fun _ _ _ h => h) (Or.inl ⟨by rfl, ?_⟩) (by first | exact ⟨c0, c1, c2⟩ | exact hS2 | exact hS3) ?_
    · intro W9 hS9
      obtain ⟨q0, q1, q2⟩ := hS9
      go_simp
    try simp only [Act.put, List.setIfInBounds_toArray, List.set_cons_zero, List.set_cons_succ]
    refine wpAnyX_one (i := 15) (o := { dst := none, op := Go.Op.store 5 (Go.Operand.tmp 37) (Go.Operand.tmp 29), type := 0, pos := "draft.go:94", after := #[{ on := 14, ground := Go.Ground.data }, { on := 5, ground := Go.Ground.data }, { on := 11, ground := Go.Ground.chain }, { on := 0, ground := Go.Ground.phase }, { on := 1, ground := Go.Ground.phase }, { on := 2, ground := Go.Ground.phase }, { on := 3, ground := Go.Ground.phase }, { on := 4, ground := Go.Ground.phase }, { on := 5, ground := Go.Ground.phase }, { on := 6, ground := Go.Ground.textOnly Go.Departure.inlinedCapture }, { on := 7, ground := Go.Ground.textOnly Go.Departure.lateStoresUnsure }, { on := 8, ground := Go.Ground.phase }, { on := 9, ground := Go.Ground.phase }, { on := 10, ground := Go.Ground.phase }, { on := 11, ground := Go.Ground.phase }], guard := none }) (by kernel_rfl) rfl (fun K hK => ?_)
    refine step_skip rfl (w' := We.setCell ⟨D, 2, none⟩ (.int .u8 (u : Nat))) (by go_simp) ?_
    refine hK.out _ _ (fun _ => hS3) ?_
    clear hK K
    try simp only [Act.put, List.setIfInBounds_toArray, List.set_cons_zero, List.set_cons_succ]
    generalize We.setCell ⟨D, 2, none⟩ (.int .u8 (u : Nat)) = Wf at *
    clear c0 c1 c2 g2 f2 HFE
    obtain ⟨c0, c1, c2⟩ := hS3
    have f3 := HFF.out.left.frozen 0
    have G1 := HFF.out.left2 hDl HB3.out
    have ke3 := HK2.out.trans (Ke.set (T := exT) (a := ⟨w.heap.size + 1, 0, none⟩) HFF.out.left (by decide) (.slice a2 m0 c9))
    have HG1 := Lib.hid G1
    have HK3 := Lib.hid ke3
    have HFEW := Lib.hid HFF.out.few
    clear G1 ke3 HB3 HK2
    refine wpAnyX_one (i := 16) (o := { dst := none, op := Go.Op.store 23 (Go.Operand.tmp 2) (Go.Operand.tmp 31), type := 0, pos := "draft.go:94", after := #[{ on := 7, ground := Go.Ground.data }, { on := 15, ground := Go.Ground.chain }, { on := 0, ground := Go.Ground.phase }, { on := 1, ground := Go.Ground.phase }, { on := 2, ground := Go.Ground.phase }, { on := 3, ground := Go.Ground.phase }, { on := 4, ground := Go.Ground.phase }, { on := 5, ground := Go.Ground.phase }, { on := 6, ground := Go.Ground.phase }, { on := 7, ground := Go.Ground.phase }, { on := 8, ground := Go.Ground.phase }, { on := 9, ground := Go.Ground.phase }, { on := 10, ground := Go.Ground.phase }, { on := 11, ground := Go.Ground.phase }, { on := 12, ground := Go.Ground.phase }, { on := 13, ground := Go.Ground.phase }, { on := 14, ground := Go.Ground.phase }, { on := 15, ground := Go.Ground.phase }], guard := none }) (by kernel_rfl) rfl (fun K hK => ?_)
    refine step_skip rfl (w' := Wf.setCell ⟨w.heap.size + 1, 0, none⟩ (.slice a2 m0 c9)) (by go_simp) ?_
    refine hK.out _ _ (fun h => absurd rfl h) ?_
    clear hK K
    try simp only [Act.put, List.setIfInBounds_toArray, List.set_cons_zero, List.set_cons_succ]
    refine wpAnyX_end (by kernel_rfl) ?_
    clear c0 c1 c2 f3 HFF
    generalize Wf.setCell ⟨w.heap.size + 1, 0, none⟩ (.slice a2 m0 c9) = Wg at *
    have c0 : Wg.cell? ⟨w.heap.size, 0, none⟩ = some (.pointer (some ⟨D, 0, none⟩)) := HG1.out.box.cell 0
    have hX64 : layTo x (frTo x y) hs < 18446744073709551616 := layTo_lt HH.out _ _ HX.out fun k hk => by have := frTo_lt hk; have := HY.out; omega
    have HFILL := Lib.hid (Try.cfill_any (layTo x (frTo x y) hs) y u D hX64 hu256 _ _ Wg ⟨HG1.out.row, rfl, rfl, rfl⟩)
    clear hX64
    by_cases h127 : 127 < u
    · have HP : Hid (Calls Try.prog 44 #[.pointer (some ⟨D, 0, none⟩)] Wg fun e w' => e = .panicked (panic1 2) ∧ Below Wg.heap.size Wg w') := Lib.hid (HFILL.out.mono (by
        rintro e w' (⟨hE, _⟩ | ⟨_, rfl, hb⟩)
        · rw [hfE.out, if_pos h127] at hE
          exact absurd hE (by decide)
        · exact ⟨by rw [hfE.out, if_pos h127], hb⟩))
      have H127 := Lib.hid h127
      clear h127 HFILL hfE
      gi_wp2_with (refine ⟨trivial, ?_⟩; gi_at_call 44; refine (CallsIn.inRound l2 (callsIn_wide.2 HP.out)).mono ?_; rintro e W3 ⟨rfl, hb⟩)
      have hs1 := HG1.out.size
      exact ⟨rfl, (HK3.out.trans (Ke.of_below hb)).keeps _, ⟨rfl, fills_bad1 HUM.out H127.out⟩, HG1.out.but.trans (But.of_below (hb.mono (by omega)))⟩
    · have HP : Hid (Calls Try.prog 44 #[.pointer (some ⟨D, 0, none⟩)] Wg fun e w' => (∃ v, e = .returned v) ∧ FG D (.slice a0 n0 cp0) w (hs.drop ((frTo x y).length + 1)) (frTo x y) (setB (layTo x (frTo x y) hs) y u) y u (.slice a2 m0 c9) wv w' ∧ Ke exT Wg w') := Lib.hid (HFILL.out.mono (by
        rintro e w' (⟨hE, hv, hr, hb⟩ | ⟨hE, _⟩)
        · unfold fillS at hr
          rw [Int.toNat_natCast] at hr
          exact ⟨hv, HG1.out.filled hDl hb hr, Ke.of_but hb HG1.out.row (by decide)⟩
        · rw [hfE.out, if_neg h127] at hE
          exact absurd rfl hE))
      have H127 := Lib.hid h127
      clear h127 HFILL hfE
      gi_wp2_with (refine ⟨trivial, ?_⟩; gi_at_call 44; refine (CallsIn.inRound l2 (callsIn_wide.2 HP.out)).mono ?_; rintro e W2 ⟨⟨v, rfl⟩, hg, hk⟩; have HG2 := Lib.hid hg.drew; have HK4 := Lib.hid ((HK3.out.trans hk).trans (Ke.drew _ W2)); clear hg hk)
      refine wpIn_region_X (free2_round l2) (fun W9 => W9.cell? ⟨w.heap.size, 0, none⟩ = some (.pointer (some ⟨D, 0, none⟩)) ∧ W9.cell? ⟨D, 4, none⟩ = some wv) 10 (by rintro ⟨_, _, h⟩; exact h) (by kernel_rfl) (by kernel_rfl) ?_
      clear c0
      generalize W2.drew = W3 at *
      have c0 : W3.cell? ⟨w.heap.size, 0, none⟩ = some (.pointer (some ⟨D, 0, none⟩)) := HG2.out.box.cell 0
      have c1 : W3.cell? ⟨D, 4, none⟩ = some wv := HG2.out.row.cell 4
      have hs3 := HG2.out.size
      have G4 := HG2.out.alloc hDl (.cells #[.int .i64 (y : Nat)] 3)
      have HN4 : Hid ((W3.alloc (.cells #[.int .i64 (y : Nat)] 3)).ownsRow w.heap.size 3 1 (.slice (some ⟨W3.heap.size, 0, none⟩) 1 1) 1 [.int .i64 (y : Nat)]) := Lib.hid (own1 (Rows8.new W3 3 #[.int .i64 (y : Nat)]) (by omega) rfl)
      have hS2 : (W3.alloc (.cells #[.int .i64 (y : Nat)] 3)).cell? ⟨w.heap.size, 0, none⟩ = some (.pointer (some ⟨D, 0, none⟩)) ∧ (W3.alloc (.cells #[.int .i64 (y : Nat)] 3)).cell? ⟨D, 4, none⟩ = some wv := ⟨G4.box.cell 0, G4.row.cell 4⟩
      have ke5 := HK4.out.trans (Ke.alloc exT W3 (.cells #[.int .i64 (y : Nat)] 3))
      have HG4 := Lib.hid G4
      have HK5 := Lib.hid ke5
      clear G4 ke5 HK4
      obtain ⟨i0, hi, hz0, hz1, hz2⟩ := info_parts Try.infoInt
      refine wpAnyX_take (i := 0) (oi := { dst := some 42, op := Go.Op.load 91 (Go.Operand.tmp 1), type := 91, pos := "draft.go:96", after := #[], guard := none }) (oX := { dst := none, op := Go.Op.store 40 (Go.Operand.tmp 51) (Go.Operand.tmp 49), type := 0, pos := "draft.go:96", after := #[{ on := 9, ground := Go.Ground.data }, { on := 7, ground := Go.Ground.data }, { on := 7, ground := Go.Ground.chain }, { on := 0, ground := Go.Ground.phase }, { on := 1, ground := Go.Ground.phase }, { on := 2, ground := Go.Ground.phase }, { on := 3, ground := Go.Ground.phase }, { on := 4, ground := Go.Ground.phase }, { on := 5, ground := Go.Ground.phase }, { on := 6, ground := Go.Ground.phase }, { on := 7, ground := Go.Ground.phase }], guard := none }) (v := .pointer (some ⟨D, 0, none⟩)) rfl rfl (by kernel_rfl) (by kernel_rfl) (by kernel_rfl) (by kernel_rfl) (fun _ _ _ h => h) (Or.inl ⟨by rfl, ?_⟩) (by first | exact ⟨c0, c1⟩ | exact hS2 | exact hS3) ?_
      · intro W9 hS9
        obtain ⟨q0, q1⟩ := hS9
        go_simp
      try simp only [Act.put, List.setIfInBounds_toArray, List.set_cons_zero, List.set_cons_succ]
      refine wpAnyX_take (i := 1) (oi := { dst := some 43, op := Go.Op.load 91 (Go.Operand.tmp 1), type := 91, pos := "draft.go:96", after := #[], guard := none }) (oX := { dst := none, op := Go.Op.store 40 (Go.Operand.tmp 51) (Go.Operand.tmp 49), type := 0, pos := "draft.go:96", after := #[{ on := 9, ground := Go.Ground.data }, { on := 7, ground := Go.Ground.data }, { on := 7, ground := Go.Ground.chain }, { on := 0, ground := Go.Ground.phase }, { on := 1, ground := Go.Ground.phase }, { on := 2, ground := Go.Ground.phase }, { on := 3, ground := Go.Ground.phase }, { on := 4, ground := Go.Ground.phase }, { on := 5, ground := Go.Ground.phase }, { on := 6, ground := Go.Ground.phase }, { on := 7, ground := Go.Ground.phase }], guard := none }) (v := .pointer (some ⟨D, 0, none⟩)) rfl rfl (by kernel_rfl) (by kernel_rfl) (by kernel_rfl) (by kernel_rfl) (fun _ _ _ h => h) (Or.inl ⟨by rfl, ?_⟩) (by first | exact ⟨c0, c1⟩ | exact hS2 | exact hS3) ?_
      · intro W9 hS9
        obtain ⟨q0, q1⟩ := hS9
        go_simp
      try simp only [Act.put, List.setIfInBounds_toArray, List.set_cons_zero, List.set_cons_succ]
      refine wpAnyX_take (i := 2) (oi := { dst := some 44, op := Go.Op.nilCheck (Go.Operand.tmp 43), type := 0, pos := "draft.go:96", after := #[{ on := 1, ground := Go.Ground.data }], guard := none }) (oX := { dst := none, op := Go.Op.store 40 (Go.Operand.tmp 51) (Go.Operand.tmp 49), type := 0, pos := "draft.go:96", after := #[{ on := 9, ground := Go.Ground.data }, { on := 7, ground := Go.Ground.data }, { on := 7, ground := Go.Ground.chain }, { on := 0, ground := Go.Ground.phase }, { on := 1, ground := Go.Ground.phase }, { on := 2, ground := Go.Ground.phase }, { on := 3, ground := Go.Ground.phase }, { on := 4, ground := Go.Ground.phase }, { on := 5, ground := Go.Ground.phase }, { on := 6, ground := Go.Ground.phase }, { on := 7, ground := Go.Ground.phase }], guard := none }) (v := .pointer (some ⟨D, 0, none⟩)) rfl rfl (by kernel_rfl) (by kernel_rfl) (by kernel_rfl) (by kernel_rfl) (fun _ _ _ h => h) (Or.inl ⟨by rfl, ?_⟩) (by first | exact ⟨c0, c1⟩ | exact hS2 | exact hS3) ?_
      · intro W9 hS9
        obtain ⟨q0, q1⟩ := hS9
        go_simp
      try simp only [Act.put, List.setIfInBounds_toArray, List.set_cons_zero, List.set_cons_succ]
      refine wpAnyX_take (i := 3) (oi := { dst := some 45, op := Go.Op.fieldAddr 78 (Go.Operand.tmp 44) 2, type := 0, pos := "draft.go:96", after := #[{ on := 2, ground := Go.Ground.data }], guard := none }) (oX := { dst := none, op := Go.Op.store 40 (Go.Operand.tmp 51) (Go.Operand.tmp 49), type := 0, pos := "draft.go:96", after := #[{ on := 9, ground := Go.Ground.data }, { on := 7, ground := Go.Ground.data }, { on := 7, ground := Go.Ground.chain }, { on := 0, ground := Go.Ground.phase }, { on := 1, ground := Go.Ground.phase }, { on := 2, ground := Go.Ground.phase }, { on := 3, ground := Go.Ground.phase }, { on := 4, ground := Go.Ground.phase }, { on := 5, ground := Go.Ground.phase }, { on := 6, ground := Go.Ground.phase }, { on := 7, ground := Go.Ground.phase }], guard := none }) (v := .pointer (some ⟨D, 4, none⟩)) rfl rfl (by kernel_rfl) (by kernel_rfl) (by kernel_rfl) (by kernel_rfl) (fun _ _ _ h => h) (Or.inl ⟨by rfl, ?_⟩) (by first | exact ⟨c0, c1⟩ | exact hS2 | exact hS3) ?_
      · intro W9 hS9
        obtain ⟨q0, q1⟩ := hS9
        go_simp
      try simp only [Act.put, List.setIfInBounds_toArray, List.set_cons_zero, List.set_cons_succ]
      refine wpAnyX_take (i := 4) (oi := { dst := some 46, op := Go.Op.load 40 (Go.Operand.tmp 45), type := 40, pos := "draft.go:96", after := #[{ on := 3, ground := Go.Ground.data }], guard := none }) (oX := { dst := none, op := Go.Op.store 40 (Go.Operand.tmp 51) (Go.Operand.tmp 49), type := 0, pos := "draft.go:96", after := #[{ on := 9, ground := Go.Ground.data }, { on := 7, ground := Go.Ground.data }, { on := 7, ground := Go.Ground.chain }, { on := 0, ground := Go.Ground.phase }, { on := 1, ground := Go.Ground.phase }, { on := 2, ground := Go.Ground.phase }, { on := 3, ground := Go.Ground.phase }, { on := 4, ground := Go.Ground.phase }, { on := 5, ground := Go.Ground.phase }, { on := 6, ground := Go.Ground.phase }, { on := 7, ground := Go.Ground.phase }], guard := none }) (v := wv) rfl rfl (by kernel_rfl) (by kernel_rfl) (by kernel_rfl) (by kernel_rfl) (fun _ _ _ h => h) (Or.inl ⟨by rfl, ?_⟩) (by first | exact ⟨c0, c1⟩ | exact hS2 | exact hS3) ?_
      · intro W9 hS9
        obtain ⟨q0, q1⟩ := hS9
        go_simp
      try simp only [Act.put, List.setIfInBounds_toArray, List.set_cons_zero, List.set_cons_succ]
      refine wpAnyX_take (i := 5) (oi := { dst := some 47, op := Go.Op.move (Go.Operand.tmp 3), type := 3, pos := "draft.go:96", after := #[], guard := none }) (oX := { dst := none, op := Go.Op.store 40 (Go.Operand.tmp 51) (Go.Operand.tmp 49), type := 0, pos := "draft.go:96", after := #[{ on := 9, ground := Go.Ground.data }, { on := 7, ground := Go.Ground.data }, { on := 7, ground := Go.Ground.chain }, { on := 0, ground := Go.Ground.phase }, { on := 1, ground := Go.Ground.phase }, { on := 2, ground := Go.Ground.phase }, { on := 3, ground := Go.Ground.phase }, { on := 4, ground := Go.Ground.phase }, { on := 5, ground := Go.Ground.phase }, { on := 6, ground := Go.Ground.phase }, { on := 7, ground := Go.Ground.phase }], guard := none }) (v := .int .i64 (y : Nat)) rfl rfl (by kernel_rfl) (by kernel_rfl) (by kernel_rfl) (by kernel_rfl) (fun _ _ _ h => h) (Or.inl ⟨by rfl, ?_⟩) (by first | exact ⟨c0, c1⟩ | exact hS2 | exact hS3) ?_
      · intro W9 hS9
        obtain ⟨q0, q1⟩ := hS9
        go_simp
      try simp only [Act.put, List.setIfInBounds_toArray, List.set_cons_zero, List.set_cons_succ]
      refine wpAnyX_one (i := 6) (o := { dst := some 48, op := Go.Op.buildSlice 40 1 #[(0, Go.Operand.tmp 47)], type := 40, pos := "draft.go:96", after := #[{ on := 5, ground := Go.Ground.data }], guard := none }) (by kernel_rfl) rfl (fun K hK => ?_)
      refine step_value rfl (.slice (some ⟨W3.heap.size, 0, none⟩) 1 1) (w' := W3.alloc (.cells #[.int .i64 (y : Nat)] 3)) (by go_simp) ?_
      refine hK.out _ _ (fun _ => hS2) ?_
      clear hK K
      try simp only [Act.put, List.setIfInBounds_toArray, List.set_cons_zero, List.set_cons_succ]
      generalize W3.alloc (.cells #[.int .i64 (y : Nat)] 3) = W4 at *
      clear c0 c1
      obtain ⟨c0, c1⟩ := hS2
      have hs4 := HG4.out.size
      have HLE := Lib.hid (frTo_len x y)
      refine wpAnyX_one (i := 7) (o := { dst := some 49, op := Go.Op.call { callee := Go.Callee.builtin Go.Builtin.append, args := #[Go.Operand.tmp 46, Go.Operand.tmp 48], argTypes := #[40, 40] }, type := 40, pos := "draft.go:96", after := #[{ on := 4, ground := Go.Ground.data }, { on := 6, ground := Go.Ground.data }], guard := none }) (by kernel_rfl) rfl (fun K hK => ?_)
      refine step_append_row W4 rfl _ _ 40 rfl w.heap.size 3 i0 (.int .i64 0) 1 8 Try.underlying40 hi hz0 hz1 hz2 rfl (by decide) wv _ _ (by simp [go_sem]) HG4.out.which _ 1 [.int .i64 (y : Nat)] (by simp [go_sem]) (rowAt_own HN4.out) (by simp [Value.oneCell']) (by have := HLE.out; have := HY.out; unfold maxLen; omega) (by have := HLE.out; have := HY.out; omega) (by omega) ?_
      intro v' W5 hO5 hg5 hv5
      obtain ⟨_, a5, cap5, rfl, _⟩ := rowAt_own hO5
      obtain ⟨r5b, r5, k5, G5⟩ := HG4.out.more hDl hO5 hg5
      have hS5 : W5.cell? ⟨w.heap.size, 0, none⟩ = some (.pointer (some ⟨D, 0, none⟩)) ∧ W5.cell? ⟨D, 4, none⟩ = some wv := ⟨r5b.cell 0, r5.cell 4⟩
      have f5 := r5.frozen 4
      have HG5 := Lib.hid G5
      have k6 := (HK5.out.trans k5).trans (Ke.set (T := exT) (a := ⟨D, 4, none⟩) r5 (by decide) (.slice a5 ((frTo x y).length + 1) cap5))
      have HK6 := Lib.hid k6
      refine hK.out _ _ (fun _ => hS5) ?_
      clear hK K hO5 hg5 hv5 r5b r5 k5 G5 k6 c0 c1
      obtain ⟨c0, c1⟩ := hS5
      try simp only [Act.put, List.setIfInBounds_toArray, List.set_cons_zero, List.set_cons_succ]
      refine wpAnyX_one (i := 8) (o := { dst := some 50, op := Go.Op.nilCheck (Go.Operand.tmp 42), type := 0, pos := "draft.go:96", after := #[{ on := 0, ground := Go.Ground.data }, { on := 0, ground := Go.Ground.phase }, { on := 1, ground := Go.Ground.phase }, { on := 2, ground := Go.Ground.phase }, { on := 3, ground := Go.Ground.phase }, { on := 4, ground := Go.Ground.phase }, { on := 5, ground := Go.Ground.phase }, { on := 6, ground := Go.Ground.phase }, { on := 7, ground := Go.Ground.phase }], guard := none }) (by kernel_rfl) rfl (fun K hK => ?_)
      refine step_value rfl (.pointer (some ⟨D, 0, none⟩)) (w' := W5) (by go_simp) ?_
      refine hK.out _ _ (fun _ => ⟨c0, c1⟩) ?_
      clear hK K
      try simp only [Act.put, List.setIfInBounds_toArray, List.set_cons_zero, List.set_cons_succ]
      refine wpAnyX_one (i := 9) (o := { dst := some 51, op := Go.Op.fieldAddr 78 (Go.Operand.tmp 50) 2, type := 0, pos := "draft.go:96", after := #[{ on := 8, ground := Go.Ground.data }, { on := 0, ground := Go.Ground.phase }, { on := 1, ground := Go.Ground.phase }, { on := 2, ground := Go.Ground.phase }, { on := 3, ground := Go.Ground.phase }, { on := 4, ground := Go.Ground.phase }, { on := 5, ground := Go.Ground.phase }, { on := 6, ground := Go.Ground.phase }, { on := 7, ground := Go.Ground.phase }], guard := none }) (by kernel_rfl) rfl (fun K hK => ?_)
      refine step_value rfl (.pointer (some ⟨D, 4, none⟩)) (w' := W5) (by go_simp) ?_
      refine hK.out _ _ (fun _ => ⟨c0, c1⟩) ?_
      clear hK K
      try simp only [Act.put, List.setIfInBounds_toArray, List.set_cons_zero, List.set_cons_succ]
      refine wpAnyX_one (i := 10) (o := { dst := none, op := Go.Op.store 40 (Go.Operand.tmp 51) (Go.Operand.tmp 49), type := 0, pos := "draft.go:96", after := #[{ on := 9, ground := Go.Ground.data }, { on := 7, ground := Go.Ground.data }, { on := 7, ground := Go.Ground.chain }, { on := 0, ground := Go.Ground.phase }, { on := 1, ground := Go.Ground.phase }, { on := 2, ground := Go.Ground.phase }, { on := 3, ground := Go.Ground.phase }, { on := 4, ground := Go.Ground.phase }, { on := 5, ground := Go.Ground.phase }, { on := 6, ground := Go.Ground.phase }, { on := 7, ground := Go.Ground.phase }], guard := none }) (by kernel_rfl) rfl (fun K hK => ?_)
      refine step_skip rfl (w' := W5.setCell ⟨D, 4, none⟩ (.slice a5 ((frTo x y).length + 1) cap5)) (by go_simp) ?_
      refine hK.out _ _ (fun h => absurd rfl h) ?_
      clear hK K
      try simp only [Act.put, List.setIfInBounds_toArray, List.set_cons_zero, List.set_cons_succ]
      refine wpAnyX_end (by kernel_rfl) ?_
      gi_wp2_with fail
      refine ⟨HK6.out.keeps _, HK6.out.kq, ?_⟩
      show FI D x hs (.slice a0 n0 cp0) w (List.range y ++ [y]).length _
      rw [HLR.out]
      exact ⟨_, _, _, _, FG.next HK.out HLT.out HU.out H127.out HFEW.out HG5.out⟩
  case done =>
    rintro D' ys W' hD' rfl ⟨lane, h, lv, wv, hF⟩ hK
    rw [List.length_range] at hF
    have hP := (FV.own (β := Unit) hDl (B := W1.heap.size) (by omega)).putObj (s := ()) (.deferred none) hF hD' hK rfl
    have HP := Lib.hid hP
    clear hP
    by_cases hfull : hs.length = (frTo x 8).length
    · obtain ⟨a, c, rfl, _, _⟩ := hF.ba
      have hz : (hs.drop (frTo x 8).length).length = 0 := by simp; omega
      have c1 : W'.cell? ⟨w.heap.size + 1, 0, none⟩ = some (.slice a 0 c) := by
        have h := hF.left.cell 0
        rw [hz] at h
        exact h
      have HFU := Lib.hid hfull
      clear hF hfull hz
      refine wpAt_seq (wpAt_of (n := 9) ?_)
      gi_wp2_with fail
      refine wpAt_of (n := 9) ?_
      gi_wp2_with fail
      refine ⟨by simp, .inl ⟨_, _, rfl, run_takeDeferred hK, ?_⟩⟩
      exact ⟨_, results_none rfl _ _ _, rfq_yes (Nat.le_refl _) HFU.out HP.out _⟩
    · have hlt : (frTo x 8).length < hs.length := by have := hF.le; omega
      obtain ⟨a, c, rfl, _, _⟩ := hF.ba
      obtain ⟨m, hm⟩ : ∃ m, m = (hs.drop (frTo x 8).length).length := ⟨_, rfl⟩
      have c1 : W'.cell? ⟨w.heap.size + 1, 0, none⟩ = some (.slice a (hs.drop (frTo x 8).length).length c) := hF.left.cell 0
      rw [← hm] at c1
      have hm0 : 0 < m := by rw [hm]; simp; omega
      have hm1 : (0 : Int) < (m : Int) := by omega
      have HLT := Lib.hid hlt
      clear hF hfull hlt hm
      refine wpAt_seq (wpAt_of (n := 9) ?_)
      gi_wp2_with fail
      refine wpAt_of (n := 9) ?_
      gi_wp2_with fail
      refine ⟨by simp, .inl ⟨_, _, rfl, run_takeDeferred hK, ?_⟩⟩
      exact .inr ⟨fills_bad2 HLT.out, rfl, HP.out.but⟩
  case stop =>
    rintro D' c pre W' hD' ⟨⟨rfl, y, hy, hl2, hpl⟩, lane, h, lv, wv, hF⟩ hK
    rw [hpl, Nat.add_sub_cancel] at hF
    have hP := (FV.own (β := Unit) hDl (B := W1.heap.size) (by omega)).putObj (s := ()) (.deferred none) hF hD' hK rfl
    have HP := Lib.hid hP
    clear hP
    obtain ⟨a, c, rfl, _, _⟩ := hF.ba
    have hz : (hs.drop (frTo x y).length).length = 0 := by simp; omega
    have c1 : W'.cell? ⟨w.heap.size + 1, 0, none⟩ = some (.slice a 0 c) := by
      have h := hF.left.cell 0
      rw [hz] at h
      exact h
    have HFU := Lib.hid hl2
    have HY := Lib.hid hy
    clear hF hl2 hz hpl hy
    refine wpIn_exit ?_
    refine wpAt_seq (wpAt_of (n := 9) ?_)
    gi_wp2_with fail
    refine wpAt_of (n := 9) ?_
    gi_wp2_with fail
    refine ⟨by simp, .inl ⟨_, _, rfl, run_takeDeferred hK, ?_⟩⟩
    exact ⟨_, results_none rfl _ _ _, rfq_yes HY.out HFU.out HP.out _⟩
  case pan =>
    rintro D' ch pre W' hD' ⟨⟨rfl, hE⟩, hb⟩ hK
    refine ⟨by simp, .inl ⟨_, _, rfl, run_takeDeferred hK, ?_⟩⟩
    exact .inr ⟨hE, rfl, (ownFrom_but (β := Unit) (Nat.le_refl _) (B := W1.heap.size) (by omega)).putObj (s := ()) _ hb hD' hK rfl⟩
end Go.Proofs
