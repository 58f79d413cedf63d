/- slices.Backward and slices.All of turns; run. -/
import Derived.Test.YtmkpjpdjjdmklaaKk
namespace Go.Proofs
open Go.RowKit Go.Shelf
attribute [local go_sem] Oper.semAt_some

/-- Beneath h all but block x is as it was. -/
structure But (h x : Nat) (A B : World) : Prop where
  os : B.os = A.os
  tape : B.tape = A.tape
  output : B.output = A.output
  size : A.heap.size ≤ B.heap.size
  block : ∀ k, k < h → k ≠ x → B.heap[k]? = A.heap[k]?
theorem But.refl (h x : Nat) (A : World) : But h x A A := ⟨rfl, rfl, rfl, Nat.le_refl _, fun _ _ _ => rfl⟩
theorem But.trans {h x : Nat} {A B C : World} (p : But h x A B) (q : But h x B C) : But h x A C :=
  ⟨q.os.trans p.os, q.tape.trans p.tape, q.output.trans p.output, Nat.le_trans p.size q.size, fun k a b => (q.block k a b).trans (p.block k a b)⟩
theorem But.of_below {h x : Nat} {A B : World} (p : Below h A B) : But h x A B := ⟨p.os, p.tape, p.output, p.size, fun k a _ => p.block k a⟩
theorem But.below {h x n₀ : Nat} {A B : World} (p : But h x A B) (h1 : n₀ ≤ h) (h2 : n₀ ≤ x) : Below n₀ A B := ⟨p.os, p.tape, p.output, p.size, fun k a => p.block k (by omega) (by omega)⟩
theorem But.drew {h x : Nat} {A B : World} (p : But h x A B) : But h x A B.drew := ⟨p.os, p.tape, p.output, p.size, p.block⟩
theorem But.drewN {h x : Nat} {A B : World} (p : But h x A B) (n : Nat) : But h x A (B.drewN n) := ⟨p.os, p.tape, p.output, p.size, p.block⟩
theorem But.setCell {h x : Nat} {A B : World} (p : But h x A B) (o : Nat) (v : Value) : But h x A (B.setCell ⟨x, o, none⟩ v) :=
  p.trans ⟨rfl, rfl, rfl, by simp [World.setCell], fun k _ b => Below.heap_setCell _ _ _ _ b⟩
theorem But.alloc {h x : Nat} {A B : World} (p : But h x A B) (hB : h ≤ B.heap.size) (o : Obj) : But h x A (B.alloc o) :=
  p.trans ⟨rfl, rfl, rfl, by simp, fun k a _ => Below.heap_alloc _ _ _ (by omega)⟩
theorem But.cell {h x : Nat} {A B : World} (p : But h x A B) {a : Addr} (h1 : a.block < h) (h2 : a.block ≠ x) : B.cell? a = A.cell? a := World.cell?_of_block (w := A) (p.block a.block h1 h2)
theorem But.frozen {h x : Nat} {A B : World} (p : But h x A B) {a : Addr} (h1 : a.block < h) (h2 : a.block ≠ x) : B.frozen? a = A.frozen? a := World.frozen?_of_block (w := A) (p.block a.block h1 h2)
theorem but_t {h x : Nat} {A B C : World} (p : But h x A B) (q : But h x B C) : But h x A C := p.trans q
theorem but_b {h x : Nat} {w : World} (hn : h ≤ w.heap.size) (W : World) (l : Nat) (o o' : Obj) (hl : w.heap.size ≤ l) (hh : W.heap[l]? = some o) (_ : o.isCells = false) (_ : o.isWalk = false) : But h x W (W.putObj l o') :=
  .of_below (belowK_b hn W l o o' hl hh (by assumption) (by assumption))
theorem ownFrom_but {β : Type} {h x B : Nat} {w₀ : World} (hn : h ≤ w₀.heap.size) (hB : h ≤ B) : OwnFrom B (fun (_ : β) W => But h x w₀ W) :=
  fun _ _ _ _ hs hg hr => hs.trans ⟨hg.os, hg.tape, hg.output, hg.size, fun k hk _ => hg.block k (by have := hs.size; omega) (fun e => by have := (hr k e.symm).1; omega)⟩

theorem room_none {F : Fence} (hd : F.depth = none) (k : Nat) : F.room k := fun d h => by rw [hd] at h; cases h
theorem yield_any {F : Fence} (hd : F.depth = none) {m : Nat} (m' : Nat) {P : Program} {l : Nat} {args : Array Value} {W : World} {R : Ending → World → Prop} (h : YieldAt F m P l args W R) : YieldAt F m' P l args W R := by
  obtain ⟨fn, tmps, asg, body, hy, hR⟩ := h
  exact ⟨fn, tmps, asg, body, hy, hR.1, fun c cs _ => hR.2 c cs (room_none hd _)⟩

theorem Rows8.own {β : Type} (B : Nat) (t : TypeId) (f : β → Array Value) : Own (fun (s : β) W => Rows8 W B t (f s)) := fun s X Y row hs hg hr =>
  (hg.block B hs.lt (fun e => by obtain ⟨o, ho, hc⟩ := hr B e.symm; rw [show X.heap[B]? = _ from hs] at ho; cases ho; cases hc)).trans hs
theorem ownFrom_mono {β : Type} {B B' : Nat} {I : β → World → Prop} (h : OwnFrom B I) (hB : B ≤ B') : OwnFrom B' I := fun s X Y row hs hg hr => h s X Y row hs hg (fun r e => ⟨Nat.le_trans hB (hr r e).1, (hr r e).2⟩)

/-- A turn with where its row lies. -/
structure Rt (w₀ : World) where
  a : Option Addr
  c : Nat
  t : Tn
  ok : IntsAt w₀ (.slice a t.can.length c) t.can
instance (w₀ : World) : Inhabited (Rt w₀) := ⟨⟨none, 0, ⟨[], 0⟩, ints_none w₀⟩⟩
def RawAt {w₀ : World} (W : World) (x : Option Addr) (rs : List (Rt w₀)) : Prop := ∀ j (h : j < rs.length), ∃ b off, x = some ⟨b, off, none⟩ ∧ b < W.heap.size ∧ W.cell? ⟨b, off + j * 2, none⟩ = some (.slice rs[j].a rs[j].t.can.length rs[j].c) ∧ W.cell? ⟨b, off + j * 2 + 1, none⟩ = some (.int .i64 rs[j].t.ch)
theorem turnsAt_raw {W : World} {x : Option Addr} {n cap : Nat} {ts : List Tn} (h : TurnsAt W (.slice x n cap) ts) : ∃ rs : List (Rt W), rs.map Rt.t = ts ∧ rs.length = n ∧ RawAt W x rs := by
  have hn := (turnsAt_len h).1
  have each : ∀ j, j < ts.length → ∃ r : Rt W, r.t = ts[j]?.getD ⟨[], 0⟩ ∧ ∃ b off, x = some ⟨b, off, none⟩ ∧ b < W.heap.size ∧ W.cell? ⟨b, off + j * 2, none⟩ = some (.slice r.a r.t.can.length r.c) ∧ W.cell? ⟨b, off + j * 2 + 1, none⟩ = some (.int .i64 r.t.ch) := by
    intro j hj
    obtain ⟨b, off, a, c, e, hb, h1, h2, h3⟩ := turnsAt_get h j hj
    exact ⟨⟨a, c, ts[j], h3⟩, by simp [hj], b, off, e, hb, h1, h2⟩
  obtain ⟨f, hf⟩ := Go.Deep.choose_lt each
  have hl : ((List.range ts.length).map f).length = ts.length := by simp
  refine ⟨(List.range ts.length).map f, ?_, by rw [hl, hn], fun j hj => ?_⟩
  · apply List.ext_getElem
    · simp
    · intro i h1 h2
      have := (hf i h2).1
      simp [this, h2]
  · rw [hl] at hj
    have := (hf j hj).2
    simpa using this
theorem RawAt.below {w₀ A B : World} {x : Option Addr} {rs : List (Rt w₀)} (h : RawAt A x rs) (hB : Below A.heap.size A B) : RawAt B x rs := by
  intro j hj
  obtain ⟨b, off, e, hb, h1, h2⟩ := h j hj
  exact ⟨b, off, e, Nat.lt_of_lt_of_le hb hB.size, (hB.cell (p := ⟨b, off + j * 2, none⟩) hb).trans h1, (hB.cell (p := ⟨b, off + j * 2 + 1, none⟩) hb).trans h2⟩
/-- What a round is told. -/
def encR {w₀ : World} (x : Nat × Rt w₀) : Array Value := #[.int .i64 (x.1 : Nat), .agg #[.slice x.2.a x.2.t.can.length x.2.c, .int .i64 x.2.t.ch]]
def bwdR {w₀ : World} (rs : List (Rt w₀)) : List (Nat × Rt w₀) := (List.range rs.length).map fun k => (rs.length - 1 - k, rs[rs.length - 1 - k]?.getD default)
def fwdR {w₀ : World} (rs : List (Rt w₀)) : List (Nat × Rt w₀) := (List.range rs.length).map fun k => (k, rs[k]?.getD default)
theorem bwdR_length {w₀ : World} (rs : List (Rt w₀)) : (bwdR rs).length = rs.length := by simp [bwdR]
theorem fwdR_length {w₀ : World} (rs : List (Rt w₀)) : (fwdR rs).length = rs.length := by simp [fwdR]
theorem bwdR_get {w₀ : World} (rs : List (Rt w₀)) (k : Nat) (h : k < (bwdR rs).length) : (bwdR rs)[k] = (rs.length - 1 - k, rs[rs.length - 1 - k]?.getD default) := by simp [bwdR]
theorem fwdR_get {w₀ : World} (rs : List (Rt w₀)) (k : Nat) (h : k < (fwdR rs).length) : (fwdR rs)[k] = (k, rs[k]?.getD default) := by simp [fwdR]
theorem bwdR_turns {w₀ : World} (rs : List (Rt w₀)) : (bwdR rs).map (fun x => x.2.t) = (rs.map Rt.t).reverse := by
  apply List.ext_getElem
  · simp [bwdR]
  · intro i h1 h2
    simp only [List.length_map, bwdR_length] at h1
    have h3 : rs.length - 1 - i < rs.length := by omega
    simp [bwdR, h3]
theorem fwdR_turns {w₀ : World} (rs : List (Rt w₀)) : (fwdR rs).map (fun x => x.2.t) = rs.map Rt.t := by
  apply List.ext_getElem
  · simp [fwdR]
  · intro i h1 h2
    simp only [List.length_map, fwdR_length] at h1
    simp [fwdR, h1]
theorem Try.backward_any (a : Option Addr) (len cap : Nat) (w : World) :
    Calls Try.prog 49 #[.slice a len cap] w fun e w' => e = .returned (.func (.func 59) #[] #[.pointer (some ⟨w.heap.size, 0, none⟩)]) ∧ w' = w.alloc (.cells #[.slice a len cap] 32) := by
  go_enter Try.func49, Try.ntmps49
  go_wp2
  go_ret
  exact ⟨rfl, rfl⟩
theorem Try.all_any (a : Option Addr) (len cap : Nat) (w : World) :
    Calls Try.prog 58 #[.slice a len cap] w fun e w' => e = .returned (.func (.func 61) #[] #[.pointer (some ⟨w.heap.size, 0, none⟩)]) ∧ w' = w.alloc (.cells #[.slice a len cap] 32) := by
  go_enter Try.func58, Try.ntmps58
  go_wp2
  go_ret
  exact ⟨rfl, rfl⟩

set_option maxRecDepth 100000 in
set_option maxHeartbeats 2000000 in
theorem Try.backward1_in (F : Fence) (n : Nat) (hF : F.fn 59) (hro : F.round = none) (hn : 1 ≤ n) (l Bs h x : Nat) (a : Option Addr) (cap : Nat) {w₀ : World} (rs : List (Rt w₀)) (hlen : rs.length ≤ 100000) (J Jx : List (Nat × Rt w₀) → World → Prop)
    (hY : ∀ pre (y : Nat × Rt w₀) W, J pre W → pre.length < rs.length → YieldAt F (n - 1) Try.prog l (encR y) W fun e W' =>
      (e = .returned (.bool true) ∧ J (pre ++ [y]) W' ∧ But h x W W') ∨ (e = .returned (.bool false) ∧ Jx (pre ++ [y]) W'))
    (w W : World) (hwh : w.heap.size ≤ h) (hwx : w.heap.size ≤ x) (hwW : Below w.heap.size w W) (hBs : Rows8 w Bs 32 #[.slice a rs.length cap]) (hM : RawAt w a rs) (h0 : J [] W) :
    CallsIn F n Try.prog 59 #[.func (.yield l) #[] #[], .pointer (some ⟨Bs, 0, none⟩)] W fun e W' => (∃ v, e = .returned v) ∧
      ((∃ ys, ys = bwdR rs ∧ J ys W') ∨ (∃ pre, pre <+: bwdR rs ∧ Jx pre W')) := by
  have HM := Lib.hid hM
  have HBS := Lib.hid hBs
  have HwW := Lib.hid hwW
  have hbs0 := (hBs.below hwW hBs.lt).cell 0
  simp at hbs0
  clear hM hBs hwW
  refine callsIn_of_wp Try.func59 rfl hF ?_ hro
  simp only [Try.ntmps59, List.size_toArray, List.length_cons, List.length_nil, Nat.reduceAdd, Nat.reduceSub, Array.replicate_succ, Array.replicate_zero, List.push_toArray, List.append_toArray, List.nil_append, List.cons_append]
  have hw0 : IntKind.i64.wrap ((rs.length : Int) - 1) = (rs.length : Int) - 1 := IntWalk.i64_in _ (by omega)
  gi_wp2
  gi_loopw [3] (fun i wr => ∃ k : Nat, k ≤ rs.length ∧ i = .int .i64 ((rs.length : Int) - 1 - k) ∧ J ((bwdR rs).take k) wr ∧ But h x W wr)
    (fun i _ => (intOf i + 1).toNat)
  case atStart => exact ⟨0, Nat.zero_le _, by simp, h0, But.refl _ _ _⟩
  case round =>
    obtain ⟨k, hk, rfl, hJs, hnx⟩ := hrel
    by_cases hlt : k < rs.length
    · have hlt' : k < (bwdR rs).length := by rw [bwdR_length]; exact hlt
      have hbw : Below w.heap.size w wr := HwW.out.trans (hnx.below hwh hwx)
      obtain ⟨b, off, rfl, hb, q0, q1⟩ := (HM.out.below hbw) (rs.length - 1 - k) (by omega)
      have hbs := (HBS.out.below hbw HBS.out.lt).cell 0
      simp at hbs
      have ht := take_snoc (bwdR rs) k hlt'
      rw [bwdR_get rs k hlt'] at ht
      obtain ⟨fn, tmps, assign, body, hy, hR⟩ := hY _ (rs.length - 1 - k, rs[rs.length - 1 - k]?.getD default) wr hJs (by rw [List.length_take]; omega)
      have hgd : rs[rs.length - 1 - k]?.getD default = rs[rs.length - 1 - k]'(by omega) := by simp [show rs.length - 1 - k < rs.length by omega]
      rw [hgd] at hy hR ht
      generalize rs[rs.length - 1 - k]'(by omega) = m at *
      have hi : ∃ i : Nat, i = rs.length - 1 - k := ⟨_, rfl⟩
      obtain ⟨i, hi⟩ := hi
      rw [← hi] at hy hR ht q0 q1
      have ei : (rs.length : Int) - 1 - (k : Int) = (i : Int) := by omega
      rw [ei]
      have hil : 0 ≤ (i : Int) ∧ (i : Int) < (rs.length : Int) := by omega
      have hil0 : ¬ (i : Int) < 0 := by omega
      have hw1 : IntKind.i64.wrap ((i : Int) - 1) = (i : Int) - 1 := IntWalk.i64_in _ (by omega)
      unfold encR at hy
      dsimp only at hy
      have HT := Lib.hid ht
      have HEI := Lib.hid ei
      clear ht hi ei hgd
      gi_wp2
      refine hR.mono ?_
      rintro e W3 (⟨rfl, hJ3, hk3⟩ | ⟨rfl, hJx3⟩)
      · gi_wp2
        have ei := HEI.out
        go_roundw
        case rel => exact ⟨k + 1, by omega, by first | (simp; done) | (simp; omega), by rw [HT.out]; exact hJ3, hnx.trans hk3⟩
        case measure => (first | (simp [intOf]; done) | (simp [intOf]; omega))
      · gi_wp2
        refine bodyPost_ret (results_none rfl _ _ _) rfl ?_
        exact ⟨⟨_, rfl⟩, .inr ⟨_, List.take_prefix (k + 1) (bwdR rs), by rw [HT.out]; exact hJx3⟩⟩
    · obtain rfl : k = rs.length := by omega
      have ei : (rs.length : Int) - 1 - (rs.length : Int) = -1 := by omega
      rw [ei]
      gi_wp2
      go_end0
      exact ⟨⟨_, rfl⟩, .inl ⟨_, rfl, by rw [List.take_of_length_le (by rw [bwdR_length]; omega)] at hJs; exact hJs⟩⟩

set_option maxRecDepth 100000 in
set_option maxHeartbeats 2000000 in
theorem Try.all1_in (F : Fence) (n : Nat) (hF : F.fn 61) (hro : F.round = none) (hn : 1 ≤ n) (l Bs h x : Nat) (a : Option Addr) (cap : Nat) {w₀ : World} (rs : List (Rt w₀)) (hlen : rs.length ≤ 100000) (J Jx : List (Nat × Rt w₀) → World → Prop)
    (hJa : ∀ s A o, J s A → J s (A.alloc o))
    (hY : ∀ pre (y : Nat × Rt w₀) W, J pre W → pre.length < rs.length → YieldAt F (n - 1) Try.prog l (encR y) W fun e W' =>
      (e = .returned (.bool true) ∧ J (pre ++ [y]) W' ∧ But h x W W') ∨ (e = .returned (.bool false) ∧ Jx (pre ++ [y]) W'))
    (w W : World) (hwh : w.heap.size ≤ h) (hwx : w.heap.size ≤ x) (hhW : h ≤ W.heap.size) (hwW : Below w.heap.size w W) (hBs : Rows8 w Bs 32 #[.slice a rs.length cap]) (hM : RawAt w a rs) (h0 : J [] W) :
    CallsIn F n Try.prog 61 #[.func (.yield l) #[] #[], .pointer (some ⟨Bs, 0, none⟩)] W fun e W' => (∃ v, e = .returned v) ∧
      ((∃ ys, ys = fwdR rs ∧ J ys W') ∨ (∃ pre, pre <+: fwdR rs ∧ Jx pre W')) := by
  have HM := Lib.hid hM
  have HBS := Lib.hid hBs
  have HwW := Lib.hid hwW
  have hbs0 := (hBs.below hwW hBs.lt).cell 0
  simp at hbs0
  clear hM hBs hwW
  refine callsIn_of_wp Try.func61 rfl hF ?_ hro
  simp only [Try.ntmps61, List.size_toArray, List.length_cons, List.length_nil, Nat.reduceAdd, Nat.reduceSub, Array.replicate_succ, Array.replicate_zero, List.push_toArray, List.append_toArray, List.nil_append, List.cons_append]
  gi_wp2
  gi_loopw [7] (fun i wr => ∃ k : Nat, k ≤ rs.length ∧ i = .int .i64 k ∧ J ((fwdR rs).take k) wr ∧ But h x W wr)
    (fun i _ => rs.length - (intOf i).toNat)
  case atStart => exact ⟨0, Nat.zero_le _, by simp, h0, But.refl _ _ _⟩
  case round =>
    obtain ⟨k, hk, rfl, hJs, hnx⟩ := hrel
    by_cases hlt : k < rs.length
    · have hlt' : k < (fwdR rs).length := by rw [fwdR_length]; exact hlt
      have hbw : Below w.heap.size w wr := HwW.out.trans (hnx.below hwh hwx)
      obtain ⟨b, off, rfl, hb, q0, q1⟩ := (HM.out.below hbw) k hlt
      have ht := take_snoc (fwdR rs) k hlt'
      rw [fwdR_get rs k hlt'] at ht
      have hgd : rs[k]?.getD default = rs[k] := by simp [hlt]
      rw [hgd] at ht
      generalize rs[k] = m at *
      obtain ⟨fn, tmps, assign, body, hy, hR⟩ := hY _ (k, m) (wr.alloc (.cells #[.slice m.a m.t.can.length m.c, .int .i64 m.t.ch] 47)) (hJa _ _ _ hJs) (by rw [List.length_take]; omega)
      have hsz := hnx.size
      unfold encR at hy
      dsimp only at hy
      have hki : (k : Int) < (rs.length : Int) := by omega
      have HT := Lib.hid ht
      clear ht hgd
      gi_wp2
      refine hR.mono ?_
      rintro e W3 (⟨rfl, hJ3, hk3⟩ | ⟨rfl, hJx3⟩)
      · gi_wp2
        go_roundw
        case rel => exact ⟨k + 1, by omega, by simp, by rw [HT.out]; exact hJ3, (hnx.alloc (by omega) _).trans hk3⟩
        case measure => simp [intOf]; omega
      · gi_wp2
        refine bodyPost_ret (results_none rfl _ _ _) rfl ?_
        exact ⟨⟨_, rfl⟩, .inr ⟨_, List.take_prefix (k + 1) (fwdR rs), by rw [HT.out]; exact hJx3⟩⟩
    · obtain rfl : k = rs.length := by omega
      gi_wp2
      go_end0
      exact ⟨⟨_, rfl⟩, .inl ⟨_, rfl, by rw [List.take_of_length_le (by rw [fwdR_length]; omega)] at hJs; exact hJs⟩⟩

theorem abides_alloc {β : Type} {B : Nat} {J : β → World → Prop} (h : AbidesFrom B J) (s : β) (A : World) (o : Obj) (hs : J s A) : J s (A.alloc o) :=
  h s A _ none hs (World.grownBy_alloc A o none) (fun _ e => by cases e)
theorem keepsFrom_below {B : Nat} {W W' : World} (p : Below W.heap.size W W') : KeepsFrom B W W' := ⟨p.size, fun k _ _ ho _ => (p.block k (Array.getElem?_eq_some_iff.1 ho).1).trans ho⟩

/-- What an iterator over turns tells. -/
def TellsR (P : Program) (gf : FuncId) (lb : Array Value) {w₀ : World} (xs : List (Nat × Rt w₀)) (w : World) : Prop :=
  ∀ (h x : Nat) (W0 : World), Below w.heap.size w W0 → h = W0.heap.size → w.heap.size ≤ x →
    SeqStopsK Fence.wide 2 P gf lb (encR (w₀ := w₀)) (But h x) (fun ys => ys = xs) (fun pre => pre <+: xs) xs.length W0
theorem Try.backward_stops (Bs : Nat) (a : Option Addr) (cap : Nat) {w₀ : World} (rs : List (Rt w₀)) (hlen : rs.length ≤ 100000) (w : World) (hBs : Rows8 w Bs 32 #[.slice a rs.length cap]) (hM : RawAt w a rs) :
    TellsR Try.prog 59 #[.pointer (some ⟨Bs, 0, none⟩)] (bwdR rs) w := fun h x W0 hW0 hh hx l J Jx W hW _ _ hY h0 => by
  rw [bwdR_length] at hY
  exact Try.backward1_in Fence.wide 2 trivial rfl (by decide) l Bs h x a cap rs hlen J Jx hY w W (by have := hW0.size; omega) hx (hW0.trans (hW.mono hW0.size)) hBs hM h0
theorem Try.all_stops (Bs : Nat) (a : Option Addr) (cap : Nat) {w₀ : World} (rs : List (Rt w₀)) (hlen : rs.length ≤ 100000) (w : World) (hBs : Rows8 w Bs 32 #[.slice a rs.length cap]) (hM : RawAt w a rs) :
    TellsR Try.prog 61 #[.pointer (some ⟨Bs, 0, none⟩)] (fwdR rs) w := fun h x W0 hW0 hh hx l J Jx W hW hJ _ hY h0 => by
  rw [fwdR_length] at hY
  exact Try.all1_in Fence.wide 2 trivial rfl (by decide) l Bs h x a cap rs hlen J Jx (fun s A o hs => abides_alloc hJ s A o hs) hY w W (by have := hW0.size; omega) hx (by have := hW.size; omega) (hW0.trans (hW.mono hW0.size)) hBs hM h0
end Go.Proofs
