/- copied; a cell that is tried. -/
import Derived.Test.YtafccppobhhelaaCa
namespace Go.Proofs
open Go.RowKit Go.Shelf
attribute [local go_sem] Oper.semAt_some

theorem Try.infoWord : (Try.prog.info? 25).map (fun i => (i.zero, i.size, i.bytes)) = some (some (.int .u64 0), 1, 8) := by kernel_rfl
def WordsQ (ws : List Int) (w : World) (e : Ending) (w' : World) : Prop := ∃ v, e = .returned v ∧ OwnsWords w.heap.size ws v w' ∧ Below w.heap.size w w'
theorem words_cells {n₀ : Nat} {ws : List Int} {v : Value} {W : World} (h : OwnsWords n₀ ws v W) (hp : 0 < ws.length) :
    ∃ g cap, v = .slice (some ⟨g, 0, none⟩) ws.length cap ∧ n₀ ≤ g ∧ g < W.heap.size ∧ ws.length ≤ cap ∧ cap ≤ maxLen := by
  rcases h.2 with ⟨_, h0⟩ | ⟨g, cap, cur, rfl, hg, hh, hl, hm, _⟩
  · omega
  · exact ⟨g, cap, rfl, hg, (Array.getElem?_eq_some_iff.1 hh).1, hl, hm⟩
theorem words_cell {n₀ g cap : Nat} {ws : List Int} {W : World} (h : OwnsWords n₀ ws (.slice (some ⟨g, 0, none⟩) ws.length cap) W) (j : Nat) (hj : j < ws.length) : W.cell? ⟨g, j, none⟩ = some (.int .u64 (ws[j]?.getD 0)) := by
  rw [World.ownsRow.cellAt h j (by omega)]
  exact wordVals_get ws j hj
theorem words_frozen {n₀ g cap : Nat} {ws : List Int} {W : World} (h : OwnsWords n₀ ws (.slice (some ⟨g, 0, none⟩) ws.length cap) W) (j : Nat) : W.frozen? ⟨g, j, none⟩ = false := World.ownsRow.frozenAt h j

set_option maxHeartbeats 1000000 in
theorem Try.copied_any (ws : List Int) (hp : 0 < ws.length) (hl : ws.length ≤ 8192) (v : Value) (w : World) (hI : WordsAt w v ws) :
    Calls Try.prog 64 #[v] w (WordsQ ws w) := by
  obtain ⟨i0, hi, hz0, hz1, hz2⟩ := info_parts Try.infoWord
  obtain ⟨_, a, cap, rfl, hlc, hcm, _, hc⟩ := hI
  obtain ⟨b, off, rfl, hb, _⟩ := hc 0 (by rw [wordVals_length]; exact hp)
  have HC := Lib.hid hc
  clear hc
  go_enter Try.func64, Try.ntmps64
  go_wp2_with (at_make; refine wpList_make_full _ rfl _ _ 22 rfl w.heap.size 25 i0 (.int .u64 0) 1 Try.underlying22 hi hz0 hz1 .i64 .i64 _ _ ws.length rfl rfl rfl rfl ?c1 ?c2 ?c3 ?_)
  case c1 => rw [hz2]; omega
  case c2 => unfold maxLen; omega
  case c3 => exact Nat.le_refl _
  intro w1 hown hgrow
  have hB1 : Below w.heap.size w w1 := (Below.refl _ w).grown hgrow (Nat.le_refl _) (fun j ej => by cases ej)
  have h2 := hown.2
  rcases h2 with ⟨h2, _⟩ | ⟨g, cp, cur, h2, hg, hh, hlen, hm, hsz, htk⟩
  · cases h2
  · injection h2 with e1 e2 e3
    injection e1 with e1
    injection e1 with e1
    subst e1
    subst e3
    have HH := Lib.hid hh
    have HB1 := Lib.hid hB1
    clear hown hgrow hh hB1
    go_wp2_with (refine wpList_copy_own rfl _ _ 22 22 rfl 25 Try.underlying22 (by kernel_rfl) w.heap.size 0 ws.length ws.length ⟨b, off, none⟩ ws.length cap rfl rfl cur 25 HH.out (wordVals ws) ?d1 ?d2 ?d3 ?d4 ?_)
    case d2 =>
      intro j u hu
      have hj := (List.getElem?_eq_some_iff.1 hu).1
      obtain ⟨b', off', e, _, h3⟩ := HC.out j hj
      cases e
      have hadd : (⟨b, off, none⟩ : Addr).add j = ⟨b, off + j, none⟩ := by unfold Addr.add; split <;> simp_all
      exact ((HB1.out.cell (p := ⟨b, off + j, none⟩) hb).trans h3).trans hu
    case d4 => exact wordVals_one ws
    have hcur : (wordVals ws ++ List.drop ws.length cur.toList) = wordVals ws := by
      rw [List.drop_eq_nil_of_le (by rw [Array.length_toList]; omega)]
      simp
    rw [hcur]
    have hO : OwnsWords w.heap.size ws (.slice (some ⟨w.heap.size, 0, none⟩) ws.length ws.length) (w1.setRow w.heap.size (wordVals ws).toArray) :=
      ⟨by rw [wordVals_length]; omega, .inr ⟨w.heap.size, ws.length, (wordVals ws).toArray, rfl, Nat.le_refl _, setRow_heap w1 w.heap.size cur _ _ _ HH.out, Nat.le_refl _, hm, by simp [wordVals_length], by simp [wordVals_length, List.take_of_length_le]⟩⟩
    have hB2 := below_setRow HB1.out (Nat.le_refl w.heap.size) (wordVals ws).toArray
    have HO := Lib.hid hO
    clear hO hcur
    go_ret
    exact ⟨_, rfl, HO.out, hB2⟩

theorem Try.atomCas_any (b k : Nat) (h o n : Int) (w : World) (hc : w.cell? ⟨b, k, none⟩ = some (.int .u64 h)) (hf : w.frozen? ⟨b, k, none⟩ = false) :
    Calls Try.prog 162 #[.pointer (some ⟨b, k, none⟩), .int .u64 o, .int .u64 n] w fun e w' => e = .returned (.bool (h == o)) ∧ w' = if h = o then w.setCell ⟨b, k, none⟩ (.int .u64 n) else w := by
  by_cases he : h = o
  · subst he
    have hl := run_call_cas_hit (P := Try.prog) Try.func163 (by kernel_rfl) (by kernel_rfl) (by kernel_rfl) .u64 (by kernel_rfl) (y := n) hc hf
    rw [if_pos rfl]
    go_enter Try.func162, Try.ntmps162
    go_wp2
    go_ret
    exact ⟨by simp, rfl⟩
  · have hl := run_call_cas_miss (P := Try.prog) Try.func163 (by kernel_rfl) (by kernel_rfl) (by kernel_rfl) .u64 (by kernel_rfl) (o := o) (y := n) hc hf he
    rw [if_neg he]
    go_enter Try.func162, Try.ntmps162
    go_wp2
    go_ret
    exact ⟨by simp [he], rfl⟩

theorem Try.atomStore_any (b k : Nat) (u : Value) (n : Int) (w : World) (hc : w.cell? ⟨b, k, none⟩ = some u) (hf : w.frozen? ⟨b, k, none⟩ = false) :
    Calls Try.prog 74 #[.pointer (some ⟨b, k, none⟩), .int .u64 n] w fun e w' => (∃ v, e = .returned v) ∧ w' = w.setCell ⟨b, k, none⟩ (.int .u64 n) := by
  have hl := run_call_store (P := Try.prog) Try.func98 (by kernel_rfl) (by kernel_rfl) (by kernel_rfl) (by kernel_rfl) (k := .u64) (y := n) hc hf
  go_enter Try.func74, Try.ntmps74
  go_wp2
  go_end0
  exact ⟨⟨_, rfl⟩, rfl⟩

/-- A block of cells. -/
def Rows8 (W : World) (B : Nat) (t : TypeId) (cs : Array Value) : Prop := W.heap[B]? = some (.cells cs t (0, 0))
theorem Rows8.lt {W : World} {B : Nat} {t : TypeId} {cs : Array Value} (h : Rows8 W B t cs) : B < W.heap.size := (Array.getElem?_eq_some_iff.1 h).1
theorem Rows8.cell {W : World} {B : Nat} {t : TypeId} {cs : Array Value} (h : Rows8 W B t cs) (o : Nat) : W.cell? ⟨B, o, none⟩ = cs[o]? := by simp [World.cell?, show W.heap[B]? = _ from h]
theorem Rows8.frozen {W : World} {B : Nat} {t : TypeId} {cs : Array Value} (h : Rows8 W B t cs) (o : Nat) : W.frozen? ⟨B, o, none⟩ = false := by simp [World.frozen?, show W.heap[B]? = _ from h]
theorem Rows8.new (W : World) (t : TypeId) (cs : Array Value) : Rows8 (W.alloc (.cells cs t)) W.heap.size t cs := World.alloc_heap_new W _
theorem Rows8.alloc {W : World} {B : Nat} {t : TypeId} {cs : Array Value} (h : Rows8 W B t cs) (o : Obj) : Rows8 (W.alloc o) B t cs := (Below.heap_alloc _ _ _ h.lt).trans h
theorem Rows8.set {W : World} {B : Nat} {t : TypeId} {cs : Array Value} (h : Rows8 W B t cs) (o : Nat) (v : Value) : Rows8 (W.setCell ⟨B, o, none⟩ v) B t (cs.setIfInBounds o v) := by
  obtain ⟨hlt, hk⟩ := Array.getElem?_eq_some_iff.1 h
  show (W.heap.modify B _)[B]? = _
  rw [Array.getElem?_eq_getElem (by rw [Array.size_modify]; exact hlt), Array.getElem_modify_self, hk]
  rfl
theorem Rows8.set2 {W : World} {B : Nat} {t : TypeId} {a b : Value} (h : Rows8 W B t #[a, b]) (u v : Value) : Rows8 ((W.setCell ⟨B, 0, none⟩ u).setCell ⟨B, 1, none⟩ v) B t #[u, v] := by
  have h1 := (h.set 0 u).set 1 v
  simp only [List.setIfInBounds_toArray, List.set_cons_zero, List.set_cons_succ] at h1
  exact h1
theorem Rows8.setOther {W : World} {B : Nat} {t : TypeId} {cs : Array Value} (h : Rows8 W B t cs) {a : Addr} (ha : a.block ≠ B) (v : Value) : Rows8 (W.setCell a v) B t cs := by
  have h' : W.heap[B]? = _ := h
  show (W.heap.modify a.block _)[B]? = _
  rw [Array.getElem?_modify, if_neg ha]
  exact h'
theorem Rows8.below {A B : World} {h b : Nat} {t : TypeId} {cs : Array Value} (r : Rows8 A b t cs) (p : Below h A B) (h1 : b < h) : Rows8 B b t cs := (p.block b h1).trans r

/-- A hand's value: an access, and its cell behind an interface. -/
def handVal (who kind pl old new : Int) (c : Value) : Array Value := #[.int .i64 who, .int .i64 kind, .int .i64 pl, .int .u64 old, .int .u64 new, c]
/-- The block of a hand that a closure has captured. -/
def HandAt (W : World) (B : Nat) (who kind pl old new : Int) (c : Value) : Prop := W.heap[B]? = some (.cells (handVal who kind pl old new c) 106 (0, 0))
theorem HandAt.cell {W : World} {B : Nat} {who kind pl old new : Int} {c : Value} (h : HandAt W B who kind pl old new c) (o : Nat) : W.cell? ⟨B, o, none⟩ = (handVal who kind pl old new c)[o]? := by simp [World.cell?, show W.heap[B]? = _ from h]

theorem Try.store1_any (B : Nat) (held who kind pl old new : Int) (c : Value) (w : World) (hH : HandAt w B who kind pl old new c) :
    Calls Try.prog 119 #[.int .u64 held, .pointer (some ⟨B, 0, none⟩)] w fun e w' => e = .returned (.tuple #[.int .u64 new, .bool true]) ∧ Below w.heap.size w w' := by
  have h4 := hH.cell 4
  simp [handVal] at h4
  go_enter Try.func119, Try.ntmps119
  go_wp2
  go_ret2
  exact ⟨rfl, Below.refl _ _⟩
theorem Try.add1_any (B : Nat) (held who kind pl old new : Int) (c : Value) (w : World) (hH : HandAt w B who kind pl old new c) :
    Calls Try.prog 121 #[.int .u64 held, .pointer (some ⟨B, 0, none⟩)] w fun e w' => e = .returned (.tuple #[.int .u64 (IntKind.u64.wrap (held + new)), .bool true]) ∧ Below w.heap.size w w' := by
  have h4 := hH.cell 4
  simp [handVal] at h4
  go_enter Try.func121, Try.ntmps121
  go_wp2
  go_ret2
  exact ⟨by simp, Below.refl _ _⟩
theorem Try.swap1_any (B : Nat) (held who kind pl old new : Int) (c : Value) (w : World) (hH : HandAt w B who kind pl old new c) :
    Calls Try.prog 120 #[.int .u64 held, .pointer (some ⟨B, 0, none⟩)] w fun e w' => e = .returned (.tuple #[.int .u64 new, .bool (held == old)]) ∧ Below w.heap.size w w' := by
  have h4 := hH.cell 4
  have h3 := hH.cell 3
  simp [handVal] at h3 h4
  go_enter Try.func120, Try.ntmps120
  go_wp2_with fail
  go_quiet (fail)
  go_wp2
  go_ret2
  exact ⟨by simp, (Below.refl _ w).trans ⟨rfl, rfl, rfl, Nat.le_refl _, fun _ _ => rfl⟩⟩

theorem below_setBoth {h : Nat} {A B : World} (p : Below h A B) {a : Addr} (v : Value) : Below h (A.setCell a v) (B.setCell a v) := by
  refine ⟨p.os, p.tape, p.output, by simpa [World.setCell] using p.size, fun k hk => ?_⟩
  have hb := p.block k hk
  by_cases e : k = a.block
  · subst e
    simp only [World.setCell, Array.getElem?_modify, hb]
  · simp only [World.setCell, Array.getElem?_modify, hb, if_neg (fun h : a.block = k => e h.symm)]

set_option maxRecDepth 100000 in
set_option maxHeartbeats 2000000 in
/-- A cell is tried: next says is, if wanted. -/
theorem Try.try_gen (T : TypeId) (v : Value) (KL KC F : FuncId) (B b k : Nat) (h is : Int) (wanted : Bool) (who kind pl old new : Int) (w : World) (hb : b < w.heap.size)
    (mL : ∀ W, (method 310 T v "Load").run Try.prog W = .ok (KL, v) W) (mC : ∀ W, (method 310 T v "CompareAndSwap").run Try.prog W = .ok (KC, v) W)
    (eL : ∀ args W, (callFunc KL args).run Try.prog W = .ok (.enter KL args) W) (eC : ∀ args W, (callFunc KC args).run Try.prog W = .ok (.enter KC args) W) (eF : ∀ args W, (callFunc F args).run Try.prog W = .ok (.enter F args) W)
    (hL : ∀ W, Below w.heap.size w W → Calls Try.prog KL #[v] W fun e w' => e = .returned (.int .u64 h) ∧ W = w')
    (hC : ∀ W, Below w.heap.size w W → Calls Try.prog KC #[v, .int .u64 h, .int .u64 is] W fun e w' => e = .returned (.bool true) ∧ w' = W.setCell ⟨b, k, none⟩ (.int .u64 is))
    (hN : ∀ W, Below w.heap.size w W → Calls Try.prog F #[.int .u64 h, .pointer (some ⟨B, 0, none⟩)] W fun e w' => e = .returned (.tuple #[.int .u64 is, .bool wanted]) ∧ Below W.heap.size W w') :
    Calls Try.prog 118 #[.agg #[.int .i64 who, .int .i64 kind, .int .i64 pl, .int .u64 old, .int .u64 new, .iface T v], .func (.func F) #[] #[.pointer (some ⟨B, 0, none⟩)]] w fun e w' =>
      e = .returned (.agg #[.int .u64 h, .bool wanted]) ∧ Below w.heap.size (if wanted = true then w.setCell ⟨b, k, none⟩ (.int .u64 is) else w) w' := by
  have HL := Lib.hid hL
  have HC := Lib.hid hC
  have HN := Lib.hid hN
  clear hL hC hN
  go_enter Try.func118, Try.ntmps118
  go_wp2
  go_step3
  go_wp2
  go_step3
  go_wp2
  have b0 := Rows8.new w 106 #[.int .i64 who, .int .i64 kind, .int .i64 pl, .int .u64 old, .int .u64 new, .iface T v]
  have b1 := Rows8.new (w.alloc (.cells #[.int .i64 who, .int .i64 kind, .int .i64 pl, .int .u64 old, .int .u64 new, .iface T v] 106)) 27 #[.int .u64 0, .bool false]
  have b0' := b0.alloc (.cells #[.int .u64 0, .bool false] 27)
  have hB0 : Below w.heap.size w ((w.alloc (.cells #[.int .i64 who, .int .i64 kind, .int .i64 pl, .int .u64 old, .int .u64 new, .iface T v] 106)).alloc (.cells #[.int .u64 0, .bool false] 27)) := ((Below.refl _ w).alloc (Nat.le_refl _) _).alloc (by simp) _
  rw [World.size_alloc] at b1
  generalize ((w.alloc (.cells #[.int .i64 who, .int .i64 kind, .int .i64 pl, .int .u64 old, .int .u64 new, .iface T v] 106)).alloc (.cells #[.int .u64 0, .bool false] 27)) = W0 at *
  clear b0
  go_loopw [5, 6, 7] (fun _ _ _ wr => wr = W0) (fun _ _ _ _ => 0)
  case atStart => rfl
  case round =>
    subst hrel
    have h5 := b0'.cell 5
    simp at h5
    go_wp2_with fail
    refine (HL.out _ hB0).mono ?_
    rintro e w' ⟨rfl, rfl⟩
    go_wp2_with fail
    refine (HN.out _ hB0).mono ?_
    rintro e W1 ⟨rfl, hB1⟩
    have hB2 := hB0.trans (hB1.mono hB0.size)
    have c0 := b0'.below hB1 b0'.lt
    have c1 := b1.below hB1 b1.lt
    have hl1 := b1.lt
    clear h5 b1 b0'
    have h5 := c0.cell 5
    have s0 := c1.cell 0
    have s1 := c1.cell 1
    have f0 := c1.frozen 0
    have f1 := c1.frozen 1
    simp at h5 s0 s1
    have HB2 := Lib.hid hB2
    clear hB2 hB1
    cases wanted with
    | false =>
      go_wp2_with fail
      rw [Exit.noGoto_ret]
      have cE := (c1.set2 (.int .u64 h) (.bool false)).set2 (.int .u64 h) (.bool false)
      refine bodyPost_ret (results_cell_row rfl _ _ (w.heap.size + 1) 27 _ (0, 0) _ rfl cE Try.underlying27 rfl (by kernel_rfl)) rfl ?_
      exact ⟨rfl, (((HB2.out.setCell (p := ⟨w.heap.size + 1, 0, none⟩) (by simp) _).setCell (p := ⟨w.heap.size + 1, 1, none⟩) (by simp) _).setCell (p := ⟨w.heap.size + 1, 0, none⟩) (by simp) _).setCell (p := ⟨w.heap.size + 1, 1, none⟩) (by simp) _⟩
    | true =>
      go_wp2_with fail
      refine (HC.out _ HB2.out).mono ?_
      rintro e W2 ⟨rfl, rfl⟩
      have c2 := c1.setOther (a := ⟨b, k, none⟩) (by simp; omega) (.int .u64 is)
      have s0 := c2.cell 0
      have s1 := c2.cell 1
      have f0 := c2.frozen 0
      have f1 := c2.frozen 1
      simp at s0 s1
      have hB3 := below_setBoth HB2.out (a := ⟨b, k, none⟩) (.int .u64 is)
      have HB3 := Lib.hid hB3
      clear hB3
      generalize W1.setCell ⟨b, k, none⟩ (.int .u64 is) = W2 at *
      go_wp2_with fail
      rw [Exit.noGoto_ret]
      have cE := (c2.set2 (.int .u64 h) (.bool true)).set2 (.int .u64 h) (.bool true)
      refine bodyPost_ret (results_cell_row rfl _ _ (w.heap.size + 1) 27 _ (0, 0) _ rfl cE Try.underlying27 rfl (by kernel_rfl)) rfl ?_
      exact ⟨rfl, (((HB3.out.setCell (p := ⟨w.heap.size + 1, 0, none⟩) (by simp) _).setCell (p := ⟨w.heap.size + 1, 1, none⟩) (by simp) _).setCell (p := ⟨w.heap.size + 1, 0, none⟩) (by simp) _).setCell (p := ⟨w.heap.size + 1, 1, none⟩) (by simp) _⟩
end Go.Proofs
