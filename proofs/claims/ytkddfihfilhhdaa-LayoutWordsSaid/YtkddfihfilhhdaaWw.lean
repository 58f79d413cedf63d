/- Layout: dirOf, Dir. -/
import Derived.Test.YtkddfihfilhhdaaWv
namespace Go.Proofs
set_option maxRecDepth 100000
open Go.RowKit Go.Shelf
attribute [local go_sem] Oper.semAt_some

theorem Rows8.kt {h : Nat} {t1 t2 : TypeId} {A W : World} (p : Kt h t1 t2 A W) {b : Nat} {t : TypeId} {cs : Array Value} (r : Rows8 A b t cs) (h1 : t ≠ t1) (h2 : t ≠ t2) : Rows8 W b t cs := p.rows r h1 h2
set_option maxHeartbeats 1000000 in
theorem Try.entries_any (B off n c k m : Nat) (q : Int) (w : World) : Calls Try.prog 87 #[.agg #[.slice (some ⟨B, off, none⟩) n c, .int .i64 q], .int .i64 (k : Nat), .int .i64 (m : Nat)] w fun e w' => ∃ b1 b2 b3, e = .returned (.func (.func 89) #[] #[.pointer (some ⟨b1, 0, none⟩), .pointer (some ⟨b2, 0, none⟩), .pointer (some ⟨b3, 0, none⟩)]) ∧ w.heap.size ≤ b2 ∧ Rows8 w' b1 110 #[.slice (some ⟨B, off, none⟩) n c, .int .i64 q] ∧ Rows8 w' b2 3 #[.int .i64 (k : Nat)] ∧ Rows8 w' b3 3 #[.int .i64 (m : Nat)] ∧ Below w.heap.size w w' := by
  go_enter Try.func87, Try.ntmps87
  go_wp2_with fail
  go_ret
  refine ⟨w.heap.size, w.heap.size + 1, w.heap.size + 1 + 1, rfl, Nat.le_succ _, ((Rows8.new _ _ _).alloc _).alloc _, (rows_new2 _ _ _ _).alloc _, ?_, ((Rows8.newB).alloc (by simp) _).alloc (by simp; omega) _⟩
  have h := Rows8.new ((w.alloc (.cells #[.slice (some ⟨B, off, none⟩) n c, .int .i64 q] 110)).alloc (.cells #[.int .i64 (k : Nat)] 3)) 3 #[.int .i64 (m : Nat)]
  rw [World.size_alloc, World.size_alloc] at h
  exact h
theorem words_kt {h : Nat} {t1 t2 : TypeId} {A W : World} (p : Kt h t1 t2 A W) {a : Option Addr} {n c : Nat} {ws : List Int} (hb : ∀ b off, a = some ⟨b, off, none⟩ → b < h) (r : WordsAt A (.slice a n c) ws) : WordsAt W (.slice a n c) ws := by
  obtain ⟨h0, a', cap', e, h1, h2, h3, h4⟩ := r
  cases e
  refine ⟨h0, _, _, rfl, h1, h2, h3, fun j hj => ?_⟩
  obtain ⟨b, off, e2, hlt, hc⟩ := h4 j hj
  have hbh := hb b off e2
  rw [List.getElem?_eq_getElem hj] at hc
  exact ⟨b, off, e2, Nat.lt_of_lt_of_le hlt p.size, by rw [List.getElem?_eq_getElem hj]; exact p.cell (a := ⟨b, off + j, none⟩) hbh hc⟩
theorem owns_own {β : Type} (n₀ : Nat) (e : TypeId) (k : Nat) (v : β → Value) (n : β → Nat) (cs : β → List Value) : Own (fun (s : β) W => W.ownsRow n₀ e k (v s) (n s) (cs s)) := fun s X Y row hs hg hr => by
  refine World.ownsRow.kept hs hg ?_
  rcases hs.2 with ⟨h, _⟩ | ⟨g, cap, cur, h, _, hh, _⟩
  · exact .inl (by rw [h]; rfl)
  · refine .inr fun e2 => ?_
    rw [h] at e2
    obtain ⟨o, ho, hc⟩ := hr g e2.symm
    rw [hh] at ho
    cases ho
    cases hc
theorem grown_rows {W w1 : World} {n₁ k' n' : Nat} {e' : TypeId} {v' : Value} {cs' : List Value} {B : Nat} {t : TypeId} {ds : Array Value} (h : Rows8 W B t ds) (h' : W.ownsRow n₁ e' k' v' n' cs') (hne : e' ≠ t) (hg : W.grownBy w1 v'.ownBlock) : Rows8 w1 B t ds :=
  (hg.block B h.lt (fun e => owns_not h' h hne e.symm)).trans h
theorem body_keeps {W w1 : World} {n₀ B o : Nat} {e : TypeId} {size : Nat} {v v' : Value} {k : Nat} {xs : List Value} {tmp : Obj} (hrow : W.ownsRow n₀ e size v k xs) (hgrow : (W.alloc tmp).grownBy w1 v.ownBlock) : KeepsOthers W (w1.setCell ⟨B, o, none⟩ v') := by
  refine ((KeepsOthers.alloc W tmp).trans (KeepsOthers.of_grownBy hgrow fun j o ej hj => ?_)).trans (KeepsOthers.setCell _ _ _)
  rcases (hrow.alloc tmp).2 with ⟨rfl, _⟩ | ⟨g, cap, cur, rfl, _, hgb, _⟩
  · simp [Value.ownBlock] at ej
  · simp [Value.ownBlock] at ej
    subst ej
    rw [hgb] at hj
    cases hj
    rfl
theorem def_set {X : World} {B D o : Nat} {x : Option (List Deferred)} (hX : X.heap[D]? = some (.deferred x)) (hne : D ≠ B) (u : Value) : (X.setCell ⟨B, o, none⟩ u).heap[D]? = some (.deferred x) :=
  ((But.setCell (But.refl X.heap.size B X) o u).block D (Array.getElem?_eq_some_iff.1 hX).1 hne).trans hX
theorem rows_apart {W : World} {a b : Nat} {t t' : TypeId} {cs cs' : Array Value} (h : Rows8 W a t cs) (h' : Rows8 W b t' cs') (ht : t ≠ t') : a ≠ b := by
  rintro rfl
  unfold Rows8 at h h'
  rw [h] at h'
  cases h'
  exact ht rfl
theorem nat_words (l : List Int) (h : okW l) : l = (l.map Int.toNat).map (fun z : Nat => (z : Int)) ∧ ∀ z ∈ l.map Int.toNat, z < 18446744073709551616 := by
  constructor
  · symm
    rw [List.map_map]
    conv => rhs; rw [← List.map_id l]
    refine List.map_congr_left fun x hx => ?_
    have := h x hx
    simp
    omega
  · intro z hz
    obtain ⟨x, hx, rfl⟩ := List.mem_map.1 hz
    have := h x hx
    omega
theorem okW_part {ws : List Int} (h : okW ws) (k m : Nat) : okW ((ws.drop k).take m) := fun z hz => h z (List.mem_of_mem_drop (List.mem_of_mem_take hz))
theorem owns_but {W X : World} {n₀ k n rb : Nat} {e : TypeId} {v : Value} {cs : List Value} (o : W.ownsRow n₀ e k v n cs) (hb : But W.heap.size rb W X) (hr : rb < n₀) : X.ownsRow n₀ e k v n cs := by
  refine World.ownsRow.kept o (row := some rb) ⟨hb.os, hb.tape, hb.output, hb.size, fun k hk hne => hb.block k hk (fun e => hne (by rw [e]))⟩ ?_
  rcases o.2 with ⟨rfl, _⟩ | ⟨g, cap, cur, rfl, hg, _⟩
  · simp [Value.ownBlock]
  · simp [Value.ownBlock]
    omega
/-- What a region without marks leaves. -/
def QR (K : Act → World → Prop) (R : Ending → World → Prop) : Exit → Act → World → Prop
  | .normal, a, w => K a w
  | .panic c, a, w => a.defers = [] ∧ R (.panicked c) w
  | _, _, _ => False
theorem QR_in {F : Fence} {n : Nat} {P : Program} {c : Code} {fn : Func} {R : Ending → World → Prop} {K : Act → World → Prop} {a : Act} {w : World} (h : c.wpIn F n P (QR K R) a w) : c.wpIn F n P (Exit.then K (bodyPostM F n P fn R)) a w := by
  refine Code.wpIn_mono (fun e a w h => ?_) h
  cases e with
  | normal => exact h
  | panic ch =>
    obtain ⟨hd, hr⟩ := h
    show LeavesInM F n P fn a.tmps R a.defers (.panicking ch) w
    rw [hd]
    exact hr
  | _ => exact h.elim
/-- Are these a directory's words, that begin with this depth? -/
def okDw (d : Nat) (ws : List Int) : Bool := (decide (d ≤ 5) && (((ws.drop 1).take (2 ^ d)).map Int.toNat).all okU) && zeroB (ws.drop (1 + 2 ^ d))
def entsDw (d : Nat) (ws : List Int) : List Pr := (((ws.drop 1).take (2 ^ d)).map Int.toNat).map entU
theorem okd5_no {m : Nat} (h : decide ((m : Int) ≤ 5) = false) : decide (m ≤ 5) = false := okd_no h
theorem okd5_yes {m : Nat} (h : decide ((m : Int) ≤ 5) = true) : m ≤ 5 := okd_yes h
theorem sh_eq (d : Nat) (hd : d ≤ 5) : wrap64 ((2 : Int) ^ min d 64) = ((2 ^ d : Nat) : Int) := by
  rcases (by omega : d = 0 ∨ d = 1 ∨ d = 2 ∨ d = 3 ∨ d = 4 ∨ d = 5) with rfl | rfl | rfl | rfl | rfl | rfl <;> (simp [wrap64])
/-- What dirOf tells, or why it can't. -/
def DirQ (d : Nat) (ws : List Int) (w : World) (e : Ending) (w' : World) : Prop := Below w.heap.size w w' ∧ ((∃ (a : Option Addr) (n c : Nat), e = .returned (.agg #[.int .i64 (d : Nat), .slice a n c]) ∧ OwnsP 36 w.heap.size (entsDw d ws) (.slice a n c) w' ∧ okDw d ws = true) ∨ ∃ q, e = .panicked (panicA q) ∧ q = 261 ∧ okDw d ws = false)
set_option maxHeartbeats 16000000 in
theorem Try.dirOf_yes (B off c : Nat) (ws : List Int) (d : Nat) (hok : okW ws) (hd0 : wd ws 0 = (d : Nat)) (w : World) (hw : WordsAt w (.slice (some ⟨B, off, none⟩) 40 c) ws) : Calls Try.prog 66 #[.slice (some ⟨B, off, none⟩) 40 c] w (DirQ d ws w) := by
  obtain ⟨i0, hi, hz0, hz1, hz2⟩ := info_parts Try.infoEntry
  obtain ⟨Wz, hWz⟩ : ∃ W, W = w.alloc (.cells #[.int .i64 0, .slice none 0 0] 64) := ⟨_, rfl⟩
  have HZ : Hid (Rows8 Wz w.heap.size 64 #[.int .i64 0, .slice none 0 0]) := Lib.hid (by rw [hWz]; exact Rows8.new _ _ _)
  have HB : Hid (Below w.heap.size w Wz) := Lib.hid (by rw [hWz]; exact Rows8.newB)
  have HE := Lib.hid (fun (X : World) (h : Below w.heap.size w X) => show X.cell? ⟨B, off, none⟩ = some (.int .u64 (d : Nat)) by rw [← hd0]; exact wd_cell (RowAt.below hw h) 0 (by omega))
  have HW := Lib.hid hw
  have HN := Lib.hid (words_len hw)
  have HO := Lib.hid hok
  have HQ := Lib.hid (Try.rowOf_any (some ⟨B, off, none⟩) 40 c 261 Wz (by decide))
  have HI := Lib.hid (And.intro hi (And.intro hz0 (And.intro hz1 hz2)))
  clear hw hok hd0 hi hz0 hz1 hz2
  refine (callsIn_wide (n := 9)).1 ?_
  refine callsIn_of_wp_marks Try.func66 rfl trivial ?_ rfl
  simp only [Try.ntmps66, List.size_toArray, List.length_cons, List.length_nil, Nat.reduceAdd, Nat.reduceSub, Array.replicate_succ, Array.replicate_zero, List.push_toArray, List.append_toArray, List.nil_append, List.cons_append]
  gi_wp2_with fail
  rw [← hWz]
  clear hWz
  refine ⟨trivial, ?_⟩
  refine (callsIn_wide.2 HQ.out).mono ?_
  rintro e Wq ⟨hC, ⟨_, rfl⟩ | ⟨h, _⟩⟩
  rotate_left
  · exact absurd rfl h
  have HZ := Lib.hid (HZ.out.below hC HZ.out.lt)
  have HB := Lib.hid (HB.out.trans (hC.mono HB.out.size))
  clear hC HQ
  obtain ⟨br, hbr⟩ : ∃ b, b = Wq.heap.size := ⟨_, rfl⟩
  obtain ⟨Wa, hWa⟩ : ∃ W, W = Wq.alloc (.cells #[.slice (some ⟨B, off, none⟩) 40 c, .int .i64 261] 110) := ⟨_, rfl⟩
  have HR : Hid (Rows8 Wa br 110 #[.slice (some ⟨B, off, none⟩) 40 c, .int .i64 261]) := Lib.hid (by rw [hWa, hbr]; exact Rows8.new _ _ _)
  have HBR : Hid (w.heap.size < br) := Lib.hid (by rw [hbr]; exact HZ.out.lt)
  have hC : Below Wq.heap.size Wq Wa := by rw [hWa]; exact Rows8.newB
  have HZ := Lib.hid (HZ.out.below hC HZ.out.lt)
  have HB := Lib.hid (HB.out.trans (hC.mono HB.out.size))
  clear hC
  gi_wp2_with fail
  rw [← hbr, ← hWa]
  clear hbr hWa
  refine QR_in ?_
  refine wpIn_region_X free2_wide (fun W' => Rows8 W' br 110 #[.slice (some ⟨B, off, none⟩) 40 c, .int .i64 261] ∧ W'.cell? ⟨B, off, none⟩ = some (.int .u64 (d : Nat))) 10 (by rintro ⟨_, _, h⟩; exact h) (by kernel_rfl) (by kernel_rfl) ?_
  have hC0 : Below Wa.heap.size Wa Wa.drew := (Below.refl _ _).drew
  have HZ := Lib.hid (HZ.out.below hC0 HZ.out.lt)
  have HR := Lib.hid (HR.out.below hC0 HR.out.lt)
  have HB := Lib.hid (HB.out.trans (hC0.mono HB.out.size))
  clear hC0
  generalize Wa.drew = W1 at *
  refine wpAnyN_take (i := 0) (oi := { dst := some 9, op := Go.Op.move (Go.Operand.tmp 0), type := 24, pos := "row.go:90", after := #[], guard := none }) (v := .slice (some ⟨B, off, none⟩) 40 c) rfl (by decide) (by kernel_rfl) (by kernel_rfl) (by kernel_rfl) (fun _ _ _ h => h) (Or.inl ⟨by rfl, ?_⟩) ⟨HR.out, HE.out _ HB.out⟩ ?_
  · intro W9 hS9
    obtain ⟨q0, q1⟩ := hS9
    go_simp
  try simp only [Act.put, List.setIfInBounds_toArray, List.set_cons_zero, List.set_cons_succ]
  refine wpAnyN_take (i := 1) (oi := { dst := some 10, op := Go.Op.indexAddr 24 (Go.Operand.tmp 9) (Go.Operand.const (Go.Value.int Go.IntKind.i64 0)), type := 0, pos := "row.go:90", after := #[{ on := 0, ground := Go.Ground.data }], guard := none }) (v := .pointer (some ⟨B, off, none⟩)) rfl (by decide) (by kernel_rfl) (by kernel_rfl) (by kernel_rfl) (fun _ _ _ h => h) (Or.inl ⟨by rfl, ?_⟩) ⟨HR.out, HE.out _ HB.out⟩ ?_
  · intro W9 hS9
    obtain ⟨q0, q1⟩ := hS9
    go_simp
  try simp only [Act.put, List.setIfInBounds_toArray, List.set_cons_zero, List.set_cons_succ]
  refine wpAnyN_take (i := 2) (oi := { dst := some 11, op := Go.Op.load 34 (Go.Operand.tmp 10), type := 34, pos := "row.go:90", after := #[{ on := 1, ground := Go.Ground.data }], guard := none }) (v := .int .u64 (d : Nat)) rfl (by decide) (by kernel_rfl) (by kernel_rfl) (by kernel_rfl) (fun _ _ _ h => h) (Or.inl ⟨by rfl, ?_⟩) ⟨HR.out, HE.out _ HB.out⟩ ?_
  · intro W9 hS9
    obtain ⟨q0, q1⟩ := hS9
    have s0 := q1
    clear q0 q1
    go_simp
  try simp only [Act.put, List.setIfInBounds_toArray, List.set_cons_zero, List.set_cons_succ]
  refine wpAnyN_take (i := 4) (oi := { dst := some 13, op := Go.Op.fieldAddr 110 (Go.Operand.tmp 3) 1, type := 0, pos := "row.go:90", after := #[], guard := none }) (v := .pointer (some ⟨br, 1, none⟩)) rfl (by decide) (by kernel_rfl) (by kernel_rfl) (by kernel_rfl) (fun _ _ _ h => h) (Or.inl ⟨by rfl, ?_⟩) ⟨HR.out, HE.out _ HB.out⟩ ?_
  · intro W9 hS9
    obtain ⟨q0, q1⟩ := hS9
    go_simp
  try simp only [Act.put, List.setIfInBounds_toArray, List.set_cons_zero, List.set_cons_succ]
  refine wpAnyN_take (i := 5) (oi := { dst := some 14, op := Go.Op.load 27 (Go.Operand.tmp 13), type := 27, pos := "row.go:90", after := #[{ on := 4, ground := Go.Ground.data }], guard := none }) (v := .int .i64 261) rfl (by decide) (by kernel_rfl) (by kernel_rfl) (by kernel_rfl) (fun _ _ _ h => h) (Or.inl ⟨by rfl, ?_⟩) ⟨HR.out, HE.out _ HB.out⟩ ?_
  · intro W9 hS9
    obtain ⟨q0, q1⟩ := hS9
    have s0 : W9.cell? ⟨br, 1, none⟩ = some (.int .i64 261) := q0.cell 1
    clear q0 q1
    go_simp
  try simp only [Act.put, List.setIfInBounds_toArray, List.set_cons_zero, List.set_cons_succ]
  refine wpAnyX_two (i := 3) (j := 8) (oi := { dst := some 12, op := Go.Op.call { callee := Go.Callee.value (Go.Operand.func 41), args := #[Go.Operand.const (Go.Value.int Go.IntKind.u64 5)], argTypes := #[34] }, type := 83, pos := "row.go:90", after := #[], guard := none }) (oj := { dst := some 4, op := Go.Op.alloc 64, type := 0, pos := "row.go:90", after := #[], guard := none }) (by kernel_rfl) rfl rfl (fun K hK => ?_) (fun K hK => ?_)
  · have HN := Try.upTo_any 5 W1
    refine step_call_g (by rfl) 41 _ _ rfl (fun _ _ => by kernel_rfl) #[.int .u64 5] (by simp [go_sem]) _ HN ?_
    rintro e W2 ⟨v, rfl, hm, hC⟩
    have HM := Lib.hid hm
    have HZ := Lib.hid (HZ.out.below hC HZ.out.lt)
    have HR := Lib.hid (HR.out.below hC HR.out.lt)
    have HB := Lib.hid (HB.out.trans (hC.mono HB.out.size))
    clear hC HN hm
    refine ⟨_, rfl, ?_⟩
    refine hK.out _ _ (fun _ => ⟨HR.out, HE.out _ HB.out⟩) ?_
    clear hK K
    try simp only [Act.put, List.setIfInBounds_toArray, List.set_cons_zero, List.set_cons_succ]
    refine wpAnyX_two (i := 6) (j := 8) (oi := { dst := some 15, op := Go.Op.call { callee := Go.Callee.value (Go.Operand.func 75), args := #[Go.Operand.tmp 11, Go.Operand.tmp 12, Go.Operand.tmp 14], argTypes := #[34, 83, 27] }, type := 3, pos := "row.go:90", after := #[{ on := 2, ground := Go.Ground.data }, { on := 3, ground := Go.Ground.data }, { on := 5, ground := Go.Ground.data }, { on := 3, ground := Go.Ground.chain }], guard := none }) (oj := { dst := some 4, op := Go.Op.alloc 64, type := 0, pos := "row.go:90", after := #[], guard := none }) (by kernel_rfl) rfl rfl (fun K hK => ?_) (fun K hK => ?_)
    · have HN := Try.numIU_any (d : Nat) 261 v _ W2 HM.out
      refine step_callP_g (by rfl) 75 _ _ rfl (fun _ _ => by kernel_rfl) #[.int .u64 (d : Nat), v, .int .i64 261] (by simp [go_sem]) _ HN ?_
      clear HN
      rintro e w9 ⟨hw9, hq9⟩
      subst w9
      rcases hq9 with ⟨h, rfl⟩ | ⟨h, rfl⟩
      rotate_left
      · refine .inr ⟨_, rfl, ?_⟩
        exact ⟨rfl, HB.out, .inr ⟨261, rfl, rfl, by unfold okDw; rw [okd5_no h]; rfl⟩⟩
      have HY := Lib.hid (okd5_yes h)
      have hwm : wrap64 ((d : Nat) : Int) = (d : Int) := IntWalk.wrap64_in _ ⟨by have := HY.out; omega, by have := HY.out; omega⟩
      rw [hwm]
      clear h HM hwm
      refine .inl ⟨_, rfl, ?_⟩
      refine hK.out _ _ (fun _ => ⟨HR.out, HE.out _ HB.out⟩) ?_
      clear hK K
      try simp only [Act.put, List.setIfInBounds_toArray, List.set_cons_zero, List.set_cons_succ]
      refine wpAnyN_take (i := 7) (oi := { dst := some 16, op := Go.Op.build 64 #[(0, Go.Operand.tmp 15)], type := 64, pos := "row.go:90", after := #[{ on := 6, ground := Go.Ground.data }], guard := none }) (v := .agg #[.int .i64 (d : Nat), .slice none 0 0]) rfl (by decide) (by kernel_rfl) (by kernel_rfl) (by kernel_rfl) (fun _ _ _ h => h) (Or.inl ⟨by rfl, ?_⟩) ⟨HR.out, HE.out _ HB.out⟩ ?_
      · intro W9 hS9
        obtain ⟨q0, q1⟩ := hS9
        go_simp
      try simp only [Act.put, List.setIfInBounds_toArray, List.set_cons_zero, List.set_cons_succ]
      refine wpAnyX_one (i := 8) (o := { dst := some 4, op := Go.Op.alloc 64, type := 0, pos := "row.go:90", after := #[], guard := none }) (by kernel_rfl) rfl (fun K hK => ?_)
      obtain ⟨W3, hWn⟩ : ∃ W, W = W2.alloc (.cells #[.int .i64 0, .slice none 0 0] 64) := ⟨_, rfl⟩
      obtain ⟨bd, hbd⟩ : ∃ b, b = W2.heap.size := ⟨_, rfl⟩
      have HD : Hid (Rows8 W3 bd 64 #[.int .i64 0, .slice none 0 0]) := Lib.hid (by rw [hWn, hbd]; exact Rows8.new _ _ _)
      have HBD : Hid (w.heap.size < bd ∧ br < bd) := Lib.hid (by rw [hbd]; exact ⟨Nat.lt_of_lt_of_le HZ.out.lt (Nat.le_refl _), HR.out.lt⟩)
      have hC : Below W2.heap.size W2 W3 := by rw [hWn]; exact Rows8.newB
      have HZ := Lib.hid (HZ.out.below hC HZ.out.lt)
      have HR := Lib.hid (HR.out.below hC HR.out.lt)
      have HB := Lib.hid (HB.out.trans (hC.mono HB.out.size))
      clear hC
      refine step_value_g (by rfl) (.pointer (some ⟨bd, 0, none⟩)) (w' := W3) (by rw [hbd, hWn]; go_simp) ?_
      clear hWn hbd
      refine hK.out _ _ (fun _ => ⟨HR.out, HE.out _ HB.out⟩) ?_
      clear hK K
      try simp only [Act.put, List.setIfInBounds_toArray, List.set_cons_zero, List.set_cons_succ]
      have z0 : W3.cell? ⟨bd, 0, none⟩ = some (.int .i64 0) := HD.out.cell 0
      have z1 : W3.cell? ⟨bd, 1, none⟩ = some (.slice none 0 0) := HD.out.cell 1
      have f0 := HD.out.frozen 0
      have f1 := HD.out.frozen 1
      have l0 := HD.out.lt
      obtain ⟨W4, hWn⟩ : ∃ W, W = (W3.setCell ⟨bd, 0, none⟩ (.int .i64 (d : Nat))).setCell ⟨bd, 1, none⟩ (.slice none 0 0) := ⟨_, rfl⟩
      have HD2 : Hid (Rows8 W4 bd 64 #[.int .i64 (d : Nat), .slice none 0 0]) := Lib.hid (by rw [hWn]; exact HD.out.set2 _ _)
      have HZ : Hid (Rows8 W4 w.heap.size 64 #[.int .i64 0, .slice none 0 0]) := Lib.hid (by rw [hWn]; exact (HZ.out.setOther (a := ⟨bd, 0, none⟩) (by have := HBD.out; show bd ≠ _; omega) _).setOther (a := ⟨bd, 1, none⟩) (by have := HBD.out; show bd ≠ _; omega) _)
      have HR : Hid (Rows8 W4 br 110 #[.slice (some ⟨B, off, none⟩) 40 c, .int .i64 261]) := Lib.hid (by rw [hWn]; exact (HR.out.setOther (a := ⟨bd, 0, none⟩) (by have := HBD.out; show bd ≠ _; omega) _).setOther (a := ⟨bd, 1, none⟩) (by have := HBD.out; show bd ≠ _; omega) _)
      have HB : Hid (Below w.heap.size w W4) := Lib.hid (by rw [hWn]; exact (HB.out.setCell (p := ⟨bd, 0, none⟩) (Nat.le_of_lt HBD.out.1) _).setCell (p := ⟨bd, 1, none⟩) (Nat.le_of_lt HBD.out.1) _)
      refine wpAnyX_one (i := 9) (o := { dst := none, op := Go.Op.store 64 (Go.Operand.tmp 4) (Go.Operand.tmp 16), type := 0, pos := "row.go:90", after := #[{ on := 8, ground := Go.Ground.data }, { on := 7, ground := Go.Ground.data }, { on := 6, ground := Go.Ground.chain }, { on := 0, ground := Go.Ground.phase }, { on := 1, ground := Go.Ground.phase }, { on := 2, ground := Go.Ground.phase }, { on := 3, ground := Go.Ground.phase }, { on := 4, ground := Go.Ground.phase }, { on := 5, ground := Go.Ground.phase }, { on := 6, ground := Go.Ground.phase }, { on := 7, ground := Go.Ground.phase }, { on := 8, ground := Go.Ground.phase }], guard := none }) (by kernel_rfl) rfl (fun K hK => ?_)
      refine step_skip_g (by rfl) (w' := W4) (by rw [hWn]; go_simp) ?_
      clear z0 z1 f0 f1 l0 hWn
      refine hK.out _ _ (fun _ => ⟨HR.out, HE.out _ HB.out⟩) ?_
      clear hK K
      try simp only [Act.put]
      refine wpAnyX_end (by kernel_rfl) ?_
      simp only [QR]
      have HD := HD2
      clear HD2
      have hsh := sh_eq d HY.out
      have hsh2 := Try.shl_ii d HY.out W4
      obtain ⟨m, hm⟩ : ∃ m, m = 2 ^ d := ⟨_, rfl⟩
      have hm32 : m ≤ 32 := by rw [hm]; exact Nat.pow_le_pow_right (by decide) HY.out
      have hm0 : 0 < m := by rw [hm]; exact Nat.two_pow_pos d
      rw [← hm] at hsh hsh2
      have HM2 := Lib.hid (And.intro hm (And.intro hm0 hm32))
      clear hm hm32 hm0
      have e0 : W4.cell? ⟨bd, 0, none⟩ = some (.int .i64 (d : Nat)) := HD.out.cell 0
      have d0 : W4.cell? ⟨br, 0, none⟩ = some (.slice (some ⟨B, off, none⟩) 40 c) := HR.out.cell 0
      have d1 : W4.cell? ⟨br, 1, none⟩ = some (.int .i64 261) := HR.out.cell 1
      have HQ := Lib.hid (Try.entries_any B off 40 c 1 m 261 W4)
      gi_wp2_with fail
      try simp only [hsh]
      refine ⟨trivial, ?_⟩
      refine (callsIn_wide.2 HQ.out).mono ?_
      rintro e W5 ⟨b1, b2, b3, rfl, hb1, r1, r2, r3, hC⟩
      have HB2 : Hid (w.heap.size ≤ b2) := Lib.hid (Nat.le_trans HB.out.size hb1)
      have HZ := Lib.hid (HZ.out.below hC HZ.out.lt)
      have HR := Lib.hid (HR.out.below hC HR.out.lt)
      have HD := Lib.hid (HD.out.below hC HD.out.lt)
      have HB := Lib.hid (HB.out.trans (hC.mono HB.out.size))
      have HR1 := Lib.hid (And.intro r1 (And.intro r2 r3))
      clear hC HQ r1 r2 r3 hb1 e0 d0 d1 hsh hsh2
      gi_wp2_with fail
      have hbB : B < w.heap.size := by
        obtain ⟨b, o, e, hlt, _⟩ := wordsAt_get HW.out 0 (by have := HN.out.1; omega)
        cases e
        exact hlt
      have hpw := okW_part HO.out 1 m
      obtain ⟨zs, hzz⟩ : ∃ zs, zs = ((ws.drop 1).take m).map Int.toNat := ⟨_, rfl⟩
      have hnw := nat_words _ hpw
      rw [← hzz] at hnw
      have hS5 : SrcY b1 b2 b3 B off 40 c 1 m 261 ws W5 := ⟨HR1.out.1, HR1.out.2.1, HR1.out.2.2, RowAt.below HW.out HB.out⟩
      have HTL := Lib.hid (Try.entries1_tells 8 (by decide) (Kt w.heap.size 64 36) b2 b1 b2 b3 B off 40 c 1 m 261 ws zs hnw.1 hnw.2 (by have := HM2.out.2.2; omega) HM2.out.2.1 (by have := HM2.out.2.2; omega) W5 (fun A => SrcY b1 b2 b3 B off 40 c 1 m 261 ws A) hS5 (fun _ h => h) (fun A X h p => h.below p)
        (fun A X p h => ⟨p.rows h.row (by decide) (by decide), p.rows h.at_ (by decide) (by decide), p.rows h.many (by decide) (by decide), words_kt p (fun b o e => by cases e; exact hbB) h.words⟩))
      have HZZ := Lib.hid hzz
      have hb2 := HR1.out.2.1.lt
      have HNE : Hid (bd ≠ b2 ∧ br ≠ b2 ∧ w.heap.size ≠ b2 ∧ w.heap.size ≤ b2) := Lib.hid ⟨rows_apart HD.out HR1.out.2.1 (by decide), rows_apart HR.out HR1.out.2.1 (by decide), rows_apart HZ.out HR1.out.2.1 (by decide), HB2.out⟩
      have HSZ : Hid (w.heap.size < W5.heap.size ∧ b2 < W5.heap.size) := Lib.hid ⟨HZ.out.lt, hb2⟩
      clear hpw hzz hnw hS5 hbB
      have hi0 : (fun (pre : List Pr) W' => (∃ u, Rows8 W' bd 64 #[.int .i64 (d : Nat), u] ∧ W'.ownsRow W5.heap.size 36 2 u pre.length (pVals pre)) ∧ Below w.heap.size w W' ∧ Rows8 W' br 110 #[.slice (some ⟨B, off, none⟩) 40 c, .int .i64 261] ∧ Rows8 W' w.heap.size 64 #[.int .i64 0, .slice none 0 0] ∧ W5.heap.size ≤ W'.heap.size) [] W5 := ⟨⟨_, HD.out, World.ownsRow_nil _ _ _ _⟩, HB.out, HR.out, HZ.out, Nat.le_refl _⟩
      clear HD HB HR HZ
      refine range_tellsP rfl (by decide) (gf := 89) (lb := #[.pointer (some ⟨b1, 0, none⟩), .pointer (some ⟨b2, 0, none⟩), .pointer (some ⟨b3, 0, none⟩)]) rfl trivial (fun _ _ => by kernel_rfl) HTL.out kt_t (kt_b (B := W5.heap.size)) (Below.refl _ _) hb2 (fun _ _ _ _ _ h _ _ => h) (fun _ => rfl)
        (fun (pre : List Pr) W' => (∃ u, Rows8 W' bd 64 #[.int .i64 (d : Nat), u] ∧ W'.ownsRow W5.heap.size 36 2 u pre.length (pVals pre)) ∧ Below w.heap.size w W' ∧ Rows8 W' br 110 #[.slice (some ⟨B, off, none⟩) 40 c, .int .i64 261] ∧ Rows8 W' w.heap.size 64 #[.int .i64 0, .slice none 0 0] ∧ W5.heap.size ≤ W'.heap.size)
        (fun s X Y row ⟨⟨u, h1, h2⟩, hB, h3, h4, h5⟩ hg hr => ⟨⟨u, Own.from (Rows8.own (β := Unit) bd 64 (fun _ => #[.int .i64 (d : Nat), u])) _ () X Y row h1 hg hr, Own.from (owns_own (β := Unit) W5.heap.size 36 2 (fun _ => u) (fun _ => s.length) (fun _ => pVals s)) _ () X Y row h2 hg hr⟩, ownFrom_below (β := Unit) (Nat.le_refl _) (Nat.le_of_lt HSZ.out.1) () X Y row hB hg hr, Own.from (Rows8.own (β := Unit) br 110 (fun _ => #[.slice (some ⟨B, off, none⟩) 40 c, .int .i64 261])) _ () X Y row h3 hg hr, Own.from (Rows8.own (β := Unit) w.heap.size 64 (fun _ => #[.int .i64 0, .slice none 0 0])) _ () X Y row h4 hg hr, Nat.le_trans h5 hg.size⟩)
        (fun s X Y ⟨⟨u, h1, h2⟩, hB, h3, h4, h5⟩ hXY => ⟨⟨u, (hXY.block _ h1.lt HNE.out.1).trans h1, owns_but h2 hXY HSZ.out.2⟩, hB.trans (hXY.below hB.size HNE.out.2.2.2), (hXY.block _ h3.lt HNE.out.2.1).trans h3, (hXY.block _ h4.lt HNE.out.2.2.1).trans h4, Nat.le_trans h5 hXY.size⟩)
        hi0
        (fun x a' W' => ∃ Bx, a' = { tmps := #[.slice (some ⟨B, off, none⟩) 40 c, undef, .pointer (some ⟨w.heap.size, 0, none⟩), .pointer (some ⟨br, 0, none⟩), .pointer (some ⟨bd, 0, none⟩), .int .i64 (m : Nat), .pointer (some ⟨Bx, 0, none⟩), .slice (some ⟨B, off, none⟩) 40 c, .agg #[.slice (some ⟨B, off, none⟩) 40 c, .int .i64 261], .slice (some ⟨B, off, none⟩) 40 c, .pointer (some ⟨B, off, none⟩), .int .u64 (d : Nat), v, .pointer (some ⟨br, 1, none⟩), .int .i64 261, .int .i64 (d : Nat), .agg #[.int .i64 (d : Nat), .slice none 0 0], .pointer (some ⟨bd, 0, none⟩), .int .i64 (d : Nat), .int .i64 (m : Nat), .agg #[.slice (some ⟨B, off, none⟩) 40 c, .int .i64 261], .int .i64 (m : Nat), .func (.func 89) #[] #[.pointer (some ⟨b1, 0, none⟩), .pointer (some ⟨b2, 0, none⟩), .pointer (some ⟨b3, 0, none⟩)], .agg #[.int .i64 x.1, .int .u64 (x.2 : Nat)], undef, undef, undef, undef, undef, undef, undef, undef, undef, undef, undef], defers := [] } ∧ Rows8 W' Bx 36 (pc x))
        (fun x a' s X Y row ⟨Bx, e, h⟩ hg hr => ⟨Bx, e, Rows8.own Bx 36 (fun _ => pc x) s X Y row h hg fun r e => (hr r e).2⟩) ?assign ?body ?done ?pan
      case assign =>
        rintro l2 pre x W' K ⟨⟨u, hu, hr⟩, hB, h3, h4, h5⟩ hK
        unfold encP
        gi_wp2_with fail
        have hXY : Below W'.heap.size W' (W'.alloc (.cells #[.int .i64 x.1, .int .u64 (x.2 : Nat)] 36)) := Rows8.newB
        exact hK _ _ (keepsFrom_below hXY) (.of_below hXY) ⟨⟨u, Rows8.below hu hXY hu.lt, owns_keep hr hXY (Nat.le_refl _)⟩, hB.trans (hXY.mono hB.size), h3.below hXY h3.lt, h4.below hXY h4.lt, Nat.le_trans h5 hXY.size⟩ ⟨_, rfl, Rows8.new _ _ _⟩
      case body =>
        rintro l2 pre x a' W' ⟨⟨u, hu, hr⟩, hB, h3, h4, h5⟩ ⟨Bx, rfl, hx⟩ hok
        have H5 := Lib.hid h5
        have hpl : pre.length + 1 ≤ 32 := by
          have h1 := hok.length_le
          rw [List.length_append, List.length_map] at h1
          have h2 : zs.length ≤ m := by rw [HZZ.out]; simp; omega
          have h3 := HM2.out.2.2
          simp at h1
          omega
        have HDU := Lib.hid hu
        have HRR := Lib.hid hr
        have HBB := Lib.hid hB
        have H34 := Lib.hid (And.intro h3 h4)
        have HPL := Lib.hid hpl
        have cx0 : W'.cell? ⟨Bx, 0, none⟩ = some (.int .i64 x.1) := hx.cell 0
        have cx1 : W'.cell? ⟨Bx, 1, none⟩ = some (.int .u64 (x.2 : Nat)) := hx.cell 1
        have hbx := hx.lt
        obtain ⟨au, cu, rfl⟩ : ∃ au cu, u = .slice au pre.length cu := by
          obtain ⟨_, a, cap, h, _⟩ := rowAt_own hr
          exact ⟨a, cap, h⟩
        have cd1 : W'.cell? ⟨bd, 1, none⟩ = some (.slice au pre.length cu) := hu.cell 1
        have hbd9 := hu.lt
        clear hu hr hB h3 h4 h5 hok hx hpl
        gi_wp2_with (gi_at_builtin; refine wpListIn_append_own _ rfl _ _ 23 rfl W5.heap.size 36 i0 (.agg #[.int .i64 0, .int .u64 0]) 2 16 Try.underlying23 HI.out.1 HI.out.2.1 HI.out.2.2.1 HI.out.2.2.2 rfl (by decide) _ _ _ rfl (HRR.out.alloc _) ⟨W'.heap.size, 0, none⟩ 1 1 [.int .i64 x.1, .int .u64 (x.2 : Nat)] rfl rfl (cells_new W' _ [.int .i64 x.1, .int .u64 (x.2 : Nat)]) (by simp [Value.oneCell']) (by have := HPL.out; unfold maxLen; omega) (by have := HPL.out; omega) (by have := H5.out; simp; omega) ?_; intro v' w3 hown' hgrow _; obtain ⟨g', cap', rfl⟩ := ownsRow_succ hown'; have hD3 := grown_rows (HDU.out.alloc _) (HRR.out.alloc _) (by decide) hgrow; have hc3 : w3.cell? ⟨bd, 1, none⟩ = some (.slice au pre.length cu) := hD3.cell 1; have hf3 := hD3.frozen 1; have hl3 := hD3.lt; have HOWN := Lib.hid hown'; have HGR := Lib.hid hgrow; have HD3 := Lib.hid hD3; clear hown' hgrow hD3)
        have hrl := fun j ej => (World.ownsRow.lt HRR.out j ej).1
        have hb9 : Below w.heap.size w w3 := (HBB.out.alloc HBB.out.size _).grown HGR.out (by have := HBB.out.size; simp; omega) (fun j ej => Nat.le_trans (Nat.le_of_lt HSZ.out.1) (hrl j ej))
        have h39 := grown_rows (H34.out.1.alloc _) (HRR.out.alloc _) (by decide) HGR.out
        have h49 := grown_rows (H34.out.2.alloc _) (HRR.out.alloc _) (by decide) HGR.out
        have hst := HD3.out.set 1 (.slice (some ⟨g', 0, none⟩) (pre.length + 1) cap')
        refine ⟨(body_keeps HRR.out HGR.out).from _, ((Kt.alloc W' _).grown (Nat.le_of_lt HSZ.out.1) (HRR.out.alloc _) HGR.out).set (a := ⟨bd, 1, none⟩) HD3.out (Nat.le_of_lt HBD.out.1) (.inl rfl) _, ⟨_, hst, ?_⟩, hb9.setCell (p := ⟨bd, 1, none⟩) (Nat.le_of_lt HBD.out.1) _, h39.setOther (a := ⟨bd, 1, none⟩) (by have := HBD.out.2; show bd ≠ _; omega) _, h49.setOther (a := ⟨bd, 1, none⟩) (by have := HBD.out.1; show bd ≠ _; omega) _, by have h1 := H5.out; have h2 := HGR.out.size; simp at h2; simp [World.setCell]; omega⟩
        have hfin := ownsRow_setCell_other HOWN.out (a := ⟨bd, 1, none⟩) (owns_not HOWN.out HD3.out (by decide)) (.slice (some ⟨g', 0, none⟩) (pre.length + 1) cap')
        rw [List.length_append, pVals_snoc]
        exact hfin
      case done =>
        rintro D ys W' hD ⟨rfl, hall⟩ ⟨⟨u, hu, hr⟩, hB, h3, h4, h5⟩ hK
        obtain ⟨au, cu, rfl⟩ : ∃ au cu, u = .slice au (zs.map entU).length cu := by
          obtain ⟨_, a, cap, h, _⟩ := rowAt_own hr
          exact ⟨a, cap, h⟩
        have hDl := (Array.getElem?_eq_some_iff.1 hK).1
        have HDB : Hid (w.heap.size < D) := Lib.hid (Nat.lt_of_lt_of_le HSZ.out.1 hD)
        have HQ := Lib.hid (Try.endsAt_any B off 40 c (1 + m) 261 ws W' (RowAt.below HW.out hB) (by have := HM2.out.2.2; omega) (by decide))
        have HALL := Lib.hid hall
        have HDU := Lib.hid hu
        have HRR := Lib.hid hr
        have HBB := Lib.hid hB
        have H4 := Lib.hid h4
        have HK := Lib.hid hK
        have HDL := Lib.hid hDl
        have d0 : W'.cell? ⟨br, 0, none⟩ = some (.slice (some ⟨B, off, none⟩) 40 c) := h3.cell 0
        have d1 : W'.cell? ⟨br, 1, none⟩ = some (.int .i64 261) := h3.cell 1
        have hw1 : IntKind.i64.wrap (1 + (m : Int)) = ((1 + m : Nat) : Int) := by
          have := HM2.out.2.2
          rw [IntWalk.i64_in _ (by omega)]
          omega
        obtain ⟨mm, hmm⟩ : ∃ q, q = 1 + m := ⟨_, rfl⟩
        rw [← hmm] at hw1 HQ
        have HMM := Lib.hid hmm
        clear hmm hall hu hr hB h3 h4 h5 hK hD hDl
        gi_wp2_with fail
        refine ⟨trivial, ?_⟩
        refine (callsIn_wide.2 HQ.out).mono ?_
        rintro e W6 ⟨hC, ⟨hz, rfl⟩ | ⟨hz, rfl⟩⟩
        · have HB6 := Lib.hid (HBB.out.trans (hC.mono HBB.out.size))
          have hK6 := (hC.block D HDL.out).trans HK.out
          have HZ9 := Lib.hid hz
          have HR6 := Lib.hid (owns_keep HRR.out hC (Nat.le_refl _))
          have hd6 := HDU.out.below hC HDU.out.lt
          have h46 := H4.out.below hC H4.out.lt
          have e0 : W6.cell? ⟨bd, 0, none⟩ = some (.int .i64 (d : Nat)) := hd6.cell 0
          have e1 : W6.cell? ⟨bd, 1, none⟩ = some (.slice au (zs.map entU).length cu) := hd6.cell 1
          have z0 : W6.cell? ⟨w.heap.size, 0, none⟩ = some (.int .i64 0) := h46.cell 0
          have z1 : W6.cell? ⟨w.heap.size, 1, none⟩ = some (.slice none 0 0) := h46.cell 1
          have f0 := h46.frozen 0
          have f1 := h46.frozen 1
          have l0 := h46.lt
          obtain ⟨q9, hq9⟩ : ∃ q, q = (zs.map entU).length := ⟨_, rfl⟩
          rw [← hq9] at e1
          have hnD : D ≠ w.heap.size := by have := HDB.out; omega
          obtain ⟨W7, hW7⟩ : ∃ W, W = (W6.setCell ⟨w.heap.size, 0, none⟩ (.int .i64 (d : Nat))).setCell ⟨w.heap.size, 1, none⟩ (.slice au q9 cu) := ⟨_, rfl⟩
          have hK7 : W7.heap[D]? = some (.deferred (some [])) := by rw [hW7]; exact def_set (def_set hK6 hnD _) hnD _
          have HT7 : Hid (Rows8 W7 w.heap.size 64 #[.int .i64 (d : Nat), .slice au q9 cu]) := Lib.hid (by rw [hW7]; exact h46.set2 _ _)
          have HB7 : Hid (Below w.heap.size w W7) := Lib.hid (by rw [hW7]; exact (HB6.out.setCell (p := ⟨w.heap.size, 0, none⟩) (Nat.le_refl _) _).setCell (p := ⟨w.heap.size, 1, none⟩) (Nat.le_refl _) _)
          have HR7 : Hid (W7.ownsRow W5.heap.size 36 2 (.slice au q9 cu) q9 (pVals (zs.map entU))) := Lib.hid (by
            have hr6 := HR6.out
            rw [← hq9] at hr6
            rw [hW7]
            exact ownsRow_setCell_other (ownsRow_setCell_other hr6 (a := ⟨w.heap.size, 0, none⟩) (owns_not hr6 h46 (by decide)) _) (a := ⟨w.heap.size, 1, none⟩) (owns_not (ownsRow_setCell_other hr6 (a := ⟨w.heap.size, 0, none⟩) (owns_not hr6 h46 (by decide)) _) (h46.set 0 (.int .i64 (d : Nat))) (by decide)) _)
          have HK7 := Lib.hid hK7
          have HQ9 := Lib.hid hq9
          clear hC hz HQ d0 d1 hw1 hd6 h46 hK6 hnD hK7 hq9
          gi_wp2_with fail
          rw [← hW7]
          refine ⟨by simp, .inl ⟨_, _, rfl, run_takeDeferred HK7.out, ?_⟩⟩
          refine ⟨_, results_c1 rfl _ _ w.heap.size _ rfl (load_row (rows_put HT7.out HK7.out) Try.underlying64 rfl (by kernel_rfl)), ?_⟩
          refine ⟨HB7.out.trans (belowK_b (w := w) (Nat.le_refl _) _ D _ _ (Nat.le_of_lt HDB.out) HK7.out rfl rfl), .inl ⟨au, q9, cu, rfl, ?_, ?_⟩⟩
          · have hr8 := owns_mono (ownsRow_putObj HR7.out (.deferred none) HK7.out rfl) (Nat.le_of_lt HSZ.out.1)
            have e9 : entsDw d ws = zs.map entU := by
              unfold entsDw
              rw [← HM2.out.1, ← HZZ.out]
            unfold OwnsP
            rw [e9, ← HQ9.out]
            exact hr8
          · unfold okDw
            rw [show 1 + 2 ^ d = mm by rw [HMM.out, HM2.out.1], HZ9.out, ← HM2.out.1, ← HZZ.out, HALL.out, decide_eq_true HY.out]
            rfl
        · have HB6 := Lib.hid (HBB.out.trans (hC.mono HBB.out.size))
          have hK6 := (hC.block D HDL.out).trans HK.out
          have HZ9 := Lib.hid hz
          clear hC hz HQ d0 d1 hw1
          unfold panicA
          gi_wp2_with fail
          refine ⟨by simp, .inl ⟨_, _, rfl, run_takeDeferred hK6, ?_⟩⟩
          exact ⟨HB6.out.trans (belowK_b (w := w) (Nat.le_refl _) _ D _ _ (Nat.le_of_lt HDB.out) hK6 rfl rfl), .inr ⟨261, rfl, rfl, by
            unfold okDw
            rw [show 1 + 2 ^ d = mm by rw [HMM.out, HM2.out.1], HZ9.out, Bool.and_false]⟩⟩
      case pan =>
        rintro D pre W' hD hno ⟨_, hB, _⟩ hK
        have hDB : w.heap.size ≤ D := Nat.le_of_lt (Nat.lt_of_lt_of_le HSZ.out.1 hD)
        refine ⟨by simp, .inl ⟨_, _, rfl, run_takeDeferred hK, ?_⟩⟩
        exact ⟨hB.trans (belowK_b (w := w) (Nat.le_refl _) _ D _ _ hDB hK rfl rfl), .inr ⟨261, rfl, rfl, by
          unfold okDw
          rw [← HM2.out.1, ← HZZ.out, hno, Bool.and_false, Bool.false_and]⟩⟩
    · obtain ⟨W3, hWn⟩ : ∃ W, W = W2.alloc (.cells #[.int .i64 0, .slice none 0 0] 64) := ⟨_, rfl⟩
      obtain ⟨bd, hbd⟩ : ∃ b, b = W2.heap.size := ⟨_, rfl⟩
      have HD : Hid (Rows8 W3 bd 64 #[.int .i64 0, .slice none 0 0]) := Lib.hid (by rw [hWn, hbd]; exact Rows8.new _ _ _)
      have HBD : Hid (w.heap.size < bd ∧ br < bd) := Lib.hid (by rw [hbd]; exact ⟨Nat.lt_of_lt_of_le HZ.out.lt (Nat.le_refl _), HR.out.lt⟩)
      have hC : Below W2.heap.size W2 W3 := by rw [hWn]; exact Rows8.newB
      have HZ := Lib.hid (HZ.out.below hC HZ.out.lt)
      have HR := Lib.hid (HR.out.below hC HR.out.lt)
      have HB := Lib.hid (HB.out.trans (hC.mono HB.out.size))
      have HM := Lib.hid (HM.out.below hC)
      clear hC
      refine step_value_g (by rfl) (.pointer (some ⟨bd, 0, none⟩)) (w' := W3) (by rw [hbd, hWn]; go_simp) ?_
      clear hWn hbd
      refine hK.out _ _ (fun _ => ⟨HR.out, HE.out _ HB.out⟩) ?_
      clear hK K
      try simp only [Act.put, List.setIfInBounds_toArray, List.set_cons_zero, List.set_cons_succ]
      refine wpAnyX_one (i := 6) (o := { dst := some 15, op := Go.Op.call { callee := Go.Callee.value (Go.Operand.func 75), args := #[Go.Operand.tmp 11, Go.Operand.tmp 12, Go.Operand.tmp 14], argTypes := #[34, 83, 27] }, type := 3, pos := "row.go:90", after := #[{ on := 2, ground := Go.Ground.data }, { on := 3, ground := Go.Ground.data }, { on := 5, ground := Go.Ground.data }, { on := 3, ground := Go.Ground.chain }], guard := none }) (by kernel_rfl) rfl (fun K hK => ?_)
      have HN := Try.numIU_any (d : Nat) 261 v _ W3 HM.out
      refine step_callP_g (by rfl) 75 _ _ rfl (fun _ _ => by kernel_rfl) #[.int .u64 (d : Nat), v, .int .i64 261] (by simp [go_sem]) _ HN ?_
      clear HN
      rintro e w9 ⟨hw9, hq9⟩
      subst w9
      rcases hq9 with ⟨h, rfl⟩ | ⟨h, rfl⟩
      rotate_left
      · refine .inr ⟨_, rfl, ?_⟩
        exact ⟨rfl, HB.out, .inr ⟨261, rfl, rfl, by unfold okDw; rw [okd5_no h]; rfl⟩⟩
      have HY := Lib.hid (okd5_yes h)
      have hwm : wrap64 ((d : Nat) : Int) = (d : Int) := IntWalk.wrap64_in _ ⟨by have := HY.out; omega, by have := HY.out; omega⟩
      rw [hwm]
      clear h HM hwm
      refine .inl ⟨_, rfl, ?_⟩
      refine hK.out _ _ (fun _ => ⟨HR.out, HE.out _ HB.out⟩) ?_
      clear hK K
      try simp only [Act.put, List.setIfInBounds_toArray, List.set_cons_zero, List.set_cons_succ]
      refine wpAnyN_take (i := 7) (oi := { dst := some 16, op := Go.Op.build 64 #[(0, Go.Operand.tmp 15)], type := 64, pos := "row.go:90", after := #[{ on := 6, ground := Go.Ground.data }], guard := none }) (v := .agg #[.int .i64 (d : Nat), .slice none 0 0]) rfl (by decide) (by kernel_rfl) (by kernel_rfl) (by kernel_rfl) (fun _ _ _ h => h) (Or.inl ⟨by rfl, ?_⟩) ⟨HR.out, HE.out _ HB.out⟩ ?_
      · intro W9 hS9
        obtain ⟨q0, q1⟩ := hS9
        go_simp
      try simp only [Act.put, List.setIfInBounds_toArray, List.set_cons_zero, List.set_cons_succ]
      have z0 : W3.cell? ⟨bd, 0, none⟩ = some (.int .i64 0) := HD.out.cell 0
      have z1 : W3.cell? ⟨bd, 1, none⟩ = some (.slice none 0 0) := HD.out.cell 1
      have f0 := HD.out.frozen 0
      have f1 := HD.out.frozen 1
      have l0 := HD.out.lt
      obtain ⟨W4, hWn⟩ : ∃ W, W = (W3.setCell ⟨bd, 0, none⟩ (.int .i64 (d : Nat))).setCell ⟨bd, 1, none⟩ (.slice none 0 0) := ⟨_, rfl⟩
      have HD2 : Hid (Rows8 W4 bd 64 #[.int .i64 (d : Nat), .slice none 0 0]) := Lib.hid (by rw [hWn]; exact HD.out.set2 _ _)
      have HZ : Hid (Rows8 W4 w.heap.size 64 #[.int .i64 0, .slice none 0 0]) := Lib.hid (by rw [hWn]; exact (HZ.out.setOther (a := ⟨bd, 0, none⟩) (by have := HBD.out; show bd ≠ _; omega) _).setOther (a := ⟨bd, 1, none⟩) (by have := HBD.out; show bd ≠ _; omega) _)
      have HR : Hid (Rows8 W4 br 110 #[.slice (some ⟨B, off, none⟩) 40 c, .int .i64 261]) := Lib.hid (by rw [hWn]; exact (HR.out.setOther (a := ⟨bd, 0, none⟩) (by have := HBD.out; show bd ≠ _; omega) _).setOther (a := ⟨bd, 1, none⟩) (by have := HBD.out; show bd ≠ _; omega) _)
      have HB : Hid (Below w.heap.size w W4) := Lib.hid (by rw [hWn]; exact (HB.out.setCell (p := ⟨bd, 0, none⟩) (Nat.le_of_lt HBD.out.1) _).setCell (p := ⟨bd, 1, none⟩) (Nat.le_of_lt HBD.out.1) _)
      refine wpAnyX_one (i := 9) (o := { dst := none, op := Go.Op.store 64 (Go.Operand.tmp 4) (Go.Operand.tmp 16), type := 0, pos := "row.go:90", after := #[{ on := 8, ground := Go.Ground.data }, { on := 7, ground := Go.Ground.data }, { on := 6, ground := Go.Ground.chain }, { on := 0, ground := Go.Ground.phase }, { on := 1, ground := Go.Ground.phase }, { on := 2, ground := Go.Ground.phase }, { on := 3, ground := Go.Ground.phase }, { on := 4, ground := Go.Ground.phase }, { on := 5, ground := Go.Ground.phase }, { on := 6, ground := Go.Ground.phase }, { on := 7, ground := Go.Ground.phase }, { on := 8, ground := Go.Ground.phase }], guard := none }) (by kernel_rfl) rfl (fun K hK => ?_)
      refine step_skip_g (by rfl) (w' := W4) (by rw [hWn]; go_simp) ?_
      clear z0 z1 f0 f1 l0 hWn
      refine hK.out _ _ (fun _ => ⟨HR.out, HE.out _ HB.out⟩) ?_
      clear hK K
      try simp only [Act.put]
      refine wpAnyX_end (by kernel_rfl) ?_
      simp only [QR]
      have HD := HD2
      clear HD2
      have hsh := sh_eq d HY.out
      have hsh2 := Try.shl_ii d HY.out W4
      obtain ⟨m, hm⟩ : ∃ m, m = 2 ^ d := ⟨_, rfl⟩
      have hm32 : m ≤ 32 := by rw [hm]; exact Nat.pow_le_pow_right (by decide) HY.out
      have hm0 : 0 < m := by rw [hm]; exact Nat.two_pow_pos d
      rw [← hm] at hsh hsh2
      have HM2 := Lib.hid (And.intro hm (And.intro hm0 hm32))
      clear hm hm32 hm0
      have e0 : W4.cell? ⟨bd, 0, none⟩ = some (.int .i64 (d : Nat)) := HD.out.cell 0
      have d0 : W4.cell? ⟨br, 0, none⟩ = some (.slice (some ⟨B, off, none⟩) 40 c) := HR.out.cell 0
      have d1 : W4.cell? ⟨br, 1, none⟩ = some (.int .i64 261) := HR.out.cell 1
      have HQ := Lib.hid (Try.entries_any B off 40 c 1 m 261 W4)
      gi_wp2_with fail
      try simp only [hsh]
      refine ⟨trivial, ?_⟩
      refine (callsIn_wide.2 HQ.out).mono ?_
      rintro e W5 ⟨b1, b2, b3, rfl, hb1, r1, r2, r3, hC⟩
      have HB2 : Hid (w.heap.size ≤ b2) := Lib.hid (Nat.le_trans HB.out.size hb1)
      have HZ := Lib.hid (HZ.out.below hC HZ.out.lt)
      have HR := Lib.hid (HR.out.below hC HR.out.lt)
      have HD := Lib.hid (HD.out.below hC HD.out.lt)
      have HB := Lib.hid (HB.out.trans (hC.mono HB.out.size))
      have HR1 := Lib.hid (And.intro r1 (And.intro r2 r3))
      clear hC HQ r1 r2 r3 hb1 e0 d0 d1 hsh hsh2
      gi_wp2_with fail
      have hbB : B < w.heap.size := by
        obtain ⟨b, o, e, hlt, _⟩ := wordsAt_get HW.out 0 (by have := HN.out.1; omega)
        cases e
        exact hlt
      have hpw := okW_part HO.out 1 m
      obtain ⟨zs, hzz⟩ : ∃ zs, zs = ((ws.drop 1).take m).map Int.toNat := ⟨_, rfl⟩
      have hnw := nat_words _ hpw
      rw [← hzz] at hnw
      have hS5 : SrcY b1 b2 b3 B off 40 c 1 m 261 ws W5 := ⟨HR1.out.1, HR1.out.2.1, HR1.out.2.2, RowAt.below HW.out HB.out⟩
      have HTL := Lib.hid (Try.entries1_tells 8 (by decide) (Kt w.heap.size 64 36) b2 b1 b2 b3 B off 40 c 1 m 261 ws zs hnw.1 hnw.2 (by have := HM2.out.2.2; omega) HM2.out.2.1 (by have := HM2.out.2.2; omega) W5 (fun A => SrcY b1 b2 b3 B off 40 c 1 m 261 ws A) hS5 (fun _ h => h) (fun A X h p => h.below p)
        (fun A X p h => ⟨p.rows h.row (by decide) (by decide), p.rows h.at_ (by decide) (by decide), p.rows h.many (by decide) (by decide), words_kt p (fun b o e => by cases e; exact hbB) h.words⟩))
      have HZZ := Lib.hid hzz
      have hb2 := HR1.out.2.1.lt
      have HNE : Hid (bd ≠ b2 ∧ br ≠ b2 ∧ w.heap.size ≠ b2 ∧ w.heap.size ≤ b2) := Lib.hid ⟨rows_apart HD.out HR1.out.2.1 (by decide), rows_apart HR.out HR1.out.2.1 (by decide), rows_apart HZ.out HR1.out.2.1 (by decide), HB2.out⟩
      have HSZ : Hid (w.heap.size < W5.heap.size ∧ b2 < W5.heap.size) := Lib.hid ⟨HZ.out.lt, hb2⟩
      clear hpw hzz hnw hS5 hbB
      have hi0 : (fun (pre : List Pr) W' => (∃ u, Rows8 W' bd 64 #[.int .i64 (d : Nat), u] ∧ W'.ownsRow W5.heap.size 36 2 u pre.length (pVals pre)) ∧ Below w.heap.size w W' ∧ Rows8 W' br 110 #[.slice (some ⟨B, off, none⟩) 40 c, .int .i64 261] ∧ Rows8 W' w.heap.size 64 #[.int .i64 0, .slice none 0 0] ∧ W5.heap.size ≤ W'.heap.size) [] W5 := ⟨⟨_, HD.out, World.ownsRow_nil _ _ _ _⟩, HB.out, HR.out, HZ.out, Nat.le_refl _⟩
      clear HD HB HR HZ
      refine range_tellsP rfl (by decide) (gf := 89) (lb := #[.pointer (some ⟨b1, 0, none⟩), .pointer (some ⟨b2, 0, none⟩), .pointer (some ⟨b3, 0, none⟩)]) rfl trivial (fun _ _ => by kernel_rfl) HTL.out kt_t (kt_b (B := W5.heap.size)) (Below.refl _ _) hb2 (fun _ _ _ _ _ h _ _ => h) (fun _ => rfl)
        (fun (pre : List Pr) W' => (∃ u, Rows8 W' bd 64 #[.int .i64 (d : Nat), u] ∧ W'.ownsRow W5.heap.size 36 2 u pre.length (pVals pre)) ∧ Below w.heap.size w W' ∧ Rows8 W' br 110 #[.slice (some ⟨B, off, none⟩) 40 c, .int .i64 261] ∧ Rows8 W' w.heap.size 64 #[.int .i64 0, .slice none 0 0] ∧ W5.heap.size ≤ W'.heap.size)
        (fun s X Y row ⟨⟨u, h1, h2⟩, hB, h3, h4, h5⟩ hg hr => ⟨⟨u, Own.from (Rows8.own (β := Unit) bd 64 (fun _ => #[.int .i64 (d : Nat), u])) _ () X Y row h1 hg hr, Own.from (owns_own (β := Unit) W5.heap.size 36 2 (fun _ => u) (fun _ => s.length) (fun _ => pVals s)) _ () X Y row h2 hg hr⟩, ownFrom_below (β := Unit) (Nat.le_refl _) (Nat.le_of_lt HSZ.out.1) () X Y row hB hg hr, Own.from (Rows8.own (β := Unit) br 110 (fun _ => #[.slice (some ⟨B, off, none⟩) 40 c, .int .i64 261])) _ () X Y row h3 hg hr, Own.from (Rows8.own (β := Unit) w.heap.size 64 (fun _ => #[.int .i64 0, .slice none 0 0])) _ () X Y row h4 hg hr, Nat.le_trans h5 hg.size⟩)
        (fun s X Y ⟨⟨u, h1, h2⟩, hB, h3, h4, h5⟩ hXY => ⟨⟨u, (hXY.block _ h1.lt HNE.out.1).trans h1, owns_but h2 hXY HSZ.out.2⟩, hB.trans (hXY.below hB.size HNE.out.2.2.2), (hXY.block _ h3.lt HNE.out.2.1).trans h3, (hXY.block _ h4.lt HNE.out.2.2.1).trans h4, Nat.le_trans h5 hXY.size⟩)
        hi0
        (fun x a' W' => ∃ Bx, a' = { tmps := #[.slice (some ⟨B, off, none⟩) 40 c, undef, .pointer (some ⟨w.heap.size, 0, none⟩), .pointer (some ⟨br, 0, none⟩), .pointer (some ⟨bd, 0, none⟩), .int .i64 (m : Nat), .pointer (some ⟨Bx, 0, none⟩), .slice (some ⟨B, off, none⟩) 40 c, .agg #[.slice (some ⟨B, off, none⟩) 40 c, .int .i64 261], .slice (some ⟨B, off, none⟩) 40 c, .pointer (some ⟨B, off, none⟩), .int .u64 (d : Nat), v, .pointer (some ⟨br, 1, none⟩), .int .i64 261, .int .i64 (d : Nat), .agg #[.int .i64 (d : Nat), .slice none 0 0], .pointer (some ⟨bd, 0, none⟩), .int .i64 (d : Nat), .int .i64 (m : Nat), .agg #[.slice (some ⟨B, off, none⟩) 40 c, .int .i64 261], .int .i64 (m : Nat), .func (.func 89) #[] #[.pointer (some ⟨b1, 0, none⟩), .pointer (some ⟨b2, 0, none⟩), .pointer (some ⟨b3, 0, none⟩)], .agg #[.int .i64 x.1, .int .u64 (x.2 : Nat)], undef, undef, undef, undef, undef, undef, undef, undef, undef, undef, undef], defers := [] } ∧ Rows8 W' Bx 36 (pc x))
        (fun x a' s X Y row ⟨Bx, e, h⟩ hg hr => ⟨Bx, e, Rows8.own Bx 36 (fun _ => pc x) s X Y row h hg fun r e => (hr r e).2⟩) ?assign ?body ?done ?pan
      case assign =>
        rintro l2 pre x W' K ⟨⟨u, hu, hr⟩, hB, h3, h4, h5⟩ hK
        unfold encP
        gi_wp2_with fail
        have hXY : Below W'.heap.size W' (W'.alloc (.cells #[.int .i64 x.1, .int .u64 (x.2 : Nat)] 36)) := Rows8.newB
        exact hK _ _ (keepsFrom_below hXY) (.of_below hXY) ⟨⟨u, Rows8.below hu hXY hu.lt, owns_keep hr hXY (Nat.le_refl _)⟩, hB.trans (hXY.mono hB.size), h3.below hXY h3.lt, h4.below hXY h4.lt, Nat.le_trans h5 hXY.size⟩ ⟨_, rfl, Rows8.new _ _ _⟩
      case body =>
        rintro l2 pre x a' W' ⟨⟨u, hu, hr⟩, hB, h3, h4, h5⟩ ⟨Bx, rfl, hx⟩ hok
        have H5 := Lib.hid h5
        have hpl : pre.length + 1 ≤ 32 := by
          have h1 := hok.length_le
          rw [List.length_append, List.length_map] at h1
          have h2 : zs.length ≤ m := by rw [HZZ.out]; simp; omega
          have h3 := HM2.out.2.2
          simp at h1
          omega
        have HDU := Lib.hid hu
        have HRR := Lib.hid hr
        have HBB := Lib.hid hB
        have H34 := Lib.hid (And.intro h3 h4)
        have HPL := Lib.hid hpl
        have cx0 : W'.cell? ⟨Bx, 0, none⟩ = some (.int .i64 x.1) := hx.cell 0
        have cx1 : W'.cell? ⟨Bx, 1, none⟩ = some (.int .u64 (x.2 : Nat)) := hx.cell 1
        have hbx := hx.lt
        obtain ⟨au, cu, rfl⟩ : ∃ au cu, u = .slice au pre.length cu := by
          obtain ⟨_, a, cap, h, _⟩ := rowAt_own hr
          exact ⟨a, cap, h⟩
        have cd1 : W'.cell? ⟨bd, 1, none⟩ = some (.slice au pre.length cu) := hu.cell 1
        have hbd9 := hu.lt
        clear hu hr hB h3 h4 h5 hok hx hpl
        gi_wp2_with (gi_at_builtin; refine wpListIn_append_own _ rfl _ _ 23 rfl W5.heap.size 36 i0 (.agg #[.int .i64 0, .int .u64 0]) 2 16 Try.underlying23 HI.out.1 HI.out.2.1 HI.out.2.2.1 HI.out.2.2.2 rfl (by decide) _ _ _ rfl (HRR.out.alloc _) ⟨W'.heap.size, 0, none⟩ 1 1 [.int .i64 x.1, .int .u64 (x.2 : Nat)] rfl rfl (cells_new W' _ [.int .i64 x.1, .int .u64 (x.2 : Nat)]) (by simp [Value.oneCell']) (by have := HPL.out; unfold maxLen; omega) (by have := HPL.out; omega) (by have := H5.out; simp; omega) ?_; intro v' w3 hown' hgrow _; obtain ⟨g', cap', rfl⟩ := ownsRow_succ hown'; have hD3 := grown_rows (HDU.out.alloc _) (HRR.out.alloc _) (by decide) hgrow; have hc3 : w3.cell? ⟨bd, 1, none⟩ = some (.slice au pre.length cu) := hD3.cell 1; have hf3 := hD3.frozen 1; have hl3 := hD3.lt; have HOWN := Lib.hid hown'; have HGR := Lib.hid hgrow; have HD3 := Lib.hid hD3; clear hown' hgrow hD3)
        have hrl := fun j ej => (World.ownsRow.lt HRR.out j ej).1
        have hb9 : Below w.heap.size w w3 := (HBB.out.alloc HBB.out.size _).grown HGR.out (by have := HBB.out.size; simp; omega) (fun j ej => Nat.le_trans (Nat.le_of_lt HSZ.out.1) (hrl j ej))
        have h39 := grown_rows (H34.out.1.alloc _) (HRR.out.alloc _) (by decide) HGR.out
        have h49 := grown_rows (H34.out.2.alloc _) (HRR.out.alloc _) (by decide) HGR.out
        have hst := HD3.out.set 1 (.slice (some ⟨g', 0, none⟩) (pre.length + 1) cap')
        refine ⟨(body_keeps HRR.out HGR.out).from _, ((Kt.alloc W' _).grown (Nat.le_of_lt HSZ.out.1) (HRR.out.alloc _) HGR.out).set (a := ⟨bd, 1, none⟩) HD3.out (Nat.le_of_lt HBD.out.1) (.inl rfl) _, ⟨_, hst, ?_⟩, hb9.setCell (p := ⟨bd, 1, none⟩) (Nat.le_of_lt HBD.out.1) _, h39.setOther (a := ⟨bd, 1, none⟩) (by have := HBD.out.2; show bd ≠ _; omega) _, h49.setOther (a := ⟨bd, 1, none⟩) (by have := HBD.out.1; show bd ≠ _; omega) _, by have h1 := H5.out; have h2 := HGR.out.size; simp at h2; simp [World.setCell]; omega⟩
        have hfin := ownsRow_setCell_other HOWN.out (a := ⟨bd, 1, none⟩) (owns_not HOWN.out HD3.out (by decide)) (.slice (some ⟨g', 0, none⟩) (pre.length + 1) cap')
        rw [List.length_append, pVals_snoc]
        exact hfin
      case done =>
        rintro D ys W' hD ⟨rfl, hall⟩ ⟨⟨u, hu, hr⟩, hB, h3, h4, h5⟩ hK
        obtain ⟨au, cu, rfl⟩ : ∃ au cu, u = .slice au (zs.map entU).length cu := by
          obtain ⟨_, a, cap, h, _⟩ := rowAt_own hr
          exact ⟨a, cap, h⟩
        have hDl := (Array.getElem?_eq_some_iff.1 hK).1
        have HDB : Hid (w.heap.size < D) := Lib.hid (Nat.lt_of_lt_of_le HSZ.out.1 hD)
        have HQ := Lib.hid (Try.endsAt_any B off 40 c (1 + m) 261 ws W' (RowAt.below HW.out hB) (by have := HM2.out.2.2; omega) (by decide))
        have HALL := Lib.hid hall
        have HDU := Lib.hid hu
        have HRR := Lib.hid hr
        have HBB := Lib.hid hB
        have H4 := Lib.hid h4
        have HK := Lib.hid hK
        have HDL := Lib.hid hDl
        have d0 : W'.cell? ⟨br, 0, none⟩ = some (.slice (some ⟨B, off, none⟩) 40 c) := h3.cell 0
        have d1 : W'.cell? ⟨br, 1, none⟩ = some (.int .i64 261) := h3.cell 1
        have hw1 : IntKind.i64.wrap (1 + (m : Int)) = ((1 + m : Nat) : Int) := by
          have := HM2.out.2.2
          rw [IntWalk.i64_in _ (by omega)]
          omega
        obtain ⟨mm, hmm⟩ : ∃ q, q = 1 + m := ⟨_, rfl⟩
        rw [← hmm] at hw1 HQ
        have HMM := Lib.hid hmm
        clear hmm hall hu hr hB h3 h4 h5 hK hD hDl
        gi_wp2_with fail
        refine ⟨trivial, ?_⟩
        refine (callsIn_wide.2 HQ.out).mono ?_
        rintro e W6 ⟨hC, ⟨hz, rfl⟩ | ⟨hz, rfl⟩⟩
        · have HB6 := Lib.hid (HBB.out.trans (hC.mono HBB.out.size))
          have hK6 := (hC.block D HDL.out).trans HK.out
          have HZ9 := Lib.hid hz
          have HR6 := Lib.hid (owns_keep HRR.out hC (Nat.le_refl _))
          have hd6 := HDU.out.below hC HDU.out.lt
          have h46 := H4.out.below hC H4.out.lt
          have e0 : W6.cell? ⟨bd, 0, none⟩ = some (.int .i64 (d : Nat)) := hd6.cell 0
          have e1 : W6.cell? ⟨bd, 1, none⟩ = some (.slice au (zs.map entU).length cu) := hd6.cell 1
          have z0 : W6.cell? ⟨w.heap.size, 0, none⟩ = some (.int .i64 0) := h46.cell 0
          have z1 : W6.cell? ⟨w.heap.size, 1, none⟩ = some (.slice none 0 0) := h46.cell 1
          have f0 := h46.frozen 0
          have f1 := h46.frozen 1
          have l0 := h46.lt
          obtain ⟨q9, hq9⟩ : ∃ q, q = (zs.map entU).length := ⟨_, rfl⟩
          rw [← hq9] at e1
          have hnD : D ≠ w.heap.size := by have := HDB.out; omega
          obtain ⟨W7, hW7⟩ : ∃ W, W = (W6.setCell ⟨w.heap.size, 0, none⟩ (.int .i64 (d : Nat))).setCell ⟨w.heap.size, 1, none⟩ (.slice au q9 cu) := ⟨_, rfl⟩
          have hK7 : W7.heap[D]? = some (.deferred (some [])) := by rw [hW7]; exact def_set (def_set hK6 hnD _) hnD _
          have HT7 : Hid (Rows8 W7 w.heap.size 64 #[.int .i64 (d : Nat), .slice au q9 cu]) := Lib.hid (by rw [hW7]; exact h46.set2 _ _)
          have HB7 : Hid (Below w.heap.size w W7) := Lib.hid (by rw [hW7]; exact (HB6.out.setCell (p := ⟨w.heap.size, 0, none⟩) (Nat.le_refl _) _).setCell (p := ⟨w.heap.size, 1, none⟩) (Nat.le_refl _) _)
          have HR7 : Hid (W7.ownsRow W5.heap.size 36 2 (.slice au q9 cu) q9 (pVals (zs.map entU))) := Lib.hid (by
            have hr6 := HR6.out
            rw [← hq9] at hr6
            rw [hW7]
            exact ownsRow_setCell_other (ownsRow_setCell_other hr6 (a := ⟨w.heap.size, 0, none⟩) (owns_not hr6 h46 (by decide)) _) (a := ⟨w.heap.size, 1, none⟩) (owns_not (ownsRow_setCell_other hr6 (a := ⟨w.heap.size, 0, none⟩) (owns_not hr6 h46 (by decide)) _) (h46.set 0 (.int .i64 (d : Nat))) (by decide)) _)
          have HK7 := Lib.hid hK7
          have HQ9 := Lib.hid hq9
          clear hC hz HQ d0 d1 hw1 hd6 h46 hK6 hnD hK7 hq9
          gi_wp2_with fail
          rw [← hW7]
          refine ⟨by simp, .inl ⟨_, _, rfl, run_takeDeferred HK7.out, ?_⟩⟩
          refine ⟨_, results_c1 rfl _ _ w.heap.size _ rfl (load_row (rows_put HT7.out HK7.out) Try.underlying64 rfl (by kernel_rfl)), ?_⟩
          refine ⟨HB7.out.trans (belowK_b (w := w) (Nat.le_refl _) _ D _ _ (Nat.le_of_lt HDB.out) HK7.out rfl rfl), .inl ⟨au, q9, cu, rfl, ?_, ?_⟩⟩
          · have hr8 := owns_mono (ownsRow_putObj HR7.out (.deferred none) HK7.out rfl) (Nat.le_of_lt HSZ.out.1)
            have e9 : entsDw d ws = zs.map entU := by
              unfold entsDw
              rw [← HM2.out.1, ← HZZ.out]
            unfold OwnsP
            rw [e9, ← HQ9.out]
            exact hr8
          · unfold okDw
            rw [show 1 + 2 ^ d = mm by rw [HMM.out, HM2.out.1], HZ9.out, ← HM2.out.1, ← HZZ.out, HALL.out, decide_eq_true HY.out]
            rfl
        · have HB6 := Lib.hid (HBB.out.trans (hC.mono HBB.out.size))
          have hK6 := (hC.block D HDL.out).trans HK.out
          have HZ9 := Lib.hid hz
          clear hC hz HQ d0 d1 hw1
          unfold panicA
          gi_wp2_with fail
          refine ⟨by simp, .inl ⟨_, _, rfl, run_takeDeferred hK6, ?_⟩⟩
          exact ⟨HB6.out.trans (belowK_b (w := w) (Nat.le_refl _) _ D _ _ (Nat.le_of_lt HDB.out) hK6 rfl rfl), .inr ⟨261, rfl, rfl, by
            unfold okDw
            rw [show 1 + 2 ^ d = mm by rw [HMM.out, HM2.out.1], HZ9.out, Bool.and_false]⟩⟩
      case pan =>
        rintro D pre W' hD hno ⟨_, hB, _⟩ hK
        have hDB : w.heap.size ≤ D := Nat.le_of_lt (Nat.lt_of_lt_of_le HSZ.out.1 hD)
        refine ⟨by simp, .inl ⟨_, _, rfl, run_takeDeferred hK, ?_⟩⟩
        exact ⟨hB.trans (belowK_b (w := w) (Nat.le_refl _) _ D _ _ hDB hK rfl rfl), .inr ⟨261, rfl, rfl, by
          unfold okDw
          rw [← HM2.out.1, ← HZZ.out, hno, Bool.and_false, Bool.false_and]⟩⟩
  · obtain ⟨W2, hWn⟩ : ∃ W, W = W1.alloc (.cells #[.int .i64 0, .slice none 0 0] 64) := ⟨_, rfl⟩
    obtain ⟨bd, hbd⟩ : ∃ b, b = W1.heap.size := ⟨_, rfl⟩
    have HD : Hid (Rows8 W2 bd 64 #[.int .i64 0, .slice none 0 0]) := Lib.hid (by rw [hWn, hbd]; exact Rows8.new _ _ _)
    have HBD : Hid (w.heap.size < bd ∧ br < bd) := Lib.hid (by rw [hbd]; exact ⟨Nat.lt_of_lt_of_le HZ.out.lt (Nat.le_refl _), HR.out.lt⟩)
    have hC : Below W1.heap.size W1 W2 := by rw [hWn]; exact Rows8.newB
    have HZ := Lib.hid (HZ.out.below hC HZ.out.lt)
    have HR := Lib.hid (HR.out.below hC HR.out.lt)
    have HB := Lib.hid (HB.out.trans (hC.mono HB.out.size))
    clear hC
    refine step_value_g (by rfl) (.pointer (some ⟨bd, 0, none⟩)) (w' := W2) (by rw [hbd, hWn]; go_simp) ?_
    clear hWn hbd
    refine hK.out _ _ (fun _ => ⟨HR.out, HE.out _ HB.out⟩) ?_
    clear hK K
    try simp only [Act.put, List.setIfInBounds_toArray, List.set_cons_zero, List.set_cons_succ]
    refine wpAnyX_one (i := 3) (o := { dst := some 12, op := Go.Op.call { callee := Go.Callee.value (Go.Operand.func 41), args := #[Go.Operand.const (Go.Value.int Go.IntKind.u64 5)], argTypes := #[34] }, type := 83, pos := "row.go:90", after := #[], guard := none }) (by kernel_rfl) rfl (fun K hK => ?_)
    have HN := Try.upTo_any 5 W2
    refine step_call_g (by rfl) 41 _ _ rfl (fun _ _ => by kernel_rfl) #[.int .u64 5] (by simp [go_sem]) _ HN ?_
    rintro e W3 ⟨v, rfl, hm, hC⟩
    have HM := Lib.hid hm
    have HZ := Lib.hid (HZ.out.below hC HZ.out.lt)
    have HR := Lib.hid (HR.out.below hC HR.out.lt)
    have HB := Lib.hid (HB.out.trans (hC.mono HB.out.size))
    have HD := Lib.hid (HD.out.below hC HD.out.lt)
    clear hC HN hm
    refine ⟨_, rfl, ?_⟩
    refine hK.out _ _ (fun _ => ⟨HR.out, HE.out _ HB.out⟩) ?_
    clear hK K
    try simp only [Act.put, List.setIfInBounds_toArray, List.set_cons_zero, List.set_cons_succ]
    refine wpAnyX_one (i := 6) (o := { dst := some 15, op := Go.Op.call { callee := Go.Callee.value (Go.Operand.func 75), args := #[Go.Operand.tmp 11, Go.Operand.tmp 12, Go.Operand.tmp 14], argTypes := #[34, 83, 27] }, type := 3, pos := "row.go:90", after := #[{ on := 2, ground := Go.Ground.data }, { on := 3, ground := Go.Ground.data }, { on := 5, ground := Go.Ground.data }, { on := 3, ground := Go.Ground.chain }], guard := none }) (by kernel_rfl) rfl (fun K hK => ?_)
    have HN := Try.numIU_any (d : Nat) 261 v _ W3 HM.out
    refine step_callP_g (by rfl) 75 _ _ rfl (fun _ _ => by kernel_rfl) #[.int .u64 (d : Nat), v, .int .i64 261] (by simp [go_sem]) _ HN ?_
    clear HN
    rintro e w9 ⟨hw9, hq9⟩
    subst w9
    rcases hq9 with ⟨h, rfl⟩ | ⟨h, rfl⟩
    rotate_left
    · refine .inr ⟨_, rfl, ?_⟩
      exact ⟨rfl, HB.out, .inr ⟨261, rfl, rfl, by unfold okDw; rw [okd5_no h]; rfl⟩⟩
    have HY := Lib.hid (okd5_yes h)
    have hwm : wrap64 ((d : Nat) : Int) = (d : Int) := IntWalk.wrap64_in _ ⟨by have := HY.out; omega, by have := HY.out; omega⟩
    rw [hwm]
    clear h HM hwm
    refine .inl ⟨_, rfl, ?_⟩
    refine hK.out _ _ (fun _ => ⟨HR.out, HE.out _ HB.out⟩) ?_
    clear hK K
    try simp only [Act.put, List.setIfInBounds_toArray, List.set_cons_zero, List.set_cons_succ]
    refine wpAnyN_take (i := 7) (oi := { dst := some 16, op := Go.Op.build 64 #[(0, Go.Operand.tmp 15)], type := 64, pos := "row.go:90", after := #[{ on := 6, ground := Go.Ground.data }], guard := none }) (v := .agg #[.int .i64 (d : Nat), .slice none 0 0]) rfl (by decide) (by kernel_rfl) (by kernel_rfl) (by kernel_rfl) (fun _ _ _ h => h) (Or.inl ⟨by rfl, ?_⟩) ⟨HR.out, HE.out _ HB.out⟩ ?_
    · intro W9 hS9
      obtain ⟨q0, q1⟩ := hS9
      go_simp
    try simp only [Act.put, List.setIfInBounds_toArray, List.set_cons_zero, List.set_cons_succ]
    have z0 : W3.cell? ⟨bd, 0, none⟩ = some (.int .i64 0) := HD.out.cell 0
    have z1 : W3.cell? ⟨bd, 1, none⟩ = some (.slice none 0 0) := HD.out.cell 1
    have f0 := HD.out.frozen 0
    have f1 := HD.out.frozen 1
    have l0 := HD.out.lt
    obtain ⟨W4, hWn⟩ : ∃ W, W = (W3.setCell ⟨bd, 0, none⟩ (.int .i64 (d : Nat))).setCell ⟨bd, 1, none⟩ (.slice none 0 0) := ⟨_, rfl⟩
    have HD2 : Hid (Rows8 W4 bd 64 #[.int .i64 (d : Nat), .slice none 0 0]) := Lib.hid (by rw [hWn]; exact HD.out.set2 _ _)
    have HZ : Hid (Rows8 W4 w.heap.size 64 #[.int .i64 0, .slice none 0 0]) := Lib.hid (by rw [hWn]; exact (HZ.out.setOther (a := ⟨bd, 0, none⟩) (by have := HBD.out; show bd ≠ _; omega) _).setOther (a := ⟨bd, 1, none⟩) (by have := HBD.out; show bd ≠ _; omega) _)
    have HR : Hid (Rows8 W4 br 110 #[.slice (some ⟨B, off, none⟩) 40 c, .int .i64 261]) := Lib.hid (by rw [hWn]; exact (HR.out.setOther (a := ⟨bd, 0, none⟩) (by have := HBD.out; show bd ≠ _; omega) _).setOther (a := ⟨bd, 1, none⟩) (by have := HBD.out; show bd ≠ _; omega) _)
    have HB : Hid (Below w.heap.size w W4) := Lib.hid (by rw [hWn]; exact (HB.out.setCell (p := ⟨bd, 0, none⟩) (Nat.le_of_lt HBD.out.1) _).setCell (p := ⟨bd, 1, none⟩) (Nat.le_of_lt HBD.out.1) _)
    refine wpAnyX_one (i := 9) (o := { dst := none, op := Go.Op.store 64 (Go.Operand.tmp 4) (Go.Operand.tmp 16), type := 0, pos := "row.go:90", after := #[{ on := 8, ground := Go.Ground.data }, { on := 7, ground := Go.Ground.data }, { on := 6, ground := Go.Ground.chain }, { on := 0, ground := Go.Ground.phase }, { on := 1, ground := Go.Ground.phase }, { on := 2, ground := Go.Ground.phase }, { on := 3, ground := Go.Ground.phase }, { on := 4, ground := Go.Ground.phase }, { on := 5, ground := Go.Ground.phase }, { on := 6, ground := Go.Ground.phase }, { on := 7, ground := Go.Ground.phase }, { on := 8, ground := Go.Ground.phase }], guard := none }) (by kernel_rfl) rfl (fun K hK => ?_)
    refine step_skip_g (by rfl) (w' := W4) (by rw [hWn]; go_simp) ?_
    clear z0 z1 f0 f1 l0 hWn
    refine hK.out _ _ (fun _ => ⟨HR.out, HE.out _ HB.out⟩) ?_
    clear hK K
    try simp only [Act.put]
    refine wpAnyX_end (by kernel_rfl) ?_
    simp only [QR]
    have HD := HD2
    clear HD2
    have hsh := sh_eq d HY.out
    have hsh2 := Try.shl_ii d HY.out W4
    obtain ⟨m, hm⟩ : ∃ m, m = 2 ^ d := ⟨_, rfl⟩
    have hm32 : m ≤ 32 := by rw [hm]; exact Nat.pow_le_pow_right (by decide) HY.out
    have hm0 : 0 < m := by rw [hm]; exact Nat.two_pow_pos d
    rw [← hm] at hsh hsh2
    have HM2 := Lib.hid (And.intro hm (And.intro hm0 hm32))
    clear hm hm32 hm0
    have e0 : W4.cell? ⟨bd, 0, none⟩ = some (.int .i64 (d : Nat)) := HD.out.cell 0
    have d0 : W4.cell? ⟨br, 0, none⟩ = some (.slice (some ⟨B, off, none⟩) 40 c) := HR.out.cell 0
    have d1 : W4.cell? ⟨br, 1, none⟩ = some (.int .i64 261) := HR.out.cell 1
    have HQ := Lib.hid (Try.entries_any B off 40 c 1 m 261 W4)
    gi_wp2_with fail
    try simp only [hsh]
    refine ⟨trivial, ?_⟩
    refine (callsIn_wide.2 HQ.out).mono ?_
    rintro e W5 ⟨b1, b2, b3, rfl, hb1, r1, r2, r3, hC⟩
    have HB2 : Hid (w.heap.size ≤ b2) := Lib.hid (Nat.le_trans HB.out.size hb1)
    have HZ := Lib.hid (HZ.out.below hC HZ.out.lt)
    have HR := Lib.hid (HR.out.below hC HR.out.lt)
    have HD := Lib.hid (HD.out.below hC HD.out.lt)
    have HB := Lib.hid (HB.out.trans (hC.mono HB.out.size))
    have HR1 := Lib.hid (And.intro r1 (And.intro r2 r3))
    clear hC HQ r1 r2 r3 hb1 e0 d0 d1 hsh hsh2
    gi_wp2_with fail
    have hbB : B < w.heap.size := by
      obtain ⟨b, o, e, hlt, _⟩ := wordsAt_get HW.out 0 (by have := HN.out.1; omega)
      cases e
      exact hlt
    have hpw := okW_part HO.out 1 m
    obtain ⟨zs, hzz⟩ : ∃ zs, zs = ((ws.drop 1).take m).map Int.toNat := ⟨_, rfl⟩
    have hnw := nat_words _ hpw
    rw [← hzz] at hnw
    have hS5 : SrcY b1 b2 b3 B off 40 c 1 m 261 ws W5 := ⟨HR1.out.1, HR1.out.2.1, HR1.out.2.2, RowAt.below HW.out HB.out⟩
    have HTL := Lib.hid (Try.entries1_tells 8 (by decide) (Kt w.heap.size 64 36) b2 b1 b2 b3 B off 40 c 1 m 261 ws zs hnw.1 hnw.2 (by have := HM2.out.2.2; omega) HM2.out.2.1 (by have := HM2.out.2.2; omega) W5 (fun A => SrcY b1 b2 b3 B off 40 c 1 m 261 ws A) hS5 (fun _ h => h) (fun A X h p => h.below p)
      (fun A X p h => ⟨p.rows h.row (by decide) (by decide), p.rows h.at_ (by decide) (by decide), p.rows h.many (by decide) (by decide), words_kt p (fun b o e => by cases e; exact hbB) h.words⟩))
    have HZZ := Lib.hid hzz
    have hb2 := HR1.out.2.1.lt
    have HNE : Hid (bd ≠ b2 ∧ br ≠ b2 ∧ w.heap.size ≠ b2 ∧ w.heap.size ≤ b2) := Lib.hid ⟨rows_apart HD.out HR1.out.2.1 (by decide), rows_apart HR.out HR1.out.2.1 (by decide), rows_apart HZ.out HR1.out.2.1 (by decide), HB2.out⟩
    have HSZ : Hid (w.heap.size < W5.heap.size ∧ b2 < W5.heap.size) := Lib.hid ⟨HZ.out.lt, hb2⟩
    clear hpw hzz hnw hS5 hbB
    have hi0 : (fun (pre : List Pr) W' => (∃ u, Rows8 W' bd 64 #[.int .i64 (d : Nat), u] ∧ W'.ownsRow W5.heap.size 36 2 u pre.length (pVals pre)) ∧ Below w.heap.size w W' ∧ Rows8 W' br 110 #[.slice (some ⟨B, off, none⟩) 40 c, .int .i64 261] ∧ Rows8 W' w.heap.size 64 #[.int .i64 0, .slice none 0 0] ∧ W5.heap.size ≤ W'.heap.size) [] W5 := ⟨⟨_, HD.out, World.ownsRow_nil _ _ _ _⟩, HB.out, HR.out, HZ.out, Nat.le_refl _⟩
    clear HD HB HR HZ
    refine range_tellsP rfl (by decide) (gf := 89) (lb := #[.pointer (some ⟨b1, 0, none⟩), .pointer (some ⟨b2, 0, none⟩), .pointer (some ⟨b3, 0, none⟩)]) rfl trivial (fun _ _ => by kernel_rfl) HTL.out kt_t (kt_b (B := W5.heap.size)) (Below.refl _ _) hb2 (fun _ _ _ _ _ h _ _ => h) (fun _ => rfl)
      (fun (pre : List Pr) W' => (∃ u, Rows8 W' bd 64 #[.int .i64 (d : Nat), u] ∧ W'.ownsRow W5.heap.size 36 2 u pre.length (pVals pre)) ∧ Below w.heap.size w W' ∧ Rows8 W' br 110 #[.slice (some ⟨B, off, none⟩) 40 c, .int .i64 261] ∧ Rows8 W' w.heap.size 64 #[.int .i64 0, .slice none 0 0] ∧ W5.heap.size ≤ W'.heap.size)
      (fun s X Y row ⟨⟨u, h1, h2⟩, hB, h3, h4, h5⟩ hg hr => ⟨⟨u, Own.from (Rows8.own (β := Unit) bd 64 (fun _ => #[.int .i64 (d : Nat), u])) _ () X Y row h1 hg hr, Own.from (owns_own (β := Unit) W5.heap.size 36 2 (fun _ => u) (fun _ => s.length) (fun _ => pVals s)) _ () X Y row h2 hg hr⟩, ownFrom_below (β := Unit) (Nat.le_refl _) (Nat.le_of_lt HSZ.out.1) () X Y row hB hg hr, Own.from (Rows8.own (β := Unit) br 110 (fun _ => #[.slice (some ⟨B, off, none⟩) 40 c, .int .i64 261])) _ () X Y row h3 hg hr, Own.from (Rows8.own (β := Unit) w.heap.size 64 (fun _ => #[.int .i64 0, .slice none 0 0])) _ () X Y row h4 hg hr, Nat.le_trans h5 hg.size⟩)
      (fun s X Y ⟨⟨u, h1, h2⟩, hB, h3, h4, h5⟩ hXY => ⟨⟨u, (hXY.block _ h1.lt HNE.out.1).trans h1, owns_but h2 hXY HSZ.out.2⟩, hB.trans (hXY.below hB.size HNE.out.2.2.2), (hXY.block _ h3.lt HNE.out.2.1).trans h3, (hXY.block _ h4.lt HNE.out.2.2.1).trans h4, Nat.le_trans h5 hXY.size⟩)
      hi0
      (fun x a' W' => ∃ Bx, a' = { tmps := #[.slice (some ⟨B, off, none⟩) 40 c, undef, .pointer (some ⟨w.heap.size, 0, none⟩), .pointer (some ⟨br, 0, none⟩), .pointer (some ⟨bd, 0, none⟩), .int .i64 (m : Nat), .pointer (some ⟨Bx, 0, none⟩), .slice (some ⟨B, off, none⟩) 40 c, .agg #[.slice (some ⟨B, off, none⟩) 40 c, .int .i64 261], .slice (some ⟨B, off, none⟩) 40 c, .pointer (some ⟨B, off, none⟩), .int .u64 (d : Nat), v, .pointer (some ⟨br, 1, none⟩), .int .i64 261, .int .i64 (d : Nat), .agg #[.int .i64 (d : Nat), .slice none 0 0], .pointer (some ⟨bd, 0, none⟩), .int .i64 (d : Nat), .int .i64 (m : Nat), .agg #[.slice (some ⟨B, off, none⟩) 40 c, .int .i64 261], .int .i64 (m : Nat), .func (.func 89) #[] #[.pointer (some ⟨b1, 0, none⟩), .pointer (some ⟨b2, 0, none⟩), .pointer (some ⟨b3, 0, none⟩)], .agg #[.int .i64 x.1, .int .u64 (x.2 : Nat)], undef, undef, undef, undef, undef, undef, undef, undef, undef, undef, undef], defers := [] } ∧ Rows8 W' Bx 36 (pc x))
      (fun x a' s X Y row ⟨Bx, e, h⟩ hg hr => ⟨Bx, e, Rows8.own Bx 36 (fun _ => pc x) s X Y row h hg fun r e => (hr r e).2⟩) ?assign ?body ?done ?pan
    case assign =>
      rintro l2 pre x W' K ⟨⟨u, hu, hr⟩, hB, h3, h4, h5⟩ hK
      unfold encP
      gi_wp2_with fail
      have hXY : Below W'.heap.size W' (W'.alloc (.cells #[.int .i64 x.1, .int .u64 (x.2 : Nat)] 36)) := Rows8.newB
      exact hK _ _ (keepsFrom_below hXY) (.of_below hXY) ⟨⟨u, Rows8.below hu hXY hu.lt, owns_keep hr hXY (Nat.le_refl _)⟩, hB.trans (hXY.mono hB.size), h3.below hXY h3.lt, h4.below hXY h4.lt, Nat.le_trans h5 hXY.size⟩ ⟨_, rfl, Rows8.new _ _ _⟩
    case body =>
      rintro l2 pre x a' W' ⟨⟨u, hu, hr⟩, hB, h3, h4, h5⟩ ⟨Bx, rfl, hx⟩ hok
      have H5 := Lib.hid h5
      have hpl : pre.length + 1 ≤ 32 := by
        have h1 := hok.length_le
        rw [List.length_append, List.length_map] at h1
        have h2 : zs.length ≤ m := by rw [HZZ.out]; simp; omega
        have h3 := HM2.out.2.2
        simp at h1
        omega
      have HDU := Lib.hid hu
      have HRR := Lib.hid hr
      have HBB := Lib.hid hB
      have H34 := Lib.hid (And.intro h3 h4)
      have HPL := Lib.hid hpl
      have cx0 : W'.cell? ⟨Bx, 0, none⟩ = some (.int .i64 x.1) := hx.cell 0
      have cx1 : W'.cell? ⟨Bx, 1, none⟩ = some (.int .u64 (x.2 : Nat)) := hx.cell 1
      have hbx := hx.lt
      obtain ⟨au, cu, rfl⟩ : ∃ au cu, u = .slice au pre.length cu := by
        obtain ⟨_, a, cap, h, _⟩ := rowAt_own hr
        exact ⟨a, cap, h⟩
      have cd1 : W'.cell? ⟨bd, 1, none⟩ = some (.slice au pre.length cu) := hu.cell 1
      have hbd9 := hu.lt
      clear hu hr hB h3 h4 h5 hok hx hpl
      gi_wp2_with (gi_at_builtin; refine wpListIn_append_own _ rfl _ _ 23 rfl W5.heap.size 36 i0 (.agg #[.int .i64 0, .int .u64 0]) 2 16 Try.underlying23 HI.out.1 HI.out.2.1 HI.out.2.2.1 HI.out.2.2.2 rfl (by decide) _ _ _ rfl (HRR.out.alloc _) ⟨W'.heap.size, 0, none⟩ 1 1 [.int .i64 x.1, .int .u64 (x.2 : Nat)] rfl rfl (cells_new W' _ [.int .i64 x.1, .int .u64 (x.2 : Nat)]) (by simp [Value.oneCell']) (by have := HPL.out; unfold maxLen; omega) (by have := HPL.out; omega) (by have := H5.out; simp; omega) ?_; intro v' w3 hown' hgrow _; obtain ⟨g', cap', rfl⟩ := ownsRow_succ hown'; have hD3 := grown_rows (HDU.out.alloc _) (HRR.out.alloc _) (by decide) hgrow; have hc3 : w3.cell? ⟨bd, 1, none⟩ = some (.slice au pre.length cu) := hD3.cell 1; have hf3 := hD3.frozen 1; have hl3 := hD3.lt; have HOWN := Lib.hid hown'; have HGR := Lib.hid hgrow; have HD3 := Lib.hid hD3; clear hown' hgrow hD3)
      have hrl := fun j ej => (World.ownsRow.lt HRR.out j ej).1
      have hb9 : Below w.heap.size w w3 := (HBB.out.alloc HBB.out.size _).grown HGR.out (by have := HBB.out.size; simp; omega) (fun j ej => Nat.le_trans (Nat.le_of_lt HSZ.out.1) (hrl j ej))
      have h39 := grown_rows (H34.out.1.alloc _) (HRR.out.alloc _) (by decide) HGR.out
      have h49 := grown_rows (H34.out.2.alloc _) (HRR.out.alloc _) (by decide) HGR.out
      have hst := HD3.out.set 1 (.slice (some ⟨g', 0, none⟩) (pre.length + 1) cap')
      refine ⟨(body_keeps HRR.out HGR.out).from _, ((Kt.alloc W' _).grown (Nat.le_of_lt HSZ.out.1) (HRR.out.alloc _) HGR.out).set (a := ⟨bd, 1, none⟩) HD3.out (Nat.le_of_lt HBD.out.1) (.inl rfl) _, ⟨_, hst, ?_⟩, hb9.setCell (p := ⟨bd, 1, none⟩) (Nat.le_of_lt HBD.out.1) _, h39.setOther (a := ⟨bd, 1, none⟩) (by have := HBD.out.2; show bd ≠ _; omega) _, h49.setOther (a := ⟨bd, 1, none⟩) (by have := HBD.out.1; show bd ≠ _; omega) _, by have h1 := H5.out; have h2 := HGR.out.size; simp at h2; simp [World.setCell]; omega⟩
      have hfin := ownsRow_setCell_other HOWN.out (a := ⟨bd, 1, none⟩) (owns_not HOWN.out HD3.out (by decide)) (.slice (some ⟨g', 0, none⟩) (pre.length + 1) cap')
      rw [List.length_append, pVals_snoc]
      exact hfin
    case done =>
      rintro D ys W' hD ⟨rfl, hall⟩ ⟨⟨u, hu, hr⟩, hB, h3, h4, h5⟩ hK
      obtain ⟨au, cu, rfl⟩ : ∃ au cu, u = .slice au (zs.map entU).length cu := by
        obtain ⟨_, a, cap, h, _⟩ := rowAt_own hr
        exact ⟨a, cap, h⟩
      have hDl := (Array.getElem?_eq_some_iff.1 hK).1
      have HDB : Hid (w.heap.size < D) := Lib.hid (Nat.lt_of_lt_of_le HSZ.out.1 hD)
      have HQ := Lib.hid (Try.endsAt_any B off 40 c (1 + m) 261 ws W' (RowAt.below HW.out hB) (by have := HM2.out.2.2; omega) (by decide))
      have HALL := Lib.hid hall
      have HDU := Lib.hid hu
      have HRR := Lib.hid hr
      have HBB := Lib.hid hB
      have H4 := Lib.hid h4
      have HK := Lib.hid hK
      have HDL := Lib.hid hDl
      have d0 : W'.cell? ⟨br, 0, none⟩ = some (.slice (some ⟨B, off, none⟩) 40 c) := h3.cell 0
      have d1 : W'.cell? ⟨br, 1, none⟩ = some (.int .i64 261) := h3.cell 1
      have hw1 : IntKind.i64.wrap (1 + (m : Int)) = ((1 + m : Nat) : Int) := by
        have := HM2.out.2.2
        rw [IntWalk.i64_in _ (by omega)]
        omega
      obtain ⟨mm, hmm⟩ : ∃ q, q = 1 + m := ⟨_, rfl⟩
      rw [← hmm] at hw1 HQ
      have HMM := Lib.hid hmm
      clear hmm hall hu hr hB h3 h4 h5 hK hD hDl
      gi_wp2_with fail
      refine ⟨trivial, ?_⟩
      refine (callsIn_wide.2 HQ.out).mono ?_
      rintro e W6 ⟨hC, ⟨hz, rfl⟩ | ⟨hz, rfl⟩⟩
      · have HB6 := Lib.hid (HBB.out.trans (hC.mono HBB.out.size))
        have hK6 := (hC.block D HDL.out).trans HK.out
        have HZ9 := Lib.hid hz
        have HR6 := Lib.hid (owns_keep HRR.out hC (Nat.le_refl _))
        have hd6 := HDU.out.below hC HDU.out.lt
        have h46 := H4.out.below hC H4.out.lt
        have e0 : W6.cell? ⟨bd, 0, none⟩ = some (.int .i64 (d : Nat)) := hd6.cell 0
        have e1 : W6.cell? ⟨bd, 1, none⟩ = some (.slice au (zs.map entU).length cu) := hd6.cell 1
        have z0 : W6.cell? ⟨w.heap.size, 0, none⟩ = some (.int .i64 0) := h46.cell 0
        have z1 : W6.cell? ⟨w.heap.size, 1, none⟩ = some (.slice none 0 0) := h46.cell 1
        have f0 := h46.frozen 0
        have f1 := h46.frozen 1
        have l0 := h46.lt
        obtain ⟨q9, hq9⟩ : ∃ q, q = (zs.map entU).length := ⟨_, rfl⟩
        rw [← hq9] at e1
        have hnD : D ≠ w.heap.size := by have := HDB.out; omega
        obtain ⟨W7, hW7⟩ : ∃ W, W = (W6.setCell ⟨w.heap.size, 0, none⟩ (.int .i64 (d : Nat))).setCell ⟨w.heap.size, 1, none⟩ (.slice au q9 cu) := ⟨_, rfl⟩
        have hK7 : W7.heap[D]? = some (.deferred (some [])) := by rw [hW7]; exact def_set (def_set hK6 hnD _) hnD _
        have HT7 : Hid (Rows8 W7 w.heap.size 64 #[.int .i64 (d : Nat), .slice au q9 cu]) := Lib.hid (by rw [hW7]; exact h46.set2 _ _)
        have HB7 : Hid (Below w.heap.size w W7) := Lib.hid (by rw [hW7]; exact (HB6.out.setCell (p := ⟨w.heap.size, 0, none⟩) (Nat.le_refl _) _).setCell (p := ⟨w.heap.size, 1, none⟩) (Nat.le_refl _) _)
        have HR7 : Hid (W7.ownsRow W5.heap.size 36 2 (.slice au q9 cu) q9 (pVals (zs.map entU))) := Lib.hid (by
          have hr6 := HR6.out
          rw [← hq9] at hr6
          rw [hW7]
          exact ownsRow_setCell_other (ownsRow_setCell_other hr6 (a := ⟨w.heap.size, 0, none⟩) (owns_not hr6 h46 (by decide)) _) (a := ⟨w.heap.size, 1, none⟩) (owns_not (ownsRow_setCell_other hr6 (a := ⟨w.heap.size, 0, none⟩) (owns_not hr6 h46 (by decide)) _) (h46.set 0 (.int .i64 (d : Nat))) (by decide)) _)
        have HK7 := Lib.hid hK7
        have HQ9 := Lib.hid hq9
        clear hC hz HQ d0 d1 hw1 hd6 h46 hK6 hnD hK7 hq9
        gi_wp2_with fail
        rw [← hW7]
        refine ⟨by simp, .inl ⟨_, _, rfl, run_takeDeferred HK7.out, ?_⟩⟩
        refine ⟨_, results_c1 rfl _ _ w.heap.size _ rfl (load_row (rows_put HT7.out HK7.out) Try.underlying64 rfl (by kernel_rfl)), ?_⟩
        refine ⟨HB7.out.trans (belowK_b (w := w) (Nat.le_refl _) _ D _ _ (Nat.le_of_lt HDB.out) HK7.out rfl rfl), .inl ⟨au, q9, cu, rfl, ?_, ?_⟩⟩
        · have hr8 := owns_mono (ownsRow_putObj HR7.out (.deferred none) HK7.out rfl) (Nat.le_of_lt HSZ.out.1)
          have e9 : entsDw d ws = zs.map entU := by
            unfold entsDw
            rw [← HM2.out.1, ← HZZ.out]
          unfold OwnsP
          rw [e9, ← HQ9.out]
          exact hr8
        · unfold okDw
          rw [show 1 + 2 ^ d = mm by rw [HMM.out, HM2.out.1], HZ9.out, ← HM2.out.1, ← HZZ.out, HALL.out, decide_eq_true HY.out]
          rfl
      · have HB6 := Lib.hid (HBB.out.trans (hC.mono HBB.out.size))
        have hK6 := (hC.block D HDL.out).trans HK.out
        have HZ9 := Lib.hid hz
        clear hC hz HQ d0 d1 hw1
        unfold panicA
        gi_wp2_with fail
        refine ⟨by simp, .inl ⟨_, _, rfl, run_takeDeferred hK6, ?_⟩⟩
        exact ⟨HB6.out.trans (belowK_b (w := w) (Nat.le_refl _) _ D _ _ (Nat.le_of_lt HDB.out) hK6 rfl rfl), .inr ⟨261, rfl, rfl, by
          unfold okDw
          rw [show 1 + 2 ^ d = mm by rw [HMM.out, HM2.out.1], HZ9.out, Bool.and_false]⟩⟩
    case pan =>
      rintro D pre W' hD hno ⟨_, hB, _⟩ hK
      have hDB : w.heap.size ≤ D := Nat.le_of_lt (Nat.lt_of_lt_of_le HSZ.out.1 hD)
      refine ⟨by simp, .inl ⟨_, _, rfl, run_takeDeferred hK, ?_⟩⟩
      exact ⟨hB.trans (belowK_b (w := w) (Nat.le_refl _) _ D _ _ hDB hK rfl rfl), .inr ⟨261, rfl, rfl, by
        unfold okDw
        rw [← HM2.out.1, ← HZZ.out, hno, Bool.and_false, Bool.false_and]⟩⟩
end Go.Proofs
