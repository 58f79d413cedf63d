/- Layout: words of a row, endsAt; the reader: count, place, fill, slots. -/
import Derived.Test.YtkddfihfilhhdaaWp
namespace Go.Proofs
set_option maxRecDepth 100000
open Go.RowKit Go.Shelf
attribute [local go_sem] Oper.semAt_some

theorem words_len {W : World} {a : Option Addr} {n c : Nat} {ws : List Int} (h : WordsAt W (.slice a n c) ws) : n = ws.length ∧ n ≤ c ∧ c ≤ maxLen := by
  obtain ⟨_, a', c', e, h1, h2, _⟩ := h
  cases e
  exact ⟨rfl, h1, h2⟩
/-- Words of a part of a row. -/
theorem words_part {W : World} {B off n c : Nat} {ws : List Int} (h : WordsAt W (.slice (some ⟨B, off, none⟩) n c) ws) (k m : Nat) (hk : k + m ≤ n) : WordsAt W (.slice (some ⟨B, off + k, none⟩) m m) ((ws.drop k).take m) := by
  obtain ⟨hn, h2, h3⟩ := words_len h
  have hl : ((ws.drop k).take m).length = m := by simp; omega
  refine ⟨by rw [wordVals_length, Nat.mul_one], _, m, by rw [hl], by omega, by omega, (fun e => by cases e), fun j hj => ?_⟩
  rw [wordVals_length, hl] at hj
  obtain ⟨_, a', c', e, _, _, _, h5⟩ := h
  cases e
  obtain ⟨b, o, e, hb, hc⟩ := h5 (k + j) (by rw [wordVals_length]; omega)
  cases e
  refine ⟨B, off + k, rfl, hb, ?_⟩
  rw [Nat.add_assoc, hc, wordVals_take, wordVals_drop, List.getElem?_take, if_pos hj, List.getElem?_drop]
theorem words_some {W : World} {a : Option Addr} {n c : Nat} {ws : List Int} (h : WordsAt W (.slice a n c) ws) (hn : 0 < n) : ∃ B off, a = some ⟨B, off, none⟩ := by
  obtain ⟨b, off, e, _⟩ := wordsAt_get h 0 (by have := (words_len h).1; omega)
  exact ⟨b, off, e⟩
def wd (ws : List Int) (i : Nat) : Int := ws[i]?.getD 0
theorem wd_cell {W : World} {B off n c : Nat} {ws : List Int} (h : WordsAt W (.slice (some ⟨B, off, none⟩) n c) ws) (k : Nat) (hk : k < n) : W.cell? ⟨B, off + k, none⟩ = some (.int .u64 (wd ws k)) := by
  obtain ⟨b, o, e, _, hc⟩ := wordsAt_get h k (by have := (words_len h).1; omega)
  cases e
  exact hc
theorem okW_wd {ws : List Int} (h : okW ws) (i : Nat) : 0 ≤ wd ws i ∧ wd ws i < 18446744073709551616 := by
  unfold wd
  cases e : ws[i]? with
  | none => simp
  | some z =>
    obtain ⟨hi, rfl⟩ := List.getElem?_eq_some_iff.1 e
    exact h _ (List.getElem_mem hi)
/-- Are these all 0? -/
def zeroB (l : List Int) : Bool := l.all (fun z => decide (z ≤ 0))
theorem zero_next (l : List Int) (k : Nat) (h : k < l.length) (hx : zeroB (l.take k) = true) (hy : decide (wd l k ≤ 0) = true) : zeroB (l.take (k + 1)) = true := by
  unfold zeroB at *
  rw [take_snoc l k h, List.all_append, hx]
  unfold wd at hy
  rw [List.getElem?_eq_getElem h] at hy
  simpa using hy
theorem zero_no (l : List Int) (k : Nat) (h : k < l.length) (hy : decide (wd l k ≤ 0) = false) : zeroB l = false := by
  unfold zeroB
  rw [List.all_eq_false]
  refine ⟨l[k], List.getElem_mem h, ?_⟩
  unfold wd at hy
  rw [List.getElem?_eq_getElem h] at hy
  simpa using hy
set_option maxHeartbeats 4000000 in
theorem Try.endsAt_any (B off n c k : Nat) (q : Int) (ws : List Int) (w : World) (hw : WordsAt w (.slice (some ⟨B, off, none⟩) n c) ws) (hk : k < n) (hn : n ≤ 1000) :
    Calls Try.prog 85 #[.agg #[.slice (some ⟨B, off, none⟩) n c, .int .i64 q], .int .i64 (k : Int)] w fun e w' => Below w.heap.size w w' ∧ ((zeroB (ws.drop k) = true ∧ e = .returned (.tuple #[])) ∨ (zeroB (ws.drop k) = false ∧ e = .panicked (panicA q))) := by
  obtain ⟨h1, h2, h3⟩ := words_len hw
  obtain ⟨W0, hW0⟩ : ∃ W, W = w.alloc (.cells #[.slice (some ⟨B, off, none⟩) n c, .int .i64 q] 110) := ⟨_, rfl⟩
  have HR : Hid (Rows8 W0 w.heap.size 110 #[.slice (some ⟨B, off, none⟩) n c, .int .i64 q]) := Lib.hid (by rw [hW0]; exact Rows8.new _ _ _)
  have HB : Hid (Below w.heap.size w W0) := Lib.hid (by rw [hW0]; exact Rows8.newB)
  obtain ⟨m, hm⟩ : ∃ m, m = n - k := ⟨_, rfl⟩
  have HW := Lib.hid (RowAt.below (words_part hw k m (by omega)) HB.out)
  have hdl : (ws.drop k).take m = ws.drop k := List.take_of_length_le (by simp; omega)
  have HQ := Lib.hid (Try.cut_any B off n c k m q (by omega) h2 h3 (by omega) W0)
  have hwm : IntKind.i64.wrap ((n : Int) - k) = (m : Int) := by rw [IntWalk.i64_in _ (by omega)]; omega
  obtain ⟨l, hl⟩ : ∃ l, l = ws.drop k := ⟨_, rfl⟩
  rw [hdl, ← hl] at HW
  have HL := Lib.hid hl
  have HML : Hid (m = l.length) := Lib.hid (by rw [hl]; simp; omega)
  have HM2 : Hid (m ≤ 1000) := Lib.hid (by omega)
  have c0 : W0.cell? ⟨w.heap.size, 0, none⟩ = some (.slice (some ⟨B, off, none⟩) n c) := HR.out.cell 0
  have c1 : W0.cell? ⟨w.heap.size, 1, none⟩ = some (.int .i64 q) := HR.out.cell 1
  clear hw h1 h2 h3 hk hn hm hl hdl
  go_enter Try.func85, Try.ntmps85
  go_upto_region 1 with fail
  rw [← hW0]
  clear hW0
  go_wp2_with fail
  refine HQ.out.mono ?_
  rintro e W1 ⟨rfl, hC⟩
  have HR := Lib.hid (HR.out.below hC HR.out.lt)
  have HW := Lib.hid (RowAt.below HW.out hC)
  have HB := Lib.hid (HB.out.trans (hC.mono HB.out.size))
  clear hC HQ hwm c0 c1
  go_wp2_with fail
  go_loopw [5, 15] (fun _ j wr => ∃ i : Nat, i ≤ m ∧ j = .int .i64 i ∧ Hid (zeroB (l.take i) = true) ∧ Hid (Rows8 wr w.heap.size 110 #[.slice (some ⟨B, off, none⟩) n c, .int .i64 q]) ∧ Hid (RowAt wr (.slice (some ⟨B, off + k, none⟩) m m) l.length 1 (wordVals l)) ∧ Hid (Below w.heap.size w wr)) (fun _ j _ => m - (intOf j).toNat)
  case atStart => exact ⟨0, Nat.zero_le _, rfl, Lib.hid rfl, HR, HW, HB⟩
  case round =>
    clear HR HW HB
    obtain ⟨i, hi, rfl, hx, HR, HW, HB⟩ := hrel
    by_cases hlt : i < m
    · have hil : i < l.length := by rw [← HML.out]; exact hlt
      have e0 := wd_cell (ws := l) HW.out i hlt
      have HNX := Lib.hid (fun hy => zero_next l i hil hx.out hy)
      have HNO := Lib.hid (zero_no l i hil)
      obtain ⟨z, hz⟩ : ∃ z, z = wd l i := ⟨_, rfl⟩
      rw [← hz] at e0 HNX HNO
      have hki : (i : Int) < (m : Int) := by omega
      have HWK : Hid (wrap64 ((i : Int) + 1) = ((i + 1 : Nat) : Int)) := Lib.hid (by
        have := HM2.out
        rw [IntWalk.wrap64_in _ ⟨by omega, by omega⟩]
        omega)
      clear hx hil hz
      go_upto_region 4 with fail
      clear e0
      refine wp_region_X (fun W' => Rows8 W' w.heap.size 110 #[.slice (some ⟨B, off, none⟩) n c, .int .i64 q]) 5 (by kernel_rfl) ?_
      have hC0 : Below wr.heap.size wr wr.drew := (Below.refl _ _).drew
      have HR := Lib.hid (HR.out.below hC0 HR.out.lt)
      have HW := Lib.hid (RowAt.below HW.out hC0)
      have HB := Lib.hid (HB.out.trans (hC0.mono HB.out.size))
      clear hC0
      generalize wr.drew = Wd at *
      refine wpAnyN_take (i := 0) (oi := { dst := some 19, op := Go.Op.move (Go.Operand.tmp 5), type := 34, pos := "row.go:63", after := #[], guard := none }) (v := .int .u64 z) rfl (by decide) (by kernel_rfl) (by kernel_rfl) (by kernel_rfl) (fun _ _ _ h => h) (Or.inl ⟨by rfl, ?_⟩) HR.out ?_
      · intro W9 hS9
        go_simp
      try simp only [Act.put, List.setIfInBounds_toArray, List.set_cons_zero, List.set_cons_succ]
      refine wpAnyN_take (i := 2) (oi := { dst := some 21, op := Go.Op.fieldAddr 110 (Go.Operand.tmp 2) 1, type := 0, pos := "row.go:63", after := #[], guard := none }) (v := .pointer (some ⟨w.heap.size, 1, none⟩)) rfl (by decide) (by kernel_rfl) (by kernel_rfl) (by kernel_rfl) (fun _ _ _ h => h) (Or.inl ⟨by rfl, ?_⟩) HR.out ?_
      · intro W9 hS9
        go_simp
      try simp only [Act.put, List.setIfInBounds_toArray, List.set_cons_zero, List.set_cons_succ]
      refine wpAnyN_take (i := 3) (oi := { dst := some 22, op := Go.Op.load 27 (Go.Operand.tmp 21), type := 27, pos := "row.go:63", after := #[{ on := 2, ground := Go.Ground.data }], guard := none }) (v := .int .i64 q) rfl (by decide) (by kernel_rfl) (by kernel_rfl) (by kernel_rfl) (fun _ _ _ h => h) (Or.inl ⟨by rfl, ?_⟩) HR.out ?_
      · intro W9 hS9
        have s0 : W9.cell? ⟨w.heap.size, 1, none⟩ = some (.int .i64 q) := hS9.cell 1
        clear hS9
        go_simp
      try simp only [Act.put, List.setIfInBounds_toArray, List.set_cons_zero, List.set_cons_succ]
      refine wpAnyX_one (i := 1) (o := { dst := some 20, op := Go.Op.call { callee := Go.Callee.value (Go.Operand.func 41), args := #[Go.Operand.const (Go.Value.int Go.IntKind.u64 0)], argTypes := #[34] }, type := 83, pos := "row.go:63", after := #[], guard := none }) (by kernel_rfl) rfl (fun K hK => ?_)
      have HN := Try.upTo_any 0 Wd
      refine step_call_g (by rfl) 41 _ _ rfl (fun _ _ => by kernel_rfl) #[.int .u64 0] (by simp [go_sem]) _ HN ?_
      rintro e We ⟨v, rfl, hm, hC⟩
      have HM := Lib.hid hm
      have HR := Lib.hid (HR.out.below hC HR.out.lt)
      have HW := Lib.hid (RowAt.below HW.out hC)
      have HB := Lib.hid (HB.out.trans (hC.mono HB.out.size))
      clear hC HN hm
      refine ⟨_, rfl, ?_⟩
      refine hK.out _ _ (fun _ => HR.out) ?_
      clear hK K
      try simp only [Act.put, List.setIfInBounds_toArray, List.set_cons_zero, List.set_cons_succ]
      refine wpAnyX_one (i := 4) (o := { dst := some 23, op := Go.Op.call { callee := Go.Callee.value (Go.Operand.func 73), args := #[Go.Operand.tmp 19, Go.Operand.tmp 20, Go.Operand.tmp 22], argTypes := #[34, 83, 27] }, type := 34, pos := "row.go:63", after := #[{ on := 0, ground := Go.Ground.data }, { on := 1, ground := Go.Ground.data }, { on := 3, ground := Go.Ground.data }, { on := 1, ground := Go.Ground.chain }], guard := none }) (by kernel_rfl) rfl (fun K hK => ?_)
      have HN := Try.numUU_any z q v _ We HM.out
      refine step_callP_g (by rfl) 73 _ _ rfl (fun _ _ => by kernel_rfl) #[.int .u64 z, v, .int .i64 q] (by simp [go_sem]) _ HN ?_
      clear HN
      rintro e w9 ⟨hw9, hq9⟩
      subst w9
      rcases hq9 with ⟨h, rfl⟩ | ⟨h, rfl⟩
      rotate_left
      · refine .inr ⟨_, rfl, ?_⟩
        have h9 := HNO.out h
        exact ⟨by trivial, HB.out, .inr ⟨by rw [HL.out] at h9; exact h9, rfl⟩⟩
      have HY := Lib.hid (HNX.out h)
      clear h HM
      refine .inl ⟨_, rfl, ?_⟩
      refine hK.out _ _ (fun _ => HR.out) ?_
      clear hK K
      try simp only [Act.put, List.setIfInBounds_toArray, List.set_cons_zero, List.set_cons_succ]
      refine wpAnyX_end (by kernel_rfl) ?_
      go_wp2_with fail
      exact ⟨⟨i + 1, by omega, by first | rw [HWK.out] | rfl, HY, HR, HW, HB⟩, by (try rw [HWK.out]); simp [intOf]; omega⟩
    · obtain rfl : i = m := by omega
      have hz : Hid (zeroB (ws.drop k) = true) := Lib.hid (by
        have h9 := hx.out
        rw [← HL.out]
        rwa [List.take_of_length_le (Nat.le_of_eq HML.out.symm)] at h9)
      clear hx
      go_wp2_with fail
      go_end0
      exact ⟨HB.out, .inl ⟨hz.out, rfl⟩⟩
end Go.Proofs
