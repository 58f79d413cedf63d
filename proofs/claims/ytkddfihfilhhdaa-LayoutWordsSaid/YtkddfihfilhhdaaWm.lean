/- Layout: wordsOfDir. -/
import Derived.Test.YtkddfihfilhhdaaWl
namespace Go.Proofs
set_option maxRecDepth 100000
open Go.RowKit Go.Shelf
attribute [local go_sem] Oper.semAt_some

def packI (p : Pr) : Int := (packV p.1 p.2 : Nat)
/-- A directory's words, when k of its entries have been put. -/
def dw (d : Int) (l : List Pr) (k : Nat) : List Int := d :: ((l.take k).map packI ++ List.replicate (39 - k) 0)
def dwords (d : Int) (l : List Pr) : List Int := dw d l l.length
/-- Are there such words? -/
def okD (d : Int) (l : List Pr) : Bool := ((decide (0 ≤ d) && decide (d ≤ 5)) && decide (l.length = 2 ^ d.toNat)) && l.all (fun p => entB p.1 p.2)
theorem dw_len (d : Int) (l : List Pr) (k : Nat) (hk : k ≤ l.length) (hl : l.length ≤ 39) : (dw d l k).length = 40 := by
  simp [dw]
  omega
theorem dw_start (d : Int) (l : List Pr) : splice zero40 0 [d] = dw d l 0 := rfl
theorem dw_next (d : Int) (l : List Pr) (k : Nat) (hk : k < l.length) (hl : l.length ≤ 39) : splice (dw d l k) (1 + k) [packI l[k]] = dw d l (k + 1) := by
  obtain ⟨m, hm⟩ : ∃ m, 39 - k = m + 1 := ⟨38 - k, by omega⟩
  have hm2 : 39 - (k + 1) = m := by omega
  have hlen : ((l.take k).map packI).length = k := by simp; omega
  unfold splice dw
  rw [hm, hm2, List.replicate_succ, take_snoc l k hk, List.map_append, Nat.add_comm 1 k, List.take_succ_cons, List.length_singleton, List.drop_succ_cons]
  rw [List.take_append, hlen, Nat.sub_self, List.take_zero, List.append_nil, List.take_of_length_le (Nat.le_of_eq hlen)]
  rw [show k + 1 = ((l.take k).map packI).length + 1 by rw [hlen], List.drop_append, List.drop_of_length_le (by omega), Nat.add_sub_cancel_left]
  simp
theorem all_nextE (l : List Pr) (k : Nat) (h : k < l.length) (hx : (l.take k).all (fun p => entB p.1 p.2) = true) (hy : entB l[k].1 l[k].2 = true) : (l.take (k + 1)).all (fun p => entB p.1 p.2) = true := by
  rw [take_snoc l k h, List.all_append, hx]
  simp [hy]
theorem all_noE (l : List Pr) (k : Nat) (h : k < l.length) (hy : entB l[k].1 l[k].2 = false) : l.all (fun p => entB p.1 p.2) = false := by
  rw [List.all_eq_false]
  exact ⟨l[k], List.getElem_mem h, by simp [hy]⟩
theorem Try.shl_iu (d : Nat) (hd : d ≤ 5) (W : World) : (Op.shift BinOp.shl .i64 1 .u64 (d : Nat)).run Try.prog W = .ok (.int .i64 ((2 ^ d : Nat) : Int)) W := by
  rcases (by omega : d = 0 ∨ d = 1 ∨ d = 2 ∨ d = 3 ∨ d = 4 ∨ d = 5) with rfl | rfl | rfl | rfl | rfl | rfl <;> kernel_rfl
theorem Try.shl_ii (d : Nat) (hd : d ≤ 5) (W : World) : (Op.shift BinOp.shl .i64 1 .i64 (d : Nat)).run Try.prog W = .ok (.int .i64 ((2 ^ d : Nat) : Int)) W := by
  rcases (by omega : d = 0 ∨ d = 1 ∨ d = 2 ∨ d = 3 ∨ d = 4 ∨ d = 5) with rfl | rfl | rfl | rfl | rfl | rfl <;> kernel_rfl
set_option maxHeartbeats 8000000 in
theorem Try.wordsOfDir_any (d : Int) (a : Option Addr) (n c : Nat) (l : List Pr) (hi : I64 d) (hE : ∀ p ∈ l, I64 p.1) (w : World) (hA : PAt w (.slice a n c) l) : Calls Try.prog 62 #[.agg #[.int .i64 d, .slice a n c]] w fun e w' => Below w.heap.size w w' ∧ ((∃ x, e = .returned x ∧ (∃ B, x = .slice (some ⟨B, 0, none⟩) 40 40 ∧ w.heap.size < B ∧ Rows8 w' B 34 (wordVals (dwords d l)).toArray) ∧ okD d l = true) ∨ ∃ q, e = .panicked (panicA q) ∧ q = 261 ∧ okD d l = false) := by
  have HI := Lib.hid hi
  have HE := Lib.hid hE
  have HN := Lib.hid (pAt_len hA).1
  have HA := Lib.hid hA
  obtain ⟨Wt, hWt⟩ : ∃ W, W = w.alloc (.cells #[.int .i64 d, .slice a n c] 64) := ⟨_, rfl⟩
  have HB : Hid (Below w.heap.size w Wt) := Lib.hid (by rw [hWt]; exact Rows8.newB)
  have HT : Hid (Rows8 Wt w.heap.size 64 #[.int .i64 d, .slice a n c]) := Lib.hid (by rw [hWt]; exact Rows8.new _ _ _)
  obtain ⟨Wm, hWm⟩ : ∃ W, W = Wt.alloc (.cells (Array.replicate 40 (.int .u64 0)) 34) := ⟨_, rfl⟩
  have hC : Below Wt.heap.size Wt Wm := by rw [hWm]; exact Rows8.newB
  have hszt : Wt.heap.size = w.heap.size + 1 := by rw [hWt]; simp
  obtain ⟨Bw, hBw⟩ : ∃ B, B = w.heap.size + 1 := ⟨_, rfl⟩
  have HT := Lib.hid (HT.out.below hC HT.out.lt)
  have HB := Lib.hid (HB.out.trans (hC.mono HB.out.size))
  have HW : Hid (Rows8 Wm Bw 34 (wordVals zero40).toArray) := Lib.hid (by rw [hWm, hBw, ← hszt, ← zero40_vals]; exact Rows8.new _ _ _)
  have HLm : Hid (Bw < Wm.heap.size) := Lib.hid (HW.out.lt)
  have HL1 : Hid (w.heap.size < Bw) := Lib.hid (by omega)
  have HQ := Lib.hid (Try.rowOf_any (some ⟨Bw, 0, none⟩) 40 40 261 Wm (by decide))
  clear hi hE hA hC hszt
  go_enter Try.func62, Try.ntmps62
  go_upto_region 1 with fail
  rw [← hWt]
  have hmk := Try.make40 (w.alloc (.cells #[.int .i64 d, .slice a n c] 64))
  go_wp2_with fail
  rw [← hWt, ← hWm, ← hBw]
  clear hmk hBw hWm hWt
  refine HQ.out.mono ?_
  rintro e Wq ⟨hC, ⟨_, rfl⟩ | ⟨h, _⟩⟩
  rotate_left
  · first | exact absurd rfl h | exact h.elim
  have HT := Lib.hid (HT.out.below hC HT.out.lt)
  have HW := Lib.hid (HW.out.below hC HW.out.lt)
  have HB := Lib.hid (HB.out.trans (hC.mono HB.out.size))
  have HLm := Lib.hid (Nat.lt_of_lt_of_le HLm.out hC.size)
  clear hC HQ
  obtain ⟨Br, hBr⟩ : ∃ B, B = Wq.heap.size := ⟨_, rfl⟩
  obtain ⟨W0, hW0⟩ : ∃ W, W = Wq.alloc (.cells #[.slice (some ⟨Bw, 0, none⟩) 40 40, .int .i64 261] 110) := ⟨_, rfl⟩
  have HR : Hid (Rows8 W0 Br 110 #[.slice (some ⟨Bw, 0, none⟩) 40 40, .int .i64 261]) := Lib.hid (by rw [hW0, hBr]; exact Rows8.new _ _ _)
  have hC : Below Wq.heap.size Wq W0 := by rw [hW0]; exact Rows8.newB
  have HT := Lib.hid (HT.out.below hC HT.out.lt)
  have HW := Lib.hid (HW.out.below hC HW.out.lt)
  have HB := Lib.hid (HB.out.trans (hC.mono HB.out.size))
  have HL : Hid (w.heap.size < Bw ∧ Bw < Br) := Lib.hid ⟨HL1.out, by rw [hBr]; exact HLm.out⟩
  clear hC HLm HL1
  go_upto_region 2 with fail
  rw [← hBr]
  rw [← hW0]
  clear hBr hW0
  refine wp_region_X (fun W' => Rows8 W' w.heap.size 64 #[.int .i64 d, .slice a n c] ∧ Rows8 W' Br 110 #[.slice (some ⟨Bw, 0, none⟩) 40 40, .int .i64 261]) 7 (by kernel_rfl) ?_
  have hC0 : Below W0.heap.size W0 W0.drew := (Below.refl _ _).drew
  have HT := Lib.hid (HT.out.below hC0 HT.out.lt)
  have HR := Lib.hid (HR.out.below hC0 HR.out.lt)
  have HW := Lib.hid (HW.out.below hC0 HW.out.lt)
  have HB := Lib.hid (HB.out.trans (hC0.mono HB.out.size))
  clear hC0
  generalize W0.drew = W at *
  refine wpAnyN_take (i := 0) (oi := { dst := some 9, op := Go.Op.fieldAddr 64 (Go.Operand.tmp 1) 0, type := 0, pos := "row.go:101", after := #[], guard := none }) (v := .pointer (some ⟨w.heap.size, 0, none⟩)) rfl (by decide) (by kernel_rfl) (by kernel_rfl) (by kernel_rfl) (fun _ _ _ h => h) (Or.inl ⟨by rfl, ?_⟩) ⟨HT.out, HR.out⟩ ?_
  · intro W9 hS9
    obtain ⟨q0, q1⟩ := hS9
    go_simp
  try simp only [Act.put, List.setIfInBounds_toArray, List.set_cons_zero, List.set_cons_succ]
  refine wpAnyN_take (i := 1) (oi := { dst := some 10, op := Go.Op.load 3 (Go.Operand.tmp 9), type := 3, pos := "row.go:101", after := #[{ on := 0, ground := Go.Ground.data }], guard := none }) (v := .int .i64 d) rfl (by decide) (by kernel_rfl) (by kernel_rfl) (by kernel_rfl) (fun _ _ _ h => h) (Or.inl ⟨by rfl, ?_⟩) ⟨HT.out, HR.out⟩ ?_
  · intro W9 hS9
    obtain ⟨q0, q1⟩ := hS9
    have s0 : W9.cell? ⟨w.heap.size, 0, none⟩ = some (.int .i64 d) := q0.cell 0
    clear q0 q1
    go_simp
  try simp only [Act.put, List.setIfInBounds_toArray, List.set_cons_zero, List.set_cons_succ]
  refine wpAnyN_take (i := 3) (oi := { dst := some 12, op := Go.Op.fieldAddr 110 (Go.Operand.tmp 3) 1, type := 0, pos := "row.go:101", after := #[], guard := none }) (v := .pointer (some ⟨Br, 1, none⟩)) rfl (by decide) (by kernel_rfl) (by kernel_rfl) (by kernel_rfl) (fun _ _ _ h => h) (Or.inl ⟨by rfl, ?_⟩) ⟨HT.out, HR.out⟩ ?_
  · intro W9 hS9
    obtain ⟨q0, q1⟩ := hS9
    go_simp
  try simp only [Act.put, List.setIfInBounds_toArray, List.set_cons_zero, List.set_cons_succ]
  refine wpAnyN_take (i := 4) (oi := { dst := some 13, op := Go.Op.load 27 (Go.Operand.tmp 12), type := 27, pos := "row.go:101", after := #[{ on := 3, ground := Go.Ground.data }], guard := none }) (v := .int .i64 261) rfl (by decide) (by kernel_rfl) (by kernel_rfl) (by kernel_rfl) (fun _ _ _ h => h) (Or.inl ⟨by rfl, ?_⟩) ⟨HT.out, HR.out⟩ ?_
  · intro W9 hS9
    obtain ⟨q0, q1⟩ := hS9
    have r1 : W9.cell? ⟨Br, 1, none⟩ = some (.int .i64 261) := q1.cell 1
    clear q0 q1
    go_simp
  try simp only [Act.put, List.setIfInBounds_toArray, List.set_cons_zero, List.set_cons_succ]
  refine wpAnyX_one (i := 2) (o := { dst := some 11, op := Go.Op.call { callee := Go.Callee.value (Go.Operand.func 41), args := #[Go.Operand.const (Go.Value.int Go.IntKind.u64 5)], argTypes := #[34] }, type := 83, pos := "row.go:101", after := #[], guard := none }) (by kernel_rfl) rfl (fun K hK => ?_)
  have HN := Try.upTo_any 5 W
  refine step_call_g (by rfl) 41 _ _ rfl (fun _ _ => by kernel_rfl) #[.int .u64 5] (by simp [go_sem]) _ HN ?_
  rintro e W1 ⟨v, rfl, hm, hC⟩
  have HM := Lib.hid hm
  have HT := Lib.hid (HT.out.below hC HT.out.lt)
  have HR := Lib.hid (HR.out.below hC HR.out.lt)
  have HW := Lib.hid (HW.out.below hC HW.out.lt)
  have HB := Lib.hid (HB.out.trans (hC.mono HB.out.size))
  clear hC HN hm
  refine ⟨_, rfl, ?_⟩
  refine hK.out _ _ (fun _ => ⟨HT.out, HR.out⟩) ?_
  clear hK K
  try simp only [Act.put, List.setIfInBounds_toArray, List.set_cons_zero, List.set_cons_succ]
  refine wpAnyX_one (i := 5) (o := { dst := some 14, op := Go.Op.call { callee := Go.Callee.value (Go.Operand.func 72), args := #[Go.Operand.tmp 10, Go.Operand.tmp 11, Go.Operand.tmp 13], argTypes := #[3, 83, 27] }, type := 34, pos := "row.go:101", after := #[{ on := 1, ground := Go.Ground.data }, { on := 2, ground := Go.Ground.data }, { on := 4, ground := Go.Ground.data }, { on := 2, ground := Go.Ground.chain }], guard := none }) (by kernel_rfl) rfl (fun K hK => ?_)
  have HN := Try.numUI_any d 261 v _ W1 HM.out
  refine step_callP_g (by rfl) 72 _ _ rfl (fun _ _ => by kernel_rfl) #[.int .i64 d, v, .int .i64 261] (by simp [go_sem]) _ HN ?_
  clear HN
  rintro e w9 ⟨hw9, hq9⟩
  subst w9
  rcases hq9 with ⟨h, rfl⟩ | ⟨h, rfl⟩
  rotate_left
  · refine .inr ⟨_, rfl, ?_⟩
    rw [up_lt HI.out 5 (by decide) (by decide)] at h
    exact ⟨by trivial, HB.out, .inr ⟨261, rfl, rfl, by unfold okD; rw [h]; rfl⟩⟩
  rw [up_lt HI.out 5 (by decide) (by decide)] at h
  have HS1 : Hid (0 ≤ d ∧ d ≤ 5) := Lib.hid (by simpa using h)
  clear h HM
  have hwx : IntKind.u64.wrap d = d := by
    rw [IntKind.wrap_u64]
    have := HS1.out
    omega
  rw [hwx]
  clear hwx
  refine .inl ⟨_, rfl, ?_⟩
  refine hK.out _ _ (fun _ => ⟨HT.out, HR.out⟩) ?_
  clear hK K
  try simp only [Act.put, List.setIfInBounds_toArray, List.set_cons_zero, List.set_cons_succ]
  refine wpAnyN_take (i := 6) (oi := { dst := some 4, op := Go.Op.assign (Go.Operand.tmp 14), type := 34, pos := "row.go:101", after := #[{ on := 5, ground := Go.Ground.data }, { on := 5, ground := Go.Ground.chain }, { on := 0, ground := Go.Ground.phase }, { on := 1, ground := Go.Ground.phase }, { on := 2, ground := Go.Ground.phase }, { on := 3, ground := Go.Ground.phase }, { on := 4, ground := Go.Ground.phase }, { on := 5, ground := Go.Ground.phase }], guard := none }) (v := .int .u64 d) rfl (by decide) (by kernel_rfl) (by kernel_rfl) (by kernel_rfl) (fun _ _ _ h => h) (Or.inl ⟨by rfl, ?_⟩) ⟨HT.out, HR.out⟩ ?_
  · intro W9 hS9
    obtain ⟨q0, q1⟩ := hS9
    go_simp
  try simp only [Act.put, List.setIfInBounds_toArray, List.set_cons_zero, List.set_cons_succ]
  refine wpAnyX_end (by kernel_rfl) ?_
  have hsh := Try.shl_iu d.toNat (by have := HS1.out; omega) W1
  rw [show ((d.toNat : Nat) : Int) = d from Int.toNat_of_nonneg HS1.out.1] at hsh
  obtain ⟨pw, hpw⟩ : ∃ z, z = 2 ^ d.toNat := ⟨_, rfl⟩
  rw [← hpw] at hsh
  have HPW := Lib.hid hpw
  clear hpw
  have c0 : W1.cell? ⟨w.heap.size, 0, none⟩ = some (.int .i64 d) := HT.out.cell 0
  have c1 : W1.cell? ⟨w.heap.size, 1, none⟩ = some (.slice a n c) := HT.out.cell 1
  have d0 : W1.cell? ⟨Br, 0, none⟩ = some (.slice (some ⟨Bw, 0, none⟩) 40 40) := HR.out.cell 0
  have d1 : W1.cell? ⟨Br, 1, none⟩ = some (.int .i64 261) := HR.out.cell 1
  by_cases hlen : n = pw
  rotate_left
  · have HN2 := Lib.hid hlen
    have hb : ((n : Int) != (pw : Int)) = true := by simp; omega
    clear hlen
    go_wp2_with fail
    exact ⟨(by first | rfl | trivial), HB.out, .inr ⟨261, rfl, rfl, by
      unfold okD
      rw [decide_eq_true HS1.out.1, decide_eq_true HS1.out.2, ← HPW.out, ← HN.out, decide_eq_false HN2.out]
      rfl⟩⟩
  have HN2 := Lib.hid hlen
  have hb : ((n : Int) != (pw : Int)) = false := by simp; omega
  clear hlen
  go_upto_region 5 with fail
  clear hb hsh c0 c1
  go_wp2_with fail
  obtain ⟨W4, hWn⟩ : ∃ W, W = W1.alloc (.cells #[.int .u64 (d)] 34) := ⟨_, rfl⟩
  have hC : Below W1.heap.size W1 W4 := by rw [hWn]; exact Rows8.newB
  have HT := Lib.hid (HT.out.below hC HT.out.lt)
  have HR := Lib.hid (HR.out.below hC HR.out.lt)
  have HW := Lib.hid (HW.out.below hC HW.out.lt)
  have HB := Lib.hid (HB.out.trans (hC.mono HB.out.size))
  clear hC
  have hone : WordsAt W4 (.slice (some ⟨W1.heap.size, 0, none⟩) 1 1) [d] := by rw [hWn]; exact one_word W1 _
  rw [← hWn]
  have HQ := Lib.hid (Try.put_any Bw _ 0 261 ⟨W1.heap.size, 0, none⟩ 1 1 [d] W4 HW.out zero40_len hone rfl (by decide) (by decide))
  clear hWn hone d0 d1
  refine HQ.out.mono ?_
  rintro e W5 ⟨rfl, hw9, hC⟩
  rw [dw_start d l] at hw9
  have HW := Lib.hid hw9
  have HT := Lib.hid (show Rows8 W5 w.heap.size 64 #[.int .i64 d, .slice a n c] from (hC.block _ (HT.out.lt) (by have := HL.out; omega)).trans HT.out)
  have HR := Lib.hid (show Rows8 W5 Br 110 #[.slice (some ⟨Bw, 0, none⟩) 40 40, .int .i64 261] from (hC.block _ (HR.out.lt) (by have := HL.out; omega)).trans HR.out)
  have HB := Lib.hid (HB.out.trans (hC.below (h := W4.heap.size) HB.out.size (by have := HL.out; omega)))
  clear hC hw9
  clear HQ
  have HNL : Hid (n ≤ 32) := Lib.hid (by
    have h1 := HS1.out
    have h2 := HPW.out
    have h3 := HN2.out
    have h4 : 2 ^ d.toNat ≤ 2 ^ 5 := Nat.pow_le_pow_right (by decide) (by omega)
    omega)
  have c0 : W5.cell? ⟨w.heap.size, 0, none⟩ = some (.int .i64 d) := HT.out.cell 0
  have c1 : W5.cell? ⟨w.heap.size, 1, none⟩ = some (.slice a n c) := HT.out.cell 1
  have d0 : W5.cell? ⟨Br, 0, none⟩ = some (.slice (some ⟨Bw, 0, none⟩) 40 40) := HR.out.cell 0
  have d1 : W5.cell? ⟨Br, 1, none⟩ = some (.int .i64 261) := HR.out.cell 1
  clear c0 d0 d1
  go_wp2_with fail
  go_loopw [5, 6, 31] (fun _ _ j wr => ∃ k : Nat, k ≤ n ∧ j = .int .i64 k ∧ Hid ((l.take k).all (fun p => entB p.1 p.2) = true) ∧ Hid (Rows8 wr w.heap.size 64 #[.int .i64 d, .slice a n c]) ∧ Hid (Rows8 wr Br 110 #[.slice (some ⟨Bw, 0, none⟩) 40 40, .int .i64 261]) ∧ Hid (Rows8 wr Bw 34 (wordVals (dw d l k)).toArray) ∧ Hid (Below w.heap.size w wr)) (fun _ _ j _ => n - (intOf j).toNat)
  case atStart => exact ⟨0, Nat.zero_le _, rfl, Lib.hid rfl, HT, HR, HW, HB⟩
  case round =>
    clear HT HR HW HB
    obtain ⟨k, hk, rfl, hx, HT, HR, HW, HB⟩ := hrel
    by_cases hlt : k < n
    · have hkl : k < l.length := by rw [← HN.out]; exact hlt
      obtain ⟨b, off, rfl, hb2, e0, e1⟩ := pAt_get (PAt.below HA.out HB.out) k hkl
      have HIE := Lib.hid (HE.out l[k] (List.getElem_mem hkl))
      have HNX := Lib.hid (fun hy => all_nextE l k hkl hx.out hy)
      have HNO := Lib.hid (all_noE l k hkl)
      have HDW := Lib.hid (dw_next d l k hkl (by have := HNL.out; have := HN.out; omega))
      have HDL := Lib.hid (dw_len d l k (Nat.le_of_lt hkl) (by have := HNL.out; have := HN.out; omega))
      obtain ⟨kk, hkk⟩ : ∃ q, q = 1 + k := ⟨_, rfl⟩
      have HKK : Hid (kk = 1 + k ∧ k < n) := Lib.hid ⟨hkk, hlt⟩
      rw [← hkk] at HDW
      clear hkk
      have hpk : packI l[k] = ((packV l[k].1 l[k].2 : Nat) : Int) := rfl
      generalize l[k] = p at *
      obtain ⟨p1, p2⟩ := p
      have hki : (k : Int) < (n : Int) := by omega
      clear hx hkl
      obtain ⟨W6, hW6⟩ : ∃ W, W = wr.alloc (.cells #[.int .i64 p1, .int .u64 (p2 : Nat)] 36) := ⟨_, rfl⟩
      have HEN : Hid (Rows8 W6 wr.heap.size 36 #[.int .i64 p1, .int .u64 (p2 : Nat)]) := Lib.hid (by rw [hW6]; exact Rows8.new _ _ _)
      have HENL : Hid (Br < wr.heap.size) := Lib.hid HR.out.lt
      have hC : Below wr.heap.size wr W6 := by rw [hW6]; exact Rows8.newB
      have HT := Lib.hid (HT.out.below hC HT.out.lt)
      have HR := Lib.hid (HR.out.below hC HR.out.lt)
      have HW := Lib.hid (HW.out.below hC HW.out.lt)
      have HB := Lib.hid (HB.out.trans (hC.mono HB.out.size))
      clear hC
      have hn9 : k ≠ n := by omega
      go_upto_region 9 with fail
      rw [← hW6]
      clear hW6 hb2 e0 e1 hki hn9
      refine wp_region_X (fun W' => Rows8 W' wr.heap.size 36 #[.int .i64 p1, .int .u64 (p2 : Nat)] ∧ Rows8 W' Br 110 #[.slice (some ⟨Bw, 0, none⟩) 40 40, .int .i64 261]) 9 (by kernel_rfl) ?_
      have hC0 : Below W6.heap.size W6 W6.drew := (Below.refl _ _).drew
      have HEN := Lib.hid (HEN.out.below hC0 HEN.out.lt)
      have HT := Lib.hid (HT.out.below hC0 HT.out.lt)
      have HR := Lib.hid (HR.out.below hC0 HR.out.lt)
      have HW := Lib.hid (HW.out.below hC0 HW.out.lt)
      have HB := Lib.hid (HB.out.trans (hC0.mono HB.out.size))
      clear hC0
      generalize W6.drew = W7 at *
      have hwk : IntKind.i64.wrap (1 + (k : Int)) = (kk : Int) := by
        have := HNL.out
        have := HKK.out
        rw [IntWalk.i64_in _ (by omega)]
        omega
      refine wpAnyN_take (i := 0) (oi := { dst := some 36, op := Go.Op.load 110 (Go.Operand.tmp 3), type := 110, pos := "row.go:107", after := #[], guard := none }) (v := .agg #[.slice (some ⟨Bw, 0, none⟩) 40 40, .int .i64 261]) rfl (by decide) (by kernel_rfl) (by kernel_rfl) (by kernel_rfl) (fun _ _ _ h => h) (Or.inl ⟨by rfl, ?_⟩) ⟨HEN.out, HR.out⟩ ?_
      · intro W9 hS9
        obtain ⟨q0, q1⟩ := hS9
        have r0 : W9.cell? ⟨Br, 0, none⟩ = some (.slice (some ⟨Bw, 0, none⟩) 40 40) := q1.cell 0
        have r1 : W9.cell? ⟨Br, 1, none⟩ = some (.int .i64 261) := q1.cell 1
        clear q0 q1
        go_simp
      try simp only [Act.put, List.setIfInBounds_toArray, List.set_cons_zero, List.set_cons_succ]
      refine wpAnyN_take (i := 1) (oi := { dst := some 37, op := Go.Op.move (Go.Operand.tmp 5), type := 3, pos := "row.go:107", after := #[], guard := none }) (v := .int .i64 (k : Nat)) rfl (by decide) (by kernel_rfl) (by kernel_rfl) (by kernel_rfl) (fun _ _ _ h => h) (Or.inl ⟨by rfl, ?_⟩) ⟨HEN.out, HR.out⟩ ?_
      · intro W9 hS9
        obtain ⟨q0, q1⟩ := hS9
        go_simp
      try simp only [Act.put, List.setIfInBounds_toArray, List.set_cons_zero, List.set_cons_succ]
      refine wpAnyN_take (i := 2) (oi := { dst := some 38, op := Go.Op.binOp Go.BinOp.add 3 (Go.Operand.const (Go.Value.int Go.IntKind.i64 1)) (Go.Operand.tmp 37) 3, type := 3, pos := "row.go:107", after := #[{ on := 1, ground := Go.Ground.data }], guard := none }) (v := .int .i64 (kk : Int)) rfl (by decide) (by kernel_rfl) (by kernel_rfl) (by kernel_rfl) (fun _ _ _ h => h) (Or.inl ⟨by rfl, ?_⟩) ⟨HEN.out, HR.out⟩ ?_
      · intro W9 hS9
        obtain ⟨q0, q1⟩ := hS9
        go_simp
      try simp only [Act.put, List.setIfInBounds_toArray, List.set_cons_zero, List.set_cons_succ]
      clear hwk
      refine wpAnyN_take (i := 3) (oi := { dst := some 39, op := Go.Op.load 36 (Go.Operand.tmp 6), type := 36, pos := "row.go:107", after := #[], guard := none }) (v := .agg #[.int .i64 p1, .int .u64 (p2 : Nat)]) rfl (by decide) (by kernel_rfl) (by kernel_rfl) (by kernel_rfl) (fun _ _ _ h => h) (Or.inl ⟨by rfl, ?_⟩) ⟨HEN.out, HR.out⟩ ?_
      · intro W9 hS9
        obtain ⟨q0, q1⟩ := hS9
        have s0 : W9.cell? ⟨wr.heap.size, 0, none⟩ = some (.int .i64 p1) := q0.cell 0
        have s1 : W9.cell? ⟨wr.heap.size, 1, none⟩ = some (.int .u64 (p2 : Nat)) := q0.cell 1
        clear q0 q1
        go_simp
      try simp only [Act.put, List.setIfInBounds_toArray, List.set_cons_zero, List.set_cons_succ]
      refine wpAnyN_take (i := 4) (oi := { dst := some 40, op := Go.Op.fieldAddr 110 (Go.Operand.tmp 3) 1, type := 0, pos := "row.go:107", after := #[], guard := none }) (v := .pointer (some ⟨Br, 1, none⟩)) rfl (by decide) (by kernel_rfl) (by kernel_rfl) (by kernel_rfl) (fun _ _ _ h => h) (Or.inl ⟨by rfl, ?_⟩) ⟨HEN.out, HR.out⟩ ?_
      · intro W9 hS9
        obtain ⟨q0, q1⟩ := hS9
        go_simp
      try simp only [Act.put, List.setIfInBounds_toArray, List.set_cons_zero, List.set_cons_succ]
      refine wpAnyN_take (i := 5) (oi := { dst := some 41, op := Go.Op.load 27 (Go.Operand.tmp 40), type := 27, pos := "row.go:107", after := #[{ on := 4, ground := Go.Ground.data }], guard := none }) (v := .int .i64 261) rfl (by decide) (by kernel_rfl) (by kernel_rfl) (by kernel_rfl) (fun _ _ _ h => h) (Or.inl ⟨by rfl, ?_⟩) ⟨HEN.out, HR.out⟩ ?_
      · intro W9 hS9
        obtain ⟨q0, q1⟩ := hS9
        have r1 : W9.cell? ⟨Br, 1, none⟩ = some (.int .i64 261) := q1.cell 1
        clear q0 q1
        go_simp
      try simp only [Act.put, List.setIfInBounds_toArray, List.set_cons_zero, List.set_cons_succ]
      refine wpAnyX_one (i := 6) (o := { dst := some 42, op := Go.Op.call { callee := Go.Callee.value (Go.Operand.func 46), args := #[Go.Operand.tmp 39, Go.Operand.tmp 41], argTypes := #[36, 27] }, type := 34, pos := "row.go:107", after := #[{ on := 3, ground := Go.Ground.data }, { on := 5, ground := Go.Ground.data }], guard := none }) (by kernel_rfl) rfl (fun K hK => ?_)
      have HC := Try.packed_any p1 p2 261 HIE.out W7
      refine step_callP_g (by rfl) 46 _ _ rfl (fun _ _ => by kernel_rfl) #[.agg #[.int .i64 p1, .int .u64 (p2 : Nat)], .int .i64 261] (by simp [go_sem]) _ HC ?_
      clear HC
      rintro e W8 ⟨hC, ⟨v, rfl, rfl, h⟩ | ⟨q, rfl, rfl, h⟩⟩
      rotate_left
      · refine .inr ⟨_, rfl, ?_⟩
        exact ⟨by trivial, HB.out.trans (hC.mono HB.out.size), .inr ⟨261, rfl, rfl, by
          unfold okD
          rw [HNO.out h, Bool.and_false]⟩⟩
      have HY := Lib.hid (HNX.out h)
      have HEN := Lib.hid (HEN.out.below hC HEN.out.lt)
      have HT := Lib.hid (HT.out.below hC HT.out.lt)
      have HR := Lib.hid (HR.out.below hC HR.out.lt)
      have HW := Lib.hid (HW.out.below hC HW.out.lt)
      have HB := Lib.hid (HB.out.trans (hC.mono HB.out.size))
      clear hC h
      refine .inl ⟨_, rfl, ?_⟩
      refine hK.out _ _ (fun _ => ⟨HEN.out, HR.out⟩) ?_
      clear hK K
      try simp only [Act.put, List.setIfInBounds_toArray, List.set_cons_zero, List.set_cons_succ]
      obtain ⟨W10, hWn⟩ : ∃ W, W = W8.alloc (.cells #[.int .u64 ((packV p1 p2 : Nat))] 34) := ⟨_, rfl⟩
      have hC : Below W8.heap.size W8 W10 := by rw [hWn]; exact Rows8.newB
      have HEN := Lib.hid (HEN.out.below hC HEN.out.lt)
      have HT := Lib.hid (HT.out.below hC HT.out.lt)
      have HR := Lib.hid (HR.out.below hC HR.out.lt)
      have HW := Lib.hid (HW.out.below hC HW.out.lt)
      have HB := Lib.hid (HB.out.trans (hC.mono HB.out.size))
      clear hC
      have hone : WordsAt W10 (.slice (some ⟨W8.heap.size, 0, none⟩) 1 1) [(packV p1 p2 : Nat)] := by rw [hWn]; exact one_word W8 _
      refine wpAnyX_one (i := 7) (o := { dst := some 43, op := Go.Op.buildSlice 24 1 #[(0, Go.Operand.tmp 42)], type := 24, pos := "row.go:107", after := #[{ on := 6, ground := Go.Ground.data }], guard := none }) (by kernel_rfl) rfl (fun K hK => ?_)
      refine step_value_g (by rfl) (.slice (some ⟨W8.heap.size, 0, none⟩) 1 1) (w' := W10) (by rw [hWn]; go_simp) ?_
      clear hWn
      refine hK.out _ _ (fun _ => ⟨HEN.out, HR.out⟩) ?_
      clear hK K
      try simp only [Act.put, List.setIfInBounds_toArray, List.set_cons_zero, List.set_cons_succ]
      refine wpAnyX_one (i := 8) (o := { dst := some 44, op := Go.Op.call { callee := Go.Callee.value (Go.Operand.func 79), args := #[Go.Operand.tmp 36, Go.Operand.tmp 38, Go.Operand.tmp 43], argTypes := #[110, 3, 24] }, type := 0, pos := "row.go:107", after := #[{ on := 0, ground := Go.Ground.data }, { on := 2, ground := Go.Ground.data }, { on := 7, ground := Go.Ground.data }, { on := 6, ground := Go.Ground.chain }], guard := none }) (by kernel_rfl) rfl (fun K hK => ?_)
      have HC := Try.put_any Bw _ kk 261 ⟨W8.heap.size, 0, none⟩ 1 1 [((packV p1 p2 : Nat) : Int)] W10 HW.out HDL.out hone rfl (by have := HNL.out; have := HKK.out; omega) (by decide)
      refine step_call_g (by rfl) 79 _ _ rfl (fun _ _ => by kernel_rfl) #[.agg #[.slice (some ⟨Bw, 0, none⟩) 40 40, .int .i64 261], .int .i64 (kk : Int), .slice (some ⟨W8.heap.size, 0, none⟩) 1 1] (by simp [go_sem]) _ HC ?_
      clear HC hone
      rintro e W11 ⟨rfl, hw9, hC⟩
      rw [← hpk, HDW.out] at hw9
      have HEN := Lib.hid (show Rows8 W11 wr.heap.size 36 #[.int .i64 p1, .int .u64 (p2 : Nat)] from (hC.block _ (HEN.out.lt) (by have := HL.out; have := HENL.out; omega)).trans HEN.out)
      have HW := Lib.hid hw9
      have HT := Lib.hid (show Rows8 W11 w.heap.size 64 #[.int .i64 d, .slice (some ⟨b, off, none⟩) n c] from (hC.block _ (HT.out.lt) (by have := HL.out; omega)).trans HT.out)
      have HR := Lib.hid (show Rows8 W11 Br 110 #[.slice (some ⟨Bw, 0, none⟩) 40 40, .int .i64 261] from (hC.block _ (HR.out.lt) (by have := HL.out; omega)).trans HR.out)
      have HB := Lib.hid (HB.out.trans (hC.below (h := W10.heap.size) HB.out.size (by have := HL.out; omega)))
      clear hC hw9
      refine ⟨_, rfl, ?_⟩
      refine hK.out _ _ (fun _ => ⟨HEN.out, HR.out⟩) ?_
      clear hK K
      try simp only [Act.put, List.setIfInBounds_toArray, List.set_cons_zero, List.set_cons_succ]
      refine wpAnyX_end (by kernel_rfl) ?_
      clear HDW HDL HEN
      go_wp2_with fail
      have hnl := HNL.out
      have hwk : wrap64 ((k : Int) + 1) = ((k + 1 : Nat) : Int) := by
        rw [IntWalk.wrap64_in _ ⟨by omega, by omega⟩]
        omega
      exact ⟨⟨k + 1, by omega, by rw [hwk], HY, HT, HR, HW, HB⟩, by rw [hwk]; simp [intOf]; omega⟩
    · obtain rfl : k = n := by omega
      have hall : l.all (fun p => entB p.1 p.2) = true := by
        have := hx.out
        rwa [List.take_of_length_le (Nat.le_of_eq HN.out.symm)] at this
      have HALL := Lib.hid hall
      have d0 : wr.cell? ⟨Br, 0, none⟩ = some (.slice (some ⟨Bw, 0, none⟩) 40 40) := HR.out.cell 0
      clear hx hall
      go_wp2_with fail
      go_ret
      refine ⟨HB.out, .inl ⟨_, rfl, ⟨Bw, rfl, by have := HL.out; omega, ?_⟩, ?_⟩⟩
      · have h := HW.out
        rw [HN.out] at h
        exact h
      · unfold okD
        rw [decide_eq_true HS1.out.1, decide_eq_true HS1.out.2, HALL.out, ← HPW.out, ← HN.out, decide_eq_true HN2.out]
        rfl
end Go.Proofs
