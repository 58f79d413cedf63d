/- Monitor: Check, Good. -/
import Derived.Test.YtkghlcoancfnfaaBg
namespace Go.Proofs
set_option maxRecDepth 100000
open Go.RowKit Go.Shelf
attribute [local go_sem] Oper.semAt_some

set_option maxHeartbeats 2000000 in
theorem Try.CheckM_any (x : Mv) (m : Mn) (w : World) (hM : MonAt w x m) :
    Calls Try.prog 10 #[.agg #[.slice x.sa x.sn x.sc, .slice x.pa x.pn x.pc, .slice x.ha x.hn x.hc, .slice x.ba x.bn x.bc]] w fun e w' => e = .returned (.int .i64 (if rightM m then 0 else 220)) ∧ Below w.heap.size w w' := by
  have hB0 : Below w.heap.size w (w.alloc (.cells #[.slice x.sa x.sn x.sc, .slice x.pa x.pn x.pc, .slice x.ha x.hn x.hc, .slice x.ba x.bn x.bc] 29)) := Rows8.newB
  have HC := Lib.hid (Try.mayBeM_any x m _ (hM.below hB0))
  have HB0 := Lib.hid hB0
  obtain ⟨r, hr⟩ : ∃ r, r = rightM m := ⟨_, rfl⟩
  rw [← hr] at HC ⊢
  clear hr hM hB0
  go_enter Try.func10, Try.ntmps10
  go_wp2_with fail
  refine HC.out.mono ?_
  rintro e w1 ⟨rfl, hB1⟩
  have HB1 := Lib.hid (HB0.out.trans (hB1.mono HB0.out.size))
  clear hB1
  cases r
  · go_wp2_with fail
    go_ret
    exact ⟨rfl, HB1.out⟩
  · go_wp2_with fail
    go_ret
    exact ⟨rfl, HB1.out⟩
def goodA (m : Mn) (x : Wt) : Bool := rightM m && (touchB x.kind && (oneB m.pin.length x.goer && goodM m x))
theorem right_has {m : Mn} (h : rightM m = true) : m.has.length = m.pin.length := by
  unfold rightM at h
  simp only [Bool.and_eq_true, decide_eq_true_eq] at h
  exact h.2.2.1
set_option maxHeartbeats 8000000 in
theorem Try.Good_any (x : Mv) (m : Mn) (t : Wt) (w : World) (hM : MonAt w x m) :
    Calls Try.prog 16 #[.agg #[.slice x.sa x.sn x.sc, .slice x.pa x.pn x.pc, .slice x.ha x.hn x.hc, .slice x.ba x.bn x.bc], .agg #[.int .i64 t.kind, .int .i64 t.goer, .int .i64 t.slab, .int .u64 (t.gen : Nat)]] w fun r w' => r = .returned (.bool (goodA m t)) ∧ Below w.heap.size w w' := by
  obtain ⟨z, hz⟩ : ∃ z, z = goodA m t := ⟨_, rfl⟩
  rw [← hz]
  unfold goodA at hz
  have hpl := hM.lens.2.1
  rw [← hpl] at hz
  obtain ⟨W, hW⟩ : ∃ W, W = ((w.alloc (.cells #[.slice x.sa x.sn x.sc, .slice x.pa x.pn x.pc, .slice x.ha x.hn x.hc, .slice x.ba x.bn x.bc] 29)).alloc (.cells #[.int .i64 t.kind, .int .i64 t.goer, .int .i64 t.slab, .int .u64 (t.gen : Nat)] 40)).alloc (.cells #[.slice x.sa x.sn x.sc, .slice x.pa x.pn x.pc, .slice x.ha x.hn x.hc, .slice x.ba x.bn x.bc] 79) := ⟨_, rfl⟩
  have hB0 : Below w.heap.size w W := by rw [hW]; exact ((Rows8.newB).alloc (by simp) _).alloc (by simp <;> omega) _
  have r1 : Rows8 W (w.heap.size + 1) 40 #[.int .i64 t.kind, .int .i64 t.goer, .int .i64 t.slab, .int .u64 (t.gen : Nat)] := by rw [hW]; exact (rows_new2 _ _ _ _).alloc _
  have r2 : Rows8 W (w.heap.size + 1 + 1) 79 #[.slice x.sa x.sn x.sc, .slice x.pa x.pn x.pc, .slice x.ha x.hn x.hc, .slice x.ba x.bn x.bc] := by
    rw [hW]
    have h := Rows8.new ((w.alloc (.cells #[.slice x.sa x.sn x.sc, .slice x.pa x.pn x.pc, .slice x.ha x.hn x.hc, .slice x.ba x.bn x.bc] 29)).alloc (.cells #[.int .i64 t.kind, .int .i64 t.goer, .int .i64 t.slab, .int .u64 (t.gen : Nat)] 40)) 79 #[.slice x.sa x.sn x.sc, .slice x.pa x.pn x.pc, .slice x.ha x.hn x.hc, .slice x.ba x.bn x.bc]
    rw [World.size_alloc, World.size_alloc] at h
    exact h
  have HMB := fun (W : World) (h : MonAt W x m) => Lib.hid (Try.mayBeM_any x m W h)
  have HT := fun W => Lib.hid (Try.isTouch_any t.kind W)
  have HO := fun W => Lib.hid (Try.isOne_any x t.goer W)
  have HG := fun (W : World) (h : MonAt W x m) (hg : 0 ≤ t.goer ∧ t.goer < m.has.length) => Lib.hid (Try.good_any x m t W h hg)
  have hrg : rightM m = true → oneB x.pn t.goer = true → 0 ≤ t.goer ∧ t.goer < m.has.length := fun h1 h2 => by
    rw [right_has h1, ← hpl]
    unfold oneB at h2
    exact of_decide_eq_true h2
  obtain ⟨kd, gr, i, q⟩ := t
  dsimp only at *
  obtain ⟨z1, hz1⟩ : ∃ b, b = rightM m := ⟨_, rfl⟩
  obtain ⟨z2, hz2⟩ : ∃ b, b = touchB kd := ⟨_, rfl⟩
  obtain ⟨z3, hz3⟩ : ∃ b, b = oneB x.pn gr := ⟨_, rfl⟩
  obtain ⟨z4, hz4⟩ : ∃ b, b = goodM m ⟨kd, gr, i, q⟩ := ⟨_, rfl⟩
  rw [← hz1] at hz HMB hrg
  rw [← hz2] at hz HT
  rw [← hz3] at hz HO hrg
  rw [← hz4] at hz HG
  have HZ := Lib.hid hz
  have HM0 := Lib.hid (hM.below hB0)
  have HB0 := Lib.hid hB0
  have HR1 := Lib.hid r1
  have HR2 := Lib.hid r2
  have HRG := Lib.hid hrg
  have c0 : W.cell? ⟨w.heap.size + 1 + 1, 0, none⟩ = some (.slice x.sa x.sn x.sc) := r2.cell 0
  have c1 : W.cell? ⟨w.heap.size + 1 + 1, 1, none⟩ = some (.slice x.pa x.pn x.pc) := r2.cell 1
  have c2 : W.cell? ⟨w.heap.size + 1 + 1, 2, none⟩ = some (.slice x.ha x.hn x.hc) := r2.cell 2
  have c3 : W.cell? ⟨w.heap.size + 1 + 1, 3, none⟩ = some (.slice x.ba x.bn x.bc) := r2.cell 3
  clear hz hpl hB0 r1 r2 hrg hz1 hz2 hz3 hz4 hM
  go_enter Try.func16, Try.ntmps16
  go_wp2_with fail
  rw [← hW]
  clear hW
  refine (HMB W HM0.out).out.mono ?_
  rintro r W1 ⟨rfl, hB1⟩
  have R1 := Lib.hid (HR1.out.below hB1 HR1.out.lt)
  have R2 := Lib.hid (HR2.out.below hB1 HR2.out.lt)
  have HM1 := Lib.hid (HM0.out.below hB1)
  have HB1 := Lib.hid (HB0.out.trans (hB1.mono HB0.out.size))
  have k0 : W1.cell? ⟨w.heap.size + 1, 0, none⟩ = some (.int .i64 kd) := R1.out.cell 0
  have k1 : W1.cell? ⟨w.heap.size + 1, 1, none⟩ = some (.int .i64 gr) := R1.out.cell 1
  clear hB1 c0 c1 c2 c3
  have c0 : W1.cell? ⟨w.heap.size + 1 + 1, 0, none⟩ = some (.slice x.sa x.sn x.sc) := R2.out.cell 0
  have c1 : W1.cell? ⟨w.heap.size + 1 + 1, 1, none⟩ = some (.slice x.pa x.pn x.pc) := R2.out.cell 1
  have c2 : W1.cell? ⟨w.heap.size + 1 + 1, 2, none⟩ = some (.slice x.ha x.hn x.hc) := R2.out.cell 2
  have c3 : W1.cell? ⟨w.heap.size + 1 + 1, 3, none⟩ = some (.slice x.ba x.bn x.bc) := R2.out.cell 3
  cases z1 with
  | false =>
    have hzz : Hid (z = false) := Lib.hid (by rw [HZ.out]; rfl)
    go_wp2_with fail
    go_ret
    exact ⟨by rw [hzz.out]; rfl, HB1.out⟩
  | true =>
    go_wp2_with fail
    refine (HT W1).out.mono ?_
    rintro r W2 ⟨rfl, rfl⟩
    cases z2 with
    | false =>
      have hzz : Hid (z = false) := Lib.hid (by rw [HZ.out]; rfl)
      go_wp2_with fail
      go_ret
      exact ⟨by rw [hzz.out]; rfl, HB1.out⟩
    | true =>
      go_wp2_with fail
      refine (HO W2).out.mono ?_
      rintro r W3 ⟨rfl, hB3⟩
      have R3 := Lib.hid (R1.out.below hB3 R1.out.lt)
      have R4 := Lib.hid (R2.out.below hB3 R2.out.lt)
      have HM3 := Lib.hid (HM1.out.below hB3)
      have HB3 := Lib.hid (HB1.out.trans (hB3.mono HB1.out.size))
      clear hB3 c0 c1 c2 c3 k0 k1
      have k0 : W3.cell? ⟨w.heap.size + 1, 0, none⟩ = some (.int .i64 kd) := R3.out.cell 0
      have k1 : W3.cell? ⟨w.heap.size + 1, 1, none⟩ = some (.int .i64 gr) := R3.out.cell 1
      have k2 : W3.cell? ⟨w.heap.size + 1, 2, none⟩ = some (.int .i64 i) := R3.out.cell 2
      have k3 : W3.cell? ⟨w.heap.size + 1, 3, none⟩ = some (.int .u64 (q : Nat)) := R3.out.cell 3
      have c0 : W3.cell? ⟨w.heap.size + 1 + 1, 0, none⟩ = some (.slice x.sa x.sn x.sc) := R4.out.cell 0
      have c1 : W3.cell? ⟨w.heap.size + 1 + 1, 1, none⟩ = some (.slice x.pa x.pn x.pc) := R4.out.cell 1
      have c2 : W3.cell? ⟨w.heap.size + 1 + 1, 2, none⟩ = some (.slice x.ha x.hn x.hc) := R4.out.cell 2
      have c3 : W3.cell? ⟨w.heap.size + 1 + 1, 3, none⟩ = some (.slice x.ba x.bn x.bc) := R4.out.cell 3
      cases z3 with
      | false =>
        have hzz : Hid (z = false) := Lib.hid (by rw [HZ.out]; rfl)
        go_wp2_with fail
        go_ret
        exact ⟨by rw [hzz.out]; rfl, HB3.out⟩
      | true =>
        have HGl := HG W3 HM3.out (HRG.out (by simp) (by simp))
        have hzz : Hid (z = z4) := Lib.hid (by rw [HZ.out]; rfl)
        go_wp2_with fail
        refine HGl.out.mono ?_
        rintro r W4 ⟨rfl, hB4⟩
        have HB4 := Lib.hid (HB3.out.trans (hB4.mono HB3.out.size))
        clear hB4 HGl
        go_wp2_with fail
        go_ret
        exact ⟨by rw [hzz.out]; rfl, HB4.out⟩
end Go.Proofs
