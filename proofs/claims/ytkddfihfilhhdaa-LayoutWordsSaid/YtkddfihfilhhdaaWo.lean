/- Layout: wakes. -/
import Derived.Test.YtkddfihfilhhdaaWn
namespace Go.Proofs
set_option maxRecDepth 100000
open Go.RowKit Go.Shelf
attribute [local go_sem] Oper.semAt_some

theorem wpList_storeVar {P : Program} {ops : Array Oper} {rest : List Oper} {o : Oper} {a : Act} {w w' : World} {Q : Exit → Act → World → Prop} (hgd : o.guard = none) (ty : TypeId) (x y : Operand) (ho : o.op = .store ty x y)
    (p : Addr) (v : Value) (hx : a.eval x = .pointer (some p)) (hy : a.eval y = v) (hl : (storeVar ty p v).run P w = .ok () w') (h : wpList P ops Q rest (a.put o.dst undef) w') : wpList P ops Q (o :: rest) a w := by
  refine wpList_plain hgd fun K hK => ?_
  unfold Oper.wp
  simp only [execOp, ho, hx, hy, Instr.storeAt, Instr.sureAddr, Sem.run_bind, Sem.run_pure, Result.andThen_ok, hl]
  exact hK _ _ h
theorem wpList_loadVG {P : Program} {ops : Array Oper} {rest : List Oper} {o : Oper} {a : Act} {w : World} {Q : Exit → Act → World → Prop} (ty : TypeId) (x : Operand) (ho : o.op = .load ty x)
    (p : Addr) (v : Value) (hx : a.eval x = .pointer (some p)) (hl : (loadVar ty p).run P w = .ok v w) (hw : Region.wanted o (yielded ops a.tmps) = true) (h : wpList P ops Q rest (a.put o.dst v) w) : wpList P ops Q (o :: rest) a w := by
  unfold wpList
  rw [if_pos hw]
  left
  unfold Oper.wp
  simp only [execOp, ho, hx, Instr.loadAt, Instr.sureAddr, Sem.run_bind, Sem.run_pure, Result.andThen_ok, hl]
  exact h
def tW : Tb := ⟨6, 3, 5, 0, 0, List.replicate 34 0⟩
def tZ : Tb := ⟨0, 0, 0, 0, 0, List.replicate 34 0⟩
theorem tc_all (t : Tb) : (tc t).all (·.oneCell') = true := by simp [tc, tcL, wordVals, Value.oneCell']
theorem pAt_two {W : World} {B : Nat} (h : Rows8 W B 36 #[.int .i64 0, .int .u64 0, .int .i64 1, .int .u64 0]) : PAt W (.slice (some ⟨B, 0, none⟩) 2 2) [(0, 0), (1, 0)] := by
  refine ⟨rfl, _, _, rfl, Nat.le_refl _, by decide, (fun e => by cases e), fun j hj => ⟨B, 0, rfl, h.lt, ?_⟩⟩
  rw [h.cell, Nat.zero_add]
  match j, hj with
  | 0, _ => rfl
  | 1, _ => rfl
  | 2, _ => rfl
  | 3, _ => rfl
set_option maxHeartbeats 8000000 in
theorem Try.wakes_any (w : World) : Calls Try.prog 9 #[] w fun e w' => e = .returned (.bool true) ∧ Below w.heap.size w w' := by
  have HB := Lib.hid (Below.refl w.heap.size w)
  have i2 : I64 2 := by unfold I64; omega
  have i3 : I64 3 := by unfold I64; omega
  have i99 : I64 99 := by unfold I64; omega
  have i4 : I64 4 := by unfold I64; omega
  go_enter Try.func9, Try.ntmps9
  have HQ := Lib.hid (Try.Cell_any 2 3 i2 i3 w)
  go_wp2_with fail
  refine HQ.out.mono ?_
  rintro e W1 ⟨⟨h, rfl⟩ | ⟨h, _⟩, hC⟩
  rotate_left
  · exact absurd h (by decide)
  have HB := Lib.hid (HB.out.trans (hC.mono HB.out.size))
  clear hC h HQ
  have HQ := Lib.hid (Try.Of_any 99 i99 W1)
  go_wp2_with fail
  refine HQ.out.mono ?_
  rintro e W2 ⟨⟨h, rfl⟩ | ⟨h, _⟩, hC⟩
  rotate_left
  · exact absurd h (by decide)
  have HB := Lib.hid (HB.out.trans (hC.mono HB.out.size))
  clear hC h HQ
  have HQ := Lib.hid (Try.Pack_any 4 7 i4 W2)
  rw [show packV 4 7 = 458757 from rfl] at HQ
  go_wp2_with fail
  refine HQ.out.mono ?_
  rintro e W3 ⟨⟨h, rfl⟩ | ⟨h, _⟩, hC⟩
  rotate_left
  · exact absurd h (by decide)
  have HB := Lib.hid (HB.out.trans (hC.mono HB.out.size))
  clear hC h HQ
  have HQ := Lib.hid (Try.Unpack_any 0 (by decide) W3)
  go_wp2_with fail
  refine HQ.out.mono ?_
  rintro e W4 ⟨⟨h, _⟩ | ⟨h, rfl⟩, hC⟩
  · exact absurd h (by decide)
  have HB := Lib.hid (HB.out.trans (hC.mono HB.out.size))
  clear hC h HQ
  obtain ⟨W5, hW5⟩ : ∃ W, W = W4.alloc (.cells #[.int .i64 0, .int .u64 0] 36) := ⟨_, rfl⟩
  have HB : Hid (Below w.heap.size w W5) := Lib.hid (HB.out.trans (by rw [hW5]; exact (Rows8.newB (W := W4)).mono HB.out.size))
  have HB5 := HB
  obtain ⟨Bt, hBt⟩ : ∃ B, B = W5.heap.size := ⟨_, rfl⟩
  obtain ⟨Wz, hWz⟩ : ∃ W, W = W5.alloc (.cells (tc tZ) 49) := ⟨_, rfl⟩
  have HZ : Hid (Rows8 Wz Bt 49 (tc tZ)) := Lib.hid (by rw [hWz, hBt]; exact Rows8.new _ _ _)
  have HB : Hid (Below w.heap.size w Wz) := Lib.hid (HB.out.trans (by rw [hWz]; exact (Rows8.newB (W := W5)).mono HB.out.size))
  have HBt : Hid (w.heap.size ≤ Bt) := Lib.hid (by rw [hBt]; exact HB5.out.size)
  have HST := Lib.hid (run_storeVar_row (P := Try.prog) Wz Bt 49 49 (tc tZ) (tc tW) HZ.out (by rw [tc_size tW rfl]; exact Try.infoTable) (by rw [tc_size tW rfl, tc_size tZ rfl]) (tc_all tW))
  obtain ⟨W6, hW6⟩ : ∃ W, W = Wz.setRow Bt (tc tW) := ⟨_, rfl⟩
  rw [← hW6] at HST
  have HB : Hid (Below w.heap.size w W6) := Lib.hid (by rw [hW6]; exact below_setRow HB.out HBt.out _)
  have HT : Hid (Rows8 W6 Bt 49 (tc tW)) := Lib.hid (by rw [hW6]; exact setRow_heap Wz Bt _ _ _ _ HZ.out)
  clear hW6
  rw [hWz] at HST
  clear hWz
  go_upto_region 5 with fail
  rw [← hW5]
  clear hW5
  rw [hBt] at HST
  go_upto_region 6 with (refine wpList_storeVar rfl _ _ _ rfl _ _ rfl rfl HST.out ?_)
  rw [← hBt]
  clear hBt HST
  have HLD := Lib.hid (Try.load_table (t := tW) rfl HT.out)
  have iT : I64 tW.d ∧ I64 tW.can ∧ I64 tW.live := by
    refine ⟨?_, ?_, ?_⟩ <;> (unfold I64; decide)
  have HQ := Lib.hid (Try.TableWords_any tW rfl iT W6)
  go_wp2_with (refine wpList_loadV rfl _ _ rfl _ _ rfl HLD.out ?_)
  refine HQ.out.mono ?_
  rintro e W7 ⟨⟨h, Bw, rfl, hb, hr⟩ | ⟨h, _⟩, hC⟩
  rotate_left
  · exact absurd h (by decide)
  have HT := Lib.hid (HT.out.below hC HT.out.lt)
  have HB := Lib.hid (HB.out.trans (hC.mono HB.out.size))
  have HW := Lib.hid hr
  clear hC h HQ hb hr HLD
  obtain ⟨W8, hW8⟩ : ∃ W, W = W7.alloc (.cells #[.int .i64 0, .int .u64 0, .int .i64 1, .int .u64 0] 36) := ⟨_, rfl⟩
  have hp : PAt W8 (.slice (some ⟨W7.heap.size, 0, none⟩) 2 2) [(0, 0), (1, 0)] := pAt_two (by rw [hW8]; exact Rows8.new _ _ _)
  have hC : Below W7.heap.size W7 W8 := by rw [hW8]; exact Rows8.newB
  have HT := Lib.hid (HT.out.below hC HT.out.lt)
  have HW := Lib.hid (HW.out.below hC HW.out.lt)
  have HB := Lib.hid (HB.out.trans (hC.mono HB.out.size))
  have HQ := Lib.hid (Try.At_any 1 (some ⟨W7.heap.size, 0, none⟩) 2 2 [(0, 0), (1, 0)] (by unfold I64; omega) (by
    intro p hp
    simp at hp
    rcases hp with rfl | rfl <;> (unfold I64; omega)) 9223372036854775808 (by decide) W8 hp)
  rw [show topB 9223372036854775808 (1 : Int).toNat = 1 from rfl] at HQ
  clear hp hC
  go_wp2_with fail
  rw [← hW8]
  clear hW8
  refine HQ.out.mono ?_
  rintro e W9 ⟨⟨h, rfl⟩ | ⟨h, _⟩, hC⟩
  rotate_left
  · exact absurd h (by decide)
  have HT := Lib.hid (HT.out.below hC HT.out.lt)
  have HW := Lib.hid (HW.out.below hC HW.out.lt)
  have HB := Lib.hid (HB.out.trans (hC.mono HB.out.size))
  clear hC h HQ
  have c0 : W9.cell? ⟨Bw, 0, none⟩ = some (.int .u64 6) := HW.out.cell 0
  have c1 : W9.cell? ⟨Bw, 1, none⟩ = some (.int .u64 1283) := HW.out.cell 1
  have HLD := Lib.hid (Try.load_table (t := tW) rfl HT.out)
  have HQ := Lib.hid (Try.Has_any tW rfl iT 11529215046068469760 (by decide) W9)
  rw [show hasB tW 11529215046068469760 = true from by decide] at HQ
  go_wp2_with (refine wpList_loadVG _ _ rfl _ _ rfl HLD.out (by rfl) ?_)
  refine HQ.out.mono ?_
  rintro e W10 ⟨rfl, hC⟩
  have HB := Lib.hid (HB.out.trans (hC.mono HB.out.size))
  clear hC HQ HLD
  go_wp2_with fail
  go_ret
  exact ⟨rfl, HB.out⟩
end Go.Proofs
