/- Layout: TableWords, Has. -/
import Derived.Test.YtkddfihfilhhdaaWk
namespace Go.Proofs
set_option maxRecDepth 100000
open Go.RowKit Go.Shelf
attribute [local go_sem] Oper.semAt_some

theorem wpList_loadV {P : Program} {ops : Array Oper} {rest : List Oper} {o : Oper} {a : Act} {w : World} {Q : Exit → Act → World → Prop} (hgd : o.guard = none) (ty : TypeId) (x : Operand) (ho : o.op = .load ty x)
    (p : Addr) (v : Value) (hx : a.eval x = .pointer (some p)) (hl : (loadVar ty p).run P w = .ok v w) (h : wpList P ops Q rest (a.put o.dst v) w) : wpList P ops Q (o :: rest) a w := by
  refine wpList_plain hgd fun K hK => ?_
  unfold Oper.wp
  simp only [execOp, ho, hx, Instr.loadAt, Instr.sureAddr, Sem.run_bind, Sem.run_pure, Result.andThen_ok, hl]
  exact hK _ _ h
theorem Try.infoTable : (Try.prog.info? 49).map (·.size) = some 39 := by kernel_rfl
theorem Try.load_table {W : World} {B : Nat} {ty : TypeId} {t : Tb} (hl : t.ws.length = 34) (h : Rows8 W B ty (tc t)) : (loadVar 49 ⟨B, 0, none⟩).run Try.prog W = .ok (.agg (tc t)) W :=
  run_loadVar_row (P := Try.prog) W B ty 49 _ (0, 0) _ h Try.underlying49 rfl (by rw [tc_size t hl]; exact Try.infoTable)
set_option maxHeartbeats 1000000 in
theorem Try.TableWords1_any (t : Tb) (hlw : t.ws.length = 34) (hi : I64 t.d ∧ I64 t.can ∧ I64 t.live) (B : Nat) (w : World) (hr : Rows8 w B 49 (tc t)) : Calls Try.prog 52 #[.pointer (some ⟨B, 0, none⟩)] w fun e w' => Below w.heap.size w w' ∧ ((∃ x, e = .returned x ∧ (∃ B, x = .slice (some ⟨B, 0, none⟩) 40 40 ∧ w.heap.size < B ∧ Rows8 w' B 34 (wordVals (twords t)).toArray) ∧ okT t = true) ∨ ∃ q, e = .panicked (panicA q) ∧ q = 260 ∧ okT t = false) := by
  have HQ := Lib.hid (Try.wordsOfTable_any t hlw hi w)
  have HLD := Lib.hid (Try.load_table hlw hr)
  clear hr hi hlw
  go_enter Try.func52, Try.ntmps52
  go_wp2_with (refine wpList_loadV rfl _ _ rfl _ _ rfl HLD.out ?_)
  refine HQ.out.mono ?_
  rintro e W1 ⟨hC, ⟨v, rfl, hv, h⟩ | ⟨q, rfl, rfl, h⟩⟩
  · have HB := Lib.hid hC
    have H := Lib.hid (And.intro hv h)
    clear hC h HQ hv
    go_wp2_with fail
    go_ret
    exact ⟨HB.out, .inl ⟨_, rfl, H.out.1, H.out.2⟩⟩
  · have HB := Lib.hid hC
    have H := Lib.hid h
    clear hC h HQ
    unfold panicA
    go_wp2_with fail
    exact ⟨(by first | rfl | trivial), HB.out, .inr ⟨_, rfl, rfl, H.out⟩⟩
/-- What TableWords tells. -/
def TwQ (t : Tb) (n₀ : Nat) (e : Ending) (w : World) : Prop := (okT t = true ∧ ∃ B, e = .returned (.tuple #[.slice (some ⟨B, 0, none⟩) 40 40, .int .i64 0]) ∧ n₀ ≤ B ∧ Rows8 w B 34 (wordVals (twords t)).toArray) ∨ (okT t = false ∧ e = .returned (.tuple #[.slice none 0 0, .int .i64 260]))
set_option maxHeartbeats 1000000 in
theorem Try.TableWords_any (t : Tb) (hlw : t.ws.length = 34) (hi : I64 t.d ∧ I64 t.can ∧ I64 t.live) (w : World) : Calls Try.prog 20 #[.agg (tc t)] w fun e w' => TwQ t w.heap.size e w' ∧ Below w.heap.size w w' := by
  obtain ⟨W0, hW0⟩ : ∃ W, W = (w.alloc (.cells (tc t) 49)) := ⟨_, rfl⟩
  have hs0 : W0.heap.size = w.heap.size + 1 := by rw [hW0]; simp
  have HB : Hid (Below w.heap.size w W0) := Lib.hid (by rw [hW0]; exact Rows8.newB)
  have r0 : Rows8 W0 w.heap.size 49 (tc t) := by rw [hW0]; exact Rows8.new _ _ _
  have hT := Try.caughtW_any 52 #[.pointer (some ⟨w.heap.size, 0, none⟩)] W0 (fun x W => (∃ B, x = .slice (some ⟨B, 0, none⟩) 40 40 ∧ w.heap.size + 1 < B ∧ Rows8 W B 34 (wordVals (twords t)).toArray) ∧ okT t = true) (fun q => q = 260 ∧ okT t = false) (fun _ _ => by kernel_rfl)
    ((Try.TableWords1_any t hlw hi _ _ (r0.alloc _)).mono (by
      rintro e w' ⟨hC, ⟨x, rfl, ⟨B, rfl, hb, hr⟩, h⟩ | h⟩
      · exact ⟨hC, .inl ⟨_, rfl, ⟨B, rfl, by simp [hs0] at hb; omega, hr⟩, h⟩⟩
      · exact ⟨hC, .inr h⟩)) (by
      rintro x W u _ ⟨⟨B, hx, hb, hr⟩, h⟩
      exact ⟨⟨B, hx, hb, hr.setOther (a := ⟨W0.heap.size, 0, none⟩) (by simp [hs0]; omega) u⟩, h⟩)
  have HT := Lib.hid hT
  clear hT r0 hi hlw hs0
  go_enter Try.func20, Try.ntmps20
  go_upto_region 1 with fail
  rw [← hW0]
  clear hW0
  go_wp2_with fail
  refine HT.out.mono ?_
  rintro e W1 ⟨hC, ⟨v, rfl, ⟨B, rfl, hb, hr⟩, h⟩ | ⟨q, rfl, rfl, h⟩⟩
  · have HB := Lib.hid (HB.out.trans (hC.mono HB.out.size))
    have H := Lib.hid (And.intro hb (And.intro hr h))
    clear hC HT hb hr h
    go_wp2_with fail
    go_ret2
    exact ⟨.inl ⟨H.out.2.2, B, rfl, by have := H.out.1; omega, H.out.2.1⟩, HB.out⟩
  · have HB := Lib.hid (HB.out.trans (hC.mono HB.out.size))
    have H := Lib.hid h
    clear hC HT h
    go_wp2_with fail
    go_ret2
    exact ⟨.inr ⟨H.out, rfl⟩, HB.out⟩
theorem okT_d {t : Tb} (h : okT t = true) : 0 ≤ t.d ∧ t.d ≤ 5 := by
  simp [okT] at h
  omega
/-- Does a hash go to this table? -/
def hasB (t : Tb) (h : Nat) : Bool := okT t && decide (topB h t.d.toNat = t.p)
set_option maxHeartbeats 2000000 in
theorem Try.Has_any (t : Tb) (hlw : t.ws.length = 34) (hi : I64 t.d ∧ I64 t.can ∧ I64 t.live) (h : Nat) (hh : h < 18446744073709551616) (w : World) : Calls Try.prog 23 #[.agg (tc t), .int .u64 (h : Nat)] w fun e w' => e = .returned (.bool (hasB t h)) ∧ Below w.heap.size w w' := by
  obtain ⟨W0, hW0⟩ : ∃ W, W = (w.alloc (.cells (tc t) 49)) := ⟨_, rfl⟩
  have HB : Hid (Below w.heap.size w W0) := Lib.hid (by rw [hW0]; exact Rows8.newB)
  have HT : Hid (Rows8 W0 w.heap.size 49 (tc t)) := Lib.hid (by rw [hW0]; exact Rows8.new _ _ _)
  have HLD := Lib.hid (Try.load_table hlw HT.out)
  have HQ := Lib.hid (Try.TableWords_any t hlw hi W0)
  have HH := Lib.hid hh
  clear hi hlw hh
  go_enter Try.func23, Try.ntmps23
  go_upto_region 1 with fail
  rw [← hW0]
  clear hW0
  go_wp2_with (refine wpList_loadV rfl _ _ rfl _ _ rfl HLD.out ?_)
  refine HQ.out.mono ?_
  rintro e W1 ⟨⟨ho, B, rfl, _⟩ | ⟨ho, rfl⟩, hC⟩
  · have HO := Lib.hid ho
    have HT := Lib.hid (HT.out.below hC HT.out.lt)
    have HB := Lib.hid (HB.out.trans (hC.mono HB.out.size))
    clear hC HQ ho HLD
    go_upto_region 2 with fail
    refine wp_region_X (fun W' => Rows8 W' w.heap.size 49 (tc t)) 12 (by kernel_rfl) ?_
    have hC0 : Below W1.heap.size W1 W1.drew := (Below.refl _ _).drew
    have HT := Lib.hid (HT.out.below hC0 HT.out.lt)
    have HB := Lib.hid (HB.out.trans (hC0.mono HB.out.size))
    clear hC0
    generalize W1.drew = W2 at *
    refine wpAnyN_take (i := 0) (oi := { dst := some 12, op := Go.Op.move (Go.Operand.tmp 6), type := 27, pos := "layout.go:68", after := #[], guard := none }) (v := .int .i64 0) rfl (by decide) (by kernel_rfl) (by kernel_rfl) (by kernel_rfl) (fun _ _ _ h => h) (Or.inl ⟨by rfl, ?_⟩) HT.out ?_
    · intro W9 hS9
      go_simp
    try simp only [Act.put, List.setIfInBounds_toArray, List.set_cons_zero, List.set_cons_succ]
    refine wpAnyN_take (i := 1) (oi := { dst := some 13, op := Go.Op.binOp Go.BinOp.eql 27 (Go.Operand.tmp 12) (Go.Operand.const (Go.Value.int Go.IntKind.i64 0)) 27, type := 4, pos := "layout.go:68", after := #[{ on := 0, ground := Go.Ground.data }], guard := none }) (v := .bool true) rfl (by decide) (by kernel_rfl) (by kernel_rfl) (by kernel_rfl) (fun _ _ _ h => h) (Or.inl ⟨by rfl, ?_⟩) HT.out ?_
    · intro W9 hS9
      go_simp
    try simp only [Act.put, List.setIfInBounds_toArray, List.set_cons_zero, List.set_cons_succ]
    refine wpAnyN_take (i := 2) (oi := { dst := some 14, op := Go.Op.move (Go.Operand.tmp 13), type := 4, pos := "layout.go:68", after := #[{ on := 1, ground := Go.Ground.data }], guard := none }) (v := .bool true) rfl (by decide) (by kernel_rfl) (by kernel_rfl) (by kernel_rfl) (fun _ _ _ h => h) (Or.inl ⟨by rfl, ?_⟩) HT.out ?_
    · intro W9 hS9
      go_simp
    try simp only [Act.put, List.setIfInBounds_toArray, List.set_cons_zero, List.set_cons_succ]
    refine wpAnyN_take (i := 3) (oi := { dst := some 15, op := Go.Op.move (Go.Operand.tmp 1), type := 34, pos := "layout.go:68", after := #[{ on := 2, ground := Go.Ground.guard }], guard := some (2, true) }) (v := .int .u64 (h : Nat)) rfl (by decide) (by kernel_rfl) (by kernel_rfl) (by kernel_rfl) (fun _ _ _ h => h) (Or.inl ⟨by rfl, ?_⟩) HT.out ?_
    · intro W9 hS9
      go_simp
    try simp only [Act.put, List.setIfInBounds_toArray, List.set_cons_zero, List.set_cons_succ]
    refine wpAnyN_take (i := 4) (oi := { dst := some 16, op := Go.Op.fieldAddr 49 (Go.Operand.tmp 2) 1, type := 0, pos := "layout.go:68", after := #[{ on := 2, ground := Go.Ground.guard }], guard := some (2, true) }) (v := .pointer (some ⟨w.heap.size, 1, none⟩)) rfl (by decide) (by kernel_rfl) (by kernel_rfl) (by kernel_rfl) (fun _ _ _ h => h) (Or.inl ⟨by rfl, ?_⟩) HT.out ?_
    · intro W9 hS9
      go_simp
    try simp only [Act.put, List.setIfInBounds_toArray, List.set_cons_zero, List.set_cons_succ]
    refine wpAnyN_take (i := 5) (oi := { dst := some 17, op := Go.Op.load 3 (Go.Operand.tmp 16), type := 3, pos := "layout.go:68", after := #[{ on := 4, ground := Go.Ground.data }, { on := 2, ground := Go.Ground.guard }], guard := some (2, true) }) (v := .int .i64 t.d) rfl (by decide) (by kernel_rfl) (by kernel_rfl) (by kernel_rfl) (fun _ _ _ h => h) (Or.inl ⟨by rfl, ?_⟩) HT.out ?_
    · intro W9 hS9
      have s0 : W9.cell? ⟨w.heap.size, 1, none⟩ = some (.int .i64 t.d) := (hS9.cell 1).trans (tc_1 t)
      clear hS9
      go_simp
    try simp only [Act.put, List.setIfInBounds_toArray, List.set_cons_zero, List.set_cons_succ]
    refine wpAnyN_take (i := 7) (oi := { dst := some 19, op := Go.Op.fieldAddr 49 (Go.Operand.tmp 2) 2, type := 0, pos := "layout.go:68", after := #[{ on := 2, ground := Go.Ground.guard }], guard := some (2, true) }) (v := .pointer (some ⟨w.heap.size, 2, none⟩)) rfl (by decide) (by kernel_rfl) (by kernel_rfl) (by kernel_rfl) (fun _ _ _ h => h) (Or.inl ⟨by rfl, ?_⟩) HT.out ?_
    · intro W9 hS9
      go_simp
    try simp only [Act.put, List.setIfInBounds_toArray, List.set_cons_zero, List.set_cons_succ]
    refine wpAnyN_take (i := 8) (oi := { dst := some 20, op := Go.Op.load 34 (Go.Operand.tmp 19), type := 34, pos := "layout.go:68", after := #[{ on := 7, ground := Go.Ground.data }, { on := 2, ground := Go.Ground.guard }], guard := some (2, true) }) (v := .int .u64 (t.p : Nat)) rfl (by decide) (by kernel_rfl) (by kernel_rfl) (by kernel_rfl) (fun _ _ _ h => h) (Or.inl ⟨by rfl, ?_⟩) HT.out ?_
    · intro W9 hS9
      have s0 : W9.cell? ⟨w.heap.size, 2, none⟩ = some (.int .u64 (t.p : Nat)) := (hS9.cell 2).trans (tc_2 t)
      clear hS9
      go_simp
    try simp only [Act.put, List.setIfInBounds_toArray, List.set_cons_zero, List.set_cons_succ]
    refine wpAnyX_one (i := 6) (o := { dst := some 18, op := Go.Op.call { callee := Go.Callee.value (Go.Operand.func 54), args := #[Go.Operand.tmp 15, Go.Operand.tmp 17], argTypes := #[34, 3] }, type := 34, pos := "layout.go:68", after := #[{ on := 3, ground := Go.Ground.data }, { on := 5, ground := Go.Ground.data }, { on := 2, ground := Go.Ground.chain }, { on := 2, ground := Go.Ground.guard }], guard := some (2, true) }) (by kernel_rfl) rfl (fun K hK => ?_)
    have HN := Try.highest_any h t.d.toNat (by have := okT_d HO.out; omega) HH.out W2
    rw [show ((t.d.toNat : Nat) : Int) = t.d from Int.toNat_of_nonneg (okT_d HO.out).1] at HN
    refine step_call_g (by rfl) 54 _ _ rfl (fun _ _ => by kernel_rfl) #[.int .u64 (h : Nat), .int .i64 t.d] (by simp [go_sem]) _ HN ?_
    clear HN
    rintro e w9 ⟨rfl, hw9⟩
    subst w9
    refine ⟨_, rfl, ?_⟩
    refine hK.out _ _ (fun _ => HT.out) ?_
    clear hK K
    try simp only [Act.put, List.setIfInBounds_toArray, List.set_cons_zero, List.set_cons_succ]
    have hb : (((topB h t.d.toNat : Nat) : Int) == ((t.p : Nat) : Int)) = decide (topB h t.d.toNat = t.p) := by
      rw [show (((topB h t.d.toNat : Nat) : Int) == ((t.p : Nat) : Int)) = decide (((topB h t.d.toNat : Nat) : Int) = ((t.p : Nat) : Int)) from rfl]
      exact decide_eq_decide.2 (by omega)
    obtain ⟨z, hz⟩ : ∃ z, z = decide (topB h t.d.toNat = t.p) := ⟨_, rfl⟩
    rw [← hz] at hb
    have HZ := Lib.hid hz
    clear hz
    refine wpAnyN_take (i := 9) (oi := { dst := some 21, op := Go.Op.binOp Go.BinOp.eql 34 (Go.Operand.tmp 18) (Go.Operand.tmp 20) 34, type := 4, pos := "layout.go:68", after := #[{ on := 6, ground := Go.Ground.data }, { on := 8, ground := Go.Ground.data }, { on := 2, ground := Go.Ground.guard }], guard := some (2, true) }) (v := .bool z) rfl (by decide) (by kernel_rfl) (by kernel_rfl) (by kernel_rfl) (fun _ _ _ h => h) (Or.inl ⟨by rfl, ?_⟩) HT.out ?_
    · intro W9 hS9
      go_simp
    try simp only [Act.put, List.setIfInBounds_toArray, List.set_cons_zero, List.set_cons_succ]
    clear hb
    refine wpAnyN_take (i := 10) (oi := { dst := some 22, op := Go.Op.pick (Go.Operand.tmp 14) (Go.Operand.tmp 21) (Go.Operand.const (Go.Value.bool false)), type := 4, pos := "layout.go:68", after := #[{ on := 2, ground := Go.Ground.data }, { on := 9, ground := Go.Ground.data }], guard := none }) (v := .bool z) rfl (by decide) (by kernel_rfl) (by kernel_rfl) (by kernel_rfl) (fun _ _ _ h => h) (Or.inl ⟨by rfl, ?_⟩) HT.out ?_
    · intro W9 hS9
      go_simp
    try simp only [Act.put, List.setIfInBounds_toArray, List.set_cons_zero, List.set_cons_succ]
    refine wpAnyN_take (i := 11) (oi := { dst := some 4, op := Go.Op.assign (Go.Operand.tmp 22), type := 4, pos := "layout.go:68", after := #[{ on := 10, ground := Go.Ground.data }, { on := 6, ground := Go.Ground.chain }, { on := 0, ground := Go.Ground.phase }, { on := 1, ground := Go.Ground.phase }, { on := 2, ground := Go.Ground.phase }, { on := 3, ground := Go.Ground.phase }, { on := 4, ground := Go.Ground.phase }, { on := 5, ground := Go.Ground.phase }, { on := 6, ground := Go.Ground.phase }, { on := 7, ground := Go.Ground.phase }, { on := 8, ground := Go.Ground.phase }, { on := 9, ground := Go.Ground.phase }, { on := 10, ground := Go.Ground.phase }], guard := none }) (v := .bool z) rfl (by decide) (by kernel_rfl) (by kernel_rfl) (by kernel_rfl) (fun _ _ _ h => h) (Or.inl ⟨by rfl, ?_⟩) HT.out ?_
    · intro W9 hS9
      go_simp
    try simp only [Act.put, List.setIfInBounds_toArray, List.set_cons_zero, List.set_cons_succ]
    refine wpAnyX_end (by kernel_rfl) ?_
    go_wp2_with fail
    go_ret
    exact ⟨by unfold hasB; rw [HO.out, ← HZ.out]; rfl, HB.out⟩
  · have HO := Lib.hid ho
    have HT := Lib.hid (HT.out.below hC HT.out.lt)
    have HB := Lib.hid (HB.out.trans (hC.mono HB.out.size))
    clear hC HQ ho HLD
    go_upto_region 2 with fail
    refine wp_region_X (fun W' => Rows8 W' w.heap.size 49 (tc t)) 12 (by kernel_rfl) ?_
    have hC0 : Below W1.heap.size W1 W1.drew := (Below.refl _ _).drew
    have HT := Lib.hid (HT.out.below hC0 HT.out.lt)
    have HB := Lib.hid (HB.out.trans (hC0.mono HB.out.size))
    clear hC0
    generalize W1.drew = W2 at *
    refine wpAnyN_take (i := 0) (oi := { dst := some 12, op := Go.Op.move (Go.Operand.tmp 6), type := 27, pos := "layout.go:68", after := #[], guard := none }) (v := .int .i64 260) rfl (by decide) (by kernel_rfl) (by kernel_rfl) (by kernel_rfl) (fun _ _ _ h => h) (Or.inl ⟨by rfl, ?_⟩) HT.out ?_
    · intro W9 hS9
      go_simp
    try simp only [Act.put, List.setIfInBounds_toArray, List.set_cons_zero, List.set_cons_succ]
    refine wpAnyN_take (i := 1) (oi := { dst := some 13, op := Go.Op.binOp Go.BinOp.eql 27 (Go.Operand.tmp 12) (Go.Operand.const (Go.Value.int Go.IntKind.i64 0)) 27, type := 4, pos := "layout.go:68", after := #[{ on := 0, ground := Go.Ground.data }], guard := none }) (v := .bool false) rfl (by decide) (by kernel_rfl) (by kernel_rfl) (by kernel_rfl) (fun _ _ _ h => h) (Or.inl ⟨by rfl, ?_⟩) HT.out ?_
    · intro W9 hS9
      go_simp
    try simp only [Act.put, List.setIfInBounds_toArray, List.set_cons_zero, List.set_cons_succ]
    refine wpAnyN_take (i := 2) (oi := { dst := some 14, op := Go.Op.move (Go.Operand.tmp 13), type := 4, pos := "layout.go:68", after := #[{ on := 1, ground := Go.Ground.data }], guard := none }) (v := .bool false) rfl (by decide) (by kernel_rfl) (by kernel_rfl) (by kernel_rfl) (fun _ _ _ h => h) (Or.inl ⟨by rfl, ?_⟩) HT.out ?_
    · intro W9 hS9
      go_simp
    try simp only [Act.put, List.setIfInBounds_toArray, List.set_cons_zero, List.set_cons_succ]
    refine wpAnyN_take (i := 3) (oi := { dst := some 15, op := Go.Op.move (Go.Operand.tmp 1), type := 34, pos := "layout.go:68", after := #[{ on := 2, ground := Go.Ground.guard }], guard := some (2, true) }) (v := undef) rfl (by decide) (by kernel_rfl) (by kernel_rfl) (by kernel_rfl) (fun _ _ _ h => h) (Or.inr ⟨by rfl, rfl⟩) HT.out ?_
    try simp only [Act.put, List.setIfInBounds_toArray, List.set_cons_zero, List.set_cons_succ]
    refine wpAnyN_take (i := 4) (oi := { dst := some 16, op := Go.Op.fieldAddr 49 (Go.Operand.tmp 2) 1, type := 0, pos := "layout.go:68", after := #[{ on := 2, ground := Go.Ground.guard }], guard := some (2, true) }) (v := undef) rfl (by decide) (by kernel_rfl) (by kernel_rfl) (by kernel_rfl) (fun _ _ _ h => h) (Or.inr ⟨by rfl, rfl⟩) HT.out ?_
    try simp only [Act.put, List.setIfInBounds_toArray, List.set_cons_zero, List.set_cons_succ]
    refine wpAnyN_take (i := 5) (oi := { dst := some 17, op := Go.Op.load 3 (Go.Operand.tmp 16), type := 3, pos := "layout.go:68", after := #[{ on := 4, ground := Go.Ground.data }, { on := 2, ground := Go.Ground.guard }], guard := some (2, true) }) (v := undef) rfl (by decide) (by kernel_rfl) (by kernel_rfl) (by kernel_rfl) (fun _ _ _ h => h) (Or.inr ⟨by rfl, rfl⟩) HT.out ?_
    try simp only [Act.put, List.setIfInBounds_toArray, List.set_cons_zero, List.set_cons_succ]
    refine wpAnyN_take (i := 6) (oi := { dst := some 18, op := Go.Op.call { callee := Go.Callee.value (Go.Operand.func 54), args := #[Go.Operand.tmp 15, Go.Operand.tmp 17], argTypes := #[34, 3] }, type := 34, pos := "layout.go:68", after := #[{ on := 3, ground := Go.Ground.data }, { on := 5, ground := Go.Ground.data }, { on := 2, ground := Go.Ground.chain }, { on := 2, ground := Go.Ground.guard }], guard := some (2, true) }) (v := undef) rfl (by decide) (by kernel_rfl) (by kernel_rfl) (by kernel_rfl) (fun _ _ _ h => h) (Or.inr ⟨by rfl, rfl⟩) HT.out ?_
    try simp only [Act.put, List.setIfInBounds_toArray, List.set_cons_zero, List.set_cons_succ]
    refine wpAnyN_take (i := 7) (oi := { dst := some 19, op := Go.Op.fieldAddr 49 (Go.Operand.tmp 2) 2, type := 0, pos := "layout.go:68", after := #[{ on := 2, ground := Go.Ground.guard }], guard := some (2, true) }) (v := undef) rfl (by decide) (by kernel_rfl) (by kernel_rfl) (by kernel_rfl) (fun _ _ _ h => h) (Or.inr ⟨by rfl, rfl⟩) HT.out ?_
    try simp only [Act.put, List.setIfInBounds_toArray, List.set_cons_zero, List.set_cons_succ]
    refine wpAnyN_take (i := 8) (oi := { dst := some 20, op := Go.Op.load 34 (Go.Operand.tmp 19), type := 34, pos := "layout.go:68", after := #[{ on := 7, ground := Go.Ground.data }, { on := 2, ground := Go.Ground.guard }], guard := some (2, true) }) (v := undef) rfl (by decide) (by kernel_rfl) (by kernel_rfl) (by kernel_rfl) (fun _ _ _ h => h) (Or.inr ⟨by rfl, rfl⟩) HT.out ?_
    try simp only [Act.put, List.setIfInBounds_toArray, List.set_cons_zero, List.set_cons_succ]
    refine wpAnyN_take (i := 9) (oi := { dst := some 21, op := Go.Op.binOp Go.BinOp.eql 34 (Go.Operand.tmp 18) (Go.Operand.tmp 20) 34, type := 4, pos := "layout.go:68", after := #[{ on := 6, ground := Go.Ground.data }, { on := 8, ground := Go.Ground.data }, { on := 2, ground := Go.Ground.guard }], guard := some (2, true) }) (v := undef) rfl (by decide) (by kernel_rfl) (by kernel_rfl) (by kernel_rfl) (fun _ _ _ h => h) (Or.inr ⟨by rfl, rfl⟩) HT.out ?_
    try simp only [Act.put, List.setIfInBounds_toArray, List.set_cons_zero, List.set_cons_succ]
    refine wpAnyN_take (i := 10) (oi := { dst := some 22, op := Go.Op.pick (Go.Operand.tmp 14) (Go.Operand.tmp 21) (Go.Operand.const (Go.Value.bool false)), type := 4, pos := "layout.go:68", after := #[{ on := 2, ground := Go.Ground.data }, { on := 9, ground := Go.Ground.data }], guard := none }) (v := .bool false) rfl (by decide) (by kernel_rfl) (by kernel_rfl) (by kernel_rfl) (fun _ _ _ h => h) (Or.inl ⟨by rfl, ?_⟩) HT.out ?_
    · intro W9 hS9
      go_simp
    try simp only [Act.put, List.setIfInBounds_toArray, List.set_cons_zero, List.set_cons_succ]
    refine wpAnyN_take (i := 11) (oi := { dst := some 4, op := Go.Op.assign (Go.Operand.tmp 22), type := 4, pos := "layout.go:68", after := #[{ on := 10, ground := Go.Ground.data }, { on := 6, ground := Go.Ground.chain }, { on := 0, ground := Go.Ground.phase }, { on := 1, ground := Go.Ground.phase }, { on := 2, ground := Go.Ground.phase }, { on := 3, ground := Go.Ground.phase }, { on := 4, ground := Go.Ground.phase }, { on := 5, ground := Go.Ground.phase }, { on := 6, ground := Go.Ground.phase }, { on := 7, ground := Go.Ground.phase }, { on := 8, ground := Go.Ground.phase }, { on := 9, ground := Go.Ground.phase }, { on := 10, ground := Go.Ground.phase }], guard := none }) (v := .bool false) rfl (by decide) (by kernel_rfl) (by kernel_rfl) (by kernel_rfl) (fun _ _ _ h => h) (Or.inl ⟨by rfl, ?_⟩) HT.out ?_
    · intro W9 hS9
      go_simp
    try simp only [Act.put, List.setIfInBounds_toArray, List.set_cons_zero, List.set_cons_succ]
    refine wpAnyX_end (by kernel_rfl) ?_
    go_wp2_with fail
    go_ret
    exact ⟨by unfold hasB; rw [HO.out]; rfl, HB.out⟩
end Go.Proofs
