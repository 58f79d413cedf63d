/- Ctrl: tried: a panic of ours that is recovered. -/
import Derived.Test.YtmjlaienklheiaaJh
namespace Go.Proofs
set_option maxRecDepth 100000
open Go.RowKit Go.Shelf
attribute [local go_sem] Oper.semAt_some

theorem Try.neq_nil (n : Int) (W : World) : (binOp BinOp.neq 20 (.iface 27 (.int .i64 n)) .nilIface).run Try.prog W = .ok (.bool true) W := by kernel_rfl
theorem Try.assert_yes (v : Value) (W : World) : (Instr.typeAssert (.iface 27 v) 20 27 true).run Try.prog W = .ok (.tuple #[v, .bool true]) W := by kernel_rfl
set_option maxHeartbeats 1000000 in
theorem Try.catch_panicking (E : Nat) (n z : Int) (older : List PanicEntry) (w : World) (hE : Rows8 w E 27 #[.int .i64 z]) :
    CallsD Try.prog 58 #[.pointer (some ⟨E, 0, none⟩)] (.panicking ({ v := .iface 27 (.int .i64 n), recovered := false } :: older)) w fun e u' w' =>
      e = .returned (.tuple #[]) ∧ u' = .panicking ({ v := .iface 27 (.int .i64 n), recovered := true } :: older) ∧ w' = w.setCell ⟨E, 0, none⟩ (.int .i64 n) := by
  have c2 : w.cell? ⟨E, 0, none⟩ = some (.int .i64 z) := hE.cell 0
  have f2 := hE.frozen 0
  refine callsD_of_wpS Try.func58 rfl fun c₀ cs hu => ?_
  apply wpS_seq
  apply wpS_region
  simp [wpOpsS, go_sem, recoverD, hu, Try.ntmps58, Exit.thenS]
  have hne := Try.neq_nil n
  have hta := Try.assert_yes (.int .i64 n)
  apply wpS_seq
  apply wpS_region
  simp [wpOpsS, go_sem, Exit.thenS, hne]
  refine wpS_cond (t := true) (by simp [Act.eval, Array.replicate]) ?_
  simp only [if_true]
  apply wpS_seq
  apply wpS_region
  simp [wpOpsS, go_sem, Exit.thenS, hta]
  apply wpS_seq
  apply wpS_seq
  apply wpS_region
  simp [wpOpsS, go_sem, Exit.thenS]
  refine wpS_cond (t := false) (by simp [Act.eval, Array.replicate]) ?_
  simp only [Bool.false_eq_true, if_false]
  refine wpS_of_wp (wp_skip ?_)
  simp only [Exit.thenS]
  apply wpS_region
  simp [wpOpsS, go_sem, c2, f2, bodyPostS, results, Try.results58]
theorem Try.nil_nil (W : World) : (binOp BinOp.neq 20 .nilIface .nilIface).run Try.prog W = .ok (.bool false) W := by kernel_rfl
theorem Try.catch_idle (q : Addr) (w : World) :
    CallsD Try.prog 58 #[.pointer (some q)] .returning w fun e u' w' => e = .returned (.tuple #[]) ∧ u' = .returning ∧ w' = w := by
  have hne := Try.nil_nil
  refine callsD_of_wpS Try.func58 rfl fun c₀ cs hu => ?_
  apply wpS_seq
  apply wpS_region
  simp [wpOpsS, go_sem, recoverD, hu, Try.ntmps58, Exit.thenS]
  apply wpS_seq
  apply wpS_region
  simp [wpOpsS, go_sem, Exit.thenS, hne]
  refine wpS_cond (t := false) (by simp [Act.eval, Array.replicate]) ?_
  simp only [Bool.false_eq_true, if_false]
  refine wpS_of_wp (wp_skip ?_)
  cases c₀
  simp_all [bodyPostS, results, Try.results58]
theorem results_tc1 {P : Program} {fn : Func} {p q : Tmp} {ty : TypeId} (h : fn.results = #[.tmp q, .cell p ty]) (tmps : Array Value) (w : World) (B : Nat) (u : Value)
    (hp : tmps.getD p undef = .pointer (some ⟨B, 0, none⟩)) (h1 : (loadVar ty ⟨B, 0, none⟩).run P w = .ok u w) : (results fn tmps).run P w = .ok (.tuple #[tmps.getD q undef, u]) w := by
  have hp' : tmps[p]?.getD undef = .pointer (some ⟨B, 0, none⟩) := by simpa using hp
  simp [results, h, hp', asAddr, h1, Result.andThen]

set_option maxHeartbeats 2000000 in
/-- .. of a word that may not be. -/
theorem Try.tried_no (x : Nat) (hr : rightC x = false) (lane : Int) (h D : Nat) (t : TypeId) (cs : Array Value) (f : FuncId) (fb fc : Array Value) (w : World) (hD : Draft w D t cs x lane h) :
    Calls Try.prog 43 #[.pointer (some ⟨D, 0, none⟩), .func (.func f) fb fc] w fun e w' => e = .returned (.tuple #[.int .u64 0, .int .i64 190]) ∧ Below w.heap.size w w' := by
  have hB0 : Below w.heap.size w (w.alloc (.cells #[.int .i64 0] 27)) := (Below.refl _ w).alloc (Nat.le_refl _) _
  have d0 := hD.below hB0 hD.row.lt
  have hM := Try.mayBe_any x (w.alloc (.cells #[.int .i64 0] 27))
  rw [hr] at hM
  have h1 := Rows8.new w 27 #[.int .i64 0]
  have hmf : ∀ (fn : Fn) (first cap : Array Value) (w : World), (Instr.makeFunc fn first cap).run Try.prog w = .ok (.func fn first cap) w := fun _ _ _ _ => rfl
  have HM := Lib.hid hM
  have HB0 := Lib.hid hB0
  have H1 := Lib.hid h1
  have c0 := d0.c0
  clear hM hB0 h1 hD d0 hr
  go_enter_defers Try.func43, Try.ntmps43
  go_wp2_with fail
  refine HM.out.mono ?_
  rintro e w1 ⟨rfl, hB1⟩
  have g1 := H1.out.below hB1 H1.out.lt
  have hcatch := Try.catch_panicking w.heap.size 190 0 [] w1 g1
  have s1 := g1.set 0 (.int .i64 190)
  simp only [List.setIfInBounds_toArray, List.set_cons_zero] at s1
  have hB2 := (HB0.out.trans (hB1.mono HB0.out.size)).setCell (p := ⟨w.heap.size, 0, none⟩) (Nat.le_refl _) (.int .i64 190)
  have S1 := Lib.hid s1
  have HB2 := Lib.hid hB2
  have HCT := Lib.hid hcatch
  clear hB1 g1 s1 hB2 hcatch
  go_wp2_with fail
  refine leaves_cons (f := 58) (args := #[.pointer (some ⟨w.heap.size, 0, none⟩)]) (by simp) (by simp [go_sem]) ?_
  refine HCT.out.mono ?_
  rintro e u' w'' ⟨rfl, rfl, rfl⟩
  refine ⟨_, results_tc1 rfl _ _ w.heap.size _ rfl (load_one S1.out (by kernel_rfl)), ?_⟩
  exact ⟨rfl, HB2.out⟩

set_option maxHeartbeats 2000000 in
theorem Try.tried_yes (x : Nat) (hr : rightC x = true) (lane : Int) (h D : Nat) (t : TypeId) (cs : Array Value) (f : FuncId) (fb fc : Array Value) (w : World) (hD : Draft w D t cs x lane h)
    (eg : ∀ args w, (callFunc f args).run Try.prog w = .ok (.enter f args) w) (Good : Nat → World → Prop) (Bad : Int → World → Prop)
    (hwork : ∀ W : World, Below w.heap.size w W → Rows8 W w.heap.size 27 #[.int .i64 0] → Calls Try.prog f (fb ++ fc) W fun e W' => Rows8 W' w.heap.size 27 #[.int .i64 0] ∧
      ((∃ (v : Value) (y : Nat), e = .returned v ∧ W'.cell? ⟨D, 0, none⟩ = some (.int .u64 y) ∧ Good y W') ∨ (∃ E, e = .panicked (panic1 E) ∧ Bad E W'))) :
    Calls Try.prog 43 #[.pointer (some ⟨D, 0, none⟩), .func (.func f) fb fc] w fun e w' =>
      (∃ (y : Nat) (W1 : World), e = .returned (.tuple #[.int .u64 y, .int .i64 0]) ∧ Good y W1 ∧ w' = W1.setCell ⟨w.heap.size, 0, none⟩ (.int .i64 0)) ∨
      (∃ (E : Int) (W1 : World), e = .returned (.tuple #[.int .u64 0, .int .i64 E]) ∧ Bad E W1 ∧ w' = W1.setCell ⟨w.heap.size, 0, none⟩ (.int .i64 E)) := by
  have hB0 : Below w.heap.size w (w.alloc (.cells #[.int .i64 0] 27)) := (Below.refl _ w).alloc (Nat.le_refl _) _
  have d0 := hD.below hB0 hD.row.lt
  have hM := Try.mayBe_any x (w.alloc (.cells #[.int .i64 0] 27))
  rw [hr] at hM
  have h1 := Rows8.new w 27 #[.int .i64 0]
  have hmf : ∀ (fn : Fn) (first cap : Array Value) (w : World), (Instr.makeFunc fn first cap).run Try.prog w = .ok (.func fn first cap) w := fun _ _ _ _ => rfl
  have HM := Lib.hid hM
  have HB0 := Lib.hid hB0
  have H1 := Lib.hid h1
  have HW := Lib.hid hwork
  have c0 := d0.c0
  have hDl := hD.row.lt
  clear hM hB0 h1 hD d0 hr hwork
  go_enter_defers Try.func43, Try.ntmps43
  go_wp2_with fail
  refine HM.out.mono ?_
  rintro e w1 ⟨rfl, hB1⟩
  have HWK := Lib.hid (HW.out w1 (HB0.out.trans (hB1.mono HB0.out.size)) (H1.out.below hB1 H1.out.lt))
  clear hB1 HW HM
  go_wp2_with fail
  refine HWK.out.mono ?_
  clear HWK
  rintro e w2 ⟨hE, hc⟩
  rcases hc with ⟨v, y, rfl, hcy, hg⟩ | ⟨E, rfl, hb⟩
  · have c1 : w2.cell? ⟨w.heap.size, 0, none⟩ = some (.int .i64 0) := hE.cell 0
    have f1 := hE.frozen 0
    have s1 := hE.set 0 (.int .i64 0)
    simp only [List.setIfInBounds_toArray, List.set_cons_zero] at s1
    have S1 := Lib.hid s1
    have HG := Lib.hid hg
    clear hE hg s1 c0
    go_wp2_with (go_at_call 54; refine (Try.cnumber_any _ _).mono ?_; rintro e w' ⟨rfl, rfl⟩)
    refine leaves_cons (f := 58) (args := #[.pointer (some ⟨w.heap.size, 0, none⟩)]) (by simp) (by simp [go_sem]) ?_
    refine (Try.catch_idle ⟨w.heap.size, 0, none⟩ _).mono ?_
    rintro e u' w'' ⟨rfl, rfl, rfl⟩
    refine ⟨_, results_tc1 rfl _ _ w.heap.size _ rfl (load_one S1.out (by kernel_rfl)), ?_⟩
    exact .inl ⟨y, w2, rfl, HG.out, rfl⟩
  · have hcatch := Try.catch_panicking w.heap.size E 0 [] w2 hE
    have s1 := hE.set 0 (.int .i64 E)
    simp only [List.setIfInBounds_toArray, List.set_cons_zero] at s1
    have S1 := Lib.hid s1
    have HBD := Lib.hid hb
    have HCT := Lib.hid hcatch
    clear hE hb s1 hcatch c0
    unfold panic1
    go_wp2_with fail
    refine leaves_cons (f := 58) (args := #[.pointer (some ⟨w.heap.size, 0, none⟩)]) (by simp) (by simp [go_sem]) ?_
    refine HCT.out.mono ?_
    rintro e u' w'' ⟨rfl, rfl, rfl⟩
    refine ⟨_, results_tc1 rfl _ _ w.heap.size _ rfl (load_one S1.out (by kernel_rfl)), ?_⟩
    exact .inr ⟨E, w2, rfl, HBD.out, rfl⟩
end Go.Proofs
