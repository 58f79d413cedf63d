/- Layout: what is caught. -/
import Derived.Test.YtkddfihfilhhdaaWc
namespace Go.Proofs
set_option maxRecDepth 100000
open Go.RowKit Go.Shelf
attribute [local go_sem] Oper.semAt_some

theorem Try.catchI_panicking (T : Nat) (n z : Int) (older : List PanicEntry) (w : World) (hE : Rows8 w T 27 #[.int .i64 z]) :
    CallsD Try.prog 68 #[.pointer (some ⟨T, 0, none⟩)] (.panicking ({ v := .iface 27 (.int .i64 n), recovered := false } :: older)) w fun e u' w' =>
      e = .returned (.tuple #[]) ∧ u' = .panicking ({ v := .iface 27 (.int .i64 n), recovered := true } :: older) ∧ w' = w.setCell ⟨T, 0, none⟩ (.int .i64 n) := by
  have ct : w.cell? ⟨T, 0, none⟩ = some (.int .i64 z) := hE.cell 0
  have ft := hE.frozen 0
  refine callsD_of_wpS Try.func68 rfl fun c₀ cs hu => ?_
  apply wpS_seq
  apply wpS_region
  simp [wpOpsS, go_sem, recoverD, hu, Try.ntmps68, Exit.thenS]
  have hne := Try.neq_nil n
  have hta := Try.assert_yes (.int .i64 n)
  apply wpS_seq
  apply wpS_region
  simp [wpOpsS, go_sem, Exit.thenS, hne]
  refine wpS_cond (t := true) (by simp [Act.eval, Array.replicate]) ?_
  simp only [if_true]
  apply wpS_seq
  apply wpS_region
  simp [wpOpsS, go_sem, Exit.thenS, hta]
  apply wpS_seq
  apply wpS_seq
  apply wpS_region
  simp [wpOpsS, go_sem, Exit.thenS]
  refine wpS_cond (t := false) (by simp [Act.eval, Array.replicate]) ?_
  simp only [Bool.false_eq_true, if_false]
  refine wpS_of_wp (wp_skip ?_)
  simp only [Exit.thenS]
  apply wpS_region
  simp [wpOpsS, go_sem, ct, ft, bodyPostS, results, Try.results68]
theorem Try.catchI_idle (q : Addr) (w : World) :
    CallsD Try.prog 68 #[.pointer (some q)] .returning w fun e u' w' => e = .returned (.tuple #[]) ∧ u' = .returning ∧ w' = w := by
  have hne := Try.nil_nil
  refine callsD_of_wpS Try.func68 rfl fun c₀ cs hu => ?_
  apply wpS_seq
  apply wpS_region
  simp [wpOpsS, go_sem, recoverD, hu, Try.ntmps68, Exit.thenS]
  apply wpS_seq
  apply wpS_region
  simp [wpOpsS, go_sem, Exit.thenS, hne]
  refine wpS_cond (t := false) (by simp [Act.eval, Array.replicate]) ?_
  simp only [Bool.false_eq_true, if_false]
  refine wpS_of_wp (wp_skip ?_)
  cases c₀
  simp_all [bodyPostS, results, Try.results68]
set_option maxHeartbeats 4000000 in
theorem Try.caughtI_any (f : FuncId) (fc : Array Value) (w : World) (G : Value → World → Prop) (B : Int → Prop) (eg : ∀ args w, (callFunc f args).run Try.prog w = .ok (.enter f args) w)
    (hw : Calls Try.prog f fc (w.alloc (.cells #[.int .i64 0] 27)) (fun e w' => Below (w.alloc (.cells #[.int .i64 0] 27)).heap.size (w.alloc (.cells #[.int .i64 0] 27)) w' ∧ ((∃ x, e = .returned x ∧ G x w') ∨ ∃ q, e = .panicked (panicA q) ∧ B q)))
    (hG : ∀ x W u, Below (w.alloc (.cells #[.int .i64 0] 27)).heap.size (w.alloc (.cells #[.int .i64 0] 27)) W → G x W → G x (W.setCell ⟨w.heap.size, 0, none⟩ u)) :
    Calls Try.prog 37 #[.func (.func f) #[] fc] w fun e w' => Below w.heap.size w w' ∧ ((∃ x, e = .returned (.tuple #[x, .int .i64 0]) ∧ G x w') ∨ ∃ q, e = .returned (.tuple #[.int .i64 0, .int .i64 q]) ∧ B q) := by
  have hmf : ∀ (fn : Fn) (first cap : Array Value) (w : World), (Instr.makeFunc fn first cap).run Try.prog w = .ok (.func fn first cap) w := fun _ _ _ _ => rfl
  have HW := Lib.hid hw
  have HN := Lib.hid (Rows8.new w 27 #[.int .i64 0])
  have HA : Hid (Below w.heap.size w (w.alloc (.cells #[.int .i64 0] 27))) := Lib.hid Rows8.newB
  clear hw
  go_enter_defers Try.func37, Try.ntmps37
  go_wp2_with fail
  refine HW.out.mono ?_
  rintro e W1 ⟨hB, hq⟩
  have HR := Lib.hid (HN.out.below hB HN.out.lt)
  have HB := Lib.hid hB
  clear hB HW HN
  rcases hq with ⟨x, rfl, hg⟩ | ⟨q, rfl, hg⟩
  · have HG := Lib.hid (hG x W1 (.int .i64 0) HB.out hg)
    clear hg hG
    have c0 : W1.cell? ⟨w.heap.size, 0, none⟩ = some (.int .i64 0) := HR.out.cell 0
    have f0 := HR.out.frozen 0
    have l0 := HR.out.lt
    have t2 := HR.out.set 0 (.int .i64 0)
    simp only [List.setIfInBounds_toArray, List.set_cons_zero] at t2
    have HT := Lib.hid t2
    clear t2
    go_wp2_with fail
    refine leaves_cons (f := 68) (args := #[.pointer (some ⟨w.heap.size, 0, none⟩)]) (by simp) (by simp [go_sem]) ?_
    refine (Try.catchI_idle ⟨w.heap.size, 0, none⟩ _).mono ?_
    rintro e u' w'' ⟨rfl, rfl, rfl⟩
    refine ⟨_, results_tc rfl _ _ (w.heap.size) _ _ rfl rfl (load_one HT.out (by kernel_rfl)), ?_⟩
    exact ⟨(HA.out.trans (HB.out.mono HA.out.size)).setCell (Nat.le_refl _) _, .inl ⟨x, rfl, HG.out⟩⟩
  · have hcatch := Try.catchI_panicking w.heap.size q _ [] W1 HR.out
    have HCT := Lib.hid hcatch
    have t2 := HR.out.set 0 (.int .i64 q)
    simp only [List.setIfInBounds_toArray, List.set_cons_zero] at t2
    have HT := Lib.hid t2
    have HG := Lib.hid hg
    clear hcatch t2 hg hG
    unfold panicA
    go_wp2_with fail
    refine leaves_cons (f := 68) (args := #[.pointer (some ⟨w.heap.size, 0, none⟩)]) (by simp) (by simp [go_sem]) ?_
    refine HCT.out.mono ?_
    rintro e u' w'' ⟨rfl, rfl, rfl⟩
    refine ⟨_, results_tc rfl _ _ (w.heap.size) _ _ rfl rfl (load_one HT.out (by kernel_rfl)), ?_⟩
    exact ⟨(HA.out.trans (HB.out.mono HA.out.size)).setCell (Nat.le_refl _) _, .inr ⟨q, rfl, HG.out⟩⟩
theorem Try.catchU_panicking (T : Nat) (n z : Int) (older : List PanicEntry) (w : World) (hE : Rows8 w T 27 #[.int .i64 z]) :
    CallsD Try.prog 71 #[.pointer (some ⟨T, 0, none⟩)] (.panicking ({ v := .iface 27 (.int .i64 n), recovered := false } :: older)) w fun e u' w' =>
      e = .returned (.tuple #[]) ∧ u' = .panicking ({ v := .iface 27 (.int .i64 n), recovered := true } :: older) ∧ w' = w.setCell ⟨T, 0, none⟩ (.int .i64 n) := by
  have ct : w.cell? ⟨T, 0, none⟩ = some (.int .i64 z) := hE.cell 0
  have ft := hE.frozen 0
  refine callsD_of_wpS Try.func71 rfl fun c₀ cs hu => ?_
  apply wpS_seq
  apply wpS_region
  simp [wpOpsS, go_sem, recoverD, hu, Try.ntmps71, Exit.thenS]
  have hne := Try.neq_nil n
  have hta := Try.assert_yes (.int .i64 n)
  apply wpS_seq
  apply wpS_region
  simp [wpOpsS, go_sem, Exit.thenS, hne]
  refine wpS_cond (t := true) (by simp [Act.eval, Array.replicate]) ?_
  simp only [if_true]
  apply wpS_seq
  apply wpS_region
  simp [wpOpsS, go_sem, Exit.thenS, hta]
  apply wpS_seq
  apply wpS_seq
  apply wpS_region
  simp [wpOpsS, go_sem, Exit.thenS]
  refine wpS_cond (t := false) (by simp [Act.eval, Array.replicate]) ?_
  simp only [Bool.false_eq_true, if_false]
  refine wpS_of_wp (wp_skip ?_)
  simp only [Exit.thenS]
  apply wpS_region
  simp [wpOpsS, go_sem, ct, ft, bodyPostS, results, Try.results71]
theorem Try.catchU_idle (q : Addr) (w : World) :
    CallsD Try.prog 71 #[.pointer (some q)] .returning w fun e u' w' => e = .returned (.tuple #[]) ∧ u' = .returning ∧ w' = w := by
  have hne := Try.nil_nil
  refine callsD_of_wpS Try.func71 rfl fun c₀ cs hu => ?_
  apply wpS_seq
  apply wpS_region
  simp [wpOpsS, go_sem, recoverD, hu, Try.ntmps71, Exit.thenS]
  apply wpS_seq
  apply wpS_region
  simp [wpOpsS, go_sem, Exit.thenS, hne]
  refine wpS_cond (t := false) (by simp [Act.eval, Array.replicate]) ?_
  simp only [Bool.false_eq_true, if_false]
  refine wpS_of_wp (wp_skip ?_)
  cases c₀
  simp_all [bodyPostS, results, Try.results71]
set_option maxHeartbeats 4000000 in
theorem Try.caughtU_any (f : FuncId) (fc : Array Value) (w : World) (G : Value → World → Prop) (B : Int → Prop) (eg : ∀ args w, (callFunc f args).run Try.prog w = .ok (.enter f args) w)
    (hw : Calls Try.prog f fc (w.alloc (.cells #[.int .i64 0] 27)) (fun e w' => Below (w.alloc (.cells #[.int .i64 0] 27)).heap.size (w.alloc (.cells #[.int .i64 0] 27)) w' ∧ ((∃ x, e = .returned x ∧ G x w') ∨ ∃ q, e = .panicked (panicA q) ∧ B q)))
    (hG : ∀ x W u, Below (w.alloc (.cells #[.int .i64 0] 27)).heap.size (w.alloc (.cells #[.int .i64 0] 27)) W → G x W → G x (W.setCell ⟨w.heap.size, 0, none⟩ u)) :
    Calls Try.prog 44 #[.func (.func f) #[] fc] w fun e w' => Below w.heap.size w w' ∧ ((∃ x, e = .returned (.tuple #[x, .int .i64 0]) ∧ G x w') ∨ ∃ q, e = .returned (.tuple #[.int .u64 0, .int .i64 q]) ∧ B q) := by
  have hmf : ∀ (fn : Fn) (first cap : Array Value) (w : World), (Instr.makeFunc fn first cap).run Try.prog w = .ok (.func fn first cap) w := fun _ _ _ _ => rfl
  have HW := Lib.hid hw
  have HN := Lib.hid (Rows8.new w 27 #[.int .i64 0])
  have HA : Hid (Below w.heap.size w (w.alloc (.cells #[.int .i64 0] 27))) := Lib.hid Rows8.newB
  clear hw
  go_enter_defers Try.func44, Try.ntmps44
  go_wp2_with fail
  refine HW.out.mono ?_
  rintro e W1 ⟨hB, hq⟩
  have HR := Lib.hid (HN.out.below hB HN.out.lt)
  have HB := Lib.hid hB
  clear hB HW HN
  rcases hq with ⟨x, rfl, hg⟩ | ⟨q, rfl, hg⟩
  · have HG := Lib.hid (hG x W1 (.int .i64 0) HB.out hg)
    clear hg hG
    have c0 : W1.cell? ⟨w.heap.size, 0, none⟩ = some (.int .i64 0) := HR.out.cell 0
    have f0 := HR.out.frozen 0
    have l0 := HR.out.lt
    have t2 := HR.out.set 0 (.int .i64 0)
    simp only [List.setIfInBounds_toArray, List.set_cons_zero] at t2
    have HT := Lib.hid t2
    clear t2
    go_wp2_with fail
    refine leaves_cons (f := 71) (args := #[.pointer (some ⟨w.heap.size, 0, none⟩)]) (by simp) (by simp [go_sem]) ?_
    refine (Try.catchU_idle ⟨w.heap.size, 0, none⟩ _).mono ?_
    rintro e u' w'' ⟨rfl, rfl, rfl⟩
    refine ⟨_, results_tc rfl _ _ (w.heap.size) _ _ rfl rfl (load_one HT.out (by kernel_rfl)), ?_⟩
    exact ⟨(HA.out.trans (HB.out.mono HA.out.size)).setCell (Nat.le_refl _) _, .inl ⟨x, rfl, HG.out⟩⟩
  · have hcatch := Try.catchU_panicking w.heap.size q _ [] W1 HR.out
    have HCT := Lib.hid hcatch
    have t2 := HR.out.set 0 (.int .i64 q)
    simp only [List.setIfInBounds_toArray, List.set_cons_zero] at t2
    have HT := Lib.hid t2
    have HG := Lib.hid hg
    clear hcatch t2 hg hG
    unfold panicA
    go_wp2_with fail
    refine leaves_cons (f := 71) (args := #[.pointer (some ⟨w.heap.size, 0, none⟩)]) (by simp) (by simp [go_sem]) ?_
    refine HCT.out.mono ?_
    rintro e u' w'' ⟨rfl, rfl, rfl⟩
    refine ⟨_, results_tc rfl _ _ (w.heap.size) _ _ rfl rfl (load_one HT.out (by kernel_rfl)), ?_⟩
    exact ⟨(HA.out.trans (HB.out.mono HA.out.size)).setCell (Nat.le_refl _) _, .inr ⟨q, rfl, HG.out⟩⟩
theorem Try.catchW_panicking (T : Nat) (n z : Int) (older : List PanicEntry) (w : World) (hE : Rows8 w T 27 #[.int .i64 z]) :
    CallsD Try.prog 76 #[.pointer (some ⟨T, 0, none⟩)] (.panicking ({ v := .iface 27 (.int .i64 n), recovered := false } :: older)) w fun e u' w' =>
      e = .returned (.tuple #[]) ∧ u' = .panicking ({ v := .iface 27 (.int .i64 n), recovered := true } :: older) ∧ w' = w.setCell ⟨T, 0, none⟩ (.int .i64 n) := by
  have ct : w.cell? ⟨T, 0, none⟩ = some (.int .i64 z) := hE.cell 0
  have ft := hE.frozen 0
  refine callsD_of_wpS Try.func76 rfl fun c₀ cs hu => ?_
  apply wpS_seq
  apply wpS_region
  simp [wpOpsS, go_sem, recoverD, hu, Try.ntmps76, Exit.thenS]
  have hne := Try.neq_nil n
  have hta := Try.assert_yes (.int .i64 n)
  apply wpS_seq
  apply wpS_region
  simp [wpOpsS, go_sem, Exit.thenS, hne]
  refine wpS_cond (t := true) (by simp [Act.eval, Array.replicate]) ?_
  simp only [if_true]
  apply wpS_seq
  apply wpS_region
  simp [wpOpsS, go_sem, Exit.thenS, hta]
  apply wpS_seq
  apply wpS_seq
  apply wpS_region
  simp [wpOpsS, go_sem, Exit.thenS]
  refine wpS_cond (t := false) (by simp [Act.eval, Array.replicate]) ?_
  simp only [Bool.false_eq_true, if_false]
  refine wpS_of_wp (wp_skip ?_)
  simp only [Exit.thenS]
  apply wpS_region
  simp [wpOpsS, go_sem, ct, ft, bodyPostS, results, Try.results76]
theorem Try.catchW_idle (q : Addr) (w : World) :
    CallsD Try.prog 76 #[.pointer (some q)] .returning w fun e u' w' => e = .returned (.tuple #[]) ∧ u' = .returning ∧ w' = w := by
  have hne := Try.nil_nil
  refine callsD_of_wpS Try.func76 rfl fun c₀ cs hu => ?_
  apply wpS_seq
  apply wpS_region
  simp [wpOpsS, go_sem, recoverD, hu, Try.ntmps76, Exit.thenS]
  apply wpS_seq
  apply wpS_region
  simp [wpOpsS, go_sem, Exit.thenS, hne]
  refine wpS_cond (t := false) (by simp [Act.eval, Array.replicate]) ?_
  simp only [Bool.false_eq_true, if_false]
  refine wpS_of_wp (wp_skip ?_)
  cases c₀
  simp_all [bodyPostS, results, Try.results76]
set_option maxHeartbeats 4000000 in
theorem Try.caughtW_any (f : FuncId) (fc : Array Value) (w : World) (G : Value → World → Prop) (B : Int → Prop) (eg : ∀ args w, (callFunc f args).run Try.prog w = .ok (.enter f args) w)
    (hw : Calls Try.prog f fc (w.alloc (.cells #[.int .i64 0] 27)) (fun e w' => Below (w.alloc (.cells #[.int .i64 0] 27)).heap.size (w.alloc (.cells #[.int .i64 0] 27)) w' ∧ ((∃ x, e = .returned x ∧ G x w') ∨ ∃ q, e = .panicked (panicA q) ∧ B q)))
    (hG : ∀ x W u, Below (w.alloc (.cells #[.int .i64 0] 27)).heap.size (w.alloc (.cells #[.int .i64 0] 27)) W → G x W → G x (W.setCell ⟨w.heap.size, 0, none⟩ u)) :
    Calls Try.prog 51 #[.func (.func f) #[] fc] w fun e w' => Below w.heap.size w w' ∧ ((∃ x, e = .returned (.tuple #[x, .int .i64 0]) ∧ G x w') ∨ ∃ q, e = .returned (.tuple #[.slice none 0 0, .int .i64 q]) ∧ B q) := by
  have hmf : ∀ (fn : Fn) (first cap : Array Value) (w : World), (Instr.makeFunc fn first cap).run Try.prog w = .ok (.func fn first cap) w := fun _ _ _ _ => rfl
  have HW := Lib.hid hw
  have HN := Lib.hid (Rows8.new w 27 #[.int .i64 0])
  have HA : Hid (Below w.heap.size w (w.alloc (.cells #[.int .i64 0] 27))) := Lib.hid Rows8.newB
  clear hw
  go_enter_defers Try.func51, Try.ntmps51
  go_wp2_with fail
  refine HW.out.mono ?_
  rintro e W1 ⟨hB, hq⟩
  have HR := Lib.hid (HN.out.below hB HN.out.lt)
  have HB := Lib.hid hB
  clear hB HW HN
  rcases hq with ⟨x, rfl, hg⟩ | ⟨q, rfl, hg⟩
  · have HG := Lib.hid (hG x W1 (.int .i64 0) HB.out hg)
    clear hg hG
    have c0 : W1.cell? ⟨w.heap.size, 0, none⟩ = some (.int .i64 0) := HR.out.cell 0
    have f0 := HR.out.frozen 0
    have l0 := HR.out.lt
    have t2 := HR.out.set 0 (.int .i64 0)
    simp only [List.setIfInBounds_toArray, List.set_cons_zero] at t2
    have HT := Lib.hid t2
    clear t2
    go_wp2_with fail
    refine leaves_cons (f := 76) (args := #[.pointer (some ⟨w.heap.size, 0, none⟩)]) (by simp) (by simp [go_sem]) ?_
    refine (Try.catchW_idle ⟨w.heap.size, 0, none⟩ _).mono ?_
    rintro e u' w'' ⟨rfl, rfl, rfl⟩
    refine ⟨_, results_tc rfl _ _ (w.heap.size) _ _ rfl rfl (load_one HT.out (by kernel_rfl)), ?_⟩
    exact ⟨(HA.out.trans (HB.out.mono HA.out.size)).setCell (Nat.le_refl _) _, .inl ⟨x, rfl, HG.out⟩⟩
  · have hcatch := Try.catchW_panicking w.heap.size q _ [] W1 HR.out
    have HCT := Lib.hid hcatch
    have t2 := HR.out.set 0 (.int .i64 q)
    simp only [List.setIfInBounds_toArray, List.set_cons_zero] at t2
    have HT := Lib.hid t2
    have HG := Lib.hid hg
    clear hcatch t2 hg hG
    unfold panicA
    go_wp2_with fail
    refine leaves_cons (f := 76) (args := #[.pointer (some ⟨w.heap.size, 0, none⟩)]) (by simp) (by simp [go_sem]) ?_
    refine HCT.out.mono ?_
    rintro e u' w'' ⟨rfl, rfl, rfl⟩
    refine ⟨_, results_tc rfl _ _ (w.heap.size) _ _ rfl rfl (load_one HT.out (by kernel_rfl)), ?_⟩
    exact ⟨(HA.out.trans (HB.out.mono HA.out.size)).setCell (Nat.le_refl _) _, .inr ⟨q, rfl, HG.out⟩⟩
theorem Try.catchE_panicking (T : Nat) (n z : Int) (older : List PanicEntry) (w : World) (hE : Rows8 w T 27 #[.int .i64 z]) :
    CallsD Try.prog 74 #[.pointer (some ⟨T, 0, none⟩)] (.panicking ({ v := .iface 27 (.int .i64 n), recovered := false } :: older)) w fun e u' w' =>
      e = .returned (.tuple #[]) ∧ u' = .panicking ({ v := .iface 27 (.int .i64 n), recovered := true } :: older) ∧ w' = w.setCell ⟨T, 0, none⟩ (.int .i64 n) := by
  have ct : w.cell? ⟨T, 0, none⟩ = some (.int .i64 z) := hE.cell 0
  have ft := hE.frozen 0
  refine callsD_of_wpS Try.func74 rfl fun c₀ cs hu => ?_
  apply wpS_seq
  apply wpS_region
  simp [wpOpsS, go_sem, recoverD, hu, Try.ntmps74, Exit.thenS]
  have hne := Try.neq_nil n
  have hta := Try.assert_yes (.int .i64 n)
  apply wpS_seq
  apply wpS_region
  simp [wpOpsS, go_sem, Exit.thenS, hne]
  refine wpS_cond (t := true) (by simp [Act.eval, Array.replicate]) ?_
  simp only [if_true]
  apply wpS_seq
  apply wpS_region
  simp [wpOpsS, go_sem, Exit.thenS, hta]
  apply wpS_seq
  apply wpS_seq
  apply wpS_region
  simp [wpOpsS, go_sem, Exit.thenS]
  refine wpS_cond (t := false) (by simp [Act.eval, Array.replicate]) ?_
  simp only [Bool.false_eq_true, if_false]
  refine wpS_of_wp (wp_skip ?_)
  simp only [Exit.thenS]
  apply wpS_region
  simp [wpOpsS, go_sem, ct, ft, bodyPostS, results, Try.results74]
theorem Try.catchE_idle (q : Addr) (w : World) :
    CallsD Try.prog 74 #[.pointer (some q)] .returning w fun e u' w' => e = .returned (.tuple #[]) ∧ u' = .returning ∧ w' = w := by
  have hne := Try.nil_nil
  refine callsD_of_wpS Try.func74 rfl fun c₀ cs hu => ?_
  apply wpS_seq
  apply wpS_region
  simp [wpOpsS, go_sem, recoverD, hu, Try.ntmps74, Exit.thenS]
  apply wpS_seq
  apply wpS_region
  simp [wpOpsS, go_sem, Exit.thenS, hne]
  refine wpS_cond (t := false) (by simp [Act.eval, Array.replicate]) ?_
  simp only [Bool.false_eq_true, if_false]
  refine wpS_of_wp (wp_skip ?_)
  cases c₀
  simp_all [bodyPostS, results, Try.results74]
set_option maxHeartbeats 4000000 in
theorem Try.caughtE_any (f : FuncId) (fc : Array Value) (w : World) (G : Value → World → Prop) (B : Int → Prop) (eg : ∀ args w, (callFunc f args).run Try.prog w = .ok (.enter f args) w)
    (hw : Calls Try.prog f fc ((w.alloc (.cells #[.int .i64 0, .int .u64 0] 36)).alloc (.cells #[.int .i64 0] 27)) (fun e w' => Below ((w.alloc (.cells #[.int .i64 0, .int .u64 0] 36)).alloc (.cells #[.int .i64 0] 27)).heap.size ((w.alloc (.cells #[.int .i64 0, .int .u64 0] 36)).alloc (.cells #[.int .i64 0] 27)) w' ∧ ((∃ (x : Int) (y : Int), e = .returned (.agg #[.int .i64 x, .int .u64 y]) ∧ G (.agg #[.int .i64 x, .int .u64 y]) w') ∨ ∃ q, e = .panicked (panicA q) ∧ B q)))
    (hG2 : ∀ x W k j u, G x W → k < 2 → G x (W.setCell ⟨w.heap.size + k, j, none⟩ u)) :
    Calls Try.prog 48 #[.func (.func f) #[] fc] w fun e w' => Below w.heap.size w w' ∧ ((∃ (x : Int) (y : Int), e = .returned (.tuple #[.agg #[.int .i64 x, .int .u64 y], .int .i64 0]) ∧ G (.agg #[.int .i64 x, .int .u64 y]) w') ∨ ∃ q, e = .returned (.tuple #[.agg #[.int .i64 0, .int .u64 0], .int .i64 q]) ∧ B q) := by
  have hmf : ∀ (fn : Fn) (first cap : Array Value) (w : World), (Instr.makeFunc fn first cap).run Try.prog w = .ok (.func fn first cap) w := fun _ _ _ _ => rfl
  have HW := Lib.hid hw
  have HN := Lib.hid (rows_new2 w (.cells #[.int .i64 0, .int .u64 0] 36) 27 #[.int .i64 0])
  have HN1 := Lib.hid ((Rows8.new w 36 #[.int .i64 0, .int .u64 0]).alloc (.cells #[.int .i64 0] 27))
  have HA : Hid (Below w.heap.size w ((w.alloc (.cells #[.int .i64 0, .int .u64 0] 36)).alloc (.cells #[.int .i64 0] 27))) := Lib.hid ((Rows8.newB).alloc (by simp) _)
  clear hw
  have HG2 := Lib.hid hG2
  clear hG2
  go_enter_defers Try.func48, Try.ntmps48
  go_wp2_with fail
  refine HW.out.mono ?_
  rintro e W1 ⟨hB, hq⟩
  have HR := Lib.hid (HN.out.below hB HN.out.lt)
  have HT1 := Lib.hid (HN1.out.below hB HN1.out.lt)
  have HB := Lib.hid hB
  clear hB HW HN HN1
  rcases hq with ⟨x, y, rfl, hg⟩ | ⟨q, rfl, hg⟩
  · have HG := Lib.hid hg
    clear hg
    have c0 : W1.cell? ⟨w.heap.size + 1, 0, none⟩ = some (.int .i64 0) := HR.out.cell 0
    have f0 := HR.out.frozen 0
    have l0 := HR.out.lt
    have d0 : W1.cell? ⟨w.heap.size, 0, none⟩ = some (.int .i64 0) := HT1.out.cell 0
    have g0 := HT1.out.frozen 0
    have d1 : W1.cell? ⟨w.heap.size, 1, none⟩ = some (.int .u64 0) := HT1.out.cell 1
    have g1 := HT1.out.frozen 1
    have l1 := HT1.out.lt
    have t2 := ((HR.out.setOther (a := ⟨w.heap.size, 0, none⟩) (by simp) (.int .i64 x)).setOther (a := ⟨w.heap.size, 1, none⟩) (by simp) (.int .u64 y)).set 0 (.int .i64 0)
    simp only [List.setIfInBounds_toArray, List.set_cons_zero] at t2
    have HT := Lib.hid t2
    have t3 := ((HT1.out.set 0 (.int .i64 x)).set 1 (.int .u64 y))
    simp only [List.setIfInBounds_toArray, List.set_cons_zero, List.set_cons_succ] at t3
    have HT3 := Lib.hid (t3.setOther (a := ⟨w.heap.size + 1, 0, none⟩) (by simp) (.int .i64 0))
    clear t2 t3
    go_wp2_with fail
    refine leaves_cons (f := 74) (args := #[.pointer (some ⟨w.heap.size + 1, 0, none⟩)]) (by simp) (by simp [go_sem]) ?_
    refine (Try.catchE_idle ⟨w.heap.size + 1, 0, none⟩ _).mono ?_
    rintro e u' w'' ⟨rfl, rfl, rfl⟩
    refine ⟨_, results_cc rfl _ _ (w.heap.size) (w.heap.size + 1) _ _ rfl rfl (load_row HT3.out Try.underlying36 rfl (by kernel_rfl)) (load_one HT.out (by kernel_rfl)), ?_⟩
    exact ⟨(((HA.out.trans (HB.out.mono HA.out.size)).setCell (p := ⟨w.heap.size, 0, none⟩) (Nat.le_refl _) _).setCell (p := ⟨w.heap.size, 1, none⟩) (Nat.le_refl _) _).setCell (p := ⟨w.heap.size + 1, 0, none⟩) (by simp) _, .inl ⟨x, y, rfl, HG2.out _ _ 1 0 _ (HG2.out _ _ 0 1 _ (HG2.out _ _ 0 0 _ (HG.out) (by decide)) (by decide)) (by decide)⟩⟩
  · have hcatch := Try.catchE_panicking (w.heap.size + 1) q _ [] W1 HR.out
    have HCT := Lib.hid hcatch
    have t2 := HR.out.set 0 (.int .i64 q)
    simp only [List.setIfInBounds_toArray, List.set_cons_zero] at t2
    have HT := Lib.hid t2
    have HT3 := Lib.hid (HT1.out.setOther (a := ⟨w.heap.size + 1, 0, none⟩) (by simp) (.int .i64 q))
    have HG := Lib.hid hg
    clear hcatch t2 hg
    unfold panicA
    go_wp2_with fail
    refine leaves_cons (f := 74) (args := #[.pointer (some ⟨w.heap.size + 1, 0, none⟩)]) (by simp) (by simp [go_sem]) ?_
    refine HCT.out.mono ?_
    rintro e u' w'' ⟨rfl, rfl, rfl⟩
    refine ⟨_, results_cc rfl _ _ (w.heap.size) (w.heap.size + 1) _ _ rfl rfl (load_row HT3.out Try.underlying36 rfl (by kernel_rfl)) (load_one HT.out (by kernel_rfl)), ?_⟩
    exact ⟨(HA.out.trans (HB.out.mono HA.out.size)).setCell (by simp) _, .inr ⟨q, rfl, HG.out⟩⟩
theorem Try.catchD_panicking (T : Nat) (n z : Int) (older : List PanicEntry) (w : World) (hE : Rows8 w T 27 #[.int .i64 z]) :
    CallsD Try.prog 86 #[.pointer (some ⟨T, 0, none⟩)] (.panicking ({ v := .iface 27 (.int .i64 n), recovered := false } :: older)) w fun e u' w' =>
      e = .returned (.tuple #[]) ∧ u' = .panicking ({ v := .iface 27 (.int .i64 n), recovered := true } :: older) ∧ w' = w.setCell ⟨T, 0, none⟩ (.int .i64 n) := by
  have ct : w.cell? ⟨T, 0, none⟩ = some (.int .i64 z) := hE.cell 0
  have ft := hE.frozen 0
  refine callsD_of_wpS Try.func86 rfl fun c₀ cs hu => ?_
  apply wpS_seq
  apply wpS_region
  simp [wpOpsS, go_sem, recoverD, hu, Try.ntmps86, Exit.thenS]
  have hne := Try.neq_nil n
  have hta := Try.assert_yes (.int .i64 n)
  apply wpS_seq
  apply wpS_region
  simp [wpOpsS, go_sem, Exit.thenS, hne]
  refine wpS_cond (t := true) (by simp [Act.eval, Array.replicate]) ?_
  simp only [if_true]
  apply wpS_seq
  apply wpS_region
  simp [wpOpsS, go_sem, Exit.thenS, hta]
  apply wpS_seq
  apply wpS_seq
  apply wpS_region
  simp [wpOpsS, go_sem, Exit.thenS]
  refine wpS_cond (t := false) (by simp [Act.eval, Array.replicate]) ?_
  simp only [Bool.false_eq_true, if_false]
  refine wpS_of_wp (wp_skip ?_)
  simp only [Exit.thenS]
  apply wpS_region
  simp [wpOpsS, go_sem, ct, ft, bodyPostS, results, Try.results86]
theorem Try.catchD_idle (q : Addr) (w : World) :
    CallsD Try.prog 86 #[.pointer (some q)] .returning w fun e u' w' => e = .returned (.tuple #[]) ∧ u' = .returning ∧ w' = w := by
  have hne := Try.nil_nil
  refine callsD_of_wpS Try.func86 rfl fun c₀ cs hu => ?_
  apply wpS_seq
  apply wpS_region
  simp [wpOpsS, go_sem, recoverD, hu, Try.ntmps86, Exit.thenS]
  apply wpS_seq
  apply wpS_region
  simp [wpOpsS, go_sem, Exit.thenS, hne]
  refine wpS_cond (t := false) (by simp [Act.eval, Array.replicate]) ?_
  simp only [Bool.false_eq_true, if_false]
  refine wpS_of_wp (wp_skip ?_)
  cases c₀
  simp_all [bodyPostS, results, Try.results86]
set_option maxHeartbeats 4000000 in
theorem Try.caughtD_any (f : FuncId) (fc : Array Value) (w : World) (G : Value → World → Prop) (B : Int → Prop) (eg : ∀ args w, (callFunc f args).run Try.prog w = .ok (.enter f args) w)
    (hw : Calls Try.prog f fc ((w.alloc (.cells #[.int .i64 0, .slice none 0 0] 64)).alloc (.cells #[.int .i64 0] 27)) (fun e w' => Below ((w.alloc (.cells #[.int .i64 0, .slice none 0 0] 64)).alloc (.cells #[.int .i64 0] 27)).heap.size ((w.alloc (.cells #[.int .i64 0, .slice none 0 0] 64)).alloc (.cells #[.int .i64 0] 27)) w' ∧ ((∃ (x : Int) (a : Option Addr) (n c : Nat), e = .returned (.agg #[.int .i64 x, .slice a n c]) ∧ G (.agg #[.int .i64 x, .slice a n c]) w') ∨ ∃ q, e = .panicked (panicA q) ∧ B q)))
    (hG2 : ∀ x W k j u, G x W → k < 2 → G x (W.setCell ⟨w.heap.size + k, j, none⟩ u)) :
    Calls Try.prog 64 #[.func (.func f) #[] fc] w fun e w' => Below w.heap.size w w' ∧ ((∃ (x : Int) (a : Option Addr) (n c : Nat), e = .returned (.tuple #[.agg #[.int .i64 x, .slice a n c], .int .i64 0]) ∧ G (.agg #[.int .i64 x, .slice a n c]) w') ∨ ∃ q, e = .returned (.tuple #[.agg #[.int .i64 0, .slice none 0 0], .int .i64 q]) ∧ B q) := by
  have hmf : ∀ (fn : Fn) (first cap : Array Value) (w : World), (Instr.makeFunc fn first cap).run Try.prog w = .ok (.func fn first cap) w := fun _ _ _ _ => rfl
  have HW := Lib.hid hw
  have HN := Lib.hid (rows_new2 w (.cells #[.int .i64 0, .slice none 0 0] 64) 27 #[.int .i64 0])
  have HN1 := Lib.hid ((Rows8.new w 64 #[.int .i64 0, .slice none 0 0]).alloc (.cells #[.int .i64 0] 27))
  have HA : Hid (Below w.heap.size w ((w.alloc (.cells #[.int .i64 0, .slice none 0 0] 64)).alloc (.cells #[.int .i64 0] 27))) := Lib.hid ((Rows8.newB).alloc (by simp) _)
  clear hw
  have HG2 := Lib.hid hG2
  clear hG2
  go_enter_defers Try.func64, Try.ntmps64
  go_wp2_with fail
  refine HW.out.mono ?_
  rintro e W1 ⟨hB, hq⟩
  have HR := Lib.hid (HN.out.below hB HN.out.lt)
  have HT1 := Lib.hid (HN1.out.below hB HN1.out.lt)
  have HB := Lib.hid hB
  clear hB HW HN HN1
  rcases hq with ⟨x, a, n, c, rfl, hg⟩ | ⟨q, rfl, hg⟩
  · have HG := Lib.hid hg
    clear hg
    have c0 : W1.cell? ⟨w.heap.size + 1, 0, none⟩ = some (.int .i64 0) := HR.out.cell 0
    have f0 := HR.out.frozen 0
    have l0 := HR.out.lt
    have d0 : W1.cell? ⟨w.heap.size, 0, none⟩ = some (.int .i64 0) := HT1.out.cell 0
    have g0 := HT1.out.frozen 0
    have d1 : W1.cell? ⟨w.heap.size, 1, none⟩ = some (.slice none 0 0) := HT1.out.cell 1
    have g1 := HT1.out.frozen 1
    have l1 := HT1.out.lt
    have t2 := ((HR.out.setOther (a := ⟨w.heap.size, 0, none⟩) (by simp) (.int .i64 x)).setOther (a := ⟨w.heap.size, 1, none⟩) (by simp) (.slice a n c)).set 0 (.int .i64 0)
    simp only [List.setIfInBounds_toArray, List.set_cons_zero] at t2
    have HT := Lib.hid t2
    have t3 := ((HT1.out.set 0 (.int .i64 x)).set 1 (.slice a n c))
    simp only [List.setIfInBounds_toArray, List.set_cons_zero, List.set_cons_succ] at t3
    have HT3 := Lib.hid (t3.setOther (a := ⟨w.heap.size + 1, 0, none⟩) (by simp) (.int .i64 0))
    clear t2 t3
    go_wp2_with fail
    refine leaves_cons (f := 86) (args := #[.pointer (some ⟨w.heap.size + 1, 0, none⟩)]) (by simp) (by simp [go_sem]) ?_
    refine (Try.catchD_idle ⟨w.heap.size + 1, 0, none⟩ _).mono ?_
    rintro e u' w'' ⟨rfl, rfl, rfl⟩
    refine ⟨_, results_cc rfl _ _ (w.heap.size) (w.heap.size + 1) _ _ rfl rfl (load_row HT3.out Try.underlying64 rfl (by kernel_rfl)) (load_one HT.out (by kernel_rfl)), ?_⟩
    exact ⟨(((HA.out.trans (HB.out.mono HA.out.size)).setCell (p := ⟨w.heap.size, 0, none⟩) (Nat.le_refl _) _).setCell (p := ⟨w.heap.size, 1, none⟩) (Nat.le_refl _) _).setCell (p := ⟨w.heap.size + 1, 0, none⟩) (by simp) _, .inl ⟨x, a, n, c, rfl, HG2.out _ _ 1 0 _ (HG2.out _ _ 0 1 _ (HG2.out _ _ 0 0 _ (HG.out) (by decide)) (by decide)) (by decide)⟩⟩
  · have hcatch := Try.catchD_panicking (w.heap.size + 1) q _ [] W1 HR.out
    have HCT := Lib.hid hcatch
    have t2 := HR.out.set 0 (.int .i64 q)
    simp only [List.setIfInBounds_toArray, List.set_cons_zero] at t2
    have HT := Lib.hid t2
    have HT3 := Lib.hid (HT1.out.setOther (a := ⟨w.heap.size + 1, 0, none⟩) (by simp) (.int .i64 q))
    have HG := Lib.hid hg
    clear hcatch t2 hg
    unfold panicA
    go_wp2_with fail
    refine leaves_cons (f := 86) (args := #[.pointer (some ⟨w.heap.size + 1, 0, none⟩)]) (by simp) (by simp [go_sem]) ?_
    refine HCT.out.mono ?_
    rintro e u' w'' ⟨rfl, rfl, rfl⟩
    refine ⟨_, results_cc rfl _ _ (w.heap.size) (w.heap.size + 1) _ _ rfl rfl (load_row HT3.out Try.underlying64 rfl (by kernel_rfl)) (load_one HT.out (by kernel_rfl)), ?_⟩
    exact ⟨(HA.out.trans (HB.out.mono HA.out.size)).setCell (by simp) _, .inr ⟨q, rfl, HG.out⟩⟩
end Go.Proofs
