/- Layout: Table. -/
import Derived.Test.YtkddfihfilhhdaaWt
namespace Go.Proofs
set_option maxRecDepth 100000
open Go.RowKit Go.Shelf
attribute [local go_sem] Oper.semAt_some

theorem Try.catchT_panicking (T : Nat) (n z : Int) (older : List PanicEntry) (w : World) (hE : Rows8 w T 27 #[.int .i64 z]) :
    CallsD Try.prog 80 #[.pointer (some ⟨T, 0, none⟩)] (.panicking ({ v := .iface 27 (.int .i64 n), recovered := false } :: older)) w fun e u' w' =>
      e = .returned (.tuple #[]) ∧ u' = .panicking ({ v := .iface 27 (.int .i64 n), recovered := true } :: older) ∧ w' = w.setCell ⟨T, 0, none⟩ (.int .i64 n) := by
  have ct : w.cell? ⟨T, 0, none⟩ = some (.int .i64 z) := hE.cell 0
  have ft := hE.frozen 0
  refine callsD_of_wpS Try.func80 rfl fun c₀ cs hu => ?_
  apply wpS_seq
  apply wpS_region
  simp [wpOpsS, go_sem, recoverD, hu, Try.ntmps80, Exit.thenS]
  have hne := Try.neq_nil n
  have hta := Try.assert_yes (.int .i64 n)
  apply wpS_seq
  apply wpS_region
  simp [wpOpsS, go_sem, Exit.thenS, hne]
  refine wpS_cond (t := true) (by simp [Act.eval, Array.replicate]) ?_
  simp only [if_true]
  apply wpS_seq
  apply wpS_region
  simp [wpOpsS, go_sem, Exit.thenS, hta]
  apply wpS_seq
  apply wpS_seq
  apply wpS_region
  simp [wpOpsS, go_sem, Exit.thenS]
  refine wpS_cond (t := false) (by simp [Act.eval, Array.replicate]) ?_
  simp only [Bool.false_eq_true, if_false]
  refine wpS_of_wp (wp_skip ?_)
  simp only [Exit.thenS]
  apply wpS_region
  simp [wpOpsS, go_sem, ct, ft, bodyPostS, results, Try.results80]
theorem Try.catchT_idle (q : Addr) (w : World) :
    CallsD Try.prog 80 #[.pointer (some q)] .returning w fun e u' w' => e = .returned (.tuple #[]) ∧ u' = .returning ∧ w' = w := by
  have hne := Try.nil_nil
  refine callsD_of_wpS Try.func80 rfl fun c₀ cs hu => ?_
  apply wpS_seq
  apply wpS_region
  simp [wpOpsS, go_sem, recoverD, hu, Try.ntmps80, Exit.thenS]
  apply wpS_seq
  apply wpS_region
  simp [wpOpsS, go_sem, Exit.thenS, hne]
  refine wpS_cond (t := false) (by simp [Act.eval, Array.replicate]) ?_
  simp only [Bool.false_eq_true, if_false]
  refine wpS_of_wp (wp_skip ?_)
  cases c₀
  simp_all [bodyPostS, results, Try.results80]
set_option maxHeartbeats 4000000 in
theorem Try.caughtT_any (f : FuncId) (fc : Array Value) (w : World) (G : Tb → Prop) (B : Int → Prop) (eg : ∀ args w, (callFunc f args).run Try.prog w = .ok (.enter f args) w)
    (hw : Calls Try.prog f fc ((w.alloc (.cells (tc tZ) 49)).alloc (.cells #[.int .i64 0] 27)) (fun e w' => Below ((w.alloc (.cells (tc tZ) 49)).alloc (.cells #[.int .i64 0] 27)).heap.size ((w.alloc (.cells (tc tZ) 49)).alloc (.cells #[.int .i64 0] 27)) w' ∧ ((∃ T : Tb, e = .returned (.agg (tc T)) ∧ T.ws.length = 34 ∧ G T) ∨ ∃ q, e = .panicked (panicA q) ∧ B q))) :
    Calls Try.prog 55 #[.func (.func f) #[] fc] w fun e w' => Below w.heap.size w w' ∧ ((∃ T : Tb, e = .returned (.tuple #[.agg (tc T), .int .i64 0]) ∧ T.ws.length = 34 ∧ G T) ∨ ∃ q, e = .returned (.tuple #[.agg (tc tZ), .int .i64 q]) ∧ B q) := by
  have hmf : ∀ (fn : Fn) (first cap : Array Value) (w : World), (Instr.makeFunc fn first cap).run Try.prog w = .ok (.func fn first cap) w := fun _ _ _ _ => rfl
  have HW := Lib.hid hw
  have HN := Lib.hid (rows_new2 w (.cells (tc tZ) 49) 27 #[.int .i64 0])
  have HN1 := Lib.hid ((Rows8.new w 49 (tc tZ)).alloc (.cells #[.int .i64 0] 27))
  have HA : Hid (Below w.heap.size w ((w.alloc (.cells (tc tZ) 49)).alloc (.cells #[.int .i64 0] 27))) := Lib.hid ((Rows8.newB).alloc (by simp) _)
  clear hw
  go_enter_defers Try.func55, Try.ntmps55
  go_wp2_with fail
  refine HW.out.mono ?_
  rintro e W1 ⟨hB, hq⟩
  have HR := Lib.hid (HN.out.below hB HN.out.lt)
  have HT1 := Lib.hid (HN1.out.below hB HN1.out.lt)
  have HB := Lib.hid (HA.out.trans (hB.mono HA.out.size))
  clear hB HW HN HN1 HA
  rcases hq with ⟨T, rfl, hTl, hg⟩ | ⟨q, rfl, hg⟩
  · have HG := Lib.hid (And.intro hTl hg)
    have hst := run_storeVar_row (P := Try.prog) W1 w.heap.size 49 49 (tc tZ) (tc T) HT1.out (by rw [tc_size T hTl]; exact Try.infoTable) (by rw [tc_size T hTl, tc_size tZ rfl]) (tc_all T)
    have hrw := setRow_heap W1 w.heap.size (tc tZ) (tc T) 49 (0, 0) HT1.out
    have hre : Rows8 (W1.setRow w.heap.size (tc T)) (w.heap.size + 1) 27 #[.int .i64 0] := (setRow_other W1 w.heap.size (w.heap.size + 1) (tc T) (by omega)).trans HR.out
    have hbb := below_setRow HB.out (Nat.le_refl _) (tc T)
    obtain ⟨X2, hX2⟩ : ∃ X, X = W1.setRow w.heap.size (tc T) := ⟨_, rfl⟩
    rw [← hX2] at hst hrw hre hbb
    have HST := Lib.hid hst
    have c0 : X2.cell? ⟨w.heap.size + 1, 0, none⟩ = some (.int .i64 0) := hre.cell 0
    have f0 := hre.frozen 0
    have l0 := hre.lt
    have t2 := hre.set 0 (.int .i64 0)
    simp only [List.setIfInBounds_toArray, List.set_cons_zero] at t2
    have HT := Lib.hid t2
    have HT3 := Lib.hid (Rows8.setOther (show Rows8 X2 w.heap.size 49 (tc T) from hrw) (a := ⟨w.heap.size + 1, 0, none⟩) (by simp) (.int .i64 0))
    have HBB := Lib.hid hbb
    clear t2 hst hrw hre hbb hX2 hTl hg HB
    go_wp2_with (refine wpList_storeVar rfl _ _ _ rfl _ _ rfl rfl HST.out ?_)
    refine leaves_cons (f := 80) (args := #[.pointer (some ⟨w.heap.size + 1, 0, none⟩)]) (by simp) (by simp [go_sem]) ?_
    refine (Try.catchT_idle ⟨w.heap.size + 1, 0, none⟩ _).mono ?_
    rintro e u' w'' ⟨rfl, rfl, rfl⟩
    refine ⟨_, results_cc rfl _ _ (w.heap.size) (w.heap.size + 1) _ _ rfl rfl (Try.load_table HG.out.1 HT3.out) (load_one HT.out (by kernel_rfl)), ?_⟩
    exact ⟨HBB.out.setCell (p := ⟨w.heap.size + 1, 0, none⟩) (by simp) _, .inl ⟨T, rfl, HG.out⟩⟩
  · have hcatch := Try.catchT_panicking (w.heap.size + 1) q _ [] W1 HR.out
    have HCT := Lib.hid hcatch
    have t2 := HR.out.set 0 (.int .i64 q)
    simp only [List.setIfInBounds_toArray, List.set_cons_zero] at t2
    have HT := Lib.hid t2
    have HT3 := Lib.hid (HT1.out.setOther (a := ⟨w.heap.size + 1, 0, none⟩) (by simp) (.int .i64 q))
    have HG := Lib.hid hg
    clear hcatch t2 hg
    unfold panicA
    go_wp2_with fail
    refine leaves_cons (f := 80) (args := #[.pointer (some ⟨w.heap.size + 1, 0, none⟩)]) (by simp) (by simp [go_sem]) ?_
    refine HCT.out.mono ?_
    rintro e u' w'' ⟨rfl, rfl, rfl⟩
    refine ⟨_, results_cc rfl _ _ (w.heap.size) (w.heap.size + 1) _ _ rfl rfl (Try.load_table rfl HT3.out) (load_one HT.out (by kernel_rfl)), ?_⟩
    exact ⟨HB.out.setCell (by simp) _, .inr ⟨q, rfl, HG.out⟩⟩
/-- Are these a table's words? -/
def okR (ws : List Int) : Bool := decide (ws.length = 40) && okTw (wd ws 1).toNat (wd ws 2).toNat (wd ws 3).toNat ws
def tabR (ws : List Int) : Tb := tabOf (wd ws 1).toNat (wd ws 2).toNat (wd ws 3).toNat ws
theorem tabR_len (ws : List Int) (h : ws.length = 40) : (tabR ws).ws.length = 34 := by simp [tabR, tabOf, h]
theorem wd_nat {ws : List Int} (h : okW ws) (i : Nat) : wd ws i = ((wd ws i).toNat : Int) ∧ (wd ws i).toNat < 18446744073709551616 := by
  have := okW_wd h i
  omega
set_option maxHeartbeats 2000000 in
theorem Try.Table1_any (a : Option Addr) (n c : Nat) (ws : List Int) (hok : okW ws) (Bx : Nat) (w : World) (hw : WordsAt w (.slice a n c) ws) (hr : Rows8 w Bx 24 #[.slice a n c]) : Calls Try.prog 56 #[.pointer (some ⟨Bx, 0, none⟩)] w fun e w' =>
    Below w.heap.size w w' ∧ ((∃ T : Tb, e = .returned (.agg (tc T)) ∧ T.ws.length = 34 ∧ (okR ws = true ∧ T = tabR ws)) ∨ ∃ q, e = .panicked (panicA q) ∧ (q = 260 ∧ okR ws = false)) := by
  obtain ⟨W1, hW1⟩ : ∃ W, W = w.alloc (.cells (tc tZ) 49) := ⟨_, rfl⟩
  have hB1 : Below w.heap.size w W1 := by rw [hW1]; exact Rows8.newB
  have HT : Hid (Rows8 W1 w.heap.size 49 (tc tZ)) := Lib.hid (by rw [hW1]; exact Rows8.new _ _ _)
  have c0 : W1.cell? ⟨Bx, 0, none⟩ = some (.slice a n c) := (hr.below hB1 hr.lt).cell 0
  obtain ⟨hn1, hn2, hn3⟩ := words_len hw
  have HW := Lib.hid (RowAt.below hw hB1)
  have HB := Lib.hid hB1
  clear hr hw hB1
  by_cases hn : n = 40
  · obtain ⟨B, off, rfl⟩ := words_some HW.out (by omega)
    have HQ := Lib.hid (Try.readerOf_yes B off n c hn W1)
    have HL : Hid (ws.length = 40) := Lib.hid (by omega)
    have HN := Lib.hid hn
    have HO := Lib.hid hok
    clear hn1 hn2 hn3 hn hok
    go_enter Try.func56, Try.ntmps56
    go_upto_region 1 with fail
    change Code.wp _ _ _ _ (w.alloc (.cells (tc tZ) 49))
    rw [← hW1]
    clear hW1
    go_wp2_with fail
    refine HQ.out.mono ?_
    rintro e W2 ⟨Br, rfl, hfar, hrd, hC⟩
    have n1 := wd_nat HO.out 1
    have n2 := wd_nat HO.out 2
    have n3 := wd_nat HO.out 3
    have HQ2 := Lib.hid (Try.table_any W1 W2 Br B off n c ws (wd ws 1).toNat (wd ws 2).toNat (wd ws 3).toNat HW.out HN.out n1.2 n1.1 n2.1 n3.1 hrd hfar hC)
    clear hfar hrd hC HQ n1 n2 n3 c0
    go_wp2_with fail
    refine HQ2.out.mono ?_
    rintro e W3 (⟨h9, rfl, hC⟩ | ⟨h9, rfl, hC⟩)
    · have HT3 := Lib.hid (HT.out.below hC HT.out.lt)
      have HB3 := Lib.hid (HB.out.trans (hC.mono HB.out.size))
      have H9 := Lib.hid h9
      obtain ⟨T, hT⟩ : ∃ T, T = tabR ws := ⟨_, rfl⟩
      have hTl : T.ws.length = 34 := by rw [hT]; exact tabR_len ws HL.out
      have hst := run_storeVar_row (P := Try.prog) W3 w.heap.size 49 49 (tc tZ) (tc T) HT3.out (by rw [tc_size T hTl]; exact Try.infoTable) (by rw [tc_size T hTl, tc_size tZ rfl]) (tc_all T)
      have hrw := setRow_heap W3 w.heap.size (tc tZ) (tc T) 49 (0, 0) HT3.out
      have hbb := below_setRow HB3.out (Nat.le_refl _) (tc T)
      obtain ⟨X2, hX2⟩ : ∃ X, X = W3.setRow w.heap.size (tc T) := ⟨_, rfl⟩
      rw [← hX2] at hst hrw hbb
      have HTT := Lib.hid (show Rows8 X2 w.heap.size 49 (tc T) from hrw)
      rw [hT] at hst
      have HST := Lib.hid hst
      have HTE := Lib.hid (And.intro hTl hT)
      have HBB := Lib.hid hbb
      clear hC h9 HQ2 hst hrw hbb hX2 hTl hT HT HB3
      go_wp2_with (refine wpList_storeVar rfl _ _ _ rfl _ _ rfl rfl HST.out ?_)
      refine bodyPost_ret (results_c1 rfl _ _ (w.heap.size) _ rfl (Try.load_table HTE.out.1 HTT.out)) rfl ?_
      exact ⟨HBB.out, .inl ⟨T, rfl, HTE.out.1, by unfold okR; rw [decide_eq_true HL.out, H9.out]; rfl, HTE.out.2⟩⟩
    · have HB3 := Lib.hid (HB.out.trans (hC.mono HB.out.size))
      have H9 := Lib.hid h9
      clear hC h9 HQ2
      unfold panicA
      go_wp2_with fail
      exact ⟨(by first | rfl | trivial), HB3.out, .inr ⟨260, rfl, rfl, by unfold okR; rw [H9.out, Bool.and_false]⟩⟩
  · have HQ := Lib.hid (Try.readerOf_no a n c hn (by omega) W1)
    have HL : Hid (ws.length ≠ 40) := Lib.hid (by omega)
    clear hn1 hn2 hn3 hn hok
    go_enter Try.func56, Try.ntmps56
    go_upto_region 1 with fail
    change Code.wp _ _ _ _ (w.alloc (.cells (tc tZ) 49))
    rw [← hW1]
    clear hW1
    go_wp2_with fail
    refine HQ.out.mono ?_
    rintro e W2 ⟨rfl, hC⟩
    have HB3 := Lib.hid (HB.out.trans (hC.mono HB.out.size))
    clear hC HQ
    unfold panicA
    go_wp2_with fail
    exact ⟨(by first | rfl | trivial), HB3.out, .inr ⟨260, rfl, rfl, by unfold okR; rw [decide_eq_false HL.out]; rfl⟩⟩
set_option maxHeartbeats 2000000 in
theorem Try.Table_any (a : Option Addr) (n c : Nat) (ws : List Int) (hok : okW ws) (w : World) (hw : WordsAt w (.slice a n c) ws) : Calls Try.prog 26 #[.slice a n c] w fun e w' =>
    ((okR ws = true ∧ e = .returned (.tuple #[.agg (tc (tabR ws)), .int .i64 0])) ∨ (okR ws = false ∧ e = .returned (.tuple #[.agg (tc tZ), .int .i64 260]))) ∧ Below w.heap.size w w' := by
  obtain ⟨W0, hW0⟩ : ∃ W, W = (w.alloc (.cells #[.slice a n c] 24)).alloc (.cells (tc tZ) 49) := ⟨_, rfl⟩
  have hB0 : Below w.heap.size w W0 := by rw [hW0]; exact (Rows8.newB).alloc (by simp) _
  have r0 : Rows8 W0 w.heap.size 24 #[.slice a n c] := by rw [hW0]; exact (Rows8.new _ _ _).alloc _
  have HR : Hid (Rows8 W0 (w.heap.size + 1) 49 (tc tZ)) := Lib.hid (by rw [hW0]; exact rows_new2 _ _ _ _)
  have hT := Try.caughtT_any 56 #[.pointer (some ⟨w.heap.size, 0, none⟩)] W0 (fun T => okR ws = true ∧ T = tabR ws) (fun q => q = 260 ∧ okR ws = false) (fun _ _ => by kernel_rfl)
    (Try.Table1_any a n c ws hok _ _ ((RowAt.below hw hB0).below ((Rows8.newB).alloc (by simp) _)) ((r0.alloc _).alloc _))
  have HT := Lib.hid hT
  have HB := Lib.hid hB0
  clear hT r0 hB0 hok hw
  go_enter Try.func26, Try.ntmps26
  go_upto_region 1 with fail
  change Code.wp _ _ _ _ ((w.alloc (.cells #[.slice a n c] 24)).alloc (.cells (tc tZ) 49))
  rw [← hW0]
  clear hW0
  go_wp2_with fail
  refine HT.out.mono ?_
  rintro e W1 ⟨hC, ⟨T, rfl, hTl, ho, hT⟩ | ⟨q, rfl, rfl, ho⟩⟩
  · have HR := Lib.hid (HR.out.below hC HR.out.lt)
    have HB := Lib.hid (HB.out.trans (hC.mono HB.out.size))
    have hst := run_storeVar_row (P := Try.prog) W1 (w.heap.size + 1) 49 49 (tc tZ) (tc T) HR.out (by rw [tc_size T hTl]; exact Try.infoTable) (by rw [tc_size T hTl, tc_size tZ rfl]) (tc_all T)
    have hrw := setRow_heap W1 (w.heap.size + 1) (tc tZ) (tc T) 49 (0, 0) HR.out
    have hbb := below_setRow HB.out (Nat.le_succ w.heap.size) (tc T)
    obtain ⟨X2, hX2⟩ : ∃ X, X = W1.setRow (w.heap.size + 1) (tc T) := ⟨_, rfl⟩
    rw [← hX2] at hst hrw hbb
    have HTT := Lib.hid (show Rows8 X2 (w.heap.size + 1) 49 (tc T) from hrw)
    have HST := Lib.hid hst
    have HBB := Lib.hid hbb
    have HO := Lib.hid (And.intro ho (And.intro hT hTl))
    clear hC hst hrw hbb hX2 ho hT hTl HT HR
    go_wp2_with (refine wpList_storeVar rfl _ _ _ rfl _ _ rfl rfl HST.out ?_)
    refine bodyPost_ret (results_ct1 rfl _ _ (w.heap.size + 1) _ _ rfl rfl (Try.load_table HO.out.2.2 HTT.out)) rfl ?_
    exact ⟨.inl ⟨HO.out.1, by rw [← HO.out.2.1]; rfl⟩, HBB.out⟩
  · have HR := Lib.hid (HR.out.below hC HR.out.lt)
    have HB := Lib.hid (HB.out.trans (hC.mono HB.out.size))
    have hst := run_storeVar_row (P := Try.prog) W1 (w.heap.size + 1) 49 49 (tc tZ) (tc tZ) HR.out (by rw [tc_size tZ rfl]; exact Try.infoTable) rfl (tc_all tZ)
    have hrw := setRow_heap W1 (w.heap.size + 1) (tc tZ) (tc tZ) 49 (0, 0) HR.out
    have hbb := below_setRow HB.out (Nat.le_succ w.heap.size) (tc tZ)
    obtain ⟨X2, hX2⟩ : ∃ X, X = W1.setRow (w.heap.size + 1) (tc tZ) := ⟨_, rfl⟩
    rw [← hX2] at hst hrw hbb
    have HTT := Lib.hid (show Rows8 X2 (w.heap.size + 1) 49 (tc tZ) from hrw)
    have HST := Lib.hid hst
    have HBB := Lib.hid hbb
    have HO := Lib.hid ho
    clear hC hst hrw hbb hX2 ho HT HR
    go_wp2_with (refine wpList_storeVar rfl _ _ _ rfl _ _ rfl rfl HST.out ?_)
    refine bodyPost_ret (results_ct1 rfl _ _ (w.heap.size + 1) _ _ rfl rfl (Try.load_table rfl HTT.out)) rfl ?_
    exact ⟨.inr ⟨HO.out, rfl⟩, HBB.out⟩
end Go.Proofs
