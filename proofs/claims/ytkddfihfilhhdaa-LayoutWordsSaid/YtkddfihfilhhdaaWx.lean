/- Layout: Dir. -/
import Derived.Test.YtkddfihfilhhdaaWw
namespace Go.Proofs
set_option maxRecDepth 100000
open Go.RowKit Go.Shelf
attribute [local go_sem] Oper.semAt_some

theorem owns_low {T : TypeId} {n₀ b j : Nat} {l : List Pr} {v : Value} {W : World} (o : OwnsP T n₀ l v W) (hb : b < n₀) (u : Value) : OwnsP T n₀ l v (W.setCell ⟨b, j, none⟩ u) := by
  refine ownsRow_setCell_other o (a := ⟨b, j, none⟩) ?_ u
  rcases o.2 with ⟨rfl, _⟩ | ⟨g, cap, cur, rfl, hg, _⟩
  · simp [Value.ownBlock]
  · simp [Value.ownBlock]
    omega
theorem Try.dirOf_no (a : Option Addr) (n c : Nat) (hn : n ≠ 40) (h5 : n ≤ maxLen) (w : World) : Calls Try.prog 66 #[.slice a n c] w fun e w' => e = .panicked (panicA 261) ∧ Below w.heap.size w w' := by
  obtain ⟨W0, hW0⟩ : ∃ W, W = w.alloc (.cells #[.int .i64 0, .slice none 0 0] 64) := ⟨_, rfl⟩
  have HB : Hid (Below w.heap.size w W0) := Lib.hid (by rw [hW0]; exact Rows8.newB)
  have HQ := Lib.hid (Try.rowOf_any a n c 261 W0 h5)
  have HN := Lib.hid hn
  clear hn h5
  refine (callsIn_wide (n := 9)).1 ?_
  refine callsIn_of_wp_marks Try.func66 rfl trivial ?_ rfl
  simp only [Try.ntmps66, List.size_toArray, List.length_cons, List.length_nil, Nat.reduceAdd, Nat.reduceSub, Array.replicate_succ, Array.replicate_zero, List.push_toArray, List.append_toArray, List.nil_append, List.cons_append]
  gi_wp2_with fail
  rw [← hW0]
  clear hW0
  refine ⟨trivial, ?_⟩
  refine (callsIn_wide.2 HQ.out).mono ?_
  rintro e W1 ⟨hC, ⟨h, _⟩ | ⟨_, rfl⟩⟩
  · exact absurd h HN.out
  have HB := Lib.hid (HB.out.trans (hC.mono HB.out.size))
  clear hC HQ
  exact ⟨rfl, HB.out⟩
/-- Are these a directory's words? -/
def okDir (ws : List Int) : Bool := decide (ws.length = 40) && okDw (wd ws 0).toNat ws
set_option maxHeartbeats 2000000 in
theorem Try.Dir1_any (a : Option Addr) (n c : Nat) (ws : List Int) (hok : okW ws) (d : Nat) (hd0 : d = (wd ws 0).toNat) (Bx : Nat) (w : World) (hw : WordsAt w (.slice a n c) ws) (hr : Rows8 w Bx 24 #[.slice a n c]) : Calls Try.prog 65 #[.pointer (some ⟨Bx, 0, none⟩)] w fun e w' =>
    Below w.heap.size w w' ∧ ((∃ (x : Int) (a1 : Option Addr) (n1 c1 : Nat), e = .returned (.agg #[.int .i64 x, .slice a1 n1 c1]) ∧ (x = (d : Nat) ∧ OwnsP 36 w.heap.size (entsDw d ws) (.slice a1 n1 c1) w' ∧ okDir ws = true)) ∨ ∃ q, e = .panicked (panicA q) ∧ (q = 261 ∧ okDir ws = false)) := by
  obtain ⟨W1, hW1⟩ : ∃ W, W = w.alloc (.cells #[.int .i64 0, .slice none 0 0] 64) := ⟨_, rfl⟩
  have hB1 : Below w.heap.size w W1 := by rw [hW1]; exact Rows8.newB
  have hs1 : W1.heap.size = w.heap.size + 1 := by rw [hW1]; simp
  have HT : Hid (Rows8 W1 w.heap.size 64 #[.int .i64 0, .slice none 0 0]) := Lib.hid (by rw [hW1]; exact Rows8.new _ _ _)
  have c0 : W1.cell? ⟨Bx, 0, none⟩ = some (.slice a n c) := (hr.below hB1 hr.lt).cell 0
  obtain ⟨hn1, hn2, hn3⟩ := words_len hw
  have HW := Lib.hid (RowAt.below hw hB1)
  have HB := Lib.hid hB1
  have HS1 := Lib.hid hs1
  clear hr hw hB1 hs1
  by_cases hn : n = 40
  · obtain ⟨B, off, rfl⟩ := words_some HW.out (by omega)
    subst hn
    have hdz : wd ws 0 = (d : Nat) := by have := okW_wd hok 0; omega
    have HQ := Lib.hid (Try.dirOf_yes B off c ws d hok hdz W1 HW.out)
    have HL : Hid (ws.length = 40) := Lib.hid (by omega)
    have HD0 := Lib.hid hd0
    clear hn1 hn2 hn3 hok hdz hd0
    go_enter Try.func65, Try.ntmps65
    go_upto_region 1 with fail
    rw [← hW1]
    clear hW1
    go_wp2_with fail
    refine HQ.out.mono ?_
    rintro e W2 ⟨hC, ⟨a1, n1, c1, rfl, hown, ho⟩ | ⟨q, rfl, rfl, ho⟩⟩
    · have HT2 := Lib.hid (HT.out.below hC HT.out.lt)
      have HB2 := Lib.hid (HB.out.trans (hC.mono HB.out.size))
      have HOW := Lib.hid hown
      have HOK := Lib.hid ho
      clear hC hown ho HQ c0 HT HB
      have z0 : W2.cell? ⟨w.heap.size, 0, none⟩ = some (.int .i64 0) := HT2.out.cell 0
      have z1 : W2.cell? ⟨w.heap.size, 1, none⟩ = some (.slice none 0 0) := HT2.out.cell 1
      have f0 := HT2.out.frozen 0
      have f1 := HT2.out.frozen 1
      have l0 := HT2.out.lt
      have HT3 := Lib.hid (HT2.out.set2 (.int .i64 (d : Nat)) (.slice a1 n1 c1))
      go_wp2_with fail
      refine bodyPost_ret (results_c1 rfl _ _ (w.heap.size) _ rfl (load_row HT3.out Try.underlying64 rfl (by kernel_rfl))) rfl ?_
      refine ⟨(HB2.out.setCell (Nat.le_refl _) _).setCell (Nat.le_refl _) _, .inl ⟨_, a1, n1, c1, rfl, rfl, ?_, ?_⟩⟩
      · exact OwnsP.mono (owns_low (owns_low HOW.out (by have := HS1.out; omega) _) (by have := HS1.out; omega) _) (by have := HS1.out; omega)
      · unfold okDir
        rw [decide_eq_true HL.out, ← HD0.out, HOK.out]
        rfl
    · have HB2 := Lib.hid (HB.out.trans (hC.mono HB.out.size))
      have HOK := Lib.hid ho
      clear hC ho HQ c0 HT HB
      unfold panicA
      go_wp2_with fail
      exact ⟨(by first | rfl | trivial), HB2.out, .inr ⟨261, rfl, rfl, by unfold okDir; rw [← HD0.out, HOK.out, Bool.and_false]⟩⟩
  · have HQ := Lib.hid (Try.dirOf_no a n c hn (by omega) W1)
    have HL : Hid (ws.length ≠ 40) := Lib.hid (by omega)
    clear hn1 hn2 hn3 hn hok hd0
    go_enter Try.func65, Try.ntmps65
    go_upto_region 1 with fail
    rw [← hW1]
    clear hW1
    go_wp2_with fail
    refine HQ.out.mono ?_
    rintro e W2 ⟨rfl, hC⟩
    have HB3 := Lib.hid (HB.out.trans (hC.mono HB.out.size))
    clear hC HQ
    unfold panicA
    go_wp2_with fail
    exact ⟨(by first | rfl | trivial), HB3.out, .inr ⟨261, rfl, rfl, by unfold okDir; rw [decide_eq_false HL.out]; rfl⟩⟩
/-- What Dir tells. -/
def DrQ (d : Nat) (ws : List Int) (n₀ : Nat) (e : Ending) (w : World) : Prop := (okDir ws = true ∧ ∃ (a : Option Addr) (n c : Nat), e = .returned (.tuple #[.agg #[.int .i64 (d : Nat), .slice a n c], .int .i64 0]) ∧ OwnsP 36 n₀ (entsDw d ws) (.slice a n c) w) ∨ (okDir ws = false ∧ e = .returned (.tuple #[.agg #[.int .i64 0, .slice none 0 0], .int .i64 261]))
set_option maxHeartbeats 2000000 in
theorem Try.Dir_any (a : Option Addr) (n c : Nat) (ws : List Int) (hok : okW ws) (d : Nat) (hd0 : d = (wd ws 0).toNat) (w : World) (hw : WordsAt w (.slice a n c) ws) : Calls Try.prog 34 #[.slice a n c] w fun e w' => DrQ d ws w.heap.size e w' ∧ Below w.heap.size w w' := by
  obtain ⟨W0, hW0⟩ : ∃ W, W = ((w.alloc (.cells #[.slice a n c] 24)).alloc (.cells #[.int .i64 0, .slice none 0 0] 64)) := ⟨_, rfl⟩
  have hB0 : Below w.heap.size w W0 := by rw [hW0]; exact (Rows8.newB).alloc (by simp) _
  have hs0 : W0.heap.size = w.heap.size + 2 := by rw [hW0]; simp
  have r0 : Rows8 W0 w.heap.size 24 #[.slice a n c] := by rw [hW0]; exact (Rows8.new _ _ _).alloc _
  have HR : Hid (Rows8 W0 (w.heap.size + 1) 64 #[.int .i64 0, .slice none 0 0]) := Lib.hid (by rw [hW0]; exact rows_new2 _ _ _ _)
  have hT := Try.caughtD_any 65 #[.pointer (some ⟨w.heap.size, 0, none⟩)] W0 (fun v W => ∃ (a1 : Option Addr) (n1 c1 : Nat), v = .agg #[.int .i64 (d : Nat), .slice a1 n1 c1] ∧ OwnsP 36 (W0.heap.size + 2) (entsDw d ws) (.slice a1 n1 c1) W ∧ okDir ws = true) (fun q => q = 261 ∧ okDir ws = false) (fun _ _ => by kernel_rfl)
    ((Try.Dir1_any a n c ws hok d hd0 _ _ ((RowAt.below hw hB0).below ((Rows8.newB).alloc (by simp) _)) ((r0.alloc _).alloc _)).mono (by
      rintro e w' ⟨hC, ⟨x, a1, n1, c1, rfl, rfl, ho, hk⟩ | h⟩
      · exact ⟨hC, .inl ⟨_, a1, n1, c1, rfl, a1, n1, c1, rfl, by simpa using ho, hk⟩⟩
      · exact ⟨hC, .inr h⟩)) (by
      rintro x W k j u ⟨a1, n1, c1, hx, ho, hk⟩ hlt
      exact ⟨a1, n1, c1, hx, owns_low ho (by omega) u, hk⟩)
  have HT := Lib.hid hT
  have HB := Lib.hid hB0
  have HS0 := Lib.hid hs0
  clear hT r0 hB0 hok hw hs0 hd0
  go_enter Try.func34, Try.ntmps34
  go_upto_region 1 with fail
  rw [← hW0]
  clear hW0
  go_wp2_with fail
  refine HT.out.mono ?_
  rintro e W1 ⟨hC, ⟨x, a9, n9, c9, rfl, a1, n1, c1, hv, ho, hk⟩ | ⟨q, rfl, rfl, ho⟩⟩
  · have HV := Lib.hid hv
    have HR := Lib.hid (HR.out.below hC HR.out.lt)
    have HB := Lib.hid (HB.out.trans (hC.mono HB.out.size))
    have HO := Lib.hid (And.intro ho hk)
    clear hC ho hk HT hv
    have z0 : W1.cell? ⟨w.heap.size + 1, 0, none⟩ = some (.int .i64 0) := HR.out.cell 0
    have z1 : W1.cell? ⟨w.heap.size + 1, 1, none⟩ = some (.slice none 0 0) := HR.out.cell 1
    have f0 := HR.out.frozen 0
    have f1 := HR.out.frozen 1
    have l0 := HR.out.lt
    have HT := Lib.hid (HR.out.set2 (.int .i64 x) (.slice a9 n9 c9))
    go_wp2_with fail
    refine bodyPost_ret (results_ct1 rfl _ _ (w.heap.size + 1) _ _ rfl rfl (load_row HT.out Try.underlying64 rfl (by kernel_rfl))) rfl ?_
    refine ⟨.inl ⟨HO.out.2, a1, n1, c1, by rw [← HV.out]; rfl, ?_⟩, (HB.out.setCell (p := ⟨w.heap.size + 1, 0, none⟩) (by simp) _).setCell (p := ⟨w.heap.size + 1, 1, none⟩) (by simp) _⟩
    exact OwnsP.mono (owns_low (owns_low HO.out.1 (by have := HS0.out; omega) _) (by have := HS0.out; omega) _) (by have := HS0.out; omega)
  · have HR := Lib.hid (HR.out.below hC HR.out.lt)
    have HB := Lib.hid (HB.out.trans (hC.mono HB.out.size))
    have HO := Lib.hid ho
    clear hC ho HT
    have z0 : W1.cell? ⟨w.heap.size + 1, 0, none⟩ = some (.int .i64 0) := HR.out.cell 0
    have z1 : W1.cell? ⟨w.heap.size + 1, 1, none⟩ = some (.slice none 0 0) := HR.out.cell 1
    have f0 := HR.out.frozen 0
    have f1 := HR.out.frozen 1
    have l0 := HR.out.lt
    have HT := Lib.hid (HR.out.set2 (.int .i64 0) (.slice none 0 0))
    go_wp2_with fail
    refine bodyPost_ret (results_ct1 rfl _ _ (w.heap.size + 1) _ _ rfl rfl (load_row HT.out Try.underlying64 rfl (by kernel_rfl))) rfl ?_
    exact ⟨.inr ⟨HO.out, rfl⟩, (HB.out.setCell (p := ⟨w.heap.size + 1, 0, none⟩) (by simp) _).setCell (p := ⟨w.heap.size + 1, 1, none⟩) (by simp) _⟩
end Go.Proofs
