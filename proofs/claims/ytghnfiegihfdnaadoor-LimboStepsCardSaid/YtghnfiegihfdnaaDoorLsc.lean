/- Limbo: the reference: Take. -/
import Derived.Test.YtghnfiegihfdnaaDoorLsb
namespace Go.Proofs
set_option maxRecDepth 100000
open Go.RowKit Go.Shelf
attribute [local go_sem] Oper.semAt_some

theorem exec_slice1 {P : Program} {ev : Operand → Value} {o : Oper} {w : World} (t : TypeId) (x lo : Operand) (ho : o.op = .slice t x (some lo) none none) (v : Value) (h : (Instr.sliceAt t (ev x) (some (ev lo)) none none).run P w = .ok v w) : (execOp ev o).run P w = .ok (.value v) w := by
  unfold execOp
  simp only [ho, Option.map_some, Option.map_none, Sem.run_bind, h, Result.andThen_ok, Sem.run_pure]
theorem cut1 {n₀ : Nat} {z : Pr} {l : List Pr} {b off m c : Nat} {W : World} (h : OwnE n₀ (z :: l) (.slice (some ⟨b, off, none⟩) (m + 1) (c + 1)) W) : OwnE n₀ l (.slice (some ⟨b, if c = 0 then off else off + 2, none⟩) m c) W := by
  have hf := h.form
  obtain ⟨_, _, e, h1, h2⟩ := hf
  injection e with e1 e2 e3
  simp only [List.length_cons] at e2 h1
  obtain rfl : m = l.length := by omega
  by_cases hc : c = 0
  · subst hc
    obtain rfl : l = [] := List.eq_nil_of_length_eq_zero (by omega)
    rw [if_pos rfl]
    exact h.cut0
  · rw [if_neg hc]
    exact h.cut c (Nat.le_refl _) (by omega)
theorem slice1 (x : World) (b off m c : Nat) : (Instr.sliceAt 23 (.slice (some ⟨b, off, none⟩) (m + 1) (c + 1)) (some (.int .i64 1)) none none).run Tryd.prog x = .ok (.slice (some ⟨b, if c = 0 then off else off + 2, none⟩) m c) x := by
  rw [run_sliceAt_slice _ _ _ _ _ _ Tryd.underlying23, run_slice_l x 23 (some ⟨b, off, none⟩) (m + 1) (c + 1) Tryd.underlying23 .i64 1 (by omega) (by omega)]
  by_cases hc : c = 0
  · simp [go_sem, sliced, hc]
  · simp [go_sem, sliced, hc]
theorem takR_at {E : Nat} {r : Rw3} {z : Pr} {t : List Pr} (hz : readyL E r = z :: t) (k : Nat) (hk : k < 3) : takR E r k = updL r ((E + 1) % 3) t k := by
  unfold takR
  rw [hz]
  by_cases e : k = (E + 1) % 3
  · rw [e, updL_self, updL_self]; rfl
  · rw [updL_ne _ _ e, updL_ne _ _ e, updL_ne _ _ (by omega)]
theorem tryTakR {E : Nat} {r : Rw3} (hr : rightL E r = true) : (readyL E r = [] → tryL E r (takN E r) = (4, 0, fun _ => [])) ∧ (readyL E r ≠ [] → tryL E r (takN E r) = (0, E, takR E r)) := by
  refine ⟨fun h => ?_, fun h => ?_⟩
  · unfold tryL takN
    rw [hr, if_pos rfl, if_pos h]
    rfl
  · unfold tryL takN
    rw [hr, if_pos rfl, if_neg h, if_pos rfl]
theorem pAt_cutR {W : World} {b off m d : Nat} {z : Pr} {t : List Pr} (h : PAt W (.slice (some ⟨b, off, none⟩) (m + 1) (d + 1)) (z :: t)) : PAt W (.slice (some ⟨b, if d = 0 then off else off + 2, none⟩) m d) t := by
  have hl := pAt_len h
  simp only [List.length_cons] at hl
  by_cases hd : d = 0
  · subst hd
    obtain rfl : m = 0 := by omega
    obtain rfl : t = [] := List.eq_nil_of_length_eq_zero (by omega)
    rw [if_pos rfl]
    exact ⟨rfl, _, 0, rfl, Nat.le_refl _, Nat.zero_le _, (fun e => by cases e), fun j hj => absurd hj (by simp [pVals])⟩
  · rw [if_neg hd]
    exact pAt_tail h
theorem own_lowT {n₀ : Nat} {l : List Pr} {v : Value} {W : World} (h : OwnsP tE n₀ l v W) {B : Nat} (hB : B < n₀) (o : Nat) (x : Value) : OwnsP tE n₀ l v (W.setCell ⟨B, o, none⟩ x) := by
  refine ⟨h.1, ?_⟩
  rcases h.2 with h2 | ⟨g, cap, cur, e, hg, hh, h3⟩
  · exact .inl h2
  · exact .inr ⟨g, cap, cur, e, hg, (Below.heap_setCell W ⟨B, o, none⟩ x g (by show g ≠ B; omega)).trans hh, h3⟩
theorem lat_cong {W : World} {s : Ls} {r q : Rw3} (h : LAt W s r) (e : ∀ k, k < 3 → q k = r k) : LAt W s q := fun k hk => by rw [e k hk]; exact h k hk
theorem rows2 {W : World} {B : Nat} {t : TypeId} {u0 u1 : Value} (h : Rows8 W B t #[u0, u1]) (v0 v1 : Value) : Rows8 ((W.setCell ⟨B, 0, none⟩ v0).setCell ⟨B, 1, none⟩ v1) B t #[v0, v1] := by
  have h1 := (h.set 0 v0).set 1 v1
  simp only [List.setIfInBounds_toArray, List.set_cons_zero, List.set_cons_succ] at h1
  exact h1
/-- A limbo that may share its rows, an entry, and an error. -/
def RefTakQ (m : Nat) (s0 : Ls) (r0 : Rw3) (T : Rl) (e : Ending) (w' : World) : Prop := ∃ s : Ls, e = .returned (.tuple #[.agg #[.int .u64 (T.2.1 : Nat), .slice (s.a 0) (s.n 0) (s.c 0), .slice (s.a 1) (s.n 1) (s.c 1), .slice (s.a 2) (s.n 2) (s.c 2)], .agg #[.int .i64 ((T.2.2 3).headD (0, 0)).1, .int .u64 (((T.2.2 3).headD (0, 0)).2 : Nat)], .int .i64 T.1]) ∧ LAt w' s T.2.2 ∧ ∀ B, B < m → NotAt B s0 r0 → NotAt B s T.2.2
set_option maxHeartbeats 16000000 in
theorem Tryd.refTake_any (E : Nat) (s : Ls) (r : Rw3) (w : World) (hI : LAt w s r) (hr : rightL E r = true) (h3 : r 3 = []) :
    Calls Tryd.prog 27 #[.agg #[.int .u64 (E : Nat), .slice (s.a 0) (s.n 0) (s.c 0), .slice (s.a 1) (s.n 1) (s.c 1), .slice (s.a 2) (s.n 2) (s.c 2)]] w fun e w' => RefTakQ w.heap.size s r (tryL E r (takN E r)) e w' ∧ Below w.heap.size w w' := by
  obtain ⟨T, hTT⟩ : ∃ T, T = tryL E r (takN E r) := ⟨_, rfl⟩
  rw [← hTT]
  have HTT := Lib.hid hTT
  clear hTT
  obtain ⟨W0, hW0⟩ : ∃ W, W = ((w.alloc (.cells #[.int .u64 (E : Nat), .slice (s.a 0) (s.n 0) (s.c 0), .slice (s.a 1) (s.n 1) (s.c 1), .slice (s.a 2) (s.n 2) (s.c 2)] 26)).alloc (.cells #[.int .u64 0, .slice none 0 0, .slice none 0 0, .slice none 0 0] 26)).alloc (.cells #[.int .i64 0, .int .u64 0] 38) := ⟨_, rfl⟩
  have hB0 : Below w.heap.size w W0 := by rw [hW0]; exact ((Rows8.newB).alloc (by simp) _).alloc (by simp <;> omega) _
  have HK : Hid (Rows8 W0 w.heap.size 26 #[.int .u64 (E : Nat), .slice (s.a 0) (s.n 0) (s.c 0), .slice (s.a 1) (s.n 1) (s.c 1), .slice (s.a 2) (s.n 2) (s.c 2)]) := Lib.hid (by rw [hW0]; exact ((Rows8.new _ _ _).alloc _).alloc _)
  have HZ : Hid (Rows8 W0 (w.heap.size + 1) 26 #[.int .u64 0, .slice none 0 0, .slice none 0 0, .slice none 0 0]) := Lib.hid (by rw [hW0]; exact (rows_new2 _ _ _ _).alloc _)
  have HQ : Hid (Rows8 W0 (w.heap.size + 1 + 1) 38 #[.int .i64 0, .int .u64 0]) := Lib.hid (by
    have h := Rows8.new ((w.alloc (.cells #[.int .u64 (E : Nat), .slice (s.a 0) (s.n 0) (s.c 0), .slice (s.a 1) (s.n 1) (s.c 1), .slice (s.a 2) (s.n 2) (s.c 2)] 26)).alloc (.cells #[.int .u64 0, .slice none 0 0, .slice none 0 0, .slice none 0 0] 26)) 38 #[.int .i64 0, .int .u64 0]
    rw [World.size_alloc, World.size_alloc] at h
    rw [hW0]; exact h)
  have HB := Lib.hid hB0
  have HI := Lib.hid (hI.below hB0)
  have HI0 := Lib.hid hI
  have HE := Lib.hid (rightL_iff.1 hr).1.1
  have hof0 := of_ready hr
  have HR0 := Lib.hid hr
  have HR3 := Lib.hid h3
  obtain ⟨a, n, c, hof⟩ := ofV_form E 2 s
  have HOf := Tryd.refOf_any E s 2 W0 (by have := HE.out; omega) (by decide)
  rw [hof] at HOf
  have HOf : Hid (Calls Tryd.prog 13 #[.agg #[.int .u64 (E : Nat), .slice (s.a 0) (s.n 0) (s.c 0), .slice (s.a 1) (s.n 1) (s.c 1), .slice (s.a 2) (s.n 2) (s.c 2)], .int .u64 2] W0 fun e w' => e = .returned (.slice a n c) ∧ Below W0.heap.size W0 w') := Lib.hid HOf
  have hnl : PAt w (.slice a n c) (readyL E r) := by
    have h := ofV_at hI E 2
    rw [hof, hof0] at h
    exact h
  have HNL := Lib.hid hnl
  have HOV := Lib.hid hof
  have c0 : W0.cell? ⟨w.heap.size, 0, none⟩ = some (.int .u64 (E : Nat)) := HK.out.cell 0
  have c1 : W0.cell? ⟨w.heap.size, 1, none⟩ = some (.slice (s.a 0) (s.n 0) (s.c 0)) := HK.out.cell 1
  have c2 : W0.cell? ⟨w.heap.size, 2, none⟩ = some (.slice (s.a 1) (s.n 1) (s.c 1)) := HK.out.cell 2
  have c3 : W0.cell? ⟨w.heap.size, 3, none⟩ = some (.slice (s.a 2) (s.n 2) (s.c 2)) := HK.out.cell 3
  have lt := HK.out.lt
  clear hB0 hI hr hof0 hof hnl h3
  go_enter Tryd.func27, Tryd.ntmps27
  go_upto_region 1 with fail
  rw [← hW0]
  clear hW0
  go_wp2_with fail
  refine HOf.out.mono ?_
  rintro e W1 ⟨rfl, hC⟩
  have HK := Lib.hid (HK.out.below hC HK.out.lt)
  have HZ := Lib.hid (HZ.out.below hC HZ.out.lt)
  have HQ := Lib.hid (HQ.out.below hC HQ.out.lt)
  have HI := Lib.hid (HI.out.below hC)
  have HB := Lib.hid (HB.out.trans (hC.mono HB.out.size))
  clear hC HOf c0 c1 c2 c3 lt
  cases hz : readyL E r with
  | nil =>
    have hn0 : n = 0 := by have := (pAt_len HNL.out).1; rw [hz] at this; exact this
    have hT : Hid (T = (4, 0, fun _ => [])) := Lib.hid (HTT.out.trans ((tryTakR HR0.out).1 hz))
    subst hn0
    clear hz HNL HOV
    have HR := Lib.hid ((rows4 HZ.out (.int .u64 0) (.slice none 0 0) (.slice none 0 0) (.slice none 0 0)).setOther (a := ⟨w.heap.size + 1 + 1, 0, none⟩) (by simp) (.int .i64 0) |>.setOther (a := ⟨w.heap.size + 1 + 1, 1, none⟩) (by simp) (.int .u64 0))
    have HQ2 := Lib.hid (HQ.out.oth4 (B := w.heap.size + 1) (by simp) (.int .u64 0) (.slice none 0 0) (.slice none 0 0) (.slice none 0 0))
    have HRE := Lib.hid (rows2 HQ2.out (.int .i64 0) (.int .u64 0))
    have HB3 := Lib.hid (((below4 HB.out (B := w.heap.size + 1) (by omega) (.int .u64 0) (.slice none 0 0) (.slice none 0 0) (.slice none 0 0)).setCell (p := ⟨w.heap.size + 1 + 1, 0, none⟩) (by show w.heap.size ≤ w.heap.size + 1 + 1; omega) (.int .i64 0)).setCell (p := ⟨w.heap.size + 1 + 1, 1, none⟩) (by show w.heap.size ≤ w.heap.size + 1 + 1; omega) (.int .u64 0))
    have z0 : W1.cell? ⟨w.heap.size + 1, 0, none⟩ = some (.int .u64 0) := HZ.out.cell 0
    have f0 := HZ.out.frozen 0
    have z1 : W1.cell? ⟨w.heap.size + 1, 1, none⟩ = some (.slice none 0 0) := HZ.out.cell 1
    have f1 := HZ.out.frozen 1
    have z2 : W1.cell? ⟨w.heap.size + 1, 2, none⟩ = some (.slice none 0 0) := HZ.out.cell 2
    have f2 := HZ.out.frozen 2
    have z3 : W1.cell? ⟨w.heap.size + 1, 3, none⟩ = some (.slice none 0 0) := HZ.out.cell 3
    have f3 := HZ.out.frozen 3
    have ltz := HZ.out.lt
    have y0 : ((((W1.setCell ⟨w.heap.size + 1, 0, none⟩ (.int .u64 0)).setCell ⟨w.heap.size + 1, 1, none⟩ (.slice none 0 0)).setCell ⟨w.heap.size + 1, 2, none⟩ (.slice none 0 0)).setCell ⟨w.heap.size + 1, 3, none⟩ (.slice none 0 0)).cell? ⟨w.heap.size + 1 + 1, 0, none⟩ = some (.int .i64 0) := HQ2.out.cell 0
    have g0 := HQ2.out.frozen 0
    have y1 : ((((W1.setCell ⟨w.heap.size + 1, 0, none⟩ (.int .u64 0)).setCell ⟨w.heap.size + 1, 1, none⟩ (.slice none 0 0)).setCell ⟨w.heap.size + 1, 2, none⟩ (.slice none 0 0)).setCell ⟨w.heap.size + 1, 3, none⟩ (.slice none 0 0)).cell? ⟨w.heap.size + 1 + 1, 1, none⟩ = some (.int .u64 0) := HQ2.out.cell 1
    have g1 := HQ2.out.frozen 1
    have lty := HQ2.out.lt
    go_wp2_with fail
    refine bodyPost_ret (results_cct rfl _ _ (w.heap.size + 1) (w.heap.size + 1 + 1) _ _ _ rfl rfl rfl (load_row HR.out Tryd.underlying26 rfl (by kernel_rfl)) (load_row HRE.out Tryd.underlying38 rfl (by kernel_rfl))) rfl ?_
    exact ⟨⟨zLs, by rw [hT.out]; rfl, by rw [hT.out]; exact z3_at _, fun _ _ _ => by rw [hT.out]; exact notAt_z _ _⟩, HB3.out⟩
  | cons z t =>
    have HZT := Lib.hid hz
    have hE2 := rdy_two HR0.out (by rw [hz]; exact List.cons_ne_nil _ _)
    have HE2 := Lib.hid hE2
    have hT : Hid (T = (0, E, takR E r)) := Lib.hid (HTT.out.trans ((tryTakR HR0.out).2 (by rw [hz]; exact List.cons_ne_nil _ _)))
    have H3 : Hid (takR E r 3 = [z]) := Lib.hid (by rw [takR_3, HR3.out, hz]; rfl)
    have hnl := HNL.out
    rw [hz] at hnl
    have hcap := (pAt_len hnl)
    obtain ⟨b, off, rfl, hbk, y0, y1⟩ := pAt_get hnl 0 (by simp)
    simp only [List.getElem_cons_zero, Nat.zero_mul, Nat.add_zero] at y0 y1
    simp only [List.length_cons] at hcap
    obtain ⟨m, rfl⟩ : ∃ m, n = m + 1 := ⟨n - 1, by omega⟩
    obtain ⟨d, rfl⟩ : ∃ d, c = d + 1 := ⟨c - 1, by omega⟩
    have HTL := Lib.hid (show t.length = m ∧ t.length ≤ 128 from ⟨by omega, by have h9 := rightL_lenk HR0.out ((E + 1) % 3) (Nat.mod_lt _ (by decide)); rw [show r ((E + 1) % 3) = z :: t from hz] at h9; simp at h9; omega⟩)
    have HSK : Hid ((.slice (s.a ((E + 1) % 3)) (s.n ((E + 1) % 3)) (s.c ((E + 1) % 3)) : Value) = .slice (some ⟨b, off, none⟩) (m + 1) (d + 1)) := Lib.hid (by have h9 := HOV.out; unfold ofV at h9; rw [if_neg (by omega), show (E - 2) % 3 = (E + 1) % 3 by omega] at h9; exact h9)
    have Y0 := Lib.hid y0
    have Y1 := Lib.hid y1
    have HBK := Lib.hid hbk
    have HLF : Hid (∀ W, Below w.heap.size w W → ∀ s', LAt W s' (updL r ((E - 2) % 3) t) → LAt W s' (takR E r)) := Lib.hid (fun W _ s' h => lat_cong h (fun k hk => by rw [takR_at HZT.out k hk, show (E - 2) % 3 = (E + 1) % 3 by omega]))
    clear hnl hcap y0 y1 hbk hz HNL HOV hE2
    go_upto_region 4 with fail
    refine wp_region_L (fun W' => Rows8 W' w.heap.size 26 #[.int .u64 (E : Nat), .slice (s.a 0) (s.n 0) (s.c 0), .slice (s.a 1) (s.n 1) (s.c 1), .slice (s.a 2) (s.n 2) (s.c 2)] ∧ W'.cell? ⟨b, off, none⟩ = some (.int .i64 z.1) ∧ W'.cell? ⟨b, off + 1, none⟩ = some (.int .u64 (z.2 : Nat))) 10 (by kernel_rfl) ?_
    have HZ : Hid (Rows8 W1.drew (w.heap.size + 1) 26 #[.int .u64 0, .slice none 0 0, .slice none 0 0, .slice none 0 0]) := Lib.hid HZ.out.drewA
    have HQ : Hid (Rows8 W1.drew (w.heap.size + 1 + 1) 38 #[.int .i64 0, .int .u64 0]) := Lib.hid HQ.out.drewA
    have HI : Hid (LAt W1.drew s r) := Lib.hid (fun k hk => HI.out k hk)
    have HB : Hid (Below w.heap.size w W1.drew) := Lib.hid HB.out.drew
    have hS0 : Rows8 W1.drew w.heap.size 26 #[.int .u64 (E : Nat), .slice (s.a 0) (s.n 0) (s.c 0), .slice (s.a 1) (s.n 1) (s.c 1), .slice (s.a 2) (s.n 2) (s.c 2)] ∧ W1.drew.cell? ⟨b, off, none⟩ = some (.int .i64 z.1) ∧ W1.drew.cell? ⟨b, off + 1, none⟩ = some (.int .u64 (z.2 : Nat)) := ⟨HK.out.drewA, (HB.out.cell (p := ⟨b, off, none⟩) HBK.out).trans Y0.out, (HB.out.cell (p := ⟨b, off + 1, none⟩) HBK.out).trans Y1.out⟩
    clear HK
    generalize W1.drew = Wd at *
    refine wpAnyL_takeT (i := 0) (oi := { dst := some 13, op := Go.Op.load 26 (Go.Operand.tmp 1), type := 26, pos := "ref.go:100", after := #[], guard := none }) (v := .agg #[.int .u64 (E : Nat), .slice (s.a 0) (s.n 0) (s.c 0), .slice (s.a 1) (s.n 1) (s.c 1), .slice (s.a 2) (s.n 2) (s.c 2)]) [5, 9, 10, 11] rfl (by kernel_rfl) (by kernel_rfl) (by kernel_rfl) (by kernel_rfl) (fun _ _ _ h => h) (Or.inl ⟨by rfl, ?_⟩) hS0 ?_
    · intro W9 hS9
      obtain ⟨q0, q1, q2⟩ := hS9
      have k0 : W9.cell? ⟨w.heap.size, 0, none⟩ = some (.int .u64 (E : Nat)) := q0.cell 0
      have k1 : W9.cell? ⟨w.heap.size, 1, none⟩ = some (.slice (s.a 0) (s.n 0) (s.c 0)) := q0.cell 1
      have k2 : W9.cell? ⟨w.heap.size, 2, none⟩ = some (.slice (s.a 1) (s.n 1) (s.c 1)) := q0.cell 2
      have k3 : W9.cell? ⟨w.heap.size, 3, none⟩ = some (.slice (s.a 2) (s.n 2) (s.c 2)) := q0.cell 3
      clear q0 q1 q2
      go_simp
    try simp only [Act.put, List.setIfInBounds_toArray, List.set_cons_zero, List.set_cons_succ]
    refine wpAnyL_takeT (i := 2) (oi := { dst := some 15, op := Go.Op.move (Go.Operand.tmp 5), type := 23, pos := "ref.go:100", after := #[], guard := none }) (v := .slice (some ⟨b, off, none⟩) (m + 1) (d + 1)) [3, 4, 5, 9, 10, 11] rfl (by kernel_rfl) (by kernel_rfl) (by kernel_rfl) (by kernel_rfl) (fun _ _ _ h => h) (Or.inl ⟨by rfl, ?_⟩) hS0 ?_
    · intro W9 hS9
      obtain ⟨q0, q1, q2⟩ := hS9
      clear q0 q1 q2
      go_simp
    try simp only [Act.put, List.setIfInBounds_toArray, List.set_cons_zero, List.set_cons_succ]
    refine wpAnyL_takeT (i := 3) (oi := { dst := some 16, op := Go.Op.slice 23 (Go.Operand.tmp 15) (some (Go.Operand.const (Go.Value.int Go.IntKind.i64 1))) none none, type := 23, pos := "ref.go:100", after := #[{ on := 2, ground := Go.Ground.data }], guard := none }) (v := .slice (some ⟨b, if d = 0 then off else off + 2, none⟩) m d) [4, 5, 9, 10, 11] rfl (by kernel_rfl) (by kernel_rfl) (by kernel_rfl) (by kernel_rfl) (fun _ _ _ h => h) (Or.inl ⟨by rfl, ?_⟩) hS0 ?_
    · intro W9 hS9
      obtain ⟨q0, q1, q2⟩ := hS9
      exact exec_slice1 _ _ _ rfl _ (slice1 W9 b off m d)
    try simp only [Act.put, List.setIfInBounds_toArray, List.set_cons_zero, List.set_cons_succ]
    refine wpAnyL_takeT (i := 6) (oi := { dst := some 19, op := Go.Op.move (Go.Operand.tmp 5), type := 23, pos := "ref.go:100", after := #[{ on := 9, ground := Go.Ground.gcOnly Go.Departure.lateStores }], guard := none }) (v := .slice (some ⟨b, off, none⟩) (m + 1) (d + 1)) [7, 8, 10, 11] rfl (by kernel_rfl) (by kernel_rfl) (by kernel_rfl) (by kernel_rfl) (fun _ _ _ h => h) (Or.inl ⟨by rfl, ?_⟩) hS0 ?_
    · intro W9 hS9
      obtain ⟨q0, q1, q2⟩ := hS9
      clear q0 q1 q2
      go_simp
    try simp only [Act.put, List.setIfInBounds_toArray, List.set_cons_zero, List.set_cons_succ]
    refine wpAnyL_takeT (i := 7) (oi := { dst := some 20, op := Go.Op.indexAddr 23 (Go.Operand.tmp 19) (Go.Operand.const (Go.Value.int Go.IntKind.i64 0)), type := 0, pos := "ref.go:100", after := #[{ on := 6, ground := Go.Ground.data }, { on := 9, ground := Go.Ground.gcOnly Go.Departure.lateStores }], guard := none }) (v := .pointer (some ⟨b, off, none⟩)) [8, 10, 11] rfl (by kernel_rfl) (by kernel_rfl) (by kernel_rfl) (by kernel_rfl) (fun _ _ _ h => h) (Or.inl ⟨by rfl, ?_⟩) hS0 ?_
    · intro W9 hS9
      obtain ⟨q0, q1, q2⟩ := hS9
      clear q0 q1 q2
      have h9 : (0 : Int) < ((m : Nat) : Int) + 1 := by omega
      go_simp
    try simp only [Act.put, List.setIfInBounds_toArray, List.set_cons_zero, List.set_cons_succ]
    refine wpAnyL_takeT (i := 8) (oi := { dst := some 21, op := Go.Op.load 38 (Go.Operand.tmp 20), type := 38, pos := "ref.go:100", after := #[{ on := 7, ground := Go.Ground.data }, { on := 9, ground := Go.Ground.gcOnly Go.Departure.lateStores }], guard := none }) (v := .agg #[.int .i64 z.1, .int .u64 (z.2 : Nat)]) [10, 11] rfl (by kernel_rfl) (by kernel_rfl) (by kernel_rfl) (by kernel_rfl) (fun _ _ _ h => h) (Or.inl ⟨by rfl, ?_⟩) hS0 ?_
    · intro W9 hS9
      obtain ⟨q0, q1, q2⟩ := hS9
      have s0 := q1
      have s1 := q2
      clear q0 q1 q2
      go_simp
    try simp only [Act.put, List.setIfInBounds_toArray, List.set_cons_zero, List.set_cons_succ]
    refine wpAnyL_one (i := 1) (o := { dst := some 14, op := Go.Op.buildSlice 23 0 #[], type := 23, pos := "ref.go:100", after := #[], guard := none }) (by kernel_rfl) rfl (fun K hK => ?_)
    refine step_value_g (by rfl) (.slice (some ⟨Wd.heap.size, 0, none⟩) 0 0) (w' := Wd.alloc (.cells #[] 38)) (by go_simp) ?_
    have hC : Below Wd.heap.size Wd (Wd.alloc (.cells #[] 38)) := Rows8.newB
    have hO : OwnsP tE Wd.heap.size [] (.slice (some ⟨Wd.heap.size, 0, none⟩) 0 0) (Wd.alloc (.cells #[] 38)) := World.ownsRow_lit Wd #[] 0 (Nat.le_refl _) (by unfold maxLen; omega) rfl
    have HO := Lib.hid hO
    have HWS := Lib.hid hC.size
    have HWB := Lib.hid HB.out.size
    have HON := Lib.hid (show (Value.slice (some ⟨Wd.heap.size, 0, none⟩) 0 0).ownBlock ≠ some (w.heap.size + 1 + 1) from fun e => by have := HQ.out.lt; injection e with e; have e2 : Wd.heap.size = w.heap.size + 1 + 1 := e; omega)
    have HQL := Lib.hid HQ.out.lt
    have HZ := Lib.hid (HZ.out.below hC HZ.out.lt)
    have HQ := Lib.hid (HQ.out.below hC HQ.out.lt)
    have HI := Lib.hid (HI.out.below hC)
    have HB := Lib.hid (HB.out.trans (hC.mono HB.out.size))
    have hS0 : Rows8 (Wd.alloc (.cells #[] 38)) w.heap.size 26 #[.int .u64 (E : Nat), .slice (s.a 0) (s.n 0) (s.c 0), .slice (s.a 1) (s.n 1) (s.c 1), .slice (s.a 2) (s.n 2) (s.c 2)] ∧ (Wd.alloc (.cells #[] 38)).cell? ⟨b, off, none⟩ = some (.int .i64 z.1) ∧ (Wd.alloc (.cells #[] 38)).cell? ⟨b, off + 1, none⟩ = some (.int .u64 (z.2 : Nat)) := ⟨hS0.1.alloc _, (HB.out.cell (p := ⟨b, off, none⟩) HBK.out).trans Y0.out, (HB.out.cell (p := ⟨b, off + 1, none⟩) HBK.out).trans Y1.out⟩
    clear hC hO
    generalize Wd.alloc (.cells #[] 38) = Wf at *
    refine hK.out _ _ (fun _ => hS0) ?_
    clear hK K
    try simp only [Act.put, List.setIfInBounds_toArray, List.set_cons_zero, List.set_cons_succ]
    refine wpAnyL_one (i := 4) (o := { dst := some 17, op := Go.Op.call { callee := Go.Callee.builtin Go.Builtin.append, args := #[Go.Operand.tmp 14, Go.Operand.tmp 16], argTypes := #[23, 23] }, type := 23, pos := "ref.go:100", after := #[{ on := 1, ground := Go.Ground.data }, { on := 3, ground := Go.Ground.data }], guard := none }) (by kernel_rfl) rfl (fun K hK => ?_)
    have hcut : PAt Wf (.slice (some ⟨b, if d = 0 then off else off + 2, none⟩) m d) t := by
      have h9 := HI.out ((E + 1) % 3) (Nat.mod_lt _ (by decide))
      rw [HSK.out, show r ((E + 1) % 3) = z :: t from HZT.out] at h9
      have h8 := pAt_cutR h9
      exact h8
    obtain ⟨v5, w5, hrun, ho5, hg5⟩ := Tryd.app_row Wf Wd.heap.size 23 [] _ HO.out (.slice (some ⟨b, if d = 0 then off else off + 2, none⟩) m d) t hcut (by have h9 := HTL.out.2; simp only [List.length_nil]; omega) HWS.out
    refine step_value_g (by rfl) v5 (w' := w5) (exec_append _ _ _ rfl _ _ _ rfl rfl hrun) ?_
    rw [List.nil_append] at ho5
    have hne1 := owns_not HO.out hS0.1 (by decide)
    have hgb := HO.out
    have hk5 : Rows8 w5 w.heap.size 26 #[.int .u64 (E : Nat), .slice (s.a 0) (s.n 0) (s.c 0), .slice (s.a 1) (s.n 1) (s.c 1), .slice (s.a 2) (s.n 2) (s.c 2)] := (hg5.block _ hS0.1.lt (fun e => hne1 e.symm)).trans hS0.1
    have hne2 := owns_not HO.out HZ.out (by decide)
    have hz5 : Rows8 w5 (w.heap.size + 1) 26 #[.int .u64 0, .slice none 0 0, .slice none 0 0, .slice none 0 0] := (hg5.block _ HZ.out.lt (fun e => hne2 e.symm)).trans HZ.out
    have HZ := Lib.hid hz5
    have hq5 : Rows8 w5 (w.heap.size + 1 + 1) 38 #[.int .i64 0, .int .u64 0] := (hg5.block _ HQ.out.lt (fun e => HON.out e.symm)).trans HQ.out
    have HQ := Lib.hid hq5
    have HB5 := Lib.hid (HB.out.grown hg5 HB.out.size (fun j ej => Nat.le_trans HWB.out (World.ownsRow.lt hgb j ej).1))
    have HB := HB5
    have HI := Lib.hid (HI0.out.below HB.out)
    have hS0 : Rows8 w5 w.heap.size 26 #[.int .u64 (E : Nat), .slice (s.a 0) (s.n 0) (s.c 0), .slice (s.a 1) (s.n 1) (s.c 1), .slice (s.a 2) (s.n 2) (s.c 2)] ∧ w5.cell? ⟨b, off, none⟩ = some (.int .i64 z.1) ∧ w5.cell? ⟨b, off + 1, none⟩ = some (.int .u64 (z.2 : Nat)) := ⟨hk5, (HB.out.cell (p := ⟨b, off, none⟩) HBK.out).trans Y0.out, (HB.out.cell (p := ⟨b, off + 1, none⟩) HBK.out).trans Y1.out⟩
    obtain ⟨a5, c5, rfl⟩ := ho5.form
    have HO := Lib.hid ho5
    have HN5 := Lib.hid (show t.length = m from by have := HTL.out; omega)
    clear hrun hg5 hne1 hne2 hgb hk5 hq5 hz5 ho5 HB5 hcut HON
    generalize t.length = n5 at *
    refine hK.out _ _ (fun _ => hS0) ?_
    clear hK K
    try simp only [Act.put, List.setIfInBounds_toArray, List.set_cons_zero, List.set_cons_succ]
    refine wpAnyL_one (i := 5) (o := { dst := some 18, op := Go.Op.call { callee := Go.Callee.value (Go.Operand.func 46), args := #[Go.Operand.tmp 13, Go.Operand.const (Go.Value.int Go.IntKind.u64 2), Go.Operand.tmp 17], argTypes := #[26, 22, 23] }, type := 26, pos := "ref.go:100", after := #[{ on := 0, ground := Go.Ground.data }, { on := 4, ground := Go.Ground.data }, { on := 4, ground := Go.Ground.chain }], guard := none }) (by kernel_rfl) rfl (fun K hK => ?_)
    have HWt := Tryd.with_any E s 2 a5 n5 c5 w5 (by have := HE.out; omega) HE2.out
    refine step_call_g (by rfl) 46 _ _ rfl (fun _ _ => by kernel_rfl) #[.agg #[.int .u64 (E : Nat), .slice (s.a 0) (s.n 0) (s.c 0), .slice (s.a 1) (s.n 1) (s.c 1), .slice (s.a 2) (s.n 2) (s.c 2)], .int .u64 2, .slice a5 n5 c5] (by simp [go_sem]) _ (show Calls Tryd.prog 46 #[.agg #[.int .u64 (E : Nat), .slice (s.a 0) (s.n 0) (s.c 0), .slice (s.a 1) (s.n 1) (s.c 1), .slice (s.a 2) (s.n 2) (s.c 2)], .int .u64 2, .slice a5 n5 c5] w5 _ from HWt) ?_
    rintro e W6 ⟨rfl, hC⟩
    have HZ := Lib.hid (HZ.out.below hC HZ.out.lt)
    have HQ := Lib.hid (HQ.out.below hC HQ.out.lt)
    have HI := Lib.hid (HI.out.below hC)
    have HB := Lib.hid (HB.out.trans (hC.mono HB.out.size))
    have hS0 : Rows8 W6 w.heap.size 26 #[.int .u64 (E : Nat), .slice (s.a 0) (s.n 0) (s.c 0), .slice (s.a 1) (s.n 1) (s.c 1), .slice (s.a 2) (s.n 2) (s.c 2)] ∧ W6.cell? ⟨b, off, none⟩ = some (.int .i64 z.1) ∧ W6.cell? ⟨b, off + 1, none⟩ = some (.int .u64 (z.2 : Nat)) := ⟨hS0.1.below hC hS0.1.lt, (HB.out.cell (p := ⟨b, off, none⟩) HBK.out).trans Y0.out, (HB.out.cell (p := ⟨b, off + 1, none⟩) HBK.out).trans Y1.out⟩
    have HO := Lib.hid (HO.out.below hC (Nat.le_refl _))
    obtain ⟨s', hs'⟩ : ∃ x, x = s.upd ((E - 2) % 3) a5 n5 c5 := ⟨_, rfl⟩
    rw [← hs'] at ⊢
    have HSS := Lib.hid hs'
    clear hC HWt HN5 hs'
    refine ⟨_, rfl, ?_⟩
    refine hK.out _ _ (fun _ => hS0) ?_
    clear hK K
    try simp only [Act.put, List.setIfInBounds_toArray, List.set_cons_zero, List.set_cons_succ]
    refine wpAnyL_one (i := 9) (o := { dst := none, op := Go.Op.store 26 (Go.Operand.tmp 2) (Go.Operand.tmp 18), type := 0, pos := "ref.go:100", after := #[{ on := 5, ground := Go.Ground.data }, { on := 5, ground := Go.Ground.chain }, { on := 0, ground := Go.Ground.phase }, { on := 1, ground := Go.Ground.phase }, { on := 2, ground := Go.Ground.phase }, { on := 3, ground := Go.Ground.phase }, { on := 4, ground := Go.Ground.phase }, { on := 5, ground := Go.Ground.phase }, { on := 6, ground := Go.Ground.textOnly Go.Departure.lateStores }, { on := 7, ground := Go.Ground.textOnly Go.Departure.lateStores }, { on := 8, ground := Go.Ground.textOnly Go.Departure.lateStores }], guard := none }) (by kernel_rfl) rfl (fun K hK => ?_)
    have z0 : W6.cell? ⟨w.heap.size + 1, 0, none⟩ = some (.int .u64 0) := HZ.out.cell 0
    have f0 := HZ.out.frozen 0
    have z1 : W6.cell? ⟨w.heap.size + 1, 1, none⟩ = some (.slice none 0 0) := HZ.out.cell 1
    have f1 := HZ.out.frozen 1
    have z2 : W6.cell? ⟨w.heap.size + 1, 2, none⟩ = some (.slice none 0 0) := HZ.out.cell 2
    have f2 := HZ.out.frozen 2
    have z3 : W6.cell? ⟨w.heap.size + 1, 3, none⟩ = some (.slice none 0 0) := HZ.out.cell 3
    have f3 := HZ.out.frozen 3
    have ltz := HZ.out.lt
    refine step_skip_g (by rfl) (w' := ((((W6.setCell ⟨w.heap.size + 1, 0, none⟩ (.int .u64 (E : Nat))).setCell ⟨w.heap.size + 1, 1, none⟩ (.slice (s'.a 0) (s'.n 0) (s'.c 0))).setCell ⟨w.heap.size + 1, 2, none⟩ (.slice (s'.a 1) (s'.n 1) (s'.c 1))).setCell ⟨w.heap.size + 1, 3, none⟩ (.slice (s'.a 2) (s'.n 2) (s'.c 2)))) (by go_simp) ?_
    have HR := Lib.hid (rows4 HZ.out (.int .u64 (E : Nat)) (.slice (s'.a 0) (s'.n 0) (s'.c 0)) (.slice (s'.a 1) (s'.n 1) (s'.c 1)) (.slice (s'.a 2) (s'.n 2) (s'.c 2)))
    have HQ := Lib.hid (HQ.out.oth4 (B := w.heap.size + 1) (by simp) (.int .u64 (E : Nat)) (.slice (s'.a 0) (s'.n 0) (s'.c 0)) (.slice (s'.a 1) (s'.n 1) (s'.c 1)) (.slice (s'.a 2) (s'.n 2) (s'.c 2)))
    have HB := Lib.hid (below4 HB.out (B := w.heap.size + 1) (by omega) (.int .u64 (E : Nat)) (.slice (s'.a 0) (s'.n 0) (s'.c 0)) (.slice (s'.a 1) (s'.n 1) (s'.c 1)) (.slice (s'.a 2) (s'.n 2) (s'.c 2)))
    have hS0 : Rows8 ((((W6.setCell ⟨w.heap.size + 1, 0, none⟩ (.int .u64 (E : Nat))).setCell ⟨w.heap.size + 1, 1, none⟩ (.slice (s'.a 0) (s'.n 0) (s'.c 0))).setCell ⟨w.heap.size + 1, 2, none⟩ (.slice (s'.a 1) (s'.n 1) (s'.c 1))).setCell ⟨w.heap.size + 1, 3, none⟩ (.slice (s'.a 2) (s'.n 2) (s'.c 2))) w.heap.size 26 #[.int .u64 (E : Nat), .slice (s.a 0) (s.n 0) (s.c 0), .slice (s.a 1) (s.n 1) (s.c 1), .slice (s.a 2) (s.n 2) (s.c 2)] ∧ ((((W6.setCell ⟨w.heap.size + 1, 0, none⟩ (.int .u64 (E : Nat))).setCell ⟨w.heap.size + 1, 1, none⟩ (.slice (s'.a 0) (s'.n 0) (s'.c 0))).setCell ⟨w.heap.size + 1, 2, none⟩ (.slice (s'.a 1) (s'.n 1) (s'.c 1))).setCell ⟨w.heap.size + 1, 3, none⟩ (.slice (s'.a 2) (s'.n 2) (s'.c 2))).cell? ⟨b, off, none⟩ = some (.int .i64 z.1) ∧ ((((W6.setCell ⟨w.heap.size + 1, 0, none⟩ (.int .u64 (E : Nat))).setCell ⟨w.heap.size + 1, 1, none⟩ (.slice (s'.a 0) (s'.n 0) (s'.c 0))).setCell ⟨w.heap.size + 1, 2, none⟩ (.slice (s'.a 1) (s'.n 1) (s'.c 1))).setCell ⟨w.heap.size + 1, 3, none⟩ (.slice (s'.a 2) (s'.n 2) (s'.c 2))).cell? ⟨b, off + 1, none⟩ = some (.int .u64 (z.2 : Nat)) := ⟨hS0.1.oth4 (B := w.heap.size + 1) (by simp) (.int .u64 (E : Nat)) (.slice (s'.a 0) (s'.n 0) (s'.c 0)) (.slice (s'.a 1) (s'.n 1) (s'.c 1)) (.slice (s'.a 2) (s'.n 2) (s'.c 2)), (HB.out.cell (p := ⟨b, off, none⟩) HBK.out).trans Y0.out, (HB.out.cell (p := ⟨b, off + 1, none⟩) HBK.out).trans Y1.out⟩
    clear z0 z1 z2 z3 f0 f1 f2 f3 ltz HZ
    refine hK.out _ _ (fun _ => hS0) ?_
    clear hK K
    try simp only [Act.put, List.setIfInBounds_toArray, List.set_cons_zero, List.set_cons_succ]
    refine wpAnyL_one (i := 10) (o := { dst := none, op := Go.Op.store 38 (Go.Operand.tmp 3) (Go.Operand.tmp 21), type := 0, pos := "ref.go:100", after := #[{ on := 8, ground := Go.Ground.data }, { on := 9, ground := Go.Ground.chain }, { on := 0, ground := Go.Ground.phase }, { on := 1, ground := Go.Ground.phase }, { on := 2, ground := Go.Ground.phase }, { on := 3, ground := Go.Ground.phase }, { on := 4, ground := Go.Ground.phase }, { on := 5, ground := Go.Ground.phase }, { on := 6, ground := Go.Ground.phase }, { on := 7, ground := Go.Ground.phase }, { on := 8, ground := Go.Ground.phase }, { on := 9, ground := Go.Ground.phase }], guard := none }) (by kernel_rfl) rfl (fun K hK => ?_)
    have z0 : ((((W6.setCell ⟨w.heap.size + 1, 0, none⟩ (.int .u64 (E : Nat))).setCell ⟨w.heap.size + 1, 1, none⟩ (.slice (s'.a 0) (s'.n 0) (s'.c 0))).setCell ⟨w.heap.size + 1, 2, none⟩ (.slice (s'.a 1) (s'.n 1) (s'.c 1))).setCell ⟨w.heap.size + 1, 3, none⟩ (.slice (s'.a 2) (s'.n 2) (s'.c 2))).cell? ⟨w.heap.size + 1 + 1, 0, none⟩ = some (.int .i64 0) := HQ.out.cell 0
    have f0 := HQ.out.frozen 0
    have z1 : ((((W6.setCell ⟨w.heap.size + 1, 0, none⟩ (.int .u64 (E : Nat))).setCell ⟨w.heap.size + 1, 1, none⟩ (.slice (s'.a 0) (s'.n 0) (s'.c 0))).setCell ⟨w.heap.size + 1, 2, none⟩ (.slice (s'.a 1) (s'.n 1) (s'.c 1))).setCell ⟨w.heap.size + 1, 3, none⟩ (.slice (s'.a 2) (s'.n 2) (s'.c 2))).cell? ⟨w.heap.size + 1 + 1, 1, none⟩ = some (.int .u64 0) := HQ.out.cell 1
    have f1 := HQ.out.frozen 1
    have ltz := HQ.out.lt
    refine step_skip_g (by rfl) (w' := ((((((W6.setCell ⟨w.heap.size + 1, 0, none⟩ (.int .u64 (E : Nat))).setCell ⟨w.heap.size + 1, 1, none⟩ (.slice (s'.a 0) (s'.n 0) (s'.c 0))).setCell ⟨w.heap.size + 1, 2, none⟩ (.slice (s'.a 1) (s'.n 1) (s'.c 1))).setCell ⟨w.heap.size + 1, 3, none⟩ (.slice (s'.a 2) (s'.n 2) (s'.c 2))).setCell ⟨w.heap.size + 1 + 1, 0, none⟩ (.int .i64 z.1)).setCell ⟨w.heap.size + 1 + 1, 1, none⟩ (.int .u64 (z.2 : Nat)))) (by go_simp) ?_
    have HRE := Lib.hid (rows2 HQ.out (.int .i64 z.1) (.int .u64 (z.2 : Nat)))
    have HR := Lib.hid ((HR.out.setOther (a := ⟨w.heap.size + 1 + 1, 0, none⟩) (by simp) (.int .i64 z.1)).setOther (a := ⟨w.heap.size + 1 + 1, 1, none⟩) (by simp) (.int .u64 (z.2 : Nat)))
    have HB := Lib.hid ((HB.out.setCell (p := ⟨w.heap.size + 1 + 1, 0, none⟩) (by show w.heap.size ≤ w.heap.size + 1 + 1; omega) (.int .i64 z.1)).setCell (p := ⟨w.heap.size + 1 + 1, 1, none⟩) (by show w.heap.size ≤ w.heap.size + 1 + 1; omega) (.int .u64 (z.2 : Nat)))
    have hq9 := HQL.out
    have HO := Lib.hid (show OwnsP tE Wd.heap.size t (.slice a5 n5 c5) ((((((W6.setCell ⟨w.heap.size + 1, 0, none⟩ (.int .u64 (E : Nat))).setCell ⟨w.heap.size + 1, 1, none⟩ (.slice (s'.a 0) (s'.n 0) (s'.c 0))).setCell ⟨w.heap.size + 1, 2, none⟩ (.slice (s'.a 1) (s'.n 1) (s'.c 1))).setCell ⟨w.heap.size + 1, 3, none⟩ (.slice (s'.a 2) (s'.n 2) (s'.c 2))).setCell ⟨w.heap.size + 1 + 1, 0, none⟩ (.int .i64 z.1)).setCell ⟨w.heap.size + 1 + 1, 1, none⟩ (.int .u64 (z.2 : Nat))) from (own_lowT (own_lowT (own_lowT (own_lowT (own_lowT (own_lowT HO.out (B := w.heap.size + 1) (by omega) 0 _) (B := w.heap.size + 1) (by omega) 1 _) (B := w.heap.size + 1) (by omega) 2 _) (B := w.heap.size + 1) (by omega) 3 _) (B := w.heap.size + 1 + 1) (by omega) 0 _) (B := w.heap.size + 1 + 1) (by omega) 1 _))
    clear z0 z1 f0 f1 ltz HQ hq9
    generalize ((((((W6.setCell ⟨w.heap.size + 1, 0, none⟩ (.int .u64 (E : Nat))).setCell ⟨w.heap.size + 1, 1, none⟩ (.slice (s'.a 0) (s'.n 0) (s'.c 0))).setCell ⟨w.heap.size + 1, 2, none⟩ (.slice (s'.a 1) (s'.n 1) (s'.c 1))).setCell ⟨w.heap.size + 1, 3, none⟩ (.slice (s'.a 2) (s'.n 2) (s'.c 2))).setCell ⟨w.heap.size + 1 + 1, 0, none⟩ (.int .i64 z.1)).setCell ⟨w.heap.size + 1 + 1, 1, none⟩ (.int .u64 (z.2 : Nat))) = X8 at *
    refine hK.out _ _ (fun h => absurd h (by decide)) ?_
    clear hK K
    try simp only [Act.put, List.setIfInBounds_toArray, List.set_cons_zero, List.set_cons_succ]
    refine wpAnyL_one (i := 11) (o := { dst := some 4, op := Go.Op.assign (Go.Operand.const (Go.Value.int Go.IntKind.i64 0)), type := 31, pos := "ref.go:100", after := #[{ on := 10, ground := Go.Ground.chain }, { on := 0, ground := Go.Ground.phase }, { on := 1, ground := Go.Ground.phase }, { on := 2, ground := Go.Ground.phase }, { on := 3, ground := Go.Ground.phase }, { on := 4, ground := Go.Ground.phase }, { on := 5, ground := Go.Ground.phase }, { on := 6, ground := Go.Ground.phase }, { on := 7, ground := Go.Ground.phase }, { on := 8, ground := Go.Ground.phase }, { on := 9, ground := Go.Ground.phase }, { on := 10, ground := Go.Ground.phase }], guard := none }) (by kernel_rfl) rfl (fun K hK => ?_)
    refine step_value_g (by rfl) (.int .i64 0) (w' := X8) (by go_simp) ?_
    refine hK.out _ _ (fun h => absurd h (by decide)) ?_
    clear hK K
    try simp only [Act.put, List.setIfInBounds_toArray, List.set_cons_zero, List.set_cons_succ]
    refine wpAnyL_end (by kernel_rfl) ?_
    go_wp2_with fail
    all_goals
      refine bodyPost_ret (results_cct rfl _ _ (w.heap.size + 1) (w.heap.size + 1 + 1) _ _ _ rfl rfl rfl (load_row HR.out Tryd.underlying26 rfl (by kernel_rfl)) (load_row HRE.out Tryd.underlying38 rfl (by kernel_rfl))) rfl ?_
      refine ⟨⟨s', by rw [hT.out]; dsimp only; rw [H3.out]; rfl, ?_, fun B hB hN => by
        have h2 := HE2.out
        rw [hT.out, HSS.out]
        exact (hN.upd ((E - 2) % 3) _ _ _ t (fun e9 => by have h9 := (World.ownsRow.lt HO.out B e9).1; have h8 := HWB.out; omega)).cong (fun k hk => by show takR E r k = _; rw [takR_at HZT.out k hk, show (E - 2) % 3 = (E + 1) % 3 by omega])⟩, HB.out⟩
      rw [hT.out]
      refine HLF.out _ HB.out s' ?_
      rw [HSS.out]
      exact lat_upd (HI0.out.below HB.out) ((E - 2) % 3) a5 n5 c5 t (OwnsP.at HO.out)
end Go.Proofs
