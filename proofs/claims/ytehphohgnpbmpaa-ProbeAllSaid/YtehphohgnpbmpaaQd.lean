/- kept: a row in an array. -/
import Derived.Test.YtehphohgnpbmpaaQc
import Derived.Deep.WholeRow
import Derived.Laws.EntriesVeiled
namespace Go.Proofs
open Go.RowKit Go.Shelf
attribute [local go_sem] Oper.semAt_some

/-- Sixty-four numbers in a block. -/
def arr64 (f : Nat → Nat) : Array Value := ((List.range 64).map fun i => Value.int .i64 (f i : Int)).toArray
theorem arr64_size (f : Nat → Nat) : (arr64 f).size = 64 := by simp [arr64]
theorem arr64_get (f : Nat → Nat) (k : Nat) (h : k < 64) : (arr64 f)[k]? = some (.int .i64 (f k : Int)) := by
  simp [arr64, h]
theorem arr64_set (f : Nat → Nat) (k z : Nat) : (arr64 f).setIfInBounds k (.int .i64 (z : Int)) = arr64 (fun n => if n = k then z else f n) := by
  apply Array.ext_getElem?
  intro i
  by_cases hi : i < 64
  · rw [arr64_get _ _ hi]
    by_cases e : k = i
    · subst e
      rw [Array.getElem?_setIfInBounds_self, if_pos (by rw [arr64_size]; exact hi), if_pos rfl]
    · rw [Array.getElem?_setIfInBounds_ne e, arr64_get _ _ hi, if_neg (fun e2 => e e2.symm)]
  · rw [Array.getElem?_eq_none (by rw [Array.size_setIfInBounds, arr64_size]; omega), Array.getElem?_eq_none (by rw [arr64_size]; omega)]
theorem arr64_one (f : Nat → Nat) : (arr64 f).all (·.oneCell') = true := by
  simp [arr64, Value.oneCell']
theorem arr64_congr {f h : Nat → Nat} (e : ∀ i, i < 64 → f i = h i) : arr64 f = arr64 h := by
  unfold arr64
  congr 1
  refine List.map_congr_left fun i hi => ?_
  rw [e i (List.mem_range.1 hi)]
theorem Rows8.set64 {W : World} {B : Nat} {t : TypeId} {f : Nat → Nat} (h : Rows8 W B t (arr64 f)) (k z : Nat) : Rows8 (W.setCell ⟨B, k, none⟩ (.int .i64 (z : Int))) B t (arr64 (fun n => if n = k then z else f n)) := by
  rw [← arr64_set f k z]
  exact h.set k _
/-- What the array holds behind so many rounds. -/
def keptF (g l m : Nat) (n : Nat) : Nat := if n < m then rowAt g l n else 0
theorem keptF_succ (g l m : Nat) : (fun n => if n = m then rowAt g l m else keptF g l m n) = keptF g l (m + 1) := by
  funext n
  unfold keptF
  by_cases e : n = m
  · subst e; simp
  · rw [if_neg e]
    by_cases h : n < m
    · rw [if_pos h, if_pos (by omega)]
    · rw [if_neg h, if_neg (by omega)]
theorem pre_next {g l : Nat} {pre : List (Nat × Nat)} {x : Nat × Nat} (h : pre ++ [x] <+: rowL g l) : pre.length < g ∧ x = (pre.length, rowAt g l pre.length) := by
  have hl := h.length_le
  rw [rowL_len, List.length_append, List.length_singleton] at hl
  have h2 := List.IsPrefix.getElem h (i := pre.length) (by simp)
  rw [rowL_get] at h2
  rw [List.getElem_append_right (by omega)] at h2
  simp at h2
  exact ⟨by omega, h2⟩
theorem Rows8.loadFrom {P : Program} {W : World} {B : Nat} {t : TypeId} {cs : Array Value} (h : Rows8 W B t cs) (n : Nat) (hn : cs.size = n) : (loadCellsFrom ⟨B, 0, none⟩ 0 n #[]).run P W = .ok cs W := by
  subst hn
  have := run_loadCells_list (P := P) W ⟨B, 0, none⟩ cs.toList (fun j v hv => by
    have hadd : (⟨B, 0, none⟩ : Addr).add j = ⟨B, j, none⟩ := by unfold Addr.add; split <;> simp_all
    rw [hadd, h.cell j]
    simpa using hv)
  simpa [loadCells] using this
theorem Rows8.storeFrom {P : Program} {W : World} {B : Nat} {t : TypeId} {old cs : Array Value} (h : Rows8 W B t old) (ho : old.size = cs.size) (h1 : cs.all (·.oneCell') = true) : (storeCells ⟨B, 0, none⟩ cs.toList 0).run P W = .ok () (W.setRow B cs) := by
  have := run_storeCells_from (P := P) B t cs.toList 0 old W h (by simp; omega) (fun v hv => (Array.all_eq_true_iff_forall_mem.1 h1) v (by simpa using hv))
  simpa using this
theorem Rows8.setRow {W : World} {B : Nat} {t : TypeId} {old : Array Value} (h : Rows8 W B t old) (cs : Array Value) : Rows8 (W.setRow B cs) B t cs := setRow_heap W B old cs t (0, 0) h
/-- A variable of any type is read, or written, whole: as a walk meets it. -/
theorem wpListIn_loadVar {F : Fence} {n : Nat} {P : Program} {ops : Array Oper} {rest : List Oper} {o : Oper} {a : Act} {w : World} {Q : Exit → Act → World → Prop} (hgd : o.guard = none) (ty : TypeId) (x : Operand) (ho : o.op = .load ty x)
    (p : Addr) (v : Value) (hx : a.eval x = .pointer (some p)) (hl : (loadVar ty p).run P w = .ok v w) (h : wpListIn F n P ops Q rest (a.put o.dst v) w) : wpListIn F n P ops Q (o :: rest) a w := by
  refine wpListIn_plain hgd fun K hK => ?_
  unfold Oper.wpIn
  refine ⟨by simp [Oper.about, ho], ?_⟩
  rw [Oper.semAt_plain F _ _ (by rw [ho]; intro c hc; cases hc)]
  simp only [execOp, ho, hx, Instr.loadAt, Instr.sureAddr, Sem.run_bind, Sem.run_pure, Result.andThen_ok, hl]
  exact hK _ _ h
theorem wpListIn_storeVar {F : Fence} {n : Nat} {P : Program} {ops : Array Oper} {rest : List Oper} {o : Oper} {a : Act} {w w' : World} {Q : Exit → Act → World → Prop} (hgd : o.guard = none) (ty : TypeId) (x y : Operand) (ho : o.op = .store ty x y)
    (p : Addr) (v : Value) (hx : a.eval x = .pointer (some p)) (hy : a.eval y = v) (hl : (storeVar ty p v).run P w = .ok () w') (h : wpListIn F n P ops Q rest (a.put o.dst undef) w') : wpListIn F n P ops Q (o :: rest) a w := by
  refine wpListIn_plain hgd fun K hK => ?_
  unfold Oper.wpIn
  refine ⟨by simp [Oper.about, ho], ?_⟩
  rw [Oper.semAt_plain F _ _ (by rw [ho]; intro c hc; cases hc)]
  simp only [execOp, ho, hx, hy, Instr.storeAt, Instr.sureAddr, Sem.run_bind, Sem.run_pure, Result.andThen_ok, hl]
  exact hK _ _ h
theorem wpList_loadVar {P : Program} {ops : Array Oper} {rest : List Oper} {o : Oper} {a : Act} {w : World} {Q : Exit → Act → World → Prop} (hgd : o.guard = none) (ty : TypeId) (x : Operand) (ho : o.op = .load ty x)
    (p : Addr) (v : Value) (hx : a.eval x = .pointer (some p)) (hl : (loadVar ty p).run P w = .ok v w) (h : wpList P ops Q rest (a.put o.dst v) w) : wpList P ops Q (o :: rest) a w := by
  refine wpList_plain hgd fun K hK => ?_
  unfold Oper.wp
  simp only [execOp, ho, hx, Instr.loadAt, Instr.sureAddr, Sem.run_bind, Sem.run_pure, Result.andThen_ok, hl]
  exact hK _ _ h
theorem wpList_storeVar {P : Program} {ops : Array Oper} {rest : List Oper} {o : Oper} {a : Act} {w w' : World} {Q : Exit → Act → World → Prop} (hgd : o.guard = none) (ty : TypeId) (x y : Operand) (ho : o.op = .store ty x y)
    (p : Addr) (v : Value) (hx : a.eval x = .pointer (some p)) (hy : a.eval y = v) (hl : (storeVar ty p v).run P w = .ok () w') (h : wpList P ops Q rest (a.put o.dst undef) w') : wpList P ops Q (o :: rest) a w := by
  refine wpList_plain hgd fun K hK => ?_
  unfold Oper.wp
  simp only [execOp, ho, hx, hy, Instr.storeAt, Instr.sureAddr, Sem.run_bind, Sem.run_pure, Result.andThen_ok, hl]
  exact hK _ _ h
theorem Try.info64 : (Try.prog.info? 53).map (·.size) = some 64 := by kernel_rfl
theorem zero64 : arr64 (fun _ => 0) = #[.int .i64 0, .int .i64 0, .int .i64 0, .int .i64 0, .int .i64 0, .int .i64 0, .int .i64 0, .int .i64 0, .int .i64 0, .int .i64 0, .int .i64 0, .int .i64 0, .int .i64 0, .int .i64 0, .int .i64 0, .int .i64 0, .int .i64 0, .int .i64 0, .int .i64 0, .int .i64 0, .int .i64 0, .int .i64 0, .int .i64 0, .int .i64 0, .int .i64 0, .int .i64 0, .int .i64 0, .int .i64 0, .int .i64 0, .int .i64 0, .int .i64 0, .int .i64 0, .int .i64 0, .int .i64 0, .int .i64 0, .int .i64 0, .int .i64 0, .int .i64 0, .int .i64 0, .int .i64 0, .int .i64 0, .int .i64 0, .int .i64 0, .int .i64 0, .int .i64 0, .int .i64 0, .int .i64 0, .int .i64 0, .int .i64 0, .int .i64 0, .int .i64 0, .int .i64 0, .int .i64 0, .int .i64 0, .int .i64 0, .int .i64 0, .int .i64 0, .int .i64 0, .int .i64 0, .int .i64 0, .int .i64 0, .int .i64 0, .int .i64 0, .int .i64 0] := by rfl
set_option maxRecDepth 100000 in
set_option maxHeartbeats 4000000 in
theorem Try.kept_any (g h : Nat) (hg : 1 ≤ g) (hg2 : g ≤ 64) (hh : h < 18446744073709551616) (w : World) :
    Calls Try.prog 30 #[.int .i64 (g : Int), .int .u64 (h : Int)] w fun e w' => e = .returned (.agg (arr64 (keptF g (h % g) g))) ∧ Below w.heap.size w w' := by
  refine (callsIn_wide (n := 9)).1 ?_
  refine callsIn_of_wp_marks Try.func30 rfl trivial ?_ rfl
  simp only [Try.ntmps30, List.size_toArray, List.length_cons, List.length_nil, Nat.reduceAdd, Nat.reduceSub, Array.replicate_succ, Array.replicate_zero, List.push_toArray, List.append_toArray, List.nil_append, List.cons_append]
  have HRo := fun W' => Lib.hid (Try.row_any (g : Int) (h : Int) W')
  gi_wp2_with fail
  refine ⟨trivial, ?_⟩
  refine (callsIn_wide.2 (HRo _).out).mono ?_
  rintro e W0 ⟨rfl, hW0⟩
  rw [← zero64] at hW0
  have hBc : Below w.heap.size w W0 := by
    rw [hW0]
    exact ((((Below.refl _ w).alloc (Nat.le_refl _) _).alloc (by simp) _).alloc (by simp; omega) _).alloc (by simp; omega) _
  have r0 : Rows8 W0 w.heap.size 53 (arr64 fun _ => 0) := by
    rw [hW0]
    exact (((Rows8.new w _ _).alloc _).alloc _).alloc _
  have r1 : Rows8 W0 (w.heap.size + 1) 53 (arr64 fun _ => 0) := by
    rw [hW0]
    exact ((rows_new2 w _ _ _).alloc _).alloc _
  have r2 : Rows8 W0 (w.heap.size + 1 + 1) 3 #[.int .i64 (g : Int)] := by
    rw [hW0]
    have h := Rows8.new ((w.alloc (.cells (arr64 fun _ => 0) 53)).alloc (.cells (arr64 fun _ => 0) 53)) 3 #[.int .i64 (g : Int)]
    rw [World.size_alloc, World.size_alloc] at h
    exact h.alloc _
  have r3 : Rows8 W0 (w.heap.size + 1 + 1 + 1) 22 #[.int .u64 (h : Int)] := by
    rw [hW0]
    have h := Rows8.new (((w.alloc (.cells (arr64 fun _ => 0) 53)).alloc (.cells (arr64 fun _ => 0) 53)).alloc (.cells #[.int .i64 (g : Int)] 3)) 22 #[.int .u64 (h : Int)]
    rw [World.size_alloc, World.size_alloc, World.size_alloc] at h
    exact h
  have hz : W0.heap.size = w.heap.size + 4 := by rw [hW0]; simp
  clear hW0
  rw [World.size_alloc, World.size_alloc]
  gi_wp2_with fail
  have hl : h % g < g := Nat.mod_lt _ hg
  have HTL := Lib.hid (Try.row1_tells 8 (by decide) g h hg hg2 hh (w.heap.size + 1 + 1) (w.heap.size + 1 + 1 + 1) W0 (Kt w.heap.size 53 53) (Kt.refl _ _ _) kt_t (fun A B k r => k.rows r (by decide) (by decide)) r2 r3)
  generalize hlE : h % g = l at *
  have HLE := Lib.hid hlE
  clear hlE
  refine range_tellsD rfl (by decide) (gf := 42) (lb := #[.pointer (some ⟨w.heap.size + 1 + 1, 0, none⟩), .pointer (some ⟨w.heap.size + 1 + 1 + 1, 0, none⟩)]) rfl trivial (fun _ _ => by kernel_rfl) HTL.out kt_t kt_b (Below.refl _ _) (fun _ => rfl)
    (fun pre W' => Rows8 W' w.heap.size 53 (arr64 fun _ => 0) ∧ Rows8 W' (w.heap.size + 1) 53 (arr64 (keptF g l pre.length)) ∧ Below w.heap.size w W')
    (fun _ _ _ => False)
    (OwnFrom.and (Own.from (Rows8.own _ _ _) _) (OwnFrom.and (Own.from (Rows8.own _ _ _) _) (ownFrom_below (Nat.le_refl _) (by omega))))
    (fun _ _ _ _ _ hs _ _ => hs)
    (fun s X Y hs hXY => ⟨hs.1.below hXY hs.1.lt, hs.2.1.below hXY hs.2.1.lt, hs.2.2.trans (hXY.mono hs.2.2.size)⟩)
    (fun _ _ _ _ hs _ => hs)
    ⟨r0, by rw [show keptF g l ([] : List (Nat × Nat)).length = fun _ => 0 from by funext n; simp [keptF]]; exact r1, hBc⟩
    (fun x a' W' => a' = { tmps := #[.int .i64 (g : Int), .int .u64 (h : Int), undef, undef, .pointer (some ⟨w.heap.size, 0, none⟩), .pointer (some ⟨w.heap.size + 1, 0, none⟩), .int .i64 (x.1 : Int), .int .i64 (x.2 : Int), .int .i64 (g : Int), .int .u64 (h : Int), .func (.func 42) #[] #[.pointer (some ⟨w.heap.size + 1 + 1, 0, none⟩), .pointer (some ⟨w.heap.size + 1 + 1 + 1, 0, none⟩)], .int .i64 (x.1 : Int), .int .i64 (x.2 : Int), undef, undef, undef, undef], defers := [] })
    (fun x a' s X Y row hs hg hr => hs) ?assign ?body ?done ?stop
  case assign =>
    rintro l2 pre ⟨p1, p2⟩ W' K hI hK
    unfold encQ
    gi_wp2_with fail
    exact hK _ _ (keepsFrom_below (Below.refl _ _)) (Kt.refl _ _ _ _) hI rfl
  case body =>
    rintro l2 pre x a' W' ⟨h0, h1, hB⟩ rfl hok
    obtain ⟨hlt, rfl⟩ := pre_next hok
    have hap : (pre ++ [(pre.length, rowAt g l pre.length)]).length = pre.length + 1 := by simp
    have hk64 : pre.length < 64 := by omega
    have hkI : (pre.length : Int) < 64 := by omega
    have hs1 := h1.set64 pre.length (rowAt g l pre.length)
    rw [keptF_succ] at hs1
    have hB2 := Lib.hid (hB.setCell (p := ⟨w.heap.size + 1, pre.length, none⟩) (by simp) (.int .i64 (rowAt g l pre.length : Int)))
    have hs0 := h0.setOther (a := ⟨w.heap.size + 1, pre.length, none⟩) (by simp) (.int .i64 (rowAt g l pre.length : Int))
    have hkt := Lib.hid ((Kt.refl w.heap.size 53 53 W').set (a := ⟨w.heap.size + 1, pre.length, none⟩) h1 (by simp) (.inl rfl) (.int .i64 (rowAt g l pre.length : Int)))
    have hcx := h1.cell pre.length
    rw [arr64_get _ _ hk64] at hcx
    have hfx := h1.frozen pre.length
    have HS0 := Lib.hid hs0
    have HS1 := Lib.hid hs1
    rw [← hap] at HS1
    generalize rowAt g l pre.length = ga at *
    have hhl := h1.lt
    clear hs0 hs1 h0 h1 hB hap hok
    gi_wp2_with fail
    exact ⟨(KeepsOthers.setCell _ _ _).from _, hkt.out, HS0.out, HS1.out, hB2.out⟩
  case done =>
    rintro D ys W' hD hys ⟨h0, h1, hB⟩ hK
    have hlen : ys.length = g := by rw [hys, rowL_len]
    rw [hlen] at h1
    have hld := run_loadVar_row (P := Try.prog) W' (w.heap.size + 1) 53 53 _ (0, 0) _ h1 Try.underlying53 rfl (by rw [arr64_size]; exact Try.info64)
    have hst := run_storeVar_row (P := Try.prog) W' w.heap.size 53 53 _ (arr64 (keptF g l g)) h0 (by rw [arr64_size]; exact Try.info64) (by rw [arr64_size, arr64_size]) (arr64_one _)
    have hr := h0.setRow (arr64 (keptF g l g))
    have hne : D ≠ w.heap.size := by omega
    have hK2 : (W'.setRow w.heap.size (arr64 (keptF g l g))).heap[D]? = some (.deferred (some [])) := (setRow_other _ _ _ _ hne).trans hK
    have hB2 : Below w.heap.size w (W'.setRow w.heap.size (arr64 (keptF g l g))) := below_setRow hB (Nat.le_refl _) _
    have HS := arr64_size (keptF g l g)
    have HR := Lib.hid hr
    have HK2 := Lib.hid hK2
    have HB2 := Lib.hid hB2
    generalize hAE : arr64 (keptF g l g) = A at *
    have HAE := Lib.hid hAE
    clear hAE
    clear h0 h1 hB hys hlen hr hK2 hB2 hK
    gi_wp2_with (first | (refine wpListIn_loadVar rfl _ _ rfl ⟨w.heap.size + 1, 0, none⟩ (.agg A) rfl hld ?_) | (refine wpListIn_storeVar rfl _ _ _ rfl ⟨w.heap.size, 0, none⟩ (.agg A) rfl rfl hst ?_))
    refine ⟨by simp, .inl ⟨_, _, rfl, run_takeDeferred HK2.out, ?_⟩⟩
    refine ⟨_, results_cell_row rfl _ _ w.heap.size 53 A (0, 0) _ (by simp [Act.put]) (rows_put HR.out HK2.out) Try.underlying53 rfl (by rw [HS]; exact Try.info64), ?_⟩
    refine ⟨by rw [HLE.out, HAE.out], HB2.out.trans (belowK_b (w := w) (Nat.le_refl _) _ D _ _ (by omega) HK2.out rfl rfl)⟩
  case stop =>
    rintro D c pre W' _ _ h _
    exact h.elim
end Go.Proofs
