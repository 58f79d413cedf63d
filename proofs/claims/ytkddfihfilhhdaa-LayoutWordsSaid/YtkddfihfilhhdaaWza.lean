/- Layout: tables are compared. -/
import Derived.Test.YtkddfihfilhhdaaWz
import Derived.Test.YtkddfihfilhhdaaGz
import Derived.Laws.StructEq
import Derived.ChangeKeysEq
namespace Go.Proofs
set_option maxRecDepth 100000
open Go.RowKit Go.Shelf
attribute [local go_sem] Oper.semAt_some

/-- The fields of a struct, by their types and places. -/
theorem eqFields_of {P : Program} {d : Nat} {xs ys : Array Value} {W : World} : ∀ (fs : List Field) (ps : List (Bool × TypeId × Nat)), (fs.map fun f => (f.name != "_", f.type, f.offset)) = ps → (∀ p ∈ ps, p.1 = true) →
    ∀ (R : Bool), (∀ p ∈ ps, ∃ a b r, (part p.2.1 xs p.2.2).run P W = .ok a W ∧ (part p.2.1 ys p.2.2).run P W = .ok b W ∧ (Op.equalIn d p.2.1 a b).run P W = .ok r W ∧ (R = true → r = true)) → (R = false → ∃ p ∈ ps, ∀ a b, (part p.2.1 xs p.2.2).run P W = .ok a W → (part p.2.1 ys p.2.2).run P W = .ok b W → (Op.equalIn d p.2.1 a b).run P W = .ok false W) →
    (Op.eqFields d xs ys fs).run P W = .ok R W
  | [], ps, h1, _, R, _, h4 => by
    subst h1
    cases R with
    | true => simp [Op.eqFields]
    | false => obtain ⟨p, hp, _⟩ := h4 rfl; simp at hp
  | f :: fs, [], h1, _, _, _, _ => by simp at h1
  | f :: fs, p :: ps, h1, h2, R, h3, h4 => by
    simp only [List.map_cons, List.cons.injEq] at h1
    obtain ⟨e, h1⟩ := h1
    subst e
    have hn : f.name ≠ "_" := by
      have := h2 (f.name != "_", f.type, f.offset) (by simp)
      simpa using this
    obtain ⟨a, b, r, q1, q2, q3, q4⟩ := h3 (f.name != "_", f.type, f.offset) (by simp)
    dsimp only at q1 q2 q3
    simp only [Op.eqFields, Sem.run_bind, Sem.run_ite, if_pos hn, q1, q2, q3, Result.andThen_ok]
    cases r with
    | false =>
      have : R = false := by cases R with | false => rfl | true => exact absurd (q4 rfl) (by decide)
      subst this
      simp
    | true =>
      simp only [Bool.not_true, Bool.false_eq_true, if_false]
      refine eqFields_of fs ps h1 (fun p hp => h2 p (by simp [hp])) R (fun p hp => h3 p (by simp [hp])) (fun hR => ?_)
      obtain ⟨p, hp, hf⟩ := h4 hR
      rcases List.mem_cons.1 hp with rfl | hp
      · have := hf a b q1 q2
        rw [q3] at this
        cases this
      · exact ⟨p, hp, hf⟩
theorem part_plain {P : Program} {W : World} {t : TypeId} {xs : Array Value} {o : Nat} {v : Value} (ha : (isAgg t).run P W = .ok false W) (h : xs[o]? = some v) : (part t xs o).run P W = .ok v W := by
  simp [part, Sem.run_bind, ha, h]
theorem part_agg {P : Program} {W : World} {t : TypeId} {xs : Array Value} {o n : Nat} (ha : (isAgg t).run P W = .ok true W) (hs : (P.info? t).map (·.size) = some n) : (part t xs o).run P W = .ok (.agg (xs.extract o (o + n))) W := by
  cases hq : P.info? t with
  | none => simp [hq] at hs
  | some i =>
    have hs' : i.size = n := by simpa [hq] using hs
    simp [part, Sem.run_bind, ha, sizeOf, typeInfo, hq, hs']
theorem Try.undTable : Try.prog.underlying 49 = some (.struct (Try.prog.fieldsOf 49)) := by kernel_rfl
theorem Try.fldTable : ((Try.prog.fieldsOf 49).toList.map fun f => (f.name != "_", f.type, f.offset)) = [(true, 34, 0), (true, 3, 1), (true, 34, 2), (true, 3, 3), (true, 3, 4), (true, 46, 5), (true, 47, 7), (true, 47, 23)] := by kernel_rfl
theorem Try.infoA2 : (Try.prog.info? 46).map (·.size) = some 2 := by kernel_rfl
theorem Try.infoA16 : (Try.prog.info? 47).map (·.size) = some 16 := by kernel_rfl
theorem Try.infoU : (Try.prog.info? 34).map (·.size) = some 1 := by kernel_rfl
theorem Try.aggU (W : World) : (isAgg 34).run Try.prog W = .ok false W := run_isAgg_plain Try.underlying34 rfl W
theorem Try.aggI (W : World) : (isAgg 3).run Try.prog W = .ok false W := run_isAgg_plain Try.underlying3 rfl W
theorem Try.szU (W : World) : (sizeOf 34).run Try.prog W = .ok 1 W := by
  have h := Try.infoU
  cases hq : Try.prog.info? 34 with
  | none => simp [hq] at h
  | some i =>
    have : i.size = 1 := by simpa [hq] using h
    simp [sizeOf, typeInfo, hq, this]
theorem Try.eqU (d : Nat) (x : Int) (W : World) : (Op.equalIn (d + 1) 34 (.int .u64 x) (.int .u64 x)).run Try.prog W = .ok true W := by
  rw [run_equalIn_int W d 34 .u64 .u64 _ _ Try.underlying34]; simp
theorem Try.eqI (d : Nat) (x : Int) (W : World) : (Op.equalIn (d + 1) 3 (.int .i64 x) (.int .i64 x)).run Try.prog W = .ok true W := by
  rw [run_equalIn_int W d 3 .i64 .i64 _ _ Try.underlying3]; simp
theorem Try.eqAll (d : Nat) (xs : Array Value) (W : World) : ∀ (is : List Nat), (∀ i ∈ is, ∃ z : Int, xs[i]? = some (.int .u64 z)) → (Op.eqItems (d + 1) 34 1 xs xs is).run Try.prog W = .ok true W
  | [], _ => by simp [Op.eqItems]
  | i :: is, h => by
    obtain ⟨z, hz⟩ := h i (by simp)
    have hp : (part 34 xs (i * 1)).run Try.prog W = .ok (.int .u64 z) W := part_plain (Try.aggU W) (by rw [Nat.mul_one]; exact hz)
    simp only [Op.eqItems, Sem.run_bind, hp, Result.andThen_ok, Try.eqU d z W]
    simp only [Bool.not_true, Bool.false_eq_true, if_false]
    exact Try.eqAll d xs W is (fun j hj => h j (by simp [hj]))
theorem Try.cellsU : Try.prog.cellsOf 34 = 1 := by kernel_rfl
theorem map_cell (f : Nat → Int) (n i : Nat) (h : i ∈ List.range n) : ∃ z : Int, (((List.range n).map fun j => Value.int .u64 (f j)).toArray)[i]? = some (.int .u64 z) := by
  have hi : i < n := List.mem_range.1 h
  exact ⟨f i, by simp [hi]⟩
theorem Try.eqA2 (f : Nat → Int) (W : World) : (Op.equalIn 9999 46 (.agg ((List.range 2).map fun j => Value.int .u64 (f j)).toArray) (.agg ((List.range 2).map fun j => Value.int .u64 (f j)).toArray)).run Try.prog W = .ok true W := by
  obtain ⟨i, hi⟩ : ∃ i, Try.prog.info? 34 = some i := by
    have h := Try.infoU
    cases hq : Try.prog.info? 34 with
    | none => simp [hq] at h
    | some i => exact ⟨i, rfl⟩
  rw [run_equalIn_array W 9998 _ _ Try.underlying46 hi, Try.cellsU]
  exact Try.eqAll 9997 _ W _ (fun i hi => map_cell f 2 i hi)
theorem Try.agA2 (W : World) : (isAgg 46).run Try.prog W = .ok true W := by
  unfold isAgg
  rw [Sem.run_bind, run_underlying Try.underlying46 W]
  rfl
theorem Try.eqA16 (f : Nat → Int) (W : World) : (Op.equalIn 9999 47 (.agg ((List.range 16).map fun j => Value.int .u64 (f j)).toArray) (.agg ((List.range 16).map fun j => Value.int .u64 (f j)).toArray)).run Try.prog W = .ok true W := by
  obtain ⟨i, hi⟩ : ∃ i, Try.prog.info? 34 = some i := by
    have h := Try.infoU
    cases hq : Try.prog.info? 34 with
    | none => simp [hq] at h
    | some i => exact ⟨i, rfl⟩
  rw [run_equalIn_array W 9998 _ _ Try.underlying47 hi, Try.cellsU]
  exact Try.eqAll 9997 _ W _ (fun i hi => map_cell f 16 i hi)
theorem Try.agA16 (W : World) : (isAgg 47).run Try.prog W = .ok true W := by
  unfold isAgg
  rw [Sem.run_bind, run_underlying Try.underlying47 W]
  rfl
theorem tc_part (t : Tb) (hl : t.ws.length = 34) (a m : Nat) (h : a + m ≤ 34) : (tc t).extract (5 + a) (5 + a + m) = ((List.range m).map fun j => Value.int .u64 (wd t.ws (a + j))).toArray := by
  have hz := tc_size t hl
  apply Array.ext
  · simp [hz]; omega
  · intro j h1 h2
    have hj : j < m := by simpa using h2
    have h3 := tc_w t (a + j)
    have h4 : (wordVals t.ws)[a + j]? = some (.int .u64 (wd t.ws (a + j))) := by
      simp [wordVals, wd, List.getElem?_eq_getElem (show a + j < t.ws.length by omega)]
    rw [h4, ← Nat.add_assoc] at h3
    have h5 : 5 + a + j < (tc t).size := by omega
    rw [Array.getElem?_eq_getElem h5] at h3
    simp only [Array.getElem_extract, List.getElem_toArray, List.getElem_map, List.getElem_range]
    exact Option.some.inj h3
/-- A table is itself. -/
theorem Try.eqTable (t : Tb) (hl : t.ws.length = 34) (W : World) : (Op.equalIn 10000 49 (.agg (tc t)) (.agg (tc t))).run Try.prog W = .ok true W := by
  rw [run_equalIn_struct W 9999 49 (tc t) (tc t) Try.undTable (by kernel_rfl)]
  refine eqFields_of _ _ Try.fldTable (by simp) _ ?_ (by simp)
  intro p hp
  simp only [List.mem_cons, List.not_mem_nil, or_false] at hp
  rcases hp with rfl | rfl | rfl | rfl | rfl | rfl | rfl | rfl
  · exact ⟨_, _, true, part_plain (Try.aggU W) (tc_0 t), part_plain (Try.aggU W) (tc_0 t), Try.eqU 9998 _ W, fun _ => rfl⟩
  · exact ⟨_, _, true, part_plain (Try.aggI W) (tc_1 t), part_plain (Try.aggI W) (tc_1 t), Try.eqI 9998 _ W, fun _ => rfl⟩
  · exact ⟨_, _, true, part_plain (Try.aggU W) (tc_2 t), part_plain (Try.aggU W) (tc_2 t), Try.eqU 9998 _ W, fun _ => rfl⟩
  · exact ⟨_, _, true, part_plain (Try.aggI W) (tc_3 t), part_plain (Try.aggI W) (tc_3 t), Try.eqI 9998 _ W, fun _ => rfl⟩
  · exact ⟨_, _, true, part_plain (Try.aggI W) (tc_4 t), part_plain (Try.aggI W) (tc_4 t), Try.eqI 9998 _ W, fun _ => rfl⟩
  · refine ⟨_, _, true, part_agg (Try.agA2 W) Try.infoA2, part_agg (Try.agA2 W) Try.infoA2, ?_, fun _ => rfl⟩
    dsimp only
    rw [show (5 : Nat) + 2 = 5 + 0 + 2 from rfl, show (tc t).extract 5 (5 + 0 + 2) = _ from tc_part t hl 0 2 (by omega)]
    exact Try.eqA2 (fun j => wd t.ws (0 + j)) W
  · refine ⟨_, _, true, part_agg (Try.agA16 W) Try.infoA16, part_agg (Try.agA16 W) Try.infoA16, ?_, fun _ => rfl⟩
    dsimp only
    rw [show (tc t).extract 7 (7 + 16) = _ from tc_part t hl 2 16 (by omega)]
    exact Try.eqA16 (fun j => wd t.ws (2 + j)) W
  · refine ⟨_, _, true, part_agg (Try.agA16 W) Try.infoA16, part_agg (Try.agA16 W) Try.infoA16, ?_, fun _ => rfl⟩
    dsimp only
    rw [show (tc t).extract 23 (23 + 16) = _ from tc_part t hl 18 16 (by omega)]
    exact Try.eqA16 (fun j => wd t.ws (18 + j)) W
theorem wpList_neqV {P : Program} {ops : Array Oper} {rest : List Oper} {o : Oper} {a : Act} {w : World} {Q : Exit → Act → World → Prop} (t : TypeId) (x y : Operand) (ho : o.op = .binOp .neq t x y t) (xs ys : Array Value) (hx : a.eval x = .agg xs) (hy : a.eval y = .agg ys)
    (hm : P.eqGuardType P.depth t = false) (b : Bool) (hb : (Op.equalIn 10000 t (.agg xs) (.agg ys)).run P w = .ok b w) (hw : Region.wanted o (yielded ops a.tmps) = true) (h : wpList P ops Q rest (a.put o.dst (.bool (!b))) w) : wpList P ops Q (o :: rest) a w := by
  unfold wpList
  rw [if_pos hw]
  refine .inl ?_
  unfold Oper.wp
  rw [exec_neq t x y ho xs ys hx hy hm b hb]
  exact h
theorem Try.grdTable : Try.prog.eqGuardType Try.prog.depth 49 = false := by kernel_rfl
end Go.Proofs
