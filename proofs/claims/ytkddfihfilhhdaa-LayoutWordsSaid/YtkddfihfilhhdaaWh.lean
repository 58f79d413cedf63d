/- Layout: a row: rowOf, cut, put. -/
import Derived.Test.YtkddfihfilhhdaaWg
namespace Go.Proofs
set_option maxRecDepth 100000
open Go.RowKit Go.Shelf
attribute [local go_sem] Oper.semAt_some

theorem run_copy_rowK {P : Program} (w : World) (dT sT ty elem : TypeId) (g o dLen dCap : Nat) (a : Addr) (sLen sCap : Nat) (cur : Array Value) (t : TypeId) (cs : List Value) (k : Nat)
    (hu : P.underlying dT = some (.slice elem)) (hs : (P.info? elem).map (·.size) = some k)
    (hg : w.heap[g]? = some (.cells cur t (0, 0))) (hn : cs.length = Nat.min sLen dLen * k)
    (hsrc : ∀ j v, cs[j]? = some v → w.cell? (a.add j) = some v) (hfit : o + cs.length ≤ cur.size) (h1 : ∀ v ∈ cs, v.oneCell' = true) :
    (Builtin.copy_ #[dT, sT] ty #[.slice (some ⟨g, o, none⟩) dLen dCap, .slice (some a) sLen sCap]).run P w =
      .ok (goInt (Nat.min sLen dLen)) (w.setRow g (cur.toList.take o ++ cs ++ cur.toList.drop (o + cs.length)).toArray) := by
  have hl := run_loadCells_list (P := P) w a cs hsrc
  have hst := run_storeCells_at P g o t cs 0 cur w hg (by simpa using hfit) h1
  cases hq : P.info? elem with
  | none => simp [hq] at hs
  | some i =>
    have hi : i.size = k := by simpa [hq] using hs
    simp [Builtin.copy_, run_underlying hu, Builtin.lenOf, Builtin.firstCells, sizeOf, typeInfo, hq, hi, ← hn, hl, hst]
theorem wpList_copyK {P : Program} {w : World} {ops : Array Oper} {rest : List Oper} {o : Oper} {a : Act} {Q : Exit → Act → World → Prop} (hgd : o.guard = none) (d s : Operand) (dT sT : TypeId)
    (ho : o.op = .call { callee := .builtin .copy, args := #[d, s], argTypes := #[dT, sT] }) (vd vs : Value) (hd : a.eval d = vd) (hs : a.eval s = vs) (r : Value) (w' : World)
    (hrun : (Builtin.copy_ #[dT, sT] o.type #[vd, vs]).run P w = .ok r w') (h : wpList P ops Q rest (a.put o.dst r) w') : wpList P ops Q (o :: rest) a w := by
  refine wpList_plain hgd fun K hK => ?_
  unfold Oper.wp
  simp [execOp, ho, resolve, invoke, builtin, hd, hs, hrun, Result.andThen]
  exact hK _ _ h
set_option maxHeartbeats 1000000 in
theorem Try.cut_any (B off n c k m : Nat) (q : Int) (h1 : k + m ≤ n) (h2 : n ≤ c) (h3 : c ≤ maxLen) (h4 : 0 < m) (w : World) :
    Calls Try.prog 88 #[.agg #[.slice (some ⟨B, off, none⟩) n c, .int .i64 q], .int .i64 (k : Int), .int .i64 (m : Int)] w fun e w' => e = .returned (.slice (some ⟨B, off + k, none⟩) m m) ∧ Below w.heap.size w w' := by
  obtain ⟨W0, hW0⟩ : ∃ W, W = w.alloc (.cells #[.slice (some ⟨B, off, none⟩) n c, .int .i64 q] 110) := ⟨_, rfl⟩
  have hr : Rows8 W0 w.heap.size 110 #[.slice (some ⟨B, off, none⟩) n c, .int .i64 q] := by rw [hW0]; exact Rows8.new _ _ _
  have HB : Hid (Below w.heap.size w W0) := Lib.hid (by rw [hW0]; exact Rows8.newB)
  have c0 : W0.cell? ⟨w.heap.size, 0, none⟩ = some (.slice (some ⟨B, off, none⟩) n c) := hr.cell 0
  clear hr
  unfold maxLen at h3
  have hwr : IntKind.i64.wrap ((k : Int) + m) = ((k + m : Nat) : Int) := by rw [IntWalk.i64_in _ (by omega)]; omega
  have hk : ¬ (k = c) := by omega
  have hkm : k ≤ k + m := by omega
  have hkc : k + m ≤ c := by omega
  have hsub : k + m - k = m := by omega
  go_enter Try.func88, Try.ntmps88
  go_upto_region 1 with fail
  rw [← hW0]
  clear hW0
  go_wp2_with fail
  go_ret
  exact ⟨by simp [hsub], HB.out⟩
theorem But.setRow {h x : Nat} {A B : World} (p : But h x A B) (cs : Array Value) : But h x A (B.setRow x cs) :=
  p.trans ⟨rfl, rfl, rfl, by simp [World.setRow], fun k _ hk => setRow_other B x k cs (by omega)⟩
theorem wordVals_splice (ws vs : List Int) (k : Nat) : (wordVals ws).take k ++ wordVals vs ++ (wordVals ws).drop (k + (wordVals vs).length) = wordVals (splice ws k vs) := by
  simp [wordVals, splice, List.map_take, List.map_drop]
set_option maxHeartbeats 1000000 in
theorem Try.put_any (B : Nat) (ws : List Int) (k : Nat) (q : Int) (x : Addr) (n c : Nat) (vs : List Int) (w : World) (hR : Rows8 w B 34 (wordVals ws).toArray) (hl : ws.length = 40) (hv : WordsAt w (.slice (some x) n c) vs) (hn : n = vs.length) (hk : k + n ≤ 40) (h0 : 0 < n) :
    Calls Try.prog 79 #[.agg #[.slice (some ⟨B, 0, none⟩) 40 40, .int .i64 q], .int .i64 (k : Int), .slice (some x) n c] w fun e w' => e = .returned (.tuple #[]) ∧ Rows8 w' B 34 (wordVals (splice ws k vs)).toArray ∧ But w.heap.size B w w' := by
  obtain ⟨W0, hW0⟩ : ∃ W, W = w.alloc (.cells #[.slice (some ⟨B, 0, none⟩) 40 40, .int .i64 q] 110) := ⟨_, rfl⟩
  have hr : Rows8 W0 w.heap.size 110 #[.slice (some ⟨B, 0, none⟩) 40 40, .int .i64 q] := by rw [hW0]; exact Rows8.new _ _ _
  have HB : Hid (Below w.heap.size w W0) := Lib.hid (by rw [hW0]; exact Rows8.newB)
  have HR := Lib.hid (hR.below HB.out hR.lt)
  have HV := Lib.hid (RowAt.below hv HB.out)
  have c0 : W0.cell? ⟨w.heap.size, 0, none⟩ = some (.slice (some ⟨B, 0, none⟩) 40 40) := hr.cell 0
  have c1 : W0.cell? ⟨w.heap.size, 1, none⟩ = some (.int .i64 q) := hr.cell 1
  have HQ := Lib.hid (Try.cut_any B 0 40 40 k n q hk (by decide) (by decide) h0 W0)
  have HN := Lib.hid (And.intro hn (And.intro hl hk))
  clear hr hR hv hn hl hk
  go_enter Try.func79, Try.ntmps79
  go_upto_region 1 with fail
  rw [← hW0]
  clear hW0
  go_wp2_with fail
  refine HQ.out.mono ?_
  rintro e W1 ⟨rfl, hC⟩
  have HR := Lib.hid (HR.out.below hC HR.out.lt)
  have HV := Lib.hid (RowAt.below HV.out hC)
  have HB := Lib.hid (HB.out.trans (hC.mono HB.out.size))
  clear hC HQ c0 c1
  obtain ⟨hn, hl, hk⟩ := HN.out
  have hi : (Try.prog.info? 34).map (·.size) = some 1 := by kernel_rfl
  have hn1 : (wordVals vs).length = Nat.min n n * 1 := by rw [wordVals_length, ← hn, Nat.mul_one]; exact (Nat.min_self n).symm
  have hft : k + (wordVals vs).length ≤ (wordVals ws).toArray.size := by simp [wordVals_length]; omega
  have hv9 : RowAt W1 (.slice (some x) n c) n 1 (wordVals vs) := by rw [hn]; have := HV.out; rw [hn] at this; exact this
  have hsr := row_src hv9
  have hone := wordVals_one vs
  have hrun : ∀ ty, (Builtin.copy_ #[24, 24] ty #[.slice (some ⟨B, k, none⟩) n n, .slice (some x) n c]).run Try.prog W1 = .ok (goInt (Nat.min n n)) (W1.setRow B (((wordVals ws).toArray.toList.take (k) ++ wordVals vs ++ (wordVals ws).toArray.toList.drop (k + (wordVals vs).length)).toArray)) := fun ty =>
    run_copy_rowK W1 _ _ ty 34 B (k) n n x n c _ 34 (wordVals vs) 1 Try.underlying24 hi HR.out hn1 hsr hft hone
  clear hi hn1 hft hsr hone hn hl hk hv9
  have HCP := Lib.hid hrun
  clear hrun
  go_wp2_with (refine wpList_copyK rfl _ _ _ _ rfl _ _ rfl rfl _ _ (HCP.out _) ?_)
  go_end0
  refine ⟨rfl, ?_, (But.of_below HB.out).setRow _⟩
  have h9 := setRow_heap W1 B ((wordVals ws).toArray) (((wordVals ws).toArray.toList.take (k) ++ wordVals vs ++ (wordVals ws).toArray.toList.drop (k + (wordVals vs).length)).toArray) 34 (0, 0) HR.out
  rw [← wordVals_splice]
  simp only [List.append_assoc] at h9 ⊢
  exact h9
end Go.Proofs
