/- Arena: what is tried. -/
import Derived.Test.YtmcancccihffhaaAn
namespace Go.Proofs
set_option maxRecDepth 100000
open Go.RowKit Go.Shelf
attribute [local go_sem] Oper.semAt_some

theorem run_copy_rowK {P : Program} (w : World) (dT sT ty elem : TypeId) (g o dLen dCap : Nat) (a : Addr) (sLen sCap : Nat) (cur : Array Value) (t : TypeId) (cs : List Value) (k : Nat)
    (hu : P.underlying dT = some (.slice elem)) (hs : (P.info? elem).map (·.size) = some k)
    (hg : w.heap[g]? = some (.cells cur t (0, 0))) (hn : cs.length = Nat.min sLen dLen * k)
    (hsrc : ∀ j v, cs[j]? = some v → w.cell? (a.add j) = some v) (hfit : o + cs.length ≤ cur.size) (h1 : ∀ v ∈ cs, v.oneCell' = true) :
    (Builtin.copy_ #[dT, sT] ty #[.slice (some ⟨g, o, none⟩) dLen dCap, .slice (some a) sLen sCap]).run P w =
      .ok (goInt (Nat.min sLen dLen)) (w.setRow g (cur.toList.take o ++ cs ++ cur.toList.drop (o + cs.length)).toArray) := by
  have hl := run_loadCells_list (P := P) w a cs hsrc
  have hst := run_storeCells_at P g o t cs 0 cur w hg (by simpa using hfit) h1
  cases hq : P.info? elem with
  | none => simp [hq] at hs
  | some i =>
    have hi : i.size = k := by simpa [hq] using hs
    simp [Builtin.copy_, run_underlying hu, Builtin.lenOf, Builtin.firstCells, sizeOf, typeInfo, hq, hi, ← hn, hl, hst]
theorem wpList_copyK {P : Program} {w : World} {ops : Array Oper} {rest : List Oper} {o : Oper} {a : Act} {Q : Exit → Act → World → Prop} (hgd : o.guard = none) (d s : Operand) (dT sT : TypeId)
    (ho : o.op = .call { callee := .builtin .copy, args := #[d, s], argTypes := #[dT, sT] }) (vd vs : Value) (hd : a.eval d = vd) (hs : a.eval s = vs) (r : Value) (w' : World)
    (hrun : (Builtin.copy_ #[dT, sT] o.type #[vd, vs]).run P w = .ok r w') (h : wpList P ops Q rest (a.put o.dst r) w') : wpList P ops Q (o :: rest) a w := by
  refine wpList_plain hgd fun K hK => ?_
  unfold Oper.wp
  simp [execOp, ho, resolve, invoke, builtin, hd, hs, hrun, Result.andThen]
  exact hK _ _ h
/-- What is tried: the error, the slabs, and what was taken. -/
def triR (l : List Pr) (R : Int × List Pr × List Pr) : Int × List Pr × List Pr := if rightA l then (if R.1 = 0 then R else (R.1, [], [])) else (210, [], [])
def TriedQ (w : World) (R : Int × List Pr × List Pr) (e : Ending) (w' : World) : Prop :=
  ∃ vs vt, e = .returned (.tuple #[.agg #[vs, vt], .int .i64 R.1]) ∧ OwnsP 52 w.heap.size R.2.1 vs w' ∧ OwnsP 41 w.heap.size R.2.2 vt w' ∧ Below w.heap.size w w'
set_option maxRecDepth 100000 in
set_option maxHeartbeats 4000000 in
theorem Try.tried_any (a : Option Addr) (n cap : Nat) (l : List Pr) (f : FuncId) (fc : Array Value) (R : Int × List Pr × List Pr) (w : World) (hI : PAt w (.slice a n cap) l)
    (eg : ∀ args w, (callFunc f args).run Try.prog w = .ok (.enter f args) w)
    (hwork : rightA l = true → ∀ (D r : Nat) (W : World), Below w.heap.size w W → w.heap.size ≤ D → Dr D w.heap.size l (.slice (some ⟨r, 0, none⟩) n n) (.slice none 0 0) W →
      Calls Try.prog f (#[.pointer (some ⟨D, 0, none⟩)] ++ fc) W (TakeQ D w.heap.size (.slice (some ⟨r, 0, none⟩) n n) W R)) :
    Calls Try.prog 18 #[.agg #[.slice a n cap], .func (.func f) #[] fc] w (TriedQ w (triR l R)) := by
  obtain ⟨i0, hi, hz0, hz1, hz2⟩ := info_parts Try.infoSlab
  have hlen := (pAt_len hI).1
  obtain ⟨T, hT⟩ : ∃ T, T = triR l R := ⟨_, rfl⟩
  rw [← hT]
  unfold triR at hT
  have hB0 : Below w.heap.size w (((w.alloc (.cells #[.slice a n cap] 24)).alloc (.cells #[.slice none 0 0, .slice none 0 0] 58)).alloc (.cells #[.int .i64 0] 28)) := ((Rows8.newB).alloc (by simp) _).alloc (by simp <;> omega) _
  have hA0 : Rows8 (((w.alloc (.cells #[.slice a n cap] 24)).alloc (.cells #[.slice none 0 0, .slice none 0 0] 58)).alloc (.cells #[.int .i64 0] 28)) w.heap.size 24 #[.slice a n cap] := ((Rows8.new _ _ _).alloc _).alloc _
  have hD0 : Rows8 (((w.alloc (.cells #[.slice a n cap] 24)).alloc (.cells #[.slice none 0 0, .slice none 0 0] 58)).alloc (.cells #[.int .i64 0] 28)) (w.heap.size + 1) 58 #[.slice none 0 0, .slice none 0 0] := (rows_new2 _ _ _ _).alloc _
  have hE0 : Rows8 (((w.alloc (.cells #[.slice a n cap] 24)).alloc (.cells #[.slice none 0 0, .slice none 0 0] 58)).alloc (.cells #[.int .i64 0] 28)) (w.heap.size + 1 + 1) 28 #[.int .i64 0] := by
    have h := Rows8.new ((w.alloc (.cells #[.slice a n cap] 24)).alloc (.cells #[.slice none 0 0, .slice none 0 0] 58)) 28 #[.int .i64 0]
    rw [World.size_alloc, World.size_alloc] at h
    exact h
  have hmf : ∀ (fn : Fn) (first cap : Array Value) (w : World), (Instr.makeFunc fn first cap).run Try.prog w = .ok (.func fn first cap) w := fun _ _ _ _ => rfl
  have HC := fun (W : World) (h : PAt W (.slice a n cap) l) => Lib.hid (Try.Check_any a n cap l W h)
  have HI := Lib.hid hI
  have HI0 := Lib.hid (PAt.below hI hB0)
  have HB0 := Lib.hid hB0
  have HA0 := Lib.hid hA0
  have HD0 := Lib.hid hD0
  have HE0 := Lib.hid hE0
  have HW := Lib.hid hwork
  have HT := Lib.hid hT
  have HLN := Lib.hid hlen
  obtain ⟨q, hq⟩ : ∃ q, q = rightA l := ⟨_, rfl⟩
  rw [← hq] at HC HT
  have HQ := Lib.hid hq
  clear hI hB0 hA0 hD0 hE0 hwork hT hlen hq
  cases q with
  | false =>
    have HT' := Lib.hid (show T = (210, [], []) by rw [HT.out]; rfl)
    go_enter_defers Try.func18, Try.ntmps18
    go_wp2_with fail
    generalize (((w.alloc (.cells #[.slice a n cap] 24)).alloc (.cells #[.slice none 0 0, .slice none 0 0] 58)).alloc (.cells #[.int .i64 0] 28)) = W0 at *
    refine (HC _ HI0.out).out.mono ?_
    rintro e w1 ⟨rfl, hB1⟩
    have d1 := HD0.out.below hB1 HD0.out.lt
    have e1 := HE0.out.below hB1 HE0.out.lt
    have HB1 := Lib.hid (HB0.out.trans (hB1.mono HB0.out.size))
    have hcatch := Try.catch_panicking (w.heap.size + 1) (w.heap.size + 1 + 1) _ _ 210 _ [] w1 d1 e1
    have s0 := ((d1.set 0 (.slice none 0 0)).set 1 (.slice none 0 0)).setOther (a := ⟨w.heap.size + 1 + 1, 0, none⟩) (by simp) (.int .i64 210)
    have s1 := ((e1.setOther (a := ⟨w.heap.size + 1, 0, none⟩) (by simp) (.slice none 0 0)).setOther (a := ⟨w.heap.size + 1, 1, none⟩) (by simp) (.slice none 0 0)).set 0 (.int .i64 210)
    simp only [List.setIfInBounds_toArray, List.set_cons_zero, List.set_cons_succ] at s0 s1
    have hB4 := ((HB1.out.setCell (p := ⟨w.heap.size + 1, 0, none⟩) (by simp) (.slice none 0 0)).setCell (p := ⟨w.heap.size + 1, 1, none⟩) (by simp) (.slice none 0 0)).setCell (p := ⟨w.heap.size + 1 + 1, 0, none⟩) (by simp <;> omega) (.int .i64 210)
    have S0 := Lib.hid s0
    have S2 := Lib.hid s1
    have HB4 := Lib.hid hB4
    have HCT := Lib.hid hcatch
    clear hB1 d1 e1 s0 s1 hB4 hcatch HC HW
    go_wp2_with fail
    refine leaves_cons (f := 32) (args := #[.pointer (some ⟨w.heap.size + 1, 0, none⟩), .pointer (some ⟨w.heap.size + 1 + 1, 0, none⟩)]) (by simp) (by simp [go_sem]) ?_
    refine HCT.out.mono ?_
    rintro e u' w'' ⟨rfl, rfl, rfl⟩
    refine ⟨_, results_cc rfl _ _ (w.heap.size + 1) (w.heap.size + 1 + 1) _ _ rfl rfl (load_row S0.out Try.underlying58 rfl (by kernel_rfl)) (load_one S2.out (by kernel_rfl)), ?_⟩
    exact ⟨_, _, by rw [HT'.out], by rw [HT'.out]; exact ownsP_nil _ _ _, by rw [HT'.out]; exact ownsP_nil _ _ _, HB4.out⟩
  | true =>
    have HT' := Lib.hid (show T = if R.1 = 0 then R else (R.1, [], []) by rw [HT.out]; rfl)
    have hr := rightA_iff.1 HQ.out.symm
    have hln := HLN.out
    have hn2 : 2 ≤ n := by omega
    have hn128 : n ≤ 128 := by omega
    obtain ⟨x, rfl⟩ : ∃ x, a = some x := by
      obtain ⟨b, off, e, _⟩ := pAt_get HI.out 0 (by omega)
      exact ⟨_, e⟩
    clear hr hln
    go_enter_defers Try.func18, Try.ntmps18
    go_wp2_with fail
    generalize (((w.alloc (.cells #[.slice (some x) n cap] 24)).alloc (.cells #[.slice none 0 0, .slice none 0 0] 58)).alloc (.cells #[.int .i64 0] 28)) = W0 at *
    refine (HC _ HI0.out).out.mono ?_
    rintro e w1 ⟨rfl, hB1⟩
    have a1 := HA0.out.below hB1 HA0.out.lt
    have d1 := HD0.out.below hB1 HD0.out.lt
    have e1 := HE0.out.below hB1 HE0.out.lt
    have hB1w := HB0.out.trans (hB1.mono HB0.out.size)
    have hw1 := hB1w.size
    have ca : w1.cell? ⟨w.heap.size, 0, none⟩ = some (.slice (some x) n cap) := a1.cell 0
    have hal := a1.lt
    have hdl := d1.lt
    go_wp2_with (refine wpList_make_full _ rfl _ _ 22 rfl w.heap.size 52 i0 (.agg #[.int .i64 0, .int .u64 0]) 2 Try.underlying22 hi hz0 hz1 .i64 .i64 (n : Int) (n : Int) n rfl rfl rfl rfl (by rw [hz2]; omega) (by unfold maxLen; omega) hw1 ?_)
    intro w2 hown hgr
    have hB2 := hB1w.grown hgr hw1 (fun j ej => by cases ej)
    have hB12 : Below w1.heap.size w1 w2 := (Below.refl _ w1).grown hgr (Nat.le_refl _) (fun j ej => by cases ej)
    have a2 := a1.below hB12 a1.lt
    have d2 := d1.below hB12 d1.lt
    have e2 := e1.below hB12 e1.lt
    have hwr : w.heap.size ≤ w1.heap.size := hw1
    have cd2 : w2.cell? ⟨w.heap.size + 1, 0, none⟩ = some (.slice none 0 0) := d2.cell 0
    have fd2 := d2.frozen 0
    have d3 := d2.set 0 (.slice (some ⟨w1.heap.size, 0, none⟩) n n)
    simp only [List.setIfInBounds_toArray, List.set_cons_zero, List.set_cons_succ] at d3
    have a3 := a2.setOther (a := ⟨w.heap.size + 1, 0, none⟩) (by simp) (.slice (some ⟨w1.heap.size, 0, none⟩) n n)
    have e3 := e2.setOther (a := ⟨w.heap.size + 1, 0, none⟩) (by simp) (.slice (some ⟨w1.heap.size, 0, none⟩) n n)
    have hB3 := hB2.setCell (p := ⟨w.heap.size + 1, 0, none⟩) (by simp) (.slice (some ⟨w1.heap.size, 0, none⟩) n n)
    have hown3 := ownsRow_setCell_other hown (a := ⟨w.heap.size + 1, 0, none⟩) (owns_not hown d2 (by decide)) (.slice (some ⟨w1.heap.size, 0, none⟩) n n)
    have hI3 := PAt.below HI.out hB3
    obtain ⟨cur, hcur, hcsz⟩ : ∃ cur, (w2.setCell ⟨w.heap.size + 1, 0, none⟩ (.slice (some ⟨w1.heap.size, 0, none⟩) n n)).heap[w1.heap.size]? = some (.cells cur 52 (0, 0)) ∧ cur.size = n * 2 := by
      rcases hown3.2 with ⟨h0, _⟩ | ⟨g, cp, cur, h0, _, hh, _, _, hsz, _⟩
      · cases h0
      · cases h0; exact ⟨cur, hh, hsz⟩
    have hpl : (pVals l).length = n * 2 := by rw [pVals_length]; have := HLN.out; omega
    have hcp := run_copy_rowK (P := Try.prog) (w2.setCell ⟨w.heap.size + 1, 0, none⟩ (.slice (some ⟨w1.heap.size, 0, none⟩) n n)) 22 22 3 52 w1.heap.size 0 n n x n cap cur 52 (pVals l) 2 Try.underlying22 (by rw [hi]; simp [hz1]) hcur (by rw [show Nat.min n n = n from Nat.min_self n]; exact hpl) (by have h := hI3; unfold PAt at h; rw [← HLN.out] at h; exact row_src h) (by omega) (pVals_one l)
    have htk : (List.take 0 cur.toList ++ pVals l ++ List.drop (0 + (pVals l).length) cur.toList).toArray = (pVals l).toArray := by
      rw [List.take_zero, List.nil_append, List.drop_of_length_le (by rw [Array.length_toList, hcsz]; omega), List.append_nil]
    rw [htk, show Nat.min n n = n from Nat.min_self n] at hcp
    have hr4 : ((w2.setCell ⟨w.heap.size + 1, 0, none⟩ (.slice (some ⟨w1.heap.size, 0, none⟩) n n)).setRow w1.heap.size (pVals l).toArray).heap[w1.heap.size]? = some (.cells (pVals l).toArray 52 (0, 0)) := setRow_heap _ w1.heap.size _ _ _ _ hcur
    have o4 : OwnsP 52 w.heap.size l (.slice (some ⟨w1.heap.size, 0, none⟩) n n) ((w2.setCell ⟨w.heap.size + 1, 0, none⟩ (.slice (some ⟨w1.heap.size, 0, none⟩) n n)).setRow w1.heap.size (pVals l).toArray) := by
      unfold OwnsP
      rw [← HLN.out]
      exact ⟨hpl, .inr ⟨w1.heap.size, n, _, rfl, hwr, hr4, Nat.le_refl _, by unfold maxLen; omega, by simpa using hpl, List.take_of_length_le (by simpa using Nat.le_of_eq hpl)⟩⟩
    have hne_d : w1.heap.size ≠ w.heap.size + 1 := fun e => rows_apart (W := (w2.setCell ⟨w.heap.size + 1, 0, none⟩ (.slice (some ⟨w1.heap.size, 0, none⟩) n n))) (cs := #[.slice (some ⟨w1.heap.size, 0, none⟩) n n, .slice none 0 0]) d3 (show Rows8 (w2.setCell ⟨w.heap.size + 1, 0, none⟩ (.slice (some ⟨w1.heap.size, 0, none⟩) n n)) (w.heap.size + 1) 52 cur from e ▸ hcur) (by decide) rfl
    have hne_e : w1.heap.size ≠ w.heap.size + 1 + 1 := fun e => rows_apart (W := (w2.setCell ⟨w.heap.size + 1, 0, none⟩ (.slice (some ⟨w1.heap.size, 0, none⟩) n n))) e3 (show Rows8 (w2.setCell ⟨w.heap.size + 1, 0, none⟩ (.slice (some ⟨w1.heap.size, 0, none⟩) n n)) (w.heap.size + 1 + 1) 52 cur from e ▸ hcur) (by decide) rfl
    have d4 : Rows8 ((w2.setCell ⟨w.heap.size + 1, 0, none⟩ (.slice (some ⟨w1.heap.size, 0, none⟩) n n)).setRow w1.heap.size (pVals l).toArray) (w.heap.size + 1) 58 #[.slice (some ⟨w1.heap.size, 0, none⟩) n n, .slice none 0 0] := (setRow_other _ _ _ _ (by omega)).trans d3
    have e4 : Rows8 ((w2.setCell ⟨w.heap.size + 1, 0, none⟩ (.slice (some ⟨w1.heap.size, 0, none⟩) n n)).setRow w1.heap.size (pVals l).toArray) (w.heap.size + 1 + 1) 28 #[.int .i64 0] := (setRow_other _ _ _ _ (by omega)).trans e3
    have hB4 := below_setRow hB3 hwr (pVals l).toArray
    have cd3 : (w2.setCell ⟨w.heap.size + 1, 0, none⟩ (.slice (some ⟨w1.heap.size, 0, none⟩) n n)).cell? ⟨w.heap.size + 1, 0, none⟩ = some (.slice (some ⟨w1.heap.size, 0, none⟩) n n) := d3.cell 0
    have ca3 : (w2.setCell ⟨w.heap.size + 1, 0, none⟩ (.slice (some ⟨w1.heap.size, 0, none⟩) n n)).cell? ⟨w.heap.size, 0, none⟩ = some (.slice (some x) n cap) := a3.cell 0
    have HWK := Lib.hid (HW.out HQ.out.symm (w.heap.size + 1) w1.heap.size _ hB4 (by omega) ⟨d4, o4⟩)
    have HB4 := Lib.hid hB4
    have E4 := Lib.hid e4
    have HCP := Lib.hid hcp
    clear hB1 a1 d1 e1 hB1w hown hgr hB2 hB12 a2 e2 d3 a3 e3 hB3 hown3 hI3 hcur hcsz hpl htk hr4 o4 hne_d hne_e d4 e4 hB4 HC HW HI HI0 HQ hcp d2
    go_wp2_with (refine wpList_copyK rfl _ _ _ _ rfl _ _ rfl rfl _ _ HCP.out ?_)
    refine HWK.out.mono ?_
    intro e w5 hp
    rcases hp with ⟨hp, rfl, vt, hd5, ho5, hb5, hk5⟩ | ⟨hp, rfl, hb5, hk5, u, v, hd5⟩
    · have e5 := hk5.rows E4.out (by decide)
      obtain ⟨at_, ct, hvt⟩ := ho5.form
      obtain ⟨kt, hkt⟩ : ∃ kt, kt = R.2.2.length := ⟨_, rfl⟩
      rw [← hkt] at hvt
      subst hvt
      have c0 : w5.cell? ⟨w.heap.size + 1, 0, none⟩ = some (.slice (some ⟨w1.heap.size, 0, none⟩) n n) := hd5.d.cell 0
      have c1 : w5.cell? ⟨w.heap.size + 1, 1, none⟩ = some (.slice at_ kt ct) := hd5.d.cell 1
      have c2 : w5.cell? ⟨w.heap.size + 1 + 1, 0, none⟩ = some (.int .i64 0) := e5.cell 0
      have f0 := hd5.d.frozen 0
      have f1 := hd5.d.frozen 1
      have f2 := e5.frozen 0
      have s0 := ((hd5.d.set 0 (.slice (some ⟨w1.heap.size, 0, none⟩) n n)).set 1 (.slice at_ kt ct)).setOther (a := ⟨w.heap.size + 1 + 1, 0, none⟩) (by simp) (.int .i64 0)
      have s1 := ((e5.setOther (a := ⟨w.heap.size + 1, 0, none⟩) (by simp) (.slice (some ⟨w1.heap.size, 0, none⟩) n n)).setOther (a := ⟨w.heap.size + 1, 1, none⟩) (by simp) (.slice at_ kt ct)).set 0 (.int .i64 0)
      have hx := hd5.d.set 0 (.slice (some ⟨w1.heap.size, 0, none⟩) n n)
      have hx2 := hx.set 1 (.slice at_ kt ct)
      have hy2 := (e5.setOther (a := ⟨w.heap.size + 1, 0, none⟩) (by simp) (.slice (some ⟨w1.heap.size, 0, none⟩) n n)).setOther (a := ⟨w.heap.size + 1, 1, none⟩) (by simp) (.slice at_ kt ct)
      have o6 := ((hd5.o.setNe (a := ⟨w.heap.size + 1, 0, none⟩) hd5.d (by decide) (.slice (some ⟨w1.heap.size, 0, none⟩) n n)).setNe (a := ⟨w.heap.size + 1, 1, none⟩) hx (by decide) (.slice at_ kt ct)).setNe (a := ⟨w.heap.size + 1 + 1, 0, none⟩) hy2 (by decide) (.int .i64 0)
      have t6 := ((ho5.setNe (a := ⟨w.heap.size + 1, 0, none⟩) hd5.d (by decide) (.slice (some ⟨w1.heap.size, 0, none⟩) n n)).setNe (a := ⟨w.heap.size + 1, 1, none⟩) hx (by decide) (.slice at_ kt ct)).setNe (a := ⟨w.heap.size + 1 + 1, 0, none⟩) hy2 (by decide) (.int .i64 0)
      simp only [List.setIfInBounds_toArray, List.set_cons_zero, List.set_cons_succ] at s0 s1
      have hB6 := (((HB4.out.trans hb5).setCell (p := ⟨w.heap.size + 1, 0, none⟩) (by simp) (.slice (some ⟨w1.heap.size, 0, none⟩) n n)).setCell (p := ⟨w.heap.size + 1, 1, none⟩) (by simp) (.slice at_ kt ct)).setCell (p := ⟨w.heap.size + 1 + 1, 0, none⟩) (by simp <;> omega) (.int .i64 0)
      have S0 := Lib.hid s0
      have S2 := Lib.hid s1
      have O6 := Lib.hid o6
      have T6 := Lib.hid t6
      have HB6 := Lib.hid hB6
      have HTT := Lib.hid (show T = R by rw [HT'.out, if_pos hp])
      have HR0 := Lib.hid hp
      clear hp hd5 ho5 hb5 hk5 e5 s0 s1 hx hx2 hy2 o6 t6 hB6 HWK HCP hkt
      go_wp2_with fail
      refine leaves_cons (f := 32) (args := #[.pointer (some ⟨w.heap.size + 1, 0, none⟩), .pointer (some ⟨w.heap.size + 1 + 1, 0, none⟩)]) (by simp) (by simp [go_sem]) ?_
      refine (Try.catch_idle ⟨w.heap.size + 1, 0, none⟩ ⟨w.heap.size + 1 + 1, 0, none⟩ _).mono ?_
      rintro e u' w'' ⟨rfl, rfl, rfl⟩
      refine ⟨_, results_cc rfl _ _ (w.heap.size + 1) (w.heap.size + 1 + 1) _ _ rfl rfl (load_row S0.out Try.underlying58 rfl (by kernel_rfl)) (load_one S2.out (by kernel_rfl)), ?_⟩
      exact ⟨_, _, by rw [HTT.out, HR0.out], by rw [HTT.out]; exact O6.out, by rw [HTT.out]; exact T6.out, HB6.out⟩
    · have e5 := hk5.rows E4.out (by decide)
      have hcatch := Try.catch_panicking (w.heap.size + 1) (w.heap.size + 1 + 1) _ _ R.1 _ [] w5 hd5 e5
      have s0 := ((hd5.set 0 (.slice none 0 0)).set 1 (.slice none 0 0)).setOther (a := ⟨w.heap.size + 1 + 1, 0, none⟩) (by simp) (.int .i64 R.1)
      have s1 := ((e5.setOther (a := ⟨w.heap.size + 1, 0, none⟩) (by simp) (.slice none 0 0)).setOther (a := ⟨w.heap.size + 1, 1, none⟩) (by simp) (.slice none 0 0)).set 0 (.int .i64 R.1)
      simp only [List.setIfInBounds_toArray, List.set_cons_zero, List.set_cons_succ] at s0 s1
      have hB6 := (((HB4.out.trans hb5).setCell (p := ⟨w.heap.size + 1, 0, none⟩) (by simp) (.slice none 0 0)).setCell (p := ⟨w.heap.size + 1, 1, none⟩) (by simp) (.slice none 0 0)).setCell (p := ⟨w.heap.size + 1 + 1, 0, none⟩) (by simp <;> omega) (.int .i64 R.1)
      have S0 := Lib.hid s0
      have S2 := Lib.hid s1
      have HB6 := Lib.hid hB6
      have HTT := Lib.hid (show T = (R.1, [], []) by rw [HT'.out, if_neg hp])
      have HCT := Lib.hid hcatch
      clear hp hb5 hk5 hd5 e5 s0 s1 hB6 HWK HCP hcatch
      unfold panicA
      go_wp2_with fail
      refine leaves_cons (f := 32) (args := #[.pointer (some ⟨w.heap.size + 1, 0, none⟩), .pointer (some ⟨w.heap.size + 1 + 1, 0, none⟩)]) (by simp) (by simp [go_sem]) ?_
      refine HCT.out.mono ?_
      rintro e u' w'' ⟨rfl, rfl, rfl⟩
      refine ⟨_, results_cc rfl _ _ (w.heap.size + 1) (w.heap.size + 1 + 1) _ _ rfl rfl (load_row S0.out Try.underlying58 rfl (by kernel_rfl)) (load_one S2.out (by kernel_rfl)), ?_⟩
      exact ⟨_, _, by rw [HTT.out], by rw [HTT.out]; exact ownsP_nil _ _ _, by rw [HTT.out]; exact ownsP_nil _ _ _, HB6.out⟩
end Go.Proofs
