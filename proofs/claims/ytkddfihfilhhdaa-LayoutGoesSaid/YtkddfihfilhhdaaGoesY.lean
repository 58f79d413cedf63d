/- Proved: for every hash, and number, honeycomblaw16.LayoutGoes returns true, and its arguments read as they did; no condition. -/
import Derived.Test.YtkddfihfilhhdaaWp
import Derived.BigQuiet
import Derived.Laws.OwnMore
import Derived.Deep.CutBlock
namespace Go.Proofs.Ytkddfihfilhhdaa.layoutGoes
set_option maxRecDepth 100000
open Go.ChangeShapes Go.WideShapes Go.ChangeAt Go.RowKit Go.Shelf
attribute [local go_sem] Oper.semAt_some

theorem own : ownKnob Try.prog.godebug = none := by kernel_rfl
theorem made_pairs (n : Nat) : (madeCells (Value.agg #[.int .i64 0, .int .u64 0]).cells (n * 2)).toList = pVals (List.replicate n (0, 0)) := by
  apply List.ext_getElem?
  intro j
  have hl : (pVals (List.replicate n (0, 0))).length = n * 2 := by rw [pVals_length, List.length_replicate]
  by_cases hj : j < n * 2
  · have h2 : j / 2 < (List.replicate n ((0, 0) : Pr)).length := by rw [List.length_replicate]; omega
    have f0 := flat_get pCells 2 (fun _ => rfl) (List.replicate n (0, 0)) (j / 2) (j % 2) h2 (by omega)
    rw [show j / 2 * 2 + j % 2 = j by omega] at f0
    unfold pVals
    rw [f0, List.getElem_replicate]
    rcases (by omega : j % 2 = 0 ∨ j % 2 = 1) with e | e
    · rw [e]; simp [madeCells, hj, e, Value.cells, pCells]
    · rw [e]; simp [madeCells, hj, e, Value.cells, pCells]
  · rw [List.getElem?_eq_none (by simp [madeCells]; omega), List.getElem?_eq_none (by omega)]
theorem grown_rows {W w1 : World} {n₁ k' n' : Nat} {e' : TypeId} {v' : Value} {cs' : List Value} {B : Nat} {t : TypeId} {ds : Array Value} (h : Rows8 W B t ds) (h' : W.ownsRow n₁ e' k' v' n' cs') (hne : e' ≠ t) (hg : W.grownBy w1 v'.ownBlock) : Rows8 w1 B t ds :=
  (hg.block B h.lt (fun e => owns_not h' h hne e.symm)).trans h
theorem wpList_appendK {P : Program} {w : World} {ops : Array Oper} {rest : List Oper} {o : Oper} {a : Act} {Q : Exit → Act → World → Prop} (hgd : o.guard = none) (d s : Operand) (dT sT : TypeId)
    (ho : o.op = .call { callee := .builtin .append, args := #[d, s], argTypes := #[dT, sT] }) (vd vs : Value) (hd : a.eval d = vd) (hs : a.eval s = vs) (r : Value) (w' : World)
    (hrun : (Builtin.append_ #[dT, sT] o.type #[vd, vs]).run P w = .ok r w') (h : wpList P ops Q rest (a.put o.dst r) w') : wpList P ops Q (o :: rest) a w := by
  refine wpList_plain hgd fun K hK => ?_
  unfold Oper.wp
  simp [execOp, ho, resolve, invoke, builtin, hd, hs, hrun, Result.andThen]
  exact hK _ _ h
def l0 (n : Nat) : List Pr := List.replicate n (0, 0)
theorem l0_len (n : Nat) : (l0 n).length = n := List.length_replicate
theorem l0_add (n m : Nat) : l0 n ++ l0 m = l0 (n + m) := by simp [l0]
theorem l0_vals (n m : Nat) : pVals (l0 n) ++ pVals (l0 m) = pVals (l0 (n + m)) := by rw [← l0_add]; simp [pVals]
theorem l0_ok (n : Nat) : ∀ p ∈ l0 n, I64 p.1 := by
  intro p hp
  rw [List.eq_of_mem_replicate hp]
  unfold I64
  omega
theorem l0_all (n : Nat) : (l0 n).all (fun p => entB p.1 p.2) = true := by
  rw [List.all_eq_true]
  intro p hp
  rw [List.eq_of_mem_replicate hp]
  rfl
theorem okD_l0 (d : Nat) (hd : d ≤ 5) : okD (d : Int) (l0 (2 ^ d)) = true := by
  unfold okD
  rw [l0_all, l0_len, decide_eq_true (show (0 : Int) ≤ d by omega), decide_eq_true (show (d : Int) ≤ 5 by omega), Int.toNat_natCast, decide_eq_true rfl]
  rfl
theorem sh_eq (d : Nat) (hd : d ≤ 5) : wrap64 ((2 : Int) ^ min d 64) = ((2 ^ d : Nat) : Int) := by
  rcases (by omega : d = 0 ∨ d = 1 ∨ d = 2 ∨ d = 3 ∨ d = 4 ∨ d = 5) with rfl | rfl | rfl | rfl | rfl | rfl <;> (simp [wrap64])
/-- How often it has been met. -/
def cntI (q k : Nat) : Int := if q < k then 1 else 0
theorem cnt_yes {q k : Nat} (h : q = k) : cntI q k = 0 ∧ cntI q (k + 1) = 1 := by simp [cntI, h]
theorem cnt_no {q k : Nat} (h : q ≠ k) : cntI q (k + 1) = cntI q k := by
  unfold cntI
  by_cases h1 : q < k
  · rw [if_pos h1, if_pos (by omega)]
  · rw [if_neg h1, if_neg (by omega)]
/-- The table of a depth, and prefix. -/
def tT (d : Int) (k : Nat) : Tb := ⟨0, d, k, 0, 0, List.replicate 34 0⟩
theorem has_k (d k h : Nat) (hd : d ≤ 5) (hk : k < 2 ^ d) : hasB (tT (d : Int) k) h = decide (topB h d = k) := by
  have e : okT (tT (d : Int) k) = true := by
    unfold okT tT
    simp only [Int.toNat_natCast]
    rw [decide_eq_true (show (0 : Int) ≤ d by omega), decide_eq_true (show (d : Int) ≤ 5 by omega), decide_eq_true hk]
    rfl
  unfold hasB
  rw [e, Bool.true_and]
  rfl
theorem top_half (h d : Nat) (hd : d < 5) : topB h (d + 1) / 2 = topB h d := by
  unfold topB
  rw [Nat.div_div_eq_div_mul, show 64 - d = 64 - (d + 1) + 1 by omega, Nat.pow_succ]
set_option maxHeartbeats 16000000 in
theorem law_any (h : Nat) (dep : Int) (hh : h < 18446744073709551616) (w : World) : Calls Try.prog 8 #[.int .u64 (h : Nat), .int .i64 dep] w fun e w' => e = .returned (.bool true) ∧ Below w.heap.size w w' := by
  have HQ := Lib.hid (Try.wakes_any w)
  obtain ⟨d, hd, hd9⟩ : ∃ d : Nat, d ≤ 5 ∧ dep % 18446744073709551616 % 6 = (d : Int) := ⟨(dep % 18446744073709551616 % 6).toNat, by omega, by omega⟩
  have a1 : (dep % 18446744073709551616).tmod 6 = (d : Int) := by rw [Int.tmod_eq_emod_of_nonneg (by omega)]; exact hd9
  have a2 : (IntKind.u64.wrap dep).tmod 6 = (d : Int) := by rw [IntKind.wrap_u64]; exact a1
  have a3 : (IntKind.u64.wrap dep) % 6 = (d : Int) := by rw [IntKind.wrap_u64]; exact hd9
  have a4 : wrap64 (d : Int) = (d : Int) := IntWalk.wrap64_in _ ⟨by omega, by omega⟩
  have a5 : IntKind.i64.wrap (d : Int) = (d : Int) := IntWalk.i64_in _ ⟨by omega, by omega⟩
  have a6 : IntKind.u64.wrap (d : Int) = (d : Int) := by rw [IntKind.wrap_u64]; omega
  have HDD := Lib.hid hd
  have HH := Lib.hid hh
  clear hh hd
  go_enter Try.func8, Try.ntmps8
  go_wp2_with fail
  refine HQ.out.mono ?_
  rintro e W1 ⟨rfl, hC⟩
  have HB := Lib.hid hC
  clear hC HQ
  go_upto_region 4 with fail
  clear a1 a2 a3 a4 a5 a6 hd9
  have hsh := Try.shl_ii d HDD.out W1
  have hsh2 := sh_eq d HDD.out
  obtain ⟨n, hn⟩ : ∃ n, n = 2 ^ d := ⟨_, rfl⟩
  have hn32 : n ≤ 32 := by rw [hn]; exact Nat.pow_le_pow_right (by decide) HDD.out
  rw [← hn] at hsh hsh2
  have HN := Lib.hid hn
  clear hn
  have hI := Try.infoEntry
  obtain ⟨i0, hi⟩ : ∃ i, Try.prog.info? 36 = some i := by
    cases he : Try.prog.info? 36 with
    | none => rw [he] at hI; cases hI
    | some i => exact ⟨i, rfl⟩
  rw [hi] at hI
  simp only [Option.map_some, Option.some.injEq, Prod.mk.injEq] at hI
  obtain ⟨hz0, hz1, hz2⟩ := hI
  have HI := Lib.hid (And.intro hi (And.intro hz0 (And.intro hz1 hz2)))
  obtain ⟨W2, hrun, hown, hgr⟩ := run_make_full (P := Try.prog) W1 w.heap.size 23 36 i0 (.agg #[.int .i64 0, .int .u64 0]) 2 Try.underlying23 hi hz0 hz1 .i64 .i64 n (by rw [hz2]; omega) (by unfold maxLen; omega) HB.out.size
  rw [made_pairs] at hown
  have hC : Below W1.heap.size W1 W2 := (Below.refl _ W1).grown hgr (Nat.le_refl _) (fun j ej => by cases ej)
  obtain ⟨bq, hbq⟩ : ∃ b, b = W1.heap.size := ⟨_, rfl⟩
  rw [← hbq] at hrun hown
  have HO : Hid (OwnsP 36 w.heap.size (l0 n) (.slice (some ⟨bq, 0, none⟩) n n) W2) := Lib.hid (by
    unfold OwnsP
    rw [l0_len]
    exact hown)
  have HB := Lib.hid (HB.out.trans (hC.mono HB.out.size))
  clear hown hgr hC hi hz0 hz1 hz2
  obtain ⟨bd, hbd⟩ : ∃ b, b = W2.heap.size := ⟨_, rfl⟩
  obtain ⟨W3, hW3⟩ : ∃ W, W = W2.alloc (.cells #[.int .i64 (d : Nat), .slice (some ⟨bq, 0, none⟩) n n] 64) := ⟨_, rfl⟩
  have HD : Hid (Rows8 W3 bd 64 #[.int .i64 (d : Nat), .slice (some ⟨bq, 0, none⟩) n n]) := Lib.hid (by rw [hW3, hbd]; exact Rows8.new _ _ _)
  have HBD : Hid (w.heap.size ≤ bd) := Lib.hid (by rw [hbd]; exact HB.out.size)
  have hC : Below W2.heap.size W2 W3 := by rw [hW3]; exact Rows8.newB
  have HB := Lib.hid (HB.out.trans (hC.mono HB.out.size))
  have HO := Lib.hid (HO.out.below hC (Nat.le_refl _))
  have HN32 := Lib.hid hn32
  clear hC hn32 hbq
  go_upto_region 5 with fail
  rw [← hbd, ← hW3]
  clear hbd hW3 hsh hsh2 hrun
  have hok := okD_l0 d HDD.out
  rw [← HN.out] at hok
  have HQ := Lib.hid (Try.At_any (d : Int) (some ⟨bq, 0, none⟩) n n (l0 n) (by have := HDD.out; unfold I64; omega) (l0_ok n) h HH.out W3 HO.out.at)
  rw [Int.toNat_natCast] at HQ
  have HQL : Hid (topB h d < n) := Lib.hid (by rw [HN.out]; exact topB_lt HDD.out HH.out)
  obtain ⟨q, hq⟩ : ∃ q, q = topB h d := ⟨_, rfl⟩
  rw [← hq] at HQ HQL
  have HQQ := Lib.hid hq
  have HOK := Lib.hid hok
  clear hq hok
  have c0 : W3.cell? ⟨bd, 0, none⟩ = some (.int .i64 (d : Nat)) := HD.out.cell 0
  have c1 : W3.cell? ⟨bd, 1, none⟩ = some (.slice (some ⟨bq, 0, none⟩) n n) := HD.out.cell 1
  go_wp2_with fail
  refine HQ.out.mono ?_
  rintro e W4 ⟨⟨_, rfl⟩ | ⟨h9, _⟩, hC⟩
  rotate_left
  · rw [HOK.out] at h9
    cases h9
  have HD := Lib.hid (HD.out.below hC HD.out.lt)
  have HO := Lib.hid (HO.out.below hC (Nat.le_refl _))
  have HB := Lib.hid (HB.out.trans (hC.mono HB.out.size))
  clear hC HQ c0 c1
  have c0 : W4.cell? ⟨bd, 0, none⟩ = some (.int .i64 (d : Nat)) := HD.out.cell 0
  have c1 : W4.cell? ⟨bd, 1, none⟩ = some (.slice (some ⟨bq, 0, none⟩) n n) := HD.out.cell 1
  go_wp2_with fail
  clear c0 c1
  go_loopw [8, 9, 31] (fun m _ j wr => ∃ (k : Nat) (mi : Int), k ≤ n ∧ j = .int .i64 k ∧ m = .int .i64 mi ∧ Hid (mi = cntI q k) ∧ Hid (Rows8 wr bd 64 #[.int .i64 (d : Nat), .slice (some ⟨bq, 0, none⟩) n n]) ∧ Hid (OwnsP 36 w.heap.size (l0 n) (.slice (some ⟨bq, 0, none⟩) n n) wr) ∧ Hid (Below w.heap.size w wr)) (fun _ _ j _ => n - (intOf j).toNat)
  case atStart => exact ⟨0, 0, Nat.zero_le _, rfl, rfl, Lib.hid (by simp [cntI]), HD, HO, HB⟩
  case round =>
    clear HD HO HB
    obtain ⟨k, mi, hk, rfl, rfl, HM, HD, HO, HB⟩ := hrel
    by_cases hlt : k < n
    · have hki : (k : Int) < (n : Int) := by omega
      have hb0 : IntKind.u64.wrap (k : Int) = (k : Int) := by rw [IntKind.wrap_u64]; have := HN32.out; omega
      have HHK := Lib.hid (has_k d k h HDD.out (by rw [← HN.out]; exact hlt))
      have HQ := Lib.hid (Try.Has_any (tT (d : Int) k) rfl (by
        have := HDD.out
        refine ⟨?_, ?_, ?_⟩ <;> (unfold I64 tT; dsimp only; omega)) h HH.out wr)
      rw [HHK.out, ← HQQ.out] at HQ
      have HWK : Hid (wrap64 ((k : Int) + 1) = ((k + 1 : Nat) : Int)) := Lib.hid (by
        have := HN32.out
        rw [IntWalk.wrap64_in _ ⟨by omega, by omega⟩]
        omega)
      clear HHK
      go_wp2_with fail
      clear hb0
      by_cases hqk : q = k
      · obtain ⟨m1, m2⟩ := cnt_yes hqk
        have hm0 : mi = 0 := by rw [HM.out, m1]
        subst hm0
        rw [decide_eq_true hqk] at HQ
        have HM2 : Hid ((1 : Int) = cntI q (k + 1)) := Lib.hid m2.symm
        subst hqk
        clear m1 m2 HM
        refine HQ.out.mono ?_
        rintro e X1 ⟨rfl, hC⟩
        have HD := Lib.hid (HD.out.below hC HD.out.lt)
        have HO := Lib.hid (HO.out.below hC (Nat.le_refl _))
        have HB := Lib.hid (HB.out.trans (hC.mono HB.out.size))
        clear hC HQ
        go_wp2_with fail
        exact ⟨⟨q + 1, 1, by omega, by first | rw [HWK.out] | rfl, rfl, HM2, HD, HO, HB⟩, by (try rw [HWK.out]); simp [intOf]; omega⟩
      · have HM2 : Hid (mi = cntI q (k + 1)) := Lib.hid (by rw [HM.out, cnt_no hqk])
        rw [decide_eq_false hqk] at HQ
        clear HM hqk
        refine HQ.out.mono ?_
        rintro e X1 ⟨rfl, hC⟩
        have HD := Lib.hid (HD.out.below hC HD.out.lt)
        have HO := Lib.hid (HO.out.below hC (Nat.le_refl _))
        have HB := Lib.hid (HB.out.trans (hC.mono HB.out.size))
        clear hC HQ
        go_wp2_with fail
        exact ⟨⟨k + 1, mi, by omega, by first | rw [HWK.out] | rfl, rfl, HM2, HD, HO, HB⟩, by (try rw [HWK.out]); simp [intOf]; omega⟩
    · obtain rfl : k = n := by omega
      have hm1 : mi = 1 := by
        rw [HM.out]
        unfold cntI
        rw [if_pos HQL.out]
      subst hm1
      clear HM
      by_cases h5 : d = 5
      · have hb5 : ((d : Int) == 5) = true := by simp; omega
        go_wp2_with fail
        go_ret
        exact ⟨rfl, HB.out⟩
      · have hb5 : ((d : Int) == 5) = false := by simp; omega
        have hd1 : IntKind.i64.wrap ((d : Int) + 1) = ((d + 1 : Nat) : Int) := by
          have := HDD.out
          rw [IntWalk.i64_in _ (by omega)]
          omega
        have HH5 : Hid (d < 5) := Lib.hid (by have := HDD.out; omega)
        clear h5
        go_upto_region 17 with fail
        clear hb5
        have c0 : wr.cell? ⟨bd, 0, none⟩ = some (.int .i64 (d : Nat)) := HD.out.cell 0
        have c1 : wr.cell? ⟨bd, 1, none⟩ = some (.slice (some ⟨bq, 0, none⟩) k k) := HD.out.cell 1
        have hl1 := l0_len k
        have ho1 : wr.ownsRow w.heap.size 36 2 (.slice (some ⟨bq, 0, none⟩) k k) k (pVals (l0 k)) := by
          have := HO.out
          unfold OwnsP at this
          rw [hl1] at this
          exact this
        have hr1 : RowAt wr (.slice (some ⟨bq, 0, none⟩) k k) k 2 (pVals (l0 k)) := rowAt_own ho1
        obtain ⟨v', X1, hrun, ho2, hg2, _⟩ := run_append_row (P := Try.prog) wr w.heap.size 23 23 36 i0 (.agg #[.int .i64 0, .int .u64 0]) 2 16 Try.underlying23 HI.out.1 HI.out.2.1 HI.out.2.2.1 HI.out.2.2.2 rfl (by decide) (.slice (some ⟨bq, 0, none⟩) k k) k (pVals (l0 k)) ho1
          (.slice (some ⟨bq, 0, none⟩) k k) k (pVals (l0 k)) hr1 (pVals_one _) (by have := HN32.out; unfold maxLen; omega) (by have := HN32.out; omega) HB.out.size
        rw [l0_vals] at ho2
        have ho3 : OwnsP 36 w.heap.size (l0 (k + k)) v' X1 := by
          unfold OwnsP
          rw [l0_len]
          exact ho2
        obtain ⟨qa, qc, rfl⟩ := ho3.form
        rw [l0_len] at ho3 hrun
        have hrd := grown_rows HD.out ho1 (by decide) hg2
        have HB1 : Hid (Below w.heap.size w X1) := Lib.hid (HB.out.grown hg2 HB.out.size (fun j ej => (World.ownsRow.lt ho1 j ej).1))
        have HO3 := Lib.hid ho3
        have HRD := Lib.hid hrd
        clear ho1 hr1 ho2 hg2 ho3 hrd hl1 HO HD HB HI
        have d0 : X1.cell? ⟨bd, 0, none⟩ = some (.int .i64 (d : Nat)) := HRD.out.cell 0
        have d1 : X1.cell? ⟨bd, 1, none⟩ = some (.slice (some ⟨bq, 0, none⟩) k k) := HRD.out.cell 1
        have f0 := HRD.out.frozen 0
        have f1 := HRD.out.frozen 1
        have lz := HRD.out.lt
        have HD2 := Lib.hid (HRD.out.set2 (.int .i64 ((d + 1 : Nat) : Int)) (.slice qa (k + k) qc))
        obtain ⟨X2, hX2⟩ : ∃ W, W = (X1.setCell ⟨bd, 0, none⟩ (.int .i64 ((d + 1 : Nat) : Int))).setCell ⟨bd, 1, none⟩ (.slice qa (k + k) qc) := ⟨_, rfl⟩
        have HO4 : Hid (OwnsP 36 w.heap.size (l0 (k + k)) (.slice qa (k + k) qc) X2) := Lib.hid (by
          rw [hX2]
          exact (HO3.out.setNe (a := ⟨bd, 0, none⟩) HRD.out (by decide) _).setNe (a := ⟨bd, 1, none⟩) (HRD.out.set 0 _) (by decide) _)
        have HB2 : Hid (Below w.heap.size w X2) := Lib.hid (by rw [hX2]; exact (HB1.out.setCell (p := ⟨bd, 0, none⟩) HBD.out _).setCell (p := ⟨bd, 1, none⟩) HBD.out _)
        rw [← hX2] at HD2
        obtain ⟨d2, hd2⟩ : ∃ x, x = d + 1 := ⟨_, rfl⟩
        obtain ⟨k2, hk2⟩ : ∃ x, x = k + k := ⟨_, rfl⟩
        rw [← hd2] at hd1 hX2 HD2
        rw [← hk2] at hX2 HD2 HO4 hrun
        have hrun2 : ∀ ty, (Builtin.append_ #[23, 23] ty #[.slice (some ⟨bq, 0, none⟩) k k, .slice (some ⟨bq, 0, none⟩) k k]).run Try.prog wr = .ok (.slice qa k2 qc) X1 := fun _ => hrun
        have HRN := Lib.hid hrun2
        have HK2 := Lib.hid hk2
        have HD22 := Lib.hid hd2
        clear hrun hrun2 hk2 hd2
        go_upto_region 18 with (refine wpList_appendK rfl _ _ _ _ rfl _ _ rfl rfl _ _ (HRN.out _) ?_)
        rw [← hX2]
        clear hX2 d0 d1 f0 f1 lz hd1 c0 c1
        have hok2 : okD (d2 : Int) (l0 k2) = true := by
          have h1 := HD22.out
          have h2 := HK2.out
          have h3 := HN.out
          have h4 := okD_l0 d2 (by have := HH5.out; omega)
          rw [show 2 ^ d2 = k2 by rw [h1, h2, h3, Nat.pow_succ]; omega] at h4
          exact h4
        have HQ := Lib.hid (Try.At_any (d2 : Int) qa k2 qc (l0 k2) (by have := HD22.out; have := HH5.out; unfold I64; omega) (l0_ok k2) h HH.out X2 HO4.out.at)
        rw [Int.toNat_natCast] at HQ
        have hth : topB h d2 / 2 = q := by rw [HD22.out, top_half h d HH5.out, HQQ.out]
        obtain ⟨q2, hq2⟩ : ∃ x, x = topB h d2 := ⟨_, rfl⟩
        have hlt2 : q2 < 64 := by
          have h1 := topB_lt (h := h) (d := d2) (by have := HD22.out; have := HH5.out; omega) HH.out
          have h2 : 2 ^ d2 ≤ 2 ^ 5 := Nat.pow_le_pow_right (by decide) (by have := HD22.out; have := HH5.out; omega)
          omega
        rw [← hq2] at HQ hth
        have HOK2 := Lib.hid hok2
        have c0 : X2.cell? ⟨bd, 0, none⟩ = some (.int .i64 (d2 : Nat)) := HD2.out.cell 0
        have c1 : X2.cell? ⟨bd, 1, none⟩ = some (.slice qa k2 qc) := HD2.out.cell 1
        have b1 : (q2 : Int).tdiv 2 = (q : Int) := by rw [Int.tdiv_eq_ediv_of_nonneg (by omega)]; omega
        have b2 : (q2 : Int) / 2 = (q : Int) := by omega
        have b3 : IntKind.i64.wrap (q : Int) = (q : Int) := IntWalk.i64_in _ ⟨by omega, by omega⟩
        clear hok2 hth hq2 hlt2
        go_wp2_with fail
        refine HQ.out.mono ?_
        rintro e X3 ⟨⟨_, rfl⟩ | ⟨h9, _⟩, hC⟩
        rotate_left
        · rw [HOK2.out] at h9
          cases h9
        have HB := Lib.hid (HB2.out.trans (hC.mono HB2.out.size))
        clear hC HQ c0 c1
        go_wp2_with fail
        go_ret
        exact ⟨by first | rfl | simp [b1, b2, b3], HB.out⟩
theorem walk (h dep : Int) (w : World) (wh : (Lit.int .u64 h).wf = true) (_ : (Lit.int .i64 dep).wf = true) :
    Calls Try.prog 8 #[.int .u64 h, .int .i64 dep] w fun e w' => e = .returned (.bool true) ∧ Below w.heap.size w w' := by
  have := w64 wh
  obtain ⟨m, rfl⟩ := Int.eq_ofNat_of_zero_le this.1
  exact law_any m dep (by omega) w
theorem laidOut : laidOutB Try.prog = true := by kernel_rfl
set_option maxRecDepth 100000 in
theorem lifted (os : Os) (started : os.Started) (H : Type) (enc : TypeId × Value → H) :
    ReturnsInHanded {} Try.checked os 8 .any (Rows.layoutGoesSpec.pre6 enc Try.prog Try.f8 Rows.layoutGoesRow.domain false) (Rows.layoutGoesSpec.post enc Try.prog Try.f8 false true false false) := by
  refine returnsInHanded_of_change (C := Try.checked) own started (by kernel_rfl) Try.func8
    (ChangeSpec.witness6 (enc := enc) (C := Try.checked) false ⟨#[], #[.int .u64 0, .int .i64 0], []⟩ 8 (by kernel_rfl) (by kernel_rfl) (by kernel_rfl) (by kernel_rfl)) ?_
  intro W base args ds gs before hval0 hW hcnd _
  have hval : ∀ (j : Nat) t v, Try.f8.params[j]? = some t → args[j]? = some v → Value.okWide Try.prog W .any base t v := hval0
  have hW' := hW
  obtain ⟨p, q, hA0, hV, rfl, hfz, hnd⟩ := hW
  have hA : DataW.TrodAll enc Try.prog W 0 (fun _ => true) true Try.f8.params.toList args.toList ds p := hA0
  rw [Try.params8] at hA hval
  obtain ⟨v0, vs0, d0, ds0, p0, q0, hargs, rfl, rfl, h0, r0⟩ := trodAll_cons hA
  obtain ⟨v1, vs1, d1, ds1, p1, q1, rfl, rfl, rfl, h1, r1⟩ := trodAll_cons r0
  obtain ⟨rfl, rfl, rfl⟩ := trodAll_nil r1
  obtain rfl : args = #[v0, v1] := by cases args; simp_all
  obtain ⟨rfl, rfl⟩ := trodVars_none hV
  obtain ⟨a0, rfl, rfl, rfl, w0⟩ := open_int Try.underlying34 (hval 0 34 v0 rfl rfl) h0
  obtain ⟨a1, rfl, rfl, rfl, w1⟩ := open_int Try.underlying3 (hval 1 3 v1 rfl rfl) h1
  clear hA0 hval0
  refine (walk a0 a1 W w0 w1).mono fun e W' ⟨he, bel⟩ => ?_
  subst he
  exact ⟨_, rfl, _, _, _, [], _, [], hW', trodAll_mk1 (shut_bool Try.underlying4 _), (trodAll_cons_mk (shut_int Try.underlying34 w0) (trodAll_cons_mk (shut_int Try.underlying3 w1) trodAll_mk0)), rfl, bel.frame _, fun h => by cases h⟩

theorem over : Rows.layoutGoesRow.holds Try.pinned (OpenSpec.ofChange Rows.layoutGoesSpec) :=
  OpenClaim.holds_of_wide 8 Try.f8 rfl rfl rfl rfl rfl rfl rfl ⟨rfl, rfl, rfl, rfl, rfl⟩ rfl rfl rfl rfl rfl (by kernel_rfl) Try.func8 (by kernel_rfl)
    (of_decide_eq_true (by kernel_rfl)) (by unfold Func.isWrapper; first | (rw [if_pos (by decide +kernel)]; kernel_rfl) | (rw [if_neg (by decide +kernel)]; exact ⟨rfl, rfl⟩))
    (fun os started H enc _ => lifted os started H enc)

theorem proved : Rows.LayoutGoesSaid := over
end Go.Proofs.Ytkddfihfilhhdaa.layoutGoes
