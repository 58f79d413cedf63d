/- Limbo: what is copied, ready; what waits, told. -/
import Derived.Test.YtghnfiegihfdnaaDoorLe
namespace Go.Proofs
set_option maxRecDepth 100000
open Go.RowKit Go.Shelf
attribute [local go_sem] Oper.semAt_some

set_option maxHeartbeats 4000000 in
theorem Tryd.copied_any (a : Option Addr) (n c : Nat) (l : List Pr) (hl : n ≤ 10000) (w : World) (hI : PAt w (.slice a n c) l) :
    Calls Tryd.prog 36 #[.slice a n c] w fun e w' => ∃ g, e = .returned (.slice (some ⟨g, 0, none⟩) n n) ∧ OwnsP tE w.heap.size l (.slice (some ⟨g, 0, none⟩) n n) w' ∧ Below w.heap.size w w' := by
  obtain ⟨i0, hi, hz0, hz1, hz2⟩ := info_parts Tryd.infoEntry
  have hn := (pAt_len hI).1
  have HI := Lib.hid hI
  have HN := Lib.hid hn
  clear hI hn
  go_enter Tryd.func36, Tryd.ntmps36
  go_wp2_with (refine wpList_make_full _ rfl _ _ 23 rfl w.heap.size 38 i0 (.agg #[.int .i64 0, .int .u64 0]) 2 Tryd.underlying23 hi hz0 hz1 .i64 .i64 (n : Int) (n : Int) n rfl rfl rfl rfl (by rw [hz2]; omega) (by unfold maxLen; omega) (Nat.le_refl _) ?_)
  intro w2 hown hgr
  have hB2 : Below w.heap.size w w2 := (Below.refl _ w).grown hgr (Nat.le_refl _) (fun j ej => by cases ej)
  obtain ⟨cur, hcur, hcsz⟩ : ∃ cur, w2.heap[w.heap.size]? = some (.cells cur 38 (0, 0)) ∧ cur.size = n * 2 := by
    rcases hown.2 with ⟨h0, _⟩ | ⟨g, cp, cur, h0, _, hh, _, _, hsz, _⟩
    · cases h0
    · cases h0; exact ⟨cur, hh, hsz⟩
  have hI2 : PAt w2 (.slice a n c) l := HI.out.below hB2
  obtain ⟨w3, hcp, ho3, hB3⟩ : ∃ w3, (Builtin.copy_ #[23, 23] 3 #[.slice (some ⟨w.heap.size, 0, none⟩) n n, .slice a n c]).run Tryd.prog w2 = .ok (goInt n) w3 ∧ OwnsP tE w.heap.size l (.slice (some ⟨w.heap.size, 0, none⟩) n n) w3 ∧ Below w.heap.size w w3 := by
    have hcl : (pVals l).length = n * 2 := by rw [pVals_length, HN.out]
    cases a with
    | none =>
      obtain ⟨_, a', cap', e, h2, _, h4, _⟩ := HI.out
      have hz : c = 0 ∧ n ≤ c := by
        cases e
        exact ⟨h4 rfl, h2⟩
      obtain ⟨rfl, hnz⟩ := hz
      obtain rfl : n = 0 := by omega
      clear e h2 h4
      obtain rfl : l = [] := List.eq_nil_of_length_eq_zero HN.out.symm
      refine ⟨w2, run_copy_nil w2 23 23 3 38 w.heap.size 0 0 2 Tryd.underlying23 (by rw [hi]; simp [hz1]), ?_, hB2⟩
      exact ⟨by simp [pVals], .inr ⟨w.heap.size, 0, cur, rfl, Nat.le_refl _, hcur, Nat.le_refl _, by unfold maxLen; omega, by simpa using hcsz, by simp [pVals]⟩⟩
    | some x =>
      have hcp := run_copy_rowK (P := Tryd.prog) w2 23 23 3 38 w.heap.size 0 n n x n c cur 38 (pVals l) 2 Tryd.underlying23 (by rw [hi]; simp [hz1]) hcur (by rw [show Nat.min n n = n from Nat.min_self n]; exact hcl) (row_src (n := n) (by have h := hI2; unfold PAt at h; rw [← HN.out] at h; exact h)) (by omega) (pVals_one l)
      have htk : (List.take 0 cur.toList ++ pVals l ++ List.drop (0 + (pVals l).length) cur.toList).toArray = (pVals l).toArray := by
        rw [List.take_zero, List.nil_append, List.drop_of_length_le (by rw [Array.length_toList, hcsz]; omega), List.append_nil]
      rw [htk, show Nat.min n n = n from Nat.min_self n] at hcp
      have hr4 : (w2.setRow w.heap.size (pVals l).toArray).heap[w.heap.size]? = some (.cells (pVals l).toArray 38 (0, 0)) := setRow_heap _ w.heap.size _ _ _ _ hcur
      refine ⟨_, hcp, ?_, below_setRow hB2 (Nat.le_refl _) (pVals l).toArray⟩
      refine ⟨by rw [hcl, HN.out], .inr ⟨w.heap.size, n, _, ?_, Nat.le_refl _, hr4, ?_, by unfold maxLen; omega, by simp [hcl], List.take_of_length_le (by rw [hcl, ← HN.out]; exact Nat.le_refl _)⟩⟩
      · rw [← HN.out]
      · rw [← HN.out]; exact Nat.le_refl _
  have HCP := Lib.hid hcp
  have HO := Lib.hid ho3
  have HB := Lib.hid hB3
  clear hcp ho3 hB3 hI2 hcur hcsz hown hgr hB2
  go_wp2_with (refine wpList_copyK rfl _ _ _ _ rfl _ _ rfl rfl _ _ HCP.out ?_)
  go_wp2_with fail
  go_ret
  exact ⟨_, rfl, HO.out, HB.out⟩
theorem cellK {W : World} {B : Nat} {t : TypeId} {E : Value} {s : Ls} (h : Rows8 W B t #[E, .slice (s.a 0) (s.n 0) (s.c 0), .slice (s.a 1) (s.n 1) (s.c 1), .slice (s.a 2) (s.n 2) (s.c 2)]) (k : Nat) (hk : k < 3) : W.cell? ⟨B, 1 + k, none⟩ = some (.slice (s.a k) (s.n k) (s.c k)) := by
  rcases three hk with rfl | rfl | rfl <;> exact h.cell _
set_option maxHeartbeats 1000000 in
theorem Tryd.readyV_any (E : Nat) (s : Ls) (w : World) (hE : E ≤ 4611686018427387904) :
    Calls Tryd.prog 37 #[.agg #[.int .u64 (E : Nat), .slice (s.a 0) (s.n 0) (s.c 0), .slice (s.a 1) (s.n 1) (s.c 1), .slice (s.a 2) (s.n 2) (s.c 2)]] w fun e w' => e = .returned (.slice (s.a ((E + 1) % 3)) (s.n ((E + 1) % 3)) (s.c ((E + 1) % 3))) ∧ w' = w.alloc (.cells #[.int .u64 (E : Nat), .slice (s.a 0) (s.n 0) (s.c 0), .slice (s.a 1) (s.n 1) (s.c 1), .slice (s.a 2) (s.n 2) (s.c 2)] 57) := by
  have hR := Rows8.new w 57 #[.int .u64 (E : Nat), .slice (s.a 0) (s.n 0) (s.c 0), .slice (s.a 1) (s.n 1) (s.c 1), .slice (s.a 2) (s.n 2) (s.c 2)]
  have hk : (E + 1) % 3 < 3 := Nat.mod_lt _ (by decide)
  have cK := cellK hR ((E + 1) % 3) hk
  have hR0 := fun W => Lib.hid (Tryd.rowOf_any (E + 1) W)
  have hw1 : IntKind.u64.wrap ((E : Int) + 1) = ((E + 1 : Nat) : Int) := wrap_u _ (by omega) (by omega)
  generalize (E + 1) % 3 = k at *
  generalize E + 1 = F at *
  have hki : (k : Int) < 3 := by omega
  have hki0 : (0 : Int) ≤ (k : Int) := by omega
  have hl := hR.lt
  clear hk hR
  go_enter Tryd.func37, Tryd.ntmps37
  go_wp2_with fail
  refine (hR0 _).out.mono ?_
  rintro e w1 ⟨rfl, rfl⟩
  go_wp2_with fail
  go_ret
  exact ⟨rfl, rfl⟩
set_option maxHeartbeats 2000000 in
theorem Tryd.Ready_any (E : Nat) (s : Ls) (r : Rw3) (w : World) (hI : LAt w s r) (hE : E < 18446744073709551616) :
    Calls Tryd.prog 15 #[.agg #[.int .u64 (E : Nat), .slice (s.a 0) (s.n 0) (s.c 0), .slice (s.a 1) (s.n 1) (s.c 1), .slice (s.a 2) (s.n 2) (s.c 2)]] w fun e w' => ∃ v, e = .returned v ∧ OwnsP tE w.heap.size (if rightL E r then readyL E r else []) v w' ∧ Below w.heap.size w w' := by
  have hB0 : Below w.heap.size w ((w.alloc (.cells #[.int .u64 (E : Nat), .slice (s.a 0) (s.n 0) (s.c 0), .slice (s.a 1) (s.n 1) (s.c 1), .slice (s.a 2) (s.n 2) (s.c 2)] 26)).alloc (.cells #[.int .u64 (E : Nat), .slice (s.a 0) (s.n 0) (s.c 0), .slice (s.a 1) (s.n 1) (s.c 1), .slice (s.a 2) (s.n 2) (s.c 2)] 57)) := (Rows8.newB).alloc (by simp) _
  have hV0 := rows_new2 w (.cells #[.int .u64 (E : Nat), .slice (s.a 0) (s.n 0) (s.c 0), .slice (s.a 1) (s.n 1) (s.c 1), .slice (s.a 2) (s.n 2) (s.c 2)] 26) 57 #[.int .u64 (E : Nat), .slice (s.a 0) (s.n 0) (s.c 0), .slice (s.a 1) (s.n 1) (s.c 1), .slice (s.a 2) (s.n 2) (s.c 2)]
  have HM := Lib.hid (Tryd.mayBe_any E s r _ (hI.below hB0) hE)
  have hrd := fun (h : E ≤ 4611686018427387904) W => Tryd.readyV_any E s W h
  have hcp := fun (n : Nat) (a : Option Addr) (c : Nat) l W h h2 => Tryd.copied_any a n c l h W h2
  have HRD := Lib.hid hrd
  have HCP := Lib.hid hcp
  have HI := Lib.hid hI
  have HB0 := Lib.hid hB0
  have HV0 := Lib.hid hV0
  obtain ⟨q, hq⟩ : ∃ q, q = rightL E r := ⟨_, rfl⟩
  rw [← hq] at HM ⊢
  have HQ := Lib.hid hq
  obtain ⟨RL, hRL⟩ : ∃ l, l = readyL E r := ⟨_, rfl⟩
  rw [← hRL]
  have HRL := Lib.hid (show r ((E + 1) % 3) = RL from hRL.symm)
  clear hB0 hV0 hI hE hrd hcp hq hRL
  go_enter Tryd.func15, Tryd.ntmps15
  go_wp2_with fail
  refine HM.out.mono ?_
  rintro e w1 ⟨rfl, hB1⟩
  have v1 := HV0.out.below hB1 HV0.out.lt
  have c0 : w1.cell? ⟨w.heap.size + 1, 0, none⟩ = some (.int .u64 (E : Nat)) := v1.cell 0
  have c1 : w1.cell? ⟨w.heap.size + 1, 1, none⟩ = some (.slice (s.a 0) (s.n 0) (s.c 0)) := v1.cell 1
  have c2 : w1.cell? ⟨w.heap.size + 1, 2, none⟩ = some (.slice (s.a 1) (s.n 1) (s.c 1)) := v1.cell 2
  have c3 : w1.cell? ⟨w.heap.size + 1, 3, none⟩ = some (.slice (s.a 2) (s.n 2) (s.c 2)) := v1.cell 3
  have HB1 := Lib.hid (HB0.out.trans (hB1.mono HB0.out.size))
  clear hB1 v1
  cases q with
  | false =>
    go_wp2_with fail
    go_ret
    exact ⟨_, rfl, ownsP_nil _ _ _, HB1.out⟩
  | true =>
    have hr := HQ.out.symm
    have hE := (rightL_iff.1 hr).1.1
    have hk : (E + 1) % 3 < 3 := Nat.mod_lt _ (by decide)
    have hlk := rightL_lenk hr _ hk
    have hl2 := HI.out.len _ hk
    have HRD1 := Lib.hid (HRD.out hE w1)
    have hal : Below w1.heap.size w1 (w1.alloc (.cells #[.int .u64 (E : Nat), .slice (s.a 0) (s.n 0) (s.c 0), .slice (s.a 1) (s.n 1) (s.c 1), .slice (s.a 2) (s.n 2) (s.c 2)] 57)) := Rows8.newB
    have HB2 := Lib.hid (HB1.out.trans (hal.mono HB1.out.size))
    have HC1 := Lib.hid (HCP.out (s.n ((E + 1) % 3)) (s.a ((E + 1) % 3)) (s.c ((E + 1) % 3)) (r ((E + 1) % 3)) (w1.alloc (.cells #[.int .u64 (E : Nat), .slice (s.a 0) (s.n 0) (s.c 0), .slice (s.a 1) (s.n 1) (s.c 1), .slice (s.a 2) (s.n 2) (s.c 2)] 57)) (by omega) ((HI.out _ hk).below HB2.out))
    rw [HRL.out] at HC1
    clear hr hE hk hlk hl2 hal HQ HV0 HB0 HRD HCP HRL
    generalize (E + 1) % 3 = k at *
    go_wp2_with fail
    refine HRD1.out.mono ?_
    rintro e w2 ⟨rfl, rfl⟩
    go_wp2_with fail
    refine HC1.out.mono ?_
    rintro e w3 ⟨g, rfl, hO, hB3⟩
    have HO := Lib.hid (hO.mono HB2.out.size)
    have HB3 := Lib.hid (HB2.out.trans (hB3.mono HB2.out.size))
    clear hO hB3
    go_wp2_with fail
    go_ret
    exact ⟨_, rfl, HO.out, HB3.out⟩
end Go.Proofs
