/- Monitor: copies of rows. -/
import Derived.Test.YtkghlcoancfnfaaBk
namespace Go.Proofs
set_option maxRecDepth 100000
open Go.RowKit Go.Shelf
attribute [local go_sem] Oper.semAt_some

theorem Try.infoRow : (Try.prog.info? 62).map (fun i => (i.zero, i.size, i.bytes)) = some (some (.slice none 0 0), 1, 24) := by kernel_rfl
theorem setRow_self {W : World} {g : Nat} {cur : Array Value} {t : TypeId} (h : W.heap[g]? = some (.cells cur t (0, 0))) (cs : List Value) (e : cs.toArray = cur) : (W.setRow g cs.toArray).heap[g]? = some (.cells cs.toArray t (0, 0)) := setRow_heap _ g _ _ _ _ h
theorem run_copy_nil {P : Program} (w : World) (dT sT ty elem : TypeId) (g o dCap : Nat) (k : Nat) (hu : P.underlying dT = some (.slice elem)) (hs : (P.info? elem).map (·.size) = some k) :
    (Builtin.copy_ #[dT, sT] ty #[.slice (some ⟨g, o, none⟩) 0 dCap, .slice none 0 0]).run P w = .ok (goInt 0) w := by
  cases hq : P.info? elem with
  | none => simp [hq] at hs
  | some i => simp [Builtin.copy_, run_underlying hu, Builtin.lenOf, Builtin.firstCells, sizeOf, typeInfo, hq, loadCells, storeCells]
set_option maxHeartbeats 2000000 in
theorem Try.copiedSlab_any (a : Option Addr) (n cap : Nat) (cs : List Value) (hn : n ≤ 10000) (w : World) (hI : RowAt w (.slice a n cap) n 2 cs) (h1 : ∀ u ∈ cs, u.oneCell' = true) :
    Calls Try.prog 80 #[.slice a n cap] w fun e w' => ∃ g, e = .returned (.slice (some ⟨g, 0, none⟩) n n) ∧ w'.ownsRow w.heap.size 56 2 (.slice (some ⟨g, 0, none⟩) n n) n cs ∧ Below w.heap.size w w' := by
  obtain ⟨i0, hi, hz0, hz1, hz2⟩ := info_parts Try.infoSlab
  have hcl : cs.length = n * 2 := hI.1
  have HI := Lib.hid hI
  have H1 := Lib.hid h1
  have HCL := Lib.hid hcl
  clear hI h1 hcl
  go_enter Try.func80, Try.ntmps80
  go_wp2_with (refine wpList_make_full _ rfl _ _ 22 rfl w.heap.size 56 i0 (.agg #[.int .i64 0, .int .u64 0]) 2 Try.underlying22 hi hz0 hz1 .i64 .i64 (n : Int) (n : Int) n rfl rfl rfl rfl (by rw [hz2]; omega) (by unfold maxLen; omega) (Nat.le_refl _) ?_)
  intro w2 hown hgr
  have hB2 : Below w.heap.size w w2 := (Below.refl _ w).grown hgr (Nat.le_refl _) (fun j ej => by cases ej)
  obtain ⟨cur, hcur, hcsz⟩ : ∃ cur, w2.heap[w.heap.size]? = some (.cells cur 56 (0, 0)) ∧ cur.size = n * 2 := by
    rcases hown.2 with ⟨h0, _⟩ | ⟨g, cp, cur, h0, _, hh, _, _, hsz, _⟩
    · cases h0
    · cases h0; exact ⟨cur, hh, hsz⟩
  obtain ⟨w3, hcp, ho3, hB3⟩ : ∃ w3, (Builtin.copy_ #[22, 22] 3 #[.slice (some ⟨w.heap.size, 0, none⟩) n n, .slice a n cap]).run Try.prog w2 = .ok (goInt n) w3 ∧ w3.ownsRow w.heap.size 56 2 (.slice (some ⟨w.heap.size, 0, none⟩) n n) n cs ∧ Below w.heap.size w w3 := by
    cases a with
    | none =>
      obtain ⟨_, a', cap', e, h2, _, h4, _⟩ := HI.out
      cases e
      obtain rfl : cap = 0 := h4 rfl
      obtain rfl : n = 0 := by omega
      obtain rfl : cs = [] := List.eq_nil_of_length_eq_zero (by have := HCL.out; omega)
      refine ⟨w2, run_copy_nil w2 22 22 3 56 w.heap.size 0 0 2 Try.underlying22 (by rw [hi]; simp [hz1]), ?_, hB2⟩
      exact ⟨by simp, .inr ⟨w.heap.size, 0, cur, rfl, Nat.le_refl _, hcur, Nat.le_refl _, by unfold maxLen; omega, by simpa using hcsz, by simp⟩⟩
    | some x =>
      have hI2 := HI.out.below hB2
      have hcp := run_copy_rowK (P := Try.prog) w2 22 22 3 56 w.heap.size 0 n n x n cap cur 56 cs 2 Try.underlying22 (by rw [hi]; simp [hz1]) hcur (by rw [show Nat.min n n = n from Nat.min_self n]; exact HCL.out) (row_src hI2) (by have := HCL.out; omega) H1.out
      have htk : (List.take 0 cur.toList ++ cs ++ List.drop (0 + cs.length) cur.toList).toArray = cs.toArray := by
        rw [List.take_zero, List.nil_append, List.drop_of_length_le (by rw [Array.length_toList, hcsz]; have := HCL.out; omega), List.append_nil]
      rw [htk, show Nat.min n n = n from Nat.min_self n] at hcp
      have hr4 : (w2.setRow w.heap.size cs.toArray).heap[w.heap.size]? = some (.cells cs.toArray 56 (0, 0)) := setRow_heap _ w.heap.size _ _ _ _ hcur
      refine ⟨_, hcp, ?_, below_setRow hB2 (Nat.le_refl _) cs.toArray⟩
      exact ⟨HCL.out, .inr ⟨w.heap.size, n, _, rfl, Nat.le_refl _, hr4, Nat.le_refl _, by unfold maxLen; omega, by simpa using HCL.out, List.take_of_length_le (by simpa using Nat.le_of_eq HCL.out)⟩⟩
  have HCP := Lib.hid hcp
  have HO := Lib.hid ho3
  have HB := Lib.hid hB3
  clear hcp ho3 hB3 hown hgr hB2 hcur hcsz
  go_wp2_with (refine wpList_copyK rfl _ _ _ _ rfl _ _ rfl rfl _ _ HCP.out ?_)
  go_ret
  exact ⟨_, rfl, HO.out, HB.out⟩
set_option maxHeartbeats 2000000 in
theorem Try.copiedBool_any (a : Option Addr) (n cap : Nat) (cs : List Value) (hn : n ≤ 10000) (w : World) (hI : RowAt w (.slice a n cap) n 1 cs) (h1 : ∀ u ∈ cs, u.oneCell' = true) :
    Calls Try.prog 81 #[.slice a n cap] w fun e w' => ∃ g, e = .returned (.slice (some ⟨g, 0, none⟩) n n) ∧ w'.ownsRow w.heap.size 4 1 (.slice (some ⟨g, 0, none⟩) n n) n cs ∧ Below w.heap.size w w' := by
  obtain ⟨i0, hi, hz0, hz1, hz2⟩ := info_parts Try.infoBool
  have hcl : cs.length = n * 1 := hI.1
  have HI := Lib.hid hI
  have H1 := Lib.hid h1
  have HCL := Lib.hid hcl
  clear hI h1 hcl
  go_enter Try.func81, Try.ntmps81
  go_wp2_with (refine wpList_make_full _ rfl _ _ 25 rfl w.heap.size 4 i0 (.bool false) 1 Try.underlying25 hi hz0 hz1 .i64 .i64 (n : Int) (n : Int) n rfl rfl rfl rfl (by rw [hz2]; omega) (by unfold maxLen; omega) (Nat.le_refl _) ?_)
  intro w2 hown hgr
  have hB2 : Below w.heap.size w w2 := (Below.refl _ w).grown hgr (Nat.le_refl _) (fun j ej => by cases ej)
  obtain ⟨cur, hcur, hcsz⟩ : ∃ cur, w2.heap[w.heap.size]? = some (.cells cur 4 (0, 0)) ∧ cur.size = n * 1 := by
    rcases hown.2 with ⟨h0, _⟩ | ⟨g, cp, cur, h0, _, hh, _, _, hsz, _⟩
    · cases h0
    · cases h0; exact ⟨cur, hh, hsz⟩
  obtain ⟨w3, hcp, ho3, hB3⟩ : ∃ w3, (Builtin.copy_ #[25, 25] 3 #[.slice (some ⟨w.heap.size, 0, none⟩) n n, .slice a n cap]).run Try.prog w2 = .ok (goInt n) w3 ∧ w3.ownsRow w.heap.size 4 1 (.slice (some ⟨w.heap.size, 0, none⟩) n n) n cs ∧ Below w.heap.size w w3 := by
    cases a with
    | none =>
      obtain ⟨_, a', cap', e, h2, _, h4, _⟩ := HI.out
      cases e
      obtain rfl : cap = 0 := h4 rfl
      obtain rfl : n = 0 := by omega
      obtain rfl : cs = [] := List.eq_nil_of_length_eq_zero (by have := HCL.out; omega)
      refine ⟨w2, run_copy_nil w2 25 25 3 4 w.heap.size 0 0 1 Try.underlying25 (by rw [hi]; simp [hz1]), ?_, hB2⟩
      exact ⟨by simp, .inr ⟨w.heap.size, 0, cur, rfl, Nat.le_refl _, hcur, Nat.le_refl _, by unfold maxLen; omega, by simpa using hcsz, by simp⟩⟩
    | some x =>
      have hI2 := HI.out.below hB2
      have hcp := run_copy_rowK (P := Try.prog) w2 25 25 3 4 w.heap.size 0 n n x n cap cur 4 cs 1 Try.underlying25 (by rw [hi]; simp [hz1]) hcur (by rw [show Nat.min n n = n from Nat.min_self n]; exact HCL.out) (row_src hI2) (by have := HCL.out; omega) H1.out
      have htk : (List.take 0 cur.toList ++ cs ++ List.drop (0 + cs.length) cur.toList).toArray = cs.toArray := by
        rw [List.take_zero, List.nil_append, List.drop_of_length_le (by rw [Array.length_toList, hcsz]; have := HCL.out; omega), List.append_nil]
      rw [htk, show Nat.min n n = n from Nat.min_self n] at hcp
      have hr4 : (w2.setRow w.heap.size cs.toArray).heap[w.heap.size]? = some (.cells cs.toArray 4 (0, 0)) := setRow_heap _ w.heap.size _ _ _ _ hcur
      refine ⟨_, hcp, ?_, below_setRow hB2 (Nat.le_refl _) cs.toArray⟩
      exact ⟨HCL.out, .inr ⟨w.heap.size, n, _, rfl, Nat.le_refl _, hr4, Nat.le_refl _, by unfold maxLen; omega, by simpa using HCL.out, List.take_of_length_le (by simpa using Nat.le_of_eq HCL.out)⟩⟩
  have HCP := Lib.hid hcp
  have HO := Lib.hid ho3
  have HB := Lib.hid hB3
  clear hcp ho3 hB3 hown hgr hB2 hcur hcsz
  go_wp2_with (refine wpList_copyK rfl _ _ _ _ rfl _ _ rfl rfl _ _ HCP.out ?_)
  go_ret
  exact ⟨_, rfl, HO.out, HB.out⟩
set_option maxHeartbeats 2000000 in
theorem Try.copiedRow_any (a : Option Addr) (n cap : Nat) (cs : List Value) (hn : n ≤ 10000) (w : World) (hI : RowAt w (.slice a n cap) n 1 cs) (h1 : ∀ u ∈ cs, u.oneCell' = true) :
    Calls Try.prog 82 #[.slice a n cap] w fun e w' => ∃ g, e = .returned (.slice (some ⟨g, 0, none⟩) n n) ∧ w'.ownsRow w.heap.size 62 1 (.slice (some ⟨g, 0, none⟩) n n) n cs ∧ Below w.heap.size w w' := by
  obtain ⟨i0, hi, hz0, hz1, hz2⟩ := info_parts Try.infoRow
  have hcl : cs.length = n * 1 := hI.1
  have HI := Lib.hid hI
  have H1 := Lib.hid h1
  have HCL := Lib.hid hcl
  clear hI h1 hcl
  go_enter Try.func82, Try.ntmps82
  go_wp2_with (refine wpList_make_full _ rfl _ _ 26 rfl w.heap.size 62 i0 (.slice none 0 0) 1 Try.underlying26 hi hz0 hz1 .i64 .i64 (n : Int) (n : Int) n rfl rfl rfl rfl (by rw [hz2]; omega) (by unfold maxLen; omega) (Nat.le_refl _) ?_)
  intro w2 hown hgr
  have hB2 : Below w.heap.size w w2 := (Below.refl _ w).grown hgr (Nat.le_refl _) (fun j ej => by cases ej)
  obtain ⟨cur, hcur, hcsz⟩ : ∃ cur, w2.heap[w.heap.size]? = some (.cells cur 62 (0, 0)) ∧ cur.size = n * 1 := by
    rcases hown.2 with ⟨h0, _⟩ | ⟨g, cp, cur, h0, _, hh, _, _, hsz, _⟩
    · cases h0
    · cases h0; exact ⟨cur, hh, hsz⟩
  obtain ⟨w3, hcp, ho3, hB3⟩ : ∃ w3, (Builtin.copy_ #[26, 26] 3 #[.slice (some ⟨w.heap.size, 0, none⟩) n n, .slice a n cap]).run Try.prog w2 = .ok (goInt n) w3 ∧ w3.ownsRow w.heap.size 62 1 (.slice (some ⟨w.heap.size, 0, none⟩) n n) n cs ∧ Below w.heap.size w w3 := by
    cases a with
    | none =>
      obtain ⟨_, a', cap', e, h2, _, h4, _⟩ := HI.out
      cases e
      obtain rfl : cap = 0 := h4 rfl
      obtain rfl : n = 0 := by omega
      obtain rfl : cs = [] := List.eq_nil_of_length_eq_zero (by have := HCL.out; omega)
      refine ⟨w2, run_copy_nil w2 26 26 3 62 w.heap.size 0 0 1 Try.underlying26 (by rw [hi]; simp [hz1]), ?_, hB2⟩
      exact ⟨by simp, .inr ⟨w.heap.size, 0, cur, rfl, Nat.le_refl _, hcur, Nat.le_refl _, by unfold maxLen; omega, by simpa using hcsz, by simp⟩⟩
    | some x =>
      have hI2 := HI.out.below hB2
      have hcp := run_copy_rowK (P := Try.prog) w2 26 26 3 62 w.heap.size 0 n n x n cap cur 62 cs 1 Try.underlying26 (by rw [hi]; simp [hz1]) hcur (by rw [show Nat.min n n = n from Nat.min_self n]; exact HCL.out) (row_src hI2) (by have := HCL.out; omega) H1.out
      have htk : (List.take 0 cur.toList ++ cs ++ List.drop (0 + cs.length) cur.toList).toArray = cs.toArray := by
        rw [List.take_zero, List.nil_append, List.drop_of_length_le (by rw [Array.length_toList, hcsz]; have := HCL.out; omega), List.append_nil]
      rw [htk, show Nat.min n n = n from Nat.min_self n] at hcp
      have hr4 : (w2.setRow w.heap.size cs.toArray).heap[w.heap.size]? = some (.cells cs.toArray 62 (0, 0)) := setRow_heap _ w.heap.size _ _ _ _ hcur
      refine ⟨_, hcp, ?_, below_setRow hB2 (Nat.le_refl _) cs.toArray⟩
      exact ⟨HCL.out, .inr ⟨w.heap.size, n, _, rfl, Nat.le_refl _, hr4, Nat.le_refl _, by unfold maxLen; omega, by simpa using HCL.out, List.take_of_length_le (by simpa using Nat.le_of_eq HCL.out)⟩⟩
  have HCP := Lib.hid hcp
  have HO := Lib.hid ho3
  have HB := Lib.hid hB3
  clear hcp ho3 hB3 hown hgr hB2 hcur hcsz
  go_wp2_with (refine wpList_copyK rfl _ _ _ _ rfl _ _ rfl rfl _ _ HCP.out ?_)
  go_ret
  exact ⟨_, rfl, HO.out, HB.out⟩
set_option maxHeartbeats 2000000 in
theorem Try.copiedWatch_any (a : Option Addr) (n cap : Nat) (cs : List Value) (hn : n ≤ 10000) (w : World) (hI : RowAt w (.slice a n cap) n 4 cs) (h1 : ∀ u ∈ cs, u.oneCell' = true) :
    Calls Try.prog 83 #[.slice a n cap] w fun e w' => ∃ g, e = .returned (.slice (some ⟨g, 0, none⟩) n n) ∧ w'.ownsRow w.heap.size 40 4 (.slice (some ⟨g, 0, none⟩) n n) n cs ∧ Below w.heap.size w w' := by
  obtain ⟨i0, hi, hz0, hz1, hz2⟩ := info_parts Try.infoWatch
  have hcl : cs.length = n * 4 := hI.1
  have HI := Lib.hid hI
  have H1 := Lib.hid h1
  have HCL := Lib.hid hcl
  clear hI h1 hcl
  go_enter Try.func83, Try.ntmps83
  go_wp2_with (refine wpList_make_full _ rfl _ _ 27 rfl w.heap.size 40 i0 (.agg #[.int .i64 0, .int .i64 0, .int .i64 0, .int .u64 0]) 4 Try.underlying27 hi hz0 hz1 .i64 .i64 (n : Int) (n : Int) n rfl rfl rfl rfl (by rw [hz2]; omega) (by unfold maxLen; omega) (Nat.le_refl _) ?_)
  intro w2 hown hgr
  have hB2 : Below w.heap.size w w2 := (Below.refl _ w).grown hgr (Nat.le_refl _) (fun j ej => by cases ej)
  obtain ⟨cur, hcur, hcsz⟩ : ∃ cur, w2.heap[w.heap.size]? = some (.cells cur 40 (0, 0)) ∧ cur.size = n * 4 := by
    rcases hown.2 with ⟨h0, _⟩ | ⟨g, cp, cur, h0, _, hh, _, _, hsz, _⟩
    · cases h0
    · cases h0; exact ⟨cur, hh, hsz⟩
  obtain ⟨w3, hcp, ho3, hB3⟩ : ∃ w3, (Builtin.copy_ #[27, 27] 3 #[.slice (some ⟨w.heap.size, 0, none⟩) n n, .slice a n cap]).run Try.prog w2 = .ok (goInt n) w3 ∧ w3.ownsRow w.heap.size 40 4 (.slice (some ⟨w.heap.size, 0, none⟩) n n) n cs ∧ Below w.heap.size w w3 := by
    cases a with
    | none =>
      obtain ⟨_, a', cap', e, h2, _, h4, _⟩ := HI.out
      cases e
      obtain rfl : cap = 0 := h4 rfl
      obtain rfl : n = 0 := by omega
      obtain rfl : cs = [] := List.eq_nil_of_length_eq_zero (by have := HCL.out; omega)
      refine ⟨w2, run_copy_nil w2 27 27 3 40 w.heap.size 0 0 4 Try.underlying27 (by rw [hi]; simp [hz1]), ?_, hB2⟩
      exact ⟨by simp, .inr ⟨w.heap.size, 0, cur, rfl, Nat.le_refl _, hcur, Nat.le_refl _, by unfold maxLen; omega, by simpa using hcsz, by simp⟩⟩
    | some x =>
      have hI2 := HI.out.below hB2
      have hcp := run_copy_rowK (P := Try.prog) w2 27 27 3 40 w.heap.size 0 n n x n cap cur 40 cs 4 Try.underlying27 (by rw [hi]; simp [hz1]) hcur (by rw [show Nat.min n n = n from Nat.min_self n]; exact HCL.out) (row_src hI2) (by have := HCL.out; omega) H1.out
      have htk : (List.take 0 cur.toList ++ cs ++ List.drop (0 + cs.length) cur.toList).toArray = cs.toArray := by
        rw [List.take_zero, List.nil_append, List.drop_of_length_le (by rw [Array.length_toList, hcsz]; have := HCL.out; omega), List.append_nil]
      rw [htk, show Nat.min n n = n from Nat.min_self n] at hcp
      have hr4 : (w2.setRow w.heap.size cs.toArray).heap[w.heap.size]? = some (.cells cs.toArray 40 (0, 0)) := setRow_heap _ w.heap.size _ _ _ _ hcur
      refine ⟨_, hcp, ?_, below_setRow hB2 (Nat.le_refl _) cs.toArray⟩
      exact ⟨HCL.out, .inr ⟨w.heap.size, n, _, rfl, Nat.le_refl _, hr4, Nat.le_refl _, by unfold maxLen; omega, by simpa using HCL.out, List.take_of_length_le (by simpa using Nat.le_of_eq HCL.out)⟩⟩
  have HCP := Lib.hid hcp
  have HO := Lib.hid ho3
  have HB := Lib.hid hB3
  clear hcp ho3 hB3 hown hgr hB2 hcur hcsz
  go_wp2_with (refine wpList_copyK rfl _ _ _ _ rfl _ _ rfl rfl _ _ HCP.out ?_)
  go_ret
  exact ⟨_, rfl, HO.out, HB.out⟩
set_option maxHeartbeats 2000000 in
theorem Try.copiedEntry_any (a : Option Addr) (n cap : Nat) (cs : List Value) (hn : n ≤ 10000) (w : World) (hI : RowAt w (.slice a n cap) n 2 cs) (h1 : ∀ u ∈ cs, u.oneCell' = true) :
    Calls Try.prog 84 #[.slice a n cap] w fun e w' => ∃ g, e = .returned (.slice (some ⟨g, 0, none⟩) n n) ∧ w'.ownsRow w.heap.size 38 2 (.slice (some ⟨g, 0, none⟩) n n) n cs ∧ Below w.heap.size w w' := by
  obtain ⟨i0, hi, hz0, hz1, hz2⟩ := info_parts Try.infoEntry
  have hcl : cs.length = n * 2 := hI.1
  have HI := Lib.hid hI
  have H1 := Lib.hid h1
  have HCL := Lib.hid hcl
  clear hI h1 hcl
  go_enter Try.func84, Try.ntmps84
  go_wp2_with (refine wpList_make_full _ rfl _ _ 62 rfl w.heap.size 38 i0 (.agg #[.int .i64 0, .int .u64 0]) 2 Try.underlying62 hi hz0 hz1 .i64 .i64 (n : Int) (n : Int) n rfl rfl rfl rfl (by rw [hz2]; omega) (by unfold maxLen; omega) (Nat.le_refl _) ?_)
  intro w2 hown hgr
  have hB2 : Below w.heap.size w w2 := (Below.refl _ w).grown hgr (Nat.le_refl _) (fun j ej => by cases ej)
  obtain ⟨cur, hcur, hcsz⟩ : ∃ cur, w2.heap[w.heap.size]? = some (.cells cur 38 (0, 0)) ∧ cur.size = n * 2 := by
    rcases hown.2 with ⟨h0, _⟩ | ⟨g, cp, cur, h0, _, hh, _, _, hsz, _⟩
    · cases h0
    · cases h0; exact ⟨cur, hh, hsz⟩
  obtain ⟨w3, hcp, ho3, hB3⟩ : ∃ w3, (Builtin.copy_ #[62, 62] 3 #[.slice (some ⟨w.heap.size, 0, none⟩) n n, .slice a n cap]).run Try.prog w2 = .ok (goInt n) w3 ∧ w3.ownsRow w.heap.size 38 2 (.slice (some ⟨w.heap.size, 0, none⟩) n n) n cs ∧ Below w.heap.size w w3 := by
    cases a with
    | none =>
      obtain ⟨_, a', cap', e, h2, _, h4, _⟩ := HI.out
      cases e
      obtain rfl : cap = 0 := h4 rfl
      obtain rfl : n = 0 := by omega
      obtain rfl : cs = [] := List.eq_nil_of_length_eq_zero (by have := HCL.out; omega)
      refine ⟨w2, run_copy_nil w2 62 62 3 38 w.heap.size 0 0 2 Try.underlying62 (by rw [hi]; simp [hz1]), ?_, hB2⟩
      exact ⟨by simp, .inr ⟨w.heap.size, 0, cur, rfl, Nat.le_refl _, hcur, Nat.le_refl _, by unfold maxLen; omega, by simpa using hcsz, by simp⟩⟩
    | some x =>
      have hI2 := HI.out.below hB2
      have hcp := run_copy_rowK (P := Try.prog) w2 62 62 3 38 w.heap.size 0 n n x n cap cur 38 cs 2 Try.underlying62 (by rw [hi]; simp [hz1]) hcur (by rw [show Nat.min n n = n from Nat.min_self n]; exact HCL.out) (row_src hI2) (by have := HCL.out; omega) H1.out
      have htk : (List.take 0 cur.toList ++ cs ++ List.drop (0 + cs.length) cur.toList).toArray = cs.toArray := by
        rw [List.take_zero, List.nil_append, List.drop_of_length_le (by rw [Array.length_toList, hcsz]; have := HCL.out; omega), List.append_nil]
      rw [htk, show Nat.min n n = n from Nat.min_self n] at hcp
      have hr4 : (w2.setRow w.heap.size cs.toArray).heap[w.heap.size]? = some (.cells cs.toArray 38 (0, 0)) := setRow_heap _ w.heap.size _ _ _ _ hcur
      refine ⟨_, hcp, ?_, below_setRow hB2 (Nat.le_refl _) cs.toArray⟩
      exact ⟨HCL.out, .inr ⟨w.heap.size, n, _, rfl, Nat.le_refl _, hr4, Nat.le_refl _, by unfold maxLen; omega, by simpa using HCL.out, List.take_of_length_le (by simpa using Nat.le_of_eq HCL.out)⟩⟩
  have HCP := Lib.hid hcp
  have HO := Lib.hid ho3
  have HB := Lib.hid hB3
  clear hcp ho3 hB3 hown hgr hB2 hcur hcsz
  go_wp2_with (refine wpList_copyK rfl _ _ _ _ rfl _ _ rfl rfl _ _ HCP.out ?_)
  go_ret
  exact ⟨_, rfl, HO.out, HB.out⟩
end Go.Proofs
