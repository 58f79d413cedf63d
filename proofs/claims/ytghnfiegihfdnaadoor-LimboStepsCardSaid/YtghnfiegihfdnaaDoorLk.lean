/- Limbo: a hand: the epoch goes on; one is taken. -/
import Derived.Test.YtghnfiegihfdnaaDoorLj
namespace Go.Proofs
set_option maxRecDepth 100000
open Go.RowKit Go.Shelf
attribute [local go_sem] Oper.semAt_some

set_option maxHeartbeats 4000000 in
theorem Tryd.advance_any (H n₀ E : Nat) (r : Rw3) (s : Ls) (w : World) (h : Hl H n₀ E r s w) (hE : E ≤ 4611686018427387904) (hn0 : n₀ ≤ w.heap.size) (hH : n₀ ≤ H) :
    Calls Tryd.prog 44 #[.pointer (some ⟨H, 0, none⟩)] w (HdQ H n₀ w (advN E r)) := by
  obtain ⟨R, hR⟩ : ∃ R, R = advN E r := ⟨_, rfl⟩
  rw [← hR]
  unfold advN at hR
  have HR := Lib.hid hR
  clear hR
  have hk : (E + 1) % 3 < 3 := Nat.mod_lt _ (by decide)
  have hln : s.n ((E + 1) % 3) = (readyL E r).length := h.len _ (by omega)
  have hrd := Tryd.readyV_any E s w hE
  have hal : Below w.heap.size w (w.alloc (.cells #[.int .u64 (E : Nat), .slice (s.a 0) (s.n 0) (s.c 0), .slice (s.a 1) (s.n 1) (s.c 1), .slice (s.a 2) (s.n 2) (s.c 2)] 57)) := Rows8.newB
  have HX := Lib.hid (h.below hal)
  have HAL := Lib.hid (hal.mono hn0)
  have HKF := Lib.hid (Kf.of_below (T := tL) hal)
  have c0 : w.cell? ⟨H, 0, none⟩ = some (.int .u64 (E : Nat)) := h.bx.cell 0
  have c1 : w.cell? ⟨H, 1, none⟩ = some (.slice (s.a 0) (s.n 0) (s.c 0)) := h.bx.cell 1
  have c2 : w.cell? ⟨H, 2, none⟩ = some (.slice (s.a 1) (s.n 1) (s.c 1)) := h.bx.cell 2
  have c3 : w.cell? ⟨H, 3, none⟩ = some (.slice (s.a 2) (s.n 2) (s.c 2)) := h.bx.cell 3
  generalize (E + 1) % 3 = k at *
  have HRD := Lib.hid hrd
  obtain ⟨sa, hsa⟩ : ∃ x, x = s.a k := ⟨_, rfl⟩
  obtain ⟨n, hsn⟩ : ∃ x, x = s.n k := ⟨_, rfl⟩
  obtain ⟨sc, hsc⟩ : ∃ x, x = s.c k := ⟨_, rfl⟩
  rw [← hsa, ← hsn, ← hsc] at HRD
  rw [← hsn] at hln
  have HLN := Lib.hid hln
  have HEE := Lib.hid hE
  clear h hal hrd hk hln hsa hsn hsc hE
  by_cases hne : readyL E r = []
  · have hn : n = 0 := by rw [HLN.out, hne]; rfl
    subst hn
    have HR1 := Lib.hid (HR.out.trans (if_neg (by rw [hne]; simp)))
    clear HR hne
    have d1 : decide (((0 : Nat) : Int) > 0) = false := rfl
    go_enter Tryd.func44, Tryd.ntmps44
    go_wp2_with fail
    refine HRD.out.mono ?_
    rintro e w1 ⟨rfl, rfl⟩
    have k0 := HX.out.bx.cell 0
    simp only [List.getElem?_toArray, List.getElem?_cons_zero] at k0
    have f0 := HX.out.bx.frozen 0
    have l0 := HX.out.bx.lt
    generalize (w.alloc (.cells #[.int .u64 (E : Nat), .slice (s.a 0) (s.n 0) (s.c 0), .slice (s.a 1) (s.n 1) (s.c 1), .slice (s.a 2) (s.n 2) (s.c 2)] 57)) = w1 at *
    clear c0 c1 c2 c3
    by_cases hm : E = 4611686018427387904
    · have HRR := Lib.hid (HR1.out.trans (if_pos hm))
      have hd : ((E : Int) == 4611686018427387904) = true := by simp [hm]
      clear HR1 hm
      go_wp2_with fail
      refine ⟨rfl, ?_⟩
      rw [HRR.out]
      exact ⟨.inr ⟨by simp, rfl⟩, ⟨_, HX.out⟩, HAL.out, HKF.out⟩
    · have HRR := Lib.hid (HR1.out.trans (if_neg hm))
      have hd : ((E : Int) == 4611686018427387904) = false := by simp; omega
      have hw1 : IntKind.u64.wrap ((E : Int) + 1) = ((E + 1 : Nat) : Int) := by have := HEE.out; rw [wrap_u _ (by omega) (by omega)]; omega
      have HX2 := Lib.hid (HX.out.setE (E + 1))
      have HB2 := Lib.hid (HAL.out.setCell (p := ⟨H, 0, none⟩) hH (.int .u64 (E + 1 : Nat)))
      have HK2 := Lib.hid (HKF.out.trans (Kf.set (T := tL) (t := 67) (by decide) w1 (a := ⟨H, 0, none⟩) HX.out.bx (.int .u64 (E + 1 : Nat))))
      clear HR1 hm
      generalize E + 1 = F at *
      go_wp2_with fail
      go_end0
      rw [HRR.out]
      exact ⟨.inl ⟨rfl, rfl⟩, ⟨_, HX2.out⟩, HB2.out, HK2.out⟩
  · have hn : 0 < n := by rw [HLN.out]; exact List.length_pos_iff.2 hne
    have HRR := Lib.hid (HR.out.trans (if_pos hne))
    clear HR hne
    have d1 : decide (((n : Nat) : Int) > 0) = true := by simp; omega
    have d2 : decide (0 < ((n : Nat) : Int)) = true := by simp; omega
    have d3 : decide (0 < n) = true := decide_eq_true hn
    go_enter Tryd.func44, Tryd.ntmps44
    go_wp2_with fail
    refine HRD.out.mono ?_
    rintro e w1 ⟨rfl, rfl⟩
    generalize (w.alloc (.cells #[.int .u64 (E : Nat), .slice (s.a 0) (s.n 0) (s.c 0), .slice (s.a 1) (s.n 1) (s.c 1), .slice (s.a 2) (s.n 2) (s.c 2)] 57)) = w1 at *
    go_wp2_with fail
    refine ⟨rfl, ?_⟩
    rw [HRR.out]
    exact ⟨.inr ⟨by simp, rfl⟩, ⟨_, HX.out⟩, HAL.out, HKF.out⟩
set_option maxHeartbeats 8000000 in
theorem Tryd.take_any (H n₀ E : Nat) (r : Rw3) (s : Ls) (w : World) (h : Hl H n₀ E r s w) (hE : E ≤ 4611686018427387904) (hn0 : n₀ ≤ w.heap.size) (hH : n₀ ≤ H) (hl : (r 3).length ≤ 900000) :
    Calls Tryd.prog 45 #[.pointer (some ⟨H, 0, none⟩)] w (HdQ H n₀ w (takN E r)) := by
  obtain ⟨R, hR⟩ : ∃ R, R = takN E r := ⟨_, rfl⟩
  rw [← hR]
  have HR := Lib.hid hR
  clear hR
  have hk : (E + 1) % 3 < 3 := Nat.mod_lt _ (by decide)
  have hrk : readyL E r = r ((E + 1) % 3) := rfl
  have hln : s.n ((E + 1) % 3) = (r ((E + 1) % 3)).length := h.len _ (by omega)
  have hrd := Tryd.readyV_any E s w hE
  have hal : Below w.heap.size w (w.alloc (.cells #[.int .u64 (E : Nat), .slice (s.a 0) (s.n 0) (s.c 0), .slice (s.a 1) (s.n 1) (s.c 1), .slice (s.a 2) (s.n 2) (s.c 2)] 57)) := Rows8.newB
  have HX := Lib.hid (h.below hal)
  have HAL := Lib.hid (hal.mono hn0)
  have HKF := Lib.hid (Kf.of_below (T := tL) hal)
  have c0 : w.cell? ⟨H, 0, none⟩ = some (.int .u64 (E : Nat)) := h.bx.cell 0
  have c1 : w.cell? ⟨H, 1, none⟩ = some (.slice (s.a 0) (s.n 0) (s.c 0)) := h.bx.cell 1
  have c2 : w.cell? ⟨H, 2, none⟩ = some (.slice (s.a 1) (s.n 1) (s.c 1)) := h.bx.cell 2
  have c3 : w.cell? ⟨H, 3, none⟩ = some (.slice (s.a 2) (s.n 2) (s.c 2)) := h.bx.cell 3
  have HRO := fun W => Lib.hid (Tryd.rowOf_any (E + 1) W)
  have HKE := Lib.hid (show ∀ q, q = (E + 1) % 3 → takR E r = updL (updL r 3 (r 3 ++ [(r q).headD (0, 0)])) q (r q).tail from fun q e => by rw [e]; rfl)
  obtain ⟨k, hke⟩ : ∃ k, k = (E + 1) % 3 := ⟨_, rfl⟩
  have HKE2 := Lib.hid (HKE.out k hke)
  rw [← hke] at hk hrk hln hrd HRO
  have HRK := Lib.hid hrk
  clear hke hrk HKE
  cases hL : r k with
  | nil =>
    have hn : s.n k = 0 := by rw [hln, hL]; rfl
    rw [hn] at hrd
    have HRR := Lib.hid (HR.out.trans (if_pos (by rw [HRK.out, hL])))
    have HRD := Lib.hid hrd
    have d1 : (((0 : Nat) : Int) == 0) = true := rfl
    clear h hal hrd hk hln hL hn hE HR HRK HRO HKE2
    go_enter Tryd.func45, Tryd.ntmps45
    go_wp2_with fail
    refine HRD.out.mono ?_
    rintro e w1 ⟨rfl, rfl⟩
    generalize (w.alloc (.cells #[.int .u64 (E : Nat), .slice (s.a 0) (s.n 0) (s.c 0), .slice (s.a 1) (s.n 1) (s.c 1), .slice (s.a 2) (s.n 2) (s.c 2)] 57)) = w1 at *
    go_wp2_with fail
    refine ⟨rfl, ?_⟩
    rw [HRR.out]
    exact ⟨.inr ⟨by simp, rfl⟩, ⟨_, HX.out⟩, HAL.out, HKF.out⟩
  | cons z l =>
    have HRR := Lib.hid (HR.out.trans (if_neg (by rw [HRK.out, hL]; simp)))
    have hat := h.at k hk
    rw [hL] at hat
    have hcap := (pAt_len hat).2
    obtain ⟨b, off, ha, hbw, z0, z1⟩ := pAt_get hat 0 (by simp)
    simp only [List.getElem_cons_zero, Nat.zero_mul, Nat.add_zero] at z0 z1
    obtain ⟨m, hm⟩ : ∃ m, m = l.length := ⟨_, rfl⟩
    obtain ⟨n, hn⟩ : ∃ n, n = s.n k := ⟨_, rfl⟩
    obtain ⟨c, hc⟩ : ∃ c, c = s.c k := ⟨_, rfl⟩
    have hnm : n = m + 1 := by rw [hn, hln, hL, hm]; rfl
    rw [← hn, ← hc] at hcap hrd
    rw [ha] at hrd
    have hsv : s.v k = .slice (some ⟨b, off, none⟩) n c := by unfold Ls.v; rw [ha, ← hn, ← hc]
    have hok := h.o k (by omega)
    rw [hsv, hL] at hok
    obtain ⟨o2, ho2⟩ : ∃ o2, o2 = if m = 0 then off else off + 2 := ⟨_, rfl⟩
    have hsl : ∀ x : World, (Instr.sliceAt 23 (.slice (some ⟨b, off, none⟩) n c) (some (.int .i64 1)) (some (.int .i64 (n : Int))) (some (.int .i64 (n : Int)))).run Tryd.prog x = .ok (.slice (some ⟨b, o2, none⟩) m m) x := fun x => by
      rw [run_sliceAt_slice _ _ _ _ _ _ Tryd.underlying23, run_slice_lhm x 23 (some ⟨b, off, none⟩) n c Tryd.underlying23 .i64 .i64 .i64 1 n n (by omega) (by omega) (Int.le_refl _) (by omega)]
      by_cases hm0 : m = 0
      · simp [go_sem, sliced, hnm, ho2, hm0]
      · simp [go_sem, sliced, hnm, ho2, hm0]
    have hcut : ∀ W, OwnE n₀ (z :: l) (.slice (some ⟨b, off, none⟩) n c) W → OwnE n₀ l (.slice (some ⟨b, o2, none⟩) m m) W := fun W h => by
      obtain ⟨c', rfl⟩ : ∃ c', c = c' + 1 := ⟨c - 1, by omega⟩
      rw [hnm] at h
      by_cases hm0 : m = 0
      · obtain rfl : l = [] := List.eq_nil_of_length_eq_zero (by omega)
        rw [ho2, if_pos hm0, hm0]
        rw [hm0] at h
        exact h.cut0
      · rw [ho2, if_neg hm0]
        rw [hm] at h ⊢
        exact h.cut l.length (by omega) (Nat.le_refl _)
    have HCUT := Lib.hid hcut
    have HSL := Lib.hid hsl
    have HNM := Lib.hid hnm
    have HSV := Lib.hid hsv
    have HRD := Lib.hid hrd
    have HLR := Lib.hid hL
    have HL3 := Lib.hid hl
    have HN0 := Lib.hid hn0
    have hn1 : 0 < n := by omega
    have hn9 : (n : Int) ≤ 9223372036854775807 := by unfold maxLen at hcap; omega
    have d1 : ((n : Int) == 0) = false := by simp; omega
    have z0' := (hal.cell (p := ⟨b, off, none⟩) hbw).trans z0
    have z1' := (hal.cell (p := ⟨b, off + 1, none⟩) hbw).trans z1
    have HZC := Lib.hid (And.intro z0' z1')
    have HEE := Lib.hid hE
    have HOK := Lib.hid hok
    clear h hal hrd hln hL hn hE HR HRK hat hcap ha hbw z0 z1 hm hc hsv hok ho2 hcut z0' z1' hl hsl hnm
    go_enter Tryd.func45, Tryd.ntmps45
    go_wp2_with fail
    refine HRD.out.mono ?_
    rintro e w1 ⟨rfl, rfl⟩
    have hbz : n₀ ≤ (w.alloc (.cells #[.int .u64 (E : Nat), .slice (s.a 0) (s.n 0) (s.c 0), .slice (s.a 1) (s.n 1) (s.c 1), .slice (s.a 2) (s.n 2) (s.c 2)] 57)).heap.size := Nat.le_trans hn0 HAL.out.size
    generalize (w.alloc (.cells #[.int .u64 (E : Nat), .slice (s.a 0) (s.n 0) (s.c 0), .slice (s.a 1) (s.n 1) (s.c 1), .slice (s.a 2) (s.n 2) (s.c 2)] 57)) = w1 at *
    clear c0 c1 c2 c3 HRD
    go_wp2_with fail
    refine wp_region_L (fun W' => Rows8 W' H 67 #[.int .u64 (E : Nat), .slice (s.a 0) (s.n 0) (s.c 0), .slice (s.a 1) (s.n 1) (s.c 1), .slice (s.a 2) (s.n 2) (s.c 2), .slice (s.a 3) (s.n 3) (s.c 3)] ∧ (W'.cell? ⟨b, off, none⟩ = some (.int .i64 z.1) ∧ W'.cell? ⟨b, off + 1, none⟩ = some (.int .u64 (z.2 : Nat)))) 12 (by kernel_rfl) ?_
    have hS0 : Rows8 w1.drew H 67 #[.int .u64 (E : Nat), .slice (s.a 0) (s.n 0) (s.c 0), .slice (s.a 1) (s.n 1) (s.c 1), .slice (s.a 2) (s.n 2) (s.c 2), .slice (s.a 3) (s.n 3) (s.c 3)] ∧ (w1.drew.cell? ⟨b, off, none⟩ = some (.int .i64 z.1) ∧ w1.drew.cell? ⟨b, off + 1, none⟩ = some (.int .u64 (z.2 : Nat))) := ⟨HX.out.bx.drewA, HZC.out⟩
    have HX0 := Lib.hid HX.out.drew
    have HB0 := Lib.hid HAL.out.drew
    have HK0 := Lib.hid HKF.out.drew
    have HZ0 := Lib.hid (show n₀ ≤ w1.drew.heap.size from hbz)
    clear HX HAL HKF HZC hbz
    generalize w1.drew = Wd at *
    refine wpAnyL_takeT (i := 0) (oi := { dst := some 12, op := Go.Op.move (Go.Operand.tmp 0), type := 62, pos := "hand.go:62", after := #[], guard := none }) (v := .pointer (some ⟨H, 0, none⟩)) [10, 11, 12] rfl (by kernel_rfl) (by kernel_rfl) (by kernel_rfl) (by kernel_rfl) (fun _ _ _ h => h) (Or.inl ⟨by rfl, ?_⟩) hS0 ?_
    · intro W9 hS9
      obtain ⟨q0, q1⟩ := hS9
      clear q0 q1
      go_simp
    try simp only [Act.put, List.setIfInBounds_toArray, List.set_cons_zero, List.set_cons_succ]
    refine wpAnyL_takeT (i := 1) (oi := { dst := some 13, op := Go.Op.move (Go.Operand.tmp 0), type := 62, pos := "hand.go:62", after := #[], guard := none }) (v := .pointer (some ⟨H, 0, none⟩)) [2, 3, 4, 9, 10, 11, 12] rfl (by kernel_rfl) (by kernel_rfl) (by kernel_rfl) (by kernel_rfl) (fun _ _ _ h => h) (Or.inl ⟨by rfl, ?_⟩) hS0 ?_
    · intro W9 hS9
      obtain ⟨q0, q1⟩ := hS9
      clear q0 q1
      go_simp
    try simp only [Act.put, List.setIfInBounds_toArray, List.set_cons_zero, List.set_cons_succ]
    refine wpAnyL_takeT (i := 2) (oi := { dst := some 14, op := Go.Op.nilCheck (Go.Operand.tmp 13), type := 0, pos := "hand.go:62", after := #[{ on := 1, ground := Go.Ground.data }], guard := none }) (v := .pointer (some ⟨H, 0, none⟩)) [3, 4, 9, 10, 11, 12] rfl (by kernel_rfl) (by kernel_rfl) (by kernel_rfl) (by kernel_rfl) (fun _ _ _ h => h) (Or.inl ⟨by rfl, ?_⟩) hS0 ?_
    · intro W9 hS9
      obtain ⟨q0, q1⟩ := hS9
      clear q0 q1
      go_simp
    try simp only [Act.put, List.setIfInBounds_toArray, List.set_cons_zero, List.set_cons_succ]
    refine wpAnyL_takeT (i := 3) (oi := { dst := some 15, op := Go.Op.fieldAddr 67 (Go.Operand.tmp 14) 1, type := 0, pos := "hand.go:62", after := #[{ on := 2, ground := Go.Ground.data }], guard := none }) (v := .pointer (some ⟨H, 4, none⟩)) [4, 9, 10, 11, 12] rfl (by kernel_rfl) (by kernel_rfl) (by kernel_rfl) (by kernel_rfl) (fun _ _ _ h => h) (Or.inl ⟨by rfl, ?_⟩) hS0 ?_
    · intro W9 hS9
      obtain ⟨q0, q1⟩ := hS9
      clear q0 q1
      go_simp
    try simp only [Act.put, List.setIfInBounds_toArray, List.set_cons_zero, List.set_cons_succ]
    refine wpAnyL_takeT (i := 4) (oi := { dst := some 16, op := Go.Op.load 23 (Go.Operand.tmp 15), type := 23, pos := "hand.go:62", after := #[{ on := 3, ground := Go.Ground.data }], guard := none }) (v := .slice (s.a 3) (s.n 3) (s.c 3)) [9, 10, 11, 12] rfl (by kernel_rfl) (by kernel_rfl) (by kernel_rfl) (by kernel_rfl) (fun _ _ _ h => h) (Or.inl ⟨by rfl, ?_⟩) hS0 ?_
    · intro W9 hS9
      obtain ⟨q0, q1⟩ := hS9
      have s0 : W9.cell? ⟨H, 4, none⟩ = some (.slice (s.a 3) (s.n 3) (s.c 3)) := q0.cell 4
      clear q0 q1
      go_simp
    try simp only [Act.put, List.setIfInBounds_toArray, List.set_cons_zero, List.set_cons_succ]
    refine wpAnyL_takeT (i := 5) (oi := { dst := some 17, op := Go.Op.move (Go.Operand.tmp 2), type := 23, pos := "hand.go:62", after := #[], guard := none }) (v := .slice (some ⟨b, off, none⟩) n c) [6, 7, 8, 9, 10, 11, 12] rfl (by kernel_rfl) (by kernel_rfl) (by kernel_rfl) (by kernel_rfl) (fun _ _ _ h => h) (Or.inl ⟨by rfl, ?_⟩) hS0 ?_
    · intro W9 hS9
      obtain ⟨q0, q1⟩ := hS9
      clear q0 q1
      go_simp
    try simp only [Act.put, List.setIfInBounds_toArray, List.set_cons_zero, List.set_cons_succ]
    refine wpAnyL_takeT (i := 6) (oi := { dst := some 18, op := Go.Op.indexAddr 23 (Go.Operand.tmp 17) (Go.Operand.const (Go.Value.int Go.IntKind.i64 0)), type := 0, pos := "hand.go:62", after := #[{ on := 5, ground := Go.Ground.data }], guard := none }) (v := .pointer (some ⟨b, off, none⟩)) [7, 8, 9, 10, 11, 12] rfl (by kernel_rfl) (by kernel_rfl) (by kernel_rfl) (by kernel_rfl) (fun _ _ _ h => h) (Or.inl ⟨by rfl, ?_⟩) hS0 ?_
    · intro W9 hS9
      obtain ⟨q0, q1⟩ := hS9
      clear q0 q1
      go_simp
    try simp only [Act.put, List.setIfInBounds_toArray, List.set_cons_zero, List.set_cons_succ]
    refine wpAnyL_takeT (i := 7) (oi := { dst := some 19, op := Go.Op.load 38 (Go.Operand.tmp 18), type := 38, pos := "hand.go:62", after := #[{ on := 6, ground := Go.Ground.data }], guard := none }) (v := .agg #[.int .i64 z.1, .int .u64 (z.2 : Nat)]) [8, 9, 10, 11, 12] rfl (by kernel_rfl) (by kernel_rfl) (by kernel_rfl) (by kernel_rfl) (fun _ _ _ h => h) (Or.inl ⟨by rfl, ?_⟩) hS0 ?_
    · intro W9 hS9
      obtain ⟨q0, q1⟩ := hS9
      obtain ⟨s0, s1⟩ := q1
      clear q0
      go_simp
    try simp only [Act.put, List.setIfInBounds_toArray, List.set_cons_zero, List.set_cons_succ]
    refine wpAnyL_one (i := 8) (o := { dst := some 20, op := Go.Op.buildSlice 23 1 #[(0, Go.Operand.tmp 19)], type := 23, pos := "hand.go:62", after := #[{ on := 7, ground := Go.Ground.data }], guard := none }) (by kernel_rfl) rfl (fun K hK => ?_)
    refine step_value_g (by rfl) (.slice (some ⟨Wd.heap.size, 0, none⟩) 1 1) (w' := Wd.alloc (.cells #[.int .i64 z.1, .int .u64 (z.2 : Nat)] 38)) (by go_simp) ?_
    have hal4 : Below Wd.heap.size Wd (Wd.alloc (.cells #[.int .i64 z.1, .int .u64 (z.2 : Nat)] 38)) := Rows8.newB
    have hblt : b < Wd.heap.size := ((HX0.out.o k (by omega)).lt b (by rw [HSV.out]; rfl)).2
    have hS4 : Rows8 (Wd.alloc (.cells #[.int .i64 z.1, .int .u64 (z.2 : Nat)] 38)) H 67 #[.int .u64 (E : Nat), .slice (s.a 0) (s.n 0) (s.c 0), .slice (s.a 1) (s.n 1) (s.c 1), .slice (s.a 2) (s.n 2) (s.c 2), .slice (s.a 3) (s.n 3) (s.c 3)] ∧ ((Wd.alloc (.cells #[.int .i64 z.1, .int .u64 (z.2 : Nat)] 38)).cell? ⟨b, off, none⟩ = some (.int .i64 z.1) ∧ (Wd.alloc (.cells #[.int .i64 z.1, .int .u64 (z.2 : Nat)] 38)).cell? ⟨b, off + 1, none⟩ = some (.int .u64 (z.2 : Nat))) := ⟨hS0.1.alloc _, (hal4.cell (p := ⟨b, off, none⟩) hblt).trans hS0.2.1, (hal4.cell (p := ⟨b, off + 1, none⟩) hblt).trans hS0.2.2⟩
    have hcn := cells_new Wd 38 [.int .i64 z.1, .int .u64 (z.2 : Nat)]
    have HX4 := Lib.hid (HX0.out.below hal4)
    have HB4 := Lib.hid (HB0.out.trans (hal4.mono HZ0.out))
    have HK4 := Lib.hid (HK0.out.trans (Kf.of_below (T := tL) hal4))
    obtain ⟨W4, hW4⟩ : ∃ W, W = Wd.alloc (.cells #[.int .i64 z.1, .int .u64 (z.2 : Nat)] 38) := ⟨_, rfl⟩
    have hcn2 : ∀ j u, (pCells z)[j]? = some u → W4.cell? ((⟨Wd.heap.size, 0, none⟩ : Addr).add j) = some u := by rw [hW4]; exact hcn
    have HZ4 := Lib.hid (show n₀ ≤ W4.heap.size by rw [hW4, World.size_alloc]; have := HZ0.out; omega)
    rw [← hW4] at hS4 HX4 HB4 HK4 ⊢
    clear hal4 hcn hW4 HX0 HB0 HK0 HZ0 hblt
    refine hK.out _ _ (fun _ => hS4) ?_
    clear hK K
    try simp only [Act.put, List.setIfInBounds_toArray, List.set_cons_zero, List.set_cons_succ]
    refine wpAnyL_one (i := 9) (o := { dst := some 21, op := Go.Op.call { callee := Go.Callee.builtin Go.Builtin.append, args := #[Go.Operand.tmp 16, Go.Operand.tmp 20], argTypes := #[23, 23] }, type := 23, pos := "hand.go:62", after := #[{ on := 4, ground := Go.Ground.data }, { on := 8, ground := Go.Ground.data }], guard := none }) (by kernel_rfl) rfl (fun K hK => ?_)
    obtain ⟨v5, w5, hrun, ho5, hg5, hv5⟩ := Tryd.append_e W4 n₀ 23 (r 3) (.slice (s.a 3) (s.n 3) (s.c 3)) (HX4.out.o 3 (by omega)) z ⟨Wd.heap.size, 0, none⟩ 1 hcn2 (by have := HL3.out; omega) HZ4.out
    refine step_value_g (by rfl) v5 (w' := w5) (exec_append _ _ _ rfl _ _ _ rfl rfl hrun) ?_
    have hap5 := HX4.out.appended 3 (by omega) hg5
    have hkb : w5.heap[b]? = W4.heap[b]? := by
      have h1 : (s.v k).ownBlock = some b := by rw [HSV.out]; rfl
      have h2 := HX4.out.ap k 3 (by omega) (by omega) (by omega)
      have h3 := ((HX4.out.o k (by omega)).lt b h1).2
      refine hg5.block b h3 (fun e => ?_)
      rcases h2 with h2 | h2
      · rw [h1] at h2; cases h2
      · exact h2 (h1.trans e)
    have hS5 : Rows8 w5 H 67 #[.int .u64 (E : Nat), .slice (s.a 0) (s.n 0) (s.c 0), .slice (s.a 1) (s.n 1) (s.c 1), .slice (s.a 2) (s.n 2) (s.c 2), .slice (s.a 3) (s.n 3) (s.c 3)] ∧ (w5.cell? ⟨b, off, none⟩ = some (.int .i64 z.1) ∧ w5.cell? ⟨b, off + 1, none⟩ = some (.int .u64 (z.2 : Nat))) := ⟨hap5.1, (World.cell?_of_block (w := W4) (a := ⟨b, off, none⟩) hkb).trans hS4.2.1, (World.cell?_of_block (w := W4) (a := ⟨b, off + 1, none⟩) hkb).trans hS4.2.2⟩
    obtain ⟨a5, c5, rfl, _⟩ := ho5.form
    have hnap := HX4.out.apNew 3 (by omega) _ hv5
    have H5 := Lib.hid (And.intro hap5 (And.intro ho5 hnap))
    have HAP4 := Lib.hid HX4.out.ap
    have HB5 := Lib.hid (HB4.out.grown hg5 HZ4.out (fun j ej => ((HX4.out.o 3 (by omega)).lt j ej).1))
    have HK5 := Lib.hid (HK4.out.trans (Kf.grownT (T := tL) (t := 38) (by decide) hg5 (fun j ej => (HX4.out.o 3 (by omega)).rows j ej)))
    clear hrun hg5 hv5 hap5 ho5 hnap HX4 HB4 HK4 hcn2 hkb HZ4
    generalize (r 3 ++ [z]).length = n5 at *
    refine hK.out _ _ (fun _ => hS5) ?_
    clear hK K
    try simp only [Act.put, List.setIfInBounds_toArray, List.set_cons_zero, List.set_cons_succ]
    refine wpAnyL_takeT (i := 10) (oi := { dst := some 22, op := Go.Op.nilCheck (Go.Operand.tmp 12), type := 0, pos := "hand.go:62", after := #[{ on := 0, ground := Go.Ground.data }, { on := 0, ground := Go.Ground.phase }, { on := 1, ground := Go.Ground.phase }, { on := 2, ground := Go.Ground.phase }, { on := 3, ground := Go.Ground.phase }, { on := 4, ground := Go.Ground.phase }, { on := 5, ground := Go.Ground.phase }, { on := 6, ground := Go.Ground.phase }, { on := 7, ground := Go.Ground.phase }, { on := 8, ground := Go.Ground.phase }, { on := 9, ground := Go.Ground.phase }], guard := none }) (v := .pointer (some ⟨H, 0, none⟩)) [11, 12] rfl (by kernel_rfl) (by kernel_rfl) (by kernel_rfl) (by kernel_rfl) (fun _ _ _ h => h) (Or.inl ⟨by rfl, ?_⟩) hS5 ?_
    · intro W9 hS9
      obtain ⟨q0, q1⟩ := hS9
      clear q0 q1
      go_simp
    try simp only [Act.put, List.setIfInBounds_toArray, List.set_cons_zero, List.set_cons_succ]
    refine wpAnyL_takeT (i := 11) (oi := { dst := some 23, op := Go.Op.fieldAddr 67 (Go.Operand.tmp 22) 1, type := 0, pos := "hand.go:62", after := #[{ on := 10, ground := Go.Ground.data }, { on := 0, ground := Go.Ground.phase }, { on := 1, ground := Go.Ground.phase }, { on := 2, ground := Go.Ground.phase }, { on := 3, ground := Go.Ground.phase }, { on := 4, ground := Go.Ground.phase }, { on := 5, ground := Go.Ground.phase }, { on := 6, ground := Go.Ground.phase }, { on := 7, ground := Go.Ground.phase }, { on := 8, ground := Go.Ground.phase }, { on := 9, ground := Go.Ground.phase }], guard := none }) (v := .pointer (some ⟨H, 4, none⟩)) [12] rfl (by kernel_rfl) (by kernel_rfl) (by kernel_rfl) (by kernel_rfl) (fun _ _ _ h => h) (Or.inl ⟨by rfl, ?_⟩) hS5 ?_
    · intro W9 hS9
      obtain ⟨q0, q1⟩ := hS9
      clear q0 q1
      go_simp
    try simp only [Act.put, List.setIfInBounds_toArray, List.set_cons_zero, List.set_cons_succ]
    refine wpAnyL_one (i := 12) (o := { dst := none, op := Go.Op.store 23 (Go.Operand.tmp 23) (Go.Operand.tmp 21), type := 0, pos := "hand.go:62", after := #[{ on := 11, ground := Go.Ground.data }, { on := 9, ground := Go.Ground.data }, { on := 9, ground := Go.Ground.chain }, { on := 0, ground := Go.Ground.phase }, { on := 1, ground := Go.Ground.phase }, { on := 2, ground := Go.Ground.phase }, { on := 3, ground := Go.Ground.phase }, { on := 4, ground := Go.Ground.phase }, { on := 5, ground := Go.Ground.phase }, { on := 6, ground := Go.Ground.phase }, { on := 7, ground := Go.Ground.phase }, { on := 8, ground := Go.Ground.phase }, { on := 9, ground := Go.Ground.phase }], guard := none }) (by kernel_rfl) rfl (fun K hK => ?_)
    have hK5 : w5.cell? ⟨H, 4, none⟩ = some (.slice (s.a 3) (s.n 3) (s.c 3)) := H5.out.1.1.cell 4
    have f5 := H5.out.1.1.frozen 4
    refine step_skip_g (by rfl) (w' := w5.setCell ⟨H, 4, none⟩ (.slice a5 n5 c5)) (by go_simp) ?_
    have HX6 : Hid (Hl H n₀ E (updL r 3 (r 3 ++ [z])) (s.upd 3 a5 n5 c5) (w5.setCell ⟨H, 4, none⟩ (.slice a5 n5 c5))) := Lib.hid (Hl.put H5.out.1.1 3 (by omega) H5.out.1.2 HAP4.out _ a5 n5 c5 H5.out.2.1 H5.out.2.2)
    have HB6 := Lib.hid (HB5.out.setCell (p := ⟨H, 4, none⟩) hH (.slice a5 n5 c5))
    have HK6 := Lib.hid (HK5.out.trans (Kf.set (T := tL) (t := 67) (by decide) w5 (a := ⟨H, 4, none⟩) H5.out.1.1 (.slice a5 n5 c5)))
    clear hK5 f5 H5 HB5 HK5 HAP4
    refine hK.out _ _ (fun h => absurd h (by decide)) ?_
    clear hK K
    try simp only [Act.put, List.setIfInBounds_toArray, List.set_cons_zero, List.set_cons_succ]
    refine wpAnyL_end (by kernel_rfl) ?_
    generalize w5.setCell ⟨H, 4, none⟩ (.slice a5 n5 c5) = w6 at *
    have HRK1 : Hid (updL r 3 (r 3 ++ [z]) k = z :: l) := Lib.hid (by rw [updL_ne _ _ (by omega)]; exact HLR.out)
    have HSV1 : Hid ((s.upd 3 a5 n5 c5).v k = .slice (some ⟨b, off, none⟩) n c) := Lib.hid (by rw [Ls.upd_ne _ _ _ _ (by omega)]; exact HSV.out)
    have HRES : Hid (takR E r = updL (updL r 3 (r 3 ++ [z])) k l) := Lib.hid (by rw [HKE2.out, HLR.out]; rfl)
    clear hS0 hS4 hS5 HLR HSV HKE2 HOK
    generalize updL r 3 (r 3 ++ [z]) = r1 at *
    generalize s.upd 3 a5 n5 c5 = s1 at *
    go_wp2_with fail
    refine wp_region_L (fun W' => Rows8 W' H 67 #[.int .u64 (E : Nat), .slice (s1.a 0) (s1.n 0) (s1.c 0), .slice (s1.a 1) (s1.n 1) (s1.c 1), .slice (s1.a 2) (s1.n 2) (s1.c 2), .slice (s1.a 3) (s1.n 3) (s1.c 3)]) 20 (by kernel_rfl) ?_
    have hS6 : Rows8 w6.drew H 67 #[.int .u64 (E : Nat), .slice (s1.a 0) (s1.n 0) (s1.c 0), .slice (s1.a 1) (s1.n 1) (s1.c 1), .slice (s1.a 2) (s1.n 2) (s1.c 2), .slice (s1.a 3) (s1.n 3) (s1.c 3)] := HX6.out.bx.drewA
    have HX7 := Lib.hid HX6.out.drew
    have HB7 := Lib.hid HB6.out.drew
    have HK7 := Lib.hid HK6.out.drew
    clear HX6 HB6 HK6
    generalize w6.drew = We at *
    have hw1 : IntKind.u64.wrap ((E : Int) + 1) = ((E + 1 : Nat) : Int) := by have := HEE.out; rw [wrap_u _ (by omega) (by omega)]; omega
    generalize E + 1 = F at *
    refine wpAnyL_takeT (i := 0) (oi := { dst := some 24, op := Go.Op.move (Go.Operand.tmp 0), type := 62, pos := "hand.go:63", after := #[], guard := none }) (v := .pointer (some ⟨H, 0, none⟩)) [15, 16, 17, 18, 19, 20] rfl (by kernel_rfl) (by kernel_rfl) (by kernel_rfl) (by kernel_rfl) (fun _ _ _ h => h) (Or.inl ⟨by rfl, ?_⟩) hS6 ?_
    · intro W9 hS9
      clear hS9
      go_simp
    try simp only [Act.put, List.setIfInBounds_toArray, List.set_cons_zero, List.set_cons_succ]
    refine wpAnyL_takeT (i := 1) (oi := { dst := some 25, op := Go.Op.move (Go.Operand.tmp 0), type := 62, pos := "hand.go:63", after := #[], guard := none }) (v := .pointer (some ⟨H, 0, none⟩)) [2, 3, 4, 5, 6, 7, 8, 19, 20] rfl (by kernel_rfl) (by kernel_rfl) (by kernel_rfl) (by kernel_rfl) (fun _ _ _ h => h) (Or.inl ⟨by rfl, ?_⟩) hS6 ?_
    · intro W9 hS9
      clear hS9
      go_simp
    try simp only [Act.put, List.setIfInBounds_toArray, List.set_cons_zero, List.set_cons_succ]
    refine wpAnyL_takeT (i := 2) (oi := { dst := some 26, op := Go.Op.nilCheck (Go.Operand.tmp 25), type := 0, pos := "hand.go:63", after := #[{ on := 1, ground := Go.Ground.data }], guard := none }) (v := .pointer (some ⟨H, 0, none⟩)) [3, 4, 5, 6, 7, 8, 19, 20] rfl (by kernel_rfl) (by kernel_rfl) (by kernel_rfl) (by kernel_rfl) (fun _ _ _ h => h) (Or.inl ⟨by rfl, ?_⟩) hS6 ?_
    · intro W9 hS9
      clear hS9
      go_simp
    try simp only [Act.put, List.setIfInBounds_toArray, List.set_cons_zero, List.set_cons_succ]
    refine wpAnyL_takeT (i := 3) (oi := { dst := some 27, op := Go.Op.fieldAddr 67 (Go.Operand.tmp 26) 0, type := 0, pos := "hand.go:63", after := #[{ on := 2, ground := Go.Ground.data }], guard := none }) (v := .pointer (some ⟨H, 0, none⟩)) [4, 5, 6, 7, 8, 19, 20] rfl (by kernel_rfl) (by kernel_rfl) (by kernel_rfl) (by kernel_rfl) (fun _ _ _ h => h) (Or.inl ⟨by rfl, ?_⟩) hS6 ?_
    · intro W9 hS9
      clear hS9
      go_simp
    try simp only [Act.put, List.setIfInBounds_toArray, List.set_cons_zero, List.set_cons_succ]
    refine wpAnyL_takeT (i := 4) (oi := { dst := some 28, op := Go.Op.fieldAddr 57 (Go.Operand.tmp 27) 0, type := 0, pos := "hand.go:63", after := #[{ on := 3, ground := Go.Ground.data }], guard := none }) (v := .pointer (some ⟨H, 0, none⟩)) [5, 6, 7, 8, 19, 20] rfl (by kernel_rfl) (by kernel_rfl) (by kernel_rfl) (by kernel_rfl) (fun _ _ _ h => h) (Or.inl ⟨by rfl, ?_⟩) hS6 ?_
    · intro W9 hS9
      clear hS9
      go_simp
    try simp only [Act.put, List.setIfInBounds_toArray, List.set_cons_zero, List.set_cons_succ]
    refine wpAnyL_takeT (i := 5) (oi := { dst := some 29, op := Go.Op.fieldAddr 26 (Go.Operand.tmp 28) 0, type := 0, pos := "hand.go:63", after := #[{ on := 4, ground := Go.Ground.data }], guard := none }) (v := .pointer (some ⟨H, 0, none⟩)) [6, 7, 8, 19, 20] rfl (by kernel_rfl) (by kernel_rfl) (by kernel_rfl) (by kernel_rfl) (fun _ _ _ h => h) (Or.inl ⟨by rfl, ?_⟩) hS6 ?_
    · intro W9 hS9
      clear hS9
      go_simp
    try simp only [Act.put, List.setIfInBounds_toArray, List.set_cons_zero, List.set_cons_succ]
    refine wpAnyL_takeT (i := 6) (oi := { dst := some 30, op := Go.Op.load 22 (Go.Operand.tmp 29), type := 22, pos := "hand.go:63", after := #[{ on := 5, ground := Go.Ground.data }], guard := none }) (v := .int .u64 (E : Nat)) [7, 8, 19, 20] rfl (by kernel_rfl) (by kernel_rfl) (by kernel_rfl) (by kernel_rfl) (fun _ _ _ h => h) (Or.inl ⟨by rfl, ?_⟩) hS6 ?_
    · intro W9 hS9
      have s0 : W9.cell? ⟨H, 0, none⟩ = some (.int .u64 (E : Nat)) := hS9.cell 0
      clear hS9
      go_simp
    try simp only [Act.put, List.setIfInBounds_toArray, List.set_cons_zero, List.set_cons_succ]
    refine wpAnyL_takeT (i := 7) (oi := { dst := some 31, op := Go.Op.binOp Go.BinOp.add 22 (Go.Operand.tmp 30) (Go.Operand.const (Go.Value.int Go.IntKind.u64 1)) 22, type := 22, pos := "hand.go:63", after := #[{ on := 6, ground := Go.Ground.data }], guard := none }) (v := .int .u64 (F : Nat)) [8, 19, 20] rfl (by kernel_rfl) (by kernel_rfl) (by kernel_rfl) (by kernel_rfl) (fun _ _ _ h => h) (Or.inl ⟨by rfl, ?_⟩) hS6 ?_
    · intro W9 hS9
      clear hS9
      go_simp
    try simp only [Act.put, List.setIfInBounds_toArray, List.set_cons_zero, List.set_cons_succ]
    refine wpAnyL_takeT (i := 9) (oi := { dst := some 33, op := Go.Op.move (Go.Operand.tmp 2), type := 23, pos := "hand.go:63", after := #[], guard := none }) (v := .slice (some ⟨b, off, none⟩) n c) [14, 19, 20] rfl (by kernel_rfl) (by kernel_rfl) (by kernel_rfl) (by kernel_rfl) (fun _ _ _ h => h) (Or.inl ⟨by rfl, ?_⟩) hS6 ?_
    · intro W9 hS9
      clear hS9
      go_simp
    try simp only [Act.put, List.setIfInBounds_toArray, List.set_cons_zero, List.set_cons_succ]
    refine wpAnyL_takeT (i := 10) (oi := { dst := some 34, op := Go.Op.move (Go.Operand.tmp 2), type := 23, pos := "hand.go:63", after := #[], guard := none }) (v := .slice (some ⟨b, off, none⟩) n c) [11, 14, 19, 20] rfl (by kernel_rfl) (by kernel_rfl) (by kernel_rfl) (by kernel_rfl) (fun _ _ _ h => h) (Or.inl ⟨by rfl, ?_⟩) hS6 ?_
    · intro W9 hS9
      clear hS9
      go_simp
    try simp only [Act.put, List.setIfInBounds_toArray, List.set_cons_zero, List.set_cons_succ]
    refine wpAnyL_takeT (i := 11) (oi := { dst := some 35, op := Go.Op.call { callee := Go.Callee.builtin Go.Builtin.len, args := #[Go.Operand.tmp 34], argTypes := #[23] }, type := 3, pos := "hand.go:63", after := #[{ on := 10, ground := Go.Ground.data }], guard := none }) (v := .int .i64 (n : Nat)) [14, 19, 20] rfl (by kernel_rfl) (by kernel_rfl) (by kernel_rfl) (by kernel_rfl) (fun _ _ _ h => h) (Or.inl ⟨by rfl, ?_⟩) hS6 ?_
    · intro W9 hS9
      clear hS9
      go_simp
    try simp only [Act.put, List.setIfInBounds_toArray, List.set_cons_zero, List.set_cons_succ]
    refine wpAnyL_takeT (i := 12) (oi := { dst := some 36, op := Go.Op.move (Go.Operand.tmp 2), type := 23, pos := "hand.go:63", after := #[], guard := none }) (v := .slice (some ⟨b, off, none⟩) n c) [13, 14, 19, 20] rfl (by kernel_rfl) (by kernel_rfl) (by kernel_rfl) (by kernel_rfl) (fun _ _ _ h => h) (Or.inl ⟨by rfl, ?_⟩) hS6 ?_
    · intro W9 hS9
      clear hS9
      go_simp
    try simp only [Act.put, List.setIfInBounds_toArray, List.set_cons_zero, List.set_cons_succ]
    refine wpAnyL_takeT (i := 13) (oi := { dst := some 37, op := Go.Op.call { callee := Go.Callee.builtin Go.Builtin.len, args := #[Go.Operand.tmp 36], argTypes := #[23] }, type := 3, pos := "hand.go:63", after := #[{ on := 12, ground := Go.Ground.data }], guard := none }) (v := .int .i64 (n : Nat)) [14, 19, 20] rfl (by kernel_rfl) (by kernel_rfl) (by kernel_rfl) (by kernel_rfl) (fun _ _ _ h => h) (Or.inl ⟨by rfl, ?_⟩) hS6 ?_
    · intro W9 hS9
      clear hS9
      go_simp
    try simp only [Act.put, List.setIfInBounds_toArray, List.set_cons_zero, List.set_cons_succ]
    refine wpAnyL_takeT (i := 14) (oi := { dst := some 38, op := Go.Op.slice 23 (Go.Operand.tmp 33) (some (Go.Operand.const (Go.Value.int Go.IntKind.i64 1))) (some (Go.Operand.tmp 35)) (some (Go.Operand.tmp 37)), type := 23, pos := "hand.go:63", after := #[{ on := 9, ground := Go.Ground.data }, { on := 11, ground := Go.Ground.data }, { on := 13, ground := Go.Ground.data }], guard := none }) (v := .slice (some ⟨b, o2, none⟩) m m) [19, 20] rfl (by kernel_rfl) (by kernel_rfl) (by kernel_rfl) (by kernel_rfl) (fun _ _ _ h => h) (Or.inl ⟨by rfl, ?_⟩) hS6 ?_
    · intro W9 hS9
      exact exec_slice3 _ _ _ _ _ rfl _ (HSL.out W9)
    try simp only [Act.put, List.setIfInBounds_toArray, List.set_cons_zero, List.set_cons_succ]
    refine wpAnyL_takeT (i := 15) (oi := { dst := some 39, op := Go.Op.nilCheck (Go.Operand.tmp 24), type := 0, pos := "hand.go:63", after := #[{ on := 0, ground := Go.Ground.data }], guard := none }) (v := .pointer (some ⟨H, 0, none⟩)) [16, 17, 18, 19, 20] rfl (by kernel_rfl) (by kernel_rfl) (by kernel_rfl) (by kernel_rfl) (fun _ _ _ h => h) (Or.inl ⟨by rfl, ?_⟩) hS6 ?_
    · intro W9 hS9
      clear hS9
      go_simp
    try simp only [Act.put, List.setIfInBounds_toArray, List.set_cons_zero, List.set_cons_succ]
    refine wpAnyL_takeT (i := 16) (oi := { dst := some 40, op := Go.Op.fieldAddr 67 (Go.Operand.tmp 39) 0, type := 0, pos := "hand.go:63", after := #[{ on := 15, ground := Go.Ground.data }], guard := none }) (v := .pointer (some ⟨H, 0, none⟩)) [17, 18, 19, 20] rfl (by kernel_rfl) (by kernel_rfl) (by kernel_rfl) (by kernel_rfl) (fun _ _ _ h => h) (Or.inl ⟨by rfl, ?_⟩) hS6 ?_
    · intro W9 hS9
      clear hS9
      go_simp
    try simp only [Act.put, List.setIfInBounds_toArray, List.set_cons_zero, List.set_cons_succ]
    refine wpAnyL_takeT (i := 17) (oi := { dst := some 41, op := Go.Op.fieldAddr 57 (Go.Operand.tmp 40) 0, type := 0, pos := "hand.go:63", after := #[{ on := 16, ground := Go.Ground.data }], guard := none }) (v := .pointer (some ⟨H, 0, none⟩)) [18, 19, 20] rfl (by kernel_rfl) (by kernel_rfl) (by kernel_rfl) (by kernel_rfl) (fun _ _ _ h => h) (Or.inl ⟨by rfl, ?_⟩) hS6 ?_
    · intro W9 hS9
      clear hS9
      go_simp
    try simp only [Act.put, List.setIfInBounds_toArray, List.set_cons_zero, List.set_cons_succ]
    refine wpAnyL_takeT (i := 18) (oi := { dst := some 42, op := Go.Op.fieldAddr 26 (Go.Operand.tmp 41) 1, type := 0, pos := "hand.go:63", after := #[{ on := 17, ground := Go.Ground.data }], guard := none }) (v := .pointer (some ⟨H, 1, none⟩)) [19, 20] rfl (by kernel_rfl) (by kernel_rfl) (by kernel_rfl) (by kernel_rfl) (fun _ _ _ h => h) (Or.inl ⟨by rfl, ?_⟩) hS6 ?_
    · intro W9 hS9
      clear hS9
      go_simp
    try simp only [Act.put, List.setIfInBounds_toArray, List.set_cons_zero, List.set_cons_succ]
    refine wpAnyL_one (i := 8) (o := { dst := some 32, op := Go.Op.call { callee := Go.Callee.value (Go.Operand.func 52), args := #[Go.Operand.tmp 31], argTypes := #[22] }, type := 3, pos := "hand.go:63", after := #[{ on := 7, ground := Go.Ground.data }], guard := none }) (by kernel_rfl) rfl (fun K hK => ?_)
    refine step_call_g (by rfl) 52 _ _ rfl (fun _ _ => by kernel_rfl) #[.int .u64 (F : Nat)] (by simp [go_sem]) _ (HRO We).out ?_
    rintro e w8 ⟨rfl, rfl⟩
    refine ⟨_, rfl, ?_⟩
    refine hK.out _ _ (fun _ => hS6) ?_
    clear hK K
    try simp only [Act.put, List.setIfInBounds_toArray, List.set_cons_zero, List.set_cons_succ]
    have hki : (k : Int) < 3 := by omega
    have hki0 : (0 : Int) ≤ (k : Int) := by omega
    refine wpAnyL_takeT (i := 19) (oi := { dst := some 43, op := Go.Op.indexAddr 24 (Go.Operand.tmp 42) (Go.Operand.tmp 32), type := 0, pos := "hand.go:63", after := #[{ on := 18, ground := Go.Ground.data }, { on := 8, ground := Go.Ground.data }, { on := 0, ground := Go.Ground.phase }, { on := 1, ground := Go.Ground.phase }, { on := 2, ground := Go.Ground.phase }, { on := 3, ground := Go.Ground.phase }, { on := 4, ground := Go.Ground.phase }, { on := 5, ground := Go.Ground.phase }, { on := 6, ground := Go.Ground.phase }, { on := 7, ground := Go.Ground.phase }, { on := 8, ground := Go.Ground.phase }, { on := 9, ground := Go.Ground.phase }, { on := 10, ground := Go.Ground.phase }, { on := 11, ground := Go.Ground.phase }, { on := 12, ground := Go.Ground.phase }, { on := 13, ground := Go.Ground.phase }, { on := 14, ground := Go.Ground.phase }], guard := none }) (v := .pointer (some ⟨H, 1 + k, none⟩)) [20] rfl (by kernel_rfl) (by kernel_rfl) (by kernel_rfl) (by kernel_rfl) (fun _ _ _ h => h) (Or.inl ⟨by rfl, ?_⟩) hS6 ?_
    · intro W9 hS9
      clear hS9
      go_simp
    try simp only [Act.put, List.setIfInBounds_toArray, List.set_cons_zero, List.set_cons_succ]
    refine wpAnyL_one (i := 20) (o := { dst := none, op := Go.Op.store 23 (Go.Operand.tmp 43) (Go.Operand.tmp 38), type := 0, pos := "hand.go:63", after := #[{ on := 19, ground := Go.Ground.data }, { on := 14, ground := Go.Ground.data }, { on := 8, ground := Go.Ground.chain }, { on := 0, ground := Go.Ground.phase }, { on := 1, ground := Go.Ground.phase }, { on := 2, ground := Go.Ground.phase }, { on := 3, ground := Go.Ground.phase }, { on := 4, ground := Go.Ground.phase }, { on := 5, ground := Go.Ground.phase }, { on := 6, ground := Go.Ground.phase }, { on := 7, ground := Go.Ground.phase }, { on := 8, ground := Go.Ground.phase }, { on := 9, ground := Go.Ground.phase }, { on := 10, ground := Go.Ground.phase }, { on := 11, ground := Go.Ground.phase }, { on := 12, ground := Go.Ground.phase }, { on := 13, ground := Go.Ground.phase }, { on := 14, ground := Go.Ground.phase }], guard := none }) (by kernel_rfl) rfl (fun K hK => ?_)
    have hK8 := cellH HX7.out.bx k (by omega)
    have f8 := HX7.out.bx.frozen (1 + k)
    have l8 := HX7.out.bx.lt
    refine step_skip_g (by rfl) (w' := w8.setCell ⟨H, 1 + k, none⟩ (.slice (some ⟨b, o2, none⟩) m m)) (by go_simp) ?_
    have hok := HX7.out.o k (by omega)
    rw [HRK1.out, HSV1.out] at hok
    have HX9 := Lib.hid (Hl.put HX7.out.bx k (by omega) (fun j hj _ => HX7.out.o j hj) HX7.out.ap l (some ⟨b, o2, none⟩) m m (HCUT.out _ hok) (fun j hj hne => by
      have h1 := HX7.out.ap k j (by omega) hj (fun e => hne e.symm)
      rw [HSV1.out] at h1
      exact h1))
    have HB9 := Lib.hid (HB7.out.setCell (p := ⟨H, 1 + k, none⟩) hH (.slice (some ⟨b, o2, none⟩) m m))
    have HK9 := Lib.hid (HK7.out.trans (Kf.set (T := tL) (t := 67) (by decide) w8 (a := ⟨H, 1 + k, none⟩) HX7.out.bx (.slice (some ⟨b, o2, none⟩) m m)))
    clear hK8 f8 hok HX7 HB7 HK7 l8
    refine hK.out _ _ (fun h => absurd h (by decide)) ?_
    clear hK K
    try simp only [Act.put, List.setIfInBounds_toArray, List.set_cons_zero, List.set_cons_succ]
    refine wpAnyL_end (by kernel_rfl) ?_
    go_end0
    rw [HRR.out]
    have hf := HX9.out
    rw [← HRES.out] at hf
    exact ⟨.inl ⟨rfl, rfl⟩, ⟨_, hf⟩, HB9.out, HK9.out⟩
end Go.Proofs
