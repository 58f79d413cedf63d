/- Limbo: which may be; Check; what is copied, ready. -/
import Derived.Test.YtghnfiegihfdnaaDoorLd
namespace Go.Proofs
set_option maxRecDepth 100000
open Go.RowKit Go.Shelf
attribute [local go_sem] Oper.semAt_some

theorem zero_of {P : Program} {t : TypeId} {z : Value} (h : (P.info? t).map (fun i => i.zero) = some (some z)) (x : World) : (zeroValue t).run P x = .ok z x := by
  obtain ⟨i, hi, hz⟩ := Option.map_eq_some_iff.1 h
  simp [zeroValue, typeInfo, hi, hz]
theorem Tryd.zero128 : (Tryd.prog.info? 70).map (fun i => i.zero) = some (some (.agg (Array.replicate 128 (.bool false)))) := by kernel_rfl
theorem Tryd.index_rows (s : Ls) (k : Nat) (h : k < 3) (W : World) : (Instr.index 24 (.agg #[.slice (s.a 0) (s.n 0) (s.c 0), .slice (s.a 1) (s.n 1) (s.c 1), .slice (s.a 2) (s.n 2) (s.c 2)]) (.int .i64 k)).run Tryd.prog W = .ok (.slice (s.a k) (s.n k) (s.c k)) W := by
  rcases three h with rfl | rfl | rfl <;> kernel_rfl
def pfx (r : Rw3) (k : Nat) : List Pr := (List.range k).flatMap r
theorem pfx_succ (r : Rw3) (k : Nat) : pfx r (k + 1) = pfx r k ++ r k := by simp [pfx, List.range_succ]
theorem pfx_3 (r : Rw3) : pfx r 3 = allL r := by simp [pfx, allL, List.range_succ]
theorem pfx_all (r : Rw3) (k : Nat) (h : k ≤ 3) : ∃ m, allL r = pfx r k ++ m := by
  rw [← pfx_3]
  rcases (by omega : k = 0 ∨ k = 1 ∨ k = 2 ∨ k = 3) with rfl | rfl | rfl | rfl
  · exact ⟨pfx r 3, rfl⟩
  · exact ⟨r 1 ++ r 2, by simp [pfx, List.range_succ]⟩
  · exact ⟨r 2, by simp [pfx, List.range_succ]⟩
  · exact ⟨[], by simp⟩
theorem not_right {E : Nat} {r : Rw3} {k : Nat} (hk : k ≤ 3) (h : goodL (pfx r k) = false) : rightL E r = false := by
  cases hr : rightL E r with
  | false => rfl
  | true =>
    have h1 := (rightL_iff.1 hr).2
    obtain ⟨m, hm⟩ := pfx_all r k hk
    rw [hm] at h1
    rw [goodL_left h1] at h
    cases h
theorem not_right2 {E : Nat} {r : Rw3} {k : Nat} (hk : k < 3) (h : E < k) (h2 : r k ≠ []) : rightL E r = false := by
  cases hr : rightL E r with
  | false => rfl
  | true =>
    have h1 := (rightL_iff.1 hr).1
    rcases three hk with rfl | rfl | rfl
    · omega
    · exact absurd (h1.2.1 h) h2
    · exact absurd (h1.2.2 h) h2
theorem LAt.low {W : World} {s : Ls} {r : Rw3} (h : LAt W s r) (k : Nat) (hk : k < 3) (b o : Nat) (e : s.a k = some ⟨b, o, none⟩) (hne : r k ≠ []) : b < W.heap.size := by
  have h1 := h k hk
  cases hl : r k with
  | nil => exact absurd hl hne
  | cons x l =>
    obtain ⟨b', o', e', hb, _⟩ := pAt_get h1 0 (by rw [hl]; simp)
    rw [e] at e'
    cases e'
    exact hb
set_option maxHeartbeats 4000000 in
theorem Tryd.mayBe_any (E : Nat) (s : Ls) (r : Rw3) (w : World) (hI : LAt w s r) (hE : E < 18446744073709551616) :
    Calls Tryd.prog 33 #[.agg #[.int .u64 (E : Nat), .slice (s.a 0) (s.n 0) (s.c 0), .slice (s.a 1) (s.n 1) (s.c 1), .slice (s.a 2) (s.n 2) (s.c 2)]] w fun e w' => e = .returned (.bool (rightL E r)) ∧ Below w.heap.size w w' := by
  obtain ⟨q, hq⟩ : ∃ q, q = rightL E r := ⟨_, rfl⟩
  rw [← hq]
  have HQ := Lib.hid hq
  have hz : ∀ x : World, (zeroValue 70).run Tryd.prog x = .ok (.agg (Array.replicate 128 (.bool false))) x := zero_of Tryd.zero128
  have hR1 := rows_new2 w (.cells #[.int .u64 (E : Nat), .slice (s.a 0) (s.n 0) (s.c 0), .slice (s.a 1) (s.n 1) (s.c 1), .slice (s.a 2) (s.n 2) (s.c 2)] 57) 70 (arrB (metF []))
  have hV1 := (Rows8.new w 57 #[.int .u64 (E : Nat), .slice (s.a 0) (s.n 0) (s.c 0), .slice (s.a 1) (s.n 1) (s.c 1), .slice (s.a 2) (s.n 2) (s.c 2)]).alloc (.cells (arrB (metF [])) 70)
  have hB1 : Below w.heap.size w ((w.alloc (.cells #[.int .u64 (E : Nat), .slice (s.a 0) (s.n 0) (s.c 0), .slice (s.a 1) (s.n 1) (s.c 1), .slice (s.a 2) (s.n 2) (s.c 2)] 57)).alloc (.cells (arrB (metF [])) 70)) := (Rows8.newB).alloc (by simp) _
  have hV0 := Rows8.new w 57 #[.int .u64 (E : Nat), .slice (s.a 0) (s.n 0) (s.c 0), .slice (s.a 1) (s.n 1) (s.c 1), .slice (s.a 2) (s.n 2) (s.c 2)]
  have hB0 : Below w.heap.size w (w.alloc (.cells #[.int .u64 (E : Nat), .slice (s.a 0) (s.n 0) (s.c 0), .slice (s.a 1) (s.n 1) (s.c 1), .slice (s.a 2) (s.n 2) (s.c 2)] 57)) := Rows8.newB
  have hzz : arrB (metF []) = Array.replicate 128 (.bool false) := arrB_zero
  rw [← hzz] at hz
  obtain ⟨zz, hzz2⟩ : ∃ zz, zz = arrB (metF []) := ⟨_, rfl⟩
  rw [← hzz2] at hz hR1 hV1 hB1
  have HZ := Lib.hid hzz2
  have hmf : ∀ (fn : Fn) (first cap : Array Value) (w : World), (Instr.makeFunc fn first cap).run Tryd.prog w = .ok (.func fn first cap) w := fun _ _ _ _ => rfl
  have hix := fun (k : Nat) (h : k < 3) (W : World) => Lib.hid (Tryd.index_rows s k h W)
  have HLEN := fun (k : Nat) (h : k < 3) => Lib.hid (hI.len k h)
  have HI := Lib.hid hI
  have HR1 := Lib.hid hR1
  have HV1 := Lib.hid hV1
  have HB1 := Lib.hid hB1
  have HB0 := Lib.hid hB0
  clear hq hR1 hV1 hB1 hB0 hzz hzz2 hI hV0
  by_cases hm : E ≤ 4611686018427387904
  · have d1 : decide ((E : Int) > 4611686018427387904) = false := by simp; omega
    have d2 : decide (4611686018427387904 < (E : Int)) = false := by simp; omega
    have HM := Lib.hid hm
    have HE := Lib.hid hE
    clear hm hE
    go_enter Tryd.func33, Tryd.ntmps33
    go_wp2_with fail
    generalize ((w.alloc (.cells #[.int .u64 (E : Nat), .slice (s.a 0) (s.n 0) (s.c 0), .slice (s.a 1) (s.n 1) (s.c 1), .slice (s.a 2) (s.n 2) (s.c 2)] 57)).alloc (.cells zz 70)) = W0 at *
    go_loopw [5, 6, 15] (fun _ _ j wr => ∃ k : Nat, k ≤ 3 ∧ j = .int .i64 k ∧ Hid (goodL (pfx r k) = true) ∧ Hid (∀ i, i < k → E < i → r i = []) ∧ Hid (Rows8 wr (w.heap.size + 1) 70 (arrB (metF (pfx r k)))) ∧ Hid (Rows8 wr w.heap.size 57 #[.int .u64 (E : Nat), .slice (s.a 0) (s.n 0) (s.c 0), .slice (s.a 1) (s.n 1) (s.c 1), .slice (s.a 2) (s.n 2) (s.c 2)]) ∧ Hid (Below w.heap.size w wr)) (fun _ _ j _ => 3 - (intOf j).toNat)
    case atStart => exact ⟨0, Nat.zero_le _, rfl, Lib.hid rfl, Lib.hid (fun i hi => absurd hi (Nat.not_lt_zero _)), Lib.hid (by have := HR1.out; rw [HZ.out] at this; exact this), HV1, HB1⟩
    case round =>
      obtain ⟨k, hk, rfl, hg, he, hr, hv, hb⟩ := hrel
      by_cases hlt : k < 3
      · have hki : (k : Int) < 3 := by omega
        have hki0 : (0 : Int) ≤ (k : Int) := by omega
        have hx := (hix k hlt wr).out
        have hcv : wr.cell? ⟨w.heap.size, 0, none⟩ = some (.int .u64 (E : Nat)) := hv.out.cell 0
        have hw1 : IntKind.u64.wrap ((k : Nat) : Int) = ((k : Nat) : Int) := wrap_u _ (by omega) (by omega)
        have hln := (HLEN k hlt).out
        have hls := hv.out.lt
        by_cases hek : E < k
        · have d3 : decide ((E : Int) < (k : Int)) = true := by simp; omega
          have d3n : decide (E < k) = true := decide_eq_true hek
          by_cases hne : r k = []
          · have hn0 : s.n k = 0 := by rw [hln.1, hne]; rfl
            have hgd : pfx r (k + 1) = pfx r k := by rw [pfx_succ, hne, List.append_nil]
            have HC := Lib.hid (Tryd.someWrong_any (s.a k) (s.n k) (s.c k) (r k) (pfx r k) (w.heap.size + 1) wr ((HI.out k hlt).below hb.out) hr.out hg.out (fun b o e hne2 => absurd hne hne2))
            rw [hne, List.append_nil, hg.out] at HC
            have HGD := Lib.hid hgd
            have HNE := Lib.hid hne
            have hlz : decide (((s.n k : Nat) : Int) > 0) = false := by rw [hn0]; rfl
            have hlz2 : decide (0 < ((s.n k : Nat) : Int)) = false := by rw [hn0]; rfl
            have hlz3 : decide (0 < s.n k) = false := by rw [hn0]; rfl
            have HEK := Lib.hid hek
            clear hek hne hn0 hgd hln HLEN
            go_wp2_with fail
            refine HC.out.mono ?_
            rintro e w' ⟨rfl, hB2, hr2⟩
            have HR2 := Lib.hid (hr2 (by first | rfl | trivial))
            have HV2 := Lib.hid (hv.out.below hB2 (by omega))
            have HB2 := Lib.hid (hb.out.trans (hB2.mono (by omega)))
            clear hB2 hr2 hcv
            go_wp2_with fail
            exact ⟨⟨k + 1, by omega, by go_num, Lib.hid (by rw [HGD.out]; exact hg.out), Lib.hid (fun i hi hi2 => by rcases (by omega : i < k ∨ i = k) with h | rfl; exact he.out i h hi2; exact HNE.out), Lib.hid (by have := HR2.out; rw [HGD.out]; exact this), HV2, HB2⟩, by simp [intOf]; omega⟩
          · have h9 : Hid (q = false) := Lib.hid (by rw [HQ.out]; exact not_right2 hlt hek hne)
            have hpos : 0 < s.n k := by rw [hln.1]; exact List.length_pos_iff.2 hne
            have hlz : decide (((s.n k : Nat) : Int) > 0) = true := by simp; omega
            have hlz2 : decide (0 < ((s.n k : Nat) : Int)) = true := by simp; omega
            have hlz3 : decide (0 < s.n k) = true := by simp; omega
            clear hek hne hln HLEN hpos
            go_wp2_with fail
            go_ret
            exact ⟨by rw [h9.out]; rfl, hb.out⟩
        · have d3 : decide ((E : Int) < (k : Int)) = false := by simp; omega
          have d3n : decide (E < k) = false := decide_eq_false hek
          have HC := Lib.hid (Tryd.someWrong_any (s.a k) (s.n k) (s.c k) (r k) (pfx r k) (w.heap.size + 1) wr ((HI.out k hlt).below hb.out) hr.out hg.out (fun b o e hne2 => Nat.lt_succ_of_lt (HI.out.low k hlt b o e hne2)))
          rw [← pfx_succ] at HC
          have HEK := Lib.hid hek
          obtain ⟨z, hz9⟩ : ∃ z, z = goodL (pfx r (k + 1)) := ⟨_, rfl⟩
          rw [← hz9] at HC
          have HZ9 := Lib.hid hz9
          clear hek hln HLEN hz9
          go_wp2_with fail
          refine HC.out.mono ?_
          rintro e w' ⟨rfl, hB2, hr2⟩
          have HV2 := Lib.hid (hv.out.below hB2 (by omega))
          have HB2 := Lib.hid (hb.out.trans (hB2.mono (by omega)))
          clear hB2 hcv
          cases z with
          | true =>
            have HR2 := Lib.hid (hr2 (by first | rfl | trivial))
            clear hr2
            go_wp2_with fail
            exact ⟨⟨k + 1, by omega, by go_num, Lib.hid HZ9.out.symm, Lib.hid (fun i hi hi2 => by rcases (by omega : i < k ∨ i = k) with h | rfl; exact he.out i h hi2; exact absurd hi2 HEK.out), HR2, HV2, HB2⟩, by simp [intOf]; omega⟩
          | false =>
            have h9 : Hid (q = false) := Lib.hid (by rw [HQ.out]; exact not_right (k := k + 1) (by omega) HZ9.out.symm)
            clear hr2
            go_wp2_with fail
            go_ret
            exact ⟨by rw [h9.out]; rfl, HB2.out⟩
      · obtain rfl : k = 3 := by omega
        have h9 : Hid (q = true) := Lib.hid (by rw [HQ.out, rightL_iff]; exact ⟨⟨HM.out, fun h => he.out 1 (by omega) h, fun h => he.out 2 (by omega) h⟩, by rw [← pfx_3]; exact hg.out⟩)
        clear HLEN
        go_wp2_with fail
        go_ret
        exact ⟨by rw [h9.out]; rfl, hb.out⟩
  · have d1 : decide ((E : Int) > 4611686018427387904) = true := by simp; omega
    have d2 : decide (4611686018427387904 < (E : Int)) = true := by simp; omega
    have h9 : Hid (q = false) := Lib.hid (by
      rw [HQ.out]
      cases hr : rightL E r with
      | false => rfl
      | true => exact absurd (rightL_iff.1 hr).1.1 hm)
    clear hm hE HLEN
    go_enter Tryd.func33, Tryd.ntmps33
    go_wp2_with fail
    go_ret
    exact ⟨by rw [h9.out]; rfl, HB0.out⟩
set_option maxHeartbeats 1000000 in
theorem Tryd.Check_any (E : Nat) (s : Ls) (r : Rw3) (w : World) (hI : LAt w s r) (hE : E < 18446744073709551616) :
    Calls Tryd.prog 10 #[.agg #[.int .u64 (E : Nat), .slice (s.a 0) (s.n 0) (s.c 0), .slice (s.a 1) (s.n 1) (s.c 1), .slice (s.a 2) (s.n 2) (s.c 2)]] w fun e w' => e = .returned (.int .i64 (if rightL E r then 0 else 240)) ∧ Below w.heap.size w w' := by
  have hB0 : Below w.heap.size w (w.alloc (.cells #[.int .u64 (E : Nat), .slice (s.a 0) (s.n 0) (s.c 0), .slice (s.a 1) (s.n 1) (s.c 1), .slice (s.a 2) (s.n 2) (s.c 2)] 26)) := Rows8.newB
  have HC := Lib.hid (Tryd.mayBe_any E s r _ (hI.below hB0) hE)
  have HB0 := Lib.hid hB0
  clear hI hB0 hE
  obtain ⟨q, hq⟩ : ∃ q, q = rightL E r := ⟨_, rfl⟩
  rw [← hq] at HC ⊢
  clear hq
  go_enter Tryd.func10, Tryd.ntmps10
  go_wp2_with fail
  refine HC.out.mono ?_
  rintro e w1 ⟨rfl, hB1⟩
  have HB1 := Lib.hid (HB0.out.trans (hB1.mono HB0.out.size))
  clear hB1
  cases q
  · go_wp2_with fail
    go_ret
    exact ⟨rfl, HB1.out⟩
  · go_wp2_with fail
    go_ret
    exact ⟨rfl, HB1.out⟩
end Go.Proofs
