/- Limbo: the reference: Same, When. -/
import Derived.Test.YtghnfiegihfdnaaDoorLy
namespace Go.Proofs
set_option maxRecDepth 100000
open Go.RowKit Go.Shelf
attribute [local go_sem] Oper.semAt_some

set_option maxHeartbeats 16000000 in
theorem Tryd.refSame_any (E F : Nat) (s u : Ls) (r q : Rw3) (w : World) (hI : LAt w s r) (hQ : LAt w u q) (hl : ∀ k, k < 3 → s.n k ≤ 10000 ∧ u.n k ≤ 10000) :
    Calls Tryd.prog 12 #[.agg #[.int .u64 (E : Nat), .slice (s.a 0) (s.n 0) (s.c 0), .slice (s.a 1) (s.n 1) (s.c 1), .slice (s.a 2) (s.n 2) (s.c 2)], .agg #[.int .u64 (F : Nat), .slice (u.a 0) (u.n 0) (u.c 0), .slice (u.a 1) (u.n 1) (u.c 1), .slice (u.a 2) (u.n 2) (u.c 2)]] w fun e w' => e = .returned (.bool (sameB E r F q)) ∧ Below w.heap.size w w' := by
  obtain ⟨W0, hW0⟩ : ∃ W, W = ((w.alloc (.cells #[.int .u64 (E : Nat), .slice (s.a 0) (s.n 0) (s.c 0), .slice (s.a 1) (s.n 1) (s.c 1), .slice (s.a 2) (s.n 2) (s.c 2)] 26)).alloc (.cells #[.int .u64 (F : Nat), .slice (u.a 0) (u.n 0) (u.c 0), .slice (u.a 1) (u.n 1) (u.c 1), .slice (u.a 2) (u.n 2) (u.c 2)] 26)) := ⟨_, rfl⟩
  have hB0 : Below w.heap.size w W0 := by rw [hW0]; exact (Rows8.newB).alloc (by simp) _
  have K1 : Hid (Rows8 W0 w.heap.size 26 #[.int .u64 (E : Nat), .slice (s.a 0) (s.n 0) (s.c 0), .slice (s.a 1) (s.n 1) (s.c 1), .slice (s.a 2) (s.n 2) (s.c 2)]) := Lib.hid (by rw [hW0]; exact (Rows8.new _ _ _).alloc _)
  have K2 : Hid (Rows8 W0 (w.heap.size + 1) 26 #[.int .u64 (F : Nat), .slice (u.a 0) (u.n 0) (u.c 0), .slice (u.a 1) (u.n 1) (u.c 1), .slice (u.a 2) (u.n 2) (u.c 2)]) := Lib.hid (by rw [hW0]; exact rows_new2 _ _ _ _)
  have HI := Lib.hid (hI.below hB0)
  have HQ := Lib.hid (hQ.below hB0)
  have HB := Lib.hid hB0
  have hn := Lib.hid hl
  have c0 : W0.cell? ⟨w.heap.size, 0, none⟩ = some (.int .u64 (E : Nat)) := K1.out.cell 0
  have c1 : W0.cell? ⟨w.heap.size, 1, none⟩ = some (.slice (s.a 0) (s.n 0) (s.c 0)) := K1.out.cell 1
  have c2 : W0.cell? ⟨w.heap.size, 2, none⟩ = some (.slice (s.a 1) (s.n 1) (s.c 1)) := K1.out.cell 2
  have c3 : W0.cell? ⟨w.heap.size, 3, none⟩ = some (.slice (s.a 2) (s.n 2) (s.c 2)) := K1.out.cell 3
  have d0 : W0.cell? ⟨w.heap.size + 1, 0, none⟩ = some (.int .u64 (F : Nat)) := K2.out.cell 0
  have d1 : W0.cell? ⟨w.heap.size + 1, 1, none⟩ = some (.slice (u.a 0) (u.n 0) (u.c 0)) := K2.out.cell 1
  have d2 : W0.cell? ⟨w.heap.size + 1, 2, none⟩ = some (.slice (u.a 1) (u.n 1) (u.c 1)) := K2.out.cell 2
  have d3 : W0.cell? ⟨w.heap.size + 1, 3, none⟩ = some (.slice (u.a 2) (u.n 2) (u.c 2)) := K2.out.cell 3
  have l1 := K1.out.lt
  have l2 := K2.out.lt
  clear hB0 hI hQ hl
  go_enter Tryd.func12, Tryd.ntmps12
  go_upto_region 1 with fail
  rw [← hW0]
  clear hW0
  by_cases he : E = F
  · have hE := Lib.hid he
    have he2 : (((E : Nat) : Int) == ((F : Nat) : Int)) = true := by simp; omega
    clear he
    have HRo := Lib.hid (Tryd.row_any (s.a 0) (u.a 0) (s.n 0) (u.n 0) (s.c 0) (u.c 0) (r 0) (q 0) _ (HI.out 0 (by decide)) (HQ.out 0 (by decide)) (hn.out 0 (by decide)).1 (hn.out 0 (by decide)).2)
    go_wp2_with fail
    refine HRo.out.mono ?_
    rintro e W1 ⟨rfl, hC⟩
    have K1 := Lib.hid (K1.out.below hC K1.out.lt)
    have K2 := Lib.hid (K2.out.below hC K2.out.lt)
    have HI := Lib.hid (HI.out.below hC)
    have HQ := Lib.hid (HQ.out.below hC)
    have HB := Lib.hid (HB.out.trans (hC.mono HB.out.size))
    clear HRo hC
    clear c0 c1 c2 c3 d0 d1 d2 d3 l1 l2
    by_cases h0 : r 0 = q 0
    · rw [decide_eq_true h0]
      have H0 := Lib.hid h0
      clear h0
      have c0 : W1.cell? ⟨w.heap.size, 0, none⟩ = some (.int .u64 (E : Nat)) := K1.out.cell 0
      have c1 : W1.cell? ⟨w.heap.size, 1, none⟩ = some (.slice (s.a 0) (s.n 0) (s.c 0)) := K1.out.cell 1
      have c2 : W1.cell? ⟨w.heap.size, 2, none⟩ = some (.slice (s.a 1) (s.n 1) (s.c 1)) := K1.out.cell 2
      have c3 : W1.cell? ⟨w.heap.size, 3, none⟩ = some (.slice (s.a 2) (s.n 2) (s.c 2)) := K1.out.cell 3
      have d0 : W1.cell? ⟨w.heap.size + 1, 0, none⟩ = some (.int .u64 (F : Nat)) := K2.out.cell 0
      have d1 : W1.cell? ⟨w.heap.size + 1, 1, none⟩ = some (.slice (u.a 0) (u.n 0) (u.c 0)) := K2.out.cell 1
      have d2 : W1.cell? ⟨w.heap.size + 1, 2, none⟩ = some (.slice (u.a 1) (u.n 1) (u.c 1)) := K2.out.cell 2
      have d3 : W1.cell? ⟨w.heap.size + 1, 3, none⟩ = some (.slice (u.a 2) (u.n 2) (u.c 2)) := K2.out.cell 3
      have l1 := K1.out.lt
      have l2 := K2.out.lt
      have HRo := Lib.hid (Tryd.row_any (s.a 1) (u.a 1) (s.n 1) (u.n 1) (s.c 1) (u.c 1) (r 1) (q 1) _ (HI.out 1 (by decide)) (HQ.out 1 (by decide)) (hn.out 1 (by decide)).1 (hn.out 1 (by decide)).2)
      go_wp2_with fail
      refine HRo.out.mono ?_
      rintro e W2 ⟨rfl, hC⟩
      have K1 := Lib.hid (K1.out.below hC K1.out.lt)
      have K2 := Lib.hid (K2.out.below hC K2.out.lt)
      have HI := Lib.hid (HI.out.below hC)
      have HQ := Lib.hid (HQ.out.below hC)
      have HB := Lib.hid (HB.out.trans (hC.mono HB.out.size))
      clear HRo hC
      clear c0 c1 c2 c3 d0 d1 d2 d3 l1 l2
      by_cases h1 : r 1 = q 1
      · rw [decide_eq_true h1]
        have H1 := Lib.hid h1
        clear h1
        have c0 : W2.cell? ⟨w.heap.size, 0, none⟩ = some (.int .u64 (E : Nat)) := K1.out.cell 0
        have c1 : W2.cell? ⟨w.heap.size, 1, none⟩ = some (.slice (s.a 0) (s.n 0) (s.c 0)) := K1.out.cell 1
        have c2 : W2.cell? ⟨w.heap.size, 2, none⟩ = some (.slice (s.a 1) (s.n 1) (s.c 1)) := K1.out.cell 2
        have c3 : W2.cell? ⟨w.heap.size, 3, none⟩ = some (.slice (s.a 2) (s.n 2) (s.c 2)) := K1.out.cell 3
        have d0 : W2.cell? ⟨w.heap.size + 1, 0, none⟩ = some (.int .u64 (F : Nat)) := K2.out.cell 0
        have d1 : W2.cell? ⟨w.heap.size + 1, 1, none⟩ = some (.slice (u.a 0) (u.n 0) (u.c 0)) := K2.out.cell 1
        have d2 : W2.cell? ⟨w.heap.size + 1, 2, none⟩ = some (.slice (u.a 1) (u.n 1) (u.c 1)) := K2.out.cell 2
        have d3 : W2.cell? ⟨w.heap.size + 1, 3, none⟩ = some (.slice (u.a 2) (u.n 2) (u.c 2)) := K2.out.cell 3
        have l1 := K1.out.lt
        have l2 := K2.out.lt
        have HRo := Lib.hid (Tryd.row_any (s.a 2) (u.a 2) (s.n 2) (u.n 2) (s.c 2) (u.c 2) (r 2) (q 2) _ (HI.out 2 (by decide)) (HQ.out 2 (by decide)) (hn.out 2 (by decide)).1 (hn.out 2 (by decide)).2)
        go_wp2_with fail
        refine HRo.out.mono ?_
        rintro e W3 ⟨rfl, hC⟩
        have K1 := Lib.hid (K1.out.below hC K1.out.lt)
        have K2 := Lib.hid (K2.out.below hC K2.out.lt)
        have HI := Lib.hid (HI.out.below hC)
        have HQ := Lib.hid (HQ.out.below hC)
        have HB := Lib.hid (HB.out.trans (hC.mono HB.out.size))
        clear HRo hC
        clear c0 c1 c2 c3 d0 d1 d2 d3 l1 l2
        by_cases h2 : r 2 = q 2
        · rw [decide_eq_true h2]
          have H2 := Lib.hid h2
          clear h2
          have c0 : W3.cell? ⟨w.heap.size, 0, none⟩ = some (.int .u64 (E : Nat)) := K1.out.cell 0
          have c1 : W3.cell? ⟨w.heap.size, 1, none⟩ = some (.slice (s.a 0) (s.n 0) (s.c 0)) := K1.out.cell 1
          have c2 : W3.cell? ⟨w.heap.size, 2, none⟩ = some (.slice (s.a 1) (s.n 1) (s.c 1)) := K1.out.cell 2
          have c3 : W3.cell? ⟨w.heap.size, 3, none⟩ = some (.slice (s.a 2) (s.n 2) (s.c 2)) := K1.out.cell 3
          have d0 : W3.cell? ⟨w.heap.size + 1, 0, none⟩ = some (.int .u64 (F : Nat)) := K2.out.cell 0
          have d1 : W3.cell? ⟨w.heap.size + 1, 1, none⟩ = some (.slice (u.a 0) (u.n 0) (u.c 0)) := K2.out.cell 1
          have d2 : W3.cell? ⟨w.heap.size + 1, 2, none⟩ = some (.slice (u.a 1) (u.n 1) (u.c 1)) := K2.out.cell 2
          have d3 : W3.cell? ⟨w.heap.size + 1, 3, none⟩ = some (.slice (u.a 2) (u.n 2) (u.c 2)) := K2.out.cell 3
          have l1 := K1.out.lt
          have l2 := K2.out.lt
          have HR : Hid (sameB E r F q = true) := Lib.hid (sameB_iff.2 ⟨hE.out, H0.out, H1.out, H2.out⟩)
          go_wp2_with fail
          go_ret
          exact ⟨by rw [HR.out]; rfl, HB.out⟩
        · rw [decide_eq_false h2]
          have HR : Hid (sameB E r F q = false) := Lib.hid (by cases hh : sameB E r F q with | false => rfl | true => exact absurd (sameB_iff.1 hh).2.2.2 h2)
          clear h2
          have c0 : W3.cell? ⟨w.heap.size, 0, none⟩ = some (.int .u64 (E : Nat)) := K1.out.cell 0
          have c1 : W3.cell? ⟨w.heap.size, 1, none⟩ = some (.slice (s.a 0) (s.n 0) (s.c 0)) := K1.out.cell 1
          have c2 : W3.cell? ⟨w.heap.size, 2, none⟩ = some (.slice (s.a 1) (s.n 1) (s.c 1)) := K1.out.cell 2
          have c3 : W3.cell? ⟨w.heap.size, 3, none⟩ = some (.slice (s.a 2) (s.n 2) (s.c 2)) := K1.out.cell 3
          have d0 : W3.cell? ⟨w.heap.size + 1, 0, none⟩ = some (.int .u64 (F : Nat)) := K2.out.cell 0
          have d1 : W3.cell? ⟨w.heap.size + 1, 1, none⟩ = some (.slice (u.a 0) (u.n 0) (u.c 0)) := K2.out.cell 1
          have d2 : W3.cell? ⟨w.heap.size + 1, 2, none⟩ = some (.slice (u.a 1) (u.n 1) (u.c 1)) := K2.out.cell 2
          have d3 : W3.cell? ⟨w.heap.size + 1, 3, none⟩ = some (.slice (u.a 2) (u.n 2) (u.c 2)) := K2.out.cell 3
          have l1 := K1.out.lt
          have l2 := K2.out.lt
          go_wp2_with fail
          go_ret
          exact ⟨by rw [HR.out]; rfl, HB.out⟩
      · rw [decide_eq_false h1]
        have HR : Hid (sameB E r F q = false) := Lib.hid (by cases hh : sameB E r F q with | false => rfl | true => exact absurd (sameB_iff.1 hh).2.2.1 h1)
        clear h1
        have c0 : W2.cell? ⟨w.heap.size, 0, none⟩ = some (.int .u64 (E : Nat)) := K1.out.cell 0
        have c1 : W2.cell? ⟨w.heap.size, 1, none⟩ = some (.slice (s.a 0) (s.n 0) (s.c 0)) := K1.out.cell 1
        have c2 : W2.cell? ⟨w.heap.size, 2, none⟩ = some (.slice (s.a 1) (s.n 1) (s.c 1)) := K1.out.cell 2
        have c3 : W2.cell? ⟨w.heap.size, 3, none⟩ = some (.slice (s.a 2) (s.n 2) (s.c 2)) := K1.out.cell 3
        have d0 : W2.cell? ⟨w.heap.size + 1, 0, none⟩ = some (.int .u64 (F : Nat)) := K2.out.cell 0
        have d1 : W2.cell? ⟨w.heap.size + 1, 1, none⟩ = some (.slice (u.a 0) (u.n 0) (u.c 0)) := K2.out.cell 1
        have d2 : W2.cell? ⟨w.heap.size + 1, 2, none⟩ = some (.slice (u.a 1) (u.n 1) (u.c 1)) := K2.out.cell 2
        have d3 : W2.cell? ⟨w.heap.size + 1, 3, none⟩ = some (.slice (u.a 2) (u.n 2) (u.c 2)) := K2.out.cell 3
        have l1 := K1.out.lt
        have l2 := K2.out.lt
        go_wp2_with fail
        go_ret
        exact ⟨by rw [HR.out]; rfl, HB.out⟩
    · rw [decide_eq_false h0]
      have HR : Hid (sameB E r F q = false) := Lib.hid (by cases hh : sameB E r F q with | false => rfl | true => exact absurd (sameB_iff.1 hh).2.1 h0)
      clear h0
      have c0 : W1.cell? ⟨w.heap.size, 0, none⟩ = some (.int .u64 (E : Nat)) := K1.out.cell 0
      have c1 : W1.cell? ⟨w.heap.size, 1, none⟩ = some (.slice (s.a 0) (s.n 0) (s.c 0)) := K1.out.cell 1
      have c2 : W1.cell? ⟨w.heap.size, 2, none⟩ = some (.slice (s.a 1) (s.n 1) (s.c 1)) := K1.out.cell 2
      have c3 : W1.cell? ⟨w.heap.size, 3, none⟩ = some (.slice (s.a 2) (s.n 2) (s.c 2)) := K1.out.cell 3
      have d0 : W1.cell? ⟨w.heap.size + 1, 0, none⟩ = some (.int .u64 (F : Nat)) := K2.out.cell 0
      have d1 : W1.cell? ⟨w.heap.size + 1, 1, none⟩ = some (.slice (u.a 0) (u.n 0) (u.c 0)) := K2.out.cell 1
      have d2 : W1.cell? ⟨w.heap.size + 1, 2, none⟩ = some (.slice (u.a 1) (u.n 1) (u.c 1)) := K2.out.cell 2
      have d3 : W1.cell? ⟨w.heap.size + 1, 3, none⟩ = some (.slice (u.a 2) (u.n 2) (u.c 2)) := K2.out.cell 3
      have l1 := K1.out.lt
      have l2 := K2.out.lt
      go_wp2_with fail
      go_ret
      exact ⟨by rw [HR.out]; rfl, HB.out⟩
  · have he2 : (((E : Nat) : Int) == ((F : Nat) : Int)) = false := by simp; omega
    have HR : Hid (sameB E r F q = false) := Lib.hid (by cases hh : sameB E r F q with | false => rfl | true => exact absurd (sameB_iff.1 hh).1 he)
    clear he
    go_wp2_with fail
    go_ret
    exact ⟨by rw [HR.out]; rfl, HB.out⟩
/-- Since when, as the reference looks for it. -/
def rwL (E : Nat) (r : Rw3) (z : Int) : Option Nat := if hasS (ofL E r 0) z then some E else if hasS (ofL E r 1) z then some (E - 1) else if hasS (ofL E r 2) z then some (E - 2) else none
theorem good_dis {l m : List Pr} {z : Int} (h : goodL (l ++ m) = true) (h1 : hasS l z = true) : hasS m z = false := by
  cases h2 : hasS m z with
  | false => rfl
  | true =>
    have hd := (goodL_iff.1 h).2
    rw [List.map_append, List.nodup_append] at hd
    obtain ⟨a, ha, e1⟩ := hasS_iff.1 h1
    obtain ⟨b, hb, e2⟩ := hasS_iff.1 h2
    exact absurd (e1.trans e2.symm) (hd.2.2 a.1 (List.mem_map.2 ⟨a, ha, rfl⟩) b.1 (List.mem_map.2 ⟨b, hb, rfl⟩))
theorem rw_when {E : Nat} {r : Rw3} (hr : rightL E r = true) (z : Int) : rwL E r z = whenL E r z := by
  have hg := rightL_held hr
  unfold rwL whenL
  rcases two_more E with rfl | rfl | ⟨F, rfl⟩
  · rw [wtL_0]
    simp only [ofL, List.find?_cons, List.find?_nil]
    cases h : hasS (r 0) z <;> simp [h, hasS_nil]
  · rw [wtL_1]
    rw [heldL_1] at hg
    simp only [ofL, List.find?_cons, List.find?_nil]
    cases h : hasS (r 0) z
    · cases h1 : hasS (r 1) z <;> simp [h, h1, hasS_nil]
    · have h1 := good_dis hg h
      simp [h, h1]
  · rw [wtL_2]
    rw [heldL_2] at hg
    have o0 : ofL (F + 2) r 0 = r ((F + 2) % 3) := by unfold ofL; rw [if_neg (by omega), Nat.sub_zero]
    have o1 : ofL (F + 2) r 1 = r ((F + 1) % 3) := by unfold ofL; rw [if_neg (by omega), show F + 2 - 1 = F + 1 by omega]
    have o2 : ofL (F + 2) r 2 = r (F % 3) := by unfold ofL; rw [if_neg (by omega), show F + 2 - 2 = F by omega]
    rw [o0, o1, o2, show F + 2 - 2 = F by omega, show F + 2 - 1 = F + 1 by omega]
    simp only [List.find?_cons, List.find?_nil]
    cases h : hasS (r (F % 3)) z
    · cases h1 : hasS (r ((F + 1) % 3)) z
      · cases h2 : hasS (r ((F + 2) % 3)) z <;> rfl
      · have h2 := good_dis hg (show hasS (r (F % 3) ++ r ((F + 1) % 3)) z = true by rw [hasS_app, h1, Bool.or_true])
        rw [h2]; rfl
    · have h1 := good_dis (goodL_left hg) h
      have h2 := good_dis hg (show hasS (r (F % 3) ++ r ((F + 1) % 3)) z = true by rw [hasS_app, h, Bool.true_or])
      rw [h2, h1]; rfl
set_option maxHeartbeats 16000000 in
theorem Tryd.refWhen_any (E : Nat) (s : Ls) (r : Rw3) (z : Int) (w : World) (hI : LAt w s r) (hE : E < 18446744073709551616) (hl : ∀ k, k < 3 → (r k).length ≤ 10000) :
    Calls Tryd.prog 19 #[.agg #[.int .u64 (E : Nat), .slice (s.a 0) (s.n 0) (s.c 0), .slice (s.a 1) (s.n 1) (s.c 1), .slice (s.a 2) (s.n 2) (s.c 2)], .int .i64 z] w fun e w' => e = .returned (.tuple #[.int .u64 (optV (rwL E r z)).1, .bool (optV (rwL E r z)).2]) ∧ Below w.heap.size w w' := by
  obtain ⟨W0, hW0⟩ : ∃ W, W = w.alloc (.cells #[.int .u64 (E : Nat), .slice (s.a 0) (s.n 0) (s.c 0), .slice (s.a 1) (s.n 1) (s.c 1), .slice (s.a 2) (s.n 2) (s.c 2)] 26) := ⟨_, rfl⟩
  have hB0 : Below w.heap.size w W0 := by rw [hW0]; exact Rows8.newB
  have hk0 : Rows8 W0 w.heap.size 26 #[.int .u64 (E : Nat), .slice (s.a 0) (s.n 0) (s.c 0), .slice (s.a 1) (s.n 1) (s.c 1), .slice (s.a 2) (s.n 2) (s.c 2)] := by rw [hW0]; exact Rows8.new _ _ _
  have HK := Lib.hid hk0
  have HB := Lib.hid hB0
  have HI := Lib.hid (hI.below hB0)
  have HE := Lib.hid hE
  have HL := Lib.hid hl
  clear hI hB0 hk0 hE hl
  go_enter Tryd.func19, Tryd.ntmps19
  go_wp2_with fail
  rw [← hW0]
  clear hW0
  go_loopw [7] (fun j wr => ∃ k : Nat, k ≤ 3 ∧ j = .int .u64 k ∧ Hid (∀ i, i < k → hasS (ofL E r i) z = false) ∧ Hid (Rows8 wr w.heap.size 26 #[.int .u64 (E : Nat), .slice (s.a 0) (s.n 0) (s.c 0), .slice (s.a 1) (s.n 1) (s.c 1), .slice (s.a 2) (s.n 2) (s.c 2)]) ∧ Hid (LAt wr s r) ∧ Hid (Below w.heap.size w wr)) (fun j _ => 3 - (intOf j).toNat)
  case atStart => exact ⟨0, by omega, rfl, Lib.hid (fun i hi => absurd hi (Nat.not_lt_zero _)), HK, HI, HB⟩
  case round =>
    clear HK HI HB
    obtain ⟨k, hk, rfl, hno, hK, hI, hB⟩ := hrel
    by_cases hlt : k < 3
    · have hki : (k : Int) < 3 := by omega
      have HOf := Lib.hid (Tryd.refOf_any E s k wr HE.out (by omega))
      have c0 : wr.cell? ⟨w.heap.size, 0, none⟩ = some (.int .u64 (E : Nat)) := hK.out.cell 0
      have c1 : wr.cell? ⟨w.heap.size, 1, none⟩ = some (.slice (s.a 0) (s.n 0) (s.c 0)) := hK.out.cell 1
      have c2 : wr.cell? ⟨w.heap.size, 2, none⟩ = some (.slice (s.a 1) (s.n 1) (s.c 1)) := hK.out.cell 2
      have c3 : wr.cell? ⟨w.heap.size, 3, none⟩ = some (.slice (s.a 2) (s.n 2) (s.c 2)) := hK.out.cell 3
      have lt := hK.out.lt
      go_wp2_with fail
      refine HOf.out.mono ?_
      rintro e w1 ⟨rfl, hC⟩
      obtain ⟨a, n, c, hof⟩ := ofV_form E k s
      have hat := ofV_at (hI.out.below hC) E k
      rw [hof] at hat ⊢
      have hn := (pAt_len hat).1
      have hln : (ofL E r k).length ≤ 10000 := by
        unfold ofL
        split
        · simp
        · exact HL.out _ (Nat.mod_lt _ (by decide))
      have HH := Lib.hid (Tryd.has_any a n c (ofL E r k) z w1 hat (by omega))
      have hK := Lib.hid (hK.out.below hC hK.out.lt)
      have hI := Lib.hid (hI.out.below hC)
      have hB := Lib.hid (hB.out.trans (hC.mono hB.out.size))
      clear HOf hC hof hat hn hln c0 c1 c2 c3 lt
      go_wp2_with fail
      refine HH.out.mono ?_
      rintro e w2 ⟨rfl, hC⟩
      have hK := Lib.hid (hK.out.below hC hK.out.lt)
      have hI := Lib.hid (hI.out.below hC)
      have hB := Lib.hid (hB.out.trans (hC.mono hB.out.size))
      clear HH hC
      cases hh : hasS (ofL E r k) z with
      | true =>
        have hkE : k ≤ E := Nat.le_of_not_lt fun hlt => by
          rw [show ofL E r k = [] from if_pos hlt] at hh
          cases hh
        have hres : Hid (rwL E r z = some (E - k)) := Lib.hid (by
          unfold rwL
          have hno := hno.out
          rcases three hlt with rfl | rfl | rfl
          · rw [hh, if_pos rfl, Nat.sub_zero]
          · rw [hno 0 (by decide), if_neg (by decide), hh, if_pos rfl]
          · rw [hno 0 (by decide), if_neg (by decide), hno 1 (by decide), if_neg (by decide), hh, if_pos rfl])
        have hEE := HE.out
        have hsb : IntKind.u64.wrap (((E : Nat) : Int) - ((k : Nat) : Int)) = ((E - k : Nat) : Int) := by rw [IntKind.wrap_u64]; omega
        have hc0 : w2.cell? ⟨w.heap.size, 0, none⟩ = some (.int .u64 (E : Nat)) := hK.out.cell 0
        have hlt2 := hK.out.lt
        clear hh hEE
        generalize E - k = A at *
        go_wp2_with fail
        go_ret2
        exact ⟨by rw [hres.out]; rfl, hB.out⟩
      | false =>
        have hN : Hid (∀ i, i < k + 1 → hasS (ofL E r i) z = false) := Lib.hid (fun i hi => by
          by_cases hik : i < k
          · exact hno.out i hik
          · obtain rfl : i = k := by omega
            exact hh)
        clear hh
        go_wp2_with fail
        exact ⟨⟨k + 1, by omega, by go_num, hN, hK, hI, hB⟩, by simp [intOf]; omega⟩
    · obtain rfl : k = 3 := by omega
      have hres : Hid (rwL E r z = none) := Lib.hid (by
        unfold rwL
        rw [hno.out 0 (by decide), hno.out 1 (by decide), hno.out 2 (by decide)]
        rfl)
      go_wp2_with fail
      go_ret2
      exact ⟨by rw [hres.out]; rfl, hB.out⟩
end Go.Proofs
