import Derived.Test.YtkghlcoancfnfaaYa
import Derived.Test.YtkghlcoancfnfaaRz

/- Monitor: the reference's arenas (out of the arena texts). -/
namespace Go.Proofs
set_option maxRecDepth 100000
open Go.RowKit Go.Shelf
attribute [local go_sem] Oper.semAt_some

theorem Try.refMany_any (n : Int) (w : World) : Calls Try.prog 21 #[.int .i64 n] w fun e w' => e = .returned (.bool (manyA n)) ∧ w' = w := by
  obtain ⟨b, hb⟩ : ∃ b, b = manyA n := ⟨_, rfl⟩
  rw [← hb]
  unfold manyA at hb
  have HB := Lib.hid hb
  clear hb
  by_cases h1 : 2 ≤ n
  · by_cases h2 : n ≤ 128
    · have h3 : Hid (b = true) := Lib.hid (by rw [HB.out]; simp; omega)
      go_enter Try.func21, Try.ntmps21
      go_wp2
      go_ret
      exact ⟨by rw [h3.out]; first | rfl | simp [h1, h2], rfl⟩
    · have h3 : Hid (b = false) := Lib.hid (by rw [HB.out]; simp; omega)
      go_enter Try.func21, Try.ntmps21
      go_wp2
      go_ret
      exact ⟨by rw [h3.out]; first | rfl | simp [h1, h2], rfl⟩
  · have h3 : Hid (b = false) := Lib.hid (by rw [HB.out]; simp; omega)
    go_enter Try.func21, Try.ntmps21
    go_wp2
    go_ret
    exact ⟨by rw [h3.out]; first | rfl | simp [h1], rfl⟩

set_option maxRecDepth 100000 in
set_option maxHeartbeats 4000000 in
theorem Try.refSame_any (a1 a2 : Option Addr) (n1 n2 c1 c2 : Nat) (xs ys : List Pr) (w : World) (h1 : PAt w (.slice a1 n1 c1) xs) (h2 : PAt w (.slice a2 n2 c2) ys) (hl : n1 ≤ 10000) (hl2 : n2 ≤ 10000) :
    Calls Try.prog 43 #[.agg #[.slice a1 n1 c1], .agg #[.slice a2 n2 c2]] w fun e w' => e = .returned (.bool (decide (xs = ys))) ∧ Below w.heap.size w w' := by
  have hB0 : Below w.heap.size w ((w.alloc (.cells #[.slice a1 n1 c1] 24)).alloc (.cells #[.slice a2 n2 c2] 24)) := (Rows8.newB).alloc (by simp) _
  have r0 := (Rows8.new w 24 #[.slice a1 n1 c1]).alloc (.cells #[.slice a2 n2 c2] 24)
  have r1 := Rows8.new (w.alloc (.cells #[.slice a1 n1 c1] 24)) 24 #[.slice a2 n2 c2]
  rw [World.size_alloc] at r1
  have HX := Lib.hid (pAt_len h1).1
  have HY := Lib.hid (pAt_len h2).1
  have H1 := Lib.hid h1
  have H2 := Lib.hid h2
  have R0 := Lib.hid r0
  have R1 := Lib.hid r1
  have HB0 := Lib.hid hB0
  obtain ⟨q, hq⟩ : ∃ q, q = decide (xs = ys) := ⟨_, rfl⟩
  rw [← hq]
  have HQ := Lib.hid hq
  clear h1 h2 r0 r1 hB0 hq
  by_cases hn : n1 = n2
  · subst hn
    have hd : ((n1 : Int) != (n1 : Int)) = false := by simp
    go_enter Try.func43, Try.ntmps43
    go_wp2_with fail
    go_loopw [17] (fun j wr => ∃ k : Nat, k ≤ n1 ∧ j = .int .i64 k ∧ Hid (xs.take k = ys.take k) ∧ Hid (Rows8 wr w.heap.size 24 #[.slice a1 n1 c1]) ∧ Hid (Rows8 wr (w.heap.size + 1) 24 #[.slice a2 n1 c2]) ∧ Hid (Below w.heap.size w wr)) (fun j _ => n1 - (intOf j).toNat)
    case atStart => exact ⟨0, Nat.zero_le _, rfl, Lib.hid rfl, R0, R1, HB0⟩
    case round =>
      obtain ⟨k, hk, rfl, ht, hR0, hR1, hB⟩ := hrel
      by_cases hlt : k < n1
      · have hkx : k < xs.length := by rw [← HX.out]; exact hlt
        have hky : k < ys.length := by rw [← HY.out]; exact hlt
        obtain ⟨b1, o1, rfl, hb1, p0, p1⟩ := pAt_get (PAt.below H1.out hB.out) k hkx
        obtain ⟨b2, o2, rfl, hb2, q0, q1⟩ := pAt_get (PAt.below H2.out hB.out) k hky
        have hki : (k : Int) < (n1 : Int) := by omega
        have hk0 : (0 : Int) ≤ (k : Int) := by omega
        have hnx := fun he => take_eq_nextP ht.out hkx hky he
        have hnq : xs[k] ≠ ys[k] → q = false := fun he => by rw [HQ.out]; exact decide_eq_false (fun h => he (by subst h; rfl))
        rcases hx1 : xs[k] with ⟨x0, x1⟩
        rcases hy1 : ys[k] with ⟨y0, y1⟩
        rw [hx1] at p0 p1
        rw [hy1] at q0 q1
        rw [hx1, hy1] at hnx hnq
        dsimp only at p0 p1 q0 q1
        have hal : Below wr.heap.size wr (wr.alloc (.cells #[.int .i64 x0, .int .u64 (x1 : Nat)] 56)) := Rows8.newB
        have R0' := Lib.hid (hR0.out.below hal hR0.out.lt)
        have R1' := Lib.hid (hR1.out.below hal hR1.out.lt)
        have HB' := Lib.hid (hB.out.trans (hal.mono hB.out.size))
        have s0 : (wr.alloc (.cells #[.int .i64 x0, .int .u64 (x1 : Nat)] 56)).cell? ⟨w.heap.size + 1, 0, none⟩ = some (.slice (some ⟨b2, o2, none⟩) n1 c2) := R1'.out.cell 0
        have s1 : (wr.alloc (.cells #[.int .i64 x0, .int .u64 (x1 : Nat)] 56)).cell? ⟨wr.heap.size, 0, none⟩ = some (.int .i64 x0) := (Rows8.new wr _ _).cell 0
        have s2 : (wr.alloc (.cells #[.int .i64 x0, .int .u64 (x1 : Nat)] 56)).cell? ⟨wr.heap.size, 1, none⟩ = some (.int .u64 (x1 : Nat)) := (Rows8.new wr _ _).cell 1
        have s3 := (hal.cell (p := ⟨b2, o2 + k * 2, none⟩) hb2).trans q0
        have s4 := (hal.cell (p := ⟨b2, o2 + k * 2 + 1, none⟩) hb2).trans q1
        have HNX := Lib.hid hnx
        have HNQ := Lib.hid hnq
        clear hal hR0 hR1 hB hnx hnq hx1 hy1
        go_upto_region 6 with fail
        generalize hW9 : (wr.alloc (.cells #[.int .i64 x0, .int .u64 (x1 : Nat)] 56)) = W9 at *
        clear hW9
        by_cases he : x0 = y0 ∧ x1 = y1
        · obtain ⟨rfl, rfl⟩ := he
          have HN2 := Lib.hid (HNX.out rfl)
          have d0 : (x0 == x0) = true := by simp
          have d1 : (((x1 : Nat) : Int) == ((x1 : Nat) : Int)) = true := by simp
          have c0 : (x0 != x0) = false := by simp
          have c1 : (((x1 : Nat) : Int) != ((x1 : Nat) : Int)) = false := by simp
          go_quiet (fail)
          go_wp2_with fail
          exact ⟨⟨k + 1, by omega, by go_num, HN2, Lib.hid (R0'.out), Lib.hid (R1'.out), Lib.hid (below_drewN HB'.out _)⟩, by simp [intOf]; omega⟩
        · have HF := Lib.hid (HNQ.out (fun h => he (by injection h with e1 e2; exact ⟨e1, e2⟩)))
          have hs : x0 ≠ y0 ∨ (x0 = y0 ∧ x1 ≠ y1) := by by_cases h0 : x0 = y0; exact .inr ⟨h0, fun h1 => he ⟨h0, h1⟩⟩; exact .inl h0
          clear he
          rcases hs with h | ⟨rfl, h⟩
          · have d0 : (x0 == y0) = false := by simp [h]
            have c0 : (x0 != y0) = true := by simp [h]
            go_quiet (fail)
            go_wp2_with fail
            go_ret
            exact ⟨by rw [HF.out]; rfl, below_drewN HB'.out _⟩
          · have d0 : (x0 == x0) = true := by simp
            have c0 : (x0 != x0) = false := by simp
            have d1 : (((x1 : Nat) : Int) == ((y1 : Nat) : Int)) = false := by simp; omega
            have c1 : (((x1 : Nat) : Int) != ((y1 : Nat) : Int)) = true := by simp; omega
            go_quiet (fail)
            go_wp2_with fail
            go_ret
            exact ⟨by rw [HF.out]; rfl, below_drewN HB'.out _⟩
      · obtain rfl : k = n1 := by omega
        have hki : ¬ (k : Int) < (k : Int) := by omega
        have HF := Lib.hid (show q = true by
          have h := ht.out
          rw [List.take_of_length_le (by rw [← HX.out]; exact Nat.le_refl _), List.take_of_length_le (by rw [← HY.out]; exact Nat.le_refl _)] at h
          rw [HQ.out]
          exact decide_eq_true h)
        clear ht
        go_wp2_with fail
        go_ret
        exact ⟨by rw [HF.out]; rfl, hB.out⟩
  · have hd : ((n1 : Int) != (n2 : Int)) = true := by simp; omega
    have HF := Lib.hid (show q = false by rw [HQ.out]; exact decide_eq_false (fun h => hn (by rw [HX.out, HY.out, h])))
    go_enter Try.func43, Try.ntmps43
    go_wp2_with fail
    go_ret
    exact ⟨by rw [HF.out]; rfl, HB0.out⟩

set_option maxRecDepth 100000 in
set_option maxHeartbeats 4000000 in
theorem Try.refNew_any (N : Nat) (hN : N ≤ 10000) (w : World) :
    Calls Try.prog 22 #[.int .i64 (N : Nat)] w fun e w' => ∃ v, e = .returned (.agg #[v]) ∧ OwnsP 56 w.heap.size (List.replicate N (0, 0)) v w' ∧ Below w.heap.size w w' := by
  obtain ⟨i0, hi, hz0, hz1, hz2⟩ := info_parts Try.infoSlab
  have hB0 : Below w.heap.size w ((w.alloc (.cells #[.slice none 0 0] 24)).alloc (.cells #[.slice none 0 0] 24)) := (Rows8.newB).alloc (by simp) _
  have r0 := (Rows8.new w 24 #[.slice none 0 0]).alloc (.cells #[.slice none 0 0] 24)
  have r1 := Rows8.new (w.alloc (.cells #[.slice none 0 0] 24)) 24 #[.slice none 0 0]
  rw [World.size_alloc] at r1
  have R0 := Lib.hid r0
  have R1 := Lib.hid r1
  have HB0 := Lib.hid hB0
  have O0 := Lib.hid (ownsP_nil 56 w.heap.size ((w.alloc (.cells #[.slice none 0 0] 24)).alloc (.cells #[.slice none 0 0] 24)))
  clear r0 r1 hB0
  go_enter Try.func22, Try.ntmps22
  go_wp2_with fail
  go_loopw [5] (fun j wr => ∃ (k : Nat) (av : Option Addr) (cv : Nat), k ≤ N ∧ j = .int .i64 k ∧ Hid (Rows8 wr w.heap.size 24 #[.slice none 0 0]) ∧ Hid (Rows8 wr (w.heap.size + 1) 24 #[.slice av k cv]) ∧ Hid (wr.ownsRow w.heap.size 56 2 (.slice av k cv) k (pVals (List.replicate k (0, 0)))) ∧ Hid (Below w.heap.size w wr)) (fun j _ => N - (intOf j).toNat)
  case atStart => exact ⟨0, none, 0, Nat.zero_le _, rfl, R0, R1, O0, HB0⟩
  case round =>
    obtain ⟨k, av, cv, hk, rfl, hR0, hR1, hO, hB⟩ := hrel
    have cR : wr.cell? ⟨w.heap.size + 1, 0, none⟩ = some (.slice av k cv) := hR1.out.cell 0
    have lR := hR1.out.lt
    by_cases hlt : k < N
    · have hki : (k : Int) < (N : Int) := by omega
      have hal : Below wr.heap.size wr (wr.alloc (.cells #[.int .i64 0, .int .u64 0] 56)) := Rows8.newB
      have HO1 := Lib.hid (owns_keep hO.out hal (Nat.le_refl _))
      have HR0 := Lib.hid (hR0.out.below hal hR0.out.lt)
      have HR1 := Lib.hid (hR1.out.below hal hR1.out.lt)
      have HB2 := Lib.hid (hB.out.trans (hal.mono hB.out.size))
      have hsz1 : w.heap.size ≤ wr.heap.size := hB.out.size
      clear hal hO hR0 hR1 hB
      go_wp2_with (at_builtin; refine wpList_append_own _ rfl _ _ 22 rfl w.heap.size 56 i0 (.agg #[.int .i64 0, .int .u64 0]) 2 16 Try.underlying22 hi hz0 hz1 hz2 rfl (by decide) _ _ _ rfl HO1.out ⟨wr.heap.size, 0, none⟩ 1 1 [.int .i64 0, .int .u64 0] rfl rfl (cells_new wr _ [.int .i64 0, .int .u64 0]) (by simp [Value.oneCell']) (by unfold maxLen; omega) (by omega) (by simp; omega) ?_; intro v9 w9 hown hgrow _; have hb9 := HB2.out.grown hgrow HB2.out.size (fun j e => (World.ownsRow.lt HO1.out j e).1); have q0 := rows_grownA HO1.out (by decide) hgrow HR0.out; have q1 := rows_grownA HO1.out (by decide) hgrow HR1.out; obtain ⟨g9, c9, rfl⟩ := ownsRow_succ hown; have cq : w9.cell? ⟨w.heap.size + 1, 0, none⟩ = some (.slice av k cv) := q1.cell 0; have fq := q1.frozen 0; have HB9 := Lib.hid (hb9.setCell (p := ⟨w.heap.size + 1, 0, none⟩) (by simp) (.slice (some ⟨g9, 0, none⟩) (k + 1) c9)); have HQ0 := Lib.hid (q0.setOther (a := ⟨w.heap.size + 1, 0, none⟩) (by simp) (.slice (some ⟨g9, 0, none⟩) (k + 1) c9)); have HQ1 := Lib.hid (q1.set 0 (.slice (some ⟨g9, 0, none⟩) (k + 1) c9)); have HOW := Lib.hid (ownsRow_setCell_other hown (a := ⟨w.heap.size + 1, 0, none⟩) (owns_not hown q1 (by decide)) (.slice (some ⟨g9, 0, none⟩) (k + 1) c9)); clear hown hgrow hb9 q0 q1)
      exact ⟨⟨k + 1, _, _, by omega, by go_num, HQ0, HQ1, Lib.hid (by rw [List.replicate_succ', pVals_snoc]; exact HOW.out), HB9⟩, by simp [intOf]; omega⟩
    · obtain rfl : k = N := by omega
      have hki : ¬ (k : Int) < (k : Int) := by omega
      have c0 : wr.cell? ⟨w.heap.size, 0, none⟩ = some (.slice none 0 0) := hR0.out.cell 0
      have f0 := hR0.out.frozen 0
      have r2 := hR0.out.set 0 (.slice av k cv)
      simp only [List.setIfInBounds_toArray, List.set_cons_zero] at r2
      have R2 := Lib.hid r2
      have O2 := Lib.hid (ownsRow_setCell_other hO.out (a := ⟨w.heap.size, 0, none⟩) (owns_not hO.out hR0.out (by decide)) (.slice av k cv))
      have HB2 := Lib.hid (hB.out.setCell (p := ⟨w.heap.size, 0, none⟩) (Nat.le_refl _) (.slice av k cv))
      clear r2
      go_wp2_with fail
      refine bodyPost_ret (results_c rfl _ _ w.heap.size 24 _ (0, 0) _ rfl R2.out Try.underlying24 rfl (by kernel_rfl)) rfl ?_
      exact ⟨_, rfl, by unfold OwnsP; rw [List.length_replicate]; exact O2.out, HB2.out⟩

end Go.Proofs

/- Monitor: the reference's rows of entries. -/
namespace Go.Proofs
set_option maxRecDepth 100000
open Go.RowKit Go.Shelf
attribute [local go_sem] Oper.semAt_some

set_option maxHeartbeats 4000000 in
theorem Try.refEnts_any (a1 a2 : Option Addr) (n1 n2 c1 c2 : Nat) (xs ys : List Pr) (w : World) (h1 : PAt w (.slice a1 n1 c1) xs) (h2 : PAt w (.slice a2 n2 c2) ys) (hl : n1 ≤ 10000) (hl2 : n2 ≤ 10000) :
    Calls Try.prog 44 #[.slice a1 n1 c1, .slice a2 n2 c2] w fun e w' => e = .returned (.bool (decide (xs = ys))) ∧ Below w.heap.size w w' := by
  have hB0 : Below w.heap.size w w := Below.refl _ w
  have HX := Lib.hid (pAt_len h1).1
  have HY := Lib.hid (pAt_len h2).1
  have H1 := Lib.hid h1
  have H2 := Lib.hid h2
  have HB0 := Lib.hid hB0
  obtain ⟨q, hq⟩ : ∃ q, q = decide (xs = ys) := ⟨_, rfl⟩
  rw [← hq]
  have HQ := Lib.hid hq
  clear h1 h2 hB0 hq
  by_cases hn : n1 = n2
  · subst hn
    have hd : ((n1 : Int) != (n1 : Int)) = false := by simp
    go_enter Try.func44, Try.ntmps44
    go_wp2_with fail
    go_loopw [14] (fun j wr => ∃ k : Nat, k ≤ n1 ∧ j = .int .i64 k ∧ Hid (xs.take k = ys.take k) ∧ Hid (Below w.heap.size w wr)) (fun j _ => n1 - (intOf j).toNat)
    case atStart => exact ⟨0, Nat.zero_le _, rfl, Lib.hid rfl, HB0⟩
    case round =>
      obtain ⟨k, hk, rfl, ht, hB⟩ := hrel
      by_cases hlt : k < n1
      · have hkx : k < xs.length := by rw [← HX.out]; exact hlt
        have hky : k < ys.length := by rw [← HY.out]; exact hlt
        obtain ⟨b1, o1, rfl, hb1, p0, p1⟩ := pAt_get (PAt.below H1.out hB.out) k hkx
        obtain ⟨b2, o2, rfl, hb2, q0, q1⟩ := pAt_get (PAt.below H2.out hB.out) k hky
        have hki : (k : Int) < (n1 : Int) := by omega
        have hk0 : (0 : Int) ≤ (k : Int) := by omega
        have hnx := fun he => take_eq_nextP ht.out hkx hky he
        have hnq : xs[k] ≠ ys[k] → q = false := fun he => by rw [HQ.out]; exact decide_eq_false (fun h => he (by subst h; rfl))
        rcases hx1 : xs[k] with ⟨x0, x1⟩
        rcases hy1 : ys[k] with ⟨y0, y1⟩
        rw [hx1] at p0 p1
        rw [hy1] at q0 q1
        rw [hx1, hy1] at hnx hnq
        dsimp only at p0 p1 q0 q1
        have hal : Below wr.heap.size wr (wr.alloc (.cells #[.int .i64 x0, .int .u64 (x1 : Nat)] 38)) := Rows8.newB
        have HB' := Lib.hid (hB.out.trans (hal.mono hB.out.size))
        have s1 : (wr.alloc (.cells #[.int .i64 x0, .int .u64 (x1 : Nat)] 38)).cell? ⟨wr.heap.size, 0, none⟩ = some (.int .i64 x0) := (Rows8.new wr _ _).cell 0
        have s2 : (wr.alloc (.cells #[.int .i64 x0, .int .u64 (x1 : Nat)] 38)).cell? ⟨wr.heap.size, 1, none⟩ = some (.int .u64 (x1 : Nat)) := (Rows8.new wr _ _).cell 1
        have s3 := (hal.cell (p := ⟨b2, o2 + k * 2, none⟩) hb2).trans q0
        have s4 := (hal.cell (p := ⟨b2, o2 + k * 2 + 1, none⟩) hb2).trans q1
        have HNX := Lib.hid hnx
        have HNQ := Lib.hid hnq
        clear hal hB hnx hnq hx1 hy1
        go_upto_region 6 with fail
        generalize hW9 : (wr.alloc (.cells #[.int .i64 x0, .int .u64 (x1 : Nat)] 38)) = W9 at *
        clear hW9
        by_cases he : x0 = y0 ∧ x1 = y1
        · obtain ⟨rfl, rfl⟩ := he
          have HN2 := Lib.hid (HNX.out rfl)
          have d0 : (x0 == x0) = true := by simp
          have d1 : (((x1 : Nat) : Int) == ((x1 : Nat) : Int)) = true := by simp
          have c0 : (x0 != x0) = false := by simp
          have c1 : (((x1 : Nat) : Int) != ((x1 : Nat) : Int)) = false := by simp
          go_quiet (fail)
          go_wp2_with fail
          exact ⟨⟨k + 1, by omega, by go_num, HN2, Lib.hid (below_drewN HB'.out _)⟩, by simp [intOf]; omega⟩
        · have HF := Lib.hid (HNQ.out (fun h => he (by injection h with e1 e2; exact ⟨e1, e2⟩)))
          have hs : x0 ≠ y0 ∨ (x0 = y0 ∧ x1 ≠ y1) := by by_cases h0 : x0 = y0; exact .inr ⟨h0, fun h1 => he ⟨h0, h1⟩⟩; exact .inl h0
          clear he
          rcases hs with h | ⟨rfl, h⟩
          · have d0 : (x0 == y0) = false := by simp [h]
            have c0 : (x0 != y0) = true := by simp [h]
            go_quiet (fail)
            go_wp2_with fail
            go_ret
            exact ⟨by rw [HF.out]; rfl, below_drewN HB'.out _⟩
          · have d0 : (x0 == x0) = true := by simp
            have c0 : (x0 != x0) = false := by simp
            have d1 : (((x1 : Nat) : Int) == ((y1 : Nat) : Int)) = false := by simp; omega
            have c1 : (((x1 : Nat) : Int) != ((y1 : Nat) : Int)) = true := by simp; omega
            go_quiet (fail)
            go_wp2_with fail
            go_ret
            exact ⟨by rw [HF.out]; rfl, below_drewN HB'.out _⟩
      · obtain rfl : k = n1 := by omega
        have hki : ¬ (k : Int) < (k : Int) := by omega
        have HF := Lib.hid (show q = true by
          have h := ht.out
          rw [List.take_of_length_le (by rw [← HX.out]; exact Nat.le_refl _), List.take_of_length_le (by rw [← HY.out]; exact Nat.le_refl _)] at h
          rw [HQ.out]
          exact decide_eq_true h)
        clear ht
        go_wp2_with fail
        go_ret
        exact ⟨by rw [HF.out]; rfl, hB.out⟩
  · have hd : ((n1 : Int) != (n2 : Int)) = true := by simp; omega
    have HF := Lib.hid (show q = false by rw [HQ.out]; exact decide_eq_false (fun h => hn (by rw [HX.out, HY.out, h])))
    go_enter Try.func44, Try.ntmps44
    go_wp2_with fail
    go_ret
    exact ⟨by rw [HF.out]; rfl, HB0.out⟩
end Go.Proofs

/- Monitor: the reference's Same. -/
namespace Go.Proofs
set_option maxRecDepth 100000
open Go.RowKit Go.Shelf
attribute [local go_sem] Oper.semAt_some

/-- Two boxes of monitors. -/
structure Sm (k : Nat) (w : World) (xs ys : Array Value) (W : World) : Prop where
  rx : Rows8 W k 29 xs
  ry : Rows8 W (k + 1) 29 ys
  bl : Below k w W
theorem Sm.below {k : Nat} {w : World} {xs ys : Array Value} {A B : World} (h : Sm k w xs ys A) (hB : Below A.heap.size A B) (hk : k ≤ A.heap.size) : Sm k w xs ys B :=
  ⟨h.rx.below hB h.rx.lt, h.ry.below hB h.ry.lt, h.bl.trans (hB.mono hk)⟩
theorem Sm.drewN {k : Nat} {w : World} {xs ys : Array Value} {A : World} (h : Sm k w xs ys A) (n : Nat) : Sm k w xs ys (A.drewN n) := ⟨h.rx, h.ry, below_drewN h.bl n⟩
theorem take_nextA {α : Type} {xs ys : List α} {k : Nat} (h : xs.take k = ys.take k) (hx : k < xs.length) (hy : k < ys.length) (he : xs[k] = ys[k]) : xs.take (k + 1) = ys.take (k + 1) := by
  rw [List.take_succ_eq_append_getElem hx, List.take_succ_eq_append_getElem hy, h, he]
theorem take_allA {α : Type} {xs ys : List α} {k : Nat} (h : xs.take k = ys.take k) (hx : k = xs.length) (hy : k = ys.length) : xs = ys := by
  rw [List.take_of_length_le (Nat.le_of_eq hx.symm), List.take_of_length_le (Nat.le_of_eq hy.symm)] at h
  exact h
set_option maxHeartbeats 16000000 in
theorem Try.refSameM_any (x y : Mv) (a b : Mn) (w : World) (hA : MonAt w x a) (hB : MonAt w y b) :
    Calls Try.prog 12 #[.agg #[.slice x.sa x.sn x.sc, .slice x.pa x.pn x.pc, .slice x.ha x.hn x.hc, .slice x.ba x.bn x.bc], .agg #[.slice y.sa y.sn y.sc, .slice y.pa y.pn y.pc, .slice y.ha y.hn y.hc, .slice y.ba y.bn y.bc]] w fun e w' => e = .returned (.bool (decide (a = b))) ∧ Below w.heap.size w w' := by
  obtain ⟨sa, sn, sc, pa, pn, pc, ha, hn, hc, ba, bn, bc⟩ := x
  obtain ⟨ta, tn, tc, qa, qn, qc, ia, i_n, ic, da, dn, dc⟩ := y
  obtain ⟨lx0, lx1, lx2, lx3⟩ := hA.lens
  obtain ⟨ly0, ly1, ly2, ly3⟩ := hB.lens
  obtain ⟨zx0, zx1, zx2, zx3, zx4⟩ := hA.z
  obtain ⟨zy0, zy1, zy2, zy3, zy4⟩ := hB.z
  dsimp only at lx0 lx1 lx2 lx3 ly0 ly1 ly2 ly3 ⊢
  obtain ⟨u0, hu0⟩ : ∃ u, u = (w.alloc (.cells #[.slice sa sn sc, .slice pa pn pc, .slice ha hn hc, .slice ba bn bc] 29)).alloc (.cells #[.slice ta tn tc, .slice qa qn qc, .slice ia i_n ic, .slice da dn dc] 29) := ⟨_, rfl⟩
  have hS0 : Sm w.heap.size w #[.slice sa sn sc, .slice pa pn pc, .slice ha hn hc, .slice ba bn bc] #[.slice ta tn tc, .slice qa qn qc, .slice ia i_n ic, .slice da dn dc] u0 := ⟨by rw [hu0]; exact (Rows8.new _ _ _).alloc _, by rw [hu0]; exact rows_new2 _ _ _ _, by rw [hu0]; exact (Rows8.newB).alloc (by simp) _⟩
  obtain ⟨q, hq⟩ : ∃ q, q = decide (a = b) := ⟨_, rfl⟩
  rw [← hq]
  have HQ := Lib.hid hq
  have HA := Lib.hid hA
  have HB := Lib.hid hB
  have HS := Lib.hid hS0
  have HSM := Lib.hid (Try.refSame_any sa ta sn tn sc tc a.sl b.sl u0 (HA.out.below hS0.bl).s (HB.out.below hS0.bl).s (by omega) (by omega))
  have LP := Lib.hid lx1
  have LH := Lib.hid lx2
  have LB := Lib.hid lx3
  have MP := Lib.hid ly1
  have MH := Lib.hid ly2
  have MB := Lib.hid ly3
  have ZX := Lib.hid zx4
  have ZY := Lib.hid zy4
  have hpn9 : pn ≤ 1000 := by omega
  have hhn9 : hn ≤ 1000 := by omega
  have hbn9 : bn ≤ 1000 := by omega
  have HF : Hid (¬ a = b → q = false) := Lib.hid fun h => by rw [HQ.out]; exact decide_eq_false h
  have HTR : Hid (a.sl = b.sl → a.pin = b.pin → a.has = b.has → a.bad = b.bad → q = true) := Lib.hid fun h1 h2 h3 h4 => by
    rw [HQ.out]
    refine decide_eq_true ?_
    obtain ⟨_, _, _, _⟩ := a
    obtain ⟨_, _, _, _⟩ := b
    dsimp only at h1 h2 h3 h4
    rw [h1, h2, h3, h4]
  clear hq hA hB hS0 lx0 lx1 lx2 lx3 ly0 ly1 ly2 ly3 zx0 zx1 zx2 zx3 zx4 zy0 zy1 zy2 zy3 zy4 HQ
  go_enter Try.func12, Try.ntmps12
  go_wp2_with fail
  rw [← hu0]
  clear hu0
  refine HSM.out.mono ?_
  rintro e w1 ⟨rfl, hC⟩
  have HS1 := Lib.hid (HS.out.below hC HS.out.bl.size)
  clear hC HS HSM
  have cx1 : w1.cell? ⟨w.heap.size, 1, none⟩ = some (.slice pa pn pc) := HS1.out.rx.cell 1
  have cx2 : w1.cell? ⟨w.heap.size, 2, none⟩ = some (.slice ha hn hc) := HS1.out.rx.cell 2
  have cx3 : w1.cell? ⟨w.heap.size, 3, none⟩ = some (.slice ba bn bc) := HS1.out.rx.cell 3
  have cy1 : w1.cell? ⟨w.heap.size + 1, 1, none⟩ = some (.slice qa qn qc) := HS1.out.ry.cell 1
  have cy2 : w1.cell? ⟨w.heap.size + 1, 2, none⟩ = some (.slice ia i_n ic) := HS1.out.ry.cell 2
  have cy3 : w1.cell? ⟨w.heap.size + 1, 3, none⟩ = some (.slice da dn dc) := HS1.out.ry.cell 3
  by_cases hsl : a.sl = b.sl
  · have hds : decide (a.sl = b.sl) = true := decide_eq_true hsl
    have HSL := Lib.hid hsl
    rw [hds]
    clear hsl hds
    by_cases hp : pn = qn
    · subst hp
      have dp : ((pn : Int) != (pn : Int)) = false := by simp
      by_cases hh : hn = i_n
      · subst hh
        have dh : ((hn : Int) != (hn : Int)) = false := by simp
        by_cases hb : bn = dn
        · subst hb
          have db : ((bn : Int) != (bn : Int)) = false := by simp
          go_wp2_with fail
          clear cx1 cx2 cx3 cy1 cy2 cy3 dp dh db
          go_loopw [47] (fun j wr => ∃ k : Nat, k ≤ pn ∧ j = .int .i64 k ∧ Hid (a.pin.take k = b.pin.take k) ∧ Hid (Sm w.heap.size w #[.slice sa sn sc, .slice pa pn pc, .slice ha hn hc, .slice ba bn bc] #[.slice ta tn tc, .slice qa pn qc, .slice ia hn ic, .slice da bn dc] wr)) (fun j _ => pn - (intOf j).toNat)
          case atStart => exact ⟨0, Nat.zero_le _, rfl, Lib.hid rfl, HS1⟩
          case round =>
            obtain ⟨k, hk, rfl, ht, hS⟩ := hrel
            clear HS1
            by_cases hlt : k < pn
            · have hkx : k < a.pin.length := by rw [← LP.out]; exact hlt
              have hky : k < b.pin.length := by rw [← MP.out]; exact hlt
              obtain ⟨b1, o1, rfl, hb1, p0⟩ := bAt_get (HA.out.below hS.out.bl).p k hkx
              obtain ⟨b2, o2, rfl, hb2, q0⟩ := bAt_get (HB.out.below hS.out.bl).p k hky
              have hki : (k : Int) < (pn : Int) := by omega
              have hk0 : (0 : Int) ≤ (k : Int) := by omega
              have cy : wr.cell? ⟨w.heap.size + 1, 1, none⟩ = some (.slice (some ⟨b2, o2, none⟩) pn qc) := hS.out.ry.cell 1
              have HNX := Lib.hid (fun he => take_nextA ht.out hkx hky he)
              have HNQ := Lib.hid (show a.pin[k] ≠ b.pin[k] → q = false from fun he => HF.out (fun h => he (by subst h; rfl)))
              obtain ⟨u, hu⟩ : ∃ u, u = a.pin[k] := ⟨_, rfl⟩
              obtain ⟨v, hv⟩ : ∃ v, v = b.pin[k] := ⟨_, rfl⟩
              rw [← hu] at p0
              rw [← hv] at q0
              rw [← hu, ← hv] at HNX HNQ
              clear hu hv hkx hky hb1 hb2 ht
              cases u <;> cases v
              · have HN2 := Lib.hid (HNX.out rfl)
                clear HNX HNQ
                go_wp2_with fail
                exact ⟨⟨k + 1, by omega, by go_num, HN2, hS⟩, by simp [intOf]; omega⟩
              · have HF2 := Lib.hid (HNQ.out (by decide))
                clear HNX HNQ
                go_wp2_with fail
                go_ret
                exact ⟨by rw [HF2.out]; rfl, hS.out.bl⟩
              · have HF2 := Lib.hid (HNQ.out (by decide))
                clear HNX HNQ
                go_wp2_with fail
                go_ret
                exact ⟨by rw [HF2.out]; rfl, hS.out.bl⟩
              · have HN2 := Lib.hid (HNX.out rfl)
                clear HNX HNQ
                go_wp2_with fail
                exact ⟨⟨k + 1, by omega, by go_num, HN2, hS⟩, by simp [intOf]; omega⟩
            · obtain rfl : pn = k := by omega
              have hki : ¬ (pn : Int) < (pn : Int) := by omega
              have HPE := Lib.hid (take_allA ht.out LP.out MP.out)
              have HS1 := hS
              have cx2 : wr.cell? ⟨w.heap.size, 2, none⟩ = some (.slice ha hn hc) := hS.out.rx.cell 2
              clear hS ht
              go_wp2_with fail
              clear cx2
              go_loopw [63] (fun j wr => ∃ k : Nat, k ≤ hn ∧ j = .int .i64 k ∧ Hid (a.has.take k = b.has.take k) ∧ Hid (Sm w.heap.size w #[.slice sa sn sc, .slice pa pn pc, .slice ha hn hc, .slice ba bn bc] #[.slice ta tn tc, .slice qa pn qc, .slice ia hn ic, .slice da bn dc] wr)) (fun j _ => hn - (intOf j).toNat)
              case atStart => exact ⟨0, Nat.zero_le _, rfl, Lib.hid rfl, HS1⟩
              case round =>
                obtain ⟨k2, hk2, rfl, ht, hS⟩ := hrel
                clear HS1
                by_cases hlt : k2 < hn
                · have hkx : k2 < a.has.length := by rw [← LH.out]; exact hlt
                  have hky : k2 < b.has.length := by rw [← MH.out]; exact hlt
                  obtain ⟨b1, o1, e1, d1, rfl, hb1, p0, p1⟩ := hasAt_get (HA.out.below hS.out.bl).h k2 hkx
                  obtain ⟨b2, o2, e2, d2, rfl, hb2, q0, q1⟩ := hasAt_get (HB.out.below hS.out.bl).h k2 hky
                  have hki : (k2 : Int) < (hn : Int) := by omega
                  have hk0 : (0 : Int) ≤ (k2 : Int) := by omega
                  have cy : wr.cell? ⟨w.heap.size + 1, 2, none⟩ = some (.slice (some ⟨b2, o2, none⟩) hn ic) := hS.out.ry.cell 2
                  have HNX := Lib.hid (fun he => take_nextA ht.out hkx hky he)
                  have HNQ := Lib.hid (show a.has[k2] ≠ b.has[k2] → q = false from fun he => HF.out (fun h => he (by subst h; rfl)))
                  have z1 := ZX.out _ (List.getElem_mem hkx)
                  have z2 := ZY.out _ (List.getElem_mem hky)
                  obtain ⟨u, hu⟩ : ∃ u, u = a.has[k2] := ⟨_, rfl⟩
                  obtain ⟨v, hv⟩ : ∃ v, v = b.has[k2] := ⟨_, rfl⟩
                  rw [← hu] at p0 p1 z1
                  rw [← hv] at q0 q1 z2
                  rw [← hu, ← hv] at HNX HNQ
                  obtain ⟨n1, hn1⟩ : ∃ n, n = u.length := ⟨_, rfl⟩
                  obtain ⟨n2, hn2⟩ : ∃ n, n = v.length := ⟨_, rfl⟩
                  rw [← hn1] at p0 p1
                  rw [← hn2] at q0 q1
                  have HEN := Lib.hid (Try.refEnts_any e1 e2 n1 n2 d1 d2 u v wr p1 q1 (by omega) (by omega))
                  clear hu hv hkx hky hb1 hb2 ht p1 q1 z1 z2 hn1 hn2
                  go_wp2_with fail
                  refine HEN.out.mono ?_
                  rintro e w2 ⟨rfl, hC⟩
                  have HS2 := Lib.hid (hS.out.below hC hS.out.bl.size)
                  clear hC hS HEN p0 q0 cy
                  by_cases huv : u = v
                  · have HN2 := Lib.hid (HNX.out huv)
                    rw [decide_eq_true huv]
                    clear HNX HNQ huv
                    go_wp2_with fail
                    exact ⟨⟨k2 + 1, by omega, by go_num, HN2, HS2⟩, by simp [intOf]; omega⟩
                  · have HF2 := Lib.hid (HNQ.out huv)
                    rw [decide_eq_false huv]
                    clear HNX HNQ huv
                    go_wp2_with fail
                    go_ret
                    exact ⟨by rw [HF2.out]; rfl, HS2.out.bl⟩
                · obtain rfl : hn = k2 := by omega
                  have hki : ¬ (hn : Int) < (hn : Int) := by omega
                  have HHE := Lib.hid (take_allA ht.out LH.out MH.out)
                  have HS1 := hS
                  have cx3 : wr.cell? ⟨w.heap.size, 3, none⟩ = some (.slice ba bn bc) := hS.out.rx.cell 3
                  clear hS ht
                  go_wp2_with fail
                  clear cx3
                  go_loopw [80] (fun j wr => ∃ k : Nat, k ≤ bn ∧ j = .int .i64 k ∧ Hid (a.bad.take k = b.bad.take k) ∧ Hid (Sm w.heap.size w #[.slice sa sn sc, .slice pa pn pc, .slice ha hn hc, .slice ba bn bc] #[.slice ta tn tc, .slice qa pn qc, .slice ia hn ic, .slice da bn dc] wr)) (fun j _ => bn - (intOf j).toNat)
                  case atStart => exact ⟨0, Nat.zero_le _, rfl, Lib.hid rfl, HS1⟩
                  case round =>
                    obtain ⟨k3, hk3, rfl, ht, hS⟩ := hrel
                    clear HS1
                    by_cases hlt : k3 < bn
                    · have hkx : k3 < a.bad.length := by rw [← LB.out]; exact hlt
                      have hky : k3 < b.bad.length := by rw [← MB.out]; exact hlt
                      obtain ⟨b1, o1, rfl, hb1, p0, p1, p2, p3⟩ := wAt_get (HA.out.below hS.out.bl).b k3 hkx
                      obtain ⟨b2, o2, rfl, hb2, q0, q1, q2, q3⟩ := wAt_get (HB.out.below hS.out.bl).b k3 hky
                      have hki : (k3 : Int) < (bn : Int) := by omega
                      have hk0 : (0 : Int) ≤ (k3 : Int) := by omega
                      have HNX := Lib.hid (fun he => take_nextA ht.out hkx hky he)
                      have HNQ := Lib.hid (show a.bad[k3] ≠ b.bad[k3] → q = false from fun he => HF.out (fun h => he (by subst h; rfl)))
                      obtain ⟨u, hu⟩ : ∃ u, u = a.bad[k3] := ⟨_, rfl⟩
                      obtain ⟨v, hv⟩ : ∃ v, v = b.bad[k3] := ⟨_, rfl⟩
                      rw [← hu] at p0 p1 p2 p3
                      rw [← hv] at q0 q1 q2 q3
                      rw [← hu, ← hv] at HNX HNQ
                      clear hu hv hkx hky hb1 ht
                      obtain ⟨u0, u1, u2, u3⟩ := u
                      obtain ⟨v0, v1, v2, v3⟩ := v
                      dsimp only at p0 p1 p2 p3 q0 q1 q2 q3
                      have hal : Below wr.heap.size wr (wr.alloc (.cells #[.int .i64 u0, .int .i64 u1, .int .i64 u2, .int .u64 (u3 : Nat)] 40)) := Rows8.newB
                      have HS2 := Lib.hid (hS.out.below hal hS.out.bl.size)
                      have cy : (wr.alloc (.cells #[.int .i64 u0, .int .i64 u1, .int .i64 u2, .int .u64 (u3 : Nat)] 40)).cell? ⟨w.heap.size + 1, 3, none⟩ = some (.slice (some ⟨b2, o2, none⟩) bn dc) := HS2.out.ry.cell 3
                      have s0 : (wr.alloc (.cells #[.int .i64 u0, .int .i64 u1, .int .i64 u2, .int .u64 (u3 : Nat)] 40)).cell? ⟨wr.heap.size, 0, none⟩ = some (.int .i64 u0) := (Rows8.new wr _ _).cell 0
                      have s1 : (wr.alloc (.cells #[.int .i64 u0, .int .i64 u1, .int .i64 u2, .int .u64 (u3 : Nat)] 40)).cell? ⟨wr.heap.size, 1, none⟩ = some (.int .i64 u1) := (Rows8.new wr _ _).cell 1
                      have s2 : (wr.alloc (.cells #[.int .i64 u0, .int .i64 u1, .int .i64 u2, .int .u64 (u3 : Nat)] 40)).cell? ⟨wr.heap.size, 2, none⟩ = some (.int .i64 u2) := (Rows8.new wr _ _).cell 2
                      have s3 : (wr.alloc (.cells #[.int .i64 u0, .int .i64 u1, .int .i64 u2, .int .u64 (u3 : Nat)] 40)).cell? ⟨wr.heap.size, 3, none⟩ = some (.int .u64 (u3 : Nat)) := (Rows8.new wr _ _).cell 3
                      have r0 := (hal.cell (p := ⟨b2, o2 + k3 * 4, none⟩) hb2).trans q0
                      have r1 := (hal.cell (p := ⟨b2, o2 + k3 * 4 + 1, none⟩) hb2).trans q1
                      have r2 := (hal.cell (p := ⟨b2, o2 + k3 * 4 + 2, none⟩) hb2).trans q2
                      have r3 := (hal.cell (p := ⟨b2, o2 + k3 * 4 + 3, none⟩) hb2).trans q3
                      clear hal hS q0 q1 q2 q3 hb2
                      go_upto_region 18 with fail
                      generalize hW9 : (wr.alloc (.cells #[.int .i64 u0, .int .i64 u1, .int .i64 u2, .int .u64 (u3 : Nat)] 40)) = W9 at *
                      clear hW9 p0 p1 p2 p3
                      by_cases huv : u0 = v0 ∧ u1 = v1 ∧ u2 = v2 ∧ u3 = v3
                      · obtain ⟨rfl, rfl, rfl, rfl⟩ := huv
                        have HN2 := Lib.hid (HNX.out rfl)
                        have d0 : (u0 == u0) = true := by simp
                        have d1 : (u1 == u1) = true := by simp
                        have d2 : (u2 == u2) = true := by simp
                        have d3 : (((u3 : Nat) : Int) == ((u3 : Nat) : Int)) = true := by simp
                        clear HNX HNQ
                        go_quiet (fail)
                        go_wp2_with fail
                        exact ⟨⟨k3 + 1, by omega, by go_num, HN2, Lib.hid (HS2.out.drewN _)⟩, by simp [intOf]; omega⟩
                      · have HF2 := Lib.hid (HNQ.out (fun h => huv (by injection h with h0 h1 h2 h3; exact ⟨h0, h1, h2, h3⟩)))
                        have hne : u0 ≠ v0 ∨ (u0 = v0 ∧ u1 ≠ v1) ∨ (u0 = v0 ∧ u1 = v1 ∧ u2 ≠ v2) ∨ (u0 = v0 ∧ u1 = v1 ∧ u2 = v2 ∧ u3 ≠ v3) := by
                          by_cases h0 : u0 = v0
                          · by_cases h1 : u1 = v1
                            · by_cases h2 : u2 = v2
                              · exact .inr (.inr (.inr ⟨h0, h1, h2, fun h3 => huv ⟨h0, h1, h2, h3⟩⟩))
                              · exact .inr (.inr (.inl ⟨h0, h1, h2⟩))
                            · exact .inr (.inl ⟨h0, h1⟩)
                          · exact .inl h0
                        clear HNX HNQ huv
                        rcases hne with h | ⟨rfl, h⟩ | ⟨rfl, rfl, h⟩ | ⟨rfl, rfl, rfl, h⟩
                        · have d0 : (u0 == v0) = false := by simp [h]
                          go_quiet (fail)
                          go_wp2_with fail
                          go_ret
                          exact ⟨by rw [HF2.out]; rfl, below_drewN HS2.out.bl _⟩
                        · have d0 : (u0 == u0) = true := by simp
                          have d1 : (u1 == v1) = false := by simp [h]
                          go_quiet (fail)
                          go_wp2_with fail
                          go_ret
                          exact ⟨by rw [HF2.out]; rfl, below_drewN HS2.out.bl _⟩
                        · have d0 : (u0 == u0) = true := by simp
                          have d1 : (u1 == u1) = true := by simp
                          have d2 : (u2 == v2) = false := by simp [h]
                          go_quiet (fail)
                          go_wp2_with fail
                          go_ret
                          exact ⟨by rw [HF2.out]; rfl, below_drewN HS2.out.bl _⟩
                        · have d0 : (u0 == u0) = true := by simp
                          have d1 : (u1 == u1) = true := by simp
                          have d2 : (u2 == u2) = true := by simp
                          have d3 : (((u3 : Nat) : Int) == ((v3 : Nat) : Int)) = false := by simp; omega
                          go_quiet (fail)
                          go_wp2_with fail
                          go_ret
                          exact ⟨by rw [HF2.out]; rfl, below_drewN HS2.out.bl _⟩
                    · obtain rfl : bn = k3 := by omega
                      have hki : ¬ (bn : Int) < (bn : Int) := by omega
                      have HBE := take_allA ht.out LB.out MB.out
                      have HT2 := Lib.hid (HTR.out HSL.out HPE.out HHE.out HBE)
                      clear ht HBE
                      go_wp2_with fail
                      go_ret
                      exact ⟨by rw [HT2.out]; rfl, hS.out.bl⟩
        · have db : ((bn : Int) != (dn : Int)) = true := by simp; omega
          have HF2 := Lib.hid (HF.out (fun h => hb (by rw [LB.out, MB.out, h])))
          go_wp2_with fail
          go_ret
          exact ⟨by rw [HF2.out]; rfl, HS1.out.bl⟩
      · have dh : ((hn : Int) != (i_n : Int)) = true := by simp; omega
        have HF2 := Lib.hid (HF.out (fun h => hh (by rw [LH.out, MH.out, h])))
        go_wp2_with fail
        go_ret
        exact ⟨by rw [HF2.out]; rfl, HS1.out.bl⟩
    · have dp : ((pn : Int) != (qn : Int)) = true := by simp; omega
      have HF2 := Lib.hid (HF.out (fun h => hp (by rw [LP.out, MP.out, h])))
      go_wp2_with fail
      go_ret
      exact ⟨by rw [HF2.out]; rfl, HS1.out.bl⟩
  · have hds : decide (a.sl = b.sl) = false := decide_eq_false hsl
    have HF2 := Lib.hid (HF.out (fun h => hsl (by rw [h])))
    rw [hds]
    clear hsl hds
    go_wp2_with fail
    go_ret
    exact ⟨by rw [HF2.out]; rfl, HS1.out.bl⟩
end Go.Proofs

/- A region that draws its order, by facts: what each operation brings is kept by all that come behind it; one obligation for each operation, whatever the order. -/
namespace Go.Proofs
set_option maxRecDepth 100000
open Go.RowKit Go.Shelf
section
variable {P : Program} {ops : Array Oper} {Q : Exit → Act → World → Prop} {md : Region.Mode}

def upd (v : Nat → Value) (i : Nat) (x : Value) : Nat → Value := fun j => if j = i then x else v j
theorem upd_self (v : Nat → Value) (i : Nat) (x : Value) : upd v i x i = x := if_pos rfl
theorem upd_ne {v : Nat → Value} {i j : Nat} {x : Value} (h : j ≠ i) : upd v i x j = v j := if_neg h
/-- All of C are done, and of A those that b tells. -/
def lstOf (n : Nat) (C A b : Nat → Bool) : Array Bool := ((List.range n).map fun j => C j || (A j && b j)).toArray
def leftOf (n : Nat) (C A b : Nat → Bool) : Nat := (List.range n).countP fun j => !(C j || (A j && b j))
/-- C is a beginning of the region, A may be done ahead of its end, and all others wait for all of C. -/
def phaseOk (md : Region.Mode) (ops : Array Oper) (C A : Nat → Bool) : Bool :=
  (List.range ops.size).all fun j => match ops[j]? with
    | none => true
    | some o => (!C j || (A j && o.after.all fun e => !Region.binds md e || (C e.on && decide (e.on < j)))) && (A j || (List.range ops.size).all fun c => !C c || waitsFor md o c)
theorem lst_agree {n : Nat} {C A b b' : Nat → Bool} (h : ∀ j, j < n → C j = false → A j = true → b j = b' j) : leftOf n C A b = leftOf n C A b' ∧ lstOf n C A b = lstOf n C A b' := by
  have key : ∀ j, j < n → (C j || (A j && b j)) = (C j || (A j && b' j)) := fun j hj => by
    cases hc : C j with
    | true => rfl
    | false =>
      cases ha : A j with
      | false => rfl
      | true => rw [h j hj hc ha]
  refine ⟨List.countP_congr fun j hj => by rw [key j (List.mem_range.1 hj)], ?_⟩
  unfold lstOf
  rw [List.map_congr_left fun j hj => key j (List.mem_range.1 hj)]
theorem countP_one {p q : Nat → Bool} {i : Nat} : ∀ (l : List Nat), l.Nodup → i ∈ l → p i = true → q i = false → (∀ j ∈ l, j ≠ i → q j = p j) → l.countP p = l.countP q + 1
  | [], _, h, _, _, _ => by cases h
  | a :: l, hn, hi, hp, hq, hj => by
    rw [List.nodup_cons] at hn
    by_cases e : a = i
    · subst e
      have h1 : l.countP p = l.countP q := List.countP_congr fun j hjl => by rw [hj j (List.mem_cons_of_mem _ hjl) (fun e => hn.1 (e ▸ hjl))]
      rw [List.countP_cons_of_pos hp, List.countP_cons_of_neg (by rw [hq]; decide), h1]
    · have h1 := countP_one l hn.2 ((List.mem_cons.1 hi).resolve_left (fun h => e h.symm)) hp hq (fun j hjl h => hj j (List.mem_cons_of_mem _ hjl) h)
      have h2 := hj a (List.mem_cons_self ..) e
      rw [List.countP_cons, List.countP_cons, h1, h2]
      omega
theorem getD_lt {l : Array Bool} {j : Nat} (h : l.getD j false = true) : j < l.size := by
  rcases Nat.lt_or_ge j l.size with h' | h'
  · exact h'
  · simp [Array.getElem?_eq_none h'] at h
theorem getD_tf {l : Array Bool} {j : Nat} (h : j < l.size) (d e : Bool) : l.getD j d = l.getD j e := by simp [h]
theorem phase_spec {C A : Nat → Bool} (h : phaseOk md ops C A = true) {j : Nat} {o : Oper} (ho : ops[j]? = some o) :
    (C j = true → A j = true ∧ ∀ e ∈ o.after, Region.binds md e = true → C e.on = true ∧ e.on < j) ∧ (A j = false → ∀ c, c < ops.size → C c = true → waitsFor md o c = true) := by
  have hlt : j < ops.size := (Array.getElem?_eq_some_iff.1 ho).1
  have h1 := List.all_eq_true.1 h j (List.mem_range.2 hlt)
  rw [ho] at h1
  simp only [Bool.and_eq_true, Bool.or_eq_true, Bool.not_eq_true', Array.all_eq_true_iff_forall_mem, List.all_eq_true, List.mem_range, decide_eq_true_eq] at h1
  refine ⟨fun hc => ?_, fun ha c hcl hc => ?_⟩
  · rcases h1.1 with h2 | h2
    · rw [hc] at h2; cases h2
    · exact ⟨h2.1, fun e he hb => (h2.2 e he).resolve_left (by rw [hb]; decide)⟩
  · rcases h1.2 with h2 | h2
    · rw [ha] at h2; cases h2
    · exact (h2 c hcl).resolve_left (by rw [hc]; decide)
theorem wpAny_facts (fr : (Nat → Value) → Act) (F : Nat → Value → World → Prop) (R : World → World → Prop) (Bs : World → Prop) (C A : Nat → Bool)
    (hst : ∀ j v w w', F j v w → R w w' → F j v w') (hbs : ∀ w w', Bs w → R w w' → Bs w') (hok : phaseOk md ops C A = true)
    (hstep : ∀ j o, A j = true → ops[j]? = some o → ∀ v w, Bs w → (∀ e ∈ o.after, Region.binds md e = true → F e.on (v e.on) w) → ∀ K : Act → World → Prop, Hid (∀ x w', R w w' → F j x w' → K (fr (upd v j x)) w') →
      ∀ a, a = fr v → if Region.wanted o (yielded ops a.tmps) = true then Oper.wp P o a w K Q else K (a.put o.dst undef) w)
    (hfin : ∀ (b : Nat → Bool) v w, Bs w → (∀ j, j < ops.size → C j = true → F j (v j) w) → (∀ j, j < ops.size → A j = true → b j = true → F j (v j) w) → wpAny P md ops Q (leftOf ops.size C A b) (lstOf ops.size C A b) (fr v) w) :
    ∀ (n : Nat) (listed : Array Bool) (v : Nat → Value) (w : World), listed.size = ops.size → (∀ j, listed.getD j false = true → A j = true) → Bs w → (∀ j, listed.getD j false = true → F j (v j) w) →
      n = (List.range ops.size).countP (fun j => !listed.getD j false) → wpAny P md ops Q n listed (fr v) w := by
  intro n
  induction n with
  | zero =>
    intro listed v w hs hA hB hF hn
    have hall : ∀ j, j < ops.size → listed.getD j false = true := fun j hj => by
      have h := (List.countP_eq_zero.1 hn.symm) j (List.mem_range.2 hj)
      simpa using h
    have e1 : listed = lstOf ops.size C A (fun j => listed.getD j false) := by
      apply Array.ext
      · simp [lstOf, hs]
      · intro j h1 h2
        have h3 : j < ops.size := by omega
        have h4 := hall j h3
        have h5 := hA j h4
        simp only [lstOf, List.getElem_toArray, List.getElem_map, List.getElem_range, h4, h5, Bool.and_true, Bool.or_true]
        simpa [h1] using h4
    have e2 : leftOf ops.size C A (fun j => listed.getD j false) = 0 := List.countP_eq_zero.2 fun j hj => by
      have h3 := List.mem_range.1 hj
      show ¬ (!(C j || A j && listed.getD j false)) = true
      rw [hall j h3, hA j (hall j h3)]
      simp
    have h := hfin (fun j => listed.getD j false) v w hB (fun j hj _ => hF j (hall j hj)) (fun j hj _ _ => hF j (hall j hj))
    rw [e2, ← e1] at h
    exact h
  | succ m ih =>
    intro listed v w hs hA hB hF hn
    by_cases hC : ∀ j, j < ops.size → C j = true → listed.getD j false = true
    · have key : ∀ j, j < ops.size → (C j || (A j && listed.getD j false)) = listed.getD j false := fun j hj => by
        cases hl : listed.getD j false with
        | true => rw [hA j hl]; simp
        | false =>
          cases hc : C j with
          | true => rw [hC j hj hc] at hl; cases hl
          | false => simp
      have e1 : listed = lstOf ops.size C A (fun j => listed.getD j false) := by
        apply Array.ext
        · simp [lstOf, hs]
        · intro j h1 h2
          simp only [lstOf, List.getElem_toArray, List.getElem_map, List.getElem_range]
          rw [key j (by omega)]
          simp [h1]
      have e2 : leftOf ops.size C A (fun j => listed.getD j false) = m + 1 := by
        rw [hn]
        unfold leftOf
        exact List.countP_congr fun j hj => by rw [key j (List.mem_range.1 hj)]
      have h := hfin (fun j => listed.getD j false) v w hB (fun j hj hc => hF j (hC j hj hc)) (fun j _ _ hb => hF j hb)
      rw [e2, ← e1] at h
      exact h
    · have hex : ∃ c, c < ops.size ∧ C c = true ∧ listed.getD c false = false ∧ ∀ d, d < c → C d = true → listed.getD d false = true := by
        have h1 : ∃ c, c < ops.size ∧ C c = true ∧ listed.getD c false = false := Classical.byContradiction fun hno => hC fun j hj hc => by
          cases hl : listed.getD j false with
          | true => rfl
          | false => exact absurd ⟨j, hj, hc, hl⟩ hno
        obtain ⟨c, h2⟩ := h1
        induction c using Nat.strongRecOn with
        | _ c ihc =>
          by_cases hd : ∃ d, d < c ∧ C d = true ∧ listed.getD d false = false
          · obtain ⟨d, hd1, hd2, hd3⟩ := hd
            exact ihc d hd1 ⟨by omega, hd2, hd3⟩
          · refine ⟨c, h2.1, h2.2.1, h2.2.2, fun d hd1 hd2 => ?_⟩
            cases hl : listed.getD d false with
            | true => rfl
            | false => exact absurd ⟨d, hd1, hd2, hl⟩ hd
      obtain ⟨c, hcl, hcc, hcu, hcm⟩ := hex
      have hoc : ∃ o, ops[c]? = some o := ⟨ops[c], Array.getElem?_eq_getElem hcl⟩
      obtain ⟨oc, hoc⟩ := hoc
      have hrc : c ∈ Region.ready md ops listed := mem_ready.2 ⟨by rw [getD_tf (by omega) true false]; exact hcu, oc, hoc, fun e he hb => by
        have h3 := ((phase_spec hok hoc).1 hcc).2 e he hb
        exact hcm e.on h3.2 h3.1⟩
      refine ⟨fun h0 => (by rw [h0] at hrc; cases hrc), fun i hi => ?_⟩
      obtain ⟨hun, o, ho, hdep⟩ := mem_ready.1 hi
      have hil : i < ops.size := (Array.getElem?_eq_some_iff.1 ho).1
      have hun' : listed.getD i false = false := by rw [getD_tf (by omega) false true]; exact hun
      have hAi : A i = true := by
        cases ha : A i with
        | true => rfl
        | false =>
          have h4 := (phase_spec hok ho).2 ha c hcl hcc
          obtain ⟨e, he, hb⟩ := Array.any_eq_true'.1 h4
          simp only [Bool.and_eq_true, beq_iff_eq] at hb
          have h5 := hdep e he hb.1
          rw [hb.2, hcu] at h5
          cases h5
      refine wpOp_step ho (fun K' hK => hstep i o hAi ho v w hB (fun e he hb => hF e.on (hdep e he hb)) K' (Lib.hid fun x w' hR hFi => hK _ _ ?_) _ rfl)
      have hget : ∀ j, (listed.setIfInBounds i true).getD j false = true → j = i ∨ (j ≠ i ∧ listed.getD j false = true) := fun j h => by
        by_cases e : i = j
        · exact .inl e.symm
        · rw [getD_set_ne false e] at h
          exact .inr ⟨fun h => e h.symm, h⟩
      refine ih (listed.setIfInBounds i true) (upd v i x) w' (by simpa using hs) (fun j hj => ?_) (hbs _ _ hB hR) (fun j hj => ?_) ?_
      · rcases hget j hj with rfl | ⟨_, h⟩
        · exact hAi
        · exact hA j h
      · rcases hget j hj with rfl | ⟨hne, h⟩
        · rw [upd_self]; exact hFi
        · rw [upd_ne hne]; exact hst _ _ _ _ (hF j h) hR
      · have h6 := countP_one (p := fun j => !listed.getD j false) (q := fun j => !(listed.setIfInBounds i true).getD j false) (i := i) (List.range ops.size) List.nodup_range (List.mem_range.2 hil) (by show (!listed.getD i false) = true; rw [hun']; rfl)
          (by show (!(listed.setIfInBounds i true).getD i false) = false; simp [hs, hil]) (fun j _ hne => by show (!(listed.setIfInBounds i true).getD j false) = (!listed.getD j false); rw [getD_set_ne false (fun e => hne e.symm)])
        omega
theorem wp_region_facts (fr : (Nat → Value) → Act) (F : Nat → Value → World → Prop) (R : World → World → Prop) (Bs : World → Prop) (C A : Nat → Bool) (v : Nat → Value) {id : Nat} {w : World}
    (hm : P.follows .mixedOrders = true) (hB : Bs w.drew)
    (hst : ∀ j v w w', F j v w → R w w' → F j v w') (hbs : ∀ w w', Bs w → R w w' → Bs w') (hok : phaseOk .any ops C A = true)
    (hstep : ∀ j o, A j = true → ops[j]? = some o → ∀ v w, Bs w → (∀ e ∈ o.after, Region.binds .any e = true → F e.on (v e.on) w) → ∀ K : Act → World → Prop, Hid (∀ x w', R w w' → F j x w' → K (fr (upd v j x)) w') →
      ∀ a, a = fr v → if Region.wanted o (yielded ops a.tmps) = true then Oper.wp P o a w K Q else K (a.put o.dst undef) w)
    (hfin : ∀ (b : Nat → Bool) v w, Bs w → (∀ j, j < ops.size → C j = true → F j (v j) w) → (∀ j, j < ops.size → A j = true → b j = true → F j (v j) w) → wpAny P .any ops Q (leftOf ops.size C A b) (lstOf ops.size C A b) (fr v) w) :
    (Code.region id ops true).wp P Q (fr v) w :=
  wp_region_any hm (wpAny_facts fr F R Bs C A hst hbs hok hstep hfin ops.size (Array.replicate ops.size false) v w.drew (by simp)
    (fun j h => by have h2 := getD_lt h; simp at h2; simp [h2] at h) hB (fun j h => by have h2 := getD_lt h; simp at h2; simp [h2] at h) (by
      have h : (List.range ops.size).countP (fun j => !(Array.replicate ops.size false).getD j false) = (List.range ops.size).length := List.countP_eq_length.2 fun j hj => by
        have h3 := List.mem_range.1 hj
        simp [h3]
      rw [h, List.length_range]))
end
end Go.Proofs

/- Monitor: wakes. -/
namespace Go.Proofs
set_option maxRecDepth 100000
open Go.RowKit Go.Shelf
attribute [local go_sem] Oper.semAt_some

def wk0 : Mn := ⟨[(0, 0), (0, 0)], [false, false], [[], []], []⟩
def wk1 : Mn := ⟨[(1, 0), (0, 0)], [true, true], [[(0, 0)], [(0, 0)]], []⟩
def wk2 : Mn := ⟨[(1, 1), (0, 0)], [true, true], [[(0, 0), (0, 1)], [(0, 0)]], [⟨4, 1, 0, 0⟩]⟩
def wk3 : Mn := ⟨[(2, 0), (0, 0)], [true, true], [[(0, 0)], [(0, 0)]], []⟩
def wk4 : Mn := ⟨[(1, 1), (0, 0)], [true, false], [[(0, 0), (0, 1)], []], [⟨4, 1, 0, 0⟩]⟩
def wkL1 : List Wt := [⟨1, 0, 0, 0⟩, ⟨6, 0, 0, 0⟩, ⟨1, 1, 0, 0⟩, ⟨3, 1, 0, 0⟩]
def wkL2 : List Wt := [⟨7, 0, 0, 0⟩, ⟨8, 0, 0, 0⟩, ⟨6, 0, 0, 0⟩, ⟨4, 1, 0, 0⟩]
theorem wk_new : newM 2 2 = (0, wk0) := by decide +kernel
theorem wk_run1 : triM wk0 wkL1 = (0, wk1, [(0, 0)]) := by decide +kernel
theorem wk_run2 : triM wk1 wkL2 = (0, wk2, [(0, 1)]) := by decide +kernel
theorem wk_do3 : triM wk1 [⟨7, 0, 0, 0⟩] = (0, wk3, []) := by decide +kernel
theorem wk_do4 : triM wk2 [⟨2, 1, 0, 0⟩] = (0, wk4, []) := by decide +kernel
theorem wk_do5 : triM wk4 [⟨2, 1, 0, 0⟩] = (4, noM, []) := by decide +kernel
theorem okC_of {m : Mn} (h : (m.has.all fun l => l.all fun e => decide ((-9223372036854775808 ≤ e.1 ∧ e.1 ≤ 9223372036854775807) ∧ e.2 < 18446744073709551616)) && (decide (m.sl.length ≤ 1000 ∧ m.pin.length ≤ 1000 ∧ m.has.length ≤ 1000 ∧ m.bad.length ≤ 1000) && m.has.all fun l => decide (l.length ≤ 10)) = true) : okM m ∧ ∀ l ∈ m.has, l.length ≤ 10 := by
  simp only [Bool.and_eq_true, List.all_eq_true, decide_eq_true_eq] at h
  exact ⟨⟨fun l hl e he => h.1 l hl e he, h.2.1.1, h.2.1.2.1, h.2.1.2.2.1, h.2.1.2.2.2, fun l hl => by have := h.2.2 l hl; omega⟩, h.2.2⟩
theorem wk0_ok : okM wk0 ∧ ∀ l ∈ wk0.has, l.length ≤ 10 := okC_of (by decide +kernel)
theorem wk1_ok : okM wk1 ∧ ∀ l ∈ wk1.has, l.length ≤ 10 := okC_of (by decide +kernel)
theorem wk2_ok : okM wk2 ∧ ∀ l ∈ wk2.has, l.length ≤ 10 := okC_of (by decide +kernel)
theorem wk4_ok : okM wk4 ∧ ∀ l ∈ wk4.has, l.length ≤ 10 := okC_of (by decide +kernel)
/-- A row of four watches that is written out. -/
theorem lit_at4 (W : World) (a b c d : Wt) : WAt (W.alloc (.cells #[.int .i64 a.kind, .int .i64 a.goer, .int .i64 a.slab, .int .u64 (a.gen : Nat), .int .i64 b.kind, .int .i64 b.goer, .int .i64 b.slab, .int .u64 (b.gen : Nat), .int .i64 c.kind, .int .i64 c.goer, .int .i64 c.slab, .int .u64 (c.gen : Nat), .int .i64 d.kind, .int .i64 d.goer, .int .i64 d.slab, .int .u64 (d.gen : Nat)] 40)) (.slice (some ⟨W.heap.size, 0, none⟩) 4 4) [a, b, c, d] := by
  refine ⟨rfl, _, 4, rfl, Nat.le_refl _, by unfold maxLen; omega, (fun e => by cases e), fun j hj => ⟨W.heap.size, 0, rfl, by simp, ?_⟩⟩
  rw [Nat.zero_add, Rows8.cell (Rows8.new W _ _) j]
  simp [wVals, wCells]
/-- What lies there ahead of the region, and all along it. -/
structure WkB (w : World) (B3 : Nat) (y1 : Mv) (vs1 : List Value) (ta : Option Addr) (tc : Nat) (W : World) : Prop where
  r1 : Rows8 W w.heap.size 38 #[.int .i64 0, .int .u64 0]
  r2 : Rows8 W (w.heap.size + 1) 38 #[.int .i64 0, .int .u64 0]
  r3 : Rows8 W B3 29 #[.slice y1.sa y1.sn y1.sc, .slice y1.pa y1.pn y1.pc, .slice y1.ha y1.hn y1.hc, .slice y1.ba y1.bn y1.bc]
  o : OwnMon w.heap.size y1 wk1 vs1 W
  t : OwnsP 38 w.heap.size [(0, 0)] (.slice ta 1 tc) W
  bl : Below w.heap.size w W
theorem WkB.below {w : World} {B3 : Nat} {y1 : Mv} {vs1 : List Value} {ta : Option Addr} {tc : Nat} {A B : World} (h : WkB w B3 y1 vs1 ta tc A) (hB : Below A.heap.size A B) : WkB w B3 y1 vs1 ta tc B :=
  ⟨h.r1.below hB h.r1.lt, h.r2.below hB h.r2.lt, h.r3.below hB h.r3.lt, h.o.below hB (Nat.le_refl _), OwnsP.below h.t hB (Nat.le_refl _), h.bl.trans (hB.mono h.bl.size)⟩
theorem WkB.drew {w : World} {B3 : Nat} {y1 : Mv} {vs1 : List Value} {ta : Option Addr} {tc : Nat} {A : World} (h : WkB w B3 y1 vs1 ta tc A) : WkB w B3 y1 vs1 ta tc A.drew :=
  ⟨h.r1.drewA, h.r2.drewA, h.r3.drewA, h.o.drew, h.t, h.bl.drew⟩
/-- What the operations of region 4 bring. -/
def wkF4 (k0 B3 : Nat) (y1 : Mv) (j : Nat) (x : Value) (W : World) : Prop :=
  match j with
  | 0 => x = .agg #[.slice y1.sa y1.sn y1.sc, .slice y1.pa y1.pn y1.pc, .slice y1.ha y1.hn y1.hc, .slice y1.ba y1.bn y1.bc]
  | 1 => x = .agg #[.int .i64 0, .int .u64 0]
  | 2 => x = .agg #[.int .i64 7, .int .i64 0, .int .i64 0, .int .u64 0]
  | 3 => x = .agg #[.int .i64 0, .int .u64 0]
  | 4 => x = .agg #[.int .i64 8, .int .i64 0, .int .i64 0, .int .u64 0]
  | 5 => x = .agg #[.int .i64 0, .int .u64 0]
  | 6 => x = .agg #[.int .i64 6, .int .i64 0, .int .i64 0, .int .u64 0]
  | 7 => x = .agg #[.int .i64 0, .int .u64 0]
  | 8 => x = .agg #[.int .i64 4, .int .i64 1, .int .i64 0, .int .u64 0]
  | 9 => ∃ b, x = .slice (some ⟨b, 0, none⟩) 4 4 ∧ WAt W x wkL2
  | 10 => ∃ (y2 : Mv) (vs2 : List Value) (tb : Option Addr) (tc2 : Nat), x = .tuple #[.agg #[.slice y2.sa y2.sn y2.sc, .slice y2.pa y2.pn y2.pc, .slice y2.ha y2.hn y2.hc, .slice y2.ba y2.bn y2.bc], .slice tb 1 tc2, .int .i64 0] ∧ OwnMon k0 y2 wk2 vs2 W ∧ OwnsP 38 k0 [(0, 1)] (.slice tb 1 tc2) W
  | 11 => ∃ (y2 : Mv) (vs2 : List Value) (tb : Option Addr) (tc2 : Nat), x = .tuple #[.agg #[.slice y2.sa y2.sn y2.sc, .slice y2.pa y2.pn y2.pc, .slice y2.ha y2.hn y2.hc, .slice y2.ba y2.bn y2.bc], .slice tb 1 tc2, .int .i64 0] ∧ OwnMon k0 y2 wk2 vs2 W ∧ OwnsP 38 k0 [(0, 1)] (.slice tb 1 tc2) W
  | 12 => ∃ (y2 : Mv) (vs2 : List Value), x = .agg #[.slice y2.sa y2.sn y2.sc, .slice y2.pa y2.pn y2.pc, .slice y2.ha y2.hn y2.hc, .slice y2.ba y2.bn y2.bc] ∧ OwnMon k0 y2 wk2 vs2 W
  | 13 => ∃ (tb : Option Addr) (tc2 : Nat), x = .slice tb 1 tc2 ∧ OwnsP 38 k0 [(0, 1)] (.slice tb 1 tc2) W
  | 14 => x = .int .i64 0
  | 15 => ∃ b, x = .pointer (some ⟨b, 0, none⟩) ∧ B3 < b ∧ Rows8 W b 29 #[.slice none 0 0, .slice none 0 0, .slice none 0 0, .slice none 0 0]
  | _ => True
theorem wkF4_st {k0 B3 : Nat} {y1 : Mv} {j : Nat} {x : Value} {W W' : World} (h : wkF4 k0 B3 y1 j x W) (hR : Below W.heap.size W W') : wkF4 k0 B3 y1 j x W' :=
  match j, h with
  | 0, h => h
  | 1, h => h
  | 2, h => h
  | 3, h => h
  | 4, h => h
  | 5, h => h
  | 6, h => h
  | 7, h => h
  | 8, h => h
  | 9, ⟨b, e, h⟩ => ⟨b, e, WAt.below h hR⟩
  | 10, ⟨y2, vs2, tb, tc2, e, h1, h2⟩ => ⟨y2, vs2, tb, tc2, e, h1.below hR (Nat.le_refl _), OwnsP.below h2 hR (Nat.le_refl _)⟩
  | 11, ⟨y2, vs2, tb, tc2, e, h1, h2⟩ => ⟨y2, vs2, tb, tc2, e, h1.below hR (Nat.le_refl _), OwnsP.below h2 hR (Nat.le_refl _)⟩
  | 12, ⟨y2, vs2, e, h1⟩ => ⟨y2, vs2, e, h1.below hR (Nat.le_refl _)⟩
  | 13, ⟨tb, tc2, e, h2⟩ => ⟨tb, tc2, e, OwnsP.below h2 hR (Nat.le_refl _)⟩
  | 14, h => h
  | 15, ⟨b, e, h3, h⟩ => ⟨b, e, h3, h.below hR h.lt⟩
  | _ + 16, _ => trivial
set_option maxHeartbeats 64000000 in
theorem Try.wk_r4 (w v4 W3 : World) (B3 : Nat) (y y1 : Mv) (vs1 : List Value) (ta : Option Addr) (tc : Nat) (Q : Exit → Act → World → Prop)
    (HWA : ∀ (k g : Int) (W : World), Hid (Calls Try.prog 26 #[.int .i64 k, .int .i64 g, .agg #[.int .i64 0, .int .u64 0]] W fun e w' => e = .returned (.agg #[.int .i64 k, .int .i64 g, .int .i64 0, .int .u64 ((0 : Nat) : Int)]) ∧ Below W.heap.size W w'))
    (H31 : Hid (w.heap.size + 1 < B3)) (HBS : Hid (WkB w B3 y1 vs1 ta tc W3))
    (hQp : ∀ c d v a w, Q (.panic c) (Act.put a d v) w → Q (.panic c) a w)
    (HK : Hid (∀ (B7 : Nat) (y2 : Mv) (vs2 : List Value) (tb : Option Addr) (tc2 : Nat) (z : Nat → Value) (W : World), B3 < B7 → WkB w B3 y1 vs1 ta tc W → Rows8 W B7 29 #[.slice y2.sa y2.sn y2.sc, .slice y2.pa y2.pn y2.pc, .slice y2.ha y2.hn y2.hc, .slice y2.ba y2.bn y2.bc] → OwnMon w.heap.size y2 wk2 vs2 W → OwnsP 38 w.heap.size [(0, 1)] (.slice tb 1 tc2) W → Q .normal ⟨(.bool false :: .pointer (some ⟨w.heap.size, 0, none⟩) :: .pointer (some ⟨w.heap.size + 1, 0, none⟩) :: .pointer (some ⟨B3, 0, none⟩) :: .int .i64 0 :: .slice ta 1 tc :: .int .i64 0 :: .pointer (some ⟨B7, 0, none⟩) :: .slice tb 1 tc2 :: .int .i64 0 :: undef :: undef :: undef :: undef :: undef :: undef :: undef :: undef :: undef :: .agg #[.int .i64 0, .int .u64 0] :: .agg #[.int .i64 0, .int .u64 0] :: .tuple #[.agg #[.slice y.sa y.sn y.sc, .slice y.pa y.pn y.pc, .slice y.ha y.hn y.hc, .slice y.ba y.bn y.bc], .int .i64 0] :: .tuple #[.agg #[.slice y.sa y.sn y.sc, .slice y.pa y.pn y.pc, .slice y.ha y.hn y.hc, .slice y.ba y.bn y.bc], .int .i64 0] :: .agg #[.slice y.sa y.sn y.sc, .slice y.pa y.pn y.pc, .slice y.ha y.hn y.hc, .slice y.ba y.bn y.bc] :: .int .i64 0 :: .tuple #[.agg #[.slice y1.sa y1.sn y1.sc, .slice y1.pa y1.pn y1.pc, .slice y1.ha y1.hn y1.hc, .slice y1.ba y1.bn y1.bc], .slice ta 1 tc, .int .i64 0] :: .agg #[.slice y.sa y.sn y.sc, .slice y.pa y.pn y.pc, .slice y.ha y.hn y.hc, .slice y.ba y.bn y.bc] :: .agg #[.int .i64 0, .int .u64 0] :: .agg #[.int .i64 1, .int .i64 0, .int .i64 0, .int .u64 0] :: .agg #[.int .i64 0, .int .u64 0] :: .agg #[.int .i64 6, .int .i64 0, .int .i64 0, .int .u64 0] :: .agg #[.int .i64 0, .int .u64 0] :: .agg #[.int .i64 1, .int .i64 1, .int .i64 0, .int .u64 0] :: .agg #[.int .i64 0, .int .u64 0] :: .agg #[.int .i64 3, .int .i64 1, .int .i64 0, .int .u64 0] :: .slice (some ⟨v4.heap.size, 0, none⟩) 4 4 :: .tuple #[.agg #[.slice y1.sa y1.sn y1.sc, .slice y1.pa y1.pn y1.pc, .slice y1.ha y1.hn y1.hc, .slice y1.ba y1.bn y1.bc], .slice ta 1 tc, .int .i64 0] :: .agg #[.slice y1.sa y1.sn y1.sc, .slice y1.pa y1.pn y1.pc, .slice y1.ha y1.hn y1.hc, .slice y1.ba y1.bn y1.bc] :: .slice ta 1 tc :: .int .i64 0 :: z 11 :: z 0 :: z 1 :: z 2 :: z 3 :: z 4 :: z 5 :: z 6 :: z 7 :: z 8 :: z 9 :: z 10 :: z 12 :: z 13 :: z 14 :: undef :: undef :: undef :: undef :: undef :: undef :: undef :: undef :: undef :: undef :: undef :: undef :: undef :: undef :: undef :: undef :: undef :: undef :: undef :: undef :: undef :: undef :: undef :: undef :: undef :: undef :: undef :: undef :: undef :: undef :: undef :: undef :: undef :: undef :: undef :: undef :: undef :: undef :: undef :: undef :: undef :: undef :: undef :: undef :: undef :: undef :: undef :: undef :: undef :: undef :: undef :: undef :: undef :: undef :: undef :: undef :: undef :: undef :: undef :: undef :: undef :: undef :: undef :: undef :: undef :: undef :: undef :: undef :: undef :: undef :: undef :: undef :: undef :: undef :: undef :: undef :: undef :: undef :: undef :: undef :: undef :: undef :: undef :: undef :: undef :: undef :: undef :: undef :: undef :: undef :: undef :: undef :: undef :: undef :: undef :: undef :: []).toArray, []⟩ W)) :
    (Code.region 4 #[{ dst := some 41, op := Go.Op.load 29 (Go.Operand.tmp 3), type := 29, pos := "law.go:23", after := #[], guard := none }, { dst := some 42, op := Go.Op.load 38 (Go.Operand.tmp 1), type := 38, pos := "law.go:23", after := #[], guard := none }, { dst := some 43, op := Go.Op.call { callee := Go.Callee.value (Go.Operand.func 26), args := #[Go.Operand.const (Go.Value.int Go.IntKind.i64 7), Go.Operand.const (Go.Value.int Go.IntKind.i64 0), Go.Operand.tmp 42], argTypes := #[3, 3, 38] }, type := 40, pos := "law.go:23", after := #[{ on := 1, ground := Go.Ground.data }], guard := none }, { dst := some 44, op := Go.Op.load 38 (Go.Operand.tmp 1), type := 38, pos := "law.go:23", after := #[], guard := none }, { dst := some 45, op := Go.Op.call { callee := Go.Callee.value (Go.Operand.func 26), args := #[Go.Operand.const (Go.Value.int Go.IntKind.i64 8), Go.Operand.const (Go.Value.int Go.IntKind.i64 0), Go.Operand.tmp 44], argTypes := #[3, 3, 38] }, type := 40, pos := "law.go:23", after := #[{ on := 3, ground := Go.Ground.data }, { on := 2, ground := Go.Ground.chain }], guard := none }, { dst := some 46, op := Go.Op.load 38 (Go.Operand.tmp 2), type := 38, pos := "law.go:23", after := #[], guard := none }, { dst := some 47, op := Go.Op.call { callee := Go.Callee.value (Go.Operand.func 26), args := #[Go.Operand.const (Go.Value.int Go.IntKind.i64 6), Go.Operand.const (Go.Value.int Go.IntKind.i64 0), Go.Operand.tmp 46], argTypes := #[3, 3, 38] }, type := 40, pos := "law.go:23", after := #[{ on := 5, ground := Go.Ground.data }, { on := 4, ground := Go.Ground.chain }], guard := none }, { dst := some 48, op := Go.Op.load 38 (Go.Operand.tmp 1), type := 38, pos := "law.go:23", after := #[], guard := none }, { dst := some 49, op := Go.Op.call { callee := Go.Callee.value (Go.Operand.func 26), args := #[Go.Operand.const (Go.Value.int Go.IntKind.i64 4), Go.Operand.const (Go.Value.int Go.IntKind.i64 1), Go.Operand.tmp 48], argTypes := #[3, 3, 38] }, type := 40, pos := "law.go:23", after := #[{ on := 7, ground := Go.Ground.data }, { on := 6, ground := Go.Ground.chain }], guard := none }, { dst := some 50, op := Go.Op.buildSlice 27 4 #[(0, Go.Operand.tmp 43), (1, Go.Operand.tmp 45), (2, Go.Operand.tmp 47), (3, Go.Operand.tmp 49)], type := 27, pos := "law.go:23", after := #[{ on := 2, ground := Go.Ground.data }, { on := 4, ground := Go.Ground.data }, { on := 6, ground := Go.Ground.data }, { on := 8, ground := Go.Ground.data }], guard := none }, { dst := some 51, op := Go.Op.call { callee := Go.Callee.value (Go.Operand.func 29), args := #[Go.Operand.tmp 41, Go.Operand.tmp 50], argTypes := #[29, 27] }, type := 68, pos := "law.go:23", after := #[{ on := 0, ground := Go.Ground.data }, { on := 9, ground := Go.Ground.data }, { on := 8, ground := Go.Ground.chain }], guard := none }, { dst := some 40, op := Go.Op.move (Go.Operand.tmp 51), type := 68, pos := "law.go:23", after := #[{ on := 10, ground := Go.Ground.data }], guard := none }, { dst := some 52, op := Go.Op.extract (Go.Operand.tmp 40) 0, type := 29, pos := "law.go:23", after := #[{ on := 11, ground := Go.Ground.data }], guard := none }, { dst := some 53, op := Go.Op.extract (Go.Operand.tmp 40) 1, type := 62, pos := "law.go:23", after := #[{ on := 11, ground := Go.Ground.data }, { on := 16, ground := Go.Ground.gcOnly Go.Departure.lateStores }], guard := none }, { dst := some 54, op := Go.Op.extract (Go.Operand.tmp 40) 2, type := 33, pos := "law.go:23", after := #[{ on := 11, ground := Go.Ground.data }, { on := 17, ground := Go.Ground.gcOnly Go.Departure.lateStores }], guard := none }, { dst := some 7, op := Go.Op.alloc 29, type := 0, pos := "law.go:23", after := #[], guard := none }, { dst := none, op := Go.Op.store 29 (Go.Operand.tmp 7) (Go.Operand.tmp 52), type := 0, pos := "law.go:23", after := #[{ on := 15, ground := Go.Ground.data }, { on := 12, ground := Go.Ground.data }, { on := 10, ground := Go.Ground.chain }, { on := 0, ground := Go.Ground.phase }, { on := 1, ground := Go.Ground.phase }, { on := 2, ground := Go.Ground.phase }, { on := 3, ground := Go.Ground.phase }, { on := 4, ground := Go.Ground.phase }, { on := 5, ground := Go.Ground.phase }, { on := 6, ground := Go.Ground.phase }, { on := 7, ground := Go.Ground.phase }, { on := 8, ground := Go.Ground.phase }, { on := 9, ground := Go.Ground.phase }, { on := 10, ground := Go.Ground.phase }, { on := 11, ground := Go.Ground.phase }, { on := 12, ground := Go.Ground.phase }, { on := 13, ground := Go.Ground.textOnly Go.Departure.lateStores }, { on := 14, ground := Go.Ground.textOnly Go.Departure.lateStores }, { on := 15, ground := Go.Ground.phase }], guard := none }, { dst := some 8, op := Go.Op.assign (Go.Operand.tmp 53), type := 62, pos := "law.go:23", after := #[{ on := 13, ground := Go.Ground.data }, { on := 16, ground := Go.Ground.chain }, { on := 0, ground := Go.Ground.phase }, { on := 1, ground := Go.Ground.phase }, { on := 2, ground := Go.Ground.phase }, { on := 3, ground := Go.Ground.phase }, { on := 4, ground := Go.Ground.phase }, { on := 5, ground := Go.Ground.phase }, { on := 6, ground := Go.Ground.phase }, { on := 7, ground := Go.Ground.phase }, { on := 8, ground := Go.Ground.phase }, { on := 9, ground := Go.Ground.phase }, { on := 10, ground := Go.Ground.phase }, { on := 11, ground := Go.Ground.phase }, { on := 12, ground := Go.Ground.phase }, { on := 13, ground := Go.Ground.phase }, { on := 14, ground := Go.Ground.textOnly Go.Departure.lateStores }, { on := 15, ground := Go.Ground.phase }, { on := 16, ground := Go.Ground.phase }], guard := none }, { dst := some 9, op := Go.Op.assign (Go.Operand.tmp 54), type := 33, pos := "law.go:23", after := #[{ on := 14, ground := Go.Ground.data }, { on := 17, ground := Go.Ground.chain }, { on := 0, ground := Go.Ground.phase }, { on := 1, ground := Go.Ground.phase }, { on := 2, ground := Go.Ground.phase }, { on := 3, ground := Go.Ground.phase }, { on := 4, ground := Go.Ground.phase }, { on := 5, ground := Go.Ground.phase }, { on := 6, ground := Go.Ground.phase }, { on := 7, ground := Go.Ground.phase }, { on := 8, ground := Go.Ground.phase }, { on := 9, ground := Go.Ground.phase }, { on := 10, ground := Go.Ground.phase }, { on := 11, ground := Go.Ground.phase }, { on := 12, ground := Go.Ground.phase }, { on := 13, ground := Go.Ground.phase }, { on := 14, ground := Go.Ground.phase }, { on := 15, ground := Go.Ground.phase }, { on := 16, ground := Go.Ground.phase }, { on := 17, ground := Go.Ground.phase }], guard := none }] true).wp Try.prog Q ⟨(.bool false :: .pointer (some ⟨w.heap.size, 0, none⟩) :: .pointer (some ⟨w.heap.size + 1, 0, none⟩) :: .pointer (some ⟨B3, 0, none⟩) :: .int .i64 0 :: .slice ta 1 tc :: .int .i64 0 :: undef :: undef :: undef :: undef :: undef :: undef :: undef :: undef :: undef :: undef :: undef :: undef :: .agg #[.int .i64 0, .int .u64 0] :: .agg #[.int .i64 0, .int .u64 0] :: .tuple #[.agg #[.slice y.sa y.sn y.sc, .slice y.pa y.pn y.pc, .slice y.ha y.hn y.hc, .slice y.ba y.bn y.bc], .int .i64 0] :: .tuple #[.agg #[.slice y.sa y.sn y.sc, .slice y.pa y.pn y.pc, .slice y.ha y.hn y.hc, .slice y.ba y.bn y.bc], .int .i64 0] :: .agg #[.slice y.sa y.sn y.sc, .slice y.pa y.pn y.pc, .slice y.ha y.hn y.hc, .slice y.ba y.bn y.bc] :: .int .i64 0 :: .tuple #[.agg #[.slice y1.sa y1.sn y1.sc, .slice y1.pa y1.pn y1.pc, .slice y1.ha y1.hn y1.hc, .slice y1.ba y1.bn y1.bc], .slice ta 1 tc, .int .i64 0] :: .agg #[.slice y.sa y.sn y.sc, .slice y.pa y.pn y.pc, .slice y.ha y.hn y.hc, .slice y.ba y.bn y.bc] :: .agg #[.int .i64 0, .int .u64 0] :: .agg #[.int .i64 1, .int .i64 0, .int .i64 0, .int .u64 0] :: .agg #[.int .i64 0, .int .u64 0] :: .agg #[.int .i64 6, .int .i64 0, .int .i64 0, .int .u64 0] :: .agg #[.int .i64 0, .int .u64 0] :: .agg #[.int .i64 1, .int .i64 1, .int .i64 0, .int .u64 0] :: .agg #[.int .i64 0, .int .u64 0] :: .agg #[.int .i64 3, .int .i64 1, .int .i64 0, .int .u64 0] :: .slice (some ⟨v4.heap.size, 0, none⟩) 4 4 :: .tuple #[.agg #[.slice y1.sa y1.sn y1.sc, .slice y1.pa y1.pn y1.pc, .slice y1.ha y1.hn y1.hc, .slice y1.ba y1.bn y1.bc], .slice ta 1 tc, .int .i64 0] :: .agg #[.slice y1.sa y1.sn y1.sc, .slice y1.pa y1.pn y1.pc, .slice y1.ha y1.hn y1.hc, .slice y1.ba y1.bn y1.bc] :: .slice ta 1 tc :: .int .i64 0 :: undef :: undef :: undef :: undef :: undef :: undef :: undef :: undef :: undef :: undef :: undef :: undef :: undef :: undef :: undef :: undef :: undef :: undef :: undef :: undef :: undef :: undef :: undef :: undef :: undef :: undef :: undef :: undef :: undef :: undef :: undef :: undef :: undef :: undef :: undef :: undef :: undef :: undef :: undef :: undef :: undef :: undef :: undef :: undef :: undef :: undef :: undef :: undef :: undef :: undef :: undef :: undef :: undef :: undef :: undef :: undef :: undef :: undef :: undef :: undef :: undef :: undef :: undef :: undef :: undef :: undef :: undef :: undef :: undef :: undef :: undef :: undef :: undef :: undef :: undef :: undef :: undef :: undef :: undef :: undef :: undef :: undef :: undef :: undef :: undef :: undef :: undef :: undef :: undef :: undef :: undef :: undef :: undef :: undef :: undef :: undef :: undef :: undef :: undef :: undef :: undef :: undef :: undef :: undef :: undef :: undef :: undef :: undef :: undef :: undef :: undef :: []).toArray, []⟩ W3 := by
  refine wp_region_facts (fun v => ⟨(.bool false :: .pointer (some ⟨w.heap.size, 0, none⟩) :: .pointer (some ⟨w.heap.size + 1, 0, none⟩) :: .pointer (some ⟨B3, 0, none⟩) :: .int .i64 0 :: .slice ta 1 tc :: .int .i64 0 :: v 15 :: undef :: undef :: undef :: undef :: undef :: undef :: undef :: undef :: undef :: undef :: undef :: .agg #[.int .i64 0, .int .u64 0] :: .agg #[.int .i64 0, .int .u64 0] :: .tuple #[.agg #[.slice y.sa y.sn y.sc, .slice y.pa y.pn y.pc, .slice y.ha y.hn y.hc, .slice y.ba y.bn y.bc], .int .i64 0] :: .tuple #[.agg #[.slice y.sa y.sn y.sc, .slice y.pa y.pn y.pc, .slice y.ha y.hn y.hc, .slice y.ba y.bn y.bc], .int .i64 0] :: .agg #[.slice y.sa y.sn y.sc, .slice y.pa y.pn y.pc, .slice y.ha y.hn y.hc, .slice y.ba y.bn y.bc] :: .int .i64 0 :: .tuple #[.agg #[.slice y1.sa y1.sn y1.sc, .slice y1.pa y1.pn y1.pc, .slice y1.ha y1.hn y1.hc, .slice y1.ba y1.bn y1.bc], .slice ta 1 tc, .int .i64 0] :: .agg #[.slice y.sa y.sn y.sc, .slice y.pa y.pn y.pc, .slice y.ha y.hn y.hc, .slice y.ba y.bn y.bc] :: .agg #[.int .i64 0, .int .u64 0] :: .agg #[.int .i64 1, .int .i64 0, .int .i64 0, .int .u64 0] :: .agg #[.int .i64 0, .int .u64 0] :: .agg #[.int .i64 6, .int .i64 0, .int .i64 0, .int .u64 0] :: .agg #[.int .i64 0, .int .u64 0] :: .agg #[.int .i64 1, .int .i64 1, .int .i64 0, .int .u64 0] :: .agg #[.int .i64 0, .int .u64 0] :: .agg #[.int .i64 3, .int .i64 1, .int .i64 0, .int .u64 0] :: .slice (some ⟨v4.heap.size, 0, none⟩) 4 4 :: .tuple #[.agg #[.slice y1.sa y1.sn y1.sc, .slice y1.pa y1.pn y1.pc, .slice y1.ha y1.hn y1.hc, .slice y1.ba y1.bn y1.bc], .slice ta 1 tc, .int .i64 0] :: .agg #[.slice y1.sa y1.sn y1.sc, .slice y1.pa y1.pn y1.pc, .slice y1.ha y1.hn y1.hc, .slice y1.ba y1.bn y1.bc] :: .slice ta 1 tc :: .int .i64 0 :: v 11 :: v 0 :: v 1 :: v 2 :: v 3 :: v 4 :: v 5 :: v 6 :: v 7 :: v 8 :: v 9 :: v 10 :: v 12 :: v 13 :: v 14 :: undef :: undef :: undef :: undef :: undef :: undef :: undef :: undef :: undef :: undef :: undef :: undef :: undef :: undef :: undef :: undef :: undef :: undef :: undef :: undef :: undef :: undef :: undef :: undef :: undef :: undef :: undef :: undef :: undef :: undef :: undef :: undef :: undef :: undef :: undef :: undef :: undef :: undef :: undef :: undef :: undef :: undef :: undef :: undef :: undef :: undef :: undef :: undef :: undef :: undef :: undef :: undef :: undef :: undef :: undef :: undef :: undef :: undef :: undef :: undef :: undef :: undef :: undef :: undef :: undef :: undef :: undef :: undef :: undef :: undef :: undef :: undef :: undef :: undef :: undef :: undef :: undef :: undef :: undef :: undef :: undef :: undef :: undef :: undef :: undef :: undef :: undef :: undef :: undef :: undef :: undef :: undef :: undef :: undef :: undef :: undef :: []).toArray, []⟩) (wkF4 w.heap.size B3 y1) (fun W W' => Below W.heap.size W W') (WkB w B3 y1 vs1 ta tc) (fun j => decide (j ≤ 12 ∨ j = 15)) (fun j => decide (j ≤ 15)) (fun _ => undef) (by kernel_rfl) HBS.out.drew (fun j x W W' h hR => wkF4_st h hR) (fun W W' h hR => h.below hR) (by kernel_rfl) ?_ ?_
  · intro j o hA ho v W hB hF K hK a ha
    have hj : j ≤ 15 := of_decide_eq_true hA
    clear hA HBS
    obtain rfl : a = ⟨(.bool false :: .pointer (some ⟨w.heap.size, 0, none⟩) :: .pointer (some ⟨w.heap.size + 1, 0, none⟩) :: .pointer (some ⟨B3, 0, none⟩) :: .int .i64 0 :: .slice ta 1 tc :: .int .i64 0 :: v 15 :: undef :: undef :: undef :: undef :: undef :: undef :: undef :: undef :: undef :: undef :: undef :: .agg #[.int .i64 0, .int .u64 0] :: .agg #[.int .i64 0, .int .u64 0] :: .tuple #[.agg #[.slice y.sa y.sn y.sc, .slice y.pa y.pn y.pc, .slice y.ha y.hn y.hc, .slice y.ba y.bn y.bc], .int .i64 0] :: .tuple #[.agg #[.slice y.sa y.sn y.sc, .slice y.pa y.pn y.pc, .slice y.ha y.hn y.hc, .slice y.ba y.bn y.bc], .int .i64 0] :: .agg #[.slice y.sa y.sn y.sc, .slice y.pa y.pn y.pc, .slice y.ha y.hn y.hc, .slice y.ba y.bn y.bc] :: .int .i64 0 :: .tuple #[.agg #[.slice y1.sa y1.sn y1.sc, .slice y1.pa y1.pn y1.pc, .slice y1.ha y1.hn y1.hc, .slice y1.ba y1.bn y1.bc], .slice ta 1 tc, .int .i64 0] :: .agg #[.slice y.sa y.sn y.sc, .slice y.pa y.pn y.pc, .slice y.ha y.hn y.hc, .slice y.ba y.bn y.bc] :: .agg #[.int .i64 0, .int .u64 0] :: .agg #[.int .i64 1, .int .i64 0, .int .i64 0, .int .u64 0] :: .agg #[.int .i64 0, .int .u64 0] :: .agg #[.int .i64 6, .int .i64 0, .int .i64 0, .int .u64 0] :: .agg #[.int .i64 0, .int .u64 0] :: .agg #[.int .i64 1, .int .i64 1, .int .i64 0, .int .u64 0] :: .agg #[.int .i64 0, .int .u64 0] :: .agg #[.int .i64 3, .int .i64 1, .int .i64 0, .int .u64 0] :: .slice (some ⟨v4.heap.size, 0, none⟩) 4 4 :: .tuple #[.agg #[.slice y1.sa y1.sn y1.sc, .slice y1.pa y1.pn y1.pc, .slice y1.ha y1.hn y1.hc, .slice y1.ba y1.bn y1.bc], .slice ta 1 tc, .int .i64 0] :: .agg #[.slice y1.sa y1.sn y1.sc, .slice y1.pa y1.pn y1.pc, .slice y1.ha y1.hn y1.hc, .slice y1.ba y1.bn y1.bc] :: .slice ta 1 tc :: .int .i64 0 :: v 11 :: v 0 :: v 1 :: v 2 :: v 3 :: v 4 :: v 5 :: v 6 :: v 7 :: v 8 :: v 9 :: v 10 :: v 12 :: v 13 :: v 14 :: undef :: undef :: undef :: undef :: undef :: undef :: undef :: undef :: undef :: undef :: undef :: undef :: undef :: undef :: undef :: undef :: undef :: undef :: undef :: undef :: undef :: undef :: undef :: undef :: undef :: undef :: undef :: undef :: undef :: undef :: undef :: undef :: undef :: undef :: undef :: undef :: undef :: undef :: undef :: undef :: undef :: undef :: undef :: undef :: undef :: undef :: undef :: undef :: undef :: undef :: undef :: undef :: undef :: undef :: undef :: undef :: undef :: undef :: undef :: undef :: undef :: undef :: undef :: undef :: undef :: undef :: undef :: undef :: undef :: undef :: undef :: undef :: undef :: undef :: undef :: undef :: undef :: undef :: undef :: undef :: undef :: undef :: undef :: undef :: undef :: undef :: undef :: undef :: undef :: undef :: undef :: undef :: undef :: undef :: undef :: undef :: []).toArray, []⟩ := ha
    obtain rfl | rfl | rfl | rfl | rfl | rfl | rfl | rfl | rfl | rfl | rfl | rfl | rfl | rfl | rfl | rfl : j = 0 ∨ j = 1 ∨ j = 2 ∨ j = 3 ∨ j = 4 ∨ j = 5 ∨ j = 6 ∨ j = 7 ∨ j = 8 ∨ j = 9 ∨ j = 10 ∨ j = 11 ∨ j = 12 ∨ j = 13 ∨ j = 14 ∨ j = 15 := by omega
    · obtain rfl : { dst := some 41, op := Go.Op.load 29 (Go.Operand.tmp 3), type := 29, pos := "law.go:23", after := #[], guard := none } = o := Option.some.inj ((rfl : some _ = _).trans ho)
      clear ho
      have s0 : W.cell? ⟨B3, 0, none⟩ = some (.slice y1.sa y1.sn y1.sc) := hB.r3.cell 0
      have s1 : W.cell? ⟨B3, 1, none⟩ = some (.slice y1.pa y1.pn y1.pc) := hB.r3.cell 1
      have s2 : W.cell? ⟨B3, 2, none⟩ = some (.slice y1.ha y1.hn y1.hc) := hB.r3.cell 2
      have s3 : W.cell? ⟨B3, 3, none⟩ = some (.slice y1.ba y1.bn y1.bc) := hB.r3.cell 3
      refine step_value_g (by rfl) (.agg #[.slice y1.sa y1.sn y1.sc, .slice y1.pa y1.pn y1.pc, .slice y1.ha y1.hn y1.hc, .slice y1.ba y1.bn y1.bc]) (w' := W) (by go_simp) ?_
      try simp only [Act.put, List.setIfInBounds_toArray, List.set_cons_zero, List.set_cons_succ]
      exact hK.out _ W (Below.refl _ W) rfl
    · obtain rfl : { dst := some 42, op := Go.Op.load 38 (Go.Operand.tmp 1), type := 38, pos := "law.go:23", after := #[], guard := none } = o := Option.some.inj ((rfl : some _ = _).trans ho)
      clear ho
      have s0 : W.cell? ⟨w.heap.size, 0, none⟩ = some (.int .i64 0) := hB.r1.cell 0
      have s1 : W.cell? ⟨w.heap.size, 1, none⟩ = some (.int .u64 0) := hB.r1.cell 1
      refine step_value_g (by rfl) (.agg #[.int .i64 0, .int .u64 0]) (w' := W) (by go_simp) ?_
      try simp only [Act.put, List.setIfInBounds_toArray, List.set_cons_zero, List.set_cons_succ]
      exact hK.out _ W (Below.refl _ W) rfl
    · obtain rfl : { dst := some 43, op := Go.Op.call { callee := Go.Callee.value (Go.Operand.func 26), args := #[Go.Operand.const (Go.Value.int Go.IntKind.i64 7), Go.Operand.const (Go.Value.int Go.IntKind.i64 0), Go.Operand.tmp 42], argTypes := #[3, 3, 38] }, type := 40, pos := "law.go:23", after := #[{ on := 1, ground := Go.Ground.data }], guard := none } = o := Option.some.inj ((rfl : some _ = _).trans ho)
      clear ho
      have e1 : wkF4 w.heap.size B3 y1 1 (v 1) W := hF { on := 1, ground := Go.Ground.data } (by simp) rfl
      have e1 : v 1 = .agg #[.int .i64 0, .int .u64 0] := e1
      refine step_call_g (by rfl) 26 _ _ rfl (fun _ _ => by kernel_rfl) #[.int .i64 7, .int .i64 0, .agg #[.int .i64 0, .int .u64 0]] (by simp [go_sem, e1]) _ (HWA 7 0 W).out ?_
      rintro e W' ⟨rfl, hC⟩
      refine ⟨_, rfl, ?_⟩
      try simp only [Act.put, List.setIfInBounds_toArray, List.set_cons_zero, List.set_cons_succ]
      exact hK.out _ W' hC rfl
    · obtain rfl : { dst := some 44, op := Go.Op.load 38 (Go.Operand.tmp 1), type := 38, pos := "law.go:23", after := #[], guard := none } = o := Option.some.inj ((rfl : some _ = _).trans ho)
      clear ho
      have s0 : W.cell? ⟨w.heap.size, 0, none⟩ = some (.int .i64 0) := hB.r1.cell 0
      have s1 : W.cell? ⟨w.heap.size, 1, none⟩ = some (.int .u64 0) := hB.r1.cell 1
      refine step_value_g (by rfl) (.agg #[.int .i64 0, .int .u64 0]) (w' := W) (by go_simp) ?_
      try simp only [Act.put, List.setIfInBounds_toArray, List.set_cons_zero, List.set_cons_succ]
      exact hK.out _ W (Below.refl _ W) rfl
    · obtain rfl : { dst := some 45, op := Go.Op.call { callee := Go.Callee.value (Go.Operand.func 26), args := #[Go.Operand.const (Go.Value.int Go.IntKind.i64 8), Go.Operand.const (Go.Value.int Go.IntKind.i64 0), Go.Operand.tmp 44], argTypes := #[3, 3, 38] }, type := 40, pos := "law.go:23", after := #[{ on := 3, ground := Go.Ground.data }, { on := 2, ground := Go.Ground.chain }], guard := none } = o := Option.some.inj ((rfl : some _ = _).trans ho)
      clear ho
      have e1 : wkF4 w.heap.size B3 y1 3 (v 3) W := hF { on := 3, ground := Go.Ground.data } (by simp) rfl
      have e1 : v 3 = .agg #[.int .i64 0, .int .u64 0] := e1
      refine step_call_g (by rfl) 26 _ _ rfl (fun _ _ => by kernel_rfl) #[.int .i64 8, .int .i64 0, .agg #[.int .i64 0, .int .u64 0]] (by simp [go_sem, e1]) _ (HWA 8 0 W).out ?_
      rintro e W' ⟨rfl, hC⟩
      refine ⟨_, rfl, ?_⟩
      try simp only [Act.put, List.setIfInBounds_toArray, List.set_cons_zero, List.set_cons_succ]
      exact hK.out _ W' hC rfl
    · obtain rfl : { dst := some 46, op := Go.Op.load 38 (Go.Operand.tmp 2), type := 38, pos := "law.go:23", after := #[], guard := none } = o := Option.some.inj ((rfl : some _ = _).trans ho)
      clear ho
      have s0 : W.cell? ⟨w.heap.size + 1, 0, none⟩ = some (.int .i64 0) := hB.r2.cell 0
      have s1 : W.cell? ⟨w.heap.size + 1, 1, none⟩ = some (.int .u64 0) := hB.r2.cell 1
      refine step_value_g (by rfl) (.agg #[.int .i64 0, .int .u64 0]) (w' := W) (by go_simp) ?_
      try simp only [Act.put, List.setIfInBounds_toArray, List.set_cons_zero, List.set_cons_succ]
      exact hK.out _ W (Below.refl _ W) rfl
    · obtain rfl : { dst := some 47, op := Go.Op.call { callee := Go.Callee.value (Go.Operand.func 26), args := #[Go.Operand.const (Go.Value.int Go.IntKind.i64 6), Go.Operand.const (Go.Value.int Go.IntKind.i64 0), Go.Operand.tmp 46], argTypes := #[3, 3, 38] }, type := 40, pos := "law.go:23", after := #[{ on := 5, ground := Go.Ground.data }, { on := 4, ground := Go.Ground.chain }], guard := none } = o := Option.some.inj ((rfl : some _ = _).trans ho)
      clear ho
      have e1 : wkF4 w.heap.size B3 y1 5 (v 5) W := hF { on := 5, ground := Go.Ground.data } (by simp) rfl
      have e1 : v 5 = .agg #[.int .i64 0, .int .u64 0] := e1
      refine step_call_g (by rfl) 26 _ _ rfl (fun _ _ => by kernel_rfl) #[.int .i64 6, .int .i64 0, .agg #[.int .i64 0, .int .u64 0]] (by simp [go_sem, e1]) _ (HWA 6 0 W).out ?_
      rintro e W' ⟨rfl, hC⟩
      refine ⟨_, rfl, ?_⟩
      try simp only [Act.put, List.setIfInBounds_toArray, List.set_cons_zero, List.set_cons_succ]
      exact hK.out _ W' hC rfl
    · obtain rfl : { dst := some 48, op := Go.Op.load 38 (Go.Operand.tmp 1), type := 38, pos := "law.go:23", after := #[], guard := none } = o := Option.some.inj ((rfl : some _ = _).trans ho)
      clear ho
      have s0 : W.cell? ⟨w.heap.size, 0, none⟩ = some (.int .i64 0) := hB.r1.cell 0
      have s1 : W.cell? ⟨w.heap.size, 1, none⟩ = some (.int .u64 0) := hB.r1.cell 1
      refine step_value_g (by rfl) (.agg #[.int .i64 0, .int .u64 0]) (w' := W) (by go_simp) ?_
      try simp only [Act.put, List.setIfInBounds_toArray, List.set_cons_zero, List.set_cons_succ]
      exact hK.out _ W (Below.refl _ W) rfl
    · obtain rfl : { dst := some 49, op := Go.Op.call { callee := Go.Callee.value (Go.Operand.func 26), args := #[Go.Operand.const (Go.Value.int Go.IntKind.i64 4), Go.Operand.const (Go.Value.int Go.IntKind.i64 1), Go.Operand.tmp 48], argTypes := #[3, 3, 38] }, type := 40, pos := "law.go:23", after := #[{ on := 7, ground := Go.Ground.data }, { on := 6, ground := Go.Ground.chain }], guard := none } = o := Option.some.inj ((rfl : some _ = _).trans ho)
      clear ho
      have e1 : wkF4 w.heap.size B3 y1 7 (v 7) W := hF { on := 7, ground := Go.Ground.data } (by simp) rfl
      have e1 : v 7 = .agg #[.int .i64 0, .int .u64 0] := e1
      refine step_call_g (by rfl) 26 _ _ rfl (fun _ _ => by kernel_rfl) #[.int .i64 4, .int .i64 1, .agg #[.int .i64 0, .int .u64 0]] (by simp [go_sem, e1]) _ (HWA 4 1 W).out ?_
      rintro e W' ⟨rfl, hC⟩
      refine ⟨_, rfl, ?_⟩
      try simp only [Act.put, List.setIfInBounds_toArray, List.set_cons_zero, List.set_cons_succ]
      exact hK.out _ W' hC rfl
    · obtain rfl : { dst := some 50, op := Go.Op.buildSlice 27 4 #[(0, Go.Operand.tmp 43), (1, Go.Operand.tmp 45), (2, Go.Operand.tmp 47), (3, Go.Operand.tmp 49)], type := 27, pos := "law.go:23", after := #[{ on := 2, ground := Go.Ground.data }, { on := 4, ground := Go.Ground.data }, { on := 6, ground := Go.Ground.data }, { on := 8, ground := Go.Ground.data }], guard := none } = o := Option.some.inj ((rfl : some _ = _).trans ho)
      clear ho
      have e2 : wkF4 w.heap.size B3 y1 2 (v 2) W := hF { on := 2, ground := Go.Ground.data } (by simp) rfl
      have e2 : v 2 = .agg #[.int .i64 7, .int .i64 0, .int .i64 0, .int .u64 0] := e2
      have e4 : wkF4 w.heap.size B3 y1 4 (v 4) W := hF { on := 4, ground := Go.Ground.data } (by simp) rfl
      have e4 : v 4 = .agg #[.int .i64 8, .int .i64 0, .int .i64 0, .int .u64 0] := e4
      have e6 : wkF4 w.heap.size B3 y1 6 (v 6) W := hF { on := 6, ground := Go.Ground.data } (by simp) rfl
      have e6 : v 6 = .agg #[.int .i64 6, .int .i64 0, .int .i64 0, .int .u64 0] := e6
      have e8 : wkF4 w.heap.size B3 y1 8 (v 8) W := hF { on := 8, ground := Go.Ground.data } (by simp) rfl
      have e8 : v 8 = .agg #[.int .i64 4, .int .i64 1, .int .i64 0, .int .u64 0] := e8
      refine step_value_g (by rfl) (.slice (some ⟨W.heap.size, 0, none⟩) 4 4) (w' := W.alloc (.cells #[.int .i64 7, .int .i64 0, .int .i64 0, .int .u64 0, .int .i64 8, .int .i64 0, .int .i64 0, .int .u64 0, .int .i64 6, .int .i64 0, .int .i64 0, .int .u64 0, .int .i64 4, .int .i64 1, .int .i64 0, .int .u64 0] 40)) (by go_simp) ?_
      try simp only [Act.put, List.setIfInBounds_toArray, List.set_cons_zero, List.set_cons_succ]
      exact hK.out _ _ Rows8.newB ⟨_, rfl, lit_at4 W ⟨7, 0, 0, 0⟩ ⟨8, 0, 0, 0⟩ ⟨6, 0, 0, 0⟩ ⟨4, 1, 0, 0⟩⟩
    · obtain rfl : { dst := some 51, op := Go.Op.call { callee := Go.Callee.value (Go.Operand.func 29), args := #[Go.Operand.tmp 41, Go.Operand.tmp 50], argTypes := #[29, 27] }, type := 68, pos := "law.go:23", after := #[{ on := 0, ground := Go.Ground.data }, { on := 9, ground := Go.Ground.data }, { on := 8, ground := Go.Ground.chain }], guard := none } = o := Option.some.inj ((rfl : some _ = _).trans ho)
      clear ho
      have e0 : wkF4 w.heap.size B3 y1 0 (v 0) W := hF { on := 0, ground := Go.Ground.data } (by simp) rfl
      have e0 : v 0 = .agg #[.slice y1.sa y1.sn y1.sc, .slice y1.pa y1.pn y1.pc, .slice y1.ha y1.hn y1.hc, .slice y1.ba y1.bn y1.bc] := e0
      have e9 : wkF4 w.heap.size B3 y1 9 (v 9) W := hF { on := 9, ground := Go.Ground.data } (by simp) rfl
      obtain ⟨b9, e9, hw9⟩ := e9
      rw [e9] at hw9
      have HRN := Lib.hid (Try.Run_any y1 wk1 (some ⟨b9, 0, none⟩) 4 4 10 wkL2 W (hB.o.at wk1_ok.1) hw9 wk1_ok.2 (by decide))
      rw [wk_run2] at HRN
      refine step_call_g (by rfl) 29 _ _ rfl (fun _ _ => by kernel_rfl) #[.agg #[.slice y1.sa y1.sn y1.sc, .slice y1.pa y1.pn y1.pc, .slice y1.ha y1.hn y1.hc, .slice y1.ba y1.bn y1.bc], .slice (some ⟨b9, 0, none⟩) 4 4] (by simp [go_sem, e0, e9]) _ HRN.out ?_
      rintro e W' ⟨y2, vs2, tb, tc2, rfl, hm, ht, hC⟩
      refine ⟨_, rfl, ?_⟩
      try simp only [Act.put, List.setIfInBounds_toArray, List.set_cons_zero, List.set_cons_succ]
      exact hK.out _ W' hC ⟨y2, vs2, tb, tc2, rfl, hm.mono hB.bl.size, OwnsP.mono ht hB.bl.size⟩
    · obtain rfl : { dst := some 40, op := Go.Op.move (Go.Operand.tmp 51), type := 68, pos := "law.go:23", after := #[{ on := 10, ground := Go.Ground.data }], guard := none } = o := Option.some.inj ((rfl : some _ = _).trans ho)
      clear ho
      have e0 : wkF4 w.heap.size B3 y1 10 (v 10) W := hF { on := 10, ground := Go.Ground.data } (by simp) rfl
      obtain ⟨y2, vs2, tb, tc2, e10, hm, ht⟩ := e0
      refine step_value_g (by rfl) (.tuple #[.agg #[.slice y2.sa y2.sn y2.sc, .slice y2.pa y2.pn y2.pc, .slice y2.ha y2.hn y2.hc, .slice y2.ba y2.bn y2.bc], .slice tb 1 tc2, .int .i64 0]) (w' := W) (by go_simp) ?_
      try simp only [Act.put, List.setIfInBounds_toArray, List.set_cons_zero, List.set_cons_succ]
      exact hK.out _ W (Below.refl _ W) ⟨y2, vs2, tb, tc2, rfl, hm, ht⟩
    · obtain rfl : { dst := some 52, op := Go.Op.extract (Go.Operand.tmp 40) 0, type := 29, pos := "law.go:23", after := #[{ on := 11, ground := Go.Ground.data }], guard := none } = o := Option.some.inj ((rfl : some _ = _).trans ho)
      clear ho
      have e0 : wkF4 w.heap.size B3 y1 11 (v 11) W := hF { on := 11, ground := Go.Ground.data } (by simp) rfl
      obtain ⟨y2, vs2, tb, tc2, e11, hm, ht⟩ := e0
      refine step_value_g (by rfl) (.agg #[.slice y2.sa y2.sn y2.sc, .slice y2.pa y2.pn y2.pc, .slice y2.ha y2.hn y2.hc, .slice y2.ba y2.bn y2.bc]) (w' := W) (by go_simp) ?_
      try simp only [Act.put, List.setIfInBounds_toArray, List.set_cons_zero, List.set_cons_succ]
      exact hK.out _ W (Below.refl _ W) ⟨y2, vs2, rfl, hm⟩
    · obtain rfl : { dst := some 53, op := Go.Op.extract (Go.Operand.tmp 40) 1, type := 62, pos := "law.go:23", after := #[{ on := 11, ground := Go.Ground.data }, { on := 16, ground := Go.Ground.gcOnly Go.Departure.lateStores }], guard := none } = o := Option.some.inj ((rfl : some _ = _).trans ho)
      clear ho
      have e0 : wkF4 w.heap.size B3 y1 11 (v 11) W := hF { on := 11, ground := Go.Ground.data } (by simp) rfl
      obtain ⟨y2, vs2, tb, tc2, e11, hm, ht⟩ := e0
      refine step_value_g (by rfl) (.slice tb 1 tc2) (w' := W) (by go_simp) ?_
      try simp only [Act.put, List.setIfInBounds_toArray, List.set_cons_zero, List.set_cons_succ]
      exact hK.out _ W (Below.refl _ W) ⟨tb, tc2, rfl, ht⟩
    · obtain rfl : { dst := some 54, op := Go.Op.extract (Go.Operand.tmp 40) 2, type := 33, pos := "law.go:23", after := #[{ on := 11, ground := Go.Ground.data }, { on := 17, ground := Go.Ground.gcOnly Go.Departure.lateStores }], guard := none } = o := Option.some.inj ((rfl : some _ = _).trans ho)
      clear ho
      have e0 : wkF4 w.heap.size B3 y1 11 (v 11) W := hF { on := 11, ground := Go.Ground.data } (by simp) rfl
      obtain ⟨y2, vs2, tb, tc2, e11, hm, ht⟩ := e0
      refine step_value_g (by rfl) (.int .i64 0) (w' := W) (by go_simp) ?_
      try simp only [Act.put, List.setIfInBounds_toArray, List.set_cons_zero, List.set_cons_succ]
      exact hK.out _ W (Below.refl _ W) rfl
    · obtain rfl : { dst := some 7, op := Go.Op.alloc 29, type := 0, pos := "law.go:23", after := #[], guard := none } = o := Option.some.inj ((rfl : some _ = _).trans ho)
      clear ho
      refine step_value_g (by rfl) (.pointer (some ⟨W.heap.size, 0, none⟩)) (w' := W.alloc (.cells #[.slice none 0 0, .slice none 0 0, .slice none 0 0, .slice none 0 0] 29)) (by go_simp) ?_
      try simp only [Act.put, List.setIfInBounds_toArray, List.set_cons_zero, List.set_cons_succ]
      exact hK.out _ _ Rows8.newB ⟨_, rfl, hB.r3.lt, Rows8.new _ _ _⟩
  · intro b v W hB hC hA
    have f11 : wkF4 w.heap.size B3 y1 11 (v 11) W := hC 11 (by show (11 : Nat) < 19; decide) rfl
    obtain ⟨y2, vs2, e12, hm⟩ : wkF4 w.heap.size B3 y1 12 (v 12) W := hC 12 (by show (12 : Nat) < 19; decide) rfl
    obtain ⟨B7, e15, hb37, hr⟩ : wkF4 w.heap.size B3 y1 15 (v 15) W := hC 15 (by show (15 : Nat) < 19; decide) rfl
    cases h13 : b 13 with
    | false =>
      cases h14 : b 14 with
      | false =>
        obtain ⟨hl, hs⟩ := lst_agree (n := 19) (C := (fun j => decide (j ≤ 12 ∨ j = 15))) (A := (fun j => decide (j ≤ 15))) (b := b) (b' := fun j => if j = 13 then false else false) (fun j hj hc ha => by
          have h1 := of_decide_eq_false hc
          have h2 := of_decide_eq_true ha
          have h3 : j = 13 ∨ j = 14 := by omega
          rcases h3 with rfl | rfl
          · exact h13
          · exact h14)
        refine (show wpAny _ _ _ _ (leftOf 19 (fun j => decide (j ≤ 12 ∨ j = 15)) (fun j => decide (j ≤ 15)) b) (lstOf 19 (fun j => decide (j ≤ 12 ∨ j = 15)) (fun j => decide (j ≤ 15)) b) ⟨(.bool false :: .pointer (some ⟨w.heap.size, 0, none⟩) :: .pointer (some ⟨w.heap.size + 1, 0, none⟩) :: .pointer (some ⟨B3, 0, none⟩) :: .int .i64 0 :: .slice ta 1 tc :: .int .i64 0 :: v 15 :: undef :: undef :: undef :: undef :: undef :: undef :: undef :: undef :: undef :: undef :: undef :: .agg #[.int .i64 0, .int .u64 0] :: .agg #[.int .i64 0, .int .u64 0] :: .tuple #[.agg #[.slice y.sa y.sn y.sc, .slice y.pa y.pn y.pc, .slice y.ha y.hn y.hc, .slice y.ba y.bn y.bc], .int .i64 0] :: .tuple #[.agg #[.slice y.sa y.sn y.sc, .slice y.pa y.pn y.pc, .slice y.ha y.hn y.hc, .slice y.ba y.bn y.bc], .int .i64 0] :: .agg #[.slice y.sa y.sn y.sc, .slice y.pa y.pn y.pc, .slice y.ha y.hn y.hc, .slice y.ba y.bn y.bc] :: .int .i64 0 :: .tuple #[.agg #[.slice y1.sa y1.sn y1.sc, .slice y1.pa y1.pn y1.pc, .slice y1.ha y1.hn y1.hc, .slice y1.ba y1.bn y1.bc], .slice ta 1 tc, .int .i64 0] :: .agg #[.slice y.sa y.sn y.sc, .slice y.pa y.pn y.pc, .slice y.ha y.hn y.hc, .slice y.ba y.bn y.bc] :: .agg #[.int .i64 0, .int .u64 0] :: .agg #[.int .i64 1, .int .i64 0, .int .i64 0, .int .u64 0] :: .agg #[.int .i64 0, .int .u64 0] :: .agg #[.int .i64 6, .int .i64 0, .int .i64 0, .int .u64 0] :: .agg #[.int .i64 0, .int .u64 0] :: .agg #[.int .i64 1, .int .i64 1, .int .i64 0, .int .u64 0] :: .agg #[.int .i64 0, .int .u64 0] :: .agg #[.int .i64 3, .int .i64 1, .int .i64 0, .int .u64 0] :: .slice (some ⟨v4.heap.size, 0, none⟩) 4 4 :: .tuple #[.agg #[.slice y1.sa y1.sn y1.sc, .slice y1.pa y1.pn y1.pc, .slice y1.ha y1.hn y1.hc, .slice y1.ba y1.bn y1.bc], .slice ta 1 tc, .int .i64 0] :: .agg #[.slice y1.sa y1.sn y1.sc, .slice y1.pa y1.pn y1.pc, .slice y1.ha y1.hn y1.hc, .slice y1.ba y1.bn y1.bc] :: .slice ta 1 tc :: .int .i64 0 :: v 11 :: v 0 :: v 1 :: v 2 :: v 3 :: v 4 :: v 5 :: v 6 :: v 7 :: v 8 :: v 9 :: v 10 :: v 12 :: v 13 :: v 14 :: undef :: undef :: undef :: undef :: undef :: undef :: undef :: undef :: undef :: undef :: undef :: undef :: undef :: undef :: undef :: undef :: undef :: undef :: undef :: undef :: undef :: undef :: undef :: undef :: undef :: undef :: undef :: undef :: undef :: undef :: undef :: undef :: undef :: undef :: undef :: undef :: undef :: undef :: undef :: undef :: undef :: undef :: undef :: undef :: undef :: undef :: undef :: undef :: undef :: undef :: undef :: undef :: undef :: undef :: undef :: undef :: undef :: undef :: undef :: undef :: undef :: undef :: undef :: undef :: undef :: undef :: undef :: undef :: undef :: undef :: undef :: undef :: undef :: undef :: undef :: undef :: undef :: undef :: undef :: undef :: undef :: undef :: undef :: undef :: undef :: undef :: undef :: undef :: undef :: undef :: undef :: undef :: undef :: undef :: undef :: undef :: []).toArray, []⟩ W from ?_)
        rw [hl.trans (by kernel_rfl : _ = 5), hs.trans (by kernel_rfl : _ = #[true, true, true, true, true, true, true, true, true, true, true, true, true, false, false, true, false, false, false])]
        refine wpAny_of_L (S := fun _ => True) (X := 0) _ _ _ _ ?_
        obtain ⟨y3, vs3, tb, tc2, e11, -, ht⟩ := f11
        clear hl hs hA hC h13 h14
        refine wpAnyL_takeP (i := 13) (oi := { dst := some 53, op := Go.Op.extract (Go.Operand.tmp 40) 1, type := 62, pos := "law.go:23", after := #[{ on := 11, ground := Go.Ground.data }, { on := 16, ground := Go.Ground.gcOnly Go.Departure.lateStores }], guard := none }) (v := .slice tb 1 tc2) rfl (by kernel_rfl) (by kernel_rfl) (by kernel_rfl) (by kernel_rfl) (fun _ _ _ h => hQp _ _ _ _ _ h) (Or.inl ⟨by rfl, ?_⟩) ?_
        · intro W9 _
          go_simp
        try simp only [Act.put, List.setIfInBounds_toArray, List.set_cons_zero, List.set_cons_succ]
        refine wpAnyL_takeP (i := 14) (oi := { dst := some 54, op := Go.Op.extract (Go.Operand.tmp 40) 2, type := 33, pos := "law.go:23", after := #[{ on := 11, ground := Go.Ground.data }, { on := 17, ground := Go.Ground.gcOnly Go.Departure.lateStores }], guard := none }) (v := .int .i64 0) rfl (by kernel_rfl) (by kernel_rfl) (by kernel_rfl) (by kernel_rfl) (fun _ _ _ h => hQp _ _ _ _ _ h) (Or.inl ⟨by rfl, ?_⟩) ?_
        · intro W9 _
          go_simp
        try simp only [Act.put, List.setIfInBounds_toArray, List.set_cons_zero, List.set_cons_succ]
        refine wpAnyL_one (i := 16) (o := { dst := none, op := Go.Op.store 29 (Go.Operand.tmp 7) (Go.Operand.tmp 52), type := 0, pos := "law.go:23", after := #[{ on := 15, ground := Go.Ground.data }, { on := 12, ground := Go.Ground.data }, { on := 10, ground := Go.Ground.chain }, { on := 0, ground := Go.Ground.phase }, { on := 1, ground := Go.Ground.phase }, { on := 2, ground := Go.Ground.phase }, { on := 3, ground := Go.Ground.phase }, { on := 4, ground := Go.Ground.phase }, { on := 5, ground := Go.Ground.phase }, { on := 6, ground := Go.Ground.phase }, { on := 7, ground := Go.Ground.phase }, { on := 8, ground := Go.Ground.phase }, { on := 9, ground := Go.Ground.phase }, { on := 10, ground := Go.Ground.phase }, { on := 11, ground := Go.Ground.phase }, { on := 12, ground := Go.Ground.phase }, { on := 13, ground := Go.Ground.textOnly Go.Departure.lateStores }, { on := 14, ground := Go.Ground.textOnly Go.Departure.lateStores }, { on := 15, ground := Go.Ground.phase }], guard := none }) (by kernel_rfl) rfl (fun K hK => ?_)
        have ck0 : W.cell? ⟨B7, 0, none⟩ = some (.slice none 0 0) := hr.cell 0
        have fk0 := hr.frozen 0
        have ck1 : W.cell? ⟨B7, 1, none⟩ = some (.slice none 0 0) := hr.cell 1
        have fk1 := hr.frozen 1
        have ck2 : W.cell? ⟨B7, 2, none⟩ = some (.slice none 0 0) := hr.cell 2
        have fk2 := hr.frozen 2
        have ck3 : W.cell? ⟨B7, 3, none⟩ = some (.slice none 0 0) := hr.cell 3
        have fk3 := hr.frozen 3
        have hlt := hr.lt
        refine step_skip_g (by rfl) (w' := ((((W.setCell ⟨B7, 0, none⟩ (.slice y2.sa y2.sn y2.sc)).setCell ⟨B7, 1, none⟩ (.slice y2.pa y2.pn y2.pc)).setCell ⟨B7, 2, none⟩ (.slice y2.ha y2.hn y2.hc)).setCell ⟨B7, 3, none⟩ (.slice y2.ba y2.bn y2.bc))) (by go_simp) ?_
        clear ck0 fk0 ck1 fk1 ck2 fk2 ck3 fk3 hlt
        have a0 := hB.r1
        have b0 := hB.r2
        have c0 := hB.r3
        have r0 := hr
        have m0 := hm
        have n0 := hB.o
        have t0 := ht
        have s0 := hB.t
        have h0 := hB.bl
        have a1 := a0.setOther (a := ⟨B7, 0, none⟩) (fun e => rows_apart a0 r0 (by decide) e.symm) (.slice y2.sa y2.sn y2.sc)
        have b1 := b0.setOther (a := ⟨B7, 0, none⟩) (fun e => rows_apart b0 r0 (by decide) e.symm) (.slice y2.sa y2.sn y2.sc)
        have c1 := c0.setOther (a := ⟨B7, 0, none⟩) (by show B7 ≠ B3; omega) (.slice y2.sa y2.sn y2.sc)
        have m1 := m0.set r0 (by decide) (by decide) (by decide) (by decide) (by decide) 0 (.slice y2.sa y2.sn y2.sc)
        have n1 := n0.set r0 (by decide) (by decide) (by decide) (by decide) (by decide) 0 (.slice y2.sa y2.sn y2.sc)
        have t1 := owns_setT t0 (a := ⟨B7, 0, none⟩) r0 (by decide) (.slice y2.sa y2.sn y2.sc)
        have s1 := owns_setT s0 (a := ⟨B7, 0, none⟩) r0 (by decide) (.slice y2.sa y2.sn y2.sc)
        have h1 := h0.setCell (p := ⟨B7, 0, none⟩) (by show w.heap.size ≤ B7; have := H31.out; omega) (.slice y2.sa y2.sn y2.sc)
        have r1 := r0.set 0 (.slice y2.sa y2.sn y2.sc)
        simp only [List.setIfInBounds_toArray, List.set_cons_zero, List.set_cons_succ] at r1
        have a2 := a1.setOther (a := ⟨B7, 1, none⟩) (fun e => rows_apart a1 r1 (by decide) e.symm) (.slice y2.pa y2.pn y2.pc)
        have b2 := b1.setOther (a := ⟨B7, 1, none⟩) (fun e => rows_apart b1 r1 (by decide) e.symm) (.slice y2.pa y2.pn y2.pc)
        have c2 := c1.setOther (a := ⟨B7, 1, none⟩) (by show B7 ≠ B3; omega) (.slice y2.pa y2.pn y2.pc)
        have m2 := m1.set r1 (by decide) (by decide) (by decide) (by decide) (by decide) 1 (.slice y2.pa y2.pn y2.pc)
        have n2 := n1.set r1 (by decide) (by decide) (by decide) (by decide) (by decide) 1 (.slice y2.pa y2.pn y2.pc)
        have t2 := owns_setT t1 (a := ⟨B7, 1, none⟩) r1 (by decide) (.slice y2.pa y2.pn y2.pc)
        have s2 := owns_setT s1 (a := ⟨B7, 1, none⟩) r1 (by decide) (.slice y2.pa y2.pn y2.pc)
        have h2 := h1.setCell (p := ⟨B7, 1, none⟩) (by show w.heap.size ≤ B7; have := H31.out; omega) (.slice y2.pa y2.pn y2.pc)
        have r2 := r1.set 1 (.slice y2.pa y2.pn y2.pc)
        simp only [List.setIfInBounds_toArray, List.set_cons_zero, List.set_cons_succ] at r2
        have a3 := a2.setOther (a := ⟨B7, 2, none⟩) (fun e => rows_apart a2 r2 (by decide) e.symm) (.slice y2.ha y2.hn y2.hc)
        have b3 := b2.setOther (a := ⟨B7, 2, none⟩) (fun e => rows_apart b2 r2 (by decide) e.symm) (.slice y2.ha y2.hn y2.hc)
        have c3 := c2.setOther (a := ⟨B7, 2, none⟩) (by show B7 ≠ B3; omega) (.slice y2.ha y2.hn y2.hc)
        have m3 := m2.set r2 (by decide) (by decide) (by decide) (by decide) (by decide) 2 (.slice y2.ha y2.hn y2.hc)
        have n3 := n2.set r2 (by decide) (by decide) (by decide) (by decide) (by decide) 2 (.slice y2.ha y2.hn y2.hc)
        have t3 := owns_setT t2 (a := ⟨B7, 2, none⟩) r2 (by decide) (.slice y2.ha y2.hn y2.hc)
        have s3 := owns_setT s2 (a := ⟨B7, 2, none⟩) r2 (by decide) (.slice y2.ha y2.hn y2.hc)
        have h3 := h2.setCell (p := ⟨B7, 2, none⟩) (by show w.heap.size ≤ B7; have := H31.out; omega) (.slice y2.ha y2.hn y2.hc)
        have r3 := r2.set 2 (.slice y2.ha y2.hn y2.hc)
        simp only [List.setIfInBounds_toArray, List.set_cons_zero, List.set_cons_succ] at r3
        have a4 := a3.setOther (a := ⟨B7, 3, none⟩) (fun e => rows_apart a3 r3 (by decide) e.symm) (.slice y2.ba y2.bn y2.bc)
        have b4 := b3.setOther (a := ⟨B7, 3, none⟩) (fun e => rows_apart b3 r3 (by decide) e.symm) (.slice y2.ba y2.bn y2.bc)
        have c4 := c3.setOther (a := ⟨B7, 3, none⟩) (by show B7 ≠ B3; omega) (.slice y2.ba y2.bn y2.bc)
        have m4 := m3.set r3 (by decide) (by decide) (by decide) (by decide) (by decide) 3 (.slice y2.ba y2.bn y2.bc)
        have n4 := n3.set r3 (by decide) (by decide) (by decide) (by decide) (by decide) 3 (.slice y2.ba y2.bn y2.bc)
        have t4 := owns_setT t3 (a := ⟨B7, 3, none⟩) r3 (by decide) (.slice y2.ba y2.bn y2.bc)
        have s4 := owns_setT s3 (a := ⟨B7, 3, none⟩) r3 (by decide) (.slice y2.ba y2.bn y2.bc)
        have h4 := h3.setCell (p := ⟨B7, 3, none⟩) (by show w.heap.size ≤ B7; have := H31.out; omega) (.slice y2.ba y2.bn y2.bc)
        have r4 := r3.set 3 (.slice y2.ba y2.bn y2.bc)
        simp only [List.setIfInBounds_toArray, List.set_cons_zero, List.set_cons_succ] at r4
        have HBS := Lib.hid (WkB.mk a4 b4 c4 n4 s4 h4)
        have R7 := Lib.hid r4
        have HM2 := Lib.hid m4
        have HT2 : Hid (OwnsP 38 w.heap.size [(0, 1)] (.slice tb 1 tc2) _) := Lib.hid t4
        clear a0 a1 a2 a3 a4 b0 b1 b2 b3 b4 c0 c1 c2 c3 c4 r0 r1 r2 r3 r4 m0 m1 m2 m3 m4 n0 n1 n2 n3 n4 t0 t1 t2 t3 t4 h0 h1 h2 h3 h4 s0 s1 s2 s3 s4 hr hm ht hB
        refine hK.out _ _ (fun _ => trivial) ?_
        clear hK K
        try simp only [Act.put, List.setIfInBounds_toArray, List.set_cons_zero, List.set_cons_succ]
        refine wpAnyL_takeP (i := 17) (oi := { dst := some 8, op := Go.Op.assign (Go.Operand.tmp 53), type := 62, pos := "law.go:23", after := #[{ on := 13, ground := Go.Ground.data }, { on := 16, ground := Go.Ground.chain }, { on := 0, ground := Go.Ground.phase }, { on := 1, ground := Go.Ground.phase }, { on := 2, ground := Go.Ground.phase }, { on := 3, ground := Go.Ground.phase }, { on := 4, ground := Go.Ground.phase }, { on := 5, ground := Go.Ground.phase }, { on := 6, ground := Go.Ground.phase }, { on := 7, ground := Go.Ground.phase }, { on := 8, ground := Go.Ground.phase }, { on := 9, ground := Go.Ground.phase }, { on := 10, ground := Go.Ground.phase }, { on := 11, ground := Go.Ground.phase }, { on := 12, ground := Go.Ground.phase }, { on := 13, ground := Go.Ground.phase }, { on := 14, ground := Go.Ground.textOnly Go.Departure.lateStores }, { on := 15, ground := Go.Ground.phase }, { on := 16, ground := Go.Ground.phase }], guard := none }) (v := .slice tb 1 tc2) rfl (by kernel_rfl) (by kernel_rfl) (by kernel_rfl) (by kernel_rfl) (fun _ _ _ h => hQp _ _ _ _ _ h) (Or.inl ⟨by rfl, ?_⟩) ?_
        · intro W9 _
          go_simp
        try simp only [Act.put, List.setIfInBounds_toArray, List.set_cons_zero, List.set_cons_succ]
        refine wpAnyL_takeP (i := 18) (oi := { dst := some 9, op := Go.Op.assign (Go.Operand.tmp 54), type := 33, pos := "law.go:23", after := #[{ on := 14, ground := Go.Ground.data }, { on := 17, ground := Go.Ground.chain }, { on := 0, ground := Go.Ground.phase }, { on := 1, ground := Go.Ground.phase }, { on := 2, ground := Go.Ground.phase }, { on := 3, ground := Go.Ground.phase }, { on := 4, ground := Go.Ground.phase }, { on := 5, ground := Go.Ground.phase }, { on := 6, ground := Go.Ground.phase }, { on := 7, ground := Go.Ground.phase }, { on := 8, ground := Go.Ground.phase }, { on := 9, ground := Go.Ground.phase }, { on := 10, ground := Go.Ground.phase }, { on := 11, ground := Go.Ground.phase }, { on := 12, ground := Go.Ground.phase }, { on := 13, ground := Go.Ground.phase }, { on := 14, ground := Go.Ground.phase }, { on := 15, ground := Go.Ground.phase }, { on := 16, ground := Go.Ground.phase }, { on := 17, ground := Go.Ground.phase }], guard := none }) (v := .int .i64 0) rfl (by kernel_rfl) (by kernel_rfl) (by kernel_rfl) (by kernel_rfl) (fun _ _ _ h => hQp _ _ _ _ _ h) (Or.inl ⟨by rfl, ?_⟩) ?_
        · intro W9 _
          go_simp
        try simp only [Act.put, List.setIfInBounds_toArray, List.set_cons_zero, List.set_cons_succ]
        refine wpAnyL_end (by kernel_rfl) ?_
        rw [e15]
        exact HK.out B7 y2 vs2 tb tc2 (upd (upd v 13 (.slice tb 1 tc2)) 14 (.int .i64 0)) _ hb37 HBS.out R7.out HM2.out HT2.out
      | true =>
        obtain ⟨hl, hs⟩ := lst_agree (n := 19) (C := (fun j => decide (j ≤ 12 ∨ j = 15))) (A := (fun j => decide (j ≤ 15))) (b := b) (b' := fun j => if j = 13 then false else true) (fun j hj hc ha => by
          have h1 := of_decide_eq_false hc
          have h2 := of_decide_eq_true ha
          have h3 : j = 13 ∨ j = 14 := by omega
          rcases h3 with rfl | rfl
          · exact h13
          · exact h14)
        refine (show wpAny _ _ _ _ (leftOf 19 (fun j => decide (j ≤ 12 ∨ j = 15)) (fun j => decide (j ≤ 15)) b) (lstOf 19 (fun j => decide (j ≤ 12 ∨ j = 15)) (fun j => decide (j ≤ 15)) b) ⟨(.bool false :: .pointer (some ⟨w.heap.size, 0, none⟩) :: .pointer (some ⟨w.heap.size + 1, 0, none⟩) :: .pointer (some ⟨B3, 0, none⟩) :: .int .i64 0 :: .slice ta 1 tc :: .int .i64 0 :: v 15 :: undef :: undef :: undef :: undef :: undef :: undef :: undef :: undef :: undef :: undef :: undef :: .agg #[.int .i64 0, .int .u64 0] :: .agg #[.int .i64 0, .int .u64 0] :: .tuple #[.agg #[.slice y.sa y.sn y.sc, .slice y.pa y.pn y.pc, .slice y.ha y.hn y.hc, .slice y.ba y.bn y.bc], .int .i64 0] :: .tuple #[.agg #[.slice y.sa y.sn y.sc, .slice y.pa y.pn y.pc, .slice y.ha y.hn y.hc, .slice y.ba y.bn y.bc], .int .i64 0] :: .agg #[.slice y.sa y.sn y.sc, .slice y.pa y.pn y.pc, .slice y.ha y.hn y.hc, .slice y.ba y.bn y.bc] :: .int .i64 0 :: .tuple #[.agg #[.slice y1.sa y1.sn y1.sc, .slice y1.pa y1.pn y1.pc, .slice y1.ha y1.hn y1.hc, .slice y1.ba y1.bn y1.bc], .slice ta 1 tc, .int .i64 0] :: .agg #[.slice y.sa y.sn y.sc, .slice y.pa y.pn y.pc, .slice y.ha y.hn y.hc, .slice y.ba y.bn y.bc] :: .agg #[.int .i64 0, .int .u64 0] :: .agg #[.int .i64 1, .int .i64 0, .int .i64 0, .int .u64 0] :: .agg #[.int .i64 0, .int .u64 0] :: .agg #[.int .i64 6, .int .i64 0, .int .i64 0, .int .u64 0] :: .agg #[.int .i64 0, .int .u64 0] :: .agg #[.int .i64 1, .int .i64 1, .int .i64 0, .int .u64 0] :: .agg #[.int .i64 0, .int .u64 0] :: .agg #[.int .i64 3, .int .i64 1, .int .i64 0, .int .u64 0] :: .slice (some ⟨v4.heap.size, 0, none⟩) 4 4 :: .tuple #[.agg #[.slice y1.sa y1.sn y1.sc, .slice y1.pa y1.pn y1.pc, .slice y1.ha y1.hn y1.hc, .slice y1.ba y1.bn y1.bc], .slice ta 1 tc, .int .i64 0] :: .agg #[.slice y1.sa y1.sn y1.sc, .slice y1.pa y1.pn y1.pc, .slice y1.ha y1.hn y1.hc, .slice y1.ba y1.bn y1.bc] :: .slice ta 1 tc :: .int .i64 0 :: v 11 :: v 0 :: v 1 :: v 2 :: v 3 :: v 4 :: v 5 :: v 6 :: v 7 :: v 8 :: v 9 :: v 10 :: v 12 :: v 13 :: v 14 :: undef :: undef :: undef :: undef :: undef :: undef :: undef :: undef :: undef :: undef :: undef :: undef :: undef :: undef :: undef :: undef :: undef :: undef :: undef :: undef :: undef :: undef :: undef :: undef :: undef :: undef :: undef :: undef :: undef :: undef :: undef :: undef :: undef :: undef :: undef :: undef :: undef :: undef :: undef :: undef :: undef :: undef :: undef :: undef :: undef :: undef :: undef :: undef :: undef :: undef :: undef :: undef :: undef :: undef :: undef :: undef :: undef :: undef :: undef :: undef :: undef :: undef :: undef :: undef :: undef :: undef :: undef :: undef :: undef :: undef :: undef :: undef :: undef :: undef :: undef :: undef :: undef :: undef :: undef :: undef :: undef :: undef :: undef :: undef :: undef :: undef :: undef :: undef :: undef :: undef :: undef :: undef :: undef :: undef :: undef :: undef :: []).toArray, []⟩ W from ?_)
        rw [hl.trans (by kernel_rfl : _ = 4), hs.trans (by kernel_rfl : _ = #[true, true, true, true, true, true, true, true, true, true, true, true, true, false, true, true, false, false, false])]
        refine wpAny_of_L (S := fun _ => True) (X := 0) _ _ _ _ ?_
        obtain ⟨y3, vs3, tb, tc2, e11, -, ht⟩ := f11
        have e14 : v 14 = .int .i64 0 := hA 14 (by show (14 : Nat) < 19; decide) rfl h14
        clear hl hs hA hC h13 h14
        refine wpAnyL_takeP (i := 13) (oi := { dst := some 53, op := Go.Op.extract (Go.Operand.tmp 40) 1, type := 62, pos := "law.go:23", after := #[{ on := 11, ground := Go.Ground.data }, { on := 16, ground := Go.Ground.gcOnly Go.Departure.lateStores }], guard := none }) (v := .slice tb 1 tc2) rfl (by kernel_rfl) (by kernel_rfl) (by kernel_rfl) (by kernel_rfl) (fun _ _ _ h => hQp _ _ _ _ _ h) (Or.inl ⟨by rfl, ?_⟩) ?_
        · intro W9 _
          go_simp
        try simp only [Act.put, List.setIfInBounds_toArray, List.set_cons_zero, List.set_cons_succ]
        refine wpAnyL_one (i := 16) (o := { dst := none, op := Go.Op.store 29 (Go.Operand.tmp 7) (Go.Operand.tmp 52), type := 0, pos := "law.go:23", after := #[{ on := 15, ground := Go.Ground.data }, { on := 12, ground := Go.Ground.data }, { on := 10, ground := Go.Ground.chain }, { on := 0, ground := Go.Ground.phase }, { on := 1, ground := Go.Ground.phase }, { on := 2, ground := Go.Ground.phase }, { on := 3, ground := Go.Ground.phase }, { on := 4, ground := Go.Ground.phase }, { on := 5, ground := Go.Ground.phase }, { on := 6, ground := Go.Ground.phase }, { on := 7, ground := Go.Ground.phase }, { on := 8, ground := Go.Ground.phase }, { on := 9, ground := Go.Ground.phase }, { on := 10, ground := Go.Ground.phase }, { on := 11, ground := Go.Ground.phase }, { on := 12, ground := Go.Ground.phase }, { on := 13, ground := Go.Ground.textOnly Go.Departure.lateStores }, { on := 14, ground := Go.Ground.textOnly Go.Departure.lateStores }, { on := 15, ground := Go.Ground.phase }], guard := none }) (by kernel_rfl) rfl (fun K hK => ?_)
        have ck0 : W.cell? ⟨B7, 0, none⟩ = some (.slice none 0 0) := hr.cell 0
        have fk0 := hr.frozen 0
        have ck1 : W.cell? ⟨B7, 1, none⟩ = some (.slice none 0 0) := hr.cell 1
        have fk1 := hr.frozen 1
        have ck2 : W.cell? ⟨B7, 2, none⟩ = some (.slice none 0 0) := hr.cell 2
        have fk2 := hr.frozen 2
        have ck3 : W.cell? ⟨B7, 3, none⟩ = some (.slice none 0 0) := hr.cell 3
        have fk3 := hr.frozen 3
        have hlt := hr.lt
        refine step_skip_g (by rfl) (w' := ((((W.setCell ⟨B7, 0, none⟩ (.slice y2.sa y2.sn y2.sc)).setCell ⟨B7, 1, none⟩ (.slice y2.pa y2.pn y2.pc)).setCell ⟨B7, 2, none⟩ (.slice y2.ha y2.hn y2.hc)).setCell ⟨B7, 3, none⟩ (.slice y2.ba y2.bn y2.bc))) (by go_simp) ?_
        clear ck0 fk0 ck1 fk1 ck2 fk2 ck3 fk3 hlt
        have a0 := hB.r1
        have b0 := hB.r2
        have c0 := hB.r3
        have r0 := hr
        have m0 := hm
        have n0 := hB.o
        have t0 := ht
        have s0 := hB.t
        have h0 := hB.bl
        have a1 := a0.setOther (a := ⟨B7, 0, none⟩) (fun e => rows_apart a0 r0 (by decide) e.symm) (.slice y2.sa y2.sn y2.sc)
        have b1 := b0.setOther (a := ⟨B7, 0, none⟩) (fun e => rows_apart b0 r0 (by decide) e.symm) (.slice y2.sa y2.sn y2.sc)
        have c1 := c0.setOther (a := ⟨B7, 0, none⟩) (by show B7 ≠ B3; omega) (.slice y2.sa y2.sn y2.sc)
        have m1 := m0.set r0 (by decide) (by decide) (by decide) (by decide) (by decide) 0 (.slice y2.sa y2.sn y2.sc)
        have n1 := n0.set r0 (by decide) (by decide) (by decide) (by decide) (by decide) 0 (.slice y2.sa y2.sn y2.sc)
        have t1 := owns_setT t0 (a := ⟨B7, 0, none⟩) r0 (by decide) (.slice y2.sa y2.sn y2.sc)
        have s1 := owns_setT s0 (a := ⟨B7, 0, none⟩) r0 (by decide) (.slice y2.sa y2.sn y2.sc)
        have h1 := h0.setCell (p := ⟨B7, 0, none⟩) (by show w.heap.size ≤ B7; have := H31.out; omega) (.slice y2.sa y2.sn y2.sc)
        have r1 := r0.set 0 (.slice y2.sa y2.sn y2.sc)
        simp only [List.setIfInBounds_toArray, List.set_cons_zero, List.set_cons_succ] at r1
        have a2 := a1.setOther (a := ⟨B7, 1, none⟩) (fun e => rows_apart a1 r1 (by decide) e.symm) (.slice y2.pa y2.pn y2.pc)
        have b2 := b1.setOther (a := ⟨B7, 1, none⟩) (fun e => rows_apart b1 r1 (by decide) e.symm) (.slice y2.pa y2.pn y2.pc)
        have c2 := c1.setOther (a := ⟨B7, 1, none⟩) (by show B7 ≠ B3; omega) (.slice y2.pa y2.pn y2.pc)
        have m2 := m1.set r1 (by decide) (by decide) (by decide) (by decide) (by decide) 1 (.slice y2.pa y2.pn y2.pc)
        have n2 := n1.set r1 (by decide) (by decide) (by decide) (by decide) (by decide) 1 (.slice y2.pa y2.pn y2.pc)
        have t2 := owns_setT t1 (a := ⟨B7, 1, none⟩) r1 (by decide) (.slice y2.pa y2.pn y2.pc)
        have s2 := owns_setT s1 (a := ⟨B7, 1, none⟩) r1 (by decide) (.slice y2.pa y2.pn y2.pc)
        have h2 := h1.setCell (p := ⟨B7, 1, none⟩) (by show w.heap.size ≤ B7; have := H31.out; omega) (.slice y2.pa y2.pn y2.pc)
        have r2 := r1.set 1 (.slice y2.pa y2.pn y2.pc)
        simp only [List.setIfInBounds_toArray, List.set_cons_zero, List.set_cons_succ] at r2
        have a3 := a2.setOther (a := ⟨B7, 2, none⟩) (fun e => rows_apart a2 r2 (by decide) e.symm) (.slice y2.ha y2.hn y2.hc)
        have b3 := b2.setOther (a := ⟨B7, 2, none⟩) (fun e => rows_apart b2 r2 (by decide) e.symm) (.slice y2.ha y2.hn y2.hc)
        have c3 := c2.setOther (a := ⟨B7, 2, none⟩) (by show B7 ≠ B3; omega) (.slice y2.ha y2.hn y2.hc)
        have m3 := m2.set r2 (by decide) (by decide) (by decide) (by decide) (by decide) 2 (.slice y2.ha y2.hn y2.hc)
        have n3 := n2.set r2 (by decide) (by decide) (by decide) (by decide) (by decide) 2 (.slice y2.ha y2.hn y2.hc)
        have t3 := owns_setT t2 (a := ⟨B7, 2, none⟩) r2 (by decide) (.slice y2.ha y2.hn y2.hc)
        have s3 := owns_setT s2 (a := ⟨B7, 2, none⟩) r2 (by decide) (.slice y2.ha y2.hn y2.hc)
        have h3 := h2.setCell (p := ⟨B7, 2, none⟩) (by show w.heap.size ≤ B7; have := H31.out; omega) (.slice y2.ha y2.hn y2.hc)
        have r3 := r2.set 2 (.slice y2.ha y2.hn y2.hc)
        simp only [List.setIfInBounds_toArray, List.set_cons_zero, List.set_cons_succ] at r3
        have a4 := a3.setOther (a := ⟨B7, 3, none⟩) (fun e => rows_apart a3 r3 (by decide) e.symm) (.slice y2.ba y2.bn y2.bc)
        have b4 := b3.setOther (a := ⟨B7, 3, none⟩) (fun e => rows_apart b3 r3 (by decide) e.symm) (.slice y2.ba y2.bn y2.bc)
        have c4 := c3.setOther (a := ⟨B7, 3, none⟩) (by show B7 ≠ B3; omega) (.slice y2.ba y2.bn y2.bc)
        have m4 := m3.set r3 (by decide) (by decide) (by decide) (by decide) (by decide) 3 (.slice y2.ba y2.bn y2.bc)
        have n4 := n3.set r3 (by decide) (by decide) (by decide) (by decide) (by decide) 3 (.slice y2.ba y2.bn y2.bc)
        have t4 := owns_setT t3 (a := ⟨B7, 3, none⟩) r3 (by decide) (.slice y2.ba y2.bn y2.bc)
        have s4 := owns_setT s3 (a := ⟨B7, 3, none⟩) r3 (by decide) (.slice y2.ba y2.bn y2.bc)
        have h4 := h3.setCell (p := ⟨B7, 3, none⟩) (by show w.heap.size ≤ B7; have := H31.out; omega) (.slice y2.ba y2.bn y2.bc)
        have r4 := r3.set 3 (.slice y2.ba y2.bn y2.bc)
        simp only [List.setIfInBounds_toArray, List.set_cons_zero, List.set_cons_succ] at r4
        have HBS := Lib.hid (WkB.mk a4 b4 c4 n4 s4 h4)
        have R7 := Lib.hid r4
        have HM2 := Lib.hid m4
        have HT2 : Hid (OwnsP 38 w.heap.size [(0, 1)] (.slice tb 1 tc2) _) := Lib.hid t4
        clear a0 a1 a2 a3 a4 b0 b1 b2 b3 b4 c0 c1 c2 c3 c4 r0 r1 r2 r3 r4 m0 m1 m2 m3 m4 n0 n1 n2 n3 n4 t0 t1 t2 t3 t4 h0 h1 h2 h3 h4 s0 s1 s2 s3 s4 hr hm ht hB
        refine hK.out _ _ (fun _ => trivial) ?_
        clear hK K
        try simp only [Act.put, List.setIfInBounds_toArray, List.set_cons_zero, List.set_cons_succ]
        refine wpAnyL_takeP (i := 17) (oi := { dst := some 8, op := Go.Op.assign (Go.Operand.tmp 53), type := 62, pos := "law.go:23", after := #[{ on := 13, ground := Go.Ground.data }, { on := 16, ground := Go.Ground.chain }, { on := 0, ground := Go.Ground.phase }, { on := 1, ground := Go.Ground.phase }, { on := 2, ground := Go.Ground.phase }, { on := 3, ground := Go.Ground.phase }, { on := 4, ground := Go.Ground.phase }, { on := 5, ground := Go.Ground.phase }, { on := 6, ground := Go.Ground.phase }, { on := 7, ground := Go.Ground.phase }, { on := 8, ground := Go.Ground.phase }, { on := 9, ground := Go.Ground.phase }, { on := 10, ground := Go.Ground.phase }, { on := 11, ground := Go.Ground.phase }, { on := 12, ground := Go.Ground.phase }, { on := 13, ground := Go.Ground.phase }, { on := 14, ground := Go.Ground.textOnly Go.Departure.lateStores }, { on := 15, ground := Go.Ground.phase }, { on := 16, ground := Go.Ground.phase }], guard := none }) (v := .slice tb 1 tc2) rfl (by kernel_rfl) (by kernel_rfl) (by kernel_rfl) (by kernel_rfl) (fun _ _ _ h => hQp _ _ _ _ _ h) (Or.inl ⟨by rfl, ?_⟩) ?_
        · intro W9 _
          go_simp
        try simp only [Act.put, List.setIfInBounds_toArray, List.set_cons_zero, List.set_cons_succ]
        refine wpAnyL_takeP (i := 18) (oi := { dst := some 9, op := Go.Op.assign (Go.Operand.tmp 54), type := 33, pos := "law.go:23", after := #[{ on := 14, ground := Go.Ground.data }, { on := 17, ground := Go.Ground.chain }, { on := 0, ground := Go.Ground.phase }, { on := 1, ground := Go.Ground.phase }, { on := 2, ground := Go.Ground.phase }, { on := 3, ground := Go.Ground.phase }, { on := 4, ground := Go.Ground.phase }, { on := 5, ground := Go.Ground.phase }, { on := 6, ground := Go.Ground.phase }, { on := 7, ground := Go.Ground.phase }, { on := 8, ground := Go.Ground.phase }, { on := 9, ground := Go.Ground.phase }, { on := 10, ground := Go.Ground.phase }, { on := 11, ground := Go.Ground.phase }, { on := 12, ground := Go.Ground.phase }, { on := 13, ground := Go.Ground.phase }, { on := 14, ground := Go.Ground.phase }, { on := 15, ground := Go.Ground.phase }, { on := 16, ground := Go.Ground.phase }, { on := 17, ground := Go.Ground.phase }], guard := none }) (v := .int .i64 0) rfl (by kernel_rfl) (by kernel_rfl) (by kernel_rfl) (by kernel_rfl) (fun _ _ _ h => hQp _ _ _ _ _ h) (Or.inl ⟨by rfl, ?_⟩) ?_
        · intro W9 _
          go_simp
        try simp only [Act.put, List.setIfInBounds_toArray, List.set_cons_zero, List.set_cons_succ]
        refine wpAnyL_end (by kernel_rfl) ?_
        rw [e15]
        exact HK.out B7 y2 vs2 tb tc2 (upd v 13 (.slice tb 1 tc2)) _ hb37 HBS.out R7.out HM2.out HT2.out
    | true =>
      cases h14 : b 14 with
      | false =>
        obtain ⟨hl, hs⟩ := lst_agree (n := 19) (C := (fun j => decide (j ≤ 12 ∨ j = 15))) (A := (fun j => decide (j ≤ 15))) (b := b) (b' := fun j => if j = 13 then true else false) (fun j hj hc ha => by
          have h1 := of_decide_eq_false hc
          have h2 := of_decide_eq_true ha
          have h3 : j = 13 ∨ j = 14 := by omega
          rcases h3 with rfl | rfl
          · exact h13
          · exact h14)
        refine (show wpAny _ _ _ _ (leftOf 19 (fun j => decide (j ≤ 12 ∨ j = 15)) (fun j => decide (j ≤ 15)) b) (lstOf 19 (fun j => decide (j ≤ 12 ∨ j = 15)) (fun j => decide (j ≤ 15)) b) ⟨(.bool false :: .pointer (some ⟨w.heap.size, 0, none⟩) :: .pointer (some ⟨w.heap.size + 1, 0, none⟩) :: .pointer (some ⟨B3, 0, none⟩) :: .int .i64 0 :: .slice ta 1 tc :: .int .i64 0 :: v 15 :: undef :: undef :: undef :: undef :: undef :: undef :: undef :: undef :: undef :: undef :: undef :: .agg #[.int .i64 0, .int .u64 0] :: .agg #[.int .i64 0, .int .u64 0] :: .tuple #[.agg #[.slice y.sa y.sn y.sc, .slice y.pa y.pn y.pc, .slice y.ha y.hn y.hc, .slice y.ba y.bn y.bc], .int .i64 0] :: .tuple #[.agg #[.slice y.sa y.sn y.sc, .slice y.pa y.pn y.pc, .slice y.ha y.hn y.hc, .slice y.ba y.bn y.bc], .int .i64 0] :: .agg #[.slice y.sa y.sn y.sc, .slice y.pa y.pn y.pc, .slice y.ha y.hn y.hc, .slice y.ba y.bn y.bc] :: .int .i64 0 :: .tuple #[.agg #[.slice y1.sa y1.sn y1.sc, .slice y1.pa y1.pn y1.pc, .slice y1.ha y1.hn y1.hc, .slice y1.ba y1.bn y1.bc], .slice ta 1 tc, .int .i64 0] :: .agg #[.slice y.sa y.sn y.sc, .slice y.pa y.pn y.pc, .slice y.ha y.hn y.hc, .slice y.ba y.bn y.bc] :: .agg #[.int .i64 0, .int .u64 0] :: .agg #[.int .i64 1, .int .i64 0, .int .i64 0, .int .u64 0] :: .agg #[.int .i64 0, .int .u64 0] :: .agg #[.int .i64 6, .int .i64 0, .int .i64 0, .int .u64 0] :: .agg #[.int .i64 0, .int .u64 0] :: .agg #[.int .i64 1, .int .i64 1, .int .i64 0, .int .u64 0] :: .agg #[.int .i64 0, .int .u64 0] :: .agg #[.int .i64 3, .int .i64 1, .int .i64 0, .int .u64 0] :: .slice (some ⟨v4.heap.size, 0, none⟩) 4 4 :: .tuple #[.agg #[.slice y1.sa y1.sn y1.sc, .slice y1.pa y1.pn y1.pc, .slice y1.ha y1.hn y1.hc, .slice y1.ba y1.bn y1.bc], .slice ta 1 tc, .int .i64 0] :: .agg #[.slice y1.sa y1.sn y1.sc, .slice y1.pa y1.pn y1.pc, .slice y1.ha y1.hn y1.hc, .slice y1.ba y1.bn y1.bc] :: .slice ta 1 tc :: .int .i64 0 :: v 11 :: v 0 :: v 1 :: v 2 :: v 3 :: v 4 :: v 5 :: v 6 :: v 7 :: v 8 :: v 9 :: v 10 :: v 12 :: v 13 :: v 14 :: undef :: undef :: undef :: undef :: undef :: undef :: undef :: undef :: undef :: undef :: undef :: undef :: undef :: undef :: undef :: undef :: undef :: undef :: undef :: undef :: undef :: undef :: undef :: undef :: undef :: undef :: undef :: undef :: undef :: undef :: undef :: undef :: undef :: undef :: undef :: undef :: undef :: undef :: undef :: undef :: undef :: undef :: undef :: undef :: undef :: undef :: undef :: undef :: undef :: undef :: undef :: undef :: undef :: undef :: undef :: undef :: undef :: undef :: undef :: undef :: undef :: undef :: undef :: undef :: undef :: undef :: undef :: undef :: undef :: undef :: undef :: undef :: undef :: undef :: undef :: undef :: undef :: undef :: undef :: undef :: undef :: undef :: undef :: undef :: undef :: undef :: undef :: undef :: undef :: undef :: undef :: undef :: undef :: undef :: undef :: undef :: []).toArray, []⟩ W from ?_)
        rw [hl.trans (by kernel_rfl : _ = 4), hs.trans (by kernel_rfl : _ = #[true, true, true, true, true, true, true, true, true, true, true, true, true, true, false, true, false, false, false])]
        refine wpAny_of_L (S := fun _ => True) (X := 0) _ _ _ _ ?_
        have f13 : wkF4 w.heap.size B3 y1 13 (v 13) W := hA 13 (by show (13 : Nat) < 19; decide) rfl h13
        obtain ⟨tb, tc2, e13, ht⟩ := f13
        obtain ⟨y3, vs3, tb3, tc3, e11, -, -⟩ := f11
        clear hl hs hA hC h13 h14
        refine wpAnyL_takeP (i := 14) (oi := { dst := some 54, op := Go.Op.extract (Go.Operand.tmp 40) 2, type := 33, pos := "law.go:23", after := #[{ on := 11, ground := Go.Ground.data }, { on := 17, ground := Go.Ground.gcOnly Go.Departure.lateStores }], guard := none }) (v := .int .i64 0) rfl (by kernel_rfl) (by kernel_rfl) (by kernel_rfl) (by kernel_rfl) (fun _ _ _ h => hQp _ _ _ _ _ h) (Or.inl ⟨by rfl, ?_⟩) ?_
        · intro W9 _
          go_simp
        try simp only [Act.put, List.setIfInBounds_toArray, List.set_cons_zero, List.set_cons_succ]
        refine wpAnyL_one (i := 16) (o := { dst := none, op := Go.Op.store 29 (Go.Operand.tmp 7) (Go.Operand.tmp 52), type := 0, pos := "law.go:23", after := #[{ on := 15, ground := Go.Ground.data }, { on := 12, ground := Go.Ground.data }, { on := 10, ground := Go.Ground.chain }, { on := 0, ground := Go.Ground.phase }, { on := 1, ground := Go.Ground.phase }, { on := 2, ground := Go.Ground.phase }, { on := 3, ground := Go.Ground.phase }, { on := 4, ground := Go.Ground.phase }, { on := 5, ground := Go.Ground.phase }, { on := 6, ground := Go.Ground.phase }, { on := 7, ground := Go.Ground.phase }, { on := 8, ground := Go.Ground.phase }, { on := 9, ground := Go.Ground.phase }, { on := 10, ground := Go.Ground.phase }, { on := 11, ground := Go.Ground.phase }, { on := 12, ground := Go.Ground.phase }, { on := 13, ground := Go.Ground.textOnly Go.Departure.lateStores }, { on := 14, ground := Go.Ground.textOnly Go.Departure.lateStores }, { on := 15, ground := Go.Ground.phase }], guard := none }) (by kernel_rfl) rfl (fun K hK => ?_)
        have ck0 : W.cell? ⟨B7, 0, none⟩ = some (.slice none 0 0) := hr.cell 0
        have fk0 := hr.frozen 0
        have ck1 : W.cell? ⟨B7, 1, none⟩ = some (.slice none 0 0) := hr.cell 1
        have fk1 := hr.frozen 1
        have ck2 : W.cell? ⟨B7, 2, none⟩ = some (.slice none 0 0) := hr.cell 2
        have fk2 := hr.frozen 2
        have ck3 : W.cell? ⟨B7, 3, none⟩ = some (.slice none 0 0) := hr.cell 3
        have fk3 := hr.frozen 3
        have hlt := hr.lt
        refine step_skip_g (by rfl) (w' := ((((W.setCell ⟨B7, 0, none⟩ (.slice y2.sa y2.sn y2.sc)).setCell ⟨B7, 1, none⟩ (.slice y2.pa y2.pn y2.pc)).setCell ⟨B7, 2, none⟩ (.slice y2.ha y2.hn y2.hc)).setCell ⟨B7, 3, none⟩ (.slice y2.ba y2.bn y2.bc))) (by go_simp) ?_
        clear ck0 fk0 ck1 fk1 ck2 fk2 ck3 fk3 hlt
        have a0 := hB.r1
        have b0 := hB.r2
        have c0 := hB.r3
        have r0 := hr
        have m0 := hm
        have n0 := hB.o
        have t0 := ht
        have s0 := hB.t
        have h0 := hB.bl
        have a1 := a0.setOther (a := ⟨B7, 0, none⟩) (fun e => rows_apart a0 r0 (by decide) e.symm) (.slice y2.sa y2.sn y2.sc)
        have b1 := b0.setOther (a := ⟨B7, 0, none⟩) (fun e => rows_apart b0 r0 (by decide) e.symm) (.slice y2.sa y2.sn y2.sc)
        have c1 := c0.setOther (a := ⟨B7, 0, none⟩) (by show B7 ≠ B3; omega) (.slice y2.sa y2.sn y2.sc)
        have m1 := m0.set r0 (by decide) (by decide) (by decide) (by decide) (by decide) 0 (.slice y2.sa y2.sn y2.sc)
        have n1 := n0.set r0 (by decide) (by decide) (by decide) (by decide) (by decide) 0 (.slice y2.sa y2.sn y2.sc)
        have t1 := owns_setT t0 (a := ⟨B7, 0, none⟩) r0 (by decide) (.slice y2.sa y2.sn y2.sc)
        have s1 := owns_setT s0 (a := ⟨B7, 0, none⟩) r0 (by decide) (.slice y2.sa y2.sn y2.sc)
        have h1 := h0.setCell (p := ⟨B7, 0, none⟩) (by show w.heap.size ≤ B7; have := H31.out; omega) (.slice y2.sa y2.sn y2.sc)
        have r1 := r0.set 0 (.slice y2.sa y2.sn y2.sc)
        simp only [List.setIfInBounds_toArray, List.set_cons_zero, List.set_cons_succ] at r1
        have a2 := a1.setOther (a := ⟨B7, 1, none⟩) (fun e => rows_apart a1 r1 (by decide) e.symm) (.slice y2.pa y2.pn y2.pc)
        have b2 := b1.setOther (a := ⟨B7, 1, none⟩) (fun e => rows_apart b1 r1 (by decide) e.symm) (.slice y2.pa y2.pn y2.pc)
        have c2 := c1.setOther (a := ⟨B7, 1, none⟩) (by show B7 ≠ B3; omega) (.slice y2.pa y2.pn y2.pc)
        have m2 := m1.set r1 (by decide) (by decide) (by decide) (by decide) (by decide) 1 (.slice y2.pa y2.pn y2.pc)
        have n2 := n1.set r1 (by decide) (by decide) (by decide) (by decide) (by decide) 1 (.slice y2.pa y2.pn y2.pc)
        have t2 := owns_setT t1 (a := ⟨B7, 1, none⟩) r1 (by decide) (.slice y2.pa y2.pn y2.pc)
        have s2 := owns_setT s1 (a := ⟨B7, 1, none⟩) r1 (by decide) (.slice y2.pa y2.pn y2.pc)
        have h2 := h1.setCell (p := ⟨B7, 1, none⟩) (by show w.heap.size ≤ B7; have := H31.out; omega) (.slice y2.pa y2.pn y2.pc)
        have r2 := r1.set 1 (.slice y2.pa y2.pn y2.pc)
        simp only [List.setIfInBounds_toArray, List.set_cons_zero, List.set_cons_succ] at r2
        have a3 := a2.setOther (a := ⟨B7, 2, none⟩) (fun e => rows_apart a2 r2 (by decide) e.symm) (.slice y2.ha y2.hn y2.hc)
        have b3 := b2.setOther (a := ⟨B7, 2, none⟩) (fun e => rows_apart b2 r2 (by decide) e.symm) (.slice y2.ha y2.hn y2.hc)
        have c3 := c2.setOther (a := ⟨B7, 2, none⟩) (by show B7 ≠ B3; omega) (.slice y2.ha y2.hn y2.hc)
        have m3 := m2.set r2 (by decide) (by decide) (by decide) (by decide) (by decide) 2 (.slice y2.ha y2.hn y2.hc)
        have n3 := n2.set r2 (by decide) (by decide) (by decide) (by decide) (by decide) 2 (.slice y2.ha y2.hn y2.hc)
        have t3 := owns_setT t2 (a := ⟨B7, 2, none⟩) r2 (by decide) (.slice y2.ha y2.hn y2.hc)
        have s3 := owns_setT s2 (a := ⟨B7, 2, none⟩) r2 (by decide) (.slice y2.ha y2.hn y2.hc)
        have h3 := h2.setCell (p := ⟨B7, 2, none⟩) (by show w.heap.size ≤ B7; have := H31.out; omega) (.slice y2.ha y2.hn y2.hc)
        have r3 := r2.set 2 (.slice y2.ha y2.hn y2.hc)
        simp only [List.setIfInBounds_toArray, List.set_cons_zero, List.set_cons_succ] at r3
        have a4 := a3.setOther (a := ⟨B7, 3, none⟩) (fun e => rows_apart a3 r3 (by decide) e.symm) (.slice y2.ba y2.bn y2.bc)
        have b4 := b3.setOther (a := ⟨B7, 3, none⟩) (fun e => rows_apart b3 r3 (by decide) e.symm) (.slice y2.ba y2.bn y2.bc)
        have c4 := c3.setOther (a := ⟨B7, 3, none⟩) (by show B7 ≠ B3; omega) (.slice y2.ba y2.bn y2.bc)
        have m4 := m3.set r3 (by decide) (by decide) (by decide) (by decide) (by decide) 3 (.slice y2.ba y2.bn y2.bc)
        have n4 := n3.set r3 (by decide) (by decide) (by decide) (by decide) (by decide) 3 (.slice y2.ba y2.bn y2.bc)
        have t4 := owns_setT t3 (a := ⟨B7, 3, none⟩) r3 (by decide) (.slice y2.ba y2.bn y2.bc)
        have s4 := owns_setT s3 (a := ⟨B7, 3, none⟩) r3 (by decide) (.slice y2.ba y2.bn y2.bc)
        have h4 := h3.setCell (p := ⟨B7, 3, none⟩) (by show w.heap.size ≤ B7; have := H31.out; omega) (.slice y2.ba y2.bn y2.bc)
        have r4 := r3.set 3 (.slice y2.ba y2.bn y2.bc)
        simp only [List.setIfInBounds_toArray, List.set_cons_zero, List.set_cons_succ] at r4
        have HBS := Lib.hid (WkB.mk a4 b4 c4 n4 s4 h4)
        have R7 := Lib.hid r4
        have HM2 := Lib.hid m4
        have HT2 : Hid (OwnsP 38 w.heap.size [(0, 1)] (.slice tb 1 tc2) _) := Lib.hid t4
        clear a0 a1 a2 a3 a4 b0 b1 b2 b3 b4 c0 c1 c2 c3 c4 r0 r1 r2 r3 r4 m0 m1 m2 m3 m4 n0 n1 n2 n3 n4 t0 t1 t2 t3 t4 h0 h1 h2 h3 h4 s0 s1 s2 s3 s4 hr hm ht hB
        refine hK.out _ _ (fun _ => trivial) ?_
        clear hK K
        try simp only [Act.put, List.setIfInBounds_toArray, List.set_cons_zero, List.set_cons_succ]
        refine wpAnyL_takeP (i := 17) (oi := { dst := some 8, op := Go.Op.assign (Go.Operand.tmp 53), type := 62, pos := "law.go:23", after := #[{ on := 13, ground := Go.Ground.data }, { on := 16, ground := Go.Ground.chain }, { on := 0, ground := Go.Ground.phase }, { on := 1, ground := Go.Ground.phase }, { on := 2, ground := Go.Ground.phase }, { on := 3, ground := Go.Ground.phase }, { on := 4, ground := Go.Ground.phase }, { on := 5, ground := Go.Ground.phase }, { on := 6, ground := Go.Ground.phase }, { on := 7, ground := Go.Ground.phase }, { on := 8, ground := Go.Ground.phase }, { on := 9, ground := Go.Ground.phase }, { on := 10, ground := Go.Ground.phase }, { on := 11, ground := Go.Ground.phase }, { on := 12, ground := Go.Ground.phase }, { on := 13, ground := Go.Ground.phase }, { on := 14, ground := Go.Ground.textOnly Go.Departure.lateStores }, { on := 15, ground := Go.Ground.phase }, { on := 16, ground := Go.Ground.phase }], guard := none }) (v := .slice tb 1 tc2) rfl (by kernel_rfl) (by kernel_rfl) (by kernel_rfl) (by kernel_rfl) (fun _ _ _ h => hQp _ _ _ _ _ h) (Or.inl ⟨by rfl, ?_⟩) ?_
        · intro W9 _
          go_simp
        try simp only [Act.put, List.setIfInBounds_toArray, List.set_cons_zero, List.set_cons_succ]
        refine wpAnyL_takeP (i := 18) (oi := { dst := some 9, op := Go.Op.assign (Go.Operand.tmp 54), type := 33, pos := "law.go:23", after := #[{ on := 14, ground := Go.Ground.data }, { on := 17, ground := Go.Ground.chain }, { on := 0, ground := Go.Ground.phase }, { on := 1, ground := Go.Ground.phase }, { on := 2, ground := Go.Ground.phase }, { on := 3, ground := Go.Ground.phase }, { on := 4, ground := Go.Ground.phase }, { on := 5, ground := Go.Ground.phase }, { on := 6, ground := Go.Ground.phase }, { on := 7, ground := Go.Ground.phase }, { on := 8, ground := Go.Ground.phase }, { on := 9, ground := Go.Ground.phase }, { on := 10, ground := Go.Ground.phase }, { on := 11, ground := Go.Ground.phase }, { on := 12, ground := Go.Ground.phase }, { on := 13, ground := Go.Ground.phase }, { on := 14, ground := Go.Ground.phase }, { on := 15, ground := Go.Ground.phase }, { on := 16, ground := Go.Ground.phase }, { on := 17, ground := Go.Ground.phase }], guard := none }) (v := .int .i64 0) rfl (by kernel_rfl) (by kernel_rfl) (by kernel_rfl) (by kernel_rfl) (fun _ _ _ h => hQp _ _ _ _ _ h) (Or.inl ⟨by rfl, ?_⟩) ?_
        · intro W9 _
          go_simp
        try simp only [Act.put, List.setIfInBounds_toArray, List.set_cons_zero, List.set_cons_succ]
        refine wpAnyL_end (by kernel_rfl) ?_
        rw [e15]
        exact HK.out B7 y2 vs2 tb tc2 (upd v 14 (.int .i64 0)) _ hb37 HBS.out R7.out HM2.out HT2.out
      | true =>
        obtain ⟨hl, hs⟩ := lst_agree (n := 19) (C := (fun j => decide (j ≤ 12 ∨ j = 15))) (A := (fun j => decide (j ≤ 15))) (b := b) (b' := fun j => if j = 13 then true else true) (fun j hj hc ha => by
          have h1 := of_decide_eq_false hc
          have h2 := of_decide_eq_true ha
          have h3 : j = 13 ∨ j = 14 := by omega
          rcases h3 with rfl | rfl
          · exact h13
          · exact h14)
        refine (show wpAny _ _ _ _ (leftOf 19 (fun j => decide (j ≤ 12 ∨ j = 15)) (fun j => decide (j ≤ 15)) b) (lstOf 19 (fun j => decide (j ≤ 12 ∨ j = 15)) (fun j => decide (j ≤ 15)) b) ⟨(.bool false :: .pointer (some ⟨w.heap.size, 0, none⟩) :: .pointer (some ⟨w.heap.size + 1, 0, none⟩) :: .pointer (some ⟨B3, 0, none⟩) :: .int .i64 0 :: .slice ta 1 tc :: .int .i64 0 :: v 15 :: undef :: undef :: undef :: undef :: undef :: undef :: undef :: undef :: undef :: undef :: undef :: .agg #[.int .i64 0, .int .u64 0] :: .agg #[.int .i64 0, .int .u64 0] :: .tuple #[.agg #[.slice y.sa y.sn y.sc, .slice y.pa y.pn y.pc, .slice y.ha y.hn y.hc, .slice y.ba y.bn y.bc], .int .i64 0] :: .tuple #[.agg #[.slice y.sa y.sn y.sc, .slice y.pa y.pn y.pc, .slice y.ha y.hn y.hc, .slice y.ba y.bn y.bc], .int .i64 0] :: .agg #[.slice y.sa y.sn y.sc, .slice y.pa y.pn y.pc, .slice y.ha y.hn y.hc, .slice y.ba y.bn y.bc] :: .int .i64 0 :: .tuple #[.agg #[.slice y1.sa y1.sn y1.sc, .slice y1.pa y1.pn y1.pc, .slice y1.ha y1.hn y1.hc, .slice y1.ba y1.bn y1.bc], .slice ta 1 tc, .int .i64 0] :: .agg #[.slice y.sa y.sn y.sc, .slice y.pa y.pn y.pc, .slice y.ha y.hn y.hc, .slice y.ba y.bn y.bc] :: .agg #[.int .i64 0, .int .u64 0] :: .agg #[.int .i64 1, .int .i64 0, .int .i64 0, .int .u64 0] :: .agg #[.int .i64 0, .int .u64 0] :: .agg #[.int .i64 6, .int .i64 0, .int .i64 0, .int .u64 0] :: .agg #[.int .i64 0, .int .u64 0] :: .agg #[.int .i64 1, .int .i64 1, .int .i64 0, .int .u64 0] :: .agg #[.int .i64 0, .int .u64 0] :: .agg #[.int .i64 3, .int .i64 1, .int .i64 0, .int .u64 0] :: .slice (some ⟨v4.heap.size, 0, none⟩) 4 4 :: .tuple #[.agg #[.slice y1.sa y1.sn y1.sc, .slice y1.pa y1.pn y1.pc, .slice y1.ha y1.hn y1.hc, .slice y1.ba y1.bn y1.bc], .slice ta 1 tc, .int .i64 0] :: .agg #[.slice y1.sa y1.sn y1.sc, .slice y1.pa y1.pn y1.pc, .slice y1.ha y1.hn y1.hc, .slice y1.ba y1.bn y1.bc] :: .slice ta 1 tc :: .int .i64 0 :: v 11 :: v 0 :: v 1 :: v 2 :: v 3 :: v 4 :: v 5 :: v 6 :: v 7 :: v 8 :: v 9 :: v 10 :: v 12 :: v 13 :: v 14 :: undef :: undef :: undef :: undef :: undef :: undef :: undef :: undef :: undef :: undef :: undef :: undef :: undef :: undef :: undef :: undef :: undef :: undef :: undef :: undef :: undef :: undef :: undef :: undef :: undef :: undef :: undef :: undef :: undef :: undef :: undef :: undef :: undef :: undef :: undef :: undef :: undef :: undef :: undef :: undef :: undef :: undef :: undef :: undef :: undef :: undef :: undef :: undef :: undef :: undef :: undef :: undef :: undef :: undef :: undef :: undef :: undef :: undef :: undef :: undef :: undef :: undef :: undef :: undef :: undef :: undef :: undef :: undef :: undef :: undef :: undef :: undef :: undef :: undef :: undef :: undef :: undef :: undef :: undef :: undef :: undef :: undef :: undef :: undef :: undef :: undef :: undef :: undef :: undef :: undef :: undef :: undef :: undef :: undef :: undef :: undef :: []).toArray, []⟩ W from ?_)
        rw [hl.trans (by kernel_rfl : _ = 3), hs.trans (by kernel_rfl : _ = #[true, true, true, true, true, true, true, true, true, true, true, true, true, true, true, true, false, false, false])]
        refine wpAny_of_L (S := fun _ => True) (X := 0) _ _ _ _ ?_
        have f13 : wkF4 w.heap.size B3 y1 13 (v 13) W := hA 13 (by show (13 : Nat) < 19; decide) rfl h13
        obtain ⟨tb, tc2, e13, ht⟩ := f13
        have e14 : v 14 = .int .i64 0 := hA 14 (by show (14 : Nat) < 19; decide) rfl h14
        clear hl hs hA hC h13 h14
        refine wpAnyL_one (i := 16) (o := { dst := none, op := Go.Op.store 29 (Go.Operand.tmp 7) (Go.Operand.tmp 52), type := 0, pos := "law.go:23", after := #[{ on := 15, ground := Go.Ground.data }, { on := 12, ground := Go.Ground.data }, { on := 10, ground := Go.Ground.chain }, { on := 0, ground := Go.Ground.phase }, { on := 1, ground := Go.Ground.phase }, { on := 2, ground := Go.Ground.phase }, { on := 3, ground := Go.Ground.phase }, { on := 4, ground := Go.Ground.phase }, { on := 5, ground := Go.Ground.phase }, { on := 6, ground := Go.Ground.phase }, { on := 7, ground := Go.Ground.phase }, { on := 8, ground := Go.Ground.phase }, { on := 9, ground := Go.Ground.phase }, { on := 10, ground := Go.Ground.phase }, { on := 11, ground := Go.Ground.phase }, { on := 12, ground := Go.Ground.phase }, { on := 13, ground := Go.Ground.textOnly Go.Departure.lateStores }, { on := 14, ground := Go.Ground.textOnly Go.Departure.lateStores }, { on := 15, ground := Go.Ground.phase }], guard := none }) (by kernel_rfl) rfl (fun K hK => ?_)
        have ck0 : W.cell? ⟨B7, 0, none⟩ = some (.slice none 0 0) := hr.cell 0
        have fk0 := hr.frozen 0
        have ck1 : W.cell? ⟨B7, 1, none⟩ = some (.slice none 0 0) := hr.cell 1
        have fk1 := hr.frozen 1
        have ck2 : W.cell? ⟨B7, 2, none⟩ = some (.slice none 0 0) := hr.cell 2
        have fk2 := hr.frozen 2
        have ck3 : W.cell? ⟨B7, 3, none⟩ = some (.slice none 0 0) := hr.cell 3
        have fk3 := hr.frozen 3
        have hlt := hr.lt
        refine step_skip_g (by rfl) (w' := ((((W.setCell ⟨B7, 0, none⟩ (.slice y2.sa y2.sn y2.sc)).setCell ⟨B7, 1, none⟩ (.slice y2.pa y2.pn y2.pc)).setCell ⟨B7, 2, none⟩ (.slice y2.ha y2.hn y2.hc)).setCell ⟨B7, 3, none⟩ (.slice y2.ba y2.bn y2.bc))) (by go_simp) ?_
        clear ck0 fk0 ck1 fk1 ck2 fk2 ck3 fk3 hlt
        have a0 := hB.r1
        have b0 := hB.r2
        have c0 := hB.r3
        have r0 := hr
        have m0 := hm
        have n0 := hB.o
        have t0 := ht
        have s0 := hB.t
        have h0 := hB.bl
        have a1 := a0.setOther (a := ⟨B7, 0, none⟩) (fun e => rows_apart a0 r0 (by decide) e.symm) (.slice y2.sa y2.sn y2.sc)
        have b1 := b0.setOther (a := ⟨B7, 0, none⟩) (fun e => rows_apart b0 r0 (by decide) e.symm) (.slice y2.sa y2.sn y2.sc)
        have c1 := c0.setOther (a := ⟨B7, 0, none⟩) (by show B7 ≠ B3; omega) (.slice y2.sa y2.sn y2.sc)
        have m1 := m0.set r0 (by decide) (by decide) (by decide) (by decide) (by decide) 0 (.slice y2.sa y2.sn y2.sc)
        have n1 := n0.set r0 (by decide) (by decide) (by decide) (by decide) (by decide) 0 (.slice y2.sa y2.sn y2.sc)
        have t1 := owns_setT t0 (a := ⟨B7, 0, none⟩) r0 (by decide) (.slice y2.sa y2.sn y2.sc)
        have s1 := owns_setT s0 (a := ⟨B7, 0, none⟩) r0 (by decide) (.slice y2.sa y2.sn y2.sc)
        have h1 := h0.setCell (p := ⟨B7, 0, none⟩) (by show w.heap.size ≤ B7; have := H31.out; omega) (.slice y2.sa y2.sn y2.sc)
        have r1 := r0.set 0 (.slice y2.sa y2.sn y2.sc)
        simp only [List.setIfInBounds_toArray, List.set_cons_zero, List.set_cons_succ] at r1
        have a2 := a1.setOther (a := ⟨B7, 1, none⟩) (fun e => rows_apart a1 r1 (by decide) e.symm) (.slice y2.pa y2.pn y2.pc)
        have b2 := b1.setOther (a := ⟨B7, 1, none⟩) (fun e => rows_apart b1 r1 (by decide) e.symm) (.slice y2.pa y2.pn y2.pc)
        have c2 := c1.setOther (a := ⟨B7, 1, none⟩) (by show B7 ≠ B3; omega) (.slice y2.pa y2.pn y2.pc)
        have m2 := m1.set r1 (by decide) (by decide) (by decide) (by decide) (by decide) 1 (.slice y2.pa y2.pn y2.pc)
        have n2 := n1.set r1 (by decide) (by decide) (by decide) (by decide) (by decide) 1 (.slice y2.pa y2.pn y2.pc)
        have t2 := owns_setT t1 (a := ⟨B7, 1, none⟩) r1 (by decide) (.slice y2.pa y2.pn y2.pc)
        have s2 := owns_setT s1 (a := ⟨B7, 1, none⟩) r1 (by decide) (.slice y2.pa y2.pn y2.pc)
        have h2 := h1.setCell (p := ⟨B7, 1, none⟩) (by show w.heap.size ≤ B7; have := H31.out; omega) (.slice y2.pa y2.pn y2.pc)
        have r2 := r1.set 1 (.slice y2.pa y2.pn y2.pc)
        simp only [List.setIfInBounds_toArray, List.set_cons_zero, List.set_cons_succ] at r2
        have a3 := a2.setOther (a := ⟨B7, 2, none⟩) (fun e => rows_apart a2 r2 (by decide) e.symm) (.slice y2.ha y2.hn y2.hc)
        have b3 := b2.setOther (a := ⟨B7, 2, none⟩) (fun e => rows_apart b2 r2 (by decide) e.symm) (.slice y2.ha y2.hn y2.hc)
        have c3 := c2.setOther (a := ⟨B7, 2, none⟩) (by show B7 ≠ B3; omega) (.slice y2.ha y2.hn y2.hc)
        have m3 := m2.set r2 (by decide) (by decide) (by decide) (by decide) (by decide) 2 (.slice y2.ha y2.hn y2.hc)
        have n3 := n2.set r2 (by decide) (by decide) (by decide) (by decide) (by decide) 2 (.slice y2.ha y2.hn y2.hc)
        have t3 := owns_setT t2 (a := ⟨B7, 2, none⟩) r2 (by decide) (.slice y2.ha y2.hn y2.hc)
        have s3 := owns_setT s2 (a := ⟨B7, 2, none⟩) r2 (by decide) (.slice y2.ha y2.hn y2.hc)
        have h3 := h2.setCell (p := ⟨B7, 2, none⟩) (by show w.heap.size ≤ B7; have := H31.out; omega) (.slice y2.ha y2.hn y2.hc)
        have r3 := r2.set 2 (.slice y2.ha y2.hn y2.hc)
        simp only [List.setIfInBounds_toArray, List.set_cons_zero, List.set_cons_succ] at r3
        have a4 := a3.setOther (a := ⟨B7, 3, none⟩) (fun e => rows_apart a3 r3 (by decide) e.symm) (.slice y2.ba y2.bn y2.bc)
        have b4 := b3.setOther (a := ⟨B7, 3, none⟩) (fun e => rows_apart b3 r3 (by decide) e.symm) (.slice y2.ba y2.bn y2.bc)
        have c4 := c3.setOther (a := ⟨B7, 3, none⟩) (by show B7 ≠ B3; omega) (.slice y2.ba y2.bn y2.bc)
        have m4 := m3.set r3 (by decide) (by decide) (by decide) (by decide) (by decide) 3 (.slice y2.ba y2.bn y2.bc)
        have n4 := n3.set r3 (by decide) (by decide) (by decide) (by decide) (by decide) 3 (.slice y2.ba y2.bn y2.bc)
        have t4 := owns_setT t3 (a := ⟨B7, 3, none⟩) r3 (by decide) (.slice y2.ba y2.bn y2.bc)
        have s4 := owns_setT s3 (a := ⟨B7, 3, none⟩) r3 (by decide) (.slice y2.ba y2.bn y2.bc)
        have h4 := h3.setCell (p := ⟨B7, 3, none⟩) (by show w.heap.size ≤ B7; have := H31.out; omega) (.slice y2.ba y2.bn y2.bc)
        have r4 := r3.set 3 (.slice y2.ba y2.bn y2.bc)
        simp only [List.setIfInBounds_toArray, List.set_cons_zero, List.set_cons_succ] at r4
        have HBS := Lib.hid (WkB.mk a4 b4 c4 n4 s4 h4)
        have R7 := Lib.hid r4
        have HM2 := Lib.hid m4
        have HT2 : Hid (OwnsP 38 w.heap.size [(0, 1)] (.slice tb 1 tc2) _) := Lib.hid t4
        clear a0 a1 a2 a3 a4 b0 b1 b2 b3 b4 c0 c1 c2 c3 c4 r0 r1 r2 r3 r4 m0 m1 m2 m3 m4 n0 n1 n2 n3 n4 t0 t1 t2 t3 t4 h0 h1 h2 h3 h4 s0 s1 s2 s3 s4 hr hm ht hB
        refine hK.out _ _ (fun _ => trivial) ?_
        clear hK K
        try simp only [Act.put, List.setIfInBounds_toArray, List.set_cons_zero, List.set_cons_succ]
        refine wpAnyL_takeP (i := 17) (oi := { dst := some 8, op := Go.Op.assign (Go.Operand.tmp 53), type := 62, pos := "law.go:23", after := #[{ on := 13, ground := Go.Ground.data }, { on := 16, ground := Go.Ground.chain }, { on := 0, ground := Go.Ground.phase }, { on := 1, ground := Go.Ground.phase }, { on := 2, ground := Go.Ground.phase }, { on := 3, ground := Go.Ground.phase }, { on := 4, ground := Go.Ground.phase }, { on := 5, ground := Go.Ground.phase }, { on := 6, ground := Go.Ground.phase }, { on := 7, ground := Go.Ground.phase }, { on := 8, ground := Go.Ground.phase }, { on := 9, ground := Go.Ground.phase }, { on := 10, ground := Go.Ground.phase }, { on := 11, ground := Go.Ground.phase }, { on := 12, ground := Go.Ground.phase }, { on := 13, ground := Go.Ground.phase }, { on := 14, ground := Go.Ground.textOnly Go.Departure.lateStores }, { on := 15, ground := Go.Ground.phase }, { on := 16, ground := Go.Ground.phase }], guard := none }) (v := .slice tb 1 tc2) rfl (by kernel_rfl) (by kernel_rfl) (by kernel_rfl) (by kernel_rfl) (fun _ _ _ h => hQp _ _ _ _ _ h) (Or.inl ⟨by rfl, ?_⟩) ?_
        · intro W9 _
          go_simp
        try simp only [Act.put, List.setIfInBounds_toArray, List.set_cons_zero, List.set_cons_succ]
        refine wpAnyL_takeP (i := 18) (oi := { dst := some 9, op := Go.Op.assign (Go.Operand.tmp 54), type := 33, pos := "law.go:23", after := #[{ on := 14, ground := Go.Ground.data }, { on := 17, ground := Go.Ground.chain }, { on := 0, ground := Go.Ground.phase }, { on := 1, ground := Go.Ground.phase }, { on := 2, ground := Go.Ground.phase }, { on := 3, ground := Go.Ground.phase }, { on := 4, ground := Go.Ground.phase }, { on := 5, ground := Go.Ground.phase }, { on := 6, ground := Go.Ground.phase }, { on := 7, ground := Go.Ground.phase }, { on := 8, ground := Go.Ground.phase }, { on := 9, ground := Go.Ground.phase }, { on := 10, ground := Go.Ground.phase }, { on := 11, ground := Go.Ground.phase }, { on := 12, ground := Go.Ground.phase }, { on := 13, ground := Go.Ground.phase }, { on := 14, ground := Go.Ground.phase }, { on := 15, ground := Go.Ground.phase }, { on := 16, ground := Go.Ground.phase }, { on := 17, ground := Go.Ground.phase }], guard := none }) (v := .int .i64 0) rfl (by kernel_rfl) (by kernel_rfl) (by kernel_rfl) (by kernel_rfl) (fun _ _ _ h => hQp _ _ _ _ _ h) (Or.inl ⟨by rfl, ?_⟩) ?_
        · intro W9 _
          go_simp
        try simp only [Act.put, List.setIfInBounds_toArray, List.set_cons_zero, List.set_cons_succ]
        refine wpAnyL_end (by kernel_rfl) ?_
        rw [e15]
        exact HK.out B7 y2 vs2 tb tc2 v _ hb37 HBS.out R7.out HM2.out HT2.out
end Go.Proofs
