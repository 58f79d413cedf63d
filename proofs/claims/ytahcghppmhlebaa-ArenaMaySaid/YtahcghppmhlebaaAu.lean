/- Arena: the reference. -/
import Derived.Test.YtahcghppmhlebaaAt
namespace Go.Proofs
set_option maxRecDepth 100000
open Go.RowKit Go.Shelf
attribute [local go_sem] Oper.semAt_some

theorem Try.refMany_any (n : Int) (w : World) : Calls Try.prog 18 #[.int .i64 n] w fun e w' => e = .returned (.bool (manyA n)) ∧ w' = w := by
  obtain ⟨b, hb⟩ : ∃ b, b = manyA n := ⟨_, rfl⟩
  rw [← hb]
  unfold manyA at hb
  have HB := Lib.hid hb
  clear hb
  by_cases h1 : 2 ≤ n
  · by_cases h2 : n ≤ 128
    · have h3 : Hid (b = true) := Lib.hid (by rw [HB.out]; simp; omega)
      go_enter Try.func18, Try.ntmps18
      go_wp2
      go_ret
      exact ⟨by rw [h3.out]; first | rfl | simp [h1, h2], rfl⟩
    · have h3 : Hid (b = false) := Lib.hid (by rw [HB.out]; simp; omega)
      go_enter Try.func18, Try.ntmps18
      go_wp2
      go_ret
      exact ⟨by rw [h3.out]; first | rfl | simp [h1, h2], rfl⟩
  · have h3 : Hid (b = false) := Lib.hid (by rw [HB.out]; simp; omega)
    go_enter Try.func18, Try.ntmps18
    go_wp2
    go_ret
    exact ⟨by rw [h3.out]; first | rfl | simp [h1], rfl⟩

set_option maxRecDepth 100000 in
set_option maxHeartbeats 2000000 in
theorem Try.refRight_any (a : Option Addr) (n cap : Nat) (l : List Pr) (w : World) (hI : PAt w (.slice a n cap) l) (hl : n ≤ 10000) :
    Calls Try.prog 7 #[.agg #[.slice a n cap]] w fun e w' => e = .returned (.bool (rightA l)) ∧ Below w.heap.size w w' := by
  have hlen := (pAt_len hI).1
  obtain ⟨r, hr⟩ : ∃ r, r = rightA l := ⟨_, rfl⟩
  rw [← hr]
  unfold rightA at hr
  rw [← hlen] at hr
  have hB0 : Below w.heap.size w (w.alloc (.cells #[.slice a n cap] 24)) := Rows8.newB
  have R0 := Lib.hid (Rows8.new w 24 #[.slice a n cap])
  have HM := fun W => Lib.hid (Try.refMany_any (n : Int) W)
  have HR := Lib.hid hr
  have HI := Lib.hid hI
  have HN := Lib.hid hlen
  have HB0 := Lib.hid hB0
  clear hr hI hlen hB0
  go_enter Try.func7, Try.ntmps7
  go_wp2_with fail
  go_loopw [8] (fun j wr => ∃ k : Nat, k ≤ n ∧ j = .int .i64 k ∧ Hid ((l.take k).all okS = true) ∧ Hid (Rows8 wr w.heap.size 24 #[.slice a n cap]) ∧ Hid (Below w.heap.size w wr)) (fun j _ => n - (intOf j).toNat)
  case atStart => exact ⟨0, Nat.zero_le _, rfl, Lib.hid rfl, R0, HB0⟩
  case round =>
    obtain ⟨k, hk, rfl, hx, hR, hB⟩ := hrel
    by_cases hlt : k < n
    · have hkl : k < l.length := by rw [← HN.out]; exact hlt
      obtain ⟨b, off, rfl, hb2, c0, c1⟩ := pAt_get (PAt.below HI.out hB.out) k hkl
      have hall := all_next l k hkl hx.out
      have hano := all_no (p := okS) l k hkl
      rcases hq : l[k] with ⟨t, g⟩
      rw [hq] at c0 c1 hall hano
      dsimp only at c0 c1
      have HALL := Lib.hid hall
      have HNO := Lib.hid hano
      have hki : (k : Int) < (n : Int) := by omega
      have hal : Below wr.heap.size wr (wr.alloc (.cells #[.int .i64 t, .int .u64 (g : Nat)] 44)) := Rows8.newB
      have HR2 := Lib.hid (hR.out.below hal hR.out.lt)
      have HB2 := Lib.hid (hB.out.trans (hal.mono hB.out.size))
      have hno : okS (t, g) = false → Hid (r = false) := fun h => Lib.hid (by rw [HR.out, HNO.out h, Bool.and_false])
      clear hq hall hano hx hB hR hal
      by_cases h1 : t < 0
      · have h9 := hno (by cases h : okS (t, g) with | false => rfl | true => have := okS_iff.1 h; dsimp only at this; omega)
        clear hno
        go_wp2_with fail
        go_ret
        exact ⟨by rw [h9.out]; rfl, HB2.out⟩
      · by_cases h2 : 2 < t
        · have h9 := hno (by cases h : okS (t, g) with | false => rfl | true => have := okS_iff.1 h; dsimp only at this; omega)
          clear hno
          go_wp2_with fail
          go_ret
          exact ⟨by rw [h9.out]; rfl, HB2.out⟩
        · by_cases h3 : (1099511627775 : Int) < ((g : Nat) : Int)
          · have h9 := hno (by cases h : okS (t, g) with | false => rfl | true => have := okS_iff.1 h; dsimp only at this; omega)
            clear hno
            go_wp2_with fail
            go_ret
            exact ⟨by rw [h9.out]; rfl, HB2.out⟩
          · have h9 : Hid ((l.take (k + 1)).all okS = true) := Lib.hid (by rw [HALL.out]; exact okS_iff.2 ⟨by dsimp only; omega, by dsimp only; omega, by dsimp only; omega⟩)
            clear hno
            go_wp2_with fail
            exact ⟨⟨k + 1, by omega, by go_num, h9, HR2, HB2⟩, by simp [intOf]; omega⟩
    · obtain rfl : k = n := by omega
      have hki : ¬ (k : Int) < (k : Int) := by omega
      have h9 : Hid (r = manyA (k : Int)) := Lib.hid (by
        have h := hx.out
        rw [List.take_of_length_le (Nat.le_of_eq HN.out.symm)] at h
        rw [HR.out, h, Bool.and_true])
      have cR : wr.cell? ⟨w.heap.size, 0, none⟩ = some (.slice a k cap) := hR.out.cell 0
      have lR := hR.out.lt
      clear hx
      go_wp2_with fail
      refine (HM _).out.mono ?_
      rintro e w2 ⟨rfl, rfl⟩
      go_wp2_with fail
      go_ret
      exact ⟨by rw [h9.out]; rfl, hB.out⟩

set_option maxRecDepth 100000 in
set_option maxHeartbeats 4000000 in
theorem Try.refSame_any (a1 a2 : Option Addr) (n1 n2 c1 c2 : Nat) (xs ys : List Pr) (w : World) (h1 : PAt w (.slice a1 n1 c1) xs) (h2 : PAt w (.slice a2 n2 c2) ys) (hl : n1 ≤ 10000) (hl2 : n2 ≤ 10000) :
    Calls Try.prog 10 #[.agg #[.slice a1 n1 c1], .agg #[.slice a2 n2 c2]] w fun e w' => e = .returned (.bool (decide (xs = ys))) ∧ Below w.heap.size w w' := by
  have hB0 : Below w.heap.size w ((w.alloc (.cells #[.slice a1 n1 c1] 24)).alloc (.cells #[.slice a2 n2 c2] 24)) := (Rows8.newB).alloc (by simp) _
  have r0 := (Rows8.new w 24 #[.slice a1 n1 c1]).alloc (.cells #[.slice a2 n2 c2] 24)
  have r1 := Rows8.new (w.alloc (.cells #[.slice a1 n1 c1] 24)) 24 #[.slice a2 n2 c2]
  rw [World.size_alloc] at r1
  have HX := Lib.hid (pAt_len h1).1
  have HY := Lib.hid (pAt_len h2).1
  have H1 := Lib.hid h1
  have H2 := Lib.hid h2
  have R0 := Lib.hid r0
  have R1 := Lib.hid r1
  have HB0 := Lib.hid hB0
  obtain ⟨q, hq⟩ : ∃ q, q = decide (xs = ys) := ⟨_, rfl⟩
  rw [← hq]
  have HQ := Lib.hid hq
  clear h1 h2 r0 r1 hB0 hq
  by_cases hn : n1 = n2
  · subst hn
    have hd : ((n1 : Int) != (n1 : Int)) = false := by simp
    go_enter Try.func10, Try.ntmps10
    go_wp2_with fail
    go_loopw [17] (fun j wr => ∃ k : Nat, k ≤ n1 ∧ j = .int .i64 k ∧ Hid (xs.take k = ys.take k) ∧ Hid (Rows8 wr w.heap.size 24 #[.slice a1 n1 c1]) ∧ Hid (Rows8 wr (w.heap.size + 1) 24 #[.slice a2 n1 c2]) ∧ Hid (Below w.heap.size w wr)) (fun j _ => n1 - (intOf j).toNat)
    case atStart => exact ⟨0, Nat.zero_le _, rfl, Lib.hid rfl, R0, R1, HB0⟩
    case round =>
      obtain ⟨k, hk, rfl, ht, hR0, hR1, hB⟩ := hrel
      by_cases hlt : k < n1
      · have hkx : k < xs.length := by rw [← HX.out]; exact hlt
        have hky : k < ys.length := by rw [← HY.out]; exact hlt
        obtain ⟨b1, o1, rfl, hb1, p0, p1⟩ := pAt_get (PAt.below H1.out hB.out) k hkx
        obtain ⟨b2, o2, rfl, hb2, q0, q1⟩ := pAt_get (PAt.below H2.out hB.out) k hky
        have hki : (k : Int) < (n1 : Int) := by omega
        have hk0 : (0 : Int) ≤ (k : Int) := by omega
        have hnx := fun he => take_eq_nextP ht.out hkx hky he
        have hnq : xs[k] ≠ ys[k] → q = false := fun he => by rw [HQ.out]; exact decide_eq_false (fun h => he (by subst h; rfl))
        rcases hx1 : xs[k] with ⟨x0, x1⟩
        rcases hy1 : ys[k] with ⟨y0, y1⟩
        rw [hx1] at p0 p1
        rw [hy1] at q0 q1
        rw [hx1, hy1] at hnx hnq
        dsimp only at p0 p1 q0 q1
        have hal : Below wr.heap.size wr (wr.alloc (.cells #[.int .i64 x0, .int .u64 (x1 : Nat)] 44)) := Rows8.newB
        have R0' := Lib.hid (hR0.out.below hal hR0.out.lt)
        have R1' := Lib.hid (hR1.out.below hal hR1.out.lt)
        have HB' := Lib.hid (hB.out.trans (hal.mono hB.out.size))
        have s0 : (wr.alloc (.cells #[.int .i64 x0, .int .u64 (x1 : Nat)] 44)).cell? ⟨w.heap.size + 1, 0, none⟩ = some (.slice (some ⟨b2, o2, none⟩) n1 c2) := R1'.out.cell 0
        have s1 : (wr.alloc (.cells #[.int .i64 x0, .int .u64 (x1 : Nat)] 44)).cell? ⟨wr.heap.size, 0, none⟩ = some (.int .i64 x0) := (Rows8.new wr _ _).cell 0
        have s2 : (wr.alloc (.cells #[.int .i64 x0, .int .u64 (x1 : Nat)] 44)).cell? ⟨wr.heap.size, 1, none⟩ = some (.int .u64 (x1 : Nat)) := (Rows8.new wr _ _).cell 1
        have s3 := (hal.cell (p := ⟨b2, o2 + k * 2, none⟩) hb2).trans q0
        have s4 := (hal.cell (p := ⟨b2, o2 + k * 2 + 1, none⟩) hb2).trans q1
        have HNX := Lib.hid hnx
        have HNQ := Lib.hid hnq
        clear hal hR0 hR1 hB hnx hnq hx1 hy1
        go_upto_region 6 with fail
        generalize hW9 : (wr.alloc (.cells #[.int .i64 x0, .int .u64 (x1 : Nat)] 44)) = W9 at *
        clear hW9
        by_cases he : x0 = y0 ∧ x1 = y1
        · obtain ⟨rfl, rfl⟩ := he
          have HN2 := Lib.hid (HNX.out rfl)
          have d0 : (x0 == x0) = true := by simp
          have d1 : (((x1 : Nat) : Int) == ((x1 : Nat) : Int)) = true := by simp
          have c0 : (x0 != x0) = false := by simp
          have c1 : (((x1 : Nat) : Int) != ((x1 : Nat) : Int)) = false := by simp
          go_quiet (fail)
          go_wp2_with fail
          exact ⟨⟨k + 1, by omega, by go_num, HN2, Lib.hid (R0'.out), Lib.hid (R1'.out), Lib.hid (below_drewN HB'.out _)⟩, by simp [intOf]; omega⟩
        · have HF := Lib.hid (HNQ.out (fun h => he (by injection h with e1 e2; exact ⟨e1, e2⟩)))
          have hs : x0 ≠ y0 ∨ (x0 = y0 ∧ x1 ≠ y1) := by by_cases h0 : x0 = y0; exact .inr ⟨h0, fun h1 => he ⟨h0, h1⟩⟩; exact .inl h0
          clear he
          rcases hs with h | ⟨rfl, h⟩
          · have d0 : (x0 == y0) = false := by simp [h]
            have c0 : (x0 != y0) = true := by simp [h]
            go_quiet (fail)
            go_wp2_with fail
            go_ret
            exact ⟨by rw [HF.out]; rfl, below_drewN HB'.out _⟩
          · have d0 : (x0 == x0) = true := by simp
            have c0 : (x0 != x0) = false := by simp
            have d1 : (((x1 : Nat) : Int) == ((y1 : Nat) : Int)) = false := by simp; omega
            have c1 : (((x1 : Nat) : Int) != ((y1 : Nat) : Int)) = true := by simp; omega
            go_quiet (fail)
            go_wp2_with fail
            go_ret
            exact ⟨by rw [HF.out]; rfl, below_drewN HB'.out _⟩
      · obtain rfl : k = n1 := by omega
        have hki : ¬ (k : Int) < (k : Int) := by omega
        have HF := Lib.hid (show q = true by
          have h := ht.out
          rw [List.take_of_length_le (by rw [← HX.out]; exact Nat.le_refl _), List.take_of_length_le (by rw [← HY.out]; exact Nat.le_refl _)] at h
          rw [HQ.out]
          exact decide_eq_true h)
        clear ht
        go_wp2_with fail
        go_ret
        exact ⟨by rw [HF.out]; rfl, hB.out⟩
  · have hd : ((n1 : Int) != (n2 : Int)) = true := by simp; omega
    have HF := Lib.hid (show q = false by rw [HQ.out]; exact decide_eq_false (fun h => hn (by rw [HX.out, HY.out, h])))
    go_enter Try.func10, Try.ntmps10
    go_wp2_with fail
    go_ret
    exact ⟨by rw [HF.out]; rfl, HB0.out⟩

set_option maxRecDepth 100000 in
set_option maxHeartbeats 2000000 in
theorem Try.refMeant_any (a : Option Addr) (n cap : Nat) (l : List Pr) (e : Pr) (w : World) (hI : PAt w (.slice a n cap) l) :
    Calls Try.prog 16 #[.agg #[.slice a n cap], .agg #[.int .i64 e.1, .int .u64 (e.2 : Nat)]] w fun r w' => r = .returned (.bool (tagB l e)) ∧ Below w.heap.size w w' := by
  have hlen := (pAt_len hI).1
  obtain ⟨b, hb⟩ : ∃ b, b = tagB l e := ⟨_, rfl⟩
  rw [← hb]
  have hB0 : Below w.heap.size w ((w.alloc (.cells #[.slice a n cap] 24)).alloc (.cells #[.int .i64 e.1, .int .u64 (e.2 : Nat)] 37)) := (Rows8.newB).alloc (by simp) _
  have h0 := (Rows8.new w 24 #[.slice a n cap]).alloc (.cells #[.int .i64 e.1, .int .u64 (e.2 : Nat)] 37)
  have h1 := Rows8.new (w.alloc (.cells #[.slice a n cap] 24)) 37 #[.int .i64 e.1, .int .u64 (e.2 : Nat)]
  rw [World.size_alloc] at h1
  have HI0 := Lib.hid (PAt.below hI hB0)
  have HB := Lib.hid hb
  have HB0 := Lib.hid hB0
  have HL := Lib.hid hlen
  clear hb hlen hB0 hI
  obtain ⟨i, g⟩ := e
  dsimp only at h0 h1 HI0 HB0 ⊢
  go_enter Try.func16, Try.ntmps16
  go_wp2_with fail
  generalize ((w.alloc (.cells #[.slice a n cap] 24)).alloc (.cells #[.int .i64 i, .int .u64 (g : Nat)] 37)) = W0 at *
  have c0 : W0.cell? ⟨w.heap.size, 0, none⟩ = some (.slice a n cap) := h0.cell 0
  have c1 : W0.cell? ⟨w.heap.size + 1, 0, none⟩ = some (.int .i64 i) := h1.cell 0
  have c2 : W0.cell? ⟨w.heap.size + 1, 1, none⟩ = some (.int .u64 (g : Nat)) := h1.cell 1
  clear h0 h1
  have hno : ¬ (∃ j : Nat, i = (j : Int) ∧ ∃ h : j < l.length, l[j].2 = g) → Hid (b = false) := fun h => Lib.hid (by
    have h2 : tagB l (i, g) = false := by cases hq : tagB l (i, g) with | false => rfl | true => exact absurd (tagB_iff.1 hq) h
    rw [HB.out, h2])
  by_cases hi0 : 0 ≤ i
  · have d0 : decide (0 ≤ i) = true := by simpa using hi0
    by_cases hin : i < (n : Int)
    · have d1 : decide (i < (n : Int)) = true := by simpa using hin
      obtain ⟨j, rfl⟩ : ∃ j : Nat, i = j := ⟨i.toNat, by omega⟩
      have hjl : j < l.length := by have := HL.out; omega
      obtain ⟨bb, off, rfl, hbl, p0, p1⟩ := pAt_get HI0.out j hjl
      have hj0 : (0 : Int) ≤ (j : Int) := by omega
      by_cases hg : l[j].2 = g
      · have hr : Hid (b = true) := Lib.hid (by have h := tagA_at (e := (j, g)) rfl hjl hg; rw [HB.out, h.1])
        rw [hg] at p1
        have d2 : (((g : Nat) : Int) == ((g : Nat) : Int)) = true := by simp
        clear hg hno
        go_quiet (fail)
        go_wp2_with fail
        go_ret
        exact ⟨by rw [hr.out]; rfl, below_drewN HB0.out _⟩
      · have hr := hno (by rintro ⟨j', e', h', h''⟩; exact hg (by obtain rfl : j = j' := (by omega); exact h''))
        have d2 : (((l[j].2 : Nat) : Int) == ((g : Nat) : Int)) = false := by simp; omega
        clear hg hno
        generalize l[j].2 = g' at *
        go_quiet (fail)
        go_wp2_with fail
        go_ret
        exact ⟨by rw [hr.out]; rfl, below_drewN HB0.out _⟩
    · have hr := hno (by rintro ⟨j, rfl, hj, _⟩; have := HL.out; omega)
      have d1 : decide (i < (n : Int)) = false := by simpa using hin
      go_quiet (fail)
      go_wp2_with fail
      go_ret
      exact ⟨by rw [hr.out]; rfl, below_drewN HB0.out _⟩
  · have hr := hno (by rintro ⟨j, rfl, _⟩; omega)
    have d0 : decide (0 ≤ i) = false := by simpa using hi0
    go_quiet (fail)
    go_wp2_with fail
    go_ret
    exact ⟨by rw [hr.out]; rfl, below_drewN HB0.out _⟩
end Go.Proofs
