/- Arena: spoil; the reference's Retire, Give, Take. -/
import Derived.Test.YteldjolofglnpaaAv
namespace Go.Proofs
open Go.RowKit Go.Shelf
attribute [local go_sem] Oper.semAt_some

set_option maxRecDepth 100000 in
set_option maxHeartbeats 4000000 in
theorem Try.spoil_any (n₀ : Nat) (v : Value) (l : List Pr) (hl : l.length ≤ 10000) (w : World) (hO : OwnsP 44 n₀ l v w) (hn₀ : n₀ ≤ w.heap.size) :
    Calls Try.prog 29 #[.agg #[v]] w fun e w' => e = .returned (.tuple #[]) ∧ Below n₀ w w' := by
  obtain ⟨a, c, hv⟩ := hO.form
  obtain ⟨n, hn⟩ : ∃ n, n = l.length := ⟨_, rfl⟩
  rw [← hn] at hv
  subst hv
  have hB0 : Below w.heap.size w (w.alloc (.cells #[.slice a n c] 24)) := Rows8.newB
  have R0 := Lib.hid (Rows8.new w 24 #[.slice a n c])
  have O0 := Lib.hid (OwnsP.below hO hB0 (Nat.le_refl _))
  have B0 := Lib.hid (hB0.mono hn₀)
  have HN := Lib.hid hn
  have hn10 : n ≤ 10000 := by omega
  clear hB0 hO hn
  go_enter Try.func29, Try.ntmps29
  go_wp2_with fail
  go_loopw [2, 6] (fun _ j wr => ∃ (k : Nat) (lk : List Pr), k ≤ n ∧ j = .int .i64 k ∧ Hid (n = lk.length) ∧ Hid (Rows8 wr w.heap.size 24 #[.slice a n c]) ∧ Hid (OwnsP 44 n₀ lk (.slice a n c) wr) ∧ Hid (Below n₀ w wr)) (fun _ j _ => n - (intOf j).toNat)
  case atStart => exact ⟨0, l, Nat.zero_le _, rfl, HN, R0, O0, B0⟩
  case round =>
    obtain ⟨k, lk, hk, rfl, hnk, hR, hO, hB⟩ := hrel
    by_cases hlt : k < n
    · have hkl : k < lk.length := by rw [← hnk.out]; exact hlt
      obtain ⟨g, cs, rfl, hg, _, hrow, p0, p1⟩ := hO.out.block k hkl
      have hki : (k : Int) < (n : Int) := by omega
      have hk0 : (0 : Int) ≤ (k : Int) := by omega
      have cR : wr.cell? ⟨w.heap.size, 0, none⟩ = some (.slice (some ⟨g, 0, none⟩) n c) := hR.out.cell 0
      have lR := hR.out.lt
      have lg := hrow.lt
      have fg := hrow.frozen (k * 2 + 1)
      obtain ⟨x, hx⟩ : ∃ x : Nat, IntKind.u64.wrap (((lk[k].2 : Nat) : Int) + 1) = (x : Int) := ⟨(lk[k].2 + 1) % 18446744073709551616, by rw [IntKind.wrap_u64]; omega⟩
      have O1 := Lib.hid (hO.out.set1 hnk.out k hkl x)
      have R1 := Lib.hid (hR.out.setOther (a := ⟨g, k * 2 + 1, none⟩) (fun e => rows_apart hR.out hrow (by decide) e.symm) (.int .u64 (x : Nat)))
      have B1 := Lib.hid (hB.out.setCell (p := ⟨g, k * 2 + 1, none⟩) hg (.int .u64 (x : Nat)))
      have HL := Lib.hid (show n = (lk.set k (lk[k].1, x)).length by rw [List.length_set]; exact hnk.out)
      generalize lk.set k (lk[k].1, x) = lk2 at *
      generalize lk[k].2 = y at *
      generalize lk[k].1 = z at *
      clear hrow hkl hO hR hB hnk
      go_wp2_with fail
      exact ⟨⟨k + 1, lk2, by omega, by go_num, HL, R1, O1, B1⟩, by simp [intOf]; omega⟩
    · obtain rfl : k = n := by omega
      have hki : ¬ (k : Int) < (k : Int) := by omega
      go_wp2_with fail
      go_end0
      exact ⟨rfl, hB.out⟩

theorem cell_set_other {W : World} {a p : Addr} (h : a.block ≠ p.block) (u : Value) : (W.setCell p u).cell? a = W.cell? a := World.cell?_of_block (w := W) (Below.heap_setCell W p u a.block h)
/-- A row that lies elsewhere stays. -/
theorem pAt_set {W : World} {x : Option Addr} {n c : Nat} {l : List Pr} (h : PAt W (.slice x n c) l) {p : Addr} (hne : ∀ y, x = some y → y.block ≠ p.block) (u : Value) : PAt (W.setCell p u) (.slice x n c) l := by
  obtain ⟨h0, a, cap, e, h1, h2, h3, h4⟩ := h
  cases e
  refine ⟨h0, _, _, rfl, h1, h2, h3, fun j hj => ?_⟩
  obtain ⟨b, off, e, hb, hc⟩ := h4 j hj
  exact ⟨b, off, e, by simpa [World.setCell] using hb, by rw [cell_set_other (a := ⟨b, off + j, none⟩) (show b ≠ p.block from hne ⟨b, off, none⟩ e)]; exact hc⟩
theorem owns_apart {T : TypeId} {n₀ : Nat} {l : List Pr} {x : Option Addr} {n c B : Nat} {W : World} (o : OwnsP T n₀ l (.slice x n c) W) (hB : B < n₀) : ∀ y, x = some y → y.block ≠ B := fun y e => by
  rcases o.2 with ⟨h, _⟩ | ⟨g, cap, cur, h, hg, _⟩
  · cases h; cases e
  · cases h; cases e; intro h2; have h3 : g = B := h2; omega
/-- What the reference says of a change. -/
def RefQ (w : World) (R : Int × List Pr) (e : Ending) (w' : World) : Prop := ∃ a n c, e = .returned (.tuple #[.agg #[.slice a n c], .int .i64 R.1]) ∧ PAt w' (.slice a n c) (if R.1 = 0 then R.2 else []) ∧ Below w.heap.size w w'

set_option maxRecDepth 100000 in
set_option maxHeartbeats 8000000 in
theorem Try.refRetire_any (a : Option Addr) (n cap : Nat) (l : List Pr) (ae : Option Addr) (ne ce : Nat) (es : List Pr) (hne : ne ≤ 10000) (hr : rightA l = true) (w : World) (hI : PAt w (.slice a n cap) l) (hE : PAt w (.slice ae ne ce) es) :
    Calls Try.prog 27 #[.agg #[.slice a n cap], .slice ae ne ce] w (RefQ w (retR l es)) := by
  have hn := (pAt_len hI).1
  have hen := (pAt_len hE).1
  have hri := rightA_iff.1 hr
  have hl : n ≤ 10000 := by omega
  obtain ⟨R, hR⟩ : ∃ R, R = eachR retE retS l es := ⟨_, rfl⟩
  rw [show retR l es = R from hR.symm]
  have hB0 : Below w.heap.size w ((w.alloc (.cells #[.slice a n cap] 24)).alloc (.cells #[.slice none 0 0] 24)) := (Rows8.newB).alloc (by simp) _
  have ra := (Rows8.new w 24 #[.slice a n cap]).alloc (.cells #[.slice none 0 0] 24)
  have rb := Rows8.new (w.alloc (.cells #[.slice a n cap] 24)) 24 #[.slice none 0 0]
  rw [World.size_alloc] at rb
  have RA0 := Lib.hid ra
  have RB0 := Lib.hid rb
  have P0 := Lib.hid (PAt.below hI hB0)
  have Q0 : Hid (∀ y, a = some y → y.block ≠ w.heap.size + 1) := Lib.hid (fun y e => by
    obtain ⟨b, off, e2, hb, _⟩ := pAt_get hI 0 (by omega)
    rw [e] at e2
    cases e2
    show b ≠ w.heap.size + 1
    omega)
  have B0 := Lib.hid hB0
  have HE := Lib.hid hE
  have HN := Lib.hid hn
  have HEN := Lib.hid hen
  have HR := Lib.hid hR
  have HI := Lib.hid hri.2
  clear hB0 ra rb hI hE hn hen hR hri hr
  go_enter Try.func27, Try.ntmps27
  go_wp2_with fail
  go_loopw [10] (fun j wr => ∃ (k : Nat) (lk : List Pr) (ak : Option Addr) (ck : Nat), k ≤ ne ∧ j = .int .i64 k ∧ Hid (n = lk.length) ∧ Hid (∀ s ∈ lk, okS s = true) ∧ Hid (R = eachR retE retS lk (es.drop k)) ∧ Hid (Rows8 wr (w.heap.size) 24 #[.slice ak n ck]) ∧ Hid (Rows8 wr (w.heap.size + 1) 24 #[.slice none 0 0]) ∧ Hid (PAt wr (.slice ak n ck) lk) ∧ Hid (∀ y, ak = some y → y.block ≠ w.heap.size + 1) ∧ Hid (Below w.heap.size w wr)) (fun j _ => ne - (intOf j).toNat)
  case atStart => exact ⟨0, l, a, cap, Nat.zero_le _, rfl, HN, HI, HR, RA0, RB0, P0, Q0, B0⟩
  case round =>
    obtain ⟨k, lk, ak, ck, hk, rfl, hnk, hin, hR1, hRA, hRB, hP, hQ, hB⟩ := hrel
    by_cases hlt : k < ne
    · have hkl : k < es.length := by rw [← HEN.out]; exact hlt
      obtain ⟨b, off, rfl, hb2, c0, c1⟩ := pAt_get (PAt.below HE.out hB.out) k hkl
      have hr2 := hR1.out
      rw [drop_nextP es k hkl] at hr2
      rcases hq : es[k] with ⟨i, g⟩
      rw [hq] at c0 c1 hr2
      dsimp only at c0 c1
      have hki : (k : Int) < (ne : Int) := by omega
      have hal : Below wr.heap.size wr (wr.alloc (.cells #[.int .i64 i, .int .u64 (g : Nat)] 37)) := Rows8.newB
      have re := Rows8.new wr 37 #[.int .i64 i, .int .u64 (g : Nat)]
      have HM := Lib.hid (Try.refMeant_any ak n ck lk (i, g) _ (PAt.below hP.out hal))
      have HR1 := Lib.hid hr2
      have RA1 := Lib.hid (hRA.out.below hal hRA.out.lt)
      have RB1 := Lib.hid (hRB.out.below hal hRB.out.lt)
      have RE1 := Lib.hid re
      have P1 := Lib.hid (PAt.below hP.out hal)
      have B1 := Lib.hid (hB.out.trans (hal.mono hB.out.size))
      have cA1 : (wr.alloc (.cells #[.int .i64 i, .int .u64 (g : Nat)] 37)).cell? ⟨w.heap.size, 0, none⟩ = some (.slice ak n ck) := RA1.out.cell 0
      have lA1 := hRA.out.lt
      clear hq hr2 hkl hal re hRA hRB hP hB hR1
      go_wp2_with fail
      refine HM.out.mono ?_
      rintro e u2 ⟨rfl, hB2⟩
      have RA2 := Lib.hid (RA1.out.below hB2 RA1.out.lt)
      have RB2 := Lib.hid (RB1.out.below hB2 RB1.out.lt)
      have re2 := RE1.out.below hB2 RE1.out.lt
      have P2 := Lib.hid (PAt.below P1.out hB2)
      have B2 := Lib.hid (B1.out.trans (hB2.mono B1.out.size))
      have cA2 : u2.cell? ⟨w.heap.size, 0, none⟩ = some (.slice ak n ck) := RA2.out.cell 0
      have cE0 : u2.cell? ⟨wr.heap.size, 0, none⟩ = some (.int .i64 i) := re2.cell 0
      have cE1 : u2.cell? ⟨wr.heap.size, 1, none⟩ = some (.int .u64 (g : Nat)) := re2.cell 1
      clear hB2 RA1 RB1 RE1 re2 P1 B1 HM cA1
      cases hm : tagB lk (i, g) with
      | true =>
        obtain ⟨j, rfl, hj, hg⟩ := tagB_iff.1 hm
        have htag := (tagA_at (e := ((j : Int), g)) rfl hj hg).2
        have hgk := (okS_iff.1 (hin.out _ (List.getElem_mem hj))).2.2
        rw [hg] at hgk
        dsimp only at hgk
        obtain ⟨bb, of2, hak, hbb, p0, p1⟩ := pAt_get P2.out j hj
        subst hak
        have hjn0 : j < n := by have := hnk.out; omega
        have hji : (j : Int) < (n : Int) := by omega
        have hj0 : (0 : Int) ≤ (j : Int) := by omega
        obtain ⟨tt, htt⟩ : ∃ tt, tt = lk[j].1 := ⟨_, rfl⟩
        rw [← htt] at p0 htag
        have HTG := Lib.hid htag
        clear hm p1 htag hg htt
        by_cases h1 : tt = 1
        · have hd1 : (tt != 1) = false := by simp [h1]
          have hjn : j < n := by omega
          have HW := Lib.hid (Try.with_any (some ⟨bb, of2, none⟩) n ck lk j 2 g hjn u2 P2.out hl)
          have hcast : ((g + 1 : Nat) : Int) = (g : Int) + 1 := by omega

          have HR9 := Lib.hid (show R = eachR retE retS (lk.set j (2, g)) (es.drop (k + 1)) by rw [HR1.out, eachR_step, show retE lk ((j : Int), g) = 0 from (by unfold retE; rw [HTG.out, if_pos h1]), if_pos rfl]; unfold retS; rw [Int.toNat_natCast])
          have HI9 := Lib.hid (show ∀ s ∈ lk.set j (2, g), okS s = true from set_ok hin.out (okS_iff.2 ⟨by simp, by simp, by dsimp only; omega⟩) j)
          have HL9 := Lib.hid (show n = (lk.set j (2, g)).length by rw [List.length_set]; exact hnk.out)
          clear hcast
          go_wp2_with fail
          refine HW.out.mono ?_
          rintro e u3 ⟨v, rfl, hO, hB3⟩
          obtain ⟨a3, c3, hv⟩ := hO.form
          rw [← HL9.out] at hv
          subst hv
          have ra := RA2.out.below hB3 RA2.out.lt
          have rb := RB2.out.below hB3 RB2.out.lt
          have ca : u3.cell? ⟨w.heap.size, 0, none⟩ = some (.slice (some ⟨bb, of2, none⟩) n ck) := ra.cell 0
          have fa := ra.frozen 0
          have ra2 := ra.set 0 (.slice a3 n c3)
          simp only [List.setIfInBounds_toArray, List.set_cons_zero] at ra2
          have RA3 := Lib.hid ra2
          have RB3 := Lib.hid (rb.setOther (a := ⟨w.heap.size, 0, none⟩) (by simp) (.slice a3 n c3))
          have P3 := Lib.hid (OwnsP.at (hO.setNe (a := ⟨w.heap.size, 0, none⟩) ra (by decide) (.slice a3 n c3)))
          have Q3 : Hid (∀ y, a3 = some y → y.block ≠ w.heap.size + 1) := Lib.hid (owns_apart hO RB2.out.lt)
          have B3 := Lib.hid ((B2.out.trans (hB3.mono B2.out.size)).setCell (p := ⟨w.heap.size, 0, none⟩) (Nat.le_refl _) (.slice a3 n c3))
          generalize lk.set j (2, g) = lk9 at *
          clear ra rb ra2 hO hB3 HW
          go_wp2_with fail
          exact ⟨⟨k + 1, lk9, a3, c3, by omega, by go_num, HL9, HI9, HR9, RA3, RB3, P3, Q3, B3⟩, by simp [intOf]; omega⟩
        · have hd1 : (tt != 1) = true := by simp [h1]
          have HR9 := Lib.hid (show R = (4, lk) by rw [HR1.out, eachR_step, show retE lk _ = 4 from (by unfold retE; rw [HTG.out, if_neg h1])]; rfl)
          have cr : u2.cell? ⟨w.heap.size + 1, 0, none⟩ = some (.slice none 0 0) := RB2.out.cell 0
          have fr := RB2.out.frozen 0
          have r9 := RB2.out.set 0 (.slice none 0 0)
          simp only [List.setIfInBounds_toArray, List.set_cons_zero] at r9
          have R9 := Lib.hid r9
          have B9 := Lib.hid (B2.out.setCell (p := ⟨w.heap.size + 1, 0, none⟩) (by simp) (.slice none 0 0))
          clear r9
          go_wp2_with fail
          refine bodyPost_ret (results_ctA rfl _ _ (w.heap.size + 1) _ _ rfl rfl (load_row R9.out Try.underlying24 rfl (by kernel_rfl))) rfl ?_
          exact ⟨none, 0, 0, by rw [HR9.out]; rfl, by rw [HR9.out]; exact pAt_none _, B9.out⟩
      | false =>
        have HTG := Lib.hid (tagA_no hm)
        clear hm
        have HR9 := Lib.hid (show R = (4, lk) by rw [HR1.out, eachR_step, show retE lk _ = 4 from (by unfold retE; rw [HTG.out]; rfl)]; rfl)
        have cr : u2.cell? ⟨w.heap.size + 1, 0, none⟩ = some (.slice none 0 0) := RB2.out.cell 0
        have fr := RB2.out.frozen 0
        have r9 := RB2.out.set 0 (.slice none 0 0)
        simp only [List.setIfInBounds_toArray, List.set_cons_zero] at r9
        have R9 := Lib.hid r9
        have B9 := Lib.hid (B2.out.setCell (p := ⟨w.heap.size + 1, 0, none⟩) (by simp) (.slice none 0 0))
        clear r9
        go_wp2_with fail
        refine bodyPost_ret (results_ctA rfl _ _ (w.heap.size + 1) _ _ rfl rfl (load_row R9.out Try.underlying24 rfl (by kernel_rfl))) rfl ?_
        exact ⟨none, 0, 0, by rw [HR9.out]; rfl, by rw [HR9.out]; exact pAt_none _, B9.out⟩
    · obtain rfl : k = ne := by omega
      have hki : ¬ (k : Int) < (k : Int) := by omega
      have HR9 := Lib.hid (show R = (0, lk) by rw [hR1.out, List.drop_of_length_le (Nat.le_of_eq HEN.out.symm)]; rfl)
      have cA : wr.cell? ⟨w.heap.size, 0, none⟩ = some (.slice ak n ck) := hRA.out.cell 0
      have cr : wr.cell? ⟨w.heap.size + 1, 0, none⟩ = some (.slice none 0 0) := hRB.out.cell 0
      have fr := hRB.out.frozen 0
      have lA := hRA.out.lt
      have lB := hRB.out.lt
      have r9 := hRB.out.set 0 (.slice ak n ck)
      simp only [List.setIfInBounds_toArray, List.set_cons_zero] at r9
      have R9 := Lib.hid r9
      have B9 := Lib.hid (hB.out.setCell (p := ⟨w.heap.size + 1, 0, none⟩) (by simp) (.slice ak n ck))
      have P9 := Lib.hid (pAt_set hP.out (p := ⟨w.heap.size + 1, 0, none⟩) hQ.out (.slice ak n ck))
      clear r9 hR1
      go_wp2_with fail
      refine bodyPost_ret (results_ctA rfl _ _ (w.heap.size + 1) _ _ rfl rfl (load_row R9.out Try.underlying24 rfl (by kernel_rfl))) rfl ?_
      exact ⟨ak, n, ck, by rw [HR9.out]; rfl, by rw [HR9.out]; exact P9.out, B9.out⟩

set_option maxRecDepth 100000 in
set_option maxHeartbeats 8000000 in
theorem Try.refGive_any (a : Option Addr) (n cap : Nat) (l : List Pr) (ae : Option Addr) (ne ce : Nat) (es : List Pr) (hne : ne ≤ 10000) (hr : rightA l = true) (w : World) (hI : PAt w (.slice a n cap) l) (hE : PAt w (.slice ae ne ce) es) :
    Calls Try.prog 28 #[.agg #[.slice a n cap], .slice ae ne ce] w (RefQ w (givR l es)) := by
  have hn := (pAt_len hI).1
  have hen := (pAt_len hE).1
  have hri := rightA_iff.1 hr
  have hl : n ≤ 10000 := by omega
  obtain ⟨R, hR⟩ : ∃ R, R = eachR givE givS l es := ⟨_, rfl⟩
  rw [show givR l es = R from hR.symm]
  have hB0 : Below w.heap.size w ((w.alloc (.cells #[.slice a n cap] 24)).alloc (.cells #[.slice none 0 0] 24)) := (Rows8.newB).alloc (by simp) _
  have ra := (Rows8.new w 24 #[.slice a n cap]).alloc (.cells #[.slice none 0 0] 24)
  have rb := Rows8.new (w.alloc (.cells #[.slice a n cap] 24)) 24 #[.slice none 0 0]
  rw [World.size_alloc] at rb
  have RA0 := Lib.hid ra
  have RB0 := Lib.hid rb
  have P0 := Lib.hid (PAt.below hI hB0)
  have Q0 : Hid (∀ y, a = some y → y.block ≠ w.heap.size + 1) := Lib.hid (fun y e => by
    obtain ⟨b, off, e2, hb, _⟩ := pAt_get hI 0 (by omega)
    rw [e] at e2
    cases e2
    show b ≠ w.heap.size + 1
    omega)
  have B0 := Lib.hid hB0
  have HE := Lib.hid hE
  have HN := Lib.hid hn
  have HEN := Lib.hid hen
  have HR := Lib.hid hR
  have HI := Lib.hid hri.2
  clear hB0 ra rb hI hE hn hen hR hri hr
  go_enter Try.func28, Try.ntmps28
  go_wp2_with fail
  go_loopw [10] (fun j wr => ∃ (k : Nat) (lk : List Pr) (ak : Option Addr) (ck : Nat), k ≤ ne ∧ j = .int .i64 k ∧ Hid (n = lk.length) ∧ Hid (∀ s ∈ lk, okS s = true) ∧ Hid (R = eachR givE givS lk (es.drop k)) ∧ Hid (Rows8 wr (w.heap.size) 24 #[.slice ak n ck]) ∧ Hid (Rows8 wr (w.heap.size + 1) 24 #[.slice none 0 0]) ∧ Hid (PAt wr (.slice ak n ck) lk) ∧ Hid (∀ y, ak = some y → y.block ≠ w.heap.size + 1) ∧ Hid (Below w.heap.size w wr)) (fun j _ => ne - (intOf j).toNat)
  case atStart => exact ⟨0, l, a, cap, Nat.zero_le _, rfl, HN, HI, HR, RA0, RB0, P0, Q0, B0⟩
  case round =>
    obtain ⟨k, lk, ak, ck, hk, rfl, hnk, hin, hR1, hRA, hRB, hP, hQ, hB⟩ := hrel
    by_cases hlt : k < ne
    · have hkl : k < es.length := by rw [← HEN.out]; exact hlt
      obtain ⟨b, off, rfl, hb2, c0, c1⟩ := pAt_get (PAt.below HE.out hB.out) k hkl
      have hr2 := hR1.out
      rw [drop_nextP es k hkl] at hr2
      rcases hq : es[k] with ⟨i, g⟩
      rw [hq] at c0 c1 hr2
      dsimp only at c0 c1
      have hki : (k : Int) < (ne : Int) := by omega
      have hal : Below wr.heap.size wr (wr.alloc (.cells #[.int .i64 i, .int .u64 (g : Nat)] 37)) := Rows8.newB
      have re := Rows8.new wr 37 #[.int .i64 i, .int .u64 (g : Nat)]
      have HM := Lib.hid (Try.refMeant_any ak n ck lk (i, g) _ (PAt.below hP.out hal))
      have HR1 := Lib.hid hr2
      have RA1 := Lib.hid (hRA.out.below hal hRA.out.lt)
      have RB1 := Lib.hid (hRB.out.below hal hRB.out.lt)
      have RE1 := Lib.hid re
      have P1 := Lib.hid (PAt.below hP.out hal)
      have B1 := Lib.hid (hB.out.trans (hal.mono hB.out.size))
      have cA1 : (wr.alloc (.cells #[.int .i64 i, .int .u64 (g : Nat)] 37)).cell? ⟨w.heap.size, 0, none⟩ = some (.slice ak n ck) := RA1.out.cell 0
      have lA1 := hRA.out.lt
      clear hq hr2 hkl hal re hRA hRB hP hB hR1
      go_wp2_with fail
      refine HM.out.mono ?_
      rintro e u2 ⟨rfl, hB2⟩
      have RA2 := Lib.hid (RA1.out.below hB2 RA1.out.lt)
      have RB2 := Lib.hid (RB1.out.below hB2 RB1.out.lt)
      have re2 := RE1.out.below hB2 RE1.out.lt
      have P2 := Lib.hid (PAt.below P1.out hB2)
      have B2 := Lib.hid (B1.out.trans (hB2.mono B1.out.size))
      have cA2 : u2.cell? ⟨w.heap.size, 0, none⟩ = some (.slice ak n ck) := RA2.out.cell 0
      have cE0 : u2.cell? ⟨wr.heap.size, 0, none⟩ = some (.int .i64 i) := re2.cell 0
      have cE1 : u2.cell? ⟨wr.heap.size, 1, none⟩ = some (.int .u64 (g : Nat)) := re2.cell 1
      clear hB2 RA1 RB1 RE1 re2 P1 B1 HM cA1
      cases hm : tagB lk (i, g) with
      | true =>
        obtain ⟨j, rfl, hj, hg⟩ := tagB_iff.1 hm
        have htag := (tagA_at (e := ((j : Int), g)) rfl hj hg).2
        have hgk := (okS_iff.1 (hin.out _ (List.getElem_mem hj))).2.2
        rw [hg] at hgk
        dsimp only at hgk
        obtain ⟨bb, of2, hak, hbb, p0, p1⟩ := pAt_get P2.out j hj
        subst hak
        have hjn0 : j < n := by have := hnk.out; omega
        have hji : (j : Int) < (n : Int) := by omega
        have hj0 : (0 : Int) ≤ (j : Int) := by omega
        obtain ⟨tt, htt⟩ : ∃ tt, tt = lk[j].1 := ⟨_, rfl⟩
        rw [← htt] at p0 htag
        have HTG := Lib.hid htag
        clear hm p1 htag hg htt
        by_cases h1 : tt = 0
        · have hd1 : (tt == 0) = true := by simp [h1]
          have HR9 := Lib.hid (show R = (4, lk) by rw [HR1.out, eachR_step, show givE lk _ = 4 from (by unfold givE; rw [HTG.out, if_pos h1])]; rfl)
          have cr : u2.cell? ⟨w.heap.size + 1, 0, none⟩ = some (.slice none 0 0) := RB2.out.cell 0
          have fr := RB2.out.frozen 0
          have r9 := RB2.out.set 0 (.slice none 0 0)
          simp only [List.setIfInBounds_toArray, List.set_cons_zero] at r9
          have R9 := Lib.hid r9
          have B9 := Lib.hid (B2.out.setCell (p := ⟨w.heap.size + 1, 0, none⟩) (by simp) (.slice none 0 0))
          clear r9
          go_wp2_with fail
          refine bodyPost_ret (results_ctA rfl _ _ (w.heap.size + 1) _ _ rfl rfl (load_row R9.out Try.underlying24 rfl (by kernel_rfl))) rfl ?_
          exact ⟨none, 0, 0, by rw [HR9.out]; rfl, by rw [HR9.out]; exact pAt_none _, B9.out⟩
        · have hd1 : (tt == 0) = false := by simp [h1]
          by_cases h2 : g = 1099511627775
          · have hg1 : (((g : Nat) : Int) == 1099511627775) = true := by simp; omega
            have HR9 := Lib.hid (show R = (6, lk) by rw [HR1.out, eachR_step, show givE lk _ = 6 from (by unfold givE; rw [HTG.out, if_neg h1, if_pos h2])]; rfl)
            have cr : u2.cell? ⟨w.heap.size + 1, 0, none⟩ = some (.slice none 0 0) := RB2.out.cell 0
            have fr := RB2.out.frozen 0
            have r9 := RB2.out.set 0 (.slice none 0 0)
            simp only [List.setIfInBounds_toArray, List.set_cons_zero] at r9
            have R9 := Lib.hid r9
            have B9 := Lib.hid (B2.out.setCell (p := ⟨w.heap.size + 1, 0, none⟩) (by simp) (.slice none 0 0))
            clear r9
            go_wp2_with fail
            refine bodyPost_ret (results_ctA rfl _ _ (w.heap.size + 1) _ _ rfl rfl (load_row R9.out Try.underlying24 rfl (by kernel_rfl))) rfl ?_
            exact ⟨none, 0, 0, by rw [HR9.out]; rfl, by rw [HR9.out]; exact pAt_none _, B9.out⟩
          · have hg1 : (((g : Nat) : Int) == 1099511627775) = false := by simp; omega
            have hjn : j < n := by omega
            have HW := Lib.hid (Try.with_any (some ⟨bb, of2, none⟩) n ck lk j 0 (g + 1) hjn u2 P2.out hl)
            have hcast : ((g + 1 : Nat) : Int) = (g : Int) + 1 := by omega
            rw [hcast] at HW
            have HR9 := Lib.hid (show R = eachR givE givS (lk.set j (0, g + 1)) (es.drop (k + 1)) by rw [HR1.out, eachR_step, show givE lk ((j : Int), g) = 0 from (by unfold givE; rw [HTG.out, if_neg h1, if_neg h2]), if_pos rfl]; unfold givS; rw [Int.toNat_natCast])
            have HI9 := Lib.hid (show ∀ s ∈ lk.set j (0, g + 1), okS s = true from set_ok hin.out (okS_iff.2 ⟨by simp, by simp, by dsimp only; omega⟩) j)
            have HL9 := Lib.hid (show n = (lk.set j (0, g + 1)).length by rw [List.length_set]; exact hnk.out)
            clear hcast
            go_wp2_with fail
            refine HW.out.mono ?_
            rintro e u3 ⟨v, rfl, hO, hB3⟩
            obtain ⟨a3, c3, hv⟩ := hO.form
            rw [← HL9.out] at hv
            subst hv
            have ra := RA2.out.below hB3 RA2.out.lt
            have rb := RB2.out.below hB3 RB2.out.lt
            have ca : u3.cell? ⟨w.heap.size, 0, none⟩ = some (.slice (some ⟨bb, of2, none⟩) n ck) := ra.cell 0
            have fa := ra.frozen 0
            have ra2 := ra.set 0 (.slice a3 n c3)
            simp only [List.setIfInBounds_toArray, List.set_cons_zero] at ra2
            have RA3 := Lib.hid ra2
            have RB3 := Lib.hid (rb.setOther (a := ⟨w.heap.size, 0, none⟩) (by simp) (.slice a3 n c3))
            have P3 := Lib.hid (OwnsP.at (hO.setNe (a := ⟨w.heap.size, 0, none⟩) ra (by decide) (.slice a3 n c3)))
            have Q3 : Hid (∀ y, a3 = some y → y.block ≠ w.heap.size + 1) := Lib.hid (owns_apart hO RB2.out.lt)
            have B3 := Lib.hid ((B2.out.trans (hB3.mono B2.out.size)).setCell (p := ⟨w.heap.size, 0, none⟩) (Nat.le_refl _) (.slice a3 n c3))
            generalize lk.set j (0, g + 1) = lk9 at *
            clear ra rb ra2 hO hB3 HW
            go_wp2_with fail
            exact ⟨⟨k + 1, lk9, a3, c3, by omega, by go_num, HL9, HI9, HR9, RA3, RB3, P3, Q3, B3⟩, by simp [intOf]; omega⟩
      | false =>
        have HTG := Lib.hid (tagA_no hm)
        clear hm
        have HR9 := Lib.hid (show R = (4, lk) by rw [HR1.out, eachR_step, show givE lk _ = 4 from (by unfold givE; rw [HTG.out]; rfl)]; rfl)
        have cr : u2.cell? ⟨w.heap.size + 1, 0, none⟩ = some (.slice none 0 0) := RB2.out.cell 0
        have fr := RB2.out.frozen 0
        have r9 := RB2.out.set 0 (.slice none 0 0)
        simp only [List.setIfInBounds_toArray, List.set_cons_zero] at r9
        have R9 := Lib.hid r9
        have B9 := Lib.hid (B2.out.setCell (p := ⟨w.heap.size + 1, 0, none⟩) (by simp) (.slice none 0 0))
        clear r9
        go_wp2_with fail
        refine bodyPost_ret (results_ctA rfl _ _ (w.heap.size + 1) _ _ rfl rfl (load_row R9.out Try.underlying24 rfl (by kernel_rfl))) rfl ?_
        exact ⟨none, 0, 0, by rw [HR9.out]; rfl, by rw [HR9.out]; exact pAt_none _, B9.out⟩
    · obtain rfl : k = ne := by omega
      have hki : ¬ (k : Int) < (k : Int) := by omega
      have HR9 := Lib.hid (show R = (0, lk) by rw [hR1.out, List.drop_of_length_le (Nat.le_of_eq HEN.out.symm)]; rfl)
      have cA : wr.cell? ⟨w.heap.size, 0, none⟩ = some (.slice ak n ck) := hRA.out.cell 0
      have cr : wr.cell? ⟨w.heap.size + 1, 0, none⟩ = some (.slice none 0 0) := hRB.out.cell 0
      have fr := hRB.out.frozen 0
      have lA := hRA.out.lt
      have lB := hRB.out.lt
      have r9 := hRB.out.set 0 (.slice ak n ck)
      simp only [List.setIfInBounds_toArray, List.set_cons_zero] at r9
      have R9 := Lib.hid r9
      have B9 := Lib.hid (hB.out.setCell (p := ⟨w.heap.size + 1, 0, none⟩) (by simp) (.slice ak n ck))
      have P9 := Lib.hid (pAt_set hP.out (p := ⟨w.heap.size + 1, 0, none⟩) hQ.out (.slice ak n ck))
      clear r9 hR1
      go_wp2_with fail
      refine bodyPost_ret (results_ctA rfl _ _ (w.heap.size + 1) _ _ rfl rfl (load_row R9.out Try.underlying24 rfl (by kernel_rfl))) rfl ?_
      exact ⟨ak, n, ck, by rw [HR9.out]; rfl, by rw [HR9.out]; exact P9.out, B9.out⟩
end Go.Proofs
