/- Arena: the reference's Take. -/
import Derived.Test.YteldjolofglnpaaAw
namespace Go.Proofs
open Go.RowKit Go.Shelf
attribute [local go_sem] Oper.semAt_some

/-- What the reference says of what is taken. -/
def RtkQ (w : World) (R : Int × List Pr × List Pr) (e : Ending) (w' : World) : Prop := ∃ a n c b m d, e = .returned (.tuple #[.agg #[.slice a n c], .slice b m d, .int .i64 R.1]) ∧ PAt w' (.slice a n c) (if R.1 = 0 then R.2.1 else []) ∧ PAt w' (.slice b m d) (if R.1 = 0 then R.2.2 else []) ∧ Below w.heap.size w w'
set_option maxRecDepth 100000 in
set_option maxHeartbeats 8000000 in
theorem Try.refTake_any (a : Option Addr) (n cap : Nat) (l : List Pr) (many : Int) (hr : rightA l = true) (w : World) (hI : PAt w (.slice a n cap) l) :
    Calls Try.prog 26 #[.agg #[.slice a n cap], .int .i64 many] w (RtkQ w (takeR l many)) := by
  have hn := (pAt_len hI).1
  have hri := rightA_iff.1 hr
  have hl : n ≤ 10000 := by omega
  have hcl : cnt l 0 ≤ n := by have := cnt_le l 0; omega
  obtain ⟨R, hR⟩ : ∃ R, R = takeR l many := ⟨_, rfl⟩
  rw [← hR]
  unfold takeR at hR
  have hB0 : Below w.heap.size w ((w.alloc (.cells #[.slice a n cap] 24)).alloc (.cells #[.slice none 0 0] 24)) := (Rows8.newB).alloc (by simp) _
  have ra := (Rows8.new w 24 #[.slice a n cap]).alloc (.cells #[.slice none 0 0] 24)
  have rb := Rows8.new (w.alloc (.cells #[.slice a n cap] 24)) 24 #[.slice none 0 0]
  rw [World.size_alloc] at rb
  have HEn := Lib.hid (Try.refEntries_any a n cap l 0 _ (PAt.below hI hB0) hl)
  have RA0 := Lib.hid ra
  have RB0 := Lib.hid rb
  have P0 := Lib.hid (PAt.below hI hB0)
  have Q0 : Hid (∀ y, a = some y → y.block ≠ w.heap.size + 1) := Lib.hid (fun y e => by
    obtain ⟨b, off, e2, hb, _⟩ := pAt_get hI 0 (by omega)
    rw [e] at e2
    cases e2
    show b ≠ w.heap.size + 1
    omega)
  have B0 := Lib.hid hB0
  have HN := Lib.hid hn
  have HR := Lib.hid hR
  clear hB0 ra rb hI hn hR hri hr
  by_cases hm : many < 0
  · have HR9 := Lib.hid (show R = (2, l, []) by rw [HR.out, if_pos hm])
    have fr := RB0.out.frozen 0
    have r9 := RB0.out.set 0 (.slice none 0 0)
    simp only [List.setIfInBounds_toArray, List.set_cons_zero] at r9
    have R9 := Lib.hid r9
    have B9 := Lib.hid (B0.out.setCell (p := ⟨w.heap.size + 1, 0, none⟩) (by simp) (.slice none 0 0))
    have cr : ((w.alloc (.cells #[.slice a n cap] 24)).alloc (.cells #[.slice none 0 0] 24)).cell? ⟨w.heap.size + 1, 0, none⟩ = some (.slice none 0 0) := RB0.out.cell 0
    clear r9 HEn
    go_enter Try.func26, Try.ntmps26
    go_upto_region 1 with fail
    generalize ((w.alloc (.cells #[.slice a n cap] 24)).alloc (.cells #[.slice none 0 0] 24)) = W0 at *
    go_wp2_with fail
    refine bodyPost_ret (results_ctt rfl _ _ (w.heap.size + 1) _ _ _ rfl rfl rfl (load_row R9.out Try.underlying24 rfl (by kernel_rfl))) rfl ?_
    exact ⟨none, 0, 0, none, 0, 0, by rw [HR9.out]; rfl, by rw [HR9.out]; exact pAt_none _, by rw [HR9.out]; exact pAt_none _, B9.out⟩
  · obtain ⟨M, rfl⟩ : ∃ M : Nat, many = M := ⟨many.toNat, by omega⟩
    go_enter Try.func26, Try.ntmps26
    go_upto_region 3 with fail
    generalize ((w.alloc (.cells #[.slice a n cap] 24)).alloc (.cells #[.slice none 0 0] 24)) = W0 at *
    have cA0 : W0.cell? ⟨w.heap.size, 0, none⟩ = some (.slice a n cap) := RA0.out.cell 0
    go_wp2_with fail
    refine HEn.out.mono ?_
    rintro e u1 ⟨v, rfl, hO, hB1⟩
    obtain ⟨eb, ec, hv⟩ := hO.form
    obtain ⟨en, hen⟩ : ∃ m, m = (ents l 0).length := ⟨_, rfl⟩
    rw [← hen] at hv
    subst hv
    have henc : en = cnt l 0 := by rw [hen, ents_length]
    have RA1 := Lib.hid (RA0.out.below hB1 RA0.out.lt)
    have RB1 := Lib.hid (RB0.out.below hB1 RB0.out.lt)
    have P1 := Lib.hid (PAt.below P0.out hB1)
    have B1 := Lib.hid (B0.out.trans (hB1.mono B0.out.size))
    have hlb := RB0.out.lt
    have OE := Lib.hid (hO.mono (Nat.le_refl _))
    have HEN := Lib.hid hen
    have HEC := Lib.hid henc
    have hen1 : en ≤ 10000 := by omega
    have hez := Lib.hid hlb
    clear hO hB1 HEn RA0 RB0 P0 B0 cA0 hen henc hlb
    by_cases hme : M ≤ en
    · have HR9 := Lib.hid (show R = (0, takeL l M, (ents l 0).take M) by rw [HR.out, if_neg (by omega : ¬ ((M : Nat) : Int) < 0), Int.toNat_natCast, if_pos (by have := HEC.out; omega)])
      have hne : ¬ ((en : Int) < (M : Int)) := by omega
      have hneb : decide (en < M) = false := by simp; omega
      have hnei : decide ((en : Int) < (M : Int)) = false := by simp; omega
      have hM0 : (0 : Int) ≤ (M : Int) := by omega
      have hMe : (M : Int) ≤ (en : Int) := by omega
      obtain ⟨hel, hec, hem⟩ := pAt_len OE.out.at
      have hec' : (en : Int) ≤ (ec : Int) := by omega
      have hreach : ec ≤ 9223372036854775807 := by unfold maxLen at hem; omega
      have hMc : (M : Int) ≤ (ec : Int) := by omega
      have PE := Lib.hid (pAt_cut OE.out.at M hme)
      have OQ := Lib.hid (owns_apart OE.out hez.out)
      have HEB : Hid (∀ y, eb = some y → y.block ≠ w.heap.size) := Lib.hid (owns_apart OE.out (by have := hez.out; omega))
      clear hel hec hem hm
      go_wp2_with fail
      go_loopw [24] (fun j wr => ∃ (k : Nat) (ak : Option Addr) (ck : Nat), k ≤ M ∧ j = .int .i64 k ∧ Hid (Rows8 wr (w.heap.size) 24 #[.slice ak n ck]) ∧ Hid (Rows8 wr (w.heap.size + 1) 24 #[.slice none 0 0]) ∧ Hid (PAt wr (.slice ak n ck) (takeL l k)) ∧ Hid (∀ y, ak = some y → y.block ≠ w.heap.size + 1) ∧ Hid (PAt wr (.slice eb M ec) ((ents l 0).take M)) ∧ Hid (Below w.heap.size w wr)) (fun j _ => M - (intOf j).toNat)
      case atStart => exact ⟨0, a, cap, Nat.zero_le _, rfl, RA1, RB1, Lib.hid (by rw [takeL_zero]; exact P1.out), Q0, PE, B1⟩
      case round =>
        obtain ⟨k, ak, ck, hk, rfl, hRA, hRB, hP, hQ, hE, hB⟩ := hrel
        by_cases hlt : k < M
        · have hkc : k < cnt l 0 := by have := HEC.out; omega
          obtain ⟨i, hi9, r, h1, h2, h3, h4⟩ := take_next_free hkc
          have hkl : k < ((ents l 0).take M).length := by rw [List.length_take, ents_length]; omega
          obtain ⟨b, off, heb, hb2, c0, c1⟩ := pAt_get hE.out k hkl
          subst heb
          have hge : ((ents l 0).take M)[k] = ((i : Int), l[i].2) := by
            have h5 : ((ents l 0).take M)[k]? = some ((i : Int), l[i].2) := by rw [List.getElem?_take, if_pos hlt, h1]
            rw [List.getElem?_eq_getElem hkl] at h5
            injection h5
          rw [hge] at c0 c1
          dsimp only at c0 c1
          have hin : i < n := by have := HN.out; omega
          have hki : (k : Int) < (M : Int) := by omega
          have hk0 : (0 : Int) ≤ (k : Int) := by omega
          generalize l[i].2 = g at *
          have hal : Below wr.heap.size wr (wr.alloc (.cells #[.int .i64 (i : Nat), .int .u64 (g : Nat)] 37)) := Rows8.newB
          have RA2 := Lib.hid (hRA.out.below hal hRA.out.lt)
          have RB2 := Lib.hid (hRB.out.below hal hRB.out.lt)
          have P2 := PAt.below hP.out hal
          have E2 := Lib.hid (PAt.below hE.out hal)
          have B2 := Lib.hid (hB.out.trans (hal.mono hB.out.size))
          have HW := Lib.hid (Try.with_any ak n ck (takeL l k) i 1 g hin _ P2 hl)
          rw [← h4] at HW
          have HTL := Lib.hid (show n = (takeL l (k + 1)).length by rw [takeL_length]; exact HN.out)
          have cA2 : (wr.alloc (.cells #[.int .i64 (i : Nat), .int .u64 (g : Nat)] 37)).cell? ⟨w.heap.size, 0, none⟩ = some (.slice ak n ck) := RA2.out.cell 0
          have lA := hRA.out.lt
          clear hal P2 hge h1 h2 h3 h4 hkl hRA hRB hP hE hB
          go_wp2_with fail
          refine HW.out.mono ?_
          rintro e u3 ⟨v, rfl, hO, hB3⟩
          obtain ⟨a3, c3, hv⟩ := hO.form
          rw [← HTL.out] at hv
          subst hv
          have ra := RA2.out.below hB3 RA2.out.lt
          have rb := RB2.out.below hB3 RB2.out.lt
          have ca : u3.cell? ⟨w.heap.size, 0, none⟩ = some (.slice ak n ck) := ra.cell 0
          have fa := ra.frozen 0
          have ra2 := ra.set 0 (.slice a3 n c3)
          simp only [List.setIfInBounds_toArray, List.set_cons_zero] at ra2
          have RA3 := Lib.hid ra2
          have RB3 := Lib.hid (rb.setOther (a := ⟨w.heap.size, 0, none⟩) (by simp) (.slice a3 n c3))
          have P3 := Lib.hid (OwnsP.at (hO.setNe (a := ⟨w.heap.size, 0, none⟩) ra (by decide) (.slice a3 n c3)))
          have Q3 : Hid (∀ y, a3 = some y → y.block ≠ w.heap.size + 1) := Lib.hid (owns_apart hO RB2.out.lt)
          have E3 := Lib.hid (pAt_set (PAt.below E2.out hB3) (p := ⟨w.heap.size, 0, none⟩) HEB.out (.slice a3 n c3))
          have B3 := Lib.hid ((B2.out.trans (hB3.mono B2.out.size)).setCell (p := ⟨w.heap.size, 0, none⟩) (Nat.le_refl _) (.slice a3 n c3))
          clear ra rb ra2 hO hB3 HW
          go_wp2_with fail
          exact ⟨⟨k + 1, a3, c3, by omega, by go_num, RA3, RB3, P3, Q3, E3, B3⟩, by simp [intOf]; omega⟩
        · obtain rfl : k = M := by omega
          have hki : ¬ (k : Int) < (k : Int) := by omega
          have cA : wr.cell? ⟨w.heap.size, 0, none⟩ = some (.slice ak n ck) := hRA.out.cell 0
          have cr : wr.cell? ⟨w.heap.size + 1, 0, none⟩ = some (.slice none 0 0) := hRB.out.cell 0
          have fr := hRB.out.frozen 0
          have lA := hRA.out.lt
          have lB := hRB.out.lt
          have r9 := hRB.out.set 0 (.slice ak n ck)
          simp only [List.setIfInBounds_toArray, List.set_cons_zero] at r9
          have R9 := Lib.hid r9
          have B9 := Lib.hid (hB.out.setCell (p := ⟨w.heap.size + 1, 0, none⟩) (by simp) (.slice ak n ck))
          have P9 := Lib.hid (pAt_set hP.out (p := ⟨w.heap.size + 1, 0, none⟩) hQ.out (.slice ak n ck))
          have E9 := Lib.hid (pAt_set hE.out (p := ⟨w.heap.size + 1, 0, none⟩) OQ.out (.slice ak n ck))
          clear r9 hRA hRB hP hE hB
          go_wp2_with fail
          go_region
          go_wp2_with fail
          refine bodyPost_ret (results_ctt rfl _ _ (w.heap.size + 1) _ _ _ rfl rfl rfl (load_row (Rows8.drewA R9.out) Try.underlying24 rfl (by kernel_rfl))) rfl ?_
          exact ⟨ak, n, ck, eb, k, ec, by rw [HR9.out]; rfl, by rw [HR9.out]; exact P9.out, by rw [HR9.out]; exact E9.out, B9.out.drew⟩
    · have HR9 := Lib.hid (show R = (6, l, []) by rw [HR.out, if_neg (by omega : ¬ ((M : Nat) : Int) < 0), Int.toNat_natCast, if_neg (by have := HEC.out; omega)])
      have hme2 : ((en : Int) < (M : Int)) := by omega
      have cr : u1.cell? ⟨w.heap.size + 1, 0, none⟩ = some (.slice none 0 0) := RB1.out.cell 0
      have fr := RB1.out.frozen 0
      have r9 := RB1.out.set 0 (.slice none 0 0)
      simp only [List.setIfInBounds_toArray, List.set_cons_zero] at r9
      have R9 := Lib.hid r9
      have B9 := Lib.hid (B1.out.setCell (p := ⟨w.heap.size + 1, 0, none⟩) (by simp) (.slice none 0 0))
      clear r9 hm
      go_wp2_with fail
      refine bodyPost_ret (results_ctt rfl _ _ (w.heap.size + 1) _ _ _ rfl rfl rfl (load_row R9.out Try.underlying24 rfl (by kernel_rfl))) rfl ?_
      exact ⟨none, 0, 0, none, 0, 0, by rw [HR9.out]; rfl, by rw [HR9.out]; exact pAt_none _, by rw [HR9.out]; exact pAt_none _, B9.out⟩
end Go.Proofs
