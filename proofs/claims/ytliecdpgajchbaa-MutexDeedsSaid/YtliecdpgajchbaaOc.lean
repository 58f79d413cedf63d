/- Leave of the reference. -/
import Derived.Test.YtliecdpgajchbaaOb
namespace Go.Proofs
open Go.RowKit Go.Shelf
attribute [local go_sem] Oper.semAt_some

theorem RowAt.setOther {W : World} {B O n c k g o : Nat} {cs : List Value} (h : RowAt W (.slice (some ⟨B, O, none⟩) n c) n k cs) (hB : B ≠ g) (u : Value) : RowAt (W.setCell ⟨g, o, none⟩ u) (.slice (some ⟨B, O, none⟩) n c) n k cs := by
  obtain ⟨h0, a, cap, e, h1, h2, h3, h4⟩ := h
  cases e
  refine ⟨h0, _, _, rfl, h1, h2, h3, fun j hj => ?_⟩
  obtain ⟨b, off, e, hb, hc⟩ := h4 j hj
  cases e
  refine ⟨_, _, rfl, by simpa [World.setCell] using hb, ?_⟩
  have hk := Below.heap_setCell W ⟨g, o, none⟩ u B (fun e => hB e)
  unfold World.cell? at hc ⊢
  rw [hk]
  exact hc
theorem ints_tail {W : World} {B O tl sc : Nat} {z : Int} {t : List Int} (hl : tl = t.length) (h : IntsAt W (.slice (some ⟨B, O, none⟩) (tl + 1) sc) (z :: t)) : IntsAt W (.slice (some ⟨B, O + 1, none⟩) tl (sc - 1)) t := by
  subst hl
  obtain ⟨h0, a, cap, e, h1, h2, h3, h4⟩ := h
  cases e
  rw [List.length_cons] at h1
  refine ⟨by rw [intVals_length, Nat.mul_one], _, _, rfl, by omega, by omega, (fun e => by cases e), fun j hj => ?_⟩
  rw [intVals_length] at hj
  obtain ⟨b, off, e, hb, hc⟩ := h4 (j + 1) (by rw [intVals_length]; simp; omega)
  cases e
  refine ⟨_, _, rfl, hb, ?_⟩
  rw [show O + 1 + j = O + (j + 1) by omega, hc]
  rfl
theorem ints_void (W : World) (B O : Nat) : IntsAt W (.slice (some ⟨B, O, none⟩) 0 0) [] := ⟨rfl, some ⟨B, O, none⟩, 0, rfl, Nat.le_refl _, Nat.zero_le _, (fun e => by cases e), (fun j hj => absurd hj (Nat.not_lt_zero _))⟩
theorem OwnM.setTail {n₀ : Nat} {ms : List Mx} {g n cap : Nat} {vs : List Value} {W : World} (h : OwnM n₀ ms (.slice (some ⟨g, 0, none⟩) n cap) vs W) (hn : n = ms.length) (i : Nat) (hi : i < ms.length) (q : List Int) (B O ql cq : Nat) (hql : ql = q.length) (hI : IntsAt W (.slice (some ⟨B, O, none⟩) ql cq) q) (hB : B ≠ g) :
    MxAt (W.setCell ⟨g, i * 2 + 1, none⟩ (.slice (some ⟨B, O, none⟩) ql cq)) (.slice (some ⟨g, 0, none⟩) n cap) (ms.set i ⟨ms[i].own, q⟩) := by
  subst hn
  subst hql
  have hl : (ms.set i ⟨ms[i].own, q⟩).length = ms.length := List.length_set ..
  have hvl : vs.length = ms.length * 2 := h.row.1
  refine ⟨vs.set (i * 2 + 1) (.slice (some ⟨B, O, none⟩) q.length cq), by rw [hl]; exact rowAt_own (h.row.stored (i * 2 + 1) _).1, fun k hk => ?_⟩
  rw [hl] at hk
  by_cases e : i = k
  · subst e
    refine ⟨some ⟨B, O, none⟩, cq, ?_, ?_, ?_⟩
    · rw [getD_set_ne (by omega), h.own i hk]
      simp
    · rw [List.getElem?_set_self (by omega)]
      simp
    · rw [List.getElem_set_self]
      exact RowAt.setOther hI hB (.slice (some ⟨B, O, none⟩) q.length cq)
  · obtain ⟨qk, e1, hok⟩ := h.que k hk
    obtain ⟨ak, ck, rfl, _⟩ := hok.form
    have h2 := (hok.kept (grownBy_set W g (i * 2 + 1) (.slice (some ⟨B, O, none⟩) q.length cq)) (h.rowNe k _ hk e1)).at
    refine ⟨ak, ck, ?_, ?_, ?_⟩
    · rw [getD_set_ne (by omega), List.getElem_set_ne e]
      exact h.own k hk
    · rw [getD_set_ne (by omega), List.getElem_set_ne e]
      exact e1
    · rw [List.getElem_set_ne e]
      exact h2
/-- Who has it now, and those who wait still. -/
theorem OwnM.left2 {n₀ : Nat} {ms : List Mx} {g n cap : Nat} {vs : List Value} {W : World} (h : OwnM n₀ ms (.slice (some ⟨g, 0, none⟩) n cap) vs W) (hn : n = ms.length) (k : Nat) (hk : k < ms.length) (z : Int) (t : List Int) (B O tl sc : Nat) (htl : tl = t.length) (hI : IntsAt W (.slice (some ⟨B, O, none⟩) tl sc) t) (hB : B ≠ g) :
    MxAt ((W.setCell ⟨g, k * 2, none⟩ (.int .i64 (z + 1))).setCell ⟨g, k * 2 + 1, none⟩ (.slice (some ⟨B, O, none⟩) tl sc)) (.slice (some ⟨g, 0, none⟩) n cap) (ms.set k ⟨z + 1, t⟩) := by
  subst htl
  have hl1 : (ms.set k ⟨z + 1, ms[k].q⟩).length = ms.length := List.length_set ..
  have h3 := (h.setOwn hn k hk (z + 1)).setTail (by rw [hl1]; exact hn) k (by rw [hl1]; exact hk) t B O t.length sc rfl (RowAt.setOther hI hB _) hB
  simpa only [List.set_set, List.getElem_set_self] using h3

set_option maxRecDepth 100000 in
set_option maxHeartbeats 4000000 in
theorem Try.refLeave_any (which goer : Int) (a : Option Addr) (n cap : Nat) (ms : List Mx) (hrt : rightB ms = true) (w : World) (hI : MxAt w (.slice a n cap) ms) :
    Calls Try.prog 26 #[.slice a n cap, .int .i64 which, .int .i64 goer] w fun e w' => Below w.heap.size w w' ∧
      ((leaveE ms which goer ≠ 0 ∧ e = .returned (.tuple #[.slice none 0 0, .int .i64 0, .int .i64 (leaveE ms which goer)])) ∨
       (leaveE ms which goer = 0 ∧ ∃ g c, e = .returned (.tuple #[.slice (some ⟨g, 0, none⟩) n c, .int .i64 (nextB ms which), .int .i64 0]) ∧ MxAt w' (.slice (some ⟨g, 0, none⟩) n c) (leaveS ms which))) := by
  obtain ⟨hn, hnc, hcm⟩ := mxAt_len hI
  have hl160 := ((rightB_iff ms).1 hrt).1
  have hq8 := right_len hrt
  have hcopy := fun W (hB : Below w.heap.size w W) => Try.refCopy_any a n cap ms (by omega) (by omega) W (hI.below hB)
  have hwt := fun W (hB : Below w.heap.size w W) => Try.refWaits_any goer a n cap ms W (hI.below hB)
  have hgo := fun W => Try.goer_any goer W
  cases hb : argB ms which goer with
  | false =>
    have he : leaveE ms which goer = 2 := by unfold leaveE; rw [hb]; rfl
    have HEE := Lib.hid he
    generalize leaveE ms which goer = E at *
    generalize leaveS ms which = S at *
    generalize nextB ms which = G at *
    have hway : which < 0 ∨ (¬ which < 0 ∧ (n : Int) ≤ which) ∨ (¬ which < 0 ∧ ¬ (n : Int) ≤ which ∧ goerB goer = false) := by
      unfold argB at hb
      rw [Bool.and_eq_false_iff, decide_eq_false_iff_not] at hb
      rcases hb with hb | hb
      · omega
      · by_cases h1 : which < 0
        · exact .inl h1
        · by_cases h2 : (n : Int) ≤ which
          · exact .inr (.inl ⟨h1, h2⟩)
          · exact .inr (.inr ⟨h1, h2, hb⟩)
    have HGO := Lib.hid hgo
    clear hcopy hwt hb he hI hgo hn
    rcases hway with h | ⟨h1, h2⟩ | ⟨h1, h2, h3⟩
    case inr.inr =>
      go_enter Try.func26, Try.ntmps26
      go_wp2_with fail
      refine (HGO.out w).mono ?_
      rintro e w' ⟨rfl, rfl⟩
      rw [h3]
      go_wp2_with fail
      refine bodyPost_ret (results_tmp3 rfl _ _ _) rfl ?_
      exact ⟨Below.refl _ _, .inl ⟨by rw [HEE.out]; decide, by rw [HEE.out]; rfl⟩⟩
    all_goals
      go_enter Try.func26, Try.ntmps26
      go_wp2_with fail
      refine bodyPost_ret (results_tmp3 rfl _ _ _) rfl ?_
      exact ⟨Below.refl _ _, .inl ⟨by rw [HEE.out]; decide, by rw [HEE.out]; rfl⟩⟩
  | true =>
    obtain ⟨⟨hw1, hw2⟩, hg1, hg2⟩ := argB_iff.1 hb
    have hgb : goerB goer = true := by simp [goerB]; omega
    obtain ⟨k, rfl⟩ : ∃ k : Nat, which = (k : Int) := ⟨which.toNat, by omega⟩
    have hk : k < ms.length := by omega
    have hki : (k : Int) < (n : Int) := by omega
    have hk0 : ¬ (k : Int) < 0 := by omega
    have hkn : ¬ (n : Int) ≤ (k : Int) := by omega
    have hwg : IntKind.i64.wrap (goer + 1) = goer + 1 := IntWalk.i64_in _ (by omega)
    have hE : leaveE ms k goer = if ms[k].own = goer + 1 then 0 else 4 := by unfold leaveE; rw [if_pos hb, atM_eq hk]
    have hS : leaveS ms k = ms.set k (leaveX ms[k].q) := by unfold leaveS; rw [atM_eq hk, Int.toNat_natCast]
    have hG : nextB ms k = match ms[k].q with | [] => -1 | z :: _ => z := by unfold nextB; rw [atM_eq hk]; rfl
    have hqz : ∀ z ∈ ms[k].q, 0 ≤ z ∧ z ≤ 7 := fun z hz => right_goer hrt hk hz
    have hkl : (ms[k]).q.length ≤ 8 := by have := qlen_le ms k hk; omega
    have hget := fun W (hB : Below w.heap.size w W) => mxAt_get (hI.below hB) k hk
    have hset := fun (W : World) (n₀ g c : Nat) vs (h : OwnM n₀ ms (.slice (some ⟨g, 0, none⟩) n c) vs W) o => h.setOwn hn k hk o
    have htq := fun (W W1 : World) (n₀ g c : Nat) vs (h : OwnM n₀ ms (.slice (some ⟨g, 0, none⟩) n c) vs W) => h.turnQ2 (W1 := W1) k hk
    have hcl := fun (W : World) (n₀ g c : Nat) vs (h : OwnM n₀ ms (.slice (some ⟨g, 0, none⟩) n c) vs W) => h.cells2 k hk
    have hfm := fun (W : World) (n₀ : Nat) v vs (h : OwnM n₀ ms v vs W) => h.form (by omega)
    rw [← hn] at hfm
    generalize leaveE ms k goer = E at *
    generalize leaveS ms k = S at *
    generalize nextB ms k = G at *
    generalize ms[k] = m at *
    obtain ⟨o, q⟩ := m
    dsimp only at hE hS hG hkl hqz hget hset htq hcl
    obtain ⟨b, off, a', c', rfl, hbl, x0, x1, -⟩ := hget w (Below.refl _ _)
    have HE := Lib.hid hE
    have HS := Lib.hid hS
    have HG := Lib.hid hG
    have HGO := Lib.hid hgo
    have HCP := Lib.hid hcopy
    have HGT := Lib.hid hget
    have HST := Lib.hid hset
    have HTQ := Lib.hid htq
    have HCL := Lib.hid hcl
    have HFM := Lib.hid hfm
    have HMS := Lib.hid hn
    have HQZ := Lib.hid hqz
    clear hE hS hG hwt hgo hcopy hget hset htq hcl hfm hb hI hrt hl160 hq8 hn hw1 hw2 hqz
    by_cases ho : o = goer + 1
    case neg =>
      have hq : (o == goer + 1) = false := by simp [ho]
      have hE : Hid (E = 4) := Lib.hid (by rw [HE.out, if_neg ho])
      clear ho
      go_enter Try.func26, Try.ntmps26
      go_wp2_with fail
      refine (HGO.out w).mono ?_
      rintro e w' ⟨rfl, rfl⟩
      rw [hgb]
      go_wp2_with fail
      refine bodyPost_ret (results_tmp3 rfl _ _ _) rfl ?_
      exact ⟨Below.refl _ _, .inl ⟨by rw [hE.out]; decide, by rw [hE.out]; rfl⟩⟩
    case pos =>
      have hq : (o == goer + 1) = true := by simp [ho]
      have hE : Hid (E = 0) := Lib.hid (by rw [HE.out, if_pos ho])
      clear ho
      cases q with
      | nil =>
        have hS : Hid (S = ms.set k ⟨0, []⟩) := Lib.hid HS.out
        have hG : Hid (G = -1) := Lib.hid HG.out
        go_enter Try.func26, Try.ntmps26
        go_wp2_with fail
        refine (HGO.out w).mono ?_
        rintro e w' ⟨rfl, rfl⟩
        rw [hgb]
        go_wp2_with fail
        refine (HCP.out w (Below.refl _ _)).mono ?_
        rintro e w2 ⟨v, rfl, ⟨vs, hO⟩, b2⟩
        obtain ⟨g, c, rfl, hg⟩ := HFM.out _ _ _ _ hO
        obtain ⟨sa, sc, s1, s2, s3, s4, s5, s6, s7⟩ := HCL.out _ _ _ _ _ hO
        have B2 := Lib.hid b2
        have O2 := Lib.hid hO
        obtain ⟨b', off', a2, c2, e2, -, y0, y1, -⟩ := HGT.out w2 B2.out
        cases e2
        clear b2 hO s5 s6
        have h2 := HST.out _ _ _ _ _ O2.out 0
        have H2 := Lib.hid h2.at
        have HB3 := Lib.hid (B2.out.setCell (p := ⟨g, k * 2, none⟩) hg (.int .i64 0))
        clear h2
        go_wp2_with fail
        refine bodyPost_ret (results_tmp3 rfl _ _ _) rfl ?_
        exact ⟨HB3.out, .inr ⟨hE.out, g, c, by rw [hG.out]; rfl, by rw [hS.out]; exact H2.out⟩⟩
      | cons z t =>
        have hS : Hid (S = ms.set k ⟨z + 1, t⟩) := Lib.hid HS.out
        have hG : Hid (G = z) := Lib.hid HG.out
        obtain ⟨hz0, hz7⟩ := HQZ.out z (by simp)
        have hzg : IntKind.i64.wrap (z + 1) = z + 1 := IntWalk.i64_in _ (by omega)
        have htl : t.length + 1 ≤ 8 := hkl
        go_enter Try.func26, Try.ntmps26
        go_wp2_with fail
        refine (HGO.out w).mono ?_
        rintro e w' ⟨rfl, rfl⟩
        rw [hgb]
        go_wp2_with fail
        refine (HCP.out w (Below.refl _ _)).mono ?_
        rintro e w2 ⟨v, rfl, ⟨vs, hO⟩, b2⟩
        obtain ⟨g, c, rfl, hg⟩ := HFM.out _ _ _ _ hO
        obtain ⟨sa, sc, s1, s2, s3, s4, s5, s6, s7⟩ := HCL.out _ _ _ _ _ hO
        have B2 := Lib.hid b2
        have O2 := Lib.hid hO
        have Q2 := Lib.hid s6
        obtain ⟨b', off', a2, c2, e2, -, y0, y1, hin2⟩ := HGT.out w2 B2.out
        cases e2
        obtain ⟨bq, oq, rfl, hbq, hz⟩ := intsAt_get hin2 0 (by simp)
        obtain ⟨bs, os, rfl, hbs, -⟩ := intsAt_get s6.at 0 (by simp)
        rw [show (z :: t)[0]?.getD 0 = z from rfl, Nat.add_zero] at hz
        obtain ⟨_, _, _, ee, hsc1, hsc2, _⟩ := s6.at
        cases ee
        rw [List.length_cons] at hsc1 s2 y1 x1
        have hne : bs ≠ g := by
          rcases hO.rowNe k _ hk s5 with h | h
          · cases h
          · exact fun e => h (by rw [← e]; rfl)
        obtain ⟨tl, htl2⟩ : ∃ tl, tl = t.length := ⟨_, rfl⟩
        have hat : IntsAt w2 (.slice (some ⟨bs, os, none⟩) (tl + 1) sc) (z :: t) := by rw [htl2]; exact s6.at
        rw [← htl2] at hsc1 s2 y1 x1 htl
        have hsplit : (sc = 1 ∧ tl = 0) ∨ (¬ sc = 1 ∧ 1 < sc) := by omega
        have HTL := Lib.hid htl2
        have HAT := Lib.hid hat
        have HNE := Lib.hid hne
        clear b2 hO s5 s6 hin2 htl2 hat hne
        rcases hsplit with ⟨rfl, rfl⟩ | ⟨hc1, hc2⟩
        · obtain rfl : t = [] := List.eq_nil_of_length_eq_zero HTL.out.symm
          have hm := O2.out.left2 HMS.out k hk z [] bs os 0 0 rfl (ints_void _ _ _) HNE.out
          have HM := Lib.hid hm
          have HB := Lib.hid ((B2.out.setCell (p := ⟨g, k * 2, none⟩) hg (.int .i64 (z + 1))).setCell (p := ⟨g, k * 2 + 1, none⟩) hg (.slice (some ⟨bs, os, none⟩) 0 0))
          clear hm
          go_wp2_with fail
          refine bodyPost_ret (results_tmp3 rfl _ _ _) rfl ?_
          exact ⟨HB.out, .inr ⟨hE.out, g, c, by rw [hG.out]; rfl, by rw [hS.out]; exact HM.out⟩⟩
        · have hm := O2.out.left2 HMS.out k hk z t bs (os + 1) tl (sc - 1) HTL.out (ints_tail HTL.out HAT.out) HNE.out
          have HM := Lib.hid hm
          have HB := Lib.hid ((B2.out.setCell (p := ⟨g, k * 2, none⟩) hg (.int .i64 (z + 1))).setCell (p := ⟨g, k * 2 + 1, none⟩) hg (.slice (some ⟨bs, os + 1, none⟩) tl (sc - 1)))
          clear hm
          go_wp2_with fail
          refine bodyPost_ret (results_tmp3 rfl _ _ _) rfl ?_
          exact ⟨HB.out, .inr ⟨hE.out, g, c, by rw [hG.out]; rfl, by rw [hS.out]; exact HM.out⟩⟩
end Go.Proofs
