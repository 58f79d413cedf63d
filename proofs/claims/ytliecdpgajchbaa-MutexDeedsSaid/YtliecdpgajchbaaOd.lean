/- Play of the reference; Clone of deeds. -/
import Derived.Test.YtliecdpgajchbaaOc
namespace Go.Proofs
open Go.RowKit Go.Shelf
attribute [local go_sem] Oper.semAt_some

def RPlayQ (n : Nat) (w : World) (P : Int × List Mx × Nat) (e : Ending) (w' : World) : Prop := Below w.heap.size w w' ∧
  ((P.1 ≠ 0 ∧ e = .returned (.tuple #[.slice none 0 0, .int .i64 0, .int .i64 P.1])) ∨
   (P.1 = 0 ∧ ∃ g c, e = .returned (.tuple #[.slice (some ⟨g, 0, none⟩) n c, .int .i64 (P.2.2 : Nat), .int .i64 0]) ∧ MxAt w' (.slice (some ⟨g, 0, none⟩) n c) P.2.1))
theorem waits_goer {ms : List Mx} (hr : rightB ms = true) {g : Int} (h : goerB g = false) : waitsB ms g = -1 := by
  rw [waitsB_none]
  intro hq
  obtain ⟨m, hm, hg⟩ := mem_flatQ.1 hq
  have := (((rightB_iff ms).1 hr).2.1 m hm).2 g hg
  rw [h] at this
  cases this.1

set_option maxRecDepth 100000 in
set_option maxHeartbeats 8000000 in
theorem Try.refPlay_any (a : Option Addr) (n cap : Nat) (ms : List Mx) (hrt : rightB ms = true) (b : Option Addr) (m dcap : Nat) (ds : List Dd) (hm : m ≤ 10000) (w : World) (hI : MxAt w (.slice a n cap) ms) (hD : DdAt w (.slice b m dcap) ds) :
    Calls Try.prog 29 #[.slice a n cap, .slice b m dcap] w (RPlayQ n w (playR ms 0 ds)) := by
  obtain ⟨hn, hnc, hcm⟩ := mxAt_len hI
  have hdl := (ddAt_len hD).1
  have hl160 := ((rightB_iff ms).1 hrt).1
  have hq8 := right_len hrt
  have hcopy := Try.refCopy_any a n cap ms (by omega) (by omega) w hI
  have hfm := fun (W : World) (n₀ : Nat) v vs (h : OwnM n₀ ms v vs W) => h.form (by omega)
  rw [← hn] at hfm
  obtain ⟨P, hP⟩ : ∃ P, P = playR ms 0 ds := ⟨_, rfl⟩
  rw [← hP]
  have HP := Lib.hid hP
  have HCP := Lib.hid hcopy
  have HFM := Lib.hid hfm
  have HD := Lib.hid hD
  have HDL := Lib.hid hdl
  have HR := Lib.hid hrt
  have HN := Lib.hid hn
  have hnp : 1 ≤ n ∧ n ≤ 160 := by omega
  have HNP := Lib.hid hnp
  clear hP hcopy hfm hD hdl hrt hI hn hnc hcm hl160 hq8 hnp
  go_enter Try.func29, Try.ntmps29
  go_wp2_with fail
  refine HCP.out.mono ?_
  rintro e w2 ⟨v, rfl, ⟨vs, hO⟩, b2⟩
  obtain ⟨g, c, rfl, hg⟩ := HFM.out _ _ _ _ hO
  have M2 := Lib.hid hO.at
  have B2 := Lib.hid b2
  clear hO b2 HCP HFM
  go_wp2_with fail
  go_loopw [0, 7, 15] (fun l o j wr => ∃ (k p g c : Nat) (xs : List Mx), k ≤ m ∧ p ≤ k ∧ j = .int .i64 k ∧ o = .int .i64 p ∧ l = .slice (some ⟨g, 0, none⟩) n c ∧ Hid (rightB xs = true) ∧ Hid (xs.length = n) ∧ Hid (P = playR xs p (ds.drop k)) ∧ Hid (MxAt wr (.slice (some ⟨g, 0, none⟩) n c) xs) ∧ Hid (Below w.heap.size w wr)) (fun _ _ j _ => m - (intOf j).toNat)
  case atStart => exact ⟨0, 0, g, c, ms, Nat.zero_le _, Nat.le_refl _, rfl, rfl, rfl, HR, Lib.hid HN.out.symm, HP, M2, B2⟩
  case round =>
    obtain ⟨k, p, g, c, xs, hk, hpk, rfl, rfl, rfl, hR, hL, hP, hM, hB⟩ := hrel
    by_cases hlt : k < m
    · have hkl : k < ds.length := by rw [← HDL.out]; exact hlt
      obtain ⟨bd, off, rfl, hb, x0, x1, x2⟩ := ddAt_get (RowAt.below HD.out hB.out) k hkl
      have hdn := drop_next ds k hkl
      have hP2 := hP.out
      rw [hdn] at hP2
      generalize ds[k] = d at *
      have hki : (k : Int) < (m : Int) := by omega
      have hwt := fun W (h : MxAt W (.slice (some ⟨g, 0, none⟩) n c) xs) => Try.refWaits_any d.goer (some ⟨g, 0, none⟩) n c xs W h
      have hlv := fun W (h : MxAt W (.slice (some ⟨g, 0, none⟩) n c) xs) => Try.refLeave_any d.which d.goer (some ⟨g, 0, none⟩) n c xs hR.out W h
      have hak := fun W (h : MxAt W (.slice (some ⟨g, 0, none⟩) n c) xs) => Try.refAsk_any d.which d.goer (some ⟨g, 0, none⟩) n c xs hR.out W h
      have hwn : goerB d.goer = false → waitsB xs d.goer = -1 := waits_goer hR.out
      have hw1 : waitsB xs d.goer ≠ -1 → P = playR xs (p + 1) (ds.drop (k + 1)) := fun h => by rw [hP2, playR_wait h]
      have hw2 : waitsB xs d.goer = -1 → deedE xs d ≠ 0 → P = (deedE xs d, [], 0) := fun h h2 => by rw [hP2, playR_err h h2]
      have hw3 : waitsB xs d.goer = -1 → deedE xs d = 0 → P = playR (deedS xs d) p (ds.drop (k + 1)) := fun h h2 => by rw [hP2, playR_ok h h2]
      have hrd : deedE xs d = 0 → rightB (deedS xs d) = true := right_deed hR.out
      have hld : (deedS xs d).length = n := by rw [deed_len]; exact hL.out
      obtain ⟨lv, go, wh⟩ := d
      dsimp only at *
      have hwl := waitsB_le xs go
      have hwl2 : waitsB xs go = -1 ∨ (waitsB xs go ≠ -1 ∧ 0 ≤ waitsB xs go) := by rcases hwl with h | h <;> omega
      have hpw : IntKind.i64.wrap ((p : Int) + 1) = ((p + 1 : Nat) : Int) := by rw [show (p : Int) + 1 = ((p + 1 : Nat) : Int) by omega]; exact IntWalk.i64_in _ (by omega)
      have hB1 : Below wr.heap.size wr (wr.alloc (.cells #[.bool lv, .int .i64 go, .int .i64 wh] 42)) := Rows8.newB
      have HB1 := Lib.hid (hB.out.trans (hB1.mono hB.out.size))
      have HM1 := Lib.hid (hM.out.below hB1)
      have r1 := Rows8.new wr 42 #[.bool lv, .int .i64 go, .int .i64 wh]
      have R1 := Lib.hid r1
      have HWT := Lib.hid hwt
      have HLV := Lib.hid hlv
      have HAK := Lib.hid hak
      have HWN := Lib.hid hwn
      have HW1 := Lib.hid hw1
      have HW2 := Lib.hid hw2
      have HW3 := Lib.hid hw3
      have HRD := Lib.hid hrd
      have HLD := Lib.hid hld
      generalize waitsB xs go = wt at *
      clear hB1 r1 hwt hlv hak hwn hw1 hw2 hw3 hrd hld hwl hdn hP2 hkl hM
      obtain ⟨W1, hW1⟩ : ∃ W1, W1 = wr.alloc (.cells #[.bool lv, .int .i64 go, .int .i64 wh] 42) := ⟨_, rfl⟩
      rw [← hW1] at HB1 HM1 R1
      have HWW := Lib.hid hW1.symm
      clear hW1 hb
      have hway : (goerB go = true ∧ wt ≠ -1 ∧ 0 ≤ wt) ∨ (goerB go = true ∧ wt = -1) ∨ (goerB go = false ∧ wt = -1) := by
        cases hgb : goerB go with
        | true => rcases hwl2 with h | h
                  · exact .inr (.inl ⟨rfl, h⟩)
                  · exact .inl ⟨rfl, h⟩
        | false => exact .inr (.inr ⟨rfl, HWN.out hgb⟩)
      clear hwl2
      obtain ⟨we, rfl⟩ : ∃ x, x = wr := ⟨_, rfl⟩
      go_wp2_with fail
      rw [HWW.out]
      refine (Try.goer_any go _).mono ?_
      rintro e w' ⟨rfl, rfl⟩
      rcases hway with ⟨hgb, hw0, hw1⟩ | ⟨hgb, rfl⟩ | ⟨hgb, rfl⟩
      case inl =>
        rw [hgb]
        have hp := Lib.hid (HW1.out hw0)
        clear hw0
        have z1 : W1.cell? ⟨we.heap.size, 1, none⟩ = some (.int .i64 go) := R1.out.cell 1
        go_wp2_with fail
        refine (HWT.out W1 HM1.out).mono ?_
        rintro e w3 ⟨rfl, b3⟩
        have B3 := Lib.hid (HB1.out.trans (b3.mono HB1.out.size))
        have M3 := Lib.hid (HM1.out.below b3)
        clear b3
        go_wp2_with fail
        exact ⟨⟨k + 1, p + 1, g, c, xs, by omega, by omega, by go_num, by go_num, rfl, hR, hL, hp, M3, B3⟩, by simp [intOf]; omega⟩
      case' inr.inl =>
        rw [hgb]
        have z1 : W1.cell? ⟨we.heap.size, 1, none⟩ = some (.int .i64 go) := R1.out.cell 1
        go_wp2_with fail
        refine (HWT.out W1 HM1.out).mono ?_
        rintro e w3 ⟨rfl, b3⟩
        have B3 := Lib.hid (HB1.out.trans (b3.mono HB1.out.size))
        have M3 := Lib.hid (HM1.out.below b3)
        have R3 := Lib.hid (R1.out.below b3 R1.out.lt)
        clear b3 z1
      case' inr.inr =>
        rw [hgb]
        obtain ⟨w3, rfl⟩ : ∃ x, x = W1 := ⟨_, rfl⟩
        have B3 := HB1
        have M3 := HM1
        have R3 := R1
      all_goals
        clear HB1 HM1 R1 HWT HWN HW1 HWW
        have y0 : w3.cell? ⟨we.heap.size, 0, none⟩ = some (.bool lv) := R3.out.cell 0
        have y1 : w3.cell? ⟨we.heap.size, 1, none⟩ = some (.int .i64 go) := R3.out.cell 1
        have y2 : w3.cell? ⟨we.heap.size, 2, none⟩ = some (.int .i64 wh) := R3.out.cell 2
        cases lv with
          | true =>
            have e1 : deedE xs ⟨true, go, wh⟩ = leaveE xs wh go := rfl
            have e2 : deedS xs ⟨true, go, wh⟩ = leaveS xs wh := rfl
            rw [e1, e2] at HW3
            rw [e1] at HW2
            rw [e1, e2] at HRD
            rw [e2] at HLD
            go_wp2_with fail
            refine (HLV.out w3 M3.out).mono ?_
            rintro e w4 ⟨b4, ⟨h1, rfl⟩ | ⟨h1, g4, c4, rfl, m4⟩⟩
            · have hp := Lib.hid (HW2.out (by first | rfl | trivial) h1)
              have B4 := Lib.hid (B3.out.trans (b4.mono B3.out.size))
              have H1 := Lib.hid h1
              have hEn : (leaveE xs wh go != 0) = true := by simpa using h1
              generalize leaveE xs wh go = E at *
              clear b4 h1
              go_wp2_with fail
              refine bodyPost_ret (results_tmp3 rfl _ _ _) rfl ?_
              exact ⟨B4.out, .inl ⟨by rw [hp.out]; exact H1.out, by rw [hp.out]; rfl⟩⟩
            · have hp := Lib.hid (HW3.out (by first | rfl | trivial) h1)
              have hr4 := Lib.hid (HRD.out h1)
              have B4 := Lib.hid (B3.out.trans (b4.mono B3.out.size))
              have M4 := Lib.hid m4
              clear b4 h1 m4
              go_wp2_with fail
              exact ⟨⟨k + 1, p, g4, c4, _, by omega, by omega, by go_num, rfl, rfl, hr4, HLD, hp, M4, B4⟩, by simp [intOf]; omega⟩
          | false =>
            have e1 : deedE xs ⟨false, go, wh⟩ = askE xs wh go := rfl
            have e2 : deedS xs ⟨false, go, wh⟩ = askS xs wh go := rfl
            rw [e1, e2] at HW3
            rw [e1] at HW2
            rw [e1, e2] at HRD
            rw [e2] at HLD
            go_wp2_with fail
            refine (HAK.out w3 M3.out).mono ?_
            rintro e w4 ⟨b4, ⟨h1, rfl⟩ | ⟨h1, g4, c4, rfl, m4⟩⟩
            · have hp := Lib.hid (HW2.out (by first | rfl | trivial) h1)
              have B4 := Lib.hid (B3.out.trans (b4.mono B3.out.size))
              have H1 := Lib.hid h1
              have hEn : (askE xs wh go != 0) = true := by simpa using h1
              generalize askE xs wh go = E at *
              clear b4 h1
              go_wp2_with fail
              refine bodyPost_ret (results_tmp3 rfl _ _ _) rfl ?_
              exact ⟨B4.out, .inl ⟨by rw [hp.out]; exact H1.out, by rw [hp.out]; rfl⟩⟩
            · have hp := Lib.hid (HW3.out (by first | rfl | trivial) h1)
              have hr4 := Lib.hid (HRD.out h1)
              have B4 := Lib.hid (B3.out.trans (b4.mono B3.out.size))
              have M4 := Lib.hid m4
              clear b4 h1 m4
              go_wp2_with fail
              exact ⟨⟨k + 1, p, g4, c4, _, by omega, by omega, by go_num, rfl, rfl, hr4, HLD, hp, M4, B4⟩, by simp [intOf]; omega⟩
    · obtain rfl : k = m := by omega
      have hfin : Hid (P = (0, xs, p)) := Lib.hid (by rw [hP.out, HDL.out, List.drop_length]; rfl)
      go_wp2_with fail
      refine bodyPost_ret (results_tmp3 rfl _ _ _) rfl ?_
      rw [hfin.out]
      exact ⟨hB.out, .inr ⟨rfl, g, c, rfl, hM.out⟩⟩
end Go.Proofs
