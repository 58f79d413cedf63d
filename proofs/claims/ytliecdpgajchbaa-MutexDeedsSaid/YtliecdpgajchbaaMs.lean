/- A hand: play. -/
import Derived.Test.YtliecdpgajchbaaMr
namespace Go.Proofs
open Go.RowKit Go.Shelf
attribute [local go_sem] Oper.semAt_some

/-- A cell of a block of another kind is written. -/
theorem OwnsM.setCell {n₀ : Nat} {ms : List Mx} {r n : Nat} {W : World} (h : OwnsM n₀ ms (.slice (some ⟨r, 0, none⟩) n n) W) {H : Nat} {t : TypeId} {cs : Array Value} (hH : Rows8 W H t cs) (h1 : t ≠ 53) (h2 : 3 ≠ t) (o : Nat) (u : Value) : OwnsM n₀ ms (.slice (some ⟨r, 0, none⟩) n n) (W.setCell ⟨H, o, none⟩ u) := by
  obtain ⟨vs, h⟩ := h
  have hr := h.rows.2.2
  refine ⟨vs, h.kept (grownBy_set W H o u) (.inr ?_) (fun i qv hi e => .inr ?_)⟩
  · intro e
    simp [Value.ownBlock] at e
    exact rows_ne hH hr h1 e.symm
  · obtain ⟨q2, e2, ho⟩ := h.que i hi
    rw [e] at e2
    cases e2
    exact ho.ne hH h2
/-- What a deed's function does, whichever. -/
theorem Try.deed_any (d : Dd) (H r n n₀ : Nat) (p : Value) (ms : List Mx) (hrt : rightB ms = true) (w : World) (hH : Rows8 w H 67 #[.slice (some ⟨r, 0, none⟩) n n, p]) (hO : OwnsM n₀ ms (.slice (some ⟨r, 0, none⟩) n n) w) :
    Calls Try.prog (if d.lv = true then 46 else 43) #[.pointer (some ⟨H, 0, none⟩), .int .i64 d.which, .int .i64 d.goer] w fun e w' =>
      (deedE ms d = 0 ∧ e = .returned (.tuple #[]) ∧ Rows8 w' H 67 #[.slice (some ⟨r, 0, none⟩) n n, p] ∧ OwnsM n₀ (deedS ms d) (.slice (some ⟨r, 0, none⟩) n n) w' ∧ Below n₀ w w' ∧ Spare w w') ∨
      (deedE ms d ≠ 0 ∧ e = .panicked (panic1 (deedE ms d)) ∧ Below w.heap.size w w') := by
  unfold deedE deedS
  cases h : d.lv with
  | true =>
    simp only [if_true]
    exact Try.leave_any d.which d.goer H r n n₀ p ms hrt w hH hO
  | false =>
    simp only [Bool.false_eq_true, if_false]
    exact Try.ask_any d.which d.goer H r n n₀ p ms (by have := right_len hrt; omega) w hH hO

/-- Blocks of yet other kinds. -/
def SpareH (A B : World) : Prop := ∀ b t cs, Rows8 A b t cs → t ≠ 53 → 3 ≠ t → t ≠ 67 → Rows8 B b t cs
theorem Spare.h {A B : World} (p : Spare A B) : SpareH A B := fun b t cs h h1 h2 _ => p b t cs h h1 h2
theorem SpareH.trans {A B C : World} (p : SpareH A B) (q : SpareH B C) : SpareH A C := fun b t cs h h1 h2 h3 => q b t cs (p b t cs h h1 h2 h3) h1 h2 h3
theorem spareH_below {A B : World} (p : Below A.heap.size A B) : SpareH A B := (spare_below p (Nat.le_refl _)).h
theorem spareH_set {W : World} {r : Nat} {cs : Array Value} (h : Rows8 W r 67 cs) (o : Nat) (u : Value) : SpareH W (W.setCell ⟨r, o, none⟩ u) := fun _ _ _ hR _ _ h3 => hR.setOther (a := ⟨r, o, none⟩) (rows_ne h hR (fun e => h3 e.symm)) u
def PlayQ (H r n n₀ : Nat) (w : World) (P : Int × List Mx × Nat) (e : Ending) (w' : World) : Prop :=
  (P.1 = 0 ∧ e = .returned (.tuple #[]) ∧ Rows8 w' H 67 #[.slice (some ⟨r, 0, none⟩) n n, .int .i64 (P.2.2 : Nat)] ∧ OwnsM n₀ P.2.1 (.slice (some ⟨r, 0, none⟩) n n) w' ∧ Below n₀ w w' ∧ SpareH w w') ∨
  (P.1 ≠ 0 ∧ e = .panicked (panic1 P.1) ∧ Below n₀ w w' ∧ SpareH w w' ∧ ∃ u : Nat, Rows8 w' H 67 #[.slice (some ⟨r, 0, none⟩) n n, .int .i64 u])
set_option maxRecDepth 100000 in
set_option maxHeartbeats 4000000 in
theorem Try.play_any (H r n n₀ : Nat) (ms : List Mx) (hrt : rightB ms = true) (a : Option Addr) (m cap : Nat) (ds : List Dd) (w₀ w : World) (hD : DdAt w₀ (.slice a m cap) ds) (hm : m ≤ 10000) (hw : Below w₀.heap.size w₀ w) (hw0 : w₀.heap.size ≤ n₀) (hHn : n₀ ≤ H)
    (hH : Rows8 w H 67 #[.slice (some ⟨r, 0, none⟩) n n, .int .i64 0]) (hO : OwnsM n₀ ms (.slice (some ⟨r, 0, none⟩) n n) w) :
    Calls Try.prog 49 #[.pointer (some ⟨H, 0, none⟩), .slice a m cap] w (PlayQ H r n n₀ w (playR ms 0 ds)) := by
  obtain ⟨hmd, _, _⟩ := ddAt_len hD
  have hn0w : n₀ ≤ w.heap.size := by have := hH.lt; omega
  have HD := Lib.hid hD
  have HM := Lib.hid hmd
  have HW := Lib.hid hw
  have HH := Lib.hid hH
  have HO := Lib.hid hO
  have hHl := hH.lt
  have HRT := Lib.hid hrt
  clear hD hmd hw hH hO hrt
  generalize hP : playR ms 0 ds = P at *
  have HP := Lib.hid hP
  clear hP
  go_enter Try.func49, Try.ntmps49
  go_wp2
  go_loopw [10] (fun j wr => ∃ (k p : Nat) (xs : List Mx), k ≤ m ∧ p ≤ k ∧ j = .int .i64 k ∧ Hid (P = playR xs p (ds.drop k)) ∧ Hid (rightB xs = true) ∧ Rows8 wr H 67 #[.slice (some ⟨r, 0, none⟩) n n, .int .i64 (p : Nat)] ∧ OwnsM n₀ xs (.slice (some ⟨r, 0, none⟩) n n) wr ∧ Below n₀ w wr ∧ SpareH w wr) (fun j _ => m - (intOf j).toNat)
  case atStart => exact ⟨0, 0, ms, Nat.zero_le _, Nat.le_refl _, rfl, Lib.hid HP.out.symm, HRT, HH.out, HO.out, Below.refl _ _, fun _ _ _ h _ _ _ => h⟩
  case round =>
    obtain ⟨k, p, xs, hk, hpk, rfl, hx, hrx, hHr, hOr, hB, hSP⟩ := hrel
    have HSP := Lib.hid hSP
    clear hSP
    by_cases hlt : k < m
    · have hkl : k < ds.length := by rw [← HM.out]; exact hlt
      have hDw : DdAt wr (.slice a m cap) ds := RowAt.below HD.out (HW.out.trans (hB.mono hw0))
      obtain ⟨b, off, rfl, hb, p1, p2, p3⟩ := ddAt_get hDw k hkl
      have hxx := hx.out
      rw [drop_next ds k hkl] at hxx
      generalize ds[k] = d at *
      have hki : (k : Int) < (m : Int) := by omega
      have hHlr := hHr.lt
      have hwt := @playR_wait xs p d (ds.drop (k + 1))
      have her := @playR_err xs p d (ds.drop (k + 1))
      have hok := @playR_ok xs p d (ds.drop (k + 1))
      rw [← hxx] at hwt her hok
      have hrd := @right_deed xs d hrx.out
      obtain ⟨lv, g, wh⟩ := d
      dsimp only at p1 p2 p3 hwt her hok
      have HWT := Lib.hid hwt
      have HER := Lib.hid her
      have HOK := Lib.hid hok
      have HRD := Lib.hid hrd
      have HH1 := Lib.hid hHr
      have HO1 := Lib.hid hOr
      have HB1 := Lib.hid hB
      have hpi : (p : Int) ≤ 10000 := by omega
      have hwz : n₀ ≤ wr.heap.size := by omega
      clear hwt her hok hrd hHr hOr hB hxx hx hDw hkl
      go_wp2_with fail
      obtain ⟨W1, hW1⟩ : ∃ W1, W1 = wr.alloc (.cells #[.bool lv, .int .i64 g, .int .i64 wh] 42) := ⟨_, rfl⟩
      have d1 : Rows8 W1 wr.heap.size 42 #[.bool lv, .int .i64 g, .int .i64 wh] := by rw [hW1]; exact Rows8.new wr _ _
      have hBW : Below wr.heap.size wr W1 := by rw [hW1]; exact Rows8.newB
      rw [← hW1]
      have hH2 := HH1.out.below hBW hHlr
      have HH2 := Lib.hid hH2
      have HO2 := Lib.hid (HO1.out.keep hBW (Nat.le_refl _))
      have HB2 := Lib.hid (HB1.out.trans (hBW.mono hwz))
      have HSP1 := Lib.hid (HSP.out.trans (spareH_below hBW))
      have hz2 : wr.heap.size < W1.heap.size := d1.lt
      have hH2l := hH2.lt
      have hwp := waitsP_two xs g
      have hwc := Try.waits_any g (some ⟨r, 0, none⟩) n n xs W1.drew (HO2.out.at.below ((Below.refl _ W1).drew))
      generalize waitsP xs g = wp at *
      obtain ⟨wp1, wp2⟩ := wp
      dsimp only at hwp hwc
      have HWC := Lib.hid hwc
      have HWP := Lib.hid hwp
      have hk0 : W1.cell? ⟨H, 0, none⟩ = some (.slice (some ⟨r, 0, none⟩) n n) ∧ W1.cell? ⟨wr.heap.size, 1, none⟩ = some (.int .i64 g) := ⟨hH2.cell 0, d1.cell 1⟩
      clear hW1 hBW hH2 hwp hwc HH1 HO1
      go_region_held3 (fun W' => W'.cell? ⟨H, 0, none⟩ = some (.slice (some ⟨r, 0, none⟩) n n) ∧ W'.cell? ⟨wr.heap.size, 1, none⟩ = some (.int .i64 g)) (first | exact hk0 | exact hk1) (first
        | (go_at_call 37; refine HWC.out.mono ?_; rintro e w2 ⟨rfl, hB3⟩; have h3 : Rows8 w2 H 67 #[.slice (some ⟨r, 0, none⟩) n n, .int .i64 (p : Nat)] := Rows8.below (A := W1.drew) HH2.out hB3 hH2l; have d3 : Rows8 w2 wr.heap.size 42 #[.bool lv, .int .i64 g, .int .i64 wh] := Rows8.below (A := W1.drew) d1 hB3 d1.lt; have hk1 : w2.cell? ⟨H, 0, none⟩ = some (.slice (some ⟨r, 0, none⟩) n n) ∧ w2.cell? ⟨wr.heap.size, 1, none⟩ = some (.int .i64 g) := ⟨h3.cell 0, d3.cell 1⟩))
      have hB4 : Below W1.heap.size W1 w2 := ((Below.refl _ W1).drew).trans hB3
      have hHo : OwnsM n₀ xs (.slice (some ⟨r, 0, none⟩) n n) w2 := HO2.out.keep hB4 (Nat.le_refl _)
      have hBo : Below n₀ w w2 := HB2.out.trans (hB4.mono (show n₀ ≤ W1.heap.size by omega))
      have hz3 : W1.heap.size ≤ w2.heap.size := hB3.size
      have HHO := Lib.hid hHo
      have HBO := Lib.hid hBo
      have HSP2 := Lib.hid (HSP1.out.trans (spareH_below hB4))
      have H3 := Lib.hid h3
      have D3 := Lib.hid d3
      have hH3l := h3.lt
      clear hk0 hk1 hB3 hB4 h3 d3 hHo hBo HWC HO2 HH2 HB2 d1
      cases wp2 with
      | true =>
        have hP := HWT.out (by simpa using HWP.out)
        have c1 : w2.cell? ⟨H, 1, none⟩ = some (.int .i64 (p : Nat)) := H3.out.cell 1
        have f1 := H3.out.frozen 1
        have h4 := H3.out.set 1 (.int .i64 ((p : Int) + 1))
        simp only [List.setIfInBounds_toArray, List.set_cons_zero, List.set_cons_succ] at h4
        have hOn : OwnsM n₀ xs (.slice (some ⟨r, 0, none⟩) n n) (w2.setCell ⟨H, 1, none⟩ (.int .i64 ((p : Int) + 1))) := HHO.out.setCell H3.out (by decide) (by decide) 1 _
        have hBn := HBO.out.setCell (p := ⟨H, 1, none⟩) hHn (.int .i64 ((p : Int) + 1))
        have H4 := Lib.hid h4
        have HON := Lib.hid hOn
        have HBN := Lib.hid hBn
        have HSP3 := Lib.hid (HSP2.out.trans (spareH_set H3.out 1 (.int .i64 ((p : Int) + 1))))
        have HPN := Lib.hid hP
        clear h4 hOn hBn hP
        go_wp2_with fail
        exact ⟨⟨k + 1, p + 1, xs, by omega, by omega, by go_num, Lib.hid HPN.out, hrx, by simpa using H4.out, HON.out, HBN.out, HSP3.out⟩, by simp [intOf]; omega⟩
      | false =>
        have hwn : waitsB xs g = -1 := by simpa using HWP.out
        have HER2 := Lib.hid (HER.out hwn)
        have HOK2 := Lib.hid (HOK.out hwn)
        clear HER HOK HWT hwn
        have hDc := fun (W : World) (hB : Below w2.heap.size w2 W) => Try.deed_any ⟨lv, g, wh⟩ H r n n₀ (.int .i64 (p : Nat)) xs hrx.out W (H3.out.below hB hH3l) (HHO.out.keep hB (Nat.le_refl _))
        have hdo := fun W : World => Try.does_any lv g wh W
        dsimp only at hDc
        have HDC := Lib.hid hDc
        have HDO := Lib.hid hdo
        have hk0 : w2.cell? ⟨wr.heap.size, 0, none⟩ = some (.bool lv) ∧ w2.cell? ⟨wr.heap.size, 1, none⟩ = some (.int .i64 g) ∧ w2.cell? ⟨wr.heap.size, 2, none⟩ = some (.int .i64 wh) := ⟨D3.out.cell 0, D3.out.cell 1, D3.out.cell 2⟩
        clear hDc hdo
        go_wp2_with fail
        by_cases he : deedE xs ⟨lv, g, wh⟩ = 0
        · have hP := HOK2.out he
          have hrn := HRD.out he
          have hD2 := fun (W : World) (hB : Below w2.heap.size w2 W) => (HDC.out W hB).mono (R' := fun e W' => e = .returned (.tuple #[]) ∧ Rows8 W' H 67 #[.slice (some ⟨r, 0, none⟩) n n, .int .i64 (p : Nat)] ∧ OwnsM n₀ (deedS xs ⟨lv, g, wh⟩) (.slice (some ⟨r, 0, none⟩) n n) W' ∧ Below n₀ W W' ∧ Spare W W') (fun e W' h => by
            rcases h with ⟨_, h2⟩ | ⟨h1, _⟩
            · exact h2
            · exact absurd he h1)
          have HD2 := Lib.hid hD2
          have HPN := Lib.hid hP
          have HRN := Lib.hid hrn
          have hz4 : n₀ ≤ w2.heap.size := by omega
          clear hD2 hP hrn he HDC HOK2 HER2 HRD
          generalize deedS xs ⟨lv, g, wh⟩ = ys at *
          cases lv with
          | true =>
            simp at HD2 HDO
            go_region_held3 (fun W' => W'.cell? ⟨wr.heap.size, 0, none⟩ = some (.bool true) ∧ W'.cell? ⟨wr.heap.size, 1, none⟩ = some (.int .i64 g) ∧ W'.cell? ⟨wr.heap.size, 2, none⟩ = some (.int .i64 wh)) (first | exact hk0 | exact hk1 | exact hk2) (first
              | (go_at_call 60; refine (HDO.out _).mono ?_; rintro e w3 ⟨rfl, hB5⟩; have hB6 : Below w2.heap.size w2 w3 := ((Below.refl _ w2).drew).trans hB5; have d5 := D3.out.below hB6 D3.out.lt; have hk1 : w3.cell? ⟨wr.heap.size, 0, none⟩ = some (.bool true) ∧ w3.cell? ⟨wr.heap.size, 1, none⟩ = some (.int .i64 g) ∧ w3.cell? ⟨wr.heap.size, 2, none⟩ = some (.int .i64 wh) := ⟨d5.cell 0, d5.cell 1, d5.cell 2⟩)
              | (go_at_call 46; refine (HD2.out _ hB6).mono ?_; rintro e w4 ⟨rfl, h7, ho7, hb7, hs7⟩; have d6 := hs7 _ _ _ d5 (by decide) (by decide); have hk2 : w4.cell? ⟨wr.heap.size, 0, none⟩ = some (.bool true) ∧ w4.cell? ⟨wr.heap.size, 1, none⟩ = some (.int .i64 g) ∧ w4.cell? ⟨wr.heap.size, 2, none⟩ = some (.int .i64 wh) := ⟨d6.cell 0, d6.cell 1, d6.cell 2⟩))
            have HON := Lib.hid ho7
            have H7 := Lib.hid h7
            have HB7 := Lib.hid (HBO.out.trans ((hB6.mono hz4).trans hb7))
            have HSP7 := Lib.hid ((HSP2.out.trans (spareH_below hB6)).trans hs7.h)
            clear ho7 h7 hb7 hs7 d6 d5 hk0 hk1 hk2 hB5 hB6
            go_wp2_with fail
            exact ⟨⟨k + 1, p, ys, by omega, by omega, by go_num, Lib.hid HPN.out, Lib.hid HRN.out, H7.out, HON.out, HB7.out, HSP7.out⟩, by simp [intOf]; omega⟩
          | false =>
            simp at HD2 HDO
            go_region_held3 (fun W' => W'.cell? ⟨wr.heap.size, 0, none⟩ = some (.bool false) ∧ W'.cell? ⟨wr.heap.size, 1, none⟩ = some (.int .i64 g) ∧ W'.cell? ⟨wr.heap.size, 2, none⟩ = some (.int .i64 wh)) (first | exact hk0 | exact hk1 | exact hk2) (first
              | (go_at_call 60; refine (HDO.out _).mono ?_; rintro e w3 ⟨rfl, hB5⟩; have hB6 : Below w2.heap.size w2 w3 := ((Below.refl _ w2).drew).trans hB5; have d5 := D3.out.below hB6 D3.out.lt; have hk1 : w3.cell? ⟨wr.heap.size, 0, none⟩ = some (.bool false) ∧ w3.cell? ⟨wr.heap.size, 1, none⟩ = some (.int .i64 g) ∧ w3.cell? ⟨wr.heap.size, 2, none⟩ = some (.int .i64 wh) := ⟨d5.cell 0, d5.cell 1, d5.cell 2⟩)
              | (go_at_call 43; refine (HD2.out _ hB6).mono ?_; rintro e w4 ⟨rfl, h7, ho7, hb7, hs7⟩; have d6 := hs7 _ _ _ d5 (by decide) (by decide); have hk2 : w4.cell? ⟨wr.heap.size, 0, none⟩ = some (.bool false) ∧ w4.cell? ⟨wr.heap.size, 1, none⟩ = some (.int .i64 g) ∧ w4.cell? ⟨wr.heap.size, 2, none⟩ = some (.int .i64 wh) := ⟨d6.cell 0, d6.cell 1, d6.cell 2⟩))
            have HON := Lib.hid ho7
            have H7 := Lib.hid h7
            have HB7 := Lib.hid (HBO.out.trans ((hB6.mono hz4).trans hb7))
            have HSP7 := Lib.hid ((HSP2.out.trans (spareH_below hB6)).trans hs7.h)
            clear ho7 h7 hb7 hs7 d6 d5 hk0 hk1 hk2 hB5 hB6
            go_wp2_with fail
            exact ⟨⟨k + 1, p, ys, by omega, by omega, by go_num, Lib.hid HPN.out, Lib.hid HRN.out, H7.out, HON.out, HB7.out, HSP7.out⟩, by simp [intOf]; omega⟩
        · have hP := HER2.out he
          have hD2 := fun (W : World) (hB : Below w2.heap.size w2 W) => (HDC.out W hB).mono (R' := fun e W' => e = .panicked (panic1 (deedE xs ⟨lv, g, wh⟩)) ∧ Below W.heap.size W W') (fun e W' h => by
            rcases h with ⟨h1, _⟩ | ⟨_, h2⟩
            · exact absurd h1 he
            · exact h2)
          have hPf : Hid (P.1 ≠ 0 ∧ deedE xs ⟨lv, g, wh⟩ = P.1) := Lib.hid (by rw [hP]; exact ⟨he, rfl⟩)
          have HD2 := Lib.hid hD2
          have hz4 : n₀ ≤ w2.heap.size := by omega
          clear hD2 hP he HDC HOK2 HER2 HRD
          unfold panic1 at *
          generalize deedE xs ⟨lv, g, wh⟩ = E at *
          cases lv with
          | true =>
            simp at HD2 HDO
            go_region_with (first
              | (go_at_call 60; refine (HDO.out _).mono ?_; rintro e w3 ⟨rfl, hB5⟩; have hB6 : Below w2.heap.size w2 w3 := ((Below.refl _ w2).drew).trans hB5; have d5 := D3.out.below hB6 D3.out.lt; have hk1 : w3.cell? ⟨wr.heap.size, 0, none⟩ = some (.bool true) ∧ w3.cell? ⟨wr.heap.size, 1, none⟩ = some (.int .i64 g) ∧ w3.cell? ⟨wr.heap.size, 2, none⟩ = some (.int .i64 wh) := ⟨d5.cell 0, d5.cell 1, d5.cell 2⟩)
              | (go_at_call 46; refine (HD2.out _ hB6).mono ?_; rintro e w4 ⟨rfl, hb7⟩; go_simp; refine (show wpAny Try.prog default #[] (fun _ _ _ => True) 0 #[] { tmps := #[], defers := [] } w4 → _ from fun _ => ⟨rfl, Or.inr ⟨hPf.out.1, by rw [hPf.out.2]; rfl, HBO.out.trans ((hB6.mono hz4).trans (hb7.mono (Nat.le_trans hz4 hB6.size))), (HSP2.out.trans (spareH_below hB6)).trans (spareH_below hb7), p, (H3.out.below hB6 hH3l).below hb7 (Nat.lt_of_lt_of_le hH3l hB6.size)⟩⟩) ?_))
            all_goals trivial
          | false =>
            simp at HD2 HDO
            go_region_with (first
              | (go_at_call 60; refine (HDO.out _).mono ?_; rintro e w3 ⟨rfl, hB5⟩; have hB6 : Below w2.heap.size w2 w3 := ((Below.refl _ w2).drew).trans hB5; have d5 := D3.out.below hB6 D3.out.lt; have hk1 : w3.cell? ⟨wr.heap.size, 0, none⟩ = some (.bool false) ∧ w3.cell? ⟨wr.heap.size, 1, none⟩ = some (.int .i64 g) ∧ w3.cell? ⟨wr.heap.size, 2, none⟩ = some (.int .i64 wh) := ⟨d5.cell 0, d5.cell 1, d5.cell 2⟩)
              | (go_at_call 43; refine (HD2.out _ hB6).mono ?_; rintro e w4 ⟨rfl, hb7⟩; go_simp; refine (show wpAny Try.prog default #[] (fun _ _ _ => True) 0 #[] { tmps := #[], defers := [] } w4 → _ from fun _ => ⟨rfl, Or.inr ⟨hPf.out.1, by rw [hPf.out.2]; rfl, HBO.out.trans ((hB6.mono hz4).trans (hb7.mono (Nat.le_trans hz4 hB6.size))), (HSP2.out.trans (spareH_below hB6)).trans (spareH_below hb7), p, (H3.out.below hB6 hH3l).below hb7 (Nat.lt_of_lt_of_le hH3l hB6.size)⟩⟩) ?_))
            all_goals trivial
    · obtain rfl : k = m := by omega
      have hfin : Hid (P = (0, xs, p)) := Lib.hid (by rw [hx.out, List.drop_of_length_le (Nat.le_of_eq HM.out.symm)]; rfl)
      have H1 := Lib.hid hHr
      have H2 := Lib.hid hOr
      have H3 := Lib.hid hB
      clear hHr hOr hB hx
      go_wp2_with fail
      first | go_end0 | refine bodyPost_ret (results_none rfl _ _ _) rfl ?_
      exact Or.inl ⟨by rw [hfin.out], rfl, by rw [hfin.out]; exact H1.out, by rw [hfin.out]; exact H2.out, H3.out, HSP.out⟩
end Go.Proofs
