/- Proved: for every words and accesses, honeycomblaw02.CellsAlike returns true, and its arguments read as they did; no condition. -/
import Derived.Test.YtfckkclkhffkhaaCo
import Derived.ChangeAt
import Derived.JoinedAt
import Derived.ProofKit
import Derived.OpenShut
import Derived.Test.YtfckkclkhffkhaaRows
namespace Go.Proofs.Ytfckkclkhffkhaa.cellsAlike
open Go.ChangeShapes Go.WideShapes Go.ChangeAt Go.RowKit Go.Shelf
attribute [local go_sem] Oper.semAt_some

theorem own : ownKnob Try.prog.godebug = none := by kernel_rfl
theorem runTo_seens (ws : List Int) (l : List Acc) (k n : Nat) (hk : k < n) (hn : n ≤ l.length) : (runTo ws l n).seens[k]? = (runTo ws l (k + 1)).seens[k]? := by
  induction n with
  | zero => omega
  | succ n ih =>
    by_cases h : k = n
    · subst h; rfl
    · rw [← ih (by omega) (by omega), runTo_succ ws l n (by omega)]
      have := (runTo_lens ws l n (by omega)).2.1
      show ((runTo ws l n).seens ++ [_])[k]? = _
      rw [List.getElem?_append_left (by omega)]
theorem runTo_seen (ws : List Int) (l : List Acc) (k : Nat) (hk : k < l.length) (who kind pl old new : Int) (ha : l[k] = ⟨who, kind, pl, old, new⟩) :
    (runTo ws l l.length).seens[k]? = some ((runTo ws l k).ws[pl.toNat]?.getD 0, doneOf kind old ((runTo ws l k).ws[pl.toNat]?.getD 0)) := by
  rw [runTo_seens ws l k l.length hk (Nat.le_refl _), runTo_succ ws l k hk, ha]
  have := (runTo_lens ws l k (by omega)).2.1
  show ((runTo ws l k).seens ++ [_])[k]? = _
  rw [List.getElem?_append_right (by omega), this, Nat.sub_self]
  rfl

set_option maxRecDepth 100000 in
set_option maxHeartbeats 16000000 in
theorem walk (a : Option Addr) (n cap : Nat) (xs : List Int) (al : Option Addr) (nl capl : Nat) (ys : List Acc) (w : World) (hn : n = xs.length) (hI : WordsAt w (.slice a n cap) xs) (hnl : nl = ys.length) (hL : AccsAt w (.slice al nl capl) ys) :
    Calls Try.prog 8 #[.slice a n cap, .slice al nl capl] w fun e w' => e = .returned (.bool true) ∧ Below w.heap.size w w' := by
  have HI := Lib.hid hI
  have HL := Lib.hid hL
  have HN := Lib.hid hn
  have HNL := Lib.hid hnl
  have hcl : nl ≤ capl := by
    obtain ⟨h0, a', cap', e, h1, h2, h3, h4⟩ := hL
    cases e
    exact h1
  have hla : (ys.take 40).length ≤ 40 := by rw [List.length_take]; omega
  have hlw : (xs.take 40).length ≤ 40 := by rw [List.length_take]; omega
  clear hI hL hn
  have FEW := Lib.hid fun W (hB : Below w.heap.size w W) => Try.few_any a n cap xs HN.out W (RowAt.below HI.out hB)
  by_cases h40 : nl ≤ 40
  · have hQ : AccsAt w (.slice al nl capl) (ys.take 40) := by
      have h := accs_cut HNL.out HL.out nl (Nat.le_refl _)
      rw [List.take_of_length_le (by omega)] at h
      rw [List.take_of_length_le (by omega)]
      exact h
    have hM : nl = (ys.take 40).length := by rw [List.length_take]; omega
    have HQ := Lib.hid hQ
    have HM := Lib.hid hM
    have f1 : (nl : Int) ≤ 40 := by omega
    have f2 : ¬ (40 : Int) < (nl : Int) := by omega
    have f3 : ¬ (capl : Int) < (nl : Int) := by omega
    clear hQ hM h40 hnl hcl
    generalize ys.take 40 = la at *
    generalize xs.take 40 = ws at *
    go_enter Try.func8, Try.ntmps8
    go_wp2_with fail
    refine (Try.wakes_any _).mono ?_
    rintro e w1 ⟨rfl, B1⟩
    go_wp2_with fail
    refine (FEW.out w1 B1).mono ?_
    rintro e w2 ⟨v, rfl, hO, B2⟩
    obtain ⟨_, a2, c2, rfl, _⟩ := rowAt_own hO
    have B02 := B1.trans (B2.mono B1.size)
    have HO := Lib.hid hO
    clear hO
    go_wp2_with fail
    have hq1 : (ws.length < 1 ∨ 8192 < ws.length) → errOf ws.length la = 120 := fun h => if_pos h
    have hq2 : ¬ (ws.length < 1 ∨ 8192 < ws.length) → errOf ws.length la = errRow ws.length la := fun h => if_neg h
    have hQ1 := Lib.hid hq1
    have hQ2 := Lib.hid hq2
    clear hq1 hq2
    refine (Try.Run_any ws la (by omega) _ _ w2 (rowAt_own HO.out) (RowAt.below HQ.out B02)).mono ?_
    rintro e w3 (⟨he, rfl, B3⟩ | ⟨he, v1, v2, v3, rfl, o1, o2, o3, B3⟩)
    · generalize errOf ws.length la = q at *
      have HE := Lib.hid he
      clear he
      go_wp2_with fail
      refine (Try.Share_any ws _ w3 (RowAt.below (rowAt_own HO.out) B3)).mono ?_
      have B03 := B02.trans (B3.mono B02.size)
      rintro e w4 (⟨hb, rfl, B4⟩ | ⟨hb, B, g, cg, rfl, hS, B4⟩)
      · obtain rfl : q = 120 := hQ1.out hb
        have hd : ((120 : Int) != 0) = true := rfl
        have hd2 : ((120 : Int) == 120) = true := rfl
        have HB4 := Lib.hid (B03.trans (B4.mono B03.size))
        clear hb B4 hQ1 hQ2
        go_wp2
        go_ret
        exact ⟨rfl, HB4.out⟩
      · have hqr := hQ2.out hb
        have HQR := Lib.hid hqr
        have HS := Lib.hid hS
        have HB4 := Lib.hid B4
        have hw34 := B4.size
        have hw3 := B03.size
        have hl1 : 0 < ws.length := by omega
        clear hqr hb hS B4 hQ1 hQ2 B3
        have hdq : (q == 0) = false := by have := HE.out; simp [this]
        have HDQ := Lib.hid hdq
        clear hdq
        go_wp2_with fail
        go_loopw [12, 13, 14, 15, 49] (fun _ _ _ _ j wr => ∃ k : Nat, k ≤ la.length ∧ j = .int .i64 k ∧ errRow ws.length (la.take k) = 0 ∧ Shr w3.heap.size (runTo ws la k).ws B g cg wr ∧ Below w3.heap.size w3 wr) (fun _ _ _ _ j _ => la.length - (intOf j).toNat)
        case atStart => exact ⟨0, Nat.zero_le _, rfl, rfl, HS.out, HB4.out⟩
        case round =>
          obtain ⟨k, hk, rfl, herr, hSr, hBr⟩ := hrel
          by_cases hlt : k < la.length
          · obtain ⟨he1, he2⟩ := errRow_at ws.length la k hlt herr
            have hst := runTo_succ ws la k hlt
            obtain ⟨hn1, hn2, hn3⟩ := runTo_lens ws la k hk
            obtain ⟨b, off, rfl, hb, q0, q1, q2, q3, q4⟩ := accsAt_get (RowAt.below HQ.out (B03.trans (hBr.mono hw3))) k hlt
            rcases hac : la[k] with ⟨who, kind, pl, old, new⟩
            rw [hac] at q0 q1 q2 q3 q4 he1 he2 hst
            unfold whyOf at he1 he2
            dsimp only at q0 q1 q2 q3 q4 he1 he2
            have hki : (k : Int) < (nl : Int) := by have := HM.out; omega
            have HE1 := Lib.hid he1
            have HE2 := Lib.hid he2
            have HST := Lib.hid hst
            have HSR := Lib.hid hSr
            have hnn : w3.heap.size ≤ wr.heap.size := hBr.size
            clear he1 he2 hst hac hSr herr
            generalize runTo ws la k = s at *
            go_wp2_with fail
            have hSa := HSR.out.keep ((Below.refl _ wr).alloc (Nat.le_refl _) (.cells #[.int .i64 who, .int .i64 kind, .int .i64 pl, .int .u64 old, .int .u64 new] 32)) (Nat.le_refl _)
            have hBa := hBr.alloc hnn (.cells #[.int .i64 who, .int .i64 kind, .int .i64 pl, .int .u64 old, .int .u64 new] 32)
            generalize (wr.alloc (.cells #[.int .i64 who, .int .i64 kind, .int .i64 pl, .int .u64 old, .int .u64 new] 32)) = wc at *
            clear q0 q1 q2 q3 q4
            refine (Try.sDo_any w3.heap.size s.ws B g cg who kind pl old new wc hBa.size hSa).mono ?_
            rintro e w5 (⟨hz, rfl, B5⟩ | ⟨hz, rfl, hS5, B5⟩)
            · rw [hn1] at hz ⊢
              have hqw : q = why ws.length who kind pl := HQR.out.trans (HE2.out hz)
              rw [← hqw]
              have hd : (q != 0) = true := by have := HE.out; simp [this]
              have hdd : (q == q) = true := by simp
              have HB5 := Lib.hid ((B03.trans (hBa.mono hw3)).trans (B5.mono (Nat.le_trans hw3 hBa.size)))
              clear hqw hz B5 HE2
              go_wp2
              go_ret
              exact ⟨by simp, HB5.out.alloc HB5.out.size _⟩
            · rw [hn1] at hz
              have HZ := Lib.hid hz
              have HS5 := Lib.hid hS5
              have hB5 := hBa.trans B5
              have hd : ((0 : Int) != 0) = false := rfl
              clear hz hS5 B5 HE2 hBa hSa
              generalize s.ws[pl.toNat]?.getD 0 = h at *
              generalize doneOf kind old h = dn at *
              go_wp2_with fail
              have hdq := HDQ.out
              go_quiet (fail)
              clear hdq
              go_wp2_with fail
              exact ⟨⟨k + 1, by omega, by go_num, HE1.out.trans HZ.out, by
                rw [HST.out]
                exact ((HS5.out.keep ((Below.refl _ w5).alloc (Nat.le_refl _) _) (Nat.le_refl _)).keep (n₁ := (w5.alloc (.cells #[.int .u64 h, .bool dn] 27)).heap.size) ⟨rfl, rfl, rfl, Nat.le_refl _, fun _ _ => rfl⟩ (Nat.le_refl _)), (hB5.alloc hB5.size _).trans ⟨rfl, rfl, rfl, Nat.le_refl _, fun _ _ => rfl⟩⟩, by simp [intOf]; omega⟩
          · obtain rfl : k = la.length := by omega
            rw [List.take_length] at herr
            exact absurd (HQR.out.trans herr) HE.out
    · have hnb : ¬ (ws.length < 1 ∨ 8192 < ws.length) := fun h => by have := hQ1.out h; omega
      have hqr := hQ2.out hnb
      rw [he] at hqr
      have HQR := Lib.hid hqr
      clear hqr
      obtain ⟨n1, n2, n3⟩ := runTo_lens ws la la.length (Nat.le_refl _)
      obtain ⟨_, a1, c1, rfl, _⟩ := rowAt_own o1
      obtain ⟨_, a3, c3, rfl, _⟩ := rowAt_own o2
      obtain ⟨_, a5, c5, rfl, _⟩ := rowAt_own o3
      have O1 := Lib.hid o1
      have O2 := Lib.hid o2
      have B03 := B02.trans (B3.mono B02.size)
      have q7 := RowAt.below (rowAt_own HO.out) B3
      clear o1 o2 o3 B3 he
      have N1 := Lib.hid n1
      have N2 := Lib.hid n2
      clear n1 n2 n3
      go_wp2_with fail
      refine (Try.Share_any ws _ w3 q7).mono ?_
      rintro e w4 (⟨hb, rfl, B4⟩ | ⟨hb, B, g, cg, rfl, hS, B4⟩)
      · exact absurd hb hnb
      · have HS := Lib.hid hS
        have HB4 := Lib.hid B4
        have hw34 := B4.size
        have hw3 := B03.size
        have hl1 : 0 < ws.length := by omega
        have HNB := Lib.hid hnb
        clear hb hS B4 hQ1 hQ2 q7 hnb
        go_wp2_with fail
        go_loopw [12, 13, 14, 15, 49] (fun _ _ _ _ j wr => ∃ k : Nat, k ≤ la.length ∧ j = .int .i64 k ∧ errRow ws.length (la.take k) = 0 ∧ Shr w3.heap.size (runTo ws la k).ws B g cg wr ∧ Below w3.heap.size w3 wr) (fun _ _ _ _ j _ => la.length - (intOf j).toNat)
        case atStart => exact ⟨0, Nat.zero_le _, rfl, rfl, HS.out, HB4.out⟩
        case round =>
          obtain ⟨k, hk, rfl, herr, hSr, hBr⟩ := hrel
          by_cases hlt : k < la.length
          · obtain ⟨he1, he2⟩ := errRow_at ws.length la k hlt herr
            have hst := runTo_succ ws la k hlt
            obtain ⟨hn1, hn2, hn3⟩ := runTo_lens ws la k hk
            obtain ⟨b, off, rfl, hb, q0, q1, q2, q3, q4⟩ := accsAt_get (RowAt.below HQ.out (B03.trans (hBr.mono hw3))) k hlt
            rcases hac : la[k] with ⟨who, kind, pl, old, new⟩
            have hse := runTo_seen ws la k hlt who kind pl old new hac
            rw [hac] at q0 q1 q2 q3 q4 he1 he2 hst
            unfold whyOf at he1 he2
            dsimp only at q0 q1 q2 q3 q4 he1 he2
            have hki : (k : Int) < (nl : Int) := by have := HM.out; omega
            have HE1 := Lib.hid he1
            have HE2 := Lib.hid he2
            have HST := Lib.hid hst
            have HSR := Lib.hid hSr
            have HSE := Lib.hid hse
            have hnn : w3.heap.size ≤ wr.heap.size := hBr.size
            clear he1 he2 hst hac hSr herr hse
            generalize runTo ws la k = s at *
            go_wp2_with fail
            have hSa := HSR.out.keep ((Below.refl _ wr).alloc (Nat.le_refl _) (.cells #[.int .i64 who, .int .i64 kind, .int .i64 pl, .int .u64 old, .int .u64 new] 32)) (Nat.le_refl _)
            have hBa := hBr.alloc hnn (.cells #[.int .i64 who, .int .i64 kind, .int .i64 pl, .int .u64 old, .int .u64 new] 32)
            generalize (wr.alloc (.cells #[.int .i64 who, .int .i64 kind, .int .i64 pl, .int .u64 old, .int .u64 new] 32)) = wc at *
            clear q0 q1 q2 q3 q4
            refine (Try.sDo_any w3.heap.size s.ws B g cg who kind pl old new wc hBa.size hSa).mono ?_
            rintro e w5 (⟨hz, rfl, B5⟩ | ⟨hz, rfl, hS5, B5⟩)
            · rw [hn1] at hz
              exact absurd (HQR.out.trans (HE2.out hz)).symm hz
            · rw [hn1] at hz
              have HZ := Lib.hid hz
              have HS5 := Lib.hid hS5
              have hB5 := hBa.trans B5
              have hd : ((0 : Int) != 0) = false := rfl
              have hd0 : ((0 : Int) == 0) = true := rfl
              have hO2 := owns_keep O2.out hB5 (Nat.le_refl _)
              obtain ⟨g3, c3', e3, _, hg3⟩ := World.ownsRow.form hO2 (by rw [N2.out]; omega)
              injection e3 with e3 _ e3c
              subst e3 e3c
              have hv3 : ∀ i, i < 2 → w5.cell? ⟨g3, k * 2 + i, none⟩ = (seenCells (s.ws[pl.toNat]?.getD 0, doneOf kind old (s.ws[pl.toNat]?.getD 0)))[i]? := by
                intro i hi
                rw [World.ownsRow.cellAt hO2 (k * 2 + i) (by rw [N2.out]; omega)]
                have hk2 : k < (runTo ws la la.length).seens.length := by rw [N2.out]; exact hlt
                have h1 := flat_get seenCells 2 (fun _ => rfl) (runTo ws la la.length).seens k i hk2 hi
                have h2 := HSE.out
                rw [List.getElem?_eq_getElem hk2] at h2
                injection h2 with h2
                rw [h2] at h1
                exact h1
              have y0 := hv3 0 (by decide)
              have y1 := hv3 1 (by decide)
              simp [seenCells] at y0 y1
              clear hz hS5 B5 HE2 hBa hSa hv3 hO2
              generalize s.ws[pl.toNat]?.getD 0 = h at *
              generalize doneOf kind old h = dn at *
              have x0 := (Rows8.new w5 27 #[.int .u64 h, .bool dn]).cell 0
              have x1 := (Rows8.new w5 27 #[.int .u64 h, .bool dn]).cell 1
              have x2 := (World.cell?_alloc_past (w := w5) (.cells #[.int .u64 h, .bool dn] 27) g3 (k * 2) hg3).trans y0
              have x3 := (World.cell?_alloc_past (w := w5) (.cells #[.int .u64 h, .bool dn] 27) g3 (k * 2 + 1) hg3).trans y1
              have hBz := hB5.alloc hB5.size (.cells #[.int .u64 h, .bool dn] 27)
              have hSz := Lib.hid (HS5.out.keep ((Below.refl _ w5).alloc (Nat.le_refl _) (.cells #[.int .u64 h, .bool dn] 27)) (Nat.le_refl _))
              simp at x0 x1
              clear y0 y1 HS5
              have hk2 : k < (runTo ws la la.length).seens.length := by rw [N2.out]; exact hlt
              have hk2i : (k : Int) < ((runTo ws la la.length).seens.length : Int) := by omega
              have hh : (h != h) = false := by simp
              have hdd : (dn != dn) = false := by simp
              have he0 : (h == h) = true := by simp
              have hd1 : (dn == dn) = true := by simp
              go_wp2_with fail
              go_quiet (fail)
              clear x0 x1 x2 x3
              go_wp2_with fail
              exact ⟨⟨k + 1, by omega, by go_num, HE1.out.trans HZ.out, by
                rw [HST.out]
                exact hSz.out.keep (n₁ := (w5.alloc (.cells #[.int .u64 h, .bool dn] 27)).heap.size) ⟨rfl, rfl, rfl, Nat.le_refl _, fun _ _ => rfl⟩ (Nat.le_refl _), hBz.trans ⟨rfl, rfl, rfl, Nat.le_refl _, fun _ _ => rfl⟩⟩, by simp [intOf]; omega⟩
          · obtain rfl : k = la.length := by omega
            have HSR := Lib.hid hSr
            have hki : ¬ ((la.length : Int) < (nl : Int)) := by have := HM.out; omega
            clear herr hSr
            go_wp2_with fail
            refine (Try.Words_any w3.heap.size (runTo ws la la.length).ws B g cg (by rw [N1.out]; omega) (by rw [N1.out]; omega) wr HSR.out).mono ?_
            rintro e w5 ⟨v5, rfl, o5, B5⟩
            obtain ⟨_, a7, c7, rfl, _⟩ := rowAt_own o5
            have hB5 := hBr.trans (B5.mono hBr.size)
            have q8 := RowAt.below (rowAt_own O1.out) hB5
            have q9 := rowAt_own o5
            clear o5 B5
            go_wp2_with fail
            refine (Try.equalWords_any a7 a1 _ _ c7 c1 (runTo ws la la.length).ws (runTo ws la la.length).ws rfl rfl (by rw [N1.out]; omega) (by rw [N1.out]; omega) w5 q9 q8).mono ?_
            rintro e w6 ⟨rfl, B6⟩
            have HB6 := Lib.hid ((B03.trans (hB5.mono hw3)).trans (B6.mono (Nat.le_trans hw3 hB5.size)))
            clear B6 q8 q9
            go_wp2_with fail
            go_ret
            exact ⟨by simp, HB6.out⟩
  · have hQ : AccsAt w (.slice al 40 capl) (ys.take 40) := accs_cut HNL.out HL.out 40 (by omega)
    have hM : 40 = (ys.take 40).length := by rw [List.length_take]; omega
    have HQ := Lib.hid hQ
    have HM := Lib.hid hM
    have f1 : ¬ (nl : Int) ≤ 40 := by omega
    have f2 : ¬ (nl : Int) < 40 := by omega
    have f4 : (40 : Int) < (nl : Int) := by omega
    have f5 : (40 : Nat) ≤ capl := by omega
    have f3 : ¬ (capl : Int) < 40 := by omega
    clear hQ hM h40 hnl hcl
    generalize ys.take 40 = la at *
    generalize xs.take 40 = ws at *
    go_enter Try.func8, Try.ntmps8
    go_wp2_with fail
    refine (Try.wakes_any _).mono ?_
    rintro e w1 ⟨rfl, B1⟩
    go_wp2_with fail
    refine (FEW.out w1 B1).mono ?_
    rintro e w2 ⟨v, rfl, hO, B2⟩
    obtain ⟨_, a2, c2, rfl, _⟩ := rowAt_own hO
    have B02 := B1.trans (B2.mono B1.size)
    have HO := Lib.hid hO
    clear hO
    go_wp2_with fail
    have hq1 : (ws.length < 1 ∨ 8192 < ws.length) → errOf ws.length la = 120 := fun h => if_pos h
    have hq2 : ¬ (ws.length < 1 ∨ 8192 < ws.length) → errOf ws.length la = errRow ws.length la := fun h => if_neg h
    have hQ1 := Lib.hid hq1
    have hQ2 := Lib.hid hq2
    clear hq1 hq2
    refine (Try.Run_any ws la (by omega) _ _ w2 (rowAt_own HO.out) (RowAt.below HQ.out B02)).mono ?_
    rintro e w3 (⟨he, rfl, B3⟩ | ⟨he, v1, v2, v3, rfl, o1, o2, o3, B3⟩)
    · generalize errOf ws.length la = q at *
      have HE := Lib.hid he
      clear he
      go_wp2_with fail
      refine (Try.Share_any ws _ w3 (RowAt.below (rowAt_own HO.out) B3)).mono ?_
      have B03 := B02.trans (B3.mono B02.size)
      rintro e w4 (⟨hb, rfl, B4⟩ | ⟨hb, B, g, cg, rfl, hS, B4⟩)
      · obtain rfl : q = 120 := hQ1.out hb
        have hd : ((120 : Int) != 0) = true := rfl
        have hd2 : ((120 : Int) == 120) = true := rfl
        have HB4 := Lib.hid (B03.trans (B4.mono B03.size))
        clear hb B4 hQ1 hQ2
        go_wp2
        go_ret
        exact ⟨rfl, HB4.out⟩
      · have hqr := hQ2.out hb
        have HQR := Lib.hid hqr
        have HS := Lib.hid hS
        have HB4 := Lib.hid B4
        have hw34 := B4.size
        have hw3 := B03.size
        have hl1 : 0 < ws.length := by omega
        clear hqr hb hS B4 hQ1 hQ2 B3
        have hdq : (q == 0) = false := by have := HE.out; simp [this]
        have HDQ := Lib.hid hdq
        clear hdq
        go_wp2_with fail
        go_loopw [12, 13, 14, 15, 49] (fun _ _ _ _ j wr => ∃ k : Nat, k ≤ la.length ∧ j = .int .i64 k ∧ errRow ws.length (la.take k) = 0 ∧ Shr w3.heap.size (runTo ws la k).ws B g cg wr ∧ Below w3.heap.size w3 wr) (fun _ _ _ _ j _ => la.length - (intOf j).toNat)
        case atStart => exact ⟨0, Nat.zero_le _, rfl, rfl, HS.out, HB4.out⟩
        case round =>
          obtain ⟨k, hk, rfl, herr, hSr, hBr⟩ := hrel
          by_cases hlt : k < la.length
          · obtain ⟨he1, he2⟩ := errRow_at ws.length la k hlt herr
            have hst := runTo_succ ws la k hlt
            obtain ⟨hn1, hn2, hn3⟩ := runTo_lens ws la k hk
            obtain ⟨b, off, rfl, hb, q0, q1, q2, q3, q4⟩ := accsAt_get (RowAt.below HQ.out (B03.trans (hBr.mono hw3))) k hlt
            rcases hac : la[k] with ⟨who, kind, pl, old, new⟩
            rw [hac] at q0 q1 q2 q3 q4 he1 he2 hst
            unfold whyOf at he1 he2
            dsimp only at q0 q1 q2 q3 q4 he1 he2
            have hki : (k : Int) < (40 : Int) := by have := HM.out; omega
            have HE1 := Lib.hid he1
            have HE2 := Lib.hid he2
            have HST := Lib.hid hst
            have HSR := Lib.hid hSr
            have hnn : w3.heap.size ≤ wr.heap.size := hBr.size
            clear he1 he2 hst hac hSr herr
            generalize runTo ws la k = s at *
            go_wp2_with fail
            have hSa := HSR.out.keep ((Below.refl _ wr).alloc (Nat.le_refl _) (.cells #[.int .i64 who, .int .i64 kind, .int .i64 pl, .int .u64 old, .int .u64 new] 32)) (Nat.le_refl _)
            have hBa := hBr.alloc hnn (.cells #[.int .i64 who, .int .i64 kind, .int .i64 pl, .int .u64 old, .int .u64 new] 32)
            generalize (wr.alloc (.cells #[.int .i64 who, .int .i64 kind, .int .i64 pl, .int .u64 old, .int .u64 new] 32)) = wc at *
            clear q0 q1 q2 q3 q4
            refine (Try.sDo_any w3.heap.size s.ws B g cg who kind pl old new wc hBa.size hSa).mono ?_
            rintro e w5 (⟨hz, rfl, B5⟩ | ⟨hz, rfl, hS5, B5⟩)
            · rw [hn1] at hz ⊢
              have hqw : q = why ws.length who kind pl := HQR.out.trans (HE2.out hz)
              rw [← hqw]
              have hd : (q != 0) = true := by have := HE.out; simp [this]
              have hdd : (q == q) = true := by simp
              have HB5 := Lib.hid ((B03.trans (hBa.mono hw3)).trans (B5.mono (Nat.le_trans hw3 hBa.size)))
              clear hqw hz B5 HE2
              go_wp2
              go_ret
              exact ⟨by simp, HB5.out.alloc HB5.out.size _⟩
            · rw [hn1] at hz
              have HZ := Lib.hid hz
              have HS5 := Lib.hid hS5
              have hB5 := hBa.trans B5
              have hd : ((0 : Int) != 0) = false := rfl
              clear hz hS5 B5 HE2 hBa hSa
              generalize s.ws[pl.toNat]?.getD 0 = h at *
              generalize doneOf kind old h = dn at *
              go_wp2_with fail
              have hdq := HDQ.out
              go_quiet (fail)
              clear hdq
              go_wp2_with fail
              exact ⟨⟨k + 1, by omega, by go_num, HE1.out.trans HZ.out, by
                rw [HST.out]
                exact ((HS5.out.keep ((Below.refl _ w5).alloc (Nat.le_refl _) _) (Nat.le_refl _)).keep (n₁ := (w5.alloc (.cells #[.int .u64 h, .bool dn] 27)).heap.size) ⟨rfl, rfl, rfl, Nat.le_refl _, fun _ _ => rfl⟩ (Nat.le_refl _)), (hB5.alloc hB5.size _).trans ⟨rfl, rfl, rfl, Nat.le_refl _, fun _ _ => rfl⟩⟩, by simp [intOf]; omega⟩
          · obtain rfl : k = la.length := by omega
            rw [List.take_length] at herr
            exact absurd (HQR.out.trans herr) HE.out
    · have hnb : ¬ (ws.length < 1 ∨ 8192 < ws.length) := fun h => by have := hQ1.out h; omega
      have hqr := hQ2.out hnb
      rw [he] at hqr
      have HQR := Lib.hid hqr
      clear hqr
      obtain ⟨n1, n2, n3⟩ := runTo_lens ws la la.length (Nat.le_refl _)
      obtain ⟨_, a1, c1, rfl, _⟩ := rowAt_own o1
      obtain ⟨_, a3, c3, rfl, _⟩ := rowAt_own o2
      obtain ⟨_, a5, c5, rfl, _⟩ := rowAt_own o3
      have O1 := Lib.hid o1
      have O2 := Lib.hid o2
      have B03 := B02.trans (B3.mono B02.size)
      have q7 := RowAt.below (rowAt_own HO.out) B3
      clear o1 o2 o3 B3 he
      have N1 := Lib.hid n1
      have N2 := Lib.hid n2
      clear n1 n2 n3
      go_wp2_with fail
      refine (Try.Share_any ws _ w3 q7).mono ?_
      rintro e w4 (⟨hb, rfl, B4⟩ | ⟨hb, B, g, cg, rfl, hS, B4⟩)
      · exact absurd hb hnb
      · have HS := Lib.hid hS
        have HB4 := Lib.hid B4
        have hw34 := B4.size
        have hw3 := B03.size
        have hl1 : 0 < ws.length := by omega
        have HNB := Lib.hid hnb
        clear hb hS B4 hQ1 hQ2 q7 hnb
        go_wp2_with fail
        go_loopw [12, 13, 14, 15, 49] (fun _ _ _ _ j wr => ∃ k : Nat, k ≤ la.length ∧ j = .int .i64 k ∧ errRow ws.length (la.take k) = 0 ∧ Shr w3.heap.size (runTo ws la k).ws B g cg wr ∧ Below w3.heap.size w3 wr) (fun _ _ _ _ j _ => la.length - (intOf j).toNat)
        case atStart => exact ⟨0, Nat.zero_le _, rfl, rfl, HS.out, HB4.out⟩
        case round =>
          obtain ⟨k, hk, rfl, herr, hSr, hBr⟩ := hrel
          by_cases hlt : k < la.length
          · obtain ⟨he1, he2⟩ := errRow_at ws.length la k hlt herr
            have hst := runTo_succ ws la k hlt
            obtain ⟨hn1, hn2, hn3⟩ := runTo_lens ws la k hk
            obtain ⟨b, off, rfl, hb, q0, q1, q2, q3, q4⟩ := accsAt_get (RowAt.below HQ.out (B03.trans (hBr.mono hw3))) k hlt
            rcases hac : la[k] with ⟨who, kind, pl, old, new⟩
            have hse := runTo_seen ws la k hlt who kind pl old new hac
            rw [hac] at q0 q1 q2 q3 q4 he1 he2 hst
            unfold whyOf at he1 he2
            dsimp only at q0 q1 q2 q3 q4 he1 he2
            have hki : (k : Int) < (40 : Int) := by have := HM.out; omega
            have HE1 := Lib.hid he1
            have HE2 := Lib.hid he2
            have HST := Lib.hid hst
            have HSR := Lib.hid hSr
            have HSE := Lib.hid hse
            have hnn : w3.heap.size ≤ wr.heap.size := hBr.size
            clear he1 he2 hst hac hSr herr hse
            generalize runTo ws la k = s at *
            go_wp2_with fail
            have hSa := HSR.out.keep ((Below.refl _ wr).alloc (Nat.le_refl _) (.cells #[.int .i64 who, .int .i64 kind, .int .i64 pl, .int .u64 old, .int .u64 new] 32)) (Nat.le_refl _)
            have hBa := hBr.alloc hnn (.cells #[.int .i64 who, .int .i64 kind, .int .i64 pl, .int .u64 old, .int .u64 new] 32)
            generalize (wr.alloc (.cells #[.int .i64 who, .int .i64 kind, .int .i64 pl, .int .u64 old, .int .u64 new] 32)) = wc at *
            clear q0 q1 q2 q3 q4
            refine (Try.sDo_any w3.heap.size s.ws B g cg who kind pl old new wc hBa.size hSa).mono ?_
            rintro e w5 (⟨hz, rfl, B5⟩ | ⟨hz, rfl, hS5, B5⟩)
            · rw [hn1] at hz
              exact absurd (HQR.out.trans (HE2.out hz)).symm hz
            · rw [hn1] at hz
              have HZ := Lib.hid hz
              have HS5 := Lib.hid hS5
              have hB5 := hBa.trans B5
              have hd : ((0 : Int) != 0) = false := rfl
              have hd0 : ((0 : Int) == 0) = true := rfl
              have hO2 := owns_keep O2.out hB5 (Nat.le_refl _)
              obtain ⟨g3, c3', e3, _, hg3⟩ := World.ownsRow.form hO2 (by rw [N2.out]; omega)
              injection e3 with e3 _ e3c
              subst e3 e3c
              have hv3 : ∀ i, i < 2 → w5.cell? ⟨g3, k * 2 + i, none⟩ = (seenCells (s.ws[pl.toNat]?.getD 0, doneOf kind old (s.ws[pl.toNat]?.getD 0)))[i]? := by
                intro i hi
                rw [World.ownsRow.cellAt hO2 (k * 2 + i) (by rw [N2.out]; omega)]
                have hk2 : k < (runTo ws la la.length).seens.length := by rw [N2.out]; exact hlt
                have h1 := flat_get seenCells 2 (fun _ => rfl) (runTo ws la la.length).seens k i hk2 hi
                have h2 := HSE.out
                rw [List.getElem?_eq_getElem hk2] at h2
                injection h2 with h2
                rw [h2] at h1
                exact h1
              have y0 := hv3 0 (by decide)
              have y1 := hv3 1 (by decide)
              simp [seenCells] at y0 y1
              clear hz hS5 B5 HE2 hBa hSa hv3 hO2
              generalize s.ws[pl.toNat]?.getD 0 = h at *
              generalize doneOf kind old h = dn at *
              have x0 := (Rows8.new w5 27 #[.int .u64 h, .bool dn]).cell 0
              have x1 := (Rows8.new w5 27 #[.int .u64 h, .bool dn]).cell 1
              have x2 := (World.cell?_alloc_past (w := w5) (.cells #[.int .u64 h, .bool dn] 27) g3 (k * 2) hg3).trans y0
              have x3 := (World.cell?_alloc_past (w := w5) (.cells #[.int .u64 h, .bool dn] 27) g3 (k * 2 + 1) hg3).trans y1
              have hBz := hB5.alloc hB5.size (.cells #[.int .u64 h, .bool dn] 27)
              have hSz := Lib.hid (HS5.out.keep ((Below.refl _ w5).alloc (Nat.le_refl _) (.cells #[.int .u64 h, .bool dn] 27)) (Nat.le_refl _))
              simp at x0 x1
              clear y0 y1 HS5
              have hk2 : k < (runTo ws la la.length).seens.length := by rw [N2.out]; exact hlt
              have hk2i : (k : Int) < ((runTo ws la la.length).seens.length : Int) := by omega
              have hh : (h != h) = false := by simp
              have hdd : (dn != dn) = false := by simp
              have he0 : (h == h) = true := by simp
              have hd1 : (dn == dn) = true := by simp
              go_wp2_with fail
              go_quiet (fail)
              clear x0 x1 x2 x3
              go_wp2_with fail
              exact ⟨⟨k + 1, by omega, by go_num, HE1.out.trans HZ.out, by
                rw [HST.out]
                exact hSz.out.keep (n₁ := (w5.alloc (.cells #[.int .u64 h, .bool dn] 27)).heap.size) ⟨rfl, rfl, rfl, Nat.le_refl _, fun _ _ => rfl⟩ (Nat.le_refl _), hBz.trans ⟨rfl, rfl, rfl, Nat.le_refl _, fun _ _ => rfl⟩⟩, by simp [intOf]; omega⟩
          · obtain rfl : k = la.length := by omega
            have HSR := Lib.hid hSr
            have hki : ¬ ((la.length : Int) < (40 : Int)) := by have := HM.out; omega
            clear herr hSr
            go_wp2_with fail
            refine (Try.Words_any w3.heap.size (runTo ws la la.length).ws B g cg (by rw [N1.out]; omega) (by rw [N1.out]; omega) wr HSR.out).mono ?_
            rintro e w5 ⟨v5, rfl, o5, B5⟩
            obtain ⟨_, a7, c7, rfl, _⟩ := rowAt_own o5
            have hB5 := hBr.trans (B5.mono hBr.size)
            have q8 := RowAt.below (rowAt_own O1.out) hB5
            have q9 := rowAt_own o5
            clear o5 B5
            go_wp2_with fail
            refine (Try.equalWords_any a7 a1 _ _ c7 c1 (runTo ws la la.length).ws (runTo ws la la.length).ws rfl rfl (by rw [N1.out]; omega) (by rw [N1.out]; omega) w5 q9 q8).mono ?_
            rintro e w6 ⟨rfl, B6⟩
            have HB6 := Lib.hid ((B03.trans (hB5.mono hw3)).trans (B6.mono (Nat.le_trans hw3 hB5.size)))
            clear B6 q8 q9
            go_wp2_with fail
            go_ret
            exact ⟨by simp, HB6.out⟩

theorem laidOut : laidOutB Try.prog = true := by kernel_rfl
set_option maxRecDepth 100000 in
theorem lifted (os : Os) (started : os.Started) (H : Type) (enc : TypeId × Value → H) :
    ReturnsInHanded {} Try.checked os 8 .any (Rows.cellsAlikeSpec.pre6 enc Try.prog Try.f8 Rows.cellsAlikeRow.domain false) (Rows.cellsAlikeSpec.post enc Try.prog Try.f8 false true false false) := by
  refine returnsInHanded_of_change (C := Try.checked) own started (by kernel_rfl) Try.func8
    (ChangeSpec.witness6 (enc := enc) (C := Try.checked) false ⟨#[], #[.slice none 0 0, .slice none 0 0], []⟩ 8 (by kernel_rfl) (by kernel_rfl) (by kernel_rfl) (by kernel_rfl)) ?_
  intro W base args ds gs before hval0 hW hcnd _
  have hval : ∀ (j : Nat) t v, Try.f8.params[j]? = some t → args[j]? = some v → Value.okWide Try.prog W .any base t v := hval0
  have hW' := hW
  obtain ⟨p, q, hA0, hV, rfl, hfz, hnd⟩ := hW
  have hA : DataW.TrodAll enc Try.prog W 0 (fun _ => true) true Try.f8.params.toList args.toList ds p := hA0
  rw [Try.params8] at hA hval
  obtain ⟨v0, vs0, d0, ds0, p0, q0, hargs, rfl, rfl, h0, r0⟩ := trodAll_cons hA
  obtain ⟨v1, vs1, d1, ds1, p1, q1, rfl, rfl, rfl, h1, r1⟩ := trodAll_cons r0
  obtain ⟨rfl, rfl, rfl⟩ := trodAll_nil r1
  obtain rfl : args = #[v0, v1] := by cases args; simp_all
  obtain ⟨rfl, rfl⟩ := trodVars_none hV
  obtain ⟨a0, len0, cap0, rfl⟩ := okWide_slice Try.underlying22 (hval 0 22 v0 rfl rfl)
  have k0 := h0
  have lt0 : ∀ x ∈ p0, x.block < W.heap.size := by obtain ⟨m, hm⟩ := k0; exact DataW.trod_lt m _ _ _ hm
  obtain ⟨z0, n0, w0⟩ : ∃ zs, len0 = zs.length ∧ WordsAt W (.slice a0 len0 cap0) zs := by
    obtain ⟨fuel, hf⟩ := h0
    exact open_words hf
  obtain ⟨a1, len1, cap1, rfl⟩ := okWide_slice Try.underlying23 (hval 1 23 v1 rfl rfl)
  have k1 := h1
  have lt1 : ∀ x ∈ p1, x.block < W.heap.size := by obtain ⟨m, hm⟩ := k1; exact DataW.trod_lt m _ _ _ hm
  obtain ⟨z1, n1, w1⟩ : ∃ zs, len1 = zs.length ∧ AccsAt W (.slice a1 len1 cap1) zs := by
    obtain ⟨fuel, hf⟩ := h1
    exact open_accs hf
  clear hA0 hval0
  refine (walk a0 len0 cap0 z0 a1 len1 cap1 z1 W n0 w0 n1 w1).mono fun e W' ⟨he, bel⟩ => ?_
  subst he
  exact ⟨_, rfl, _, _, _, [], _, [], hW', trodAll_mk1 (shut_bool Try.underlying4 _), (trodAll_cons_mk (Below.trod laidOut (by kernel_rfl) (of_decide_eq_true (by kernel_rfl)) k0 bel lt0) (trodAll_cons_mk (Below.trod laidOut (by kernel_rfl) (of_decide_eq_true (by kernel_rfl)) k1 bel lt1) trodAll_mk0)), rfl, bel.frame _, fun h => by cases h⟩

theorem over : Rows.cellsAlikeRow.holds Try.pinned (OpenSpec.ofChange Rows.cellsAlikeSpec) :=
  OpenClaim.holds_of_wide 8 Try.f8 rfl rfl rfl rfl rfl rfl rfl ⟨rfl, rfl, rfl, rfl, rfl⟩ rfl rfl rfl rfl rfl (by kernel_rfl) Try.func8 (by kernel_rfl)
    (of_decide_eq_true (by kernel_rfl)) (by unfold Func.isWrapper; first | (rw [if_pos (by decide +kernel)]; kernel_rfl) | (rw [if_neg (by decide +kernel)]; exact ⟨rfl, rfl⟩))
    (fun os started H enc _ => lifted os started H enc)

theorem proved : Rows.CellsAlikeSaid := over
end Go.Proofs.Ytfckkclkhffkhaa.cellsAlike
