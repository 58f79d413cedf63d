/- Proved: for every words and accesses, honeycomblaw02.CellsShare returns true, and its arguments read as they did; no condition. -/
import Derived.Test.YtafccppobhhelaaCo
import Derived.Test.YtafccppobhhelaaDc
import Derived.BigQuiet
import Derived.ChangeAt
import Derived.JoinedAt
import Derived.ProofKit
import Derived.OpenShut
import Derived.Test.YtafccppobhhelaaRows
namespace Go.Proofs.Ytafccppobhhelaa.cellsShare
open Go.ChangeShapes Go.WideShapes Go.ChangeAt Go.RowKit Go.Shelf
attribute [local go_sem] Oper.semAt_some

theorem own : ownKnob Try.prog.godebug = none := by kernel_rfl
set_option maxRecDepth 100000 in
set_option maxHeartbeats 16000000 in
theorem walk (a : Option Addr) (n cap : Nat) (xs : List Int) (al : Option Addr) (nl capl : Nat) (ys : List Acc) (w : World) (hn : n = xs.length) (hI : WordsAt w (.slice a n cap) xs) (hnl : nl = ys.length) (hL : AccsAt w (.slice al nl capl) ys) :
    Calls Try.prog 5 #[.slice a n cap, .slice al nl capl] w fun e w' => e = .returned (.bool true) ∧ Below w.heap.size w w' := by
  have HI := Lib.hid hI
  have HL := Lib.hid hL
  have HN := Lib.hid hn
  have HNL := Lib.hid hnl
  have hlw : (xs.take 40).length ≤ 40 := by rw [List.length_take]; omega
  clear hI hL hn hnl
  have FEW := Lib.hid fun W (hB : Below w.heap.size w W) => Try.few_any a n cap xs HN.out W (RowAt.below HI.out hB)
  have hnil : ∀ (a : Addr) (W : World), (binOp .eql 58 (.pointer (some a)) (.pointer none)).run Try.prog W = .ok (.bool false) W := fun _ _ => rfl
  generalize xs.take 40 = ws at *
  go_enter Try.func5, Try.ntmps5
  go_wp2_with fail
  refine (Try.wakes_any _).mono ?_
  rintro e w1 ⟨rfl, B1⟩
  go_wp2_with fail
  refine (FEW.out w1 B1).mono ?_
  rintro e w2 ⟨v, rfl, hO, B2⟩
  obtain ⟨_, a2, c2, rfl, _⟩ := rowAt_own hO
  have B02 := B1.trans (B2.mono B1.size)
  have HO := Lib.hid hO
  clear hO
  go_wp2_with fail
  refine (Try.Share_any ws _ w2 (rowAt_own HO.out)).mono ?_
  rintro e w3 (⟨hs, rfl, B3⟩ | ⟨hs, B, g, cg, rfl, hSh, B3⟩)
  · have hr := Try.refRight2_any a2 ws.length c2 w3
    rw [decide_eq_false (by omega)] at hr
    have HR := Lib.hid hr
    have HB3 := Lib.hid (B02.trans (B3.mono B02.size))
    clear hr hs B3
    go_wp2_with fail
    refine HR.out.mono ?_
    rintro e w' ⟨rfl, rfl⟩
    go_wp2_with fail
    refine (Try.sDoNil_any 0 1 0 0 0 w3).mono ?_
    rintro e w4 ⟨rfl, B4⟩
    have HB4 := Lib.hid (HB3.out.trans (B4.mono HB3.out.size))
    clear B4
    go_wp2_with fail
    refine (Try.wordsNil_any _).mono ?_
    rintro e w' ⟨rfl, rfl⟩
    go_wp2_with fail
    go_ret
    exact ⟨rfl, HB4.out.alloc HB4.out.size _⟩
  · have hr := Try.refRight2_any a2 ws.length c2 w3
    rw [decide_eq_true (by omega)] at hr
    have HR := Lib.hid hr
    have hl1 : 0 < ws.length := by omega
    have B03 := B02.trans (B3.mono B02.size)
    have HSH := Lib.hid hSh
    clear hr hs hSh
    go_wp2_with fail
    refine HR.out.mono ?_
    rintro e w' ⟨rfl, rfl⟩
    go_wp2_with fail
    refine (FEW.out w3 B03).mono ?_
    rintro e w4 ⟨v4, rfl, hO4, B4⟩
    obtain ⟨_, a4, c4, rfl, _⟩ := rowAt_own hO4
    have B24 := B3.trans (B4.mono B3.size)
    have HO4 := Lib.hid hO4
    have HS4 := Lib.hid (HSH.out.keep B4 (Nat.le_refl _))
    have hz23 := B3.size
    have hz34 := B4.size
    clear hO4 B4
    go_wp2_with fail
    go_loopw [10, 11, 12, 13, 14, 15, 16, 64] (fun s10 _ _ _ _ _ _ j wr => ∃ (k : Nat) (cur : List Int) (a10 : Option Addr) (c10 : Nat), k ≤ 30 ∧ k ≤ nl ∧ j = .int .i64 k ∧ cur.length = ws.length ∧ s10 = .slice a10 ws.length c10 ∧ OwnsWords w3.heap.size cur (.slice a10 ws.length c10) wr ∧ Shr w2.heap.size cur B g cg wr ∧ Below w2.heap.size w2 wr ∧ w3.heap.size ≤ wr.heap.size) (fun _ _ _ _ _ _ _ j _ => nl - (intOf j).toNat)
    case atStart => exact ⟨0, ws, a4, c4, Nat.zero_le _, Nat.zero_le _, rfl, rfl, rfl, HO4.out, HS4.out, B24, hz34⟩
    case round =>
      obtain ⟨k, cur, a10, c10, hk30, hk, rfl, hcl, rfl, hOc, hSc, hBc, hzc⟩ := hrel
      have HOC := Lib.hid hOc
      have HSC := Lib.hid hSc
      have HCL := Lib.hid hcl
      clear hOc hSc hcl
      by_cases hgo : k < nl ∧ k < 30
      · obtain ⟨hlt, hlt30⟩ := hgo
        have hki : (k : Int) < (nl : Int) := by omega
        have hkn : ((k : Int) == 30) = false := by simp; omega
        obtain ⟨b3, off3, rfl, hb3, y0, y1, y2, y3, y4⟩ := accsAt_get (RowAt.below HL.out (B02.trans (hBc.mono B02.size))) k (by rw [← HNL.out]; exact hlt)
        have hky : k < ys.length := by rw [← HNL.out]; exact hlt
        generalize ys[k] = ac at *
        obtain ⟨who, kind, pl, old, new⟩ := ac
        dsimp only at y0 y1 y2 y3 y4
        go_wp2_with fail
        obtain ⟨wc, hwc⟩ : ∃ wc, wc = wr.alloc (.cells #[.int .i64 who, .int .i64 kind, .int .i64 pl, .int .u64 old, .int .u64 new] 32) := ⟨_, rfl⟩
        have r12 : Rows8 wc wr.heap.size 32 #[.int .i64 who, .int .i64 kind, .int .i64 pl, .int .u64 old, .int .u64 new] := by rw [hwc]; exact Rows8.new wr _ _
        have Brc : Below wr.heap.size wr wc := by rw [hwc]; exact (Below.refl _ wr).alloc (Nat.le_refl _) _
        have hzw := hBc.size
        have Bc := hBc.trans (Brc.mono hBc.size)
        have HSc := Lib.hid (HSC.out.keep Brc (Nat.le_refl _))
        have HOc := Lib.hid (owns_keep HOC.out Brc (Nat.le_refl _))
        rw [← hwc]
        have hzc2 := r12.lt
        clear hwc y0 y1 y2 y3 y4 Brc hBc HSC HOC
        refine (Try.sDoF_any w2.heap.size cur B g cg who kind pl old new wc Bc.size HSc.out).mono ?_
        rintro e w5 (⟨hz, rfl, B5⟩ | ⟨hz, rfl, hS5, B5, hR5⟩)
        · have HWHY := Lib.hid fun W => Try.refWhy2_any a10 ws.length c10 who kind pl old new W
          rw [HCL.out] at hz
          rw [HCL.out]
          generalize why ws.length who kind pl = q at *
          have hd : (q == 0) = false := by simp [hz]
          have hd2 : (q != q) = false := by simp
          have hzz := B5.size
          have q12 := r12.below B5 r12.lt
          obtain ⟨l0, l1, l2, l3, l4⟩ := five q12
          have hz12 := q12.lt
          go_wp2_with fail
          obtain ⟨W6, h6⟩ : ∃ W6, W6 = (w5.alloc (.cells #[.int .u64 0, .bool false] 27)).alloc (.cells #[.int .u64 0, .bool false] 27) := ⟨_, rfl⟩
          have r13 : Rows8 W6 w5.heap.size 27 #[.int .u64 0, .bool false] := by rw [h6]; exact (Rows8.new w5 _ _).alloc _
          have r15 : Rows8 W6 (w5.heap.size + 1) 27 #[.int .u64 0, .bool false] := by
            rw [h6]
            have h := Rows8.new (w5.alloc (.cells #[.int .u64 0, .bool false] 27)) 27 #[.int .u64 0, .bool false]
            rwa [World.size_alloc] at h
          have B56 : Below w5.heap.size w5 W6 := by rw [h6]; exact ((Below.refl _ w5).alloc (Nat.le_refl _) _).alloc (by simp) _
          rw [← h6]
          clear h6 l0 l1 l2 l3 l4 q12
          have Bc6 := B5.trans (B56.mono B5.size)
          refine (HWHY.out W6).mono ?_
          rintro e W7 ⟨rfl, B7⟩
          have Bc7 := Bc6.trans (B7.mono Bc6.size)
          have hS7 := HSc.out.keep Bc7 (Nat.le_refl _)
          have hO7 := owns_keep HOc.out Bc7 (Nat.le_refl _)
          have B27 := Bc.trans (Bc7.mono Bc.size)
          have hzz7 := Bc7.size
          have HS7 := Lib.hid hS7
          have HO7 := Lib.hid hO7
          have HB27 := Lib.hid B27
          have x13 := r13.below B7 r13.lt
          have x15 := r15.below B7 r15.lt
          have x0 := x13.cell 0
          have x1 := x13.cell 1
          have x2 := x15.cell 0
          have x3 := x15.cell 1
          simp at x0 x1 x2 x3
          have hd0 : ((0 : Int) != 0) = false := rfl
          clear hS7 hO7 B27 Bc7 Bc6 B7 B56 r13 r15 x13 x15
          go_wp2_with fail
          refine (Try.Words_any w2.heap.size cur B g cg (by rw [HCL.out]; exact hl1) (by rw [HCL.out]; omega) W7 HS7.out).mono ?_
          rintro e W8 ⟨v8, rfl, o8, B8⟩
          obtain ⟨_, a8, c8, rfl, _⟩ := rowAt_own o8
          have q8 := rowAt_own o8
          have q9 := RowAt.below (rowAt_own HO7.out) B8
          have hS8 := HS7.out.keep B8 (Nat.le_refl _)
          have hO8 := owns_keep HO7.out B8 (Nat.le_refl _)
          have B28 := HB27.out.trans (B8.mono HB27.out.size)
          have hzz8 := B8.size
          clear o8 B8
          have hsame := Try.refSame2_any a8 a10 _ ws.length c8 c10 cur cur rfl HCL.out.symm (by rw [HCL.out]; omega) (by omega) W8 q8 q9
          have HSAME := Lib.hid hsame
          have HS8 := Lib.hid hS8
          have HO8 := Lib.hid hO8
          have HB28 := Lib.hid B28
          clear q8 q9 hsame hS8 hO8 B28
          go_wp2_with fail
          refine HSAME.out.mono ?_
          rintro e W9 ⟨rfl, B9⟩
          have HS9 := Lib.hid (HS8.out.keep B9 (Nat.le_refl _))
          have HO9 := Lib.hid (owns_keep HO8.out B9 (Nat.le_refl _))
          have HB29 := Lib.hid (HB28.out.trans (B9.mono HB28.out.size))
          have hzz9 := B9.size
          clear B9
          go_wp2_with fail
          exact ⟨⟨k + 1, cur, a10, c10, by omega, by omega, by go_num, HCL.out, rfl, HO9.out, HS9.out, HB29.out, by omega⟩, by simp [intOf]; omega⟩
        · have HWHY := Lib.hid fun W => Try.refWhy2_any a10 ws.length c10 who kind pl old new W
          have hlc := wordsOf_length cur kind pl old new
          obtain ⟨k1, k2, k3, k4, k5, k6⟩ := why_ok hz
          have hdo := fun W (hW : w3.heap.size ≤ W.heap.size) hO => Try.refDoOwn_any w3.heap.size (.slice a10 ws.length c10) cur (by rw [HCL.out]; omega) who kind pl old new ⟨k3, k4⟩ k5 k6 W hW hO
          rw [HCL.out] at hz hlc
          rw [hz] at HWHY
          simp only [HCL.out] at hdo
          have HDO := Lib.hid hdo
          have HLC := Lib.hid hlc
          have hh : ∀ h : Int, (h != h) = false := by simp
          have hng : g ≠ wr.heap.size := by
            have h9 := owns_not HSc.out.own r12 (by decide)
            simpa [Value.ownBlock] using h9
          have q12 := hR5 _ _ _ r12 hng
          have hO5 := owns_hrows HOc.out (owns_off HOc.out HSc.out.own (by decide)) hR5
          have B25 := Bc.trans B5
          have hzz := B5.size
          have hz12 := q12.lt
          have hgl := hS5.lt.2
          have hbl := hS5.blk.lt
          obtain ⟨l0, l1, l2, l3, l4⟩ := five q12
          have HS5 := Lib.hid hS5
          have HO5 := Lib.hid hO5
          have HB25 := Lib.hid B25
          clear hR5 r12 HSc HOc hS5 hO5 B25 B5 hdo hlc hng
          generalize wordsOf cur kind pl old new = cur' at *
          generalize cur[pl.toNat]?.getD 0 = h at *
          generalize doneOf kind old h = dn at *
          have hd : ((0 : Int) == 0) = true := rfl
          have hd0 : ((0 : Int) != 0) = false := rfl
          have hhh : (h != h) = false := by simp
          have hdd : (dn != dn) = false := by simp
          have he0 : (h == h) = true := by simp
          have hd1 : (dn == dn) = true := by simp
          go_wp2_with fail
          obtain ⟨W6, h6⟩ : ∃ W6, W6 = (w5.alloc (.cells #[.int .u64 h, .bool dn] 27)).alloc (.cells #[.int .u64 0, .bool false] 27) := ⟨_, rfl⟩
          have r12 : Rows8 W6 wr.heap.size 32 #[.int .i64 who, .int .i64 kind, .int .i64 pl, .int .u64 old, .int .u64 new] := by rw [h6]; exact (q12.alloc _).alloc _
          have r13 : Rows8 W6 w5.heap.size 27 #[.int .u64 h, .bool dn] := by rw [h6]; exact (Rows8.new w5 _ _).alloc _
          have r15 : Rows8 W6 (w5.heap.size + 1) 27 #[.int .u64 0, .bool false] := by
            rw [h6]
            have h := Rows8.new (w5.alloc (.cells #[.int .u64 h, .bool dn] 27)) 27 #[.int .u64 0, .bool false]
            rwa [World.size_alloc] at h
          have B56 : Below w5.heap.size w5 W6 := by rw [h6]; exact ((Below.refl _ w5).alloc (Nat.le_refl _) _).alloc (by simp) _
          rw [← h6]
          clear h6 l0 l1 l2 l3 l4 q12
          refine (HWHY.out W6).mono ?_
          rintro e W7 ⟨rfl, B7⟩
          have B57 := B56.trans (B7.mono B56.size)
          have q12 := r12.below B7 r12.lt
          have q13 := r13.below B7 r13.lt
          have q15 := r15.below B7 r15.lt
          have hS7 := HS5.out.keep B57 (Nat.le_refl _)
          have hO7 := owns_keep HO5.out B57 (Nat.le_refl _)
          have B27 := HB25.out.trans (B57.mono HB25.out.size)
          have hzz7 := B57.size
          have hz7 := q12.lt
          obtain ⟨l0, l1, l2, l3, l4⟩ := five q12
          have HS7 := Lib.hid hS7
          have HO7 := Lib.hid hO7
          have HB27 := Lib.hid B27
          clear hS7 hO7 B27 B57 B7 B56 r13 r15 r12 HS5 HO5 HB25
          go_wp2_with fail
          refine (HDO.out W7 (by omega) HO7.out).mono ?_
          rintro e W8 ⟨a11, c11, rfl, o8, B8⟩
          have x13 := q13.below B8 q13.lt
          have x15 := q15.below B8 q15.lt
          have x0 := x13.cell 0
          have x1 := x13.cell 1
          have x2 := x15.cell 0
          have x3 := x15.cell 1
          have g2 := x15.frozen 0
          have g3 := x15.frozen 1
          simp at x0 x1 x2 x3
          have hzz8 := B8.size
          have hS8 := HS7.out.keep B8 (Nat.le_refl _)
          have hno := owns_not o8 x15 (by decide)
          have o9 := ownsRow_setCell_other (ownsRow_setCell_other (a := ⟨w5.heap.size + 1, 0, none⟩) o8 hno (.int .u64 h)) (a := ⟨w5.heap.size + 1, 1, none⟩) hno (.bool dn)
          have hS9 := (hS8.setOther (a := ⟨w5.heap.size + 1, 0, none⟩) (by simp; omega) (by simp; omega) (.int .u64 h)).setOther (a := ⟨w5.heap.size + 1, 1, none⟩) (by simp; omega) (by simp; omega) (.bool dn)
          have hzw2 := HB27.out.size
          have hw25 : w2.heap.size ≤ w5.heap.size + 1 := by omega
          have B29 := ((HB27.out.trans (B8.mono hzw2)).setCell (p := ⟨w5.heap.size + 1, 0, none⟩) hw25 (.int .u64 h)).setCell (p := ⟨w5.heap.size + 1, 1, none⟩) hw25 (.bool dn)
          have HS9 := Lib.hid hS9
          have HO9 := Lib.hid o9
          have HB29 := Lib.hid B29
          clear o8 hno o9 hS9 hS8 B29 B8 x13 x15 q12 q13 q15 l0 l1 l2 l3 l4
          go_wp2_with fail
          refine (Try.Words_any w2.heap.size cur' B g cg (by rw [HLC.out]; exact hl1) (by rw [HLC.out]; omega) _ HS9.out).mono ?_
          rintro e W10 ⟨v10, rfl, o10, B10⟩
          obtain ⟨_, a12, c12, rfl, _⟩ := rowAt_own o10
          have p10 := rowAt_own o10
          have p11 := RowAt.below (rowAt_own HO9.out) B10
          have hS10 := HS9.out.keep B10 (Nat.le_refl _)
          have hO10 := owns_keep HO9.out B10 (Nat.le_refl _)
          have B210 := HB29.out.trans (B10.mono HB29.out.size)
          have hzz10 := B10.size
          clear o10 B10 x0 x1 x2 x3 g2 g3
          have hsame := Try.refSame2_any a12 a11 _ ws.length c12 c11 cur' cur' rfl HLC.out.symm (by rw [HLC.out]; omega) (by omega) W10 p10 p11
          have HSAME := Lib.hid hsame
          have HS10 := Lib.hid hS10
          have HO10 := Lib.hid hO10
          have HB210 := Lib.hid B210
          clear p10 p11 hsame hS10 hO10 B210
          go_wp2_with fail
          refine HSAME.out.mono ?_
          rintro e W11 ⟨rfl, B11⟩
          have HS11 := Lib.hid (HS10.out.keep B11 (Nat.le_refl _))
          have HO11 := Lib.hid (owns_keep HO10.out B11 (Nat.le_refl _))
          have HB211 := Lib.hid (HB210.out.trans (B11.mono HB210.out.size))
          have hzz11 := B11.size
          clear B11
          go_wp2_with fail
          exact ⟨⟨k + 1, cur', a11, c11, by omega, by omega, by go_num, HLC.out, rfl, HO11.out, HS11.out, HB211.out, by simp at hzz10; omega⟩, by simp [intOf]; omega⟩
      · have hout : ∃ W5 : World, Below wr.heap.size wr W5 ∧ (W5 = wr ∨ ∃ o, W5 = wr.alloc o) := ⟨wr, Below.refl _ _, .inl rfl⟩
        clear hout
        have hzw := hBc.size
        rcases (show k = nl ∨ (k < nl ∧ k = 30) by omega) with rfl | ⟨hlt, rfl⟩
        · have HB2 := Lib.hid hBc
          clear hBc
          go_wp2_with fail
          refine (Try.Words_any w2.heap.size cur B g cg (by rw [HCL.out]; exact hl1) (by rw [HCL.out]; omega) wr HSC.out).mono ?_
          rintro e wq ⟨vq, rfl, oq, Bq⟩
          obtain ⟨_, at_, ct, rfl, _⟩ := rowAt_own oq
          obtain ⟨gt, ct', e, hgt, hgl⟩ := World.ownsRow.form oq (by rw [HCL.out]; exact hl1)
          injection e with e1 _ e3
          subst e1 e3
          have HOQ := Lib.hid oq
          have hnq := HCL.out
          have HBQ := Lib.hid Bq
          have hzq := Bq.size
          rw [hnq]
          clear oq Bq hnq
          go_wp2_with fail
          go_loopw [18, 108] (fun _ j wz => ∃ (i : Nat) (zs : List Int), i ≤ ws.length ∧ j = .int .i64 i ∧ zs.length = ws.length ∧ OwnsWords wr.heap.size zs (.slice (some ⟨gt, 0, none⟩) ws.length ct) wz ∧ Below wr.heap.size wq wz) (fun _ j _ => ws.length - (intOf j).toNat)
          case atStart => exact ⟨0, cur, Nat.zero_le _, rfl, HCL.out, (by have h := HOQ.out; rw [HCL.out] at h; exact h), Below.refl _ _⟩
          case round =>
            obtain ⟨i, zs, hi, rfl, hzl, hOz, hBz⟩ := hrel
            have HZL := Lib.hid hzl
            have HOZ := Lib.hid hOz
            by_cases hil : i < ws.length
            · have hii : (i : Int) < (ws.length : Int) := by omega
              have hOz' := hOz
              rw [← hzl] at hOz'
              have hcl := words_cell hOz' i (by omega)
              have hfr := words_frozen hOz' i
              have hst := words_set hOz' i (IntKind.u64.wrap (zs[i]?.getD 0 + 1))
              rw [hzl] at hst
              have HST := Lib.hid hst
              have HBZ := Lib.hid (hBz.setCell (p := ⟨gt, i, none⟩) hgt (.int .u64 (IntKind.u64.wrap (zs[i]?.getD 0 + 1))))
              have hls : (zs.set i (IntKind.u64.wrap (zs[i]?.getD 0 + 1))).length = ws.length := by rw [List.length_set]; exact hzl
              have HLS := Lib.hid hls
              clear hzl hOz hOz' hst hBz hls HZL HOZ
              generalize zs.set i (IntKind.u64.wrap (zs[i]?.getD 0 + 1)) = zs' at *
              generalize zs[i]?.getD 0 = z at *
              go_wp2_with fail
              exact ⟨⟨i + 1, zs', by omega, by go_num, HLS.out, HST.out, HBZ.out⟩, by simp [intOf]; omega⟩
            · obtain rfl : i = ws.length := by omega
              have HBZ := Lib.hid hBz
              clear hzl hOz hBz HZL HOZ
              obtain ⟨g2, c2', e, hg2, hgl2⟩ := World.ownsRow.form HO.out hl1
              injection e with e1 _ e3
              subst e1 e3
              have HBW := Lib.hid (HBQ.out.trans HBZ.out)
              have HS3 := Lib.hid (HSC.out.keep HBW.out (Nat.le_refl _))
              have HO3 := Lib.hid (owns_keep HOC.out HBW.out (Nat.le_refl _))
              have HB3 := Lib.hid (HB2.out.trans (HBW.out.mono HB2.out.size))
              have HW3 := Lib.hid (owns_keep HO.out HB3.out (Nat.le_refl _))
              have HB13 := Lib.hid (B2.trans (HB3.out.mono B2.size))
              have hz12 := B2.size
              clear HBW HB3
              go_wp2_with fail
              rename_i wv _
              go_loopw [19, 120] (fun _ j wz => ∃ (i : Nat) (zs : List Int), i ≤ ws.length ∧ j = .int .i64 i ∧ zs.length = ws.length ∧ OwnsWords w1.heap.size zs (.slice (some ⟨g2, 0, none⟩) ws.length c2) wz ∧ Shr w2.heap.size cur B g cg wz ∧ OwnsWords w3.heap.size cur (.slice a10 ws.length c10) wz ∧ Below w1.heap.size w1 wz) (fun _ j _ => ws.length - (intOf j).toNat)
              case atStart => exact ⟨0, ws, Nat.zero_le _, rfl, rfl, HW3.out, HS3.out, HO3.out, HB13.out⟩
              case round =>
                obtain ⟨i, zs, hi, rfl, hzl, hOz, hSz, hCz, hBz⟩ := hrel
                have hgs1 := hSz.lt.1
                have hgs2 := hSz.le
                have hng := fun e2 => (World.ownsRow.lt hCz g2 e2).1
                by_cases hil : i < ws.length
                · have hii : (i : Int) < (ws.length : Int) := by omega
                  have hOz' := hOz
                  rw [← hzl] at hOz'
                  have hcl := words_cell hOz' i (by omega)
                  have hfr := words_frozen hOz' i
                  have hst := words_set hOz' i (IntKind.u64.wrap (zs[i]?.getD 0 + 1))
                  rw [hzl] at hst
                  have HST := Lib.hid hst
                  have HSS := Lib.hid (hSz.setOther (a := ⟨g2, i, none⟩) (by simp; omega) (by simp; omega) (.int .u64 (IntKind.u64.wrap (zs[i]?.getD 0 + 1))))
                  have HCS := Lib.hid (ownsRow_setCell_other (a := ⟨g2, i, none⟩) hCz (fun e2 => by have := hng e2; omega) (.int .u64 (IntKind.u64.wrap (zs[i]?.getD 0 + 1))))
                  have HBZ := Lib.hid (hBz.setCell (p := ⟨g2, i, none⟩) hg2 (.int .u64 (IntKind.u64.wrap (zs[i]?.getD 0 + 1))))
                  have hls : (zs.set i (IntKind.u64.wrap (zs[i]?.getD 0 + 1))).length = ws.length := by rw [List.length_set]; exact hzl
                  have HLS := Lib.hid hls
                  clear hzl hOz hOz' hst hBz hls hSz hCz hng
                  generalize zs.set i (IntKind.u64.wrap (zs[i]?.getD 0 + 1)) = zs' at *
                  generalize zs[i]?.getD 0 = z at *
                  go_wp2_with fail
                  exact ⟨⟨i + 1, zs', by omega, by go_num, HLS.out, HST.out, HSS.out, HCS.out, HBZ.out⟩, by simp [intOf]; omega⟩
                · obtain rfl : i = ws.length := by omega
                  have HSZ := Lib.hid hSz
                  have HCZ := Lib.hid hCz
                  have HBZ2 := Lib.hid (B1.trans (hBz.mono B1.size))
                  clear hzl hOz hSz hCz hBz hng
                  go_wp2_with fail
                  refine (Try.Words_any w2.heap.size cur B g cg (by rw [HCL.out]; exact hl1) (by rw [HCL.out]; omega) _ HSZ.out).mono ?_
                  rintro e W10 ⟨v10, rfl, o10, B10⟩
                  obtain ⟨_, a12, c12, rfl, _⟩ := rowAt_own o10
                  have p10 := rowAt_own o10
                  have p11 := RowAt.below (rowAt_own HCZ.out) B10
                  have HB10 := Lib.hid (HBZ2.out.trans (B10.mono HBZ2.out.size))
                  clear o10 B10
                  have hsame := Try.refSame2_any a12 a10 _ ws.length c12 c10 cur cur rfl HCL.out.symm (by rw [HCL.out]; omega) (by omega) W10 p10 p11
                  have HSAME := Lib.hid hsame
                  clear p10 p11 hsame
                  go_wp2_with fail
                  refine HSAME.out.mono ?_
                  rintro e W11 ⟨rfl, B11⟩
                  have HB11 := Lib.hid (HB10.out.trans (B11.mono HB10.out.size))
                  clear B11
                  go_wp2_with fail
                  go_ret
                  exact ⟨by simp, HB11.out⟩
        · have hki : ((30 : Nat) : Int) < (nl : Int) := by omega
          obtain ⟨b3, off3, rfl, hb3, y0, y1, y2, y3, y4⟩ := accsAt_get (RowAt.below HL.out (B02.trans (hBc.mono B02.size))) 30 (by rw [← HNL.out]; exact hlt)
          have hky : 30 < ys.length := by rw [← HNL.out]; exact hlt
          generalize ys[30] = ac at *
          obtain ⟨who, kind, pl, old, new⟩ := ac
          dsimp only at y0 y1 y2 y3 y4
          have HB2 := Lib.hid (hBc.alloc hzw (.cells #[.int .i64 who, .int .i64 kind, .int .i64 pl, .int .u64 old, .int .u64 new] 32))
          have HSC1 := Lib.hid (HSC.out.keep ((Below.refl _ wr).alloc (Nat.le_refl _) (.cells #[.int .i64 who, .int .i64 kind, .int .i64 pl, .int .u64 old, .int .u64 new] 32)) (Nat.le_refl _))
          have HOC1 := Lib.hid (World.ownsRow.alloc HOC.out (.cells #[.int .i64 who, .int .i64 kind, .int .i64 pl, .int .u64 old, .int .u64 new] 32))
          have hzc1 : w3.heap.size ≤ (wr.alloc (.cells #[.int .i64 who, .int .i64 kind, .int .i64 pl, .int .u64 old, .int .u64 new] 32)).heap.size := by simp; omega
          clear HSC HOC hBc hzc hzw
          have HSC := HSC1
          have HOC := HOC1
          have hzc := hzc1
          clear HSC1 HOC1 hzc1
          go_wp2_with fail
          generalize (wr.alloc (.cells #[.int .i64 who, .int .i64 kind, .int .i64 pl, .int .u64 old, .int .u64 new] 32)) = wr at *
          refine (Try.Words_any w2.heap.size cur B g cg (by rw [HCL.out]; exact hl1) (by rw [HCL.out]; omega) wr HSC.out).mono ?_
          rintro e wq ⟨vq, rfl, oq, Bq⟩
          obtain ⟨_, at_, ct, rfl, _⟩ := rowAt_own oq
          obtain ⟨gt, ct', e, hgt, hgl⟩ := World.ownsRow.form oq (by rw [HCL.out]; exact hl1)
          injection e with e1 _ e3
          subst e1 e3
          have HOQ := Lib.hid oq
          have hnq := HCL.out
          have HBQ := Lib.hid Bq
          have hzq := Bq.size
          rw [hnq]
          clear oq Bq hnq
          go_wp2_with fail
          go_loopw [18, 108] (fun _ j wz => ∃ (i : Nat) (zs : List Int), i ≤ ws.length ∧ j = .int .i64 i ∧ zs.length = ws.length ∧ OwnsWords wr.heap.size zs (.slice (some ⟨gt, 0, none⟩) ws.length ct) wz ∧ Below wr.heap.size wq wz) (fun _ j _ => ws.length - (intOf j).toNat)
          case atStart => exact ⟨0, cur, Nat.zero_le _, rfl, HCL.out, (by have h := HOQ.out; rw [HCL.out] at h; exact h), Below.refl _ _⟩
          case round =>
            obtain ⟨i, zs, hi, rfl, hzl, hOz, hBz⟩ := hrel
            have HZL := Lib.hid hzl
            have HOZ := Lib.hid hOz
            by_cases hil : i < ws.length
            · have hii : (i : Int) < (ws.length : Int) := by omega
              have hOz' := hOz
              rw [← hzl] at hOz'
              have hcl := words_cell hOz' i (by omega)
              have hfr := words_frozen hOz' i
              have hst := words_set hOz' i (IntKind.u64.wrap (zs[i]?.getD 0 + 1))
              rw [hzl] at hst
              have HST := Lib.hid hst
              have HBZ := Lib.hid (hBz.setCell (p := ⟨gt, i, none⟩) hgt (.int .u64 (IntKind.u64.wrap (zs[i]?.getD 0 + 1))))
              have hls : (zs.set i (IntKind.u64.wrap (zs[i]?.getD 0 + 1))).length = ws.length := by rw [List.length_set]; exact hzl
              have HLS := Lib.hid hls
              clear hzl hOz hOz' hst hBz hls HZL HOZ
              generalize zs.set i (IntKind.u64.wrap (zs[i]?.getD 0 + 1)) = zs' at *
              generalize zs[i]?.getD 0 = z at *
              go_wp2_with fail
              exact ⟨⟨i + 1, zs', by omega, by go_num, HLS.out, HST.out, HBZ.out⟩, by simp [intOf]; omega⟩
            · obtain rfl : i = ws.length := by omega
              have HBZ := Lib.hid hBz
              clear hzl hOz hBz HZL HOZ
              obtain ⟨g2, c2', e, hg2, hgl2⟩ := World.ownsRow.form HO.out hl1
              injection e with e1 _ e3
              subst e1 e3
              have HBW := Lib.hid (HBQ.out.trans HBZ.out)
              have HS3 := Lib.hid (HSC.out.keep HBW.out (Nat.le_refl _))
              have HO3 := Lib.hid (owns_keep HOC.out HBW.out (Nat.le_refl _))
              have HB3 := Lib.hid (HB2.out.trans (HBW.out.mono HB2.out.size))
              have HW3 := Lib.hid (owns_keep HO.out HB3.out (Nat.le_refl _))
              have HB13 := Lib.hid (B2.trans (HB3.out.mono B2.size))
              have hz12 := B2.size
              clear HBW HB3
              go_wp2_with fail
              rename_i wv _
              go_loopw [19, 120] (fun _ j wz => ∃ (i : Nat) (zs : List Int), i ≤ ws.length ∧ j = .int .i64 i ∧ zs.length = ws.length ∧ OwnsWords w1.heap.size zs (.slice (some ⟨g2, 0, none⟩) ws.length c2) wz ∧ Shr w2.heap.size cur B g cg wz ∧ OwnsWords w3.heap.size cur (.slice a10 ws.length c10) wz ∧ Below w1.heap.size w1 wz) (fun _ j _ => ws.length - (intOf j).toNat)
              case atStart => exact ⟨0, ws, Nat.zero_le _, rfl, rfl, HW3.out, HS3.out, HO3.out, HB13.out⟩
              case round =>
                obtain ⟨i, zs, hi, rfl, hzl, hOz, hSz, hCz, hBz⟩ := hrel
                have hgs1 := hSz.lt.1
                have hgs2 := hSz.le
                have hng := fun e2 => (World.ownsRow.lt hCz g2 e2).1
                by_cases hil : i < ws.length
                · have hii : (i : Int) < (ws.length : Int) := by omega
                  have hOz' := hOz
                  rw [← hzl] at hOz'
                  have hcl := words_cell hOz' i (by omega)
                  have hfr := words_frozen hOz' i
                  have hst := words_set hOz' i (IntKind.u64.wrap (zs[i]?.getD 0 + 1))
                  rw [hzl] at hst
                  have HST := Lib.hid hst
                  have HSS := Lib.hid (hSz.setOther (a := ⟨g2, i, none⟩) (by simp; omega) (by simp; omega) (.int .u64 (IntKind.u64.wrap (zs[i]?.getD 0 + 1))))
                  have HCS := Lib.hid (ownsRow_setCell_other (a := ⟨g2, i, none⟩) hCz (fun e2 => by have := hng e2; omega) (.int .u64 (IntKind.u64.wrap (zs[i]?.getD 0 + 1))))
                  have HBZ := Lib.hid (hBz.setCell (p := ⟨g2, i, none⟩) hg2 (.int .u64 (IntKind.u64.wrap (zs[i]?.getD 0 + 1))))
                  have hls : (zs.set i (IntKind.u64.wrap (zs[i]?.getD 0 + 1))).length = ws.length := by rw [List.length_set]; exact hzl
                  have HLS := Lib.hid hls
                  clear hzl hOz hOz' hst hBz hls hSz hCz hng
                  generalize zs.set i (IntKind.u64.wrap (zs[i]?.getD 0 + 1)) = zs' at *
                  generalize zs[i]?.getD 0 = z at *
                  go_wp2_with fail
                  exact ⟨⟨i + 1, zs', by omega, by go_num, HLS.out, HST.out, HSS.out, HCS.out, HBZ.out⟩, by simp [intOf]; omega⟩
                · obtain rfl : i = ws.length := by omega
                  have HSZ := Lib.hid hSz
                  have HCZ := Lib.hid hCz
                  have HBZ2 := Lib.hid (B1.trans (hBz.mono B1.size))
                  clear hzl hOz hSz hCz hBz hng
                  go_wp2_with fail
                  refine (Try.Words_any w2.heap.size cur B g cg (by rw [HCL.out]; exact hl1) (by rw [HCL.out]; omega) _ HSZ.out).mono ?_
                  rintro e W10 ⟨v10, rfl, o10, B10⟩
                  obtain ⟨_, a12, c12, rfl, _⟩ := rowAt_own o10
                  have p10 := rowAt_own o10
                  have p11 := RowAt.below (rowAt_own HCZ.out) B10
                  have HB10 := Lib.hid (HBZ2.out.trans (B10.mono HBZ2.out.size))
                  clear o10 B10
                  have hsame := Try.refSame2_any a12 a10 _ ws.length c12 c10 cur cur rfl HCL.out.symm (by rw [HCL.out]; omega) (by omega) W10 p10 p11
                  have HSAME := Lib.hid hsame
                  clear p10 p11 hsame
                  go_wp2_with fail
                  refine HSAME.out.mono ?_
                  rintro e W11 ⟨rfl, B11⟩
                  have HB11 := Lib.hid (HB10.out.trans (B11.mono HB10.out.size))
                  clear B11
                  go_wp2_with fail
                  go_ret
                  exact ⟨by simp, HB11.out⟩
theorem laidOut : laidOutB Try.prog = true := by kernel_rfl
set_option maxRecDepth 100000 in
theorem lifted (os : Os) (started : os.Started) (H : Type) (enc : TypeId × Value → H) :
    ReturnsInHanded {} Try.checked os 5 .any (Rows.cellsShareSpec.pre6 enc Try.prog Try.f5 Rows.cellsShareRow.domain false) (Rows.cellsShareSpec.post enc Try.prog Try.f5 false true false false) := by
  refine returnsInHanded_of_change (C := Try.checked) own started (by kernel_rfl) Try.func5
    (ChangeSpec.witness6 (enc := enc) (C := Try.checked) false ⟨#[], #[.slice none 0 0, .slice none 0 0], []⟩ 8 (by kernel_rfl) (by kernel_rfl) (by kernel_rfl) (by kernel_rfl)) ?_
  intro W base args ds gs before hval0 hW hcnd _
  have hval : ∀ (j : Nat) t v, Try.f5.params[j]? = some t → args[j]? = some v → Value.okWide Try.prog W .any base t v := hval0
  have hW' := hW
  obtain ⟨p, q, hA0, hV, rfl, hfz, hnd⟩ := hW
  have hA : DataW.TrodAll enc Try.prog W 0 (fun _ => true) true Try.f5.params.toList args.toList ds p := hA0
  rw [Try.params5] at hA hval
  obtain ⟨v0, vs0, d0, ds0, p0, q0, hargs, rfl, rfl, h0, r0⟩ := trodAll_cons hA
  obtain ⟨v1, vs1, d1, ds1, p1, q1, rfl, rfl, rfl, h1, r1⟩ := trodAll_cons r0
  obtain ⟨rfl, rfl, rfl⟩ := trodAll_nil r1
  obtain rfl : args = #[v0, v1] := by cases args; simp_all
  obtain ⟨rfl, rfl⟩ := trodVars_none hV
  obtain ⟨a0, len0, cap0, rfl⟩ := okWide_slice Try.underlying22 (hval 0 22 v0 rfl rfl)
  have k0 := h0
  have lt0 : ∀ x ∈ p0, x.block < W.heap.size := by obtain ⟨m, hm⟩ := k0; exact DataW.trod_lt m _ _ _ hm
  obtain ⟨z0, n0, w0⟩ : ∃ zs, len0 = zs.length ∧ WordsAt W (.slice a0 len0 cap0) zs := by
    obtain ⟨fuel, hf⟩ := h0
    exact open_words hf
  obtain ⟨a1, len1, cap1, rfl⟩ := okWide_slice Try.underlying23 (hval 1 23 v1 rfl rfl)
  have k1 := h1
  have lt1 : ∀ x ∈ p1, x.block < W.heap.size := by obtain ⟨m, hm⟩ := k1; exact DataW.trod_lt m _ _ _ hm
  obtain ⟨z1, n1, w1⟩ : ∃ zs, len1 = zs.length ∧ AccsAt W (.slice a1 len1 cap1) zs := by
    obtain ⟨fuel, hf⟩ := h1
    exact open_accs hf
  clear hA0 hval0
  refine (walk a0 len0 cap0 z0 a1 len1 cap1 z1 W n0 w0 n1 w1).mono fun e W' ⟨he, bel⟩ => ?_
  subst he
  exact ⟨_, rfl, _, _, _, [], _, [], hW', trodAll_mk1 (shut_bool Try.underlying4 _), (trodAll_cons_mk (Below.trod laidOut (by kernel_rfl) (of_decide_eq_true (by kernel_rfl)) k0 bel lt0) (trodAll_cons_mk (Below.trod laidOut (by kernel_rfl) (of_decide_eq_true (by kernel_rfl)) k1 bel lt1) trodAll_mk0)), rfl, bel.frame _, fun h => by cases h⟩

theorem over : Rows.cellsShareRow.holds Try.pinned (OpenSpec.ofChange Rows.cellsShareSpec) :=
  OpenClaim.holds_of_wide 5 Try.f5 rfl rfl rfl rfl rfl rfl rfl ⟨rfl, rfl, rfl, rfl, rfl⟩ rfl rfl rfl rfl rfl (by kernel_rfl) Try.func5 (by kernel_rfl)
    (of_decide_eq_true (by kernel_rfl)) (by unfold Func.isWrapper; first | (rw [if_pos (by decide +kernel)]; kernel_rfl) | (rw [if_neg (by decide +kernel)]; exact ⟨rfl, rfl⟩))
    (fun os started H enc _ => lifted os started H enc)

theorem proved : Rows.CellsShareSaid := over
end Go.Proofs.Ytafccppobhhelaa.cellsShare
