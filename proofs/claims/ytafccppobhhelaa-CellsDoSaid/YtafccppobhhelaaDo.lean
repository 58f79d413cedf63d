/- Proved: for every words and accesses, honeycomblaw02.CellsDo returns true, and its arguments read as they did; no condition. -/
import Derived.Test.YtafccppobhhelaaDg
import Derived.Test.YtafccppobhhelaaCs
import Derived.Test.YtafccppobhhelaaCo
import Derived.BigQuiet
import Derived.ChangeAt
import Derived.JoinedAt
import Derived.ProofKit
import Derived.OpenShut
import Derived.Test.YtafccppobhhelaaRows
namespace Go.Proofs.Ytafccppobhhelaa.cellsDo
open Go.ChangeShapes Go.WideShapes Go.ChangeAt Go.RowKit Go.Shelf
attribute [local go_sem] Oper.semAt_some

theorem own : ownKnob Try.prog.godebug = none := by kernel_rfl
theorem row_none (W : World) (k : Nat) : RowAt W (.slice none 0 0) 0 k [] := ⟨by simp, none, 0, rfl, Nat.le_refl _, Nat.zero_le _, fun _ => rfl, fun j hj => by simp at hj⟩
structure Res where
  ws : List Int
  seens : List (Int × Bool)
  marks : List Mk
  err : Int
def runRes (ws : List Int) (l : List Acc) : Res := if errOf ws.length l = 0 then ⟨(runTo ws l l.length).ws, (runTo ws l l.length).seens, (runTo ws l l.length).marks, 0⟩ else ⟨[], [], [], errOf ws.length l⟩
theorem runRes_lens (ws : List Int) (l : List Acc) : (runRes ws l).ws.length ≤ ws.length ∧ (runRes ws l).seens.length ≤ l.length ∧ (runRes ws l).marks.length ≤ l.length := by
  unfold runRes
  obtain ⟨h1, h2, h3⟩ := runTo_lens ws l l.length (Nat.le_refl _)
  split
  · exact ⟨Nat.le_of_eq h1, Nat.le_of_eq h2, h3⟩
  · exact ⟨Nat.zero_le _, Nat.zero_le _, Nat.zero_le _⟩
def RunR (r : Res) (w : World) (e : Ending) (w' : World) : Prop := ∃ a1 c1 a2 c2 a3 c3, e = .returned (.tuple #[.slice a1 r.ws.length c1, .slice a2 r.seens.length c2, .slice a3 r.marks.length c3, .int .i64 r.err]) ∧ WordsAt w' (.slice a1 r.ws.length c1) r.ws ∧ SeensAt w' (.slice a2 r.seens.length c2) r.seens ∧ MarksAt w' (.slice a3 r.marks.length c3) r.marks ∧ Below w.heap.size w w'
theorem run1 (ws : List Int) (l : List Acc) (hl : l.length ≤ 100) (v lv : Value) (w : World) (hI : WordsAt w v ws) (hL : AccsAt w lv l) :
    Calls Try.prog 24 #[v, lv] w (RunR (runRes ws l) w) := by
  refine (Try.Run_any ws l hl v lv w hI hL).mono ?_
  unfold RunR runRes
  rintro e w' (⟨h, rfl, hB⟩ | ⟨h, v1, v2, v3, rfl, o1, o2, o3, hB⟩)
  · rw [if_neg h]
    exact ⟨none, 0, none, 0, none, 0, rfl, row_none _ _, row_none _ _, row_none _ _, hB⟩
  · rw [if_pos h]
    obtain ⟨_, a1, c1, rfl, _⟩ := rowAt_own o1
    obtain ⟨_, a2, c2, rfl, _⟩ := rowAt_own o2
    obtain ⟨_, a3, c3, rfl, _⟩ := rowAt_own o3
    exact ⟨_, _, _, _, _, _, rfl, rowAt_own o1, rowAt_own o2, rowAt_own o3, hB⟩
theorem run2 (n₀ : Nat) (ws : List Int) (l : List Acc) (hl : l.length ≤ 100) (v : Value) (x : Option Addr) (nL capL : Nat) (hnL : nL = l.length) (w : World) (hn₀ : n₀ ≤ w.heap.size) (hI : OwnsWords n₀ ws v w) (hL : AccsAt w (.slice x nL capL) l) :
    Calls Try.prog 25 #[v, .slice x nL capL] w (RunR (runRes ws l) w) := by
  refine (Try.refRun2_any n₀ ws l hl v x nL capL hnL w hn₀ hI hL).mono ?_
  unfold RunR runRes
  rintro e w' (⟨h, rfl, hB⟩ | ⟨h, v1, v2, v3, rfl, o1, o2, o3, hB⟩)
  · rw [if_neg h]
    exact ⟨none, 0, none, 0, none, 0, rfl, row_none _ _, row_none _ _, row_none _ _, hB⟩
  · rw [if_pos h]
    obtain ⟨_, a1, c1, rfl, _⟩ := rowAt_own o1
    obtain ⟨_, a2, c2, rfl, _⟩ := rowAt_own o2
    obtain ⟨_, a3, c3, rfl, _⟩ := rowAt_own o3
    exact ⟨_, _, _, _, _, _, rfl, rowAt_own o1, rowAt_own o2, rowAt_own o3, hB⟩

set_option maxRecDepth 100000 in
set_option maxHeartbeats 16000000 in
theorem walk (a : Option Addr) (n cap : Nat) (xs : List Int) (al : Option Addr) (nl capl : Nat) (ys : List Acc) (w : World) (hn : n = xs.length) (hI : WordsAt w (.slice a n cap) xs) (hnl : nl = ys.length) (hL : AccsAt w (.slice al nl capl) ys) :
    Calls Try.prog 3 #[.slice a n cap, .slice al nl capl] w fun e w' => e = .returned (.bool true) ∧ Below w.heap.size w w' := by
  have HI := Lib.hid hI
  have HL := Lib.hid hL
  have HN := Lib.hid hn
  have HNL := Lib.hid hnl
  have hcl : nl ≤ capl := by
    obtain ⟨h0, a', cap', e, h1, h2, h3, h4⟩ := hL
    cases e
    omega
  clear hI hL hn hnl
  by_cases hbig : 8192 < n
  · have hbi : (8192 : Int) < (n : Int) := by omega
    have hdo := fun W (hB : Below w.heap.size w W) => Try.Do_any xs (.slice a n cap) 0 1 0 0 0 W (RowAt.below HI.out hB)
    have hwhy : why xs.length 0 1 0 = 120 := by unfold why; rw [if_pos (by rw [← HN.out]; omega)]
    have HDO := Lib.hid hdo
    have HWHY := Lib.hid hwhy
    clear hdo hwhy
    go_enter Try.func3, Try.ntmps3
    go_wp2_with fail
    refine (Try.wakes_any _).mono ?_
    rintro e w1 ⟨rfl, B1⟩
    go_wp2_with fail
    refine (HDO.out w1 B1).mono ?_
    rintro e w2 (⟨hz, rfl, B2⟩ | ⟨hz, _⟩)
    · rw [HWHY.out]
      have HB2 := Lib.hid (B1.trans (B2.mono B1.size))
      clear hz B2
      go_wp2_with fail
      go_ret
      exact ⟨rfl, HB2.out.alloc HB2.out.size _⟩
    · rw [HWHY.out] at hz
      exact absurd hz (by decide)
  · have hbi : ¬ (8192 : Int) < (n : Int) := by omega
    have hlw : (xs.take 40).length ≤ 40 := by rw [List.length_take]; omega
    have hlm : (ys.take 30).length ≤ 30 := by rw [List.length_take]; omega
    have FEW := Lib.hid fun W (hB : Below w.heap.size w W) => Try.few_any a n cap xs HN.out W (RowAt.below HI.out hB)
    have CLM : ∀ k W, k = (ys.take 30).length → k ≤ nl → Below w.heap.size w W → Calls Try.prog 18 #[.slice al k capl] W (AccsQ (ys.take 30) W) := by
      intro k W hk hkm hB
      have h := accs_cut HNL.out HL.out k hkm
      have e : ys.take k = ys.take 30 := by
        rw [hk, List.length_take]
        by_cases h30 : 30 ≤ ys.length
        · rw [Nat.min_eq_left h30]
        · rw [Nat.min_eq_right (by omega), List.take_of_length_le (Nat.le_refl _), List.take_of_length_le (by omega)]
      rw [e] at h
      exact Try.cloneAccs_any al k capl _ hk (by omega) W (RowAt.below h hB)
    have hkm : (nl ≤ 30 ∧ nl = (ys.take 30).length) ∨ (30 < nl ∧ 30 = (ys.take 30).length) := by
      rw [List.length_take, ← HNL.out]; omega
    have HCLM := Lib.hid CLM
    clear CLM hbig
    generalize xs.take 40 = ws at *
    generalize ys.take 30 = la at *
    go_enter Try.func3, Try.ntmps3
    go_wp2_with fail
    refine (Try.wakes_any _).mono ?_
    rintro e w1 ⟨rfl, B1⟩
    go_wp2_with fail
    refine (FEW.out w1 B1).mono ?_
    rintro e w2 ⟨v, rfl, hO, B2⟩
    obtain ⟨_, a2, c2, rfl, _⟩ := rowAt_own hO
    have B02 := B1.trans (B2.mono B1.size)
    have HO := Lib.hid hO
    clear hO
    rcases hkm with ⟨hk1, hk2⟩ | ⟨hk1, hk2⟩
    all_goals first
      | (have f1 : (nl : Int) ≤ 30 := by omega
         have f2 : ¬ (30 : Int) < (nl : Int) := by omega
         have f3 : ¬ (capl : Int) < (nl : Int) := by omega
         have HK := Lib.hid (HCLM.out nl w2 hk2 (Nat.le_refl _) B02)
         clear hk2
         go_wp2_with fail
         refine HK.out.mono ?_
         clear hk1 f1 f2 f3 HK)
      | (have f1 : ¬ (nl : Int) ≤ 30 := by omega
         have f2 : ¬ (nl : Int) < 30 := by omega
         have f3 : (30 : Int) < (nl : Int) := by omega
         have f4 : (30 : Nat) ≤ capl := by omega
         have f5 : ¬ (capl : Int) < 30 := by omega
         have HK := Lib.hid (HCLM.out 30 w2 hk2 (by omega) B02)
         clear hk2
         go_wp2_with fail
         refine HK.out.mono ?_
         clear hk1 f1 f2 f3 f4 f5 HK)
    all_goals
      rintro e w3 ⟨vl, rfl, hOl, B3⟩
      obtain ⟨_, a3, c3, rfl, _⟩ := rowAt_own hOl
      have B03 := B02.trans (B3.mono B02.size)
      have HL3 := Lib.hid hOl
      have HW3 := Lib.hid (owns_keep HO.out B3 (Nat.le_refl _))
      clear hOl B3
      go_wp2_with fail
      refine (FEW.out w3 B03).mono ?_
      rintro e w4 ⟨v4, rfl, o4, B4⟩
      obtain ⟨_, a4, c4, rfl, _⟩ := rowAt_own o4
      have B04 := B03.trans (B4.mono B03.size)
      have HL4 := Lib.hid (rowAt_own (owns_keep HL3.out B4 (Nat.le_refl _)))
      have HW4 := Lib.hid (rowAt_own (owns_keep HW3.out B4 (Nat.le_refl _)))
      have HA4 := Lib.hid o4
      have hz34 := B4.size
      clear o4 B4 HL3 HW3
      go_wp2_with fail
      go_loopw [9, 11, 12, 13, 14, 15, 16, 17, 18, 19, 59] (fun s9 _ _ _ _ _ _ _ _ _ j wr => ∃ (k : Nat) (cur : List Int) (a9 : Option Addr) (c9 : Nat), k ≤ la.length ∧ j = .int .i64 k ∧ cur.length = ws.length ∧ s9 = .slice a9 ws.length c9 ∧ OwnsWords w3.heap.size cur (.slice a9 ws.length c9) wr ∧ Below w4.heap.size w4 wr) (fun _ _ _ _ _ _ _ _ _ _ j _ => la.length - (intOf j).toNat)
      case atStart => exact ⟨0, ws, a4, c4, Nat.zero_le _, rfl, rfl, rfl, HA4.out, Below.refl _ _⟩
      case round =>
        obtain ⟨k, cur, a9, c9, hk, rfl, hcl9, rfl, hOc, hBc⟩ := hrel
        have HOC := Lib.hid hOc
        have HCL := Lib.hid hcl9
        clear hOc hcl9
        by_cases hlt : k < la.length
        · have hki : (k : Int) < (la.length : Int) := by omega
          obtain ⟨b, off, rfl, hb, y0, y1, y2, y3, y4⟩ := accsAt_get (RowAt.below HL4.out hBc) k hlt
          generalize la[k] = ac at *
          obtain ⟨who, kind, pl, old, new⟩ := ac
          dsimp only at y0 y1 y2 y3 y4
          have hzr := hBc.size
          have HCLONE := Lib.hid (fun W hW => Try.cloneWords_any a9 ws.length c9 cur HCL.out.symm (by omega) W hW)
          go_wp2_with fail
          obtain ⟨wc, hwc⟩ : ∃ wc, wc = wr.alloc (.cells #[.int .i64 who, .int .i64 kind, .int .i64 pl, .int .u64 old, .int .u64 new] 32) := ⟨_, rfl⟩
          have r11 : Rows8 wc wr.heap.size 32 #[.int .i64 who, .int .i64 kind, .int .i64 pl, .int .u64 old, .int .u64 new] := by rw [hwc]; exact Rows8.new wr _ _
          have Brc : Below wr.heap.size wr wc := by rw [hwc]; exact (Below.refl _ wr).alloc (Nat.le_refl _) _
          have HOc := Lib.hid (owns_keep HOC.out Brc (Nat.le_refl _))
          have HBc := Lib.hid (hBc.trans (Brc.mono hzr))
          have hzc := Brc.size
          rw [← hwc]
          clear hwc y0 y1 y2 y3 y4 Brc hBc HOC
          refine (HCLONE.out wc (rowAt_own HOc.out)).mono ?_
          rintro e wd ⟨vd, rfl, od, Bd⟩
          obtain ⟨_, a12, c12, rfl, _⟩ := rowAt_own od
          rw [HCL.out] at od ⊢
          have q11 := r11.below Bd r11.lt
          obtain ⟨l0, l1, l2, l3, l4⟩ := five q11
          have HOd := Lib.hid (owns_keep HOc.out Bd (Nat.le_refl _))
          have HBd := Lib.hid (HBc.out.trans (Bd.mono HBc.out.size))
          have HDd := Lib.hid (rowAt_own od)
          have hzd := Bd.size
          have hz11 := q11.lt
          clear od Bd r11 HOc HBc
          go_wp2_with fail
          refine (Try.Do_any cur (.slice a9 ws.length c9) who kind pl old new wd (rowAt_own HOd.out)).mono ?_
          rintro e we (⟨hz, rfl, Be⟩ | ⟨hz, vn, rfl, on, Be⟩)
          · have HWHY := Lib.hid fun W => Try.refWhy2_any a9 ws.length c9 who kind pl old new W
            rw [HCL.out] at hz ⊢
            generalize why ws.length who kind pl = q at *
            have hd : (q == 0) = false := by simp [hz]
            have hd2 : (q != q) = false := by simp
            have hd0 : ((0 : Int) != 0) = false := rfl
            have hze := Be.size
            have x11 := q11.below Be q11.lt
            have hz11e := x11.lt
            obtain ⟨m0, m1, m2, m3, m4⟩ := five x11
            have HOe := Lib.hid (owns_keep HOd.out Be (Nat.le_refl _))
            have HDe := Lib.hid (RowAt.below HDd.out Be)
            have HBe := Lib.hid (HBd.out.trans (Be.mono HBd.out.size))
            clear Be x11 q11 l0 l1 l2 l3 l4 HOd HBd HDd HCLONE
            go_wp2_with fail
            obtain ⟨W6, h6⟩ : ∃ W6, W6 = (we.alloc (.cells #[.int .u64 0, .bool false] 27)).alloc (.cells #[.int .u64 0, .bool false] 27) := ⟨_, rfl⟩
            have r14 : Rows8 W6 we.heap.size 27 #[.int .u64 0, .bool false] := by rw [h6]; exact (Rows8.new we _ _).alloc _
            have r17 : Rows8 W6 (we.heap.size + 1) 27 #[.int .u64 0, .bool false] := by
              rw [h6]
              have h := Rows8.new (we.alloc (.cells #[.int .u64 0, .bool false] 27)) 27 #[.int .u64 0, .bool false]
              rwa [World.size_alloc] at h
            have B56 : Below we.heap.size we W6 := by rw [h6]; exact ((Below.refl _ we).alloc (Nat.le_refl _) _).alloc (by simp) _
            rw [← h6]
            clear h6 m0 m1 m2 m3 m4
            refine (HWHY.out W6).mono ?_
            rintro e W7 ⟨rfl, B7⟩
            have B57 := B56.trans (B7.mono B56.size)
            have x14 := r14.below B7 r14.lt
            have x17 := r17.below B7 r17.lt
            have z0 := x14.cell 0
            have z1 := x14.cell 1
            have z2 := x17.cell 0
            have z3 := x17.cell 1
            simp at z0 z1 z2 z3
            have HO7 := Lib.hid (owns_keep HOe.out B57 (Nat.le_refl _))
            have HD7 := Lib.hid (RowAt.below HDe.out B57)
            have HB7 := Lib.hid (HBe.out.trans (B57.mono HBe.out.size))
            clear B56 B57 B7 r14 r17 x14 x17 HOe HDe HBe HWHY
            go_wp2_with fail
            refine (Try.refSame2_any none none 0 0 0 0 [] [] rfl rfl (by omega) (by omega) W7 (row_none _ _) (row_none _ _)).mono ?_
            rintro e W8 ⟨rfl, B8⟩
            have HO8 := Lib.hid (owns_keep HO7.out B8 (Nat.le_refl _))
            have HD8 := Lib.hid (RowAt.below HD7.out B8)
            have HB8 := Lib.hid (HB7.out.trans (B8.mono HB7.out.size))
            clear B8 HO7 HD7 HB7 z0 z1 z2 z3
            go_wp2_with fail
            go_loopw [19, 100] (fun _ j wz => j = .int .i64 0 ∧ wz = W8) (fun _ _ _ => 0)
            case atStart => exact ⟨rfl, rfl⟩
            case round =>
              obtain ⟨rfl, rfl⟩ := hrel
              go_wp2_with fail
              refine (Try.equalWords_any a9 a12 _ _ c9 c12 cur cur HCL.out.symm HCL.out.symm (by omega) (by omega) _ (rowAt_own HO8.out) HD8.out).mono ?_
              rintro e W9 ⟨rfl, B9⟩
              have HO9 := Lib.hid (owns_keep HO8.out B9 (Nat.le_refl _))
              have HB9 := Lib.hid (HB8.out.trans (B9.mono HB8.out.size))
              clear B9 HO8 HD8 HB8
              go_wp2_with fail
              exact ⟨⟨k + 1, cur, a9, c9, by omega, by go_num, HCL.out, rfl, HO9.out, HB9.out⟩, by simp [intOf]; omega⟩
          · obtain ⟨k1, k2, k3, k4, k5, k6⟩ := why_ok hz
            have HWHY := Lib.hid fun W => Try.refWhy2_any a9 ws.length c9 who kind pl old new W
            have hlc := wordsOf_length cur kind pl old new
            have hdo := fun n₀ v0 W (hW : n₀ ≤ W.heap.size) hO => Try.refDoOwn_any n₀ v0 cur (by rw [HCL.out]; omega) who kind pl old new ⟨k3, k4⟩ k5 k6 W hW hO
            rw [HCL.out] at hz hlc k1
            rw [hz] at HWHY
            simp only [HCL.out] at hdo
            obtain ⟨gn, cn, e, hgn, hgl⟩ := World.ownsRow.form on (by rw [hlc]; exact k1)
            subst e
            rw [hlc] at on ⊢
            have HDO := Lib.hid hdo
            have HLC := Lib.hid hlc
            have hze := Be.size
            have x11 := q11.below Be q11.lt
            have hz11e := x11.lt
            obtain ⟨m0, m1, m2, m3, m4⟩ := five x11
            have HOe := Lib.hid (owns_keep HOd.out Be (Nat.le_refl _))
            have HNe := Lib.hid on
            have HBe := Lib.hid Be
            clear Be q11 l0 l1 l2 l3 l4 on hlc hdo
            generalize wordsOf cur kind pl old new = cur' at *
            generalize cur[pl.toNat]?.getD 0 = h at *
            generalize doneOf kind old h = dn at *
            have hd : ((0 : Int) == 0) = true := rfl
            have hd0 : ((0 : Int) != 0) = false := rfl
            have hhh : (h != h) = false := by simp
            have hdd : (dn != dn) = false := by simp
            have he0 : (h == h) = true := by simp
            have hd1 : (dn == dn) = true := by simp
            go_wp2_with fail
            obtain ⟨W6, h6⟩ : ∃ W6, W6 = (we.alloc (.cells #[.int .u64 h, .bool dn] 27)).alloc (.cells #[.int .u64 0, .bool false] 27) := ⟨_, rfl⟩
            have r11 : Rows8 W6 wr.heap.size 32 #[.int .i64 who, .int .i64 kind, .int .i64 pl, .int .u64 old, .int .u64 new] := by rw [h6]; exact (x11.alloc _).alloc _
            have r14 : Rows8 W6 we.heap.size 27 #[.int .u64 h, .bool dn] := by rw [h6]; exact (Rows8.new we _ _).alloc _
            have r17 : Rows8 W6 (we.heap.size + 1) 27 #[.int .u64 0, .bool false] := by
              rw [h6]
              have h := Rows8.new (we.alloc (.cells #[.int .u64 h, .bool dn] 27)) 27 #[.int .u64 0, .bool false]
              rwa [World.size_alloc] at h
            have B56 : Below we.heap.size we W6 := by rw [h6]; exact ((Below.refl _ we).alloc (Nat.le_refl _) _).alloc (by simp) _
            rw [← h6]
            clear h6 m0 m1 m2 m3 m4 x11
            refine (HWHY.out W6).mono ?_
            rintro e W7 ⟨rfl, B7⟩
            have B57 := B56.trans (B7.mono B56.size)
            have x11 := r11.below B7 r11.lt
            have x14 := r14.below B7 r14.lt
            have x17 := r17.below B7 r17.lt
            have hz7 := B57.size
            have hz17 := x17.lt
            have HO7 := Lib.hid (owns_keep HOe.out B57 (Nat.le_refl _))
            have HN7 := Lib.hid (owns_keep HNe.out B57 (Nat.le_refl _))
            have HB7 := Lib.hid (HBe.out.trans (B57.mono hze))
            clear B56 B57 B7 r11 r14 r17 HOe HNe HBe HWHY
            go_wp2_with fail
            have hk0 : W7.cell? ⟨wr.heap.size, 0, none⟩ = some (.int .i64 who) ∧ W7.cell? ⟨wr.heap.size, 1, none⟩ = some (.int .i64 kind) ∧ W7.cell? ⟨wr.heap.size, 2, none⟩ = some (.int .i64 pl) ∧ W7.cell? ⟨wr.heap.size, 3, none⟩ = some (.int .u64 old) ∧ W7.cell? ⟨wr.heap.size, 4, none⟩ = some (.int .u64 new) := five x11
            go_region_held3 (fun W' => W'.cell? ⟨wr.heap.size, 0, none⟩ = some (.int .i64 who) ∧ W'.cell? ⟨wr.heap.size, 1, none⟩ = some (.int .i64 kind) ∧ W'.cell? ⟨wr.heap.size, 2, none⟩ = some (.int .i64 pl) ∧ W'.cell? ⟨wr.heap.size, 3, none⟩ = some (.int .u64 old) ∧ W'.cell? ⟨wr.heap.size, 4, none⟩ = some (.int .u64 new)) (first | exact hk0 | exact hk1 | exact hk2 | exact hk3 _ _) (first | (go_at_call 19; refine (HCLONE.out _ (rowAt_own (drew_own HO7.out))).mono ?_; rintro e wx ⟨vx, rfl, ox, Bx⟩; have s11 := (Rows8.drew x11).below Bx (Rows8.drew x11).lt; have hk1 := five s11; obtain ⟨_, ax, cx, rfl, _⟩ := rowAt_own ox) | (go_at_call 21; refine (HDO.out _ _ wx Bx.size ox).mono ?_; rintro e wy ⟨ay, cy, rfl, oy, By⟩; have t11 := s11.below By s11.lt; have hk2 := five t11; have hk3 := (fun u v => five ((t11.setOther (a := ⟨we.heap.size + 1, 0, none⟩) (by simp; omega) u).setOther (a := ⟨we.heap.size + 1, 1, none⟩) (by simp; omega) v)); have t14 := ((Rows8.drew x14).below Bx (Rows8.drew x14).lt).below By ((Rows8.drew x14).below Bx (Rows8.drew x14).lt).lt; have t17 := ((Rows8.drew x17).below Bx (Rows8.drew x17).lt).below By ((Rows8.drew x17).below Bx (Rows8.drew x17).lt).lt; have z0 := t14.cell 0; have z1 := t14.cell 1; have z2 := t17.cell 0; have z3 := t17.cell 1; have g2 := t17.frozen 0; have g3 := t17.frozen 1; simp at z0 z1 z2 z3))
            have hBxy := Bx.trans (By.mono Bx.size)
            have hzy := hBxy.size
            have hzy2 : W7.heap.size ≤ wy.heap.size := hzy
            have hB7y : Below W7.heap.size W7 wy := ⟨hBxy.os, hBxy.tape, hBxy.output, hBxy.size, hBxy.block⟩
            have hno := owns_not oy t17 (by decide)
            have hNy := owns_keep HN7.out hB7y (Nat.le_refl _)
            have hnn := owns_not hNy t17 (by decide)
            have HOY := Lib.hid (owns_mono (n₀ := W7.heap.size) (ownsRow_setCell_other (ownsRow_setCell_other (a := ⟨we.heap.size + 1, 0, none⟩) oy hno (.int .u64 h)) (a := ⟨we.heap.size + 1, 1, none⟩) hno (.bool dn)) (Nat.le_refl _))
            have HNY := Lib.hid (ownsRow_setCell_other (ownsRow_setCell_other (a := ⟨we.heap.size + 1, 0, none⟩) hNy hnn (.int .u64 h)) (a := ⟨we.heap.size + 1, 1, none⟩) hnn (.bool dn))
            have hwdz : wd.heap.size ≤ we.heap.size + 1 := by omega
            have HBY := Lib.hid (((HB7.out.trans (hB7y.mono (by omega))).setCell (p := ⟨we.heap.size + 1, 0, none⟩) hwdz (.int .u64 h)).setCell (p := ⟨we.heap.size + 1, 1, none⟩) hwdz (.bool dn))
            have hzwz : ((wy.setCell ⟨we.heap.size + 1, 0, none⟩ (.int .u64 h)).setCell ⟨we.heap.size + 1, 1, none⟩ (.bool dn)).heap.size = wy.heap.size := by simp
            have HZW := Lib.hid hzwz
            clear hzwz hBxy hB7y hno hNy hnn oy ox Bx By t11 hk0 hk1 hk2 hk3 s11 x11 x14 x17 t14 t17 HN7 HB7 HO7 HDO HCLONE
            go_wp2_with fail
            have hsame := Try.refSame2_any (some ⟨gn, 0, none⟩) ay ws.length ws.length cn cy cur' cur' HLC.out.symm HLC.out.symm (by omega) (by omega) _ (rowAt_own HNY.out) (rowAt_own HOY.out)
            refine hsame.mono ?_
            rintro e W9 ⟨rfl, B9⟩
            have HOY9 := Lib.hid (owns_keep HOY.out B9 (Nat.le_refl _))
            have HNY9 := Lib.hid (owns_keep HNY.out B9 (Nat.le_refl _))
            have HBY9 := Lib.hid (HBY.out.trans (B9.mono (by rw [HZW.out]; omega)))
            clear hsame B9 HOY HNY HBY HZW z0 z1 z2 z3 g2 g3
            go_wp2_with fail
            go_loopw [19, 100] (fun _ j wz => ∃ (i : Nat) (zs : List Int), i ≤ ws.length ∧ j = .int .i64 i ∧ zs.length = ws.length ∧ OwnsWords wd.heap.size zs (.slice (some ⟨gn, 0, none⟩) ws.length cn) wz ∧ OwnsWords W7.heap.size cur' (.slice ay ws.length cy) wz ∧ Below wd.heap.size wd wz) (fun _ j _ => ws.length - (intOf j).toNat)
            case atStart => exact ⟨0, cur', Nat.zero_le _, rfl, HLC.out, HNY9.out, HOY9.out, HBY9.out⟩
            case round =>
              obtain ⟨i, zs, hi, rfl, hzl, hOz, hWz, hBz⟩ := hrel
              have hng := fun e2 => (World.ownsRow.lt hWz gn e2).1
              by_cases hil : i < ws.length
              · have hii : (i : Int) < (ws.length : Int) := by omega
                have hOz' := hOz
                rw [← hzl] at hOz'
                have hcl := words_cell hOz' i (by omega)
                have hfr := words_frozen hOz' i
                have hst := words_set hOz' i (IntKind.u64.wrap (zs[i]?.getD 0 + 1))
                rw [hzl] at hst
                have HST := Lib.hid hst
                have HWS := Lib.hid (ownsRow_setCell_other (a := ⟨gn, i, none⟩) hWz (fun e2 => by have := hng e2; omega) (.int .u64 (IntKind.u64.wrap (zs[i]?.getD 0 + 1))))
                have HBZ := Lib.hid (hBz.setCell (p := ⟨gn, i, none⟩) hgn (.int .u64 (IntKind.u64.wrap (zs[i]?.getD 0 + 1))))
                have hls : (zs.set i (IntKind.u64.wrap (zs[i]?.getD 0 + 1))).length = ws.length := by rw [List.length_set]; exact hzl
                have HLS := Lib.hid hls
                clear hzl hOz hOz' hst hBz hls hWz hng
                generalize zs.set i (IntKind.u64.wrap (zs[i]?.getD 0 + 1)) = zs' at *
                generalize zs[i]?.getD 0 = z at *
                go_wp2_with fail
                exact ⟨⟨i + 1, zs', by omega, by go_num, HLS.out, HST.out, HWS.out, HBZ.out⟩, by simp [intOf]; omega⟩
              · obtain rfl : i = ws.length := by omega
                have HWZ := Lib.hid hWz
                have HBZ := Lib.hid hBz
                have hzwd := hBz.size
                clear hzl hOz hBz hWz hng
                go_wp2_with fail
                refine (Try.equalWords_any a9 a12 ws.length ws.length c9 c12 cur cur HCL.out.symm HCL.out.symm (by omega) (by omega) _ (RowAt.below (rowAt_own HOd.out) HBZ.out) (RowAt.below HDd.out HBZ.out)).mono ?_
                rintro e W10 ⟨rfl, B10⟩
                have HW10 := Lib.hid (owns_mono (n₀ := w3.heap.size) (owns_keep HWZ.out B10 (Nat.le_refl _)) (by omega))
                have HB10 := Lib.hid (HBd.out.trans ((HBZ.out.trans (B10.mono hzwd)).mono HBd.out.size))
                clear B10 HWZ HBZ
                go_wp2_with fail
                exact ⟨⟨k + 1, cur', ay, cy, by omega, by go_num, HLC.out, rfl, HW10.out, HB10.out⟩, by simp [intOf]; omega⟩
        · obtain rfl : k = la.length := by omega
          have hr1 := fun W h1 h2 => run1 ws la (by omega) (.slice a2 ws.length c2) (.slice a3 la.length c3) W h1 h2
          have hr2 := fun n₀ a W hn h1 h2 => run2 n₀ ws la (by omega) a a3 la.length c3 rfl W hn h1 h2
          obtain ⟨hl1, hl2, hl3⟩ := runRes_lens ws la
          generalize runRes ws la = r at *
          obtain ⟨us, ss, mm, q⟩ := r
          unfold RunR at hr1 hr2
          dsimp only at hr1 hr2 hl1 hl2 hl3
          have HR1 := Lib.hid hr1
          have HR2 := Lib.hid hr2
          have hqq : (q == q) = true := by simp
          have B0r := B04.trans (hBc.mono B04.size)
          have HL5 := Lib.hid (RowAt.below HL4.out hBc)
          have HW5 := Lib.hid (RowAt.below HW4.out hBc)
          clear hr1 hr2 hBc HOC
          go_wp2_with fail
          refine (HR1.out wr HW5.out HL5.out).mono ?_
          rintro e x1 ⟨b1, d1, b2, d2, b3, d3, rfl, p1, p2, p3, C1⟩
          have B1r := B0r.trans (C1.mono B0r.size)
          have HL6 := Lib.hid (RowAt.below HL5.out C1)
          have HW6 := Lib.hid (RowAt.below HW5.out C1)
          have P1 := Lib.hid p1
          have P2 := Lib.hid p2
          have P3 := Lib.hid p3
          clear p1 p2 p3 C1 HL5 HW5
          go_wp2_with fail
          refine (FEW.out x1 B1r).mono ?_
          rintro e x2 ⟨v5, rfl, o5, C2⟩
          obtain ⟨_, a5, c5, rfl, _⟩ := rowAt_own o5
          have B2r := B1r.trans (C2.mono B1r.size)
          have HL7 := Lib.hid (RowAt.below HL6.out C2)
          have HW7 := Lib.hid (RowAt.below HW6.out C2)
          have P1' := Lib.hid (RowAt.below P1.out C2)
          have P2' := Lib.hid (RowAt.below P2.out C2)
          have P3' := Lib.hid (RowAt.below P3.out C2)
          have O5 := Lib.hid o5
          have hz12 := C2.size
          clear o5 C2 HL6 HW6 P1 P2 P3
          go_wp2_with fail
          refine (HR2.out x1.heap.size _ x2 hz12 O5.out HL7.out).mono ?_
          rintro e x3 ⟨e1, g1, e2, g2, e3, g3, rfl, p1, p2, p3, C3⟩
          have B3r := B2r.trans (C3.mono B2r.size)
          have HW8 := Lib.hid (RowAt.below HW7.out C3)
          have HSAME := Lib.hid (Try.refSame2_any b1 e1 _ _ d1 g1 us us rfl rfl (by omega) (by omega) x3 (RowAt.below P1'.out C3) p1)
          have R2 := Lib.hid (RowAt.below P2'.out C3)
          have R3 := Lib.hid (RowAt.below P3'.out C3)
          have Q2 := Lib.hid p2
          have Q3 := Lib.hid p3
          clear p1 p2 p3 C3 HW7 P1' P2' P3' O5
          go_wp2_with fail
          refine HSAME.out.mono ?_
          rintro e x4 ⟨rfl, C4⟩
          have B4r := B3r.trans (C4.mono B3r.size)
          have HW9 := Lib.hid (RowAt.below HW8.out C4)
          have HES := Lib.hid (Try.equalSeens_any b2 e2 _ _ d2 g2 ss ss rfl rfl (by omega) (by omega) x4 (RowAt.below R2.out C4) (RowAt.below Q2.out C4))
          have R3' := Lib.hid (RowAt.below R3.out C4)
          have Q3' := Lib.hid (RowAt.below Q3.out C4)
          clear C4 HW8 R2 R3 Q2 Q3 HSAME
          go_wp2_with fail
          refine HES.out.mono ?_
          rintro e x5 ⟨rfl, C5⟩
          have B5r := B4r.trans (C5.mono B4r.size)
          have HW10 := Lib.hid (RowAt.below HW9.out C5)
          have HEM := Lib.hid (Try.equalMarks_any b3 e3 _ _ d3 g3 mm mm rfl rfl (by omega) (by omega) x5 (RowAt.below R3'.out C5) (RowAt.below Q3'.out C5))
          clear C5 HW9 R3' Q3' HES
          go_wp2_with fail
          refine HEM.out.mono ?_
          rintro e x6 ⟨rfl, C6⟩
          have B6r := B5r.trans (C6.mono B5r.size)
          have HW11 := Lib.hid (RowAt.below HW10.out C6)
          clear C6 HW10 HEM
          go_wp2_with fail
          refine (FEW.out x6 B6r).mono ?_
          rintro e x7 ⟨v6, rfl, o6, C7⟩
          obtain ⟨_, a6, c6, rfl, _⟩ := rowAt_own o6
          have B7r := B6r.trans (C7.mono B6r.size)
          have HEQ := Lib.hid (Try.equalWords_any a2 a6 _ _ c2 c6 ws ws rfl rfl (by omega) (by omega) x7 (RowAt.below HW11.out C7) (rowAt_own o6))
          clear C7 HW11 o6
          go_wp2_with fail
          refine HEQ.out.mono ?_
          rintro e x8 ⟨rfl, C8⟩
          have HB8 := Lib.hid (B7r.trans (C8.mono B7r.size))
          clear C8 HEQ
          go_wp2_with fail
          go_ret
          exact ⟨by simp, HB8.out⟩
theorem laidOut : laidOutB Try.prog = true := by kernel_rfl
set_option maxRecDepth 100000 in
theorem lifted (os : Os) (started : os.Started) (H : Type) (enc : TypeId × Value → H) :
    ReturnsInHanded {} Try.checked os 3 .any (Rows.cellsDoSpec.pre6 enc Try.prog Try.f3 Rows.cellsDoRow.domain false) (Rows.cellsDoSpec.post enc Try.prog Try.f3 false true false false) := by
  refine returnsInHanded_of_change (C := Try.checked) own started (by kernel_rfl) Try.func3
    (ChangeSpec.witness6 (enc := enc) (C := Try.checked) false ⟨#[], #[.slice none 0 0, .slice none 0 0], []⟩ 8 (by kernel_rfl) (by kernel_rfl) (by kernel_rfl) (by kernel_rfl)) ?_
  intro W base args ds gs before hval0 hW hcnd _
  have hval : ∀ (j : Nat) t v, Try.f3.params[j]? = some t → args[j]? = some v → Value.okWide Try.prog W .any base t v := hval0
  have hW' := hW
  obtain ⟨p, q, hA0, hV, rfl, hfz, hnd⟩ := hW
  have hA : DataW.TrodAll enc Try.prog W 0 (fun _ => true) true Try.f3.params.toList args.toList ds p := hA0
  rw [Try.params3] at hA hval
  obtain ⟨v0, vs0, d0, ds0, p0, q0, hargs, rfl, rfl, h0, r0⟩ := trodAll_cons hA
  obtain ⟨v1, vs1, d1, ds1, p1, q1, rfl, rfl, rfl, h1, r1⟩ := trodAll_cons r0
  obtain ⟨rfl, rfl, rfl⟩ := trodAll_nil r1
  obtain rfl : args = #[v0, v1] := by cases args; simp_all
  obtain ⟨rfl, rfl⟩ := trodVars_none hV
  obtain ⟨a0, len0, cap0, rfl⟩ := okWide_slice Try.underlying22 (hval 0 22 v0 rfl rfl)
  have k0 := h0
  have lt0 : ∀ x ∈ p0, x.block < W.heap.size := by obtain ⟨m, hm⟩ := k0; exact DataW.trod_lt m _ _ _ hm
  obtain ⟨z0, n0, w0⟩ : ∃ zs, len0 = zs.length ∧ WordsAt W (.slice a0 len0 cap0) zs := by
    obtain ⟨fuel, hf⟩ := h0
    exact open_words hf
  obtain ⟨a1, len1, cap1, rfl⟩ := okWide_slice Try.underlying23 (hval 1 23 v1 rfl rfl)
  have k1 := h1
  have lt1 : ∀ x ∈ p1, x.block < W.heap.size := by obtain ⟨m, hm⟩ := k1; exact DataW.trod_lt m _ _ _ hm
  obtain ⟨z1, n1, w1⟩ : ∃ zs, len1 = zs.length ∧ AccsAt W (.slice a1 len1 cap1) zs := by
    obtain ⟨fuel, hf⟩ := h1
    exact open_accs hf
  clear hA0 hval0
  refine (walk a0 len0 cap0 z0 a1 len1 cap1 z1 W n0 w0 n1 w1).mono fun e W' ⟨he, bel⟩ => ?_
  subst he
  exact ⟨_, rfl, _, _, _, [], _, [], hW', trodAll_mk1 (shut_bool Try.underlying4 _), (trodAll_cons_mk (Below.trod laidOut (by kernel_rfl) (of_decide_eq_true (by kernel_rfl)) k0 bel lt0) (trodAll_cons_mk (Below.trod laidOut (by kernel_rfl) (of_decide_eq_true (by kernel_rfl)) k1 bel lt1) trodAll_mk0)), rfl, bel.frame _, fun h => by cases h⟩

theorem over : Rows.cellsDoRow.holds Try.pinned (OpenSpec.ofChange Rows.cellsDoSpec) :=
  OpenClaim.holds_of_wide 3 Try.f3 rfl rfl rfl rfl rfl rfl rfl ⟨rfl, rfl, rfl, rfl, rfl⟩ rfl rfl rfl rfl rfl (by kernel_rfl) Try.func3 (by kernel_rfl)
    (of_decide_eq_true (by kernel_rfl)) (by unfold Func.isWrapper; first | (rw [if_pos (by decide +kernel)]; kernel_rfl) | (rw [if_neg (by decide +kernel)]; exact ⟨rfl, rfl⟩))
    (fun os started H enc _ => lifted os started H enc)

theorem proved : Rows.CellsDoSaid := over
end Go.Proofs.Ytafccppobhhelaa.cellsDo
