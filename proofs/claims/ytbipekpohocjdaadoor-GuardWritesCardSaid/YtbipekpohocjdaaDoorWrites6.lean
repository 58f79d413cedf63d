/- Proved: for every number and every look, honeycomblaw06.GuardWrites returns true, and its arguments read as they did; the listed variable reads as the program's text lays it. -/
import Derived.Test.YtbipekpohocjdaaDoorGn
import Derived.SevenTiedAt
import Derived.Stop.Joined
import Derived.Test.YtbipekpohocjdaaDoorCards
import Derived.Test.YtbipekpohocjdaaDoorTie
namespace Go.Proofs.YtbipekpohocjdaaDoor.guardWrites
open Go.ChangeShapes Go.WideShapes Go.ChangeAt Go.RowKit Go.Shelf
attribute [local go_sem] Oper.semAt_some

def wl (n : Nat) : List (Int × Int) := (List.range n).map fun i : Nat => (3 * (i : Int) + 1, 3 * (i : Int) + 3)
def wl2 (n : Nat) : List (Int × Int) := wl n ++ [(3 * (n : Int) + 1, 0)]
theorem wl_succ (n : Nat) : wl (n + 1) = wl n ++ [(3 * (n : Int) + 1, 3 * (n : Int) + 3)] := by simp [wl, List.range_succ]
theorem wl_len (n : Nat) : (wl n).length = n := by simp [wl]
theorem wl2_len (n : Nat) : (wl2 n).length = n + 1 := by simp [wl2, wl_len]
theorem wl_right : ∀ n, n < 9 → rightB (wl n) = true := by decide
theorem wl2_right : ∀ n, n < 8 → rightB (wl2 n) = true := by decide
theorem wl_c1 : ∀ k, k < 7 → countE (wl (k + 1)) ((3 * k + 1 : Nat) : Int) = 0 ∧ countR (wl (k + 1)) ((3 * k + 1 : Nat) : Int) = 2 * k + 1 := by decide
theorem wl_c2 : ∀ k, k < 7 → countE (wl (k + 1)) ((3 * k + 1 : Nat) + 2 : Int) = 0 ∧ countR (wl (k + 1)) ((3 * k + 1 : Nat) + 2 : Int) = 2 * k + 2 := by decide
theorem o_1 : ∀ k, k < 7 → openR ((2 * k : Nat) : Int) = (((2 * k + 1 : Nat) : Int), 0) := by decide
theorem o_2 : ∀ k, k < 7 → shutR ((2 * k + 1 : Nat) : Int) = (((2 * k + 2 : Nat) : Int), 0) := by decide
theorem o_3 : ∀ k, k < 7 → goodB ((2 * k + 1 : Nat) : Int) ((2 * k + 1 : Nat) : Int) = false := by decide
theorem o_4 : ∀ k, k < 7 → goodB ((2 * k : Nat) : Int) ((2 * k : Nat) : Int) = true := by decide
theorem o_5 : ∀ k, k < 7 → goodB ((2 * k : Nat) : Int) ((2 * k + 2 : Nat) : Int) = false := by decide
theorem wl2_next : ∀ n, n < 8 → nextE (wl2 n) ((3 * n + 1 : Nat) : Int) = 4 ∧ nextR (wl2 n) ((3 * n + 1 : Nat) : Int) = 0 := by decide
theorem clear_last (p : List (Int × Int)) (s F g : Int) (hp : ∀ u ∈ p, u.2 ≠ 0 ∧ u.2 ≤ F) : clearB (p ++ [(s, 0)]) F g = decide (g < s) := by
  induction p with
  | nil => exact clearB_stop (.inl rfl)
  | cons u t ih =>
    have h := hp u (by simp)
    rw [List.cons_append, clearB_go (by omega)]
    exact ih (fun v hv => hp v (by simp [hv]))
theorem wl2_clear (n : Nat) (F g : Int) (h : 3 * (n : Int) + 1 ≤ F) (hg : F ≤ g) : clearB (wl2 n) F g = false := by
  unfold wl2
  rw [clear_last _ _ _ _ (fun u hu => by
    simp only [wl, List.mem_map, List.mem_range] at hu
    obtain ⟨i, hi, rfl⟩ := hu
    dsimp only
    omega)]
  exact decide_eq_false (by omega)

set_option maxRecDepth 100000 in
set_option maxHeartbeats 8000000 in
theorem walk (many f g : Int) (w : World) (hT : TwoAt w) (_ : (Lit.int .i64 many).wf = true) (_ : (Lit.int .i64 f).wf = true) (_ : (Lit.int .i64 g).wf = true) :
    Calls Tryd.prog 7 #[.int .i64 many, .agg #[.int .i64 f, .int .i64 g]] w fun e w' => e = .returned (.bool true) ∧ Below w.heap.size w w' := by
  obtain ⟨i0, hi, hz0, hz1, hz2⟩ := info_parts Tryd.infoSection
  have hB0 : Below w.heap.size w (w.alloc (.cells #[.int .i64 f, .int .i64 g] 44)) := Rows8.newB
  have hk0 := Rows8.new w 44 #[.int .i64 f, .int .i64 g]
  have HW := Lib.hid (Tryd.wakes_any _ (hT.below hB0))
  have HB0 := Lib.hid hB0
  have HK0 := Lib.hid hk0
  obtain ⟨U, hU⟩ : ∃ U, U = IntKind.u64.wrap many := ⟨_, rfl⟩
  have hU0 : 0 ≤ U := by rw [hU]; simp [IntKind.wrap, IntKind.bits, IntKind.signed]; omega
  obtain ⟨M, hM⟩ : ∃ M : Nat, (M : Int) = U % 8 := ⟨(U % 8).toNat, by omega⟩
  have hM8 : M < 8 := by omega
  have e1 : U % 8 = (M : Int) := hM.symm
  have e2 : U.tmod 8 = (M : Int) := by rw [hM]; exact Int.tmod_eq_emod_of_nonneg hU0
  have e3 : IntKind.i64.wrap (M : Int) = (M : Int) := IntWalk.i64_in _ (by omega)
  have HM := Lib.hid hM8
  have hU' := hU.symm
  clear hB0 hk0 hM hU
  go_enter Tryd.func7, Tryd.ntmps7
  go_wp2_with fail
  generalize w.alloc (.cells #[.int .i64 f, .int .i64 g] 44) = W0 at *
  refine HW.out.mono ?_
  rintro e w1 ⟨rfl, hB⟩
  have HB1 := Lib.hid hB
  clear hB HW
  go_wp2_with fail
  clear e1 e2 e3
  go_loopw [5, 6, 7, 27] (fun lv cv sv iv wr => ∃ (k : Nat) (ct st : Nat), k ≤ M ∧ iv = .int .i64 k ∧ cv = .int .u64 ct ∧ sv = .int .i64 st ∧ Hid (ct = 2 * k) ∧ Hid (st = 3 * k + 1) ∧ wr.ownsRow W0.heap.size 39 2 lv k (pVals (wl k)) ∧ Below W0.heap.size W0 wr) (fun _ _ _ iv _ => M - (intOf iv).toNat)
  case atStart => exact ⟨0, 0, 1, Nat.zero_le _, rfl, rfl, rfl, Lib.hid rfl, Lib.hid rfl, World.ownsRow_nil _ _ _ _, HB1.out⟩
  case round =>
    obtain ⟨k, ct, st, hk, rfl, rfl, rfl, hct, hst, hO, hB⟩ := hrel
    by_cases hlt : k < M
    · have hk7 : k < 7 := by have := HM.out; omega
      have p1 := o_1 k hk7
      have p2 := o_2 k hk7
      have p3 := o_3 k hk7
      have p4 := o_4 k hk7
      have p5 := o_5 k hk7
      have p6 := wl_c1 k hk7
      have p7 := wl_c2 k hk7
      rw [← hst.out] at p6 p7
      have hc1 : ((2 * k + 1 : Nat) : Int) = ((ct + 1 : Nat) : Int) := by rw [hct.out]
      have hc2 : ((2 * k + 2 : Nat) : Int) = ((ct + 2 : Nat) : Int) := by rw [hct.out]
      rw [hc1] at p1 p2 p3
      rw [hc2] at p2 p5
      rw [← hct.out] at p1 p4 p5 p6 p7
      have HO1 := fun w' => Lib.hid (Tryd.Open_any (ct : Nat) (by omega) w')
      have HO2 := fun w' => Lib.hid (Tryd.Close_any ((ct + 1 : Nat) : Int) (by omega) w')
      have HO3 := fun w' => Lib.hid (Tryd.Good_any ((ct + 1 : Nat) : Int) ((ct + 1 : Nat) : Int) (by omega) w')
      have HO4 := fun w' => Lib.hid (Tryd.Good_any (ct : Nat) (ct : Nat) (by omega) w')
      have HO5 := fun w' => Lib.hid (Tryd.Good_any (ct : Nat) ((ct + 2 : Nat) : Int) (by omega) w')
      rw [p1] at HO1
      rw [p2] at HO2
      rw [p3] at HO3
      rw [p4] at HO4
      rw [p5] at HO5
      obtain ⟨c1, c2⟩ := p6
      obtain ⟨c3, c4⟩ := p7
      have hws := wl_succ k
      have hst2 : (3 * (k : Int) + 1) = (st : Int) ∧ 3 * (k : Int) + 3 = (st : Int) + 2 := by have := hst.out; omega
      rw [hst2.1, hst2.2] at hws
      have hpv : pVals (wl (k + 1)) = pVals (wl k) ++ [.int .i64 (st : Int), .int .i64 ((st : Int) + 2)] := by rw [hws, pVals_snoc]
      have HPV := Lib.hid hpv
      have hsb : (st : Int) ≤ 100 := by have := hst.out; omega
      have w1' : IntKind.i64.wrap ((st : Int) + 2) = (st : Int) + 2 := IntWalk.i64_in _ (by omega)
      have w2' : IntKind.i64.wrap ((st : Int) + 3) = (st : Int) + 3 := IntWalk.i64_in _ (by omega)
      have HCT := hct
      have HST := hst
      have HO := Lib.hid hO
      have HB := Lib.hid hB
      have hki : (k : Int) < (M : Int) := by omega
      have hBn : Below wr.heap.size wr (wr.alloc (.cells #[.int .i64 (st : Int), .int .i64 ((st : Int) + 2)] 39)) := Rows8.newB
      have HBn := Lib.hid hBn
      have hsz := HB.out.size
      have HCN := Lib.hid (cells_new wr 39 [.int .i64 (st : Int), .int .i64 ((st : Int) + 2)])
      clear hct hst hc1 hc2 p1 p2 p3 p4 p5 hws hst2 hpv hO hB hBn hlt
      go_wp2_with fail
      refine (HO1 _).out.mono ?_
      rintro e w' ⟨rfl, rfl⟩
      go_wp2_with fail
      refine (HO2 _).out.mono ?_
      rintro e w' ⟨rfl, rfl⟩
      go_wp2_with fail
      refine (HO3 _).out.mono ?_
      rintro e w' ⟨rfl, rfl⟩
      go_wp2_with fail
      refine (HO4 _).out.mono ?_
      rintro e w' ⟨rfl, rfl⟩
      go_wp2_with fail
      refine (HO5 _).out.mono ?_
      rintro e w' ⟨rfl, rfl⟩
      go_wp2_with (at_builtin; refine wpList_append_own _ rfl _ _ 23 rfl W0.heap.size 39 i0 (.agg #[.int .i64 0, .int .i64 0]) 2 16 Tryd.underlying23 hi hz0 hz1 hz2 rfl (by decide) _ _ _ rfl (HO.out.alloc _) ⟨wr.heap.size, 0, none⟩ 1 1 [.int .i64 (st : Int), .int .i64 ((st : Int) + 2)] rfl rfl HCN.out (by simp [Value.oneCell']) (by unfold maxLen; omega) (by omega) (by simp; omega) ?_; intro v' w3 hown' hgrow _)
      have hB3 := (HB.out.alloc HB.out.size (.cells #[.int .i64 (st : Int), .int .i64 ((st : Int) + 2)] 39)).grown hgrow (by simp; omega) (fun j ej => (World.ownsRow.lt (HO.out.alloc (.cells #[.int .i64 (st : Int), .int .i64 ((st : Int) + 2)] 39)) j ej).1)
      rw [← HPV.out] at hown'
      obtain ⟨g', cap', rfl⟩ := ownsRow_succ hown'
      have hat : PAt w3 (.slice (some ⟨g', 0, none⟩) (k + 1) cap') (wl (k + 1)) := by
        have h := rowAt_own hown'
        unfold PAt
        rw [wl_len]
        exact h
      have HO3' := Lib.hid hown'
      have HB3 := Lib.hid hB3
      have HA := Lib.hid hat
      have HC1 := Lib.hid (Tryd.Count_any (st : Nat) (some ⟨g', 0, none⟩) (k + 1) cap' (wl (k + 1)) w3 hat)
      have HC2 := fun w' (hB : Below w3.heap.size w3 w') => Lib.hid (Tryd.Count_any ((st : Nat) + 2) (some ⟨g', 0, none⟩) (k + 1) cap' (wl (k + 1)) w' (HA.out.below hB))
      rw [c1, c2] at HC1
      rw [c3, c4] at HC2
      clear hown' hB3 hat c1 c2 c3 c4 hgrow HCN
      go_wp2_with fail
      refine HC1.out.mono ?_
      rintro e w4 ⟨rfl, hB4⟩
      have HO4' := Lib.hid (owns_keep HO3'.out hB4 (Nat.le_refl _))
      have HB4 := Lib.hid hB4
      clear hB4
      go_wp2_with fail
      refine (HC2 w4 HB4.out).out.mono ?_
      rintro e w5 ⟨rfl, hB5⟩
      have HO5' := Lib.hid (owns_keep HO4'.out hB5 (Nat.le_refl _))
      have HB5 := Lib.hid (HB3.out.trans ((HB4.out.trans (hB5.mono HB4.out.size)).mono HB3.out.size))
      clear hB5
      go_wp2_with fail
      exact ⟨⟨k + 1, ct + 2, st + 3, by omega, by go_num, by go_num, by go_num, Lib.hid (by have := HCT.out; omega), Lib.hid (by have := HST.out; omega), HO5'.out, HB5.out⟩, by simp [intOf]; omega⟩
    · obtain rfl : k = M := by omega
      rename_i hlt'
      obtain ⟨M, hMM⟩ : ∃ M, M = k := ⟨_, rfl⟩
      subst hMM
      have HST := hst
      have HO := Lib.hid hO
      have HB := Lib.hid hB
      have hsb : (st : Int) ≤ 100 := by have := HST.out; have := HM.out; omega
      have hsz := HB.out.size
      have hM8 := HM.out
      have hpv : pVals (wl2 M) = pVals (wl M) ++ [.int .i64 (st : Int), .int .i64 0] := by
        unfold wl2
        rw [pVals_snoc, HST.out]
        simp
      have HPV := Lib.hid hpv
      have HLN := Lib.hid (wl2_len M)
      have HCN := Lib.hid (cells_new wr 39 [.int .i64 (st : Int), .int .i64 0])
      clear hst hO hB hpv hct
      have hf0 : w.heap.size < W0.heap.size := HK0.out.lt
      by_cases hf : f < (st : Int)
      · go_wp2_with (at_builtin; refine wpList_append_own _ rfl _ _ 23 rfl W0.heap.size 39 i0 (.agg #[.int .i64 0, .int .i64 0]) 2 16 Tryd.underlying23 hi hz0 hz1 hz2 rfl (by decide) _ _ _ rfl (HO.out.alloc _) ⟨wr.heap.size, 0, none⟩ 1 1 [.int .i64 (st : Int), .int .i64 0] rfl rfl HCN.out (by simp [Value.oneCell']) (by unfold maxLen; omega) (by omega) (by simp; omega) ?_; intro v' w3 hown' hgrow _; obtain ⟨g', cap', rfl⟩ := ownsRow_succ hown'; have hB3 := (HB.out.alloc HB.out.size (.cells #[.int .i64 (st : Int), .int .i64 0] 39)).grown hgrow (by simp; omega) (fun j ej => (World.ownsRow.lt (HO.out.alloc (.cells #[.int .i64 (st : Int), .int .i64 0] 39)) j ej).1); have hk3 := HK0.out.below hB3 HK0.out.lt; have k30 := hk3.cell 0; have k31 := hk3.cell 1; have f30 := hk3.frozen 0; simp at k30 k31)
        have hgl := (World.ownsRow.lt hown' g' rfl).1
        rw [← HPV.out] at hown'
        have ho5 : (w3.setCell ⟨w.heap.size, 0, none⟩ (.int .i64 (st : Int))).ownsRow W0.heap.size 39 2 (.slice (some ⟨g', 0, none⟩) (M + 1) cap') (M + 1) (pVals (wl2 M)) := World.ownsRow.kept hown' (grownBy_setCell' _ _ _) (.inr (by simp [Value.ownBlock]; omega))
        have HB5 := Lib.hid ((HB0.out.trans (hB3.mono HB0.out.size)).setCell (p := ⟨w.heap.size, 0, none⟩) (Nat.le_refl _) (.int .i64 (st : Int)))
        clear hown' hB3 hk3 k30 k31 f30 hgrow
        have hz5 : (w3.setCell ⟨w.heap.size, 0, none⟩ (.int .i64 (st : Int))).heap.size = w3.heap.size := by simp [World.setCell]
        generalize w3.setCell ⟨w.heap.size, 0, none⟩ (.int .i64 (st : Int)) = w5 at *
        rw [← hz5]
        clear hz5
        have HF := Lib.hid (show (st : Int) ≤ (st : Int) by omega)
        have HP5 := Lib.hid (show PAt w5 (.slice (some ⟨g', 0, none⟩) (M + 1) cap') (wl2 M) by
          have h := rowAt_own ho5
          unfold PAt
          rw [wl2_len]
          exact h)
        clear ho5 hgl
        have hb6 := Rows8.new w5 44 #[.int .i64 (st : Int), .int .i64 g]
        have hB6 : Below w5.heap.size w5 (w5.alloc (.cells #[.int .i64 (st : Int), .int .i64 g] 44)) := Rows8.newB
        have HR := Lib.hid (Tryd.Reads_any (some ⟨g', 0, none⟩) (M + 1) cap' (wl2 M) (by omega) (some ⟨w5.heap.size, 0, none⟩) 1 1 [((st : Int), g)] (by simp) _ (HP5.out.below hB6) (pAt_lit hb6 [((st : Int), g)] rfl (by simp)))
        have HP6 := Lib.hid (HP5.out.below hB6)
        have HB6 := Lib.hid (HB5.out.trans (hB6.mono HB5.out.size))
        clear hb6 hB6
        generalize w5.alloc (.cells #[.int .i64 (st : Int), .int .i64 g] 44) = w6 at *
        have hE : readsE (wl2 M) [((st : Int), g)] = if lookB (st : Int) g = true then 0 else 2 := by
          unfold readsE allLook
          rw [wl2_right M HM.out]
          simp
        refine HR.out.mono ?_
        rintro e w7 ⟨y, cy, rfl, hY, hB⟩
        have HB7 := Lib.hid (HB6.out.trans (hB.mono HB6.out.size))
        have HN := Lib.hid (Tryd.Next_any (st : Nat) (some ⟨g', 0, none⟩) (M + 1) cap' (wl2 M) w7 (HP6.out.below hB))
        have hnE : nextE (wl2 M) (st : Nat) = 4 := by rw [HST.out]; exact (wl2_next M HM.out).1
        have hnR : nextR (wl2 M) (st : Nat) = 0 := by rw [HST.out]; exact (wl2_next M HM.out).2
        rw [hnE, hnR] at HN
        clear hB hnE hnR HR
        by_cases hlk : lookB (st : Int) g = true
        · rw [if_pos hlk] at hE
          rw [readsR_ok hE] at hY ⊢
          rw [hE]
          have hcl : clrL (wl2 M) [((st : Int), g)] = [false] := by
            have : clearB (wl2 M) (st : Int) g = false := wl2_clear M (st : Int) g (by have := HF.out; have := HST.out; omega) (by simp [lookB] at hlk; omega)
            simp [clrL, this]
          rw [hcl] at hY ⊢
          have HY := Lib.hid hY
          simp only [List.length_cons, List.length_nil, Nat.zero_add]
          clear hE hcl hlk hY
          go_wp2_with fail
          refine HN.out.mono ?_
          rintro e w8 ⟨rfl, hB⟩
          obtain ⟨yb, yo, rfl, hyb, hyc⟩ := bAt_get (RowAt.below HY.out hB) 0 (by simp)
          simp at hyc
          have HB8 := Lib.hid (HB7.out.trans (hB.mono HB7.out.size))
          clear hB
          go_wp2_with fail
          go_ret
          exact ⟨rfl, HB8.out⟩
        · rw [if_neg hlk] at hE
          rw [readsR_err (by rw [hE]; decide)] at hY ⊢
          rw [hE]
          simp only [List.length_nil]
          clear hE hlk hY
          go_wp2_with fail
          refine HN.out.mono ?_
          rintro e w8 ⟨rfl, hB⟩
          have HB8 := Lib.hid (HB7.out.trans (hB.mono HB7.out.size))
          clear hB
          go_wp2_with fail
          go_ret
          exact ⟨rfl, HB8.out⟩
      · go_wp2_with (at_builtin; refine wpList_append_own _ rfl _ _ 23 rfl W0.heap.size 39 i0 (.agg #[.int .i64 0, .int .i64 0]) 2 16 Tryd.underlying23 hi hz0 hz1 hz2 rfl (by decide) _ _ _ rfl (HO.out.alloc _) ⟨wr.heap.size, 0, none⟩ 1 1 [.int .i64 (st : Int), .int .i64 0] rfl rfl HCN.out (by simp [Value.oneCell']) (by unfold maxLen; omega) (by omega) (by simp; omega) ?_; intro v' w5 hown' hgrow _; obtain ⟨g', cap', rfl⟩ := ownsRow_succ hown'; have hB3 := (HB.out.alloc HB.out.size (.cells #[.int .i64 (st : Int), .int .i64 0] 39)).grown hgrow (by simp; omega) (fun j ej => (World.ownsRow.lt (HO.out.alloc (.cells #[.int .i64 (st : Int), .int .i64 0] 39)) j ej).1); have hk3 := HK0.out.below hB3 HK0.out.lt; have k30 := hk3.cell 0; have k31 := hk3.cell 1; have f30 := hk3.frozen 0; simp at k30 k31)
        rw [← HPV.out] at hown'
        have HB5 := Lib.hid (HB0.out.trans (hB3.mono HB0.out.size))
        have HF := Lib.hid (show (st : Int) ≤ f by omega)
        have HP5 := Lib.hid (show PAt w5 (.slice (some ⟨g', 0, none⟩) (M + 1) cap') (wl2 M) by
          have h := rowAt_own hown'
          unfold PAt
          rw [wl2_len]
          exact h)
        clear hown' hB3 hk3 k30 k31 f30 hgrow
        have hb6 := Rows8.new w5 44 #[.int .i64 f, .int .i64 g]
        have hB6 : Below w5.heap.size w5 (w5.alloc (.cells #[.int .i64 f, .int .i64 g] 44)) := Rows8.newB
        have HR := Lib.hid (Tryd.Reads_any (some ⟨g', 0, none⟩) (M + 1) cap' (wl2 M) (by omega) (some ⟨w5.heap.size, 0, none⟩) 1 1 [(f, g)] (by simp) _ (HP5.out.below hB6) (pAt_lit hb6 [(f, g)] rfl (by simp)))
        have HP6 := Lib.hid (HP5.out.below hB6)
        have HB6 := Lib.hid (HB5.out.trans (hB6.mono HB5.out.size))
        clear hb6 hB6
        generalize w5.alloc (.cells #[.int .i64 f, .int .i64 g] 44) = w6 at *
        have hE : readsE (wl2 M) [(f, g)] = if lookB f g = true then 0 else 2 := by
          unfold readsE allLook
          rw [wl2_right M HM.out]
          simp
        refine HR.out.mono ?_
        rintro e w7 ⟨y, cy, rfl, hY, hB⟩
        have HB7 := Lib.hid (HB6.out.trans (hB.mono HB6.out.size))
        have HN := Lib.hid (Tryd.Next_any (st : Nat) (some ⟨g', 0, none⟩) (M + 1) cap' (wl2 M) w7 (HP6.out.below hB))
        have hnE : nextE (wl2 M) (st : Nat) = 4 := by rw [HST.out]; exact (wl2_next M HM.out).1
        have hnR : nextR (wl2 M) (st : Nat) = 0 := by rw [HST.out]; exact (wl2_next M HM.out).2
        rw [hnE, hnR] at HN
        clear hB hnE hnR HR
        by_cases hlk : lookB f g = true
        · rw [if_pos hlk] at hE
          rw [readsR_ok hE] at hY ⊢
          rw [hE]
          have hcl : clrL (wl2 M) [(f, g)] = [false] := by
            have : clearB (wl2 M) f g = false := wl2_clear M f g (by have := HF.out; have := HST.out; omega) (by simp [lookB] at hlk; omega)
            simp [clrL, this]
          rw [hcl] at hY ⊢
          have HY := Lib.hid hY
          simp only [List.length_cons, List.length_nil, Nat.zero_add]
          clear hE hcl hlk hY
          go_wp2_with fail
          refine HN.out.mono ?_
          rintro e w8 ⟨rfl, hB⟩
          obtain ⟨yb, yo, rfl, hyb, hyc⟩ := bAt_get (RowAt.below HY.out hB) 0 (by simp)
          simp at hyc
          have HB8 := Lib.hid (HB7.out.trans (hB.mono HB7.out.size))
          clear hB
          go_wp2_with fail
          go_ret
          exact ⟨rfl, HB8.out⟩
        · rw [if_neg hlk] at hE
          rw [readsR_err (by rw [hE]; decide)] at hY ⊢
          rw [hE]
          simp only [List.length_nil]
          clear hE hlk hY
          go_wp2_with fail
          refine HN.out.mono ?_
          rintro e w8 ⟨rfl, hB⟩
          have HB8 := Lib.hid (HB7.out.trans (hB.mono HB7.out.size))
          clear hB
          go_wp2_with fail
          go_ret
          exact ⟨rfl, HB8.out⟩
theorem own : ownKnob Tryd.prog.godebug = none := by kernel_rfl
theorem laidOut : laidOutB Tryd.prog = true := by kernel_rfl
set_option maxRecDepth 100000 in
theorem lifted (os : Os) (started : os.Started) (H : Type) (enc : TypeId × Value → H) :
    ReturnsInHanded {} Tryd.checked os 7 .any (fun w args => (Rows.guardWritesSpec.pre enc Tryd.prog Tryd.f7 [] false w args ∧ laidMetH Tryd.prog [("honeycomb/honeycomblaw06.two", Rows.laid_honeycomb_honeycomblaw06_two)] w) ∧ sizedMet enc Tryd.prog Tryd.f7 (OpenSpec.ofChange Rows.guardWritesSpec) false w args)
      (Rows.guardWritesSpec.post enc Tryd.prog Tryd.f7 false true false false) := by
  refine returnsInHanded_of_change_and (C := Tryd.checked) (X := fun w _ => laidMetH Tryd.prog [("honeycomb/honeycomblaw06.two", Rows.laid_honeycomb_honeycomblaw06_two)] w) (fun _ _ _ hh h => h.of_heap hh) own started (by kernel_rfl) Tryd.func7
    (ChangeSpec.witness_shaped (enc := enc) (C := Tryd.checked) (os := os) (X := fun w _ => laidMetH Tryd.prog [("honeycomb/honeycomblaw06.two", Rows.laid_honeycomb_honeycomblaw06_two)] w) false (World.laidAll Tryd.prog os [("honeycomb/honeycomblaw06.two", Rows.laid_honeycomb_honeycomblaw06_two)]) #[.int .i64 0, .agg #[.int .i64 0, .int .i64 0]] 8 (World.laidAll_os _ _ _)
      (World.shaped_of_ZipB (by kernel_rfl) (by kernel_rfl)) (by kernel_rfl) (by kernel_rfl) (by kernel_rfl)
      (by rw [MakeChecks.laidMetH_plain _ _ _ (by kernel_rfl)]; exact laidMet_laidAll _ (by kernel_rfl) (by kernel_rfl))) ?_
  intro W base args ds gs before hval0 hW _ _ hL _
  have hval : ∀ (j : Nat) t v, Tryd.f7.params[j]? = some t → args[j]? = some v → Value.okWide Tryd.prog W .any base t v := hval0
  have hW' := hW
  obtain ⟨p, q, hA0, hV, rfl, _, _⟩ := hW
  have hA : DataW.TrodAll enc Tryd.prog W 0 (fun _ => true) true Tryd.f7.params.toList args.toList ds p := hA0
  rw [Tryd.params7] at hA hval
  have hT := of_laid hL
  obtain ⟨v0, vs0, d0, ds0, p0, q0, hargs, rfl, rfl, h0, r0⟩ := trodAll_cons hA
  obtain ⟨v1, vs1, d1, ds1, p1, q1, rfl, rfl, rfl, h1, r1⟩ := trodAll_cons r0
  obtain ⟨rfl, rfl, rfl⟩ := trodAll_nil r1
  obtain rfl : args = #[v0, v1] := by cases args; simp_all
  obtain ⟨rfl, rfl⟩ := trodVars_none hV
  obtain ⟨a0, rfl, rfl, rfl, w0⟩ := open_int Tryd.underlying3 (hval 0 3 v0 rfl rfl) h0
  have k1 := h1
  have lt1 : ∀ x ∈ p1, x.block < W.heap.size := by obtain ⟨m, hm⟩ := k1; exact DataW.trod_lt m _ _ _ hm
  obtain ⟨a1, b1, rfl, w1, u1⟩ := open_look (hval 1 44 v1 rfl rfl) h1
  clear hA0 hval0
  refine (walk a0 a1 b1 W hT w0 w1 u1).mono fun e W' ⟨he, bel⟩ => ?_
  subst he
  exact ⟨_, rfl, _, _, _, [], _, [], hW', trodAll_mk1 (shut_bool Tryd.underlying4 _), (trodAll_cons_mk (shut_int Tryd.underlying3 w0) (trodAll_cons_mk (Below.trod laidOut (by kernel_rfl) (of_decide_eq_true (by kernel_rfl)) k1 bel lt1) trodAll_mk0)), rfl, bel.frame _, fun h => by cases h⟩
theorem said : Rows.GuardWritesSaid :=
  OpenClaim.holds_of_wide 7 Tryd.f7 rfl rfl rfl rfl rfl rfl rfl ⟨rfl, rfl, rfl, rfl, rfl⟩ rfl rfl rfl rfl rfl (by kernel_rfl) Tryd.func7 (by kernel_rfl)
    (of_decide_eq_true (by kernel_rfl)) (by unfold Func.isWrapper; first | (rw [if_pos (by decide +kernel)]; kernel_rfl) | (rw [if_neg (by decide +kernel)]; exact ⟨rfl, rfl⟩))
    (fun os started H enc _ => lifted os started H enc)
theorem proved : Rows.GuardWritesCardSaid :=
  Claim7.holds_tied_plain_at .later [] [.widerDeep] true _ false said (fun _ h => by cases h) (by kernel_rfl) (fun _ h => by cases h) guardWrites_row_tie rfl ⟨rfl, rfl⟩ (by kernel_rfl) rfl
    (fun f fn hf hfn => by
      obtain rfl : f = 7 := Option.some.inj ((show Tryd.prog.funcNamed "honeycomb/honeycomblaw06.GuardWrites" = some 7 by kernel_rfl).symm.trans hf) |>.symm
      obtain rfl : fn = Tryd.f7 := (Option.some.inj (Tryd.func7.symm.trans hfn)).symm
      exact ⟨by kernel_rfl, fun j t ht => by
        rw [Tryd.params7] at ht
        have hm : t ∈ [3, 44] := by simpa using Array.mem_of_getElem? ht
        have hall : ([3, 44].all fun u => !Tryd.prog.wantsStandIn u) = true := by kernel_rfl
        exact (show Tryd.prog.wantsStandIn t = false by simpa using List.all_eq_true.1 hall t hm)⟩)
    (by kernel_rfl)
end Go.Proofs.YtbipekpohocjdaaDoor.guardWrites
