/- Proved: for every number of goroutines and every row of rows, honeycomblaw04.PicksLongest returns true, and its arguments read as they did; no condition. -/
import Derived.Test.YtmkpjpdjjdmklaaKx
import Derived.BigQuiet
import Derived.ChangeAt
import Derived.JoinedAt
import Derived.ProofKit
import Derived.OpenShut
import Derived.Test.YtmkpjpdjjdmklaaRows
namespace Go.Proofs.Ytmkpjpdjjdmklaa.picksLongest
open Go.ChangeShapes Go.WideShapes Go.ChangeAt Go.RowKit Go.Shelf
attribute [local go_sem] Oper.semAt_some

theorem own : ownKnob Try.prog.godebug = none := by kernel_rfl
theorem u_nonneg (a : Int) : 0 ≤ IntKind.u64.wrap a := by
  unfold IntKind.wrap
  simp [IntKind.bits, IntKind.signed]
  try omega
theorem u_mod (a : Int) (L : Nat) (h : 1 ≤ L) (h2 : L ≤ 1000) : ∃ j : Nat, j < L ∧ wrap64 ((IntKind.u64.wrap a).tmod (L : Int)) = (j : Int) := by
  have h0 := u_nonneg a
  generalize IntKind.u64.wrap a = b at *
  rw [Int.tmod_eq_emod_of_nonneg h0]
  have h3 := Int.emod_nonneg b (show (L : Int) ≠ 0 by omega)
  have h4 := Int.emod_lt_of_pos b (show 0 < (L : Int) by omega)
  generalize b % (L : Int) = r at *
  refine ⟨r.toNat, by omega, ?_⟩
  unfold wrap64
  omega
theorem form {n₀ : Nat} {ts : List Tn} {v : Value} {W : World} (h : OwnsT n₀ ts v W) : ∃ a c, v = .slice a ts.length c := by
  obtain ⟨_, ⟨_, a, c, e, _⟩, _⟩ := h.at
  exact ⟨a, c, e⟩
theorem canL_step (row : List Int) (g : Nat) : ((g : Int) ∈ row ∨ row.length = 0 → canL row (g + 1) = canL row g ++ [(g : Int)]) ∧ (¬ (g : Int) ∈ row → ¬ row.length = 0 → canL row (g + 1) = canL row g) := by
  have he : row.isEmpty = decide (row.length = 0) := by cases row <;> simp
  rw [canL_succ, he]
  constructor
  · rintro (h | h)
    · rw [if_pos (by rw [decide_eq_true h]; rfl)]
    · rw [if_pos (by rw [decide_eq_true h, Bool.or_true])]
  · intro h1 h2
    rw [if_neg (by rw [decide_eq_false h1, decide_eq_false h2]; decide)]

set_option maxRecDepth 100000 in
set_option maxHeartbeats 2000000 in
theorem walk (N : Int) (ar : Option Addr) (nr cr : Nat) (ls : List (List Int)) (W : World) (_ : (Lit.int .i64 N).wf = true) (hnr : nr = ls.length) (hR : RowsAt W (.slice ar nr cr) ls) :
    Calls Try.prog 6 #[.int .i64 N, .slice ar nr cr] W fun e w' => e = .returned (.bool true) ∧ Below W.heap.size W w' := by
  obtain ⟨i0, hi0, hz0, hz1, hz2⟩ := info_parts Try.infoInt
  obtain ⟨it, hit, ht0, ht1, ht2⟩ := info_parts Try.infoTurn
  obtain ⟨j, hj, ej⟩ := u_mod N 8 (by omega) (by omega)
  have ej' : wrap64 ((IntKind.u64.wrap N).tmod 8) = (j : Int) := by simpa using ej
  obtain ⟨q, hq⟩ : ∃ q : Nat, q = 1 + j := ⟨_, rfl⟩
  have eq1 : 1 + (j : Int) = (q : Int) := by omega
  have hq1 : 1 ≤ q := by omega
  have hq8 : q ≤ 8 := by omega
  have HRW := Lib.hid hR
  have HNR := Lib.hid hnr
  clear ej hq hR hnr
  have HNX := Lib.hid (fun (ts : List Tn) (h : ts.length ≤ 1000) (can : List Int) (a : Option Addr) (c : Nat) (a2 : Option Addr) (c2 : Nat) W h1 h2 => Try.Next_any q a ts.length c ts h a2 can.length c2 can rfl W h1 h2)
  go_enter Try.func6, Try.ntmps6
  go_wp2_with fail
  refine (Try.wakes_any _).mono ?_
  rintro e w1 ⟨rfl, hB1⟩
  have HB1 := Lib.hid hB1
  clear hB1
  go_wp2_with fail
  clear ej' eq1
  go_loopw [5, 21] (fun lv iv wr => ∃ i : Nat, i ≤ nr ∧ i ≤ 30 ∧ iv = .int .i64 i ∧ ∃ ts : List Tn, ts.length ≤ i ∧ rightB q ts = true ∧ Inv q ts ∧ OwnsT W.heap.size ts lv wr ∧ Below W.heap.size W wr) (fun _ j _ => nr - (intOf j).toNat)
  case atStart => exact ⟨0, Nat.zero_le _, Nat.zero_le _, rfl, [], Nat.le_refl _, (by unfold rightB; rw [Bool.and_eq_true]; exact ⟨by simp; omega, rfl⟩), inv_nil q, ownsT_nil _ _, HB1.out⟩
  case round =>
    obtain ⟨i, hi, hi30, rfl, ts, htl, hr, hV, hO, hB⟩ := hrel
    by_cases hlt : i < nr
    · have hii : (i : Int) < (nr : Int) := by omega
      obtain ⟨b, off, ax, cx, rfl, hb, hc, hin⟩ := rowsAt_get (RowsAt.below HRW.out hB) i (by rw [← HNR.out]; exact hlt)
      generalize ls[i]'(by rw [← HNR.out]; exact hlt) = row at *
      obtain ⟨rl, hrl⟩ : ∃ rl, rl = row.length := ⟨_, rfl⟩
      rw [← hrl] at hc hin
      have HRL := Lib.hid hrl
      clear hrl
      by_cases h30 : i = 30
      · subst h30
        clear hin
        have hlast := inv_least hV hq1
        have hnil := hungry_none hlast
        have HT := Lib.hid (OwnsT.at hO)
        have HB := Lib.hid hB
        obtain ⟨a1, c1, rfl⟩ := form hO
        have hlen : ts.length ≤ 1000 := by omega
        have HCK := Lib.hid (fun a c W h1 => Try.Check_any q a ts.length c ts W h1)
        have HLE := Lib.hid (fun a c W h1 => Try.Least_any q a ts.length c ts hlen W h1)
        have HHU := Lib.hid (fun a c W h1 => Try.Hungry_any q q a ts.length c ts W h1)
        rw [show checkB q ts = 0 by unfold checkB; rw [if_pos hr]] at HCK
        rw [show leastR q ts = (leastB q ts : Nat) by unfold leastR; rw [if_pos hr]; rfl] at HLE
        rw [show hungryR q ts q = [] by unfold hungryR; rw [if_pos hr, show ((q : Int)).toNat = q from rfl, hnil]] at HHU
        have hlw : (leastB q ts : Int) ≤ (q : Int) := by omega
        clear hO hB hV hr hnil hlast
        generalize leastB q ts = lw at *
        go_wp2_with fail
        refine (HCK.out a1 c1 wr HT.out).mono ?_
        rintro e w2 ⟨rfl, hB2⟩
        have HT2 := Lib.hid (HT.out.below hB2)
        have HB2 := Lib.hid (HB.out.trans (hB2.mono HB.out.size))
        clear hB2 HT HB
        go_wp2_with fail
        refine (HHU.out a1 c1 w2 HT2.out).mono ?_
        rintro e w3 ⟨a3, c3, rfl, _, hB3⟩
        rw [show ([] : List Int).length = 0 from rfl]
        have HT3 := Lib.hid (HT2.out.below hB3)
        have HB3 := Lib.hid (HB2.out.trans (hB3.mono HB2.out.size))
        clear hB3 HT2 HB2
        go_wp2_with fail
        refine (HLE.out a1 c1 w3 HT3.out).mono ?_
        rintro e w4 ⟨rfl, hB4⟩
        have HB4 := Lib.hid (HB3.out.trans (hB4.mono HB3.out.size))
        clear hB4 HT3 HB3
        go_wp2_with fail
        go_ret
        exact ⟨rfl, HB4.out⟩
      · have hine : ¬ (i : Int) = 30 := by omega
        have hib : ((i : Int) == 30) = false := by rw [beq_eq_false_iff_ne]; exact hine
        have hi30' : i < 30 := by omega
        have HO := Lib.hid hO
        have HB := Lib.hid hB
        have HROW := Lib.hid hin
        have HV := Lib.hid hV
        have HR := Lib.hid hr
        clear hO hB hin hV hr
        rename World => w0
        go_wp2_with fail
        go_loopw [8, 29] (fun cv gv wr => ∃ g : Nat, g ≤ q ∧ gv = .int .i64 g ∧ OwnsInts w0.heap.size (canL row g) cv wr ∧ Below w0.heap.size w0 wr) (fun _ j _ => q - (intOf j).toNat)
        case atStart => exact ⟨0, Nat.zero_le _, rfl, World.ownsRow_nil _ _ _ _, Below.refl _ _⟩
        case round =>
          obtain ⟨g, hg, rfl, hC, hBi⟩ := hrel
          by_cases hgq : g < q
          · have hgi : (g : Int) < (q : Int) := by omega
            have hst := canL_step row g
            rw [← HRL.out] at hst
            have hcl := canL_length row g
            have hct := Try.contains_any ax rl cx row HRL.out g _ (RowAt.below HROW.out hBi)
            have HC := Lib.hid hC
            have HBI := Lib.hid hBi
            have HST := Lib.hid hst
            clear hC hBi hst
            by_cases hm : (g : Int) ∈ row
            · rw [decide_eq_true hm] at hct
              have HSN := Lib.hid (HST.out.1 (.inl hm))
              have HCT := Lib.hid hct
              clear hct hm HST
              generalize canL row g = can at *
              go_wp2_with fail
              refine HCT.out.mono ?_
              rintro e w' ⟨rfl, rfl⟩
              have hz := HBI.out.size
              go_wp2_with (at_builtin; refine wpList_append_own _ rfl _ _ 22 rfl w0.heap.size 3 i0 (.int .i64 0) 1 8 Try.underlying22 hi0 hz0 hz1 hz2 rfl (by decide) _ _ _ rfl (World.ownsRow.alloc HC.out _) ⟨wr.heap.size, 0, none⟩ 1 1 [.int .i64 g] rfl rfl (cells_new wr _ [.int .i64 g]) (by simp [Value.oneCell']) (by unfold maxLen; omega) (by omega) (by simp; omega) ?_)
              intro v' w2 hown' hgrow _
              have hoa := World.ownsRow.alloc HC.out (.cells #[.int .i64 (g : Int)] 3)
              have hB2 := (HBI.out.alloc hz (.cells #[.int .i64 (g : Int)] 3)).grown hgrow (by simp; omega) (fun j ej => (World.ownsRow.lt hoa j ej).1)
              have hO2 : OwnsInts w0.heap.size (canL row (g + 1)) v' w2 := by
                rw [HSN.out]
                unfold OwnsInts
                rw [intVals_snoc, List.length_append]
                exact hown'
              have HO2 := Lib.hid hO2
              have HB2 := Lib.hid hB2
              clear hown' hgrow hoa hO2 hB2 hz
              go_wp2_with fail
              exact ⟨⟨g + 1, by omega, by go_num, HO2.out, HB2.out⟩, by simp [intOf]; omega⟩
            · rw [decide_eq_false hm] at hct
              by_cases he : rl = 0
              · have HSN := Lib.hid (HST.out.1 (.inr he))
                have HCT := Lib.hid hct
                clear hct hm HST
                subst he
                generalize canL row g = can at *
                go_wp2_with fail
                refine HCT.out.mono ?_
                rintro e w' ⟨rfl, rfl⟩
                have hz := HBI.out.size
                go_wp2_with (at_builtin; refine wpList_append_own _ rfl _ _ 22 rfl w0.heap.size 3 i0 (.int .i64 0) 1 8 Try.underlying22 hi0 hz0 hz1 hz2 rfl (by decide) _ _ _ rfl (World.ownsRow.alloc HC.out _) ⟨wr.heap.size, 0, none⟩ 1 1 [.int .i64 g] rfl rfl (cells_new wr _ [.int .i64 g]) (by simp [Value.oneCell']) (by unfold maxLen; omega) (by omega) (by simp; omega) ?_)
                intro v' w2 hown' hgrow _
                have hoa := World.ownsRow.alloc HC.out (.cells #[.int .i64 (g : Int)] 3)
                have hB2 := (HBI.out.alloc hz (.cells #[.int .i64 (g : Int)] 3)).grown hgrow (by simp; omega) (fun j ej => (World.ownsRow.lt hoa j ej).1)
                have hO2 : OwnsInts w0.heap.size (canL row (g + 1)) v' w2 := by
                  rw [HSN.out]
                  unfold OwnsInts
                  rw [intVals_snoc, List.length_append]
                  exact hown'
                have HO2 := Lib.hid hO2
                have HB2 := Lib.hid hB2
                clear hown' hgrow hoa hO2 hB2 hz
                go_wp2_with fail
                exact ⟨⟨g + 1, by omega, by go_num, HO2.out, HB2.out⟩, by simp [intOf]; omega⟩
              · have HSN := Lib.hid (HST.out.2 hm he)
                have HCT := Lib.hid hct
                have hei : ((rl : Int) == 0) = false := by rw [beq_eq_false_iff_ne]; omega
                have hei2 : ¬ (rl : Int) = 0 := by omega
                clear hct hm HST
                go_wp2_with fail
                refine HCT.out.mono ?_
                rintro e w' ⟨rfl, rfl⟩
                go_wp2_with fail
                exact ⟨⟨g + 1, by omega, by go_num, by rw [HSN.out]; exact HC.out, HBI.out⟩, by simp [intOf]; omega⟩
          · obtain rfl : g = q := by omega
            have hcq := canL_length row g
            have hcan := canL_can row g
            have hO1 := OwnsT.keep HO.out hBi (Nat.le_refl _)
            have hB1 := HB.out.trans (hBi.mono HB.out.size)
            have hC1 : OwnsInts W.heap.size (canL row g) _ _ := owns_mono hC HB.out.size
            clear hC hBi HO HB
            generalize canL row g = can at *
            obtain ⟨_, a2, c2, rfl, _⟩ := rowAt_own hC1
            have HC := Lib.hid hC1
            have HO := Lib.hid hO1
            have HB := Lib.hid hB1
            clear hC1 hO1 hB1
            by_cases hz : can.length = 0
            · have hzi : ((can.length : Int) == 0) = true := by rw [hz]; rfl
              have hzi2 : (can.length : Int) = 0 := by omega
              clear hcan
              go_wp2_with fail
              exact ⟨⟨i + 1, by omega, by omega, by go_num, ts, by omega, HR.out, HV.out, HO.out, HB.out⟩, by simp [intOf]; omega⟩
            · have hzi : ((can.length : Int) == 0) = false := by rw [beq_eq_false_iff_ne]; omega
              have hzi2 : ¬ (can.length : Int) = 0 := by omega
              have hcb := hcan (by omega)
              obtain ⟨at1, ct1, rfl⟩ := form HO.out
              have hnx := HNX.out ts (by omega) can at1 ct1 a2 c2 _ HO.out.at (rowAt_own HC.out)
              rw [show nextR g ts can = (mostB (fun g => waitB g ts) can, 0) by unfold nextR; rw [if_pos HR.out, if_pos hcb]] at hnx
              have HMEM := Lib.hid (mostB_mem (fun g => waitB g ts) can (by omega))
              have hsn := inv_snoc HV.out hcb
              have HRN := Lib.hid (rightB_snoc HR.out hcb HMEM.out)
              have HVN := Lib.hid hsn
              have HNXT := Lib.hid hnx
              clear hnx hsn hcan hcb HV HR
              generalize mostB (fun g => waitB g ts) can = ch at *
              go_wp2_with fail
              refine HNXT.out.mono ?_
              rintro e w5 ⟨rfl, hB5⟩
              have HC5 := Lib.hid (owns_keep HC.out hB5 (Nat.le_refl _))
              have HO5 := Lib.hid (OwnsT.keep HO.out hB5 (Nat.le_refl _))
              have HB5 := Lib.hid (HB.out.trans (hB5.mono HB.out.size))
              have hct := Try.contains_any a2 can.length c2 can rfl ch w5 (rowAt_own HC5.out)
              rw [decide_eq_true HMEM.out] at hct
              have HCT := Lib.hid hct
              clear hct hB5 HC HO HB HNXT
              go_wp2_with fail
              refine HCT.out.mono ?_
              rintro e w' ⟨rfl, rfl⟩
              have hz5 := HB5.out.size
              obtain ⟨vs, hrow, hrin⟩ := HO5.out
              have hB6 : Below w5.heap.size w5 (w5.alloc (.cells #[.slice a2 can.length c2, .int .i64 ch] 47)) := (Below.refl _ w5).alloc (Nat.le_refl _) _
              have HR6 := Lib.hid (World.ownsRow.alloc hrow (.cells #[.slice a2 can.length c2, .int .i64 ch] 47))
              have HIN6 := Lib.hid (hrin.keep hB6 (Nat.le_refl _))
              have HC6 : Hid (OwnsInts W.heap.size can (.slice a2 can.length c2) _) := Lib.hid (World.ownsRow.alloc HC5.out (.cells #[.slice a2 can.length c2, .int .i64 ch] 47))
              have HB6 := Lib.hid (HB5.out.trans (hB6.mono hz5))
              clear hrow hrin hB6 HC5 HO5 HB5
              go_wp2_with (at_builtin; refine wpList_append_row _ rfl _ _ 32 rfl W.heap.size 47 it (.agg #[.slice none 0 0, .int .i64 0]) 2 32 Try.underlying32 hit ht0 ht1 ht2 rfl (by decide) _ _ _ rfl HR6.out _ 1 [.slice a2 can.length c2, .int .i64 ch] rfl (rowAt_own (own1 (n₀ := 0) (Rows8.new w5 _ _) (Nat.zero_le _) rfl)) (turn_one _ _ _ _) (by unfold maxLen; omega) (by omega) (by simp; omega) ?_)
              intro v' w7 hown' hgrow _
              have hT : OwnsT W.heap.size (ts ++ [⟨can, ch⟩]) v' w7 := ownsT_snoc HR6.out HIN6.out HC6.out hown' hgrow
              have hB7 : Below W.heap.size W w7 := HB6.out.grown hgrow (by simp; omega) (fun j ej => (World.ownsRow.lt HR6.out j ej).1)
              have HT := Lib.hid hT
              have HB7 := Lib.hid hB7
              clear hown' hgrow hT hB7
              go_wp2_with fail
              exact ⟨⟨i + 1, by omega, by omega, by go_num, _, by simp; omega, HRN.out, HVN.out, HT.out, HB7.out⟩, by simp [intOf]; omega⟩
    · obtain rfl : i = nr := by omega
      have hlast := inv_least hV hq1
      have hnil := hungry_none hlast
      have HT := Lib.hid (OwnsT.at hO)
      have HB := Lib.hid hB
      obtain ⟨a1, c1, rfl⟩ := form hO
      have hlen : ts.length ≤ 1000 := by omega
      have HCK := Lib.hid (fun a c W h1 => Try.Check_any q a ts.length c ts W h1)
      have HLE := Lib.hid (fun a c W h1 => Try.Least_any q a ts.length c ts hlen W h1)
      have HHU := Lib.hid (fun a c W h1 => Try.Hungry_any q q a ts.length c ts W h1)
      rw [show checkB q ts = 0 by unfold checkB; rw [if_pos hr]] at HCK
      rw [show leastR q ts = (leastB q ts : Nat) by unfold leastR; rw [if_pos hr]; rfl] at HLE
      rw [show hungryR q ts q = [] by unfold hungryR; rw [if_pos hr, show ((q : Int)).toNat = q from rfl, hnil]] at HHU
      have hlw : (leastB q ts : Int) ≤ (q : Int) := by omega
      clear hO hB hV hr hnil hlast
      generalize leastB q ts = lw at *
      go_wp2_with fail
      refine (HCK.out a1 c1 wr HT.out).mono ?_
      rintro e w2 ⟨rfl, hB2⟩
      have HT2 := Lib.hid (HT.out.below hB2)
      have HB2 := Lib.hid (HB.out.trans (hB2.mono HB.out.size))
      clear hB2 HT HB
      go_wp2_with fail
      refine (HHU.out a1 c1 w2 HT2.out).mono ?_
      rintro e w3 ⟨a3, c3, rfl, _, hB3⟩
      rw [show ([] : List Int).length = 0 from rfl]
      have HT3 := Lib.hid (HT2.out.below hB3)
      have HB3 := Lib.hid (HB2.out.trans (hB3.mono HB2.out.size))
      clear hB3 HT2 HB2
      go_wp2_with fail
      refine (HLE.out a1 c1 w3 HT3.out).mono ?_
      rintro e w4 ⟨rfl, hB4⟩
      have HB4 := Lib.hid (HB3.out.trans (hB4.mono HB3.out.size))
      clear hB4 HT3 HB3
      go_wp2_with fail
      go_ret
      exact ⟨rfl, HB4.out⟩
theorem laidOut : laidOutB Try.prog = true := by kernel_rfl
set_option maxRecDepth 100000 in
theorem lifted (os : Os) (started : os.Started) (H : Type) (enc : TypeId × Value → H) :
    ReturnsInHanded {} Try.checked os 6 .any (Rows.picksLongestSpec.pre6 enc Try.prog Try.f6 Rows.picksLongestRow.domain false) (Rows.picksLongestSpec.post enc Try.prog Try.f6 false true false false) := by
  refine returnsInHanded_of_change (C := Try.checked) own started (by kernel_rfl) Try.func6
    (ChangeSpec.witness6 (enc := enc) (C := Try.checked) false ⟨#[], #[.int .i64 0, .slice none 0 0], []⟩ 8 (by kernel_rfl) (by kernel_rfl) (by kernel_rfl) (by kernel_rfl)) ?_
  intro W base args ds gs before hval0 hW hcnd _
  have hval : ∀ (j : Nat) t v, Try.f6.params[j]? = some t → args[j]? = some v → Value.okWide Try.prog W .any base t v := hval0
  have hW' := hW
  obtain ⟨p, q, hA0, hV, rfl, hfz, hnd⟩ := hW
  have hA : DataW.TrodAll enc Try.prog W 0 (fun _ => true) true Try.f6.params.toList args.toList ds p := hA0
  rw [Try.params6] at hA hval
  obtain ⟨v0, vs0, d0, ds0, p0, q0, hargs, rfl, rfl, h0, r0⟩ := trodAll_cons hA
  obtain ⟨v1, vs1, d1, ds1, p1, q1, rfl, rfl, rfl, h1, r1⟩ := trodAll_cons r0
  obtain ⟨rfl, rfl, rfl⟩ := trodAll_nil r1
  obtain rfl : args = #[v0, v1] := by cases args; simp_all
  obtain ⟨rfl, rfl⟩ := trodVars_none hV
  obtain ⟨a0, rfl, rfl, rfl, w0⟩ := open_int Try.underlying3 (hval 0 3 v0 rfl rfl) h0
  obtain ⟨a1, len1, cap1, rfl⟩ := okWide_slice Try.underlying44 (hval 1 44 v1 rfl rfl)
  have k1 := h1
  have lt1 : ∀ x ∈ p1, x.block < W.heap.size := by obtain ⟨m, hm⟩ := k1; exact DataW.trod_lt m _ _ _ hm
  obtain ⟨z1, n1, w1⟩ : ∃ zs, len1 = zs.length ∧ RowsAt W (.slice a1 len1 cap1) zs := by
    obtain ⟨fuel, hf⟩ := h1
    exact open_rows hf
  clear hA0 hval0
  refine (walk a0 a1 len1 cap1 z1 W w0 n1 w1).mono fun e W' ⟨he, bel⟩ => ?_
  subst he
  exact ⟨_, rfl, _, _, _, [], _, [], hW', trodAll_mk1 (shut_bool Try.underlying4 _), (trodAll_cons_mk (shut_int Try.underlying3 w0) (trodAll_cons_mk (Below.trod laidOut (by kernel_rfl) (of_decide_eq_true (by kernel_rfl)) k1 bel lt1) trodAll_mk0)), rfl, bel.frame _, fun h => by cases h⟩

theorem over : Rows.picksLongestRow.holds Try.pinned (OpenSpec.ofChange Rows.picksLongestSpec) :=
  OpenClaim.holds_of_wide 6 Try.f6 rfl rfl rfl rfl rfl rfl rfl ⟨rfl, rfl, rfl, rfl, rfl⟩ rfl rfl rfl rfl rfl (by kernel_rfl) Try.func6 (by kernel_rfl)
    (of_decide_eq_true (by kernel_rfl)) (by unfold Func.isWrapper; first | (rw [if_pos (by decide +kernel)]; kernel_rfl) | (rw [if_neg (by decide +kernel)]; exact ⟨rfl, rfl⟩))
    (fun os started H enc _ => lifted os started H enc)

theorem proved : Rows.PicksLongestSaid := over
end Go.Proofs.Ytmkpjpdjjdmklaa.picksLongest
