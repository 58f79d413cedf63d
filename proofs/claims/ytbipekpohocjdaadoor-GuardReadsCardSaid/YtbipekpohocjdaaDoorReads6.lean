/- Proved: for every row of sections and of looks, honeycomblaw06.GuardReads returns true, and its arguments read as they did; the listed variable reads as the program's text lays it. -/
import Derived.Test.YtbipekpohocjdaaDoorGs
import Derived.SevenTiedAt
import Derived.Stop.Joined
import Derived.Test.YtbipekpohocjdaaDoorCards
import Derived.Test.YtbipekpohocjdaaDoorTie
namespace Go.Proofs.YtbipekpohocjdaaDoor.guardReads
open Go.ChangeShapes Go.WideShapes Go.ChangeAt Go.RowKit Go.Shelf
attribute [local go_sem] Oper.semAt_some

def wantL (l ks : List (Int × Int)) : List Bool := ks.map fun p => decide (rcnt l p.1 % 2 = 0 ∧ rcnt l p.1 = rcnt l p.2)
theorem wantL_snoc (l ks : List (Int × Int)) (p : Int × Int) : wantL l (ks ++ [p]) = wantL l ks ++ [decide (rcnt l p.1 % 2 = 0 ∧ rcnt l p.1 = rcnt l p.2)] := by simp [wantL]
theorem allLook_snoc (ks : List (Int × Int)) (p : Int × Int) : allLook (ks ++ [p]) = (allLook ks && lookB p.1 p.2) := by simp [allLook]
theorem want_clr {l ks : List (Int × Int)} (hr : rightB l = true) (h : allLook ks = true) : wantL l ks = clrL l ks := by
  unfold wantL clrL
  refine List.map_congr_left fun p hp => ?_
  unfold allLook at h
  rw [List.all_eq_true] at h
  have h1 := h p hp
  simp [lookB] at h1
  rw [rcnt_cnt hr, rcnt_cnt hr, (tells hr h1.2.1).1]

set_option maxRecDepth 100000 in
set_option maxHeartbeats 8000000 in
theorem walk (a0 : Option Addr) (len0 cap0 : Nat) (z0 : List (Int × Int)) (a1 : Option Addr) (len1 cap1 : Nat) (z1 : List (Int × Int)) (w : World) (hT : TwoAt w)
    (hn0 : len0 = z0.length) (hI0 : PAt w (.slice a0 len0 cap0) z0) (hn1 : len1 = z1.length) (hI1 : PAt w (.slice a1 len1 cap1) z1) :
    Calls Tryd.prog 4 #[.slice a0 len0 cap0, .slice a1 len1 cap1] w fun e w' => e = .returned (.bool true) ∧ Below w.heap.size w w' := by
  obtain ⟨i0, hi, hz0, hz1, hz2⟩ := info_parts Tryd.infoBool
  have HW := Lib.hid (Tryd.wakes_any _ hT)
  have HF := fun w' (hB : Below w.heap.size w w') => Lib.hid (Tryd.few_any a0 len0 cap0 z0 w' (hI0.below hB))
  obtain ⟨l, hl⟩ : ∃ l, l = z0.take 16 := ⟨_, rfl⟩
  have hl16 : l.length ≤ 16 := by rw [hl, List.length_take]; omega
  rw [← hl] at HF
  obtain ⟨m, hm⟩ : ∃ m, m = l.length := ⟨_, rfl⟩
  rw [← hm] at hl16
  have HM := Lib.hid hm
  obtain ⟨ks, hks⟩ : ∃ ks, ks = z1.take 12 := ⟨_, rfl⟩
  obtain ⟨nk, hnk⟩ : ∃ nk, nk = ks.length := ⟨_, rfl⟩
  have hnk2 : nk = min 12 len1 := by rw [hnk, hks, List.length_take, hn1]
  have hcc := (pAt_len hI1).2
  have hcut := pAt_cut hI1 nk (by omega)
  have htk : z1.take nk = ks := by
    rw [hks, hnk2]
    rcases Nat.le_total 12 len1 with h | h
    · rw [Nat.min_eq_left h]
    · rw [Nat.min_eq_right h, List.take_of_length_le (by omega), List.take_of_length_le (by omega)]
  rw [htk] at hcut
  have HKL := fun w' (hB : Below w.heap.size w w') => Lib.hid (Tryd.cloneLook_any a1 nk cap1 ks hnk (by omega) w' (hcut.below hB))
  have HNK := Lib.hid hnk
  have hnb : nk ≤ 12 := by omega
  have hways : (nk = len1 ∧ ¬ (12 : Int) < (len1 : Int)) ∨ (nk = 12 ∧ (12 : Int) < (len1 : Int)) := by omega
  have hc1 : ¬ (cap1 : Int) < (nk : Int) := by omega
  have hmn : min (len1 : Int) 12 = (nk : Int) := by omega
  have hmn2 : (if (12 : Int) < (len1 : Int) then (12 : Int) else (len1 : Int)) = (nk : Int) := by split <;> omega
  clear hl hm hn0 hn1 hI0 hI1 hks hnk hnk2 hcc hcut htk
  go_enter Tryd.func4, Tryd.ntmps4
  go_wp2_with fail
  refine HW.out.mono ?_
  rintro e w1 ⟨rfl, hB1⟩
  have HB1 := Lib.hid hB1
  clear hB1 HW
  go_wp2_with fail
  refine (HF _ HB1.out).out.mono ?_
  rintro e w2 ⟨b, c, rfl, hP, hB⟩
  rw [← HM.out] at hP ⊢
  have HP2 := Lib.hid hP
  have HB2 := Lib.hid (HB1.out.trans (hB.mono HB1.out.size))
  clear hP hB
  go_wp2_with fail
  refine (HKL _ HB2.out).out.mono ?_
  rintro e w2b ⟨kx, kc, rfl, hK, hB⟩
  have HK2 := Lib.hid hK
  have HP2b := Lib.hid (HP2.out.below hB)
  have HB2b := Lib.hid (HB2.out.trans (hB.mono HB2.out.size))
  have HRR := Lib.hid (Tryd.refRight_any b m c l w2b HP2b.out)
  have hcn := (pAt_len hK).2
  have hkm : nk ≤ maxLen := by omega
  unfold maxLen at hkm
  clear hK hB HP2 hmn hmn2 hc1 hways hcn
  go_wp2_with fail
  refine HRR.out.mono ?_
  rintro e w3 ⟨rfl, hB⟩
  have HP3 := Lib.hid (HP2b.out.below hB)
  have HK3 := Lib.hid (HK2.out.below hB)
  have HB3 := Lib.hid (HB2b.out.trans (hB.mono HB2b.out.size))
  have HRD := Lib.hid (Tryd.Reads_any b m c l (by omega) kx nk kc ks (by omega) w3 HP3.out HK3.out)
  clear hB HRR HP2b HK2
  have hE : readsE l ks = if rightB l = true then (if allLook ks = true then 0 else 2) else 160 := rfl
  cases hr : rightB l with
  | false =>
    rw [hr, if_neg (by decide)] at hE
    have HR := Lib.hid hr
    have HEE := Lib.hid hE
    clear hr hE
    go_wp2_with fail
    refine HRD.out.mono ?_
    rintro e wq ⟨y, cy, rfl, hY, hB⟩
    have HB4 := Lib.hid (HB3.out.trans (hB.mono HB3.out.size))
    have HP4 := Lib.hid (HP3.out.below hB)
    have HK4 := Lib.hid (HK3.out.below hB)
    have HY4 := Lib.hid hY
    have HPK := fun w' (hB : Below wq.heap.size wq w') => (HP4.out.below hB : PAt w' (.slice b m c) l)
    have HREFC := fun z w' (hB : Below wq.heap.size wq w') => Lib.hid (Tryd.refCount_any z b m c l w' (HP4.out.below hB))
    have HCLR := fun p q w' (hB : Below wq.heap.size wq w') => Lib.hid (Tryd.Clear_any p q b m c l (by omega) w' (HP4.out.below hB))
    have HRFC := fun p q w' (hB : Below wq.heap.size wq w') => Lib.hid (Tryd.refClear_any p q b m c l (by omega) w' (HP4.out.below hB))
    have hszw := HB4.out.size
    clear hB hY HRD HP3 HK3
    go_wp2_with fail
    go_loopw [9, 10, 36] (fun uv nv jv wr => ∃ (k mw : Nat) (no : Int) (wl : List Bool) (v : Value), k ≤ nk ∧ jv = .int .i64 k ∧ uv = v ∧ nv = .int .i64 no ∧ Hid (no = if allLook (ks.take k) = true then 0 else 2) ∧ Hid (mw = wl.length) ∧ mw ≤ k ∧ Hid (wl = wantL l (ks.take k)) ∧ wr.ownsRow wq.heap.size 4 1 v mw (bVals wl) ∧ Below wq.heap.size wq wr) (fun _ _ jv _ => nk - (intOf jv).toNat)
    case atStart => exact ⟨0, 0, 0, [], _, Nat.zero_le _, rfl, rfl, rfl, Lib.hid rfl, Lib.hid rfl, Nat.le_refl _, Lib.hid rfl, World.ownsRow_nil _ _ _ _, Below.refl _ _⟩
    case round =>
      obtain ⟨k, mw, no, wl, v, hk, rfl, hv, rfl, hno, HMW, hmk, hwl, hO, hBq⟩ := hrel
      replace hv := hv.symm
      subst hv
      by_cases hlt : k < nk
      · have hkl : k < ks.length := by rw [← HNK.out]; exact hlt
        obtain ⟨kb, ko, rfl, hkb, p0, p1⟩ := pAt_get (HK4.out.below hBq) k hkl
        have hsn : wantL l (ks.take (k + 1)) = wl ++ [decide (rcnt l (ks[k]).1 % 2 = 0 ∧ rcnt l (ks[k]).1 = rcnt l (ks[k]).2)] := by rw [take_snoc ks k hkl, wantL_snoc, hwl.out]
        have htk := take_snoc ks k hkl
        rcases hs : ks[k] with ⟨f, g⟩
        rw [hs] at p0 p1 hsn htk
        dsimp only at p0 p1 hsn
        have HTK := Lib.hid htk
        have hki : (k : Int) < (nk : Int) := by omega
        have hBn : Below wr.heap.size wr (wr.alloc (.cells #[.int .i64 f, .int .i64 g] 44)) := Rows8.newB
        have hbn := Rows8.new wr 44 #[.int .i64 f, .int .i64 g]
        have HKC := Lib.hid (fun w' (hB : Below (wr.alloc (.cells #[.int .i64 f, .int .i64 g] 44)).heap.size (wr.alloc (.cells #[.int .i64 f, .int .i64 g] 44)) w') => (⟨(hbn.below hB hbn.lt).cell 0, (hbn.below hB hbn.lt).cell 1⟩ : w'.cell? ⟨wr.heap.size, 0, none⟩ = some (.int .i64 f) ∧ w'.cell? ⟨wr.heap.size, 1, none⟩ = some (.int .i64 g)))
        have hBw0 := hBq.trans (hBn.mono hBq.size)
        have hBw : Below w.heap.size w (wr.alloc (.cells #[.int .i64 f, .int .i64 g] 44)) := HB4.out.trans (hBw0.mono HB4.out.size)
        have HBw := Lib.hid hBw0
        have HBww := Lib.hid hBw
        have HO1 := Lib.hid (owns_keep hO hBn (Nat.le_refl _))
        have HRC := fun z w' (hB : Below (wr.alloc (.cells #[.int .i64 f, .int .i64 g] 44)).heap.size (wr.alloc (.cells #[.int .i64 f, .int .i64 g] 44)) w') => HREFC z w' (hBw0.trans (hB.mono hBw0.size))
        have HCL := fun w' (hB : Below (wr.alloc (.cells #[.int .i64 f, .int .i64 g] 44)).heap.size (wr.alloc (.cells #[.int .i64 f, .int .i64 g] 44)) w') => HCLR f g w' (hBw0.trans (hB.mono hBw0.size))
        have HRF := fun w' (hB : Below (wr.alloc (.cells #[.int .i64 f, .int .i64 g] 44)).heap.size (wr.alloc (.cells #[.int .i64 f, .int .i64 g] 44)) w') => HRFC f g w' (hBw0.trans (hB.mono hBw0.size))
        have HREF := Lib.hid (Tryd.refLook_any f g (wr.alloc (.cells #[.int .i64 f, .int .i64 g] 44)))
        have HSN := Lib.hid hsn
        have hmb : mw ≤ 20 := by omega
        have hszr := hBw0.size
        clear hsn hs hkl hbn hBn hBw0 hBw hO hBq htk hwl
        clear HREFC HCLR HRFC
        cases hlk : lookB f g with
        | true =>
          have HLK := Lib.hid hlk
          rw [hlk] at HREF
          have hcr : clearR l f g = false := by unfold clearR; rw [HR.out]; rfl
          clear hlk
          go_wp2_with fail
          refine HREF.out.mono ?_
          rintro e w' ⟨rfl, rfl⟩
          obtain ⟨w5, hw5⟩ : ∃ w5, w5 = wr.alloc (.cells #[.int .i64 f, .int .i64 g] 44) := ⟨_, rfl⟩
          have HB5 := Lib.hid (show Below (wr.alloc (.cells #[.int .i64 f, .int .i64 g] 44)).heap.size (wr.alloc (.cells #[.int .i64 f, .int .i64 g] 44)) w5 by rw [hw5]; exact Below.refl _ _)
          rw [← hw5]
          obtain ⟨k50, k51⟩ := HKC.out w5 HB5.out
          clear hw5
          have HX := HCL w5 HB5.out
          rw [hcr] at HX
          go_wp2_with fail
          refine HX.out.mono ?_
          rintro e w6 ⟨rfl, hB⟩
          have HB6 := Lib.hid (HB5.out.trans (hB.mono HB5.out.size))
          clear hB HX

          clear hcr k50 k51
          go_wp2_with fail
          have B6d := HB6.out.drew
          have hk6 := HKC.out _ B6d
          obtain ⟨k60, k61⟩ := hk6
          have hk6' := HKC.out _ B6d
          go_region_held3 (fun W' => W'.cell? ⟨wr.heap.size, 0, none⟩ = some (.int .i64 f) ∧ W'.cell? ⟨wr.heap.size, 1, none⟩ = some (.int .i64 g)) (first | exact hk6' | exact hka | exact hkb) (first
            | (go_at_call 17; refine (HRC _ _ Ba).out.mono ?_; rintro e wb ⟨rfl, hBb⟩; have Bb := Ba.trans (hBb.mono Ba.size); have hkb := HKC.out _ Bb)
            | (go_at_call 17; refine (HRC _ _ B6d).out.mono ?_; rintro e wa ⟨rfl, hBa⟩; have Ba := B6d.trans (hBa.mono B6d.size); have hka := HKC.out _ Ba))
          all_goals
            have HBb := Lib.hid Bb
            have hOb := owns_keep HO1.out Bb (Nat.le_refl _)
            have HOb := Lib.hid hOb
            clear hBb hBa Ba Bb hka hkb hOb k60 k61 hk6' B6d
            generalize rcnt l f = n1 at *
            generalize rcnt l g = n2 at *
            by_cases hev : n1 % 2 = 0
            · have hevi : (n1 : Int) % 2 = 0 := by omega
              obtain ⟨bb, hbb⟩ : ∃ bb : Bool, bb = ((n1 : Int) == (n2 : Int)) := ⟨_, rfl⟩
              have hwb : decide (n1 % 2 = 0 ∧ n1 = n2) = bb := by
                rw [hbb]
                by_cases h : n1 = n2
                · subst h; simp [hev]
                · rw [decide_eq_false (fun q => h q.2)]; symm; simp; omega
              have hbb' := hbb.symm
              have HSW := Lib.hid (by rw [HSN.out, hwb] : wantL l (ks.take (k + 1)) = wl ++ [bb])
              clear hbb hwb hev
              go_wp2_with (at_builtin; refine wpList_append_own _ rfl _ _ 45 rfl wq.heap.size 4 i0 (.bool false) 1 1 Tryd.underlying45 hi hz0 hz1 hz2 rfl (by decide) _ _ _ rfl (HOb.out.alloc _) ⟨wb.heap.size, 0, none⟩ 1 1 [.bool bb] rfl rfl (cell_one_new _ _ _) (by simp [Value.oneCell']) (by unfold maxLen; omega) (by omega) (by have := HBb.out.size; simp; omega) ?_; intro v' w9 hown' hgrow _)
              have hB9 := (((HBw.out.trans (HBb.out.mono HBw.out.size))).alloc (by have := HBb.out.size; omega) (.cells #[.bool bb] 4)).grown hgrow (by have := HBb.out.size; simp; omega) (fun j ej => (World.ownsRow.lt (HOb.out.alloc (.cells #[.bool bb] 4)) j ej).1)
              exact ⟨⟨k + 1, mw + 1, _, wl ++ [bb], v', by omega, by go_num, rfl, rfl, Lib.hid (by have h1 := hno.out; have h2 := HLK.out; have h3 := HTK.out; rw [h1, h3, allLook_snoc]; dsimp only; rw [h2, Bool.and_true]), Lib.hid (by rw [HMW.out]; simp), by omega, Lib.hid HSW.out.symm, by rw [bVals_snoc]; exact hown', hB9⟩, by simp [intOf]; omega⟩
            · have hevi : (n1 : Int) % 2 = 1 := by omega
              obtain ⟨bb, hbb⟩ : ∃ bb : Bool, bb = false := ⟨_, rfl⟩
              have hwb : decide (n1 % 2 = 0 ∧ n1 = n2) = bb := by rw [hbb]; exact decide_eq_false (fun q => hev q.1)
              have HSW := Lib.hid (by rw [HSN.out, hwb] : wantL l (ks.take (k + 1)) = wl ++ [bb])
              subst hbb
              clear hwb hev
              go_wp2_with (at_builtin; refine wpList_append_own _ rfl _ _ 45 rfl wq.heap.size 4 i0 (.bool false) 1 1 Tryd.underlying45 hi hz0 hz1 hz2 rfl (by decide) _ _ _ rfl (HOb.out.alloc _) ⟨wb.heap.size, 0, none⟩ 1 1 [.bool false] rfl rfl (cell_one_new _ _ _) (by simp [Value.oneCell']) (by unfold maxLen; omega) (by omega) (by have := HBb.out.size; simp; omega) ?_; intro v' w9 hown' hgrow _)
              have hB9 := (((HBw.out.trans (HBb.out.mono HBw.out.size))).alloc (by have := HBb.out.size; omega) (.cells #[.bool false] 4)).grown hgrow (by have := HBb.out.size; simp; omega) (fun j ej => (World.ownsRow.lt (HOb.out.alloc (.cells #[.bool false] 4)) j ej).1)
              exact ⟨⟨k + 1, mw + 1, _, wl ++ [false], v', by omega, by go_num, rfl, rfl, Lib.hid (by have h1 := hno.out; have h2 := HLK.out; have h3 := HTK.out; rw [h1, h3, allLook_snoc]; dsimp only; rw [h2, Bool.and_true]), Lib.hid (by rw [HMW.out]; simp), by omega, Lib.hid HSW.out.symm, by rw [bVals_snoc]; exact hown', hB9⟩, by simp [intOf]; omega⟩
        | false =>
          have HLK := Lib.hid hlk
          rw [hlk] at HREF
          have hcr : clearR l f g = false := by unfold clearR; rw [hlk]; cases rightB l <;> rfl
          clear hlk
          go_wp2_with fail
          refine HREF.out.mono ?_
          rintro e w' ⟨rfl, rfl⟩
          obtain ⟨w5, hw5⟩ : ∃ w5, w5 = wr.alloc (.cells #[.int .i64 f, .int .i64 g] 44) := ⟨_, rfl⟩
          have HB5 := Lib.hid (show Below (wr.alloc (.cells #[.int .i64 f, .int .i64 g] 44)).heap.size (wr.alloc (.cells #[.int .i64 f, .int .i64 g] 44)) w5 by rw [hw5]; exact Below.refl _ _)
          rw [← hw5]
          obtain ⟨k50, k51⟩ := HKC.out w5 HB5.out
          clear hw5
          have HX := HCL w5 HB5.out
          rw [hcr] at HX
          go_wp2_with fail
          refine HX.out.mono ?_
          rintro e w6 ⟨rfl, hB⟩
          have HB6 := Lib.hid (HB5.out.trans (hB.mono HB5.out.size))
          clear hB HX

          clear hcr k50 k51
          go_wp2_with fail
          have B6d := HB6.out.drew
          have hk6 := HKC.out _ B6d
          obtain ⟨k60, k61⟩ := hk6
          have hk6' := HKC.out _ B6d
          go_region_held3 (fun W' => W'.cell? ⟨wr.heap.size, 0, none⟩ = some (.int .i64 f) ∧ W'.cell? ⟨wr.heap.size, 1, none⟩ = some (.int .i64 g)) (first | exact hk6' | exact hka | exact hkb) (first
            | (go_at_call 17; refine (HRC _ _ Ba).out.mono ?_; rintro e wb ⟨rfl, hBb⟩; have Bb := Ba.trans (hBb.mono Ba.size); have hkb := HKC.out _ Bb)
            | (go_at_call 17; refine (HRC _ _ B6d).out.mono ?_; rintro e wa ⟨rfl, hBa⟩; have Ba := B6d.trans (hBa.mono B6d.size); have hka := HKC.out _ Ba))
          all_goals
            have HBb := Lib.hid Bb
            have hOb := owns_keep HO1.out Bb (Nat.le_refl _)
            have HOb := Lib.hid hOb
            clear hBb hBa Ba Bb hka hkb hOb k60 k61 hk6' B6d
            generalize rcnt l f = n1 at *
            generalize rcnt l g = n2 at *
            by_cases hev : n1 % 2 = 0
            · have hevi : (n1 : Int) % 2 = 0 := by omega
              obtain ⟨bb, hbb⟩ : ∃ bb : Bool, bb = ((n1 : Int) == (n2 : Int)) := ⟨_, rfl⟩
              have hwb : decide (n1 % 2 = 0 ∧ n1 = n2) = bb := by
                rw [hbb]
                by_cases h : n1 = n2
                · subst h; simp [hev]
                · rw [decide_eq_false (fun q => h q.2)]; symm; simp; omega
              have hbb' := hbb.symm
              have HSW := Lib.hid (by rw [HSN.out, hwb] : wantL l (ks.take (k + 1)) = wl ++ [bb])
              clear hbb hwb hev
              go_wp2_with (at_builtin; refine wpList_append_own _ rfl _ _ 45 rfl wq.heap.size 4 i0 (.bool false) 1 1 Tryd.underlying45 hi hz0 hz1 hz2 rfl (by decide) _ _ _ rfl (HOb.out.alloc _) ⟨wb.heap.size, 0, none⟩ 1 1 [.bool bb] rfl rfl (cell_one_new _ _ _) (by simp [Value.oneCell']) (by unfold maxLen; omega) (by omega) (by have := HBb.out.size; simp; omega) ?_; intro v' w9 hown' hgrow _)
              have hB9 := (((HBw.out.trans (HBb.out.mono HBw.out.size))).alloc (by have := HBb.out.size; omega) (.cells #[.bool bb] 4)).grown hgrow (by have := HBb.out.size; simp; omega) (fun j ej => (World.ownsRow.lt (HOb.out.alloc (.cells #[.bool bb] 4)) j ej).1)
              exact ⟨⟨k + 1, mw + 1, _, wl ++ [bb], v', by omega, by go_num, rfl, rfl, Lib.hid (by have h2 := HLK.out; have h3 := HTK.out; rw [h3, allLook_snoc]; dsimp only; rw [h2, Bool.and_false]; rfl), Lib.hid (by rw [HMW.out]; simp), by omega, Lib.hid HSW.out.symm, by rw [bVals_snoc]; exact hown', hB9⟩, by simp [intOf]; omega⟩
            · have hevi : (n1 : Int) % 2 = 1 := by omega
              obtain ⟨bb, hbb⟩ : ∃ bb : Bool, bb = false := ⟨_, rfl⟩
              have hwb : decide (n1 % 2 = 0 ∧ n1 = n2) = bb := by rw [hbb]; exact decide_eq_false (fun q => hev q.1)
              have HSW := Lib.hid (by rw [HSN.out, hwb] : wantL l (ks.take (k + 1)) = wl ++ [bb])
              subst hbb
              clear hwb hev
              go_wp2_with (at_builtin; refine wpList_append_own _ rfl _ _ 45 rfl wq.heap.size 4 i0 (.bool false) 1 1 Tryd.underlying45 hi hz0 hz1 hz2 rfl (by decide) _ _ _ rfl (HOb.out.alloc _) ⟨wb.heap.size, 0, none⟩ 1 1 [.bool false] rfl rfl (cell_one_new _ _ _) (by simp [Value.oneCell']) (by unfold maxLen; omega) (by omega) (by have := HBb.out.size; simp; omega) ?_; intro v' w9 hown' hgrow _)
              have hB9 := (((HBw.out.trans (HBb.out.mono HBw.out.size))).alloc (by have := HBb.out.size; omega) (.cells #[.bool false] 4)).grown hgrow (by have := HBb.out.size; simp; omega) (fun j ej => (World.ownsRow.lt (HOb.out.alloc (.cells #[.bool false] 4)) j ej).1)
              exact ⟨⟨k + 1, mw + 1, _, wl ++ [false], v', by omega, by go_num, rfl, rfl, Lib.hid (by have h2 := HLK.out; have h3 := HTK.out; rw [h3, allLook_snoc]; dsimp only; rw [h2, Bool.and_false]; rfl), Lib.hid (by rw [HMW.out]; simp), by omega, Lib.hid HSW.out.symm, by rw [bVals_snoc]; exact hown', hB9⟩, by simp [intOf]; omega⟩
      · obtain rfl : k = nk := by omega
        have hks : ks.take k = ks := List.take_of_length_le (Nat.le_of_eq HNK.out.symm)
        rw [hks] at hno hwl
        clear hks HREFC HCLR HRFC
        have hyy : readsR l ks = [] := readsR_err (by rw [HEE.out]; decide)
        rw [hyy] at HY4 ⊢
        rw [HEE.out]
        simp only [List.length_nil] at HY4 ⊢
        clear hno hwl hyy

        have HE9 := Lib.hid (Tryd.equalBools_any y none 0 0 cy 0 [] [] wr (RowAt.below HY4.out hBq) (bAt_none _) (by decide) (by decide))
        rw [decide_eq_true rfl] at HE9
        have HBr := Lib.hid hBq
        clear hBq hO
        go_wp2_with fail
        refine HE9.out.mono ?_
        rintro e w10 ⟨rfl, hB10⟩
        have HBL10 := Lib.hid (HBr.out.trans (hB10.mono HBr.out.size))
        have HB10 := Lib.hid (HB4.out.trans (HBL10.out.mono HB4.out.size))
        clear hB10 HE9

        have HFX := HF w10 HB10.out
        have HP10 := HPK w10 HBL10.out
        go_wp2_with fail
        refine HFX.out.mono ?_
        rintro e w11 ⟨b11, c11, rfl, hP11, hB11⟩
        rw [← HM.out] at hP11 ⊢
        have HE := Lib.hid (Tryd.equalSection_any b b11 m m c c11 l l w11 (HP10.below hB11) hP11 (by omega) (by omega))
        rw [decide_eq_true rfl] at HE
        have HB11 := Lib.hid (HB10.out.trans (hB11.mono HB10.out.size))
        clear hP11 hB11 HP10
        go_wp2_with fail
        refine HE.out.mono ?_
        rintro e w12 ⟨rfl, hB12⟩
        have HB12 := Lib.hid (HB11.out.trans (hB12.mono HB11.out.size))
        clear hB12
        go_wp2_with fail
        go_ret
        exact ⟨rfl, HB12.out⟩
  | true =>
    rw [hr, if_pos rfl] at hE
    have HR := Lib.hid hr
    have HEE := Lib.hid hE
    clear hr hE
    go_wp2_with fail
    refine HRD.out.mono ?_
    rintro e wq ⟨y, cy, rfl, hY, hB⟩
    have HB4 := Lib.hid (HB3.out.trans (hB.mono HB3.out.size))
    have HP4 := Lib.hid (HP3.out.below hB)
    have HK4 := Lib.hid (HK3.out.below hB)
    have HY4 := Lib.hid hY
    have HPK := fun w' (hB : Below wq.heap.size wq w') => (HP4.out.below hB : PAt w' (.slice b m c) l)
    have HREFC := fun z w' (hB : Below wq.heap.size wq w') => Lib.hid (Tryd.refCount_any z b m c l w' (HP4.out.below hB))
    have HCLR := fun p q w' (hB : Below wq.heap.size wq w') => Lib.hid (Tryd.Clear_any p q b m c l (by omega) w' (HP4.out.below hB))
    have HRFC := fun p q w' (hB : Below wq.heap.size wq w') => Lib.hid (Tryd.refClear_any p q b m c l (by omega) w' (HP4.out.below hB))
    have hszw := HB4.out.size
    clear hB hY HRD HP3 HK3
    go_wp2_with fail
    go_loopw [9, 10, 36] (fun uv nv jv wr => ∃ (k mw : Nat) (no : Int) (wl : List Bool) (v : Value), k ≤ nk ∧ jv = .int .i64 k ∧ uv = v ∧ nv = .int .i64 no ∧ Hid (no = if allLook (ks.take k) = true then 0 else 2) ∧ Hid (mw = wl.length) ∧ mw ≤ k ∧ Hid (wl = wantL l (ks.take k)) ∧ wr.ownsRow wq.heap.size 4 1 v mw (bVals wl) ∧ Below wq.heap.size wq wr) (fun _ _ jv _ => nk - (intOf jv).toNat)
    case atStart => exact ⟨0, 0, 0, [], _, Nat.zero_le _, rfl, rfl, rfl, Lib.hid rfl, Lib.hid rfl, Nat.le_refl _, Lib.hid rfl, World.ownsRow_nil _ _ _ _, Below.refl _ _⟩
    case round =>
      obtain ⟨k, mw, no, wl, v, hk, rfl, hv, rfl, hno, HMW, hmk, hwl, hO, hBq⟩ := hrel
      replace hv := hv.symm
      subst hv
      by_cases hlt : k < nk
      · have hkl : k < ks.length := by rw [← HNK.out]; exact hlt
        obtain ⟨kb, ko, rfl, hkb, p0, p1⟩ := pAt_get (HK4.out.below hBq) k hkl
        have hsn : wantL l (ks.take (k + 1)) = wl ++ [decide (rcnt l (ks[k]).1 % 2 = 0 ∧ rcnt l (ks[k]).1 = rcnt l (ks[k]).2)] := by rw [take_snoc ks k hkl, wantL_snoc, hwl.out]
        have htk := take_snoc ks k hkl
        rcases hs : ks[k] with ⟨f, g⟩
        rw [hs] at p0 p1 hsn htk
        dsimp only at p0 p1 hsn
        have HTK := Lib.hid htk
        have hki : (k : Int) < (nk : Int) := by omega
        have hBn : Below wr.heap.size wr (wr.alloc (.cells #[.int .i64 f, .int .i64 g] 44)) := Rows8.newB
        have hbn := Rows8.new wr 44 #[.int .i64 f, .int .i64 g]
        have HKC := Lib.hid (fun w' (hB : Below (wr.alloc (.cells #[.int .i64 f, .int .i64 g] 44)).heap.size (wr.alloc (.cells #[.int .i64 f, .int .i64 g] 44)) w') => (⟨(hbn.below hB hbn.lt).cell 0, (hbn.below hB hbn.lt).cell 1⟩ : w'.cell? ⟨wr.heap.size, 0, none⟩ = some (.int .i64 f) ∧ w'.cell? ⟨wr.heap.size, 1, none⟩ = some (.int .i64 g)))
        have hBw0 := hBq.trans (hBn.mono hBq.size)
        have hBw : Below w.heap.size w (wr.alloc (.cells #[.int .i64 f, .int .i64 g] 44)) := HB4.out.trans (hBw0.mono HB4.out.size)
        have HBw := Lib.hid hBw0
        have HBww := Lib.hid hBw
        have HO1 := Lib.hid (owns_keep hO hBn (Nat.le_refl _))
        have HRC := fun z w' (hB : Below (wr.alloc (.cells #[.int .i64 f, .int .i64 g] 44)).heap.size (wr.alloc (.cells #[.int .i64 f, .int .i64 g] 44)) w') => HREFC z w' (hBw0.trans (hB.mono hBw0.size))
        have HCL := fun w' (hB : Below (wr.alloc (.cells #[.int .i64 f, .int .i64 g] 44)).heap.size (wr.alloc (.cells #[.int .i64 f, .int .i64 g] 44)) w') => HCLR f g w' (hBw0.trans (hB.mono hBw0.size))
        have HRF := fun w' (hB : Below (wr.alloc (.cells #[.int .i64 f, .int .i64 g] 44)).heap.size (wr.alloc (.cells #[.int .i64 f, .int .i64 g] 44)) w') => HRFC f g w' (hBw0.trans (hB.mono hBw0.size))
        have HREF := Lib.hid (Tryd.refLook_any f g (wr.alloc (.cells #[.int .i64 f, .int .i64 g] 44)))
        have HSN := Lib.hid hsn
        have hmb : mw ≤ 20 := by omega
        have hszr := hBw0.size
        clear hsn hs hkl hbn hBn hBw0 hBw hO hBq htk hwl
        clear HREFC HCLR HRFC
        cases hlk : lookB f g with
        | true =>
          have HLK := Lib.hid hlk
          rw [hlk] at HREF
          have hcr : clearR l f g = clearB l f g := by unfold clearR; rw [HR.out, hlk]; rfl
          clear hlk
          go_wp2_with fail
          refine HREF.out.mono ?_
          rintro e w' ⟨rfl, rfl⟩
          obtain ⟨w5, hw5⟩ : ∃ w5, w5 = wr.alloc (.cells #[.int .i64 f, .int .i64 g] 44) := ⟨_, rfl⟩
          have HB5 := Lib.hid (show Below (wr.alloc (.cells #[.int .i64 f, .int .i64 g] 44)).heap.size (wr.alloc (.cells #[.int .i64 f, .int .i64 g] 44)) w5 by rw [hw5]; exact Below.refl _ _)
          rw [← hw5]
          obtain ⟨k50, k51⟩ := HKC.out w5 HB5.out
          clear hw5
          have HX := HCL w5 HB5.out
          rw [hcr] at HX
          go_wp2_with fail
          refine HX.out.mono ?_
          rintro e w6 ⟨rfl, hB⟩
          have HB6 := Lib.hid (HB5.out.trans (hB.mono HB5.out.size))
          clear hB HX

          have HY := HRF w6 HB6.out
          rw [refClear_clear HR.out (by have := HLK.out; simp [lookB] at this; omega)] at HY
          obtain ⟨k60, k61⟩ := HKC.out w6 HB6.out
          have HB6a := HB6
          clear hcr
          generalize clearB l f g = cb at *
          have hcb : (cb != cb) = false := by simp
          have hcb2 : (cb == cb) = true := by simp
          go_wp2_with fail
          refine HY.out.mono ?_
          rintro e w6b ⟨rfl, hB⟩
          have HB6 := Lib.hid (HB6a.out.trans (hB.mono HB6a.out.size))
          clear hB HY k60 k61 k50 k51
          go_wp2_with fail
          have B6d := HB6.out.drew
          have hk6 := HKC.out _ B6d
          obtain ⟨k60, k61⟩ := hk6
          have hk6' := HKC.out _ B6d
          go_region_held3 (fun W' => W'.cell? ⟨wr.heap.size, 0, none⟩ = some (.int .i64 f) ∧ W'.cell? ⟨wr.heap.size, 1, none⟩ = some (.int .i64 g)) (first | exact hk6' | exact hka | exact hkb) (first
            | (go_at_call 17; refine (HRC _ _ Ba).out.mono ?_; rintro e wb ⟨rfl, hBb⟩; have Bb := Ba.trans (hBb.mono Ba.size); have hkb := HKC.out _ Bb)
            | (go_at_call 17; refine (HRC _ _ B6d).out.mono ?_; rintro e wa ⟨rfl, hBa⟩; have Ba := B6d.trans (hBa.mono B6d.size); have hka := HKC.out _ Ba))
          all_goals
            have HBb := Lib.hid Bb
            have hOb := owns_keep HO1.out Bb (Nat.le_refl _)
            have HOb := Lib.hid hOb
            clear hBb hBa Ba Bb hka hkb hOb k60 k61 hk6' B6d
            generalize rcnt l f = n1 at *
            generalize rcnt l g = n2 at *
            by_cases hev : n1 % 2 = 0
            · have hevi : (n1 : Int) % 2 = 0 := by omega
              obtain ⟨bb, hbb⟩ : ∃ bb : Bool, bb = ((n1 : Int) == (n2 : Int)) := ⟨_, rfl⟩
              have hwb : decide (n1 % 2 = 0 ∧ n1 = n2) = bb := by
                rw [hbb]
                by_cases h : n1 = n2
                · subst h; simp [hev]
                · rw [decide_eq_false (fun q => h q.2)]; symm; simp; omega
              have hbb' := hbb.symm
              have HSW := Lib.hid (by rw [HSN.out, hwb] : wantL l (ks.take (k + 1)) = wl ++ [bb])
              clear hbb hwb hev
              go_wp2_with (at_builtin; refine wpList_append_own _ rfl _ _ 45 rfl wq.heap.size 4 i0 (.bool false) 1 1 Tryd.underlying45 hi hz0 hz1 hz2 rfl (by decide) _ _ _ rfl (HOb.out.alloc _) ⟨wb.heap.size, 0, none⟩ 1 1 [.bool bb] rfl rfl (cell_one_new _ _ _) (by simp [Value.oneCell']) (by unfold maxLen; omega) (by omega) (by have := HBb.out.size; simp; omega) ?_; intro v' w9 hown' hgrow _)
              have hB9 := (((HBw.out.trans (HBb.out.mono HBw.out.size))).alloc (by have := HBb.out.size; omega) (.cells #[.bool bb] 4)).grown hgrow (by have := HBb.out.size; simp; omega) (fun j ej => (World.ownsRow.lt (HOb.out.alloc (.cells #[.bool bb] 4)) j ej).1)
              exact ⟨⟨k + 1, mw + 1, _, wl ++ [bb], v', by omega, by go_num, rfl, rfl, Lib.hid (by have h1 := hno.out; have h2 := HLK.out; have h3 := HTK.out; rw [h1, h3, allLook_snoc]; dsimp only; rw [h2, Bool.and_true]), Lib.hid (by rw [HMW.out]; simp), by omega, Lib.hid HSW.out.symm, by rw [bVals_snoc]; exact hown', hB9⟩, by simp [intOf]; omega⟩
            · have hevi : (n1 : Int) % 2 = 1 := by omega
              obtain ⟨bb, hbb⟩ : ∃ bb : Bool, bb = false := ⟨_, rfl⟩
              have hwb : decide (n1 % 2 = 0 ∧ n1 = n2) = bb := by rw [hbb]; exact decide_eq_false (fun q => hev q.1)
              have HSW := Lib.hid (by rw [HSN.out, hwb] : wantL l (ks.take (k + 1)) = wl ++ [bb])
              subst hbb
              clear hwb hev
              go_wp2_with (at_builtin; refine wpList_append_own _ rfl _ _ 45 rfl wq.heap.size 4 i0 (.bool false) 1 1 Tryd.underlying45 hi hz0 hz1 hz2 rfl (by decide) _ _ _ rfl (HOb.out.alloc _) ⟨wb.heap.size, 0, none⟩ 1 1 [.bool false] rfl rfl (cell_one_new _ _ _) (by simp [Value.oneCell']) (by unfold maxLen; omega) (by omega) (by have := HBb.out.size; simp; omega) ?_; intro v' w9 hown' hgrow _)
              have hB9 := (((HBw.out.trans (HBb.out.mono HBw.out.size))).alloc (by have := HBb.out.size; omega) (.cells #[.bool false] 4)).grown hgrow (by have := HBb.out.size; simp; omega) (fun j ej => (World.ownsRow.lt (HOb.out.alloc (.cells #[.bool false] 4)) j ej).1)
              exact ⟨⟨k + 1, mw + 1, _, wl ++ [false], v', by omega, by go_num, rfl, rfl, Lib.hid (by have h1 := hno.out; have h2 := HLK.out; have h3 := HTK.out; rw [h1, h3, allLook_snoc]; dsimp only; rw [h2, Bool.and_true]), Lib.hid (by rw [HMW.out]; simp), by omega, Lib.hid HSW.out.symm, by rw [bVals_snoc]; exact hown', hB9⟩, by simp [intOf]; omega⟩
        | false =>
          have HLK := Lib.hid hlk
          rw [hlk] at HREF
          have hcr : clearR l f g = false := by unfold clearR; rw [hlk]; cases rightB l <;> rfl
          clear hlk
          go_wp2_with fail
          refine HREF.out.mono ?_
          rintro e w' ⟨rfl, rfl⟩
          obtain ⟨w5, hw5⟩ : ∃ w5, w5 = wr.alloc (.cells #[.int .i64 f, .int .i64 g] 44) := ⟨_, rfl⟩
          have HB5 := Lib.hid (show Below (wr.alloc (.cells #[.int .i64 f, .int .i64 g] 44)).heap.size (wr.alloc (.cells #[.int .i64 f, .int .i64 g] 44)) w5 by rw [hw5]; exact Below.refl _ _)
          rw [← hw5]
          obtain ⟨k50, k51⟩ := HKC.out w5 HB5.out
          clear hw5
          have HX := HCL w5 HB5.out
          rw [hcr] at HX
          go_wp2_with fail
          refine HX.out.mono ?_
          rintro e w6 ⟨rfl, hB⟩
          have HB6 := Lib.hid (HB5.out.trans (hB.mono HB5.out.size))
          clear hB HX

          clear hcr k50 k51
          go_wp2_with fail
          have B6d := HB6.out.drew
          have hk6 := HKC.out _ B6d
          obtain ⟨k60, k61⟩ := hk6
          have hk6' := HKC.out _ B6d
          go_region_held3 (fun W' => W'.cell? ⟨wr.heap.size, 0, none⟩ = some (.int .i64 f) ∧ W'.cell? ⟨wr.heap.size, 1, none⟩ = some (.int .i64 g)) (first | exact hk6' | exact hka | exact hkb) (first
            | (go_at_call 17; refine (HRC _ _ Ba).out.mono ?_; rintro e wb ⟨rfl, hBb⟩; have Bb := Ba.trans (hBb.mono Ba.size); have hkb := HKC.out _ Bb)
            | (go_at_call 17; refine (HRC _ _ B6d).out.mono ?_; rintro e wa ⟨rfl, hBa⟩; have Ba := B6d.trans (hBa.mono B6d.size); have hka := HKC.out _ Ba))
          all_goals
            have HBb := Lib.hid Bb
            have hOb := owns_keep HO1.out Bb (Nat.le_refl _)
            have HOb := Lib.hid hOb
            clear hBb hBa Ba Bb hka hkb hOb k60 k61 hk6' B6d
            generalize rcnt l f = n1 at *
            generalize rcnt l g = n2 at *
            by_cases hev : n1 % 2 = 0
            · have hevi : (n1 : Int) % 2 = 0 := by omega
              obtain ⟨bb, hbb⟩ : ∃ bb : Bool, bb = ((n1 : Int) == (n2 : Int)) := ⟨_, rfl⟩
              have hwb : decide (n1 % 2 = 0 ∧ n1 = n2) = bb := by
                rw [hbb]
                by_cases h : n1 = n2
                · subst h; simp [hev]
                · rw [decide_eq_false (fun q => h q.2)]; symm; simp; omega
              have hbb' := hbb.symm
              have HSW := Lib.hid (by rw [HSN.out, hwb] : wantL l (ks.take (k + 1)) = wl ++ [bb])
              clear hbb hwb hev
              go_wp2_with (at_builtin; refine wpList_append_own _ rfl _ _ 45 rfl wq.heap.size 4 i0 (.bool false) 1 1 Tryd.underlying45 hi hz0 hz1 hz2 rfl (by decide) _ _ _ rfl (HOb.out.alloc _) ⟨wb.heap.size, 0, none⟩ 1 1 [.bool bb] rfl rfl (cell_one_new _ _ _) (by simp [Value.oneCell']) (by unfold maxLen; omega) (by omega) (by have := HBb.out.size; simp; omega) ?_; intro v' w9 hown' hgrow _)
              have hB9 := (((HBw.out.trans (HBb.out.mono HBw.out.size))).alloc (by have := HBb.out.size; omega) (.cells #[.bool bb] 4)).grown hgrow (by have := HBb.out.size; simp; omega) (fun j ej => (World.ownsRow.lt (HOb.out.alloc (.cells #[.bool bb] 4)) j ej).1)
              exact ⟨⟨k + 1, mw + 1, _, wl ++ [bb], v', by omega, by go_num, rfl, rfl, Lib.hid (by have h2 := HLK.out; have h3 := HTK.out; rw [h3, allLook_snoc]; dsimp only; rw [h2, Bool.and_false]; rfl), Lib.hid (by rw [HMW.out]; simp), by omega, Lib.hid HSW.out.symm, by rw [bVals_snoc]; exact hown', hB9⟩, by simp [intOf]; omega⟩
            · have hevi : (n1 : Int) % 2 = 1 := by omega
              obtain ⟨bb, hbb⟩ : ∃ bb : Bool, bb = false := ⟨_, rfl⟩
              have hwb : decide (n1 % 2 = 0 ∧ n1 = n2) = bb := by rw [hbb]; exact decide_eq_false (fun q => hev q.1)
              have HSW := Lib.hid (by rw [HSN.out, hwb] : wantL l (ks.take (k + 1)) = wl ++ [bb])
              subst hbb
              clear hwb hev
              go_wp2_with (at_builtin; refine wpList_append_own _ rfl _ _ 45 rfl wq.heap.size 4 i0 (.bool false) 1 1 Tryd.underlying45 hi hz0 hz1 hz2 rfl (by decide) _ _ _ rfl (HOb.out.alloc _) ⟨wb.heap.size, 0, none⟩ 1 1 [.bool false] rfl rfl (cell_one_new _ _ _) (by simp [Value.oneCell']) (by unfold maxLen; omega) (by omega) (by have := HBb.out.size; simp; omega) ?_; intro v' w9 hown' hgrow _)
              have hB9 := (((HBw.out.trans (HBb.out.mono HBw.out.size))).alloc (by have := HBb.out.size; omega) (.cells #[.bool false] 4)).grown hgrow (by have := HBb.out.size; simp; omega) (fun j ej => (World.ownsRow.lt (HOb.out.alloc (.cells #[.bool false] 4)) j ej).1)
              exact ⟨⟨k + 1, mw + 1, _, wl ++ [false], v', by omega, by go_num, rfl, rfl, Lib.hid (by have h2 := HLK.out; have h3 := HTK.out; rw [h3, allLook_snoc]; dsimp only; rw [h2, Bool.and_false]; rfl), Lib.hid (by rw [HMW.out]; simp), by omega, Lib.hid HSW.out.symm, by rw [bVals_snoc]; exact hown', hB9⟩, by simp [intOf]; omega⟩
      · obtain rfl : k = nk := by omega
        have hks : ks.take k = ks := List.take_of_length_le (Nat.le_of_eq HNK.out.symm)
        rw [hks] at hno hwl
        clear hks HREFC HCLR HRFC
        by_cases hal : allLook ks = true
        · rw [if_pos hal] at hno
          obtain rfl := hno.out
          have hE0 : readsE l ks = 0 := by rw [HEE.out, if_pos hal]
          have hww : wl = clrL l ks := by rw [hwl.out]; exact want_clr HR.out hal
          rw [readsR_ok hE0] at HY4 ⊢
          rw [hE0]
          obtain ⟨_, vx, vc, rfl, _⟩ := rowAt_own hO
          have hBo : BAt wr (.slice vx mw vc) wl := by unfold BAt; rw [← HMW.out]; exact rowAt_own hO
          have hlen : (clrL l ks).length = mw := by rw [← hww, HMW.out]
          rw [hlen] at HY4 ⊢
          have HE9 := Lib.hid (Tryd.equalBools_any y vx mw mw cy vc (clrL l ks) wl wr (RowAt.below HY4.out hBq) hBo (by omega) (by omega))
          rw [decide_eq_true hww.symm] at HE9
          have HBr := Lib.hid hBq
          clear hBq hO hww hBo hlen hwl hE0 hno
          go_wp2_with fail
          refine HE9.out.mono ?_
          rintro e w10 ⟨rfl, hB10⟩
          have HBL10 := Lib.hid (HBr.out.trans (hB10.mono HBr.out.size))
          have HB10 := Lib.hid (HB4.out.trans (HBL10.out.mono HB4.out.size))
          clear hB10 HE9
          have HFX := HF w10 HB10.out
          have HP10 := HPK w10 HBL10.out
          go_wp2_with fail
          refine HFX.out.mono ?_
          rintro e w11 ⟨b11, c11, rfl, hP11, hB11⟩
          rw [← HM.out] at hP11 ⊢
          have HE := Lib.hid (Tryd.equalSection_any b b11 m m c c11 l l w11 (HP10.below hB11) hP11 (by omega) (by omega))
          rw [decide_eq_true rfl] at HE
          have HB11 := Lib.hid (HB10.out.trans (hB11.mono HB10.out.size))
          clear hP11 hB11 HP10
          go_wp2_with fail
          refine HE.out.mono ?_
          rintro e w12 ⟨rfl, hB12⟩
          have HB12 := Lib.hid (HB11.out.trans (hB12.mono HB11.out.size))
          clear hB12
          go_wp2_with fail
          go_ret
          exact ⟨rfl, HB12.out⟩
        · rw [if_neg hal] at hno
          obtain rfl := hno.out
          have hE2 : readsE l ks = 2 := by rw [HEE.out, if_neg hal]
          have hyy : readsR l ks = [] := readsR_err (by rw [hE2]; decide)
          rw [hyy] at HY4 ⊢
          rw [hE2]
          simp only [List.length_nil] at HY4 ⊢
          clear hno hwl hyy hE2
          have HE9 := Lib.hid (Tryd.equalBools_any y none 0 0 cy 0 [] [] wr (RowAt.below HY4.out hBq) (bAt_none _) (by decide) (by decide))
          rw [decide_eq_true rfl] at HE9
          have HBr := Lib.hid hBq
          clear hBq hO
          go_wp2_with fail
          refine HE9.out.mono ?_
          rintro e w10 ⟨rfl, hB10⟩
          have HBL10 := Lib.hid (HBr.out.trans (hB10.mono HBr.out.size))
          have HB10 := Lib.hid (HB4.out.trans (HBL10.out.mono HB4.out.size))
          clear hB10 HE9

          have HFX := HF w10 HB10.out
          have HP10 := HPK w10 HBL10.out
          go_wp2_with fail
          refine HFX.out.mono ?_
          rintro e w11 ⟨b11, c11, rfl, hP11, hB11⟩
          rw [← HM.out] at hP11 ⊢
          have HE := Lib.hid (Tryd.equalSection_any b b11 m m c c11 l l w11 (HP10.below hB11) hP11 (by omega) (by omega))
          rw [decide_eq_true rfl] at HE
          have HB11 := Lib.hid (HB10.out.trans (hB11.mono HB10.out.size))
          clear hP11 hB11 HP10
          go_wp2_with fail
          refine HE.out.mono ?_
          rintro e w12 ⟨rfl, hB12⟩
          have HB12 := Lib.hid (HB11.out.trans (hB12.mono HB11.out.size))
          clear hB12
          go_wp2_with fail
          go_ret
          exact ⟨rfl, HB12.out⟩
theorem own : ownKnob Tryd.prog.godebug = none := by kernel_rfl
theorem laidOut : laidOutB Tryd.prog = true := by kernel_rfl
set_option maxRecDepth 100000 in
theorem lifted (os : Os) (started : os.Started) (H : Type) (enc : TypeId × Value → H) :
    ReturnsInHanded {} Tryd.checked os 4 .any (fun w args => (Rows.guardReadsSpec.pre enc Tryd.prog Tryd.f4 [] false w args ∧ laidMetH Tryd.prog [("honeycomb/honeycomblaw06.two", Rows.laid_honeycomb_honeycomblaw06_two)] w) ∧ sizedMet enc Tryd.prog Tryd.f4 (OpenSpec.ofChange Rows.guardReadsSpec) false w args)
      (Rows.guardReadsSpec.post enc Tryd.prog Tryd.f4 false true false false) := by
  refine returnsInHanded_of_change_and (C := Tryd.checked) (X := fun w _ => laidMetH Tryd.prog [("honeycomb/honeycomblaw06.two", Rows.laid_honeycomb_honeycomblaw06_two)] w) (fun _ _ _ hh h => h.of_heap hh) own started (by kernel_rfl) Tryd.func4
    (ChangeSpec.witness_shaped (enc := enc) (C := Tryd.checked) (os := os) (X := fun w _ => laidMetH Tryd.prog [("honeycomb/honeycomblaw06.two", Rows.laid_honeycomb_honeycomblaw06_two)] w) false (World.laidAll Tryd.prog os [("honeycomb/honeycomblaw06.two", Rows.laid_honeycomb_honeycomblaw06_two)]) #[.slice none 0 0, .slice none 0 0] 8 (World.laidAll_os _ _ _)
      (World.shaped_of_ZipB (by kernel_rfl) (by kernel_rfl)) (by kernel_rfl) (by kernel_rfl) (by kernel_rfl)
      (by rw [MakeChecks.laidMetH_plain _ _ _ (by kernel_rfl)]; exact laidMet_laidAll _ (by kernel_rfl) (by kernel_rfl))) ?_
  intro W base args ds gs before hval0 hW _ _ hL _
  have hval : ∀ (j : Nat) t v, Tryd.f4.params[j]? = some t → args[j]? = some v → Value.okWide Tryd.prog W .any base t v := hval0
  have hW' := hW
  obtain ⟨p, q, hA0, hV, rfl, _, _⟩ := hW
  have hA : DataW.TrodAll enc Tryd.prog W 0 (fun _ => true) true Tryd.f4.params.toList args.toList ds p := hA0
  rw [Tryd.params4] at hA hval
  have hT := of_laid hL
  obtain ⟨v0, vs0, d0, ds0, p0, q0, hargs, rfl, rfl, h0, r0⟩ := trodAll_cons hA
  obtain ⟨v1, vs1, d1, ds1, p1, q1, rfl, rfl, rfl, h1, r1⟩ := trodAll_cons r0
  obtain ⟨rfl, rfl, rfl⟩ := trodAll_nil r1
  obtain rfl : args = #[v0, v1] := by cases args; simp_all
  obtain ⟨rfl, rfl⟩ := trodVars_none hV
  obtain ⟨a0, len0, cap0, rfl⟩ := okWide_slice Tryd.underlying23 (hval 0 23 v0 rfl rfl)
  have k0 := h0
  have lt0 : ∀ x ∈ p0, x.block < W.heap.size := by obtain ⟨m, hm⟩ := k0; exact DataW.trod_lt m _ _ _ hm
  obtain ⟨z0, n0, w0⟩ : ∃ zs, len0 = zs.length ∧ PAt W (.slice a0 len0 cap0) zs := by
    obtain ⟨fuel, hf⟩ := h0
    exact open_secs hf
  obtain ⟨a1, len1, cap1, rfl⟩ := okWide_slice Tryd.underlying41 (hval 1 41 v1 rfl rfl)
  have k1 := h1
  have lt1 : ∀ x ∈ p1, x.block < W.heap.size := by obtain ⟨m, hm⟩ := k1; exact DataW.trod_lt m _ _ _ hm
  obtain ⟨z1, n1, w1⟩ : ∃ zs, len1 = zs.length ∧ PAt W (.slice a1 len1 cap1) zs := by
    obtain ⟨fuel, hf⟩ := h1
    exact open_looks hf
  clear hA0 hval0
  refine (walk a0 len0 cap0 z0 a1 len1 cap1 z1 W hT n0 w0 n1 w1).mono fun e W' ⟨he, bel⟩ => ?_
  subst he
  exact ⟨_, rfl, _, _, _, [], _, [], hW', trodAll_mk1 (shut_bool Tryd.underlying4 _), (trodAll_cons_mk (Below.trod laidOut (by kernel_rfl) (of_decide_eq_true (by kernel_rfl)) k0 bel lt0) (trodAll_cons_mk (Below.trod laidOut (by kernel_rfl) (of_decide_eq_true (by kernel_rfl)) k1 bel lt1) trodAll_mk0)), rfl, bel.frame _, fun h => by cases h⟩
theorem said : Rows.GuardReadsSaid :=
  OpenClaim.holds_of_wide 4 Tryd.f4 rfl rfl rfl rfl rfl rfl rfl ⟨rfl, rfl, rfl, rfl, rfl⟩ rfl rfl rfl rfl rfl (by kernel_rfl) Tryd.func4 (by kernel_rfl)
    (of_decide_eq_true (by kernel_rfl)) (by unfold Func.isWrapper; first | (rw [if_pos (by decide +kernel)]; kernel_rfl) | (rw [if_neg (by decide +kernel)]; exact ⟨rfl, rfl⟩))
    (fun os started H enc _ => lifted os started H enc)
theorem proved : Rows.GuardReadsCardSaid :=
  Claim7.holds_tied_plain_at .later [] [.widerDeep] true _ false said (fun _ h => by cases h) (by kernel_rfl) (fun _ h => by cases h) guardReads_row_tie rfl ⟨rfl, rfl⟩ (by kernel_rfl) rfl
    (fun f fn hf hfn => by
      obtain rfl : f = 4 := Option.some.inj ((show Tryd.prog.funcNamed "honeycomb/honeycomblaw06.GuardReads" = some 4 by kernel_rfl).symm.trans hf) |>.symm
      obtain rfl : fn = Tryd.f4 := (Option.some.inj (Tryd.func4.symm.trans hfn)).symm
      exact ⟨by kernel_rfl, fun j t ht => by
        rw [Tryd.params4] at ht
        have hm : t ∈ [23, 41] := by simpa using Array.mem_of_getElem? ht
        have hall : ([23, 41].all fun u => !Tryd.prog.wantsStandIn u) = true := by kernel_rfl
        exact (show Tryd.prog.wantsStandIn t = false by simpa using List.all_eq_true.1 hall t hm)⟩)
    (by kernel_rfl)
end Go.Proofs.YtbipekpohocjdaaDoor.guardReads
