/- Proved: for every seed, row of keys, and two numbers, honeycomblaw07.HashCrowds returns true, and its arguments read as they did; no condition. -/
import Derived.Test.YtdpjmabamjgmkaaHy
import Derived.BigQuiet
import Derived.Deep.RegionHeld3
import Derived.ChangeAt
import Derived.JoinedAt
import Derived.ProofKit
import Derived.OpenShut
import Derived.Test.YtdpjmabamjgmkaaRows
namespace Go.Proofs.Ytdpjmabamjgmkaa.hashCrowds
open Go.ChangeShapes Go.WideShapes Go.ChangeAt Go.RowKit Go.Shelf Go.Deep Go.Maps
attribute [local go_sem] Oper.semAt_some

theorem own : ownKnob Try.prog.godebug = none := by kernel_rfl
set_option maxRecDepth 100000 in
set_option maxHeartbeats 8000000 in
theorem walk (a0 : Int) (ax : Option Addr) (nx cx : Nat) (xs : List Int) (b0 b1 : Int) (w : World) (w0 : (Lit.int .u64 a0).wf = true) (hnx : nx = xs.length) (hX : WordsK w (.slice ax nx cx) xs) :
    Calls Try.prog 5 #[.int .u64 a0, .slice ax nx cx, .agg #[.int .i64 b0, .int .i64 b1]] w fun e w' => e = .returned (.bool true) ∧ Below w.heap.size w w' := by
  obtain ⟨s, rfl, hs⟩ := u64_nat w0
  have hks : KeysOk (xs.take 8) := fun k hk => hX.2 k (List.mem_of_mem_take hk)
  have hcap : nx ≤ cx ∧ cx ≤ maxLen := by
    obtain ⟨_, a', cap', e, h1, h2, _⟩ := hX.1
    cases e
    rw [hnx]
    exact ⟨h1, h2⟩
  have hmx : cx ≤ 9223372036854775807 := by have := hcap.2; unfold maxLen at this; omega
  have hcx := hcap.1
  have hcut : ∀ W, Below w.heap.size w W → ∀ m, m ≤ nx → WordsAt W (.slice ax m cx) (xs.take m) := fun W hW m hm => words_cut hnx (RowAt.below hX.1 hW) m hm
  have HCUT := Lib.hid hcut
  have HKS := Lib.hid hks
  have hlen : (xs.take 8).length = min 8 nx := by rw [List.length_take, hnx]
  have HLEN := Lib.hid hlen
  have HT8 : Hid (nx ≤ 8 → xs.take nx = xs.take 8) := Lib.hid fun h => by rw [hnx] at h ⊢; rw [List.take_length, List.take_of_length_le h]
  have HTM : Hid (∀ m, m = (xs.take 8).length → xs.take m = xs.take 8) := Lib.hid fun m h => by
    rw [h, hlen, hnx]
    rcases Nat.le_total 8 xs.length with h8 | h8
    · rw [Nat.min_eq_left h8]
    · rw [Nat.min_eq_right h8, List.take_length, List.take_of_length_le h8]
  clear hcap hcut hks hX hnx w0 hlen
  generalize xs.take 8 = ks at *
  have ca := fun W => Try.wakes_any W
  go_enter Try.func5, Try.ntmps5
  go_wp2_with fail
  refine (ca _).mono ?_
  rintro e w1 ⟨rfl, hB1⟩
  have r0 := Rows8.new w 37 #[.int .i64 b0, .int .i64 b1]
  have hBa := (Below.refl _ w).alloc (Nat.le_refl _) (.cells #[.int .i64 b0, .int .i64 b1] 37)
  have HR1 := Lib.hid (r0.below hB1 r0.lt)
  have HB1 := Lib.hid (hBa.trans (hB1.mono hBa.size))
  clear r0 hBa hB1 ca
  go_upto_region 3 with (fail)
  go_cut [7] from 16 (fun s7 wc => ∃ (m : Nat) (a2 : Option Addr) (c2 : Nat), s7 = .slice a2 m c2 ∧ m ≤ 8 ∧ m ≤ nx ∧ Hid (m = ks.length) ∧ Hid (WordsAt wc (.slice a2 m c2) ks) ∧ Hid (Rows8 wc w.heap.size 37 #[.int .i64 b0, .int .i64 b1]) ∧ Hid (Below w.heap.size w wc))
  case first =>
    by_cases hc : nx ≤ 8
    · have g1 : (nx : Int) ≤ 8 := by omega
      have g2 : ¬ (8 : Int) < (nx : Int) := by omega
      have g3 : ¬ (cx : Int) < (nx : Int) := by omega
      have g4 : (nx : Int) ≤ (cx : Int) := by omega
      have hw := HCUT.out w1 HB1.out nx (Nat.le_refl _)
      rw [HT8.out hc] at hw
      have hl : nx = ks.length := by have := HLEN.out; omega
      have cc := Try.cloneWords_any ax nx cx ks hl (by omega) w1 hw
      have HL := Lib.hid hl
      clear hw hl
      go_wp2_with fail
      refine cc.mono ?_
      rintro e w2 ⟨v, rfl, hO, hB2⟩
      obtain ⟨_, a2, c2, rfl, _⟩ := rowAt_own hO
      have HO := Lib.hid (rowAt_own hO)
      have HB2 := Lib.hid hB2
      have hk8 : ks.length ≤ 8 := by have := HL.out; omega
      have hkn : ks.length ≤ nx := by have := HL.out; omega
      clear cc hO hB2
      go_wp2_with fail
      go_meet
      exact ⟨_, a2, c2, rfl, hk8, hkn, Lib.hid rfl, HO, Lib.hid (HR1.out.below HB2.out HR1.out.lt), Lib.hid (HB1.out.trans (HB2.out.mono HB1.out.size))⟩
    · have g1 : ¬ (nx : Int) ≤ 8 := by omega
      have g2 : (8 : Int) < (nx : Int) := by omega
      have g3 : ¬ (cx : Int) < 8 := by omega
      have g4 : (8 : Int) ≤ (cx : Int) := by omega
      have hl : 8 = ks.length := by have := HLEN.out; omega
      have hw := HCUT.out w1 HB1.out 8 (by omega)
      rw [HTM.out 8 hl] at hw
      have cc := Try.cloneWords_any ax 8 cx ks hl (by omega) w1 hw
      have HL := Lib.hid hl
      clear hw hl
      go_wp2_with fail
      refine cc.mono ?_
      rintro e w2 ⟨v, rfl, hO, hB2⟩
      obtain ⟨_, a2, c2, rfl, _⟩ := rowAt_own hO
      have HO := Lib.hid (rowAt_own hO)
      have HB2 := Lib.hid hB2
      have hk8 : ks.length ≤ 8 := by have := HL.out; omega
      have hkn : ks.length ≤ nx := by have := HL.out; omega
      clear cc hO hB2
      go_wp2_with fail
      go_meet
      exact ⟨_, a2, c2, rfl, hk8, hkn, Lib.hid rfl, HO, Lib.hid (HR1.out.below HB2.out HR1.out.lt), Lib.hid (HB1.out.trans (HB2.out.mono HB1.out.size))⟩
  case rest =>
    obtain ⟨m, a2, c2, rfl, hm8, hmn, HM, HW2, HR2, HB2⟩ := hcut
    have c0 : wc.cell? ⟨w.heap.size, 0, none⟩ = some (.int .i64 b0) := HR2.out.cell 0
    have cC := Try.Crowd_any 12 Try.sortOk12 s hs b0 a2 m c2 ks HM.out (by omega) (by omega) HKS.out wc HW2.out
    clear HR1 HB1
    go_wp2_with fail
    refine cC.mono ?_
    rintro e w3 ⟨hB3, hor0⟩
    have hor2 : ∃ (mv : Option Nat) (ev : Int), e = .returned (.tuple #[.map mv, .int .i64 ev]) ∧ ((noBitsB b0 = true ∧ mv = none ∧ ev = 2) ∨ (noBitsB b0 = false ∧ ev = 0 ∧ ∃ b, mv = some b ∧ CntAt w3 b (onceW ks).length (prefsB s b0.toNat (onceW ks)))) := by
      rcases hor0 with ⟨h, rfl⟩ | ⟨h, b, rfl, _, hc⟩
      · exact ⟨none, 2, rfl, .inl ⟨h, rfl, rfl⟩⟩
      · exact ⟨some b, 0, rfl, .inr ⟨h, rfl, b, rfl, hc⟩⟩
    clear hor0
    obtain ⟨mv, ev, rfl, hor⟩ := hor2
    have cM := fun W => Try.May_any b0 W
    generalize hq : noBitsB b0 = q at hor cM
    have HQ := Lib.hid hq
    have HOR := Lib.hid hor
    have HR3 := Lib.hid (HR2.out.below hB3 HR2.out.lt)
    have HW3 := Lib.hid (RowAt.below HW2.out hB3)
    have HB3 := Lib.hid (HB2.out.trans (hB3.mono HB2.out.size))
    have c0 : w3.cell? ⟨w.heap.size, 0, none⟩ = some (.int .i64 b0) := HR3.out.cell 0
    clear hq hor cC hB3 HW2 HR2 HB2
    go_upto_if 35 with (go_at_call 19; refine (cM _).mono ?_; rintro e w' ⟨rfl, rfl⟩)
    go_cut [10, 12, 13] from 16 (fun _ _ _ wc => Hid (Rows8 wc w.heap.size 37 #[.int .i64 b0, .int .i64 b1]) ∧ Hid (WordsAt wc (.slice a2 m c2) ks) ∧ Hid (Below w.heap.size w wc))
    case first =>
      rcases HOR.out with ⟨rfl, rfl, rfl⟩ | ⟨rfl, rfl, b, rfl, hc3⟩
      · go_wp2_with fail
        go_meet
        exact ⟨HR3, HW3, HB3⟩
      · simp only [Bool.not_false]
        have hb0 : 0 ≤ b0 ∧ b0 ≤ 64 := by have hyes := HQ.out; simp [noBitsB] at hyes; omega
        obtain ⟨n, rfl⟩ : ∃ n : Nat, b0 = (n : Int) := ⟨b0.toNat, by omega⟩
        have hn : n ≤ 64 := by omega
        rw [Int.toNat_natCast] at hc3
        have HC3 := Lib.hid hc3
        clear hc3 hb0 HOR cM c0 HQ
        have hmm := @run_makeMap Try.prog
        go_wp2_with fail
        clear hmm
        have hM0 := MetAt.made w3
        have hB0 := (Below.refl _ w3).alloc (Nat.le_refl _) (.map #[] 0)
        have hz3 := HB3.out.size
        generalize hbm : w3.heap.size = bm at *
        have HBM := Lib.hid hbm
        generalize w3.alloc (.map #[] 0) = w4 at *
        have HBW := Lib.hid (show ∀ W, Below bm w3 W → Below w3.heap.size w3 W from fun W h => by rw [hbm]; exact h)
        have HM0 := Lib.hid hM0
        have HB0 := Lib.hid hB0
        have HN := Lib.hid (prefs_len s n ks)
        have HP0 : Hid (prefsB s n (ks.take 0) = []) := Lib.hid rfl
        have HPF : Hid (prefsB s n (ks.take m) = prefsB s n ks) := Lib.hid (by rw [HM.out, List.take_length])
        have HPM := Lib.hid (prefs_mem (s := s) (n := n) (l := onceW ks) (l' := ks) (fun x => onceW_mem))
        clear hM0 hB0 hbm
        go_loopw [12, 13, 46] (fun _ _ j wr => ∃ k : Nat, k ≤ m ∧ j = .int .i64 (k : Int) ∧ Hid (MetAt wr bm k (prefsB s n (ks.take k))) ∧ Hid (Below bm w3 wr)) (fun _ _ j _ => m - (intOf j).toNat)
        case atStart => exact ⟨0, Nat.zero_le _, rfl, by rw [HP0.out]; exact HM0, HB0⟩
        case round =>
          obtain ⟨k, hk, rfl, HMET, HB⟩ := hrel
          by_cases hlt : k < m
          · have hki : (k : Int) < (m : Int) := by omega
            have hkl : k < ks.length := by rw [← HM.out]; exact hlt
            obtain ⟨b2, off2, rfl, hb2, hc2⟩ := wordsAt_get (RowAt.below HW3.out (HBW.out wr HB.out)) k hkl
            obtain ⟨x, hx, hx64⟩ := HKS.out.get hkl
            have ht := prefs_take (s := s) (n := n) hkl
            rw [hx] at hc2
            rw [hx, Int.toNat_natCast] at ht
            have HTT := Lib.hid ht
            have cO := fun W => Try.refOf_any s x hs hx64 W
            have cP := fun W => Try.refPrefix_any (ofB s x) n (ofB_lt s x) hn W
            have CMANY := Lib.hid fun (W : World) (hB : Below bm w3 W) => Try.refMany_any s n hs hn (some ⟨b2, off2, none⟩) m c2 ks HM.out (by omega) HKS.out x hx64 W (RowAt.below HW3.out (HBW.out W hB))
            have hp64 : prefixB (ofB s x) n < 18446744073709551616 := prefixB_lt (ofB_lt s x)
            have HGET := Lib.hid fun (W : World) (hB : Below bm w3 W) => (HC3.out.below hB (Nat.le_of_eq HBM.out)).get (prefixB (ofB s x) n) hp64
            have HCELL := Lib.hid fun (W : World) (hB : Below bm w3 W) => (HR3.out.below hB (Nat.lt_of_lt_of_le HR3.out.lt (Nat.le_of_eq HBM.out))).cell 0
            have c0 : wr.cell? ⟨w.heap.size, 0, none⟩ = some (.int .i64 (n : Int)) := HCELL.out _ HB.out
            clear ht hx
            generalize (prefsB s n (onceW ks)).count (prefixB (ofB s x) n) = cc at *
            generalize hp : prefixB (ofB s x) n = p at *
            generalize ofB s x = hx0 at *
            clear hp
            go_wp2_with fail
            go_quiet (first | (go_at_call 11; refine quiet_same (cO _)) | (go_at_call 20; refine quiet_same (cP _)))
            have hBq : Below bm w3 (wr.drewN nq) := by
              clear c0 hc2
              induction nq with
              | zero => exact HB.out
              | succ q ih => exact ih.drew
            have hMq : MetAt (wr.drewN nq) bm k (prefsB s n (ks.take k)) := by
              have h0 : MetAt wr bm k (prefsB s n (ks.take k)) := HMET.out
              clear c0 hc2 hBq
              induction nq with
              | zero => exact h0
              | succ q ih => exact ih.below (Below.refl _ _).drew (Nat.le_refl _)
            clear hc2 c0
            generalize wr.drewN nq = wq at *
            obtain ⟨w5, hrunU, hm5, hg5⟩ := hMq.add p hp64 (by omega)
            rw [← HTT.out] at hm5
            have hB5 : Below bm w3 w5 := hBq.grown hg5 (by have := hBq.size; have := HBM.out; omega) (fun j ej => by injection ej with ej; omega)
            have HM5 := Lib.hid hm5
            have HB5 := Lib.hid hB5
            have hcc : ((cc : Int) != (cc : Int)) = false := by simp
            clear hm5 hB5 hg5 hMq hBq cO cP
            go_upto_region 14 with (fail)
            have hB6 := HB5.out.drew
            have hget := HGET.out _ hB6
            have hcell : w5.drew.cell? ⟨w.heap.size, 0, none⟩ = some (.int .i64 (n : Int)) := HCELL.out _ hB6
            have hle6 : bm ≤ w5.drew.heap.size := by have := HB5.out.size; have := HBM.out; simp; omega
            go_region_held3 (fun W' => W'.cell? ⟨w.heap.size, 0, none⟩ = some (.int .i64 (n : Int))) (first | exact hcell | exact hcell2) (first | (go_at_call 25; refine (CMANY.out _ hB6).mono ?_; rintro e w6 ⟨rfl, hBm⟩; have hB7 := hB6.trans (hBm.mono hle6); have hget2 := HGET.out _ hB7; have hcell2 : w6.cell? ⟨w.heap.size, 0, none⟩ = some (.int .i64 (n : Int)) := HCELL.out _ hB7))
            all_goals
              have HM6 := Lib.hid ((HM5.out.below (Below.refl _ w5).drew (Nat.le_refl _)).below hBm (Nat.le_refl _))
              have HB7 := Lib.hid hB7
              clear hB7 hget hget2 hcell hcell2 hBm hB6
              go_wp2_with fail
              exact ⟨⟨k + 1, by omega, by go_num, HM6, HB7⟩, by simp [intOf]; omega⟩
          · obtain rfl : k = m := by omega
            obtain ⟨z, hl1, hl2⟩ := lens_same (HC3.out.below HB.out (Nat.le_of_eq HBM.out)) HMET.out (fun x => by rw [HPF.out]; exact HPM.out x)
            have hzz : (z != z) = false := by simp
            have hki : ¬ (k : Int) < (k : Int) := by omega
            go_wp2_with fail
            go_meet
            exact ⟨Lib.hid (HR3.out.below (HBW.out wr HB.out) HR3.out.lt), Lib.hid (RowAt.below HW3.out (HBW.out wr HB.out)), Lib.hid (HB3.out.trans (HB.out.mono hz3))⟩
    case rest =>
      obtain ⟨HR5, HW5, HB5⟩ := hcut
      have c1 : wc.cell? ⟨w.heap.size, 1, none⟩ = some (.int .i64 b1) := HR5.out.cell 1
      have cD := Try.Deepest_any 12 Try.sortOk12 s hs b1 a2 m c2 ks HM.out (by omega) (by omega) HKS.out wc HW5.out
      have g3 : ¬ (cx : Int) < (m : Int) := by omega
      have g4 : (m : Int) ≤ (cx : Int) := by omega
      have hks : decide (ks = ks) = true := decide_eq_true rfl
      have CREF := Lib.hid fun (h1 : 1 ≤ b1) (W : World) (hB : Below wc.heap.size wc W) => Try.refDeepest_any s hs b1 h1 a2 m c2 ks HM.out (by omega) HKS.out W (RowAt.below HW5.out hB)
      have CEQ := Lib.hid fun (W : World) (hB : Below wc.heap.size wc W) => Try.equalWords_any a2 ax m m c2 cx ks ks HM.out HM.out (by omega) (by omega) W (RowAt.below HW5.out hB) (by have h := HCUT.out W (HB5.out.trans (hB.mono HB5.out.size)) m hmn; rw [HTM.out m HM.out] at h; exact h)
      clear cM c0 HOR HQ
      go_wp2_with fail
      refine cD.mono ?_
      rintro e w7 ⟨hB7, (⟨h1, rfl⟩ | ⟨h1, d, rfl, hd⟩)⟩
      · have hd1 : decide (b1 < 1) = true := by simp [h1]
        have c7 : w7.cell? ⟨w.heap.size, 1, none⟩ = some (.int .i64 b1) := (HR5.out.below hB7 HR5.out.lt).cell 1
        have HB7 := Lib.hid (HB5.out.trans (hB7.mono HB5.out.size))
        clear hB7 cD c1
        go_wp2_with fail
        go_ret
        exact ⟨rfl, HB7.out⟩
      · have hd1 : decide (b1 < 1) = false := by simp; omega
        have hd2 : ¬ b1 < 1 := by omega
        have c7 : w7.cell? ⟨w.heap.size, 1, none⟩ = some (.int .i64 b1) := (HR5.out.below hB7 HR5.out.lt).cell 1
        have cR := CREF.out h1 w7 hB7
        have H7 := Lib.hid hB7
        have HD := Lib.hid hd
        clear hB7 hd cD c1
        go_wp2_with fail
        refine cR.mono ?_
        rintro e w8 ⟨d', rfl, hd', hB8⟩
        obtain rfl : d' = d := deepAt_one hd' HD.out
        have hdd : ((d' : Int) == (d' : Int)) = true := by simp
        have hB8' := H7.out.trans (hB8.mono H7.out.size)
        have cE := CEQ.out w8 hB8'
        rw [hks] at cE
        have H8 := Lib.hid hB8'
        clear hB8 hB8' hd' cR c7
        go_wp2_with fail
        refine cE.mono ?_
        rintro e w9 ⟨rfl, hB9⟩
        have H9 := Lib.hid (HB5.out.trans ((H8.out.trans (hB9.mono H8.out.size)).mono HB5.out.size))
        clear hB9 cE
        go_wp2_with fail
        go_ret
        exact ⟨rfl, H9.out⟩
theorem laidOut : laidOutB Try.prog = true := by kernel_rfl
set_option maxRecDepth 100000 in
theorem lifted (os : Os) (started : os.Started) (H : Type) (enc : TypeId × Value → H) :
    ReturnsInHanded {} Try.checked os 5 .any (Rows.hashCrowdsSpec.pre6 enc Try.prog Try.f5 Rows.hashCrowdsRow.domain false) (Rows.hashCrowdsSpec.post enc Try.prog Try.f5 false true false false) := by
  refine returnsInHanded_of_change (C := Try.checked) own started (by kernel_rfl) Try.func5
    (ChangeSpec.witness6 (enc := enc) (C := Try.checked) false ⟨#[], #[.int .u64 0, .slice none 0 0, .agg #[.int .i64 0, .int .i64 0]], []⟩ 8 (by kernel_rfl) (by kernel_rfl) (by kernel_rfl) (by kernel_rfl)) ?_
  intro W base args ds gs before hval0 hW hcnd _
  have hval : ∀ (j : Nat) t v, Try.f5.params[j]? = some t → args[j]? = some v → Value.okWide Try.prog W .any base t v := hval0
  have hW' := hW
  obtain ⟨p, q, hA0, hV, rfl, hfz, hnd⟩ := hW
  have hA : DataW.TrodAll enc Try.prog W 0 (fun _ => true) true Try.f5.params.toList args.toList ds p := hA0
  rw [Try.params5] at hA hval
  obtain ⟨v0, vs0, d0, ds0, p0, q0, hargs, rfl, rfl, h0, r0⟩ := trodAll_cons hA
  obtain ⟨v1, vs1, d1, ds1, p1, q1, rfl, rfl, rfl, h1, r1⟩ := trodAll_cons r0
  obtain ⟨v2, vs2, d2, ds2, p2, q2, rfl, rfl, rfl, h2, r2⟩ := trodAll_cons r1
  obtain ⟨rfl, rfl, rfl⟩ := trodAll_nil r2
  obtain rfl : args = #[v0, v1, v2] := by cases args; simp_all
  obtain ⟨rfl, rfl⟩ := trodVars_none hV
  obtain ⟨a0, rfl, rfl, rfl, w0⟩ := open_int Try.underlying22 (hval 0 22 v0 rfl rfl) h0
  obtain ⟨a1, len1, cap1, rfl⟩ := okWide_slice Try.underlying23 (hval 1 23 v1 rfl rfl)
  have k1 := h1
  have lt1 : ∀ x ∈ p1, x.block < W.heap.size := by obtain ⟨m, hm⟩ := k1; exact DataW.trod_lt m _ _ _ hm
  obtain ⟨z1, n1, w1⟩ : ∃ zs, len1 = zs.length ∧ WordsK W (.slice a1 len1 cap1) zs := by
    obtain ⟨fuel, hf⟩ := h1
    exact open_wordsK hf
  have k2 := h2
  have lt2 : ∀ x ∈ p2, x.block < W.heap.size := by obtain ⟨m, hm⟩ := k2; exact DataW.trod_lt m _ _ _ hm
  obtain ⟨a2, b2, rfl, w2, u2⟩ := open_pair (hval 2 37 v2 rfl rfl) h2
  clear hA0 hval0
  refine (walk a0 a1 len1 cap1 z1 a2 b2 W w0 n1 w1).mono fun e W' ⟨he, bel⟩ => ?_
  subst he
  exact ⟨_, rfl, _, _, _, [], _, [], hW', trodAll_mk1 (shut_bool Try.underlying4 _), (trodAll_cons_mk (shut_int Try.underlying22 w0) (trodAll_cons_mk (Below.trod laidOut (by kernel_rfl) (of_decide_eq_true (by kernel_rfl)) k1 bel lt1) (trodAll_cons_mk (Below.trod laidOut (by kernel_rfl) (of_decide_eq_true (by kernel_rfl)) k2 bel lt2) trodAll_mk0))), rfl, bel.frame _, fun h => by cases h⟩

theorem over : Rows.hashCrowdsRow.holds Try.pinned (OpenSpec.ofChange Rows.hashCrowdsSpec) :=
  OpenClaim.holds_of_wide 5 Try.f5 rfl rfl rfl rfl rfl rfl rfl ⟨rfl, rfl, rfl, rfl, rfl⟩ rfl rfl rfl rfl rfl (by kernel_rfl) Try.func5 (by kernel_rfl)
    (of_decide_eq_true (by kernel_rfl)) (by unfold Func.isWrapper; first | (rw [if_pos (by decide +kernel)]; kernel_rfl) | (rw [if_neg (by decide +kernel)]; exact ⟨rfl, rfl⟩))
    (fun os started H enc _ => lifted os started H enc)

theorem proved : Rows.HashCrowdsSaid := over
end Go.Proofs.Ytdpjmabamjgmkaa.hashCrowds
