/- Proved: for every seed, row of keys and number, honeycomblaw07.HashCounts returns true, and its arguments read as they did; no condition. -/
import Derived.Test.YtobomgedghbflaaVz
import Derived.BigQuiet
import Derived.ChangeAt
import Derived.JoinedAt
import Derived.ProofKit
import Derived.OpenShut
import Derived.Deep.Cut
import Derived.Test.YtobomgedghbflaaRows
namespace Go.Proofs.Ytobomgedghbflaa.hashCounts
open Go.ChangeShapes Go.WideShapes Go.ChangeAt Go.RowKit Go.Shelf Go.Deep Go.Maps
attribute [local go_sem] Oper.semAt_some

theorem own : ownKnob Try.prog.godebug = none := by kernel_rfl
theorem words_cut {W : World} {a : Option Addr} {n cap : Nat} {ws : List Int} (hn : n = ws.length) (h : WordsAt W (.slice a n cap) ws) (m : Nat) (hm : m ≤ n) : WordsAt W (.slice a m cap) (ws.take m) := by
  have h2 := RowAt.cut (k := 1) (show RowAt W (.slice a n cap) n 1 (wordVals ws) by rw [hn]; rw [hn] at h; exact h) m hm
  unfold WordsAt
  rw [show (ws.take m).length = m by rw [List.length_take]; omega]
  rw [Nat.mul_one] at h2
  rw [show wordVals (ws.take m) = (wordVals ws).take m by unfold wordVals; rw [List.map_take]]
  exact h2
set_option maxRecDepth 100000 in
set_option maxHeartbeats 8000000 in
theorem walk (a0 : Int) (ax : Option Addr) (nx cx : Nat) (xs : List Int) (z : Int) (w : World) (w0 : (Lit.int .u64 a0).wf = true) (hnx : nx = xs.length) (hX : WordsK w (.slice ax nx cx) xs) (_wz : (Lit.int .i64 z).wf = true) :
    Calls Try.prog 3 #[.int .u64 a0, .slice ax nx cx, .int .i64 z] w fun e w' => e = .returned (.bool true) ∧ Below w.heap.size w w' := by
  obtain ⟨s, rfl, hs⟩ := u64_nat w0
  have hks : KeysOk (xs.take 30) := fun k hk => hX.2 k (List.mem_of_mem_take hk)
  have hcap : nx ≤ cx ∧ cx ≤ maxLen := by
    obtain ⟨_, a', cap', e, h1, h2, _⟩ := hX.1
    cases e
    rw [hnx]
    exact ⟨h1, h2⟩
  have hmx : cx ≤ 9223372036854775807 := by have := hcap.2; unfold maxLen at this; omega
  have hcx := hcap.1
  have hcut : ∀ W, Below w.heap.size w W → ∀ m, m ≤ nx → WordsAt W (.slice ax m cx) (xs.take m) := fun W hW m hm => words_cut hnx (RowAt.below hX.1 hW) m hm
  have HCUT := Lib.hid hcut
  have HKS := Lib.hid hks
  have hlen : (xs.take 30).length = min 30 nx := by rw [List.length_take, hnx]
  have HLEN := Lib.hid hlen
  have HT8 : Hid (nx ≤ 30 → xs.take nx = xs.take 30) := Lib.hid fun h => by rw [hnx] at h ⊢; rw [List.take_length, List.take_of_length_le h]
  have HTM : Hid (∀ m, m = (xs.take 30).length → xs.take m = xs.take 30) := Lib.hid fun m h => by
    rw [h, hlen, hnx]
    rcases Nat.le_total 30 xs.length with h8 | h8
    · rw [Nat.min_eq_left h8]
    · rw [Nat.min_eq_right h8, List.take_length, List.take_of_length_le h8]
  clear hcap hcut hks hX hnx w0 hlen
  generalize xs.take 30 = ks at *
  have ca := fun W => Try.wakes_any W
  go_enter Try.func3, Try.ntmps3
  go_wp2_with fail
  refine (ca _).mono ?_
  rintro e w1 ⟨rfl, hB1⟩
  have HB1 := Lib.hid hB1
  clear hB1 ca
  go_upto_region 3 with (fail)
  go_cut [7] from 19 (fun s7 wc => ∃ (m : Nat) (a2 : Option Addr) (c2 : Nat), s7 = .slice a2 m c2 ∧ m ≤ 30 ∧ Hid (m = ks.length) ∧ Hid (WordsAt wc (.slice a2 m c2) ks) ∧ Hid (Below w.heap.size w wc))
  case first =>
    by_cases hc : nx ≤ 30
    · have g1 : (nx : Int) ≤ 30 := by omega
      have g2 : ¬ (30 : Int) < (nx : Int) := by omega
      have g3 : ¬ (cx : Int) < (nx : Int) := by omega
      have g4 : (nx : Int) ≤ (cx : Int) := by omega
      have g5 : min (nx : Int) 30 = (nx : Int) := by omega
      have hw := HCUT.out w1 HB1.out nx (Nat.le_refl _)
      rw [HT8.out hc] at hw
      have hl : nx = ks.length := by have := HLEN.out; omega
      have cc := Try.cloneWords_any ax nx cx ks hl (by omega) w1 hw
      have HL := Lib.hid hl
      clear hw hl
      go_wp2_with fail
      refine cc.mono ?_
      rintro e w2 ⟨v, rfl, hO, hB2⟩
      obtain ⟨_, a2, c2, rfl, _⟩ := rowAt_own hO
      have HO := Lib.hid (rowAt_own hO)
      have HB2 := Lib.hid hB2
      have hk8 : ks.length ≤ 30 := by have := HL.out; omega
      clear cc hO hB2
      go_wp2_with fail
      go_meet
      exact ⟨_, a2, c2, rfl, hk8, Lib.hid rfl, HO, Lib.hid (HB1.out.trans (HB2.out.mono HB1.out.size))⟩
    · have g1 : ¬ (nx : Int) ≤ 30 := by omega
      have g2 : (30 : Int) < (nx : Int) := by omega
      have g3 : ¬ (cx : Int) < 30 := by omega
      have g4 : (30 : Int) ≤ (cx : Int) := by omega
      have g5 : min (nx : Int) 30 = 30 := by omega
      have hl : 30 = ks.length := by have := HLEN.out; omega
      have hw := HCUT.out w1 HB1.out 30 (by omega)
      rw [HTM.out 30 hl] at hw
      have cc := Try.cloneWords_any ax 30 cx ks hl (by omega) w1 hw
      have HL := Lib.hid hl
      clear hw hl
      go_wp2_with fail
      refine cc.mono ?_
      rintro e w2 ⟨v, rfl, hO, hB2⟩
      obtain ⟨_, a2, c2, rfl, _⟩ := rowAt_own hO
      have HO := Lib.hid (rowAt_own hO)
      have HB2 := Lib.hid hB2
      have hk8 : ks.length ≤ 30 := by have := HL.out; omega
      clear cc hO hB2
      go_wp2_with fail
      go_meet
      exact ⟨_, a2, c2, rfl, hk8, Lib.hid rfl, HO, Lib.hid (HB1.out.trans (HB2.out.mono HB1.out.size))⟩
  case rest =>
    obtain ⟨m, a2, c2, rfl, hm8, HM, HW2, HB2⟩ := hcut
    have cc := Try.cloneWords_any a2 m c2 ks HM.out (by omega) wc HW2.out
    clear HB1
    go_wp2_with fail
    refine cc.mono ?_
    rintro e w3 ⟨v, rfl, hO, hB3⟩
    obtain ⟨_, a3, c3, rfl, _⟩ := rowAt_own hO
    have h30 : ks.length ≤ 30 := by have := HM.out; omega
    have cS := Try.sortOwn wc.heap.size a3 ks.length c3 ks h30 w3 hB3.size hO
    have HB3 := Lib.hid hB3
    clear cc hO hB3
    go_wp2_with fail
    refine cS.mono ?_
    rintro e w4 ⟨rfl, hO, hB4⟩
    have HB4 := Lib.hid (HB3.out.trans hB4)
    have cM := Try.compactOwn wc.heap.size a3 ks.length c3 ks h30 w4 HB4.out.size hO
    clear cS hO hB4
    go_wp2_with fail
    refine cM.mono ?_
    rintro e w5 ⟨⟨a5, c5, rfl⟩, hB5⟩
    have HB5 := Lib.hid (HB4.out.trans hB5)
    have HW5 := Lib.hid (RowAt.below HW2.out HB5.out)
    have HB := Lib.hid (HB2.out.trans (HB5.out.mono HB2.out.size))
    have cD := Try.Deepest_any 30 Try.sortOk30 s hs z a2 m c2 ks HM.out (by omega) (by omega) HKS.out w5 HW5.out
    clear cM hB5 HB3 HB4 HB5 HW2 HB2
    go_wp2_with fail
    refine cD.mono ?_
    rintro e w6 ⟨hB6, hq⟩
    have HB6 := Lib.hid (HB.out.trans (hB6.mono HB.out.size))
    have HW6 := Lib.hid (RowAt.below HW5.out hB6)
    clear cD hB6 HB HW5
    rcases hq with ⟨hz, rfl⟩ | ⟨hz, d, rfl, hd⟩
    · go_wp2_with fail
      go_ret
      exact ⟨rfl, HB6.out⟩
    · have hd64 : d ≤ 64 := hd.1
      have d1 : ¬ (d : Int) < 0 := by omega
      have d2 : ¬ (64 : Int) < (d : Int) := by omega
      have hno : noBitsB (d : Int) = false := by simp [noBitsB]; omega
      have cC := Try.Crowd_any 30 Try.sortOk30 s hs (d : Int) a2 m c2 ks HM.out (by omega) (by omega) HKS.out w6 HW6.out
      have HD := Lib.hid hd
      clear hd
      go_wp2_with fail
      refine cC.mono ?_
      rintro e w7 ⟨hB7, hq⟩
      rcases hq with ⟨hbad, _⟩ | ⟨_, b, rfl, hb, hct⟩
      · rw [hno] at hbad; cases hbad
      rw [Int.toNat_natCast] at hct
      obtain ⟨ps, hps⟩ : ∃ ps, ps = prefsB s d (onceW ks) := ⟨_, rfl⟩
      rw [← hps] at hct
      obtain ⟨Dm, hown, hDm⟩ := hct
      have hlen7 : ps.length = (onceW ks).length := by rw [hps]; simp [prefsB]
      have hL30 : (onceW ks).length ≤ 30 := by have := onceW_le ks; omega
      have hov : overB ps z = false := by rw [hps]; exact HD.out.2.1
      have HB7 := Lib.hid (HB6.out.trans (hB7.mono HB6.out.size))
      have HW7 := Lib.hid (RowAt.below HW6.out hB7)
      have HPS := Lib.hid hps
      have HCnt := Lib.hid hDm
      have HOV := Lib.hid hov
      clear cC hB7 hps hDm hov HB6 HW6 hb
      obtain ⟨L, hL⟩ : ∃ L, L = (onceW ks).length := ⟨_, rfl⟩
      rw [← hL] at hlen7 hL30 hown ⊢
      have HL := Lib.hid hL
      clear hL
      go_wp2_with (first
        | (at_range; refine wpList_range_own _ rfl _ 30 rfl 22 3 Try.lawU Try.underlying30 _ b L Dm rfl hown ?_; intro w8 hrg0 hg0 hs0))
      go_frame
      go_loopw [13, 14] (fun va vm wr => ∃ (left : Lit → Bool) (cnt A M : Nat), va = .int .i64 (A : Int) ∧ vm = .int .i64 (M : Int) ∧ A ≤ 30 ∧ M ≤ 30 ∧ wr.ranges Try.prog 22 (plainElem Try.prog 3) b w7.heap.size L Dm left cnt ∧ w7.grownBy wr none ∧
          Hid (A = (ps.filter fun p : Nat => !left (.int .u64 (p : Int))).length) ∧ Hid ((∀ p ∈ ps, left (.int .u64 (p : Int)) = false → ps.count p ≤ M) ∧ (M = 0 ∨ ∃ p ∈ ps, ps.count p = M)))
        (fun _ _ wr => wr.rangeLeft b w7.heap.size)
      case atStart =>
        have h0 : ∀ p ∈ ps, has Dm (.int .u64 (p : Int)) = true := fun p hp => (HCnt.out.2.1 _).2 ⟨p, hp, rfl⟩
        refine ⟨_, _, 0, 0, rfl, rfl, by omega, by omega, hrg0, hg0, Lib.hid ?_, Lib.hid ⟨fun p hp h => ?_, .inl rfl⟩⟩
        · rw [List.filter_eq_nil_iff.2 (fun p hp => by rw [h0 p hp]; simp)]; rfl
        · rw [h0 p hp] at h; cases h
      case round =>
        obtain ⟨left, cnt, A, M, rfl, rfl, hA30, hM30, hrg, hgw, hAf, hMo⟩ := hrel
        go_wp2_with (first
          | (at_next; refine wpList_next_ranges_ii _ rfl _ rfl 22 3 .u64 .i64 Try.lawU Try.underlying22 Try.underlying3 b w7.heap.size L _ _ _ rfl hrg ?_ ?_))
        · intro _ hl0
          have hAL : A = L := by
            rw [hAf.out, List.filter_eq_self.2 (fun p _ => by rw [hl0]; rfl), hlen7]
          subst hAL
          have hmost : decide (z < (M : Int)) = false := by
            rw [over_most hz (fun p hp => hMo.out.1 p hp (hl0 _)) hMo.out.2]; exact HOV.out
          have hzM : ¬ z < (M : Int) := of_decide_eq_false hmost
          have hB8 : Below w7.heap.size w7 wr := ⟨hgw.os, hgw.tape, hgw.output, hgw.size, fun k hk => hgw.block k hk (by simp)⟩
          have HB8 := Lib.hid (HB7.out.trans (hB8.mono HB7.out.size))
          have HW8 := Lib.hid (RowAt.below HW7.out hB8)
          have hAA : ((A : Int) != (A : Int)) = false := by simp
          have hLz : Hid (d = 0 → (A : Int) ≤ z) := Lib.hid fun h0 => by
            have e : ps = (onceW ks).map fun _ => 0 := by rw [HPS.out, h0, prefs0]
            by_cases hA0 : A = 0
            · omega
            · have h1 : (0 : Nat) ∈ ps := by
                rw [e]
                cases hu : onceW ks with
                | nil => rw [hu] at e; rw [e] at hlen7; simp at hlen7; omega
                | cons x t => simp
              have h2 := hMo.out.1 0 h1 (hl0 _)
              have h3 : ps.count 0 = A := by
                rw [← hlen7, List.count_eq_length]
                intro x hx
                rw [e] at hx
                simp at hx
                exact hx.2
              omega
          clear hmost hl0 hAf hMo hrg hgw hB8 hown hrg0 hg0 hs0 HB7 HW7 HCnt HOV HPS hlen7
          by_cases hd0 : d = 0
          · have q0 : ((d : Int) == 0) = true := by simp; omega
            have q1 : (A : Int) ≤ z := hLz.out hd0
            have q2 : decide ((A : Int) ≤ z) = true := by simp; omega
            go_wp2_with fail
            go_ret
            exact ⟨rfl, HB8.out⟩
          · have q0 : ((d : Int) == 0) = false := by simp; omega
            obtain ⟨k, hk⟩ : ∃ k : Nat, k = d - 1 := ⟨_, rfl⟩
            have hdk : (d : Int) - 1 = (k : Int) := by omega
            have hno2 : noBitsB (k : Int) = false := by simp [noBitsB]; omega
            have hov2 : overB (prefsB s k (onceW ks)) z = true := by rw [hk]; exact HD.out.2.2 (by omega)
            have cC := Try.Crowd_any 30 Try.sortOk30 s hs (k : Int) a2 m c2 ks HM.out (by omega) (by omega) HKS.out wr HW8.out
            clear hk
            go_wp2_with fail
            (try rw [hdk])
            refine cC.mono ?_
            rintro e w9 ⟨hB9, hq⟩
            rcases hq with ⟨hbad, _⟩ | ⟨_, b2, rfl, hb2, hct⟩
            · rw [hno2] at hbad; cases hbad
            rw [Int.toNat_natCast] at hct
            obtain ⟨pt, hpt⟩ : ∃ pt, pt = prefsB s k (onceW ks) := ⟨_, rfl⟩
            rw [← hpt] at hct hov2
            obtain ⟨Dt, hown2, hDt⟩ := hct
            have hlen9 : pt.length = A := by rw [hpt, HL.out]; simp [prefsB]
            rw [← HL.out] at hown2
            have HB9 := Lib.hid (HB8.out.trans (hB9.mono HB8.out.size))
            have HCnt2 := Lib.hid hDt
            have HOV2 := Lib.hid hov2
            clear cC hB9 hpt hDt hov2 HB8 HW8 hb2
            go_wp2_with (first
              | (at_range; refine wpList_range_own _ rfl _ 30 rfl 22 3 Try.lawU Try.underlying30 _ b2 A Dt rfl hown2 ?_; intro w10 hrg0 hg0 hs0))
            go_frame
            go_loopw [14] (fun vm wr => ∃ (left : Lit → Bool) (cnt M : Nat), vm = .int .i64 (M : Int) ∧ M ≤ 30 ∧ wr.ranges Try.prog 22 (plainElem Try.prog 3) b2 w9.heap.size A Dt left cnt ∧ w9.grownBy wr none ∧
                Hid ((∀ p ∈ pt, left (.int .u64 (p : Int)) = false → pt.count p ≤ M) ∧ (M = 0 ∨ ∃ p ∈ pt, pt.count p = M)))
              (fun _ wr => wr.rangeLeft b2 w9.heap.size)
            case atStart =>
              have h0 : ∀ p ∈ pt, has Dt (.int .u64 (p : Int)) = true := fun p hp => (HCnt2.out.2.1 _).2 ⟨p, hp, rfl⟩
              refine ⟨_, _, 0, rfl, by omega, hrg0, hg0, Lib.hid ⟨fun p hp h => ?_, .inl rfl⟩⟩
              rw [h0 p hp] at h; cases h
            case round =>
              clear hM30 hzM
              obtain ⟨left, cnt, M, rfl, hM30, hrg, hgw, hMo⟩ := hrel
              go_wp2_with (first
                | (at_next; refine wpList_next_ranges_ii _ rfl _ rfl 22 3 .u64 .i64 Try.lawU Try.underlying22 Try.underlying3 b2 w9.heap.size A _ _ _ rfl hrg ?_ ?_))
              · intro _ hl0
                have hmost : decide (z < (M : Int)) = true := by
                  rw [over_most hz (fun p hp => hMo.out.1 p hp (hl0 _)) hMo.out.2]; exact HOV2.out
                have hzM : z < (M : Int) := of_decide_eq_true hmost
                have hB10 : Below w9.heap.size w9 wr := ⟨hgw.os, hgw.tape, hgw.output, hgw.size, fun k hk => hgw.block k hk (by simp)⟩
                have HB10 := Lib.hid (HB9.out.trans (hB10.mono HB9.out.size))
                clear hl0 hMo hrg hgw hB10 hown2 hrg0 hg0 hs0 HB9
                go_wp2_with fail
                go_ret
                exact ⟨rfl, HB10.out⟩
              · intro x c w11 cnt1 hwx hwc hlx hat hrg1 hlt hg1 hs1 hen
                have hgw1 := hgw.andThen hg1 (fun j hj => by cases hj; exact Or.inl (Nat.le_refl _))
                obtain ⟨p, hp, rfl, rfl⟩ := cnt_at HCnt2.out hat
                have hcle : pt.count p ≤ pt.length := List.count_le_length
                obtain ⟨cn, hcn⟩ : ∃ cn, cn = pt.count p := ⟨_, rfl⟩
                have hMN : Hid (∀ M', M ≤ M' → cn ≤ M' → (M' = M ∨ M' = cn) → (∀ q ∈ pt, (left (.int .u64 (q : Int)) && !(Lit.int .u64 (q : Int)).sameKey (.int .u64 (p : Int))) = false → pt.count q ≤ M') ∧ (M' = 0 ∨ ∃ q ∈ pt, pt.count q = M')) := Lib.hid fun M' h1 h2 h3 => by
                  refine ⟨fun q hq hl => ?_, ?_⟩
                  · by_cases e : q = p
                    · subst e; omega
                    · rw [Maps.sameKey_ne (key_ne e)] at hl
                      have := hMo.out.1 q hq (by simpa using hl)
                      omega
                  · rcases h3 with rfl | rfl
                    · exact hMo.out.2
                    · exact .inr ⟨p, hp, hcn.symm⟩
                rw [← hcn] at hcle hen ⊢
                have hc30 : cn ≤ 30 := by omega
                clear hat hwx hwc hcn hcle hMo
                by_cases hc : M < cn
                · have m1 : (M : Int) < (cn : Int) := by omega
                  have m2 : max (M : Int) (cn : Int) = (cn : Int) := by omega
                  go_wp2_with fail
                  go_roundw
                  case rel => exact ⟨_, cnt1, cn, rfl, hc30, hrg1, hgw1, Lib.hid (hMN.out cn (by omega) (by omega) (.inr rfl))⟩
                  case measure => rw [hrg1.left_eq, hrg.left_eq]; exact hlt
                · have m1 : ¬ (M : Int) < (cn : Int) := by omega
                  have m2 : max (M : Int) (cn : Int) = (M : Int) := by omega
                  go_wp2_with fail
                  go_roundw
                  case rel => exact ⟨_, cnt1, M, rfl, hM30, hrg1, hgw1, Lib.hid (hMN.out M (by omega) (by omega) (.inl rfl))⟩
                  case measure => rw [hrg1.left_eq, hrg.left_eq]; exact hlt
        · intro x c w9 cnt1 hwx hwc hlx hat hrg1 hlt hg1 hs1 hen
          have hgw1 := hgw.andThen hg1 (fun j hj => by cases hj; exact Or.inl (Nat.le_refl _))
          obtain ⟨p, hp, rfl, rfl⟩ := cnt_at HCnt.out hat
          have hkey : WideAt.IsKeyLit (.int .u64 (p : Int)) := by trivial
          obtain ⟨g, hg⟩ : ∃ g : Nat → Bool, g = fun q : Nat => !(left (.int .u64 (q : Int)) && !(Lit.int .u64 (q : Int)).sameKey (.int .u64 (p : Int))) := ⟨_, rfl⟩
          have hfa : (ps.filter g).length = A + ps.count p := by
            rw [hAf.out]
            refine filter_add (f := fun q : Nat => !left (.int .u64 (q : Int))) (by rw [hlx]; rfl) (fun y => ?_) ps
            rw [hg]
            by_cases e : y = p
            · subst e; simp [WideAt.sameKey_self hkey]
            · simp [Maps.sameKey_ne (key_ne e), e]
          have hAle : (ps.filter g).length ≤ ps.length := List.length_filter_le _ _
          have hcle : ps.count p ≤ ps.length := List.count_le_length
          obtain ⟨cn, hcn⟩ : ∃ cn, cn = ps.count p := ⟨_, rfl⟩
          have hMN : Hid (∀ M', M ≤ M' → cn ≤ M' → (M' = M ∨ M' = cn) → (∀ q ∈ ps, (left (.int .u64 (q : Int)) && !(Lit.int .u64 (q : Int)).sameKey (.int .u64 (p : Int))) = false → ps.count q ≤ M') ∧ (M' = 0 ∨ ∃ q ∈ ps, ps.count q = M')) := Lib.hid fun M' h1 h2 h3 => by
            refine ⟨fun q hq hl => ?_, ?_⟩
            · by_cases e : q = p
              · subst e; omega
              · rw [Maps.sameKey_ne (key_ne e)] at hl
                have := hMo.out.1 q hq (by simpa using hl)
                omega
            · rcases h3 with rfl | rfl
              · exact hMo.out.2
              · exact .inr ⟨p, hp, hcn.symm⟩
          have hAN : Hid (A + cn = (ps.filter fun q : Nat => !(left (.int .u64 (q : Int)) && !(Lit.int .u64 (q : Int)).sameKey (.int .u64 (p : Int)))).length) := Lib.hid (by rw [← hg, hfa, hcn])
          rw [← hcn] at hfa hcle hen ⊢
          have hAc : A + cn ≤ 30 := by omega
          have hc30 : cn ≤ 30 := by omega
          clear hat hwx hwc hcn hg hfa hAle hcle hAf hMo hkey
          by_cases hc : M < cn
          · have m1 : (M : Int) < (cn : Int) := by omega
            have m2 : max (M : Int) (cn : Int) = (cn : Int) := by omega
            go_wp2_with fail
            go_roundw
            case rel => exact ⟨_, cnt1, A + cn, cn, by go_num, rfl, hAc, hc30, hrg1, hgw1, hAN, Lib.hid (hMN.out cn (by omega) (by omega) (.inr rfl))⟩
            case measure => rw [hrg1.left_eq, hrg.left_eq]; exact hlt
          · have m1 : ¬ (M : Int) < (cn : Int) := by omega
            have m2 : max (M : Int) (cn : Int) = (M : Int) := by omega
            go_wp2_with fail
            go_roundw
            case rel => exact ⟨_, cnt1, A + cn, M, by go_num, rfl, hAc, hM30, hrg1, hgw1, hAN, Lib.hid (hMN.out M (by omega) (by omega) (.inl rfl))⟩
            case measure => rw [hrg1.left_eq, hrg.left_eq]; exact hlt
theorem laidOut : laidOutB Try.prog = true := by kernel_rfl
set_option maxRecDepth 100000 in
theorem lifted (os : Os) (started : os.Started) (H : Type) (enc : TypeId × Value → H) :
    ReturnsInHanded {} Try.checked os 3 .any (Rows.hashCountsSpec.pre6 enc Try.prog Try.f3 Rows.hashCountsRow.domain false) (Rows.hashCountsSpec.post enc Try.prog Try.f3 false true false false) := by
  refine returnsInHanded_of_change (C := Try.checked) own started (by kernel_rfl) Try.func3
    (ChangeSpec.witness6 (enc := enc) (C := Try.checked) false ⟨#[], #[.int .u64 0, .slice none 0 0, .int .i64 0], []⟩ 8 (by kernel_rfl) (by kernel_rfl) (by kernel_rfl) (by kernel_rfl)) ?_
  intro W base args ds gs before hval0 hW hcnd _
  have hval : ∀ (j : Nat) t v, Try.f3.params[j]? = some t → args[j]? = some v → Value.okWide Try.prog W .any base t v := hval0
  have hW' := hW
  obtain ⟨p, q, hA0, hV, rfl, hfz, hnd⟩ := hW
  have hA : DataW.TrodAll enc Try.prog W 0 (fun _ => true) true Try.f3.params.toList args.toList ds p := hA0
  rw [Try.params3] at hA hval
  obtain ⟨v0, vs0, d0, ds0, p0, q0, hargs, rfl, rfl, h0, r0⟩ := trodAll_cons hA
  obtain ⟨v1, vs1, d1, ds1, p1, q1, rfl, rfl, rfl, h1, r1⟩ := trodAll_cons r0
  obtain ⟨v2, vs2, d2, ds2, p2, q2, rfl, rfl, rfl, h2, r2⟩ := trodAll_cons r1
  obtain ⟨rfl, rfl, rfl⟩ := trodAll_nil r2
  obtain rfl : args = #[v0, v1, v2] := by cases args; simp_all
  obtain ⟨rfl, rfl⟩ := trodVars_none hV
  obtain ⟨a0, rfl, rfl, rfl, w0⟩ := open_int Try.underlying22 (hval 0 22 v0 rfl rfl) h0
  obtain ⟨a1, len1, cap1, rfl⟩ := okWide_slice Try.underlying23 (hval 1 23 v1 rfl rfl)
  have k1 := h1
  have lt1 : ∀ x ∈ p1, x.block < W.heap.size := by obtain ⟨m, hm⟩ := k1; exact DataW.trod_lt m _ _ _ hm
  obtain ⟨z1, n1, w1⟩ : ∃ zs, len1 = zs.length ∧ WordsK W (.slice a1 len1 cap1) zs := by
    obtain ⟨fuel, hf⟩ := h1
    exact open_wordsK hf
  obtain ⟨a2, rfl, rfl, rfl, w2⟩ := open_int Try.underlying3 (hval 2 3 v2 rfl rfl) h2
  clear hA0 hval0
  refine (walk a0 a1 len1 cap1 z1 a2 W w0 n1 w1 w2).mono fun e W' ⟨he, bel⟩ => ?_
  subst he
  exact ⟨_, rfl, _, _, _, [], _, [], hW', trodAll_mk1 (shut_bool Try.underlying4 _), (trodAll_cons_mk (shut_int Try.underlying22 w0) (trodAll_cons_mk (Below.trod laidOut (by kernel_rfl) (of_decide_eq_true (by kernel_rfl)) k1 bel lt1) (trodAll_cons_mk (shut_int Try.underlying3 w2) trodAll_mk0))), rfl, bel.frame _, fun h => by cases h⟩

theorem over : Rows.hashCountsRow.holds Try.pinned (OpenSpec.ofChange Rows.hashCountsSpec) :=
  OpenClaim.holds_of_wide 3 Try.f3 rfl rfl rfl rfl rfl rfl rfl ⟨rfl, rfl, rfl, rfl, rfl⟩ rfl rfl rfl rfl rfl (by kernel_rfl) Try.func3 (by kernel_rfl)
    (of_decide_eq_true (by kernel_rfl)) (by unfold Func.isWrapper; first | (rw [if_pos (by decide +kernel)]; kernel_rfl) | (rw [if_neg (by decide +kernel)]; exact ⟨rfl, rfl⟩))
    (fun os started H enc _ => lifted os started H enc)

theorem proved : Rows.HashCountsSaid := over
end Go.Proofs.Ytobomgedghbflaa.hashCounts
