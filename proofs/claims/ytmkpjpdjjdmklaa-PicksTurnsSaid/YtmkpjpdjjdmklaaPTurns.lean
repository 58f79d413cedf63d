/- Proved: for every number of goroutines, row of turns and w, honeycomblaw04.PicksTurns returns true, and its arguments read as they did; no condition. -/
import Derived.Test.YtmkpjpdjjdmklaaKw
import Derived.BigQuiet
import Derived.ChangeAt
import Derived.JoinedAt
import Derived.ProofKit
import Derived.OpenShut
import Derived.Test.YtmkpjpdjjdmklaaRows
namespace Go.Proofs.Ytmkpjpdjjdmklaa.picksTurns
open Go.ChangeShapes Go.WideShapes Go.ChangeAt Go.RowKit Go.Shelf
attribute [local go_sem] Oper.semAt_some

theorem own : ownKnob Try.prog.godebug = none := by kernel_rfl
theorem form {n₀ : Nat} {ts : List Tn} {v : Value} {W : World} (h : OwnsT n₀ ts v W) : ∃ a c, v = .slice a ts.length c := by
  obtain ⟨_, ⟨_, a, c, e, _⟩, _⟩ := h.at
  exact ⟨a, c, e⟩

set_option maxRecDepth 100000 in
set_option maxHeartbeats 2000000 in
theorem walk (N : Int) (at_ : Option Addr) (nt ct : Nat) (zs : List Tn) (q : Int) (W : World) (_ : (Lit.int .i64 N).wf = true) (hnt : nt = zs.length) (hT : TurnsAt W (.slice at_ nt ct) zs) (_ : (Lit.int .i64 q).wf = true) :
    Calls Try.prog 4 #[.int .i64 N, .slice at_ nt ct, .int .i64 q] W fun e w' => e = .returned (.bool true) ∧ Below W.heap.size W w' := by
  have HFEW := Lib.hid (fun w h => Try.few_any at_ nt ct zs w (hT.below h))
  have HFB := Lib.hid (fewB_can zs)
  have hfl := fewB_length zs
  clear hT hnt
  generalize fewB zs = ts at *
  have HRI := Lib.hid (fun a c W h1 => Try.Right_any N a ts.length c ts W h1)
  have HCK := Lib.hid (fun a c W h1 => Try.Check_any N a ts.length c ts W h1)
  have HHU := Lib.hid (fun a c W h1 => Try.Hungry_any N q a ts.length c ts W h1)
  have HSH := Lib.hid (fun a c W h1 => Try.Shares_any N a ts.length c ts W h1)
  have HLE := Lib.hid (fun a c W h1 => Try.Least_any N a ts.length c ts (by omega) W h1)
  have HLA := Lib.hid (fun a c W h1 => Try.Laps_any N a ts.length c ts (by omega) W h1)
  have HSA := Lib.hid (fun a1 a2 c1 c2 W h1 h2 => Try.sameSelf_any ts (by omega) HFB.out a1 a2 c1 c2 W h1 h2)
  have HEQ := Lib.hid (fun (cs : List Int) (h9 : cs.length ≤ 10000) a1 a2 c1 c2 W h1 h2 => Try.equalSame_any a1 a2 cs.length c1 c2 cs rfl h9 W h1 h2)
  go_enter Try.func4, Try.ntmps4
  go_wp2_with fail
  refine (Try.wakes_any _).mono ?_
  rintro e w1 ⟨rfl, B1⟩
  go_wp2_with fail
  refine (HFEW.out w1 B1).mono ?_
  rintro e w2 ⟨v1, rfl, o1, hB2⟩
  obtain ⟨a1, c1, rfl⟩ := form o1
  have HT2 := Lib.hid o1.at
  have HB2 := Lib.hid (B1.trans (hB2.mono B1.size))
  clear o1 hB2 B1
  go_wp2_with fail
  refine (HRI.out a1 c1 w2 HT2.out).mono ?_
  rintro e w3 ⟨rfl, hB3⟩
  have HT3 := Lib.hid (HT2.out.below hB3)
  have HB3 := Lib.hid (HB2.out.trans (hB3.mono HB2.out.size))
  have hck := HCK.out a1 c1 w3 HT3.out
  clear hB3 HT2 HB2
  cases hr : rightB N ts with
  | false =>
    have e1 : hungryR N ts q = [] := by unfold hungryR; rw [if_neg (by rw [hr]; decide)]
    have e2 : sharesR N ts = [] := by unfold sharesR; rw [if_neg (by rw [hr]; decide)]
    have e3 : leastR N ts = 0 := by unfold leastR; rw [if_neg (by rw [hr]; decide)]
    have e4 : lapsR N ts = 0 := by unfold lapsR; rw [if_neg (by rw [hr]; decide)]
    rw [show checkB N ts = 140 by unfold checkB; rw [if_neg (by rw [hr]; decide)]] at hck
    rw [e1] at HHU
    rw [e2] at HSH
    rw [e3] at HLE
    rw [e4] at HLA
    have HK := Lib.hid hck
    clear hr hck e1 e2 e3 e4
    go_wp2_with fail
    refine HK.out.mono ?_
    rintro e w4 ⟨rfl, hB4⟩
    have HT4 := Lib.hid (HT3.out.below hB4)
    have HB4 := Lib.hid (HB3.out.trans (hB4.mono HB3.out.size))
    clear hB4 HT3 HB3 HK
    go_wp2_with fail
    refine (HHU.out a1 c1 w4 HT4.out).mono ?_
    rintro e w5 ⟨a5, c5, rfl, h5, hB5⟩
    have HI5 := Lib.hid h5
    have HT5 := Lib.hid (HT4.out.below hB5)
    have HB5 := Lib.hid (HB4.out.trans (hB5.mono HB4.out.size))
    clear hB5 h5 HT4 HB4
    rw [show ([] : List Int).length = 0 from rfl]
    go_wp2_with fail
    refine (HEQ.out [] (by decide) a5 none c5 0 w5 HI5.out (ints_none _)).mono ?_
    rintro e w6 ⟨rfl, hB6⟩
    have HT6 := Lib.hid (HT5.out.below hB6)
    have HB6 := Lib.hid (HB5.out.trans (hB6.mono HB5.out.size))
    clear hB6 HT5 HB5 HI5
    go_wp2_with fail
    refine (HSH.out a1 c1 w6 HT6.out).mono ?_
    rintro e w7 ⟨a7, c7, rfl, h7, hB7⟩
    have HI7 := Lib.hid h7
    have HT7 := Lib.hid (HT6.out.below hB7)
    have HB7 := Lib.hid (HB6.out.trans (hB7.mono HB6.out.size))
    clear hB7 h7 HT6 HB6
    rw [show ([] : List Int).length = 0 from rfl]
    go_wp2_with fail
    refine (HEQ.out [] (by decide) a7 none c7 0 w7 HI7.out (ints_none _)).mono ?_
    rintro e w8 ⟨rfl, hB8⟩
    have HT8 := Lib.hid (HT7.out.below hB8)
    have HB8 := Lib.hid (HB7.out.trans (hB8.mono HB7.out.size))
    clear hB8 HT7 HB7 HI7
    go_wp2_with fail
    refine (HLE.out a1 c1 w8 HT8.out).mono ?_
    rintro e w9 ⟨rfl, hB9⟩
    have HT9 := Lib.hid (HT8.out.below hB9)
    have HB9 := Lib.hid (HB8.out.trans (hB9.mono HB8.out.size))
    clear hB9 HT8 HB8
    go_wp2_with fail
    refine (HLA.out a1 c1 w9 HT9.out).mono ?_
    rintro e w10 ⟨rfl, hB10⟩
    have HT10 := Lib.hid (HT9.out.below hB10)
    have HB10 := Lib.hid (HB9.out.trans (hB10.mono HB9.out.size))
    clear hB10 HT9 HB9
    go_wp2_with fail
    refine (HFEW.out w10 HB10.out).mono ?_
    rintro e w11 ⟨v11, rfl, o11, hB11⟩
    obtain ⟨a11, c11, rfl⟩ := form o11
    have HT11 := Lib.hid (HT10.out.below hB11)
    have HO11 := Lib.hid (OwnsT.at o11)
    have HB11 := Lib.hid (HB10.out.trans (hB11.mono HB10.out.size))
    clear hB11 HT10 HB10 o11
    go_wp2_with fail
    refine (HSA.out a1 a11 c1 c11 w11 HT11.out HO11.out).mono ?_
    rintro e w12 ⟨rfl, hB12⟩
    have HB12 := Lib.hid (HB11.out.trans (hB12.mono HB11.out.size))
    clear hB12
    go_wp2_with fail
    go_ret
    exact ⟨rfl, HB12.out⟩
  | true =>
    have hall : ∀ t ∈ ts, rightT N t = true := by
      unfold rightB at hr
      rw [Bool.and_eq_true, List.all_eq_true] at hr
      exact hr.2
    obtain ⟨m, rfl, hm1, hm8⟩ := rightB_n hr
    have e1 : hungryR m ts q = hungryB m ts q := by unfold hungryR; rw [if_pos hr]; rfl
    have e2 : sharesR m ts = sharesB m ts := by unfold sharesR; rw [if_pos hr]; rfl
    have e3 : leastR m ts = (leastB m ts : Nat) := by unfold leastR; rw [if_pos hr]; rfl
    have e4 : lapsR m ts = (lapsB m ts : Nat) := by unfold lapsR; rw [if_pos hr]; rfl
    rw [show checkB m ts = 0 by unfold checkB; rw [if_pos hr]] at hck
    rw [e1] at HHU
    rw [e2] at HSH
    rw [e3] at HLE
    rw [e4] at HLA
    have HK := Lib.hid hck
    have HRH := Lib.hid (fun a c W h1 => Try.refHungry_any m hm8 q a ts.length c ts (by omega) W h1)
    have HRS := Lib.hid (fun a c W h1 => Try.refShares_any m hm1 hm8 a ts.length c ts hall W h1)
    have HRL := Lib.hid (fun a c W h1 => Try.refLeast_any m hm8 a ts.length c ts (by omega) W h1)
    have HRP := Lib.hid (fun a c W h1 => Try.refLaps_any m hm8 a ts.length c ts W h1)
    have hl1 := hungryB_length m ts q
    have hl2 := sharesB_length m ts
    have hl2' : (sharesB m ts).length ≤ 10000 := by omega
    clear hr hck e1 e2 e3 e4 hall hl2
    generalize hungryB m ts q = hu at *
    generalize sharesB m ts = sh at *
    generalize leastB m ts = le at *
    generalize lapsB m ts = la at *
    have hle : ((le : Int) == (le : Int)) = true := by simp
    have hla : ((la : Int) == (la : Int)) = true := by simp
    go_wp2_with fail
    refine HK.out.mono ?_
    rintro e w4 ⟨rfl, hB4⟩
    have HT4 := Lib.hid (HT3.out.below hB4)
    have HB4 := Lib.hid (HB3.out.trans (hB4.mono HB3.out.size))
    clear hB4 HT3 HB3 HK
    go_wp2_with fail
    refine (HRH.out a1 c1 w4 HT4.out).mono ?_
    rintro e x1 ⟨vh, rfl, oh, hC1⟩
    obtain ⟨_, ah, ch, rfl, _⟩ := rowAt_own oh
    have JT1 := Lib.hid (HT4.out.below hC1)
    have JH1 := Lib.hid (show IntsAt x1 (.slice ah hu.length ch) hu from rowAt_own oh)
    have JB1 := Lib.hid (HB4.out.trans (hC1.mono HB4.out.size))
    clear hC1 oh HT4 HB4 HRH
    go_wp2_with fail
    refine (HRS.out a1 c1 x1 JT1.out).mono ?_
    rintro e x2 ⟨ash, csh, rfl, hs, hC2⟩
    have JT2 := Lib.hid (JT1.out.below hC2)
    have JH2 := Lib.hid (RowAt.below JH1.out hC2)
    have JS2 := Lib.hid hs
    have JB2 := Lib.hid (JB1.out.trans (hC2.mono JB1.out.size))
    clear hC2 hs JT1 JH1 JB1 HRS
    go_wp2_with fail
    refine (HRL.out a1 c1 x2 JT2.out).mono ?_
    rintro e x3 ⟨rfl, hC3⟩
    have JT3 := Lib.hid (JT2.out.below hC3)
    have JH3 := Lib.hid (RowAt.below JH2.out hC3)
    have JS3 := Lib.hid (RowAt.below JS2.out hC3)
    have JB3 := Lib.hid (JB2.out.trans (hC3.mono JB2.out.size))
    clear hC3 JT2 JH2 JS2 JB2 HRL
    go_wp2_with fail
    refine (HRP.out a1 c1 x3 JT3.out).mono ?_
    rintro e x4 ⟨rfl, hC4⟩
    have JT4 := Lib.hid (JT3.out.below hC4)
    have JH4 := Lib.hid (RowAt.below JH3.out hC4)
    have JS4 := Lib.hid (RowAt.below JS3.out hC4)
    have JB4 := Lib.hid (JB3.out.trans (hC4.mono JB3.out.size))
    clear hC4 JT3 JH3 JS3 JB3 HRP
    go_wp2_with fail
    refine (HHU.out a1 c1 x4 JT4.out).mono ?_
    rintro e w5 ⟨a5, c5, rfl, h5, hB5⟩
    have HI5 := Lib.hid h5
    have HH5 := Lib.hid (RowAt.below JH4.out hB5)
    have HS5 := Lib.hid (RowAt.below JS4.out hB5)
    have HT5 := Lib.hid (JT4.out.below hB5)
    have HB5 := Lib.hid (JB4.out.trans (hB5.mono JB4.out.size))
    clear hB5 h5 JT4 JB4 JH4 JS4
    go_wp2_with fail
    refine (HEQ.out hu (by omega) a5 ah c5 ch w5 HI5.out HH5.out).mono ?_
    rintro e w6 ⟨rfl, hB6⟩
    have HT6 := Lib.hid (HT5.out.below hB6)
    have HS6 := Lib.hid (RowAt.below HS5.out hB6)
    have HB6 := Lib.hid (HB5.out.trans (hB6.mono HB5.out.size))
    clear hB6 HT5 HB5 HI5 HH5 HS5
    go_wp2_with fail
    refine (HSH.out a1 c1 w6 HT6.out).mono ?_
    rintro e w7 ⟨a7, c7, rfl, h7, hB7⟩
    have HI7 := Lib.hid h7
    have HS7 := Lib.hid (RowAt.below HS6.out hB7)
    have HT7 := Lib.hid (HT6.out.below hB7)
    have HB7 := Lib.hid (HB6.out.trans (hB7.mono HB6.out.size))
    clear hB7 h7 HT6 HB6 HS6
    go_wp2_with fail
    refine (HEQ.out sh hl2' a7 ash c7 csh w7 HI7.out HS7.out).mono ?_
    rintro e w8 ⟨rfl, hB8⟩
    have HT8 := Lib.hid (HT7.out.below hB8)
    have HB8 := Lib.hid (HB7.out.trans (hB8.mono HB7.out.size))
    clear hB8 HT7 HB7 HI7 HS7
    go_wp2_with fail
    refine (HLE.out a1 c1 w8 HT8.out).mono ?_
    rintro e w9 ⟨rfl, hB9⟩
    have HT9 := Lib.hid (HT8.out.below hB9)
    have HB9 := Lib.hid (HB8.out.trans (hB9.mono HB8.out.size))
    clear hB9 HT8 HB8
    go_wp2_with fail
    refine (HLA.out a1 c1 w9 HT9.out).mono ?_
    rintro e w10 ⟨rfl, hB10⟩
    have HT10 := Lib.hid (HT9.out.below hB10)
    have HB10 := Lib.hid (HB9.out.trans (hB10.mono HB9.out.size))
    clear hB10 HT9 HB9
    go_wp2_with fail
    refine (HFEW.out w10 HB10.out).mono ?_
    rintro e w11 ⟨v11, rfl, o11, hB11⟩
    obtain ⟨a11, c11, rfl⟩ := form o11
    have HT11 := Lib.hid (HT10.out.below hB11)
    have HO11 := Lib.hid (OwnsT.at o11)
    have HB11 := Lib.hid (HB10.out.trans (hB11.mono HB10.out.size))
    clear hB11 HT10 HB10 o11
    go_wp2_with fail
    refine (HSA.out a1 a11 c1 c11 w11 HT11.out HO11.out).mono ?_
    rintro e w12 ⟨rfl, hB12⟩
    have HB12 := Lib.hid (HB11.out.trans (hB12.mono HB11.out.size))
    clear hB12
    go_wp2_with fail
    go_ret
    exact ⟨rfl, HB12.out⟩
theorem laidOut : laidOutB Try.prog = true := by kernel_rfl
set_option maxRecDepth 100000 in
theorem lifted (os : Os) (started : os.Started) (H : Type) (enc : TypeId × Value → H) :
    ReturnsInHanded {} Try.checked os 4 .any (Rows.picksTurnsSpec.pre6 enc Try.prog Try.f4 Rows.picksTurnsRow.domain false) (Rows.picksTurnsSpec.post enc Try.prog Try.f4 false true false false) := by
  refine returnsInHanded_of_change (C := Try.checked) own started (by kernel_rfl) Try.func4
    (ChangeSpec.witness6 (enc := enc) (C := Try.checked) false ⟨#[], #[.int .i64 0, .slice none 0 0, .int .i64 0], []⟩ 8 (by kernel_rfl) (by kernel_rfl) (by kernel_rfl) (by kernel_rfl)) ?_
  intro W base args ds gs before hval0 hW hcnd _
  have hval : ∀ (j : Nat) t v, Try.f4.params[j]? = some t → args[j]? = some v → Value.okWide Try.prog W .any base t v := hval0
  have hW' := hW
  obtain ⟨p, q, hA0, hV, rfl, hfz, hnd⟩ := hW
  have hA : DataW.TrodAll enc Try.prog W 0 (fun _ => true) true Try.f4.params.toList args.toList ds p := hA0
  rw [Try.params4] at hA hval
  obtain ⟨v0, vs0, d0, ds0, p0, q0, hargs, rfl, rfl, h0, r0⟩ := trodAll_cons hA
  obtain ⟨v1, vs1, d1, ds1, p1, q1, rfl, rfl, rfl, h1, r1⟩ := trodAll_cons r0
  obtain ⟨v2, vs2, d2, ds2, p2, q2, rfl, rfl, rfl, h2, r2⟩ := trodAll_cons r1
  obtain ⟨rfl, rfl, rfl⟩ := trodAll_nil r2
  obtain rfl : args = #[v0, v1, v2] := by cases args; simp_all
  obtain ⟨rfl, rfl⟩ := trodVars_none hV
  obtain ⟨a0, rfl, rfl, rfl, w0⟩ := open_int Try.underlying3 (hval 0 3 v0 rfl rfl) h0
  obtain ⟨a1, len1, cap1, rfl⟩ := okWide_slice Try.underlying32 (hval 1 32 v1 rfl rfl)
  have k1 := h1
  have lt1 : ∀ x ∈ p1, x.block < W.heap.size := by obtain ⟨m, hm⟩ := k1; exact DataW.trod_lt m _ _ _ hm
  obtain ⟨z1, n1, w1⟩ : ∃ zs, len1 = zs.length ∧ TurnsAt W (.slice a1 len1 cap1) zs := by
    obtain ⟨fuel, hf⟩ := h1
    exact open_turns hf
  obtain ⟨a2, rfl, rfl, rfl, w2⟩ := open_int Try.underlying3 (hval 2 3 v2 rfl rfl) h2
  clear hA0 hval0
  refine (walk a0 a1 len1 cap1 z1 a2 W w0 n1 w1 w2).mono fun e W' ⟨he, bel⟩ => ?_
  subst he
  exact ⟨_, rfl, _, _, _, [], _, [], hW', trodAll_mk1 (shut_bool Try.underlying4 _), (trodAll_cons_mk (shut_int Try.underlying3 w0) (trodAll_cons_mk (Below.trod laidOut (by kernel_rfl) (of_decide_eq_true (by kernel_rfl)) k1 bel lt1) (trodAll_cons_mk (shut_int Try.underlying3 w2) trodAll_mk0))), rfl, bel.frame _, fun h => by cases h⟩

theorem over : Rows.picksTurnsRow.holds Try.pinned (OpenSpec.ofChange Rows.picksTurnsSpec) :=
  OpenClaim.holds_of_wide 4 Try.f4 rfl rfl rfl rfl rfl rfl rfl ⟨rfl, rfl, rfl, rfl, rfl⟩ rfl rfl rfl rfl rfl (by kernel_rfl) Try.func4 (by kernel_rfl)
    (of_decide_eq_true (by kernel_rfl)) (by unfold Func.isWrapper; first | (rw [if_pos (by decide +kernel)]; kernel_rfl) | (rw [if_neg (by decide +kernel)]; exact ⟨rfl, rfl⟩))
    (fun os started H enc _ => lifted os started H enc)

theorem proved : Rows.PicksTurnsSaid := over
end Go.Proofs.Ytmkpjpdjjdmklaa.picksTurns
