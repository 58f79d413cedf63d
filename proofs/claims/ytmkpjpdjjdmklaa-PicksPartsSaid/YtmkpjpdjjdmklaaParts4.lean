/- Proved: for every number of goroutines, row of turns and two ends, honeycomblaw04.PicksParts returns true, and its arguments read as they did; no condition. -/
import Derived.Test.YtmkpjpdjjdmklaaKx
import Derived.BigQuiet
import Derived.ChangeAt
import Derived.JoinedAt
import Derived.ProofKit
import Derived.OpenShut
import Derived.Test.YtmkpjpdjjdmklaaRows
namespace Go.Proofs.Ytmkpjpdjjdmklaa.picksParts
open Go.ChangeShapes Go.WideShapes Go.ChangeAt Go.RowKit Go.Shelf
attribute [local go_sem] Oper.semAt_some

theorem own : ownKnob Try.prog.godebug = none := by kernel_rfl
theorem u_nonneg (a : Int) : 0 ≤ IntKind.u64.wrap a := by
  unfold IntKind.wrap
  simp [IntKind.bits, IntKind.signed]
  try omega
theorem u_mod (a : Int) (L : Nat) (h : 1 ≤ L) (h2 : L ≤ 1000) : ∃ j : Nat, j < L ∧ wrap64 ((IntKind.u64.wrap a).tmod (L : Int)) = (j : Int) := by
  have h0 := u_nonneg a
  generalize IntKind.u64.wrap a = b at *
  rw [Int.tmod_eq_emod_of_nonneg h0]
  have h3 := Int.emod_nonneg b (show (L : Int) ≠ 0 by omega)
  have h4 := Int.emod_lt_of_pos b (show 0 < (L : Int) by omega)
  generalize b % (L : Int) = r at *
  refine ⟨r.toNat, by omega, ?_⟩
  unfold wrap64
  omega
/-- The row that few made: nil, or the beginning of a block. -/
theorem form2 {n₀ : Nat} {ts : List Tn} {v : Value} {W : World} (h : OwnsT n₀ ts v W) : (v = .slice none 0 0 ∧ ts = []) ∨ ∃ g c, v = .slice (some ⟨g, 0, none⟩) ts.length c ∧ ts.length ≤ c := by
  obtain ⟨vs, h1, _⟩ := h
  rcases h1.2 with ⟨rfl, h2⟩ | ⟨g, cap, cur, rfl, _, _, h3, _⟩
  · exact .inl ⟨rfl, List.eq_nil_of_length_eq_zero h2⟩
  · exact .inr ⟨g, cap, rfl, h3⟩
theorem partB_length (l : List Tn) (f k : Nat) (h : f + k ≤ l.length) : (partB l f k).length = k := by
  unfold partB
  rw [List.length_take, List.length_drop]
  omega

set_option maxRecDepth 100000 in
set_option maxHeartbeats 2000000 in
theorem walk (N : Int) (at_ : Option Addr) (nt ct : Nat) (zs : List Tn) (e0 e1 : Int) (W : World) (_ : (Lit.int .i64 N).wf = true) (hnt : nt = zs.length) (hT : TurnsAt W (.slice at_ nt ct) zs) (_ : (Lit.int .i64 e0).wf = true) (_ : (Lit.int .i64 e1).wf = true) :
    Calls Try.prog 7 #[.int .i64 N, .slice at_ nt ct, .agg #[.int .i64 e0, .int .i64 e1]] W fun e w' => e = .returned (.bool true) ∧ Below W.heap.size W w' := by
  have HFEW := Lib.hid (fun w h => Try.few_any at_ nt ct zs w (hT.below h))
  have hfl := fewB_length zs
  have r0 := Rows8.new W 49 #[.int .i64 e0, .int .i64 e1]
  have hB0 : Below W.heap.size W (W.alloc (.cells #[.int .i64 e0, .int .i64 e1] 49)) := (Below.refl _ W).alloc (Nat.le_refl _) _
  have R0 := Lib.hid r0
  have HB0 := Lib.hid hB0
  clear hT hnt r0 hB0
  generalize fewB zs = ts at *
  have HCK := Lib.hid (fun a c W h1 => Try.Check_any N a ts.length c ts W h1)
  have HLE := Lib.hid (fun a c W h1 => Try.Least_any N a ts.length c ts (by omega) W h1)
  have HLA := Lib.hid (fun a c W h1 => Try.Laps_any N a ts.length c ts (by omega) W h1)
  have HSH := Lib.hid (fun a c W h1 => Try.Shares_any N a ts.length c ts W h1)
  have HHU := Lib.hid (fun q a c W h1 => Try.Hungry_any N q a ts.length c ts W h1)
  go_enter Try.func7, Try.ntmps7
  go_wp2_with fail
  refine (Try.wakes_any _).mono ?_
  rintro e w1 ⟨rfl, hB1⟩
  have R1 := Lib.hid (R0.out.below hB1 R0.out.lt)
  have HB1 := Lib.hid (HB0.out.trans (hB1.mono HB0.out.size))
  clear hB1 R0 HB0
  go_wp2_with fail
  refine (HFEW.out w1 HB1.out).mono ?_
  rintro e w2 ⟨v1, rfl, o1, hB2⟩
  have R2 := Lib.hid (R1.out.below hB2 R1.out.lt)
  have HB2 := Lib.hid (HB1.out.trans (hB2.mono HB1.out.size))
  have hf2 := form2 o1
  have hT2 := o1.at
  clear hB2 R1 HB1 o1
  obtain ⟨a1, c1, hv, hLc⟩ : ∃ a c, v1 = .slice a ts.length c ∧ ts.length ≤ c := by
    rcases hf2 with ⟨h1, h2⟩ | ⟨g, c, h1, h2⟩
    · exact ⟨none, 0, by rw [h2]; exact h1, by rw [h2]; exact Nat.le_refl _⟩
    · exact ⟨_, c, h1, h2⟩
  have hform : (a1 = none ∧ c1 = 0 ∧ ts.length = 0) ∨ ∃ g, a1 = some ⟨g, 0, none⟩ := by
    rcases hf2 with ⟨h1, h2⟩ | ⟨g, c, h1, h2⟩
    · rw [hv] at h1
      injection h1 with q1 q2 q3
      exact .inl ⟨q1, q3, q2⟩
    · rw [hv] at h1
      injection h1 with q1 _ _
      exact .inr ⟨g, q1⟩
  subst hv
  have HT2 := Lib.hid hT2
  have HFORM := Lib.hid hform
  clear hT2 hf2 hform
  go_wp2_with fail
  refine (HCK.out a1 c1 w2 HT2.out).mono ?_
  rintro e w3 ⟨rfl, hB3⟩
  have R3 := Lib.hid (R2.out.below hB3 R2.out.lt)
  have HT3 := Lib.hid (HT2.out.below hB3)
  have HB3 := Lib.hid (HB2.out.trans (hB3.mono HB2.out.size))
  clear hB3 R2 HT2 HB2
  cases hr : rightB N ts with
  | false =>
    rw [show checkB N ts = 140 by unfold checkB; rw [if_neg (by rw [hr]; decide)]]
    rw [show leastR N ts = 0 by unfold leastR; rw [if_neg (by rw [hr]; decide)]] at HLE
    clear hr
    go_wp2_with fail
    refine (HLE.out a1 c1 w3 HT3.out).mono ?_
    rintro e w4 ⟨rfl, hB4⟩
    have HB4 := Lib.hid (HB3.out.trans (hB4.mono HB3.out.size))
    clear hB4
    go_wp2_with fail
    go_ret
    exact ⟨rfl, HB4.out⟩
  | true =>
    obtain ⟨m, rfl, hm1, hm8⟩ := rightB_n hr
    have hpr := fun f k => part_right hr f k
    have hch : ∀ t ∈ ts, 0 ≤ t.ch ∧ t.ch < m := by
      have h2 := hr
      unfold rightB at h2
      rw [Bool.and_eq_true, List.all_eq_true] at h2
      exact fun t ht => rightT_ch (h2.2 t ht)
    have hsum := shares_sum m ts hch
    rw [show checkB m ts = 0 by unfold checkB; rw [if_pos hr]]
    rw [show leastR m ts = (leastB m ts : Nat) by unfold leastR; rw [if_pos hr]; rfl] at HLE
    rw [show lapsR m ts = (lapsB m ts : Nat) by unfold lapsR; rw [if_pos hr]; rfl] at HLA
    rw [show sharesR m ts = sharesB m ts by unfold sharesR; rw [if_pos hr]; rfl] at HSH
    have hhu : ∀ q, hungryR m ts q = hungryB m ts q := fun q => by unfold hungryR; rw [if_pos hr]; rfl
    have hpl := fun f k => part_least m ts f k
    have hmany := laps_many m (leastB m ts) (by unfold leastB; omega) ts.length ts (Nat.le_refl _) (Nat.le_refl _)
    have hw1 : 1 ≤ leastB m ts := by unfold leastB; omega
    have hw41 : leastB m ts ≤ 41 := by unfold leastB; have := maxLon_le m ts; omega
    have hsome := fun w h1 h2 => @hungry_some m ts w h1 h2
    have hshg := fun k hk => sharesB_get m ts k hk
    have hshl := fun k => shareB_le k ts
    have hshn := sharesB_length m ts
    have HPR := Lib.hid hpr
    have HSUM := Lib.hid hsum
    have HHQ := Lib.hid hhu
    have HPL := Lib.hid hpl
    have HSOME := Lib.hid hsome
    have HSHG := Lib.hid hshg
    have HSHL := Lib.hid hshl
    have HSHN := Lib.hid hshn
    clear hr hpr hch hsum hhu hpl hsome hshg hshl hshn
    generalize leastB m ts = w at *
    generalize lapsB m ts = la at *
    generalize sharesB m ts = sh at *
    have hmi : ((ts.length : Int) / (w : Int)) ≤ (la : Int) := by
      have : ((ts.length / w : Nat) : Int) = (ts.length : Int) / (w : Int) := Int.natCast_ediv _ _
      omega
    clear hmany
    go_wp2_with fail
    refine (HLE.out a1 c1 w3 HT3.out).mono ?_
    rintro e w4 ⟨rfl, hB4⟩
    have r4 := R3.out.below hB4 R3.out.lt
    have HT4 := Lib.hid (HT3.out.below hB4)
    have HB4 := Lib.hid (HB3.out.trans (hB4.mono HB3.out.size))
    have x0 : w4.cell? ⟨W.heap.size, 0, none⟩ = some (.int .i64 e0) := r4.cell 0
    have x1 : w4.cell? ⟨W.heap.size, 1, none⟩ = some (.int .i64 e1) := r4.cell 1
    clear hB4 R3 HT3 HB3 r4
    obtain ⟨L, hL⟩ : ∃ L, L = ts.length := ⟨_, rfl⟩
    rw [← hL] at hfl hLc hmi HT4 HFORM HSUM HSH HHU HLA HSHL
    have HLL := Lib.hid hL
    rw [← hL]
    clear hL
    obtain ⟨f, hf, ef⟩ := u_mod e0 (L + 1) (by omega) (by omega)
    have ef' : wrap64 ((IntKind.u64.wrap e0).tmod ((L : Int) + 1)) = (f : Int) := by simpa using ef
    obtain ⟨k, hk, ek⟩ := u_mod e1 (L - f + 1) (by omega) (by omega)
    have ek' : wrap64 ((IntKind.u64.wrap e1).tmod ((L : Int) - (f : Int) + 1)) = (k : Int) := by
      rw [← ek, show ((L - f + 1 : Nat) : Int) = (L : Int) - (f : Int) + 1 by omega]
    have hfk : f + k ≤ L := by omega
    have hfL : (f : Int) ≤ (L : Int) := by omega
    have hfkL : (f : Int) + (k : Int) ≤ (L : Int) := by omega
    have hLi : (L : Int) ≤ 40 := by omega
    clear ef ek
    -- the part
    have hpart := partB_length ts f k (by rw [← HLL.out]; exact hfk)
    have HCASE : Hid ((a1 = none ∧ c1 = 0 ∧ L = 0) ∨ ∃ g, a1 = some ⟨g, 0, none⟩) := HFORM
    have hPcut : ∀ W', Below w4.heap.size w4 W' → (∀ g, a1 = some ⟨g, 0, none⟩ → TurnsAt W' (.slice (some ⟨g, 0 + f * 2, none⟩) k (c1 - f)) (partB ts f k)) := fun W' hW' g hg => by
      subst hg
      exact turns_cut (turns_drop (HT4.out.below hW') f (by omega)) k (by omega)
    have hPnil : k = 0 → partB ts f k = [] := fun h => by subst h; unfold partB; simp
    have HPC := Lib.hid hPcut
    have HPN := Lib.hid hPnil
    have hple := HPL.out f k
    have hplr := HPR.out f k
    have HHN := Lib.hid (fun h => @hungry_none m (partB ts f k) w h)
    have HL1 := Lib.hid (fun h => @laps_one m (partB ts f k) w hple h)
    clear hPcut hPnil HPL HPR
    generalize partB ts f k = part at *
    have hnil := HHN.out hple
    have CLE := Lib.hid (fun a c W h => Try.Least_any m a k c part (by omega) W h)
    have CHU := Lib.hid (fun a c W h => Try.Hungry_any m w a k c part W h)
    have CLA := Lib.hid (fun a c W h => Try.Laps_any m a k c part (by omega) W h)
    rw [show leastR m part = (leastB m part : Nat) by unfold leastR; rw [if_pos hplr]; rfl] at CLE
    rw [show lapsR m part = (lapsB m part : Nat) by unfold lapsR; rw [if_pos hplr]; rfl] at CLA
    rw [show hungryR m part w = [] by unfold hungryR; rw [if_pos hplr, show ((m : Int)).toNat = m from rfl, hnil]] at CHU
    rw [hpart] at HL1
    have HPART := Lib.hid hpart
    clear hpart
    have hplw : (leastB m part : Int) ≤ (w : Int) := by omega
    have hplw2 : ¬ (w : Int) < (leastB m part : Int) := by omega
    clear hple hplr hnil HHN
    generalize leastB m part = lp at *
    generalize lapsB m part = lq at *
    have hLc2 : (L : Int) ≤ (c1 : Int) := by omega
    have hfc : (f : Int) ≤ (c1 : Int) := by omega
    have hcase : (c1 = f ∧ k = 0) ∨ ∃ g, a1 = some ⟨g, 0, none⟩ ∧ f < c1 := by
      rcases HCASE.out with ⟨h1, h2, h3⟩ | ⟨g, hg⟩
      · exact .inl ⟨by omega, by omega⟩
      · by_cases hc : c1 = f
        · exact .inl ⟨hc, by omega⟩
        · exact .inr ⟨g, hg, by omega⟩
    have hfk1 : ¬ (c1 : Int) < (f : Int) + (k : Int) := by omega
    have hfk2 : ¬ (f : Int) + (k : Int) < (f : Int) := by omega
    have HCA := Lib.hid (show a1 = none → c1 = 0 from fun h => by
      rcases HCASE.out with ⟨h1, h2, h3⟩ | ⟨g, hg⟩
      · exact h2
      · rw [h] at hg; cases hg)
    have HCM := Lib.hid (turnsAt_len HT4.out).2.2
    clear HCASE HFORM
    have hwi : 1 ≤ (w : Int) := by omega
    have efk : f + k - f = k := by omega
    have hw0 : ¬ (w : Int) = 0 := by omega
    have HWD := Lib.hid (show IntKind.i64.wrap ((L : Int) / (w : Int)) = (L : Int) / (w : Int) by
      have h1 : 0 ≤ (L : Int) / (w : Int) := Int.ediv_nonneg (by omega) (by omega)
      have h2 : (L : Int) / (w : Int) ≤ (L : Int) := Int.ediv_le_self _ (by omega)
      generalize (L : Int) / (w : Int) = z at *
      unfold IntKind.wrap
      simp [IntKind.bits, IntKind.signed]
      omega)
    have HW2 := Lib.hid (show wrap64 ((L : Int) / (w : Int)) = (L : Int) / (w : Int) by
      have h1 : 0 ≤ (L : Int) / (w : Int) := Int.ediv_nonneg (by omega) (by omega)
      have h2 : (L : Int) / (w : Int) ≤ (L : Int) := Int.ediv_le_self _ (by omega)
      generalize (L : Int) / (w : Int) = z at *
      unfold wrap64
      omega)
    have HMI := Lib.hid hmi
    clear hmi
    have hde : ((L : Int) == (L : Int)) = true := by simp
    rcases hcase with ⟨hc1, hk0⟩ | ⟨g, hg, hc1⟩
    · subst hc1
      have hPT : ∀ W', Below w4.heap.size w4 W' → TurnsAt W' (.slice a1 0 0) part := fun W' _ => by
        rw [HPN.out hk0]
        exact turns_none a1 0 (fun _ => rfl) (Nat.zero_le _)
      rw [hk0] at CLE CHU CLA
      have HPT := Lib.hid hPT
      have HK0 := Lib.hid hk0
      clear hPT hk0 HPC HPN
      go_wp2_with fail
      refine (CLE.out _ _ w4 (HPT.out w4 (Below.refl _ _))).mono ?_
      rintro e w5 ⟨rfl, hB5⟩
      have HB45 := Lib.hid hB5
      clear hB5
      go_wp2_with fail
      refine (CHU.out _ _ w5 (HPT.out w5 HB45.out)).mono ?_
      rintro e w6 ⟨a6, c6, rfl, _, hB6⟩
      rw [show ([] : List Int).length = 0 from rfl]
      have HB46 := Lib.hid (HB45.out.trans (hB6.mono HB45.out.size))
      clear hB6 HB45
      have hmid : ∃ v : Nat, (w = 1 ∨ (2 ≤ w ∧ w = v + 1)) := ⟨w - 1, by omega⟩
      obtain ⟨v, hv⟩ := hmid
      rcases hv with hv | ⟨hv, hv2⟩
      · have hd : decide ((1 : Int) < (w : Int)) = false := decide_eq_false (by omega)
        have hd2 : ¬ (1 : Int) < (w : Int) := by omega
        have HV := Lib.hid hv
        clear hv
        obtain ⟨w7, hw7⟩ : ∃ w7, w7 = w6 := ⟨_, rfl⟩
        rw [← hw7] at HB46 ⊢
        have HB47 := Lib.hid HB46.out
        clear hw7 HB46
        go_wp2_with fail
        have hkd : decide ((w : Int) ≤ 0) = false := decide_eq_false (by omega)
        have hki : ¬ (w : Int) ≤ 0 := by omega
        have hkj : (0 : Int) < (w : Int) := by omega
        obtain ⟨w8, hw8⟩ : ∃ w8, w8 = w7 := ⟨_, rfl⟩
        rw [← hw8] at HB47 ⊢
        have HB48 := Lib.hid HB47.out
        clear hw8 HB47
        go_wp2_with fail
        refine (HSH.out a1 c1 w8 (HT4.out.below HB48.out)).mono ?_
        rintro e w9 ⟨ash, csh, rfl, hs9, hB9⟩
        have HB49 := Lib.hid (HB48.out.trans (hB9.mono HB48.out.size))
        have HS9 := Lib.hid hs9
        clear hB9 HB48 hs9
        go_wp2_with fail
        go_loop [11, 94] (fun tv j => ∃ i : Nat, i ≤ sh.length ∧ j = .int .i64 i ∧ tv = .int .i64 (sumI (sh.take i)) ∧ Hid (0 ≤ sumI (sh.take i) ∧ sumI (sh.take i) ≤ 40 * i)) (fun _ j => sh.length - (intOf j).toNat)
        case atStart => exact ⟨0, Nat.zero_le _, rfl, rfl, Lib.hid ⟨Int.le_refl _, Int.le_refl _⟩⟩
        case round =>
          obtain ⟨i, hi, rfl, rfl, hbd⟩ := hrel
          by_cases hlt : i < sh.length
          · obtain ⟨bs, os, rfl, hbs, hcs⟩ := intsAt_get HS9.out i hlt
            have hval := HSHG.out i (by rw [← HSHN.out]; exact hlt)
            have hvl := HSHL.out i
            have hsn := take_snoc sh i hlt
            have hgd := getD_int sh i hlt
            rw [hval] at hcs hgd
            rw [← hgd] at hsn
            have hi8 : i ≤ 8 := by have := HSHN.out; omega
            have hbo := hbd.out
            have hsu : sumI (sh.take (i + 1)) = sumI (sh.take i) + (shareB i ts : Int) := by rw [hsn, sumI_snoc]
            generalize shareB (i : Int) ts = sv at *
            generalize sumI (sh.take i) = acc at *
            have HSU := Lib.hid hsu
            have hnb : Hid (0 ≤ acc + (sv : Int) ∧ acc + (sv : Int) ≤ 40 * ((i + 1 : Nat) : Int)) := Lib.hid ⟨by omega, by omega⟩
            have hb1 : 0 ≤ acc := hbo.1
            have hb2 : acc ≤ 320 := by omega
            have hb3 : (sv : Int) ≤ 40 := by omega
            have hili : (i : Int) < (sh.length : Int) := by omega
            clear hval hvl hsn hgd hbo hsu hbd
            go_wp2_with fail
            exact ⟨⟨i + 1, by omega, by go_num, by rw [HSU.out], by rw [HSU.out]; exact hnb⟩, by simp [intOf]; omega⟩
          · obtain rfl : i = sh.length := by omega
            rw [List.take_length, HSUM.out]
            clear hbd
            have hTd : TurnsAt w9.drew (.slice a1 L c1) ts := HT4.out.below (W' := w9.drew) HB49.out.drew
            go_wp2_with fail
            go_region_held3 (fun _ => True) (trivial) (first
              | (go_at_call 27; refine (HLA.out a1 c1 _ hTd).mono ?_; rintro e w10 ⟨rfl, hB10⟩))
            all_goals
              have HB10 := Lib.hid ((HB4.out.trans (HB49.out.mono HB4.out.size)).drew.trans (hB10.mono (HB4.out.trans (HB49.out.mono HB4.out.size)).size))
              clear hB10
              go_wp2_with fail
              go_ret
              refine ⟨?_, HB10.out⟩
              show Ending.returned (.bool (decide (IntKind.i64.wrap ((L : Int) / (w : Int)) ≤ (la : Int)))) = _
              rw [HWD.out, decide_eq_true HMI.out]
      · have hd : decide ((1 : Int) < (w : Int)) = true := decide_eq_true (by omega)
        have hd2 : (1 : Int) < (w : Int) := by omega
        have ew : (w : Int) - 1 = (v : Int) := by omega
        have hhu := HHU.out v a1 c1 w6 (HT4.out.below HB46.out)
        rw [HHQ.out] at hhu
        have hpos := HSOME.out v hv2 (by omega)
        generalize hungryB m ts v = hs at *
        have hne : ((hs.length : Int) == 0) = false := by rw [beq_eq_false_iff_ne]; omega
        have hnz : ¬ (hs.length : Int) = 0 := by omega
        have HU := Lib.hid hhu
        have HPOS := Lib.hid hpos
        clear hhu hv hv2 hpos
        go_wp2_with fail
        refine HU.out.mono ?_
        rintro e w7 ⟨a7, c7, rfl, _, hB7⟩
        have HB47 := Lib.hid (HB46.out.trans (hB7.mono HB46.out.size))
        clear hB7 HU HB46
        go_wp2_with fail
        have hkd : decide ((w : Int) ≤ 0) = false := decide_eq_false (by omega)
        have hki : ¬ (w : Int) ≤ 0 := by omega
        have hkj : (0 : Int) < (w : Int) := by omega
        obtain ⟨w8, hw8⟩ : ∃ w8, w8 = w7 := ⟨_, rfl⟩
        rw [← hw8] at HB47 ⊢
        have HB48 := Lib.hid HB47.out
        clear hw8 HB47
        go_wp2_with fail
        refine (HSH.out a1 c1 w8 (HT4.out.below HB48.out)).mono ?_
        rintro e w9 ⟨ash, csh, rfl, hs9, hB9⟩
        have HB49 := Lib.hid (HB48.out.trans (hB9.mono HB48.out.size))
        have HS9 := Lib.hid hs9
        clear hB9 HB48 hs9
        go_wp2_with fail
        go_loop [11, 94] (fun tv j => ∃ i : Nat, i ≤ sh.length ∧ j = .int .i64 i ∧ tv = .int .i64 (sumI (sh.take i)) ∧ Hid (0 ≤ sumI (sh.take i) ∧ sumI (sh.take i) ≤ 40 * i)) (fun _ j => sh.length - (intOf j).toNat)
        case atStart => exact ⟨0, Nat.zero_le _, rfl, rfl, Lib.hid ⟨Int.le_refl _, Int.le_refl _⟩⟩
        case round =>
          obtain ⟨i, hi, rfl, rfl, hbd⟩ := hrel
          by_cases hlt : i < sh.length
          · obtain ⟨bs, os, rfl, hbs, hcs⟩ := intsAt_get HS9.out i hlt
            have hval := HSHG.out i (by rw [← HSHN.out]; exact hlt)
            have hvl := HSHL.out i
            have hsn := take_snoc sh i hlt
            have hgd := getD_int sh i hlt
            rw [hval] at hcs hgd
            rw [← hgd] at hsn
            have hi8 : i ≤ 8 := by have := HSHN.out; omega
            have hbo := hbd.out
            have hsu : sumI (sh.take (i + 1)) = sumI (sh.take i) + (shareB i ts : Int) := by rw [hsn, sumI_snoc]
            generalize shareB (i : Int) ts = sv at *
            generalize sumI (sh.take i) = acc at *
            have HSU := Lib.hid hsu
            have hnb : Hid (0 ≤ acc + (sv : Int) ∧ acc + (sv : Int) ≤ 40 * ((i + 1 : Nat) : Int)) := Lib.hid ⟨by omega, by omega⟩
            have hb1 : 0 ≤ acc := hbo.1
            have hb2 : acc ≤ 320 := by omega
            have hb3 : (sv : Int) ≤ 40 := by omega
            have hili : (i : Int) < (sh.length : Int) := by omega
            clear hval hvl hsn hgd hbo hsu hbd
            go_wp2_with fail
            exact ⟨⟨i + 1, by omega, by go_num, by rw [HSU.out], by rw [HSU.out]; exact hnb⟩, by simp [intOf]; omega⟩
          · obtain rfl : i = sh.length := by omega
            rw [List.take_length, HSUM.out]
            clear hbd
            have hTd : TurnsAt w9.drew (.slice a1 L c1) ts := HT4.out.below (W' := w9.drew) HB49.out.drew
            go_wp2_with fail
            go_region_held3 (fun _ => True) (trivial) (first
              | (go_at_call 27; refine (HLA.out a1 c1 _ hTd).mono ?_; rintro e w10 ⟨rfl, hB10⟩))
            all_goals
              have HB10 := Lib.hid ((HB4.out.trans (HB49.out.mono HB4.out.size)).drew.trans (hB10.mono (HB4.out.trans (HB49.out.mono HB4.out.size)).size))
              clear hB10
              go_wp2_with fail
              go_ret
              refine ⟨?_, HB10.out⟩
              show Ending.returned (.bool (decide (IntKind.i64.wrap ((L : Int) / (w : Int)) ≤ (la : Int)))) = _
              rw [HWD.out, decide_eq_true HMI.out]
    · subst hg
      have hcf : ¬ (c1 : Int) = (f : Int) := by omega
      have hPT : ∀ W', Below w4.heap.size w4 W' → TurnsAt W' (.slice (some ⟨g, f * 2, none⟩) k (c1 - f)) part := fun W' h => by
        have := HPC.out W' h g rfl
        rwa [Nat.zero_add] at this
      have HPT := Lib.hid hPT
      clear hPT HPC HPN
      go_wp2_with fail
      refine (CLE.out _ _ w4 (HPT.out w4 (Below.refl _ _))).mono ?_
      rintro e w5 ⟨rfl, hB5⟩
      have HB45 := Lib.hid hB5
      clear hB5
      go_wp2_with fail
      refine (CHU.out _ _ w5 (HPT.out w5 HB45.out)).mono ?_
      rintro e w6 ⟨a6, c6, rfl, _, hB6⟩
      rw [show ([] : List Int).length = 0 from rfl]
      have HB46 := Lib.hid (HB45.out.trans (hB6.mono HB45.out.size))
      clear hB6 HB45
      have hmid : ∃ v : Nat, (w = 1 ∨ (2 ≤ w ∧ w = v + 1)) := ⟨w - 1, by omega⟩
      obtain ⟨v, hv⟩ := hmid
      rcases hv with hv | ⟨hv, hv2⟩
      · have hd : decide ((1 : Int) < (w : Int)) = false := decide_eq_false (by omega)
        have hd2 : ¬ (1 : Int) < (w : Int) := by omega
        have HV := Lib.hid hv
        clear hv
        obtain ⟨w7, hw7⟩ : ∃ w7, w7 = w6 := ⟨_, rfl⟩
        rw [← hw7] at HB46 ⊢
        have HB47 := Lib.hid HB46.out
        clear hw7 HB46
        by_cases hkw : w ≤ k
        · have hkd : decide ((w : Int) ≤ (k : Int)) = true := decide_eq_true (by omega)
          have hki : (w : Int) ≤ (k : Int) := by omega
          have hlq := HL1.out hkw
          have hlq1 : ¬ (lq : Int) < 1 := by omega
          have HLQ := Lib.hid hlq
          have HKW := Lib.hid hkw
          clear hkw hlq
          go_wp2_with fail
          refine (CLA.out _ _ w7 (HPT.out w7 HB47.out)).mono ?_
          rintro e w8 ⟨rfl, hB8⟩
          have HB48 := Lib.hid (HB47.out.trans (hB8.mono HB47.out.size))
          clear hB8 HB47
          go_wp2_with fail
          refine (HSH.out (some ⟨g, 0, none⟩) c1 w8 (HT4.out.below HB48.out)).mono ?_
          rintro e w9 ⟨ash, csh, rfl, hs9, hB9⟩
          have HB49 := Lib.hid (HB48.out.trans (hB9.mono HB48.out.size))
          have HS9 := Lib.hid hs9
          clear hB9 HB48 hs9
          go_wp2_with fail
          go_loop [11, 94] (fun tv j => ∃ i : Nat, i ≤ sh.length ∧ j = .int .i64 i ∧ tv = .int .i64 (sumI (sh.take i)) ∧ Hid (0 ≤ sumI (sh.take i) ∧ sumI (sh.take i) ≤ 40 * i)) (fun _ j => sh.length - (intOf j).toNat)
          case atStart => exact ⟨0, Nat.zero_le _, rfl, rfl, Lib.hid ⟨Int.le_refl _, Int.le_refl _⟩⟩
          case round =>
            obtain ⟨i, hi, rfl, rfl, hbd⟩ := hrel
            by_cases hlt : i < sh.length
            · obtain ⟨bs, os, rfl, hbs, hcs⟩ := intsAt_get HS9.out i hlt
              have hval := HSHG.out i (by rw [← HSHN.out]; exact hlt)
              have hvl := HSHL.out i
              have hsn := take_snoc sh i hlt
              have hgd := getD_int sh i hlt
              rw [hval] at hcs hgd
              rw [← hgd] at hsn
              have hi8 : i ≤ 8 := by have := HSHN.out; omega
              have hbo := hbd.out
              have hsu : sumI (sh.take (i + 1)) = sumI (sh.take i) + (shareB i ts : Int) := by rw [hsn, sumI_snoc]
              generalize shareB (i : Int) ts = sv at *
              generalize sumI (sh.take i) = acc at *
              have HSU := Lib.hid hsu
              have hnb : Hid (0 ≤ acc + (sv : Int) ∧ acc + (sv : Int) ≤ 40 * ((i + 1 : Nat) : Int)) := Lib.hid ⟨by omega, by omega⟩
              have hb1 : 0 ≤ acc := hbo.1
              have hb2 : acc ≤ 320 := by omega
              have hb3 : (sv : Int) ≤ 40 := by omega
              have hili : (i : Int) < (sh.length : Int) := by omega
              clear hval hvl hsn hgd hbo hsu hbd
              go_wp2_with fail
              exact ⟨⟨i + 1, by omega, by go_num, by rw [HSU.out], by rw [HSU.out]; exact hnb⟩, by simp [intOf]; omega⟩
            · obtain rfl : i = sh.length := by omega
              rw [List.take_length, HSUM.out]
              clear hbd
              have hTd : TurnsAt w9.drew (.slice (some ⟨g, 0, none⟩) L c1) ts := HT4.out.below (W' := w9.drew) HB49.out.drew
              have hwd1 := HWD.out
              have hwd2 : wrap64 ((L : Int) / (w : Int)) = (L : Int) / (w : Int) := HW2.out
              have hmi := HMI.out
              have hwp : ¬ (w : Int) ≤ 0 := by omega
              have hwp2 : (0 : Int) < (w : Int) := by omega
              have hwp3 : decide ((w : Int) ≤ 0) = false := decide_eq_false (by omega)
              have hwn : ¬ w = 0 := by omega
              go_wp2_with fail
              go_region_held3 (fun _ => True) (trivial) (first
                | (go_at_call 27; refine (HLA.out (some ⟨g, 0, none⟩) c1 _ hTd).mono ?_; rintro e w10 ⟨rfl, hB10⟩))
              all_goals
                have HB10 := Lib.hid ((HB4.out.trans (HB49.out.mono HB4.out.size)).drew.trans (hB10.mono (HB4.out.trans (HB49.out.mono HB4.out.size)).size))
                clear hB10
                go_wp2_with fail
                go_ret
                refine ⟨?_, HB10.out⟩
                first
                  | rfl
                  | (show Ending.returned (.bool (decide (IntKind.i64.wrap ((L : Int) / (w : Int)) ≤ (la : Int)))) = _; rw [HWD.out, decide_eq_true HMI.out])
                  | (show Ending.returned (.bool (decide (wrap64 ((L : Int) / (w : Int)) ≤ (la : Int)))) = _; rw [hwd2, decide_eq_true HMI.out])
        · have hkd : decide ((w : Int) ≤ (k : Int)) = false := decide_eq_false (by omega)
          have hki : ¬ (w : Int) ≤ (k : Int) := by omega
          have hkj : (k : Int) < (w : Int) := by omega
          have HKW := Lib.hid hkw
          clear hkw
          obtain ⟨w8, hw8⟩ : ∃ w8, w8 = w7 := ⟨_, rfl⟩
          rw [← hw8] at HB47 ⊢
          have HB48 := Lib.hid HB47.out
          clear hw8 HB47
          go_wp2_with fail
          refine (HSH.out (some ⟨g, 0, none⟩) c1 w8 (HT4.out.below HB48.out)).mono ?_
          rintro e w9 ⟨ash, csh, rfl, hs9, hB9⟩
          have HB49 := Lib.hid (HB48.out.trans (hB9.mono HB48.out.size))
          have HS9 := Lib.hid hs9
          clear hB9 HB48 hs9
          go_wp2_with fail
          go_loop [11, 94] (fun tv j => ∃ i : Nat, i ≤ sh.length ∧ j = .int .i64 i ∧ tv = .int .i64 (sumI (sh.take i)) ∧ Hid (0 ≤ sumI (sh.take i) ∧ sumI (sh.take i) ≤ 40 * i)) (fun _ j => sh.length - (intOf j).toNat)
          case atStart => exact ⟨0, Nat.zero_le _, rfl, rfl, Lib.hid ⟨Int.le_refl _, Int.le_refl _⟩⟩
          case round =>
            obtain ⟨i, hi, rfl, rfl, hbd⟩ := hrel
            by_cases hlt : i < sh.length
            · obtain ⟨bs, os, rfl, hbs, hcs⟩ := intsAt_get HS9.out i hlt
              have hval := HSHG.out i (by rw [← HSHN.out]; exact hlt)
              have hvl := HSHL.out i
              have hsn := take_snoc sh i hlt
              have hgd := getD_int sh i hlt
              rw [hval] at hcs hgd
              rw [← hgd] at hsn
              have hi8 : i ≤ 8 := by have := HSHN.out; omega
              have hbo := hbd.out
              have hsu : sumI (sh.take (i + 1)) = sumI (sh.take i) + (shareB i ts : Int) := by rw [hsn, sumI_snoc]
              generalize shareB (i : Int) ts = sv at *
              generalize sumI (sh.take i) = acc at *
              have HSU := Lib.hid hsu
              have hnb : Hid (0 ≤ acc + (sv : Int) ∧ acc + (sv : Int) ≤ 40 * ((i + 1 : Nat) : Int)) := Lib.hid ⟨by omega, by omega⟩
              have hb1 : 0 ≤ acc := hbo.1
              have hb2 : acc ≤ 320 := by omega
              have hb3 : (sv : Int) ≤ 40 := by omega
              have hili : (i : Int) < (sh.length : Int) := by omega
              clear hval hvl hsn hgd hbo hsu hbd
              go_wp2_with fail
              exact ⟨⟨i + 1, by omega, by go_num, by rw [HSU.out], by rw [HSU.out]; exact hnb⟩, by simp [intOf]; omega⟩
            · obtain rfl : i = sh.length := by omega
              rw [List.take_length, HSUM.out]
              clear hbd
              have hTd : TurnsAt w9.drew (.slice (some ⟨g, 0, none⟩) L c1) ts := HT4.out.below (W' := w9.drew) HB49.out.drew
              have hwd1 := HWD.out
              have hwd2 : wrap64 ((L : Int) / (w : Int)) = (L : Int) / (w : Int) := HW2.out
              have hmi := HMI.out
              have hwp : ¬ (w : Int) ≤ 0 := by omega
              have hwp2 : (0 : Int) < (w : Int) := by omega
              have hwp3 : decide ((w : Int) ≤ 0) = false := decide_eq_false (by omega)
              have hwn : ¬ w = 0 := by omega
              go_wp2_with fail
              go_region_held3 (fun _ => True) (trivial) (first
                | (go_at_call 27; refine (HLA.out (some ⟨g, 0, none⟩) c1 _ hTd).mono ?_; rintro e w10 ⟨rfl, hB10⟩))
              all_goals
                have HB10 := Lib.hid ((HB4.out.trans (HB49.out.mono HB4.out.size)).drew.trans (hB10.mono (HB4.out.trans (HB49.out.mono HB4.out.size)).size))
                clear hB10
                go_wp2_with fail
                go_ret
                refine ⟨?_, HB10.out⟩
                first
                  | rfl
                  | (show Ending.returned (.bool (decide (IntKind.i64.wrap ((L : Int) / (w : Int)) ≤ (la : Int)))) = _; rw [HWD.out, decide_eq_true HMI.out])
                  | (show Ending.returned (.bool (decide (wrap64 ((L : Int) / (w : Int)) ≤ (la : Int)))) = _; rw [hwd2, decide_eq_true HMI.out])
      · have hd : decide ((1 : Int) < (w : Int)) = true := decide_eq_true (by omega)
        have hd2 : (1 : Int) < (w : Int) := by omega
        have ew : (w : Int) - 1 = (v : Int) := by omega
        have hhu := HHU.out v (some ⟨g, 0, none⟩) c1 w6 (HT4.out.below HB46.out)
        rw [HHQ.out] at hhu
        have hpos := HSOME.out v hv2 (by omega)
        generalize hungryB m ts v = hs at *
        have hne : ((hs.length : Int) == 0) = false := by rw [beq_eq_false_iff_ne]; omega
        have hnz : ¬ (hs.length : Int) = 0 := by omega
        have HU := Lib.hid hhu
        have HPOS := Lib.hid hpos
        clear hhu hv hv2 hpos
        go_wp2_with fail
        refine HU.out.mono ?_
        rintro e w7 ⟨a7, c7, rfl, _, hB7⟩
        have HB47 := Lib.hid (HB46.out.trans (hB7.mono HB46.out.size))
        clear hB7 HU HB46
        by_cases hkw : w ≤ k
        · have hkd : decide ((w : Int) ≤ (k : Int)) = true := decide_eq_true (by omega)
          have hki : (w : Int) ≤ (k : Int) := by omega
          have hlq := HL1.out hkw
          have hlq1 : ¬ (lq : Int) < 1 := by omega
          have HLQ := Lib.hid hlq
          have HKW := Lib.hid hkw
          clear hkw hlq
          go_wp2_with fail
          refine (CLA.out _ _ w7 (HPT.out w7 HB47.out)).mono ?_
          rintro e w8 ⟨rfl, hB8⟩
          have HB48 := Lib.hid (HB47.out.trans (hB8.mono HB47.out.size))
          clear hB8 HB47
          go_wp2_with fail
          refine (HSH.out (some ⟨g, 0, none⟩) c1 w8 (HT4.out.below HB48.out)).mono ?_
          rintro e w9 ⟨ash, csh, rfl, hs9, hB9⟩
          have HB49 := Lib.hid (HB48.out.trans (hB9.mono HB48.out.size))
          have HS9 := Lib.hid hs9
          clear hB9 HB48 hs9
          go_wp2_with fail
          go_loop [11, 94] (fun tv j => ∃ i : Nat, i ≤ sh.length ∧ j = .int .i64 i ∧ tv = .int .i64 (sumI (sh.take i)) ∧ Hid (0 ≤ sumI (sh.take i) ∧ sumI (sh.take i) ≤ 40 * i)) (fun _ j => sh.length - (intOf j).toNat)
          case atStart => exact ⟨0, Nat.zero_le _, rfl, rfl, Lib.hid ⟨Int.le_refl _, Int.le_refl _⟩⟩
          case round =>
            obtain ⟨i, hi, rfl, rfl, hbd⟩ := hrel
            by_cases hlt : i < sh.length
            · obtain ⟨bs, os, rfl, hbs, hcs⟩ := intsAt_get HS9.out i hlt
              have hval := HSHG.out i (by rw [← HSHN.out]; exact hlt)
              have hvl := HSHL.out i
              have hsn := take_snoc sh i hlt
              have hgd := getD_int sh i hlt
              rw [hval] at hcs hgd
              rw [← hgd] at hsn
              have hi8 : i ≤ 8 := by have := HSHN.out; omega
              have hbo := hbd.out
              have hsu : sumI (sh.take (i + 1)) = sumI (sh.take i) + (shareB i ts : Int) := by rw [hsn, sumI_snoc]
              generalize shareB (i : Int) ts = sv at *
              generalize sumI (sh.take i) = acc at *
              have HSU := Lib.hid hsu
              have hnb : Hid (0 ≤ acc + (sv : Int) ∧ acc + (sv : Int) ≤ 40 * ((i + 1 : Nat) : Int)) := Lib.hid ⟨by omega, by omega⟩
              have hb1 : 0 ≤ acc := hbo.1
              have hb2 : acc ≤ 320 := by omega
              have hb3 : (sv : Int) ≤ 40 := by omega
              have hili : (i : Int) < (sh.length : Int) := by omega
              clear hval hvl hsn hgd hbo hsu hbd
              go_wp2_with fail
              exact ⟨⟨i + 1, by omega, by go_num, by rw [HSU.out], by rw [HSU.out]; exact hnb⟩, by simp [intOf]; omega⟩
            · obtain rfl : i = sh.length := by omega
              rw [List.take_length, HSUM.out]
              clear hbd
              have hTd : TurnsAt w9.drew (.slice (some ⟨g, 0, none⟩) L c1) ts := HT4.out.below (W' := w9.drew) HB49.out.drew
              have hwd1 := HWD.out
              have hwd2 : wrap64 ((L : Int) / (w : Int)) = (L : Int) / (w : Int) := HW2.out
              have hmi := HMI.out
              have hwp : ¬ (w : Int) ≤ 0 := by omega
              have hwp2 : (0 : Int) < (w : Int) := by omega
              have hwp3 : decide ((w : Int) ≤ 0) = false := decide_eq_false (by omega)
              have hwn : ¬ w = 0 := by omega
              go_wp2_with fail
              go_region_held3 (fun _ => True) (trivial) (first
                | (go_at_call 27; refine (HLA.out (some ⟨g, 0, none⟩) c1 _ hTd).mono ?_; rintro e w10 ⟨rfl, hB10⟩))
              all_goals
                have HB10 := Lib.hid ((HB4.out.trans (HB49.out.mono HB4.out.size)).drew.trans (hB10.mono (HB4.out.trans (HB49.out.mono HB4.out.size)).size))
                clear hB10
                go_wp2_with fail
                go_ret
                refine ⟨?_, HB10.out⟩
                first
                  | rfl
                  | (show Ending.returned (.bool (decide (IntKind.i64.wrap ((L : Int) / (w : Int)) ≤ (la : Int)))) = _; rw [HWD.out, decide_eq_true HMI.out])
                  | (show Ending.returned (.bool (decide (wrap64 ((L : Int) / (w : Int)) ≤ (la : Int)))) = _; rw [hwd2, decide_eq_true HMI.out])
        · have hkd : decide ((w : Int) ≤ (k : Int)) = false := decide_eq_false (by omega)
          have hki : ¬ (w : Int) ≤ (k : Int) := by omega
          have hkj : (k : Int) < (w : Int) := by omega
          have HKW := Lib.hid hkw
          clear hkw
          obtain ⟨w8, hw8⟩ : ∃ w8, w8 = w7 := ⟨_, rfl⟩
          rw [← hw8] at HB47 ⊢
          have HB48 := Lib.hid HB47.out
          clear hw8 HB47
          go_wp2_with fail
          refine (HSH.out (some ⟨g, 0, none⟩) c1 w8 (HT4.out.below HB48.out)).mono ?_
          rintro e w9 ⟨ash, csh, rfl, hs9, hB9⟩
          have HB49 := Lib.hid (HB48.out.trans (hB9.mono HB48.out.size))
          have HS9 := Lib.hid hs9
          clear hB9 HB48 hs9
          go_wp2_with fail
          go_loop [11, 94] (fun tv j => ∃ i : Nat, i ≤ sh.length ∧ j = .int .i64 i ∧ tv = .int .i64 (sumI (sh.take i)) ∧ Hid (0 ≤ sumI (sh.take i) ∧ sumI (sh.take i) ≤ 40 * i)) (fun _ j => sh.length - (intOf j).toNat)
          case atStart => exact ⟨0, Nat.zero_le _, rfl, rfl, Lib.hid ⟨Int.le_refl _, Int.le_refl _⟩⟩
          case round =>
            obtain ⟨i, hi, rfl, rfl, hbd⟩ := hrel
            by_cases hlt : i < sh.length
            · obtain ⟨bs, os, rfl, hbs, hcs⟩ := intsAt_get HS9.out i hlt
              have hval := HSHG.out i (by rw [← HSHN.out]; exact hlt)
              have hvl := HSHL.out i
              have hsn := take_snoc sh i hlt
              have hgd := getD_int sh i hlt
              rw [hval] at hcs hgd
              rw [← hgd] at hsn
              have hi8 : i ≤ 8 := by have := HSHN.out; omega
              have hbo := hbd.out
              have hsu : sumI (sh.take (i + 1)) = sumI (sh.take i) + (shareB i ts : Int) := by rw [hsn, sumI_snoc]
              generalize shareB (i : Int) ts = sv at *
              generalize sumI (sh.take i) = acc at *
              have HSU := Lib.hid hsu
              have hnb : Hid (0 ≤ acc + (sv : Int) ∧ acc + (sv : Int) ≤ 40 * ((i + 1 : Nat) : Int)) := Lib.hid ⟨by omega, by omega⟩
              have hb1 : 0 ≤ acc := hbo.1
              have hb2 : acc ≤ 320 := by omega
              have hb3 : (sv : Int) ≤ 40 := by omega
              have hili : (i : Int) < (sh.length : Int) := by omega
              clear hval hvl hsn hgd hbo hsu hbd
              go_wp2_with fail
              exact ⟨⟨i + 1, by omega, by go_num, by rw [HSU.out], by rw [HSU.out]; exact hnb⟩, by simp [intOf]; omega⟩
            · obtain rfl : i = sh.length := by omega
              rw [List.take_length, HSUM.out]
              clear hbd
              have hTd : TurnsAt w9.drew (.slice (some ⟨g, 0, none⟩) L c1) ts := HT4.out.below (W' := w9.drew) HB49.out.drew
              have hwd1 := HWD.out
              have hwd2 : wrap64 ((L : Int) / (w : Int)) = (L : Int) / (w : Int) := HW2.out
              have hmi := HMI.out
              have hwp : ¬ (w : Int) ≤ 0 := by omega
              have hwp2 : (0 : Int) < (w : Int) := by omega
              have hwp3 : decide ((w : Int) ≤ 0) = false := decide_eq_false (by omega)
              have hwn : ¬ w = 0 := by omega
              go_wp2_with fail
              go_region_held3 (fun _ => True) (trivial) (first
                | (go_at_call 27; refine (HLA.out (some ⟨g, 0, none⟩) c1 _ hTd).mono ?_; rintro e w10 ⟨rfl, hB10⟩))
              all_goals
                have HB10 := Lib.hid ((HB4.out.trans (HB49.out.mono HB4.out.size)).drew.trans (hB10.mono (HB4.out.trans (HB49.out.mono HB4.out.size)).size))
                clear hB10
                go_wp2_with fail
                go_ret
                refine ⟨?_, HB10.out⟩
                first
                  | rfl
                  | (show Ending.returned (.bool (decide (IntKind.i64.wrap ((L : Int) / (w : Int)) ≤ (la : Int)))) = _; rw [HWD.out, decide_eq_true HMI.out])
                  | (show Ending.returned (.bool (decide (wrap64 ((L : Int) / (w : Int)) ≤ (la : Int)))) = _; rw [hwd2, decide_eq_true HMI.out])
theorem laidOut : laidOutB Try.prog = true := by kernel_rfl
set_option maxRecDepth 100000 in
theorem lifted (os : Os) (started : os.Started) (H : Type) (enc : TypeId × Value → H) :
    ReturnsInHanded {} Try.checked os 7 .any (Rows.picksPartsSpec.pre6 enc Try.prog Try.f7 Rows.picksPartsRow.domain false) (Rows.picksPartsSpec.post enc Try.prog Try.f7 false true false false) := by
  refine returnsInHanded_of_change (C := Try.checked) own started (by kernel_rfl) Try.func7
    (ChangeSpec.witness6 (enc := enc) (C := Try.checked) false ⟨#[], #[.int .i64 0, .slice none 0 0, .agg #[.int .i64 0, .int .i64 0]], []⟩ 8 (by kernel_rfl) (by kernel_rfl) (by kernel_rfl) (by kernel_rfl)) ?_
  intro W base args ds gs before hval0 hW hcnd _
  have hval : ∀ (j : Nat) t v, Try.f7.params[j]? = some t → args[j]? = some v → Value.okWide Try.prog W .any base t v := hval0
  have hW' := hW
  obtain ⟨p, q, hA0, hV, rfl, hfz, hnd⟩ := hW
  have hA : DataW.TrodAll enc Try.prog W 0 (fun _ => true) true Try.f7.params.toList args.toList ds p := hA0
  rw [Try.params7] at hA hval
  obtain ⟨v0, vs0, d0, ds0, p0, q0, hargs, rfl, rfl, h0, r0⟩ := trodAll_cons hA
  obtain ⟨v1, vs1, d1, ds1, p1, q1, rfl, rfl, rfl, h1, r1⟩ := trodAll_cons r0
  obtain ⟨v2, vs2, d2, ds2, p2, q2, rfl, rfl, rfl, h2, r2⟩ := trodAll_cons r1
  obtain ⟨rfl, rfl, rfl⟩ := trodAll_nil r2
  obtain rfl : args = #[v0, v1, v2] := by cases args; simp_all
  obtain ⟨rfl, rfl⟩ := trodVars_none hV
  obtain ⟨a0, rfl, rfl, rfl, w0⟩ := open_int Try.underlying3 (hval 0 3 v0 rfl rfl) h0
  obtain ⟨a1, len1, cap1, rfl⟩ := okWide_slice Try.underlying32 (hval 1 32 v1 rfl rfl)
  have k1 := h1
  have lt1 : ∀ x ∈ p1, x.block < W.heap.size := by obtain ⟨m, hm⟩ := k1; exact DataW.trod_lt m _ _ _ hm
  obtain ⟨z1, n1, w1⟩ : ∃ zs, len1 = zs.length ∧ TurnsAt W (.slice a1 len1 cap1) zs := by
    obtain ⟨fuel, hf⟩ := h1
    exact open_turns hf
  have k2 := h2
  have lt2 : ∀ x ∈ p2, x.block < W.heap.size := by obtain ⟨m, hm⟩ := k2; exact DataW.trod_lt m _ _ _ hm
  obtain ⟨a2, b2, rfl, w2, u2⟩ := open_pair (hval 2 49 v2 rfl rfl) h2
  clear hA0 hval0
  refine (walk a0 a1 len1 cap1 z1 a2 b2 W w0 n1 w1 w2 u2).mono fun e W' ⟨he, bel⟩ => ?_
  subst he
  exact ⟨_, rfl, _, _, _, [], _, [], hW', trodAll_mk1 (shut_bool Try.underlying4 _), (trodAll_cons_mk (shut_int Try.underlying3 w0) (trodAll_cons_mk (Below.trod laidOut (by kernel_rfl) (of_decide_eq_true (by kernel_rfl)) k1 bel lt1) (trodAll_cons_mk (Below.trod laidOut (by kernel_rfl) (of_decide_eq_true (by kernel_rfl)) k2 bel lt2) trodAll_mk0))), rfl, bel.frame _, fun h => by cases h⟩

theorem over : Rows.picksPartsRow.holds Try.pinned (OpenSpec.ofChange Rows.picksPartsSpec) :=
  OpenClaim.holds_of_wide 7 Try.f7 rfl rfl rfl rfl rfl rfl rfl ⟨rfl, rfl, rfl, rfl, rfl⟩ rfl rfl rfl rfl rfl (by kernel_rfl) Try.func7 (by kernel_rfl)
    (of_decide_eq_true (by kernel_rfl)) (by unfold Func.isWrapper; first | (rw [if_pos (by decide +kernel)]; kernel_rfl) | (rw [if_neg (by decide +kernel)]; exact ⟨rfl, rfl⟩))
    (fun os started H enc _ => lifted os started H enc)

theorem proved : Rows.PicksPartsSaid := over
end Go.Proofs.Ytmkpjpdjjdmklaa.picksParts
