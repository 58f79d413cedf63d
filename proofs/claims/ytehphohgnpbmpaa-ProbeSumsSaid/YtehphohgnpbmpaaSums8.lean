/- Proved: for every number of groups, row of flags, and row of hashes, honeycomblaw08.ProbeSums returns true, and its arguments read as they did; no condition. -/
import Derived.Test.YtehphohgnpbmpaaQt
import Derived.BigQuiet
import Derived.ChangeAt
import Derived.JoinedAt
import Derived.ProofKit
import Derived.OpenShut
import Derived.Test.YtehphohgnpbmpaaRows
namespace Go.Proofs.Ytehphohgnpbmpaa.probeSums
open Go.ChangeShapes Go.WideShapes Go.ChangeAt Go.RowKit Go.Shelf
attribute [local go_sem] Oper.semAt_some

theorem own : ownKnob Try.prog.godebug = none := by kernel_rfl
theorem words_cut {W : World} {a : Option Addr} {n cap : Nat} {ws : List Int} (hn : n = ws.length) (h : WordsAt W (.slice a n cap) ws) (m : Nat) (hm : m ≤ n) : WordsAt W (.slice a m cap) (ws.take m) := by
  have h2 := RowAt.cut (k := 1) (show RowAt W (.slice a n cap) n 1 (wordVals ws) by rw [hn]; rw [hn] at h; exact h) m hm
  unfold WordsAt
  rw [show (ws.take m).length = m by rw [List.length_take]; omega]
  rw [Nat.mul_one] at h2
  rw [show wordVals (ws.take m) = (wordVals ws).take m by unfold wordVals; rw [List.map_take]]
  exact h2
theorem take_cut8 {n : Nat} {ws : List Int} (h : n = ws.length) : (min (n : Int) 8 = (((ws.take 8).length : Nat) : Int) ∧ (if (8 : Int) < (n : Int) then (8 : Int) else (n : Int)) = (((ws.take 8).length : Nat) : Int) ∧ (((ws.take 8).length = n ∧ ¬ (8 : Int) < (n : Int)) ∨ ((ws.take 8).length = 8 ∧ (8 : Int) < (n : Int)))) ∧ (ws.take 8).length ≤ n ∧ (ws.take 8).length ≤ 8 ∧ ws.take (ws.take 8).length = ws.take 8 := by
  rw [List.length_take, ← h]
  refine ⟨⟨by omega, by split <;> omega, by omega⟩, by omega, by omega, ?_⟩
  rcases Nat.le_total 8 n with h6 | h6
  · rw [Nat.min_eq_left h6]
  · rw [Nat.min_eq_right h6, List.take_of_length_le (by omega), List.take_of_length_le (by omega)]
set_option maxRecDepth 100000 in
set_option maxHeartbeats 4000000 in
theorem walkNo (g : Int) (hm : checkE g ≠ 0) (a1 : Option Addr) (n1 c1 : Nat) (a2 : Option Addr) (n2 c2 : Nat) (ws : List Int) (hn2 : n2 = ws.length) (w : World) (hw : WordsAt w (.slice a2 n2 c2) ws) :
    Calls Try.prog 7 #[.int .i64 g, .slice a1 n1 c1, .slice a2 n2 c2] w fun e w' => e = .returned (.bool true) ∧ Below w.heap.size w w' := by
  obtain ⟨⟨e8, e8b, e8c⟩, l8, m8, t8⟩ := take_cut8 hn2
  have hcap2 : n2 ≤ c2 := by obtain ⟨_, _, _, e, h1, h2, _⟩ := hw; cases e; omega
  have CW := Lib.hid (Try.wakes_any w)
  have CF := fun a n c W => Lib.hid (Try.Far_no g a n c hm W)
  clear hw t8 hm hn2
  generalize (ws.take 8).length = k8 at *
  have hi1 : (k8 : Int) ≤ (c2 : Int) := by omega
  have hi3 : ¬ (c2 : Int) < (k8 : Int) := by omega
  go_enter Try.func7, Try.ntmps7
  go_wp2_with fail
  refine CW.out.mono ?_
  rintro e w1 ⟨rfl, hB1⟩
  have HB1 := Lib.hid hB1
  clear hB1 CW
  go_wp2_with fail
  refine (CF _ _ _ _).out.mono ?_
  rintro e w2 ⟨rfl, rfl⟩
  go_wp2_with fail
  go_ret
  exact ⟨rfl, HB1.out⟩
theorem flags_len (bs : List Bool) (g : Nat) : (bs.take g ++ List.replicate (g - (bs.take g).length) false).length = g := by
  rw [List.length_append, List.length_replicate, List.length_take]; omega
theorem splice_flags (bs : List Bool) (g : Nat) : splice (List.replicate g (Value.bool false)) 0 (bVals (bs.take g)) = bVals (bs.take g ++ List.replicate (g - (bs.take g).length) false) := by
  unfold splice
  simp [bVals]
theorem none_true {fl : List Bool} {g l : Nat} (hm : mayB g = true) (hl : l < g) (hf : fl.length = g) (h : firstP (flagB fl) g l = none) : decide (true ∈ fl) = false := by
  refine decide_eq_false fun ht => ?_
  obtain ⟨x, hx, he⟩ := List.mem_iff_getElem.1 ht
  obtain ⟨i, hi, hr⟩ := rowAt_sur hm hl (x := x) (by omega)
  have h2 := firstP_no h i hi
  rw [hr] at h2
  simp [flagB, hx, he] at h2
theorem none_ahead {fl : List Bool} {g l i : Nat} (hi : i ≤ g) (h : ∀ j, j < i → flagB fl (rowAt g l j) = false) : ((rowG g l).take i).any (flagB fl) = false := by
  rw [List.any_eq_false]
  intro y hy
  obtain ⟨j, hj, rfl⟩ := List.mem_iff_getElem.1 hy
  rw [List.length_take, rowG_len] at hj
  rw [List.getElem_take, rowG_get, h j (by omega)]
  decide
theorem natI_take (ns : List Nat) (k : Nat) : (natI ns).take k = natI (ns.take k) := by unfold natI; rw [List.map_take]
theorem bools_of {W : World} {B n : Nat} {fl : List Bool} (h : Rows8 W B 4 (bVals fl).toArray) (hn : fl.length = n) (hl : n ≤ 1000) : BAt W (.slice (some ⟨B, 0, none⟩) n n) fl := by
  subst hn
  exact bools_lit fl h (by unfold maxLen; omega)
/-- copy into a row that is known whole; nothing but that row turns. -/
theorem wpList_copy_row {P : Program} {w : World} {ops : Array Oper} {rest : List Oper} {o : Oper} {a : Act} {Q : Exit → Act → World → Prop} (hgd : o.guard = none) (d s : Operand) (dT sT : TypeId)
    (ho : o.op = .call { callee := .builtin .copy, args := #[d, s], argTypes := #[dT, sT] }) (elem : TypeId) (hu : P.underlying dT = some (.slice elem)) (hsz : (P.info? elem).map (·.size) = some 1)
    (dp sp : Option Addr) (dLen dCap sLen sCap : Nat) (hd : a.eval d = .slice dp dLen dCap) (hs : a.eval s = .slice sp sLen sCap)
    (g off : Nat) (cur : List Value) (t : TypeId) (hg : w.heap[g]? = some (.cells cur.toArray t (0, 0))) (cs : List Value) (hn : cs.length = Nat.min sLen dLen)
    (hpos : 0 < cs.length → dp = some ⟨g, off, none⟩ ∧ ∃ ad, sp = some ad ∧ ∀ j v, cs[j]? = some v → w.cell? (ad.add j) = some v)
    (hfit : off + cs.length ≤ cur.length) (h1 : ∀ v ∈ cs, v.oneCell' = true)
    (h : ∀ w', Hid (w'.heap[g]? = some (.cells (splice cur off cs).toArray t (0, 0))) → w.grownBy w' (some g) → wpList P ops Q rest (a.put o.dst (goInt cs.length)) w') :
    wpList P ops Q (o :: rest) a w := by
  by_cases h0 : cs.length = 0
  · obtain rfl : cs = [] := List.eq_nil_of_length_eq_zero h0
    refine wpList_copy_nothing hgd d s dT sT ho elem hu hsz dp sp dLen dCap sLen sCap hd hs (by simpa using hn.symm) ?_
    exact h w (Lib.hid (by simpa [splice] using hg)) ⟨rfl, rfl, rfl, Nat.le_refl _, fun _ _ _ => rfl⟩
  · obtain ⟨rfl, ad, rfl, hsrc⟩ := hpos (by omega)
    refine wpList_copy_own hgd d s dT sT ho elem hu hsz g off dLen dCap ad sLen sCap hd hs cur.toArray t hg cs hn hsrc (by simpa using hfit) h1 ?_
    exact h _ (Lib.hid (by simpa [splice] using setRow_heap w g _ (splice cur off cs).toArray t _ hg)) ⟨rfl, rfl, rfl, by simp, fun k _ hk => setRow_other _ _ _ _ (fun e => hk (by rw [e]))⟩
theorem copy_src {W : World} {a : Option Addr} {n c : Nat} {bs : List Bool} (h : BAt W (.slice a n c) bs) (k : Nat) (h0 : 0 < (bVals (bs.take k)).length) :
    ∃ ad, a = some ad ∧ ∀ j v, (bVals (bs.take k))[j]? = some v → W.cell? (ad.add j) = some v := by
  rw [bVals_length, List.length_take] at h0
  obtain ⟨b, off, rfl, hb, _⟩ := bAt_get h 0 (by omega)
  refine ⟨_, rfl, fun j v hj => ?_⟩
  have hjl : j < (bVals (bs.take k)).length := by
    rcases Nat.lt_or_ge j (bVals (bs.take k)).length with h1 | h1
    · exact h1
    · rw [List.getElem?_eq_none h1] at hj; cases hj
  rw [bVals_length, List.length_take] at hjl
  obtain ⟨b2, off2, e, _, hc⟩ := bAt_get h j (by omega)
  injection e with e
  injection e with e1 e2
  subst e1 e2
  have hadd : (⟨b, off, none⟩ : Addr).add j = ⟨b, off + j, none⟩ := by unfold Addr.add; split <;> simp_all
  rw [hadd, hc, ← hj]
  simp [bVals, show j < k by omega, show j < bs.length by omega]
set_option maxRecDepth 100000 in
set_option maxHeartbeats 16000000 in
theorem walkYes (g : Nat) (hm : mayB g = true) (a1 : Option Addr) (n1 c1 : Nat) (bs : List Bool) (hn1 : n1 = bs.length) (a2 : Option Addr) (n2 c2 : Nat) (ws : List Int) (hn2 : n2 = ws.length) (hk : KeysOk ws) (w : World) (hb : BAt w (.slice a1 n1 c1) bs) (hw : WordsAt w (.slice a2 n2 c2) ws) :
    Calls Try.prog 7 #[.int .i64 (g : Int), .slice a1 n1 c1, .slice a2 n2 c2] w fun e w' => e = .returned (.bool true) ∧ Below w.heap.size w w' := by
  obtain ⟨hg, hg2⟩ := mayB_le hm
  obtain ⟨⟨e8, e8b, e8c⟩, l8, m8, t8⟩ := take_cut8 hn2
  have hk8 : KeysOk (ws.take 8) := fun k h => hk k (List.mem_of_mem_take h)
  have hwc := words_cut hn2 hw (ws.take 8).length l8
  rw [t8] at hwc
  have hcap2 : n2 ≤ c2 := by obtain ⟨_, _, _, e, h1, h2, _⟩ := hw; cases e; omega
  have hcap1 : n1 ≤ c1 ∧ c1 ≤ maxLen := by obtain ⟨_, _, _, e, h1, h2, _⟩ := hb; cases e; omega
  obtain ⟨i0, hi, hi0, hi1, hi2⟩ := info_parts Try.infoBool
  have hmk : ∀ W : World, (Instr.makeSlice 36 (.int .i64 (g : Int)) (.int .i64 (g : Int))).run Try.prog W = .ok (.slice (some ⟨W.heap.size, 0, none⟩) g g) (W.alloc (.cells (List.replicate g (Value.bool false)).toArray 4)) := fun W => by
    have h := run_makeSlice (P := Try.prog) (w := W) 36 4 i0 (.bool false) Try.underlying36 hi hi0 .i64 .i64 (g : Int) (g : Int) (by omega) (Int.le_refl _) (by rw [hi1, Int.toNat_natCast]; omega) (by rw [hi2]; omega) (by omega)
    rw [h, Int.toNat_natCast, hi1]
    congr 3
    simp only [madeCells, Value.cells, Nat.mul_one]
    apply Array.ext (by simp)
    intro i h1 h2
    simp [Nat.mod_one]
  clear hi hi0 hi1 hi2
  have CW := Lib.hid (Try.wakes_any w)
  have CF := fun W (hB : Below w.heap.size w W) => Lib.hid (Try.Far_ok g hm (ws.take 8) hk8 a2 (ws.take 8).length c2 rfl (by omega) W (RowAt.below hwc hB))
  have HW := Lib.hid hwc
  have HBS := Lib.hid hb
  have HN1 := Lib.hid hn1
  have HK8 := Lib.hid hk8
  have htot := far_total hm (lefts g (ws.take 8)) (lefts_lt hg _)
  have hle1 := fun x hx => farB_le1 hm (lefts g (ws.take 8)) (lefts_lt hg _) x hx
  rw [lefts_len] at htot hle1
  clear hb hw hwc t8 hn1 hn2 hk hk8
  generalize (ws.take 8) = hs at *
  generalize hm8 : hs.length = k8 at *
  have HM8 := Lib.hid hm8
  clear hm8
  have hfl := farL_len g (lefts g hs)
  have hget : ∀ k (h : k < (farL g (lefts g hs)).length), (farL g (lefts g hs))[k] = farB g (lefts g hs) k := fun k h => by simp [farL]
  have HGET := Lib.hid hget
  have HFL := Lib.hid hfl
  have HTOT := Lib.hid htot
  have HLE1 := Lib.hid hle1
  have hp1 : k8 * (g - 1) ≤ 8 * 63 := Nat.mul_le_mul m8 (by omega)
  have hp2 : g * (g - 1) ≤ 64 * 63 := Nat.mul_le_mul hg2 (by omega)
  have hp4 : k8 * (g * (g - 1) / 2) ≤ 8 * 2016 := Nat.mul_le_mul m8 (by omega)
  have hmul1 : (k8 : Int) * ((g : Int) - 1) = ((k8 * (g - 1) : Nat) : Int) := by rw [Int.natCast_mul, Int.natCast_sub hg]; rfl
  have hmul2 : (g : Int) * ((g : Int) - 1) = ((g * (g - 1) : Nat) : Int) := by rw [Int.natCast_mul, Int.natCast_sub hg]; rfl
  have hdiv : ((g * (g - 1) : Nat) : Int) / 2 = ((g * (g - 1) / 2 : Nat) : Int) := by rw [Int.natCast_ediv]; rfl
  have hmul4 : (k8 : Int) * ((g * (g - 1) / 2 : Nat) : Int) = ((k8 * (g * (g - 1) / 2) : Nat) : Int) := by rw [Int.natCast_mul]
  clear htot hle1 hfl hget
  generalize k8 * (g * (g - 1) / 2) = p4 at *
  generalize g * (g - 1) / 2 = p3 at *
  generalize g * (g - 1) = p2 at *
  generalize k8 * (g - 1) = p1 at *
  have hi1 : (k8 : Int) ≤ (c2 : Int) := by omega
  have hi3 : ¬ (c2 : Int) < (k8 : Int) := by omega
  go_enter Try.func7, Try.ntmps7
  go_wp2_with fail
  refine CW.out.mono ?_
  rintro e w1 ⟨rfl, hB1⟩
  have HB1 := Lib.hid hB1
  have CF := CF _ hB1
  clear hB1 CW
  go_wp2_with fail
  refine CF.out.mono ?_
  rintro e w2 ⟨b2, rfl, hb2, hr2, hB2⟩
  have HB2 := Lib.hid (HB1.out.trans (hB2.mono HB1.out.size))
  have HR2 := Lib.hid hr2
  clear CF hr2 hB2 HB1 e8 e8b e8c l8 hi1 hi3 hcap2
  go_wp2_with fail
  go_loop [9, 40] (fun t j => ∃ k : Nat, k ≤ g ∧ j = .int .i64 k ∧ t = .int .i64 ((((farL g (lefts g hs)).take k).sum : Nat) : Int) ∧ Hid (((farL g (lefts g hs)).take k).sum ≤ k * p1)) (fun _ j => g - (intOf j).toNat)
  case atStart => exact ⟨0, Nat.zero_le _, rfl, rfl, Lib.hid (by simp)⟩
  case round =>
    obtain ⟨k, hkg, rfl, rfl, hsm⟩ := hrel
    by_cases hlt : k < g
    · have hki : (k : Int) < (g : Int) := by omega
      have hkl : k < (farL g (lefts g hs)).length := by rw [HFL.out]; exact hlt
      have hsn := take_snoc (farL g (lefts g hs)) k hkl
      rw [HGET.out k hkl] at hsn
      have hc := HR2.out.cell k
      rw [arrN_get _ _ k hlt] at hc
      have hle := HLE1.out k hlt
      have hz := HR2.out.lt
      have hsl : ((farL g (lefts g hs)).take k).sum ≤ 64 * 504 := Nat.le_trans hsm.out (Nat.mul_le_mul (by omega) (by omega))
      have hs2 : Hid (((farL g (lefts g hs)).take (k + 1)).sum = ((farL g (lefts g hs)).take k).sum + farB g (lefts g hs) k) := Lib.hid (by rw [hsn]; simp)
      have hs3 : Hid (((farL g (lefts g hs)).take (k + 1)).sum ≤ (k + 1) * p1) := Lib.hid (by have := hsm.out; rw [hs2.out, Nat.add_mul]; omega)
      generalize ((farL g (lefts g hs)).take k).sum = s at *
      generalize farB g (lefts g hs) k = x at *
      have hx1 : ¬ (x : Int) < 0 := by omega
      have hx2 : ¬ (p1 : Int) < (x : Int) := by omega
      clear hsn hsm hkl
      go_wp2_with fail
      go_round
      case rel => exact ⟨k + 1, by omega, by go_num, by rw [hs2.out]; go_num, hs3⟩
      case measure => simp [intOf]; omega
    · obtain rfl : k = g := by omega
      have hall : ((farL k (lefts k hs)).take k).sum = p4 := by rw [List.take_of_length_le (Nat.le_of_eq HFL.out)]; exact HTOT.out
      rw [hall]
      have hne : ((p4 : Int) != (p4 : Int)) = false := by simp
      clear hall hsm
      have hms := hmk w2
      have hB3 : Below w2.heap.size w2 (w2.alloc (.cells (List.replicate k (Value.bool false)).toArray 4)) := (Below.refl _ w2).alloc (Nat.le_refl _) _
      have hr3 := Rows8.new w2 4 (List.replicate k (Value.bool false)).toArray
      have hbx := RowAt.below (RowAt.below HBS.out HB2.out) (hB3.alloc (by simp) (.cells #[.slice (some ⟨w2.heap.size, 0, none⟩) k k] 36))
      have hr4 := hr3.alloc (.cells #[.slice (some ⟨w2.heap.size, 0, none⟩) k k] 36)
      have hr5 := Rows8.new (w2.alloc (.cells (List.replicate k (Value.bool false)).toArray 4)) 36 #[.slice (some ⟨w2.heap.size, 0, none⟩) k k]
      have hB5 := hB3.alloc (by simp) (.cells #[.slice (some ⟨w2.heap.size, 0, none⟩) k k] 36)
      rw [World.size_alloc] at hr5
      simp only [List.toArray_replicate] at hbx hr4 hr5 hB5
      clear hr3 hB3
      go_wp2_with (refine wpList_copy_row rfl (.tmp 71) (.tmp 72) 36 36 rfl 4 Try.underlying36 (by kernel_rfl) (some ⟨w2.heap.size, 0, none⟩) a1 k k n1 c1 rfl rfl w2.heap.size 0 (List.replicate k (Value.bool false)) 4 (by rw [List.toArray_replicate]; exact hr4) (bVals (bs.take k)) (by rw [bVals_length, List.length_take, HN1.out, Nat.min_comm]) (fun h0 => ⟨rfl, copy_src hbx k h0⟩) (by rw [List.length_replicate, bVals_length, List.length_take]; omega) (bVals_one _) ?_)
      intro w4 hg4 hb4
      obtain ⟨fl, hfl⟩ : ∃ fl, fl = bs.take k ++ List.replicate (k - (bs.take k).length) false := ⟨_, rfl⟩
      have hlen : fl.length = k := by rw [hfl]; exact flags_len bs k
      have hR4 : Rows8 w4 w2.heap.size 4 (bVals fl).toArray := by
        have h := hg4.out
        rw [splice_flags, ← hfl] at h
        exact h
      have hX4 : Rows8 w4 (w2.heap.size + 1) 36 #[.slice (some ⟨w2.heap.size, 0, none⟩) k k] := (hb4.block _ hr5.lt (by simp)).trans hr5
      have hB4 : Below w2.heap.size w2 w4 := hB5.grown hb4 (by simp; omega) (fun j ej => by injection ej with ej; omega)
      have HBW := Lib.hid (HB2.out.trans (hB4.mono HB2.out.size))
      have HF4 := Lib.hid (bools_of hR4 hlen (by omega))
      have HX4 := Lib.hid hX4
      have HW4 := Lib.hid (RowAt.below (RowAt.below HW.out HB2.out) hB4)
      have HLN := Lib.hid hlen
      have HG := Lib.hid hm
      clear hg4 hfl hlen hR4 hX4 hB4 hb4 hr4 hr5 hB5 hbx hms HBS HN1 HB2 HR2 HLE1 HGET HFL HTOT hmul1 hmul2 hmul4 hdiv hp1 hp2 hp4 hne hmk CF
      generalize w2.heap.size = B at *
      go_wp2_with fail
      go_loopw [76] (fun j wr => ∃ i : Nat, i ≤ k8 ∧ j = .int .i64 i ∧ Below w4.heap.size w4 wr) (fun j _ => k8 - (intOf j).toNat)
      case atStart => exact ⟨0, Nat.zero_le _, rfl, Below.refl _ _⟩
      case round =>
        obtain ⟨i, hik, rfl, hB⟩ := hrel
        by_cases hlt3 : i < k8
        · have hii : (i : Int) < (k8 : Int) := by omega
          obtain ⟨b, off, rfl, hb, hc⟩ := wordsAt_get (show WordsAt wr (.slice a2 k8 c2) hs from RowAt.below HW4.out hB) i (by rw [HM8.out]; exact hlt3)
          have hlt4 : i < hs.length := by rw [HM8.out]; exact hlt3
          have hkr := HK8.out _ (List.getElem_mem hlt4)
          rw [List.getElem?_eq_getElem hlt4, Option.getD_some] at hc
          obtain ⟨h, hh⟩ : ∃ h : Nat, hs[i] = (h : Int) := ⟨(hs[i]).toNat, by omega⟩
          rw [hh] at hc hkr
          have hh2 : h < 18446744073709551616 := by omega
          have HFr := Lib.hid (RowAt.below HF4.out hB)
          have HXr := Lib.hid (HX4.out.below hB HX4.out.lt)
          have HBr := Lib.hid hB
          have cX : wr.cell? ⟨B + 1, 0, none⟩ = some (.slice (some ⟨B, 0, none⟩) k k) := HXr.out.cell 0
          have hXl := HXr.out.lt
          have hC := Try.First_ok k h HG.out hh2 fl (some ⟨B, 0, none⟩) k k rfl wr HFr.out
          have hll : h % k < k := Nat.mod_lt _ hg
          clear hh hlt4 hB
          cases hr : firstP (flagB fl) k (h % k) with
          | none =>
            rw [hr] at hC
            unfold firstV at hC
            dsimp only at hC
            have HC := Lib.hid hC
            have hD := fun W (hB : Below wr.heap.size wr W) => Lib.hid (Try.containsB_any (some ⟨B, 0, none⟩) k k fl HLN.out.symm true W (RowAt.below HFr.out hB))
            rw [none_true HG.out hll HLN.out hr] at hD
            clear hC hr hll
            go_wp2_with fail
            refine HC.out.mono ?_
            rintro e w7 ⟨rfl, hB7⟩
            have hD := hD _ hB7
            have cX7 : w7.cell? ⟨B + 1, 0, none⟩ = some (.slice (some ⟨B, 0, none⟩) k k) := (HXr.out.below hB7 HXr.out.lt).cell 0
            have hXl7 := (HXr.out.below hB7 HXr.out.lt).lt
            have HB7 := Lib.hid (HBr.out.trans (hB7.mono HBr.out.size))
            clear hB7 HBr HC
            go_wp2_with fail
            refine hD.out.mono ?_
            rintro e w8 ⟨rfl, rfl⟩
            go_wp2_with fail
            go_ret
            exact ⟨rfl, HBW.out.trans (HB7.out.mono HBW.out.size)⟩
          | some q =>
            obtain ⟨q1, q2, q3, q4⟩ := firstP_at hr
            rw [hr] at hC
            unfold firstV at hC
            dsimp only at hC
            have HC := Lib.hid hC
            have hA := fun W => Lib.hid (Try.Row_ok k h HG.out hh2 W)
            have hx : q.2 < k := by rw [q2]; exact rowAt_lt hg _ _
            have hna := none_ahead (fl := fl) (g := k) (l := h % k) (i := q.1) (by omega) q4
            have HF2 := fun W (hB : Below wr.heap.size wr W) => bAt_get (RowAt.below HFr.out hB) q.2 (by rw [HLN.out]; exact hx)
            have hfq : fl[q.2]'(by rw [HLN.out]; exact hx) = true := by
              have h1 := q3
              simp [flagB, show q.2 < fl.length by rw [HLN.out]; exact hx] at h1
              exact h1
            rw [hfq] at HF2
            have HQ2 := Lib.hid q2
            clear hC hr q3 q4 hfq q2
            go_wp2_with fail
            refine HC.out.mono ?_
            rintro e w7 ⟨rfl, hB7⟩
            have hA := hA w7
            clear HC
            go_wp2_with fail
            refine hA.out.mono ?_
            rintro e w8 ⟨b8, rfl, hb8, hr8, hB8⟩
            have hB87 : Below wr.heap.size wr w8 := hB7.trans (hB8.mono hB7.size)
            obtain ⟨bq, offq, eq, hbq, hcq⟩ := HF2 _ hB87
            injection eq with eq
            injection eq with eq1 eq2
            subst eq1 eq2
            rw [Nat.zero_add] at hcq
            have hX8 := HXr.out.below hB87 HXr.out.lt
            have cX8 : w8.cell? ⟨B + 1, 0, none⟩ = some (.slice (some ⟨B, 0, none⟩) k k) := hX8.cell 0
            have hX8l := hX8.lt
            have hcr := hr8.cell q.1
            rw [arr64_get _ q.1 (by omega), keptF_at q1, ← HQ2.out] at hcr
            have hr8l := hr8.lt
            have hcut := ints_cut (by rw [natI_len, rowG_len]) (rowQ_at hg2 hr8) q.1 (by omega)
            rw [natI_take] at hcut
            have hE := Lib.hid (Try.containsF_any fl (some ⟨B, 0, none⟩) k k (B + 1) (some ⟨b8, 0, none⟩) q.1 64 ((rowG k (h % k)).take q.1) (by rw [List.length_take, rowG_len]; omega) (fun y hy => by
              have hy2 := List.mem_of_mem_take hy
              unfold rowG at hy2
              obtain ⟨j, _, rfl⟩ := List.mem_map.1 hy2
              exact rowAt_lt hg _ _) w8 hX8 (RowAt.below HFr.out hB87) hcut)
            rw [hna] at hE
            have HB8 := Lib.hid (HBr.out.trans (hB87.mono HBr.out.size))
            obtain ⟨qi, qx⟩ := q
            dsimp only at *
            have e2 : ((qx : Int) != (qx : Int)) = false := by simp
            have hqi : (qi : Int) < (k : Int) := by omega
            have hqi2 : ¬ (64 : Int) < (qi : Int) := by omega
            have hqx : (qx : Int) < (k : Int) := by omega
            clear hr8 hX8 hcut hna hB87 hB8 hB7 HF2 HQ2 HBr hA hll
            go_wp2_with fail
            refine hE.out.mono ?_
            rintro e w9 ⟨rfl, rfl⟩
            go_wp2_with fail
            go_roundw
            case rel => exact ⟨i + 1, by omega, by go_num, HB8.out⟩
            case measure => simp [intOf]; omega
        · obtain rfl : i = k8 := by omega
          have HBr := Lib.hid hB
          clear hB
          go_wp2_with fail
          go_ret
          exact ⟨rfl, HBW.out.trans (HBr.out.mono HBW.out.size)⟩
theorem walk (a0 : Int) (a1 : Option Addr) (len1 cap1 : Nat) (z1 : List Bool) (a2 : Option Addr) (len2 cap2 : Nat) (z2 : List Int) (w : World) (_w0 : (Lit.int .i64 a0).wf = true) (n1 : len1 = z1.length) (w1 : BAt w (.slice a1 len1 cap1) z1) (n2 : len2 = z2.length) (w2 : WordsK w (.slice a2 len2 cap2) z2) :
    Calls Try.prog 7 #[.int .i64 a0, .slice a1 len1 cap1, .slice a2 len2 cap2] w fun e w' => e = .returned (.bool true) ∧ Below w.heap.size w w' := by
  by_cases hc : checkE a0 = 0
  · obtain ⟨g, rfl, hm, _⟩ := checkE_ok hc
    exact walkYes g hm a1 len1 cap1 z1 n1 a2 len2 cap2 z2 n2 w2.2 w w1 w2.1
  · exact walkNo a0 hc a1 len1 cap1 a2 len2 cap2 z2 n2 w w2.1
theorem laidOut : laidOutB Try.prog = true := by kernel_rfl
set_option maxRecDepth 100000 in
theorem lifted (os : Os) (started : os.Started) (H : Type) (enc : TypeId × Value → H) :
    ReturnsInHanded {} Try.checked os 7 .any (Rows.probeSumsSpec.pre6 enc Try.prog Try.f7 Rows.probeSumsRow.domain false) (Rows.probeSumsSpec.post enc Try.prog Try.f7 false true false false) := by
  refine returnsInHanded_of_change (C := Try.checked) own started (by kernel_rfl) Try.func7
    (ChangeSpec.witness6 (enc := enc) (C := Try.checked) false ⟨#[], #[.int .i64 0, .slice none 0 0, .slice none 0 0], []⟩ 8 (by kernel_rfl) (by kernel_rfl) (by kernel_rfl) (by kernel_rfl)) ?_
  intro W base args ds gs before hval0 hW hcnd _
  have hval : ∀ (j : Nat) t v, Try.f7.params[j]? = some t → args[j]? = some v → Value.okWide Try.prog W .any base t v := hval0
  have hW' := hW
  obtain ⟨p, q, hA0, hV, rfl, hfz, hnd⟩ := hW
  have hA : DataW.TrodAll enc Try.prog W 0 (fun _ => true) true Try.f7.params.toList args.toList ds p := hA0
  rw [Try.params7] at hA hval
  obtain ⟨v0, vs0, d0, ds0, p0, q0, hargs, rfl, rfl, h0, r0⟩ := trodAll_cons hA
  obtain ⟨v1, vs1, d1, ds1, p1, q1, rfl, rfl, rfl, h1, r1⟩ := trodAll_cons r0
  obtain ⟨v2, vs2, d2, ds2, p2, q2, rfl, rfl, rfl, h2, r2⟩ := trodAll_cons r1
  obtain ⟨rfl, rfl, rfl⟩ := trodAll_nil r2
  obtain rfl : args = #[v0, v1, v2] := by cases args; simp_all
  obtain ⟨rfl, rfl⟩ := trodVars_none hV
  obtain ⟨a0, rfl, rfl, rfl, w0⟩ := open_int Try.underlying3 (hval 0 3 v0 rfl rfl) h0
  obtain ⟨a1, len1, cap1, rfl⟩ := okWide_slice Try.underlying36 (hval 1 36 v1 rfl rfl)
  have k1 := h1
  have lt1 : ∀ x ∈ p1, x.block < W.heap.size := by obtain ⟨m, hm⟩ := k1; exact DataW.trod_lt m _ _ _ hm
  obtain ⟨z1, n1, w1⟩ : ∃ zs, len1 = zs.length ∧ BAt W (.slice a1 len1 cap1) zs := by
    obtain ⟨fuel, hf⟩ := h1
    exact open_bools hf
  obtain ⟨a2, len2, cap2, rfl⟩ := okWide_slice Try.underlying37 (hval 2 37 v2 rfl rfl)
  have k2 := h2
  have lt2 : ∀ x ∈ p2, x.block < W.heap.size := by obtain ⟨m, hm⟩ := k2; exact DataW.trod_lt m _ _ _ hm
  obtain ⟨z2, n2, w2⟩ : ∃ zs, len2 = zs.length ∧ WordsK W (.slice a2 len2 cap2) zs := by
    obtain ⟨fuel, hf⟩ := h2
    exact open_wordsK hf
  clear hA0 hval0
  refine (walk a0 a1 len1 cap1 z1 a2 len2 cap2 z2 W w0 n1 w1 n2 w2).mono fun e W' ⟨he, bel⟩ => ?_
  subst he
  exact ⟨_, rfl, _, _, _, [], _, [], hW', trodAll_mk1 (shut_bool Try.underlying4 _), (trodAll_cons_mk (shut_int Try.underlying3 w0) (trodAll_cons_mk (Below.trod laidOut (by kernel_rfl) (of_decide_eq_true (by kernel_rfl)) k1 bel lt1) (trodAll_cons_mk (Below.trod laidOut (by kernel_rfl) (of_decide_eq_true (by kernel_rfl)) k2 bel lt2) trodAll_mk0))), rfl, bel.frame _, fun h => by cases h⟩

theorem over : Rows.probeSumsRow.holds Try.pinned (OpenSpec.ofChange Rows.probeSumsSpec) :=
  OpenClaim.holds_of_wide 7 Try.f7 rfl rfl rfl rfl rfl rfl rfl ⟨rfl, rfl, rfl, rfl, rfl⟩ rfl rfl rfl rfl rfl (by kernel_rfl) Try.func7 (by kernel_rfl)
    (of_decide_eq_true (by kernel_rfl)) (by unfold Func.isWrapper; first | (rw [if_pos (by decide +kernel)]; kernel_rfl) | (rw [if_neg (by decide +kernel)]; exact ⟨rfl, rfl⟩))
    (fun os started H enc _ => lifted os started H enc)

theorem proved : Rows.ProbeSumsSaid := over
end Go.Proofs.Ytehphohgnpbmpaa.probeSums
