/- Pins: the reference's Back, Oldest, with; spoil; Clone of ops. -/
import Derived.Test.YtdkpenfgeohddaaPr
namespace Go.Proofs
set_option maxRecDepth 100000
open Go.RowKit Go.Shelf
attribute [local go_sem] Oper.semAt_some

theorem Rows8.grownNe {W w1 : World} {B : Nat} {t e : TypeId} {cs : Array Value} {n₀ k n : Nat} {v : Value} {xs : List Value} (r : Rows8 W B t cs) (o : W.ownsRow n₀ e k v n xs) (hne : e ≠ t) (hg : W.grownBy w1 v.ownBlock) : Rows8 w1 B t cs :=
  (hg.block B r.lt (fun e2 => owns_not o r hne e2.symm)).trans r
theorem bkB_far {E : Int} {S : List Int} {g : Nat} (h : S.length ≤ g) : bkB E S g = false := by
  unfold bkB
  rw [decide_eq_false (by omega), Bool.false_and]
theorem trues_far (f : Nat → Bool) (n : Nat) (h : ∀ g, n ≤ g → f g = false) : ∀ d, trues f (n + d) = trues f n
  | 0 => rfl
  | d + 1 => by rw [show n + (d + 1) = n + d + 1 by omega, trues_succ, h (n + d) (by omega), trues_far f n h d]; simp
theorem backN_len {E : Int} {S : List Int} (h8 : S.length ≤ 8) : trues (bkB E S) S.length = backN E S := by
  unfold backN
  rw [show 8 = S.length + (8 - S.length) by omega]
  exact (trues_far (bkB E S) S.length (fun g h => bkB_far h) _).symm
set_option maxHeartbeats 4000000 in
theorem Try.refBack_any (E : Int) (a : Option Addr) (n c : Nat) (S : List Int) (hk : Okp E S) (hr : rightN E S = true) (w : World) (hI : WordsAt w (.slice a n c) S) :
    Calls Try.prog 14 #[.agg #[.int .u64 E, .slice a n c]] w (IntsQ (backN E S) w) := by
  obtain ⟨i0, hi, hz0, hz1, hz2⟩ := info_parts Try.infoInt
  have hn := wordsAt_len hI
  have h8 := right_len hr
  have hn8 : n ≤ 8 := by omega
  have hB0 : Below w.heap.size w (w.alloc (.cells #[.int .u64 E, .slice a n c] 25)) := Rows8.newB
  have P0 := Lib.hid (Rows8.new w 25 #[.int .u64 E, .slice a n c])
  have HI := Lib.hid hI
  have HN := Lib.hid hn.1
  have HB0 := Lib.hid hB0
  have HS := Lib.hid hk.s
  have HM := Lib.hid ((rightN_iff E S).1 hr).2.2.2
  obtain ⟨L, hL⟩ : ∃ L, L = backN E S := ⟨_, rfl⟩
  rw [← hL]
  have HL := Lib.hid (show L = trues (bkB E S) S.length by rw [hL, backN_len h8])
  have hE := hk.e.1
  clear hI hn hB0 hr hL hk h8
  have c0 : (w.alloc (.cells #[.int .u64 E, .slice a n c] 25)).cell? ⟨w.heap.size, 0, none⟩ = some (.int .u64 E) := P0.out.cell 0
  have c1 : (w.alloc (.cells #[.int .u64 E, .slice a n c] 25)).cell? ⟨w.heap.size, 1, none⟩ = some (.slice a n c) := P0.out.cell 1
  go_enter Try.func14, Try.ntmps14
  go_wp2_with fail
  generalize w.alloc (.cells #[.int .u64 E, .slice a n c] 25) = W0 at *
  clear c0 c1
  go_loopw [3, 9] (fun v j wr => ∃ (k : Nat) (av : Option Addr) (nv cv : Nat), k ≤ n ∧ j = .int .i64 k ∧ v = .slice av nv cv ∧ nv ≤ k ∧ Hid (nv = (trues (bkB E S) k).length) ∧ Hid (OwnsInts w.heap.size (trues (bkB E S) k) (.slice av nv cv) wr) ∧ Hid (Rows8 wr w.heap.size 25 #[.int .u64 E, .slice a n c]) ∧ Hid (Below w.heap.size w wr)) (fun _ j _ => n - (intOf j).toNat)
  case atStart => exact ⟨0, none, 0, 0, Nat.zero_le _, rfl, rfl, Nat.le_refl _, Lib.hid rfl, Lib.hid (World.ownsRow_nil _ _ _ _), P0, HB0⟩
  case round =>
    obtain ⟨k, av, nv, cv, hk, rfl, rfl, hnk, hnv, hO, hP, hB⟩ := hrel
    clear P0 HB0
    have c0 : wr.cell? ⟨w.heap.size, 0, none⟩ = some (.int .u64 E) := hP.out.cell 0
    have lP := hP.out.lt
    by_cases hlt : k < n
    · have hkl : k < S.length := by rw [← HN.out]; exact hlt
      obtain ⟨b, off, rfl, hb2, cz⟩ := wordsAt_get (RowAt.below HI.out hB.out) k hkl
      have hzr := okW_get HS.out k hkl
      have hzm : S[k]?.getD 0 ≤ E + 1 := HM.out _ (by simp [List.getElem?_eq_getElem hkl])
      have hts := trues_succ (bkB E S) k
      have hbk : bkB E S k = (decide (0 < S[k]?.getD 0) && decide (S[k]?.getD 0 - 1 < E)) := by
        unfold bkB
        rw [decide_eq_true hkl, Bool.true_and]
        generalize S[k]?.getD 0 = z at *
        by_cases h0 : z = 0
        · subst h0; rfl
        · rw [show (z != 0) = true by simp [h0], decide_eq_true (show 0 < z by omega)]
          by_cases h1 : z - 1 < E
          · rw [decide_eq_true h1]; simp; omega
          · rw [decide_eq_false h1]; simp; omega
      rw [hbk] at hts
      generalize S[k]?.getD 0 = z at *
      have hki : (k : Int) < (n : Int) := by omega
      have hki0 : (0 : Int) ≤ (k : Int) := by omega
      clear hbk hkl hzm
      by_cases h0 : 0 < z
      · have d0 : decide (0 < z) = true := decide_eq_true h0
        have d0' : decide (z > 0) = true := d0
        have hw : IntKind.u64.wrap (z - 1) = z - 1 := wrap_u _ (by omega) (by omega)
        by_cases h1 : z - 1 < E
        · have d1 : decide (z - 1 < E) = true := decide_eq_true h1
          rw [d0, d1, if_pos (by rfl)] at hts
          have HT := Lib.hid hts
          have hsz := hB.out.size
          clear hts h0 h1
          have HNV2 := Lib.hid hnv
          have ho := hO.out
          unfold OwnsInts at ho
          rw [← hnv.out] at ho
          have HO := Lib.hid (ho.alloc (.cells #[.int .i64 k] 3))
          have HP1 := Lib.hid (hP.out.alloc (.cells #[.int .i64 k] 3))
          have HBa := Lib.hid (hB.out.alloc hsz (.cells #[.int .i64 k] 3))
          clear ho hO hP hB
          go_wp2_with (at_builtin; refine wpList_append_own _ rfl _ _ 32 rfl w.heap.size 3 i0 (.int .i64 0) 1 8 Try.underlying32 hi hz0 hz1 hz2 rfl (by decide) _ _ _ rfl HO.out ⟨wr.heap.size, 0, none⟩ 1 1 [.int .i64 k] rfl rfl (cells_new wr _ [.int .i64 k]) (by simp [Value.oneCell']) (by unfold maxLen; omega) (by omega) (by simp; omega) ?_)
          intro v' w3 hown' hgrow _
          obtain ⟨g', cap', rfl⟩ := ownsRow_succ hown'
          have HP3 := Lib.hid (HP1.out.grownNe HO.out (by decide) hgrow)
          have HB3 := Lib.hid (HBa.out.grown hgrow (by simp; omega) (fun j ej => (World.ownsRow.lt HO.out j ej).1))
          have HNV3 : Hid (nv + 1 = (trues (bkB E S) (k + 1)).length) := Lib.hid (by rw [HT.out, List.length_append, ← HNV2.out]; rfl)
          have HO3 : Hid (OwnsInts w.heap.size (trues (bkB E S) (k + 1)) (.slice (some ⟨g', 0, none⟩) (nv + 1) cap') w3) := Lib.hid (by
            unfold OwnsInts
            rw [← HNV3.out, HT.out, show intVals (trues (bkB E S) k ++ [(k : Int)]) = intVals (trues (bkB E S) k) ++ [.int .i64 k] by simp [intVals]]
            exact hown')
          clear hown' hgrow HO HP1 HBa
          go_wp2_with fail
          exact ⟨⟨k + 1, _, nv + 1, cap', by omega, by go_num, rfl, by omega, HNV3, HO3, HP3, HB3⟩, by simp [intOf]; omega⟩
        · have d1 : decide (z - 1 < E) = false := decide_eq_false h1
          rw [d0, d1, if_neg (by decide), List.append_nil] at hts
          have HT := Lib.hid hts
          clear hts h0 h1
          go_wp2_with fail
          exact ⟨⟨k + 1, av, nv, cv, by omega, by go_num, rfl, by omega, by rw [HT.out]; exact hnv, by rw [HT.out]; exact hO, hP, hB⟩, by simp [intOf]; omega⟩
      · have d0 : decide (0 < z) = false := decide_eq_false h0
        have d0' : decide (z > 0) = false := d0
        rw [d0, Bool.false_and, if_neg (by decide), List.append_nil] at hts
        have HT := Lib.hid hts
        clear hts h0
        go_wp2_with fail
        exact ⟨⟨k + 1, av, nv, cv, by omega, by go_num, rfl, by omega, by rw [HT.out]; exact hnv, by rw [HT.out]; exact hO, hP, hB⟩, by simp [intOf]; omega⟩
    · obtain rfl : k = n := by omega
      have hki : ¬ (k : Int) < (k : Int) := by omega
      have h9 : Hid (OwnsInts w.heap.size L (.slice av nv cv) wr) := Lib.hid (by rw [HL.out, ← HN.out]; exact hO.out)
      go_wp2_with fail
      go_ret
      exact ⟨_, rfl, h9.out, hB.out⟩
/-- Is it the least of those that are more than 0? -/
def leastB (S : List Int) (z : Int) : Bool := decide (0 < z) && S.all (fun x => !(decide (0 < x) && decide (x < z)))
theorem leastB_yes {S : List Int} (hS : okW S) {k : Nat} (hk : k < S.length) (h : leastB S (S[k]?.getD 0) = true) : oldN S = (S[k]?.getD 0 - 1, true) := by
  unfold leastB at h
  simp only [Bool.and_eq_true, decide_eq_true_eq, List.all_eq_true] at h
  obtain ⟨h1, h2⟩ := oldN_le hk (by omega)
  obtain ⟨y, hy, e⟩ := oldF_some (pinL S) h1
  obtain ⟨j, hj, _, e3, e4⟩ := (pinL_mem S y).1 hy
  have hjr := okW_get hS j hj
  have hm := h.2 (S[j]?.getD 0) (by simp [List.getElem?_eq_getElem hj])
  simp only [Bool.not_eq_true', Bool.and_eq_false_iff, decide_eq_false_iff_not] at hm
  have e5 : (oldN S).1 = y.2 := e
  refine Prod.ext ?_ h1
  show (oldN S).1 = S[k]?.getD 0 - 1
  omega
theorem leastB_no {S : List Int} (hS : okW S) (h : ∀ k, k < S.length → leastB S (S[k]?.getD 0) = false) : oldN S = (0, false) := by
  cases h1 : (oldN S).2 with
  | false => exact (oldF_none (pinL S) h1).2
  | true =>
    obtain ⟨y, hy, e⟩ := oldF_some (pinL S) h1
    obtain ⟨j, hj, _, e3, e4⟩ := (pinL_mem S y).1 hy
    have hjr := okW_get hS j hj
    have hf := h j hj
    have ht : leastB S (S[j]?.getD 0) = true := by
      unfold leastB
      simp only [Bool.and_eq_true, decide_eq_true_eq, List.all_eq_true]
      refine ⟨by omega, fun x hx => ?_⟩
      obtain ⟨i, hi, rfl⟩ := List.mem_iff_getElem.1 hx
      simp only [Bool.not_eq_true', Bool.and_eq_false_iff, decide_eq_false_iff_not]
      by_cases hx0 : 0 < S[i]
      · right
        have := (oldN_le (S := S) hi (by simp [List.getElem?_eq_getElem hi]; omega)).2
        simp only [List.getElem?_eq_getElem hi, Option.getD_some] at this
        have e5 : (oldN S).1 = y.2 := e
        omega
      · left; exact hx0
    rw [ht] at hf
    cases hf
theorem all_snoc {p : Int → Bool} (l : List Int) (k : Nat) (h : k < l.length) : (l.take (k + 1)).all p = ((l.take k).all p && p (l[k]?.getD 0)) := by
  rw [take_snoc l k h, List.all_append]; simp [h]
set_option maxHeartbeats 8000000 in
theorem Try.refOldest_any (E : Int) (a : Option Addr) (n c : Nat) (S : List Int) (hS : okW S) (w : World) (hI : WordsAt w (.slice a n c) S) :
    Calls Try.prog 15 #[.agg #[.int .u64 E, .slice a n c]] w fun e w' => e = .returned (.tuple #[.int .u64 (oldN S).1, .bool (oldN S).2]) ∧ Below w.heap.size w w' := by
  have hn := wordsAt_len hI
  have hreach : n ≤ 9223372036854775807 := by have := hn.2; unfold maxLen at this; omega
  have hB0 : Below w.heap.size w (w.alloc (.cells #[.int .u64 E, .slice a n c] 25)) := Rows8.newB
  have P0 := Lib.hid (Rows8.new w 25 #[.int .u64 E, .slice a n c])
  have HI := Lib.hid hI
  have HN := Lib.hid hn.1
  have HB0 := Lib.hid hB0
  have HS := Lib.hid hS
  obtain ⟨q, hq⟩ : ∃ q, q = oldN S := ⟨_, rfl⟩
  rw [← hq]
  have HQ := Lib.hid hq
  clear hI hn hB0 hS hq
  have c0 : (w.alloc (.cells #[.int .u64 E, .slice a n c] 25)).cell? ⟨w.heap.size, 0, none⟩ = some (.int .u64 E) := P0.out.cell 0
  have c1 : (w.alloc (.cells #[.int .u64 E, .slice a n c] 25)).cell? ⟨w.heap.size, 1, none⟩ = some (.slice a n c) := P0.out.cell 1
  go_enter Try.func15, Try.ntmps15
  go_wp2_with fail
  generalize w.alloc (.cells #[.int .u64 E, .slice a n c] 25) = W0 at *
  go_loopw [12] (fun j wr => ∃ k : Nat, k ≤ n ∧ j = .int .i64 k ∧ Hid (∀ i, i < k → leastB S (S[i]?.getD 0) = false) ∧ wr = W0) (fun j _ => n - (intOf j).toNat)
  case atStart => exact ⟨0, Nat.zero_le _, rfl, Lib.hid (fun i hi => absurd hi (Nat.not_lt_zero _)), rfl⟩
  case round =>
    obtain ⟨k, hk, rfl, hx, rfl⟩ := hrel
    by_cases hlt : k < n
    · have hkl : k < S.length := by rw [← HN.out]; exact hlt
      obtain ⟨b, off, rfl, hb2, cz⟩ := wordsAt_get (RowAt.below HI.out HB0.out) k hkl
      have hzr := okW_get HS.out k hkl
      have hyes := leastB_yes HS.out hkl
      obtain ⟨z, hz⟩ : ∃ z, z = S[k]?.getD 0 := ⟨_, rfl⟩
      rw [← hz] at cz hzr hyes
      have HZ := Lib.hid hz
      have HYES := Lib.hid hyes
      have hki : (k : Int) < (n : Int) := by omega
      have hki0 : (0 : Int) ≤ (k : Int) := by omega
      obtain ⟨z0, hz0⟩ : ∃ b, b = decide (0 < z) := ⟨_, rfl⟩
      have d0 : decide (0 < z) = z0 := hz0.symm
      have d0' : decide (z > 0) = z0 := d0
      have HZ0 := Lib.hid hz0
      clear hz hyes hkl hz0
      go_wp2_with fail
      obtain ⟨we, rfl⟩ : ∃ x, x = wr := ⟨_, rfl⟩
      go_loopw [6, 21] (fun f j wx => ∃ (i : Nat) (bf : Bool), i ≤ n ∧ f = .bool bf ∧ j = .int .i64 i ∧ Hid (bf = (z0 && (S.take i).all (fun x => !(decide (0 < x) && decide (x < z))))) ∧ wx = we) (fun _ j _ => n - (intOf j).toNat)
      case atStart => exact ⟨0, z0, Nat.zero_le _, rfl, rfl, Lib.hid (by simp), rfl⟩
      case round =>
        obtain ⟨i, bf, hi, rfl, rfl, hbf, rfl⟩ := hrel
        by_cases hit : i < n
        · have hil : i < S.length := by rw [← HN.out]; exact hit
          obtain ⟨b3, o3, e3, hb3, cx⟩ := wordsAt_get (RowAt.below HI.out HB0.out) i hil
          cases e3
          have hal := all_snoc (p := fun x => !(decide (0 < x) && decide (x < z))) S i hil
          generalize S[i]?.getD 0 = x at *
          have HAL := Lib.hid hal
          have hii : (i : Int) < (n : Int) := by omega
          have hii0 : (0 : Int) ≤ (i : Int) := by omega
          clear hal hil
          by_cases h1 : 0 < x
          · have e1 : decide (0 < x) = true := decide_eq_true h1
            have e1' : decide (x > 0) = true := e1
            by_cases h2 : x < z
            · have e2 : decide (x < z) = true := decide_eq_true h2
              have h9 : Hid (false = (z0 && (S.take (i + 1)).all (fun x => !(decide (0 < x) && decide (x < z))))) := Lib.hid (by rw [HAL.out, e1, e2]; simp)
              clear h1 h2
              go_wp2_with fail
              exact ⟨⟨i + 1, false, by omega, rfl, by go_num, h9, (by first | trivial | rfl)⟩, by simp [intOf]; omega⟩
            · have e2 : decide (x < z) = false := decide_eq_false h2
              have h9 : Hid (bf = (z0 && (S.take (i + 1)).all (fun x => !(decide (0 < x) && decide (x < z))))) := Lib.hid (by rw [HAL.out, e1, e2, hbf.out]; simp)
              clear h1 h2
              go_wp2_with fail
              exact ⟨⟨i + 1, bf, by omega, rfl, by go_num, h9, (by first | trivial | rfl)⟩, by simp [intOf]; omega⟩
          · have e1 : decide (0 < x) = false := decide_eq_false h1
            have e1' : decide (x > 0) = false := e1
            have h9 : Hid (bf = (z0 && (S.take (i + 1)).all (fun x => !(decide (0 < x) && decide (x < z))))) := Lib.hid (by rw [HAL.out, e1, hbf.out]; simp)
            clear h1
            go_wp2_with fail
            exact ⟨⟨i + 1, bf, by omega, rfl, by go_num, h9, (by first | trivial | rfl)⟩, by simp [intOf]; omega⟩
        · obtain rfl : i = n := by omega
          have hii : ¬ (i : Int) < (i : Int) := by omega
          have hlb : Hid (leastB S z = bf) := Lib.hid (by rw [hbf.out, HZ0.out, List.take_of_length_le (Nat.le_of_eq HN.out.symm)]; rfl)
          clear hit
          cases bf with
          | true =>
            have h9 := Lib.hid (HQ.out.trans (HYES.out hlb.out))
            have h0z : 0 < z := by have := hlb.out; unfold leastB at this; simp at this; exact this.1
            have hw : IntKind.u64.wrap (z - 1) = z - 1 := wrap_u _ (by omega) (by omega)
            clear h0z
            go_wp2_with fail
            go_ret2
            exact ⟨by rw [h9.out]; rfl, HB0.out⟩
          | false =>
            have hx2 : Hid (∀ i, i < k + 1 → leastB S (S[i]?.getD 0) = false) := Lib.hid (fun i hi => by
              by_cases h : i < k
              · exact hx.out i h
              · obtain rfl : i = k := by omega
                rw [← HZ.out]; exact hlb.out)
            go_wp2_with fail
            go_roundw
            case rel => exact ⟨k + 1, by omega, by go_num, hx2, (by first | trivial | rfl)⟩
            case measure => simp [intOf]; omega
    · obtain rfl : k = n := by omega
      have hki : ¬ (k : Int) < (k : Int) := by omega
      have h9 := Lib.hid (HQ.out.trans (leastB_no HS.out (fun i hi => hx.out i (by rw [HN.out]; exact hi))))
      go_wp2_with fail
      go_ret2
      exact ⟨by rw [h9.out]; rfl, HB0.out⟩
end Go.Proofs
