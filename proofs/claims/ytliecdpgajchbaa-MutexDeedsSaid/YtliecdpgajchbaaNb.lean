/- Has and Ring of the reference. -/
import Derived.Test.YtliecdpgajchbaaNa
namespace Go.Proofs
open Go.RowKit Go.Shelf
attribute [local go_sem] Oper.semAt_some

def hasZ (ms : List Mx) (g : Int) : List Int := if goerB g = true then hasB ms g else []
set_option maxRecDepth 100000 in
set_option maxHeartbeats 2000000 in
theorem Try.refHas_any (g : Int) (a : Option Addr) (n cap : Nat) (ms : List Mx) (hn1 : n ≤ 10000) (w : World) (hI : MxAt w (.slice a n cap) ms) :
    Calls Try.prog 17 #[.slice a n cap, .int .i64 g] w (IntsQ (hasZ ms g) w) := by
  obtain ⟨j0, hj, hy0, hy1, hy2⟩ := info_parts Try.infoInt
  have hn := (mxAt_len hI).1
  have HI := Lib.hid hI
  have HN := Lib.hid hn
  clear hI hn
  have hzd : hasZ ms g = if goerB g = true then hasB ms g else [] := rfl
  rw [hzd]
  clear hzd
  cases hg : goerB g with
  | false =>
    rw [if_neg (by decide)]
    go_enter Try.func17, Try.ntmps17
    go_wp2_with fail
    go_loopw [5, 10] (fun o j wr => ∃ k : Nat, k ≤ n ∧ j = .int .i64 k ∧ o = .slice none 0 0 ∧ Below w.heap.size w wr) (fun _ j _ => n - (intOf j).toNat)
    case atStart => exact ⟨0, Nat.zero_le _, rfl, rfl, Below.refl _ _⟩
    case round =>
      obtain ⟨k, hk, rfl, rfl, hB⟩ := hrel
      by_cases hlt : k < n
      · have hkl : k < ms.length := by rw [← HN.out]; exact hlt
        obtain ⟨b, off, a', c', rfl, hb, hc1, hc2, -⟩ := mxAt_get (HI.out.below hB) k hkl
        have hki : (k : Int) < (n : Int) := by omega
        generalize ms[k] = m at *
        obtain ⟨o, q⟩ := m
        dsimp only at hc1 hc2
        generalize q.length = ql at *
        have hB1 : Below wr.heap.size wr (wr.alloc (.cells #[.int .i64 o, .slice a' ql c'] 53)) := Rows8.newB
        have HB := Lib.hid (hB.trans (hB1.mono hB.size))
        clear hB hB1 hkl
        go_wp2_with fail
        refine (Try.goer_any g _).mono ?_
        rintro e w' ⟨rfl, rfl⟩
        rw [hg]
        go_wp2_with fail
        exact ⟨⟨k + 1, by omega, by go_num, rfl, HB.out⟩, by simp [intOf]; omega⟩
      · obtain rfl : k = n := by omega
        go_wp2_with fail
        go_ret
        exact ⟨_, rfl, World.ownsRow_nil _ _ _ _, hB⟩
  | true =>
    rw [if_pos rfl]
    have hgr : 0 ≤ g ∧ g ≤ 7 := by simpa [goerB] using hg
    go_enter Try.func17, Try.ntmps17
    go_wp2_with fail
    go_loopw [5, 10] (fun o j wr => ∃ (k m : Nat) (l : List Int), k ≤ n ∧ j = .int .i64 k ∧ m = l.length ∧ m ≤ k ∧ Hid (hasB ms g = l ++ hasF g k (ms.drop k)) ∧ Hid (OwnsInts w.heap.size l o wr) ∧ Hid (Below w.heap.size w wr)) (fun _ j _ => n - (intOf j).toNat)
    case atStart => exact ⟨0, 0, [], Nat.zero_le _, rfl, rfl, Nat.le_refl _, Lib.hid rfl, Lib.hid (World.ownsRow_nil _ _ _ _), Lib.hid (Below.refl _ _)⟩
    case round =>
      obtain ⟨k, m, l, hk, rfl, hml, hmk, hx, hO, hB⟩ := hrel
      have HML := Lib.hid hml
      clear hml
      by_cases hlt : k < n
      · have hkl : k < ms.length := by rw [← HN.out]; exact hlt
        obtain ⟨b, off, a', c', rfl, hb, hc1, hc2, -⟩ := mxAt_get (HI.out.below hB.out) k hkl
        have hki : (k : Int) < (n : Int) := by omega
        have hd := hx.out
        rw [hasF_drop g ms k hkl] at hd
        generalize ms[k] = mm at *
        obtain ⟨o, q⟩ := mm
        dsimp only at hc1 hc2 hd
        generalize q.length = ql at *
        have hB1 : Below wr.heap.size wr (wr.alloc (.cells #[.int .i64 o, .slice a' ql c'] 53)) := Rows8.newB
        have hz : w.heap.size ≤ wr.heap.size := hB.out.size
        have r1 := Rows8.new wr 53 #[.int .i64 o, .slice a' ql c']
        obtain ⟨W1, hW1⟩ : ∃ W1, W1 = wr.alloc (.cells #[.int .i64 o, .slice a' ql c'] 53) := ⟨_, rfl⟩
        have HB1 := Lib.hid (hB.out.trans (hB1.mono hz))
        have HO1 := Lib.hid (owns_keep hO.out hB1 (Nat.le_refl _))
        rw [← hW1] at r1 HB1 HO1
        have x1 : W1.cell? ⟨wr.heap.size, 0, none⟩ = some (.int .i64 o) := r1.cell 0
        have HD := Lib.hid hd
        have hW2 := hW1.symm
        have HW2 := Lib.hid hW2
        clear hB1 hd hx hW1 hW2 r1 hkl
        go_wp2_with fail
        rw [HW2.out]
        refine (Try.goer_any g _).mono ?_
        rintro e w' ⟨rfl, rfl⟩
        rw [hg]
        by_cases he : o = g + 1
        · have hq : (o == g + 1) = true := by simp [he]
          have hd := HD.out
          rw [if_pos he] at hd
          have hd2 : Hid (hasB ms g = (l ++ [(k : Int)]) ++ hasF g (k + 1) (ms.drop (k + 1))) := Lib.hid (by rw [hd]; simp)
          have hBa : Below W1.heap.size W1 (W1.alloc (.cells #[.int .i64 (k : Int)] 3)) := Rows8.newB
          have HBA := Lib.hid (HB1.out.trans (hBa.mono HB1.out.size))
          have HOA := Lib.hid (owns_keep HO1.out hBa (Nat.le_refl _))
          have hza : w.heap.size ≤ (W1.alloc (.cells #[.int .i64 (k : Int)] 3)).heap.size := HBA.out.size
          clear hd he HD hBa
          go_wp2_with (at_builtin; refine wpList_append_row _ rfl _ _ 23 rfl w.heap.size 3 j0 (.int .i64 0) 1 8 Try.underlying23 hj hy0 hy1 hy2 rfl (by decide) _ _ _ rfl HOA.out _ 1 [.int .i64 (k : Int)] rfl (rowAt_own (own1 (n₀ := 0) (Rows8.new W1 _ _) (Nat.zero_le _) rfl)) (by simp [Value.oneCell']) (by have := HML.out; unfold maxLen; omega) (by have := HML.out; omega) hza ?_)
          intro v9 w9 ho9 hg9 _
          have hO9 : OwnsInts w.heap.size (l ++ [(k : Int)]) v9 w9 := by
            unfold OwnsInts
            rw [show intVals (l ++ [(k : Int)]) = intVals l ++ [.int .i64 (k : Int)] by simp [intVals], List.length_append]
            exact ho9
          have hB9 : Below w.heap.size w w9 := HBA.out.grown hg9 hza (fun j ej => (World.ownsRow.lt HOA.out j ej).1)
          have HO9 := Lib.hid hO9
          have HB9 := Lib.hid hB9
          clear ho9 hg9 hO9 hB9
          go_wp2_with fail
          exact ⟨⟨k + 1, m + 1, l ++ [(k : Int)], by omega, by go_num, by rw [List.length_append, ← HML.out]; rfl, by omega, hd2, HO9, HB9⟩, by simp [intOf]; omega⟩
        · have hq : (o == g + 1) = false := by simp [he]
          have hd := HD.out
          rw [if_neg he] at hd
          have HD2 := Lib.hid hd
          clear hd he HD
          go_wp2_with fail
          exact ⟨⟨k + 1, m, l, by omega, by go_num, HML.out, by omega, HD2, HO1, HB1⟩, by simp [intOf]; omega⟩
      · obtain rfl : k = n := by omega
        have hfin : Hid (hasB ms g = l) := Lib.hid (by rw [hx.out, List.drop_of_length_le (Nat.le_of_eq HN.out.symm)]; simp [hasF])
        go_wp2_with fail
        go_ret
        exact ⟨_, rfl, by rw [hfin.out]; exact hO.out, hB.out⟩

theorem nx_none {ms : List Mx} {g : Int} (h : waitsB ms g = -1) : nxB ms g = -1 := by
  unfold nxB aheadB
  rw [if_pos h]
  rfl
theorem nx_some {ms : List Mx} (hr : rightB ms = true) {g : Int} {i : Nat} (h : waitsB ms g = (i : Int)) : ∃ hi : i < ms.length, nxB ms g = ms[i].own - 1 ∧ 0 ≤ nxB ms g ∧ nxB ms g ≤ 7 := by
  obtain ⟨hi, hq⟩ := waitsB_at h
  have ho := (right_at hi hr).1
  simp only [okB, decide_eq_true_eq] at ho
  have h0 : ms[i].own ≠ 0 := fun e => by
    have h2 : ms[i].q = [] := List.eq_nil_of_length_eq_zero (ho.2.2 e)
    rw [h2] at hq
    cases hq
  have e : nxB ms g = ms[i].own - 1 := by
    unfold nxB aheadB ownAt
    rw [if_neg (by rw [h]; omega), h, Int.toNat_natCast, List.getElem?_eq_getElem hi]
    rfl
  exact ⟨hi, e, by omega, by omega⟩

set_option maxRecDepth 100000 in
set_option maxHeartbeats 4000000 in
theorem Try.refRing_any (a : Option Addr) (n cap : Nat) (ms : List Mx) (hr : rightB ms = true) (w : World) (hI : MxAt w (.slice a n cap) ms) :
    Calls Try.prog 14 #[.slice a n cap] w (IntsQ (ringB ms) w) := by
  obtain ⟨j0, hj, hy0, hy1, hy2⟩ := info_parts Try.infoInt
  have hn := (mxAt_len hI).1
  have hw := fun (g : Int) (W : World) (hB : Below w.heap.size w W) => Try.refWaits_any g a n cap ms W (hI.below hB)
  have hl160 := ((rightB_iff ms).1 hr).1.2
  have HI := Lib.hid hI
  have HN := Lib.hid hn
  have HW := Lib.hid hw
  have hrg : ringB ms = ringG (nxB ms) 8 0 := rfl
  have hns := fun (g : Int) (i : Nat) h => @nx_some ms hr g i h
  have hnn := fun (g : Int) h => @nx_none ms g h
  have hwl := waitsB_le ms
  generalize ringB ms = R at *
  obtain ⟨f, hf⟩ : ∃ f, f = nxB ms := ⟨_, rfl⟩
  rw [← hf] at hrg hns hnn
  have HRG := Lib.hid hrg
  have HNS := Lib.hid hns
  have HNN := Lib.hid hnn
  have HWL := Lib.hid hwl
  clear hI hn hw hrg hns hnn hf hr hwl
  go_enter Try.func14, Try.ntmps14
  go_wp2_with fail
  go_loopw [6] (fun j wr => ∃ k : Nat, k ≤ 8 ∧ j = .int .i64 k ∧ Hid (R = ringG f (8 - k) k) ∧ Hid (Below w.heap.size w wr)) (fun j _ => 8 - (intOf j).toNat)
  case atStart => exact ⟨0, Nat.zero_le _, rfl, HRG, Lib.hid (Below.refl _ _)⟩
  case round =>
    obtain ⟨k, hk, rfl, hx, hB⟩ := hrel
    by_cases hlt : k < 8
    · have hki : (k : Int) < 8 := by omega
      have hno := @ringG_none f (7 - k) k
      rw [show 7 - k + 1 = 8 - k by omega, ← hx.out] at hno
      have hyes : ∀ l, chase f k 8 k = some l → R = l := fun l h => by
        have h2 := @ringG_some f (7 - k) k l h
        rw [show 7 - k + 1 = 8 - k by omega, ← hx.out] at h2
        exact h2
      have HNO := Lib.hid hno
      have HYES := Lib.hid hyes
      have hBa : Below wr.heap.size wr (wr.alloc (.cells #[.int .i64 (k : Int)] 3)) := Rows8.newB
      have HBA := Lib.hid (hB.out.trans (hBa.mono hB.out.size))
      have hO0 : OwnsInts w.heap.size [(k : Int)] (.slice (some ⟨wr.heap.size, 0, none⟩) 1 1) (wr.alloc (.cells #[.int .i64 (k : Int)] 3)) := own1 (Rows8.new wr _ _) hB.out.size rfl
      have HO0 := Lib.hid hO0
      clear hno hyes hx hBa hO0
      obtain ⟨we, rfl⟩ : ∃ x, x = wr := ⟨_, rfl⟩
      go_wp2_with fail
      go_loopw [4] (fun o wr => ∃ (c : Nat) (pre : List Int) (last : Int) (oa : Option Addr) (oc : Nat), c = pre.length ∧ c ≤ 8 ∧ o = .slice oa (c + 1) oc ∧ Hid (chase f k 8 k = (chase f k (8 - c) last).map (pre ++ ·)) ∧ Hid (OwnsInts w.heap.size (pre ++ [last]) (.slice oa (c + 1) oc) wr) ∧ Hid (Below w.heap.size w wr)) (fun o _ => match o with
        | .slice _ n _ => 10 - n
        | _ => 0)
      case atStart => exact ⟨0, [], k, _, _, rfl, Nat.zero_le _, rfl, Lib.hid (by simp), HO0, HBA⟩
      case round =>
        obtain ⟨c, pre, last, oa, oc, hcl, hc8, rfl, hch, hO, hB⟩ := hrel
        have HCL := Lib.hid hcl
        clear hcl
        obtain ⟨L, hL⟩ : ∃ L, L = c + 1 := ⟨_, rfl⟩
        rw [← hL] at hO ⊢
        have HLL := Lib.hid hL
        by_cases h8 : c < 8
        · have hLi : (L : Int) ≤ 8 := by omega
          have hw1 : IntKind.i64.wrap ((L : Int) - 1) = (c : Int) := by rw [show (L : Int) - 1 = (c : Int) by omega]; exact IntWalk.i64_in _ (by omega)
          have hcL : (c : Int) < (L : Int) := by omega
          have hpl : (pre ++ [last]).length = L := by rw [List.length_append, ← HCL.out, HLL.out]; rfl
          have hIA : IntsAt wr (.slice oa L oc) (pre ++ [last]) := by
            have h := rowAt_own hO.out
            rw [hpl] at h
            unfold IntsAt
            rw [hpl]
            exact h
          obtain ⟨b, off, rfl, hb, hz⟩ := intsAt_get hIA c (by rw [hpl]; omega)
          rw [show (pre ++ [last])[c]?.getD 0 = last by rw [HCL.out]; simp] at hz
          have hC := HW.out last wr hB.out
          have hstop := @chase_stop f (k : Int) (7 - c) last
          have hback := @chase_back f (k : Int) (7 - c) last
          have hon := @chase_on f (k : Int) (7 - c) last
          rw [show 7 - c + 1 = 8 - c by omega] at hstop hback hon
          have hch1 := hch.out
          have HC := Lib.hid hC
          have HPL := Lib.hid hpl
          have hwl := HWL.out last
          clear hC hIA hpl hL
          rcases hwl with hwn | ⟨hw0, hwi⟩
          · have hfl := HNN.out last hwn
            have hr := Lib.hid (HNO.out (by rw [hch1, hstop (by rw [hfl]; decide)]; rfl))
            rw [hwn] at HC
            clear hstop hback hon hch1 hch hwn hfl
            go_wp2_with fail
            refine HC.out.mono ?_
            rintro e w3 ⟨rfl, b3⟩
            have B3 := Lib.hid (hB.out.trans (b3.mono hB.out.size))
            clear b3
            go_wp2_with fail
            exact ⟨⟨k + 1, by omega, by go_num, by rw [show 8 - (k + 1) = 7 - k by omega]; exact hr, B3⟩, by simp [intOf]; omega⟩
          · obtain ⟨i, hi⟩ : ∃ i : Nat, waitsB ms last = (i : Int) := ⟨(waitsB ms last).toNat, by omega⟩
            obtain ⟨hil, hfo, hf0, hf7⟩ := HNS.out last i hi
            rw [hi] at HC
            have hin : (i : Int) < (n : Int) := by have := HN.out; omega
            have hin2 : ¬ (i : Int) < 0 := by omega
            have hmg := fun W (hB : Below w.heap.size w W) => mxAt_get (HI.out.below hB) i hil
            generalize ms[i] = m at *
            obtain ⟨o, q⟩ := m
            dsimp only at hfo hmg
            have hbk : o - 1 = (k : Int) → R = pre ++ [last] := fun h => HYES.out _ (by rw [hch1, hback (by omega) (by omega)]; rfl)
            have hcn : ¬ o - 1 = (k : Int) → chase f k 8 k = (chase f k (8 - (c + 1)) (o - 1)).map ((pre ++ [last]) ++ ·) := fun h => by
              rw [hch1, hon (by omega) (by omega), hfo, Option.map_map, show 7 - c = 8 - (c + 1) by omega]
              congr 1
              funext y
              simp
            have hwo : IntKind.i64.wrap (o - 1) = o - 1 := IntWalk.i64_in _ (by omega)
            have HBK := Lib.hid hbk
            have HCN := Lib.hid hcn
            have HMG := Lib.hid hmg
            clear hstop hback hon hch1 hch hi hfo hf0 hf7 hw0 hwi hbk hcn hmg hil
            go_wp2_with fail
            refine HC.out.mono ?_
            rintro e w3 ⟨rfl, b3⟩
            have B3 := Lib.hid (hB.out.trans (b3.mono hB.out.size))
            have O3 := Lib.hid (owns_keep hO.out b3 (Nat.le_refl _))
            obtain ⟨b4, off4, a4, c4, rfl, hb4, y1, -, -⟩ := HMG.out w3 B3.out
            clear b3 HMG HC
            by_cases he : o - 1 = (k : Int)
            · have hq : (o - 1 == (k : Int)) = true := by simp [he]
              have hr := Lib.hid (HBK.out he)
              clear he HBK HCN
              go_wp2_with fail
              go_ret
              exact ⟨_, rfl, by rw [hr.out]; exact O3.out, B3.out⟩
            · have hq : (o - 1 == (k : Int)) = false := by simp [he]
              have hr := Lib.hid (HCN.out he)
              have hBa : Below w3.heap.size w3 (w3.alloc (.cells #[.int .i64 (o - 1)] 3)) := Rows8.newB
              have HBA3 := Lib.hid (B3.out.trans (hBa.mono B3.out.size))
              have HOA3 := Lib.hid (owns_keep O3.out hBa (Nat.le_refl _))
              have hza : w.heap.size ≤ (w3.alloc (.cells #[.int .i64 (o - 1)] 3)).heap.size := HBA3.out.size
              clear he HBK HCN hBa
              go_wp2_with (at_builtin; refine wpList_append_row _ rfl _ _ 23 rfl w.heap.size 3 j0 (.int .i64 0) 1 8 Try.underlying23 hj hy0 hy1 hy2 rfl (by decide) _ _ _ rfl (by have h := HOA3.out; rw [HPL.out] at h; exact h) _ 1 [.int .i64 (o - 1)] rfl (rowAt_own (own1 (n₀ := 0) (Rows8.new w3 _ _) (Nat.zero_le _) rfl)) (by simp [Value.oneCell']) (by unfold maxLen; omega) (by omega) hza ?_)
              intro v9 w9 ho9 hg9 _
              have hO9 : OwnsInts w.heap.size ((pre ++ [last]) ++ [o - 1]) v9 w9 := by
                unfold OwnsInts
                rw [show intVals ((pre ++ [last]) ++ [o - 1]) = intVals (pre ++ [last]) ++ [.int .i64 (o - 1)] by simp [intVals], List.length_append, HPL.out]
                exact ho9
              have hB9 : Below w.heap.size w w9 := HBA3.out.grown hg9 hza (fun j ej => (World.ownsRow.lt HOA3.out j ej).1)
              obtain ⟨_, a9, c9, rfl, _⟩ := rowAt_own ho9
              have HO9 := Lib.hid hO9
              have HB9 := Lib.hid hB9
              clear ho9 hg9 hO9 hB9
              go_wp2_with fail
              exact ⟨⟨c + 1, pre ++ [last], o - 1, a9, c9, by rw [HPL.out, HLL.out], by omega, by rw [HLL.out], hr, by rw [← HLL.out]; exact HO9, HB9⟩, by show 10 - (L + 1) < 10 - L; omega⟩
        · have hLi : ¬ (L : Int) ≤ 8 := by omega
          have hr := Lib.hid (HNO.out (by rw [hch.out, show 8 - c = 0 by omega]; rfl))
          go_wp2_with fail
          exact ⟨⟨k + 1, by omega, by go_num, by rw [show 8 - (k + 1) = 7 - k by omega]; exact hr, hB⟩, by simp [intOf]; omega⟩
    · obtain rfl : k = 8 := by omega
      have hfin : Hid (R = []) := Lib.hid hx.out
      go_wp2_with fail
      go_ret
      exact ⟨_, rfl, by rw [hfin.out]; exact World.ownsRow_nil _ _ _ _, hB.out⟩
end Go.Proofs
