/- own. -/
import Derived.Test.YtliecdpgajchbaaMw
namespace Go.Proofs
open Go.RowKit Go.Shelf
attribute [local go_sem] Oper.semAt_some

/-- A row of turns, and the rows in it, that the call owns. -/
def RowsInM (n₀ : Nat) (ts : List Mx) (vs : List Value) (W : World) : Prop := ∀ i (h : i < ts.length), ∃ a cap, vs[i * 2]? = some (.int .i64 ts[i].own) ∧ vs[i * 2 + 1]? = some (.slice a ts[i].q.length cap) ∧ OwnsInts n₀ ts[i].q (.slice a ts[i].q.length cap) W
def OwnsC (n₀ : Nat) (ts : List Mx) (v : Value) (W : World) : Prop := ∃ vs, W.ownsRow n₀ 53 2 v ts.length vs ∧ RowsInM n₀ ts vs W
theorem OwnsC.at {n₀ : Nat} {ts : List Mx} {v : Value} {W : World} (h : OwnsC n₀ ts v W) : MxAt W v ts := by
  obtain ⟨vs, h1, h2⟩ := h
  exact ⟨vs, rowAt_own h1, fun i hi => by obtain ⟨a, c, e, e2, ho⟩ := h2 i hi; exact ⟨a, c, e, e2, rowAt_own ho⟩⟩
theorem RowsInM.keep {n₀ h : Nat} {ts : List Mx} {vs : List Value} {A B : World} (o : RowsInM n₀ ts vs A) (hB : Below h A B) (hh : A.heap.size ≤ h) : RowsInM n₀ ts vs B := fun i hi => by
  obtain ⟨a, c, e, e2, ho⟩ := o i hi
  exact ⟨a, c, e, e2, owns_keep ho hB hh⟩
theorem OwnsC.keep {n₀ h : Nat} {ts : List Mx} {v : Value} {A B : World} (o : OwnsC n₀ ts v A) (hB : Below h A B) (hh : A.heap.size ≤ h) : OwnsC n₀ ts v B := by
  obtain ⟨vs, h1, h2⟩ := o
  exact ⟨vs, owns_keep h1 hB hh, h2.keep hB hh⟩
theorem ownsC_nil (n₀ : Nat) (W : World) : OwnsC n₀ [] (.slice none 0 0) W := ⟨[], World.ownsRow_nil _ _ _ _, fun _ hi => absurd hi (Nat.not_lt_zero _)⟩
theorem ownsC_snoc {n₀ : Nat} {W w1 : World} {ts : List Mx} {v v' : Value} {vs : List Value} {can : List Int} {ch : Int} {a : Option Addr} {c : Nat} (hrow : W.ownsRow n₀ 53 2 v ts.length vs) (h2 : RowsInM n₀ ts vs W) (hnew : OwnsInts n₀ can (.slice a can.length c) W)
    (ho : w1.ownsRow n₀ 53 2 v' (ts.length + 1) (vs ++ [.int .i64 ch, .slice a can.length c])) (hg : W.grownBy w1 v.ownBlock) : OwnsC n₀ (ts ++ [⟨ch, can⟩]) v' w1 := by
  have hl : vs.length = ts.length * 2 := hrow.1
  refine ⟨_, by rw [List.length_append]; exact ho, fun i hi => ?_⟩
  rw [List.length_append] at hi
  by_cases hlt : i < ts.length
  · obtain ⟨a', c', e, e2, ho'⟩ := h2 i hlt
    have eg : (ts ++ [⟨ch, can⟩])[i]'(by rw [List.length_append]; exact hi) = ts[i] := List.getElem_append_left hlt
    rw [eg]
    exact ⟨a', c', by rw [List.getElem?_append_left (by omega)]; exact e, by rw [List.getElem?_append_left (by omega)]; exact e2, grown_ne ho' hrow (by decide) hg⟩
  · have hi2 : i = ts.length := by simp at hi; omega
    subst hi2
    have eg : (ts ++ [⟨ch, can⟩])[ts.length]'(by rw [List.length_append]; exact hi) = ⟨ch, can⟩ := by simp
    rw [eg]
    exact ⟨a, c, by rw [List.getElem?_append_right (by omega), hl, Nat.sub_self]; rfl, by rw [List.getElem?_append_right (by omega), hl, Nat.add_sub_cancel_left]; rfl, grown_ne hnew hrow (by decide) hg⟩
theorem mx_one (a : Option Addr) (n c : Nat) (ch : Int) : ∀ u ∈ [Value.int .i64 ch, .slice a n c], u.oneCell' = true := by
  intro u hu
  simp at hu
  rcases hu with rfl | rfl <;> rfl


def cutM (m : Mx) : Mx := ⟨m.own, m.q.take 10⟩
def cutB (ms : List Mx) : List Mx := (ms.take 162).map cutM
theorem cutB_length (ms : List Mx) : (cutB ms).length ≤ 162 := by
  unfold cutB
  rw [List.length_map, List.length_take]
  omega
theorem cutB_q (ms : List Mx) : (flatQ (cutB ms)).length ≤ 1620 := by
  have key : ∀ l : List Mx, (flatQ (l.map cutM)).length ≤ l.length * 10 := fun l => by
    induction l with
    | nil => simp [flatQ]
    | cons m t ih =>
      have e : flatQ ((m :: t).map cutM) = m.q.take 10 ++ flatQ (t.map cutM) := by simp [flatQ, cutM]
      rw [e, List.length_append, List.length_take, List.length_cons]
      omega
  have h := key (ms.take 162)
  rw [List.length_take] at h
  unfold cutB
  omega
set_option maxRecDepth 100000 in
set_option maxHeartbeats 2000000 in
theorem Try.own_any (a : Option Addr) (n cap : Nat) (ms : List Mx) (w : World) (hI : MxAt w (.slice a n cap) ms) :
    Calls Try.prog 9 #[.slice a n cap] w fun e w' => ∃ v, e = .returned v ∧ OwnsC w.heap.size (cutB ms) v w' ∧ Below w.heap.size w w' := by
  obtain ⟨i0, hi, hz0, hz1', hz2⟩ := info_parts Try.infoMx
  obtain ⟨hn, hnc, hcm⟩ := mxAt_len hI
  have hreach : n ≤ maxLen := by omega
  unfold maxLen at hreach
  have hclone := fun (b : Option Addr) (k c : Nat) (can : List Int) (h1 : k = can.length) (h2 : k ≤ 100) W h3 => Try.cloneInts_any b k c can h1 h2 W h3
  have HCL := Lib.hid hclone
  have HI := Lib.hid hI
  have HN := Lib.hid hn
  clear hclone hI hn hnc hcm
  go_enter Try.func9, Try.ntmps9
  go_wp2_with fail
  go_loopw [3, 8] (fun o j wr => ∃ k : Nat, k ≤ n ∧ j = .int .i64 k ∧ OwnsC w.heap.size ((ms.take (min k 162)).map cutM) o wr ∧ Below w.heap.size w wr) (fun _ j _ => n - (intOf j).toNat)
  case atStart => exact ⟨0, Nat.zero_le _, rfl, ownsC_nil _ _, Below.refl _ _⟩
  case round =>
    obtain ⟨k, hk, rfl, hO, hB⟩ := hrel
    by_cases hlt : k < n
    · have hkl : k < ms.length := by rw [← HN.out]; exact hlt
      obtain ⟨b, off, a', c', rfl, hb, hc1, hc2, hin⟩ := mxAt_get (HI.out.below hB) k hkl
      have hki : (k : Int) < (n : Int) := by omega
      have hz := hB.size
      by_cases h162 : k < 162
      · have hsn : (ms.take (min (k + 1) 162)).map cutM = (ms.take (min k 162)).map cutM ++ [cutM ms[k]] := by
          rw [Nat.min_eq_left (by omega), Nat.min_eq_left (by omega), take_snoc ms k hkl, List.map_append]
          rfl
        have hln : ((ms.take (min k 162)).map cutM).length = k := by rw [List.length_map, List.length_take]; omega
        generalize ms[k] = m at *
        obtain ⟨ch, can⟩ := m
        dsimp only at hc1 hc2 hin
        have hft : cutM ⟨ch, can⟩ = ⟨ch, can.take 10⟩ := rfl
        rw [hft] at hsn
        have HSN := Lib.hid hsn
        have HLN := Lib.hid hln
        clear hsn hln hkl hft
        generalize (ms.take (min k 162)).map cutM = us at *
        obtain ⟨vs, hrow, hrin⟩ := hO
        rw [HLN.out] at hrow
        have h162i : (k : Int) < 162 := by omega
        have hcc : can.length ≤ c' ∧ c' ≤ maxLen := by
          obtain ⟨_, _, _, e, h1, h2, _⟩ := hin
          cases e
          exact ⟨h1, h2⟩
        have hI1 : can.length ≤ 10 → IntsAt wr (.slice a' can.length c') (can.take 10) := fun h => by
          rw [List.take_of_length_le h]
          exact hin
        have hI2 : 10 < can.length → IntsAt wr (.slice a' 10 c') (can.take 10) := fun h => ints_cut rfl hin 10 (by omega)
        have hck : (can.length ≤ 10 ∧ can.length = (can.take 10).length) ∨ (10 < can.length ∧ 10 = (can.take 10).length) := by
          rw [List.length_take]; omega
        have HI1 := Lib.hid hI1
        have HI2 := Lib.hid hI2
        have HR := Lib.hid hrow
        have HIN := Lib.hid hrin
        have HB := Lib.hid hB
        clear hin hI1 hI2 hrow hrin hB
        generalize can.take 10 = cut at *
        generalize can.length = cl at *
        go_wp2_with fail
        obtain ⟨W1, hW1⟩ : ∃ W1, W1 = wr.alloc (.cells #[.int .i64 ch, .slice a' cl c'] 53) := ⟨_, rfl⟩
        have r5 : Rows8 W1 wr.heap.size 53 #[.int .i64 ch, .slice a' cl c'] := by rw [hW1]; exact Rows8.new wr _ _
        have hB1 : Below wr.heap.size wr W1 := by rw [hW1]; exact (Below.refl _ wr).alloc (Nat.le_refl _) _
        rw [← hW1]
        have HR1 := Lib.hid (owns_keep HR.out hB1 (Nat.le_refl _))
        have HIN1 := Lib.hid (HIN.out.keep hB1 (Nat.le_refl _))
        have HB1 := Lib.hid (HB.out.trans (hB1.mono hz))
        have hz1 : w.heap.size ≤ W1.heap.size := HB1.out.size
        have hn3 : u3.ownBlock ≠ some wr.heap.size := fun e => by have := (World.ownsRow.lt HR.out _ e).2; omega
        clear hW1 HR HIN
        have hk0 : W1.cell? ⟨wr.heap.size, 0, none⟩ = some (.int .i64 ch) ∧ W1.cell? ⟨wr.heap.size, 1, none⟩ = some (.slice a' cl c') := ⟨r5.cell 0, r5.cell 1⟩
        rcases hck with ⟨hq1, hq2⟩ | ⟨hq1, hq2⟩
        all_goals first
          | (have g1 : (cl : Int) ≤ 10 := by omega
             have g2 : ¬ (10 : Int) < (cl : Int) := by omega
             have g3 : ¬ (c' : Int) < (cl : Int) := by omega
             have g4 : (cl : Int) ≤ (c' : Int) := by omega
             have f7 : min (cl : Int) 10 = (cl : Int) := Int.min_eq_left g1
             have f8 : (if (cl : Int) ≤ 10 then (cl : Int) else 10) = (cl : Int) := if_pos g1
             have f9 : (if (10 : Int) < (cl : Int) then (10 : Int) else (cl : Int)) = (cl : Int) := if_neg g2
             have HC := Lib.hid (HCL.out a' cl c' cut hq2 (by omega) W1.drew (RowAt.below (HI1.out hq1) (W' := W1.drew) hB1.drew))
             have hcl : cut.length ≤ 10 := by omega
             clear hq2 hq1 hB1)
          | (have g1 : ¬ (cl : Int) ≤ 10 := by omega
             have g2 : ¬ (cl : Int) < 10 := by omega
             have g3 : (10 : Int) < (cl : Int) := by omega
             have g5 : ¬ (c' : Int) < 10 := by omega
             have g6 : (10 : Int) ≤ (c' : Int) := by omega
             have f7 : min (cl : Int) 10 = 10 := Int.min_eq_right (by omega)
             have f8 : (if (cl : Int) ≤ 10 then (cl : Int) else 10) = 10 := if_neg g1
             have f9 : (if (10 : Int) < (cl : Int) then (10 : Int) else (cl : Int)) = 10 := if_pos g3
             have HC := Lib.hid (HCL.out a' 10 c' cut hq2 (by omega) W1.drew (RowAt.below (HI2.out hq1) (W' := W1.drew) hB1.drew))
             have hcl : cut.length ≤ 10 := by omega
             clear hq2 hq1 hB1)
        all_goals
          go_region_held3 (fun W' => W'.cell? ⟨wr.heap.size, 0, none⟩ = some (.int .i64 ch) ∧ W'.cell? ⟨wr.heap.size, 1, none⟩ = some (.slice a' cl c')) (first | exact hk0 | exact hk1 | exact hk2 _ | exact hk3) (first
            | (go_at_call 31; refine HC.out.mono ?_; rintro e wx ⟨vx, rfl, ox, Bx⟩; have s5 : Rows8 wx wr.heap.size 53 #[.int .i64 ch, .slice a' cl c'] := Rows8.below (A := W1.drew) r5 Bx r5.lt; have hk1 : wx.cell? ⟨wr.heap.size, 0, none⟩ = some (.int .i64 ch) ∧ wx.cell? ⟨wr.heap.size, 1, none⟩ = some (.slice a' cl c') := ⟨s5.cell 0, s5.cell 1⟩; have hk2 : ∀ o, (wx.alloc o).cell? ⟨wr.heap.size, 0, none⟩ = some (.int .i64 ch) ∧ (wx.alloc o).cell? ⟨wr.heap.size, 1, none⟩ = some (.slice a' cl c') := (fun o => ⟨(s5.alloc o).cell 0, (s5.alloc o).cell 1⟩); obtain ⟨_, ax, cx, rfl, _⟩ := rowAt_own ox; have rx := owns_keep (A := W1.drew) HR1.out Bx (Nat.le_refl _); have ry := World.ownsRow.alloc rx (.cells #[.int .i64 ch, .slice ax cut.length cx] 53); have hzx : w.heap.size ≤ wx.heap.size := Nat.le_trans hz1 Bx.size)
            | (refine step_append_row _ rfl _ _ 22 rfl w.heap.size 53 i0 (.agg #[.int .i64 0, .slice none 0 0]) 2 32 Try.underlying22 hi hz0 hz1' hz2 rfl (by decide) u3 k vs rfl ry _ 1 [.int .i64 ch, .slice ax cut.length cx] rfl (rowAt_own (own1 (n₀ := 0) (Rows8.new wx _ _) (Nat.zero_le _) rfl)) (mx_one _ _ _ _) (by unfold maxLen; omega) (by omega) (by simp; omega) ?_; intro v9 wy ho9 hg9 hb9; have t5 : Rows8 wy wr.heap.size 53 #[.int .i64 ch, .slice a' cl c'] := (hg9.block wr.heap.size (s5.alloc (.cells #[.int .i64 ch, .slice ax cut.length cx] 53)).lt (fun e => hn3 e.symm)).trans (s5.alloc (.cells #[.int .i64 ch, .slice ax cut.length cx] 53)); have hk3 : wy.cell? ⟨wr.heap.size, 0, none⟩ = some (.int .i64 ch) ∧ wy.cell? ⟨wr.heap.size, 1, none⟩ = some (.slice a' cl c') := ⟨t5.cell 0, t5.cell 1⟩))
        all_goals
          have hT : OwnsC w.heap.size (us ++ [⟨ch, cut⟩]) v9 wy := by
            have h1 := HLN.out
            subst h1
            exact ownsC_snoc ry (((show RowsInM w.heap.size us vs W1.drew from HIN1.out).keep Bx (Nat.le_refl _)).keep ((Below.refl wx.heap.size wx).alloc (Nat.le_refl _) _) (Nat.le_refl _)) (World.ownsRow.alloc (owns_mono ox hz1) _) ho9 hg9
          have hB9 : Below w.heap.size w wy := ((HB1.out.drew.trans (Bx.mono hz1)).alloc hzx (.cells #[.int .i64 ch, .slice ax cut.length cx] 53)).grown hg9 (by simp; omega) (fun j ej => (World.ownsRow.lt ry j ej).1)
          have HT9 := Lib.hid hT
          have HB9 := Lib.hid hB9
          clear hT hB9 ho9 hg9 hb9 t5 hk3 hk2 hk1 hk0 s5 rx ry ox Bx
          go_wp2_with fail
          exact ⟨⟨k + 1, by omega, by go_num, by rw [HSN.out]; exact HT9.out, HB9.out⟩, by simp [intOf]; omega⟩
      · have hno : (ms.take (min (k + 1) 162)).map cutM = (ms.take (min k 162)).map cutM := by rw [Nat.min_eq_right (by omega), Nat.min_eq_right (by omega)]
        have h162i : ¬ (k : Int) < 162 := by omega
        generalize ms[k] = m at *
        obtain ⟨ch, can⟩ := m
        dsimp only at hc1 hc2
        have hB1 : Below wr.heap.size wr (wr.alloc (.cells #[.int .i64 ch, .slice a' can.length c'] 53)) := Rows8.newB
        have HO := Lib.hid (hO.keep hB1 (Nat.le_refl _))
        have HB := Lib.hid (hB.trans (hB1.mono hz))
        have HNO := Lib.hid hno
        generalize can.length = cl at *
        clear hO hB hno hB1 hin hkl
        go_wp2_with fail
        exact ⟨⟨k + 1, by omega, by go_num, by rw [HNO.out]; exact HO.out, HB.out⟩, by simp [intOf]; omega⟩
    · obtain rfl : k = n := by omega
      have htk : (ms.take (min k 162)).map cutM = cutB ms := by
        unfold cutB
        rw [HN.out]
        by_cases h : ms.length ≤ 162
        · rw [Nat.min_eq_left h, List.take_of_length_le (Nat.le_refl _), List.take_of_length_le h]
        · rw [Nat.min_eq_right (by omega)]
      rw [htk] at hO
      have HO := Lib.hid hO
      have HB := Lib.hid hB
      clear hO hB htk
      go_wp2_with fail
      go_ret
      exact ⟨_, rfl, HO.out, HB.out⟩
theorem Try.own_ok (a : Option Addr) (n cap : Nat) (xs : List Mx) (w : World) (hI : MxAt w (.slice a n cap) xs) :
    Calls Try.prog 9 #[.slice a n cap] w fun e w' => ∃ va N vc, e = .returned (.slice va N vc) ∧ MxAt w' (.slice va N vc) (cutB xs) ∧ Below w.heap.size w w' :=
  (Try.own_any a n cap xs w hI).mono fun e w' ⟨v, h1, h2, h3⟩ => by
    obtain ⟨va, vc, rfl⟩ := mx_form h2.at
    exact ⟨va, _, vc, h1, h2.at, h3⟩
end Go.Proofs
