/- Turns that the call owns: both, few. -/
import Derived.Test.YtmkpjpdjjdmklaaKs
namespace Go.Proofs
open Go.RowKit Go.Shelf
attribute [local go_sem] Oper.semAt_some

theorem drew_own {W : World} {n₀ k n : Nat} {e : TypeId} {v : Value} {cs : List Value} (h : W.ownsRow n₀ e k v n cs) : W.drew.ownsRow n₀ e k v n cs := h
theorem Try.infoTurn : (Try.prog.info? 47).map (fun i => (i.zero, i.size, i.bytes)) = some (some (.agg #[.slice none 0 0, .int .i64 0]), 2, 32) := by kernel_rfl
/-- A row of turns, and the rows in it, that the call owns. -/
def RowsIn (n₀ : Nat) (ts : List Tn) (vs : List Value) (W : World) : Prop := ∀ i (h : i < ts.length), ∃ a cap, vs[i * 2]? = some (.slice a ts[i].can.length cap) ∧ vs[i * 2 + 1]? = some (.int .i64 ts[i].ch) ∧ OwnsInts n₀ ts[i].can (.slice a ts[i].can.length cap) W
def OwnsT (n₀ : Nat) (ts : List Tn) (v : Value) (W : World) : Prop := ∃ vs, W.ownsRow n₀ 47 2 v ts.length vs ∧ RowsIn n₀ ts vs W
theorem OwnsT.at {n₀ : Nat} {ts : List Tn} {v : Value} {W : World} (h : OwnsT n₀ ts v W) : TurnsAt W v ts := by
  obtain ⟨vs, h1, h2⟩ := h
  exact ⟨vs, rowAt_own h1, fun i hi => by obtain ⟨a, c, e, e2, ho⟩ := h2 i hi; exact ⟨a, c, e, e2, rowAt_own ho⟩⟩
theorem RowsIn.keep {n₀ h : Nat} {ts : List Tn} {vs : List Value} {A B : World} (o : RowsIn n₀ ts vs A) (hB : Below h A B) (hh : A.heap.size ≤ h) : RowsIn n₀ ts vs B := fun i hi => by
  obtain ⟨a, c, e, e2, ho⟩ := o i hi
  exact ⟨a, c, e, e2, owns_keep ho hB hh⟩
theorem OwnsT.keep {n₀ h : Nat} {ts : List Tn} {v : Value} {A B : World} (o : OwnsT n₀ ts v A) (hB : Below h A B) (hh : A.heap.size ≤ h) : OwnsT n₀ ts v B := by
  obtain ⟨vs, h1, h2⟩ := o
  exact ⟨vs, owns_keep h1 hB hh, h2.keep hB hh⟩
theorem ownsT_nil (n₀ : Nat) (W : World) : OwnsT n₀ [] (.slice none 0 0) W := ⟨[], World.ownsRow_nil _ _ _ _, fun _ hi => absurd hi (Nat.not_lt_zero _)⟩
theorem ownsT_snoc {n₀ : Nat} {W w1 : World} {ts : List Tn} {v v' : Value} {vs : List Value} {can : List Int} {ch : Int} {a : Option Addr} {c : Nat} (hrow : W.ownsRow n₀ 47 2 v ts.length vs) (h2 : RowsIn n₀ ts vs W) (hnew : OwnsInts n₀ can (.slice a can.length c) W)
    (ho : w1.ownsRow n₀ 47 2 v' (ts.length + 1) (vs ++ [.slice a can.length c, .int .i64 ch])) (hg : W.grownBy w1 v.ownBlock) : OwnsT n₀ (ts ++ [⟨can, ch⟩]) v' w1 := by
  have hl : vs.length = ts.length * 2 := hrow.1
  refine ⟨_, by rw [List.length_append]; exact ho, fun i hi => ?_⟩
  rw [List.length_append] at hi
  by_cases hlt : i < ts.length
  · obtain ⟨a', c', e, e2, ho'⟩ := h2 i hlt
    have eg : (ts ++ [⟨can, ch⟩])[i]'(by rw [List.length_append]; exact hi) = ts[i] := List.getElem_append_left hlt
    rw [eg]
    exact ⟨a', c', by rw [List.getElem?_append_left (by omega)]; exact e, by rw [List.getElem?_append_left (by omega)]; exact e2, grown_ne ho' hrow (by decide) hg⟩
  · have hi2 : i = ts.length := by simp at hi; omega
    subst hi2
    have eg : (ts ++ [⟨can, ch⟩])[ts.length]'(by rw [List.length_append]; exact hi) = ⟨can, ch⟩ := by simp
    rw [eg]
    exact ⟨a, c, by rw [List.getElem?_append_right (by omega), hl, Nat.sub_self]; rfl, by rw [List.getElem?_append_right (by omega), hl, Nat.add_sub_cancel_left]; rfl, grown_ne hnew hrow (by decide) hg⟩
theorem turn_one (a : Option Addr) (n c : Nat) (ch : Int) : ∀ u ∈ [Value.slice a n c, .int .i64 ch], u.oneCell' = true := by
  intro u hu
  simp at hu
  rcases hu with rfl | rfl <;> rfl

def bothB (l : List Int) : List Tn := l.map fun g => ⟨[0, 1], g⟩
def TurnsQ (ts : List Tn) (w : World) (e : Ending) (w' : World) : Prop := ∃ v, e = .returned v ∧ OwnsT w.heap.size ts v w' ∧ Below w.heap.size w w'
set_option maxRecDepth 100000 in
set_option maxHeartbeats 1000000 in
theorem Try.both_any (a : Option Addr) (n cap : Nat) (ws : List Int) (hn : n = ws.length) (hl : n ≤ 100) (w : World) (hI : IntsAt w (.slice a n cap) ws) :
    Calls Try.prog 31 #[.slice a n cap] w (TurnsQ (bothB ws) w) := by
  obtain ⟨i0, hi, hz0, hz1, hz2⟩ := info_parts Try.infoTurn
  have HI := Lib.hid hI
  have HN := Lib.hid hn
  clear hI hn
  go_enter Try.func31, Try.ntmps31
  go_wp2_with fail
  go_loopw [3, 8] (fun o j wr => ∃ k : Nat, k ≤ n ∧ j = .int .i64 k ∧ OwnsT w.heap.size (bothB (ws.take k)) o wr ∧ Below w.heap.size w wr) (fun _ j _ => n - (intOf j).toNat)
  case atStart => exact ⟨0, Nat.zero_le _, rfl, ownsT_nil _ _, Below.refl _ _⟩
  case round =>
    obtain ⟨k, hk, rfl, hO, hB⟩ := hrel
    by_cases hlt : k < n
    · have hkl : k < ws.length := by rw [← HN.out]; exact hlt
      obtain ⟨b, off, rfl, hb, hc⟩ := intsAt_get (RowAt.below HI.out hB) k hkl
      rw [getD_int ws k hkl] at hc
      have hsn : bothB (ws.take (k + 1)) = bothB (ws.take k) ++ [⟨[0, 1], ws[k]⟩] := by unfold bothB; rw [take_snoc ws k hkl, List.map_append]; rfl
      have hln : (bothB (ws.take k)).length = k := by unfold bothB; rw [List.length_map, List.length_take]; omega
      generalize ws[k] = g at *
      have HSN := Lib.hid hsn
      have HLN := Lib.hid hln
      clear hsn hln hkl
      generalize bothB (ws.take k) = ts at *
      obtain ⟨vs, hrow, hin⟩ := hO
      rw [HLN.out] at hrow
      have hz := hB.size
      have hki : (k : Int) < (n : Int) := by omega
      have hrow1 := World.ownsRow.alloc (World.ownsRow.alloc hrow (.cells #[.int .i64 0, .int .i64 1] 3)) (.cells #[.slice (some ⟨wr.heap.size, 0, none⟩) 2 2, .int .i64 g] 47)
      have hB2 : Below wr.heap.size wr ((wr.alloc (.cells #[.int .i64 0, .int .i64 1] 3)).alloc (.cells #[.slice (some ⟨wr.heap.size, 0, none⟩) 2 2, .int .i64 g] 47)) := ((Below.refl _ wr).alloc (Nat.le_refl _) _).alloc (by simp) _
      have hnew : OwnsInts w.heap.size [0, 1] (.slice (some ⟨wr.heap.size, 0, none⟩) [0, 1].length 2) ((wr.alloc (.cells #[.int .i64 0, .int .i64 1] 3)).alloc (.cells #[.slice (some ⟨wr.heap.size, 0, none⟩) 2 2, .int .i64 g] 47)) := World.ownsRow.alloc (World.ownsRow_lit (base := w.heap.size) (e := 3) (size := 1) wr #[.int .i64 0, .int .i64 1] 2 hz (by unfold maxLen; omega) rfl) _
      have hin1 := hin.keep hB2 (Nat.le_refl _)
      have HR := Lib.hid hrow1
      have HNEW := Lib.hid hnew
      have HIN := Lib.hid hin1
      have HB := Lib.hid (hB.trans (hB2.mono hz))
      clear hrow hrow1 hnew hin hin1 hB hB2
      go_wp2_with (at_builtin; refine wpList_append_row _ rfl _ _ 32 rfl w.heap.size 47 i0 (.agg #[.slice none 0 0, .int .i64 0]) 2 32 Try.underlying32 hi hz0 hz1 hz2 rfl (by decide) _ _ _ rfl HR.out _ 1 [.slice (some ⟨wr.heap.size, 0, none⟩) 2 2, .int .i64 g] rfl (rowAt_own (own1 (n₀ := 0) (rows_new2 wr _ _ _) (Nat.zero_le _) rfl)) (turn_one _ _ _ _) (by unfold maxLen; omega) (by omega) (by simp; omega) ?_)
      intro v' w1 hown' hgrow _
      have hR2 := HR.out
      have hT : OwnsT w.heap.size (ts ++ [⟨[0, 1], g⟩]) v' w1 := by
        have h1 := HLN.out
        subst h1
        exact ownsT_snoc hR2 HIN.out HNEW.out hown' hgrow
      have hB3 : Below w.heap.size w w1 := HB.out.grown hgrow (by simp; omega) (fun j ej => (World.ownsRow.lt hR2 j ej).1)
      have HT := Lib.hid hT
      have HB3 := Lib.hid hB3
      clear hown' hgrow hT hB3 hR2
      go_wp2_with fail
      exact ⟨⟨k + 1, by omega, by go_num, by rw [HSN.out]; exact HT.out, HB3.out⟩, by simp [intOf]; omega⟩
    · obtain rfl : k = n := by omega
      have htk : ws.take k = ws := List.take_of_length_le (by rw [← HN.out]; exact Nat.le_refl _)
      rw [htk] at hO
      have HO := Lib.hid hO
      have HB := Lib.hid hB
      clear hO hB htk
      go_wp2_with fail
      go_ret
      exact ⟨_, rfl, HO.out, HB.out⟩

def fewT (t : Tn) : Tn := ⟨t.can.take 10, t.ch⟩
def fewB (ts : List Tn) : List Tn := (ts.take 40).map fewT
theorem fewB_length (ts : List Tn) : (fewB ts).length ≤ 40 := by
  unfold fewB
  rw [List.length_map, List.length_take]
  omega
set_option maxRecDepth 100000 in
set_option maxHeartbeats 1000000 in
/-- The loop of few, over turns that are no more than 40. -/
theorem Try.few_any (a : Option Addr) (n cap : Nat) (xs : List Tn) (w : World) (hI : TurnsAt w (.slice a n cap) xs) :
    Calls Try.prog 17 #[.slice a n cap] w (TurnsQ (fewB xs) w) := by
  obtain ⟨i0, hi, hz0, hz1', hz2⟩ := info_parts Try.infoTurn
  obtain ⟨hn, hnc, hcm⟩ := turnsAt_len hI
  have hreach : n ≤ maxLen := by omega
  have hT1 : n ≤ 40 → TurnsAt w (.slice a n cap) (xs.take 40) := fun h => by
    rw [List.take_of_length_le (by rw [← hn]; exact h)]
    exact hI
  have hT2 : 40 < n → TurnsAt w (.slice a 40 cap) (xs.take 40) := fun h => turns_cut hI 40 (by omega)
  have hk : (n ≤ 40 ∧ n = (xs.take 40).length) ∨ (40 < n ∧ 40 = (xs.take 40).length) := by
    rw [List.length_take]; omega
  have hfb : fewB xs = (xs.take 40).map fewT := rfl
  rw [hfb]
  unfold maxLen at hreach
  have HT1 := Lib.hid hT1
  have HT2 := Lib.hid hT2
  clear hI hn hcm hfb hT1 hT2
  generalize xs.take 40 = ts at *
  have hclone := fun (b : Option Addr) (k c : Nat) (can : List Int) (h1 : k = can.length) (h2 : k ≤ 100) W h3 => Try.cloneInts_any b k c can h1 h2 W h3
  have HCL := Lib.hid hclone
  clear hclone
  go_enter Try.func17, Try.ntmps17
  rcases hk with ⟨hk1, hk2⟩ | ⟨hk1, hk2⟩
  all_goals first
    | (have f1 : (n : Int) ≤ 40 := by omega
       have f2 : ¬ (40 : Int) < (n : Int) := by omega
       have f3 : ¬ (cap : Int) < (n : Int) := by omega
       have HT := Lib.hid (HT1.out hk1)
       have HK2 := Lib.hid hk2
       clear hk2 HT1 HT2
       go_wp2_with fail
       obtain ⟨m, hm⟩ : ∃ m, m = n := ⟨_, rfl⟩
       rw [← hm] at HT HK2 ⊢
       have hm40 : m ≤ 40 := by omega
       clear f1 f2 f3 hk1 hm)
    | (have f1 : ¬ (n : Int) ≤ 40 := by omega
       have f2 : ¬ (n : Int) < 40 := by omega
       have f3 : (40 : Int) < (n : Int) := by omega
       have f4 : (40 : Nat) ≤ cap := by omega
       have f5 : ¬ (cap : Int) < 40 := by omega
       have HT := Lib.hid (HT2.out hk1)
       have HK2 := Lib.hid hk2
       clear hk2 HT1 HT2
       go_wp2_with fail
       obtain ⟨m, hm⟩ : ∃ m : Nat, m = 40 := ⟨_, rfl⟩
       have em : (40 : Int) = (m : Int) := by omega
       rw [em, ← hm]
       rw [← hm] at HT HK2
       have hm40 : m ≤ 40 := by omega
       clear f1 f2 f3 f4 f5 hk1 hm em)
  all_goals
    go_loopw [3, 12] (fun o j wr => ∃ k : Nat, k ≤ m ∧ j = .int .i64 k ∧ OwnsT w.heap.size ((ts.take k).map fewT) o wr ∧ Below w.heap.size w wr) (fun _ j _ => m - (intOf j).toNat)
    case atStart => exact ⟨0, Nat.zero_le _, rfl, ownsT_nil _ _, Below.refl _ _⟩
    case round =>
      obtain ⟨k, hk, rfl, hO, hB⟩ := hrel
      by_cases hlt : k < m
      · have hkl : k < ts.length := by rw [← HK2.out]; exact hlt
        obtain ⟨b, off, a', c', rfl, hb, hc1, hc2, hin⟩ := turnsAt_get (HT.out.below hB) k hkl
        have hsn : (ts.take (k + 1)).map fewT = (ts.take k).map fewT ++ [fewT ts[k]] := by rw [take_snoc ts k hkl, List.map_append]; rfl
        have hln : ((ts.take k).map fewT).length = k := by rw [List.length_map, List.length_take]; omega
        generalize ts[k] = t at *
        obtain ⟨can, ch⟩ := t
        dsimp only at hc1 hc2 hin
        have hft : fewT ⟨can, ch⟩ = ⟨can.take 10, ch⟩ := rfl
        rw [hft] at hsn
        have HSN := Lib.hid hsn
        have HLN := Lib.hid hln
        clear hsn hln hkl hft
        generalize (ts.take k).map fewT = us at *
        obtain ⟨vs, hrow, hrin⟩ := hO
        rw [HLN.out] at hrow
        have hz := hB.size
        have hki : (k : Int) < (m : Int) := by omega
        have hcc : can.length ≤ c' ∧ c' ≤ maxLen := by
          obtain ⟨_, _, _, e, h1, h2, _⟩ := hin
          cases e
          exact ⟨h1, h2⟩
        have hI1 : can.length ≤ 10 → IntsAt wr (.slice a' can.length c') (can.take 10) := fun h => by
          rw [List.take_of_length_le h]
          exact hin
        have hI2 : 10 < can.length → IntsAt wr (.slice a' 10 c') (can.take 10) := fun h => ints_cut rfl hin 10 (by omega)
        have hck : (can.length ≤ 10 ∧ can.length = (can.take 10).length) ∨ (10 < can.length ∧ 10 = (can.take 10).length) := by
          rw [List.length_take]; omega
        have HI1 := Lib.hid hI1
        have HI2 := Lib.hid hI2
        have HR := Lib.hid hrow
        have HIN := Lib.hid hrin
        have HB := Lib.hid hB
        clear hin hI1 hI2 hrow hrin hB
        generalize can.take 10 = cut at *
        generalize can.length = cl at *
        go_wp2_with fail
        obtain ⟨W1, hW1⟩ : ∃ W1, W1 = wr.alloc (.cells #[.slice a' cl c', .int .i64 ch] 47) := ⟨_, rfl⟩
        have r5 : Rows8 W1 wr.heap.size 47 #[.slice a' cl c', .int .i64 ch] := by rw [hW1]; exact Rows8.new wr _ _
        have hB1 : Below wr.heap.size wr W1 := by rw [hW1]; exact (Below.refl _ wr).alloc (Nat.le_refl _) _
        rw [← hW1]
        have HR1 := Lib.hid (owns_keep HR.out hB1 (Nat.le_refl _))
        have HIN1 := Lib.hid (HIN.out.keep hB1 (Nat.le_refl _))
        have HB1 := Lib.hid (HB.out.trans (hB1.mono hz))
        have hz1 : w.heap.size ≤ W1.heap.size := HB1.out.size
        have hn3 : u3.ownBlock ≠ some wr.heap.size := fun e => by have := (World.ownsRow.lt HR.out _ e).2; omega
        clear hW1 HR HIN
        have hk0 : W1.cell? ⟨wr.heap.size, 0, none⟩ = some (.slice a' cl c') ∧ W1.cell? ⟨wr.heap.size, 1, none⟩ = some (.int .i64 ch) := ⟨r5.cell 0, r5.cell 1⟩
        rcases hck with ⟨hq1, hq2⟩ | ⟨hq1, hq2⟩
        all_goals first
          | (have g1 : (cl : Int) ≤ 10 := by omega
             have g2 : ¬ (10 : Int) < (cl : Int) := by omega
             have g3 : ¬ (c' : Int) < (cl : Int) := by omega
             have g4 : (cl : Int) ≤ (c' : Int) := by omega
             have HC := Lib.hid (HCL.out a' cl c' cut hq2 (by omega) W1.drew (RowAt.below (HI1.out hq1) (W' := W1.drew) hB1.drew))
             have hcl : cut.length ≤ 10 := by omega
             clear hq2 hq1 hB1)
          | (have g1 : ¬ (cl : Int) ≤ 10 := by omega
             have g2 : ¬ (cl : Int) < 10 := by omega
             have g3 : (10 : Int) < (cl : Int) := by omega
             have g5 : ¬ (c' : Int) < 10 := by omega
             have g6 : (10 : Int) ≤ (c' : Int) := by omega
             have HC := Lib.hid (HCL.out a' 10 c' cut hq2 (by omega) W1.drew (RowAt.below (HI2.out hq1) (W' := W1.drew) hB1.drew))
             have hcl : cut.length ≤ 10 := by omega
             clear hq2 hq1 hB1)
        all_goals
          go_region_held3 (fun W' => W'.cell? ⟨wr.heap.size, 0, none⟩ = some (.slice a' cl c') ∧ W'.cell? ⟨wr.heap.size, 1, none⟩ = some (.int .i64 ch)) (first | exact hk0 | exact hk1 | exact hk2 _ | exact hk3) (first
            | (go_at_call 10; refine HC.out.mono ?_; rintro e wx ⟨vx, rfl, ox, Bx⟩; have s5 : Rows8 wx wr.heap.size 47 #[.slice a' cl c', .int .i64 ch] := Rows8.below (A := W1.drew) r5 Bx r5.lt; have hk1 : wx.cell? ⟨wr.heap.size, 0, none⟩ = some (.slice a' cl c') ∧ wx.cell? ⟨wr.heap.size, 1, none⟩ = some (.int .i64 ch) := ⟨s5.cell 0, s5.cell 1⟩; have hk2 : ∀ o, (wx.alloc o).cell? ⟨wr.heap.size, 0, none⟩ = some (.slice a' cl c') ∧ (wx.alloc o).cell? ⟨wr.heap.size, 1, none⟩ = some (.int .i64 ch) := (fun o => ⟨(s5.alloc o).cell 0, (s5.alloc o).cell 1⟩); obtain ⟨_, ax, cx, rfl, _⟩ := rowAt_own ox; have rx := owns_keep (A := W1.drew) HR1.out Bx (Nat.le_refl _); have ry := World.ownsRow.alloc rx (.cells #[.slice ax cut.length cx, .int .i64 ch] 47); have hzx : w.heap.size ≤ wx.heap.size := Nat.le_trans hz1 Bx.size)
            | (refine step_append_row _ rfl _ _ 32 rfl w.heap.size 47 i0 (.agg #[.slice none 0 0, .int .i64 0]) 2 32 Try.underlying32 hi hz0 hz1' hz2 rfl (by decide) u3 k vs rfl ry _ 1 [.slice ax cut.length cx, .int .i64 ch] rfl (rowAt_own (own1 (n₀ := 0) (Rows8.new wx _ _) (Nat.zero_le _) rfl)) (turn_one _ _ _ _) (by unfold maxLen; omega) (by omega) (by simp; omega) ?_; intro v9 wy ho9 hg9 hb9; have t5 : Rows8 wy wr.heap.size 47 #[.slice a' cl c', .int .i64 ch] := (hg9.block wr.heap.size (s5.alloc (.cells #[.slice ax cut.length cx, .int .i64 ch] 47)).lt (fun e => hn3 e.symm)).trans (s5.alloc (.cells #[.slice ax cut.length cx, .int .i64 ch] 47)); have hk3 : wy.cell? ⟨wr.heap.size, 0, none⟩ = some (.slice a' cl c') ∧ wy.cell? ⟨wr.heap.size, 1, none⟩ = some (.int .i64 ch) := ⟨t5.cell 0, t5.cell 1⟩))
        all_goals
          have hT : OwnsT w.heap.size (us ++ [⟨cut, ch⟩]) v9 wy := by
            have h1 := HLN.out
            subst h1
            exact ownsT_snoc ry (((show RowsIn w.heap.size us vs W1.drew from HIN1.out).keep Bx (Nat.le_refl _)).keep ((Below.refl wx.heap.size wx).alloc (Nat.le_refl _) _) (Nat.le_refl _)) (World.ownsRow.alloc (owns_mono ox hz1) _) ho9 hg9
          have hB9 : Below w.heap.size w wy := ((HB1.out.drew.trans (Bx.mono hz1)).alloc hzx (.cells #[.slice ax cut.length cx, .int .i64 ch] 47)).grown hg9 (by simp; omega) (fun j ej => (World.ownsRow.lt ry j ej).1)
          have HT9 := Lib.hid hT
          have HB9 := Lib.hid hB9
          clear hT hB9 ho9 hg9 hb9 t5 hk3 hk2 hk1 hk0 s5 rx ry ox Bx
          go_wp2_with fail
          exact ⟨⟨k + 1, by omega, by go_num, by rw [HSN.out]; exact HT9.out, HB9.out⟩, by simp [intOf]; omega⟩
      · obtain rfl : k = m := by omega
        have htk : ts.take k = ts := List.take_of_length_le (by rw [← HK2.out]; exact Nat.le_refl _)
        rw [htk] at hO
        have HO := Lib.hid hO
        have HB := Lib.hid hB
        clear hO hB htk
        go_wp2_with fail
        go_ret
        exact ⟨_, rfl, HO.out, HB.out⟩
end Go.Proofs
