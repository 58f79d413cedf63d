/- Shares. -/
import Derived.Test.YtmkpjpdjjdmklaaKj
import Derived.Laws.OwnMore
namespace Go.Proofs
open Go.RowKit Go.Shelf
attribute [local go_sem] Oper.semAt_some

theorem shareB_snoc (g : Int) (l : List Tn) (t : Tn) : shareB g (l ++ [t]) = shareB g l + if t.ch = g then 1 else 0 := by
  unfold shareB
  rw [List.countP_append]
  by_cases h : t.ch = g
  · simp [h]
  · simp [h]
theorem shareB_le (g : Int) (l : List Tn) : shareB g l ≤ l.length := List.countP_le_length
theorem upTo_share (m c : Nat) (hc : c < m) (l : List Tn) (t : Tn) (ht : t.ch = (c : Int)) :
    (fun n => if n = c then (upTo m (fun g => shareB g l) c + 1 : Int) else upTo m (fun g => shareB g l) n) = upTo m (fun g => shareB g (l ++ [t])) := by
  funext n
  unfold upTo
  by_cases e : n = c
  · subst e
    rw [if_pos rfl, if_pos hc, if_pos hc]
    dsimp only
    rw [shareB_snoc, if_pos ht]
    omega
  · rw [if_neg e]
    by_cases h : n < m
    · rw [if_pos h, if_pos h]
      dsimp only
      rw [shareB_snoc, if_neg (by rw [ht]; omega)]
      rfl
    · rw [if_neg h, if_neg h]
theorem sharesB_length (m : Nat) (l : List Tn) : (sharesB m l).length = m := by simp [sharesB, goers_length]
theorem sharesB_get (m : Nat) (l : List Tn) (k : Nat) (h : k < m) : (sharesB m l)[k]?.getD 0 = (shareB k l : Int) := by
  unfold sharesB goers
  simp [h]
theorem sharesB_set (m c : Nat) (l : List Tn) (t : Tn) (ht : t.ch = (c : Int)) : (sharesB m l).set c (shareB c l + 1 : Int) = sharesB m (l ++ [t]) := by
  apply List.ext_getElem
  · rw [List.length_set, sharesB_length, sharesB_length]
  · intro i h1 h2
    rw [sharesB_length] at h2
    rw [List.getElem_set]
    have g1 := sharesB_get m (l ++ [t]) i h2
    rw [getD_int _ _ (by rw [sharesB_length]; exact h2), shareB_snoc] at g1
    rw [g1]
    by_cases e : c = i
    · subst e
      rw [if_pos rfl, if_pos ht]
      omega
    · rw [if_neg e, if_neg (by rw [ht]; omega)]
      have g2 := sharesB_get m l i h2
      rw [getD_int _ _ (by rw [sharesB_length]; exact h2)] at g2
      rw [g2]
      omega
theorem sharesB_nil (m : Nat) : sharesB m [] = List.replicate m 0 := by
  unfold sharesB goers
  apply List.ext_getElem
  · simp
  · intro i h1 h2
    simp [shareB]
theorem upTo_nil (m : Nat) : arr8I (upTo m fun g => shareB g []) = #[.int .i64 0, .int .i64 0, .int .i64 0, .int .i64 0, .int .i64 0, .int .i64 0, .int .i64 0, .int .i64 0] := by
  have e : (upTo m fun g => shareB g []) = fun _ => 0 := by
    funext n
    unfold upTo
    simp [shareB]
  rw [e]
  rfl
theorem rightT_ch {N : Int} {t : Tn} (h : rightT N t = true) : 0 ≤ t.ch ∧ t.ch < N := by
  unfold rightT at h
  rw [Bool.and_eq_true, decide_eq_true_iff] at h
  exact canB_mem h.1 _ h.2
def sharesR (N : Int) (ts : List Tn) : List Int := if rightB N ts = true then sharesB N.toNat ts else []

set_option maxRecDepth 100000 in
set_option maxHeartbeats 4000000 in
theorem Try.Shares_any (N : Int) (a : Option Addr) (n cap : Nat) (ts : List Tn) (w : World) (hI : TurnsAt w (.slice a n cap) ts) :
    Calls Try.prog 25 #[.int .i64 N, .slice a n cap] w (IntsR (sharesR N ts) w) := by
  have hC := Try.Check_any N a n cap ts w hI
  have HC := Lib.hid hC
  obtain ⟨hn, hnc, hcm⟩ := turnsAt_len hI
  have hreach : n ≤ maxLen := by omega
  unfold maxLen at hreach
  have HI := Lib.hid hI
  have HN := Lib.hid hn
  clear hC hI hn hnc hcm
  cases hr : rightB N ts with
  | false =>
    have e1 : sharesR N ts = [] := by unfold sharesR; rw [if_neg (by rw [hr]; decide)]
    have e2 : checkB N ts = 140 := by unfold checkB; rw [if_neg (by rw [hr]; decide)]
    rw [e1]
    rw [e2] at HC
    clear hr e1 e2
    go_enter Try.func25, Try.ntmps25
    go_wp2_with fail
    refine HC.out.mono ?_
    rintro e w' ⟨rfl, hB⟩
    have HB := Lib.hid hB
    clear hB
    go_wp2_with fail
    go_ret
    exact ⟨_, _, rfl, ints_none _, HB.out⟩
  | true =>
    obtain ⟨m, rfl, hm1, hm8⟩ := rightB_n hr
    have e1 : sharesR m ts = sharesB m ts := by unfold sharesR; rw [if_pos hr]; rfl
    have e2 : checkB m ts = 0 := by unfold checkB; rw [if_pos hr]
    have hall : ∀ t ∈ ts, rightT m t = true := by
      unfold rightB at hr
      rw [Bool.and_eq_true, List.all_eq_true] at hr
      exact hr.2
    rw [e1]
    rw [e2] at HC
    have HA := Lib.hid hall
    clear hr e1 e2 hall
    go_enter Try.func25, Try.ntmps25
    go_wp2_with fail
    refine HC.out.mono ?_
    rintro e w1 ⟨rfl, hB⟩
    have HB := Lib.hid hB
    clear hB
    go_wp2_with fail
    have r1 := Rows8.new w1 59 #[.int .i64 0, .int .i64 0, .int .i64 0, .int .i64 0, .int .i64 0, .int .i64 0, .int .i64 0, .int .i64 0]
    have hB1 := HB.out.alloc HB.out.size (.cells #[.int .i64 0, .int .i64 0, .int .i64 0, .int .i64 0, .int .i64 0, .int .i64 0, .int .i64 0, .int .i64 0] 59)
    have hz1 := HB.out.size
    generalize (w1.alloc (.cells #[.int .i64 0, .int .i64 0, .int .i64 0, .int .i64 0, .int .i64 0, .int .i64 0, .int .i64 0, .int .i64 0] 59)) = W0 at *
    rw [← upTo_nil m] at r1
    have R1 := Lib.hid r1
    have HB1 := Lib.hid hB1
    clear r1 hB1
    go_loopw [14] (fun j wr => ∃ k : Nat, k ≤ n ∧ j = .int .i64 k ∧ Rows8 wr w1.heap.size 59 (arr8I (upTo m fun g => shareB g (ts.take k))) ∧ Below w.heap.size w wr) (fun j _ => n - (intOf j).toNat)
    case atStart => exact ⟨0, Nat.zero_le _, rfl, R1.out, HB1.out⟩
    case round =>
      obtain ⟨k, hk, rfl, r1, hB⟩ := hrel
      by_cases hlt : k < n
      · have hkl : k < ts.length := by rw [← HN.out]; exact hlt
        obtain ⟨b, off, a', c', rfl, hb, hc1, hc2, hin⟩ := turnsAt_get (HI.out.below hB) k hkl
        have hsn := take_snoc ts k hkl
        have hch := rightT_ch (HA.out ts[k] (List.getElem_mem _))
        have htl : (ts.take k).length = k := by rw [List.length_take]; omega
        generalize ts[k] = t at *
        obtain ⟨can, ch⟩ := t
        dsimp only at hc1 hc2 hin hch
        obtain ⟨c, rfl⟩ : ∃ c : Nat, ch = (c : Int) := ⟨ch.toNat, by omega⟩
        have hcm : c < m := by omega
        have hc8 : c < 8 := by omega
        have hc8i : (c : Int) < 8 := by omega
        have r1' := r1.alloc (.cells #[.slice a' can.length c', .int .i64 (c : Int)] 47)
        have hB' := hB.alloc hB.size (.cells #[.slice a' can.length c', .int .i64 (c : Int)] 47)
        have hcell := r1'.cell c
        have hfr := r1'.frozen c
        rw [arr8I_get _ c hc8] at hcell
        have hv : upTo m (fun g => shareB g (ts.take k)) c = (shareB c (ts.take k) : Int) := if_pos hcm
        have hset := r1.setI c hc8 (upTo m (fun g => shareB g (ts.take k)) c + 1)
        rw [upTo_share m c hcm (ts.take k) ⟨can, c⟩ rfl, ← hsn, hv] at hset
        rw [hv] at hcell
        have hle := shareB_le c (ts.take k)
        rw [htl] at hle
        have hBs0 := hB.setCell (p := ⟨w1.heap.size, c, none⟩) hz1 (.int .i64 ((shareB c (ts.take k) : Int) + 1))
        have hBs := hBs0.alloc hBs0.size (.cells #[.slice a' can.length c', .int .i64 (c : Int)] 47)
        have hz2 := r1.lt
        have R2 := Lib.hid (hset.alloc (.cells #[.slice a' can.length c', .int .i64 (c : Int)] 47))
        have HBS := Lib.hid hBs
        have hki : (k : Int) < (n : Int) := by omega
        have hlei : (shareB c (ts.take k) : Int) ≤ (k : Int) := by omega
        clear hkl hin r1 r1' hB' hset hv hsn htl hBs hBs0 hB hch
        generalize shareB (c : Int) (ts.take k) = s at *
        go_wp2_with fail
        exact ⟨⟨k + 1, by omega, by go_num, R2.out, HBS.out⟩, by simp [intOf]; omega⟩
      · obtain rfl : k = n := by omega
        have htk : ts.take k = ts := List.take_of_length_le (by rw [← HN.out]; exact Nat.le_refl _)
        rw [htk] at r1
        have hat := arr8I_cut (l := sharesB m ts) (m := m) r1 (sharesB_length m ts).symm hm8 (fun j hj => by rw [sharesB_get m ts j hj]; exact if_pos hj)
        have HAT := Lib.hid hat
        have HBS := Lib.hid hB
        have hsl := sharesB_length m ts
        have HSL := Lib.hid hsl
        have h8i : (m : Int) ≤ 8 := by omega
        have h8n : ¬ (8 : Int) < (m : Int) := by omega
        clear r1 hB hat hsl htk
        go_wp2_with fail
        go_ret
        exact ⟨some ⟨w1.heap.size, 0, none⟩, m, by rw [HSL.out]; rfl, by rw [HSL.out]; exact HAT.out, HBS.out⟩

/-- A row of m shares that the call owns. -/
def OwnsM (n₀ m : Nat) (l : List Tn) (g : Nat) (W : World) : Prop := W.ownsRow n₀ 3 1 (.slice (some ⟨g, 0, none⟩) m m) m (intVals (sharesB m l))
theorem ownsM_set {n₀ m : Nat} {l : List Tn} {g : Nat} {W : World} (h : OwnsM n₀ m l g W) (c : Nat) (t : Tn) (ht : t.ch = (c : Int)) : OwnsM n₀ m (l ++ [t]) g (W.setCell ⟨g, c, none⟩ (.int .i64 (shareB c l + 1))) := by
  have hs := (World.ownsRow.stored h c (.int .i64 (shareB c l + 1))).1
  unfold OwnsM
  have e : intVals (sharesB m (l ++ [t])) = (intVals (sharesB m l)).set c (.int .i64 (shareB c l + 1)) := by
    rw [← sharesB_set m c l t ht]
    simp [intVals, List.map_set]
  rw [e]
  exact hs
set_option maxRecDepth 100000 in
set_option maxHeartbeats 4000000 in
theorem Try.refShares_any (m : Nat) (hm1 : 1 ≤ m) (hm8 : m ≤ 8) (a : Option Addr) (n cap : Nat) (ts : List Tn) (hall : ∀ t ∈ ts, rightT m t = true) (w : World) (hI : TurnsAt w (.slice a n cap) ts) :
    Calls Try.prog 21 #[.int .i64 m, .slice a n cap] w (IntsR (sharesB m ts) w) := by
  obtain ⟨i0, hi, hz0, hz1, hz2⟩ := info_parts Try.infoInt
  obtain ⟨hn, hnc, hcm⟩ := turnsAt_len hI
  have hreach : n ≤ maxLen := by omega
  unfold maxLen at hreach
  have HI := Lib.hid hI
  have HN := Lib.hid hn
  have HA := Lib.hid hall
  clear hI hn hnc hcm hall
  go_enter Try.func21, Try.ntmps21
  go_wp2_with (at_make; refine wpList_make_full _ rfl _ _ 22 rfl w.heap.size 3 i0 (.int .i64 0) 1 Try.underlying22 hi hz0 hz1 .i64 .i64 _ _ m rfl rfl rfl rfl (by rw [hz2]; omega) (by unfold maxLen; omega) (Nat.le_refl _) ?_; intro w0 hown0 hgrow0)
  have hO : OwnsM w.heap.size m [] w.heap.size w0 := by
    unfold OwnsM
    rw [show intVals (sharesB m []) = (madeCells (Value.int .i64 0).cells (m * 1)).toList by rw [sharesB_nil, Nat.mul_one, show (Value.int .i64 0).cells = #[.int .i64 0] from rfl, toList_madeCells_one]; simp [intVals]]
    exact hown0
  have hB0 : Below w.heap.size w w0 := (Below.refl _ w).grown hgrow0 (Nat.le_refl _) (fun j ej => by cases ej)
  have HO := Lib.hid hO
  have HB0 := Lib.hid hB0
  clear hO hB0 hown0 hgrow0
  go_wp2_with fail
  go_loopw [12] (fun j wr => ∃ k : Nat, k ≤ n ∧ j = .int .i64 k ∧ OwnsM w.heap.size m (ts.take k) w.heap.size wr ∧ Below w.heap.size w wr) (fun j _ => n - (intOf j).toNat)
  case atStart => exact ⟨0, Nat.zero_le _, rfl, HO.out, HB0.out⟩
  case round =>
    obtain ⟨k, hk, rfl, hO, hB⟩ := hrel
    by_cases hlt : k < n
    · have hkl : k < ts.length := by rw [← HN.out]; exact hlt
      obtain ⟨b, off, a', c', rfl, hb, hc1, hc2, hin⟩ := turnsAt_get (HI.out.below hB) k hkl
      have hsn := take_snoc ts k hkl
      have hch := rightT_ch (HA.out ts[k] (List.getElem_mem _))
      have htl : (ts.take k).length = k := by rw [List.length_take]; omega
      generalize ts[k] = t at *
      obtain ⟨can, ch⟩ := t
      dsimp only at hc1 hc2 hin hch
      obtain ⟨c, rfl⟩ : ∃ c : Nat, ch = (c : Int) := ⟨ch.toNat, by omega⟩
      have hcm : c < m := by omega
      have hcmi : (c : Int) < (m : Int) := by omega
      have hB' := hB.alloc hB.size (.cells #[.slice a' can.length c', .int .i64 (c : Int)] 47)
      have hO' : OwnsM w.heap.size m (ts.take k) w.heap.size (wr.alloc (.cells #[.slice a' can.length c', .int .i64 (c : Int)] 47)) := World.ownsRow.alloc hO _
      have hcell := World.ownsRow.cellAt hO' c (by omega)
      rw [intVals_get _ c (by rw [sharesB_length]; exact hcm), sharesB_get m _ c hcm] at hcell
      have hfr := World.ownsRow.frozenAt hO' c
      have hle := shareB_le c (ts.take k)
      rw [htl] at hle
      have hki : (k : Int) < (n : Int) := by omega
      have hlei : (shareB c (ts.take k) : Int) ≤ (k : Int) := by omega
      have b1 := Rows8.new wr 47 #[.slice a' can.length c', .int .i64 (c : Int)]
      have x1 : (wr.alloc (.cells #[.slice a' can.length c', .int .i64 (c : Int)] 47)).cell? ⟨wr.heap.size, 1, none⟩ = some (.int .i64 (c : Int)) := b1.cell 1
      have HSN := Lib.hid hsn
      have HO1 := Lib.hid hO'
      have HB1 := Lib.hid hB'
      clear hkl hin hsn htl hB hch hO hO' hB' hle b1
      go_wp2_with fail
      generalize (wr.alloc (.cells #[.slice a' can.length c', .int .i64 (c : Int)] 47)) = W1 at *
      generalize hs : shareB (c : Int) (ts.take k) = s at *
      have HS := Lib.hid hs
      clear hs
      go_still_tail 9, (by kernel_rfl)
      change wpList _ _ _ _ _ W1.drew
      have hset := ownsM_set (W := W1.drew) HO1.out c ⟨can, c⟩ rfl
      rw [← HSN.out, HS.out] at hset
      have hBs := HB1.out.drew.setCell (p := ⟨w.heap.size, c, none⟩) (Nat.le_refl _) (.int .i64 ((s : Int) + 1))
      have hcell2 : W1.drew.cell? ⟨w.heap.size, c, none⟩ = some (.int .i64 s) := hcell
      have hfr2 : W1.drew.frozen? ⟨w.heap.size, c, none⟩ = false := hfr
      clear hcell hfr x1
      generalize W1.drew = W2 at *
      have HSE := Lib.hid hset
      have HBS := Lib.hid hBs
      clear hset hBs
      go_wp2
      exact ⟨⟨k + 1, by omega, by go_num, HSE.out, HBS.out⟩, by simp [intOf]; omega⟩
    · obtain rfl : k = n := by omega
      have htk : ts.take k = ts := List.take_of_length_le (by rw [← HN.out]; exact Nat.le_refl _)
      rw [htk] at hO
      have hat : IntsAt wr (.slice (some ⟨w.heap.size, 0, none⟩) (sharesB m ts).length m) (sharesB m ts) := by
        unfold IntsAt
        rw [sharesB_length]
        exact rowAt_own hO
      have HO2 := Lib.hid hat
      have HBS := Lib.hid hB
      have hsl := sharesB_length m ts
      have HSL := Lib.hid hsl
      clear hB hO htk hsl hat
      go_wp2_with fail
      go_ret
      exact ⟨some ⟨w.heap.size, 0, none⟩, m, by rw [HSL.out]; rfl, HO2.out, HBS.out⟩
end Go.Proofs
