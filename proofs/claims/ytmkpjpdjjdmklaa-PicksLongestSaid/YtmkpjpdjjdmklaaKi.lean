/- longest, Max, Least, Hungry. -/
import Derived.Test.YtmkpjpdjjdmklaaKh
namespace Go.Proofs
open Go.RowKit Go.Shelf
attribute [local go_sem] Oper.semAt_some

set_option maxRecDepth 100000 in
set_option maxHeartbeats 4000000 in
theorem Try.longest1_any (g : Int) (B : Nat) (a : Option Addr) (n cap : Nat) (ts : List Tn) (w : World) (hI : TurnsAt w (.slice a n cap) ts) (hb : Rows8 w B 32 #[.slice a n cap]) :
    Calls Try.prog 55 #[.int .i64 g, .pointer (some ⟨B, 0, none⟩)] w fun e w' => e = .returned (.int .i64 (lonB g ts : Nat)) ∧ Below w.heap.size w w' := by
  obtain ⟨hn, hnc, hcm⟩ := turnsAt_len hI
  have hreach : n ≤ maxLen := by omega
  unfold maxLen at hreach
  have HI := Lib.hid hI
  have HN := Lib.hid hn
  have c0 := hb.cell 0
  simp at c0
  have hbl := hb.lt
  clear hI hn hnc hcm
  have hBp : Below w.heap.size w (w.alloc (.cells #[.int .i64 g] 3)) := (Below.refl _ w).alloc (Nat.le_refl _) _
  have rp := Rows8.new w 3 #[.int .i64 g]
  have c1 := (hb.below hBp hb.lt).cell 0
  simp at c1
  have HBP := Lib.hid hBp
  have RP := Lib.hid rp
  clear hb hBp rp
  go_enter Try.func55, Try.ntmps55
  go_wp2_with (go_at_call 50; refine (Try.passes_any _ _).mono ?_; rintro e w' ⟨rfl, rfl⟩)
  generalize (w.alloc (.cells #[.int .i64 g] 3)) = W0 at *
  go_loopw [5, 6, 13] (fun fv wv j wr => ∃ k : Nat, k ≤ n ∧ j = .int .i64 k ∧ fv = .int .i64 (lonB g (ts.take k) : Nat) ∧ wv = .int .i64 (waitB g (ts.take k) : Nat) ∧ Below W0.heap.size W0 wr) (fun _ _ j _ => n - (intOf j).toNat)
  case atStart => exact ⟨0, Nat.zero_le _, rfl, rfl, rfl, Below.refl _ _⟩
  case round =>
    obtain ⟨k, hk, rfl, rfl, rfl, hB⟩ := hrel
    by_cases hlt : k < n
    · have hkl : k < ts.length := by rw [← HN.out]; exact hlt
      obtain ⟨b, off, a', c', rfl, hb, hc1, hc2, hin⟩ := turnsAt_get ((HI.out.below HBP.out).below hB) k hkl
      have hsn := take_snoc ts k hkl
      have hwl := waitB_le g (ts.take k)
      have htl : (ts.take k).length = k := by rw [List.length_take]; omega
      generalize ts[k] = t at *
      obtain ⟨can, ch⟩ := t
      dsimp only at hc1 hc2 hin
      have hBn : Below wr.heap.size wr (wr.alloc (.cells #[.slice a' can.length c', .int .i64 ch] 47)) := (Below.refl _ wr).alloc (Nat.le_refl _) _
      have hin1 := RowAt.below hin hBn
      have hrp := (RP.out.below hB RP.out.lt).below hBn (Nat.lt_of_lt_of_le RP.out.lt hB.size)
      have hcon := Try.passes1_any g w.heap.size a' can.length c' can ch rfl _ hin1 hrp
      have hB1 := hB.trans (hBn.mono hB.size)
      have HC := Lib.hid hcon
      have HB := Lib.hid hB1
      have HS := Lib.hid hsn
      have hki : (k : Int) < (n : Int) := by omega
      rw [htl] at hwl
      clear hkl hin hBn hin1 hrp hcon hB1 hB hsn htl
      have hly := fun h => @lonB_yes g (ts.take k) ⟨can, ch⟩ h
      have hwy := fun h => @waitB_yes g (ts.take k) ⟨can, ch⟩ h
      have hln := fun h => @lonB_no g (ts.take k) ⟨can, ch⟩ h
      have hwn := fun h => @waitB_no g (ts.take k) ⟨can, ch⟩ h
      rw [← HS.out] at hly hwy hln hwn
      have HLY := Lib.hid hly
      have HWY := Lib.hid hwy
      have HLN := Lib.hid hln
      have HWN := Lib.hid hwn
      clear hly hwy hln hwn HS
      generalize lonB g (ts.take k) = L at *
      generalize waitB g (ts.take k) = Wt at *
      have hwi : (Wt : Int) ≤ (k : Int) := by omega
      have hli : (L : Int) ≤ (k : Int) := by omega
      have hwl2 : (Wt : Int) ≤ (L : Int) := by omega
      clear hwl
      cases hs : starveB g ⟨can, ch⟩ with
      | true =>
        rw [hs] at HC
        have e1 : Hid (lonB g (ts.take (k + 1)) = max L (Wt + 1)) := Lib.hid (HLY.out hs)
        have e2 : Hid (waitB g (ts.take (k + 1)) = Wt + 1) := Lib.hid (HWY.out hs)
        clear hs
        go_wp2_with fail
        refine HC.out.mono ?_
        rintro e w' ⟨rfl, hB2⟩
        have HB3 := Lib.hid (HB.out.trans (hB2.mono HB.out.size))
        clear hB2
        go_wp2_with fail
        exact ⟨⟨k + 1, by omega, by go_num, by first | (rw [e1.out]; done) | (rw [e1.out]; go_num) | (rw [e1.out]; simp; done) | (rw [e1.out]; simp; omega), by first | (rw [e2.out]; done) | (rw [e2.out]; go_num), HB3.out⟩, by simp [intOf]; omega⟩
      | false =>
        rw [hs] at HC
        have e1 : Hid (lonB g (ts.take (k + 1)) = L) := Lib.hid (HLN.out hs)
        have e2 : Hid (waitB g (ts.take (k + 1)) = 0) := Lib.hid (HWN.out hs)
        clear hs
        go_wp2_with fail
        refine HC.out.mono ?_
        rintro e w' ⟨rfl, hB2⟩
        have HB3 := Lib.hid (HB.out.trans (hB2.mono HB.out.size))
        clear hB2
        go_wp2_with fail
        exact ⟨⟨k + 1, by omega, by go_num, by first | (rw [e1.out]; done) | (rw [e1.out]; go_num) | (rw [e1.out]; simp; done) | (rw [e1.out]; simp; omega), by first | (rw [e2.out]; done) | (rw [e2.out]; rfl) | (rw [e2.out]; go_num), HB3.out⟩, by simp [intOf]; omega⟩
    · obtain rfl : k = n := by omega
      have htk : ts.take k = ts := List.take_of_length_le (by rw [← HN.out]; exact Nat.le_refl _)
      rw [htk]
      have HB := Lib.hid (HBP.out.trans (hB.mono HBP.out.size))
      clear hB htk
      go_wp2_with fail
      go_ret
      exact ⟨rfl, HB.out⟩

set_option maxRecDepth 100000 in
set_option maxHeartbeats 2000000 in
theorem Try.longest_any (N : Nat) (h8 : N ≤ 8) (a : Option Addr) (n cap : Nat) (ts : List Tn) (w : World) (hI : TurnsAt w (.slice a n cap) ts) :
    Calls Try.prog 41 #[.int .i64 N, .slice a n cap] w fun e w' => e = .returned (.agg (arr8I (upTo N fun g => lonB g ts))) ∧ Below w.heap.size w w' := by
  have b0 := Rows8.new w 32 #[.slice a n cap]
  have b1 := Rows8.new (w.alloc (.cells #[.slice a n cap] 32)) 59 #[.int .i64 0, .int .i64 0, .int .i64 0, .int .i64 0, .int .i64 0, .int .i64 0, .int .i64 0, .int .i64 0]
  have b0' := b0.alloc (.cells #[.int .i64 0, .int .i64 0, .int .i64 0, .int .i64 0, .int .i64 0, .int .i64 0, .int .i64 0, .int .i64 0] 59)
  rw [World.size_alloc] at b1
  have hB0 : Below w.heap.size w ((w.alloc (.cells #[.slice a n cap] 32)).alloc (.cells #[.int .i64 0, .int .i64 0, .int .i64 0, .int .i64 0, .int .i64 0, .int .i64 0, .int .i64 0, .int .i64 0] 59)) := ((Below.refl _ w).alloc (Nat.le_refl _) _).alloc (by simp) _
  have hI0 := hI.below hB0
  have HB0 := Lib.hid hB0
  have B0 := Lib.hid b0'
  have B1 := Lib.hid b1
  have HI0 := Lib.hid hI0
  clear hI hB0 b0 b0' b1 hI0
  go_enter Try.func41, Try.ntmps41
  go_wp2_with fail
  generalize ((w.alloc (.cells #[.slice a n cap] 32)).alloc (.cells #[.int .i64 0, .int .i64 0, .int .i64 0, .int .i64 0, .int .i64 0, .int .i64 0, .int .i64 0, .int .i64 0] 59)) = W0 at *
  refine (Try.each_any N h8 55 #[.pointer (some ⟨w.heap.size, 0, none⟩)] (fun g => lonB g ts) W0 ?_ (enters_of Try.func55 (by kernel_rfl) rfl)).mono ?_
  · intro y W hy hW
    exact Try.longest1_any y w.heap.size a n cap ts W (HI0.out.below hW) (B0.out.below hW B0.out.lt)
  · rintro e w' ⟨rfl, hB2⟩
    have r1 := B1.out.below hB2 B1.out.lt
    have HB3 := Lib.hid (HB0.out.trans (hB2.mono HB0.out.size))
    generalize hq : upTo N (fun g => lonB g ts) = q at *
    have f0 := r1.frozen 0
    have f1 := r1.frozen 1
    have f2 := r1.frozen 2
    have f3 := r1.frozen 3
    have f4 := r1.frozen 4
    have f5 := r1.frozen 5
    have f6 := r1.frozen 6
    have f7 := r1.frozen 7
    have d0 := r1.cell 0
    have d1 := r1.cell 1
    have d2 := r1.cell 2
    have d3 := r1.cell 3
    have d4 := r1.cell 4
    have d5 := r1.cell 5
    have d6 := r1.cell 6
    have d7 := r1.cell 7
    simp at d0 d1 d2 d3 d4 d5 d6 d7
    have R1 := Lib.hid r1
    have HQ := Lib.hid hq
    clear r1 hB2 hq
    unfold arr8I
    go_wp2_with fail
    have hR := Rows8.set8 R1.out q
    refine bodyPost_ret (results_c rfl _ _ (w.heap.size + 1) 59 (arr8I q) (0, 0) _ rfl hR Try.underlying59 rfl (by kernel_rfl)) rfl ?_
    exact ⟨by rw [HQ.out], below_set8 HB3.out (by omega) q⟩

/-- The greatest of a row. -/
def maxI (l : List Int) : Int := l.foldl max (l[0]?.getD 0)
theorem foldl_max_le (l : List Int) (b m : Int) : l.foldl max b ≤ m ↔ b ≤ m ∧ ∀ x ∈ l, x ≤ m := by
  induction l generalizing b with
  | nil => simp
  | cons y t ih =>
    rw [List.foldl_cons, ih, Int.max_le, List.forall_mem_cons, and_assoc]
theorem mem_lst8 {f : Nat → Int} {x : Int} : x ∈ lst8 f ↔ ∃ k, k < 8 ∧ x = f k := by
  constructor
  · intro h
    obtain ⟨j, hj, rfl⟩ := List.mem_iff_getElem.1 h
    have hj8 : j < 8 := hj
    exact ⟨j, hj8, by rw [← lst8_get f j hj8, getD_int _ _ hj]⟩
  · rintro ⟨k, hk, rfl⟩
    rw [← lst8_get f k hk, getD_int _ _ hk]
    exact List.getElem_mem _
theorem maxI_upTo (N : Nat) (h8 : N ≤ 8) (f : Int → Nat) : maxI (lst8 (upTo N f)) = (maxB f N : Nat) := by
  have h0 : (lst8 (upTo N f))[0]?.getD 0 = upTo N f 0 := lst8_get _ 0 (by omega)
  have h1 : maxI (lst8 (upTo N f)) ≤ (maxB f N : Nat) := by
    unfold maxI
    rw [foldl_max_le, h0]
    have key : ∀ k, k < 8 → upTo N f k ≤ (maxB f N : Nat) := by
      intro k _
      unfold upTo
      split
      · have := (maxB_le f N (maxB f N)).1 (Nat.le_refl _) k (by assumption)
        omega
      · omega
    refine ⟨key 0 (by omega), fun x hx => ?_⟩
    obtain ⟨k, hk, rfl⟩ := mem_lst8.1 hx
    exact key k hk
  have h2 : ∀ k, k < 8 → upTo N f k ≤ maxI (lst8 (upTo N f)) := by
    intro k hk
    have := (foldl_max_le (lst8 (upTo N f)) ((lst8 (upTo N f))[0]?.getD 0) (maxI (lst8 (upTo N f)))).1 (Int.le_refl _)
    exact this.2 _ (mem_lst8.2 ⟨k, hk, rfl⟩)
  have h3 : 0 ≤ maxI (lst8 (upTo N f)) := by
    have h4 := h2 0 (by omega)
    have : 0 ≤ upTo N f 0 := by unfold upTo; split <;> omega
    omega
  have h5 := (maxB_le f N (maxI (lst8 (upTo N f))).toNat).2 (fun k hk => by
    have := h2 k (by omega)
    rw [show upTo N f k = (f k : Int) from if_pos hk] at this
    omega)
  omega

set_option maxRecDepth 100000 in
set_option maxHeartbeats 1000000 in
theorem Try.Max_any (a : Option Addr) (n cap : Nat) (ws : List Int) (hn : n = ws.length) (h1 : 1 ≤ n) (w : World) (hI : IntsAt w (.slice a n cap) ws) :
    Calls Try.prog 42 #[.slice a n cap] w fun e w' => e = .returned (.int .i64 (maxI ws)) ∧ w = w' := by
  have hreach : n ≤ maxLen := by
    obtain ⟨_, _, _, e, h1, h2, _⟩ := hI
    cases e
    omega
  unfold maxLen at hreach
  obtain ⟨b, off, rfl, hb, hc0⟩ := intsAt_get hI 0 (by omega)
  rw [Nat.add_zero] at hc0
  have hm : maxI ws = ws.foldl max (ws[0]?.getD 0) := rfl
  have hm1 : (ws.take 1).foldl max (ws[0]?.getD 0) = ws[0]?.getD 0 := by
    cases ws with
    | nil => simp at hn; omega
    | cons x t => simp
  rw [hm]
  generalize ws[0]?.getD 0 = x0 at *
  have HI := Lib.hid hI
  have HN := Lib.hid hn
  have HM1 := Lib.hid hm1
  have h1i : ¬ (n : Int) < 1 := by omega
  clear hI hn hm hm1
  go_enter Try.func42, Try.ntmps42
  go_wp2
  go_loop [3, 4] (fun m j => ∃ k : Nat, 1 ≤ k ∧ k ≤ n ∧ j = .int .i64 k ∧ m = .int .i64 ((ws.take k).foldl max x0)) (fun _ j => n - (intOf j).toNat)
  case atStart => exact ⟨1, Nat.le_refl _, h1, rfl, by rw [HM1.out]⟩
  case round =>
    obtain ⟨k, hk1, hk, rfl, rfl⟩ := hrel
    by_cases hlt : k < n
    · have hkl : k < ws.length := by rw [← HN.out]; exact hlt
      obtain ⟨b', off', e', hb', hc⟩ := intsAt_get HI.out k hkl
      cases e'
      have hsn := take_snoc ws k hkl
      rw [getD_int ws k hkl] at hc
      generalize ws[k] = x at *
      have hf : (ws.take (k + 1)).foldl max x0 = max ((ws.take k).foldl max x0) x := by rw [hsn, List.foldl_append]; rfl
      have HF := Lib.hid hf
      have hki : (k : Int) < (n : Int) := by omega
      clear hsn hkl hf
      generalize (ws.take k).foldl max x0 = m at *
      go_wp2_with fail
      exact ⟨⟨k + 1, by omega, by omega, by go_num, by first | (rw [HF.out]; done) | (rw [HF.out]; rfl) | (rw [HF.out]; simp; done) | (rw [HF.out]; simp; omega)⟩, by simp [intOf]; omega⟩
    · obtain rfl : k = n := by omega
      have htk : ws.take k = ws := List.take_of_length_le (by rw [← HN.out]; exact Nat.le_refl _)
      rw [htk]
      clear htk
      go_wp2_with fail
      go_ret
      exact ⟨rfl, rfl⟩
end Go.Proofs
