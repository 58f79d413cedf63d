/- order2, median, choosePivot of rows of words (of fewer than fifty). -/
import Derived.Test.YtobomgedghbflaaVb
namespace Go.Proofs
open Go.RowKit Go.Shelf
attribute [local go_sem] Oper.semAt_some

theorem SRow.over {A W : World} {B cap b' : Nat} {d : Array Int} (r : SRow A B cap d) (h : A.grownBy W (some b')) (hne : B ≠ b') : SRow W B cap d := by
  obtain ⟨cs, hR, h2⟩ := r
  exact ⟨cs, (h.block B hR.lt (fun e => hne (by injection e))).trans hR, h2⟩
theorem order2_lt {d : Array Int} {a b s n : Nat} (ha : a < n) (hb : b < n) : (Sort.order2 ltB d a b s).1 < n ∧ (Sort.order2 ltB d a b s).2.1 < n ∧ (Sort.order2 ltB d a b s).2.2 ≤ s + 1 := by
  unfold Sort.order2
  split
  · exact ⟨hb, ha, Nat.le_refl _⟩
  · exact ⟨ha, hb, Nat.le_succ _⟩
set_option maxRecDepth 100000 in
set_option maxHeartbeats 4000000 in
theorem Try.order2_any (B cap a b n cp bs sw : Nat) (d : Array Int) (hd : d.size ≤ 100000000) (hn : n = d.size) (ha : a < n) (hb : b < n) (hs : sw ≤ 1000) (w : World) (hS : SRow w B cap d) (hR : Rows8 w bs 3 #[.int .i64 (sw : Int)]) :
    Calls Try.prog 54 #[.slice (some ⟨B, 0, none⟩) n cp, .int .i64 (a : Int), .int .i64 (b : Int), .pointer (some ⟨bs, 0, none⟩)] w
      fun e w' => e = .returned (.tuple #[.int .i64 ((Sort.order2 ltB d a b sw).1 : Int), .int .i64 ((Sort.order2 ltB d a b sw).2.1 : Int)]) ∧ Rows8 w' bs 3 #[.int .i64 ((Sort.order2 ltB d a b sw).2.2 : Int)] ∧ w.grownBy w' (some bs) := by
  have ca := hS.cell a (by omega)
  have cb := hS.cell b (by omega)
  have cs : w.cell? ⟨bs, 0, none⟩ = some (.int .i64 (sw : Int)) := hR.cell 0
  have fs := hR.frozen 0
  have hl := fun w => Try.less_any d[b]! d[a]! w
  have hn' : n ≤ 100000000 := by omega
  have hai : (a : Int) < (n : Int) := by omega
  have hbi : (b : Int) < (n : Int) := by omega
  have HR := Lib.hid hR
  clear hS hR hn hd
  cases hlt : ltB d[b]! d[a]! with
  | true =>
    rw [hlt] at hl
    have e : Sort.order2 ltB d a b sw = (b, a, sw + 1) := by unfold Sort.order2; rw [if_pos hlt]
    rw [e]
    generalize d[a]! = x at *
    generalize d[b]! = y at *
    clear hlt e
    have hw : IntKind.i64.wrap ((sw : Int) + 1) = (sw : Int) + 1 := IntWalk.i64_in _ (by omega)
    go_enter Try.func54, Try.ntmps54
    go_wp2_with fail
    go_quiet (first | (go_at_call 35; refine quiet_same (hl _)))
    go_wp2_with fail
    go_ret2
    exact ⟨rfl, by simpa using Rows8.set (show Rows8 (w.drewN nq) bs 3 #[.int .i64 (sw : Int)] from HR.out) 0 (.int .i64 ((sw : Int) + 1)), (grown_drewN _ _ _).trans (grown_set _ _ _ _)⟩
  | false =>
    rw [hlt] at hl
    have e : Sort.order2 ltB d a b sw = (a, b, sw) := by unfold Sort.order2; rw [if_neg (by rw [hlt]; decide)]
    rw [e]
    generalize d[a]! = x at *
    generalize d[b]! = y at *
    clear hlt e
    go_enter Try.func54, Try.ntmps54
    go_wp2_with fail
    go_quiet (first | (go_at_call 35; refine quiet_same (hl _)))
    go_wp2_with fail
    go_ret2
    exact ⟨rfl, HR.out, grown_drewN _ _ _⟩
theorem median_lt {d : Array Int} {a b c s n : Nat} (ha : a < n) (hb : b < n) (hc : c < n) : (Sort.median ltB d a b c s).1 < n ∧ (Sort.median ltB d a b c s).2 ≤ s + 3 := by
  unfold Sort.median
  obtain ⟨h1, h2, h3⟩ := order2_lt (d := d) (s := s) ha hb
  obtain ⟨h4, h5, h6⟩ := order2_lt (d := d) (s := (Sort.order2 ltB d a b s).2.2) h2 hc
  obtain ⟨h7, h8, h9⟩ := order2_lt (d := d) (s := (Sort.order2 ltB d (Sort.order2 ltB d a b s).2.1 c (Sort.order2 ltB d a b s).2.2).2.2) h1 h4
  exact ⟨h8, by dsimp only; omega⟩
set_option maxRecDepth 100000 in
set_option maxHeartbeats 4000000 in
theorem Try.median_any (B cap a b c n cp bs sw : Nat) (d : Array Int) (hd : d.size ≤ 100000000) (hn : n = d.size) (ha : a < n) (hb : b < n) (hc : c < n) (hs : sw ≤ 900) (hne : B ≠ bs) (w : World) (hS : SRow w B cap d) (hR : Rows8 w bs 3 #[.int .i64 (sw : Int)]) :
    Calls Try.prog 52 #[.slice (some ⟨B, 0, none⟩) n cp, .int .i64 (a : Int), .int .i64 (b : Int), .int .i64 (c : Int), .pointer (some ⟨bs, 0, none⟩)] w
      fun e w' => e = .returned (.int .i64 ((Sort.median ltB d a b c sw).1 : Int)) ∧ Rows8 w' bs 3 #[.int .i64 ((Sort.median ltB d a b c sw).2 : Int)] ∧ w.grownBy w' (some bs) := by
  unfold Sort.median
  obtain ⟨h1, h2, h3⟩ := order2_lt (d := d) (s := sw) ha hb
  have c1 := Try.order2_any B cap a b n cp bs sw d hd hn ha hb (by omega) w hS hR
  generalize Sort.order2 ltB d a b sw = r1 at *
  obtain ⟨x1, y1, s1⟩ := r1
  dsimp only at *
  obtain ⟨h4, h5, h6⟩ := order2_lt (d := d) (s := s1) h2 hc
  have C2 := Lib.hid fun (W : World) (hW : SRow W B cap d) (hR : Rows8 W bs 3 #[.int .i64 (s1 : Int)]) => Try.order2_any B cap y1 c n cp bs s1 d hd hn h2 hc (by omega) W hW hR
  generalize Sort.order2 ltB d y1 c s1 = r2 at *
  obtain ⟨x2, y2, s2⟩ := r2
  dsimp only at *
  have C3 := Lib.hid fun (W : World) (hW : SRow W B cap d) (hR : Rows8 W bs 3 #[.int .i64 (s2 : Int)]) => Try.order2_any B cap x1 x2 n cp bs s2 d hd hn h1 h4 (by omega) W hW hR
  generalize Sort.order2 ltB d x1 x2 s2 = r3 at *
  obtain ⟨x3, y3, s3⟩ := r3
  dsimp only at *
  have HS := Lib.hid hS
  clear hS hR hn hd
  go_enter Try.func52, Try.ntmps52
  go_wp2_with fail
  refine c1.mono ?_
  rintro e w1 ⟨rfl, hR1, hG1⟩
  have c2 := C2.out w1 (HS.out.over hG1 hne) hR1
  clear hR1 c1
  go_wp2_with fail
  refine c2.mono ?_
  rintro e w2 ⟨rfl, hR2, hG2⟩
  have hG2' := hG1.trans hG2
  have c3 := C3.out w2 (HS.out.over hG2' hne) hR2
  clear hR2 c2
  go_wp2_with fail
  refine c3.mono ?_
  rintro e w3 ⟨rfl, hR3, hG3⟩
  have hG3' := hG2'.trans hG3
  clear c3
  go_wp2_with fail
  go_ret
  exact ⟨rfl, hR3, hG3'⟩
theorem wrap64_nat {i : Nat} (h : i ≤ 100000000) : wrap64 (i : Int) = (i : Int) := IntWalk.wrap64_in _ ⟨by omega, by omega⟩
def hintI : Sort.Hint → Int
  | .unknown => 0
  | .increasing => 1
  | .decreasing => 2
theorem order2_all {p : Nat → Prop} {d : Array Int} {a b s : Nat} (ha : p a) (hb : p b) : p (Sort.order2 ltB d a b s).1 ∧ p (Sort.order2 ltB d a b s).2.1 := by
  unfold Sort.order2
  split
  · exact ⟨hb, ha⟩
  · exact ⟨ha, hb⟩
theorem median_all {p : Nat → Prop} {d : Array Int} {a b c s : Nat} (ha : p a) (hb : p b) (hc : p c) : p (Sort.median ltB d a b c s).1 := by
  unfold Sort.median
  obtain ⟨h1, h2⟩ := order2_all (p := p) (d := d) (s := s) ha hb
  obtain ⟨h4, _⟩ := order2_all (p := p) (d := d) (s := (Sort.order2 ltB d a b s).2.2) h2 hc
  exact (order2_all h1 h4).2
theorem choosePivot_lt {d : Array Int} {a b : Nat} (hl : 8 ≤ b - a) (hl2 : b - a < 50) : a ≤ (Sort.choosePivot ltB d a b).1 ∧ (Sort.choosePivot ltB d a b).1 < b := by
  unfold Sort.choosePivot
  dsimp only
  rw [if_pos (by omega), if_neg (by omega)]
  exact median_all (p := fun x => a ≤ x ∧ x < b) (by omega) (by omega) (by omega)
set_option maxRecDepth 100000 in
set_option maxHeartbeats 4000000 in
theorem Try.choosePivot_any (B cap a b n cp : Nat) (d : Array Int) (hd : d.size ≤ 100000000) (hn : n = d.size) (hb : b ≤ n) (hl : 8 ≤ b - a) (hl2 : b - a < 50) (w : World) (hS : SRow w B cap d) :
    Calls Try.prog 32 #[.slice (some ⟨B, 0, none⟩) n cp, .int .i64 (a : Int), .int .i64 (b : Int)] w
      fun e w' => e = .returned (.tuple #[.int .i64 ((Sort.choosePivot ltB d a b).1 : Int), .int .i64 (hintI (Sort.choosePivot ltB d a b).2)]) ∧ SRow w' B cap d ∧ w.grownBy w' (some B) := by
  obtain ⟨l, hlb⟩ : ∃ l, l = b - a := ⟨_, rfl⟩
  obtain ⟨q, hq⟩ : ∃ q, q = l / 4 := ⟨_, rfl⟩
  have hB0 := hS.lt
  have e : Sort.choosePivot ltB d a b = ((Sort.median ltB d (a + q * 1) (a + q * 2) (a + q * 3) 0).1, if (Sort.median ltB d (a + q * 1) (a + q * 2) (a + q * 3) 0).2 = 0 then .increasing else if (Sort.median ltB d (a + q * 1) (a + q * 2) (a + q * 3) 0).2 = 12 then .decreasing else .unknown) := by
    unfold Sort.choosePivot
    dsimp only
    rw [if_pos (by omega), if_neg (by omega), ← hlb, ← hq]
  rw [e]
  clear e
  obtain ⟨i1, h1⟩ : ∃ i1, i1 = a + q * 1 := ⟨_, rfl⟩
  obtain ⟨i2, h2⟩ : ∃ i2, i2 = a + q * 2 := ⟨_, rfl⟩
  obtain ⟨i3, h3⟩ : ∃ i3, i3 = a + q * 3 := ⟨_, rfl⟩
  rw [← h1, ← h2, ← h3]
  have C1 := Lib.hid (Try.median_any B cap i1 i2 i3 n cp w.heap.size 0 d hd hn (by omega) (by omega) (by omega) (by omega) (by omega) (w.alloc (.cells #[.int .i64 0] 3)) (hS.below (h := w.heap.size) ((Below.refl _ w).alloc (Nat.le_refl _) _) hB0) (Rows8.new w 3 #[.int .i64 0]))
  have HSa := Lib.hid (hS.below (h := w.heap.size) ((Below.refl _ w).alloc (Nat.le_refl _) (.cells #[.int .i64 0] 3)) hB0)
  have hm := median_lt (d := d) (s := 0) (show i1 < n by omega) (show i2 < n by omega) (show i3 < n by omega)
  have l1 : (8 : Int) ≤ (l : Int) := by omega
  have l2 : ¬ (50 : Int) ≤ (l : Int) := by omega
  have hms := hm.2
  have hz : B < w.heap.size + 1 := by omega
  have w1 : IntKind.i64.wrap ((b : Int) - (a : Int)) = (l : Int) := by rw [show (b : Int) - (a : Int) = (l : Int) by omega]; exact IntWalk.i64_in _ (by omega)
  have w2 : (l : Int).tdiv 4 = (q : Int) := by rw [Int.tdiv_eq_ediv_of_nonneg (by omega)]; omega
  have w2' : IntKind.i64.wrap ((l : Int).tdiv 4) = (q : Int) := by rw [w2]; exact IntWalk.i64_in _ (by omega)
  have w2'' : (l : Int) / 4 = (q : Int) := by omega
  have w2w : IntKind.i64.wrap (q : Int) = (q : Int) := IntWalk.i64_in _ (by omega)
  have w3 : IntKind.i64.wrap ((q : Int) * 2) = ((q * 2 : Nat) : Int) := by rw [show (q : Int) * 2 = ((q * 2 : Nat) : Int) by omega]; exact IntWalk.i64_in _ (by omega)
  have w4 : IntKind.i64.wrap ((q : Int) * 3) = ((q * 3 : Nat) : Int) := by rw [show (q : Int) * 3 = ((q * 3 : Nat) : Int) by omega]; exact IntWalk.i64_in _ (by omega)
  have x1 : IntKind.i64.wrap ((a : Int) + (q : Int)) = (i1 : Int) := by rw [show (a : Int) + (q : Int) = (i1 : Int) by omega]; exact IntWalk.i64_in _ (by omega)
  have x2 : IntKind.i64.wrap ((a : Int) + ((q * 2 : Nat) : Int)) = (i2 : Int) := by rw [show (a : Int) + ((q * 2 : Nat) : Int) = (i2 : Int) by omega]; exact IntWalk.i64_in _ (by omega)
  have x3 : IntKind.i64.wrap ((a : Int) + ((q * 3 : Nat) : Int)) = (i3 : Int) := by rw [show (a : Int) + ((q * 3 : Nat) : Int) = (i3 : Int) by omega]; exact IntWalk.i64_in _ (by omega)
  have hi2 : i2 ≤ 100000000 := by omega
  have hi3 : i3 ≤ 100000000 := by omega
  have e2 : (a : Int) + (q : Int) * 2 = (i2 : Int) := by omega
  have e3 : (a : Int) + (q : Int) * 3 = (i3 : Int) := by omega
  have y2 : wrap64 ((a : Int) + (q : Int) * 2) = (i2 : Int) := by rw [e2]; exact wrap64_nat hi2
  have y3 : wrap64 ((a : Int) + (q : Int) * 3) = (i3 : Int) := by rw [e3]; exact wrap64_nat hi3
  clear e2 e3
  generalize Sort.median ltB d i1 i2 i3 0 = r at *
  obtain ⟨p, sw⟩ := r
  dsimp only at *
  have h12 : ¬ sw = 12 := by omega
  rw [if_neg h12]
  clear h1 h2 h3 hlb hq hn hd hS hm
  generalize hhv : hintI (if sw = 0 then Sort.Hint.increasing else Sort.Hint.unknown) = hv
  have HH := Lib.hid hhv
  clear hhv
  go_enter Try.func32, Try.ntmps32
  go_wp2_with fail
  refine C1.out.mono ?_
  rintro e w1 ⟨rfl, hR1, hG1⟩
  have hG : w.grownBy w1 (some B) := ⟨hG1.os, hG1.tape, hG1.output, by have := hG1.size; simp at this; omega, fun k hk hne => (hG1.block k (by simp; omega) (fun e => by injection e with e; omega)).trans (Below.heap_alloc w _ k hk)⟩
  have cs : w1.cell? ⟨w.heap.size, 0, none⟩ = some (.int .i64 (sw : Int)) := hR1.cell 0
  have HG := Lib.hid hG
  have HS1 := Lib.hid (HSa.out.over hG1 (by omega))
  clear hG hG1 hR1 C1 HSa
  by_cases h0 : sw = 0
  · subst h0
    have h00 : (((0 : Nat) : Int) == 0) = true := rfl
    have hv1 : Hid ((1 : Int) = hv) := Lib.hid (by have h := HH.out; rw [if_pos rfl] at h; exact h)
    go_wp2_with fail
    go_ret2
    exact ⟨by rw [← hv1.out]; rfl, HS1.out, HG.out⟩
  · have hv0 : Hid ((0 : Int) = hv) := Lib.hid (by have h := HH.out; rw [if_neg h0] at h; exact h)
    have h00 : ((sw : Int) == 0) = false := by simp; omega
    have h012 : ((sw : Int) == 12) = false := by simp; omega
    go_wp2_with fail
    go_ret2
    exact ⟨by rw [← hv0.out]; rfl, HS1.out, HG.out⟩
end Go.Proofs
