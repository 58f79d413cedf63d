/- Ctrl: where, of kinds and of bytes. -/
import Derived.Test.YtmjlaienklheiaaJb
namespace Go.Proofs
set_option maxRecDepth 100000
open Go.RowKit Go.Shelf
attribute [local go_sem] Oper.semAt_some

/-- The mask of the first lanes. -/
def maskTo (g : Nat → Bool) (k : Nat) : Nat := orAll g 0 (all8.take k)
theorem maskTo_lt (g : Nat → Bool) (k : Nat) : maskTo g k < 256 := orAll_lt g (by decide) _
theorem maskTo_zero (g : Nat → Bool) : maskTo g 0 = 0 := rfl
theorem maskTo_8 (g : Nat → Bool) : maskTo g 8 = maskB g := rfl
theorem take8 (k : Nat) (h : k < 8) : all8.take (k + 1) = all8.take k ++ [⟨k, h⟩] := by
  match k, h with
  | 0, _ => rfl
  | 1, _ => rfl
  | 2, _ => rfl
  | 3, _ => rfl
  | 4, _ => rfl
  | 5, _ => rfl
  | 6, _ => rfl
  | 7, _ => rfl
theorem maskTo_succ (g : Nat → Bool) (k : Nat) (h : k < 8) : maskTo g (k + 1) = if g k then maskTo g k ||| 2 ^ k else maskTo g k := by
  unfold maskTo
  rw [take8 k h, orAll_snoc]
theorem Try.are1_any (a b : Nat) (B : Nat) (w : World) (h : Rows8 w B 63 #[.int .i64 b]) : Calls Try.prog 64 #[.int .i64 a, .pointer (some ⟨B, 0, none⟩)] w fun e w' => e = .returned (.bool (a == b)) ∧ w = w' := by
  have h0 := h.cell 0
  simp at h0
  rw [← natEq_walk]
  clear h
  go_enter Try.func64, Try.ntmps64
  go_wp2
  go_ret
  exact ⟨rfl, rfl⟩
theorem Try.match1_any (a b : Nat) (B : Nat) (w : World) (h : Rows8 w B 5 #[.int .u8 b]) : Calls Try.prog 41 #[.int .u8 a, .pointer (some ⟨B, 0, none⟩)] w fun e w' => e = .returned (.bool (a == b)) ∧ w = w' := by
  have h0 := h.cell 0
  simp at h0
  rw [← natEq_walk]
  clear h
  go_enter Try.func41, Try.ntmps41
  go_wp2
  go_ret
  exact ⟨rfl, rfl⟩

set_option maxHeartbeats 4000000 in
theorem Try.whereK_any (x b Bs Bk : Nat) (w : World) (hBs : Rows8 w Bs 59 #[.int .u64 x]) (hBk : Rows8 w Bk 63 #[.int .i64 b]) :
    Calls Try.prog 63 #[.func (.func 73) #[] #[.pointer (some ⟨Bs, 0, none⟩)], .func (.func 64) #[] #[.pointer (some ⟨Bk, 0, none⟩)]] w
      fun e w' => e = .returned (.int .u8 (maskB fun k => kd (byt x k) == b : Nat)) ∧ Below w.heap.size w w' := by
  refine (callsIn_wide (n := 9)).1 ?_
  refine callsIn_of_wp_marks Try.func63 rfl trivial ?_ rfl
  simp only [Try.ntmps63, List.size_toArray, List.length_cons, List.length_nil, Nat.reduceAdd, Nat.reduceSub, Array.replicate_succ, Array.replicate_zero, List.push_toArray, List.append_toArray, List.nil_append, List.cons_append]
  gi_wp2
  have a0 := (hBk.alloc (.cells #[.func (.func 64) #[] #[.pointer (some ⟨Bk, 0, none⟩)]] 96)).alloc (.cells #[.int .u8 0] 29)
  have a1 := (Rows8.new w 96 #[.func (.func 64) #[] #[.pointer (some ⟨Bk, 0, none⟩)]]).alloc (.cells #[.int .u8 0] 29)
  have a2 := Rows8.new (w.alloc (.cells #[.func (.func 64) #[] #[.pointer (some ⟨Bk, 0, none⟩)]] 96)) 29 #[.int .u8 0]
  rw [World.size_alloc] at a2
  have hB0 : Below w.heap.size w ((w.alloc (.cells #[.func (.func 64) #[] #[.pointer (some ⟨Bk, 0, none⟩)]] 96)).alloc (.cells #[.int .u8 0] 29)) := ((Below.refl _ w).alloc (Nat.le_refl _) _).alloc (by simp) _
  have hsz : ((w.alloc (.cells #[.func (.func 64) #[] #[.pointer (some ⟨Bk, 0, none⟩)]] 96)).alloc (.cells #[.int .u8 0] 29)).heap.size = w.heap.size + 2 := by simp
  have a3 := hBs.below hB0 hBs.lt
  generalize ((w.alloc (.cells #[.func (.func 64) #[] #[.pointer (some ⟨Bk, 0, none⟩)]] 96)).alloc (.cells #[.int .u8 0] 29)) = W0 at *
  have HSZ := Lib.hid hsz
  have HQ := Lib.hid (Try.slots1_tells 8 (fun t => t == 29) (by decide) Bs x W0 a3)
  clear hsz hBs hBk a3
  refine range_tellsX rfl (by omega) (gf := 73) (lb := #[.pointer (some ⟨Bs, 0, none⟩)]) rfl trivial (enters_of Try.func73 (by kernel_rfl) rfl) HQ.out kq_t (kq_b (B := W0.heap.size)) (Below.refl _ _) (fun _ => rfl)
    (fun pre W => Rows8 W (w.heap.size + 1) 29 #[.int .u8 (maskTo (fun k => kd (byt x k) == b) pre.length : Nat)] ∧ Rows8 W Bk 63 #[.int .i64 b] ∧ Rows8 W w.heap.size 96 #[.func (.func 64) #[] #[.pointer (some ⟨Bk, 0, none⟩)]] ∧ But W0.heap.size (w.heap.size + 1) W0 W)
    (fun _ _ _ => False)
    (OwnFrom.and (Own.from (Rows8.own _ _ (fun pre : List Nat => #[.int .u8 (maskTo (fun k => kd (byt x k) == b) pre.length : Nat)])) _) (OwnFrom.and (Own.from (Rows8.own _ _ (fun _ => _)) _) (OwnFrom.and (Own.from (Rows8.own _ _ (fun _ => _)) _) (ownFrom_but (Nat.le_refl _) (Nat.le_refl _)))))
    (fun _ _ _ _ _ hs _ _ => hs)
    ⟨a2, a0, a1, But.refl _ _ _⟩
    (fun y a' _ => a' = { tmps := #[.func (.func 73) #[] #[.pointer (some ⟨Bs, 0, none⟩)], .func (.func 64) #[] #[.pointer (some ⟨Bk, 0, none⟩)], undef, .pointer (some ⟨w.heap.size, 0, none⟩), .int .u8 0, .pointer (some ⟨w.heap.size + 1, 0, none⟩), .int .i64 (y : Nat), .int .i64 (kd (byt x y) : Nat), .func (.func 73) #[] #[.pointer (some ⟨Bs, 0, none⟩)], .int .i64 (y : Nat), .int .i64 (kd (byt x y) : Nat), undef, undef, undef, undef, undef, undef, undef, undef], defers := [] })
    (fun y a' s X Y row hs hg hr => hs) ?assign ?body ?done ?stop
  case assign =>
    rintro l2 pre y W' K hj hK
    unfold encK
    gi_wp2
    exact hK _ _ (KeepsFrom.refl _ _) (Kq.refl _ _) hj rfl
  case body =>
    rintro l2 pre y a' W ⟨h1, h2, h3, h4⟩ rfl ⟨hpre, hy8⟩
    have hpl : pre.length = y := by rw [hpre, List.length_range]
    rw [hpl] at h1
    have hso := h3.cell 0
    simp at hso
    have HS := Lib.hid (Try.are1_any)
    have hmx : Try.prog.follows .mixedOrders = true := by kernel_rfl
    have hcl : W.cell? ⟨w.heap.size + 1, 0, none⟩ = some (.int .u8 (maskTo (fun k => kd (byt x k) == b) y : Nat)) := h1.cell 0
    have hfr := h1.frozen 0
    have HM := Lib.hid (maskTo_succ (fun k => kd (byt x k) == b) y hy8)
    have HL := Lib.hid (maskTo_lt (fun k => kd (byt x k) == b) y)
    have HP := Lib.hid hpl
    have H1 := Lib.hid h1
    have H2 := Lib.hid h2
    have H3 := Lib.hid h3
    clear h1 h2 h3 hpre hpl
    cases hg : (kd (byt x y) == b)
    · have HG := Lib.hid hg
      clear hg
      gi_wp2_with (refine ⟨trivial, ?_⟩; gi_at_call 64; refine (CallsIn.inRound l2 (callsIn_wide.2 (HS.out _ b Bk _ H2.out))).mono ?_; rw [HG.out]; rintro e w' ⟨rfl, rfl⟩)
      refine ⟨KeepsFrom.refl _ _, Kq.refl _ _, ?_, H2.out, H3.out, h4⟩
      rw [List.length_append, HP.out, show y + [y].length = y + 1 from rfl, HM.out]
      simp only [HG.out, Bool.false_eq_true, if_false]
      exact H1.out
    · have HG := Lib.hid hg
      clear hg
      gi_wp2_with (refine ⟨trivial, ?_⟩; gi_at_call 64; refine (CallsIn.inRound l2 (callsIn_wide.2 (HS.out _ b Bk _ H2.out))).mono ?_; rw [HG.out]; rintro e w' ⟨rfl, rfl⟩)
      refine wpIn_region_still_tail (free_round l2) 4 hmx rfl (by kernel_rfl) ?_
      simp only [List.take_succ_cons, List.take_zero, List.drop_succ_cons, List.drop_zero]
      repeat still_step
      refine wpStill_nil ?_
      gi_wp2
      have hkp : ∀ v, Kq (fun t => t == 29) W ((W.setCell ⟨w.heap.size + 1, 0, none⟩ v).drew) := fun v => (Kq.set (Kq.refl _ W) (a := ⟨w.heap.size + 1, 0, none⟩) H1.out (by decide) v).trans (Kq.of_below ((Below.refl _ _).drew))
      refine ⟨KeepsOthers.from ((KeepsOthers.setCell _ _ _).trans (KeepsOthers.drew _)) _, hkp _, ?_, (hkp _).rows H2.out (by decide), (hkp _).rows H3.out (by decide), (h4.setCell _ _).drew⟩
      rw [List.length_append, HP.out, show y + [y].length = y + 1 from rfl, HM.out]
      simp only [HG.out, if_true]
      rw [or_walk HL.out hy8]
      exact (Rows8.set1 H1.out _).drew
  case done =>
    rintro D ys W hD rfl ⟨hr, _, _, hB⟩ hK
    rw [List.length_range, maskTo_8] at hr
    have hcl : W.cell? ⟨w.heap.size + 1, 0, none⟩ = some (.int .u8 (maskB fun k => kd (byt x k) == b : Nat)) := hr.cell 0
    clear hr
    gi_wp2
    refine ⟨by simp, .inl ⟨_, _, rfl, run_takeDeferred hK, ?_⟩⟩
    have hs := HSZ.out
    exact ⟨_, results_tmp rfl _ _ _, rfl, (hB0.trans (hB.below (by omega) (by omega))).trans (belowK_b (w := w) (Nat.le_refl _) W D _ _ (by omega) hK rfl rfl)⟩
  case stop =>
    rintro D c pre W _ h _
    exact h.elim

set_option maxHeartbeats 4000000 in
theorem Try.whereB_any (x b Bs Bk : Nat) (w : World) (hBs : Rows8 w Bs 59 #[.int .u64 x]) (hBk : Rows8 w Bk 5 #[.int .u8 b]) :
    Calls Try.prog 39 #[.func (.func 52) #[] #[.pointer (some ⟨Bs, 0, none⟩)], .func (.func 41) #[] #[.pointer (some ⟨Bk, 0, none⟩)]] w
      fun e w' => e = .returned (.int .u8 (maskB fun k => byt x k == b : Nat)) ∧ Below w.heap.size w w' := by
  refine (callsIn_wide (n := 9)).1 ?_
  refine callsIn_of_wp_marks Try.func39 rfl trivial ?_ rfl
  simp only [Try.ntmps39, List.size_toArray, List.length_cons, List.length_nil, Nat.reduceAdd, Nat.reduceSub, Array.replicate_succ, Array.replicate_zero, List.push_toArray, List.append_toArray, List.nil_append, List.cons_append]
  gi_wp2
  have a0 := (hBk.alloc (.cells #[.func (.func 41) #[] #[.pointer (some ⟨Bk, 0, none⟩)]] 58)).alloc (.cells #[.int .u8 0] 29)
  have a1 := (Rows8.new w 58 #[.func (.func 41) #[] #[.pointer (some ⟨Bk, 0, none⟩)]]).alloc (.cells #[.int .u8 0] 29)
  have a2 := Rows8.new (w.alloc (.cells #[.func (.func 41) #[] #[.pointer (some ⟨Bk, 0, none⟩)]] 58)) 29 #[.int .u8 0]
  rw [World.size_alloc] at a2
  have hB0 : Below w.heap.size w ((w.alloc (.cells #[.func (.func 41) #[] #[.pointer (some ⟨Bk, 0, none⟩)]] 58)).alloc (.cells #[.int .u8 0] 29)) := ((Below.refl _ w).alloc (Nat.le_refl _) _).alloc (by simp) _
  have hsz : ((w.alloc (.cells #[.func (.func 41) #[] #[.pointer (some ⟨Bk, 0, none⟩)]] 58)).alloc (.cells #[.int .u8 0] 29)).heap.size = w.heap.size + 2 := by simp
  have a3 := hBs.below hB0 hBs.lt
  generalize ((w.alloc (.cells #[.func (.func 41) #[] #[.pointer (some ⟨Bk, 0, none⟩)]] 58)).alloc (.cells #[.int .u8 0] 29)) = W0 at *
  have HSZ := Lib.hid hsz
  have HQ := Lib.hid (Try.bytes1_tells 8 (Kq (fun t => t == 29)) Bs x W0 a3)
  clear hsz hBs hBk a3
  refine range_tellsX rfl (by omega) (gf := 52) (lb := #[.pointer (some ⟨Bs, 0, none⟩)]) rfl trivial (enters_of Try.func52 (by kernel_rfl) rfl) HQ.out kq_t (kq_b (B := W0.heap.size)) (Below.refl _ _) (fun _ => rfl)
    (fun pre W => Rows8 W (w.heap.size + 1) 29 #[.int .u8 (maskTo (fun k => byt x k == b) pre.length : Nat)] ∧ Rows8 W Bk 5 #[.int .u8 b] ∧ Rows8 W w.heap.size 58 #[.func (.func 41) #[] #[.pointer (some ⟨Bk, 0, none⟩)]] ∧ But W0.heap.size (w.heap.size + 1) W0 W)
    (fun _ _ _ => False)
    (OwnFrom.and (Own.from (Rows8.own _ _ (fun pre : List Nat => #[.int .u8 (maskTo (fun k => byt x k == b) pre.length : Nat)])) _) (OwnFrom.and (Own.from (Rows8.own _ _ (fun _ => _)) _) (OwnFrom.and (Own.from (Rows8.own _ _ (fun _ => _)) _) (ownFrom_but (Nat.le_refl _) (Nat.le_refl _)))))
    (fun _ _ _ _ _ hs _ _ => hs)
    ⟨a2, a0, a1, But.refl _ _ _⟩
    (fun y a' _ => a' = { tmps := #[.func (.func 52) #[] #[.pointer (some ⟨Bs, 0, none⟩)], .func (.func 41) #[] #[.pointer (some ⟨Bk, 0, none⟩)], undef, .pointer (some ⟨w.heap.size, 0, none⟩), .int .u8 0, .pointer (some ⟨w.heap.size + 1, 0, none⟩), .int .i64 (y : Nat), .int .u8 (byt x y : Nat), .func (.func 52) #[] #[.pointer (some ⟨Bs, 0, none⟩)], .int .i64 (y : Nat), .int .u8 (byt x y : Nat), undef, undef, undef, undef, undef, undef, undef, undef], defers := [] })
    (fun y a' s X Y row hs hg hr => hs) ?assign ?body ?done ?stop
  case assign =>
    rintro l2 pre y W' K hj hK
    unfold encB
    gi_wp2
    exact hK _ _ (KeepsFrom.refl _ _) (Kq.refl _ _) hj rfl
  case body =>
    rintro l2 pre y a' W ⟨h1, h2, h3, h4⟩ rfl ⟨hpre, hy8⟩
    have hpl : pre.length = y := by rw [hpre, List.length_range]
    rw [hpl] at h1
    have hso := h3.cell 0
    simp at hso
    have HS := Lib.hid (Try.match1_any)
    have hmx : Try.prog.follows .mixedOrders = true := by kernel_rfl
    have hcl : W.cell? ⟨w.heap.size + 1, 0, none⟩ = some (.int .u8 (maskTo (fun k => byt x k == b) y : Nat)) := h1.cell 0
    have hfr := h1.frozen 0
    have HM := Lib.hid (maskTo_succ (fun k => byt x k == b) y hy8)
    have HL := Lib.hid (maskTo_lt (fun k => byt x k == b) y)
    have HP := Lib.hid hpl
    have H1 := Lib.hid h1
    have H2 := Lib.hid h2
    have H3 := Lib.hid h3
    clear h1 h2 h3 hpre hpl
    cases hg : (byt x y == b)
    · have HG := Lib.hid hg
      clear hg
      gi_wp2_with (refine ⟨trivial, ?_⟩; gi_at_call 41; refine (CallsIn.inRound l2 (callsIn_wide.2 (HS.out _ b Bk _ H2.out))).mono ?_; rw [HG.out]; rintro e w' ⟨rfl, rfl⟩)
      refine ⟨KeepsFrom.refl _ _, Kq.refl _ _, ?_, H2.out, H3.out, h4⟩
      rw [List.length_append, HP.out, show y + [y].length = y + 1 from rfl, HM.out]
      simp only [HG.out, Bool.false_eq_true, if_false]
      exact H1.out
    · have HG := Lib.hid hg
      clear hg
      gi_wp2_with (refine ⟨trivial, ?_⟩; gi_at_call 41; refine (CallsIn.inRound l2 (callsIn_wide.2 (HS.out _ b Bk _ H2.out))).mono ?_; rw [HG.out]; rintro e w' ⟨rfl, rfl⟩)
      refine wpIn_region_still_tail (free_round l2) 4 hmx rfl (by kernel_rfl) ?_
      simp only [List.take_succ_cons, List.take_zero, List.drop_succ_cons, List.drop_zero]
      repeat still_step
      refine wpStill_nil ?_
      gi_wp2
      have hkp : ∀ v, Kq (fun t => t == 29) W ((W.setCell ⟨w.heap.size + 1, 0, none⟩ v).drew) := fun v => (Kq.set (Kq.refl _ W) (a := ⟨w.heap.size + 1, 0, none⟩) H1.out (by decide) v).trans (Kq.of_below ((Below.refl _ _).drew))
      refine ⟨KeepsOthers.from ((KeepsOthers.setCell _ _ _).trans (KeepsOthers.drew _)) _, hkp _, ?_, (hkp _).rows H2.out (by decide), (hkp _).rows H3.out (by decide), (h4.setCell _ _).drew⟩
      rw [List.length_append, HP.out, show y + [y].length = y + 1 from rfl, HM.out]
      simp only [HG.out, if_true]
      rw [or_walk HL.out hy8]
      exact (Rows8.set1 H1.out _).drew
  case done =>
    rintro D ys W hD rfl ⟨hr, _, _, hB⟩ hK
    rw [List.length_range, maskTo_8] at hr
    have hcl : W.cell? ⟨w.heap.size + 1, 0, none⟩ = some (.int .u8 (maskB fun k => byt x k == b : Nat)) := hr.cell 0
    clear hr
    gi_wp2
    refine ⟨by simp, .inl ⟨_, _, rfl, run_takeDeferred hK, ?_⟩⟩
    have hs := HSZ.out
    exact ⟨_, results_tmp rfl _ _ _, rfl, (hB0.trans (hB.below (by omega) (by omega))).trans (belowK_b (w := w) (Nat.le_refl _) W D _ _ (by omega) hK rfl rfl)⟩
  case stop =>
    rintro D c pre W _ h _
    exact h.elim
end Go.Proofs
