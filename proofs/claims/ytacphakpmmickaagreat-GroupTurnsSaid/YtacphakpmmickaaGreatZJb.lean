/- Ctrl: slots, told. -/
import Derived.Test.YtacphakpmmickaaGreatZKa
namespace Go.Proofs
set_option maxRecDepth 100000
set_option maxRecDepth 100000
open Go.RowKit Go.Shelf
attribute [local go_sem] Oper.semAt_some

set_option maxHeartbeats 4000000 in
theorem Tryz.slots1_tells (d : Nat) (T : TypeId → Bool) (hT : T 147 = false) (Bs x : Nat) (w : World) (hBs : Rows8 w Bs 103 #[.int .u64 x]) :
    TellsX Fence.wide d Tryz.prog 101 #[.pointer (some ⟨Bs, 0, none⟩)] (encK x) (Kq T) (fun xs => xs = List.range 8) Lane w := fun l J Jx Jp W hW hJ hJx hJp hY h0 => by
  have HY := Lib.hid hY
  have c0 : (W.alloc (.cells #[.func (.yield l) #[] #[]] 147)).cell? ⟨Bs, 0, none⟩ = some (.int .u64 x) := ((hBs.below hW hBs.lt).alloc _).cell 0
  have d3 := (Rows8.new W 147 #[.func (.yield l) #[] #[]])
  have hJ0 := hJ.alloc (.cells #[.func (.yield l) #[] #[]] 147) h0
  have hsz : W.heap.size ≤ (W.alloc (.cells #[.func (.yield l) #[] #[]] 147)).heap.size := by simp
  clear hY hBs h0 hW
  refine callsIn_of_wpAt Tryz.func101 rfl ?_
  simp only [Tryz.ntmps101, List.size_toArray, List.length_cons, List.length_nil, Nat.reduceAdd, Nat.reduceSub, Array.replicate_succ, Array.replicate_zero, List.push_toArray, List.append_toArray, List.nil_append, List.cons_append]
  refine wpAt_seq (wpAt_of (n := 9) ?_)
  gi_wp2
  refine wpAt_seq (wpAt_of (n := 9) ?_)
  gi_wp2_with (refine ⟨trivial, ?_⟩; gi_at_call 57; refine (callsIn_wide.2 (Tryz.bytes_any _ _)).mono ?_; rintro e w' ⟨rfl, rfl⟩)
  have d4 := d3.alloc (.cells #[.int .u64 x] 103)
  have hJ1 := hJ.alloc (.cells #[.int .u64 x] 103) hJ0
  have d5 := Rows8.new (W.alloc (.cells #[.func (.yield l) #[] #[]] 147)) 103 #[.int .u64 x]
  rw [World.size_alloc] at d5
  have hsz2 : W.heap.size ≤ ((W.alloc (.cells #[.func (.yield l) #[] #[]] 147)).alloc (.cells #[.int .u64 x] 103)).heap.size := by simp; omega
  clear c0 d3 hJ0 hsz
  generalize ((W.alloc (.cells #[.func (.yield l) #[] #[]] 147)).alloc (.cells #[.int .u64 x] 103)) = W0 at *
  have HT := Lib.hid (Tryz.bytes1_tells 9 (Kq T) _ x W0 d5)
  clear d5
  refine wpAt_block ?_
  refine range_tellsP2 Tryz.func101 (n := 9) (gf := 77) (lb := #[.pointer (some ⟨W.heap.size + 1, 0, none⟩)]) rfl (enters_of Tryz.func77 (by kernel_rfl) rfl) HT.out kq_t (kq_b (B := W0.heap.size)) (Below.refl _ _) (fun _ => rfl)
    (fun pre W' => J pre W' ∧ Rows8 W' W.heap.size 147 #[.func (.yield l) #[] #[]])
    (fun c pre W' => c = .ret ∧ Jx pre W') Jp
    (OwnFrom.and (ownFrom_mono hJ hsz2) (Own.from (Rows8.own _ _ _) _))
    (fun c => OwnFrom.and (ownFrom_pure _ _) (ownFrom_mono hJx hsz2))
    (ownFrom_mono hJp hsz2) ⟨hJ1, d4⟩
    (fun y a' _ => a' = { tmps := #[.func (.yield l) #[] #[], .pointer (some ⟨Bs, 0, none⟩), .pointer (some ⟨W.heap.size, 0, none⟩), .int .i64 (y : Nat), .int .u8 (byt x y : Nat), .int .u64 x, .func (.func 77) #[] #[.pointer (some ⟨W.heap.size + 1, 0, none⟩)], .int .i64 (y : Nat), .int .u8 (byt x y : Nat), undef, undef, undef, undef, undef, undef], defers := [] })
    (fun y a' s X Y row hs hg hr => hs) ?assign ?body ?done ?stop ?pan
  case assign =>
    rintro l2 pre y W' K ⟨hj, hb⟩ hK
    unfold encB
    gi_wp2
    exact hK _ _ (KeepsFrom.refl _ _) (Kq.refl _ _) ⟨hj, hb⟩ rfl
  case body =>
    rintro l2 pre y a' W' ⟨hj, hb⟩ rfl hok
    have z3 := hb.cell 0
    simp at z3
    have hmx : Tryz.prog.follows .mixedOrders = true := by kernel_rfl
    have HB := Lib.hid hb
    have HJd : Hid (J pre W'.drew) := Lib.hid (hJ pre W' W'.drew none hj ⟨rfl, rfl, rfl, Nat.le_refl _, fun _ _ _ => rfl⟩ (fun r e => by cases e))
    obtain ⟨fn, tmps, asg, body, hy, hR⟩ := yield_any rfl 7 (HY.out pre y _ HJd.out hok)
    unfold encK at hy
    have HS := Lib.hid (quietR (Tryz.said_any (byt x y) W'.drew))
    clear hb hj
    gi_wp2
    refine wpIn_region_still_tail (free_round l2) 4 hmx rfl (by kernel_rfl) ?_
    simp only [List.take_succ_cons, List.take_zero, List.drop_succ_cons, List.drop_zero]
    repeat still_step
    still_call HS.out
    repeat still_step
    refine wpStill_nil ?_
    gi_wp2_with fail
    refine (show RoundIn (Fence.wide.inRound l2) _ _ _ _ _ _ _ _ _ from hR).mono ?_
    have hbel : Below W'.heap.size W' W'.drew := (Below.refl _ W').drew
    rintro e W3 (⟨rfl, hJ3, hk3, ht3⟩ | ⟨rfl, hJx3, hk3⟩ | ⟨ch, rfl, hJp3, hk3⟩)
    · have HJ3 := Lib.hid hJ3
      have HK3 := Lib.hid hk3
      have HT3 := Lib.hid ((Kq.of_below hbel).trans ht3)
      clear hJ3 hk3 ht3
      gi_wp2_with fail
      exact ⟨keepsFrom_mono ⟨HK3.out.size, HK3.out.same⟩ hsz2, HT3.out, HJ3.out, HT3.out.rows HB.out hT⟩
    · have HJ3 := Lib.hid hJx3
      have HK3 := Lib.hid hk3
      clear hJx3 hk3
      gi_wp2_with fail
      exact ⟨keepsFrom_mono ⟨HK3.out.size, HK3.out.same⟩ hsz2, rfl, HJ3.out⟩
    · exact ⟨rfl, keepsFrom_mono ⟨hk3.size, hk3.same⟩ hsz2, hJp3⟩
  case done =>
    rintro D ys W' hD rfl ⟨hj, hb⟩ hK
    refine ⟨by simp, .inl ⟨_, _, rfl, run_takeDeferred hK, ?_⟩⟩
    exact ⟨_, results_none rfl _ _ _, .inl ⟨⟨_, rfl⟩, .inl ⟨_, rfl, (ownFrom_mono hJ hsz2).putObj _ hj hD hK rfl⟩⟩⟩
  case stop =>
    rintro D c pre W' hD ⟨rfl, hj⟩ hK
    gi_wp2
    refine ⟨by simp, .inl ⟨_, _, rfl, run_takeDeferred hK, ?_⟩⟩
    exact ⟨_, results_none rfl _ _ _, .inl ⟨⟨_, rfl⟩, .inr ⟨_, (ownFrom_mono hJx hsz2).putObj _ hj hD hK rfl⟩⟩⟩
  case pan =>
    rintro D ch pre W' hD hj hK
    refine ⟨by simp, .inl ⟨_, _, rfl, run_takeDeferred hK, ?_⟩⟩
    exact .inr ⟨_, _, rfl, (ownFrom_mono hJp hsz2).putObj _ hj hD hK rfl⟩
end Go.Proofs

/- Ctrl: where, of kinds and of bytes. -/
namespace Go.Proofs
set_option maxRecDepth 100000
set_option maxRecDepth 100000
open Go.RowKit Go.Shelf
attribute [local go_sem] Oper.semAt_some

/-- The mask of the first lanes. -/
def maskTo (g : Nat → Bool) (k : Nat) : Nat := orAll g 0 (all8.take k)
theorem maskTo_lt (g : Nat → Bool) (k : Nat) : maskTo g k < 256 := orAll_lt g (by decide) _
theorem maskTo_zero (g : Nat → Bool) : maskTo g 0 = 0 := rfl
theorem maskTo_8 (g : Nat → Bool) : maskTo g 8 = maskB g := rfl
theorem take8 (k : Nat) (h : k < 8) : all8.take (k + 1) = all8.take k ++ [⟨k, h⟩] := by
  match k, h with
  | 0, _ => rfl
  | 1, _ => rfl
  | 2, _ => rfl
  | 3, _ => rfl
  | 4, _ => rfl
  | 5, _ => rfl
  | 6, _ => rfl
  | 7, _ => rfl
theorem maskTo_succ (g : Nat → Bool) (k : Nat) (h : k < 8) : maskTo g (k + 1) = if g k then maskTo g k ||| 2 ^ k else maskTo g k := by
  unfold maskTo
  rw [take8 k h, orAll_snoc]
theorem Tryz.are1_any (a b : Nat) (B : Nat) (w : World) (h : Rows8 w B 98 #[.int .i64 b]) : Calls Tryz.prog 98 #[.int .i64 a, .pointer (some ⟨B, 0, none⟩)] w fun e w' => e = .returned (.bool (a == b)) ∧ w = w' := by
  have h0 := h.cell 0
  simp at h0
  rw [← natEq_walk]
  clear h
  go_enter Tryz.func98, Tryz.ntmps98
  go_wp2
  go_ret
  exact ⟨rfl, rfl⟩
theorem Tryz.match1_any (a b : Nat) (B : Nat) (w : World) (h : Rows8 w B 5 #[.int .u8 b]) : Calls Tryz.prog 58 #[.int .u8 a, .pointer (some ⟨B, 0, none⟩)] w fun e w' => e = .returned (.bool (a == b)) ∧ w = w' := by
  have h0 := h.cell 0
  simp at h0
  rw [← natEq_walk]
  clear h
  go_enter Tryz.func58, Tryz.ntmps58
  go_wp2
  go_ret
  exact ⟨rfl, rfl⟩

set_option maxHeartbeats 4000000 in
theorem Tryz.whereK_any (x b Bs Bk : Nat) (w : World) (hBs : Rows8 w Bs 103 #[.int .u64 x]) (hBk : Rows8 w Bk 98 #[.int .i64 b]) :
    Calls Tryz.prog 96 #[.func (.func 101) #[] #[.pointer (some ⟨Bs, 0, none⟩)], .func (.func 98) #[] #[.pointer (some ⟨Bk, 0, none⟩)]] w
      fun e w' => e = .returned (.int .u8 (maskB fun k => kd (byt x k) == b : Nat)) ∧ Below w.heap.size w w' := by
  refine (callsIn_wide (n := 9)).1 ?_
  refine callsIn_of_wp_marks Tryz.func96 rfl trivial ?_ rfl
  simp only [Tryz.ntmps96, List.size_toArray, List.length_cons, List.length_nil, Nat.reduceAdd, Nat.reduceSub, Array.replicate_succ, Array.replicate_zero, List.push_toArray, List.append_toArray, List.nil_append, List.cons_append]
  gi_wp2
  have a0 := (hBk.alloc (.cells #[.func (.func 98) #[] #[.pointer (some ⟨Bk, 0, none⟩)]] 144)).alloc (.cells #[.int .u8 0] 69)
  have a1 := (Rows8.new w 144 #[.func (.func 98) #[] #[.pointer (some ⟨Bk, 0, none⟩)]]).alloc (.cells #[.int .u8 0] 69)
  have a2 := Rows8.new (w.alloc (.cells #[.func (.func 98) #[] #[.pointer (some ⟨Bk, 0, none⟩)]] 144)) 69 #[.int .u8 0]
  rw [World.size_alloc] at a2
  have hB0 : Below w.heap.size w ((w.alloc (.cells #[.func (.func 98) #[] #[.pointer (some ⟨Bk, 0, none⟩)]] 144)).alloc (.cells #[.int .u8 0] 69)) := ((Below.refl _ w).alloc (Nat.le_refl _) _).alloc (by simp) _
  have hsz : ((w.alloc (.cells #[.func (.func 98) #[] #[.pointer (some ⟨Bk, 0, none⟩)]] 144)).alloc (.cells #[.int .u8 0] 69)).heap.size = w.heap.size + 2 := by simp
  have a3 := hBs.below hB0 hBs.lt
  generalize ((w.alloc (.cells #[.func (.func 98) #[] #[.pointer (some ⟨Bk, 0, none⟩)]] 144)).alloc (.cells #[.int .u8 0] 69)) = W0 at *
  have HSZ := Lib.hid hsz
  have HQ := Lib.hid (Tryz.slots1_tells 8 (fun t => t == 69) (by decide) Bs x W0 a3)
  clear hsz hBs hBk a3
  refine range_tellsX rfl (by omega) (gf := 101) (lb := #[.pointer (some ⟨Bs, 0, none⟩)]) rfl trivial (enters_of Tryz.func101 (by kernel_rfl) rfl) HQ.out kq_t (kq_b (B := W0.heap.size)) (Below.refl _ _) (fun _ => rfl)
    (fun pre W => Rows8 W (w.heap.size + 1) 69 #[.int .u8 (maskTo (fun k => kd (byt x k) == b) pre.length : Nat)] ∧ Rows8 W Bk 98 #[.int .i64 b] ∧ Rows8 W w.heap.size 144 #[.func (.func 98) #[] #[.pointer (some ⟨Bk, 0, none⟩)]] ∧ But W0.heap.size (w.heap.size + 1) W0 W)
    (fun _ _ _ => False)
    (OwnFrom.and (Own.from (Rows8.own _ _ (fun pre : List Nat => #[.int .u8 (maskTo (fun k => kd (byt x k) == b) pre.length : Nat)])) _) (OwnFrom.and (Own.from (Rows8.own _ _ (fun _ => _)) _) (OwnFrom.and (Own.from (Rows8.own _ _ (fun _ => _)) _) (ownFrom_but (Nat.le_refl _) (Nat.le_refl _)))))
    (fun _ _ _ _ _ hs _ _ => hs)
    ⟨a2, a0, a1, But.refl _ _ _⟩
    (fun y a' _ => a' = { tmps := #[.func (.func 101) #[] #[.pointer (some ⟨Bs, 0, none⟩)], .func (.func 98) #[] #[.pointer (some ⟨Bk, 0, none⟩)], undef, .pointer (some ⟨w.heap.size, 0, none⟩), .int .u8 0, .pointer (some ⟨w.heap.size + 1, 0, none⟩), .int .i64 (y : Nat), .int .i64 (kd (byt x y) : Nat), .func (.func 101) #[] #[.pointer (some ⟨Bs, 0, none⟩)], .int .i64 (y : Nat), .int .i64 (kd (byt x y) : Nat), undef, undef, undef, undef, undef, undef, undef, undef], defers := [] })
    (fun y a' s X Y row hs hg hr => hs) ?assign ?body ?done ?stop
  case assign =>
    rintro l2 pre y W' K hj hK
    unfold encK
    gi_wp2
    exact hK _ _ (KeepsFrom.refl _ _) (Kq.refl _ _) hj rfl
  case body =>
    rintro l2 pre y a' W ⟨h1, h2, h3, h4⟩ rfl ⟨hpre, hy8⟩
    have hpl : pre.length = y := by rw [hpre, List.length_range]
    rw [hpl] at h1
    have hso := h3.cell 0
    simp at hso
    have HS := Lib.hid (Tryz.are1_any)
    have hmx : Tryz.prog.follows .mixedOrders = true := by kernel_rfl
    have hcl : W.cell? ⟨w.heap.size + 1, 0, none⟩ = some (.int .u8 (maskTo (fun k => kd (byt x k) == b) y : Nat)) := h1.cell 0
    have hfr := h1.frozen 0
    have HM := Lib.hid (maskTo_succ (fun k => kd (byt x k) == b) y hy8)
    have HL := Lib.hid (maskTo_lt (fun k => kd (byt x k) == b) y)
    have HP := Lib.hid hpl
    have H1 := Lib.hid h1
    have H2 := Lib.hid h2
    have H3 := Lib.hid h3
    clear h1 h2 h3 hpre hpl
    cases hg : (kd (byt x y) == b)
    · have HG := Lib.hid hg
      clear hg
      gi_wp2_with (refine ⟨trivial, ?_⟩; gi_at_call 98; refine (CallsIn.inRound l2 (callsIn_wide.2 (HS.out _ b Bk _ H2.out))).mono ?_; rw [HG.out]; rintro e w' ⟨rfl, rfl⟩)
      refine ⟨KeepsFrom.refl _ _, Kq.refl _ _, ?_, H2.out, H3.out, h4⟩
      rw [List.length_append, HP.out, show y + [y].length = y + 1 from rfl, HM.out]
      simp only [HG.out, Bool.false_eq_true, if_false]
      exact H1.out
    · have HG := Lib.hid hg
      clear hg
      gi_wp2_with (refine ⟨trivial, ?_⟩; gi_at_call 98; refine (CallsIn.inRound l2 (callsIn_wide.2 (HS.out _ b Bk _ H2.out))).mono ?_; rw [HG.out]; rintro e w' ⟨rfl, rfl⟩)
      refine wpIn_region_still_tail (free_round l2) 4 hmx rfl (by kernel_rfl) ?_
      simp only [List.take_succ_cons, List.take_zero, List.drop_succ_cons, List.drop_zero]
      repeat still_step
      refine wpStill_nil ?_
      gi_wp2
      have hkp : ∀ v, Kq (fun t => t == 69) W ((W.setCell ⟨w.heap.size + 1, 0, none⟩ v).drew) := fun v => (Kq.set (Kq.refl _ W) (a := ⟨w.heap.size + 1, 0, none⟩) H1.out (by decide) v).trans (Kq.of_below ((Below.refl _ _).drew))
      refine ⟨KeepsOthers.from ((KeepsOthers.setCell _ _ _).trans (KeepsOthers.drew _)) _, hkp _, ?_, (hkp _).rows H2.out (by decide), (hkp _).rows H3.out (by decide), (h4.setCell _ _).drew⟩
      rw [List.length_append, HP.out, show y + [y].length = y + 1 from rfl, HM.out]
      simp only [HG.out, if_true]
      rw [or_walk HL.out hy8]
      exact (Rows8.set1 H1.out _).drew
  case done =>
    rintro D ys W hD rfl ⟨hr, _, _, hB⟩ hK
    rw [List.length_range, maskTo_8] at hr
    have hcl : W.cell? ⟨w.heap.size + 1, 0, none⟩ = some (.int .u8 (maskB fun k => kd (byt x k) == b : Nat)) := hr.cell 0
    clear hr
    gi_wp2
    refine ⟨by simp, .inl ⟨_, _, rfl, run_takeDeferred hK, ?_⟩⟩
    have hs := HSZ.out
    exact ⟨_, results_tmp rfl _ _ _, rfl, (hB0.trans (hB.below (by omega) (by omega))).trans (belowK_b (w := w) (Nat.le_refl _) W D _ _ (by omega) hK rfl rfl)⟩
  case stop =>
    rintro D c pre W _ h _
    exact h.elim

set_option maxHeartbeats 4000000 in
theorem Tryz.whereB_any (x b Bs Bk : Nat) (w : World) (hBs : Rows8 w Bs 103 #[.int .u64 x]) (hBk : Rows8 w Bk 5 #[.int .u8 b]) :
    Calls Tryz.prog 56 #[.func (.func 77) #[] #[.pointer (some ⟨Bs, 0, none⟩)], .func (.func 58) #[] #[.pointer (some ⟨Bk, 0, none⟩)]] w
      fun e w' => e = .returned (.int .u8 (maskB fun k => byt x k == b : Nat)) ∧ Below w.heap.size w w' := by
  refine (callsIn_wide (n := 9)).1 ?_
  refine callsIn_of_wp_marks Tryz.func56 rfl trivial ?_ rfl
  simp only [Tryz.ntmps56, List.size_toArray, List.length_cons, List.length_nil, Nat.reduceAdd, Nat.reduceSub, Array.replicate_succ, Array.replicate_zero, List.push_toArray, List.append_toArray, List.nil_append, List.cons_append]
  gi_wp2
  have a0 := (hBk.alloc (.cells #[.func (.func 58) #[] #[.pointer (some ⟨Bk, 0, none⟩)]] 82)).alloc (.cells #[.int .u8 0] 69)
  have a1 := (Rows8.new w 82 #[.func (.func 58) #[] #[.pointer (some ⟨Bk, 0, none⟩)]]).alloc (.cells #[.int .u8 0] 69)
  have a2 := Rows8.new (w.alloc (.cells #[.func (.func 58) #[] #[.pointer (some ⟨Bk, 0, none⟩)]] 82)) 69 #[.int .u8 0]
  rw [World.size_alloc] at a2
  have hB0 : Below w.heap.size w ((w.alloc (.cells #[.func (.func 58) #[] #[.pointer (some ⟨Bk, 0, none⟩)]] 82)).alloc (.cells #[.int .u8 0] 69)) := ((Below.refl _ w).alloc (Nat.le_refl _) _).alloc (by simp) _
  have hsz : ((w.alloc (.cells #[.func (.func 58) #[] #[.pointer (some ⟨Bk, 0, none⟩)]] 82)).alloc (.cells #[.int .u8 0] 69)).heap.size = w.heap.size + 2 := by simp
  have a3 := hBs.below hB0 hBs.lt
  generalize ((w.alloc (.cells #[.func (.func 58) #[] #[.pointer (some ⟨Bk, 0, none⟩)]] 82)).alloc (.cells #[.int .u8 0] 69)) = W0 at *
  have HSZ := Lib.hid hsz
  have HQ := Lib.hid (Tryz.bytes1_tells 8 (Kq (fun t => t == 69)) Bs x W0 a3)
  clear hsz hBs hBk a3
  refine range_tellsX rfl (by omega) (gf := 77) (lb := #[.pointer (some ⟨Bs, 0, none⟩)]) rfl trivial (enters_of Tryz.func77 (by kernel_rfl) rfl) HQ.out kq_t (kq_b (B := W0.heap.size)) (Below.refl _ _) (fun _ => rfl)
    (fun pre W => Rows8 W (w.heap.size + 1) 69 #[.int .u8 (maskTo (fun k => byt x k == b) pre.length : Nat)] ∧ Rows8 W Bk 5 #[.int .u8 b] ∧ Rows8 W w.heap.size 82 #[.func (.func 58) #[] #[.pointer (some ⟨Bk, 0, none⟩)]] ∧ But W0.heap.size (w.heap.size + 1) W0 W)
    (fun _ _ _ => False)
    (OwnFrom.and (Own.from (Rows8.own _ _ (fun pre : List Nat => #[.int .u8 (maskTo (fun k => byt x k == b) pre.length : Nat)])) _) (OwnFrom.and (Own.from (Rows8.own _ _ (fun _ => _)) _) (OwnFrom.and (Own.from (Rows8.own _ _ (fun _ => _)) _) (ownFrom_but (Nat.le_refl _) (Nat.le_refl _)))))
    (fun _ _ _ _ _ hs _ _ => hs)
    ⟨a2, a0, a1, But.refl _ _ _⟩
    (fun y a' _ => a' = { tmps := #[.func (.func 77) #[] #[.pointer (some ⟨Bs, 0, none⟩)], .func (.func 58) #[] #[.pointer (some ⟨Bk, 0, none⟩)], undef, .pointer (some ⟨w.heap.size, 0, none⟩), .int .u8 0, .pointer (some ⟨w.heap.size + 1, 0, none⟩), .int .i64 (y : Nat), .int .u8 (byt x y : Nat), .func (.func 77) #[] #[.pointer (some ⟨Bs, 0, none⟩)], .int .i64 (y : Nat), .int .u8 (byt x y : Nat), undef, undef, undef, undef, undef, undef, undef, undef], defers := [] })
    (fun y a' s X Y row hs hg hr => hs) ?assign ?body ?done ?stop
  case assign =>
    rintro l2 pre y W' K hj hK
    unfold encB
    gi_wp2
    exact hK _ _ (KeepsFrom.refl _ _) (Kq.refl _ _) hj rfl
  case body =>
    rintro l2 pre y a' W ⟨h1, h2, h3, h4⟩ rfl ⟨hpre, hy8⟩
    have hpl : pre.length = y := by rw [hpre, List.length_range]
    rw [hpl] at h1
    have hso := h3.cell 0
    simp at hso
    have HS := Lib.hid (Tryz.match1_any)
    have hmx : Tryz.prog.follows .mixedOrders = true := by kernel_rfl
    have hcl : W.cell? ⟨w.heap.size + 1, 0, none⟩ = some (.int .u8 (maskTo (fun k => byt x k == b) y : Nat)) := h1.cell 0
    have hfr := h1.frozen 0
    have HM := Lib.hid (maskTo_succ (fun k => byt x k == b) y hy8)
    have HL := Lib.hid (maskTo_lt (fun k => byt x k == b) y)
    have HP := Lib.hid hpl
    have H1 := Lib.hid h1
    have H2 := Lib.hid h2
    have H3 := Lib.hid h3
    clear h1 h2 h3 hpre hpl
    cases hg : (byt x y == b)
    · have HG := Lib.hid hg
      clear hg
      gi_wp2_with (refine ⟨trivial, ?_⟩; gi_at_call 58; refine (CallsIn.inRound l2 (callsIn_wide.2 (HS.out _ b Bk _ H2.out))).mono ?_; rw [HG.out]; rintro e w' ⟨rfl, rfl⟩)
      refine ⟨KeepsFrom.refl _ _, Kq.refl _ _, ?_, H2.out, H3.out, h4⟩
      rw [List.length_append, HP.out, show y + [y].length = y + 1 from rfl, HM.out]
      simp only [HG.out, Bool.false_eq_true, if_false]
      exact H1.out
    · have HG := Lib.hid hg
      clear hg
      gi_wp2_with (refine ⟨trivial, ?_⟩; gi_at_call 58; refine (CallsIn.inRound l2 (callsIn_wide.2 (HS.out _ b Bk _ H2.out))).mono ?_; rw [HG.out]; rintro e w' ⟨rfl, rfl⟩)
      refine wpIn_region_still_tail (free_round l2) 4 hmx rfl (by kernel_rfl) ?_
      simp only [List.take_succ_cons, List.take_zero, List.drop_succ_cons, List.drop_zero]
      repeat still_step
      refine wpStill_nil ?_
      gi_wp2
      have hkp : ∀ v, Kq (fun t => t == 69) W ((W.setCell ⟨w.heap.size + 1, 0, none⟩ v).drew) := fun v => (Kq.set (Kq.refl _ W) (a := ⟨w.heap.size + 1, 0, none⟩) H1.out (by decide) v).trans (Kq.of_below ((Below.refl _ _).drew))
      refine ⟨KeepsOthers.from ((KeepsOthers.setCell _ _ _).trans (KeepsOthers.drew _)) _, hkp _, ?_, (hkp _).rows H2.out (by decide), (hkp _).rows H3.out (by decide), (h4.setCell _ _).drew⟩
      rw [List.length_append, HP.out, show y + [y].length = y + 1 from rfl, HM.out]
      simp only [HG.out, if_true]
      rw [or_walk HL.out hy8]
      exact (Rows8.set1 H1.out _).drew
  case done =>
    rintro D ys W hD rfl ⟨hr, _, _, hB⟩ hK
    rw [List.length_range, maskTo_8] at hr
    have hcl : W.cell? ⟨w.heap.size + 1, 0, none⟩ = some (.int .u8 (maskB fun k => byt x k == b : Nat)) := hr.cell 0
    clear hr
    gi_wp2
    refine ⟨by simp, .inl ⟨_, _, rfl, run_takeDeferred hK, ?_⟩⟩
    have hs := HSZ.out
    exact ⟨_, results_tmp rfl _ _ _, rfl, (hB0.trans (hB.below (by omega) (by omega))).trans (belowK_b (w := w) (Nat.le_refl _) W D _ _ (by omega) hK rfl rfl)⟩
  case stop =>
    rintro D c pre W _ h _
    exact h.elim
end Go.Proofs

/- Ctrl: which lanes are what; Check, Stops, Sets, Match, New. -/
namespace Go.Proofs
set_option maxRecDepth 100000
set_option maxRecDepth 100000
open Go.RowKit Go.Shelf
attribute [local go_sem] Oper.semAt_some

/-- The lanes whose byte says that. -/
def setK (x t : Nat) : Nat := maskB fun k => kd (byt x k) == t
/-- May the word be? -/
def rightC (x : Nat) : Bool := setK x 3 == 0
/-- Does it stop? -/
def stopsC (x : Nat) : Bool := !(setK x 1 == 0)
theorem setK_lt (x t : Nat) : setK x t < 256 := maskB_lt _
theorem Tryz.are_any (x t : Nat) (w : World) : Calls Tryz.prog 81 #[.int .u64 x, .int .i64 t] w fun e w' => e = .returned (.int .u8 (setK x t : Nat)) ∧ Below w.heap.size w w' := by
  have a0 := (Rows8.new w 98 #[.int .i64 t]).alloc (.cells #[.int .u64 x] 103)
  have a1 := Rows8.new (w.alloc (.cells #[.int .i64 t] 98)) 103 #[.int .u64 x]
  rw [World.size_alloc] at a1
  have hB0 : Below w.heap.size w ((w.alloc (.cells #[.int .i64 t] 98)).alloc (.cells #[.int .u64 x] 103)) := ((Below.refl _ w).alloc (Nat.le_refl _) _).alloc (by simp) _
  have HW := Lib.hid (Tryz.whereK_any x t _ _ _ a1 a0)
  have HB := Lib.hid hB0
  clear a0 a1 hB0
  go_enter Tryz.func81, Tryz.ntmps81
  go_wp2_with (first
    | (go_at_call 97; refine (Tryz.slots_any _ _).mono ?_; rintro e w' ⟨rfl, rfl⟩)
    | (go_at_call 96; refine HW.out.mono ?_; rintro e w2 ⟨rfl, hB2⟩))
  go_ret
  exact ⟨rfl, HB.out.trans (hB2.mono HB.out.size)⟩
theorem Tryz.mayBe_any (x : Nat) (w : World) : Calls Tryz.prog 76 #[.int .u64 x] w fun e w' => e = .returned (.bool (rightC x)) ∧ Below w.heap.size w w' := by
  have HA := Lib.hid (Tryz.are_any x 3 w)
  have e : rightC x = (((setK x 3 : Nat) : Int) == 0) := by
    unfold rightC
    exact (natEq_walk _ 0).symm
  rw [e]
  clear e
  go_enter Tryz.func76, Tryz.ntmps76
  go_wp2_with (go_at_call 81; refine HA.out.mono ?_; rintro e w2 ⟨rfl, hB2⟩)
  go_ret
  exact ⟨rfl, hB2⟩
theorem Tryz.stops_any (x : Nat) (w : World) : Calls Tryz.prog 89 #[.int .u64 x] w fun e w' => e = .returned (.bool (stopsC x)) ∧ Below w.heap.size w w' := by
  have HA := Lib.hid (Tryz.are_any x 1 w)
  have e : stopsC x = !(((setK x 1 : Nat) : Int) == 0) := by
    unfold stopsC
    exact congrArg _ (natEq_walk _ 0).symm
  rw [e]
  clear e
  go_enter Tryz.func89, Tryz.ntmps89
  go_wp2_with (go_at_call 81; refine HA.out.mono ?_; rintro e w2 ⟨rfl, hB2⟩)
  go_ret
  exact ⟨rfl, hB2⟩
theorem Tryz.Check_any (x : Nat) (w : World) : Calls Tryz.prog 54 #[.int .u64 x] w fun e w' => e = .returned (.int .i64 (if rightC x then 0 else 190)) ∧ Below w.heap.size w w' := by
  have HA := Lib.hid (Tryz.mayBe_any x w)
  cases h : rightC x
  · rw [h] at HA
    go_enter Tryz.func54, Tryz.ntmps54
    go_wp2_with (go_at_call 76; refine HA.out.mono ?_; rintro e w2 ⟨rfl, hB2⟩)
    go_ret
    exact ⟨rfl, hB2⟩
  · rw [h] at HA
    go_enter Tryz.func54, Tryz.ntmps54
    go_wp2_with (go_at_call 76; refine HA.out.mono ?_; rintro e w2 ⟨rfl, hB2⟩)
    go_ret
    exact ⟨rfl, hB2⟩
theorem Tryz.New_any (w : World) : Calls Tryz.prog 29 #[] w fun e w' => e = .returned (.int .u64 (ofB fun _ => 128 : Nat)) ∧ Below w.heap.size w w' := by
  have HF := Lib.hid (Tryz.Fill_any 128 (by decide) w)
  go_enter Tryz.func29, Tryz.ntmps29
  go_wp2_with (go_at_call 53; refine HF.out.mono ?_; rintro e w2 ⟨rfl, hB2⟩)
  go_ret
  exact ⟨rfl, hB2⟩

def arr4 (x k : Nat) : Array Value := #[.int .u8 (if 0 < k then setK x 0 else 0 : Nat), .int .u8 (if 1 < k then setK x 1 else 0 : Nat), .int .u8 (if 2 < k then setK x 2 else 0 : Nat), .int .u8 (if 3 < k then setK x 3 else 0 : Nat)]
set_option maxHeartbeats 2000000 in
theorem Tryz.sets_any (x : Nat) (w : World) : Calls Tryz.prog 62 #[.int .u64 x] w fun e w' => e = .returned (.agg (arr4 x 4)) ∧ Below w.heap.size w w' := by
  have HA := Lib.hid fun t W => Tryz.are_any x t W
  have a0 := (Rows8.new w 110 #[.int .u8 0, .int .u8 0, .int .u8 0, .int .u8 0]).alloc (.cells #[.int .u8 0, .int .u8 0, .int .u8 0, .int .u8 0] 110)
  have a1 := Rows8.new (w.alloc (.cells #[.int .u8 0, .int .u8 0, .int .u8 0, .int .u8 0] 110)) 110 #[.int .u8 0, .int .u8 0, .int .u8 0, .int .u8 0]
  rw [World.size_alloc] at a1
  have hB0 : Below w.heap.size w ((w.alloc (.cells #[.int .u8 0, .int .u8 0, .int .u8 0, .int .u8 0] 110)).alloc (.cells #[.int .u8 0, .int .u8 0, .int .u8 0, .int .u8 0] 110)) := ((Below.refl _ w).alloc (Nat.le_refl _) _).alloc (by simp) _
  go_enter Tryz.func62, Tryz.ntmps62
  go_wp2
  generalize ((w.alloc (.cells #[.int .u8 0, .int .u8 0, .int .u8 0, .int .u8 0] 110)).alloc (.cells #[.int .u8 0, .int .u8 0, .int .u8 0, .int .u8 0] 110)) = W0 at *
  go_loopw [4, 5] (fun u j wr => ∃ k : Nat, k ≤ 4 ∧ j = .int .i64 k ∧ Rows8 wr w.heap.size 110 #[.int .u8 0, .int .u8 0, .int .u8 0, .int .u8 0] ∧ Rows8 wr (w.heap.size + 1) 110 (arr4 x k) ∧ Below w.heap.size w wr) (fun _ j _ => 4 - (intOf j).toNat)
  case atStart => exact ⟨0, Nat.zero_le _, rfl, a0, a1, hB0⟩
  case round =>
    obtain ⟨k, hk, rfl, h0, h1, hb⟩ := hrel
    have H0 := Lib.hid h0
    have HB := Lib.hid hb
    by_cases hlt : k < 4
    · have H1 := Lib.hid h1
      have hl1 := h1.lt
      have HC : Hid (∀ W, Below wr.heap.size wr W → W.cell? ⟨w.heap.size + 1, k, none⟩ = (arr4 x k)[k]? ∧ W.frozen? ⟨w.heap.size + 1, k, none⟩ = false) := Lib.hid fun W b => ⟨(h1.below b hl1).cell k, (h1.below b hl1).frozen k⟩
      have HS : Hid ((arr4 x k).setIfInBounds k (.int .u8 (setK x k : Nat)) = arr4 x (k + 1)) := Lib.hid (by
        match k, hlt with
        | 0, _ => simp [arr4]
        | 1, _ => simp [arr4]
        | 2, _ => simp [arr4]
        | 3, _ => simp [arr4])
      have hk4 : ∃ v, (arr4 x k)[k]? = some v := by
        match k, hlt with
        | 0, _ => exact ⟨_, rfl⟩
        | 1, _ => exact ⟨_, rfl⟩
        | 2, _ => exact ⟨_, rfl⟩
        | 3, _ => exact ⟨_, rfl⟩
      obtain ⟨v, hv⟩ := hk4
      rw [hv] at HC
      have hki : (k : Int) < 4 := by omega
      clear h0 hb h1 a0 a1 hB0 hv
      go_wp2_with fail
      refine (HA.out k wr).mono ?_
      rintro e w2 ⟨rfl, hB2⟩
      obtain ⟨hc, hf⟩ := HC.out w2 hB2
      have HB2 := Lib.hid hB2
      clear hB2
      go_wp2_with fail
      refine ⟨⟨k + 1, by omega, by go_num, ?_, ?_, ?_⟩, by simp [intOf]; omega⟩
      · exact (H0.out.below HB2.out H0.out.lt).setOther (by simp) _
      · have h := (H1.out.below HB2.out hl1).set k (.int .u8 (setK x k : Nat))
        rw [HS.out] at h
        exact h
      · exact (HB.out.trans (HB2.out.mono HB.out.size)).setCell (by simp) _
    · obtain rfl : k = 4 := by omega
      have h1' : Rows8 wr (w.heap.size + 1) 110 (arr4 x 4) := h1
      obtain ⟨c0, c1, c2, c3⟩ : wr.cell? ⟨w.heap.size + 1, 0, none⟩ = some (.int .u8 (setK x 0 : Nat)) ∧ wr.cell? ⟨w.heap.size + 1, 1, none⟩ = some (.int .u8 (setK x 1 : Nat)) ∧ wr.cell? ⟨w.heap.size + 1, 2, none⟩ = some (.int .u8 (setK x 2 : Nat)) ∧ wr.cell? ⟨w.heap.size + 1, 3, none⟩ = some (.int .u8 (setK x 3 : Nat)) := ⟨h1.cell 0, h1.cell 1, h1.cell 2, h1.cell 3⟩
      obtain ⟨d0, d1, d2, d3⟩ : wr.cell? ⟨w.heap.size, 0, none⟩ = some (.int .u8 0) ∧ wr.cell? ⟨w.heap.size, 1, none⟩ = some (.int .u8 0) ∧ wr.cell? ⟨w.heap.size, 2, none⟩ = some (.int .u8 0) ∧ wr.cell? ⟨w.heap.size, 3, none⟩ = some (.int .u8 0) := ⟨h0.cell 0, h0.cell 1, h0.cell 2, h0.cell 3⟩
      obtain ⟨f0, f1, f2, f3⟩ : wr.frozen? ⟨w.heap.size, 0, none⟩ = false ∧ wr.frozen? ⟨w.heap.size, 1, none⟩ = false ∧ wr.frozen? ⟨w.heap.size, 2, none⟩ = false ∧ wr.frozen? ⟨w.heap.size, 3, none⟩ = false := ⟨h0.frozen 0, h0.frozen 1, h0.frozen 2, h0.frozen 3⟩
      clear h0 h1 h1' hb a0 a1 hB0
      go_wp2_with fail
      have hfin := (((H0.out.set 0 (.int .u8 (setK x 0 : Nat))).set 1 (.int .u8 (setK x 1 : Nat))).set 2 (.int .u8 (setK x 2 : Nat))).set 3 (.int .u8 (setK x 3 : Nat))
      simp only [List.setIfInBounds_toArray, List.set_cons_zero, List.set_cons_succ] at hfin
      refine bodyPost_ret (results_cell_row rfl _ _ w.heap.size 110 _ (0, 0) _ rfl hfin Tryz.underlying110 rfl (by kernel_rfl)) rfl ⟨rfl, ?_⟩
      exact (((HB.out.setCell (p := ⟨w.heap.size, 0, none⟩) (Nat.le_refl _) _).setCell (p := ⟨w.heap.size, 1, none⟩) (Nat.le_refl _) _).setCell (p := ⟨w.heap.size, 2, none⟩) (Nat.le_refl _) _).setCell (p := ⟨w.heap.size, 3, none⟩) (Nat.le_refl _) _
end Go.Proofs

/- Ctrl: Sets, Match. -/
namespace Go.Proofs
set_option maxRecDepth 100000
set_option maxRecDepth 100000
open Go.RowKit Go.Shelf
attribute [local go_sem] Oper.semAt_some

theorem arr4_4 (x : Nat) : arr4 x 4 = #[.int .u8 (setK x 0 : Nat), .int .u8 (setK x 1 : Nat), .int .u8 (setK x 2 : Nat), .int .u8 (setK x 3 : Nat)] := rfl
theorem below_drewN {h : Nat} {A B : World} (p : Below h A B) (n : Nat) : Below h A (B.drewN n) := ⟨p.os, p.tape, p.output, p.size, p.block⟩
/-- What Sets tells. -/
def setsE (x t : Nat) : Nat := if rightC x then setK x t else 0
set_option maxHeartbeats 2000000 in
theorem Tryz.Sets_any (x : Nat) (w : World) : Calls Tryz.prog 35 #[.int .u64 x] w fun e w' => e = .returned (.tuple #[.int .u8 (setsE x 0 : Nat), .int .u8 (setsE x 1 : Nat), .int .u8 (setsE x 2 : Nat)]) ∧ Below w.heap.size w w' := by
  have HA := Lib.hid (Tryz.sets_any x w)
  rw [arr4_4] at HA
  unfold setsE
  cases h : rightC x
  · have h3 : (((setK x 3 : Nat) : Int) == 0) = false := by
      unfold rightC at h
      rw [← h]
      exact natEq_walk _ 0
    generalize setK x 0 = s0, setK x 1 = s1, setK x 2 = s2, setK x 3 = s3 at *
    go_enter Tryz.func35, Tryz.ntmps35
    go_wp2_with (go_at_call 62; refine HA.out.mono ?_; rintro e w2 ⟨rfl, hB2⟩)
    refine bodyPost_ret (results_tmp3 rfl _ _ _) rfl ⟨rfl, ?_⟩
    exact hB2.alloc hB2.size _
  · have h3 : (((setK x 3 : Nat) : Int) == 0) = true := by
      unfold rightC at h
      rw [← h]
      exact natEq_walk _ 0
    generalize setK x 0 = s0, setK x 1 = s1, setK x 2 = s2, setK x 3 = s3 at *
    go_enter Tryz.func35, Tryz.ntmps35
    go_wp2_with (go_at_call 62; refine HA.out.mono ?_; rintro e w2 ⟨rfl, hB2⟩)
    go_quiet (fail)
    go_wp2
    refine bodyPost_ret (results_tmp3 rfl _ _ _) rfl ⟨rfl, ?_⟩
    exact below_drewN (hB2.alloc hB2.size _) _

/-- Match. -/
def matchM (x h : Nat) : Nat := if rightC x then (if h ≤ 127 then (maskB fun k => byt x k == h) else 0) else 0
def matchE (x h : Nat) : Int := if rightC x then (if h ≤ 127 then 0 else 2) else 190
set_option maxHeartbeats 2000000 in
theorem Tryz.Match_any (x h : Nat) (w : World) : Calls Tryz.prog 31 #[.int .u64 x, .int .u8 h] w fun e w' => e = .returned (.tuple #[.int .u8 (matchM x h : Nat), .int .i64 (matchE x h)]) ∧ Below w.heap.size w w' := by
  have b0 := Rows8.new w 5 #[.int .u8 h]
  have hB0 : Below w.heap.size w (w.alloc (.cells #[.int .u8 h] 5)) := (Below.refl _ w).alloc (Nat.le_refl _) _
  have HK := Lib.hid (Tryz.Check_any x (w.alloc (.cells #[.int .u8 h] 5)))
  unfold matchM matchE
  cases hr : rightC x
  · rw [hr] at HK
    simp only [Bool.false_eq_true, if_false] at *
    go_enter Tryz.func31, Tryz.ntmps31
    go_wp2_with (go_at_call 54; refine HK.out.mono ?_; rintro e w2 ⟨rfl, hB2⟩)
    go_ret2
    exact ⟨rfl, hB0.trans (hB2.mono hB0.size)⟩
  · rw [hr] at HK
    simp only [if_true] at *
    by_cases hh : h ≤ 127
    · rw [if_pos hh, if_pos hh]
      have hk : kd h = 0 := by simp [kd, hh]
      have HS := Lib.hid fun W => (hk ▸ Tryz.said_any h W : Calls Tryz.prog 55 #[.int .u8 h] W fun e w' => e = .returned (.int .i64 (0 : Nat)) ∧ W = w')
      have HW := Lib.hid fun (W : World) (b : Below w.heap.size w W) (r : Rows8 W w.heap.size 5 #[.int .u8 h]) => Tryz.whereB_any x h W.heap.size w.heap.size (W.alloc (.cells #[.int .u64 x] 103)) (Rows8.new _ _ _) (r.alloc _)
      have HB := Lib.hid b0
      have hl := b0.lt
      clear b0 hh hk hr
      go_enter Tryz.func31, Tryz.ntmps31
      go_wp2_with (first
        | (go_at_call 54; refine HK.out.mono ?_; rintro e w2 ⟨rfl, hB2⟩; have r2 := HB.out.below hB2 hl; have c2 := r2.cell 0; simp at c2)
        | (go_at_call 55; refine (HS.out _).mono ?_; rintro e w3 ⟨rfl, rfl⟩)
        | (go_at_call 57; refine (Tryz.bytes_any _ _).mono ?_; rintro e w4 ⟨rfl, rfl⟩)
        | (go_at_call 56; refine (HW.out _ (hB0.trans (hB2.mono hB0.size)) r2).mono ?_; rintro e w5 ⟨rfl, hB5⟩))
      go_ret2
      have h2 := hB0.trans (hB2.mono hB0.size)
      exact ⟨rfl, (h2.alloc h2.size _).trans (hB5.mono (by simp; have := h2.size; omega))⟩
    · rw [if_neg hh, if_neg hh]
      have hk : kd h ≠ 0 := by
        unfold kd
        rw [if_neg hh]
        repeat' split
        all_goals decide
      have hkb : (((kd h : Nat) : Int) == 0) = false := by simpa using hk
      have HS := Lib.hid fun W => Tryz.said_any h W
      have HB := Lib.hid b0
      have hl := b0.lt
      clear b0 hh hk hr
      generalize kd h = kk at *
      go_enter Tryz.func31, Tryz.ntmps31
      go_wp2_with (first
        | (go_at_call 54; refine HK.out.mono ?_; rintro e w2 ⟨rfl, hB2⟩; have r2 := HB.out.below hB2 hl; have c2 := r2.cell 0; simp at c2)
        | (go_at_call 55; refine (HS.out _).mono ?_; rintro e w3 ⟨rfl, rfl⟩))
      go_ret2
      exact ⟨rfl, hB0.trans (hB2.mono hB0.size)⟩
end Go.Proofs
