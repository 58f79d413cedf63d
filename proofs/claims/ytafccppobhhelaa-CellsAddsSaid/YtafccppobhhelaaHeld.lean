/- Held. -/
import Derived.Test.YtafccppobhhelaaCj
import Derived.Maps.AppendAt
namespace Go.Proofs
open Go.RowKit Go.Shelf
attribute [local go_sem] Oper.semAt_some

/-- What marks of one cell say that it held: what was there ahead of the first, and what each left. -/
def heldOf (l : List Mk) : List Int := match l with
  | [] => []
  | m :: _ => m.was :: l.map fun q => q.is
theorem heldOf_nil : heldOf [] = [] := rfl
theorem heldOf_one (m : Mk) : heldOf ([] ++ [m]) = [m.was] ++ [m.is] := rfl
theorem heldOf_snoc (l : List Mk) (m : Mk) (h : l ≠ []) : heldOf (l ++ [m]) = heldOf l ++ [m.is] := by
  cases l with
  | nil => exact absurd rfl h
  | cons a l => simp [heldOf]
theorem heldOf_length (l : List Mk) : (heldOf l).length ≤ l.length + 1 := by
  cases l with
  | nil => simp [heldOf]
  | cons a l => simp [heldOf]
theorem heldOf_pos (l : List Mk) (h : l ≠ []) : 0 < (heldOf l).length := by
  cases l with
  | nil => exact absurd rfl h
  | cons a l => simp [heldOf]
theorem wordVals_snoc (l : List Int) (x : Int) : wordVals (l ++ [x]) = wordVals l ++ [.int .u64 x] := by simp [wordVals]
def HeldQ (l : List Int) (w : World) (e : Ending) (w' : World) : Prop := ∃ v, e = .returned v ∧ OwnsWords w.heap.size l v w' ∧ Below w.heap.size w w'

set_option maxRecDepth 100000 in
set_option maxHeartbeats 4000000 in
theorem Try.Held_any (n₀ : Nat) (v : Value) (ms : List Mk) (hlen : ms.length ≤ 1000) (at_ : Int) (w : World) (hM : OwnsMarks n₀ ms v w) :
    Calls Try.prog 34 #[v, .int .i64 at_] w (HeldQ (heldOf (ms.filter fun m => m.pl == at_)) w) := by
  obtain ⟨i0, hi, hz0, hz1, hz2⟩ := info_parts Try.infoWord
  obtain ⟨a, cap, rfl⟩ : ∃ a cap, v = .slice a ms.length cap := by
    obtain ⟨_, a, cap, h, _⟩ := rowAt_own hM
    exact ⟨a, cap, h⟩
  refine (callsIn_wide (n := 9)).1 ?_
  refine callsIn_of_wp_marks Try.func34 rfl trivial ?_ rfl
  simp only [Try.ntmps34, List.size_toArray, List.length_cons, List.length_nil, Nat.reduceAdd, Nat.reduceSub, Array.replicate_succ, Array.replicate_zero, List.push_toArray, List.append_toArray, List.nil_append, List.cons_append]
  have HM := Lib.hid hM
  clear hM
  gi_wp2_with (first | (refine ⟨trivial, ?_⟩; gi_at_call 73; refine (callsIn_wide.2 (Try.all_any _ _ _ _)).mono ?_; rintro e w' ⟨rfl, rfl⟩) | (refine ⟨trivial, ?_⟩; gi_at_call 72; refine (callsIn_wide.2 (Try.of_any _ _ _ ⟨_, _, rfl⟩)).mono ?_; rintro e w' ⟨rfl, rfl⟩))
  obtain ⟨wa, ha⟩ : ∃ wa, wa = w.alloc (.cells #[.slice none 0 0] 22) := ⟨_, rfl⟩
  obtain ⟨wb, hb⟩ : ∃ wb, wb = wa.alloc (.cells #[.slice a ms.length cap] 40) := ⟨_, rfl⟩
  obtain ⟨wc, hc⟩ : ∃ wc, wc = (wb.alloc (.cells #[.func (.func 97) #[] #[.pointer (some ⟨w.heap.size + 1, 0, none⟩)]] 111)).alloc (.cells #[.int .i64 at_] 3) := ⟨_, rfl⟩
  have za : wa.heap.size = w.heap.size + 1 := by rw [ha]; simp
  have zb : wb.heap.size = w.heap.size + 2 := by rw [hb]; simp [za]
  have zc : wc.heap.size = w.heap.size + 4 := by rw [hc]; simp [zb]
  have a5 : Rows8 wa w.heap.size 22 #[.slice none 0 0] := by rw [ha]; exact Rows8.new w _ _
  have Ba : Below w.heap.size w wa := by rw [ha]; exact (Below.refl _ w).alloc (Nat.le_refl _) _
  have bs : Rows8 wb (w.heap.size + 1) 40 #[.slice a ms.length cap] := by
    rw [hb]
    have h := Rows8.new wa 40 #[.slice a ms.length cap]
    rwa [za] at h
  have Bb : Below w.heap.size w wb := by rw [hb]; exact Ba.alloc (by omega) _
  have b5 : Rows8 wb w.heap.size 22 #[.slice none 0 0] := by rw [hb]; exact a5.alloc _
  have Bc : Below w.heap.size w wc := by rw [hc]; exact (Bb.alloc (by omega) _).alloc (by simp; omega) _
  have Bbc : Below wb.heap.size wb wc := by rw [hc]; exact ((Below.refl _ wb).alloc (Nat.le_refl _) _).alloc (by simp) _
  have c5 : Rows8 wc w.heap.size 22 #[.slice none 0 0] := b5.below Bbc b5.lt
  have q1 : Rows8 wc (w.heap.size + 1 + 1) 111 #[.func (.func 97) #[] #[.pointer (some ⟨w.heap.size + 1, 0, none⟩)]] := by
    rw [hc]
    have h := (Rows8.new wb 111 #[.func (.func 97) #[] #[.pointer (some ⟨w.heap.size + 1, 0, none⟩)]]).alloc (.cells #[.int .i64 at_] 3)
    rwa [zb] at h
  have q2 : Rows8 wc (w.heap.size + 1 + 1 + 1) 3 #[.int .i64 at_] := by
    rw [hc]
    have h := Rows8.new (wb.alloc (.cells #[.func (.func 97) #[] #[.pointer (some ⟨w.heap.size + 1, 0, none⟩)]] 111)) 3 #[.int .i64 at_]
    rwa [World.size_alloc, zb] at h
  have Mc : OwnsMarks n₀ ms (.slice a ms.length cap) wc := owns_keep HM.out Bc (Nat.le_refl _)
  have bsc := bs.below Bbc bs.lt
  rw [show ((((w.alloc (.cells #[.slice none 0 0] 22)).alloc (.cells #[.slice a ms.length cap] 40)).alloc (.cells #[.func (.func 97) #[] #[.pointer (some ⟨w.heap.size + 1, 0, none⟩)]] 111)).alloc (.cells #[.int .i64 at_] 3)) = wc from by rw [hc, hb, ha]]
  have hbsz : w.heap.size ≤ wc.heap.size := Bc.size
  clear ha hb hc Ba Bb b5 a5 bs Bbc za zb
  have htl := Try.of_tells 8 (w.heap.size + 1 + 1) (w.heap.size + 1 + 1 + 1) 97 (by decide) #[.pointer (some ⟨w.heap.size + 1, 0, none⟩)] at_ (fwd ms) wc q1 q2 (fun _ _ => by kernel_rfl) (by rw [fwd_length]; exact Try.all_tells 7 n₀ (w.heap.size + 1) (by decide) a cap ms hlen wc bsc Mc)
  refine range_tells rfl (by decide) (gf := 96) (lb := #[.pointer (some ⟨w.heap.size + 1 + 1, 0, none⟩), .pointer (some ⟨w.heap.size + 1 + 1 + 1, 0, none⟩)]) rfl trivial (fun _ _ => by kernel_rfl) htl tk_t tk_b (Below.refl _ _) (fun _ => rfl)
    (fun pre W' => (∃ u, Boxed W' w.heap.size 22 u ∧ W'.ownsRow w.heap.size 25 1 u (heldOf pre).length (wordVals (heldOf pre)) ∧ True) ∧ Below w.heap.size w W')
    (fun _ _ _ => False)
    (OwnFrom.and (Own.from (holdsRow_own w.heap.size w.heap.size 22 25 1 (fun pre => (heldOf pre).length) (fun pre => wordVals (heldOf pre)) (fun _ _ => True)) _) (ownFrom_below (Nat.le_refl _) hbsz))
    (fun _ _ _ _ _ hs _ _ => hs)
    ⟨⟨_, c5, World.ownsRow_nil _ _ _ _, trivial⟩, Bc⟩
    (fun x a' W' => ∃ Bx, Rows8 W' Bx 47 #[.int .i64 x.no, .int .i64 x.pl, .int .u64 x.was, .int .u64 x.is] ∧ a' = { tmps := #[.slice a ms.length cap, .int .i64 at_, undef, undef, .slice none 0 0, .pointer (some ⟨w.heap.size, 0, none⟩), .pointer (some ⟨Bx, 0, none⟩), .slice a ms.length cap, .func (.func 97) #[] #[.pointer (some ⟨w.heap.size + 1, 0, none⟩)], .int .i64 at_, .func (.func 96) #[] #[.pointer (some ⟨w.heap.size + 1 + 1, 0, none⟩), .pointer (some ⟨w.heap.size + 1 + 1 + 1, 0, none⟩)], .agg #[.int .i64 x.no, .int .i64 x.pl, .int .u64 x.was, .int .u64 x.is], undef, undef, undef, undef, undef, undef, undef, undef, undef, undef, undef, undef, undef, undef], defers := [] })
    (fun x a' s X Y row hs hg hr => by obtain ⟨Bx, h1, h2⟩ := hs; exact ⟨Bx, Own.from (Rows8.own (β := Unit) Bx _ (fun _ => _)) _ s X Y row h1 hg hr, h2⟩) ?assign ?body ?done ?stop
  case assign =>
    rintro l2 pre ⟨no, pl, was, is⟩ W' K ⟨⟨u, hu, hr, _⟩, hB⟩ hK
    unfold encM1
    gi_wp2
    exact hK _ _ ((KeepsOthers.alloc _ _).from _) (Tk.alloc _ _) ⟨⟨u, hu.alloc _, hr.alloc _, trivial⟩, hB.alloc hB.size _⟩ ⟨W'.heap.size, Rows8.new _ _ _, rfl⟩
  case body =>
    rintro l2 pre ⟨no, pl, was, is⟩ a' W' ⟨⟨u, hu, hr, _⟩, hB⟩ ⟨Bx, hbx, rfl⟩ hlen
    obtain ⟨au, cu, rfl⟩ : ∃ au cu, u = .slice au (heldOf pre).length cu := by
      obtain ⟨_, a, cap, h, _⟩ := rowAt_own hr
      exact ⟨a, cap, h⟩
    have hl2 : pre.length < 1000 := by rw [fwd_length] at hlen; omega
    have hlh := heldOf_length pre
    have hc := hu.cell
    have y2 := hbx.cell 2
    have y3 := hbx.cell 3
    simp at y2 y3
    by_cases hp : pre = []
    · subst hp
      rw [heldOf_nil] at hr hu hc
      clear hlh
      simp only [List.length_nil] at hr hu hc ⊢
      have hq : ((0 : Int) == 0) = true := rfl
      gi_wp2_with (first | (gi_at_builtin; refine wpListIn_append_own _ rfl _ _ 22 rfl w.heap.size 25 i0 (.int .u64 0) 1 8 Try.underlying22 hi hz0 hz1 hz2 rfl (by decide) _ _ _ rfl (hr2.alloc _) ⟨w1.heap.size, 0, none⟩ 1 1 [.int .u64 is] rfl rfl hcn (by simp [Value.oneCell']) (by unfold maxLen; omega) (by omega) (by have := hB2.size; simp at this ⊢; omega) ?_; intro v3 w3 hown3 hgrow3 _; obtain ⟨g3, cap3, rfl⟩ := ownsRow_succ hown3; obtain ⟨hv31, hv32, hr32, hk32, hb32⟩ := hv2.appended (by decide) hr2 hB2.size (Nat.le_refl _) hown3 hgrow3; have ht3 := ((Tk.alloc _ _).grown (hr2.alloc _) hgrow3).set (a := ⟨w.heap.size, 0, none⟩) hv31 (.inl rfl) (.slice (some ⟨g3, 0, none⟩) 2 cap3); have hc31 := hv31.cell; have hf31 := hv31.frozen) | (gi_at_builtin; refine wpListIn_append_own _ rfl _ _ 22 rfl w.heap.size 25 i0 (.int .u64 0) 1 8 Try.underlying22 hi hz0 hz1 hz2 rfl (by decide) _ _ _ rfl (hr.alloc _) ⟨W'.heap.size, 0, none⟩ 1 1 [.int .u64 was] rfl rfl (cell_one_new _ _ _) (by simp [Value.oneCell']) (by unfold maxLen; omega) (by omega) (by have := hB.size; simp at this ⊢; omega) ?_; intro v' w1 hown' hgrow _; obtain ⟨g', cap', rfl⟩ := ownsRow_succ hown'; obtain ⟨hv1, hv2, hr2, hk2, hb2⟩ := hu.appended (by decide) hr hB.size (Nat.le_refl _) hown' hgrow; have ht2 := ((Tk.alloc W' _).grown (hr.alloc _) hgrow).set (a := ⟨w.heap.size, 0, none⟩) hv1 (.inl rfl) (.slice (some ⟨g', 0, none⟩) 1 cap'); have hv2 : Boxed (w1.setCell ⟨w.heap.size, 0, none⟩ (.slice (some ⟨g', 0, none⟩) 1 cap')) w.heap.size 22 (.slice (some ⟨g', 0, none⟩) 1 cap') := hv2; have hr2 : (w1.setCell ⟨w.heap.size, 0, none⟩ (.slice (some ⟨g', 0, none⟩) 1 cap')).ownsRow w.heap.size 25 1 (.slice (some ⟨g', 0, none⟩) 1 cap') 1 [.int .u64 was] := hr2; have hcn := cell_one_new (w1.setCell ⟨w.heap.size, 0, none⟩ (.slice (some ⟨g', 0, none⟩) 1 cap')) (.int .u64 is) 25; have hzw : (w1.setCell ⟨w.heap.size, 0, none⟩ (.slice (some ⟨g', 0, none⟩) 1 cap')).heap.size = w1.heap.size := (by simp); rw [hzw] at hcn; have hbx2 := ht2.rows hbx (by decide) (by decide); have y32 := hbx2.cell 3; simp at y32; have hc2 := hv2.cell; have hB2 := hB.trans hb2; have hc1 := hv1.cell; have hf1 := hv1.frozen))
      exact ⟨(hk2.trans hk32).from _, ht2.trans ht3, ⟨_, hv32, hr32⟩, hB2.trans hb32⟩
    · have hq : (((heldOf pre).length : Int) == 0) = false := by have := heldOf_pos pre hp; exact beq_false_of_ne (by omega)
      have hsn := heldOf_snoc pre ⟨no, pl, was, is⟩ hp
      have HSN := Lib.hid hsn
      clear hsn
      gi_wp2_with (gi_at_builtin; refine wpListIn_append_own _ rfl _ _ 22 rfl w.heap.size 25 i0 (.int .u64 0) 1 8 Try.underlying22 hi hz0 hz1 hz2 rfl (by decide) _ _ _ rfl (hr.alloc _) ⟨W'.heap.size, 0, none⟩ 1 1 [.int .u64 is] rfl rfl (cell_one_new _ _ _) (by simp [Value.oneCell']) (by unfold maxLen; omega) (by omega) (by have := hB.size; simp at this ⊢; omega) ?_; intro v' w1 hown' hgrow _; obtain ⟨g', cap', rfl⟩ := ownsRow_succ hown'; obtain ⟨hv1, hv2, hr2, hk2, hb2⟩ := hu.appended (by decide) hr hB.size (Nat.le_refl _) hown' hgrow; have ht2 := ((Tk.alloc W' _).grown (hr.alloc _) hgrow).set (a := ⟨w.heap.size, 0, none⟩) hv1 (.inl rfl) (.slice (some ⟨g', 0, none⟩) ((heldOf pre).length + 1) cap'); have hc1 := hv1.cell; have hf1 := hv1.frozen)
      exact ⟨hk2.from _, ht2, ⟨_, hv2, by rw [HSN.out, wordVals_snoc]; simpa using hr2⟩, hB.trans hb2⟩
  case done =>
    rintro D ys W' hD rfl ⟨⟨u, hu, hr, _⟩, hB⟩ hK
    rw [filt_fwd] at hr
    have hc := hu.cell
    gi_wp2
    refine ⟨by simp, .inl ⟨_, _, rfl, run_takeDeferred hK, ?_⟩⟩
    exact ⟨_, results_tmp rfl _ _ _, u, rfl, ownsRow_putObj hr _ hK rfl, hB.trans (belowK_b (w := w) (Nat.le_refl _) _ D _ _ (by omega) hK rfl rfl)⟩
  case stop =>
    rintro D c pre W' _ _ h _
    exact h.elim
end Go.Proofs
