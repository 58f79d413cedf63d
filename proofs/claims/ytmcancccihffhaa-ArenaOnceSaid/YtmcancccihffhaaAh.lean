/- Arena: the entries of a tag, collected. -/
import Derived.Test.YtmcancccihffhaaAg
namespace Go.Proofs
set_option maxRecDepth 100000
open Go.RowKit Go.Shelf
attribute [local go_sem] Oper.semAt_some

def EntQ (l : List Pr) (w : World) (e : Ending) (w' : World) : Prop := ∃ v, e = .returned v ∧ OwnsP 41 w.heap.size l v w' ∧ Below w.heap.size w w'
set_option maxRecDepth 100000 in
set_option maxHeartbeats 4000000 in
theorem Try.appendEnts_any (Bv Bt n cap : Nat) (a : Option Addr) (l : List Pr) (t : Int) (hl : l.length ≤ 10000) (w : World) (h0 : SrcA Bv Bt (.slice a n cap) l t w) :
    Calls Try.prog 33 #[.slice none 0 0, .func (.func 34) #[] #[.pointer (some ⟨Bv, 0, none⟩), .pointer (some ⟨Bt, 0, none⟩)]] w (EntQ (ents l t) w) := by
  obtain ⟨i0, hi, hz0, hz1, hz2⟩ := info_parts Try.infoEntry
  refine (callsIn_wide (n := 9)).1 ?_
  refine callsIn_of_wp_marks Try.func33 rfl trivial ?_ rfl
  simp only [Try.ntmps33, List.size_toArray, List.length_cons, List.length_nil, Nat.reduceAdd, Nat.reduceSub, Array.replicate_succ, Array.replicate_zero, List.push_toArray, List.append_toArray, List.nil_append, List.cons_append]
  have HS := Lib.hid h0
  have hel : (ents l t).length ≤ 10000 := by rw [ents_length]; exact Nat.le_trans (cnt_le l t) hl
  clear h0
  gi_wp2_with fail
  have hBc : Below w.heap.size w (w.alloc (.cells #[.slice none 0 0] 36)) := (Below.refl _ w).alloc (Nat.le_refl _) _
  have br := Rows8.new w 36 #[.slice none 0 0]
  have hz : (w.alloc (.cells #[.slice none 0 0] 36)).heap.size = w.heap.size + 1 := by simp
  generalize w.alloc (.cells #[.slice none 0 0] 36) = W0 at *
  have hk0 : Kt w.heap.size 36 41 w W0 := .of_below hBc
  have HTL := Lib.hid (tellsE_of (Try.of1_tells 8 (by decide) (Kt w.heap.size 36 41) Bv Bt n cap a l t hl W0 (fun A => Kt w.heap.size 36 41 w A) hk0 (fun A hA => HS.out.kt hA) (fun A B hA hB => hA.trans (.of_below hB)) (fun A B p hA => hA.trans p)))
  refine range_tellsE rfl (by decide) (gf := 34) (lb := #[.pointer (some ⟨Bv, 0, none⟩), .pointer (some ⟨Bt, 0, none⟩)]) rfl trivial (fun _ _ => by kernel_rfl) HTL.out kt_t (kt_b (B := W0.heap.size)) (Below.refl _ _) (fun _ => rfl)
    (fun pre W' => (∃ u, Boxed W' w.heap.size 36 u ∧ W'.ownsRow w.heap.size 41 2 u pre.length (pVals pre) ∧ True) ∧ Below w.heap.size w W')
    (OwnFrom.and (Own.from (holdsRow_own w.heap.size w.heap.size 36 41 2 (fun pre => pre.length) (fun pre => pVals pre) (fun _ _ => True)) _) (ownFrom_below (Nat.le_refl _) (by omega)))
    ?abide
    ⟨⟨_, br, World.ownsRow_nil _ _ _ _, trivial⟩, hBc⟩
    (fun x a' W' => ∃ Bx, a' = { tmps := #[.slice none 0 0, .func (.func 34) #[] #[.pointer (some ⟨Bv, 0, none⟩), .pointer (some ⟨Bt, 0, none⟩)], .pointer (some ⟨w.heap.size, 0, none⟩), undef, .slice none 0 0, .pointer (some ⟨Bx, 0, none⟩), .func (.func 34) #[] #[.pointer (some ⟨Bv, 0, none⟩), .pointer (some ⟨Bt, 0, none⟩)], .agg #[.int .i64 x.1, .int .u64 (x.2 : Nat)], undef, undef, undef, undef, undef], defers := [] } ∧ Rows8 W' Bx 41 (pc x))
    (fun x a' s X Y row ⟨Bx, e, h⟩ hg hr => ⟨Bx, e, Rows8.own Bx 41 (fun _ => pc x) s X Y row h hg fun r e => (hr r e).2⟩) ?assign ?body ?done
  case abide =>
    rintro s X Y ⟨⟨u, hu, hr, _⟩, hB⟩ hXY
    exact ⟨⟨u, Rows8.below hu hXY hu.lt, owns_keep hr hXY (Nat.le_refl _), trivial⟩, hB.trans (hXY.mono hB.size)⟩
  case assign =>
    rintro l2 pre x W' K ⟨⟨u, hu, hr, _⟩, hB⟩ hK
    unfold encP
    gi_wp2_with fail
    have hXY : Below W'.heap.size W' (W'.alloc (.cells #[.int .i64 x.1, .int .u64 (x.2 : Nat)] 41)) := Rows8.newB
    exact hK _ _ (keepsFrom_below hXY) (.of_below hXY) ⟨⟨u, Rows8.below hu hXY hu.lt, owns_keep hr hXY (Nat.le_refl _), trivial⟩, hB.trans (hXY.mono hB.size)⟩ ⟨_, rfl, Rows8.new _ _ _⟩
  case body =>
    rintro l2 pre x a' W' ⟨⟨u, hu, hr, _⟩, hB⟩ ⟨Bx, rfl, hx⟩ hok
    have hpl : pre.length + 1 ≤ 10000 := by
      have h1 := hok.length_le
      rw [List.length_append] at h1
      exact Nat.le_trans h1 hel
    have hbx := hx.lt
    have cx0 : W'.cell? ⟨Bx, 0, none⟩ = some (.int .i64 x.1) := hx.cell 0
    have cx1 : W'.cell? ⟨Bx, 1, none⟩ = some (.int .u64 (x.2 : Nat)) := hx.cell 1
    have HU := Lib.hid hu
    have HRR := Lib.hid hr
    have HB := Lib.hid hB
    have hc0 : W'.cell? ⟨w.heap.size, 0, none⟩ = some u := hu.cell
    have hf0 := hu.frozen
    have hlt := hu.lt
    have hzb := hB.size
    obtain ⟨au, cu, rfl⟩ : ∃ au cu, u = .slice au pre.length cu := by
      obtain ⟨_, a, cap, h, _⟩ := rowAt_own hr
      exact ⟨a, cap, h⟩
    clear hu hr hB hok hx
    gi_wp2_with (gi_at_builtin; refine wpListIn_append_own _ rfl _ _ 36 rfl w.heap.size 41 i0 (.agg #[.int .i64 0, .int .u64 0]) 2 16 Try.underlying36 hi hz0 hz1 hz2 rfl (by decide) _ _ _ rfl (HRR.out.alloc _) ⟨W'.heap.size, 0, none⟩ 1 1 [.int .i64 x.1, .int .u64 (x.2 : Nat)] rfl rfl (cells_new W' _ [.int .i64 x.1, .int .u64 (x.2 : Nat)]) (by simp [Value.oneCell']) (by unfold maxLen; omega) (by omega) (by simp; omega) ?_; intro v' w3 hown' hgrow _; obtain ⟨g', cap', rfl⟩ := ownsRow_succ hown'; obtain ⟨hv1, hv2, hr2, hk2, hb2⟩ := HU.out.appended (by decide) HRR.out hzb (Nat.le_refl _) hown' hgrow; have ht2 : Kt w.heap.size 36 41 W' _ := ((Kt.alloc W' _).grown (Nat.le_refl _) (HRR.out.alloc _) hgrow).set (a := ⟨w.heap.size, 0, none⟩) hv1 (Nat.le_refl _) (.inl rfl) (.slice (some ⟨g', 0, none⟩) (pre.length + 1) cap'); have hc3 := hv1.cell; have hf3 := hv1.frozen; have HT2 := Lib.hid ht2; have HV2 := Lib.hid hv2; have HR2 := Lib.hid hr2; have HK2 := Lib.hid hk2; have HB2 := Lib.hid hb2; clear ht2 hv2 hr2 hk2 hb2)
    exact ⟨HK2.out.from _, HT2.out, ⟨_, HV2.out, by rw [List.length_append, pVals_snoc]; exact HR2.out, trivial⟩, HB.out.trans HB2.out⟩
  case done =>
    rintro D ys W' hD rfl ⟨⟨u, hu, hr, _⟩, hB⟩ hK
    have hr' := ownsRow_putObj hr (.deferred none) hK rfl
    have hc := hu.cell
    have HR' := Lib.hid hr'
    have HB := Lib.hid hB
    clear hr hu hr' hB
    gi_wp2
    refine ⟨by simp, .inl ⟨_, _, rfl, run_takeDeferred hK, ?_⟩⟩
    exact ⟨_, results_tmp rfl _ _ _, u, rfl, HR'.out, HB.out.trans (belowK_b (w := w) (Nat.le_refl _) _ D _ _ (by omega) hK rfl rfl)⟩
set_option maxHeartbeats 1000000 in
theorem Try.collect_any (Bv Bt n cap : Nat) (a : Option Addr) (l : List Pr) (t : Int) (hl : l.length ≤ 10000) (w : World) (h0 : SrcA Bv Bt (.slice a n cap) l t w) :
    Calls Try.prog 21 #[.func (.func 34) #[] #[.pointer (some ⟨Bv, 0, none⟩), .pointer (some ⟨Bt, 0, none⟩)]] w (EntQ (ents l t) w) := by
  have HC := Lib.hid (Try.appendEnts_any Bv Bt n cap a l t hl w h0)
  clear h0
  go_enter Try.func21, Try.ntmps21
  go_wp2_with fail
  refine HC.out.mono ?_
  rintro e w2 ⟨v, rfl, hO, hB⟩
  have HO := Lib.hid hO
  have HB := Lib.hid hB
  clear hO hB
  go_wp2
  go_ret
  exact ⟨v, rfl, HO.out, HB.out⟩
set_option maxHeartbeats 1000000 in
theorem Try.Entries_any (a : Option Addr) (n cap : Nat) (l : List Pr) (t : Int) (w : World) (hI : PAt w (.slice a n cap) l) :
    Calls Try.prog 9 #[.agg #[.slice a n cap], .int .i64 t] w (EntQ (if rightA l then ents l t else []) w) := by
  have hB0 : Below w.heap.size w ((w.alloc (.cells #[.slice a n cap] 24)).alloc (.cells #[.slice a n cap] 54)) := (Rows8.newB).alloc (by simp) _
  have h2 := Rows8.new (w.alloc (.cells #[.slice a n cap] 24)) 54 #[.slice a n cap]
  rw [World.size_alloc] at h2
  have hI0 := PAt.below hI hB0
  have HOf := fun (W : World) (h : PAt W (.slice a n cap) l) => Lib.hid (Try.of_any (.slice a n cap) l t W h)
  have HCo := fun (W : World) (Bv Bt : Nat) (hr : rightA l = true) (h : SrcA Bv Bt (.slice a n cap) l t W) => Lib.hid (Try.collect_any Bv Bt n cap a l t (by have := (rightA_iff.1 hr).1; omega) W h)
  have HM := fun (W : World) (h : PAt W (.slice a n cap) l) => Lib.hid (Try.mayBe_any a n cap l W h)
  obtain ⟨q, hq⟩ : ∃ q, q = rightA l := ⟨_, rfl⟩
  obtain ⟨es, hes⟩ : ∃ es, es = if rightA l then ents l t else [] := ⟨_, rfl⟩
  rw [← hes]
  rw [← hq] at HM HCo hes
  have HES := Lib.hid hes
  clear hq hes
  have HB0 := Lib.hid hB0
  have H2 := Lib.hid h2
  have HI0 := Lib.hid hI0
  clear hB0 h2 hI0 hI
  go_enter Try.func9, Try.ntmps9
  go_wp2_with fail
  generalize ((w.alloc (.cells #[.slice a n cap] 24)).alloc (.cells #[.slice a n cap] 54)) = W0 at *
  refine (HM _ HI0.out).out.mono ?_
  rintro r w1 ⟨rfl, hB1⟩
  have c3 : w1.cell? ⟨w.heap.size + 1, 0, none⟩ = some (.slice a n cap) := (H2.out.below hB1 H2.out.lt).cell 0
  have HI1 := Lib.hid (PAt.below HI0.out hB1)
  have HB1 := Lib.hid (HB0.out.trans (hB1.mono HB0.out.size))
  clear hB1
  cases q with
  | true =>
    have HOf' := HOf w1 HI1.out
    clear HOf HM
    go_wp2_with fail
    refine HOf'.out.mono ?_
    rintro r w2 ⟨Bv, Bt, rfl, _, _, hs, hB2⟩
    have HCo' := HCo w2 Bv Bt (by simp) hs
    have HB2 := Lib.hid (HB1.out.trans (hB2.mono HB1.out.size))
    clear hB2 hs HCo
    go_wp2_with fail
    refine HCo'.out.mono ?_
    rintro r w3 ⟨v, rfl, hO, hB3⟩
    have HO := Lib.hid (hO.mono HB2.out.size)
    have HB3 := Lib.hid (HB2.out.trans (hB3.mono HB2.out.size))
    clear hO hB3
    go_wp2_with fail
    go_ret
    exact ⟨v, rfl, by rw [HES.out]; exact HO.out, HB3.out⟩
  | false =>
    clear HOf HCo HM
    go_wp2_with fail
    go_ret
    exact ⟨_, rfl, by rw [HES.out]; exact ownsP_nil _ _ _, HB1.out⟩
end Go.Proofs
