/- Script: numbers read one behind the other, told. -/
import Derived.Test.YtfboppjedgfacaaZUa
import Derived.Test.YtfboppjedgfacaaZKa
import Derived.Test.YtfboppjedgfacaaZSv
namespace Go.Proofs
open Go.RowKit Go.Shelf
attribute [local go_sem] Oper.semAt_some

/-- The next so many numbers, and what is left. -/
noncomputable def numsP : Nat → List Int → Option (List Int × List Int)
  | 0, bs => some ([], bs)
  | n + 1, bs => (numP bs).bind fun p => (numsP n p.2).map fun q => ((p.1 : Int) :: q.1, q.2)
theorem numsP_snoc : ∀ (n : Nat) (bs : List Int), numsP (n + 1) bs = (numsP n bs).bind fun q => (numP q.2).map fun p => (q.1 ++ [(p.1 : Int)], p.2) := by
  intro n
  induction n with
  | zero =>
    intro bs
    cases h : numP bs with
    | none => simp [numsP, h]
    | some p => simp [numsP, h]
  | succ n ih =>
    intro bs
    rw [numsP]
    cases h : numP bs with
    | none => simp [numsP, h]
    | some p =>
      rw [numsP, h]
      simp only [Option.bind_some, ih p.2]
      cases h2 : numsP n p.2 with
      | none => simp
      | some q =>
        simp only [Option.bind_some, Option.map_some]
        cases h3 : numP q.2 with
        | none => simp
        | some t => simp
theorem numsP_none {n m : Nat} {bs : List Int} (h : numsP n bs = none) (hm : n ≤ m) : numsP m bs = none := by
  induction m with
  | zero => obtain rfl : n = 0 := by omega
            exact h
  | succ m ih =>
    by_cases e : n = m + 1
    · rw [← e]; exact h
    · rw [numsP_snoc, ih (by omega)]
      rfl
theorem bytes_kt {h : Nat} {t1 t2 : TypeId} {A B : World} (K : Kt h t1 t2 A B) {a : Option Addr} {n cap : Nat} {l : List Int} (hb : ∀ b off, a = some ⟨b, off, none⟩ → b < h) (r : BytesAt A (.slice a n cap) l) : BytesAt B (.slice a n cap) l := by
  obtain ⟨h0, a', cap', e, h1, h2, h3, h4⟩ := r
  cases e
  refine ⟨h0, _, _, rfl, h1, h2, h3, fun j hj => ?_⟩
  obtain ⟨b, off, e2, hlt, hc⟩ := h4 j hj
  have hbh := hb b off e2
  rw [List.getElem?_eq_getElem hj] at hc
  exact ⟨b, off, e2, Nat.lt_of_lt_of_le hlt K.size, by rw [List.getElem?_eq_getElem hj]; exact K.cell (a := ⟨b, off + j, none⟩) hbh hc⟩
theorem RdAt.kt {h H : Nat} {t1 t2 : TypeId} {A B : World} {Br : Nat} {c0 c1 c2 c3 c4 : Value} {bs : List Int} (r : RdAt H Br c0 c1 c2 c3 c4 bs A) (K : Kt h t1 t2 A B) (hh : H ≤ h) (h1 : 78 ≠ t1) (h2 : 78 ≠ t2) : RdAt H Br c0 c1 c2 c3 c4 bs B := by
  obtain ⟨a, n, cap, r1, r2, r3⟩ := r
  exact ⟨a, n, cap, K.rows r1 h1 h2, bytes_kt K (fun b off e => Nat.lt_of_lt_of_le (r3 b off e).2 hh) r2, r3⟩
theorem RdAt.below {H : Nat} {A B : World} {Br : Nat} {c0 c1 c2 c3 c4 : Value} {bs : List Int} (r : RdAt H Br c0 c1 c2 c3 c4 bs A) (p : Below A.heap.size A B) : RdAt H Br c0 c1 c2 c3 c4 bs B := by
  obtain ⟨a, n, cap, r1, r2, r3⟩ := r
  exact ⟨a, n, cap, r1.below p r1.lt, RowAt.below r2 p, r3⟩
theorem numsP_bytes {bs r : List Int} {k : Nat} (h : AllBytes bs) (hp : numP bs = some (k, r)) : AllBytes r ∧ r.length ≤ bs.length ∧ k < 2 ^ 64 := by
  obtain ⟨hk, e⟩ := numP_back hp
  exact ⟨fun x hx => h x (by rw [e]; exact List.mem_append_right _ hx), by rw [e, List.length_append]; omega, hk⟩

set_option maxRecDepth 100000 in
set_option maxHeartbeats 2000000 in
theorem Try.next1_tells (d : Nat) (_ : 1 ≤ d) (H Br Bm Bp many h : Nat) (hH : H ≤ h) (t1 t2 : TypeId) (ht1 : 78 ≠ t1) (ht2 : 78 ≠ t2) (ht3 : 93 ≠ t1) (ht4 : 93 ≠ t2) (hm : many ≤ 10000) (c0 c1 c2 c3 c4 : Value) (bs : List Int) (hl : bs.length ≤ 1000000) (hbs : AllBytes bs) (hne : Bp ≠ Br) (w : World)
    (hBm : Rows8 w Bm 3 #[.int .i64 many]) (hBp : Rows8 w Bp 93 #[.pointer (some ⟨Br, 0, none⟩)]) (hR : RdAt H Br c0 c1 c2 c3 c4 bs w) :
    TellsP Fence.wide d Try.prog 74 #[.pointer (some ⟨Bm, 0, none⟩), .pointer (some ⟨Bp, 0, none⟩)] encW (Kt h t1 t2) Br (fun xs W' => ∃ r, numsP many bs = some (xs, r) ∧ RdAt H Br c0 c1 c2 c3 c4 r W') errB (fun _ => numsP many bs = none) (fun pre y => pre.length < many ∧ W64 y) w := fun lp J W hW hJ hY h0 => by
  refine callsIn_of_wp Try.func74 rfl trivial ?_ rfl
  simp only [Try.ntmps74, List.size_toArray, List.length_cons, List.length_nil, Nat.reduceAdd, Nat.reduceSub, Array.replicate_succ, Array.replicate_zero, List.push_toArray, List.append_toArray, List.nil_append, List.cons_append]
  have HY := Lib.hid hY
  have HJ := Lib.hid hJ
  have bm := hBm.below hW hBm.lt
  have km : W.cell? ⟨Bm, 0, none⟩ = some (.int .i64 many) := bm.cell 0
  have hlm := bm.lt
  have HP := Lib.hid (hBp.below hW hBp.lt)
  have HR := Lib.hid (hR.below hW)
  have h00 : Hid (numsP 0 bs = some ([], bs)) := Lib.hid rfl
  have H0 := Lib.hid h0
  clear hY hJ bm hBm hBp hR hW h0
  gi_wp2
  gi_loopw [5] (fun j wr => ∃ (k : Nat) (pre r : List Int), k ≤ many ∧ j = .int .i64 k ∧ Hid (numsP k bs = some (pre, r)) ∧ pre.length = k ∧ AllBytes r ∧ r.length ≤ 1000000 ∧ J pre wr ∧ Rows8 wr Bp 93 #[.pointer (some ⟨Br, 0, none⟩)] ∧ RdAt H Br c0 c1 c2 c3 c4 r wr) (fun j _ => many - (intOf j).toNat)
  case atStart => exact ⟨0, [], bs, Nat.zero_le _, rfl, h00, rfl, hbs, hl, H0.out, HP.out, HR.out⟩
  case round =>
    obtain ⟨k, pre, r, hk, rfl, hE, hpl, hbr, hrl, hJs, hBpw, hRw⟩ := hrel
    by_cases hlt : k < many
    · have hki : (k : Int) < (many : Int) := by omega
      have HC := Lib.hid (Try.numberP_any H Br c0 c1 c2 c3 c4 r hrl hbr wr hRw)
      have kp : wr.cell? ⟨Bp, 0, none⟩ = some (.pointer (some ⟨Br, 0, none⟩)) := hBpw.cell 0
      have hlp := hBpw.lt
      have HBP := Lib.hid hBpw
      have HJs := Lib.hid hJs
      have HBR := Lib.hid hbr
      clear hJs hBpw hRw hbr
      gi_wp2_with fail
      refine ⟨trivial, ?_⟩
      refine (callsIn_wide.2 HC.out).mono ?_
      rintro e w2 ⟨hB2, (⟨x, r2, ho, rfl, hR2⟩ | ⟨ho, rfl⟩)⟩
      · have hJ2 := HJ.out _ _ _ HJs.out hB2
        obtain ⟨b1, b2, b3⟩ := numsP_bytes HBR.out ho
        have hp2 : Rows8 w2 Bp 93 #[.pointer (some ⟨Br, 0, none⟩)] := (hB2.block Bp hlp hne).trans HBP.out
        have hE2 : Hid (numsP (k + 1) bs = some (pre ++ [(x : Int)], r2)) := Lib.hid (by rw [numsP_snoc, hE.out, Option.bind_some, ho]; rfl)
        obtain ⟨fn, tmps, assign, body, hy, hRR⟩ := HY.out pre (x : Int) _ hJ2 ⟨by omega, by omega, by omega⟩
        unfold encW at hy
        have HR2 := Lib.hid hR2
        have HP2 := Lib.hid hp2
        have HB1 := Lib.hid b1
        clear hJ2 hR2 hp2 b1 ho hB2
        gi_wp2_with fail
        refine hRR.mono ?_
        rintro e w5 ⟨rfl, hJ5, hk5, hx5⟩
        have HJ5 := Lib.hid hJ5
        have HP5 := Lib.hid (hx5.rows HP2.out ht3 ht4)
        have HR5 := Lib.hid (HR2.out.kt hx5 hH ht1 ht2)
        clear hJ5 hk5 hx5
        gi_wp2_with fail
        go_roundw
        case rel => exact ⟨k + 1, _, r2, by omega, by go_num, hE2, by rw [List.length_append, hpl]; rfl, HB1.out, by omega, HJ5.out, HP5.out, HR5.out⟩
        case measure => simp [intOf]; omega
      · have hno : Hid (numsP many bs = none) := Lib.hid (numsP_none (n := k + 1) (by rw [numsP_snoc, hE.out, Option.bind_some, ho]; rfl) hlt)
        have HJ2 := Lib.hid (HJ.out _ _ _ HJs.out hB2)
        clear ho hB2
        gi_wp2_with fail
        exact ⟨rfl, .inr ⟨rfl, pre, hno.out, HJ2.out⟩⟩
    · obtain rfl : k = many := by omega
      have HJs := Lib.hid hJs
      have HR2 := Lib.hid hRw
      clear hJs hRw hBpw
      gi_wp2_with fail
      go_end0
      exact .inl ⟨⟨_, rfl⟩, pre, ⟨r, hE.out, HR2.out⟩, HJs.out⟩
end Go.Proofs

/- Script: numbers read into a row: next, AppendSeq, Collect. -/
namespace Go.Proofs
open Go.RowKit Go.Shelf
attribute [local go_sem] Oper.semAt_some

theorem Try.next_any (Br : Nat) (many : Int) (w : World) :
    Calls Try.prog 66 #[.pointer (some ⟨Br, 0, none⟩), .int .i64 many] w fun e w' => e = .returned (.func (.func 74) #[] #[.pointer (some ⟨w.heap.size + 1, 0, none⟩), .pointer (some ⟨w.heap.size, 0, none⟩)]) ∧ w' = (w.alloc (.cells #[.pointer (some ⟨Br, 0, none⟩)] 93)).alloc (.cells #[.int .i64 many] 3) := by
  go_enter Try.func66, Try.ntmps66
  go_wp2
  go_ret
  exact ⟨rfl, rfl⟩

theorem RdAt.put {H : Nat} {A : World} {Br : Nat} {c0 c1 c2 c3 c4 : Value} {bs : List Int} (r : RdAt H Br c0 c1 c2 c3 c4 bs A) {k : Nat} {o o' : Obj} (hk : A.heap[k]? = some o) (ho : o.isCells = false) : RdAt H Br c0 c1 c2 c3 c4 bs (A.putObj k o') := by
  obtain ⟨a, n, cap, r1, r2, r3⟩ := r
  refine ⟨a, n, cap, ?_, ?_, r3⟩
  · have hne : Br ≠ k := fun e => by
      subst e
      rw [show A.heap[Br]? = _ from r1] at hk
      injection hk with hk
      subst hk
      cases ho
    exact (World.putObj_heap_other (r := k) (k := Br) hne).trans r1
  · obtain ⟨h0, a', cap', e, h1, h2, h3, h4⟩ := r2
    cases e
    refine ⟨h0, _, _, rfl, h1, h2, h3, fun j hj => ?_⟩
    obtain ⟨b, off, e2, hb, hc⟩ := h4 j hj
    have hne : b ≠ k := fun e => by
      subst e
      rw [List.getElem?_eq_getElem hj] at hc
      cases o <;> simp [Obj.isCells] at ho <;> simp [World.cell?, hk] at hc
    exact ⟨b, off, e2, by simpa [World.putObj] using hb, (World.cell?_of_block (w := A) (World.putObj_heap_other (r := k) (k := b) hne)).trans hc⟩
theorem wordVals_snoc (l : List Int) (z : Int) : wordVals (l ++ [z]) = wordVals l ++ [.int .u64 z] := by simp [wordVals]

set_option maxRecDepth 100000 in
set_option maxHeartbeats 4000000 in
theorem Try.appendSeq_any (H Br Bm Bp many : Nat) (hm : many ≤ 10000) (c0 c1 c2 c3 c4 : Value) (bs : List Int) (hl : bs.length ≤ 1000000) (hbs : AllBytes bs) (hne : Bp ≠ Br) (w : World) (hH : H ≤ w.heap.size)
    (hBm : Rows8 w Bm 3 #[.int .i64 many]) (hBp : Rows8 w Bp 93 #[.pointer (some ⟨Br, 0, none⟩)]) (hR : RdAt H Br c0 c1 c2 c3 c4 bs w) :
    Calls Try.prog 70 #[.slice none 0 0, .func (.func 74) #[] #[.pointer (some ⟨Bm, 0, none⟩), .pointer (some ⟨Bp, 0, none⟩)]] w
      fun e w' => But w.heap.size Br w w' ∧ ((∃ xs r v, numsP many bs = some (xs, r) ∧ e = .returned v ∧ OwnsWords w.heap.size xs v w' ∧ RdAt H Br c0 c1 c2 c3 c4 r w') ∨ (numsP many bs = none ∧ e = .panicked errB)) := by
  obtain ⟨i0, hi, hz0, hz1, hz2⟩ := info_parts Try.infoWord
  refine (callsIn_wide (n := 9)).1 ?_
  refine callsIn_of_wp_marks Try.func70 rfl trivial ?_ rfl
  simp only [Try.ntmps70, List.size_toArray, List.length_cons, List.length_nil, Nat.reduceAdd, Nat.reduceSub, Array.replicate_succ, Array.replicate_zero, List.push_toArray, List.append_toArray, List.nil_append, List.cons_append]
  have hBrl : Br < w.heap.size := by
    obtain ⟨_, _, _, r1, _⟩ := hR
    exact r1.lt
  have HBM := Lib.hid hBm
  have HBP := Lib.hid hBp
  have HR := Lib.hid hR
  clear hBm hBp hR
  gi_wp2_with fail
  have hBc : Below w.heap.size w (w.alloc (.cells #[.slice none 0 0] 24)) := (Below.refl _ w).alloc (Nat.le_refl _) _
  have br := Rows8.new w 24 #[.slice none 0 0]
  have hz : (w.alloc (.cells #[.slice none 0 0] 24)).heap.size = w.heap.size + 1 := by simp
  generalize w.alloc (.cells #[.slice none 0 0] 24) = W0 at *
  have HTL := Lib.hid (Try.next1_tells 8 (by decide) H Br Bm Bp many w.heap.size hH 24 22 (by decide) (by decide) (by decide) (by decide) hm c0 c1 c2 c3 c4 bs hl hbs hne W0 (HBM.out.below hBc HBM.out.lt) (HBP.out.below hBc HBP.out.lt) (HR.out.below hBc))
  refine range_tellsP rfl (by decide) (gf := 74) (lb := #[.pointer (some ⟨Bm, 0, none⟩), .pointer (some ⟨Bp, 0, none⟩)]) rfl trivial (fun _ _ => by kernel_rfl) HTL.out kt_t kt_b (Below.refl _ _) (by omega) (fun xs W k o o' ⟨r, h1, h2⟩ hk ho => ⟨r, h1, h2.put hk ho⟩) (fun _ => rfl)
    (fun pre W' => (∃ u, Boxed W' w.heap.size 24 u ∧ W'.ownsRow w.heap.size 22 1 u pre.length (wordVals pre) ∧ True) ∧ But w.heap.size Br w W')
    (OwnFrom.and (Own.from (holdsRow_own w.heap.size w.heap.size 24 22 1 (fun pre => pre.length) (fun pre => wordVals pre) (fun _ _ => True)) _) (ownFrom_but (Nat.le_refl _) (by omega)))
    (fun s X Y hs hXY => ⟨by
      obtain ⟨u, h1, h2, h3⟩ := hs.1
      have hx1 : w.heap.size ≠ Br := by omega
      refine ⟨u, (hXY.block _ h1.lt hx1).trans h1, ?_, h3⟩
      refine ⟨h2.1, h2.2.imp id fun ⟨g, cap, cur, e, hg, hh, hr⟩ => ⟨g, cap, cur, e, hg, (hXY.block g (Array.getElem?_eq_some_iff.1 hh).1 (by omega)).trans hh, hr⟩⟩, hs.2.trans ⟨hXY.os, hXY.tape, hXY.output, hXY.size, fun k hk hkx => hXY.block k (by have := hs.2.size; omega) hkx⟩⟩)
    ⟨⟨_, br, World.ownsRow_nil _ _ _ _, trivial⟩, But.of_below hBc⟩
    (fun x a' W' => a' = { tmps := #[.slice none 0 0, .func (.func 74) #[] #[.pointer (some ⟨Bm, 0, none⟩), .pointer (some ⟨Bp, 0, none⟩)], .pointer (some ⟨w.heap.size, 0, none⟩), undef, .slice none 0 0, .int .u64 x, .func (.func 74) #[] #[.pointer (some ⟨Bm, 0, none⟩), .pointer (some ⟨Bp, 0, none⟩)], .int .u64 x, undef, undef, undef, undef, undef], defers := [] })
    (fun x a' s X Y row hs hg hr => hs) ?assign ?body ?done ?pan
  case assign =>
    rintro l2 pre x W' K ⟨⟨u, hu, hr, _⟩, hB⟩ hK
    unfold encW
    gi_wp2
    exact hK _ _ (keepsFrom_below (Below.refl _ _)) (Kt.refl _ _ _ _) ⟨⟨u, hu, hr, trivial⟩, hB⟩ rfl
  case body =>
    rintro l2 pre x a' W' ⟨⟨u, hu, hr, _⟩, hB⟩ rfl ⟨hlen, _⟩
    have HU := Lib.hid hu
    have HRR := Lib.hid hr
    have HB := Lib.hid hB
    have hc0 : W'.cell? ⟨w.heap.size, 0, none⟩ = some u := hu.cell
    have hf0 := hu.frozen
    have hlt := hu.lt
    have hzb := hB.size
    obtain ⟨au, cu, rfl⟩ : ∃ au cu, u = .slice au pre.length cu := by
      obtain ⟨_, a, cap, h, _⟩ := rowAt_own hr
      exact ⟨a, cap, h⟩
    clear hu hr hB
    gi_wp2_with (gi_at_builtin; refine wpListIn_append_own _ rfl _ _ 24 rfl w.heap.size 22 i0 (.int .u64 0) 1 8 Try.underlying24 hi hz0 hz1 hz2 rfl (by decide) _ _ _ rfl (HRR.out.alloc _) ⟨W'.heap.size, 0, none⟩ 1 1 [.int .u64 x] rfl rfl (cells_new W' _ [.int .u64 x]) (by simp [Value.oneCell']) (by unfold maxLen; omega) (by omega) (by simp; omega) ?_; intro v' w3 hown' hgrow _; obtain ⟨g', cap', rfl⟩ := ownsRow_succ hown'; obtain ⟨hv1, hv2, hr2, hk2, hb2⟩ := HU.out.appended (by decide) HRR.out hzb (Nat.le_refl _) hown' hgrow; have ht2 := ((Kt.alloc _ _ : Kt w.heap.size 24 22 W' _).grown (Nat.le_refl _) (HRR.out.alloc _) hgrow).set (a := ⟨w.heap.size, 0, none⟩) hv1 (Nat.le_refl _) (.inl rfl) (.slice (some ⟨g', 0, none⟩) (pre.length + 1) cap'); have hc3 := hv1.cell; have hf3 := hv1.frozen; have HT2 := Lib.hid ht2; have HV2 := Lib.hid hv2; have HR2 := Lib.hid hr2; have HK2 := Lib.hid hk2; have HB2 := Lib.hid hb2; clear ht2 hv2 hr2 hk2 hb2)
    exact ⟨HK2.out.from _, HT2.out, ⟨_, HV2.out, by rw [List.length_append, wordVals_snoc]; exact HR2.out, trivial⟩, HB.out.trans (But.of_below HB2.out)⟩
  case done =>
    rintro D ys W' hD ⟨r, hnp, hrd⟩ ⟨⟨u, hu, hr, _⟩, hB⟩ hK
    have hr' := ownsRow_putObj hr (.deferred none) hK rfl
    have hc := hu.cell
    have HR' := Lib.hid hr'
    have HB := Lib.hid hB
    have HNP := Lib.hid hnp
    have HRD := Lib.hid (hrd.put (o' := .deferred none) hK rfl)
    clear hr hu hr' hB hnp hrd
    gi_wp2
    refine ⟨by simp, .inl ⟨_, _, rfl, run_takeDeferred hK, ?_⟩⟩
    exact ⟨_, results_tmp rfl _ _ _, HB.out.trans (But.of_below (belowK_b (w := w) (Nat.le_refl _) _ D _ _ (by omega) hK rfl rfl)), .inl ⟨ys, r, u, HNP.out, rfl, HR'.out, HRD.out⟩⟩
  case pan =>
    rintro D pre W' hD hnp ⟨_, hB⟩ hK
    gi_wp2
    refine ⟨by simp, .inl ⟨_, _, rfl, run_takeDeferred hK, ?_⟩⟩
    exact ⟨hB.trans (But.of_below (belowK_b (w := w) (Nat.le_refl _) _ D _ _ (by omega) hK rfl rfl)), .inr ⟨hnp, rfl⟩⟩
end Go.Proofs

/- Script: Collect, a call read. -/
namespace Go.Proofs
open Go.RowKit Go.Shelf
attribute [local go_sem] Oper.semAt_some

set_option maxRecDepth 100000 in
set_option maxHeartbeats 1000000 in
theorem Try.collect_any (H Br Bm Bp many : Nat) (hm : many ≤ 10000) (c0 c1 c2 c3 c4 : Value) (bs : List Int) (hl : bs.length ≤ 1000000) (hbs : AllBytes bs) (hne : Bp ≠ Br) (w : World) (hH : H ≤ w.heap.size)
    (hBm : Rows8 w Bm 3 #[.int .i64 many]) (hBp : Rows8 w Bp 93 #[.pointer (some ⟨Br, 0, none⟩)]) (hR : RdAt H Br c0 c1 c2 c3 c4 bs w) :
    Calls Try.prog 54 #[.func (.func 74) #[] #[.pointer (some ⟨Bm, 0, none⟩), .pointer (some ⟨Bp, 0, none⟩)]] w
      fun e w' => But w.heap.size Br w w' ∧ ((∃ xs r v, numsP many bs = some (xs, r) ∧ e = .returned v ∧ OwnsWords w.heap.size xs v w' ∧ RdAt H Br c0 c1 c2 c3 c4 r w') ∨ (numsP many bs = none ∧ e = .panicked errB)) := by
  have HC := Lib.hid (Try.appendSeq_any H Br Bm Bp many hm c0 c1 c2 c3 c4 bs hl hbs hne w hH hBm hBp hR)
  clear hBm hBp hR hl hbs
  go_enter Try.func54, Try.ntmps54
  go_wp2_with fail
  refine HC.out.mono ?_
  rintro e w2 ⟨hB, (⟨xs, r, v, h, rfl, hO, hR⟩ | ⟨h, rfl⟩)⟩
  · have HB := Lib.hid hB
    have HH := Lib.hid h
    have HO := Lib.hid hO
    have HR := Lib.hid hR
    clear hB h hO hR
    go_wp2_with fail
    go_ret
    exact ⟨HB.out, .inl ⟨xs, r, v, HH.out, rfl, HO.out, HR.out⟩⟩
  · have HB := Lib.hid hB
    have HH := Lib.hid h
    clear hB h
    go_wp2_with fail
    exact ⟨rfl, HB.out, .inr ⟨HH.out, rfl⟩⟩

theorem RdAt.set {H : Nat} {A : World} {Br : Nat} {c0 c1 c2 c3 c4 : Value} {bs : List Int} (r : RdAt H Br c0 c1 c2 c3 c4 bs A) {B : Nat} (hB : B ≠ Br) (hH : H ≤ B) (o : Nat) (v : Value) : RdAt H Br c0 c1 c2 c3 c4 bs (A.setCell ⟨B, o, none⟩ v) := by
  obtain ⟨a, n, cap, r1, r2, r3⟩ := r
  refine ⟨a, n, cap, r1.setOther (a := ⟨B, o, none⟩) hB v, ?_, r3⟩
  obtain ⟨h0, a', cap', e, h1, h2, h3, h4⟩ := r2
  cases e
  refine ⟨h0, _, _, rfl, h1, h2, h3, fun j hj => ?_⟩
  obtain ⟨b, off, e2, hb, hc⟩ := h4 j hj
  have hbH := (r3 b off e2).2
  exact ⟨b, off, e2, by simpa [World.setCell] using hb, by rw [World.cell?_setCell_far _ _ _ _ (show B ≠ b by omega)]; exact hc⟩
/-- A call's words, of which some are taken. -/
def arrW (ws : List Int) : Array Value := #[.int .u64 (ws[0]?.getD 0), .int .u64 (ws[1]?.getD 0), .int .u64 (ws[2]?.getD 0)]
theorem arrW_snoc (ws : List Int) (x : Int) (h : ws.length < 3) : (arrW ws).setIfInBounds ws.length (.int .u64 x) = arrW (ws ++ [x]) := by
  match ws, h with
  | [], _ => rfl
  | [a], _ => rfl
  | [a, b], _ => rfl
def mkCall (op : Nat) (ws : List Int) : Cl4 := ⟨op, ws[0]?.getD 0, ws[1]?.getD 0, ws[2]?.getD 0⟩
/-- The next call, and what is left. -/
noncomputable def callP (bs : List Int) : Option (Cl4 × List Int) := (betP 1 7 bs).bind fun p => (numsP (takesOf p.1).toNat p.2).map fun q => (mkCall p.1 q.1, q.2)
theorem betP_back {lo hi : Nat} {bs r : List Int} {k : Nat} (h : betP lo hi bs = some (k, r)) : numP bs = some (k, r) ∧ lo ≤ k ∧ k ≤ hi := by
  cases hn : numP bs with
  | none => rw [betP_none hn] at h; cases h
  | some p =>
    rw [betP_some (k := p.1) (r := p.2) hn] at h
    split at h
    · injection h with h
      cases h
      rename_i hx
      exact ⟨rfl, hx⟩
    · cases h
set_option maxRecDepth 100000 in
set_option maxHeartbeats 4000000 in
theorem Try.call_any (H Br : Nat) (c0 c1 c2 c3 c4 : Value) (bs : List Int) (hl : bs.length ≤ 1000000) (hbs : AllBytes bs) (w : World) (hH : H ≤ w.heap.size) (hR : RdAt H Br c0 c1 c2 c3 c4 bs w) :
    Calls Try.prog 85 #[.pointer (some ⟨Br, 0, none⟩)] w (StepQ H Br c0 c1 c2 c3 c4 (fun c : Cl4 => .agg #[.int .i64 c.op, .int .u64 c.key, .int .u64 c.a, .int .u64 c.b]) (callP bs) w) := by
  refine (callsIn_wide (n := 9)).1 ?_
  refine callsIn_of_wp_marks Try.func85 rfl trivial ?_ rfl
  simp only [Try.ntmps85, List.size_toArray, List.length_cons, List.length_nil, Nat.reduceAdd, Nat.reduceSub, Array.replicate_succ, Array.replicate_zero, List.push_toArray, List.append_toArray, List.nil_append, List.cons_append]
  have hBrl : Br < w.heap.size := by
    obtain ⟨_, _, _, r1, _⟩ := hR
    exact r1.lt
  have hB1 : Below w.heap.size w (w.alloc (.cells #[.int .i64 0, .int .u64 0, .int .u64 0, .int .u64 0] 55)) := (Below.refl _ w).alloc (Nat.le_refl _) _
  have HC := Lib.hid (Try.between_any 1 7 H Br (by decide) (by decide) c0 c1 c2 c3 c4 bs hl hbs _ (hR.below hB1))
  have HRC := Lib.hid (Rows8.new w 55 #[.int .i64 0, .int .u64 0, .int .u64 0, .int .u64 0])
  have HB1 := Lib.hid hB1
  clear hR hB1
  gi_wp2_with fail
  refine ⟨trivial, ?_⟩
  refine (callsIn_wide.2 HC.out).mono ?_
  rintro e w2 ⟨hB2, (⟨op, r, ho, rfl, hR2⟩ | ⟨ho, rfl⟩)⟩
  · have h1 := betP_back ho
    obtain ⟨b1, b2, _⟩ := numsP_bytes hbs h1.1
    have hr2 := (hB2.block w.heap.size (HRC.out.lt) (by omega)).trans HRC.out
    obtain ⟨t, ht, ht3⟩ : ∃ t : Nat, takesOf (op : Int) = t ∧ t ≤ 3 := by
      have hne : takesOf (op : Int) ≠ -1 := by
        unfold takesOf
        repeat' split
        all_goals omega
      rcases takesOf_ways op with e | e | e | e | e
      · exact absurd e hne
      · exact ⟨0, e, by omega⟩
      · exact ⟨1, e, by omega⟩
      · exact ⟨2, e, by omega⟩
      · exact ⟨3, e, by omega⟩
    have hcp : Hid (callP bs = (numsP t r).map fun q => (mkCall op q.1, q.2)) := Lib.hid (by unfold callP; rw [ho, Option.bind_some, ht]; rfl)
    have HT := Lib.hid fun W => Try.Takes_any op W
    rw [ht] at HT
    have HR2 := Lib.hid hR2
    have HRC2 : Hid (Rows8 w2 w.heap.size 55 #[.int .i64 0, .int .u64 0, .int .u64 0, .int .u64 0]) := Lib.hid hr2
    have HB2 := Lib.hid ((But.of_below HB1.out : But w.heap.size Br w _).trans ⟨hB2.os, hB2.tape, hB2.output, hB2.size, fun k hk hx => hB2.block k (by have := HB1.out.size; omega) hx⟩)
    have hz2 := HB2.out.size
    have hzc := hr2
    have hlc : w.heap.size < w2.heap.size := HRC2.out.lt
    have HBB := Lib.hid b1
    clear ho hR2 hr2 hB2 h1 b1 ht hzc
    dsimp only
    gi_wp2_with (first | (refine ⟨trivial, ?_⟩; gi_at_call 11; refine (callsIn_wide.2 (HT.out _)).mono ?_; rintro e w' ⟨rfl, rfl⟩) | (refine ⟨trivial, ?_⟩; gi_at_call 66; refine (callsIn_wide.2 (Try.next_any _ _ _)).mono ?_; rintro e w' ⟨rfl, rfl⟩))
    have hBw : Below w2.heap.size w2 ((((w2.alloc (.cells #[.int .u64 0, .int .u64 0, .int .u64 0] 80)).alloc (.cells #[.int .i64 0] 3)).alloc (.cells #[.pointer (some ⟨Br, 0, none⟩)] 93)).alloc (.cells #[.int .i64 t] 3)) := ((((Below.refl _ w2).alloc (Nat.le_refl _) _).alloc (by simp) _).alloc (by simp; omega) _).alloc (by simp; omega) _
    have rA := (((Rows8.new w2 80 #[.int .u64 0, .int .u64 0, .int .u64 0]).alloc (.cells #[.int .i64 0] 3)).alloc (.cells #[.pointer (some ⟨Br, 0, none⟩)] 93)).alloc (.cells #[.int .i64 t] 3)
    have rI := ((rows_new2 w2 (.cells #[.int .u64 0, .int .u64 0, .int .u64 0] 80) 3 #[.int .i64 0]).alloc (.cells #[.pointer (some ⟨Br, 0, none⟩)] 93)).alloc (.cells #[.int .i64 t] 3)
    have rP := (rows_new2 (w2.alloc (.cells #[.int .u64 0, .int .u64 0, .int .u64 0] 80)) (.cells #[.int .i64 0] 3) 93 #[.pointer (some ⟨Br, 0, none⟩)]).alloc (.cells #[.int .i64 t] 3)
    have rM := rows_new2 ((w2.alloc (.cells #[.int .u64 0, .int .u64 0, .int .u64 0] 80)).alloc (.cells #[.int .i64 0] 3)) (.cells #[.pointer (some ⟨Br, 0, none⟩)] 93) 3 #[.int .i64 t]
    have hz : ((((w2.alloc (.cells #[.int .u64 0, .int .u64 0, .int .u64 0] 80)).alloc (.cells #[.int .i64 0] 3)).alloc (.cells #[.pointer (some ⟨Br, 0, none⟩)] 93)).alloc (.cells #[.int .i64 t] 3)).heap.size = w2.heap.size + 4 := by simp
    simp only [World.size_alloc] at rP rM
    generalize (((w2.alloc (.cells #[.int .u64 0, .int .u64 0, .int .u64 0] 80)).alloc (.cells #[.int .i64 0] 3)).alloc (.cells #[.pointer (some ⟨Br, 0, none⟩)] 93)).alloc (.cells #[.int .i64 t] 3) = W0 at *
    have HTL := Lib.hid (Try.next1_tells 8 (by decide) H Br (w2.heap.size + 1 + 1 + 1) (w2.heap.size + 1 + 1) t w2.heap.size (by omega) 80 3 (by decide) (by decide) (by decide) (by decide) (by omega) c0 c1 c2 c3 c4 r (by omega) HBB.out (by omega) W0 rM rP (HR2.out.below hBw))
    refine range_tellsP rfl (by decide) (gf := 74) (lb := #[.pointer (some ⟨w2.heap.size + 1 + 1 + 1, 0, none⟩), .pointer (some ⟨w2.heap.size + 1 + 1, 0, none⟩)]) rfl trivial (fun _ _ => by kernel_rfl) HTL.out kt_t kt_b (Below.refl _ _) (by omega) (fun xs W k o o' ⟨r, h1, h2⟩ hk ho => ⟨r, h1, h2.put hk ho⟩) (fun _ => rfl)
      (fun pre W' => Rows8 W' w2.heap.size 80 (arrW pre) ∧ Rows8 W' (w2.heap.size + 1) 3 #[.int .i64 (pre.length : Int)] ∧ Rows8 W' w.heap.size 55 #[.int .i64 0, .int .u64 0, .int .u64 0, .int .u64 0] ∧ But w.heap.size Br w W')
      (OwnFrom.and (Own.from (Rows8.own _ _ (fun pre => arrW pre)) _) (OwnFrom.and (Own.from (Rows8.own _ _ (fun pre : List Int => #[.int .i64 (pre.length : Int)])) _) (OwnFrom.and (Own.from (Rows8.own _ _ _) _) (ownFrom_but (Nat.le_refl _) (by omega)))))
      (fun s X Y hs hXY => ⟨(hXY.block _ hs.1.lt (by omega)).trans hs.1, (hXY.block _ hs.2.1.lt (by omega)).trans hs.2.1, (hXY.block _ hs.2.2.1.lt (by omega)).trans hs.2.2.1, hs.2.2.2.trans ⟨hXY.os, hXY.tape, hXY.output, hXY.size, fun k hk hkx => hXY.block k (by have := hs.2.2.2.size; omega) hkx⟩⟩)
      ⟨rA, rI, HRC2.out.below hBw hlc, HB2.out.trans (But.of_below (hBw.mono hz2))⟩
      (fun x a' W' => a' = { tmps := #[.pointer (some ⟨Br, 0, none⟩), undef, .pointer (some ⟨w.heap.size, 0, none⟩), .int .i64 op, .pointer (some ⟨w2.heap.size, 0, none⟩), .pointer (some ⟨w2.heap.size + 1, 0, none⟩), .int .u64 x, .pointer (some ⟨Br, 0, none⟩), .int .i64 op, .pointer (some ⟨Br, 0, none⟩), .int .i64 op, .int .i64 t, .func (.func 74) #[] #[.pointer (some ⟨w2.heap.size + 1 + 1 + 1, 0, none⟩), .pointer (some ⟨w2.heap.size + 1 + 1, 0, none⟩)], .int .u64 x, undef, undef, undef, undef, undef, undef, undef, undef, undef, undef, undef, undef, undef], defers := [] })
      (fun x a' s X Y row hs hg hr => hs) ?assign ?body ?done ?pan
    case assign =>
      rintro l2 pre x W' K hI hK
      unfold encW
      gi_wp2
      exact hK _ _ (keepsFrom_below (Below.refl _ _)) (Kt.refl _ _ _ _) hI rfl
    case body =>
      rintro l2 pre x a' W' ⟨h1, h2, h3, h4⟩ rfl ⟨hlen, _⟩
      have hsn := arrW_snoc pre x (by omega)
      have cI : W'.cell? ⟨w2.heap.size + 1, 0, none⟩ = some (.int .i64 (pre.length : Int)) := h2.cell 0
      have fI := h2.frozen 0
      obtain ⟨ov, hov⟩ : ∃ ov, (arrW pre)[pre.length]? = some ov := ⟨_, Array.getElem?_eq_getElem (by show pre.length < 3; omega)⟩
      have cA : W'.cell? ⟨w2.heap.size, pre.length, none⟩ = some ov := (h1.cell pre.length).trans hov
      have fA := h1.frozen pre.length
      have hm3 : (pre.length : Int) < 3 := by omega
      have hm64 : IntKind.i64.wrap ((pre.length : Int) + 1) = (pre.length : Int) + 1 := IntWalk.i64_in _ (by omega)
      have g1 := h1.set pre.length (.int .u64 x)
      rw [hsn] at g1
      have g2 : Rows8 (W'.setCell ⟨w2.heap.size, pre.length, none⟩ (.int .u64 x)) (w2.heap.size + 1) 3 #[.int .i64 (pre.length : Int)] := h2.setOther (show w2.heap.size ≠ w2.heap.size + 1 by omega) _
      have g3 := h3.setOther (a := ⟨w2.heap.size, pre.length, none⟩) (show w2.heap.size ≠ w.heap.size by omega) (.int .u64 x)
      have k1 := g1.setOther (a := ⟨w2.heap.size + 1, 0, none⟩) (show w2.heap.size + 1 ≠ w2.heap.size by omega) (.int .i64 ((pre.length : Int) + 1))
      have k2 := g2.set 0 (.int .i64 ((pre.length : Int) + 1))
      have k3 := g3.setOther (a := ⟨w2.heap.size + 1, 0, none⟩) (show w2.heap.size + 1 ≠ w.heap.size by omega) (.int .i64 ((pre.length : Int) + 1))
      have cI2 := g2.cell 0
      have fI2 := g2.frozen 0
      simp at cI2 k2
      have t2 := (((Kt.refl _ _ _ W' : Kt w2.heap.size 80 3 W' W').set (a := ⟨w2.heap.size, pre.length, none⟩) h1 (Nat.le_refl _) (.inl rfl) (.int .u64 x)).set (a := ⟨w2.heap.size + 1, 0, none⟩) g2 (by show w2.heap.size ≤ w2.heap.size + 1; omega) (.inr rfl) (.int .i64 ((pre.length : Int) + 1)))
      have b4 : But w.heap.size Br w ((W'.setCell ⟨w2.heap.size, pre.length, none⟩ (.int .u64 x)).setCell ⟨w2.heap.size + 1, 0, none⟩ (.int .i64 ((pre.length : Int) + 1))) := ⟨h4.os, h4.tape, h4.output, by simpa [World.setCell] using h4.size, fun k hk hkx => (Below.heap_setCell _ _ _ _ (by show k ≠ w2.heap.size + 1; omega)).trans ((Below.heap_setCell _ _ _ _ (by show k ≠ w2.heap.size; omega)).trans (h4.block k hk hkx))⟩
      have kf : KeepsFrom W0.heap.size W' ((W'.setCell ⟨w2.heap.size, pre.length, none⟩ (.int .u64 x)).setCell ⟨w2.heap.size + 1, 0, none⟩ (.int .i64 ((pre.length : Int) + 1))) := ((KeepsOthers.setCell _ _ _).trans (KeepsOthers.setCell _ _ _)).from _
      have K1 := Lib.hid k1
      have K2 := Lib.hid k2
      have K3 := Lib.hid k3
      have T2 := Lib.hid t2
      have B4 := Lib.hid b4
      have KF := Lib.hid kf
      have HLEN : Hid ((pre ++ [x]).length = pre.length + 1) := Lib.hid (by simp)
      have hl1 := h1.lt
      have hl2 := h2.lt
      have hl3 := g2.lt
      clear h1 h2 h3 h4 hsn hov g1 g2 g3 k1 k2 k3 t2 b4 kf
      gi_wp2_with fail
      exact ⟨KF.out, T2.out, K1.out, by rw [HLEN.out, Int.natCast_add]; exact K2.out, K3.out, B4.out⟩
    case done =>
      rintro D ys W' hD ⟨r2, hnp, hrd⟩ ⟨h1, h2, h3, h4⟩ hK
      have c0' := h1.cell 0
      have c1' := h1.cell 1
      have c2' := h1.cell 2
      unfold arrW at c0' c1' c2'
      simp at c0' c1' c2'
      have d0 := h3.cell 0
      have d1 := h3.cell 1
      have d2 := h3.cell 2
      have d3 := h3.cell 3
      simp at d0 d1 d2 d3
      have f0 := h3.frozen 0
      have f1 := h3.frozen 1
      have f2 := h3.frozen 2
      have f3 := h3.frozen 3
      have hl1 := h1.lt
      have hl3 := h3.lt
      have H3 := Lib.hid h3
      have H4 := Lib.hid h4
      have HK := Lib.hid hK
      have HRD := Lib.hid hrd
      have HNP := Lib.hid hnp
      clear h1 h2 h3 h4 hrd hnp hK
      obtain ⟨y0, hy0⟩ : ∃ y0, y0 = ys[0]?.getD 0 := ⟨_, rfl⟩
      obtain ⟨y1, hy1⟩ : ∃ y1, y1 = ys[1]?.getD 0 := ⟨_, rfl⟩
      obtain ⟨y2, hy2⟩ : ∃ y2, y2 = ys[2]?.getD 0 := ⟨_, rfl⟩
      rw [← hy0] at c0'
      rw [← hy1] at c1'
      rw [← hy2] at c2'
      have HY0 := Lib.hid hy0
      have HY1 := Lib.hid hy1
      have HY2 := Lib.hid hy2
      clear hy0 hy1 hy2
      gi_wp2_with fail
      have hrow := (((H3.out.set 0 (.int .i64 op)).set 1 (.int .u64 y0)).set 2 (.int .u64 y1)).set 3 (.int .u64 y2)
      simp only [List.setIfInBounds_toArray, List.set_cons_zero, List.set_cons_succ] at hrow
      have hrd2 := (((HRD.out.set (B := w.heap.size) (by omega) hH 0 (.int .i64 op)).set (B := w.heap.size) (by omega) hH 1 (.int .u64 y0)).set (B := w.heap.size) (by omega) hH 2 (.int .u64 y1)).set (B := w.heap.size) (by omega) hH 3 (.int .u64 y2)
      have hbl : Below w.heap.size W' ((((W'.setCell ⟨w.heap.size, 0, none⟩ (.int .i64 op)).setCell ⟨w.heap.size, 1, none⟩ (.int .u64 y0)).setCell ⟨w.heap.size, 2, none⟩ (.int .u64 y1)).setCell ⟨w.heap.size, 3, none⟩ (.int .u64 y2)) := ((((Below.refl _ W').setCell (by exact Nat.le_refl _) _).setCell (by exact Nat.le_refl _) _).setCell (by exact Nat.le_refl _) _).setCell (by exact Nat.le_refl _) _
      have hDn : D ≠ w.heap.size := by omega
      have hKZ : ((((W'.setCell ⟨w.heap.size, 0, none⟩ (.int .i64 op)).setCell ⟨w.heap.size, 1, none⟩ (.int .u64 y0)).setCell ⟨w.heap.size, 2, none⟩ (.int .u64 y1)).setCell ⟨w.heap.size, 3, none⟩ (.int .u64 y2)).heap[D]? = some (.deferred (some [])) :=
        (Below.heap_setCell _ _ _ _ (by show D ≠ w.heap.size; exact hDn)).trans ((Below.heap_setCell _ _ _ _ (by show D ≠ w.heap.size; exact hDn)).trans ((Below.heap_setCell _ _ _ _ (by show D ≠ w.heap.size; exact hDn)).trans ((Below.heap_setCell _ _ _ _ (by show D ≠ w.heap.size; exact hDn)).trans HK.out)))
      generalize ((((W'.setCell ⟨w.heap.size, 0, none⟩ (.int .i64 op)).setCell ⟨w.heap.size, 1, none⟩ (.int .u64 y0)).setCell ⟨w.heap.size, 2, none⟩ (.int .u64 y1)).setCell ⟨w.heap.size, 3, none⟩ (.int .u64 y2)) = Z at *
      refine ⟨by simp, .inl ⟨_, _, rfl, run_takeDeferred hKZ, ?_⟩⟩
      refine ⟨_, results_c rfl _ _ w.heap.size 55 _ (0, 0) _ rfl (rows_put hrow hKZ) Try.underlying55 rfl (by kernel_rfl), (H4.out.trans (But.of_below hbl)).trans (But.of_below (belowK_b (w := w) (Nat.le_refl _) _ D _ _ (by omega) hKZ rfl rfl)), .inl ⟨mkCall op ys, r2, by rw [hcp.out, HNP.out]; rfl, by rw [HY0.out, HY1.out, HY2.out]; rfl, hrd2.put hKZ rfl⟩⟩
    case pan =>
      rintro D pre W' hD hnp ⟨h1, h2, h3, h4⟩ hK
      gi_wp2
      refine ⟨by simp, .inl ⟨_, _, rfl, run_takeDeferred hK, ?_⟩⟩
      exact ⟨h4.trans (But.of_below (belowK_b (w := w) (Nat.le_refl _) _ D _ _ (by omega) hK rfl rfl)), .inr ⟨by rw [hcp.out, hnp]; rfl, rfl⟩⟩
  · have hcp : Hid (callP bs = none) := Lib.hid (by unfold callP; rw [ho]; rfl)
    have HB2 := Lib.hid ((But.of_below HB1.out : But w.heap.size Br w _).trans ⟨hB2.os, hB2.tape, hB2.output, hB2.size, fun k hk hx => hB2.block k (by have := HB1.out.size; omega) hx⟩)
    clear ho hB2
    gi_wp2_with fail
    exact ⟨HB2.out, .inr ⟨hcp.out, rfl⟩⟩
end Go.Proofs

/- Script: a list of calls, read. -/
namespace Go.Proofs
open Go.RowKit Go.Shelf
attribute [local go_sem] Oper.semAt_some

/-- The next so many calls, and what is left. -/
noncomputable def callsP : Nat → List Int → Option (List Cl4 × List Int)
  | 0, bs => some ([], bs)
  | n + 1, bs => (callP bs).bind fun p => (callsP n p.2).map fun q => (p.1 :: q.1, q.2)
theorem callsP_snoc : ∀ (n : Nat) (bs : List Int), callsP (n + 1) bs = (callsP n bs).bind fun q => (callP q.2).map fun p => (q.1 ++ [p.1], p.2) := by
  intro n
  induction n with
  | zero =>
    intro bs
    cases h : callP bs with
    | none => simp [callsP, h]
    | some p => simp [callsP, h]
  | succ n ih =>
    intro bs
    rw [callsP]
    cases h : callP bs with
    | none => simp [callsP, h]
    | some p =>
      rw [callsP, h]
      simp only [Option.bind_some, ih p.2]
      cases h2 : callsP n p.2 with
      | none => simp
      | some q =>
        simp only [Option.bind_some, Option.map_some]
        cases h3 : callP q.2 with
        | none => simp
        | some t => simp
theorem callsP_none {n m : Nat} {bs : List Int} (h : callsP n bs = none) (hm : n ≤ m) : callsP m bs = none := by
  induction m with
  | zero =>
    obtain rfl : n = 0 := by omega
    exact h
  | succ m ih =>
    by_cases e : n = m + 1
    · rw [← e]; exact h
    · rw [callsP_snoc, ih (by omega)]
      rfl
theorem numsP_bytes' : ∀ (n : Nat) {bs r xs : List Int}, AllBytes bs → numsP n bs = some (xs, r) → AllBytes r ∧ r.length ≤ bs.length := by
  intro n
  induction n with
  | zero =>
    intro bs r xs hb h
    rw [numsP] at h
    injection h with h
    injection h with _ h
    subst h
    exact ⟨hb, Nat.le_refl _⟩
  | succ n ih =>
    intro bs r xs hb h
    rw [numsP] at h
    cases hn : numP bs with
    | none => rw [hn] at h; cases h
    | some p =>
      rw [hn, Option.bind_some] at h
      cases h2 : numsP n p.2 with
      | none => rw [h2] at h; cases h
      | some q =>
        rw [h2, Option.map_some] at h
        injection h with h
        injection h with _ h
        obtain ⟨b1, b2, _⟩ := numsP_bytes (k := p.1) (r := p.2) hb hn
        obtain ⟨c1, c2⟩ := ih (xs := q.1) (r := q.2) b1 h2
        rw [← h]
        exact ⟨c1, by omega⟩
theorem callP_bytes {bs r : List Int} {c : Cl4} (hb : AllBytes bs) (h : callP bs = some (c, r)) : AllBytes r ∧ r.length ≤ bs.length := by
  unfold callP at h
  cases h1 : betP 1 7 bs with
  | none => rw [h1] at h; cases h
  | some p =>
    rw [h1, Option.bind_some] at h
    cases h2 : numsP (takesOf p.1).toNat p.2 with
    | none => rw [h2] at h; cases h
    | some q =>
      rw [h2, Option.map_some] at h
      injection h with h
      injection h with _ h
      obtain ⟨b1, b2, _⟩ := numsP_bytes (k := p.1) (r := p.2) hb (betP_back (k := p.1) (r := p.2) h1).1
      obtain ⟨d1, d2⟩ := numsP_bytes' _ (xs := q.1) (r := q.2) b1 h2
      rw [← h]
      exact ⟨d1, by omega⟩
theorem RdAt.beneath {H h : Nat} {A B : World} {Br : Nat} {c0 c1 c2 c3 c4 : Value} {bs : List Int} (r : RdAt H Br c0 c1 c2 c3 c4 bs A) (p : Below h A B) (hB : Br < h) (hH : H ≤ h) : RdAt H Br c0 c1 c2 c3 c4 bs B := by
  obtain ⟨a, n, cap, r1, r2, r3⟩ := r
  refine ⟨a, n, cap, r1.below p hB, ?_, r3⟩
  obtain ⟨h0, a', cap', e, h1, h2, h3, h4⟩ := r2
  cases e
  refine ⟨h0, _, _, rfl, h1, h2, h3, fun j hj => ?_⟩
  obtain ⟨b, off, e2, hb, hc⟩ := h4 j hj
  have hbH := (r3 b off e2).2
  exact ⟨b, off, e2, Nat.lt_of_lt_of_le hb p.size, (World.cell?_of_block (w := A) (p.block b (by omega))).trans hc⟩
theorem owns_but {n₀ h x k n : Nat} {t : TypeId} {A B : World} {v : Value} {cs : List Value} (o : A.ownsRow n₀ t k v n cs) (p : But h x A B) (hA : A.heap.size ≤ h) (hx : x < n₀) : B.ownsRow n₀ t k v n cs :=
  ⟨o.1, o.2.imp id fun ⟨g, cap, cur, e, hg, hh, hr⟩ => ⟨g, cap, cur, e, hg, (p.block g (Nat.lt_of_lt_of_le (Array.getElem?_eq_some_iff.1 hh).1 hA) (by omega)).trans hh, hr⟩⟩
/-- The next list, of no more than room calls. -/
noncomputable def listP (room : Nat) (bs : List Int) : Option (List Cl4 × List Int) := (betP 0 room bs).bind fun p => callsP p.1 p.2
set_option maxRecDepth 100000 in
set_option maxHeartbeats 2000000 in
theorem Try.list_any (H Br room : Nat) (hroom : room ≤ 10000) (c0 c1 c2 c3 c4 : Value) (bs : List Int) (hl : bs.length ≤ 1000000) (hbs : AllBytes bs) (w : World) (hH : H ≤ w.heap.size) (hR : RdAt H Br c0 c1 c2 c3 c4 bs w) :
    Calls Try.prog 73 #[.pointer (some ⟨Br, 0, none⟩), .int .i64 (room : Int)] w fun e w' => But w.heap.size Br w w' ∧
      ((∃ cs r v, listP room bs = some (cs, r) ∧ e = .returned v ∧ OwnsCalls w.heap.size cs v w' ∧ RdAt H Br c0 c1 c2 c3 c4 r w') ∨ (listP room bs = none ∧ e = .panicked errB)) := by
  obtain ⟨i0, hi, hz0, hz1, hz2⟩ := info_parts Try.infoCall
  have hBrl : Br < w.heap.size := by
    obtain ⟨_, _, _, r1, _⟩ := hR
    exact r1.lt
  have HC := Lib.hid (Try.between_any 0 room H Br (by decide) hroom c0 c1 c2 c3 c4 bs hl hbs w hR)
  clear hR
  go_enter Try.func73, Try.ntmps73
  go_wp2_with fail
  refine HC.out.mono ?_
  rintro e w2 ⟨hB2, (⟨n, r, ho, rfl, hR2⟩ | ⟨ho, rfl⟩)⟩
  · obtain ⟨b1, b2, _⟩ := numsP_bytes hbs (betP_back ho).1
    have hn := (betP_back ho).2.2
    have hlp : Hid (listP room bs = callsP n r) := Lib.hid (by unfold listP; rw [ho, Option.bind_some])
    have HB2 := Lib.hid hB2
    have HR2 := Lib.hid hR2
    have HBB := Lib.hid b1
    have h00 : Hid (callsP 0 r = some ([], r)) := Lib.hid rfl
    clear ho hB2 hR2 b1 hbs
    dsimp only
    go_wp2_with fail
    go_loopw [5, 9] (fun s j wr => ∃ (k : Nat) (pre : List Cl4) (q : List Int), k ≤ n ∧ j = .int .i64 k ∧ Hid (callsP k r = some (pre, q)) ∧ pre.length = k ∧ AllBytes q ∧ q.length ≤ 1000000 ∧ OwnsCalls w.heap.size pre s wr ∧ RdAt H Br c0 c1 c2 c3 c4 q wr ∧ But w.heap.size Br w wr) (fun _ j _ => n - (intOf j).toNat)
    case atStart => exact ⟨0, [], r, Nat.zero_le _, rfl, h00, rfl, HBB.out, by omega, World.ownsRow_nil _ _ _ _, HR2.out, HB2.out⟩
    case round =>
      obtain ⟨k, pre, q, hk, rfl, hE, hpl, hbq, hql, hO, hRq, hBq⟩ := hrel
      by_cases hlt : k < n
      · have hki : (k : Int) < (n : Int) := by omega
        have hzq := hBq.size
        have HCC := Lib.hid (Try.call_any H Br c0 c1 c2 c3 c4 q hql hbq wr (by omega) hRq)
        have HO := Lib.hid hO
        have HBq := Lib.hid hBq
        have HQ := Lib.hid hbq
        have HPL := Lib.hid hpl
        clear hO hRq hBq hbq hpl
        go_wp2_with fail
        refine HCC.out.mono ?_
        rintro e w3 ⟨hB3, (⟨c, q2, ho, rfl, hR3⟩ | ⟨ho, rfl⟩)⟩
        · obtain ⟨d1, d2⟩ := callP_bytes HQ.out ho
          have hE2 : Hid (callsP (k + 1) r = some (pre ++ [c], q2)) := Lib.hid (by rw [callsP_snoc, hE.out, Option.bind_some, ho]; rfl)
          have hO3 := owns_but HO.out hB3 (Nat.le_refl _) hBrl
          have hz3 := hB3.size
          have HB3 := Lib.hid (HBq.out.trans ⟨hB3.os, hB3.tape, hB3.output, hB3.size, fun i hi2 hx => hB3.block i (by omega) hx⟩)
          have HO3 := Lib.hid hO3
          have HR3 := Lib.hid hR3
          have HD1 := Lib.hid d1
          have hpl2 : pre.length ≤ 10000 := by have := HPL.out; omega
          obtain ⟨op, key, x, y⟩ := c
          clear ho hB3 hO3 hR3 d1
          dsimp only
          go_wp2_with (at_builtin; refine wpList_append_own _ rfl _ _ 53 rfl w.heap.size 55 i0 (.agg #[.int .i64 0, .int .u64 0, .int .u64 0, .int .u64 0]) 4 32 Try.underlying53 hi hz0 hz1 hz2 rfl (by decide) _ _ _ rfl (World.ownsRow.alloc HO3.out _) ⟨w3.heap.size, 0, none⟩ 1 1 [.int .i64 op, .int .u64 key, .int .u64 x, .int .u64 y] rfl rfl (cells_new w3 _ [.int .i64 op, .int .u64 key, .int .u64 x, .int .u64 y]) (by simp [Value.oneCell']) (by unfold maxLen; omega) (by omega) (by simp; omega) ?_)
          intro v4 w4 hown4 hg4 _
          have hoa := World.ownsRow.alloc HO3.out (.cells #[.int .i64 op, .int .u64 key, .int .u64 x, .int .u64 y] 55)
          have hb4 := ((Below.refl w.heap.size w3).alloc (by omega) (.cells #[.int .i64 op, .int .u64 key, .int .u64 x, .int .u64 y] 55)).grown hg4 (by simp; omega) (fun j ej => (World.ownsRow.lt hoa j ej).1)
          have hO4 : OwnsCalls w.heap.size (pre ++ [⟨op, key, x, y⟩]) v4 w4 := by
            unfold OwnsCalls
            have e1 : callVals (pre ++ [⟨op, key, x, y⟩]) = callVals pre ++ [.int .i64 op, .int .u64 key, .int .u64 x, .int .u64 y] := by simp [callVals, Cl4.cells]
            rw [e1, List.length_append]
            exact hown4
          have HO4 := Lib.hid hO4
          have HB4 := Lib.hid hb4
          clear hown4 hg4 hoa hO4 hb4
          go_wp2_with fail
          exact ⟨⟨k + 1, _, q2, by omega, by go_num, hE2, by rw [List.length_append, HPL.out]; rfl, HD1.out, by omega, HO4.out, HR3.out.beneath HB4.out hBrl hH, HB3.out.trans (But.of_below HB4.out)⟩, by simp [intOf]; omega⟩
        · have hno : Hid (listP room bs = none) := Lib.hid (by rw [hlp.out]; exact callsP_none (n := k + 1) (by rw [callsP_snoc, hE.out, Option.bind_some, ho]; rfl) hlt)
          have HB3 := Lib.hid (HBq.out.trans ⟨hB3.os, hB3.tape, hB3.output, hB3.size, fun i hi2 hx => hB3.block i (by omega) hx⟩)
          clear ho hB3
          dsimp only
          go_wp2_with fail
          exact ⟨rfl, HB3.out, .inr ⟨hno.out, rfl⟩⟩
      · obtain rfl : k = n := by omega
        have HO := Lib.hid hO
        have HRq := Lib.hid hRq
        have HBq := Lib.hid hBq
        clear hO hRq hBq
        go_wp2_with fail
        go_ret
        exact ⟨HBq.out, .inl ⟨pre, q, _, by rw [hlp.out, hE.out], rfl, HO.out, HRq.out⟩⟩
  · have hno : Hid (listP room bs = none) := Lib.hid (by unfold listP; rw [ho]; rfl)
    have HB2 := Lib.hid hB2
    clear ho hB2
    dsimp only
    go_wp2_with fail
    exact ⟨rfl, HB2.out, .inr ⟨hno.out, rfl⟩⟩
end Go.Proofs

/- Script: the parser as a function, and that it reads what Encode writes: plain mathematics. -/
namespace Go.Proofs
open Go.RowKit Go.Shelf

/-- So many lists, of no more than room calls together. -/
noncomputable def listsP : Nat → Nat → List Int → Option (List (List Cl4) × List Int)
  | 0, _, bs => some ([], bs)
  | g + 1, room, bs => (listP room bs).bind fun p => (listsP g (room - p.1.length) p.2).map fun q => (p.1 :: q.1, q.2)
/-- The script with whose bytes these begin. -/
noncomputable def decP (bs : List Int) : Option (Scr × List Int) :=
  (betP 1 8 bs).bind fun g => (betP 2 128 g.2).bind fun b => (numP b.2).bind fun sd => (listsP g.1 64 sd.2).bind fun ls => (betP 0 4096 ls.2).bind fun n => (numsP n.1 n.2).map fun ps => (⟨g.1, b.1, sd.1, ls.1, ps.1⟩, ps.2)

theorem bytesOf_nat (k : Nat) (t : List Int) : bytesOf ((k : Int) :: t) = numB k ++ bytesOf t := rfl
theorem betP_app {lo hi k : Nat} (hk : k < 2 ^ 64) (h : lo ≤ k ∧ k ≤ hi) (r : List Int) : betP lo hi (numB k ++ r) = some (k, r) := by
  rw [betP_some (numP_app hk r), if_pos h]
theorem w64_nat {z : Int} (h : W64 z) : ∃ k : Nat, z = k ∧ k < 2 ^ 64 := ⟨z.toNat, by have := h.1; omega, by have := h.1; have := h.2; omega⟩
theorem numsP_app : ∀ (ws : List Int), (∀ z ∈ ws, W64 z) → ∀ r, numsP ws.length (bytesOf ws ++ r) = some (ws, r) := by
  intro ws
  induction ws with
  | nil => intro _ r; rfl
  | cons z t ih =>
    intro h r
    obtain ⟨k, rfl, hk⟩ := w64_nat (h z List.mem_cons_self)
    have hi := ih (fun y hy => h y (List.mem_cons_of_mem _ hy)) r
    rw [bytesOf_nat, List.append_assoc, List.length_cons, numsP, numP_app hk, Option.bind_some, hi]
    rfl
theorem callP_app {c : Cl4} (h : isCallB c = true) (hw : c.wf) (r : List Int) : callP (bytesOf (callNums c) ++ r) = some (c, r) := by
  obtain ⟨t, ht, ht3, h1, h7⟩ := isCallB_takes h
  obtain ⟨op, key, x, y⟩ := c
  dsimp only at ht h1 h7
  obtain ⟨w1, w2, w3⟩ := hw
  dsimp only at w1 w2 w3
  obtain ⟨o, rfl⟩ : ∃ o : Nat, op = o := ⟨op.toNat, by omega⟩
  rw [callNums_eq ht]
  have hz := h
  unfold isCallB at hz
  rw [Bool.and_eq_true, ht] at hz
  have hz2 := of_decide_eq_true hz.2
  dsimp only at hz2 ⊢
  rw [bytesOf_nat, List.append_assoc]
  unfold callP
  rw [betP_app (by omega) (by omega), Option.bind_some]
  dsimp only
  rw [ht]
  have hn := numsP_app ([key, x, y].take t) (fun z hz => by
    have := List.mem_of_mem_take hz
    simp at this
    rcases this with rfl | rfl | rfl <;> assumption) r
  have hlen : ([key, x, y].take t).length = t := by rw [List.length_take]; simp; omega
  rw [hlen] at hn
  rw [show ((t : Nat) : Int).toNat = t from rfl, hn, Option.map_some]
  simp only [Int.toNat_natCast] at hz2
  match t, ht3 with
  | 0, _ =>
    have a1 := hz2 key (by simp)
    have a2 := hz2 x (by simp)
    have a3 := hz2 y (by simp)
    subst a1 a2 a3
    rfl
  | 1, _ =>
    have a2 := hz2 x (by simp)
    have a3 := hz2 y (by simp)
    subst a2 a3
    rfl
  | 2, _ =>
    have a3 := hz2 y (by simp)
    subst a3
    rfl
  | 3, _ => rfl
theorem callsP_app : ∀ (l : List Cl4), l.all isCallB = true → (∀ c ∈ l, c.wf) → ∀ r, callsP l.length (bytesOf (l.flatMap callNums) ++ r) = some (l, r) := by
  intro l
  induction l with
  | nil => intro _ _ r; rfl
  | cons c t ih =>
    intro h hw r
    rw [List.all_cons, Bool.and_eq_true] at h
    have hi := ih h.2 (fun y hy => hw y (List.mem_cons_of_mem _ hy)) r
    rw [List.flatMap_cons, bytesOf_append, List.append_assoc, List.length_cons, callsP, callP_app h.1 (hw c List.mem_cons_self), Option.bind_some, hi]
    rfl
theorem listP_app {l : List Cl4} {room : Nat} (hr : l.length ≤ room) (hl : room ≤ 10000) (h : l.all isCallB = true) (hw : ∀ c ∈ l, c.wf) (r : List Int) : listP room (bytesOf (listNums l) ++ r) = some (l, r) := by
  unfold listP listNums
  rw [bytesOf_nat, List.append_assoc, betP_app (by omega) (by omega), Option.bind_some]
  exact callsP_app l h hw r
theorem listsP_app : ∀ (ls : List (List Cl4)) (room : Nat), countC ls ≤ room → room ≤ 10000 → (∀ l ∈ ls, l.all isCallB = true) → (∀ l ∈ ls, ∀ c ∈ l, c.wf) → ∀ r, listsP ls.length room (bytesOf (ls.flatMap listNums) ++ r) = some (ls, r) := by
  intro ls
  induction ls with
  | nil => intro room _ _ _ _ r; rfl
  | cons l t ih =>
    intro room hc hr h hw r
    have e : countC (l :: t) = l.length + countC t := rfl
    rw [e] at hc
    have hi := ih (room - l.length) (by omega) (by omega) (fun y hy => h y (List.mem_cons_of_mem _ hy)) (fun y hy => hw y (List.mem_cons_of_mem _ hy)) r
    rw [List.flatMap_cons, bytesOf_append, List.append_assoc, List.length_cons, listsP, listP_app (by omega) hr (h l List.mem_cons_self) (hw l List.mem_cons_self), Option.bind_some]
    dsimp only
    rw [hi]
    rfl
/-- Decode of Encode. -/
theorem decP_app {s : Scr} (hm : mayBeB s = true) (hw : s.wf) (r : List Int) : decP (bytesOf (scrNums s) ++ r) = some (s, r) := by
  obtain ⟨g1, g2, g3, g4, g5⟩ := mayBe_parts hm
  rw [mayBeB_eq, Bool.and_eq_true, Bool.and_eq_true] at hm
  have hc := of_decide_eq_true hm.2.2
  have hm1 := of_decide_eq_true hm.1
  obtain ⟨_, _, w3, w4, w5⟩ := hw
  obtain ⟨g, b, sd, ls, ps⟩ := s
  dsimp only at *
  obtain ⟨k, rfl, hk⟩ := w64_nat w3
  obtain ⟨gn, rfl⟩ : ∃ n : Nat, g = n := ⟨g.toNat, by omega⟩
  obtain ⟨bn, rfl⟩ : ∃ n : Nat, b = n := ⟨b.toNat, by omega⟩
  have hgl : gn = ls.length := by omega
  rw [scrNums_eq]
  dsimp only
  rw [List.append_assoc, bytesOf_append, bytesOf_append, bytesOf_nat, bytesOf_nat, bytesOf_nat, bytesOf_nat]
  have e0 : bytesOf [] = [] := rfl
  rw [e0, List.append_nil]
  simp only [List.append_assoc]
  unfold decP
  rw [betP_app (by omega) (by omega), Option.bind_some]
  dsimp only
  rw [betP_app (by omega) (by omega), Option.bind_some]
  dsimp only
  rw [numP_app hk, Option.bind_some]
  dsimp only
  rw [hgl, listsP_app ls 64 (by omega) (by decide) g5 w4, Option.bind_some]
  dsimp only
  rw [betP_app (by omega) (by omega), Option.bind_some]
  dsimp only
  rw [numsP_app ps w5]
  rfl
end Go.Proofs

/- Script: what the parser reads is what Encode writes: plain mathematics. -/
namespace Go.Proofs
open Go.RowKit Go.Shelf

theorem betP_form {lo hi k : Nat} {bs r : List Int} (h : betP lo hi bs = some (k, r)) : (lo ≤ k ∧ k ≤ hi) ∧ k < 2 ^ 64 ∧ bs = numB k ++ r := by
  obtain ⟨h1, h2⟩ := betP_back h
  obtain ⟨h3, h4⟩ := numP_back h1
  exact ⟨h2, h3, h4⟩
theorem nat_w64 {k : Nat} (h : k < 2 ^ 64) : W64 (k : Int) := ⟨by omega, by omega⟩
theorem numsP_back : ∀ (n : Nat) {bs r ws : List Int}, numsP n bs = some (ws, r) → ws.length = n ∧ (∀ z ∈ ws, W64 z) ∧ bs = bytesOf ws ++ r := by
  intro n
  induction n with
  | zero =>
    intro bs r ws h
    rw [numsP] at h
    injection h with h
    injection h with h1 h2
    subst h1 h2
    exact ⟨rfl, (fun z hz => by simp at hz), rfl⟩
  | succ n ih =>
    intro bs r ws h
    rw [numsP] at h
    obtain ⟨p, hp, h⟩ := Option.bind_eq_some_iff.1 h
    obtain ⟨q, hq, h⟩ := Option.map_eq_some_iff.1 h
    injection h with h1 h2
    obtain ⟨k, e⟩ := numP_back (k := p.1) (r := p.2) hp
    obtain ⟨i1, i2, i3⟩ := ih (ws := q.1) (r := q.2) hq
    subst h1 h2
    refine ⟨by rw [List.length_cons, i1], fun z hz => ?_, ?_⟩
    · rcases List.mem_cons.1 hz with rfl | hz
      · exact nat_w64 k
      · exact i2 z hz
    · rw [e, i3, bytesOf_nat, List.append_assoc]
theorem callP_back {bs r : List Int} {c : Cl4} (h : callP bs = some (c, r)) : isCallB c = true ∧ c.wf ∧ bs = bytesOf (callNums c) ++ r := by
  unfold callP at h
  obtain ⟨p, hp, h⟩ := Option.bind_eq_some_iff.1 h
  obtain ⟨q, hq, h⟩ := Option.map_eq_some_iff.1 h
  injection h with h1 h2
  obtain ⟨b1, b2, b3⟩ := betP_form (k := p.1) (r := p.2) hp
  obtain ⟨i1, i2, i3⟩ := numsP_back _ (ws := q.1) (r := q.2) hq
  obtain ⟨op, r1⟩ := p
  obtain ⟨ws, r2⟩ := q
  dsimp only at *
  subst h1 h2
  have ht : ∃ t : Nat, takesOf (op : Int) = t ∧ t ≤ 3 := by
    rcases takesOf_ways op with e | e | e | e | e
    · exfalso
      unfold takesOf at e
      split at e <;> first | omega | (split at e <;> first | omega | (split at e <;> first | omega | (split at e <;> omega)))
    · exact ⟨0, e, by omega⟩
    · exact ⟨1, e, by omega⟩
    · exact ⟨2, e, by omega⟩
    · exact ⟨3, e, by omega⟩
  obtain ⟨t, ht, ht3⟩ := ht
  rw [ht, show ((t : Nat) : Int).toNat = t from rfl] at i1
  have z0 : W64 0 := ⟨by omega, by omega⟩
  have key : isCallB (mkCall op ws) = true ∧ (mkCall op ws).wf ∧ callNums (mkCall op ws) = (op : Int) :: ws := by
    have hcn := callNums_eq (c := mkCall op ws) (t := t) ht
    rw [hcn]
    unfold isCallB mkCall
    dsimp only
    rw [ht]
    match t, ht3, ws, i1, i2 with
    | 0, _, [], _, _ => exact ⟨by simp, ⟨z0, z0, z0⟩, rfl⟩
    | 1, _, [a], _, hw => exact ⟨by simp, ⟨hw a (by simp), z0, z0⟩, rfl⟩
    | 2, _, [a, b], _, hw => exact ⟨by simp, ⟨hw a (by simp), hw b (by simp), z0⟩, rfl⟩
    | 3, _, [a, b, c], _, hw => exact ⟨by simp, ⟨hw a (by simp), hw b (by simp), hw c (by simp)⟩, rfl⟩
  obtain ⟨k1, k2, k3⟩ := key
  exact ⟨k1, k2, by rw [k3, b3, i3, bytesOf_nat, List.append_assoc]⟩
theorem callsP_back : ∀ (n : Nat) {bs r : List Int} {l : List Cl4}, callsP n bs = some (l, r) → l.length = n ∧ l.all isCallB = true ∧ (∀ c ∈ l, c.wf) ∧ bs = bytesOf (l.flatMap callNums) ++ r := by
  intro n
  induction n with
  | zero =>
    intro bs r l h
    rw [callsP] at h
    injection h with h
    injection h with h1 h2
    subst h1 h2
    exact ⟨rfl, rfl, (fun z hz => by simp at hz), rfl⟩
  | succ n ih =>
    intro bs r l h
    rw [callsP] at h
    obtain ⟨p, hp, h⟩ := Option.bind_eq_some_iff.1 h
    obtain ⟨q, hq, h⟩ := Option.map_eq_some_iff.1 h
    injection h with h1 h2
    obtain ⟨c1, c2, c3⟩ := callP_back (c := p.1) (r := p.2) hp
    obtain ⟨i1, i2, i3, i4⟩ := ih (l := q.1) (r := q.2) hq
    subst h1 h2
    refine ⟨by rw [List.length_cons, i1], by rw [List.all_cons, c1, i2]; rfl, fun z hz => ?_, ?_⟩
    · rcases List.mem_cons.1 hz with rfl | hz
      · exact c2
      · exact i3 z hz
    · rw [c3, i4, List.flatMap_cons, bytesOf_append, List.append_assoc]
theorem listP_back {room : Nat} {bs r : List Int} {l : List Cl4} (h : listP room bs = some (l, r)) : l.length ≤ room ∧ l.all isCallB = true ∧ (∀ c ∈ l, c.wf) ∧ bs = bytesOf (listNums l) ++ r := by
  unfold listP at h
  obtain ⟨p, hp, h⟩ := Option.bind_eq_some_iff.1 h
  obtain ⟨b1, _, b3⟩ := betP_form (k := p.1) (r := p.2) hp
  obtain ⟨i1, i2, i3, i4⟩ := callsP_back _ h
  exact ⟨by omega, i2, i3, by rw [b3, i4, listNums, bytesOf_nat, List.append_assoc, i1]⟩
theorem listsP_back : ∀ (g room : Nat) {bs r : List Int} {ls : List (List Cl4)}, listsP g room bs = some (ls, r) → ls.length = g ∧ countC ls ≤ room ∧ (∀ l ∈ ls, l.all isCallB = true) ∧ (∀ l ∈ ls, ∀ c ∈ l, c.wf) ∧ bs = bytesOf (ls.flatMap listNums) ++ r := by
  intro g
  induction g with
  | zero =>
    intro room bs r ls h
    rw [listsP] at h
    injection h with h
    injection h with h1 h2
    subst h1 h2
    exact ⟨rfl, Nat.zero_le _, (fun z hz => by simp at hz), (fun z hz => by simp at hz), rfl⟩
  | succ g ih =>
    intro room bs r ls h
    rw [listsP] at h
    obtain ⟨p, hp, h⟩ := Option.bind_eq_some_iff.1 h
    obtain ⟨q, hq, h⟩ := Option.map_eq_some_iff.1 h
    injection h with h1 h2
    obtain ⟨c1, c2, c3, c4⟩ := listP_back (l := p.1) (r := p.2) hp
    obtain ⟨i1, i2, i3, i4, i5⟩ := ih _ (ls := q.1) (r := q.2) hq
    subst h1 h2
    have e : countC (p.1 :: q.1) = p.1.length + countC q.1 := rfl
    refine ⟨by rw [List.length_cons, i1], by omega, fun z hz => ?_, fun z hz => ?_, ?_⟩
    · rcases List.mem_cons.1 hz with rfl | hz
      · exact c2
      · exact i3 z hz
    · rcases List.mem_cons.1 hz with rfl | hz
      · exact c3
      · exact i4 z hz
    · rw [c4, i5, List.flatMap_cons, bytesOf_append, List.append_assoc]
/-- Encode of Decode. -/
theorem decP_back {bs r : List Int} {s : Scr} (h : decP bs = some (s, r)) : mayBeB s = true ∧ W64 s.seed ∧ (∀ l ∈ s.lists, ∀ c ∈ l, c.wf) ∧ (∀ p ∈ s.picks, W64 p) ∧ bs = bytesOf (scrNums s) ++ r := by
  unfold decP at h
  obtain ⟨g, hg, h⟩ := Option.bind_eq_some_iff.1 h
  obtain ⟨b, hb, h⟩ := Option.bind_eq_some_iff.1 h
  obtain ⟨sd, hsd, h⟩ := Option.bind_eq_some_iff.1 h
  obtain ⟨ls, hls, h⟩ := Option.bind_eq_some_iff.1 h
  obtain ⟨n, hn, h⟩ := Option.bind_eq_some_iff.1 h
  obtain ⟨ps, hps, h⟩ := Option.map_eq_some_iff.1 h
  injection h with h1 h2
  obtain ⟨g1, _, g3⟩ := betP_form (k := g.1) (r := g.2) hg
  obtain ⟨b1, _, b3⟩ := betP_form (k := b.1) (r := b.2) hb
  obtain ⟨s1, s2⟩ := numP_back (k := sd.1) (r := sd.2) hsd
  obtain ⟨l1, l2, l3, l4, l5⟩ := listsP_back _ _ (ls := ls.1) (r := ls.2) hls
  obtain ⟨n1, _, n3⟩ := betP_form (k := n.1) (r := n.2) hn
  obtain ⟨p1, p2, p3⟩ := numsP_back _ (ws := ps.1) (r := ps.2) hps
  subst h1 h2
  refine ⟨?_, nat_w64 s1, l4, p2, ?_⟩
  · rw [mayBeB_eq, Bool.and_eq_true, Bool.and_eq_true]
    exact ⟨decide_eq_true ⟨by show (1 : Int) ≤ (g.1 : Int); omega, by show (g.1 : Int) ≤ 8; omega, by show (2 : Int) ≤ (b.1 : Int); omega, by show (b.1 : Int) ≤ 128; omega, by show (ls.1.length : Int) = (g.1 : Int); omega, by show (ps.1.length : Int) ≤ 4096; omega⟩, List.all_eq_true.2 l3, decide_eq_true (by show (countC ls.1 : Int) ≤ 64; omega)⟩
  · rw [scrNums_eq]
    dsimp only
    rw [bytesOf_append, bytesOf_append, bytesOf_nat, bytesOf_nat, bytesOf_nat, bytesOf_nat]
    have e0 : bytesOf [] = [] := rfl
    rw [e0, List.append_nil, g3, b3, s2, l5, n3, p3, p1]
    simp only [List.append_assoc]
end Go.Proofs
