/- Monitor: who holds an entry, collected; what is safe. -/
import Derived.Test.YtkghlcoancfnfaaBi
namespace Go.Proofs
open Go.RowKit Go.Shelf
attribute [local go_sem] Oper.semAt_some

theorem rowAt_kt {v : Value} {n k : Nat} {cs : List Value} {t1 t2 : TypeId} {A B : World} (s : RowAt A v n k cs) (p : Kt A.heap.size t1 t2 A B) : RowAt B v n k cs := by
  obtain ⟨h0, a, cap, h1, h2, h3, h4, h5⟩ := s
  refine ⟨h0, a, cap, h1, h2, h3, h4, fun j hj => ?_⟩
  obtain ⟨b, off, e, hb, hc⟩ := h5 j hj
  rw [List.getElem?_eq_getElem hj] at hc
  exact ⟨b, off, e, Nat.lt_of_lt_of_le hb p.size, by rw [List.getElem?_eq_getElem hj]; exact p.cell (a := ⟨b, off + j, none⟩) hb hc⟩
theorem MonAt.kt {x : Mv} {m : Mn} {t1 t2 : TypeId} {A B : World} (s : MonAt A x m) (p : Kt A.heap.size t1 t2 A B) : MonAt B x m :=
  ⟨rowAt_kt s.s p, rowAt_kt s.p p, by
    obtain ⟨vs, h1, h2⟩ := s.h
    exact ⟨vs, rowAt_kt h1 p, fun i hi => by obtain ⟨a, c, e, h3⟩ := h2 i hi; exact ⟨a, c, e, rowAt_kt h3 p⟩⟩, rowAt_kt s.b p, s.w, s.z⟩
theorem SrcM.kt {Bv Be : Nat} {x : Mv} {m : Mn} {e : Pr} {t1 t2 : TypeId} {A B : World} (s : SrcM Bv Be x m e A) (p : Kt A.heap.size t1 t2 A B) : SrcM Bv Be x m e B :=
  ⟨p.same _ _ _ _ s.1 (.inl s.1.lt), p.same _ _ _ _ s.2.1 (.inl s.2.1.lt), s.2.2.kt p⟩
set_option maxRecDepth 100000 in
set_option maxHeartbeats 4000000 in
theorem Try.appendHold_any (Bv Bt : Nat) (x : Mv) (m : Mn) (e : Pr) (w : World) (h0 : SrcM Bv Bt x m e w) :
    Calls Try.prog 68 #[.slice none 0 0, .func (.func 69) #[] #[.pointer (some ⟨Bv, 0, none⟩), .pointer (some ⟨Bt, 0, none⟩)]] w (IntsQ (holders m.has e) w) := by
  obtain ⟨i0, hi, hz0, hz1, hz2⟩ := info_parts Try.infoInt
  refine (callsIn_wide (n := 9)).1 ?_
  refine callsIn_of_wp_marks Try.func68 rfl trivial ?_ rfl
  simp only [Try.ntmps68, List.size_toArray, List.length_cons, List.length_nil, Nat.reduceAdd, Nat.reduceSub, Array.replicate_succ, Array.replicate_zero, List.push_toArray, List.append_toArray, List.nil_append, List.cons_append]
  have HS := Lib.hid h0
  have hel : (holders m.has e).length ≤ 10000 := Nat.le_trans (holdF_le e m.has 0) (by have := h0.2.2.z.2.2.1; omega)
  clear h0
  gi_wp2_with fail
  have hBc : Below w.heap.size w (w.alloc (.cells #[.slice none 0 0] 41)) := (Below.refl _ w).alloc (Nat.le_refl _) _
  have br := Rows8.new w 41 #[.slice none 0 0]
  have hz : (w.alloc (.cells #[.slice none 0 0] 41)).heap.size = w.heap.size + 1 := by simp
  generalize w.alloc (.cells #[.slice none 0 0] 41) = W0 at *
  have hk0 : Kt w.heap.size 41 3 w W0 := .of_below hBc
  have HTL := Lib.hid (tellsE_of (Try.holders1_tells 8 (by decide) (Kt w.heap.size 41 3) Bv Bt x m e W0 (fun A => Kt w.heap.size 41 3 w A) hk0 (fun A hA => HS.out.kt hA) (fun A B hA hB => hA.trans (.of_below hB)) (fun A B p hA => hA.trans p)))
  refine range_tellsE rfl (by decide) (gf := 69) (lb := #[.pointer (some ⟨Bv, 0, none⟩), .pointer (some ⟨Bt, 0, none⟩)]) rfl trivial (fun _ _ => by kernel_rfl) HTL.out kt_t (kt_b (B := W0.heap.size)) (Below.refl _ _) (fun _ => rfl)
    (fun pre W' => (∃ u, Boxed W' w.heap.size 41 u ∧ W'.ownsRow w.heap.size 3 1 u pre.length (intVals pre) ∧ True) ∧ Below w.heap.size w W')
    (OwnFrom.and (Own.from (holdsRow_own w.heap.size w.heap.size 41 3 1 (fun pre => pre.length) (fun pre => intVals pre) (fun _ _ => True)) _) (ownFrom_below (Nat.le_refl _) (by omega)))
    ?abide
    ⟨⟨_, br, World.ownsRow_nil _ _ _ _, trivial⟩, hBc⟩
    (fun y a' W' => a' = { tmps := #[.slice none 0 0, .func (.func 69) #[] #[.pointer (some ⟨Bv, 0, none⟩), .pointer (some ⟨Bt, 0, none⟩)], .pointer (some ⟨w.heap.size, 0, none⟩), undef, .slice none 0 0, .int .i64 y, .func (.func 69) #[] #[.pointer (some ⟨Bv, 0, none⟩), .pointer (some ⟨Bt, 0, none⟩)], .int .i64 y, undef, undef, undef, undef, undef], defers := [] })
    (fun y a' s X Y row e hg hr => e) ?assign ?body ?done
  case abide =>
    rintro s X Y ⟨⟨u, hu, hr, _⟩, hB⟩ hXY
    exact ⟨⟨u, Rows8.below hu hXY hu.lt, owns_keep hr hXY (Nat.le_refl _), trivial⟩, hB.trans (hXY.mono hB.size)⟩
  case assign =>
    rintro l2 pre y W' K ⟨⟨u, hu, hr, _⟩, hB⟩ hK
    unfold encI
    gi_wp2_with fail
    exact hK _ _ (keepsFrom_below (Below.refl _ _)) (.of_below (Below.refl _ _)) ⟨⟨u, hu, hr, trivial⟩, hB⟩ rfl
  case body =>
    rintro l2 pre y a' W' ⟨⟨u, hu, hr, _⟩, hB⟩ rfl hok
    have hpl : pre.length + 1 ≤ 10000 := by
      have h1 := hok.length_le
      rw [List.length_append] at h1
      exact Nat.le_trans h1 hel
    have HU := Lib.hid hu
    have HRR := Lib.hid hr
    have HB := Lib.hid hB
    have hc0 : W'.cell? ⟨w.heap.size, 0, none⟩ = some u := hu.cell
    have hf0 := hu.frozen
    have hlt := hu.lt
    have hzb := hB.size
    obtain ⟨au, cu, rfl⟩ : ∃ au cu, u = .slice au pre.length cu := by
      obtain ⟨_, a, cap, h, _⟩ := rowAt_own hr
      exact ⟨a, cap, h⟩
    clear hu hr hB hok
    gi_wp2_with (gi_at_builtin; refine wpListIn_append_own _ rfl _ _ 41 rfl w.heap.size 3 i0 (.int .i64 0) 1 8 Try.underlying41 hi hz0 hz1 hz2 rfl (by decide) _ _ _ rfl (HRR.out.alloc _) ⟨W'.heap.size, 0, none⟩ 1 1 [.int .i64 y] rfl rfl (cells_new W' _ [.int .i64 y]) (by simp [Value.oneCell']) (by unfold maxLen; omega) (by omega) (by simp; omega) ?_; intro v' w3 hown' hgrow _; obtain ⟨g', cap', rfl⟩ := ownsRow_succ hown'; obtain ⟨hv1, hv2, hr2, hk2, hb2⟩ := HU.out.appended (by decide) HRR.out hzb (Nat.le_refl _) hown' hgrow; have ht2 : Kt w.heap.size 41 3 W' _ := ((Kt.alloc W' _).grown (Nat.le_refl _) (HRR.out.alloc _) hgrow).set (a := ⟨w.heap.size, 0, none⟩) hv1 (Nat.le_refl _) (.inl rfl) (.slice (some ⟨g', 0, none⟩) (pre.length + 1) cap'); have hc3 := hv1.cell; have hf3 := hv1.frozen; have HT2 := Lib.hid ht2; have HV2 := Lib.hid hv2; have HR2 := Lib.hid hr2; have HK2 := Lib.hid hk2; have HB2 := Lib.hid hb2; clear ht2 hv2 hr2 hk2 hb2)
    exact ⟨HK2.out.from _, HT2.out, ⟨_, HV2.out, by rw [List.length_append, show intVals (pre ++ [y]) = intVals pre ++ [.int .i64 y] by simp [intVals]]; exact HR2.out, trivial⟩, HB.out.trans HB2.out⟩
  case done =>
    rintro D ys W' hD rfl ⟨⟨u, hu, hr, _⟩, hB⟩ hK
    have hr' := ownsRow_putObj hr (.deferred none) hK rfl
    have hc := hu.cell
    have HR' := Lib.hid hr'
    have HB := Lib.hid hB
    clear hr hu hr' hB
    gi_wp2
    refine ⟨by simp, .inl ⟨_, _, rfl, run_takeDeferred hK, ?_⟩⟩
    exact ⟨_, results_tmp rfl _ _ _, u, rfl, HR'.out, HB.out.trans (belowK_b (w := w) (Nat.le_refl _) _ D _ _ (by omega) hK rfl rfl)⟩
set_option maxHeartbeats 1000000 in
theorem Try.collectHold_any (Bv Bt : Nat) (x : Mv) (m : Mn) (e : Pr) (w : World) (h0 : SrcM Bv Bt x m e w) :
    Calls Try.prog 51 #[.func (.func 69) #[] #[.pointer (some ⟨Bv, 0, none⟩), .pointer (some ⟨Bt, 0, none⟩)]] w (IntsQ (holders m.has e) w) := by
  have HC := Lib.hid (Try.appendHold_any Bv Bt x m e w h0)
  clear h0
  go_enter Try.func51, Try.ntmps51
  go_wp2_with fail
  refine HC.out.mono ?_
  rintro r w2 ⟨v, rfl, hO, hB⟩
  have HO := Lib.hid hO
  have HB := Lib.hid hB
  clear hO hB
  go_wp2
  go_ret
  exact ⟨v, rfl, HO.out, HB.out⟩

/-- What tells who holds an entry. -/
def HoldQ (n₀ : Nat) (x : Mv) (m : Mn) (en : Pr) (w : World) (e : Ending) (w' : World) : Prop :=
  ∃ Bv Be, e = .returned (.func (.func 69) #[] #[.pointer (some ⟨Bv, 0, none⟩), .pointer (some ⟨Be, 0, none⟩)]) ∧ n₀ ≤ Bv ∧ n₀ ≤ Be ∧ SrcM Bv Be x m en w' ∧ Below w.heap.size w w'
theorem Try.holders_any (x : Mv) (m : Mn) (e : Pr) (w : World) (hM : MonAt w x m) : Calls Try.prog 52 #[.agg #[.slice x.sa x.sn x.sc, .slice x.pa x.pn x.pc, .slice x.ha x.hn x.hc, .slice x.ba x.bn x.bc], .agg #[.int .i64 e.1, .int .u64 (e.2 : Nat)]] w (HoldQ w.heap.size x m e w) := by
  have hB0 : Below w.heap.size w ((w.alloc (.cells #[.slice x.sa x.sn x.sc, .slice x.pa x.pn x.pc, .slice x.ha x.hn x.hc, .slice x.ba x.bn x.bc] 79)).alloc (.cells #[.int .i64 e.1, .int .u64 (e.2 : Nat)] 38)) := (Rows8.newB).alloc (by simp) _
  have h0 := (Rows8.new w 79 #[.slice x.sa x.sn x.sc, .slice x.pa x.pn x.pc, .slice x.ha x.hn x.hc, .slice x.ba x.bn x.bc]).alloc (.cells #[.int .i64 e.1, .int .u64 (e.2 : Nat)] 38)
  have h1 := Rows8.new (w.alloc (.cells #[.slice x.sa x.sn x.sc, .slice x.pa x.pn x.pc, .slice x.ha x.hn x.hc, .slice x.ba x.bn x.bc] 79)) 38 #[.int .i64 e.1, .int .u64 (e.2 : Nat)]
  rw [World.size_alloc] at h1
  have HS := Lib.hid (show SrcM w.heap.size (w.heap.size + 1) x m e _ from ⟨h0, h1, hM.below hB0⟩)
  have HB := Lib.hid hB0
  have hmf : ∀ (fn : Fn) (first cap : Array Value) (w : World), (Instr.makeFunc fn first cap).run Try.prog w = .ok (.func fn first cap) w := fun _ _ _ _ => rfl
  clear hB0 h0 h1 hM
  obtain ⟨e0, e1⟩ := e
  go_enter Try.func52, Try.ntmps52
  go_wp2_with fail
  go_ret
  exact ⟨_, _, rfl, Nat.le_refl _, Nat.le_succ _, HS.out, HB.out⟩
def holdM (m : Mn) (e : Pr) : List Int := if rightM m then holders m.has e else []
set_option maxRecDepth 100000 in
set_option maxHeartbeats 4000000 in
theorem Try.Holders_any (x : Mv) (m : Mn) (e : Pr) (w : World) (hM : MonAt w x m) :
    Calls Try.prog 19 #[.agg #[.slice x.sa x.sn x.sc, .slice x.pa x.pn x.pc, .slice x.ha x.hn x.hc, .slice x.ba x.bn x.bc], .agg #[.int .i64 e.1, .int .u64 (e.2 : Nat)]] w (IntsQ (holdM m e) w) := by
  obtain ⟨W, hW⟩ : ∃ W, W = ((w.alloc (.cells #[.slice x.sa x.sn x.sc, .slice x.pa x.pn x.pc, .slice x.ha x.hn x.hc, .slice x.ba x.bn x.bc] 29)).alloc (.cells #[.int .i64 e.1, .int .u64 (e.2 : Nat)] 38)).alloc (.cells #[.slice x.sa x.sn x.sc, .slice x.pa x.pn x.pc, .slice x.ha x.hn x.hc, .slice x.ba x.bn x.bc] 79) := ⟨_, rfl⟩
  have hB0 : Below w.heap.size w W := by rw [hW]; exact ((Rows8.newB).alloc (by simp) _).alloc (by simp <;> omega) _
  have r1 : Rows8 W (w.heap.size + 1) 38 #[.int .i64 e.1, .int .u64 (e.2 : Nat)] := by rw [hW]; exact (rows_new2 _ _ _ _).alloc _
  have r2 : Rows8 W (w.heap.size + 1 + 1) 79 #[.slice x.sa x.sn x.sc, .slice x.pa x.pn x.pc, .slice x.ha x.hn x.hc, .slice x.ba x.bn x.bc] := by
    rw [hW]
    have h := Rows8.new ((w.alloc (.cells #[.slice x.sa x.sn x.sc, .slice x.pa x.pn x.pc, .slice x.ha x.hn x.hc, .slice x.ba x.bn x.bc] 29)).alloc (.cells #[.int .i64 e.1, .int .u64 (e.2 : Nat)] 38)) 79 #[.slice x.sa x.sn x.sc, .slice x.pa x.pn x.pc, .slice x.ha x.hn x.hc, .slice x.ba x.bn x.bc]
    rw [World.size_alloc, World.size_alloc] at h
    exact h
  have HMB := Lib.hid (Try.mayBeM_any x m W (hM.below hB0))
  have HH := fun (W : World) (h : MonAt W x m) => Lib.hid (Try.holders_any x m e W h)
  have HC := fun (W : World) (Bv Be : Nat) (h : SrcM Bv Be x m e W) => Lib.hid (Try.collectHold_any Bv Be x m e W h)
  obtain ⟨e0, e1⟩ := e
  dsimp only at *
  obtain ⟨z, hz⟩ : ∃ z, z = rightM m := ⟨_, rfl⟩
  obtain ⟨zs, hzs⟩ : ∃ z, z = holdM m (e0, e1) := ⟨_, rfl⟩
  rw [← hzs]
  unfold holdM at hzs
  rw [← hz] at hzs HMB
  have HZ := Lib.hid hzs
  have HM0 := Lib.hid (hM.below hB0)
  have HB0 := Lib.hid hB0
  have HR1 := Lib.hid r1
  have HR2 := Lib.hid r2
  have c0 : W.cell? ⟨w.heap.size + 1 + 1, 0, none⟩ = some (.slice x.sa x.sn x.sc) := r2.cell 0
  have c1 : W.cell? ⟨w.heap.size + 1 + 1, 1, none⟩ = some (.slice x.pa x.pn x.pc) := r2.cell 1
  have c2 : W.cell? ⟨w.heap.size + 1 + 1, 2, none⟩ = some (.slice x.ha x.hn x.hc) := r2.cell 2
  have c3 : W.cell? ⟨w.heap.size + 1 + 1, 3, none⟩ = some (.slice x.ba x.bn x.bc) := r2.cell 3
  clear hzs hz hB0 r1 r2 hM
  go_enter Try.func19, Try.ntmps19
  go_wp2_with fail
  rw [← hW]
  clear hW
  refine HMB.out.mono ?_
  rintro r W1 ⟨rfl, hB1⟩
  have R1 := Lib.hid (HR1.out.below hB1 HR1.out.lt)
  have R2 := Lib.hid (HR2.out.below hB1 HR2.out.lt)
  have HM1 := Lib.hid (HM0.out.below hB1)
  have HB1 := Lib.hid (HB0.out.trans (hB1.mono HB0.out.size))
  clear hB1 c0 c1 c2 c3
  have k0 : W1.cell? ⟨w.heap.size + 1, 0, none⟩ = some (.int .i64 e0) := R1.out.cell 0
  have k1 : W1.cell? ⟨w.heap.size + 1, 1, none⟩ = some (.int .u64 (e1 : Nat)) := R1.out.cell 1
  have c0 : W1.cell? ⟨w.heap.size + 1 + 1, 0, none⟩ = some (.slice x.sa x.sn x.sc) := R2.out.cell 0
  have c1 : W1.cell? ⟨w.heap.size + 1 + 1, 1, none⟩ = some (.slice x.pa x.pn x.pc) := R2.out.cell 1
  have c2 : W1.cell? ⟨w.heap.size + 1 + 1, 2, none⟩ = some (.slice x.ha x.hn x.hc) := R2.out.cell 2
  have c3 : W1.cell? ⟨w.heap.size + 1 + 1, 3, none⟩ = some (.slice x.ba x.bn x.bc) := R2.out.cell 3
  cases z with
  | false =>
    have hzz : Hid (zs = []) := Lib.hid (by rw [HZ.out]; rfl)
    go_wp2_with fail
    go_ret
    exact ⟨_, rfl, by rw [hzz.out]; exact World.ownsRow_nil _ _ _ _, HB1.out⟩
  | true =>
    have hzz : Hid (zs = holders m.has (e0, e1)) := Lib.hid (by rw [HZ.out]; rfl)
    have HHl := HH W1 HM1.out
    go_wp2_with fail
    refine HHl.out.mono ?_
    rintro r W2 ⟨Bv, Be, rfl, _, _, hs, hB2⟩
    have HCl := HC W2 Bv Be hs
    have HB2 := Lib.hid (HB1.out.trans (hB2.mono HB1.out.size))
    clear hs hB2 HHl k0 k1 c0 c1 c2 c3
    go_wp2_with fail
    refine HCl.out.mono ?_
    rintro r W3 ⟨v, rfl, hO, hB3⟩
    have HO := Lib.hid (owns_mono hO HB2.out.size)
    have HB3 := Lib.hid (HB2.out.trans (hB3.mono HB2.out.size))
    clear hO hB3 HCl
    go_wp2
    go_ret
    exact ⟨v, rfl, by rw [hzz.out]; exact HO.out, HB3.out⟩
end Go.Proofs
