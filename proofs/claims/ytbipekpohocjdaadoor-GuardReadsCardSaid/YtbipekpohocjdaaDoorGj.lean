/- A part of a clear row; rows made of what is told; Spans. -/
import Derived.Test.YtbipekpohocjdaaDoorGi
namespace Go.Proofs
open Go.RowKit Go.Shelf
attribute [local go_sem] Oper.semAt_some

theorem results_ct {P : Program} {fn : Func} {p u : Tmp} {ty : TypeId} (h : fn.results = #[.cell p ty, .tmp u]) (tmps : Array Value) (w : World) (g : Nat) (t : TypeId) (cs : Array Value) (fr : Nat × Nat) (d : TypeDesc)
    (hp : tmps.getD p undef = .pointer (some ⟨g, 0, none⟩)) (hg : w.heap[g]? = some (.cells cs t fr))
    (hu : P.underlying ty = some d) (hd : (match d with | .struct _ | .array _ _ => true | _ => false) = true) (hi : (P.info? ty).map (·.size) = some cs.size) :
    (results fn tmps).run P w = .ok (.tuple #[.agg cs, tmps.getD u undef]) w := by
  have hp' : tmps[p]?.getD undef = .pointer (some ⟨g, 0, none⟩) := by simpa using hp
  simp [results, h, hp', asAddr, run_loadVar_row w g t ty cs fr d hg hu hd hi, Result.andThen]

set_option maxRecDepth 100000 in
set_option maxHeartbeats 2000000 in
theorem Tryd.spans1_any (p1 p2 f g : Int) (B4 B5 : Nat) (w : World) (h4 : Rows8 w B4 3 #[.int .i64 f]) (h5 : Rows8 w B5 3 #[.int .i64 g]) :
    Calls Tryd.prog 45 #[.agg #[.int .i64 p1, .int .i64 p2], .pointer (some ⟨B4, 0, none⟩), .pointer (some ⟨B5, 0, none⟩)] w fun e w' => e = .returned (.tuple #[.agg #[.int .i64 (max p1 f), .int .i64 (min p2 g)], .bool (decide (max p1 f ≤ min p2 g))]) ∧ Below w.heap.size w w' := by
  obtain ⟨M1, hM1⟩ : ∃ M1, M1 = max p1 f := ⟨_, rfl⟩
  obtain ⟨M2, hM2⟩ : ∃ M2, M2 = min p2 g := ⟨_, rfl⟩
  have e1 : (if p1 < f then f else p1) = M1 := by rw [hM1]; omega
  have e2 : (if g < p2 then g else p2) = M2 := by rw [hM2]; omega
  rw [← hM1, ← hM2]
  clear hM1 hM2
  have c4 := h4.cell 0
  have c5 := h5.cell 0
  simp at c4 c5
  have l4 := h4.lt
  have l5 := h5.lt
  clear h4 h5
  go_enter Tryd.func45, Tryd.ntmps45
  go_wp2
  go_region
  all_goals
    go_wp2
    have hb := (Rows8.new (w.alloc (.cells #[.int .i64 p1, .int .i64 p2] 44)) 44 #[.int .i64 M1, .int .i64 M2]).alloc (.cells #[.int .i64 M1, .int .i64 M2] 44)
    rw [World.size_alloc] at hb
    exact bodyPost_ret (results_ct rfl _ _ (w.heap.size + 1) 44 #[.int .i64 M1, .int .i64 M2] (0, 0) _ rfl hb Tryd.underlying44 rfl (by kernel_rfl)) rfl ⟨rfl, ((Rows8.newB.alloc (by simp) _).alloc (by simp; omega) _).drew⟩

/-- What is made of those that are told. -/
def gotL (f g : Int) (ps : List (Int × Int)) : List (Int × Int) := ps.filterMap (partO f g)
theorem gotL_yes {f g : Int} {ps : List (Int × Int)} {p : Int × Int} (h : max p.1 f ≤ min p.2 g) : gotL f g (ps ++ [p]) = gotL f g ps ++ [(max p.1 f, min p.2 g)] := by
  unfold gotL
  rw [List.filterMap_append]
  simp [partO, h]
theorem gotL_no {f g : Int} {ps : List (Int × Int)} {p : Int × Int} (h : ¬ max p.1 f ≤ min p.2 g) : gotL f g (ps ++ [p]) = gotL f g ps := by
  unfold gotL
  rw [List.filterMap_append]
  simp [partO, h]
theorem gotL_len (f g : Int) (ps : List (Int × Int)) : (gotL f g ps).length ≤ ps.length := List.length_filterMap_le _ _
theorem pVals_snoc (l : List (Int × Int)) (p : Int × Int) : pVals (l ++ [p]) = pVals l ++ [.int .i64 p.1, .int .i64 p.2] := by simp [pVals, pCells]

set_option maxRecDepth 100000 in
set_option maxHeartbeats 4000000 in
theorem Tryd.madeL_any (f g : Int) (Bs B4 B5 : Nat) (a : Option Addr) (n cap : Nat) (l : List (Int × Int)) (hR : ∀ s ∈ l, 1 ≤ s.1 ∧ s.1 ≤ 1073741824) (hs : n ≤ 1000) (w : World) (hBs : Rows8 w Bs 23 #[.slice a n cap]) (h4 : Rows8 w B4 3 #[.int .i64 f]) (h5 : Rows8 w B5 3 #[.int .i64 g]) (hI : PAt w (.slice a n cap) l) :
    Calls Tryd.prog 43 #[.func (.func 53) #[] #[.pointer (some ⟨Bs, 0, none⟩)], .func (.func 45) #[] #[.pointer (some ⟨B4, 0, none⟩), .pointer (some ⟨B5, 0, none⟩)]] w
      fun e w' => ∃ x c, e = .returned (.slice x (spansB l f g).length c) ∧ PAt w' (.slice x (spansB l f g).length c) (spansB l f g) ∧ Below w.heap.size w w' := by
  obtain ⟨i0, hi, hz0, hz1, hz2⟩ := info_parts Tryd.infoLook
  refine (callsIn_wide (n := 9)).1 ?_
  refine callsIn_of_wp_marks Tryd.func43 rfl trivial ?_ rfl
  simp only [Tryd.ntmps43, List.size_toArray, List.length_cons, List.length_nil, Nat.reduceAdd, Nat.reduceSub, Array.replicate_succ, Array.replicate_zero, List.push_toArray, List.append_toArray, List.nil_append, List.cons_append]
  have hgl := gapL_len 0 l
  have hln := (pAt_len hI).1
  have HI := Lib.hid hI
  have HS := fun (p : Int × Int) w' (hB : Below w.heap.size w w') => Lib.hid (Tryd.spans1_any p.1 p.2 f g B4 B5 w' (h4.below hB h4.lt) (h5.below hB h5.lt))
  clear hI h4 h5
  gi_wp2
  have bf := (Rows8.new w 75 #[.func (.func 45) #[] #[.pointer (some ⟨B4, 0, none⟩), .pointer (some ⟨B5, 0, none⟩)]]).alloc (.cells #[.slice none 0 0] 41)
  have br := Rows8.new (w.alloc (.cells #[.func (.func 45) #[] #[.pointer (some ⟨B4, 0, none⟩), .pointer (some ⟨B5, 0, none⟩)]] 75)) 41 #[.slice none 0 0]
  have hBc : Below w.heap.size w ((w.alloc (.cells #[.func (.func 45) #[] #[.pointer (some ⟨B4, 0, none⟩), .pointer (some ⟨B5, 0, none⟩)]] 75)).alloc (.cells #[.slice none 0 0] 41)) := Rows8.newB.alloc (by simp) _
  have hz : ((w.alloc (.cells #[.func (.func 45) #[] #[.pointer (some ⟨B4, 0, none⟩), .pointer (some ⟨B5, 0, none⟩)]] 75)).alloc (.cells #[.slice none 0 0] 41)).heap.size = w.heap.size + 2 := by simp
  rw [World.size_alloc] at br
  generalize ((w.alloc (.cells #[.func (.func 45) #[] #[.pointer (some ⟨B4, 0, none⟩), .pointer (some ⟨B5, 0, none⟩)]] 75)).alloc (.cells #[.slice none 0 0] 41)) = W0 at *
  have htl := Tryd.gaps1_tells 8 (by decide) Bs w.heap.size 41 44 (by decide) (by decide) a n cap l hR w W0 (Nat.le_refl _) hBc (hBs.below hBc hBs.lt) HI.out
  have HTL := Lib.hid htl
  clear htl hBs
  refine range_tellsC rfl (by decide) (gf := 53) (lb := #[.pointer (some ⟨Bs, 0, none⟩)]) rfl trivial (fun _ _ => by kernel_rfl) HTL.out kt_t kt_b (Below.refl _ _) (fun _ => rfl)
    (fun pre W' => Rows8 W' w.heap.size 75 #[.func (.func 45) #[] #[.pointer (some ⟨B4, 0, none⟩), .pointer (some ⟨B5, 0, none⟩)]] ∧ (∃ u, Boxed W' (w.heap.size + 1) 41 u ∧ W'.ownsRow w.heap.size 44 2 u (gotL f g pre).length (pVals (gotL f g pre)) ∧ True) ∧ Below w.heap.size w W')
    (fun _ _ _ => False)
    (OwnFrom.and (Own.from (Rows8.own _ _ _) _) (OwnFrom.and (Own.from (holdsRow_own w.heap.size (w.heap.size + 1) 41 44 2 (fun pre => (gotL f g pre).length) (fun pre => pVals (gotL f g pre)) (fun _ _ => True)) _) (ownFrom_below (Nat.le_refl _) (by omega))))
    (fun _ _ _ _ _ hs _ _ => hs)
    (fun s X Y hs hXY => ⟨hs.1.below hXY hs.1.lt, by obtain ⟨u, h1, h2, h3⟩ := hs.2.1; exact ⟨u, (hXY.block _ h1.lt).trans h1, owns_keep h2 hXY (Nat.le_refl _), h3⟩, hs.2.2.trans (hXY.mono hs.2.2.size)⟩)
    (fun _ _ _ _ hs _ => hs)
    ⟨bf, ⟨_, br, World.ownsRow_nil _ _ _ _, trivial⟩, hBc⟩
    (fun x a' W' => ∃ Bx, Rows8 W' Bx 44 #[.int .i64 x.1, .int .i64 x.2] ∧ a' = { tmps := #[.func (.func 53) #[] #[.pointer (some ⟨Bs, 0, none⟩)], .func (.func 45) #[] #[.pointer (some ⟨B4, 0, none⟩), .pointer (some ⟨B5, 0, none⟩)], undef, .pointer (some ⟨w.heap.size, 0, none⟩), .slice none 0 0, .pointer (some ⟨w.heap.size + 1, 0, none⟩), .pointer (some ⟨Bx, 0, none⟩), undef, undef, .func (.func 53) #[] #[.pointer (some ⟨Bs, 0, none⟩)], .agg #[.int .i64 x.1, .int .i64 x.2], undef, undef, undef, undef, undef, undef, undef, undef, undef, undef, undef, undef], defers := [] })
    (fun x a' s X Y row hs hg hr => by obtain ⟨Bx, h1, h2⟩ := hs; exact ⟨Bx, Own.from (Rows8.own (β := Unit) Bx _ (fun _ => _)) _ s X Y row h1 hg hr, h2⟩) ?assign ?body ?done ?stop
  case assign =>
    rintro l2 pre ⟨p1, p2⟩ W' K ⟨h0, ⟨u, hu, hr, _⟩, hB⟩ hK
    unfold encP
    gi_wp2
    exact hK _ _ ((KeepsOthers.alloc _ _).from _) (Kt.alloc _ _) ⟨h0.alloc _, ⟨u, hu.alloc _, hr.alloc _, trivial⟩, hB.alloc hB.size _⟩ ⟨W'.heap.size, Rows8.new _ _ _, rfl⟩
  case body =>
    rintro l2 pre ⟨p1, p2⟩ a' W' ⟨h0, ⟨u, hu, hr, _⟩, hB⟩ ⟨Bx, hbx, rfl⟩ hlen
    obtain ⟨au, cu, rfl⟩ : ∃ au cu, u = .slice au (gotL f g pre).length cu := by
      obtain ⟨_, a, cap, h, _⟩ := rowAt_own hr
      exact ⟨a, cap, h⟩
    have hgl2 := gotL_len f g pre
    have hpl : pre.length < 1001 := by omega
    have y0 := hbx.cell 0
    have y1 := hbx.cell 1
    have z0 := h0.cell 0
    simp at y0 y1 z0
    have HC := HS (p1, p2) W' hB
    dsimp only at HC
    have hyes := @gotL_yes f g pre (p1, p2)
    have hno := @gotL_no f g pre (p1, p2)
    dsimp only at hyes hno
    generalize max p1 f = M1 at *
    generalize min p2 g = M2 at *
    have HU := Lib.hid hu
    have HR := Lib.hid hr
    have H0 := Lib.hid h0
    have HB := Lib.hid hB
    clear hu hr h0 hB hbx
    by_cases hm : M1 ≤ M2
    · rw [decide_eq_true hm] at HC
      have HY := Lib.hid (hyes hm)
      clear hyes hno hm
      gi_wp2_with fail
      refine ⟨trivial, ?_⟩
      refine (CallsIn.inRound l2 (callsIn_wide.2 HC.out)).mono ?_
      rintro e W1 ⟨rfl, hB1⟩
      have hu1 : Boxed W1 (w.heap.size + 1) 41 (.slice au (gotL f g pre).length cu) := (hB1.block _ HU.out.lt).trans HU.out
      have hr1 := owns_keep HR.out hB1 (Nat.le_refl _)
      have H01 := Lib.hid (H0.out.below hB1 H0.out.lt)
      have hw1 := HB.out.trans (hB1.mono HB.out.size)
      have hc1 : W1.cell? ⟨w.heap.size + 1, 0, none⟩ = some (.slice au (gotL f g pre).length cu) := hu1.cell
      have hf1 := hu1.frozen
      have hlt1 : w.heap.size + 1 < W1.heap.size := hu1.lt
      have hsz := hw1.size
      have hcn : ∀ j u, [Value.int .i64 M1, .int .i64 M2][j]? = some u → ((W1.alloc (.cells #[.int .i64 M1, .int .i64 M2] 44)).alloc (.cells #[.int .i64 M1, .int .i64 M2] 44)).cell? ((⟨W1.heap.size + 1, 0, none⟩ : Addr).add j) = some u := by
        have h := cells_new (W1.alloc (.cells #[.int .i64 M1, .int .i64 M2] 44)) 44 [Value.int .i64 M1, .int .i64 M2]
        rwa [World.size_alloc] at h
      gi_wp2_with (gi_at_builtin; refine wpListIn_append_own _ rfl _ _ 41 rfl w.heap.size 44 i0 (.agg #[.int .i64 0, .int .i64 0]) 2 16 Tryd.underlying41 hi hz0 hz1 hz2 rfl (by decide) _ _ _ rfl ((hr1.alloc _).alloc _) ⟨W1.heap.size + 1, 0, none⟩ 1 1 [.int .i64 M1, .int .i64 M2] rfl rfl hcn (by simp [Value.oneCell']) (by unfold maxLen; omega) (by omega) (by simp; omega) ?_; intro v' w3 hown' hgrow _; obtain ⟨g', cap', rfl⟩ := ownsRow_succ hown'; obtain ⟨hv1, hv2, hr2, hk2, hb2⟩ := (hu1.alloc _).appended (by decide) (hr1.alloc _) (by simp; omega) (by omega) hown' hgrow; have ht2 := ((((Kt.of_below hB1 : Kt w.heap.size 41 44 W' W1).trans (Kt.alloc _ _)).trans (Kt.alloc _ _)).grown (Nat.le_refl _) ((hr1.alloc _).alloc _) hgrow).set (a := ⟨w.heap.size + 1, 0, none⟩) hv1 (by simp) (.inl rfl) (.slice (some ⟨g', 0, none⟩) ((gotL f g pre).length + 1) cap'); have hc3 := hv1.cell; have hf3 := hv1.frozen; have H03 := Lib.hid (ht2.rows H0.out (by decide) (by decide)))
      exact ⟨keepsFrom_trans' (keepsFrom_below hB1) (((KeepsOthers.alloc _ _).trans hk2).from _), ht2, H03.out, ⟨_, hv2, by rw [HY.out, pVals_snoc]; simpa using hr2, trivial⟩, (hw1.alloc hsz _).trans hb2⟩
    · rw [decide_eq_false hm] at HC
      have HY := Lib.hid (hno hm)
      clear hyes hno hm
      gi_wp2_with fail
      refine ⟨trivial, ?_⟩
      refine (CallsIn.inRound l2 (callsIn_wide.2 HC.out)).mono ?_
      rintro e W1 ⟨rfl, hB1⟩
      have hu1 : Boxed W1 (w.heap.size + 1) 41 (.slice au (gotL f g pre).length cu) := (hB1.block _ HU.out.lt).trans HU.out
      have hr1 := owns_keep HR.out hB1 (Nat.le_refl _)
      have H01 := Lib.hid (H0.out.below hB1 H0.out.lt)
      have hw1 := HB.out.trans (hB1.mono HB.out.size)
      have HU1 := Lib.hid hu1
      have HR1 := Lib.hid hr1
      have HW1 := Lib.hid hw1
      have HB1 := Lib.hid hB1
      clear hu1 hr1 hw1 hB1
      gi_wp2_with fail
      exact ⟨keepsFrom_trans' (keepsFrom_below HB1.out) ((KeepsOthers.alloc _ _).from _), (Kt.of_below HB1.out).trans (Kt.alloc _ _), H01.out.alloc _, ⟨_, HU1.out.alloc _, by rw [HY.out]; exact HR1.out.alloc _, trivial⟩, HW1.out.alloc HW1.out.size _⟩
  case done =>
    rintro D ys W' hD hys ⟨h0, ⟨u, hu, hr, _⟩, hB⟩ hK
    have hsp : Hid (gotL f g ys = spansB l f g) := Lib.hid (by subst hys; rfl)
    have hr' := ownsRow_putObj hr (.deferred none) hK rfl
    obtain ⟨x, c, rfl⟩ : ∃ x c, u = .slice x (gotL f g ys).length c := by
      obtain ⟨_, a, cap, h, _⟩ := rowAt_own hr
      exact ⟨a, cap, h⟩
    have hc := hu.cell
    have HR' := Lib.hid hr'
    have HB := Lib.hid hB
    clear hys hr hu hr' hB h0
    gi_wp2
    refine ⟨by simp, .inl ⟨_, _, rfl, run_takeDeferred hK, ?_⟩⟩
    exact ⟨_, results_tmp rfl _ _ _, x, c, by rw [← hsp.out]; rfl, by rw [← hsp.out]; exact rowAt_own HR'.out, HB.out.trans (belowK_b (w := w) (Nat.le_refl _) _ D _ _ (by omega) hK rfl rfl)⟩
  case stop =>
    rintro D c pre W' _ _ h _
    exact h.elim

theorem spansR_ok {l : List (Int × Int)} {f g : Int} (h : spansE l f g = 0) : spansR l f g = spansB l f g := if_pos h
theorem spansR_err {l : List (Int × Int)} {f g : Int} (h : spansE l f g ≠ 0) : spansR l f g = [] := if_neg h
theorem right_in {l : List (Int × Int)} (h : rightB l = true) : ∀ s ∈ l, 1 ≤ s.1 ∧ s.1 ≤ 1073741824 := by
  have key : ∀ (l : List (Int × Int)) (a : Int), 0 ≤ a → secB a l = true → ∀ s ∈ l, 1 ≤ s.1 ∧ s.1 ≤ 1073741824 := by
    intro l
    induction l with
    | nil => intro a _ _ s hs; simp at hs
    | cons s t ih =>
      intro a ha hl u hu
      obtain ⟨h1, h2, h3⟩ := (secB_cons a s t).1 hl
      rcases List.mem_cons.1 hu with rfl | hu
      · exact ⟨by omega, h2⟩
      · rcases h3 with ⟨_, rfl⟩ | ⟨_, h4, _, h5⟩
        · simp at hu
        · exact ih s.2 (by omega) h5 u hu
  exact key l 0 (Int.le_refl _) h
/-- What is told, and there. -/
def SpansQ (w : World) (S : List (Int × Int)) (E : Int) (e : Ending) (w' : World) : Prop := ∃ x c, e = .returned (.tuple #[.slice x S.length c, .int .i64 E]) ∧ PAt w' (.slice x S.length c) S ∧ Below w.heap.size w w'
set_option maxHeartbeats 2000000 in
theorem Tryd.Spans_any (f g : Int) (a : Option Addr) (n cap : Nat) (l : List (Int × Int)) (hs : n ≤ 1000) (w : World) (hI : PAt w (.slice a n cap) l) :
    Calls Tryd.prog 25 #[.slice a n cap, .int .i64 f, .int .i64 g] w (SpansQ w (spansR l f g) (spansE l f g)) := by
  have b4 := (Rows8.new w 3 #[.int .i64 f]).alloc (.cells #[.int .i64 g] 3)
  have b5 := Rows8.new (w.alloc (.cells #[.int .i64 f] 3)) 3 #[.int .i64 g]
  rw [World.size_alloc] at b5
  have hB0 : Below w.heap.size w ((w.alloc (.cells #[.int .i64 f] 3)).alloc (.cells #[.int .i64 g] 3)) := Rows8.newB.alloc (by simp) _
  have HC := Lib.hid (Tryd.Check_any a n cap l _ (hI.below hB0))
  have HL := fun w' => Lib.hid (Tryd.noLook_any f g w')
  have HG := fun w' => Lib.hid (Tryd.gaps_any a n cap w')
  have HM := fun (hr : rightB l = true) Bs w' (hB : Below ((w.alloc (.cells #[.int .i64 f] 3)).alloc (.cells #[.int .i64 g] 3)).heap.size ((w.alloc (.cells #[.int .i64 f] 3)).alloc (.cells #[.int .i64 g] 3)) w') hBs => Lib.hid (Tryd.madeL_any f g Bs w.heap.size (w.heap.size + 1) a n cap l (right_in hr) hs w' hBs (b4.below hB b4.lt) (b5.below hB b5.lt) (hI.below (hB0.trans (hB.mono hB0.size))))
  have e1 : checkE l = if rightB l = true then 0 else 160 := rfl
  have e2 : spansE l f g = if rightB l = true then (if lookB f g = true then 0 else 2) else 160 := rfl
  have HB0 := Lib.hid hB0
  have B4 := Lib.hid b4
  have B5 := Lib.hid b5
  clear hI hB0 b4 b5
  cases hr : rightB l with
  | false =>
    rw [hr, if_neg (by decide)] at e1 e2
    rw [spansR_err (by rw [e2]; decide), e2]
    rw [e1] at HC
    clear e1 e2 hr HM HL HG
    go_enter Tryd.func25, Tryd.ntmps25
    go_wp2_with fail
    refine HC.out.mono ?_
    rintro e w1 ⟨rfl, hB⟩
    have HB1 := Lib.hid (HB0.out.trans (hB.mono HB0.out.size))
    clear hB
    go_wp2_with fail
    go_ret2
    exact ⟨none, 0, rfl, pAt_none _, HB1.out⟩
  | true =>
    rw [hr, if_pos rfl] at e1 e2
    rw [e1] at HC
    have HM := HM hr
    cases hs : lookB f g with
    | false =>
      rw [hs, if_neg (by decide)] at e2
      rw [spansR_err (by rw [e2]; decide), e2]
      rw [hs] at HL
      clear e1 e2 hr hs HM HG
      go_enter Tryd.func25, Tryd.ntmps25
      go_wp2_with fail
      refine HC.out.mono ?_
      rintro e w1 ⟨rfl, hB⟩
      have k4 := (B4.out.below hB B4.out.lt).cell 0
      have k5 := (B5.out.below hB B5.out.lt).cell 0
      simp at k4 k5
      have HB1 := Lib.hid (HB0.out.trans (hB.mono HB0.out.size))
      clear hB
      go_wp2_with fail
      refine (HL _).out.mono ?_
      rintro e w2 ⟨rfl, hB2⟩
      have HB2 := Lib.hid (HB1.out.trans (hB2.mono HB1.out.size))
      clear hB2
      go_wp2_with fail
      go_ret2
      exact ⟨none, 0, rfl, pAt_none _, HB2.out⟩
    | true =>
      rw [hs, if_pos rfl] at e2
      rw [spansR_ok e2, e2]
      rw [hs] at HL
      clear e1 e2 hr hs
      go_enter Tryd.func25, Tryd.ntmps25
      go_wp2_with fail
      refine HC.out.mono ?_
      rintro e w1 ⟨rfl, hB⟩
      have k4 := (B4.out.below hB B4.out.lt).cell 0
      have k5 := (B5.out.below hB B5.out.lt).cell 0
      simp at k4 k5
      have HB1 := Lib.hid hB
      clear hB
      go_wp2_with fail
      refine (HL _).out.mono ?_
      rintro e w2 ⟨rfl, hB2⟩
      have HB2 := Lib.hid (HB1.out.trans (hB2.mono HB1.out.size))
      clear hB2
      go_wp2_with fail
      refine (HG _).out.mono ?_
      rintro e w3 ⟨rfl, hw3⟩
      have hs3 : Rows8 w3 w2.heap.size 23 #[.slice a n cap] := by rw [hw3]; exact Rows8.new _ _ _
      have hB3 : Below w2.heap.size w2 w3 := by rw [hw3]; exact Rows8.newB
      have HB3 := Lib.hid (HB2.out.trans (hB3.mono HB2.out.size))
      have HM3 := HM w2.heap.size w3 HB3.out hs3
      clear hB3 hw3 HM hs3
      go_wp2_with fail
      refine HM3.out.mono ?_
      rintro e w4 ⟨x, c, rfl, hP, hB4⟩
      have HP := Lib.hid hP
      have HB4 := Lib.hid (HB0.out.trans ((HB3.out.trans (hB4.mono HB3.out.size)).mono HB0.out.size))
      clear hP hB4
      go_wp2_with fail
      go_ret2
      exact ⟨x, c, rfl, HP.out, HB4.out⟩
end Go.Proofs
