/- Back. -/
import Derived.Test.YtafccppobhhelaaCj
import Derived.Test.YtafccppobhhelaaR
namespace Go.Proofs
open Go.RowKit Go.Shelf
attribute [local go_sem] Oper.semAt_some

theorem owns_own {β : Type} (n₀ : Nat) (e : TypeId) (k : Nat) (v : β → Value) (n : β → Nat) (cs : β → List Value) : Own (fun (s : β) W => W.ownsRow n₀ e k (v s) (n s) (cs s)) := fun s X Y row hs hg hr => by
  refine World.ownsRow.kept hs hg ?_
  rcases hs.2 with ⟨h, _⟩ | ⟨g, cap, cur, h, _, hh, _⟩
  · exact .inl (by rw [h]; rfl)
  · refine .inr fun e2 => ?_
    rw [h] at e2
    obtain ⟨o, ho, hc⟩ := hr g e2.symm
    rw [hh] at ho
    cases ho
    cases hc
theorem tk_word {n₀ k n m cp g : Nat} {cs : List Value} {W : World} (h : W.ownsRow n₀ 25 k (.slice (some ⟨g, 0, none⟩) m cp) n cs) (o : Nat) (v : Value) : Tk W (W.setCell ⟨g, o, none⟩ v) := by
  rcases h.2 with ⟨h1, _⟩ | ⟨g', cap, cur, h1, _, hh, _⟩
  · cases h1
  · injection h1 with h1
    injection h1 with h1
    injection h1 with h1
    subst h1
    exact (Tk.refl W).set (a := ⟨g, o, none⟩) (t := 25) (cs := cur) hh (.inr rfl) v
/-- What is left of a frame when all these operations are passed over. -/
def passed (ops : Array Oper) : List Oper → Act → Option Act
  | [], a => some a
  | o :: r, a => if Region.wanted o (yielded ops a.tmps) = true then none else passed ops r (a.put o.dst undef)
theorem still_passed {P : Program} {ops : Array Oper} {w : World} {Q : Act → Prop} : ∀ (l : List Oper) (a a' : Act), passed ops l a = some a' → Q a' → wpStill P ops w Q l a
  | [], a, a', h, hq => by
    simp only [passed] at h
    injection h with h
    subst h
    exact hq
  | o :: r, a, a', h, hq => by
    simp only [passed] at h
    split at h
    · cases h
    · rename_i hw
      unfold wpStill
      rw [if_neg hw]
      exact still_passed r _ a' h hq
theorem still_cover {P : Program} {ops : Array Oper} {w : World} {Q : Act → Prop} {a : Act} {o : Oper} {rest : List Oper} (h : ∀ R : List Oper, Hid (R = rest) → wpStill P ops w Q (o :: R) a) : wpStill P ops w Q (o :: rest) a := h rest (Lib.hid rfl)
theorem still_rest {P : Program} {ops : Array Oper} {w : World} {Q : Act → Prop} {a : Act} {R rest : List Oper} (hR : Hid (R = rest)) (hp : passed ops rest a = some a) (hq : Q a) : wpStill P ops w Q R a := by
  have h := hR.out
  subst h
  exact still_passed _ _ _ hp hq
/-- The words ahead of a mark, if it may be. -/
def backOne (ws : List Int) (m : Mk) : Option (List Int) := if 0 ≤ m.pl ∧ m.pl < ws.length ∧ ws[m.pl.toNat]?.getD 0 = m.is then some (ws.set m.pl.toNat m.was) else none
def backAll : List Int → List Mk → Option (List Int)
  | ws, [] => some ws
  | ws, m :: r => (backOne ws m).bind (backAll · r)
theorem backAll_snoc (ws : List Int) (l : List Mk) (m : Mk) : backAll ws (l ++ [m]) = (backAll ws l).bind (backOne · m) := by
  induction l generalizing ws with
  | nil => simp [backAll]
  | cons a l ih =>
    simp only [List.cons_append, backAll]
    cases backOne ws a with
    | none => rfl
    | some x => exact ih x
theorem backAll_none (ws : List Int) (l r : List Mk) (h : backAll ws l = none) : backAll ws (l ++ r) = none := by
  induction l generalizing ws with
  | nil => simp [backAll] at h
  | cons a l ih =>
    simp only [List.cons_append, backAll] at h ⊢
    cases hb : backOne ws a with
    | none => rfl
    | some x => rw [hb] at h; exact ih x h
theorem backOne_length {ws ws' : List Int} {m : Mk} (h : backOne ws m = some ws') : ws'.length = ws.length := by
  unfold backOne at h
  split at h
  · injection h with h; subst h; simp
  · cases h
theorem backAll_length {ws ws' : List Int} {l : List Mk} (h : backAll ws l = some ws') : ws'.length = ws.length := by
  induction l generalizing ws with
  | nil => simp only [backAll] at h; injection h with h; subst h; rfl
  | cons a l ih =>
    simp only [backAll] at h
    cases hb : backOne ws a with
    | none => rw [hb] at h; cases h
    | some x => rw [hb] at h; exact (ih h).trans (backOne_length hb)

def BackQ (ws : List Int) (ms : List Mk) (w : World) (e : Ending) (w' : World) : Prop :=
  ((ws.length < 1 ∨ 8192 < ws.length) ∧ e = .returned (.tuple #[.slice none 0 0, .int .i64 120]) ∧ Below w.heap.size w w') ∨
  (¬ (ws.length < 1 ∨ 8192 < ws.length) ∧ backAll ws ms.reverse = none ∧ e = .returned (.tuple #[.slice none 0 0, .int .i64 2]) ∧ Below w.heap.size w w') ∨
  (¬ (ws.length < 1 ∨ 8192 < ws.length) ∧ ∃ ws' v, backAll ws ms.reverse = some ws' ∧ e = .returned (.tuple #[v, .int .i64 0]) ∧ OwnsWords w.heap.size ws' v w' ∧ Below w.heap.size w w')

set_option maxRecDepth 100000 in
set_option maxHeartbeats 8000000 in
theorem Try.Back_any (n₀ : Nat) (ws : List Int) (v vm : Value) (ms : List Mk) (hlen : ms.length ≤ 1000) (w : World) (hI : WordsAt w v ws) (hM : OwnsMarks n₀ ms vm w) :
    Calls Try.prog 29 #[v, vm] w (BackQ ws ms w) := by
  obtain ⟨a, cap, rfl⟩ : ∃ a cap, vm = .slice a ms.length cap := by
    obtain ⟨_, a, cap, h, _⟩ := rowAt_own hM
    exact ⟨a, cap, h⟩
  have hI0 := hI
  obtain ⟨j1, aw, capw, rfl, hlc, hcm, j2, j3⟩ := hI
  clear j1 j2 j3 hcm hlc
  have hnc := Try.noCells_any ws.length
  have HCP := Lib.hid fun h1 h2 W hW => Try.copied_any ws h1 h2 (.slice aw ws.length capw) W hW
  refine (callsIn_wide (n := 9)).1 ?_
  refine callsIn_of_wp_marks Try.func29 rfl trivial ?_ rfl
  simp only [Try.ntmps29, List.size_toArray, List.length_cons, List.length_nil, Nat.reduceAdd, Nat.reduceSub, Array.replicate_succ, Array.replicate_zero, List.push_toArray, List.append_toArray, List.nil_append, List.cons_append]
  have HM := Lib.hid hM
  have HI := Lib.hid hI0
  have HNC := Lib.hid hnc
  clear hM hI0 hnc
  unfold BackQ
  obtain ⟨wa, ha⟩ : ∃ wa, wa = (w.alloc (.cells #[.slice none 0 0] 22)).alloc (.cells #[.int .i64 0] 28) := ⟨_, rfl⟩
  have za : wa.heap.size = w.heap.size + 2 := by rw [ha]; simp
  have a4 : Rows8 wa w.heap.size 22 #[.slice none 0 0] := by rw [ha]; exact (Rows8.new w _ _).alloc _
  have a5 : Rows8 wa (w.heap.size + 1) 28 #[.int .i64 0] := by
    rw [ha]
    have h := Rows8.new (w.alloc (.cells #[.slice none 0 0] 22)) 28 #[.int .i64 0]
    rwa [World.size_alloc] at h
  have Ba : Below w.heap.size w wa := by rw [ha]; exact ((Below.refl _ w).alloc (Nat.le_refl _) _).alloc (by simp) _
  gi_wp2_with fail
  rw [← ha]
  refine ⟨trivial, ?_⟩
  refine (callsIn_wide.2 (HNC.out _)).mono ?_
  rintro e w' ⟨rfl, rfl⟩
  clear ha
  have z4 := a4.cell 0
  have z5 := a5.cell 0
  have f4 := a4.frozen 0
  have f5 := a5.frozen 0
  simp at z4 z5
  by_cases hn : ws.length < 1 ∨ 8192 < ws.length
  · rw [decide_eq_true hn]
    have HN := Lib.hid hn
    clear hn
    have e4 := (a4.set 0 (.slice none 0 0)).setOther (a := ⟨w.heap.size + 1, 0, none⟩) (by simp) (.int .i64 120)
    have e5 := (a5.setOther (a := ⟨w.heap.size, 0, none⟩) (by simp) (.slice none 0 0)).set 0 (.int .i64 120)
    simp only [List.setIfInBounds_toArray, List.set_cons_zero] at e4 e5
    gi_wp2
    exact ⟨_, results_cc rfl _ _ w.heap.size (w.heap.size + 1) _ _ rfl rfl (load_one e4 (by kernel_rfl)) (load_one e5 (by kernel_rfl)), .inl ⟨HN.out, rfl, (Ba.setCell (p := ⟨w.heap.size, 0, none⟩) (Nat.le_refl _) _).setCell (p := ⟨w.heap.size + 1, 0, none⟩) (by simp) _⟩⟩
  · rw [decide_eq_false hn]
    have hl1 : 0 < ws.length := by omega
    have hl2 : ws.length ≤ 8192 := by omega
    have HN := Lib.hid hn
    clear hn
    gi_wp2_with fail
    refine ⟨trivial, ?_⟩
    refine (callsIn_wide.2 (HCP.out hl1 hl2 wa (RowAt.below HI.out Ba))).mono ?_
    rintro e wb ⟨v1, rfl, hO, hBb⟩
    obtain ⟨g, cp, rfl, hg, hgl, hlc1, hcm1⟩ := words_cells hO hl1
    have b4 := a4.below hBb a4.lt
    have b5 := a5.below hBb a5.lt
    have Bb := Ba.trans (hBb.mono Ba.size)
    clear z4 z5 f4 f5
    gi_wp2_with (refine ⟨trivial, ?_⟩; gi_at_call 69; refine (callsIn_wide.2 (Try.backward_any _ _ _ _)).mono ?_; rintro e w' ⟨rfl, rfl⟩)
    have c6 := (Rows8.new wb 22 #[.slice (some ⟨g, 0, none⟩) ws.length cp]).alloc (.cells #[.slice a ms.length cap] 40)
    have cs : Rows8 ((wb.alloc (.cells #[.slice (some ⟨g, 0, none⟩) ws.length cp] 22)).alloc (.cells #[.slice a ms.length cap] 40)) (wb.heap.size + 1) 40 #[.slice a ms.length cap] := by
      have h := Rows8.new (wb.alloc (.cells #[.slice (some ⟨g, 0, none⟩) ws.length cp] 22)) 40 #[.slice a ms.length cap]
      rwa [World.size_alloc] at h
    have Bc := (Bb.alloc Bb.size (.cells #[.slice (some ⟨g, 0, none⟩) ws.length cp] 22)).alloc (by simp; have := Bb.size; omega) (.cells #[.slice a ms.length cap] 40)
    have c4 := (b4.alloc (.cells #[.slice (some ⟨g, 0, none⟩) ws.length cp] 22)).alloc (.cells #[.slice a ms.length cap] 40)
    have c5 := (b5.alloc (.cells #[.slice (some ⟨g, 0, none⟩) ws.length cp] 22)).alloc (.cells #[.slice a ms.length cap] 40)
    have hOc := World.ownsRow.alloc (World.ownsRow.alloc (owns_mono hO Ba.size) (.cells #[.slice (some ⟨g, 0, none⟩) ws.length cp] 22)) (.cells #[.slice a ms.length cap] 40)
    have g4 : wa.heap.size ≤ wb.heap.size := hBb.size
    clear hO b4 b5 a4 a5 hBb Bb Ba
    generalize ((wb.alloc (.cells #[.slice (some ⟨g, 0, none⟩) ws.length cp] 22)).alloc (.cells #[.slice a ms.length cap] 40)) = wc at *
    have Mc : OwnsMarks n₀ ms (.slice a ms.length cap) wc := owns_keep HM.out Bc (Nat.le_refl _)
    have hmx : Try.prog.follows .mixedOrders = true := by kernel_rfl
    refine range_tells rfl (by decide) (gf := 95) (lb := #[.pointer (some ⟨wb.heap.size + 1, 0, none⟩)]) rfl trivial (fun _ _ => by kernel_rfl) (Try.backward_tells 8 n₀ (wb.heap.size + 1) (by decide) a cap ms hlen wc cs Mc) tk_t tk_b (Below.refl _ _) (fun _ => rfl)
      (fun pre W' => (∃ ws', backAll ws (pre.map Prod.snd) = some ws' ∧ OwnsWords w.heap.size ws' (.slice (some ⟨g, 0, none⟩) ws.length cp) W') ∧ Rows8 W' wb.heap.size 22 #[.slice (some ⟨g, 0, none⟩) ws.length cp] ∧ Rows8 W' w.heap.size 22 #[.slice none 0 0] ∧ Rows8 W' (w.heap.size + 1) 28 #[.int .i64 0] ∧ Below w.heap.size w W')
      (fun c pre W' => (c = .ret ∧ backAll ws (pre.map Prod.snd) = none) ∧ Rows8 W' w.heap.size 22 #[.slice none 0 0] ∧ Rows8 W' (w.heap.size + 1) 28 #[.int .i64 2] ∧ Below w.heap.size w W')
      (OwnFrom.and (fun s X Y row hs hg hr => by obtain ⟨ws', h1, h2⟩ := hs; exact ⟨ws', h1, Own.from (owns_own (β := Unit) w.heap.size 25 1 (fun _ => _) (fun _ => _) (fun _ => _)) _ () X Y row h2 hg hr⟩) (OwnFrom.and (Own.from (Rows8.own _ _ _) _) (OwnFrom.and (Own.from (Rows8.own _ _ _) _) (OwnFrom.and (Own.from (Rows8.own _ _ _) _) (ownFrom_below (Nat.le_refl _) Bc.size)))))
      (fun c => OwnFrom.and (ownFrom_pure _ _) (OwnFrom.and (Own.from (Rows8.own _ _ _) _) (OwnFrom.and (Own.from (Rows8.own _ _ _) _) (ownFrom_below (Nat.le_refl _) Bc.size))))
      ⟨⟨ws, rfl, hOc⟩, c6, c4, c5, Bc⟩
      (fun x a' W' => ∃ Bx, Rows8 W' Bx 47 #[.int .i64 x.2.no, .int .i64 x.2.pl, .int .u64 x.2.was, .int .u64 x.2.is] ∧ a' = { tmps := #[.slice aw ws.length capw, .slice a ms.length cap, undef, undef, .pointer (some ⟨w.heap.size, 0, none⟩), .pointer (some ⟨w.heap.size + 1, 0, none⟩), .pointer (some ⟨wb.heap.size, 0, none⟩), undef, .pointer (some ⟨Bx, 0, none⟩), .slice aw ws.length capw, .int .i64 ws.length, .bool false, .slice aw ws.length capw, .slice (some ⟨g, 0, none⟩) ws.length cp, .slice a ms.length cap, .func (.func 95) #[] #[.pointer (some ⟨wb.heap.size + 1, 0, none⟩)], .int .i64 (x.1 : Nat), .agg #[.int .i64 x.2.no, .int .i64 x.2.pl, .int .u64 x.2.was, .int .u64 x.2.is], undef, undef, undef, undef, undef, undef, undef, undef, undef, undef, undef, undef, undef, undef, undef, undef, undef, undef], defers := [] })
      (fun x a' s X Y row hs hg hr => by obtain ⟨Bx, h1, h2⟩ := hs; exact ⟨Bx, Own.from (Rows8.own (β := Unit) Bx _ (fun _ => _)) _ s X Y row h1 hg hr, h2⟩) ?assign ?body ?done ?stop
    case assign =>
      rintro l2 pre ⟨i, no, pl, was, is⟩ W' K ⟨⟨ws', h1, h2⟩, h6, h4, h5, hB⟩ hK
      unfold encM
      gi_wp2
      exact hK _ _ ((KeepsOthers.alloc _ _).from _) (Tk.alloc _ _) ⟨⟨ws', h1, World.ownsRow.alloc h2 _⟩, h6.alloc _, h4.alloc _, h5.alloc _, hB.alloc hB.size _⟩ ⟨W'.heap.size, Rows8.new _ _ _, rfl⟩
    case body =>
      rintro l2 pre ⟨i, no, pl, was, is⟩ a' W' ⟨⟨ws', h1, h2⟩, h6, h4, h5, hB⟩ ⟨Bx, hbx, rfl⟩ hl
      have y0 := hbx.cell 0
      have y1 := hbx.cell 1
      have y2 := hbx.cell 2
      have y3 := hbx.cell 3
      have z6 := h6.cell 0
      have z4 := h4.cell 0
      have z5 := h5.cell 0
      have f4 := h4.frozen 0
      have f5 := h5.frozen 0
      simp at y0 y1 y2 y3 z6 z4 z5
      have hln := backAll_length h1
      have hsn : backAll ws ((pre ++ [(i, Mk.mk no pl was is)]).map Prod.snd) = backOne ws' ⟨no, pl, was, is⟩ := by
        rw [List.map_append, List.map_cons, List.map_nil, backAll_snoc, h1]
        rfl
      have hnc := Try.noCell_any ws.length pl W'.drew
      have e4 := (h4.set 0 (.slice none 0 0)).setOther (a := ⟨w.heap.size + 1, 0, none⟩) (by simp) (.int .i64 2)
      have e5 := (h5.setOther (a := ⟨w.heap.size, 0, none⟩) (by simp) (.slice none 0 0)).set 0 (.int .i64 2)
      simp only [List.setIfInBounds_toArray, List.set_cons_zero] at e4 e5
      by_cases hp : pl < 0 ∨ (ws.length : Int) ≤ pl
      · rw [decide_eq_true hp] at hnc
        have hbo : backOne ws' ⟨no, pl, was, is⟩ = none := by unfold backOne; rw [if_neg (fun h => by have h1 := h.1; have h2 := h.2.1; dsimp only at h1 h2; rw [hln] at h2; omega)]
        rw [hbo] at hsn
        have HSN := Lib.hid hsn
        have HNC := Lib.hid hnc
        have HE4 := Lib.hid e4
        have HE5 := Lib.hid e5
        have HP := Lib.hid hp
        have HBB := Lib.hid hB
        clear hsn hnc e4 e5 hbo h2 h4 h5 h6 hbx hp h1 hln hl hB
        gi_wp2_with fail
        refine wpIn_region_still_tail (free_round l2) 14 hmx rfl (by kernel_rfl) ?_
        simp only [List.take_succ_cons, List.take_zero, List.drop_succ_cons, List.drop_zero]
        iterate 4 still_step
        still_call (quietR HNC.out)
        refine still_cover (fun R hR => ?_)
        (refine wpStill_step (fun K hK => ?_); have HK := Lib.hid hK; clear hK; go_simp; refine HK.out _ ?_; clear HK K)
        refine still_rest hR (by kernel_rfl) ?_
        gi_wp2
        refine ⟨trivial, ?_⟩
        gi_wp2
        exact ⟨((((KeepsOthers.setCell _ _ _).trans (KeepsOthers.setCell _ _ _)).trans (KeepsOthers.drew _)).from _), ⟨rfl, HSN.out⟩, HE4.out.drew, HE5.out.drew, ((HBB.out.setCell (p := ⟨w.heap.size, 0, none⟩) (Nat.le_refl _) _).setCell (p := ⟨w.heap.size + 1, 0, none⟩) (by simp) _).drew⟩
      · rw [decide_eq_false hp] at hnc
        have hpl : 0 ≤ pl ∧ pl < (ws.length : Int) := by omega
        have hkl : pl.toNat < ws'.length := by omega
        have hal := Try.alone_any g ws.length cp pl.toNat (by omega) hlc1 hcm1 W'.drew
        rw [show ((pl.toNat : Nat) : Int) = pl by omega] at hal
        have hO' := h2
        rw [← hln] at hO'
        have hcas := Try.plainCas_any g pl.toNat (ws'[pl.toNat]?.getD 0) is was W'.drew (words_cell (W := W'.drew) hO' _ hkl) (words_frozen (W := W'.drew) hO' _)
        have hset := words_set (W := W'.drew) hO' pl.toNat was
        rw [hln] at hset
        have hgt := h6
        have HHB := Lib.hid hB
        have HH6 := Lib.hid h6
        have HH4 := Lib.hid h4
        have HH5 := Lib.hid h5
        have HE4 := Lib.hid e4
        have HE5 := Lib.hid e5
        have HNC := Lib.hid hnc
        have HAL := Lib.hid hal
        have HCAS := Lib.hid hcas
        have HSET := Lib.hid hset
        have HSN := Lib.hid hsn
        have HLN := Lib.hid hln
        have HO' := Lib.hid h2
        have hgg := (World.ownsRow.lt h2 g rfl)
        have HPL := Lib.hid hpl
        clear hnc hal hcas hset hsn hln h2 hO' h4 h5 h6 hgt e4 e5 hbx hp h1 hl hB hpl hkl
        gi_wp2_with fail
        refine wpIn_region_still_tail (free_round l2) 14 hmx rfl (by kernel_rfl) ?_
        simp only [List.take_succ_cons, List.take_zero, List.drop_succ_cons, List.drop_zero]
        iterate 4 (refine wpStill_step (fun K hK => ?_); have HK := Lib.hid hK; clear hK; go_simp; refine HK.out _ ?_; clear HK K)
        still_call (quietR HNC.out)
        iterate 4 (refine wpStill_step (fun K hK => ?_); have HK := Lib.hid hK; clear hK; go_simp; refine HK.out _ ?_; clear HK K)
        still_call (quietR HAL.out)
        iterate 4 (refine wpStill_step (fun K hK => ?_); have HK := Lib.hid hK; clear hK; go_simp; refine HK.out _ ?_; clear HK K)
        refine wpStill_nil ?_
        gi_wp2_with fail
        refine ⟨trivial, ?_⟩
        refine (CallsIn.inRound l2 (callsIn_wide.2 HCAS.out)).mono ?_
        rintro e W1 ⟨rfl, rfl⟩
        by_cases hi : ws'[pl.toNat]?.getD 0 = is
        · rw [if_pos hi]
          have hi2 : (ws'[pl.toNat]?.getD 0 == is) = true := by simp [hi]
          rw [hi2]
          have hbo : backOne ws' ⟨no, pl, was, is⟩ = some (ws'.set pl.toNat was) := by
            unfold backOne
            exact if_pos ⟨HPL.out.1, by dsimp only; rw [HLN.out]; exact HPL.out.2, hi⟩
          have HSN2 := Lib.hid (HSN.out.trans hbo)
          clear hi hi2 hbo HSN
          gi_wp2
          exact ⟨((KeepsOthers.setCell _ _ _).trans (KeepsOthers.drew _)).from _, (tk_word HO'.out _ _).drew, ⟨_, HSN2.out, HSET.out⟩, (HH6.out.setOther (by simp; omega) _).drew, (HH4.out.setOther (by simp; omega) _).drew, (HH5.out.setOther (by simp; omega) _).drew, (HHB.out.setCell (p := ⟨g, pl.toNat, none⟩) hgg.1 _).drew⟩
        · rw [if_neg hi]
          have hi2 : (ws'[pl.toNat]?.getD 0 == is) = false := by simp [hi]
          rw [hi2]
          have hbo : backOne ws' ⟨no, pl, was, is⟩ = none := by
            unfold backOne
            exact if_neg (fun h => hi h.2.2)
          have HSN2 := Lib.hid (HSN.out.trans hbo)
          clear hi hi2 hbo HSN
          gi_wp2
          exact ⟨((((KeepsOthers.setCell _ _ _).trans (KeepsOthers.setCell _ _ _)).trans (KeepsOthers.drew _)).from _), ⟨rfl, HSN2.out⟩, HE4.out.drew, HE5.out.drew, ((HHB.out.setCell (p := ⟨w.heap.size, 0, none⟩) (Nat.le_refl _) _).setCell (p := ⟨w.heap.size + 1, 0, none⟩) (by simp) _).drew⟩
    case done =>
      rintro D ys W' hD rfl ⟨⟨ws', h1, h2⟩, h6, h4, h5, hB⟩ hK
      have z6 := h6.cell 0
      have z4 := h4.cell 0
      have z5 := h5.cell 0
      have f4 := h4.frozen 0
      have f5 := h5.frozen 0
      simp at z6 z4 z5
      have e4 := (h4.set 0 (.slice (some ⟨g, 0, none⟩) ws.length cp)).setOther (a := ⟨w.heap.size + 1, 0, none⟩) (by simp) (.int .i64 0)
      have e5 := (h5.setOther (a := ⟨w.heap.size, 0, none⟩) (by simp) (.slice (some ⟨g, 0, none⟩) ws.length cp)).set 0 (.int .i64 0)
      simp only [List.setIfInBounds_toArray, List.set_cons_zero] at e4 e5
      have hK' := ((KeepsOthers.setCell W' ⟨w.heap.size, 0, none⟩ (.slice (some ⟨g, 0, none⟩) ws.length cp)).trans (KeepsOthers.setCell _ ⟨w.heap.size + 1, 0, none⟩ (.int .i64 0))).same D _ hK rfl
      have hB' := (hB.setCell (p := ⟨w.heap.size, 0, none⟩) (Nat.le_refl _) (.slice (some ⟨g, 0, none⟩) ws.length cp)).setCell (p := ⟨w.heap.size + 1, 0, none⟩) (by simp) (.int .i64 0)
      have hO2 := ownsRow_setCell_other (ownsRow_setCell_other h2 (a := ⟨w.heap.size, 0, none⟩) (owns_not h2 h4 (by decide)) (.slice (some ⟨g, 0, none⟩) ws.length cp)) (a := ⟨w.heap.size + 1, 0, none⟩) (owns_not h2 h5 (by decide)) (.int .i64 0)
      have hO3 := ownsRow_putObj hO2 (.deferred none) hK' rfl
      have hfin := bwd_marks ms
      rw [hfin] at h1
      have HH1 := Lib.hid h1
      have HE4 := Lib.hid e4
      have HE5 := Lib.hid e5
      have HO3 := Lib.hid hO3
      have HD := Lib.hid hD
      clear h4 h5 h6 e4 e5 h1 hfin h2 hO2 hO3 hB hD
      gi_wp2
      refine ⟨by simp, .inl ⟨_, _, rfl, run_takeDeferred hK', ?_⟩⟩
      exact ⟨_, results_cc rfl _ _ w.heap.size (w.heap.size + 1) _ _ rfl rfl (load_one (rows_put HE4.out hK') (by kernel_rfl)) (load_one (rows_put HE5.out hK') (by kernel_rfl)), .inr (.inr ⟨HN.out, _, _, HH1.out, rfl, HO3.out, hB'.trans (belowK_b (w := w) (Nat.le_refl _) _ D _ _ (by have := HD.out; have := Bc.size; omega) hK' rfl rfl)⟩)⟩
    case stop =>
      rintro D c pre W' hD hp ⟨⟨rfl, hno⟩, h4, h5, hB⟩ hK
      have hfin : backAll ws ms.reverse = none := by
        obtain ⟨r, hr⟩ := hp
        rw [← bwd_marks ms, ← hr, List.map_append]
        exact backAll_none ws _ _ hno
      have HF := Lib.hid hfin
      have HD := Lib.hid hD
      clear hfin hno hp hD
      gi_wp2
      refine ⟨by simp, .inl ⟨_, _, rfl, run_takeDeferred hK, ?_⟩⟩
      exact ⟨_, results_cc rfl _ _ w.heap.size (w.heap.size + 1) _ _ rfl rfl (load_one (rows_put h4 hK) (by kernel_rfl)) (load_one (rows_put h5 hK) (by kernel_rfl)), .inr (.inl ⟨HN.out, HF.out, rfl, hB.trans (belowK_b (w := w) (Nat.le_refl _) _ D _ _ (by have := HD.out; have := Bc.size; omega) hK rfl rfl)⟩)⟩
end Go.Proofs
