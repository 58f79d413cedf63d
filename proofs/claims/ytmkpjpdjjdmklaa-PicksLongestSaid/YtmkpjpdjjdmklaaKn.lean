/- run. -/
import Derived.Test.YtmkpjpdjjdmklaaKl
namespace Go.Proofs
open Go.RowKit Go.Shelf
attribute [local go_sem] Oper.semAt_some

theorem rows_put {W : World} {B D : Nat} {t : TypeId} {cs : Array Value} {x : Option (List Deferred)} {o : Obj} (h : Rows8 W B t cs) (hK : W.heap[D]? = some (.deferred x)) : Rows8 (W.putObj D o) B t cs := by
  refine (World.putObj_heap_other (fun e => ?_)).trans h
  subst e
  rw [show W.heap[B]? = _ from h] at hK
  cases hK
theorem keepsFrom_trans {B : Nat} {X Y Z : World} (h : KeepsFrom B X Y) (k : KeepsFrom B Y Z) : KeepsFrom B X Z := ⟨Nat.le_trans h.size k.size, fun q o hq ho hc => k.same q o hq (h.same q o hq ho hc) hc⟩
/-- The turns that are told. -/
def turnsR {w₀ : World} (xs : List (Nat × Rt w₀)) : List Tn := xs.map fun x => x.2.t
theorem lead_prefix {g : Int} {l pre : List Tn} {t : Tn} (h : pre ++ [t] <+: l) (hp : ∀ u ∈ pre, starveB g u = true) (ht : starveB g t = false) : leadB g l = pre.length := by
  obtain ⟨r, rfl⟩ := h
  unfold leadB
  rw [List.append_assoc, List.takeWhile_append_of_pos hp]
  simp [ht]

set_option maxRecDepth 100000 in
set_option maxHeartbeats 4000000 in
theorem Try.run_any (g : Int) (Bp gf : Nat) (lb : Array Value) {w₀ : World} (xs : List (Nat × Rt w₀)) (hlen : xs.length ≤ 100000) (w : World) (hw₀ : Below w₀.heap.size w₀ w) (hb : Rows8 w Bp 3 #[.int .i64 g])
    (eg : ∀ args w, (callFunc gf args).run Try.prog w = .ok (.enter gf args) w) (hT : TellsR Try.prog gf lb xs w) :
    Calls Try.prog 48 #[.func (.func gf) #[] lb, .func (.func 60) #[] #[.pointer (some ⟨Bp, 0, none⟩)]] w fun e w' => e = .returned (.int .i64 (leadB g (turnsR xs) : Nat)) ∧ Below w.heap.size w w' := by
  refine (callsIn_wide (n := 3)).1 ?_
  refine callsIn_of_wp_marks Try.func48 rfl trivial ?_ rfl
  simp only [Try.ntmps48, List.size_toArray, List.length_cons, List.length_nil, Nat.reduceAdd, Nat.reduceSub, Array.replicate_succ, Array.replicate_zero, List.push_toArray, List.append_toArray, List.nil_append, List.cons_append]
  have HT := Lib.hid hT
  have HB0 := Lib.hid hb
  have HW0 := Lib.hid hw₀
  have hbl := hb.lt
  clear hT hb hw₀
  gi_wp2_with fail
  have b0 := (Rows8.new w 57 #[.func (.func 60) #[] #[.pointer (some ⟨Bp, 0, none⟩)]]).alloc (.cells #[.int .i64 0] 3)
  have b1 := Rows8.new (w.alloc (.cells #[.func (.func 60) #[] #[.pointer (some ⟨Bp, 0, none⟩)]] 57)) 3 #[.int .i64 0]
  rw [World.size_alloc] at b1
  have hBw : Below w.heap.size w ((w.alloc (.cells #[.func (.func 60) #[] #[.pointer (some ⟨Bp, 0, none⟩)]] 57)).alloc (.cells #[.int .i64 0] 3)) := ((Below.refl _ w).alloc (Nat.le_refl _) _).alloc (by simp) _
  have hsz : ((w.alloc (.cells #[.func (.func 60) #[] #[.pointer (some ⟨Bp, 0, none⟩)]] 57)).alloc (.cells #[.int .i64 0] 3)).heap.size = w.heap.size + 2 := by simp
  generalize ((w.alloc (.cells #[.func (.func 60) #[] #[.pointer (some ⟨Bp, 0, none⟩)]] 57)).alloc (.cells #[.int .i64 0] 3)) = W0 at *
  have HSZ := Lib.hid hsz
  have hwz : w.heap.size ≤ W0.heap.size := hBw.size
  clear hsz
  refine wpIn_rangeFunc_ownH rfl (by decide) (gf := gf) (lb := lb) rfl trivial eg
    (HT.out W0.heap.size (w.heap.size + 1) W0 hBw rfl (by omega)) but_t (but_b (Nat.le_refl _)) (Below.refl _ _) (fun _ => rfl)
    (fun pre W => (∀ u ∈ turnsR pre, starveB g u = true) ∧ Rows8 W (w.heap.size + 1) 3 #[.int .i64 (pre.length : Nat)] ∧ Rows8 W w.heap.size 57 #[.func (.func 60) #[] #[.pointer (some ⟨Bp, 0, none⟩)]] ∧ Below w.heap.size w W ∧ W0.heap.size ≤ W.heap.size)
    (fun c pre W => (c = .exit 0 ∧ ∃ (p : List (Nat × Rt w₀)) (y : Nat × Rt w₀), pre = p ++ [y] ∧ (∀ u ∈ turnsR p, starveB g u = true) ∧ starveB g y.2.t = false ∧ Rows8 W (w.heap.size + 1) 3 #[.int .i64 (p.length : Nat)]) ∧ Below w.heap.size w W)
    (OwnFrom.and (ownFrom_pure _ _) (OwnFrom.and (Own.from (Rows8.own _ _ _) _) (OwnFrom.and (Own.from (Rows8.own _ _ _) _) (OwnFrom.and (ownFrom_below (Nat.le_refl _) hwz) (fun s X Y row hs hg hr => Nat.le_trans hs hg.size)))))
    (fun c => OwnFrom.and (fun s X Y row hs hg hr => by
      obtain ⟨h1, p, y, h2, h3, h4, h5⟩ := hs
      exact ⟨h1, p, y, h2, h3, h4, Own.from (Rows8.own (β := Unit) _ _ (fun _ => _)) _ () X Y row h5 hg hr⟩) (ownFrom_below (Nat.le_refl _) hwz))
    ⟨by simp [turnsR], b1, b0, hBw, Nat.le_refl _⟩
    (fun x a' W' => ∃ Bx, Rows8 W' Bx 47 #[.slice x.2.a x.2.t.can.length x.2.c, .int .i64 x.2.t.ch] ∧ a' = { tmps := #[.func (.func gf) #[] lb, .func (.func 60) #[] #[.pointer (some ⟨Bp, 0, none⟩)], undef, .pointer (some ⟨w.heap.size, 0, none⟩), .int .i64 0, .pointer (some ⟨w.heap.size + 1, 0, none⟩), undef, .pointer (some ⟨Bx, 0, none⟩), .func (.func gf) #[] lb, .int .i64 (x.1 : Nat), .agg #[.slice x.2.a x.2.t.can.length x.2.c, .int .i64 x.2.t.ch], undef, undef, undef, undef, undef, undef, undef], defers := [] })
    (fun x a' s X Y row hs hg hr => by obtain ⟨Bx, h1, h2⟩ := hs; exact ⟨Bx, Own.from (Rows8.own (β := Unit) Bx _ (fun _ => _)) _ s X Y row h1 hg hr, h2⟩) ?assign ?body ?done ?stop
  case assign =>
    rintro l2 pre ⟨i, a, c, t, ok⟩ W' K ⟨hp, h4, h5, hB, hz⟩ hK
    unfold encR
    gi_wp2
    exact hK _ _ ((KeepsOthers.alloc _ _).from _) ((But.refl _ _ _).alloc hz _) ⟨hp, h4.alloc _, h5.alloc _, hB.alloc hB.size _, by simp; omega⟩ ⟨W'.heap.size, Rows8.new _ _ _, rfl⟩
  case body =>
    rintro l2 pre ⟨i, a, c, ⟨can, ch⟩, ok⟩ a' W' _ _ ⟨hp, h4, h5, hB, hz⟩ ⟨Bx, hbx, rfl⟩ hlen
    have y0 : W'.cell? ⟨Bx, 0, none⟩ = some (.slice a can.length c) := hbx.cell 0
    have y1 : W'.cell? ⟨Bx, 1, none⟩ = some (.int .i64 ch) := hbx.cell 1
    have z5 : W'.cell? ⟨w.heap.size, 0, none⟩ = some (.func (.func 60) #[] #[.pointer (some ⟨Bp, 0, none⟩)]) := h5.cell 0
    have hin : IntsAt W' (.slice a can.length c) can := RowAt.below (RowAt.below ok HW0.out) hB
    have hcon := Try.passes1_any g Bp a can.length c can ch rfl W' hin (HB0.out.below hB HB0.out.lt)
    have HC := Lib.hid hcon
    have H4 := Lib.hid h4
    have H5 := Lib.hid h5
    have HB := Lib.hid hB
    have HP := Lib.hid hp
    clear hcon h4 h5 hB hbx hin hp
    have hpl : (pre.length : Int) ≤ 100000 := by omega
    cases hs : starveB g ⟨can, ch⟩ with
    | true =>
      rw [hs] at HC
      have HS := Lib.hid hs
      clear hs
      gi_wp2_with fail
      refine ⟨trivial, ?_⟩
      refine (CallsIn.inRound l2 (callsIn_wide.2 HC.out)).mono ?_
      rintro e W1 ⟨rfl, hB1⟩
      have r4 := H4.out.below hB1 H4.out.lt
      have r5 := H5.out.below hB1 H5.out.lt
      have c4 := r4.cell 0
      have f4 := r4.frozen 0
      simp at c4
      have s4 := r4.set 0 (.int .i64 ((pre.length : Int) + 1))
      simp only [List.setIfInBounds_toArray, List.set_cons_zero] at s4
      have s5 := r5.setOther (a := ⟨w.heap.size + 1, 0, none⟩) (by simp) (.int .i64 ((pre.length : Int) + 1))
      have S4 := Lib.hid s4
      have S5 := Lib.hid s5
      have HB2 := Lib.hid ((HB.out.trans (hB1.mono HB.out.size)).setCell (p := ⟨w.heap.size + 1, 0, none⟩) (by simp) (.int .i64 ((pre.length : Int) + 1)))
      have HB1 := Lib.hid hB1
      clear r4 r5 s4 s5 hB1
      gi_wp2
      refine ⟨keepsFrom_trans (keepsFrom_below HB1.out) ((KeepsOthers.setCell _ _ _).from _), (But.of_below (HB1.out.mono hz)).setCell _ _, ?_, ?_, S5.out, HB2.out, ?_⟩
      · intro u hu
        unfold turnsR at hu
        rw [List.map_append, List.mem_append] at hu
        rcases hu with hu | hu
        · exact HP.out u hu
        · obtain rfl : u = ⟨can, ch⟩ := by simpa using hu
          exact HS.out
      · have := S4.out
        simpa using this
      · have := HB1.out.size
        simp [World.setCell]
        omega
    | false =>
      rw [hs] at HC
      have HS := Lib.hid hs
      clear hs
      gi_wp2_with fail
      refine ⟨trivial, ?_⟩
      refine (CallsIn.inRound l2 (callsIn_wide.2 HC.out)).mono ?_
      rintro e W1 ⟨rfl, hB1⟩
      have S4 := Lib.hid (H4.out.below hB1 H4.out.lt)
      have HB2 := Lib.hid (HB.out.trans (hB1.mono HB.out.size))
      have HB1 := Lib.hid hB1
      clear hB1
      gi_wp2
      exact ⟨keepsFrom_below HB1.out, ⟨rfl, pre, _, rfl, HP.out, HS.out, S4.out⟩, HB2.out⟩
  case done =>
    rintro D ys W' hD rfl ⟨hp, h4, h5, hB, hz⟩ hK
    have c4 := h4.cell 0
    simp at c4
    have hld : Hid (leadB g (turnsR ys) = ys.length) := Lib.hid (by rw [(leadB_all g (turnsR ys)).2 hp]; simp [turnsR])
    have HB := Lib.hid hB
    clear h4 h5 hB hp
    gi_wp2
    refine ⟨by simp, .inl ⟨_, _, rfl, run_takeDeferred hK, ?_⟩⟩
    exact ⟨_, results_tmp rfl _ _ _, by rw [hld.out]; rfl, HB.out.trans (belowK_b (w := w) (Nat.le_refl _) W' D _ _ (by omega) hK rfl rfl)⟩
  case stop =>
    rintro D c pre W' hD hp ⟨⟨rfl, p, y, rfl, h2, h3, h4⟩, hB⟩ hK
    have c4 := h4.cell 0
    simp at c4
    have hld : Hid (leadB g (turnsR xs) = p.length) := Lib.hid (by
      rw [lead_prefix (pre := turnsR p) (t := y.2.t) (by
        obtain ⟨r, hr⟩ := hp
        exact ⟨turnsR r, by rw [← hr]; simp [turnsR]⟩) h2 h3]
      simp [turnsR])
    have HB := Lib.hid hB
    clear h4 hB hp h2 h3
    gi_wp2
    refine ⟨by simp, .inl ⟨_, _, rfl, run_takeDeferred hK, ?_⟩⟩
    exact ⟨_, results_tmp rfl _ _ _, by rw [hld.out]; rfl, HB.out.trans (belowK_b (w := w) (Nat.le_refl _) W' D _ _ (by omega) hK rfl rfl)⟩
end Go.Proofs
