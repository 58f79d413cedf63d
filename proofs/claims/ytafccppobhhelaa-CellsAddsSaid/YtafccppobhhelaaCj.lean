/- Last. -/
import Derived.Test.YtafccppobhhelaaCi
namespace Go.Proofs
open Go.RowKit Go.Shelf
attribute [local go_sem] Oper.semAt_some

/-- A variable of one cell that is no aggregate. -/
theorem load_one {P : Program} {w : World} {B : Nat} {t ty : TypeId} {v : Value} (h : Rows8 w B t #[v]) (hu : (P.underlying ty).map (fun d => match d with | .struct _ => true | .array _ _ => true | _ => false) = some false) :
    (loadVar ty ⟨B, 0, none⟩).run P w = .ok v w := by
  obtain ⟨d, hd, he⟩ := Option.map_eq_some_iff.1 hu
  have hc := h.cell 0
  simp at hc
  have hagg : (isAgg ty).run P w = .ok false w := by
    unfold isAgg
    rw [Sem.run_bind, run_underlying hd w]
    cases d <;> simp_all
  simp [loadVar, Sem.run_bind, hagg, Result.andThen, hc]
theorem results_cc {P : Program} {fn : Func} {p q : Tmp} {ty uy : TypeId} (h : fn.results = #[.cell p ty, .cell q uy]) (tmps : Array Value) (w : World) (B C : Nat) (u v : Value)
    (hp : tmps.getD p undef = .pointer (some ⟨B, 0, none⟩)) (hq : tmps.getD q undef = .pointer (some ⟨C, 0, none⟩)) (h1 : (loadVar ty ⟨B, 0, none⟩).run P w = .ok u w) (h2 : (loadVar uy ⟨C, 0, none⟩).run P w = .ok v w) :
    (results fn tmps).run P w = .ok (.tuple #[u, v]) w := by
  have hp' : tmps[p]?.getD undef = .pointer (some ⟨B, 0, none⟩) := by simpa using hp
  have hq' : tmps[q]?.getD undef = .pointer (some ⟨C, 0, none⟩) := by simpa using hq
  simp [results, h, hp', hq', asAddr, h1, h2, Result.andThen]

theorem rows_put {W : World} {B D : Nat} {t : TypeId} {cs : Array Value} {x : Option (List Deferred)} {o : Obj} (h : Rows8 W B t cs) (hK : W.heap[D]? = some (.deferred x)) : Rows8 (W.putObj D o) B t cs := by
  have hne : B ≠ D := fun e => by
    subst e
    rw [show W.heap[B]? = _ from h] at hK
    cases hK
  exact (World.putObj_heap_other (r := D) (k := B) hne).trans h
/-- The last access that left one of these marks at the cell. -/
def lastOf (at_ : Int) (ms : List Mk) : Int × Bool := match (ms.reverse.filter fun m => m.pl == at_) with
  | [] => (0, false)
  | m :: _ => (m.no, true)
theorem filt_bwd (at_ : Int) (ms : List Mk) : filt at_ (bwd ms) = ms.reverse.filter fun m => m.pl == at_ := by
  unfold filt
  rw [bwd_marks]
theorem filt_fwd (at_ : Int) (ms : List Mk) : filt at_ (fwd ms) = ms.filter fun m => m.pl == at_ := by
  unfold filt
  rw [fwd_marks]

set_option maxRecDepth 100000 in
set_option maxHeartbeats 4000000 in
theorem Try.Last_any (n₀ : Nat) (v : Value) (ms : List Mk) (hlen : ms.length ≤ 1000) (at_ : Int) (w : World) (hM : OwnsMarks n₀ ms v w) :
    Calls Try.prog 32 #[v, .int .i64 at_] w fun e w' => e = .returned (.tuple #[.int .i64 (lastOf at_ ms).1, .bool (lastOf at_ ms).2]) ∧ Below w.heap.size w w' := by
  obtain ⟨a, cap, rfl⟩ : ∃ a cap, v = .slice a ms.length cap := by
    obtain ⟨_, a, cap, h, _⟩ := rowAt_own hM
    exact ⟨a, cap, h⟩
  refine (callsIn_wide (n := 9)).1 ?_
  refine callsIn_of_wp_marks Try.func32 rfl trivial ?_ rfl
  simp only [Try.ntmps32, List.size_toArray, List.length_cons, List.length_nil, Nat.reduceAdd, Nat.reduceSub, Array.replicate_succ, Array.replicate_zero, List.push_toArray, List.append_toArray, List.nil_append, List.cons_append]
  have HM := Lib.hid hM
  clear hM
  gi_wp2_with (first | (refine ⟨trivial, ?_⟩; gi_at_call 69; refine (callsIn_wide.2 (Try.backward_any _ _ _ _)).mono ?_; rintro e w' ⟨rfl, rfl⟩) | (refine ⟨trivial, ?_⟩; gi_at_call 72; refine (callsIn_wide.2 (Try.of_any _ _ _ ⟨_, _, rfl⟩)).mono ?_; rintro e w' ⟨rfl, rfl⟩))
  obtain ⟨wa, ha⟩ : ∃ wa, wa = (w.alloc (.cells #[.int .i64 0] 3)).alloc (.cells #[.bool false] 4) := ⟨_, rfl⟩
  obtain ⟨wb, hb⟩ : ∃ wb, wb = wa.alloc (.cells #[.slice a ms.length cap] 40) := ⟨_, rfl⟩
  obtain ⟨wc, hc⟩ : ∃ wc, wc = (wb.alloc (.cells #[.func (.func 95) #[] #[.pointer (some ⟨w.heap.size + 1 + 1, 0, none⟩)]] 111)).alloc (.cells #[.int .i64 at_] 3) := ⟨_, rfl⟩
  have za : wa.heap.size = w.heap.size + 2 := by rw [ha]; simp
  have zb : wb.heap.size = w.heap.size + 3 := by rw [hb]; simp [za]
  have zc : wc.heap.size = w.heap.size + 5 := by rw [hc]; simp [zb]
  have a4 : Rows8 wa w.heap.size 3 #[.int .i64 0] := by rw [ha]; exact (Rows8.new w _ _).alloc _
  have a5 : Rows8 wa (w.heap.size + 1) 4 #[.bool false] := by
    rw [ha]
    have h := Rows8.new (w.alloc (.cells #[.int .i64 0] 3)) 4 #[.bool false]
    rwa [World.size_alloc] at h
  have Ba : Below w.heap.size w wa := by rw [ha]; exact ((Below.refl _ w).alloc (Nat.le_refl _) _).alloc (by simp) _
  have bs : Rows8 wb (w.heap.size + 1 + 1) 40 #[.slice a ms.length cap] := by
    rw [hb]
    have h := Rows8.new wa 40 #[.slice a ms.length cap]
    rwa [za] at h
  have Bb : Below w.heap.size w wb := by rw [hb]; exact Ba.alloc (by omega) _
  have b4 : Rows8 wb w.heap.size 3 #[.int .i64 0] := by rw [hb]; exact a4.alloc _
  have b5 : Rows8 wb (w.heap.size + 1) 4 #[.bool false] := by rw [hb]; exact a5.alloc _
  have Bc : Below w.heap.size w wc := by rw [hc]; exact (Bb.alloc (by omega) _).alloc (by simp; omega) _
  have Bbc : Below wb.heap.size wb wc := by rw [hc]; exact ((Below.refl _ wb).alloc (Nat.le_refl _) _).alloc (by simp) _
  have c4 : Rows8 wc w.heap.size 3 #[.int .i64 0] := b4.below Bbc b4.lt
  have c5 : Rows8 wc (w.heap.size + 1) 4 #[.bool false] := b5.below Bbc b5.lt
  have q1 : Rows8 wc (w.heap.size + 1 + 1 + 1) 111 #[.func (.func 95) #[] #[.pointer (some ⟨w.heap.size + 1 + 1, 0, none⟩)]] := by
    rw [hc]
    have h := (Rows8.new wb 111 #[.func (.func 95) #[] #[.pointer (some ⟨w.heap.size + 1 + 1, 0, none⟩)]]).alloc (.cells #[.int .i64 at_] 3)
    rwa [zb] at h
  have q2 : Rows8 wc (w.heap.size + 1 + 1 + 1 + 1) 3 #[.int .i64 at_] := by
    rw [hc]
    have h := Rows8.new (wb.alloc (.cells #[.func (.func 95) #[] #[.pointer (some ⟨w.heap.size + 1 + 1, 0, none⟩)]] 111)) 3 #[.int .i64 at_]
    rwa [World.size_alloc, zb] at h
  have Mc : OwnsMarks n₀ ms (.slice a ms.length cap) wc := owns_keep HM.out Bc (Nat.le_refl _)
  have bsc := bs.below Bbc bs.lt
  rw [show (((((w.alloc (.cells #[.int .i64 0] 3)).alloc (.cells #[.bool false] 4)).alloc (.cells #[.slice a ms.length cap] 40)).alloc (.cells #[.func (.func 95) #[] #[.pointer (some ⟨w.heap.size + 1 + 1, 0, none⟩)]] 111)).alloc (.cells #[.int .i64 at_] 3)) = wc from by rw [hc, hb, ha]]
  have hbsz : w.heap.size ≤ wc.heap.size := Bc.size
  clear ha hb hc Ba Bb b4 b5 a4 a5 bs Bbc za zb
  have htl := Try.of_tells 8 (w.heap.size + 1 + 1 + 1) (w.heap.size + 1 + 1 + 1 + 1) 95 (by decide) #[.pointer (some ⟨w.heap.size + 1 + 1, 0, none⟩)] at_ (bwd ms) wc q1 q2 (fun _ _ => by kernel_rfl) (by rw [bwd_length]; exact Try.backward_tells 7 n₀ (w.heap.size + 1 + 1) (by decide) a cap ms hlen wc bsc Mc)
  refine range_tells rfl (by decide) (gf := 96) (lb := #[.pointer (some ⟨w.heap.size + 1 + 1 + 1, 0, none⟩), .pointer (some ⟨w.heap.size + 1 + 1 + 1 + 1, 0, none⟩)]) rfl trivial (fun _ _ => by kernel_rfl) htl tk_t tk_b (Below.refl _ _) (fun _ => rfl)
    (fun pre W' => pre = [] ∧ Rows8 W' w.heap.size 3 #[.int .i64 0] ∧ Rows8 W' (w.heap.size + 1) 4 #[.bool false] ∧ Below w.heap.size w W')
    (fun c pre W' => c = .ret ∧ ∃ m : Mk, pre = [m] ∧ Rows8 W' w.heap.size 3 #[.int .i64 m.no] ∧ Rows8 W' (w.heap.size + 1) 4 #[.bool true] ∧ Below w.heap.size w W')
    (OwnFrom.and (ownFrom_pure _ _) (OwnFrom.and (Own.from (Rows8.own _ _ _) _) (OwnFrom.and (Own.from (Rows8.own _ _ _) _) (ownFrom_below (Nat.le_refl _) hbsz))))
    (fun c s X Y row hs hg hr => by
      obtain ⟨h1, m, h2, h3, h4, h5⟩ := hs
      exact ⟨h1, m, h2, Own.from (Rows8.own (β := Unit) _ _ (fun _ => _)) _ () X Y row h3 hg hr, Own.from (Rows8.own (β := Unit) _ _ (fun _ => _)) _ () X Y row h4 hg hr, ownFrom_below (β := Unit) (Nat.le_refl _) hbsz () X Y row h5 hg hr⟩)
    ⟨rfl, c4, c5, Bc⟩
    (fun x a' W' => ∃ Bx, Rows8 W' Bx 47 #[.int .i64 x.no, .int .i64 x.pl, .int .u64 x.was, .int .u64 x.is] ∧ a' = { tmps := #[.slice a ms.length cap, .int .i64 at_, undef, undef, .pointer (some ⟨w.heap.size, 0, none⟩), .pointer (some ⟨w.heap.size + 1, 0, none⟩), .pointer (some ⟨Bx, 0, none⟩), .slice a ms.length cap, .func (.func 95) #[] #[.pointer (some ⟨w.heap.size + 1 + 1, 0, none⟩)], .int .i64 at_, .func (.func 96) #[] #[.pointer (some ⟨w.heap.size + 1 + 1 + 1, 0, none⟩), .pointer (some ⟨w.heap.size + 1 + 1 + 1 + 1, 0, none⟩)], .agg #[.int .i64 x.no, .int .i64 x.pl, .int .u64 x.was, .int .u64 x.is], undef, undef], defers := [] })
    (fun x a' s X Y row hs hg hr => by obtain ⟨Bx, h1, h2⟩ := hs; exact ⟨Bx, Own.from (Rows8.own (β := Unit) Bx _ (fun _ => _)) _ s X Y row h1 hg hr, h2⟩) ?assign ?body ?done ?stop
  case assign =>
    rintro l2 pre ⟨no, pl, was, is⟩ W' K ⟨hp, h4, h5, hB⟩ hK
    unfold encM1
    gi_wp2
    exact hK _ _ ((KeepsOthers.alloc _ _).from _) (Tk.alloc _ _) ⟨hp, h4.alloc _, h5.alloc _, hB.alloc hB.size _⟩ ⟨W'.heap.size, Rows8.new _ _ _, rfl⟩
  case body =>
    rintro l2 pre ⟨no, pl, was, is⟩ a' W' ⟨rfl, h4, h5, hB⟩ ⟨Bx, hbx, rfl⟩ hlen
    have y0 := hbx.cell 0
    have z4 := h4.cell 0
    have z5 := h5.cell 0
    have f4 := h4.frozen 0
    have f5 := h5.frozen 0
    simp at y0 z4 z5
    have e4 := (h4.set 0 (.int .i64 no)).setOther (a := ⟨w.heap.size + 1, 0, none⟩) (by simp) (.bool true)
    have e5 := (h5.setOther (a := ⟨w.heap.size, 0, none⟩) (by simp) (.int .i64 no)).set 0 (.bool true)
    simp only [List.setIfInBounds_toArray, List.set_cons_zero] at e4 e5
    have HE4 := Lib.hid e4
    have HE5 := Lib.hid e5
    clear h4 h5 hbx e4 e5
    gi_wp2
    exact ⟨((KeepsOthers.setCell _ _ _).trans (KeepsOthers.setCell _ _ _)).from _, rfl, _, rfl, HE4.out, HE5.out, (hB.setCell (p := ⟨w.heap.size, 0, none⟩) (Nat.le_refl _) _).setCell (p := ⟨w.heap.size + 1, 0, none⟩) (by simp) _⟩
  case done =>
    rintro D ys W' hD rfl ⟨hp, h4, h5, hB⟩ hK
    rw [filt_bwd] at hp
    have hlo : lastOf at_ ms = (0, false) := by unfold lastOf; rw [hp]
    have z4 := h4.cell 0
    have z5 := h5.cell 0
    have f4 := h4.frozen 0
    have f5 := h5.frozen 0
    simp at z4 z5
    have e4 := (h4.set 0 (.int .i64 0)).setOther (a := ⟨w.heap.size + 1, 0, none⟩) (by simp) (.bool false)
    have e5 := (h5.setOther (a := ⟨w.heap.size, 0, none⟩) (by simp) (.int .i64 0)).set 0 (.bool false)
    simp only [List.setIfInBounds_toArray, List.set_cons_zero] at e4 e5
    have HE4 := Lib.hid e4
    have HE5 := Lib.hid e5
    have HLO := Lib.hid hlo
    have hK' := ((KeepsOthers.setCell W' ⟨w.heap.size, 0, none⟩ (.int .i64 0)).trans (KeepsOthers.setCell _ ⟨w.heap.size + 1, 0, none⟩ (.bool false))).same D _ hK rfl
    have hB' := (hB.setCell (p := ⟨w.heap.size, 0, none⟩) (Nat.le_refl _) (.int .i64 0)).setCell (p := ⟨w.heap.size + 1, 0, none⟩) (by simp) (.bool false)
    clear h4 h5 e4 e5 hlo hp
    gi_wp2
    refine ⟨by simp, .inl ⟨_, _, rfl, run_takeDeferred hK', ?_⟩⟩
    exact ⟨_, results_cc rfl _ _ w.heap.size (w.heap.size + 1) _ _ rfl rfl (load_one (rows_put HE4.out hK') (by kernel_rfl)) (load_one (rows_put HE5.out hK') (by kernel_rfl)), by rw [HLO.out], hB'.trans (belowK_b (w := w) (Nat.le_refl _) _ D _ _ (by omega) hK' rfl rfl)⟩
  case stop =>
    rintro D c pre W' hD hp ⟨rfl, m, rfl, h4, h5, hB⟩ hK
    rw [filt_bwd] at hp
    have hlo : lastOf at_ ms = (m.no, true) := by
      obtain ⟨r, hr⟩ := hp
      unfold lastOf
      rw [← hr]
      rfl
    have HLO := Lib.hid hlo
    clear hlo hp
    gi_wp2
    refine ⟨by simp, .inl ⟨_, _, rfl, run_takeDeferred hK, ?_⟩⟩
    exact ⟨_, results_cc rfl _ _ w.heap.size (w.heap.size + 1) _ _ rfl rfl (load_one (rows_put h4 hK) (by kernel_rfl)) (load_one (rows_put h5 hK) (by kernel_rfl)), by rw [HLO.out], hB.trans (belowK_b (w := w) (Nat.le_refl _) _ D _ _ (by omega) hK rfl rfl)⟩
end Go.Proofs
