/- waits; Waits. -/
import Derived.Test.YtliecdpgajchbaaMh
namespace Go.Proofs
open Go.RowKit Go.Shelf
attribute [local go_sem] Oper.semAt_some

/-- For which mutex a goroutine waits, and whether. -/
def waitsP (ms : List Mx) (g : Int) : Int × Bool := if waitsB ms g = -1 then (0, false) else (waitsB ms g, true)
set_option maxRecDepth 100000 in
set_option maxHeartbeats 2000000 in
theorem Try.waits_any (g : Int) (a : Option Addr) (n cap : Nat) (ms : List Mx) (w : World) (hI : MxAt w (.slice a n cap) ms) :
    Calls Try.prog 37 #[.slice a n cap, .int .i64 g] w fun e w' => e = .returned (.tuple #[.int .i64 (waitsP ms g).1, .bool (waitsP ms g).2]) ∧ Below w.heap.size w w' := by
  refine (callsIn_wide (n := 9)).1 ?_
  refine callsIn_of_wp_marks Try.func37 rfl trivial ?_ rfl
  simp only [Try.ntmps37, List.size_toArray, List.length_cons, List.length_nil, Nat.reduceAdd, Nat.reduceSub, Array.replicate_succ, Array.replicate_zero, List.push_toArray, List.append_toArray, List.nil_append, List.cons_append]
  have HI := Lib.hid hI
  clear hI
  gi_wp2_with (first | (refine ⟨trivial, ?_⟩; gi_at_call 55; refine (callsIn_wide.2 (Try.waiting_any _ _ _ _)).mono ?_; rintro e w' ⟨rfl, rfl⟩))
  have bg := (((Rows8.new w 3 #[.int .i64 g]).alloc (.cells #[.int .i64 0] 3)).alloc (.cells #[.bool false] 4)).alloc (.cells #[.slice a n cap] 60)
  have br := ((Rows8.new (w.alloc (.cells #[.int .i64 g] 3)) 3 #[.int .i64 0]).alloc (.cells #[.bool false] 4)).alloc (.cells #[.slice a n cap] 60)
  have bb := (Rows8.new ((w.alloc (.cells #[.int .i64 g] 3)).alloc (.cells #[.int .i64 0] 3)) 4 #[.bool false]).alloc (.cells #[.slice a n cap] 60)
  have bm := Rows8.new (((w.alloc (.cells #[.int .i64 g] 3)).alloc (.cells #[.int .i64 0] 3)).alloc (.cells #[.bool false] 4)) 60 #[.slice a n cap]
  have hBc : Below w.heap.size w ((((w.alloc (.cells #[.int .i64 g] 3)).alloc (.cells #[.int .i64 0] 3)).alloc (.cells #[.bool false] 4)).alloc (.cells #[.slice a n cap] 60)) := (((Rows8.newB).alloc (by simp) _).alloc (by simp; omega) _).alloc (by simp; omega) _
  have hz : ((((w.alloc (.cells #[.int .i64 g] 3)).alloc (.cells #[.int .i64 0] 3)).alloc (.cells #[.bool false] 4)).alloc (.cells #[.slice a n cap] 60)).heap.size = w.heap.size + 4 := by simp
  simp only [World.size_alloc] at br bb bm
  generalize ((((w.alloc (.cells #[.int .i64 g] 3)).alloc (.cells #[.int .i64 0] 3)).alloc (.cells #[.bool false] 4)).alloc (.cells #[.slice a n cap] 60)) = W0 at *
  have htl := Try.waiting1_tells (fun y : Int × Nat => y) (pairsB ms) 8 (by decide) (w.heap.size + 1 + 1 + 1) (w.heap.size + 1) a n cap ms (by simp) w W0 (by omega) (by omega) hBc bm HI.out
  have HTL := Lib.hid htl
  clear htl
  refine range_tellsB rfl (by decide) (gf := 61) (lb := #[.pointer (some ⟨w.heap.size + 1 + 1 + 1, 0, none⟩)]) rfl trivial (fun _ _ => by kernel_rfl) HTL.out kx_t kx_b (Below.refl _ _) (fun _ => rfl)
    (fun pre W' => (∀ u ∈ pre, u.1 ≠ g) ∧ Rows8 W' w.heap.size 3 #[.int .i64 g] ∧ Rows8 W' (w.heap.size + 1) 3 #[.int .i64 0] ∧ Rows8 W' (w.heap.size + 1 + 1) 4 #[.bool false] ∧ Below w.heap.size w W')
    (fun c pre W' => c = .ret ∧ ∃ (p : List (Int × Nat)) (y : Int × Nat), pre = p ++ [y] ∧ (∀ u ∈ p, u.1 ≠ g) ∧ y.1 = g ∧ Rows8 W' (w.heap.size + 1) 3 #[.int .i64 y.2] ∧ Rows8 W' (w.heap.size + 1 + 1) 4 #[.bool true] ∧ Below w.heap.size w W')
    (OwnFrom.and (ownFrom_pure _ _) (OwnFrom.and (Own.from (Rows8.own _ _ _) _) (OwnFrom.and (Own.from (Rows8.own _ _ _) _) (OwnFrom.and (Own.from (Rows8.own _ _ _) _) (ownFrom_below (Nat.le_refl _) (by omega))))))
    (fun c s X Y row hs hg hr => by
      obtain ⟨h1, p, y, h2, h3, h4, h5, h6, h7⟩ := hs
      exact ⟨h1, p, y, h2, h3, h4, Own.from (Rows8.own (β := Unit) _ _ (fun _ => _)) _ () X Y row h5 hg hr, Own.from (Rows8.own (β := Unit) _ _ (fun _ => _)) _ () X Y row h6 hg hr, ownFrom_below (β := Unit) (Nat.le_refl _) (by omega) () X Y row h7 hg hr⟩)
    (fun s X Y hs hXY => ⟨hs.1, hs.2.1.below hXY (by omega), hs.2.2.1.below hXY (by omega), hs.2.2.2.1.below hXY (by omega), hs.2.2.2.2.trans (hXY.mono (by omega))⟩)
    (fun c s X Y hs hXY => by
      obtain ⟨h1, p, y, h2, h3, h4, h5, h6, h7⟩ := hs
      exact ⟨h1, p, y, h2, h3, h4, h5.below hXY (by omega), h6.below hXY (by omega), h7.trans (hXY.mono (by omega))⟩)
    ⟨(by simp), bg, br, bb, hBc⟩
    (fun x a' W' => a' = { tmps := #[.slice a n cap, .int .i64 g, undef, .pointer (some ⟨w.heap.size, 0, none⟩), .pointer (some ⟨w.heap.size + 1, 0, none⟩), .pointer (some ⟨w.heap.size + 1 + 1, 0, none⟩), .int .i64 x.1, .int .i64 x.2, .slice a n cap, .func (.func 61) #[] #[.pointer (some ⟨w.heap.size + 1 + 1 + 1, 0, none⟩)], .int .i64 x.1, .int .i64 x.2, undef, undef, undef, undef], defers := [] })
    (fun x a' s X Y row hs _ _ => hs) ?assign ?body ?done ?stop
  case assign =>
    rintro l2 pre ⟨z, i⟩ W' K hI hK
    unfold encW
    gi_wp2
    refine hK _ _ (KeepsFrom.refl _ _) (Kx.refl _ _) hI ?_
    first | (simp; done) | rfl | (simp [go_sem]; done)
  case body =>
    rintro l2 pre ⟨z, i⟩ a' W' ⟨hp, h3, h4, h5, hB⟩ rfl hlen
    have c3 := h3.cell 0
    have c4 := h4.cell 0
    have c5 := h5.cell 0
    have f4 := h4.frozen 0
    have f5 := h5.frozen 0
    simp at c3 c4 c5
    by_cases he : z = g
    · subst he
      have hq : (z == z) = true := by simp
      have e4 := (h4.set 0 (.int .i64 i)).setOther (a := ⟨w.heap.size + 1 + 1, 0, none⟩) (by simp) (.bool true)
      have e5 := (h5.setOther (a := ⟨w.heap.size + 1, 0, none⟩) (by simp) (.int .i64 i)).set 0 (.bool true)
      simp only [List.setIfInBounds_toArray, List.set_cons_zero] at e4 e5
      have HE4 := Lib.hid e4
      have HE5 := Lib.hid e5
      have hB2 := (hB.setCell (p := ⟨w.heap.size + 1, 0, none⟩) (by simp) (.int .i64 i)).setCell (p := ⟨w.heap.size + 1 + 1, 0, none⟩) (by simp; omega) (.bool true)
      have HP := Lib.hid hp
      have HB2 := Lib.hid hB2
      clear h3 h4 h5 e4 e5 hB2 hp
      gi_wp2
      exact ⟨((KeepsOthers.setCell _ _ _).trans (KeepsOthers.setCell _ _ _)).from _, rfl, pre, (z, i), rfl, HP.out, rfl, HE4.out, HE5.out, HB2.out⟩
    · have hq : (z == g) = false := by simp [he]
      have HP := Lib.hid (show ∀ u ∈ pre ++ [(z, i)], u.1 ≠ g from fun u hu => by
        rcases List.mem_append.1 hu with h | h
        · exact hp u h
        · simp at h
          subst h
          exact he)
      have HE3 := Lib.hid h3
      have HE4 := Lib.hid h4
      have HE5 := Lib.hid h5
      clear h3 h4 h5 hp he
      gi_wp2
      exact ⟨KeepsFrom.refl _ _, Kx.refl _ _, HP.out, HE3.out, HE4.out, HE5.out, hB⟩
  case done =>
    rintro D ys W' hD rfl ⟨hp, h3, h4, h5, hB⟩ hK
    have hw : Hid (waitsP ms g = (0, false)) := Lib.hid (by unfold waitsP; rw [if_pos (waits_none hp)])
    have z4 := h4.cell 0
    have z5 := h5.cell 0
    have f4 := h4.frozen 0
    have f5 := h5.frozen 0
    simp at z4 z5
    have e4 := (h4.set 0 (.int .i64 0)).setOther (a := ⟨w.heap.size + 1 + 1, 0, none⟩) (by simp) (.bool false)
    have e5 := (h5.setOther (a := ⟨w.heap.size + 1, 0, none⟩) (by simp) (.int .i64 0)).set 0 (.bool false)
    simp only [List.setIfInBounds_toArray, List.set_cons_zero] at e4 e5
    have HE4 := Lib.hid e4
    have HE5 := Lib.hid e5
    have hK' := ((KeepsOthers.setCell W' ⟨w.heap.size + 1, 0, none⟩ (.int .i64 0)).trans (KeepsOthers.setCell _ ⟨w.heap.size + 1 + 1, 0, none⟩ (.bool false))).same D _ hK rfl
    have hB' := (hB.setCell (p := ⟨w.heap.size + 1, 0, none⟩) (by simp) (.int .i64 0)).setCell (p := ⟨w.heap.size + 1 + 1, 0, none⟩) (by simp; omega) (.bool false)
    have HK' := Lib.hid hK'
    have HB' := Lib.hid hB'
    clear h3 h4 h5 e4 e5 hp hK' hB' hB
    gi_wp2
    refine ⟨by simp, .inl ⟨_, _, rfl, run_takeDeferred HK'.out, ?_⟩⟩
    exact ⟨_, results_cc rfl _ _ (w.heap.size + 1) (w.heap.size + 1 + 1) _ _ rfl rfl (load_one (rows_put HE4.out HK'.out) (by kernel_rfl)) (load_one (rows_put HE5.out HK'.out) (by kernel_rfl)), by rw [hw.out], HB'.out.trans (belowK_b (w := w) (Nat.le_refl _) _ D _ _ (by omega) HK'.out rfl rfl)⟩
  case stop =>
    rintro D c pre W' hD hpre ⟨rfl, p, y, rfl, h2, h3, h4, h5, hB⟩ hK
    have hws := waits_some hpre h2 h3
    have hw : Hid (waitsP ms g = ((y.2 : Int), true)) := Lib.hid (by unfold waitsP; rw [hws, if_neg (by omega)])
    clear hws hpre h2 h3
    gi_wp2
    refine ⟨by simp, .inl ⟨_, _, rfl, run_takeDeferred hK, ?_⟩⟩
    exact ⟨_, results_cc rfl _ _ (w.heap.size + 1) (w.heap.size + 1 + 1) _ _ rfl rfl (load_one (rows_put h4 hK) (by kernel_rfl)) (load_one (rows_put h5 hK) (by kernel_rfl)), by rw [hw.out], hB.trans (belowK_b (w := w) (Nat.le_refl _) _ D _ _ (by omega) hK rfl rfl)⟩

/-- .. of mutexes that may be. -/
def waitsR (ms : List Mx) (g : Int) : Int × Bool := if rightB ms = true then waitsP ms g else (0, false)
set_option maxHeartbeats 1000000 in
theorem Try.Waits_any (g : Int) (a : Option Addr) (n cap : Nat) (ms : List Mx) (w : World) (hI : MxAt w (.slice a n cap) ms) :
    Calls Try.prog 15 #[.slice a n cap, .int .i64 g] w fun e w' => e = .returned (.tuple #[.int .i64 (waitsR ms g).1, .bool (waitsR ms g).2]) ∧ Below w.heap.size w w' := by
  have hC := Try.Check_any a n cap ms w hI
  have hW := fun w' (h : Below w.heap.size w w') => Try.waits_any g a n cap ms w' (hI.below h)
  have he : errB ms = if rightB ms = true then 0 else 150 := rfl
  have hr : waitsR ms g = if rightB ms = true then waitsP ms g else (0, false) := rfl
  rw [hr]
  cases hq : rightB ms with
  | true =>
    rw [hq, if_pos rfl] at he
    rw [he] at hC
    rw [if_pos rfl]
    have HC := Lib.hid hC
    have HW := Lib.hid hW
    clear hC hW he hr hq hI
    go_enter Try.func15, Try.ntmps15
    go_wp2_with fail
    refine HC.out.mono ?_
    rintro e w' ⟨rfl, hB⟩
    have HB := Lib.hid hB
    clear hB
    go_wp2_with fail
    refine (HW.out _ HB.out).mono ?_
    rintro e w' ⟨rfl, hB⟩
    have HB2 := Lib.hid (HB.out.trans (hB.mono HB.out.size))
    clear hB
    go_wp2_with fail
    go_ret2
    exact ⟨rfl, HB2.out⟩
  | false =>
    rw [hq, if_neg (by decide)] at he
    rw [he] at hC
    rw [if_neg (by decide)]
    have HC := Lib.hid hC
    clear hC hW he hr hq hI
    go_enter Try.func15, Try.ntmps15
    go_wp2_with fail
    refine HC.out.mono ?_
    rintro e w' ⟨rfl, hB⟩
    have HB := Lib.hid hB
    clear hB
    go_wp2_with fail
    go_ret2
    exact ⟨rfl, HB.out⟩
end Go.Proofs
