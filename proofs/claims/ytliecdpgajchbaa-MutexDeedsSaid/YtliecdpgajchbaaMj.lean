/- ahead. -/
import Derived.Test.YtliecdpgajchbaaMi
namespace Go.Proofs
open Go.RowKit Go.Shelf
attribute [local go_sem] Oper.semAt_some

def ownAt (ms : List Mx) (k : Nat) : Int := (ms[k]?.getD default).own
/-- Who has what a goroutine waits for, and 1; 0, if it waits for none. -/
def aheadB (ms : List Mx) (g : Int) : Int := if waitsB ms g = -1 then 0 else ownAt ms (waitsB ms g).toNat
def lastP (ms : List Mx) (pre : List (Int × Nat)) (k : Nat) : Int := match pre.reverse.find? (fun y => y.1 == (k : Int)) with
  | none => 0
  | some y => ownAt ms y.2
theorem lastP_snoc (ms : List Mx) (pre : List (Int × Nat)) (z i : Nat) : (fun n => if n = z then ownAt ms i else lastP ms pre n) = lastP ms (pre ++ [((z : Int), i)]) := by
  funext n
  unfold lastP
  rw [List.reverse_append, List.reverse_singleton, List.singleton_append, List.find?_cons]
  by_cases h : n = z
  · subst h; simp
  · have h2 : ((z : Int) == (n : Int)) = false := by simp; omega
    simp only [h2, if_neg h]
theorem find_rev {l : List (Int × Nat)} (hn : (l.map Prod.fst).Nodup) (g : Int) : l.reverse.find? (fun y => y.1 == g) = l.find? (fun y => y.1 == g) := by
  induction l with
  | nil => rfl
  | cons y t ih =>
    rw [List.map_cons, List.nodup_cons] at hn
    rw [List.reverse_cons, List.find?_append, ih hn.2, List.find?_cons]
    by_cases h : y.1 = g
    · have h2 : (y.1 == g) = true := by simp [h]
      have h3 : t.find? (fun y => y.1 == g) = none := List.find?_eq_none.2 (fun u hu => by
        simp
        intro e
        exact hn.1 (by rw [h, ← e]; exact List.mem_map_of_mem hu))
      simp [h2, h3]
    · have h2 : (y.1 == g) = false := by simp [h]
      simp [h2]
theorem pairsF_fst (k : Nat) (ms : List Mx) : (pairsF k ms).map Prod.fst = flatQ ms := by
  induction ms generalizing k with
  | nil => rfl
  | cons m t ih =>
    have e : flatQ (m :: t) = m.q ++ flatQ t := by simp [flatQ]
    rw [e, pairsF, List.map_append, ih, List.map_map]
    congr 1
    exact List.map_id _
theorem pairsF_snd (k : Nat) (ms : List Mx) (y : Int × Nat) (h : y ∈ pairsF k ms) : k ≤ y.2 ∧ y.2 < k + ms.length := by
  induction ms generalizing k with
  | nil => simp [pairsF] at h
  | cons m t ih =>
    rw [pairsF, List.mem_append] at h
    rcases h with h | h
    · obtain ⟨g, _, rfl⟩ := List.mem_map.1 h
      simp
    · have := ih (k + 1) h
      simp
      omega
theorem last_ahead {ms : List Mx} (hr : rightB ms = true) (k : Nat) : lastP ms (pairsB ms) k = aheadB ms k := by
  obtain ⟨_, _, hn⟩ := (rightB_iff ms).1 hr
  unfold lastP aheadB waitsB
  rw [find_rev (by rw [show pairsB ms = pairsF 0 ms from rfl, pairsF_fst]; exact hn), waitI_find]
  show (match (pairsF 0 ms).find? _ with | none => _ | some y => _) = _
  cases h : (pairsF 0 ms).find? (fun y => y.1 == (k : Int)) with
  | none => rfl
  | some y =>
    have h0 : ¬ ((y.2 : Int) = -1) := by omega
    dsimp only
    rw [if_neg h0, Int.toNat_natCast]
/-- A pair that is there. -/
def PairOk (ms : List Mx) (y : Int × Nat) : Prop := 0 ≤ y.1 ∧ y.1 < 8 ∧ y.2 < ms.length
theorem pairs_ok {ms : List Mx} (hr : rightB ms = true) : ∀ y ∈ pairsB ms, PairOk ms y := by
  obtain ⟨_, h1, _⟩ := (rightB_iff ms).1 hr
  intro y hy
  have h2 : y.1 ∈ flatQ ms := by
    rw [← pairsF_fst 0 ms]
    exact List.mem_map_of_mem hy
  obtain ⟨m, hm, hq⟩ := mem_flatQ.1 h2
  have h3 := ((h1 m hm).2 y.1 hq).1
  have h4 := pairsF_snd 0 ms y hy
  simp [goerB] at h3
  exact ⟨h3.1, by omega, by omega⟩
theorem pairs_sub {ms : List Mx} (hr : rightB ms = true) : ∃ ys : List {y : Int × Nat // PairOk ms y}, ys.map Subtype.val = pairsB ms :=
  ⟨(pairsB ms).attachWith _ (pairs_ok hr), List.attachWith_map_subtype_val _⟩

set_option maxRecDepth 100000 in
set_option maxHeartbeats 2000000 in
theorem Try.ahead_any (a : Option Addr) (n cap : Nat) (ms : List Mx) (hr : rightB ms = true) (w : World) (hI : MxAt w (.slice a n cap) ms) :
    Calls Try.prog 56 #[.slice a n cap] w fun e w' => e = .returned (.agg (arr8I fun k => aheadB ms k)) ∧ Below w.heap.size w w' := by
  obtain ⟨ys, hys⟩ := pairs_sub hr
  refine (callsIn_wide (n := 9)).1 ?_
  refine callsIn_of_wp_marks Try.func56 rfl trivial ?_ rfl
  simp only [Try.ntmps56, List.size_toArray, List.length_cons, List.length_nil, Nat.reduceAdd, Nat.reduceSub, Array.replicate_succ, Array.replicate_zero, List.push_toArray, List.append_toArray, List.nil_append, List.cons_append]
  have HI := Lib.hid hI
  clear hI
  gi_wp2_with (first | (refine ⟨trivial, ?_⟩; gi_at_call 55; refine (callsIn_wide.2 (Try.waiting_any _ _ _ _)).mono ?_; rintro e w' ⟨rfl, rfl⟩))
  obtain ⟨z8, hz8⟩ : ∃ z8 : Array Value, z8 = #[.int .i64 0, .int .i64 0, .int .i64 0, .int .i64 0, .int .i64 0, .int .i64 0, .int .i64 0, .int .i64 0] := ⟨_, rfl⟩
  rw [← hz8]
  have bx := (((Rows8.new w 60 #[.slice a n cap]).alloc (.cells z8 84)).alloc (.cells z8 84)).alloc (.cells #[.slice a n cap] 60)
  have br := ((Rows8.new (w.alloc (.cells #[.slice a n cap] 60)) 84 z8).alloc (.cells z8 84)).alloc (.cells #[.slice a n cap] 60)
  have bb := (Rows8.new ((w.alloc (.cells #[.slice a n cap] 60)).alloc (.cells z8 84)) 84 z8).alloc (.cells #[.slice a n cap] 60)
  have bm := Rows8.new (((w.alloc (.cells #[.slice a n cap] 60)).alloc (.cells z8 84)).alloc (.cells z8 84)) 60 #[.slice a n cap]
  have hBc : Below w.heap.size w ((((w.alloc (.cells #[.slice a n cap] 60)).alloc (.cells z8 84)).alloc (.cells z8 84)).alloc (.cells #[.slice a n cap] 60)) := (((Rows8.newB).alloc (by simp) _).alloc (by simp; omega) _).alloc (by simp; omega) _
  have hz : ((((w.alloc (.cells #[.slice a n cap] 60)).alloc (.cells z8 84)).alloc (.cells z8 84)).alloc (.cells #[.slice a n cap] 60)).heap.size = w.heap.size + 4 := by simp
  simp only [World.size_alloc] at br bb bm
  generalize ((((w.alloc (.cells #[.slice a n cap] 60)).alloc (.cells z8 84)).alloc (.cells z8 84)).alloc (.cells #[.slice a n cap] 60)) = W0 at *
  have hz0 : z8 = arr8I (fun k => lastP ms [] k) := by rw [hz8]; rfl
  rw [hz0] at bb
  rw [hz8] at br
  clear hz0 hz8
  have htl := Try.waiting1_tells Subtype.val ys 8 (by decide) (w.heap.size + 1 + 1 + 1) (w.heap.size + 1 + 1) a n cap ms hys w W0 (by omega) (by omega) hBc bm HI.out
  have HTL := Lib.hid htl
  have HYS := Lib.hid hys
  clear htl hys
  refine range_tellsB rfl (by decide) (gf := 61) (lb := #[.pointer (some ⟨w.heap.size + 1 + 1 + 1, 0, none⟩)]) rfl trivial (fun _ _ => by kernel_rfl) HTL.out kx_t kx_b (Below.refl _ _) (fun _ => rfl)
    (fun pre W' => Rows8 W' w.heap.size 60 #[.slice a n cap] ∧ Rows8 W' (w.heap.size + 1) 84 #[.int .i64 0, .int .i64 0, .int .i64 0, .int .i64 0, .int .i64 0, .int .i64 0, .int .i64 0, .int .i64 0] ∧ Rows8 W' (w.heap.size + 1 + 1) 84 (arr8I (fun k => lastP ms (pre.map Subtype.val) k)) ∧ Below w.heap.size w W')
    (fun _ _ _ => False)
    (OwnFrom.and (Own.from (Rows8.own _ _ _) _) (OwnFrom.and (Own.from (Rows8.own _ _ _) _) (OwnFrom.and (Own.from (Rows8.own _ _ _) _) (ownFrom_below (Nat.le_refl _) (by omega)))))
    (fun c s X Y row hs _ _ => hs)
    (fun s X Y hs hXY => ⟨hs.1.below hXY (by omega), hs.2.1.below hXY (by omega), hs.2.2.1.below hXY (by omega), hs.2.2.2.trans (hXY.mono (by omega))⟩)
    (fun c s X Y hs _ => hs)
    ⟨bx, br, bb, hBc⟩
    (fun x a' W' => a' = { tmps := #[.slice a n cap, .pointer (some ⟨w.heap.size, 0, none⟩), .pointer (some ⟨w.heap.size + 1, 0, none⟩), .pointer (some ⟨w.heap.size + 1 + 1, 0, none⟩), .int .i64 x.1.1, .int .i64 x.1.2, .slice a n cap, .func (.func 61) #[] #[.pointer (some ⟨w.heap.size + 1 + 1 + 1, 0, none⟩)], .int .i64 x.1.1, .int .i64 x.1.2, undef, undef, undef, undef, undef, undef, undef, undef], defers := [] })
    (fun x a' s X Y row hs _ _ => hs) ?assign ?body ?done ?stop
  case assign =>
    rintro l2 pre ⟨⟨z, i⟩, hzi⟩ W' K hI hK
    unfold encW
    gi_wp2
    refine hK _ _ (KeepsFrom.refl _ _) (Kx.refl _ _) hI ?_
    first | (simp; done) | rfl | (simp [go_sem]; done)
  case body =>
    rintro l2 pre ⟨⟨z, i⟩, hzi⟩ a' W' ⟨h0, h1, h2, hB⟩ rfl hlen
    obtain ⟨z1, z2, hi⟩ := hzi
    dsimp only at z1 z2 hi ⊢
    obtain ⟨k, rfl⟩ : ∃ k : Nat, z = (k : Int) := ⟨z.toNat, by omega⟩
    have hk : k < 8 := by omega
    obtain ⟨b, off, a', c', rfl, hb, hc1, -, -⟩ := mxAt_get (HI.out.below hB) i hi
    have hoa : ms[i].own = ownAt ms i := by simp [ownAt, hi]
    rw [hoa] at hc1
    have hn := (mxAt_len HI.out).1
    have c0 := h0.cell 0
    simp at c0
    have c2 := h2.cell k
    have f2 := h2.frozen k
    rw [arr8I_get _ k hk] at c2
    have r2 := h2.setI k hk (ownAt ms i)
    rw [lastP_snoc] at r2
    have r1 := h1.setOther (a := ⟨w.heap.size + 1 + 1, k, none⟩) (by simp) (.int .i64 (ownAt ms i))
    have r0 := h0.setOther (a := ⟨w.heap.size + 1 + 1, k, none⟩) (by simp; omega) (.int .i64 (ownAt ms i))
    have hB2 := hB.setCell (p := ⟨w.heap.size + 1 + 1, k, none⟩) (by simp; omega) (.int .i64 (ownAt ms i))
    have R0 := Lib.hid r0
    have R1 := Lib.hid r1
    have R2 := Lib.hid r2
    have HB2 := Lib.hid hB2
    have hin : (i : Int) < (n : Int) := by omega
    have hki : (k : Int) < 8 := by omega
    generalize ownAt ms i = ow at *
    generalize lastP ms (pre.map Subtype.val) k = old at *
    clear r0 r1 r2 hB2 h0 h1 h2 hn hoa
    gi_wp2
    exact ⟨(KeepsOthers.setCell _ _ _).from _, Kx.set _ _ _ _, R0.out, R1.out, by rw [List.map_append]; exact R2.out, HB2.out⟩
  case done =>
    rintro D xs W' hD rfl ⟨h0, h1, h2, hB⟩ hK
    rw [HYS.out] at h2
    rw [show (fun k => lastP ms (pairsB ms) k) = (fun k : Nat => aheadB ms k) from funext (fun k => last_ahead hr k)] at h2
    obtain ⟨q, hq⟩ : ∃ q : Nat → Int, q = fun k : Nat => aheadB ms k := ⟨_, rfl⟩
    rw [← hq] at h2
    have HQ := Lib.hid hq
    clear hq
    obtain ⟨c0, c1, c2, c3, c4, c5, c6, c7⟩ := h2.all8
    have f0 := h1.frozen 0
    have f1 := h1.frozen 1
    have f2 := h1.frozen 2
    have f3 := h1.frozen 3
    have f4 := h1.frozen 4
    have f5 := h1.frozen 5
    have f6 := h1.frozen 6
    have f7 := h1.frozen 7
    have d0 := h1.cell 0
    have d1 := h1.cell 1
    have d2 := h1.cell 2
    have d3 := h1.cell 3
    have d4 := h1.cell 4
    have d5 := h1.cell 5
    have d6 := h1.cell 6
    have d7 := h1.cell 7
    simp at d0 d1 d2 d3 d4 d5 d6 d7
    have R1 := Lib.hid h1
    have HB := Lib.hid hB
    clear h0 h1 h2 hB
    have hK' := ((((((((KeepsOthers.setCell W' ⟨w.heap.size + 1, 0, none⟩ (.int .i64 (q 0))).trans (KeepsOthers.setCell _ ⟨w.heap.size + 1, 1, none⟩ (.int .i64 (q 1)))).trans (KeepsOthers.setCell _ ⟨w.heap.size + 1, 2, none⟩ (.int .i64 (q 2)))).trans (KeepsOthers.setCell _ ⟨w.heap.size + 1, 3, none⟩ (.int .i64 (q 3)))).trans (KeepsOthers.setCell _ ⟨w.heap.size + 1, 4, none⟩ (.int .i64 (q 4)))).trans (KeepsOthers.setCell _ ⟨w.heap.size + 1, 5, none⟩ (.int .i64 (q 5)))).trans (KeepsOthers.setCell _ ⟨w.heap.size + 1, 6, none⟩ (.int .i64 (q 6)))).trans (KeepsOthers.setCell _ ⟨w.heap.size + 1, 7, none⟩ (.int .i64 (q 7)))).same D _ hK rfl
    have HK' := Lib.hid hK'
    clear hK'
    gi_wp2
    have hR := Rows8.set8 R1.out q
    have hB2 := below_set8 HB.out (show w.heap.size ≤ w.heap.size + 1 by omega) q
    refine ⟨by simp, .inl ⟨_, _, rfl, run_takeDeferred HK'.out, ?_⟩⟩
    exact ⟨_, results_c rfl _ _ (w.heap.size + 1) 84 (arr8I q) (0, 0) _ rfl (rows_put hR HK'.out) Try.underlying84 rfl (by kernel_rfl), by rw [HQ.out], hB2.trans (belowK_b (w := w) (Nat.le_refl _) _ D _ _ (by omega) HK'.out rfl rfl)⟩
  case stop =>
    rintro D c pre W' hD hp hf hK
    exact hf.elim
end Go.Proofs
