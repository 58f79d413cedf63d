/- Laps. -/
import Derived.Test.YtmkpjpdjjdmklaaKr
namespace Go.Proofs
open Go.RowKit Go.Shelf
attribute [local go_sem] Oper.semAt_some

theorem Try.laps_any (N : Int) (a : Option Addr) (n cap : Nat) (w : World) :
    Calls Try.prog 43 #[.int .i64 N, .slice a n cap] w fun e w' => e = .returned (.func (.func 56) #[] #[.pointer (some ⟨w.heap.size + 1, 0, none⟩), .pointer (some ⟨w.heap.size, 0, none⟩)]) ∧ w' = (w.alloc (.cells #[.int .i64 N] 3)).alloc (.cells #[.slice a n cap] 32) := by
  go_enter Try.func43, Try.ntmps43
  go_wp2
  go_ret
  exact ⟨by simp, rfl⟩
def lapsR (N : Int) (ts : List Tn) : Int := if rightB N ts = true then (lapsB N.toNat ts : Nat) else 0

set_option maxRecDepth 100000 in
set_option maxHeartbeats 1000000 in
theorem Try.Laps_any (N : Int) (a : Option Addr) (n cap : Nat) (ts : List Tn) (hlen : n ≤ 1000) (w : World) (hI : TurnsAt w (.slice a n cap) ts) :
    Calls Try.prog 27 #[.int .i64 N, .slice a n cap] w fun e w' => e = .returned (.int .i64 (lapsR N ts)) ∧ Below w.heap.size w w' := by
  have hC := Try.Check_any N a n cap ts w hI
  have HC := Lib.hid hC
  have HI := Lib.hid hI
  clear hC hI
  cases hr : rightB N ts with
  | false =>
    have e1 : lapsR N ts = 0 := by unfold lapsR; rw [if_neg (by rw [hr]; decide)]
    have e2 : checkB N ts = 140 := by unfold checkB; rw [if_neg (by rw [hr]; decide)]
    rw [e1]
    rw [e2] at HC
    clear hr e1 e2
    go_enter Try.func27, Try.ntmps27
    go_wp2_with fail
    refine HC.out.mono ?_
    rintro e w' ⟨rfl, hB⟩
    have HB := Lib.hid hB
    clear hB
    go_wp2_with fail
    go_ret
    exact ⟨rfl, HB.out⟩
  | true =>
    obtain ⟨m, rfl, hm1, hm8⟩ := rightB_n hr
    have e1 : lapsR m ts = (lapsB m ts : Nat) := by unfold lapsR; rw [if_pos hr]; rfl
    have e2 : checkB m ts = 0 := by unfold checkB; rw [if_pos hr]
    rw [e1]
    rw [e2] at HC
    clear hr e1 e2
    refine (callsIn_wide (n := 5)).1 ?_
    refine callsIn_of_wp_marks Try.func27 rfl trivial ?_ rfl
    simp only [Try.ntmps27, List.size_toArray, List.length_cons, List.length_nil, Nat.reduceAdd, Nat.reduceSub, Array.replicate_succ, Array.replicate_zero, List.push_toArray, List.append_toArray, List.nil_append, List.cons_append]
    gi_wp2_with fail
    refine ⟨trivial, ?_⟩
    refine (callsIn_wide.2 HC.out).mono ?_
    rintro e w1 ⟨rfl, hB⟩
    gi_wp2_with fail
    refine ⟨trivial, ?_⟩
    refine (callsIn_wide.2 (Try.laps_any _ _ _ _ _)).mono ?_
    rintro e w2 ⟨rfl, rfl⟩
    have bm := ((Rows8.new w1 3 #[.int .i64 0]).alloc (.cells #[.int .i64 (m : Int)] 3)).alloc (.cells #[.slice a n cap] 32)
    have bn := (Rows8.new (w1.alloc (.cells #[.int .i64 0] 3)) 3 #[.int .i64 (m : Int)]).alloc (.cells #[.slice a n cap] 32)
    have bl := Rows8.new ((w1.alloc (.cells #[.int .i64 0] 3)).alloc (.cells #[.int .i64 (m : Int)] 3)) 32 #[.slice a n cap]
    simp only [World.size_alloc] at bn bl ⊢
    have hB3 : Below w1.heap.size w1 (((w1.alloc (.cells #[.int .i64 0] 3)).alloc (.cells #[.int .i64 (m : Int)] 3)).alloc (.cells #[.slice a n cap] 32)) := (((Below.refl _ w1).alloc (Nat.le_refl _) _).alloc (by simp) _).alloc (by simp; omega) _
    have hz3 : (((w1.alloc (.cells #[.int .i64 0] 3)).alloc (.cells #[.int .i64 (m : Int)] 3)).alloc (.cells #[.slice a n cap] 32)).heap.size = w1.heap.size + 3 := by simp
    generalize (((w1.alloc (.cells #[.int .i64 0] 3)).alloc (.cells #[.int .i64 (m : Int)] 3)).alloc (.cells #[.slice a n cap] 32)) = W0 at *
    have htl := Try.laps1_tells 4 m (by decide) hm8 (w1.heap.size + 1 + 1) (w1.heap.size + 1) w1.heap.size a n cap ts hlen w W0 hB.size (by omega) (hB.trans (hB3.mono hB.size)) (by omega) bl bn HI.out
    have HB0 := Lib.hid (hB.trans (hB3.mono hB.size))
    have hwz := hB.size
    have HTL := Lib.hid htl
    clear htl hB hB3 bl bn
    gi_wp2_with fail
    refine range_tellsB rfl (by decide) (gf := 56) (lb := #[.pointer (some ⟨w1.heap.size + 1 + 1, 0, none⟩), .pointer (some ⟨w1.heap.size + 1, 0, none⟩)]) rfl trivial (fun _ _ => by kernel_rfl) HTL.out kx_t kx_b (Below.refl _ _) (fun _ => rfl)
      (fun pre W' => Rows8 W' w1.heap.size 3 #[.int .i64 (pre.length : Nat)] ∧ Below w.heap.size w W')
      (fun _ _ _ => False)
      (OwnFrom.and (Own.from (Rows8.own _ _ _) _) (ownFrom_below (Nat.le_refl _) (by omega)))
      (fun c s X Y row hs _ _ => hs)
      (fun s X Y hs hXY => ⟨hs.1.below hXY (by omega), hs.2.trans (hXY.mono (by omega))⟩)
      (fun c s X Y hs _ => hs)
      ⟨bm, HB0.out⟩
      (fun x a' W' => a' = { tmps := #[.int .i64 (m : Int), .slice a n cap, undef, undef, .int .i64 0, .pointer (some ⟨w1.heap.size, 0, none⟩), .int .i64 (m : Int), .slice a n cap, .int .i64 0, .bool false, .int .i64 (m : Int), .slice a n cap, .func (.func 56) #[] #[.pointer (some ⟨w1.heap.size + 1 + 1, 0, none⟩), .pointer (some ⟨w1.heap.size + 1, 0, none⟩)], x, undef, undef, undef], defers := [] })
      (fun x a' s X Y row hs _ _ => hs) ?assign ?body ?done ?stop
    case assign =>
      rintro l2 pre v W' K ⟨h4, hB⟩ hK
      gi_wp2
      refine hK _ _ (KeepsFrom.refl _ _) (Kx.refl _ _) ⟨h4, hB⟩ ?_
      first | (simp; done) | rfl | (simp [go_sem]; done)
    case body =>
      rintro l2 pre v a' W' ⟨h4, hB⟩ rfl hlen
      have c4 := h4.cell 0
      have f4 := h4.frozen 0
      simp at c4
      have hpl : (pre.length : Int) ≤ 1000 := by omega
      have s4 := h4.set 0 (.int .i64 ((pre.length : Int) + 1))
      simp only [List.setIfInBounds_toArray, List.set_cons_zero] at s4
      have S4 := Lib.hid s4
      have HBS := Lib.hid (hB.setCell (p := ⟨w1.heap.size, 0, none⟩) hwz (.int .i64 ((pre.length : Int) + 1)))
      clear h4 s4 hB
      gi_wp2
      exact ⟨(KeepsOthers.setCell _ _ _).from _, Kx.set _ _ _ _, by have := S4.out; simpa using this, HBS.out⟩
    case done =>
      rintro D ys W' hD hys ⟨h4, hB⟩ hK
      have c4 := h4.cell 0
      simp at c4
      have hys2 : Hid (ys.length = lapsB m ts) := Lib.hid hys
      have HB := Lib.hid hB
      clear h4 hB hys
      gi_wp2
      refine ⟨by simp, .inl ⟨_, _, rfl, run_takeDeferred hK, ?_⟩⟩
      exact ⟨_, results_tmp rfl _ _ _, by rw [← hys2.out]; rfl, HB.out.trans (belowK_b (w := w) (Nat.le_refl _) W' D _ _ (by omega) hK rfl rfl)⟩
    case stop =>
      rintro D c pre W' hD hp hf hK
      exact hf.elim
end Go.Proofs
