/- Edges, told; Count. -/
import Derived.Test.YtbipekpohocjdaaDoorGc
namespace Go.Proofs
open Go.RowKit Go.Shelf
attribute [local go_sem] Oper.semAt_some

def encI (z : Int) : Array Value := #[.int .i64 z]
theorem Tryd.edges_any (x : Option Addr) (n cap : Nat) (w : World) :
    Calls Tryd.prog 47 #[.slice x n cap] w fun e w' => e = .returned (.func (.func 54) #[] #[.pointer (some ⟨w.heap.size, 0, none⟩)]) ∧ w' = w.alloc (.cells #[.slice x n cap] 23) := by
  go_enter Tryd.func47, Tryd.ntmps47
  go_wp2
  go_ret
  exact ⟨rfl, rfl⟩
theorem edgeL_last {s : Int × Int} {t : List (Int × Int)} (h : s.2 = 0) : edgeL (s :: t) = [s.1] := by rw [edgeL, if_pos h]
theorem edgeL_more {s : Int × Int} {t : List (Int × Int)} (h : s.2 ≠ 0) : edgeL (s :: t) = s.1 :: s.2 :: edgeL t := by rw [edgeL, if_neg h]

set_option maxRecDepth 100000 in
set_option maxHeartbeats 2000000 in
theorem Tryd.edges1_tells (d : Nat) (hd : 1 ≤ d) (Bs x : Nat) (a : Option Addr) (n cap : Nat) (l : List (Int × Int)) (w₀ w : World) (hx : w₀.heap.size ≤ x) (hxw : x < w.heap.size) (hw₀ : Below w₀.heap.size w₀ w)
    (hBs : Rows8 w Bs 23 #[.slice a n cap]) (hI : PAt w₀ (.slice a n cap) l) :
    TellsB Fence.wide d Tryd.prog 54 #[.pointer (some ⟨Bs, 0, none⟩)] encI (Kx x) (fun xs => xs = edgeL l) (fun pre => pre <+: edgeL l) (edgeL l).length w := fun lp J Jx W hW hJ hJx hY h0 => by
  refine callsIn_of_wp Tryd.func54 rfl trivial ?_ rfl
  simp only [Tryd.ntmps54, List.size_toArray, List.length_cons, List.length_nil, Nat.reduceAdd, Nat.reduceSub, Array.replicate_succ, Array.replicate_zero, List.push_toArray, List.append_toArray, List.nil_append, List.cons_append]
  obtain ⟨hn, hnc, hcm⟩ := pAt_len hI
  have hreach : n ≤ maxLen := by omega
  unfold maxLen at hreach
  have HY := Lib.hid hY
  have HJ := Lib.hid hJ
  have HI := Lib.hid hI
  have HN := Lib.hid hn
  have bs := hBs.below hW hBs.lt
  have c0 : W.cell? ⟨Bs, 0, none⟩ = some (.slice a n cap) := bs.cell 0
  have hBL := bs.lt
  have hw0W : Below w₀.heap.size w₀ W := hw₀.trans (hW.mono hw₀.size)
  have hxW : x < W.heap.size := by have := hW.size; omega
  have HW0 := Lib.hid hw0W
  clear hY hJ hI hn bs hBs hw0W hnc hcm
  refine wpIn_scope_straight rfl ?_
  gi_wp2
  refine wpIn_label ?_
  gi_wp2
  gi_loopw [7] (fun j wr => ∃ (k : Nat) (pre : List Int), k ≤ n ∧ j = .int .i64 k ∧ Hid (edgeL l = pre ++ edgeL (l.drop k)) ∧ J pre wr ∧ Kb W.heap.size x W wr) (fun j _ => n - (intOf j).toNat)
  case atStart => exact ⟨0, [], Nat.zero_le _, rfl, Lib.hid rfl, h0, Kb.refl _ _ _⟩
  case round =>
    obtain ⟨k, pre, hk, rfl, hE, hJs, hK⟩ := hrel
    have hKw : Kb w₀.heap.size x w₀ wr := (Kb.of_below HW0.out).trans (hK.mono HW0.out.size)
    by_cases hlt : k < n
    · have hkl : k < l.length := by rw [← HN.out]; exact hlt
      obtain ⟨b, off, rfl, hb, p1, p2⟩ := pAt_get HI.out k hkl
      have hc1 := hKw.cell (a := ⟨b, off + k * 2, none⟩) hb (by show b ≠ x; omega) p1
      have hc2 := hKw.cell (a := ⟨b, off + k * 2 + 1, none⟩) hb (by show b ≠ x; omega) p2
      have hE2 := hE.out
      rw [drop_next l k hkl] at hE2
      rcases hs : l[k] with ⟨f, t⟩
      rw [hs] at hc1 hc2 hE2
      dsimp only at hc1 hc2
      have hki : (k : Int) < (n : Int) := by omega
      have hB1 : Below wr.heap.size wr (wr.alloc (.cells #[.int .i64 f, .int .i64 t] 39)) := Rows8.newB
      have hJ1 := HJ.out _ _ _ hJs (hB1.mono hK.size)
      have HK1 := Lib.hid (hK.trans (Kb.of_below (hB1.mono hK.size)))
      have br := Rows8.new wr 39 #[.int .i64 f, .int .i64 t]
      have hbr : b < wr.heap.size := by have := hKw.size; omega
      have hxr : x < wr.heap.size := by have := hK.size; omega
      have hlen1 : pre.length < (edgeL l).length := by
        rw [hE2, List.length_append, edgeL]
        split <;> simp
      obtain ⟨fn, tmps, assign, body, hy, hR⟩ := HY.out pre f _ hJ1 hlen1
      unfold encI at hy
      have HE2 := Lib.hid hE2
      have HBR := Lib.hid br
      clear hJs hK hE hE2 hkl hB1 p1 p2 hKw hs br hJ1 hlen1
      gi_wp2_with fail
      refine hR.mono ?_
      rintro e w5 (⟨rfl, hJ5, hk5, hx5⟩ | ⟨rfl, hJx5, hk5⟩)
      · have b5 := hx5.same _ _ HBR.out rfl (by omega)
        have c5 : w5.cell? ⟨wr.heap.size, 1, none⟩ = some (.int .i64 t) := Rows8.cell b5 1
        have HK5 := Lib.hid (HK1.out.trans (Kb.of_kx hx5))
        have hl5 : wr.heap.size < w5.heap.size := Rows8.lt b5
        clear hk5 hx5
        by_cases ht : t = 0
        · subst ht
          have q0 : ((0 : Int) == 0) = true := by simp
          have hfin : Hid (edgeL l = pre ++ [f]) := Lib.hid (by rw [HE2.out, edgeL_last rfl])
          have HJ5 := Lib.hid hJ5
          clear hJ5 b5
          gi_wp2_with fail
          rw [noGoto_normal']; go_end0
          exact ⟨⟨_, rfl⟩, .inl ⟨_, hfin.out.symm, HJ5.out⟩⟩
        · have q0 : (t == 0) = false := by simp [ht]
          have hE3 : edgeL l = pre ++ [f] ++ [t] ++ edgeL (l.drop (k + 1)) := by rw [HE2.out, edgeL_more ht]; simp
          obtain ⟨fn, tmps, assign, body, hy, hR⟩ := HY.out (pre ++ [f]) t _ hJ5 (by rw [hE3]; simp)
          unfold encI at hy
          have HE3 := Lib.hid hE3
          have HB5 := Lib.hid b5
          clear hJ5 hE3 b5 ht
          gi_wp2_with fail
          refine hR.mono ?_
          rintro e w6 (⟨rfl, hJ6, hk6, hx6⟩ | ⟨rfl, hJx6, hk6⟩)
          · have HK6 := Lib.hid (HK5.out.trans (Kb.of_kx hx6))
            have HJ6 := Lib.hid hJ6
            clear hx6 hk6 hJ6
            gi_wp2_with fail
            go_roundw
            case rel => exact ⟨k + 1, _, by omega, by go_num, Lib.hid HE3.out, HJ6.out, HK6.out⟩
            case measure => simp [intOf]; omega
          · have HJ6 := Lib.hid hJx6
            clear hk6 hJx6
            gi_wp2_with fail
            rw [noGoto_normal']; go_end0
            exact ⟨⟨_, rfl⟩, .inr ⟨_, ⟨_, HE3.out.symm⟩, HJ6.out⟩⟩
      · have HJ5 := Lib.hid hJx5
        have hpre : Hid (pre ++ [f] <+: edgeL l) := Lib.hid (by
          rw [HE2.out]
          by_cases ht : t = 0
          · rw [edgeL_last ht]; exact List.prefix_refl _
          · rw [edgeL_more ht]; exact ⟨t :: edgeL (l.drop (k + 1)), by simp⟩)
        clear hk5 hJx5
        gi_wp2_with fail
        rw [noGoto_normal']; go_end0
        exact ⟨⟨_, rfl⟩, .inr ⟨_, hpre.out, HJ5.out⟩⟩
    · obtain rfl : k = n := by omega
      have hfin : Hid (edgeL l = pre) := Lib.hid (by rw [hE.out, List.drop_of_length_le (Nat.le_of_eq HN.out.symm)]; simp [edgeL])
      clear hE
      gi_wp2
      rw [noGoto_normal']; go_end0
      exact ⟨⟨_, rfl⟩, .inl ⟨_, hfin.out.symm, hJs⟩⟩

set_option maxRecDepth 100000 in
set_option maxHeartbeats 2000000 in
theorem Tryd.counted_any (z : Int) (a : Option Addr) (n cap : Nat) (l : List (Int × Int)) (w : World) (hI : PAt w (.slice a n cap) l) :
    Calls Tryd.prog 34 #[.slice a n cap, .int .i64 z] w fun e w' => e = .returned (.int .u64 (cntB l z : Nat)) ∧ Below w.heap.size w w' := by
  refine (callsIn_wide (n := 9)).1 ?_
  refine callsIn_of_wp_marks Tryd.func34 rfl trivial ?_ rfl
  simp only [Tryd.ntmps34, List.size_toArray, List.length_cons, List.length_nil, Nat.reduceAdd, Nat.reduceSub, Array.replicate_succ, Array.replicate_zero, List.push_toArray, List.append_toArray, List.nil_append, List.cons_append]
  have hN : (edgeL l).length ≤ 2 * 9223372036854775807 := by
    obtain ⟨hn, hnc, hcm⟩ := pAt_len hI
    have := edgeL_len l
    unfold maxLen at hcm
    omega
  have HI := Lib.hid hI
  clear hI
  gi_wp2_with (first | (refine ⟨trivial, ?_⟩; gi_at_call 47; refine (callsIn_wide.2 (Tryd.edges_any _ _ _ _)).mono ?_; rintro e w' ⟨rfl, rfl⟩))
  have bg := ((Rows8.new w 3 #[.int .i64 z]).alloc (.cells #[.int .u64 0] 26)).alloc (.cells #[.slice a n cap] 23)
  have br := (Rows8.new (w.alloc (.cells #[.int .i64 z] 3)) 26 #[.int .u64 0]).alloc (.cells #[.slice a n cap] 23)
  have bm := Rows8.new ((w.alloc (.cells #[.int .i64 z] 3)).alloc (.cells #[.int .u64 0] 26)) 23 #[.slice a n cap]
  have hBc : Below w.heap.size w (((w.alloc (.cells #[.int .i64 z] 3)).alloc (.cells #[.int .u64 0] 26)).alloc (.cells #[.slice a n cap] 23)) := ((Rows8.newB).alloc (by simp) _).alloc (by simp; omega) _
  have hz : (((w.alloc (.cells #[.int .i64 z] 3)).alloc (.cells #[.int .u64 0] 26)).alloc (.cells #[.slice a n cap] 23)).heap.size = w.heap.size + 3 := by simp
  simp only [World.size_alloc] at br bm
  generalize (((w.alloc (.cells #[.int .i64 z] 3)).alloc (.cells #[.int .u64 0] 26)).alloc (.cells #[.slice a n cap] 23)) = W0 at *
  have htl := Tryd.edges1_tells 8 (by decide) (w.heap.size + 1 + 1) (w.heap.size + 1) a n cap l w W0 (by omega) (by omega) hBc bm HI.out
  have HTL := Lib.hid htl
  clear htl
  refine range_tellsB rfl (by decide) (gf := 54) (lb := #[.pointer (some ⟨w.heap.size + 1 + 1, 0, none⟩)]) rfl trivial (fun _ _ => by kernel_rfl) HTL.out kx_t kx_b (Below.refl _ _) (fun _ => rfl)
    (fun pre W' => (∀ u ∈ pre, u ≤ z) ∧ Rows8 W' w.heap.size 3 #[.int .i64 z] ∧ Rows8 W' (w.heap.size + 1) 26 #[.int .u64 (pre.length : Nat)] ∧ Below w.heap.size w W')
    (fun c pre W' => c = .exit 0 ∧ ∃ (p : List Int) (y : Int), pre = p ++ [y] ∧ (∀ u ∈ p, u ≤ z) ∧ z < y ∧ Rows8 W' (w.heap.size + 1) 26 #[.int .u64 (p.length : Nat)] ∧ Below w.heap.size w W')
    (OwnFrom.and (ownFrom_pure _ _) (OwnFrom.and (Own.from (Rows8.own _ _ _) _) (OwnFrom.and (Own.from (Rows8.own _ _ _) _) (ownFrom_below (Nat.le_refl _) (by omega)))))
    (fun c s X Y row hs hg hr => by
      obtain ⟨h1, p, y, h2, h3, h4, h5, h7⟩ := hs
      exact ⟨h1, p, y, h2, h3, h4, Own.from (Rows8.own (β := Unit) _ _ (fun _ => _)) _ () X Y row h5 hg hr, ownFrom_below (β := Unit) (Nat.le_refl _) (by omega) () X Y row h7 hg hr⟩)
    (fun s X Y hs hXY => ⟨hs.1, hs.2.1.below hXY (by omega), hs.2.2.1.below hXY (by omega), hs.2.2.2.trans (hXY.mono (by omega))⟩)
    (fun c s X Y hs hXY => by
      obtain ⟨h1, p, y, h2, h3, h4, h5, h7⟩ := hs
      exact ⟨h1, p, y, h2, h3, h4, h5.below hXY (by omega), h7.trans (hXY.mono (by omega))⟩)
    ⟨(by simp), bg, br, hBc⟩
    (fun x a' W' => a' = { tmps := #[.slice a n cap, .int .i64 z, undef, .pointer (some ⟨w.heap.size, 0, none⟩), .int .u64 0, .pointer (some ⟨w.heap.size + 1, 0, none⟩), .int .i64 x, .slice a n cap, .func (.func 54) #[] #[.pointer (some ⟨w.heap.size + 1 + 1, 0, none⟩)], .int .i64 x, undef, undef, undef, undef, undef, undef], defers := [] })
    (fun x a' s X Y row hs _ _ => hs) ?assign ?body ?done ?stop
  case assign =>
    rintro l2 pre y W' K hI hK
    unfold encI
    gi_wp2
    refine hK _ _ (KeepsFrom.refl _ _) (Kx.refl _ _) hI ?_
    first | (simp; done) | rfl | (simp [go_sem]; done)
  case body =>
    rintro l2 pre y a' W' ⟨hp, h3, h4, hB⟩ rfl hlen
    have c3 := h3.cell 0
    have c4 := h4.cell 0
    have f4 := h4.frozen 0
    simp at c3 c4
    have hpl : (pre.length : Int) + 1 < 18446744073709551616 := by omega
    by_cases hy : z < y
    · have HP := Lib.hid hp
      have HE4 := Lib.hid h4
      clear h3 h4 hp
      gi_wp2
      exact ⟨KeepsFrom.refl _ _, rfl, pre, y, rfl, HP.out, hy, HE4.out, hB⟩
    · have hyz : y ≤ z := by omega
      have HP := Lib.hid (show ∀ u ∈ pre ++ [y], u ≤ z from fun u hu => by
        rcases List.mem_append.1 hu with h | h
        · exact hp u h
        · simp at h
          subst h
          exact hyz)
      have e4 := h4.set 0 (.int .u64 ((pre.length : Int) + 1))
      have e3 := h3.setOther (a := ⟨w.heap.size + 1, 0, none⟩) (by simp) (.int .u64 ((pre.length : Int) + 1))
      simp only [List.setIfInBounds_toArray, List.set_cons_zero] at e4
      have hw : IntKind.u64.wrap ((pre.length : Int) + 1) = (pre.length : Int) + 1 := by simp [IntKind.wrap, IntKind.bits, IntKind.signed]; omega
      have HE4 := Lib.hid e4
      have HE3 := Lib.hid e3
      have HB2 := Lib.hid (hB.setCell (p := ⟨w.heap.size + 1, 0, none⟩) (by simp) (.int .u64 ((pre.length : Int) + 1)))
      clear h3 h4 hp e4 e3 hB
      gi_wp2
      exact ⟨(KeepsOthers.setCell _ _ _).from _, Kx.set _ _ _ _, HP.out, HE3.out, by have := HE4.out; simpa using this, HB2.out⟩
  case done =>
    rintro D ys W' hD hys ⟨hp, h3, h4, hB⟩ hK
    have hw : Hid (cntB l z = ys.length) := Lib.hid (by subst hys; exact cnt_all hp)
    have z4 := h4.cell 0
    simp at z4
    have HB := Lib.hid hB
    clear h3 h4 hp hB hys
    gi_wp2
    refine ⟨by simp, .inl ⟨_, _, rfl, run_takeDeferred hK, ?_⟩⟩
    exact ⟨_, results_tmp rfl _ _ _, by rw [hw.out]; rfl, HB.out.trans (belowK_b (w := w) (Nat.le_refl _) W' D _ _ (by omega) hK rfl rfl)⟩
  case stop =>
    rintro D c pre W' hD hpre ⟨rfl, p, y, rfl, h2, h3, h4, hB⟩ hK
    have hw : Hid (cntB l z = p.length) := Lib.hid (cnt_stop hpre h2 h3)
    have z4 := h4.cell 0
    simp at z4
    have HB := Lib.hid hB
    clear hpre h2 h3 h4 hB
    gi_wp2
    refine ⟨by simp, .inl ⟨_, _, rfl, run_takeDeferred hK, ?_⟩⟩
    exact ⟨_, results_tmp rfl _ _ _, by rw [hw.out]; rfl, HB.out.trans (belowK_b (w := w) (Nat.le_refl _) W' D _ _ (by omega) hK rfl rfl)⟩

theorem countR_ok {l : List (Int × Int)} {z : Int} (h : countE l z = 0) : countR l z = cntB l z := if_pos h
theorem countR_err {l : List (Int × Int)} {z : Int} (h : countE l z ≠ 0) : countR l z = 0 := if_neg h
set_option maxHeartbeats 1000000 in
theorem Tryd.Count_any (z : Int) (a : Option Addr) (n cap : Nat) (l : List (Int × Int)) (w : World) (hI : PAt w (.slice a n cap) l) :
    Calls Tryd.prog 15 #[.slice a n cap, .int .i64 z] w fun e w' => e = .returned (.tuple #[.int .u64 (countR l z : Nat), .int .i64 (countE l z)]) ∧ Below w.heap.size w w' := by
  have HC := Lib.hid (Tryd.Check_any a n cap l w hI)
  have HS := fun w' => Lib.hid (Tryd.noStep_any z w')
  have HT := fun w' (hB : Below w.heap.size w w') => Lib.hid (Tryd.counted_any z a n cap l w' (hI.below hB))
  have e1 : checkE l = if rightB l = true then 0 else 160 := rfl
  have e2 : countE l z = if rightB l = true then (if stepB z = true then 0 else 2) else 160 := rfl
  clear hI
  cases hr : rightB l with
  | false =>
    rw [hr, if_neg (by decide)] at e1 e2
    rw [countR_err (by rw [e2]; decide), e2]
    rw [e1] at HC
    clear e1 e2 hr
    go_enter Tryd.func15, Tryd.ntmps15
    go_wp2_with fail
    refine HC.out.mono ?_
    rintro e w1 ⟨rfl, hB⟩
    go_wp2_with fail
    go_ret2
    exact ⟨rfl, hB⟩
  | true =>
    rw [hr, if_pos rfl] at e1 e2
    rw [e1] at HC
    cases hs : stepB z with
    | false =>
      rw [hs, if_neg (by decide)] at e2
      rw [countR_err (by rw [e2]; decide), e2]
      rw [hs] at HS
      clear e1 e2 hr hs
      go_enter Tryd.func15, Tryd.ntmps15
      go_wp2_with fail
      refine HC.out.mono ?_
      rintro e w1 ⟨rfl, hB⟩
      go_wp2_with fail
      refine (HS _).out.mono ?_
      rintro e w2 ⟨rfl, rfl⟩
      go_wp2_with fail
      go_ret2
      exact ⟨rfl, hB⟩
    | true =>
      rw [hs, if_pos rfl] at e2
      rw [countR_ok e2, e2]
      rw [hs] at HS
      clear e1 e2 hr hs
      go_enter Tryd.func15, Tryd.ntmps15
      go_wp2_with fail
      refine HC.out.mono ?_
      rintro e w1 ⟨rfl, hB⟩
      go_wp2_with fail
      refine (HS _).out.mono ?_
      rintro e w2 ⟨rfl, rfl⟩
      go_wp2_with fail
      refine (HT _ hB).out.mono ?_
      rintro e w3 ⟨rfl, hB3⟩
      have HB3 := Lib.hid (hB.trans (hB3.mono hB.size))
      clear hB hB3
      go_wp2_with fail
      go_ret2
      exact ⟨rfl, HB3.out⟩
end Go.Proofs
