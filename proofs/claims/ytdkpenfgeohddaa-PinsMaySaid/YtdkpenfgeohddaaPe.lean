/- Pins: Back, Oldest. -/
import Derived.Test.YtdkpenfgeohddaaPd
namespace Go.Proofs
set_option maxRecDepth 100000
open Go.RowKit Go.Shelf
attribute [local go_sem] Oper.semAt_some

def backN (E : Int) (S : List Int) : List Int := trues (bkB E S) 8
def backP (E : Int) (S : List Int) : List Int := if rightN E S then backN E S else []
theorem right_len {E : Int} {S : List Int} (h : rightN E S = true) : S.length ≤ 8 := ((rightN_iff E S).1 h).2.2.1
set_option maxHeartbeats 2000000 in
theorem Try.BackP_any (E : Int) (h0 : 0 ≤ E) (a : Option Addr) (n c : Nat) (S : List Int) (hS : okW S) (w : World) (hI : WordsAt w (.slice a n c) S) :
    Calls Try.prog 18 #[.agg #[.int .u64 E, .slice a n c]] w (IntsQ (backP E S) w) := by
  have hn := (wordsAt_len hI).1
  have hB1 : Below w.heap.size w ((w.alloc (.cells #[.int .u64 E, .slice a n c] 25)).alloc (.cells #[.int .u64 E, .slice a n c] 57)) := (Rows8.newB).alloc (by simp) _
  have hR0 := rows_new2 w (.cells #[.int .u64 E, .slice a n c] 25) 57 #[.int .u64 E, .slice a n c]
  have HMl := Lib.hid (Try.mayBe_any E h0 a n c S _ (RowAt.below hI hB1))
  have HK := fun (h8 : n ≤ 8) (W : World) (h : Below w.heap.size w W) => Lib.hid (Try.backs_any E a n c S hS h8 W (RowAt.below hI h))
  have HL := fun f W => Lib.hid (Try.list_any f W)
  have HB1 := Lib.hid hB1
  have HR0 := Lib.hid hR0
  have hr8 := fun h : rightN E S = true => right_len h
  obtain ⟨q, hq⟩ : ∃ q, q = backP E S := ⟨_, rfl⟩
  rw [← hq]
  unfold backP backN at hq
  obtain ⟨r, hr⟩ : ∃ r, r = rightN E S := ⟨_, rfl⟩
  rw [← hr] at HMl hq hr8
  have HQ := Lib.hid hq
  have HN := Lib.hid hn
  have HR8 := Lib.hid hr8
  have c0 := hR0.cell 0
  have c1 := hR0.cell 1
  have hlt0 := hR0.lt
  clear hr hI hB1 hR0 hS hq hn hr8
  go_enter Try.func18, Try.ntmps18
  go_wp2_with fail
  refine HMl.out.mono ?_
  rintro e w1 ⟨rfl, hB2⟩
  have R1 := HR0.out.below hB2 HR0.out.lt
  have k0 : w1.cell? ⟨w.heap.size + 1, 0, none⟩ = some (.int .u64 E) := R1.cell 0
  have k1 : w1.cell? ⟨w.heap.size + 1, 1, none⟩ = some (.slice a n c) := R1.cell 1
  have HB2 := Lib.hid (HB1.out.trans (hB2.mono HB1.out.size))
  clear hB2 R1 c0 c1 hlt0
  cases r with
  | true =>
    have hq2 : Hid (q = trues (bkB E S) 8) := Lib.hid (by rw [HQ.out]; rfl)
    have HKl := HK (by have := HR8.out rfl; have := HN.out; omega) w1 HB2.out
    clear HK
    generalize bkB E S = f at *
    go_wp2_with fail
    refine HKl.out.mono ?_
    rintro e w2 ⟨rfl, hB3⟩
    have HB3 := Lib.hid (HB2.out.trans (hB3.mono HB2.out.size))
    clear hB3 HKl
    go_wp2_with fail
    refine (HL f w2).out.mono ?_
    rintro e w3 ⟨v, rfl, hO, hB4⟩
    have HB4 := Lib.hid (HB3.out.trans (hB4.mono HB3.out.size))
    have HO := Lib.hid (owns_mono hO HB3.out.size)
    clear hB4 hO
    go_wp2_with fail
    go_ret
    exact ⟨v, rfl, by rw [hq2.out]; exact HO.out, HB4.out⟩
  | false =>
    have hq2 : Hid (q = []) := Lib.hid (by rw [HQ.out]; rfl)
    go_wp2_with fail
    go_ret
    exact ⟨_, rfl, by rw [hq2.out]; exact World.ownsRow_nil _ _ _ _, HB2.out⟩
/-- The least that is told. -/
def oldS (p : Int × Bool) (y : Int × Int) : Int × Bool := if (!p.2 || decide (y.2 < p.1)) = true then (y.2, true) else p
def oldF (pre : List (Int × Int)) : Int × Bool := pre.foldl oldS (0, false)
theorem oldF_snoc (pre : List (Int × Int)) (y : Int × Int) : oldF (pre ++ [y]) = oldS (oldF pre) y := by
  unfold oldF
  rw [List.foldl_append]
  rfl
def oldN (S : List Int) : Int × Bool := oldF (pinL S)
def oldP (E : Int) (S : List Int) : Int × Bool := if rightN E S then oldN S else (0, false)
set_option maxHeartbeats 8000000 in
theorem Try.oldest_any (E : Int) (a : Option Addr) (n c : Nat) (S : List Int) (hS : okW S) (w : World) (hI : WordsAt w (.slice a n c) S) :
    Calls Try.prog 31 #[.agg #[.int .u64 E, .slice a n c]] w fun e w' => e = .returned (.tuple #[.int .u64 (oldN S).1, .bool (oldN S).2]) ∧ Below w.heap.size w w' := by
  refine (callsIn_wide (n := 9)).1 ?_
  refine callsIn_of_wp_marks Try.func31 rfl trivial ?_ rfl
  simp only [Try.ntmps31, List.size_toArray, List.length_cons, List.length_nil, Nat.reduceAdd, Nat.reduceSub, Array.replicate_succ, Array.replicate_zero, List.push_toArray, List.append_toArray, List.nil_append, List.cons_append]
  obtain ⟨q, hq⟩ : ∃ q, q = oldN S := ⟨_, rfl⟩
  rw [← hq]
  have hfin : oldF (pinL S) = q := by rw [hq]; rfl
  clear hq
  have v0 := ((Rows8.new w 57 #[.int .u64 E, .slice a n c]).alloc (.cells #[.int .u64 0] 22)).alloc (.cells #[.bool false] 4)
  have f0 := (rows_new2 w (.cells #[.int .u64 E, .slice a n c] 57) 22 #[.int .u64 0]).alloc (.cells #[.bool false] 4)
  have g0 := Rows8.new ((w.alloc (.cells #[.int .u64 E, .slice a n c] 57)).alloc (.cells #[.int .u64 0] 22)) 4 #[.bool false]
  rw [World.size_alloc, World.size_alloc] at g0
  have hB1 : Below w.heap.size w (((w.alloc (.cells #[.int .u64 E, .slice a n c] 57)).alloc (.cells #[.int .u64 0] 22)).alloc (.cells #[.bool false] 4)) := ((Rows8.newB).alloc (by simp) _).alloc (by simp; omega) _
  have hsz : (((w.alloc (.cells #[.int .u64 E, .slice a n c] 57)).alloc (.cells #[.int .u64 0] 22)).alloc (.cells #[.bool false] 4)).heap.size = w.heap.size + 1 + 1 + 1 := by simp
  have HP := fun W => Lib.hid (Try.pinning_any E a n c W)
  have HS8 := Lib.hid hS
  have HI := Lib.hid hI
  have HFIN := Lib.hid hfin
  clear hfin hS hI
  gi_wp2_with fail
  generalize (((w.alloc (.cells #[.int .u64 E, .slice a n c] 57)).alloc (.cells #[.int .u64 0] 22)).alloc (.cells #[.bool false] 4)) = W0 at *
  refine ⟨trivial, ?_⟩
  refine (callsIn_wide.2 (HP _).out).mono ?_
  rintro e W1 ⟨rfl, hw1⟩
  have hB01 : Below W0.heap.size W0 W1 := by rw [hw1]; exact Rows8.newB
  have p1 : Rows8 W1 W0.heap.size 57 #[.int .u64 E, .slice a n c] := by rw [hw1]; exact Rows8.new _ _ _
  rw [hsz] at p1
  simp only [hsz]
  have hB2 := hB1.trans (hB01.mono hB1.size)
  have hk0 : Kt w.heap.size 22 4 w W1 := .of_below hB2
  have v2 := v0.below hB01 v0.lt
  have f2 := f0.below hB01 f0.lt
  have g2 := g0.below hB01 g0.lt
  have hs1 : W0.heap.size ≤ W1.heap.size := hB01.size
  have HTL := Lib.hid (tellsE_of (Try.pinning1_tells 8 (by decide) (Kt w.heap.size 22 4) (w.heap.size + 1 + 1 + 1) E a n c S HS8.out W1 (fun A => Kt w.heap.size 22 4 W1 A) (Kt.refl _ _ _ _) (fun A hA => ⟨hA.rows p1 (by decide) (by decide), rowAt_kt HI.out (hk0.trans hA)⟩) (fun A B hA hB => hA.trans (.of_below hB)) (fun A B p hA => hA.trans p)))
  have HB2 := Lib.hid hB2
  clear v0 f0 g0 v2 hB1 hw1 hB01 p1 hk0
  gi_wp2_with fail
  refine range_tellsE rfl (by decide) (gf := 44) (lb := #[.pointer (some ⟨w.heap.size + 1 + 1 + 1, 0, none⟩)]) rfl trivial (fun _ _ => by kernel_rfl) HTL.out kt_t (kt_b (B := W1.heap.size)) (Below.refl _ _) (fun _ => rfl)
    (fun pre W => Rows8 W (w.heap.size + 1) 22 #[.int .u64 (oldF pre).1] ∧ Rows8 W (w.heap.size + 1 + 1) 4 #[.bool (oldF pre).2] ∧ Below w.heap.size w W)
    (fun s X Y row h hg hr => ⟨h.1.keepM hg (fun r e => (hr r e).2), h.2.1.keepM hg (fun r e => (hr r e).2), (ownFrom_below (β := Unit) (Nat.le_refl _) (by omega)) () X Y row h.2.2 hg hr⟩)
    (fun s X Y h hXY => ⟨h.1.below hXY h.1.lt, h.2.1.below hXY h.2.1.lt, h.2.2.trans (hXY.mono h.2.2.size)⟩)
    ⟨f2, g2, HB2.out⟩
    (fun y a' W' => a' = { tmps := #[.agg #[.int .u64 E, .slice a n c], .pointer (some ⟨w.heap.size, 0, none⟩), .pointer (some ⟨w.heap.size + 1, 0, none⟩), .pointer (some ⟨w.heap.size + 1 + 1, 0, none⟩), undef, .int .u64 y.2, .agg #[.int .u64 E, .slice a n c], .func (.func 44) #[] #[.pointer (some ⟨w.heap.size + 1 + 1 + 1, 0, none⟩)], .int .i64 y.1, .int .u64 y.2, undef, undef, undef, undef, undef, undef, undef, undef, undef, undef], defers := [] })
    (fun y a' s X Y row e hg hr => e) ?assign ?body ?done
  case assign =>
    rintro l2 pre y W' K hI2 hK
    unfold encY
    gi_wp2_with fail
    exact hK _ _ (keepsFrom_below (Below.refl _ _)) (.of_below (Below.refl _ _)) hI2 (by simp)
  case body =>
    rintro l2 pre ⟨y1, y2⟩ a' W' ⟨hf, hg, hB⟩ rfl hok
    have hsn := oldF_snoc pre (y1, y2)
    generalize oldF pre = op at *
    obtain ⟨o, fd⟩ := op
    unfold oldS at hsn
    dsimp only at hf hg hsn
    have cf : W'.cell? ⟨w.heap.size + 1, 0, none⟩ = some (.int .u64 o) := hf.cell 0
    have cg : W'.cell? ⟨w.heap.size + 1 + 1, 0, none⟩ = some (.bool fd) := hg.cell 0
    have ff := hf.frozen 0
    have fg := hg.frozen 0
    have hltf := hf.lt
    have hltg := hg.lt
    have s1 := (hf.set 0 (.int .u64 y2)).setOther (a := ⟨w.heap.size + 1 + 1, 0, none⟩) (by simp) (.bool true)
    have s2 := (hg.setOther (a := ⟨w.heap.size + 1, 0, none⟩) (by simp) (.int .u64 y2)).set 0 (.bool true)
    simp only [List.setIfInBounds_toArray, List.set_cons_zero] at s1 s2
    have HS1 := Lib.hid s1
    have HS2 := Lib.hid s2
    have HF0 := Lib.hid hf
    have HG0 := Lib.hid hg
    have HB0 := Lib.hid hB
    have HB1 := Lib.hid ((hB.setCell (p := ⟨w.heap.size + 1, 0, none⟩) (by simp) (.int .u64 y2)).setCell (p := ⟨w.heap.size + 1 + 1, 0, none⟩) (by simp; omega) (.bool true))
    have HK1 := Lib.hid (keepsFrom_trans' (keepsFrom_set (H := W1.heap.size) W' (a := ⟨w.heap.size + 1, 0, none⟩) hf (.int .u64 y2)) (keepsFrom_set (H := W1.heap.size) _ (a := ⟨w.heap.size + 1 + 1, 0, none⟩) (hg.setOther (a := ⟨w.heap.size + 1, 0, none⟩) (by simp) (.int .u64 y2)) (.bool true)))
    have HKT := Lib.hid (((Kt.refl w.heap.size 22 4 W').set (a := ⟨w.heap.size + 1, 0, none⟩) hf (by show w.heap.size ≤ w.heap.size + 1; omega) (.inl rfl) (.int .u64 y2)).set (a := ⟨w.heap.size + 1 + 1, 0, none⟩) (hg.setOther (a := ⟨w.heap.size + 1, 0, none⟩) (by simp) (.int .u64 y2)) (by show w.heap.size ≤ w.heap.size + 1 + 1; omega) (.inr rfl) (.bool true))
    clear hf hg hB s1 s2 hok
    cases fd with
    | false =>
      have HSN := Lib.hid (show oldF (pre ++ [(y1, y2)]) = (y2, true) by rw [hsn]; simp)
      clear hsn
      gi_wp2_with fail
      exact ⟨HK1.out, HKT.out, by rw [HSN.out]; exact HS1.out, by rw [HSN.out]; exact HS2.out, HB1.out⟩
    | true =>
      by_cases hlt : y2 < o
      · have hd : decide (y2 < o) = true := decide_eq_true hlt
        have HSN := Lib.hid (show oldF (pre ++ [(y1, y2)]) = (y2, true) by rw [hsn, hd]; rfl)
        clear hsn
        gi_wp2_with fail
        exact ⟨HK1.out, HKT.out, by rw [HSN.out]; exact HS1.out, by rw [HSN.out]; exact HS2.out, HB1.out⟩
      · have hd : decide (y2 < o) = false := decide_eq_false hlt
        have HSN := Lib.hid (show oldF (pre ++ [(y1, y2)]) = (o, true) by rw [hsn, hd]; rfl)
        clear hsn
        gi_wp2_with fail
        exact ⟨KeepsFrom.refl _ _, Kt.refl _ _ _ _, by rw [HSN.out]; exact HF0.out, by rw [HSN.out]; exact HG0.out, HB0.out⟩
  case done =>
    rintro D ys W' hD rfl ⟨hf, hg, hB⟩ hK
    rw [HFIN.out] at hf hg
    obtain ⟨o, fd⟩ := q
    dsimp only at hf hg
    have cf : W'.cell? ⟨w.heap.size + 1, 0, none⟩ = some (.int .u64 o) := hf.cell 0
    have cg : W'.cell? ⟨w.heap.size + 1 + 1, 0, none⟩ = some (.bool fd) := hg.cell 0
    have ff := hf.frozen 0
    have fg := hg.frozen 0
    have hltf := hf.lt
    have hltg := hg.lt
    have hneF : D ≠ w.heap.size + 1 := fun e => by
      subst e
      rw [show W'.heap[w.heap.size + 1]? = _ from hf] at hK
      cases hK
    have hneG : D ≠ w.heap.size + 1 + 1 := fun e => by
      subst e
      rw [show W'.heap[w.heap.size + 1 + 1]? = _ from hg] at hK
      cases hK
    have hK1 : ((W'.setCell ⟨w.heap.size + 1, 0, none⟩ (.int .u64 o)).setCell ⟨w.heap.size + 1 + 1, 0, none⟩ (.bool fd)).heap[D]? = some (.deferred (some [])) := (Below.heap_setCell _ _ _ _ (by show D ≠ w.heap.size + 1 + 1; exact hneG)).trans ((Below.heap_setCell _ _ _ _ (by show D ≠ w.heap.size + 1; exact hneF)).trans hK)
    have s1 := (hf.set 0 (.int .u64 o)).setOther (a := ⟨w.heap.size + 1 + 1, 0, none⟩) (by simp) (.bool fd)
    have s2 := (hg.setOther (a := ⟨w.heap.size + 1, 0, none⟩) (by simp) (.int .u64 o)).set 0 (.bool fd)
    simp only [List.setIfInBounds_toArray, List.set_cons_zero] at s1 s2
    have HS1 := Lib.hid s1
    have HS2 := Lib.hid s2
    have HB1 := Lib.hid ((hB.setCell (p := ⟨w.heap.size + 1, 0, none⟩) (by simp) (.int .u64 o)).setCell (p := ⟨w.heap.size + 1 + 1, 0, none⟩) (by simp; omega) (.bool fd))
    have HKK := Lib.hid hK1
    clear hf hg hB s1 s2 hK1 hK hneF hneG HFIN
    gi_wp2_with fail
    gi_region
    gi_wp2_with fail
    refine ⟨by simp, .inl ⟨_, _, rfl, run_takeDeferred HKK.out, ?_⟩⟩
    exact ⟨_, results_cc rfl _ _ (w.heap.size + 1) (w.heap.size + 1 + 1) _ _ rfl rfl (load_one (rows_put HS1.out HKK.out) (by kernel_rfl)) (load_one (rows_put HS2.out HKK.out) (by kernel_rfl)), rfl, HB1.out.drew.trans (belowK_b (w := w) (Nat.le_refl _) _ D _ (.deferred none) (by omega) HKK.out rfl rfl)⟩
set_option maxHeartbeats 2000000 in
theorem Try.OldestP_any (E : Int) (h0 : 0 ≤ E) (a : Option Addr) (n c : Nat) (S : List Int) (hS : okW S) (w : World) (hI : WordsAt w (.slice a n c) S) :
    Calls Try.prog 16 #[.agg #[.int .u64 E, .slice a n c]] w fun e w' => e = .returned (.tuple #[.int .u64 (oldP E S).1, .bool (oldP E S).2]) ∧ Below w.heap.size w w' := by
  have hB1 : Below w.heap.size w ((w.alloc (.cells #[.int .u64 E, .slice a n c] 25)).alloc (.cells #[.int .u64 E, .slice a n c] 57)) := (Rows8.newB).alloc (by simp) _
  have hR0 := rows_new2 w (.cells #[.int .u64 E, .slice a n c] 25) 57 #[.int .u64 E, .slice a n c]
  have HMl := Lib.hid (Try.mayBe_any E h0 a n c S _ (RowAt.below hI hB1))
  have HK := fun (W : World) (h : Below w.heap.size w W) => Lib.hid (Try.oldest_any E a n c S hS W (RowAt.below hI h))
  have HB1 := Lib.hid hB1
  have HR0 := Lib.hid hR0
  obtain ⟨q, hq⟩ : ∃ q, q = oldP E S := ⟨_, rfl⟩
  rw [← hq]
  unfold oldP at hq
  obtain ⟨r, hr⟩ : ∃ r, r = rightN E S := ⟨_, rfl⟩
  obtain ⟨p, hp⟩ : ∃ p, p = oldN S := ⟨_, rfl⟩
  rw [← hr] at HMl hq
  rw [← hp] at HK hq
  have HQ := Lib.hid hq
  have c0 := hR0.cell 0
  have c1 := hR0.cell 1
  have hlt0 := hR0.lt
  clear hr hp hI hB1 hR0 hS hq
  go_enter Try.func16, Try.ntmps16
  go_wp2_with fail
  refine HMl.out.mono ?_
  rintro e w1 ⟨rfl, hB2⟩
  have R1 := HR0.out.below hB2 HR0.out.lt
  have k0 : w1.cell? ⟨w.heap.size + 1, 0, none⟩ = some (.int .u64 E) := R1.cell 0
  have k1 : w1.cell? ⟨w.heap.size + 1, 1, none⟩ = some (.slice a n c) := R1.cell 1
  have HB2 := Lib.hid (HB1.out.trans (hB2.mono HB1.out.size))
  clear hB2 R1 c0 c1 hlt0
  cases r with
  | true =>
    have hq2 : Hid (q = p) := Lib.hid (by rw [HQ.out]; rfl)
    have HKl := HK w1 HB2.out
    clear HK
    obtain ⟨p1, p2⟩ := p
    go_wp2_with fail
    refine HKl.out.mono ?_
    rintro e w2 ⟨rfl, hB3⟩
    have HB3 := Lib.hid (HB2.out.trans (hB3.mono HB2.out.size))
    clear hB3 HKl
    go_wp2_with fail
    go_ret2
    exact ⟨by rw [hq2.out]; rfl, HB3.out⟩
  | false =>
    have hq2 : Hid (q = (0, false)) := Lib.hid (by rw [HQ.out]; rfl)
    go_wp2_with fail
    go_ret2
    exact ⟨by rw [hq2.out]; rfl, HB2.out⟩
end Go.Proofs
