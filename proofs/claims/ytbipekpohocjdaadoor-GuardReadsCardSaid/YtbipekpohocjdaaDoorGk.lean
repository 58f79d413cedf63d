/- Looks, told; Reads. -/
import Derived.Test.YtbipekpohocjdaaDoorGj
import Derived.Test.YtbipekpohocjdaaDoorGf
import Derived.Laws.EntriesVeiled
namespace Go.Proofs
open Go.RowKit Go.Shelf
attribute [local go_sem] Oper.semAt_some

theorem Tryd.values_any (x : Option Addr) (n cap : Nat) (w : World) :
    Calls Tryd.prog 39 #[.slice x n cap] w fun e w' => e = .returned (.func (.func 52) #[] #[.pointer (some ⟨w.heap.size, 0, none⟩)]) ∧ w' = w.alloc (.cells #[.slice x n cap] 41) := by
  go_enter Tryd.func39, Tryd.ntmps39
  go_wp2
  go_ret
  exact ⟨rfl, rfl⟩

set_option maxRecDepth 100000 in
set_option maxHeartbeats 2000000 in
theorem Tryd.values1_tells (d : Nat) (hd : 1 ≤ d) (Bs h : Nat) (t1 t2 : TypeId) (_ : 44 ≠ t1) (_ : 44 ≠ t2) (a : Option Addr) (n cap : Nat) (ks : List (Int × Int)) (w₀ w : World) (hx : w₀.heap.size ≤ h) (hw₀ : Below w₀.heap.size w₀ w)
    (hBs : Rows8 w Bs 41 #[.slice a n cap]) (hI : PAt w₀ (.slice a n cap) ks) :
    TellsC Fence.wide d Tryd.prog 52 #[.pointer (some ⟨Bs, 0, none⟩)] encP (Kt h t1 t2) (fun xs => xs = ks) (fun pre => pre <+: ks) ks.length w := fun lp J Jx W hW hJ hJx hY h0 => by
  refine callsIn_of_wp Tryd.func52 rfl trivial ?_ rfl
  simp only [Tryd.ntmps52, List.size_toArray, List.length_cons, List.length_nil, Nat.reduceAdd, Nat.reduceSub, Array.replicate_succ, Array.replicate_zero, List.push_toArray, List.append_toArray, List.nil_append, List.cons_append]
  obtain ⟨hn, hnc, hcm⟩ := pAt_len hI
  have hreach : n ≤ maxLen := by omega
  unfold maxLen at hreach
  have HY := Lib.hid hY
  have HJ := Lib.hid hJ
  have HI := Lib.hid hI
  have HN := Lib.hid hn
  have bs := hBs.below hW hBs.lt
  have c0 : W.cell? ⟨Bs, 0, none⟩ = some (.slice a n cap) := bs.cell 0
  have hBL := bs.lt
  have hw0W : Below w₀.heap.size w₀ W := hw₀.trans (hW.mono hw₀.size)
  have HW0 := Lib.hid hw0W
  clear hY hJ hI hn bs hBs hw0W hnc hcm
  gi_wp2
  gi_loopw [7] (fun j wr => ∃ k : Nat, k ≤ n ∧ j = .int .i64 k ∧ J (ks.take k) wr ∧ Kt h t1 t2 W wr) (fun j _ => n - (intOf j).toNat)
  case atStart => exact ⟨0, Nat.zero_le _, rfl, h0, Kt.refl _ _ _ _⟩
  case round =>
    obtain ⟨k, hk, rfl, hJs, hK⟩ := hrel
    have hKw : Kt h t1 t2 w₀ wr := (Kt.of_below HW0.out).trans hK
    by_cases hlt : k < n
    · have hkl : k < ks.length := by rw [← HN.out]; exact hlt
      obtain ⟨b, off, rfl, hb, p1, p2⟩ := pAt_get HI.out k hkl
      have hc1 := hKw.cell (a := ⟨b, off + k * 2, none⟩) (by show b < h; omega) p1
      have hc2 := hKw.cell (a := ⟨b, off + k * 2 + 1, none⟩) (by show b < h; omega) p2
      have hsn := take_snoc ks k hkl
      have hpl : (ks.take k).length < ks.length := by rw [List.length_take]; omega
      rcases hs : ks[k] with ⟨f, t⟩
      rw [hs] at hc1 hc2 hsn
      dsimp only at hc1 hc2
      have hki : (k : Int) < (n : Int) := by omega
      have hB1 : Below wr.heap.size wr (wr.alloc (.cells #[.int .i64 f, .int .i64 t] 44)) := Rows8.newB
      have hJ1 := HJ.out _ _ _ hJs hB1
      have HK1 := Lib.hid (hK.trans (Kt.of_below hB1))
      have hbr : b < wr.heap.size := by have := hKw.size; omega
      obtain ⟨fn, tmps, assign, body, hy, hR⟩ := HY.out _ (f, t) _ hJ1 hpl
      unfold encP at hy
      dsimp only at hy
      have HSN := Lib.hid hsn
      clear hJs hK hkl hB1 p1 p2 hKw hs hJ1 hsn hpl
      gi_wp2_with fail
      refine hR.mono ?_
      rintro e w5 (⟨rfl, hJ5, hk5, hx5⟩ | ⟨rfl, hJx5, hk5⟩)
      · have HK5 := Lib.hid (HK1.out.trans hx5)
        have HJ5 := Lib.hid hJ5
        clear hJ5 hx5 hk5
        gi_wp2_with fail
        go_roundw
        case rel => exact ⟨k + 1, by omega, by go_num, by rw [HSN.out]; exact HJ5.out, HK5.out⟩
        case measure => simp [intOf]; omega
      · have HJ5 := Lib.hid hJx5
        clear hk5 hJx5
        gi_wp2_with fail
        refine bodyPost_ret (results_none rfl _ _ _) rfl ?_
        exact ⟨⟨_, rfl⟩, .inr ⟨_, by rw [← HSN.out]; exact List.take_prefix _ _, HJ5.out⟩⟩
    · obtain rfl : k = n := by omega
      have hfin : Hid (ks.take k = ks) := Lib.hid (List.take_of_length_le (Nat.le_of_eq HN.out.symm))
      gi_wp2
      go_end0
      exact ⟨⟨_, rfl⟩, .inl ⟨_, rfl, by rw [hfin.out] at hJs; exact hJs⟩⟩

set_option maxRecDepth 100000 in
set_option maxHeartbeats 2000000 in
theorem Tryd.reads1_any (p1 p2 : Int) (Bc Bl : Nat) (x : Option Addr) (n cap : Nat) (l : List (Int × Int)) (hr : rightB l = true) (hs : n ≤ 1000000) (w : World) (hc : Rows8 w Bc 64 #[.func (.func 49) #[] #[.pointer (some ⟨Bl, 0, none⟩)]]) (hl : Rows8 w Bl 23 #[.slice x n cap]) (hI : PAt w (.slice x n cap) l) :
    Calls Tryd.prog 40 #[.agg #[.int .i64 p1, .int .i64 p2], .pointer (some ⟨Bc, 0, none⟩)] w fun e w' => e = .returned (.tuple #[.bool (clearB l p1 p2), .bool true]) ∧ Below w.heap.size w w' := by
  have hB : Below w.heap.size w (w.alloc (.cells #[.int .i64 p1, .int .i64 p2] 44)) := Rows8.newB
  have HC := Lib.hid (Tryd.clearIn1_any p1 p2 Bl x n cap l hr hs _ (hl.below hB hl.lt) (hI.below hB))
  have c0 := hc.cell 0
  simp at c0
  have hcl := hc.lt
  have HB := Lib.hid hB
  clear hc hl hI hB
  go_enter Tryd.func40, Tryd.ntmps40
  go_wp2_with fail
  refine HC.out.mono ?_
  rintro e w1 ⟨rfl, hB1⟩
  have HB1 := Lib.hid (HB.out.trans (hB1.mono HB.out.size))
  clear hB1
  go_wp2_with fail
  go_ret2
  exact ⟨rfl, HB1.out⟩

/-- Where the first that is no look stands, or -1. -/
def badN : List (Int × Int) → Nat → Int
  | [], _ => -1
  | k :: t, i => if lookB k.1 k.2 = true then badN t (i + 1) else i
theorem badN_all (ks : List (Int × Int)) (i : Nat) : 0 ≤ badN ks i ↔ allLook ks = false := by
  induction ks generalizing i with
  | nil => simp [badN, allLook]
  | cons k t ih =>
    unfold badN
    have e : allLook (k :: t) = (lookB k.1 k.2 && allLook t) := rfl
    rw [e]
    cases lookB k.1 k.2 with
    | true => rw [if_pos rfl, Bool.true_and]; exact ih _
    | false => rw [if_neg (by decide)]; simp
set_option maxRecDepth 100000 in
set_option maxHeartbeats 1000000 in
theorem Tryd.indexLook_any (a : Option Addr) (n cap : Nat) (ks : List (Int × Int)) (w : World) (hI : PAt w (.slice a n cap) ks) :
    Calls Tryd.prog 48 #[.slice a n cap, .func (.func 36) #[] #[]] w fun e w' => e = .returned (.int .i64 (badN ks 0)) ∧ Below w.heap.size w w' := by
  obtain ⟨hn, hnc, hcm⟩ := pAt_len hI
  have hreach : n ≤ maxLen := by omega
  unfold maxLen at hreach
  have HI := Lib.hid hI
  have HN := Lib.hid hn
  clear hI hn hnc hcm
  go_enter Tryd.func48, Tryd.ntmps48
  go_wp2
  go_loopw [5, 8] (fun _ j wr => ∃ k : Nat, k ≤ n ∧ j = .int .i64 k ∧ Hid (badN ks 0 = badN (ks.drop k) k) ∧ Below w.heap.size w wr) (fun _ j _ => n - (intOf j).toNat)
  case atStart => exact ⟨0, Nat.zero_le _, rfl, Lib.hid rfl, Below.refl _ _⟩
  case round =>
    obtain ⟨k, hk, rfl, hx, hB⟩ := hrel
    by_cases hlt : k < n
    · have hkl : k < ks.length := by rw [← HN.out]; exact hlt
      obtain ⟨b, off, rfl, hb, p1, p2⟩ := pAt_get (HI.out.below hB) k hkl
      have hd := hx.out
      rw [drop_next ks k hkl, badN] at hd
      rcases hs : ks[k] with ⟨f, g⟩
      rw [hs] at p1 p2 hd
      dsimp only at p1 p2 hd
      have hki : (k : Int) < (n : Int) := by omega
      have HC := Lib.hid (Tryd.noLook_any f g wr)
      have HB := Lib.hid hB
      cases hl : lookB f g with
      | true =>
        rw [hl, if_pos rfl] at hd
        rw [hl] at HC
        have HD := Lib.hid hd
        clear hd hl hs hx hB hkl
        go_wp2_with fail
        refine HC.out.mono ?_
        rintro e w1 ⟨rfl, hB1⟩
        have HB1 := Lib.hid (HB.out.trans (hB1.mono HB.out.size))
        clear hB1
        go_wp2_with fail
        exact ⟨⟨k + 1, by omega, by go_num, Lib.hid HD.out, HB1.out⟩, by simp [intOf]; omega⟩
      | false =>
        rw [hl, if_neg (by decide)] at hd
        rw [hl] at HC
        have HD := Lib.hid hd
        clear hd hl hs hx hB hkl
        go_wp2_with fail
        refine HC.out.mono ?_
        rintro e w1 ⟨rfl, hB1⟩
        have HB1 := Lib.hid (HB.out.trans (hB1.mono HB.out.size))
        clear hB1
        go_wp2_with fail
        go_ret
        exact ⟨by rw [HD.out]; rfl, HB1.out⟩
    · obtain rfl : k = n := by omega
      have hr : Hid (badN ks 0 = -1) := Lib.hid (by rw [hx.out, List.drop_of_length_le (Nat.le_of_eq HN.out.symm)]; rfl)
      clear hx
      go_wp2
      go_ret
      exact ⟨by rw [hr.out]; rfl, hB⟩
theorem Tryd.containsLook_any (a : Option Addr) (n cap : Nat) (ks : List (Int × Int)) (w : World) (hI : PAt w (.slice a n cap) ks) :
    Calls Tryd.prog 35 #[.slice a n cap, .func (.func 36) #[] #[]] w fun e w' => e = .returned (.bool (!allLook ks)) ∧ Below w.heap.size w w' := by
  have H := Lib.hid (Tryd.indexLook_any a n cap ks w hI)
  have hh := badN_all ks 0
  clear hI
  generalize badN ks 0 = r at *
  have HH := Lib.hid hh
  clear hh
  go_enter Tryd.func35, Tryd.ntmps35
  go_wp2_with fail
  refine H.out.mono ?_
  rintro e w' ⟨rfl, hB⟩
  go_wp2_with fail
  go_ret
  have hq : (!allLook ks) = decide (0 ≤ r) := by
    cases ha : allLook ks with
    | true => rw [decide_eq_false (fun h => by rw [HH.out.1 h] at ha; cases ha)]; rfl
    | false => rw [decide_eq_true (HH.out.2 ha)]; rfl
  exact ⟨by rw [hq]; rfl, hB⟩

theorem bVals_snoc (l : List Bool) (b : Bool) : bVals (l ++ [b]) = bVals l ++ [.bool b] := by simp [bVals]
theorem Tryd.infoBool : (Tryd.prog.info? 4).map (fun i => (i.zero, i.size, i.bytes)) = some (some (.bool false), 1, 1) := by kernel_rfl
def clrL (l ps : List (Int × Int)) : List Bool := ps.map fun k => clearB l k.1 k.2
theorem clrL_snoc (l ps : List (Int × Int)) (p : Int × Int) : clrL l (ps ++ [p]) = clrL l ps ++ [clearB l p.1 p.2] := by simp [clrL]
theorem clrL_len (l ps : List (Int × Int)) : (clrL l ps).length = ps.length := by simp [clrL]

set_option maxRecDepth 100000 in
set_option maxHeartbeats 4000000 in
theorem Tryd.madeB_any (Bs Bc Bl : Nat) (x : Option Addr) (nl capl : Nat) (l : List (Int × Int)) (hr : rightB l = true) (hsl : nl ≤ 1000) (a : Option Addr) (n cap : Nat) (ks : List (Int × Int)) (hs : n ≤ 1000) (w : World) (hBs : Rows8 w Bs 41 #[.slice a n cap]) (hc : Rows8 w Bc 64 #[.func (.func 49) #[] #[.pointer (some ⟨Bl, 0, none⟩)]]) (hl : Rows8 w Bl 23 #[.slice x nl capl]) (hI : PAt w (.slice a n cap) ks) (hIl : PAt w (.slice x nl capl) l) :
    Calls Tryd.prog 38 #[.func (.func 52) #[] #[.pointer (some ⟨Bs, 0, none⟩)], .func (.func 40) #[] #[.pointer (some ⟨Bc, 0, none⟩)]] w
      fun e w' => ∃ y c, e = .returned (.slice y (clrL l ks).length c) ∧ BAt w' (.slice y (clrL l ks).length c) (clrL l ks) ∧ Below w.heap.size w w' := by
  obtain ⟨i0, hi, hz0, hz1, hz2⟩ := info_parts Tryd.infoBool
  refine (callsIn_wide (n := 9)).1 ?_
  refine callsIn_of_wp_marks Tryd.func38 rfl trivial ?_ rfl
  simp only [Tryd.ntmps38, List.size_toArray, List.length_cons, List.length_nil, Nat.reduceAdd, Nat.reduceSub, Array.replicate_succ, Array.replicate_zero, List.push_toArray, List.append_toArray, List.nil_append, List.cons_append]
  have hln := (pAt_len hI).1
  have HI := Lib.hid hI
  have HS := fun (p : Int × Int) w' (hB : Below w.heap.size w w') => Lib.hid (Tryd.reads1_any p.1 p.2 Bc Bl x nl capl l hr (by omega) w' (hc.below hB hc.lt) (hl.below hB hl.lt) (hIl.below hB))
  clear hI hc hl hIl
  gi_wp2
  have bf := (Rows8.new w 70 #[.func (.func 40) #[] #[.pointer (some ⟨Bc, 0, none⟩)]]).alloc (.cells #[.slice none 0 0] 45)
  have br := Rows8.new (w.alloc (.cells #[.func (.func 40) #[] #[.pointer (some ⟨Bc, 0, none⟩)]] 70)) 45 #[.slice none 0 0]
  have hBc : Below w.heap.size w ((w.alloc (.cells #[.func (.func 40) #[] #[.pointer (some ⟨Bc, 0, none⟩)]] 70)).alloc (.cells #[.slice none 0 0] 45)) := Rows8.newB.alloc (by simp) _
  have hz : ((w.alloc (.cells #[.func (.func 40) #[] #[.pointer (some ⟨Bc, 0, none⟩)]] 70)).alloc (.cells #[.slice none 0 0] 45)).heap.size = w.heap.size + 2 := by simp
  rw [World.size_alloc] at br
  generalize ((w.alloc (.cells #[.func (.func 40) #[] #[.pointer (some ⟨Bc, 0, none⟩)]] 70)).alloc (.cells #[.slice none 0 0] 45)) = W0 at *
  have htl := Tryd.values1_tells 8 (by decide) Bs w.heap.size 45 4 (by decide) (by decide) a n cap ks w W0 (Nat.le_refl _) hBc (hBs.below hBc hBs.lt) HI.out
  have HTL := Lib.hid htl
  clear htl hBs
  refine range_tellsC rfl (by decide) (gf := 52) (lb := #[.pointer (some ⟨Bs, 0, none⟩)]) rfl trivial (fun _ _ => by kernel_rfl) HTL.out kt_t kt_b (Below.refl _ _) (fun _ => rfl)
    (fun pre W' => Rows8 W' w.heap.size 70 #[.func (.func 40) #[] #[.pointer (some ⟨Bc, 0, none⟩)]] ∧ (∃ u, Boxed W' (w.heap.size + 1) 45 u ∧ W'.ownsRow w.heap.size 4 1 u (clrL l pre).length (bVals (clrL l pre)) ∧ True) ∧ Below w.heap.size w W')
    (fun _ _ _ => False)
    (OwnFrom.and (Own.from (Rows8.own _ _ _) _) (OwnFrom.and (Own.from (holdsRow_own w.heap.size (w.heap.size + 1) 45 4 1 (fun pre => (clrL l pre).length) (fun pre => bVals (clrL l pre)) (fun _ _ => True)) _) (ownFrom_below (Nat.le_refl _) (by omega))))
    (fun _ _ _ _ _ hs _ _ => hs)
    (fun s X Y hs hXY => ⟨hs.1.below hXY hs.1.lt, by obtain ⟨u, h1, h2, h3⟩ := hs.2.1; exact ⟨u, (hXY.block _ h1.lt).trans h1, owns_keep h2 hXY (Nat.le_refl _), h3⟩, hs.2.2.trans (hXY.mono hs.2.2.size)⟩)
    (fun _ _ _ _ hs _ => hs)
    ⟨bf, ⟨_, br, World.ownsRow_nil _ _ _ _, trivial⟩, hBc⟩
    (fun x a' W' => ∃ Bx, Rows8 W' Bx 44 #[.int .i64 x.1, .int .i64 x.2] ∧ a' = { tmps := #[.func (.func 52) #[] #[.pointer (some ⟨Bs, 0, none⟩)], .func (.func 40) #[] #[.pointer (some ⟨Bc, 0, none⟩)], undef, .pointer (some ⟨w.heap.size, 0, none⟩), .slice none 0 0, .pointer (some ⟨w.heap.size + 1, 0, none⟩), .pointer (some ⟨Bx, 0, none⟩), undef, undef, .func (.func 52) #[] #[.pointer (some ⟨Bs, 0, none⟩)], .agg #[.int .i64 x.1, .int .i64 x.2], undef, undef, undef, undef, undef, undef, undef, undef, undef, undef, undef, undef], defers := [] })
    (fun x a' s X Y row hs hg hr => by obtain ⟨Bx, h1, h2⟩ := hs; exact ⟨Bx, Own.from (Rows8.own (β := Unit) Bx _ (fun _ => _)) _ s X Y row h1 hg hr, h2⟩) ?assign ?body ?done ?stop
  case assign =>
    rintro l2 pre ⟨p1, p2⟩ W' K ⟨h0, ⟨u, hu, hr, _⟩, hB⟩ hK
    unfold encP
    gi_wp2
    exact hK _ _ ((KeepsOthers.alloc _ _).from _) (Kt.alloc _ _) ⟨h0.alloc _, ⟨u, hu.alloc _, hr.alloc _, trivial⟩, hB.alloc hB.size _⟩ ⟨W'.heap.size, Rows8.new _ _ _, rfl⟩
  case body =>
    rintro l2 pre ⟨p1, p2⟩ a' W' ⟨h0, ⟨u, hu, hr, _⟩, hB⟩ ⟨Bx, hbx, rfl⟩ hlen
    obtain ⟨au, cu, rfl⟩ : ∃ au cu, u = .slice au (clrL l pre).length cu := by
      obtain ⟨_, a, cap, h, _⟩ := rowAt_own hr
      exact ⟨a, cap, h⟩
    have hgl2 := clrL_len l pre
    have hpl : (clrL l pre).length < 1001 := by omega
    clear hgl2
    have y0 := hbx.cell 0
    have y1 := hbx.cell 1
    have z0 := h0.cell 0
    simp at y0 y1 z0
    have HC := HS (p1, p2) W' hB
    dsimp only at HC
    have hyes := clrL_snoc l pre (p1, p2)
    dsimp only at hyes
    have HY := Lib.hid hyes
    generalize clearB l p1 p2 = cb at *
    have HU := Lib.hid hu
    have HR := Lib.hid hr
    have H0 := Lib.hid h0
    have HB := Lib.hid hB
    clear hu hr h0 hB hbx hyes
    gi_wp2_with fail
    refine ⟨trivial, ?_⟩
    refine (CallsIn.inRound l2 (callsIn_wide.2 HC.out)).mono ?_
    rintro e W1 ⟨rfl, hB1⟩
    have hu1 : Boxed W1 (w.heap.size + 1) 45 (.slice au (clrL l pre).length cu) := (hB1.block _ HU.out.lt).trans HU.out
    have hr1 := owns_keep HR.out hB1 (Nat.le_refl _)
    have hw1 := HB.out.trans (hB1.mono HB.out.size)
    have hc1 : W1.cell? ⟨w.heap.size + 1, 0, none⟩ = some (.slice au (clrL l pre).length cu) := hu1.cell
    have hf1 := hu1.frozen
    have hlt1 : w.heap.size + 1 < W1.heap.size := hu1.lt
    have hsz := hw1.size
    gi_wp2_with (gi_at_builtin; refine wpListIn_append_own _ rfl _ _ 45 rfl w.heap.size 4 i0 (.bool false) 1 1 Tryd.underlying45 hi hz0 hz1 hz2 rfl (by decide) _ _ _ rfl (hr1.alloc _) ⟨W1.heap.size, 0, none⟩ 1 1 [.bool cb] rfl rfl (cell_one_new _ _ _) (by simp [Value.oneCell']) (by unfold maxLen; omega) (by omega) (by simp; omega) ?_; intro v' w3 hown' hgrow _; obtain ⟨g', cap', rfl⟩ := ownsRow_succ hown'; obtain ⟨hv1, hv2, hr2, hk2, hb2⟩ := hu1.appended (by decide) hr1 (by omega) (by omega) hown' hgrow; have ht2 := (((Kt.of_below hB1 : Kt w.heap.size 45 4 W' W1).trans (Kt.alloc _ _)).grown (Nat.le_refl _) (hr1.alloc _) hgrow).set (a := ⟨w.heap.size + 1, 0, none⟩) hv1 (by simp) (.inl rfl) (.slice (some ⟨g', 0, none⟩) ((clrL l pre).length + 1) cap'); have hc3 := hv1.cell; have hf3 := hv1.frozen; have H03 := Lib.hid (ht2.rows H0.out (by decide) (by decide)))
    exact ⟨keepsFrom_trans' (keepsFrom_below hB1) (hk2.from _), ht2, H03.out, ⟨_, hv2, by rw [HY.out, bVals_snoc]; simpa using hr2, trivial⟩, hw1.trans hb2⟩
  case done =>
    rintro D ys W' hD hys ⟨h0, ⟨u, hu, hr, _⟩, hB⟩ hK
    have hsp : Hid (clrL l ys = clrL l ks) := Lib.hid (by subst hys; rfl)
    have hr' := ownsRow_putObj hr (.deferred none) hK rfl
    obtain ⟨y, c, rfl⟩ : ∃ y c, u = .slice y (clrL l ys).length c := by
      obtain ⟨_, a, cap, h, _⟩ := rowAt_own hr
      exact ⟨a, cap, h⟩
    have hc := hu.cell
    have HR' := Lib.hid hr'
    have HB := Lib.hid hB
    clear hys hr hu hr' hB h0
    gi_wp2
    refine ⟨by simp, .inl ⟨_, _, rfl, run_takeDeferred hK, ?_⟩⟩
    exact ⟨_, results_tmp rfl _ _ _, y, c, by rw [← hsp.out]; rfl, by rw [← hsp.out]; exact rowAt_own HR'.out, HB.out.trans (belowK_b (w := w) (Nat.le_refl _) _ D _ _ (by omega) hK rfl rfl)⟩
  case stop =>
    rintro D c pre W' _ _ h _
    exact h.elim

theorem readsR_ok {l ks : List (Int × Int)} (h : readsE l ks = 0) : readsR l ks = clrL l ks := if_pos h
theorem readsR_err {l ks : List (Int × Int)} (h : readsE l ks ≠ 0) : readsR l ks = [] := if_neg h
def ReadsQ (w : World) (S : List Bool) (E : Int) (e : Ending) (w' : World) : Prop := ∃ x c, e = .returned (.tuple #[.slice x S.length c, .int .i64 E]) ∧ BAt w' (.slice x S.length c) S ∧ Below w.heap.size w w'
set_option maxHeartbeats 2000000 in
theorem Tryd.Reads_any (x : Option Addr) (nl capl : Nat) (l : List (Int × Int)) (hsl : nl ≤ 1000) (a : Option Addr) (n cap : Nat) (ks : List (Int × Int)) (hs : n ≤ 1000) (w : World) (hI : PAt w (.slice x nl capl) l) (hK : PAt w (.slice a n cap) ks) :
    Calls Tryd.prog 20 #[.slice x nl capl, .slice a n cap] w (ReadsQ w (readsR l ks) (readsE l ks)) := by
  have HC := Lib.hid (Tryd.Check_any x nl capl l _ hI)
  have HL := fun w' (hB : Below w.heap.size w w') => Lib.hid (Tryd.containsLook_any a n cap ks w' (hK.below hB))
  have HI := fun w' => Lib.hid (Tryd.clearIn_any x nl capl w')
  have HV := fun w' => Lib.hid (Tryd.values_any a n cap w')
  have HM := fun (hr : rightB l = true) Bs Bc Bl w' (hB : Below w.heap.size w w') h1 h2 h3 => Lib.hid (Tryd.madeB_any Bs Bc Bl x nl capl l hr hsl a n cap ks hs w' h1 h2 h3 (hK.below hB) (hI.below hB))
  have e1 : checkE l = if rightB l = true then 0 else 160 := rfl
  have e2 : readsE l ks = if rightB l = true then (if allLook ks = true then 0 else 2) else 160 := rfl
  clear hI hK
  cases hr : rightB l with
  | false =>
    rw [hr, if_neg (by decide)] at e1 e2
    rw [readsR_err (by rw [e2]; decide), e2]
    rw [e1] at HC
    clear e1 e2 hr HM HL HI HV
    go_enter Tryd.func20, Tryd.ntmps20
    go_wp2_with fail
    refine HC.out.mono ?_
    rintro e w1 ⟨rfl, hB⟩
    go_wp2_with fail
    go_ret2
    exact ⟨none, 0, rfl, bAt_none _, hB⟩
  | true =>
    rw [hr, if_pos rfl] at e1 e2
    rw [e1] at HC
    have HM := HM hr
    cases hs : allLook ks with
    | false =>
      rw [hs, if_neg (by decide)] at e2
      rw [readsR_err (by rw [e2]; decide), e2]
      rw [hs] at HL
      clear e1 e2 hr hs HM HI HV
      go_enter Tryd.func20, Tryd.ntmps20
      go_wp2_with fail
      refine HC.out.mono ?_
      rintro e w1 ⟨rfl, hB⟩
      go_wp2_with fail
      refine (HL _ hB).out.mono ?_
      rintro e w2 ⟨rfl, hB2⟩
      have HB2 := Lib.hid (hB.trans (hB2.mono hB.size))
      clear hB2 hB
      go_wp2_with fail
      go_ret2
      exact ⟨none, 0, rfl, bAt_none _, HB2.out⟩
    | true =>
      rw [hs, if_pos rfl] at e2
      rw [readsR_ok e2, e2]
      rw [hs] at HL
      clear e1 e2 hr hs
      go_enter Tryd.func20, Tryd.ntmps20
      go_wp2_with fail
      refine HC.out.mono ?_
      rintro e w1 ⟨rfl, hB⟩
      go_wp2_with fail
      refine (HL _ hB).out.mono ?_
      rintro e w2 ⟨rfl, hB2⟩
      have HB2 := Lib.hid (hB.trans (hB2.mono hB.size))
      clear hB2 hB
      go_wp2_with fail
      refine (HI _).out.mono ?_
      rintro e w3 ⟨rfl, hw3⟩
      have hl3 : Rows8 w3 w2.heap.size 23 #[.slice x nl capl] := by rw [hw3]; exact Rows8.new _ _ _
      have hB3 : Below w2.heap.size w2 w3 := by rw [hw3]; exact Rows8.newB
      have HB3 := Lib.hid (HB2.out.trans (hB3.mono HB2.out.size))
      have HL3 := Lib.hid hl3
      clear hB3 hw3 hl3
      go_wp2_with fail
      have hc4 := Rows8.new w3 64 #[.func (.func 49) #[] #[.pointer (some ⟨w2.heap.size, 0, none⟩)]]
      have hl4 := HL3.out.alloc (.cells #[.func (.func 49) #[] #[.pointer (some ⟨w2.heap.size, 0, none⟩)]] 64)
      have hB4 := HB3.out.alloc HB3.out.size (.cells #[.func (.func 49) #[] #[.pointer (some ⟨w2.heap.size, 0, none⟩)]] 64)
      generalize (w3.alloc (.cells #[.func (.func 49) #[] #[.pointer (some ⟨w2.heap.size, 0, none⟩)]] 64)) = w4 at *
      refine (HV _).out.mono ?_
      rintro e w5 ⟨rfl, hw5⟩
      have hs5 : Rows8 w5 w4.heap.size 41 #[.slice a n cap] := by rw [hw5]; exact Rows8.new _ _ _
      have hB5 : Below w4.heap.size w4 w5 := by rw [hw5]; exact Rows8.newB
      have HB5 := Lib.hid (hB4.trans (hB5.mono hB4.size))
      have HM5 := HM w4.heap.size w3.heap.size w2.heap.size w5 HB5.out hs5 (hc4.below hB5 hc4.lt) (hl4.below hB5 hl4.lt)
      clear hB5 hw5 HM hs5 hc4 hl4 hB4
      go_wp2_with fail
      refine HM5.out.mono ?_
      rintro e w6 ⟨y, c, rfl, hP, hB6⟩
      have HP := Lib.hid hP
      have HB6 := Lib.hid (HB5.out.trans (hB6.mono HB5.out.size))
      clear hP hB6
      go_wp2_with fail
      go_ret2
      exact ⟨y, c, rfl, HP.out, HB6.out⟩
end Go.Proofs
