/- Proved: for every group and row of turns, honeycomblaw10.GroupTurns returns true, and its arguments read as they did; no condition. -/
import Derived.Test.YtacphakpmmickaaGreatZUb
import Derived.ShutString
import Derived.ChangeOld
import Derived.Below
namespace Go.Proofs
set_option maxRecDepth 100000
open Go.RowKit Go.Shelf
attribute [local go_sem] Oper.semAt_some

theorem set_bad {g : Gr} (hr : rightG g = true) {lane : Int} (hb : bad lane) (x : Nat) : ansG g (setE g lane) (setG g lane x) = zG ∧ ansE g (setE g lane) = 110 := by
  have h : setE g lane = 110 := by unfold setE; rw [if_pos (show lane < 0 ∨ 8 ≤ lane from hb)]
  unfold ansG ansE
  rw [h, if_pos hr, if_neg (fun e => absurd e.2 (by decide))]
  all_goals exact ⟨rfl, rfl⟩
theorem set_no {g : Gr} (hr : rightG g = true) {l : Nat} (hl : l < 8) (hf : ¬ byt g.c l < 128) (x : Nat) : ansG g (setE g (l : Nat)) (setG g (l : Nat) x) = zG ∧ ansE g (setE g (l : Nat)) = 4 := by
  have h : setE g ((l : Nat) : Int) = 4 := by unfold setE; rw [if_neg (by omega), if_pos (by simpa using (by omega : 127 < byt g.c l))]
  unfold ansG ansE
  rw [h, if_pos hr, if_neg (fun e => absurd e.2 (by decide))]
  all_goals exact ⟨rfl, rfl⟩
theorem set_yes {g : Gr} (hr : rightG g = true) {l : Nat} (hl : l < 8) (hf : byt g.c l < 128) (x : Nat) : ansG g (setE g (l : Nat)) (setG g (l : Nat) x) = ⟨g.c, g.k, upd g.v l x⟩ ∧ ansE g (setE g (l : Nat)) = 0 := by
  have h : setE g ((l : Nat) : Int) = 0 := by unfold setE; rw [if_neg (by omega), if_neg (by simpa using (by omega : ¬ 127 < byt g.c l))]
  unfold ansG ansE
  rw [h, if_pos hr, if_pos ⟨hr, rfl⟩]
  all_goals exact ⟨rfl, rfl⟩
theorem slotVals_append1 (l : List Sl) (s : Sl) : slotVals (l ++ [s]) = slotVals l ++ [.int .u64 (s.key : Nat), .int .u64 (s.val : Nat), .int .u8 (s.h2 : Nat)] := by
  rw [slotVals_snoc]
  all_goals rfl
set_option maxHeartbeats 100000000 in
theorem Tryz.turns_any (g : Gr) (hc : g.c < 18446744073709551616) (a0 : Option Addr) (n0 c0 : Nat) (ts : List Tu) (hl : n0 = ts.length) (w : World) (hK : GTurnsK w (.slice a0 n0 c0) ts) :
    Calls Tryz.prog 3 #[.agg (gc g), .slice a0 n0 c0] w fun e w' => e = .returned (.bool true) ∧ Below w.heap.size w w' := by
  obtain ⟨hi0, hi, hz0, hz1, hz2⟩ := info_parts Tryz.infoSlot
  have HWk := fun W => Lib.hid (Tryz.wakes_any W)
  have HC := Lib.hid hc
  have HK := Lib.hid hK
  have HL := Lib.hid hl
  have h0 := Rows8.new w 25 (gc g)
  have hb := Lib.hid ((Below.refl w.heap.size w).alloc (Nat.le_refl _) (.cells (gc g) 25))
  clear hc hl hK
  go_enter Tryz.func3, Tryz.ntmps3
  go_wp2_with (first | (refine wpList_loadW (by rfl) _ _ rfl ⟨w.heap.size, 0, none⟩ _ rfl hld0 ?_) | (go_at_call 4; refine (HWk _).out.mono ?_; rintro e w0 ⟨rfl, hB0⟩; have hx0 := h0.below hB0 h0.lt; have hld0 := Tryz.load_group hx0; have HX0 := Lib.hid hx0; have HB0 := Lib.hid (hb.out.trans (hB0.mono hb.out.size)); clear hB0 hx0; obtain ⟨w3, hst3, hr5, hB3⟩ := Tryz.box_new g w0) | (refine wpList_storeW (by rfl) 25 _ _ rfl ⟨w0.heap.size, 0, none⟩ _ rfl rfl hst3 ?_))
  have hR3 : Rd w0.heap.size w g g [] (.slice none 0 0) w3 := ⟨HX0.out.below hB3 HX0.out.lt, hr5, World.ownsRow_nil _ _ _ _, HB0.out.trans (hB3.mono HB0.out.size), HX0.out.lt⟩
  have HR3 := Lib.hid hR3
  clear hR3 hB3 hr5 hst3 hld0 h0
  generalize w0.heap.size = B5 at *
  go_loopw [6, 30] (fun sv i wr => ∃ (k : Nat) (cur : Gr) (sl : List Sl) (a6 : Option Addr) (c6 : Nat), sv = .slice a6 sl.length c6 ∧ k ≤ n0 ∧ k ≤ 20 ∧ i = .int .i64 k ∧ Hid (Rd B5 w g cur sl (.slice a6 sl.length c6) wr) ∧ Hid (cur.c < 18446744073709551616) ∧ Hid (sl.length ≤ k ∧ ∀ s ∈ sl, s.h2 < 256)) (fun _ i _ => n0 - (intOf i).toNat)
  case atStart => exact ⟨0, g, [], none, 0, rfl, Nat.zero_le _, Nat.zero_le _, rfl, HR3, HC, Lib.hid ⟨Nat.le_refl _, fun s hs => by cases hs⟩⟩
  case round =>
    obtain ⟨k, cur, sl, a6, c6, rfl, hk, hk20, rfl, hR, hcc, hsl⟩ := hrel
    by_cases hlt : k < n0
    · have hki : (k : Int) < (n0 : Int) := by omega
      have hkl : k < ts.length := by rw [← HL.out]; exact hlt
      obtain ⟨b, off, rfl, hb0, q0, q1, q2, q3, q4⟩ := turnsK_get (by have h1 := HK.out.1; rw [← HL.out] at h1; exact h1) k hkl
      have hs2 := HK.out.2 _ (List.getElem_mem hkl)
      have q0 := (hR.out.b.cell (p := ⟨b, off + k * 5, none⟩) hb0).trans q0
      have q1 := (hR.out.b.cell (p := ⟨b, off + k * 5 + 1, none⟩) hb0).trans q1
      have q2 := (hR.out.b.cell (p := ⟨b, off + k * 5 + 2, none⟩) hb0).trans q2
      have q3 := (hR.out.b.cell (p := ⟨b, off + k * 5 + 3, none⟩) hb0).trans q3
      have q4 := (hR.out.b.cell (p := ⟨b, off + k * 5 + 4, none⟩) hb0).trans q4
      generalize ts[k] = t at *
      obtain ⟨d, s, lane⟩ := t
      dsimp only at q0 q1 q2 q3 q4 hs2
      have hRa := hR.out.below ((Below.refl wr.heap.size wr).alloc (Nat.le_refl _) (.cells #[.bool d, .int .u64 (s.key : Nat), .int .u64 (s.val : Nat), .int .u8 (s.h2 : Nat), .int .i64 lane] 32))
      by_cases h20 : k = 20
      · subst h20
        have hlt20 : (20 : Int) < (n0 : Int) := hki
        have HRa := Lib.hid hRa
        clear hs2 hRa
        as_aux_lemma =>
          have hRz := HRa.out
          have hxz := hRz.x
          have hldz := Tryz.load_group hxz
          have HXz := Lib.hid hxz
          have HBz := Lib.hid hRz.b
          have hrow := hRz.o
          have HRow := Lib.hid hrow
          have HPuts := fun W => Lib.hid (fun h => Tryz.gPuts_any g HC.out sl hsl.out.2 a6 sl.length c6 rfl (by have := hsl.out.1; omega) W h)
          rw [(puts_same g sl).1, (puts_same g sl).2] at HPuts
          obtain ⟨e0, he0⟩ : ∃ e, startT g = e := ⟨_, rfl⟩
          rw [he0] at HPuts
          obtain ⟨gP, hgP⟩ : ∃ G : Gr, (if (sl.foldl stepT (e0, g)).1 = 0 then (sl.foldl stepT (e0, g)).2 else zG) = G := ⟨_, rfl⟩
          rw [hgP] at HPuts
          have HGP := Lib.hid hgP
          have HE0 := Lib.hid he0
          clear he0 hgP
          have HRg := fun W => Lib.hid (Tryz.rgRight_any g HC.out W)
          have hpr := rowAt_own hrow
          obtain ⟨mz, hmz⟩ : ∃ m, m = sl.length := ⟨_, rfl⟩
          rw [← hmz] at HPuts HRow hpr ⊢
          have hmz20 : mz ≤ 20 := by rw [hmz]; have := hsl.out.1; omega
          have HM := Lib.hid hmz
          have HS := Lib.hid hsl.out.2
          clear hRz hmz hxz hrow
          go_wp2_with (first | (refine wpList_loadW (by rfl) _ _ rfl ⟨w.heap.size, 0, none⟩ _ rfl hldz ?_))
          refine ((HPuts _).out hpr).mono ?_
          rintro e v2 ⟨rfl, hB2⟩
          obtain ⟨v3, hst3, hr19, hB3⟩ := Tryz.box_new gP v2
          have hx3 := (HXz.out.below hB2 HXz.out.lt).below hB3 (by have := HXz.out.lt; have := hB2.size; omega)
          have hbz := HBz.out.trans ((hB2.trans (hB3.mono hB2.size)).mono HBz.out.size)
          have hrow3 := ownsRow_below (ownsRow_below HRow.out hB2 (Nat.le_refl _)) hB3 (Nat.le_refl _)
          have hld3 := Tryz.load_group hx3
          obtain ⟨v4, hst4, hr21, hB4⟩ := Tryz.box_new g v3
          have hx4 := hx3.below hB4 hx3.lt
          have hr19' := hr19.below hB4 hr19.lt
          have hrow4 := ownsRow_below hrow3 hB4 (Nat.le_refl _)
          have hbz4 := hbz.trans (hB4.mono hbz.size)
          have hld4 := Tryz.load_group hx4
          have HB4 := Lib.hid hbz4
          have HR19 := Lib.hid hr19'
          have HR21 := Lib.hid hr21
          have HRow4 := Lib.hid hrow4
          have hlt34 : v2.heap.size < v3.heap.size := hr19.lt
          have hlw2 : w.heap.size ≤ v2.heap.size := Nat.le_trans HBz.out.size hB2.size
          clear hB2 hB3 hB4 hx3 hbz hrow3 hx4 hr19' hrow4 hbz4 hr19 hr21 hpr
          go_wp2_with (first | (refine wpList_storeW (by rfl) 25 _ _ rfl ⟨v2.heap.size, 0, none⟩ _ rfl rfl hst3 ?_) | (refine wpList_loadW (by rfl) _ _ rfl ⟨w.heap.size, 0, none⟩ _ rfl hld3 ?_) | (refine wpList_storeW (by rfl) 25 _ _ rfl ⟨v3.heap.size, 0, none⟩ _ rfl rfl hst4 ?_) | (refine wpList_loadW (by rfl) _ _ rfl ⟨w.heap.size, 0, none⟩ _ rfl hld4 ?_))
          refine (HRg _).out.mono ?_
          rintro e v5 ⟨rfl, hB5⟩
          have HB5 := Lib.hid (HB4.out.trans (hB5.mono HB4.out.size))
          have HR19 := Lib.hid (HR19.out.below hB5 HR19.out.lt)
          have HR21 := Lib.hid (HR21.out.below hB5 HR21.out.lt)
          have HRow5 := Lib.hid (ownsRow_below HRow4.out hB5 (Nat.le_refl _))
          have hc0 := HC.out
          have hz0 : e0 = if rightG g then 0 else 200 := HE0.out.symm
          clear HE0
          generalize rightG g = rr at *
          clear hB5 hst3 hst4 hld3 hld4 hldz
          cases rr
          · obtain rfl : e0 = 200 := hz0
            go_wp2_with fail
            go_loopw [22, 154] (fun ev i wr => ∃ k : Nat, k ≤ mz ∧ i = .int .i64 k ∧ ev = .int .i64 ((sl.take k).foldl stepT (200, g)).1 ∧ Hid (Rows8 wr v3.heap.size 25 (gc ((sl.take k).foldl stepT (200, g)).2)) ∧ Hid (((sl.take k).foldl stepT (200, g)).1 = 0 → ((sl.take k).foldl stepT (200, g)).2.c < 18446744073709551616) ∧ Hid (Rows8 wr v2.heap.size 25 (gc gP)) ∧ Hid (OwnsSlots w.heap.size sl (.slice a6 mz c6) wr) ∧ Hid (Below w.heap.size w wr)) (fun _ i _ => mz - (intOf i).toNat)
            case atStart => exact ⟨0, Nat.zero_le _, rfl, rfl, HR21, Lib.hid (fun _ => HC.out), HR19, HRow5, HB5⟩
            case round =>
              obtain ⟨k, hk, rfl, rfl, h21, hcl, h19, hrw, hbl⟩ := hrel
              by_cases hlt : k < mz
              · have hkl : k < sl.length := by rw [← HM.out]; exact hlt
                have hki : (k : Int) < (mz : Int) := by omega
                obtain ⟨b1, o1, rfl, hl1, p0, p1, p2⟩ := slotsAt_get (by have h1 := rowAt_own hrw.out; rw [← HM.out] at h1; exact h1) k hkl
                have hsk := HS.out _ (List.getElem_mem hkl)
                have htk : (sl.take (k + 1)).foldl stepT (200, g) = stepT ((sl.take k).foldl stepT (200, g)) sl[k] := by rw [take_next sl k hkl, List.foldl_append]; rfl
                generalize sl[k] = s at *
                generalize hP : (sl.take k).foldl stepT (200, g) = P at *
                obtain ⟨pe, pg⟩ := P
                dsimp only at hcl h21 ⊢
                have HTK := Lib.hid htk
                clear hP htk
                have hal := Lib.hid ((Below.refl wr.heap.size wr).alloc (Nat.le_refl _) (.cells #[.int .u64 (s.key : Nat), .int .u64 (s.val : Nat), .int .u8 (s.h2 : Nat)] 30))
                have hq21 := h21.out.below hal.out h21.out.lt
                have hq19 := h19.out.below hal.out h19.out.lt
                have hqrw := ownsRow_below hrw.out hal.out (Nat.le_refl _)
                have hqbl := hbl.out.trans (hal.out.mono hbl.out.size)
                by_cases hpe : pe = 0
                · subst hpe
                  have hpc := hcl.out rfl
                  have hldq := Tryz.load_group hq21
                  have HPt := fun W => Lib.hid (Tryz.rgPut_any pg hpc s hsk W)
                  have HN : Hid (stepT (0, pg) s = (putE pg s, rpG pg s)) := Lib.hid (by unfold stepT; simp only [if_pos])
                  have HLt : Hid (putE pg s = 0 → (rpG pg s).c < 18446744073709551616) := Lib.hid (fun h0 => by unfold rpG; rw [if_pos h0]; exact put_lt hsk hpc h0)
                  have H21 := Lib.hid hq21
                  have H19 := Lib.hid hq19
                  have HRw := Lib.hid hqrw
                  have HBl := Lib.hid hqbl
                  clear hq21 hq19 hqrw hqbl hpc h21 h19 hrw hcl hsk
                  go_wp2_with (first | (refine wpList_loadW (by rfl) _ _ rfl ⟨v3.heap.size, 0, none⟩ _ rfl hldq ?_))
                  refine (HPt _).out.mono ?_
                  rintro e v7 ⟨rfl, hB7⟩
                  have hy21 := H21.out.below hB7 H21.out.lt
                  have hstq := Tryz.store_group (rpG pg s) hy21 rfl
                  have HB7 := Lib.hid hB7
                  clear hB7
                  go_wp2_with (first | (refine wpList_storeW (by rfl) 25 _ _ rfl ⟨v3.heap.size, 0, none⟩ _ rfl rfl hstq ?_))
                  go_roundw
                  case rel => exact ⟨k + 1, by omega, by go_num, by rw [HTK.out, HN.out], Lib.hid (by rw [HTK.out, HN.out]; exact setRow_heap _ _ _ _ _ _ hy21), Lib.hid (by rw [HTK.out, HN.out]; exact HLt.out), Lib.hid ((setRow_other _ _ _ _ (by omega)).trans (H19.out.below HB7.out H19.out.lt)), Lib.hid (owns_setRow (ownsRow_below HRw.out HB7.out (Nat.le_refl _)) hy21 slot_ne_group _), Lib.hid (below_setRow (HBl.out.trans (HB7.out.mono HBl.out.size)) (by omega) _)⟩
                  case measure => simp [intOf]; omega
                · have hpb : (pe == 0) = false := by simpa using hpe
                  have HN : Hid (stepT (pe, pg) s = (pe, pg)) := Lib.hid (if_neg hpe)
                  have H21 := Lib.hid hq21
                  have H19 := Lib.hid hq19
                  have HRw := Lib.hid hqrw
                  have HBl := Lib.hid hqbl
                  clear hq21 hq19 hqrw hqbl h21 h19 hrw hsk
                  go_wp2_with fail
                  go_roundw
                  case rel => exact ⟨k + 1, by omega, by go_num, by rw [HTK.out, HN.out], Lib.hid (by rw [HTK.out, HN.out]; exact H21.out), Lib.hid (by rw [HTK.out, HN.out]; exact hcl.out), H19, HRw, HBl⟩
                  case measure => simp [intOf]; omega
              · obtain rfl : k = mz := by omega
                have hki : ¬ (k : Int) < (k : Int) := by omega
                have hfull : (sl.take k).foldl stepT (200, g) = sl.foldl stepT (200, g) := by rw [HM.out, List.take_of_length_le (Nat.le_refl _)]
                have h19 := h19.out
                rw [← HGP.out] at h19
                have h19 := Lib.hid h19
                clear HGP
                rw [hfull] at h21 hcl ⊢
                generalize sl.foldl stepT (200, g) = P at *
                obtain ⟨pe, pg⟩ := P
                dsimp only at h21 h19 ⊢
                clear hfull hcl
                by_cases hpe : pe = 0
                · subst hpe
                  rw [if_pos rfl] at h19
                  have hl21 := Tryz.load_group h21.out
                  have hl19 := Tryz.load_group h19.out
                  go_wp2_with (first | (refine wpList_loadW (by rfl) _ _ rfl ⟨v2.heap.size, 0, none⟩ _ rfl hl19 ?_) | (refine wpList_loadW (by rfl) _ _ rfl ⟨v3.heap.size, 0, none⟩ _ rfl hl21 ?_) | (refine wpList_eqlW (by rfl) 25 _ _ rfl (gc pg) (gc pg) rfl rfl (by kernel_rfl) true (Tryz.eqGroup pg _) ?_))
                  go_ret
                  exact ⟨rfl, hbl.out⟩
                · have hpb : (pe == 0) = false := by simpa using hpe
                  have hpb2 : (pe != 0) = true := by simpa using hpe
                  rw [if_neg hpe] at h19
                  have hstz := Tryz.store_group zG h21.out rfl
                  have hl21 := Tryz.load_group (setRow_heap _ v3.heap.size _ (gc zG) _ _ h21.out)
                  have hl19 := Tryz.load_group (show Rows8 (wr.setRow v3.heap.size (gc zG)) v2.heap.size 25 (gc zG) from (setRow_other _ _ _ _ (by omega)).trans h19.out)
                  go_wp2_with (first | (refine wpList_storeW (by rfl) 25 _ _ rfl ⟨v3.heap.size, 0, none⟩ _ rfl rfl hstz ?_) | (refine wpList_loadW (by rfl) _ _ rfl ⟨v2.heap.size, 0, none⟩ _ rfl hl19 ?_) | (refine wpList_loadW (by rfl) _ _ rfl ⟨v3.heap.size, 0, none⟩ _ rfl hl21 ?_) | (refine wpList_eqlW (by rfl) 25 _ _ rfl (gc zG) (gc zG) rfl rfl (by kernel_rfl) true (Tryz.eqGroup zG _) ?_))
                  go_ret
                  exact ⟨by simp, below_setRow hbl.out (by omega) _⟩
          · obtain rfl : e0 = 0 := hz0
            go_wp2_with fail
            go_loopw [22, 154] (fun ev i wr => ∃ k : Nat, k ≤ mz ∧ i = .int .i64 k ∧ ev = .int .i64 ((sl.take k).foldl stepT (0, g)).1 ∧ Hid (Rows8 wr v3.heap.size 25 (gc ((sl.take k).foldl stepT (0, g)).2)) ∧ Hid (((sl.take k).foldl stepT (0, g)).1 = 0 → ((sl.take k).foldl stepT (0, g)).2.c < 18446744073709551616) ∧ Hid (Rows8 wr v2.heap.size 25 (gc gP)) ∧ Hid (OwnsSlots w.heap.size sl (.slice a6 mz c6) wr) ∧ Hid (Below w.heap.size w wr)) (fun _ i _ => mz - (intOf i).toNat)
            case atStart => exact ⟨0, Nat.zero_le _, rfl, rfl, HR21, Lib.hid (fun _ => HC.out), HR19, HRow5, HB5⟩
            case round =>
              obtain ⟨k, hk, rfl, rfl, h21, hcl, h19, hrw, hbl⟩ := hrel
              by_cases hlt : k < mz
              · have hkl : k < sl.length := by rw [← HM.out]; exact hlt
                have hki : (k : Int) < (mz : Int) := by omega
                obtain ⟨b1, o1, rfl, hl1, p0, p1, p2⟩ := slotsAt_get (by have h1 := rowAt_own hrw.out; rw [← HM.out] at h1; exact h1) k hkl
                have hsk := HS.out _ (List.getElem_mem hkl)
                have htk : (sl.take (k + 1)).foldl stepT (0, g) = stepT ((sl.take k).foldl stepT (0, g)) sl[k] := by rw [take_next sl k hkl, List.foldl_append]; rfl
                generalize sl[k] = s at *
                generalize hP : (sl.take k).foldl stepT (0, g) = P at *
                obtain ⟨pe, pg⟩ := P
                dsimp only at hcl h21 ⊢
                have HTK := Lib.hid htk
                clear hP htk
                have hal := Lib.hid ((Below.refl wr.heap.size wr).alloc (Nat.le_refl _) (.cells #[.int .u64 (s.key : Nat), .int .u64 (s.val : Nat), .int .u8 (s.h2 : Nat)] 30))
                have hq21 := h21.out.below hal.out h21.out.lt
                have hq19 := h19.out.below hal.out h19.out.lt
                have hqrw := ownsRow_below hrw.out hal.out (Nat.le_refl _)
                have hqbl := hbl.out.trans (hal.out.mono hbl.out.size)
                by_cases hpe : pe = 0
                · subst hpe
                  have hpc := hcl.out rfl
                  have hldq := Tryz.load_group hq21
                  have HPt := fun W => Lib.hid (Tryz.rgPut_any pg hpc s hsk W)
                  have HN : Hid (stepT (0, pg) s = (putE pg s, rpG pg s)) := Lib.hid (by unfold stepT; simp only [if_pos])
                  have HLt : Hid (putE pg s = 0 → (rpG pg s).c < 18446744073709551616) := Lib.hid (fun h0 => by unfold rpG; rw [if_pos h0]; exact put_lt hsk hpc h0)
                  have H21 := Lib.hid hq21
                  have H19 := Lib.hid hq19
                  have HRw := Lib.hid hqrw
                  have HBl := Lib.hid hqbl
                  clear hq21 hq19 hqrw hqbl hpc h21 h19 hrw hcl hsk
                  go_wp2_with (first | (refine wpList_loadW (by rfl) _ _ rfl ⟨v3.heap.size, 0, none⟩ _ rfl hldq ?_))
                  refine (HPt _).out.mono ?_
                  rintro e v7 ⟨rfl, hB7⟩
                  have hy21 := H21.out.below hB7 H21.out.lt
                  have hstq := Tryz.store_group (rpG pg s) hy21 rfl
                  have HB7 := Lib.hid hB7
                  clear hB7
                  go_wp2_with (first | (refine wpList_storeW (by rfl) 25 _ _ rfl ⟨v3.heap.size, 0, none⟩ _ rfl rfl hstq ?_))
                  go_roundw
                  case rel => exact ⟨k + 1, by omega, by go_num, by rw [HTK.out, HN.out], Lib.hid (by rw [HTK.out, HN.out]; exact setRow_heap _ _ _ _ _ _ hy21), Lib.hid (by rw [HTK.out, HN.out]; exact HLt.out), Lib.hid ((setRow_other _ _ _ _ (by omega)).trans (H19.out.below HB7.out H19.out.lt)), Lib.hid (owns_setRow (ownsRow_below HRw.out HB7.out (Nat.le_refl _)) hy21 slot_ne_group _), Lib.hid (below_setRow (HBl.out.trans (HB7.out.mono HBl.out.size)) (by omega) _)⟩
                  case measure => simp [intOf]; omega
                · have hpb : (pe == 0) = false := by simpa using hpe
                  have HN : Hid (stepT (pe, pg) s = (pe, pg)) := Lib.hid (if_neg hpe)
                  have H21 := Lib.hid hq21
                  have H19 := Lib.hid hq19
                  have HRw := Lib.hid hqrw
                  have HBl := Lib.hid hqbl
                  clear hq21 hq19 hqrw hqbl h21 h19 hrw hsk
                  go_wp2_with fail
                  go_roundw
                  case rel => exact ⟨k + 1, by omega, by go_num, by rw [HTK.out, HN.out], Lib.hid (by rw [HTK.out, HN.out]; exact H21.out), Lib.hid (by rw [HTK.out, HN.out]; exact hcl.out), H19, HRw, HBl⟩
                  case measure => simp [intOf]; omega
              · obtain rfl : k = mz := by omega
                have hki : ¬ (k : Int) < (k : Int) := by omega
                have hfull : (sl.take k).foldl stepT (0, g) = sl.foldl stepT (0, g) := by rw [HM.out, List.take_of_length_le (Nat.le_refl _)]
                have h19 := h19.out
                rw [← HGP.out] at h19
                have h19 := Lib.hid h19
                clear HGP
                rw [hfull] at h21 hcl ⊢
                generalize sl.foldl stepT (0, g) = P at *
                obtain ⟨pe, pg⟩ := P
                dsimp only at h21 h19 ⊢
                clear hfull hcl
                by_cases hpe : pe = 0
                · subst hpe
                  rw [if_pos rfl] at h19
                  have hl21 := Tryz.load_group h21.out
                  have hl19 := Tryz.load_group h19.out
                  go_wp2_with (first | (refine wpList_loadW (by rfl) _ _ rfl ⟨v2.heap.size, 0, none⟩ _ rfl hl19 ?_) | (refine wpList_loadW (by rfl) _ _ rfl ⟨v3.heap.size, 0, none⟩ _ rfl hl21 ?_) | (refine wpList_eqlW (by rfl) 25 _ _ rfl (gc pg) (gc pg) rfl rfl (by kernel_rfl) true (Tryz.eqGroup pg _) ?_))
                  go_ret
                  exact ⟨rfl, hbl.out⟩
                · have hpb : (pe == 0) = false := by simpa using hpe
                  have hpb2 : (pe != 0) = true := by simpa using hpe
                  rw [if_neg hpe] at h19
                  have hstz := Tryz.store_group zG h21.out rfl
                  have hl21 := Tryz.load_group (setRow_heap _ v3.heap.size _ (gc zG) _ _ h21.out)
                  have hl19 := Tryz.load_group (show Rows8 (wr.setRow v3.heap.size (gc zG)) v2.heap.size 25 (gc zG) from (setRow_other _ _ _ _ (by omega)).trans h19.out)
                  go_wp2_with (first | (refine wpList_storeW (by rfl) 25 _ _ rfl ⟨v3.heap.size, 0, none⟩ _ rfl rfl hstz ?_) | (refine wpList_loadW (by rfl) _ _ rfl ⟨v2.heap.size, 0, none⟩ _ rfl hl19 ?_) | (refine wpList_loadW (by rfl) _ _ rfl ⟨v3.heap.size, 0, none⟩ _ rfl hl21 ?_) | (refine wpList_eqlW (by rfl) 25 _ _ rfl (gc zG) (gc zG) rfl rfl (by kernel_rfl) true (Tryz.eqGroup zG _) ?_))
                  go_ret
                  exact ⟨by simp, below_setRow hbl.out (by omega) _⟩
      · have h20b : ((k : Int) == 20) = false := by simp; omega
        have hA := Rows8.new wr 32 #[.bool d, .int .u64 (s.key : Nat), .int .u64 (s.val : Nat), .int .u8 (s.h2 : Nat), .int .i64 lane]
        have hlda := Tryz.load_group hRa.c
        have h58 : B5 < wr.heap.size := hR.out.c.lt
        have HRa := Lib.hid hRa
        have HA := Lib.hid hA
        have HS2 := Lib.hid hs2
        have HRt := fun W => Lib.hid (Tryz.rgRight_any cur hcc.out W)
        have HSet := fun W => Lib.hid (Tryz.gSet_any cur hcc.out lane s.val W)
        have HDr := fun W => Lib.hid (Tryz.gDrop_any cur hcc.out s.key s.h2 W)
        have HPu := fun W => Lib.hid (Tryz.gPut_any cur hcc.out s hs2 W)
        clear hRa hA hs2
        cases hr : rightG cur
        · as_aux_lemma =>
            rw [hr] at HRt
            rw [(wrongW hr _ _ 0).1, (wrongW hr _ cur 0).2.2] at HSet
            rw [(wrongW hr _ _ 0).1, (wrongW hr _ cur _).2.1, (wrongW hr _ cur 0).2.2] at HDr HPu
            clear hr
            go_wp2_with (first | (refine wpList_loadW (by rfl) _ _ rfl ⟨B5, 0, none⟩ _ rfl hlda ?_) | (go_at_call 5; refine (HRt _).out.mono ?_; rintro e w1 ⟨rfl, hB1⟩; have hR1 := HRa.out.below hB1; have hA1 := HA.out.below hB1 HA.out.lt; have al1 : Below w1.heap.size w1 (w1.alloc (.cells #[.int .u64 (s.key : Nat), .int .u64 (s.val : Nat), .int .u8 (s.h2 : Nat)] 30)) := (Below.refl _ _).alloc (Nat.le_refl _) _; have T1 : Rt B5 wr.heap.size w1.heap.size w g cur sl (.slice a6 sl.length c6) d s lane (w1.alloc (.cells #[.int .u64 (s.key : Nat), .int .u64 (s.val : Nat), .int .u8 (s.h2 : Nat)] 30)) := ⟨hR1.below al1, hA1.below al1 hA1.lt, Rows8.new _ _ _, h58, hA1.lt⟩; have HNE := Lib.hid (owns_fresh hR.out.o (Nat.le_of_lt hA1.lt)); have fk1 : w1.cell? ⟨wr.heap.size, 1, none⟩ = some (.int .u64 (s.key : Nat)) := hA1.cell 1; have fv1 : w1.cell? ⟨wr.heap.size, 2, none⟩ = some (.int .u64 (s.val : Nat)) := hA1.cell 2; have fh1 : w1.cell? ⟨wr.heap.size, 3, none⟩ = some (.int .u8 (s.h2 : Nat)) := hA1.cell 3; have flb : (w1.alloc (.cells #[.int .u64 (s.key : Nat), .int .u64 (s.val : Nat), .int .u8 (s.h2 : Nat)] 30)).cell? ⟨wr.heap.size, 4, none⟩ = some (.int .i64 lane) := T1.a.cell 4; have fvb : (w1.alloc (.cells #[.int .u64 (s.key : Nat), .int .u64 (s.val : Nat), .int .u8 (s.h2 : Nat)] 30)).cell? ⟨w1.heap.size, 1, none⟩ = some (.int .u64 (s.val : Nat)) := T1.s.cell 1; have hldb := Tryz.load_group T1.r.c; have HT1 := Lib.hid T1; have h81 := hA1.lt; clear hB1 hR1 hA1 al1 T1) | (refine wpList_loadW (by rfl) _ _ rfl ⟨B5, 0, none⟩ _ rfl hldb ?_))
            refine (HSet _).out.mono ?_
            rintro e w2 ⟨rfl, hB2⟩
            have T2 := HT1.out.below hB2
            have h12 : w1.heap.size < w2.heap.size := T2.s.lt
            obtain ⟨w3, hst3, hr11a, hB3⟩ := Tryz.box_new zG w2
            have h23 : w2.heap.size < w3.heap.size := hr11a.lt
            have T3 := T2.below hB3
            obtain ⟨w4, hst4, hr13, hB4⟩ := Tryz.box_new zG w3
            have h34 : w3.heap.size < w4.heap.size := hr13.lt
            have T4 := T3.below hB4
            have hr11 := hr11a.below hB4 hr11a.lt
            clear hB2 hB3 hB4 T2 T3 hr11a fk1 fv1 fh1 flb fvb hlda hldb
            have hV : w1.heap.size < w4.heap.size := T4.s.lt
            have hld11 := Tryz.load_group hr11
            have hld13 := Tryz.load_group hr13
            have hal6 : Below w4.heap.size w4 ((w4.alloc (.cells #[.int .u64 0, .int .u64 0, .int .u64 0, .int .u64 0, .int .u64 0, .int .u64 0, .int .u64 0, .int .u64 0, .int .u64 0, .int .u64 0, .int .u64 0, .int .u64 0, .int .u64 0, .int .u64 0, .int .u64 0, .int .u64 0, .int .u64 0] 25)).alloc (.cells #[.int .u64 0, .int .u64 0, .int .u64 0, .int .u64 0, .int .u64 0, .int .u64 0, .int .u64 0, .int .u64 0, .int .u64 0, .int .u64 0, .int .u64 0, .int .u64 0, .int .u64 0, .int .u64 0, .int .u64 0, .int .u64 0, .int .u64 0] 25)) := ((Below.refl _ w4).alloc (Nat.le_refl _) _).alloc (by simp) _
            have h15 : Rows8 ((w4.alloc (.cells #[.int .u64 0, .int .u64 0, .int .u64 0, .int .u64 0, .int .u64 0, .int .u64 0, .int .u64 0, .int .u64 0, .int .u64 0, .int .u64 0, .int .u64 0, .int .u64 0, .int .u64 0, .int .u64 0, .int .u64 0, .int .u64 0, .int .u64 0] 25)).alloc (.cells #[.int .u64 0, .int .u64 0, .int .u64 0, .int .u64 0, .int .u64 0, .int .u64 0, .int .u64 0, .int .u64 0, .int .u64 0, .int .u64 0, .int .u64 0, .int .u64 0, .int .u64 0, .int .u64 0, .int .u64 0, .int .u64 0, .int .u64 0] 25)) (w4.heap.size) 25 (gc zG) := (Rows8.new w4 _ _).alloc _
            have h16 : Rows8 ((w4.alloc (.cells #[.int .u64 0, .int .u64 0, .int .u64 0, .int .u64 0, .int .u64 0, .int .u64 0, .int .u64 0, .int .u64 0, .int .u64 0, .int .u64 0, .int .u64 0, .int .u64 0, .int .u64 0, .int .u64 0, .int .u64 0, .int .u64 0, .int .u64 0] 25)).alloc (.cells #[.int .u64 0, .int .u64 0, .int .u64 0, .int .u64 0, .int .u64 0, .int .u64 0, .int .u64 0, .int .u64 0, .int .u64 0, .int .u64 0, .int .u64 0, .int .u64 0, .int .u64 0, .int .u64 0, .int .u64 0, .int .u64 0, .int .u64 0] 25)) (w4.heap.size + 1) 25 (gc zG) := by
              have h := Rows8.new (w4.alloc (.cells #[.int .u64 0, .int .u64 0, .int .u64 0, .int .u64 0, .int .u64 0, .int .u64 0, .int .u64 0, .int .u64 0, .int .u64 0, .int .u64 0, .int .u64 0, .int .u64 0, .int .u64 0, .int .u64 0, .int .u64 0, .int .u64 0, .int .u64 0] 25)) 25 (gc zG)
              rw [World.size_alloc] at h
              exact h
            have T6 := T4.below hal6
            have hld6 := Tryz.load_group T6.r.c
            have HT6 := Lib.hid T6
            have H15 := Lib.hid h15
            have H16 := Lib.hid h16
            have fd6 : ((w4.alloc (.cells #[.int .u64 0, .int .u64 0, .int .u64 0, .int .u64 0, .int .u64 0, .int .u64 0, .int .u64 0, .int .u64 0, .int .u64 0, .int .u64 0, .int .u64 0, .int .u64 0, .int .u64 0, .int .u64 0, .int .u64 0, .int .u64 0, .int .u64 0] 25)).alloc (.cells #[.int .u64 0, .int .u64 0, .int .u64 0, .int .u64 0, .int .u64 0, .int .u64 0, .int .u64 0, .int .u64 0, .int .u64 0, .int .u64 0, .int .u64 0, .int .u64 0, .int .u64 0, .int .u64 0, .int .u64 0, .int .u64 0, .int .u64 0] 25)).cell? ⟨wr.heap.size, 0, none⟩ = some (.bool d) := T6.a.cell 0
            have fk6 : ((w4.alloc (.cells #[.int .u64 0, .int .u64 0, .int .u64 0, .int .u64 0, .int .u64 0, .int .u64 0, .int .u64 0, .int .u64 0, .int .u64 0, .int .u64 0, .int .u64 0, .int .u64 0, .int .u64 0, .int .u64 0, .int .u64 0, .int .u64 0, .int .u64 0] 25)).alloc (.cells #[.int .u64 0, .int .u64 0, .int .u64 0, .int .u64 0, .int .u64 0, .int .u64 0, .int .u64 0, .int .u64 0, .int .u64 0, .int .u64 0, .int .u64 0, .int .u64 0, .int .u64 0, .int .u64 0, .int .u64 0, .int .u64 0, .int .u64 0] 25)).cell? ⟨w1.heap.size, 0, none⟩ = some (.int .u64 (s.key : Nat)) := T6.s.cell 0
            have fv6 : ((w4.alloc (.cells #[.int .u64 0, .int .u64 0, .int .u64 0, .int .u64 0, .int .u64 0, .int .u64 0, .int .u64 0, .int .u64 0, .int .u64 0, .int .u64 0, .int .u64 0, .int .u64 0, .int .u64 0, .int .u64 0, .int .u64 0, .int .u64 0, .int .u64 0] 25)).alloc (.cells #[.int .u64 0, .int .u64 0, .int .u64 0, .int .u64 0, .int .u64 0, .int .u64 0, .int .u64 0, .int .u64 0, .int .u64 0, .int .u64 0, .int .u64 0, .int .u64 0, .int .u64 0, .int .u64 0, .int .u64 0, .int .u64 0, .int .u64 0] 25)).cell? ⟨w1.heap.size, 1, none⟩ = some (.int .u64 (s.val : Nat)) := T6.s.cell 1
            have fh6 : ((w4.alloc (.cells #[.int .u64 0, .int .u64 0, .int .u64 0, .int .u64 0, .int .u64 0, .int .u64 0, .int .u64 0, .int .u64 0, .int .u64 0, .int .u64 0, .int .u64 0, .int .u64 0, .int .u64 0, .int .u64 0, .int .u64 0, .int .u64 0, .int .u64 0] 25)).alloc (.cells #[.int .u64 0, .int .u64 0, .int .u64 0, .int .u64 0, .int .u64 0, .int .u64 0, .int .u64 0, .int .u64 0, .int .u64 0, .int .u64 0, .int .u64 0, .int .u64 0, .int .u64 0, .int .u64 0, .int .u64 0, .int .u64 0, .int .u64 0] 25)).cell? ⟨w1.heap.size, 2, none⟩ = some (.int .u8 (s.h2 : Nat)) := T6.s.cell 2
            clear hal6 h15 h16 T6 T4 hr11 hr13
            cases d
            · as_aux_lemma =>
                go_wp2_with (first | (refine wpList_storeW (by rfl) 25 _ _ rfl ⟨w2.heap.size, 0, none⟩ _ rfl rfl hst3 ?_) | (refine wpList_storeW (by rfl) 25 _ _ rfl ⟨w3.heap.size, 0, none⟩ _ rfl rfl hst4 ?_) | (refine wpList_loadW (by rfl) _ _ rfl ⟨w2.heap.size, 0, none⟩ _ rfl hld11 ?_) | (refine wpList_loadW (by rfl) _ _ rfl ⟨w3.heap.size, 0, none⟩ _ rfl hld13 ?_) | (refine wpList_neqW (by rfl) 25 _ _ rfl (gc zG) (gc zG) rfl rfl (by kernel_rfl) true (Tryz.eqGroup zG _) ?_) | (refine wpList_loadW (by rfl) _ _ rfl ⟨B5, 0, none⟩ _ rfl hld6 ?_))
                refine (HPu _).out.mono ?_
                rintro e w7 ⟨rfl, hB7⟩
                have T7 := HT6.out.below hB7
                have h15 := H15.out.below hB7 H15.out.lt
                have h16 := H16.out.below hB7 H16.out.lt
                have hst15 := Tryz.store_group zG h15 rfl
                have T8 := T7.setRow h15 hV (gc zG)
                have h15b : Rows8 (w7.setRow (w4.heap.size) (gc zG)) (w4.heap.size) 25 (gc zG) := setRow_heap _ (w4.heap.size) _ (gc zG) _ _ h15
                have h16b : Rows8 (w7.setRow (w4.heap.size) (gc zG)) (w4.heap.size + 1) 25 (gc zG) := (setRow_other _ _ _ _ (by omega)).trans h16
                clear h15 h16 T7 hB7 hld11 hld13 hld6 fd6 fk6 fv6 fh6
                go_upto_region 30 with (refine wpList_storeW (by rfl) 25 _ _ rfl ⟨w4.heap.size, 0, none⟩ _ rfl rfl hst15 ?_)
                generalize w7.setRow (w4.heap.size) (gc zG) = w8 at *
                clear hst15
                have fk8 : (w8).cell? ⟨w1.heap.size, 0, none⟩ = some (.int .u64 (s.key : Nat)) := T8.s.cell 0
                have fv8 : (w8).cell? ⟨w1.heap.size, 1, none⟩ = some (.int .u64 (s.val : Nat)) := T8.s.cell 1
                have fh8 : (w8).cell? ⟨w1.heap.size, 2, none⟩ = some (.int .u8 (s.h2 : Nat)) := T8.s.cell 2
                have hal8 : Below w8.heap.size w8 (w8.alloc (.cells #[.int .u64 (s.key : Nat), .int .u64 (s.val : Nat), .int .u8 (s.h2 : Nat)] 30)) := (Below.refl _ _).alloc (Nat.le_refl _) _
                have T8a := T8.below hal8
                have h15c := h15b.below hal8 h15b.lt
                have h16c := h16b.below hal8 h16b.lt
                have HT8 := Lib.hid T8a
                have H15c := Lib.hid h15c
                have H16c := Lib.hid h16c
                have hsll : sl.length ≤ 20 := by have := hsl.out.1; omega
                have hw8 : w.heap.size ≤ w8.heap.size := T8.r.b.size
                clear T8 T8a h15b h16b h15c h16c hal8
                go_upto_region 31 with (at_builtin; refine wpList_append_own _ rfl _ _ 28 rfl w.heap.size 30 hi0 (.agg #[.int .u64 0, .int .u64 0, .int .u8 0]) 3 24 Tryz.underlying28 hi hz0 hz1 hz2 rfl (by decide) _ _ _ rfl HT8.out.r.o ⟨w8.heap.size, 0, none⟩ 1 1 [.int .u64 (s.key : Nat), .int .u64 (s.val : Nat), .int .u8 (s.h2 : Nat)] rfl rfl (cells_new w8 _ [.int .u64 (s.key : Nat), .int .u64 (s.val : Nat), .int .u8 (s.h2 : Nat)]) (by simp [Value.oneCell']) (by unfold maxLen; omega) (by omega) (by simp; omega) ?_; intro v9 w9 hown hgrow _; have HOW := Lib.hid hown; have HGR := Lib.hid hgrow; clear hown hgrow)
                have ho9 : OwnsSlots w.heap.size (sl ++ [s]) v9 w9 := by
                  unfold OwnsSlots
                  rw [slotVals_append1, List.length_append]
                  exact HOW.out
                obtain ⟨a9, c9, rfl⟩ : ∃ a c, v9 = .slice a (sl ++ [s]).length c := by
                  obtain ⟨_, a, cap, h, _⟩ := rowAt_own ho9
                  exact ⟨a, cap, h⟩
                have T9 := HT8.out.push HNE.out HGR.out ho9
                have h15d := rows_grown HT8.out.r.o slot_ne_group HGR.out H15c.out
                have h16d := rows_grown HT8.out.r.o slot_ne_group HGR.out H16c.out
                have hld15 := Tryz.load_group h15d
                have hld16 := Tryz.load_group h16d
                have HT9 := Lib.hid T9
                clear T9 h15d h16d ho9 fk8 fv8 fh8
                go_wp2_with (first | (refine wpList_loadW (by rfl) _ _ rfl ⟨w4.heap.size, 0, none⟩ _ rfl hld15 ?_) | (refine wpList_loadW (by rfl) _ _ rfl ⟨w4.heap.size + 1, 0, none⟩ _ rfl hld16 ?_) | (refine wpList_neqW (by rfl) 25 _ _ rfl (gc zG) (gc zG) rfl rfl (by kernel_rfl) true (Tryz.eqGroup zG _) ?_))
                go_roundw
                case rel => exact ⟨k + 1, cur, (sl ++ [s]), a9, c9, (by first | rfl | (rw [List.length_append]; rfl)), by omega, by omega, by go_num, Lib.hid HT9.out.r, hcc, Lib.hid ⟨by rw [List.length_append]; have := hsl.out.1; simp; omega, fun x hx => by rcases List.mem_append.1 hx with h | h; exact hsl.out.2 x h; rw [List.mem_singleton.1 h]; exact HS2.out⟩⟩
                case measure => simp [intOf] <;> omega
            · as_aux_lemma =>
                go_wp2_with (first | (refine wpList_storeW (by rfl) 25 _ _ rfl ⟨w2.heap.size, 0, none⟩ _ rfl rfl hst3 ?_) | (refine wpList_storeW (by rfl) 25 _ _ rfl ⟨w3.heap.size, 0, none⟩ _ rfl rfl hst4 ?_) | (refine wpList_loadW (by rfl) _ _ rfl ⟨w2.heap.size, 0, none⟩ _ rfl hld11 ?_) | (refine wpList_loadW (by rfl) _ _ rfl ⟨w3.heap.size, 0, none⟩ _ rfl hld13 ?_) | (refine wpList_neqW (by rfl) 25 _ _ rfl (gc zG) (gc zG) rfl rfl (by kernel_rfl) true (Tryz.eqGroup zG _) ?_) | (refine wpList_loadW (by rfl) _ _ rfl ⟨B5, 0, none⟩ _ rfl hld6 ?_))
                refine (HDr _).out.mono ?_
                rintro e w7 ⟨rfl, hB7⟩
                have T7 := HT6.out.below hB7
                have h15 := H15.out.below hB7 H15.out.lt
                have h16 := H16.out.below hB7 H16.out.lt
                have hst15 := Tryz.store_group zG h15 rfl
                have T8 := T7.setRow h15 hV (gc zG)
                have h15b : Rows8 (w7.setRow (w4.heap.size) (gc zG)) (w4.heap.size) 25 (gc zG) := setRow_heap _ (w4.heap.size) _ (gc zG) _ _ h15
                have h16b : Rows8 (w7.setRow (w4.heap.size) (gc zG)) (w4.heap.size + 1) 25 (gc zG) := (setRow_other _ _ _ _ (by omega)).trans h16
                clear h15 h16 T7 hB7 hld11 hld13 hld6 fd6 fk6 fv6 fh6
                have hld15 := Tryz.load_group h15b
                have hld16 := Tryz.load_group h16b
                have HT8 := Lib.hid T8
                clear T8 h15b h16b
                go_wp2_with (first | (refine wpList_storeW (by rfl) 25 _ _ rfl ⟨w4.heap.size, 0, none⟩ _ rfl rfl hst15 ?_) | (refine wpList_loadW (by rfl) _ _ rfl ⟨w4.heap.size, 0, none⟩ _ rfl hld15 ?_) | (refine wpList_loadW (by rfl) _ _ rfl ⟨w4.heap.size + 1, 0, none⟩ _ rfl hld16 ?_) | (refine wpList_neqW (by rfl) 25 _ _ rfl (gc zG) (gc zG) rfl rfl (by kernel_rfl) true (Tryz.eqGroup zG _) ?_))
                go_roundw
                case rel => exact ⟨k + 1, cur, sl, a6, c6, (by first | rfl | (rw [List.length_append]; rfl)), by omega, by omega, by go_num, Lib.hid HT8.out.r, hcc, Lib.hid ⟨by have := hsl.out.1; omega, hsl.out.2⟩⟩
                case measure => simp [intOf] <;> omega
        · rw [hr] at HRt
          rw [(dropW hr _ _).1, (dropW hr _ _).2.1, (dropW hr _ _).2.2] at HDr
          rw [(putW hr _).1, (putW hr _).2.1, (putW hr _).2.2] at HPu
          have HRd := fun W => Lib.hid (Tryz.rgDrop_any cur hcc.out s.key s.h2 W)
          have HRp := fun W => Lib.hid (Tryz.rgPut_any cur hcc.out s HS2.out W)
          have HLd : Hid (findE cur s.key s.h2 = 0 → (rdG cur s.key s.h2).c < 18446744073709551616) := Lib.hid (fun h0 => by unfold rdG; rw [if_pos h0]; exact drop_lt hcc.out h0)
          have HLp : Hid (putE cur s = 0 → (rpG cur s).c < 18446744073709551616) := Lib.hid (fun h0 => by unfold rpG; rw [if_pos h0]; exact put_lt HS2.out hcc.out h0)
          have HIs := fun W => Lib.hid (Tryz.Is_any lane W)
          by_cases hbad : bad lane
          · as_aux_lemma =>
              rw [(set_bad hr hbad _).1, (set_bad hr hbad s.val).2] at HSet
              rw [decide_eq_false (fun h' => h' hbad)] at HIs
              clear hr hbad
              go_wp2_with (first | (refine wpList_loadW (by rfl) _ _ rfl ⟨B5, 0, none⟩ _ rfl hlda ?_) | (go_at_call 5; refine (HRt _).out.mono ?_; rintro e w1 ⟨rfl, hB1⟩; have hR1 := HRa.out.below hB1; have hA1 := HA.out.below hB1 HA.out.lt; have al1 : Below w1.heap.size w1 (w1.alloc (.cells #[.int .u64 (s.key : Nat), .int .u64 (s.val : Nat), .int .u8 (s.h2 : Nat)] 30)) := (Below.refl _ _).alloc (Nat.le_refl _) _; have T1 : Rt B5 wr.heap.size w1.heap.size w g cur sl (.slice a6 sl.length c6) d s lane (w1.alloc (.cells #[.int .u64 (s.key : Nat), .int .u64 (s.val : Nat), .int .u8 (s.h2 : Nat)] 30)) := ⟨hR1.below al1, hA1.below al1 hA1.lt, Rows8.new _ _ _, h58, hA1.lt⟩; have HNE := Lib.hid (owns_fresh hR.out.o (Nat.le_of_lt hA1.lt)); have fk1 : w1.cell? ⟨wr.heap.size, 1, none⟩ = some (.int .u64 (s.key : Nat)) := hA1.cell 1; have fv1 : w1.cell? ⟨wr.heap.size, 2, none⟩ = some (.int .u64 (s.val : Nat)) := hA1.cell 2; have fh1 : w1.cell? ⟨wr.heap.size, 3, none⟩ = some (.int .u8 (s.h2 : Nat)) := hA1.cell 3; have flb : (w1.alloc (.cells #[.int .u64 (s.key : Nat), .int .u64 (s.val : Nat), .int .u8 (s.h2 : Nat)] 30)).cell? ⟨wr.heap.size, 4, none⟩ = some (.int .i64 lane) := T1.a.cell 4; have fvb : (w1.alloc (.cells #[.int .u64 (s.key : Nat), .int .u64 (s.val : Nat), .int .u8 (s.h2 : Nat)] 30)).cell? ⟨w1.heap.size, 1, none⟩ = some (.int .u64 (s.val : Nat)) := T1.s.cell 1; have hldb := Tryz.load_group T1.r.c; have HT1 := Lib.hid T1; have h81 := hA1.lt; clear hB1 hR1 hA1 al1 T1) | (refine wpList_loadW (by rfl) _ _ rfl ⟨B5, 0, none⟩ _ rfl hldb ?_))
              refine (HSet _).out.mono ?_
              rintro e w2 ⟨rfl, hB2⟩
              have T2 := HT1.out.below hB2
              have h12 : w1.heap.size < w2.heap.size := T2.s.lt
              obtain ⟨w3, hst3, hr11a, hB3⟩ := Tryz.box_new zG w2
              have h23 : w2.heap.size < w3.heap.size := hr11a.lt
              have T3 := T2.below hB3
              obtain ⟨w4, hst4, hr13, hB4⟩ := Tryz.box_new zG w3
              have h34 : w3.heap.size < w4.heap.size := hr13.lt
              have T4 := T3.below hB4
              have hr11 := hr11a.below hB4 hr11a.lt
              clear hB2 hB3 hB4 T2 T3 hr11a fk1 fv1 fh1 flb fvb hlda hldb
              have fl4 : (w4).cell? ⟨wr.heap.size, 4, none⟩ = some (.int .i64 lane) := T4.a.cell 4
              have fv4 : (w4).cell? ⟨w1.heap.size, 1, none⟩ = some (.int .u64 (s.val : Nat)) := T4.s.cell 1
              have hV : w1.heap.size < w4.heap.size := T4.s.lt
              have hld11 := Tryz.load_group hr11
              have hld13 := Tryz.load_group hr13
              have hal6 : Below w4.heap.size w4 ((w4.alloc (.cells #[.int .u64 0, .int .u64 0, .int .u64 0, .int .u64 0, .int .u64 0, .int .u64 0, .int .u64 0, .int .u64 0, .int .u64 0, .int .u64 0, .int .u64 0, .int .u64 0, .int .u64 0, .int .u64 0, .int .u64 0, .int .u64 0, .int .u64 0] 25)).alloc (.cells #[.int .u64 0, .int .u64 0, .int .u64 0, .int .u64 0, .int .u64 0, .int .u64 0, .int .u64 0, .int .u64 0, .int .u64 0, .int .u64 0, .int .u64 0, .int .u64 0, .int .u64 0, .int .u64 0, .int .u64 0, .int .u64 0, .int .u64 0] 25)) := ((Below.refl _ w4).alloc (Nat.le_refl _) _).alloc (by simp) _
              have h15 : Rows8 ((w4.alloc (.cells #[.int .u64 0, .int .u64 0, .int .u64 0, .int .u64 0, .int .u64 0, .int .u64 0, .int .u64 0, .int .u64 0, .int .u64 0, .int .u64 0, .int .u64 0, .int .u64 0, .int .u64 0, .int .u64 0, .int .u64 0, .int .u64 0, .int .u64 0] 25)).alloc (.cells #[.int .u64 0, .int .u64 0, .int .u64 0, .int .u64 0, .int .u64 0, .int .u64 0, .int .u64 0, .int .u64 0, .int .u64 0, .int .u64 0, .int .u64 0, .int .u64 0, .int .u64 0, .int .u64 0, .int .u64 0, .int .u64 0, .int .u64 0] 25)) (w4.heap.size) 25 (gc zG) := (Rows8.new w4 _ _).alloc _
              have h16 : Rows8 ((w4.alloc (.cells #[.int .u64 0, .int .u64 0, .int .u64 0, .int .u64 0, .int .u64 0, .int .u64 0, .int .u64 0, .int .u64 0, .int .u64 0, .int .u64 0, .int .u64 0, .int .u64 0, .int .u64 0, .int .u64 0, .int .u64 0, .int .u64 0, .int .u64 0] 25)).alloc (.cells #[.int .u64 0, .int .u64 0, .int .u64 0, .int .u64 0, .int .u64 0, .int .u64 0, .int .u64 0, .int .u64 0, .int .u64 0, .int .u64 0, .int .u64 0, .int .u64 0, .int .u64 0, .int .u64 0, .int .u64 0, .int .u64 0, .int .u64 0] 25)) (w4.heap.size + 1) 25 (gc zG) := by
                have h := Rows8.new (w4.alloc (.cells #[.int .u64 0, .int .u64 0, .int .u64 0, .int .u64 0, .int .u64 0, .int .u64 0, .int .u64 0, .int .u64 0, .int .u64 0, .int .u64 0, .int .u64 0, .int .u64 0, .int .u64 0, .int .u64 0, .int .u64 0, .int .u64 0, .int .u64 0] 25)) 25 (gc zG)
                rw [World.size_alloc] at h
                exact h
              have T6 := T4.below hal6
              have hld6 := Tryz.load_group T6.r.c
              have HT6 := Lib.hid T6
              have H15 := Lib.hid h15
              have H16 := Lib.hid h16
              have fd6 : ((w4.alloc (.cells #[.int .u64 0, .int .u64 0, .int .u64 0, .int .u64 0, .int .u64 0, .int .u64 0, .int .u64 0, .int .u64 0, .int .u64 0, .int .u64 0, .int .u64 0, .int .u64 0, .int .u64 0, .int .u64 0, .int .u64 0, .int .u64 0, .int .u64 0] 25)).alloc (.cells #[.int .u64 0, .int .u64 0, .int .u64 0, .int .u64 0, .int .u64 0, .int .u64 0, .int .u64 0, .int .u64 0, .int .u64 0, .int .u64 0, .int .u64 0, .int .u64 0, .int .u64 0, .int .u64 0, .int .u64 0, .int .u64 0, .int .u64 0] 25)).cell? ⟨wr.heap.size, 0, none⟩ = some (.bool d) := T6.a.cell 0
              have fk6 : ((w4.alloc (.cells #[.int .u64 0, .int .u64 0, .int .u64 0, .int .u64 0, .int .u64 0, .int .u64 0, .int .u64 0, .int .u64 0, .int .u64 0, .int .u64 0, .int .u64 0, .int .u64 0, .int .u64 0, .int .u64 0, .int .u64 0, .int .u64 0, .int .u64 0] 25)).alloc (.cells #[.int .u64 0, .int .u64 0, .int .u64 0, .int .u64 0, .int .u64 0, .int .u64 0, .int .u64 0, .int .u64 0, .int .u64 0, .int .u64 0, .int .u64 0, .int .u64 0, .int .u64 0, .int .u64 0, .int .u64 0, .int .u64 0, .int .u64 0] 25)).cell? ⟨w1.heap.size, 0, none⟩ = some (.int .u64 (s.key : Nat)) := T6.s.cell 0
              have fv6 : ((w4.alloc (.cells #[.int .u64 0, .int .u64 0, .int .u64 0, .int .u64 0, .int .u64 0, .int .u64 0, .int .u64 0, .int .u64 0, .int .u64 0, .int .u64 0, .int .u64 0, .int .u64 0, .int .u64 0, .int .u64 0, .int .u64 0, .int .u64 0, .int .u64 0] 25)).alloc (.cells #[.int .u64 0, .int .u64 0, .int .u64 0, .int .u64 0, .int .u64 0, .int .u64 0, .int .u64 0, .int .u64 0, .int .u64 0, .int .u64 0, .int .u64 0, .int .u64 0, .int .u64 0, .int .u64 0, .int .u64 0, .int .u64 0, .int .u64 0] 25)).cell? ⟨w1.heap.size, 1, none⟩ = some (.int .u64 (s.val : Nat)) := T6.s.cell 1
              have fh6 : ((w4.alloc (.cells #[.int .u64 0, .int .u64 0, .int .u64 0, .int .u64 0, .int .u64 0, .int .u64 0, .int .u64 0, .int .u64 0, .int .u64 0, .int .u64 0, .int .u64 0, .int .u64 0, .int .u64 0, .int .u64 0, .int .u64 0, .int .u64 0, .int .u64 0] 25)).alloc (.cells #[.int .u64 0, .int .u64 0, .int .u64 0, .int .u64 0, .int .u64 0, .int .u64 0, .int .u64 0, .int .u64 0, .int .u64 0, .int .u64 0, .int .u64 0, .int .u64 0, .int .u64 0, .int .u64 0, .int .u64 0, .int .u64 0, .int .u64 0] 25)).cell? ⟨w1.heap.size, 2, none⟩ = some (.int .u8 (s.h2 : Nat)) := T6.s.cell 2
              clear hal6 h15 h16 T6 T4 hr11 hr13
              cases d
              · as_aux_lemma =>
                  go_wp2_with (first | (refine wpList_storeW (by rfl) 25 _ _ rfl ⟨w2.heap.size, 0, none⟩ _ rfl rfl hst3 ?_) | (refine wpList_storeW (by rfl) 25 _ _ rfl ⟨w3.heap.size, 0, none⟩ _ rfl rfl hst4 ?_) | (go_at_call 7; refine (HIs _).out.mono ?_; rintro e wq ⟨rfl, rfl⟩) | (refine wpList_loadW (by rfl) _ _ rfl ⟨w2.heap.size, 0, none⟩ _ rfl hld11 ?_) | (refine wpList_loadW (by rfl) _ _ rfl ⟨w3.heap.size, 0, none⟩ _ rfl hld13 ?_) | (refine wpList_neqW (by rfl) 25 _ _ rfl (gc zG) (gc zG) rfl rfl (by kernel_rfl) true (Tryz.eqGroup zG _) ?_) | (refine wpList_loadW (by rfl) _ _ rfl ⟨B5, 0, none⟩ _ rfl hld6 ?_))
                  refine (HPu _).out.mono ?_
                  rintro e w7 ⟨rfl, hB7⟩
                  have T7 := HT6.out.below hB7
                  have h15 := H15.out.below hB7 H15.out.lt
                  have h16 := H16.out.below hB7 H16.out.lt
                  have hst15 := Tryz.store_group (rpG cur s) h15 rfl
                  have T8 := T7.setRow h15 hV (gc (rpG cur s))
                  have h15b : Rows8 (w7.setRow (w4.heap.size) (gc (rpG cur s))) (w4.heap.size) 25 (gc (rpG cur s)) := setRow_heap _ (w4.heap.size) _ (gc (rpG cur s)) _ _ h15
                  have h16b : Rows8 (w7.setRow (w4.heap.size) (gc (rpG cur s))) (w4.heap.size + 1) 25 (gc zG) := (setRow_other _ _ _ _ (by omega)).trans h16
                  clear h15 h16 T7 hB7 hld11 hld13 hld6 fd6 fk6 fv6 fh6
                  go_upto_region 30 with (refine wpList_storeW (by rfl) 25 _ _ rfl ⟨w4.heap.size, 0, none⟩ _ rfl rfl hst15 ?_)
                  generalize w7.setRow (w4.heap.size) (gc (rpG cur s)) = w8 at *
                  clear hst15
                  have fk8 : (w8).cell? ⟨w1.heap.size, 0, none⟩ = some (.int .u64 (s.key : Nat)) := T8.s.cell 0
                  have fv8 : (w8).cell? ⟨w1.heap.size, 1, none⟩ = some (.int .u64 (s.val : Nat)) := T8.s.cell 1
                  have fh8 : (w8).cell? ⟨w1.heap.size, 2, none⟩ = some (.int .u8 (s.h2 : Nat)) := T8.s.cell 2
                  have hal8 : Below w8.heap.size w8 (w8.alloc (.cells #[.int .u64 (s.key : Nat), .int .u64 (s.val : Nat), .int .u8 (s.h2 : Nat)] 30)) := (Below.refl _ _).alloc (Nat.le_refl _) _
                  have T8a := T8.below hal8
                  have h15c := h15b.below hal8 h15b.lt
                  have h16c := h16b.below hal8 h16b.lt
                  have HT8 := Lib.hid T8a
                  have H15c := Lib.hid h15c
                  have H16c := Lib.hid h16c
                  have hsll : sl.length ≤ 20 := by have := hsl.out.1; omega
                  have hw8 : w.heap.size ≤ w8.heap.size := T8.r.b.size
                  clear T8 T8a h15b h16b h15c h16c hal8
                  go_upto_region 31 with (at_builtin; refine wpList_append_own _ rfl _ _ 28 rfl w.heap.size 30 hi0 (.agg #[.int .u64 0, .int .u64 0, .int .u8 0]) 3 24 Tryz.underlying28 hi hz0 hz1 hz2 rfl (by decide) _ _ _ rfl HT8.out.r.o ⟨w8.heap.size, 0, none⟩ 1 1 [.int .u64 (s.key : Nat), .int .u64 (s.val : Nat), .int .u8 (s.h2 : Nat)] rfl rfl (cells_new w8 _ [.int .u64 (s.key : Nat), .int .u64 (s.val : Nat), .int .u8 (s.h2 : Nat)]) (by simp [Value.oneCell']) (by unfold maxLen; omega) (by omega) (by simp; omega) ?_; intro v9 w9 hown hgrow _; have HOW := Lib.hid hown; have HGR := Lib.hid hgrow; clear hown hgrow)
                  have ho9 : OwnsSlots w.heap.size (sl ++ [s]) v9 w9 := by
                    unfold OwnsSlots
                    rw [slotVals_append1, List.length_append]
                    exact HOW.out
                  obtain ⟨a9, c9, rfl⟩ : ∃ a c, v9 = .slice a (sl ++ [s]).length c := by
                    obtain ⟨_, a, cap, h, _⟩ := rowAt_own ho9
                    exact ⟨a, cap, h⟩
                  have T9 := HT8.out.push HNE.out HGR.out ho9
                  have h15d := rows_grown HT8.out.r.o slot_ne_group HGR.out H15c.out
                  have h16d := rows_grown HT8.out.r.o slot_ne_group HGR.out H16c.out
                  have fk9 : (w9).cell? ⟨w1.heap.size, 0, none⟩ = some (.int .u64 (s.key : Nat)) := T9.s.cell 0
                  have fv9 : (w9).cell? ⟨w1.heap.size, 1, none⟩ = some (.int .u64 (s.val : Nat)) := T9.s.cell 1
                  have fh9 : (w9).cell? ⟨w1.heap.size, 2, none⟩ = some (.int .u8 (s.h2 : Nat)) := T9.s.cell 2
                  have hld9 := Tryz.load_group T9.r.c
                  have HT9 := Lib.hid T9
                  have H15d := Lib.hid h15d
                  have H16d := Lib.hid h16d
                  clear T9 h15d h16d ho9 fk8 fv8 fh8
                  go_wp2_with (first | (refine wpList_loadW (by rfl) _ _ rfl ⟨B5, 0, none⟩ _ rfl hld9 ?_))
                  refine (HRp _).out.mono ?_
                  rintro e w10 ⟨rfl, hB10⟩
                  have T10 := HT9.out.below hB10
                  have h15e := H15d.out.below hB10 H15d.out.lt
                  have h16e := H16d.out.below hB10 H16d.out.lt
                  clear hB10 hld9 fk9 fv9 fh9
                  have hst16 := Tryz.store_group (rpG cur s) h16e rfl
                  have T11 := T10.setRow h16e (by omega : w1.heap.size < w4.heap.size + 1) (gc (rpG cur s))
                  have h16f : Rows8 (w10.setRow (w4.heap.size + 1) (gc (rpG cur s))) (w4.heap.size + 1) 25 (gc (rpG cur s)) := setRow_heap _ (w4.heap.size + 1) _ (gc (rpG cur s)) _ _ h16e
                  have h15f : Rows8 (w10.setRow (w4.heap.size + 1) (gc (rpG cur s))) (w4.heap.size) 25 (gc (rpG cur s)) := (setRow_other _ _ _ _ (by omega)).trans h15e
                  have hld15 := Tryz.load_group h15f
                  have hld16 := Tryz.load_group h16f
                  have hst5 := Tryz.store_group (rpG cur s) T11.r.c rfl
                  have HT11 := Lib.hid T11
                  clear T10 T11 h15e h16e h15f h16f
                  generalize putE cur s = E at *
                  by_cases hE : E = 0
                  · subst hE
                    have HCn := Lib.hid (HLp.out rfl)
                    go_wp2_with (first | (refine wpList_storeW (by rfl) 25 _ _ rfl ⟨w4.heap.size + 1, 0, none⟩ _ rfl rfl hst16 ?_) | (refine wpList_loadW (by rfl) _ _ rfl ⟨w4.heap.size, 0, none⟩ _ rfl hld15 ?_) | (refine wpList_loadW (by rfl) _ _ rfl ⟨w4.heap.size + 1, 0, none⟩ _ rfl hld16 ?_) | (refine wpList_neqW (by rfl) 25 _ _ rfl (gc (rpG cur s)) (gc (rpG cur s)) rfl rfl (by kernel_rfl) true (Tryz.eqGroup (rpG cur s) _) ?_) | (refine wpList_storeW (by rfl) 25 _ _ rfl ⟨B5, 0, none⟩ _ rfl rfl hst5 ?_))
                    go_roundw
                    case rel => exact ⟨k + 1, (rpG cur s), (sl ++ [s]), a9, c9, (by first | rfl | (rw [List.length_append]; rfl)), by omega, by omega, by go_num, Lib.hid (HT11.out.next (rpG cur s)), HCn, Lib.hid ⟨by rw [List.length_append]; have := hsl.out.1; simp; omega, fun x hx => by rcases List.mem_append.1 hx with h | h; exact hsl.out.2 x h; rw [List.mem_singleton.1 h]; exact HS2.out⟩⟩
                    case measure => simp [intOf] <;> omega
                  · have hEb : (E == 0) = false := by simpa using hE
                    clear hst5
                    go_wp2_with (first | (refine wpList_storeW (by rfl) 25 _ _ rfl ⟨w4.heap.size + 1, 0, none⟩ _ rfl rfl hst16 ?_) | (refine wpList_loadW (by rfl) _ _ rfl ⟨w4.heap.size, 0, none⟩ _ rfl hld15 ?_) | (refine wpList_loadW (by rfl) _ _ rfl ⟨w4.heap.size + 1, 0, none⟩ _ rfl hld16 ?_) | (refine wpList_neqW (by rfl) 25 _ _ rfl (gc (rpG cur s)) (gc (rpG cur s)) rfl rfl (by kernel_rfl) true (Tryz.eqGroup (rpG cur s) _) ?_))
                    go_roundw
                    case rel => exact ⟨k + 1, cur, (sl ++ [s]), a9, c9, (by first | rfl | (rw [List.length_append]; rfl)), by omega, by omega, by go_num, Lib.hid HT11.out.r, hcc, Lib.hid ⟨by rw [List.length_append]; have := hsl.out.1; simp; omega, fun x hx => by rcases List.mem_append.1 hx with h | h; exact hsl.out.2 x h; rw [List.mem_singleton.1 h]; exact HS2.out⟩⟩
                    case measure => simp [intOf] <;> omega
              · as_aux_lemma =>
                  go_wp2_with (first | (refine wpList_storeW (by rfl) 25 _ _ rfl ⟨w2.heap.size, 0, none⟩ _ rfl rfl hst3 ?_) | (refine wpList_storeW (by rfl) 25 _ _ rfl ⟨w3.heap.size, 0, none⟩ _ rfl rfl hst4 ?_) | (go_at_call 7; refine (HIs _).out.mono ?_; rintro e wq ⟨rfl, rfl⟩) | (refine wpList_loadW (by rfl) _ _ rfl ⟨w2.heap.size, 0, none⟩ _ rfl hld11 ?_) | (refine wpList_loadW (by rfl) _ _ rfl ⟨w3.heap.size, 0, none⟩ _ rfl hld13 ?_) | (refine wpList_neqW (by rfl) 25 _ _ rfl (gc zG) (gc zG) rfl rfl (by kernel_rfl) true (Tryz.eqGroup zG _) ?_) | (refine wpList_loadW (by rfl) _ _ rfl ⟨B5, 0, none⟩ _ rfl hld6 ?_))
                  refine (HDr _).out.mono ?_
                  rintro e w7 ⟨rfl, hB7⟩
                  have T7 := HT6.out.below hB7
                  have h15 := H15.out.below hB7 H15.out.lt
                  have h16 := H16.out.below hB7 H16.out.lt
                  have hst15 := Tryz.store_group (rdG cur s.key s.h2) h15 rfl
                  have T8 := T7.setRow h15 hV (gc (rdG cur s.key s.h2))
                  have h15b : Rows8 (w7.setRow (w4.heap.size) (gc (rdG cur s.key s.h2))) (w4.heap.size) 25 (gc (rdG cur s.key s.h2)) := setRow_heap _ (w4.heap.size) _ (gc (rdG cur s.key s.h2)) _ _ h15
                  have h16b : Rows8 (w7.setRow (w4.heap.size) (gc (rdG cur s.key s.h2))) (w4.heap.size + 1) 25 (gc zG) := (setRow_other _ _ _ _ (by omega)).trans h16
                  clear h15 h16 T7 hB7 hld11 hld13 hld6 fd6 fk6 fv6 fh6
                  have fk8 : (w7.setRow (w4.heap.size) (gc (rdG cur s.key s.h2))).cell? ⟨w1.heap.size, 0, none⟩ = some (.int .u64 (s.key : Nat)) := T8.s.cell 0
                  have fh8 : (w7.setRow (w4.heap.size) (gc (rdG cur s.key s.h2))).cell? ⟨w1.heap.size, 2, none⟩ = some (.int .u8 (s.h2 : Nat)) := T8.s.cell 2
                  have hld8 := Tryz.load_group T8.r.c
                  have HT8 := Lib.hid T8
                  have H15b := Lib.hid h15b
                  have H16b := Lib.hid h16b
                  clear T8 h15b h16b
                  go_wp2_with (first | (refine wpList_storeW (by rfl) 25 _ _ rfl ⟨w4.heap.size, 0, none⟩ _ rfl rfl hst15 ?_) | (refine wpList_loadW (by rfl) _ _ rfl ⟨B5, 0, none⟩ _ rfl hld8 ?_))
                  refine (HRd _).out.mono ?_
                  rintro e w10 ⟨rfl, hB10⟩
                  have T10 := HT8.out.below hB10
                  have h15e := H15b.out.below hB10 H15b.out.lt
                  have h16e := H16b.out.below hB10 H16b.out.lt
                  clear hB10 hld8 fk8 fh8 hst15
                  have hst16 := Tryz.store_group (rdG cur s.key s.h2) h16e rfl
                  have T11 := T10.setRow h16e (by omega : w1.heap.size < w4.heap.size + 1) (gc (rdG cur s.key s.h2))
                  have h16f : Rows8 (w10.setRow (w4.heap.size + 1) (gc (rdG cur s.key s.h2))) (w4.heap.size + 1) 25 (gc (rdG cur s.key s.h2)) := setRow_heap _ (w4.heap.size + 1) _ (gc (rdG cur s.key s.h2)) _ _ h16e
                  have h15f : Rows8 (w10.setRow (w4.heap.size + 1) (gc (rdG cur s.key s.h2))) (w4.heap.size) 25 (gc (rdG cur s.key s.h2)) := (setRow_other _ _ _ _ (by omega)).trans h15e
                  have hld15 := Tryz.load_group h15f
                  have hld16 := Tryz.load_group h16f
                  have hst5 := Tryz.store_group (rdG cur s.key s.h2) T11.r.c rfl
                  have HT11 := Lib.hid T11
                  clear T10 T11 h15e h16e h15f h16f
                  generalize findE cur s.key s.h2 = E at *
                  by_cases hE : E = 0
                  · subst hE
                    have HCn := Lib.hid (HLd.out rfl)
                    go_wp2_with (first | (refine wpList_storeW (by rfl) 25 _ _ rfl ⟨w4.heap.size + 1, 0, none⟩ _ rfl rfl hst16 ?_) | (refine wpList_loadW (by rfl) _ _ rfl ⟨w4.heap.size, 0, none⟩ _ rfl hld15 ?_) | (refine wpList_loadW (by rfl) _ _ rfl ⟨w4.heap.size + 1, 0, none⟩ _ rfl hld16 ?_) | (refine wpList_neqW (by rfl) 25 _ _ rfl (gc (rdG cur s.key s.h2)) (gc (rdG cur s.key s.h2)) rfl rfl (by kernel_rfl) true (Tryz.eqGroup (rdG cur s.key s.h2) _) ?_) | (refine wpList_storeW (by rfl) 25 _ _ rfl ⟨B5, 0, none⟩ _ rfl rfl hst5 ?_))
                    go_roundw
                    case rel => exact ⟨k + 1, (rdG cur s.key s.h2), sl, a6, c6, (by first | rfl | (rw [List.length_append]; rfl)), by omega, by omega, by go_num, Lib.hid (HT11.out.next (rdG cur s.key s.h2)), HCn, Lib.hid ⟨by have := hsl.out.1; omega, hsl.out.2⟩⟩
                    case measure => simp [intOf] <;> omega
                  · have hEb : (E == 0) = false := by simpa using hE
                    clear hst5
                    go_wp2_with (first | (refine wpList_storeW (by rfl) 25 _ _ rfl ⟨w4.heap.size + 1, 0, none⟩ _ rfl rfl hst16 ?_) | (refine wpList_loadW (by rfl) _ _ rfl ⟨w4.heap.size, 0, none⟩ _ rfl hld15 ?_) | (refine wpList_loadW (by rfl) _ _ rfl ⟨w4.heap.size + 1, 0, none⟩ _ rfl hld16 ?_) | (refine wpList_neqW (by rfl) 25 _ _ rfl (gc (rdG cur s.key s.h2)) (gc (rdG cur s.key s.h2)) rfl rfl (by kernel_rfl) true (Tryz.eqGroup (rdG cur s.key s.h2) _) ?_))
                    go_roundw
                    case rel => exact ⟨k + 1, cur, sl, a6, c6, (by first | rfl | (rw [List.length_append]; rfl)), by omega, by omega, by go_num, Lib.hid HT11.out.r, hcc, Lib.hid ⟨by have := hsl.out.1; omega, hsl.out.2⟩⟩
                    case measure => simp [intOf] <;> omega
          · obtain ⟨l, hlane⟩ : ∃ l : Nat, lane = l := ⟨lane.toNat, by unfold bad at hbad; omega⟩
            have HLn := Lib.hid hlane
            have hl8 : l < 8 := by unfold bad at hbad; omega
            rw [decide_eq_true hbad] at HIs
            have HFu := fun W => Lib.hid (Tryz.rgFull_any cur hcc.out l hl8 W)
            clear hbad
            by_cases hfu : byt cur.c l < 128
            · as_aux_lemma =>
                rw [show ansG cur (setE cur lane) (setG cur lane s.val) = ⟨cur.c, cur.k, upd cur.v l s.val⟩ from by rw [hlane]; exact (set_yes hr hl8 hfu _).1, show ansE cur (setE cur lane) = 0 from by rw [hlane]; exact (set_yes hr hl8 hfu s.val).2] at HSet
                rw [decide_eq_true hfu] at HFu
                have hl0 : ¬ ((l : Nat) : Int) < 0 := by omega
                have hl0' : (0 : Int) ≤ ((l : Nat) : Int) := by omega
                have hll : ¬ (8 : Int) ≤ ((l : Nat) : Int) := by omega
                clear hr hfu hlane
                go_wp2_with (first | (refine wpList_loadW (by rfl) _ _ rfl ⟨B5, 0, none⟩ _ rfl hlda ?_) | (go_at_call 5; refine (HRt _).out.mono ?_; rintro e w1 ⟨rfl, hB1⟩; have hR1 := HRa.out.below hB1; have hA1 := HA.out.below hB1 HA.out.lt; have al1 : Below w1.heap.size w1 (w1.alloc (.cells #[.int .u64 (s.key : Nat), .int .u64 (s.val : Nat), .int .u8 (s.h2 : Nat)] 30)) := (Below.refl _ _).alloc (Nat.le_refl _) _; have T1 : Rt B5 wr.heap.size w1.heap.size w g cur sl (.slice a6 sl.length c6) d s lane (w1.alloc (.cells #[.int .u64 (s.key : Nat), .int .u64 (s.val : Nat), .int .u8 (s.h2 : Nat)] 30)) := ⟨hR1.below al1, hA1.below al1 hA1.lt, Rows8.new _ _ _, h58, hA1.lt⟩; have HNE := Lib.hid (owns_fresh hR.out.o (Nat.le_of_lt hA1.lt)); have fk1 : w1.cell? ⟨wr.heap.size, 1, none⟩ = some (.int .u64 (s.key : Nat)) := hA1.cell 1; have fv1 : w1.cell? ⟨wr.heap.size, 2, none⟩ = some (.int .u64 (s.val : Nat)) := hA1.cell 2; have fh1 : w1.cell? ⟨wr.heap.size, 3, none⟩ = some (.int .u8 (s.h2 : Nat)) := hA1.cell 3; have flb : (w1.alloc (.cells #[.int .u64 (s.key : Nat), .int .u64 (s.val : Nat), .int .u8 (s.h2 : Nat)] 30)).cell? ⟨wr.heap.size, 4, none⟩ = some (.int .i64 lane) := T1.a.cell 4; have fvb : (w1.alloc (.cells #[.int .u64 (s.key : Nat), .int .u64 (s.val : Nat), .int .u8 (s.h2 : Nat)] 30)).cell? ⟨w1.heap.size, 1, none⟩ = some (.int .u64 (s.val : Nat)) := T1.s.cell 1; have hldb := Tryz.load_group T1.r.c; have HT1 := Lib.hid T1; have h81 := hA1.lt; clear hB1 hR1 hA1 al1 T1) | (refine wpList_loadW (by rfl) _ _ rfl ⟨B5, 0, none⟩ _ rfl hldb ?_))
                refine (HSet _).out.mono ?_
                rintro e w2 ⟨rfl, hB2⟩
                have T2 := HT1.out.below hB2
                have h12 : w1.heap.size < w2.heap.size := T2.s.lt
                obtain ⟨w3, hst3, hr11a, hB3⟩ := Tryz.box_new ⟨cur.c, cur.k, upd cur.v l s.val⟩ w2
                have h23 : w2.heap.size < w3.heap.size := hr11a.lt
                have T3 := T2.below hB3
                obtain ⟨w4, hst4, hr13, hB4⟩ := Tryz.box_new zG w3
                have h34 : w3.heap.size < w4.heap.size := hr13.lt
                have T4 := T3.below hB4
                have hr11 := hr11a.below hB4 hr11a.lt
                clear hB2 hB3 hB4 T2 T3 hr11a fk1 fv1 fh1 flb fvb hlda hldb
                have hlane := HLn.out
                clear HLn
                subst hlane
                have fl4 : (w4).cell? ⟨wr.heap.size, 4, none⟩ = some (.int .i64 ((l : Nat) : Int)) := T4.a.cell 4
                have fv4 : (w4).cell? ⟨w1.heap.size, 1, none⟩ = some (.int .u64 (s.val : Nat)) := T4.s.cell 1
                have T4h := Lib.hid T4
                have R11 := Lib.hid hr11
                have R13 := Lib.hid hr13
                have hld4 := Tryz.load_group T4.r.c
                clear T4 hr11 hr13
                go_upto_region 20 with (first | (refine wpList_storeW (by rfl) 25 _ _ rfl ⟨w2.heap.size, 0, none⟩ _ rfl rfl hst3 ?_) | (refine wpList_storeW (by rfl) 25 _ _ rfl ⟨w3.heap.size, 0, none⟩ _ rfl rfl hst4 ?_) | (go_at_call 7; refine (HIs _).out.mono ?_; rintro e wq ⟨rfl, rfl⟩) | (refine wpList_loadW (by rfl) _ _ rfl ⟨B5, 0, none⟩ _ rfl hld4 ?_) | (go_at_call 8; refine (HFu _).out.mono ?_; rintro e w5 ⟨rfl, hB5⟩; have T5 := T4h.out.below hB5; have hr11b := R11.out.below hB5 R11.out.lt; have hr13b := R13.out.below hB5 R13.out.lt; have hld5 := Tryz.load_group T5.r.c; have hst13 := Tryz.store_group cur hr13b rfl; have T5x := T5.setRow hr13b (by omega) (gc cur); have hr13x : Rows8 (w5.setRow w3.heap.size (gc cur)) w3.heap.size 25 (gc cur) := setRow_heap _ w3.heap.size _ (gc cur) _ _ hr13b; have hr11x : Rows8 (w5.setRow w3.heap.size (gc cur)) w2.heap.size 25 _ := (setRow_other _ _ _ _ (by omega)).trans hr11b; have fl5 : (w5.setRow w3.heap.size (gc cur)).cell? ⟨wr.heap.size, 4, none⟩ = some (.int .i64 ((l : Nat) : Int)) := T5x.a.cell 4; have fv5 : (w5.setRow w3.heap.size (gc cur)).cell? ⟨w1.heap.size, 1, none⟩ = some (.int .u64 (s.val : Nat)) := T5x.s.cell 1; have fc5 : (w5.setRow w3.heap.size (gc cur)).cell? ⟨w3.heap.size, 9 + l, none⟩ = some (.int .u64 (cur.v l : Nat)) := (hr13x.cell _).trans (gc_v cur l hl8); have ff5 := hr13x.frozen (9 + l); have T5y := T5x.setCell hr13x (by omega : w1.heap.size < w3.heap.size) (9 + l) (.int .u64 (s.val : Nat)); have hr13y := gc_val hr13x l hl8 s.val; have hr11y := hr11x.setOther (a := ⟨w3.heap.size, 9 + l, none⟩) (by simp; omega) (.int .u64 (s.val : Nat)); have HT5y := Lib.hid T5y; have HR13y := Lib.hid hr13y; have HR11y := Lib.hid hr11y; clear hB5 T5 T5x T5y hr11b hr13b hr13x hr11x hr13y hr11y) | (refine wpList_loadW (by rfl) _ _ rfl ⟨B5, 0, none⟩ _ rfl hld5 ?_) | (refine wpList_storeW (by rfl) 25 _ _ rfl ⟨w3.heap.size, 0, none⟩ _ rfl rfl hst13 ?_))
                have T6a := HT5y.out
                have r13a := HR13y.out
                have r11a := HR11y.out
                clear HT5y HR13y HR11y fl5 fv5 fc5 ff5 hld5 hst13 hst3 hst4
                generalize ((w5.setRow w3.heap.size (gc cur)).setCell ⟨w3.heap.size, 9 + l, none⟩ (.int .u64 (s.val : Nat))) = w6 at *
                have hV : w1.heap.size < w6.heap.size := T6a.s.lt
                have hld11 := Tryz.load_group r11a
                have hld13 := Tryz.load_group r13a
                have hal6 : Below w6.heap.size w6 ((w6.alloc (.cells #[.int .u64 0, .int .u64 0, .int .u64 0, .int .u64 0, .int .u64 0, .int .u64 0, .int .u64 0, .int .u64 0, .int .u64 0, .int .u64 0, .int .u64 0, .int .u64 0, .int .u64 0, .int .u64 0, .int .u64 0, .int .u64 0, .int .u64 0] 25)).alloc (.cells #[.int .u64 0, .int .u64 0, .int .u64 0, .int .u64 0, .int .u64 0, .int .u64 0, .int .u64 0, .int .u64 0, .int .u64 0, .int .u64 0, .int .u64 0, .int .u64 0, .int .u64 0, .int .u64 0, .int .u64 0, .int .u64 0, .int .u64 0] 25)) := ((Below.refl _ w6).alloc (Nat.le_refl _) _).alloc (by simp) _
                have h15 : Rows8 ((w6.alloc (.cells #[.int .u64 0, .int .u64 0, .int .u64 0, .int .u64 0, .int .u64 0, .int .u64 0, .int .u64 0, .int .u64 0, .int .u64 0, .int .u64 0, .int .u64 0, .int .u64 0, .int .u64 0, .int .u64 0, .int .u64 0, .int .u64 0, .int .u64 0] 25)).alloc (.cells #[.int .u64 0, .int .u64 0, .int .u64 0, .int .u64 0, .int .u64 0, .int .u64 0, .int .u64 0, .int .u64 0, .int .u64 0, .int .u64 0, .int .u64 0, .int .u64 0, .int .u64 0, .int .u64 0, .int .u64 0, .int .u64 0, .int .u64 0] 25)) (w6.heap.size) 25 (gc zG) := (Rows8.new w6 _ _).alloc _
                have h16 : Rows8 ((w6.alloc (.cells #[.int .u64 0, .int .u64 0, .int .u64 0, .int .u64 0, .int .u64 0, .int .u64 0, .int .u64 0, .int .u64 0, .int .u64 0, .int .u64 0, .int .u64 0, .int .u64 0, .int .u64 0, .int .u64 0, .int .u64 0, .int .u64 0, .int .u64 0] 25)).alloc (.cells #[.int .u64 0, .int .u64 0, .int .u64 0, .int .u64 0, .int .u64 0, .int .u64 0, .int .u64 0, .int .u64 0, .int .u64 0, .int .u64 0, .int .u64 0, .int .u64 0, .int .u64 0, .int .u64 0, .int .u64 0, .int .u64 0, .int .u64 0] 25)) (w6.heap.size + 1) 25 (gc zG) := by
                  have h := Rows8.new (w6.alloc (.cells #[.int .u64 0, .int .u64 0, .int .u64 0, .int .u64 0, .int .u64 0, .int .u64 0, .int .u64 0, .int .u64 0, .int .u64 0, .int .u64 0, .int .u64 0, .int .u64 0, .int .u64 0, .int .u64 0, .int .u64 0, .int .u64 0, .int .u64 0] 25)) 25 (gc zG)
                  rw [World.size_alloc] at h
                  exact h
                have T6 := T6a.below hal6
                have hld6 := Tryz.load_group T6.r.c
                have HT6 := Lib.hid T6
                have H15 := Lib.hid h15
                have H16 := Lib.hid h16
                have fd6 : ((w6.alloc (.cells #[.int .u64 0, .int .u64 0, .int .u64 0, .int .u64 0, .int .u64 0, .int .u64 0, .int .u64 0, .int .u64 0, .int .u64 0, .int .u64 0, .int .u64 0, .int .u64 0, .int .u64 0, .int .u64 0, .int .u64 0, .int .u64 0, .int .u64 0] 25)).alloc (.cells #[.int .u64 0, .int .u64 0, .int .u64 0, .int .u64 0, .int .u64 0, .int .u64 0, .int .u64 0, .int .u64 0, .int .u64 0, .int .u64 0, .int .u64 0, .int .u64 0, .int .u64 0, .int .u64 0, .int .u64 0, .int .u64 0, .int .u64 0] 25)).cell? ⟨wr.heap.size, 0, none⟩ = some (.bool d) := T6.a.cell 0
                have fk6 : ((w6.alloc (.cells #[.int .u64 0, .int .u64 0, .int .u64 0, .int .u64 0, .int .u64 0, .int .u64 0, .int .u64 0, .int .u64 0, .int .u64 0, .int .u64 0, .int .u64 0, .int .u64 0, .int .u64 0, .int .u64 0, .int .u64 0, .int .u64 0, .int .u64 0] 25)).alloc (.cells #[.int .u64 0, .int .u64 0, .int .u64 0, .int .u64 0, .int .u64 0, .int .u64 0, .int .u64 0, .int .u64 0, .int .u64 0, .int .u64 0, .int .u64 0, .int .u64 0, .int .u64 0, .int .u64 0, .int .u64 0, .int .u64 0, .int .u64 0] 25)).cell? ⟨w1.heap.size, 0, none⟩ = some (.int .u64 (s.key : Nat)) := T6.s.cell 0
                have fv6 : ((w6.alloc (.cells #[.int .u64 0, .int .u64 0, .int .u64 0, .int .u64 0, .int .u64 0, .int .u64 0, .int .u64 0, .int .u64 0, .int .u64 0, .int .u64 0, .int .u64 0, .int .u64 0, .int .u64 0, .int .u64 0, .int .u64 0, .int .u64 0, .int .u64 0] 25)).alloc (.cells #[.int .u64 0, .int .u64 0, .int .u64 0, .int .u64 0, .int .u64 0, .int .u64 0, .int .u64 0, .int .u64 0, .int .u64 0, .int .u64 0, .int .u64 0, .int .u64 0, .int .u64 0, .int .u64 0, .int .u64 0, .int .u64 0, .int .u64 0] 25)).cell? ⟨w1.heap.size, 1, none⟩ = some (.int .u64 (s.val : Nat)) := T6.s.cell 1
                have fh6 : ((w6.alloc (.cells #[.int .u64 0, .int .u64 0, .int .u64 0, .int .u64 0, .int .u64 0, .int .u64 0, .int .u64 0, .int .u64 0, .int .u64 0, .int .u64 0, .int .u64 0, .int .u64 0, .int .u64 0, .int .u64 0, .int .u64 0, .int .u64 0, .int .u64 0] 25)).alloc (.cells #[.int .u64 0, .int .u64 0, .int .u64 0, .int .u64 0, .int .u64 0, .int .u64 0, .int .u64 0, .int .u64 0, .int .u64 0, .int .u64 0, .int .u64 0, .int .u64 0, .int .u64 0, .int .u64 0, .int .u64 0, .int .u64 0, .int .u64 0] 25)).cell? ⟨w1.heap.size, 2, none⟩ = some (.int .u8 (s.h2 : Nat)) := T6.s.cell 2
                clear hal6 h15 h16 T6 T6a r11a r13a
                cases d
                · as_aux_lemma =>
                    go_wp2_with (first | (refine wpList_loadW (by rfl) _ _ rfl ⟨w2.heap.size, 0, none⟩ _ rfl hld11 ?_) | (refine wpList_loadW (by rfl) _ _ rfl ⟨w3.heap.size, 0, none⟩ _ rfl hld13 ?_) | (refine wpList_neqW (by rfl) 25 _ _ rfl (gc ⟨cur.c, cur.k, upd cur.v l s.val⟩) (gc ⟨cur.c, cur.k, upd cur.v l s.val⟩) rfl rfl (by kernel_rfl) true (Tryz.eqGroup ⟨cur.c, cur.k, upd cur.v l s.val⟩ _) ?_) | (refine wpList_loadW (by rfl) _ _ rfl ⟨B5, 0, none⟩ _ rfl hld6 ?_))
                    refine (HPu _).out.mono ?_
                    rintro e w7 ⟨rfl, hB7⟩
                    have T7 := HT6.out.below hB7
                    have h15 := H15.out.below hB7 H15.out.lt
                    have h16 := H16.out.below hB7 H16.out.lt
                    have hst15 := Tryz.store_group (rpG cur s) h15 rfl
                    have T8 := T7.setRow h15 hV (gc (rpG cur s))
                    have h15b : Rows8 (w7.setRow (w6.heap.size) (gc (rpG cur s))) (w6.heap.size) 25 (gc (rpG cur s)) := setRow_heap _ (w6.heap.size) _ (gc (rpG cur s)) _ _ h15
                    have h16b : Rows8 (w7.setRow (w6.heap.size) (gc (rpG cur s))) (w6.heap.size + 1) 25 (gc zG) := (setRow_other _ _ _ _ (by omega)).trans h16
                    clear h15 h16 T7 hB7 hld11 hld13 hld6 fd6 fk6 fv6 fh6
                    go_upto_region 30 with (refine wpList_storeW (by rfl) 25 _ _ rfl ⟨w6.heap.size, 0, none⟩ _ rfl rfl hst15 ?_)
                    generalize w7.setRow (w6.heap.size) (gc (rpG cur s)) = w8 at *
                    clear hst15
                    have fk8 : (w8).cell? ⟨w1.heap.size, 0, none⟩ = some (.int .u64 (s.key : Nat)) := T8.s.cell 0
                    have fv8 : (w8).cell? ⟨w1.heap.size, 1, none⟩ = some (.int .u64 (s.val : Nat)) := T8.s.cell 1
                    have fh8 : (w8).cell? ⟨w1.heap.size, 2, none⟩ = some (.int .u8 (s.h2 : Nat)) := T8.s.cell 2
                    have hal8 : Below w8.heap.size w8 (w8.alloc (.cells #[.int .u64 (s.key : Nat), .int .u64 (s.val : Nat), .int .u8 (s.h2 : Nat)] 30)) := (Below.refl _ _).alloc (Nat.le_refl _) _
                    have T8a := T8.below hal8
                    have h15c := h15b.below hal8 h15b.lt
                    have h16c := h16b.below hal8 h16b.lt
                    have HT8 := Lib.hid T8a
                    have H15c := Lib.hid h15c
                    have H16c := Lib.hid h16c
                    have hsll : sl.length ≤ 20 := by have := hsl.out.1; omega
                    have hw8 : w.heap.size ≤ w8.heap.size := T8.r.b.size
                    clear T8 T8a h15b h16b h15c h16c hal8
                    go_upto_region 31 with (at_builtin; refine wpList_append_own _ rfl _ _ 28 rfl w.heap.size 30 hi0 (.agg #[.int .u64 0, .int .u64 0, .int .u8 0]) 3 24 Tryz.underlying28 hi hz0 hz1 hz2 rfl (by decide) _ _ _ rfl HT8.out.r.o ⟨w8.heap.size, 0, none⟩ 1 1 [.int .u64 (s.key : Nat), .int .u64 (s.val : Nat), .int .u8 (s.h2 : Nat)] rfl rfl (cells_new w8 _ [.int .u64 (s.key : Nat), .int .u64 (s.val : Nat), .int .u8 (s.h2 : Nat)]) (by simp [Value.oneCell']) (by unfold maxLen; omega) (by omega) (by simp; omega) ?_; intro v9 w9 hown hgrow _; have HOW := Lib.hid hown; have HGR := Lib.hid hgrow; clear hown hgrow)
                    have ho9 : OwnsSlots w.heap.size (sl ++ [s]) v9 w9 := by
                      unfold OwnsSlots
                      rw [slotVals_append1, List.length_append]
                      exact HOW.out
                    obtain ⟨a9, c9, rfl⟩ : ∃ a c, v9 = .slice a (sl ++ [s]).length c := by
                      obtain ⟨_, a, cap, h, _⟩ := rowAt_own ho9
                      exact ⟨a, cap, h⟩
                    have T9 := HT8.out.push HNE.out HGR.out ho9
                    have h15d := rows_grown HT8.out.r.o slot_ne_group HGR.out H15c.out
                    have h16d := rows_grown HT8.out.r.o slot_ne_group HGR.out H16c.out
                    have fk9 : (w9).cell? ⟨w1.heap.size, 0, none⟩ = some (.int .u64 (s.key : Nat)) := T9.s.cell 0
                    have fv9 : (w9).cell? ⟨w1.heap.size, 1, none⟩ = some (.int .u64 (s.val : Nat)) := T9.s.cell 1
                    have fh9 : (w9).cell? ⟨w1.heap.size, 2, none⟩ = some (.int .u8 (s.h2 : Nat)) := T9.s.cell 2
                    have hld9 := Tryz.load_group T9.r.c
                    have HT9 := Lib.hid T9
                    have H15d := Lib.hid h15d
                    have H16d := Lib.hid h16d
                    clear T9 h15d h16d ho9 fk8 fv8 fh8
                    go_wp2_with (first | (refine wpList_loadW (by rfl) _ _ rfl ⟨B5, 0, none⟩ _ rfl hld9 ?_))
                    refine (HRp _).out.mono ?_
                    rintro e w10 ⟨rfl, hB10⟩
                    have T10 := HT9.out.below hB10
                    have h15e := H15d.out.below hB10 H15d.out.lt
                    have h16e := H16d.out.below hB10 H16d.out.lt
                    clear hB10 hld9 fk9 fv9 fh9
                    have hst16 := Tryz.store_group (rpG cur s) h16e rfl
                    have T11 := T10.setRow h16e (by omega : w1.heap.size < w6.heap.size + 1) (gc (rpG cur s))
                    have h16f : Rows8 (w10.setRow (w6.heap.size + 1) (gc (rpG cur s))) (w6.heap.size + 1) 25 (gc (rpG cur s)) := setRow_heap _ (w6.heap.size + 1) _ (gc (rpG cur s)) _ _ h16e
                    have h15f : Rows8 (w10.setRow (w6.heap.size + 1) (gc (rpG cur s))) (w6.heap.size) 25 (gc (rpG cur s)) := (setRow_other _ _ _ _ (by omega)).trans h15e
                    have hld15 := Tryz.load_group h15f
                    have hld16 := Tryz.load_group h16f
                    have hst5 := Tryz.store_group (rpG cur s) T11.r.c rfl
                    have HT11 := Lib.hid T11
                    clear T10 T11 h15e h16e h15f h16f
                    generalize putE cur s = E at *
                    by_cases hE : E = 0
                    · subst hE
                      have HCn := Lib.hid (HLp.out rfl)
                      go_wp2_with (first | (refine wpList_storeW (by rfl) 25 _ _ rfl ⟨w6.heap.size + 1, 0, none⟩ _ rfl rfl hst16 ?_) | (refine wpList_loadW (by rfl) _ _ rfl ⟨w6.heap.size, 0, none⟩ _ rfl hld15 ?_) | (refine wpList_loadW (by rfl) _ _ rfl ⟨w6.heap.size + 1, 0, none⟩ _ rfl hld16 ?_) | (refine wpList_neqW (by rfl) 25 _ _ rfl (gc (rpG cur s)) (gc (rpG cur s)) rfl rfl (by kernel_rfl) true (Tryz.eqGroup (rpG cur s) _) ?_) | (refine wpList_storeW (by rfl) 25 _ _ rfl ⟨B5, 0, none⟩ _ rfl rfl hst5 ?_))
                      go_roundw
                      case rel => exact ⟨k + 1, (rpG cur s), (sl ++ [s]), a9, c9, (by first | rfl | (rw [List.length_append]; rfl)), by omega, by omega, by go_num, Lib.hid (HT11.out.next (rpG cur s)), HCn, Lib.hid ⟨by rw [List.length_append]; have := hsl.out.1; simp; omega, fun x hx => by rcases List.mem_append.1 hx with h | h; exact hsl.out.2 x h; rw [List.mem_singleton.1 h]; exact HS2.out⟩⟩
                      case measure => simp [intOf] <;> omega
                    · have hEb : (E == 0) = false := by simpa using hE
                      clear hst5
                      go_wp2_with (first | (refine wpList_storeW (by rfl) 25 _ _ rfl ⟨w6.heap.size + 1, 0, none⟩ _ rfl rfl hst16 ?_) | (refine wpList_loadW (by rfl) _ _ rfl ⟨w6.heap.size, 0, none⟩ _ rfl hld15 ?_) | (refine wpList_loadW (by rfl) _ _ rfl ⟨w6.heap.size + 1, 0, none⟩ _ rfl hld16 ?_) | (refine wpList_neqW (by rfl) 25 _ _ rfl (gc (rpG cur s)) (gc (rpG cur s)) rfl rfl (by kernel_rfl) true (Tryz.eqGroup (rpG cur s) _) ?_))
                      go_roundw
                      case rel => exact ⟨k + 1, cur, (sl ++ [s]), a9, c9, (by first | rfl | (rw [List.length_append]; rfl)), by omega, by omega, by go_num, Lib.hid HT11.out.r, hcc, Lib.hid ⟨by rw [List.length_append]; have := hsl.out.1; simp; omega, fun x hx => by rcases List.mem_append.1 hx with h | h; exact hsl.out.2 x h; rw [List.mem_singleton.1 h]; exact HS2.out⟩⟩
                      case measure => simp [intOf] <;> omega
                · as_aux_lemma =>
                    go_wp2_with (first | (refine wpList_loadW (by rfl) _ _ rfl ⟨w2.heap.size, 0, none⟩ _ rfl hld11 ?_) | (refine wpList_loadW (by rfl) _ _ rfl ⟨w3.heap.size, 0, none⟩ _ rfl hld13 ?_) | (refine wpList_neqW (by rfl) 25 _ _ rfl (gc ⟨cur.c, cur.k, upd cur.v l s.val⟩) (gc ⟨cur.c, cur.k, upd cur.v l s.val⟩) rfl rfl (by kernel_rfl) true (Tryz.eqGroup ⟨cur.c, cur.k, upd cur.v l s.val⟩ _) ?_) | (refine wpList_loadW (by rfl) _ _ rfl ⟨B5, 0, none⟩ _ rfl hld6 ?_))
                    refine (HDr _).out.mono ?_
                    rintro e w7 ⟨rfl, hB7⟩
                    have T7 := HT6.out.below hB7
                    have h15 := H15.out.below hB7 H15.out.lt
                    have h16 := H16.out.below hB7 H16.out.lt
                    have hst15 := Tryz.store_group (rdG cur s.key s.h2) h15 rfl
                    have T8 := T7.setRow h15 hV (gc (rdG cur s.key s.h2))
                    have h15b : Rows8 (w7.setRow (w6.heap.size) (gc (rdG cur s.key s.h2))) (w6.heap.size) 25 (gc (rdG cur s.key s.h2)) := setRow_heap _ (w6.heap.size) _ (gc (rdG cur s.key s.h2)) _ _ h15
                    have h16b : Rows8 (w7.setRow (w6.heap.size) (gc (rdG cur s.key s.h2))) (w6.heap.size + 1) 25 (gc zG) := (setRow_other _ _ _ _ (by omega)).trans h16
                    clear h15 h16 T7 hB7 hld11 hld13 hld6 fd6 fk6 fv6 fh6
                    have fk8 : (w7.setRow (w6.heap.size) (gc (rdG cur s.key s.h2))).cell? ⟨w1.heap.size, 0, none⟩ = some (.int .u64 (s.key : Nat)) := T8.s.cell 0
                    have fh8 : (w7.setRow (w6.heap.size) (gc (rdG cur s.key s.h2))).cell? ⟨w1.heap.size, 2, none⟩ = some (.int .u8 (s.h2 : Nat)) := T8.s.cell 2
                    have hld8 := Tryz.load_group T8.r.c
                    have HT8 := Lib.hid T8
                    have H15b := Lib.hid h15b
                    have H16b := Lib.hid h16b
                    clear T8 h15b h16b
                    go_wp2_with (first | (refine wpList_storeW (by rfl) 25 _ _ rfl ⟨w6.heap.size, 0, none⟩ _ rfl rfl hst15 ?_) | (refine wpList_loadW (by rfl) _ _ rfl ⟨B5, 0, none⟩ _ rfl hld8 ?_))
                    refine (HRd _).out.mono ?_
                    rintro e w10 ⟨rfl, hB10⟩
                    have T10 := HT8.out.below hB10
                    have h15e := H15b.out.below hB10 H15b.out.lt
                    have h16e := H16b.out.below hB10 H16b.out.lt
                    clear hB10 hld8 fk8 fh8 hst15
                    have hst16 := Tryz.store_group (rdG cur s.key s.h2) h16e rfl
                    have T11 := T10.setRow h16e (by omega : w1.heap.size < w6.heap.size + 1) (gc (rdG cur s.key s.h2))
                    have h16f : Rows8 (w10.setRow (w6.heap.size + 1) (gc (rdG cur s.key s.h2))) (w6.heap.size + 1) 25 (gc (rdG cur s.key s.h2)) := setRow_heap _ (w6.heap.size + 1) _ (gc (rdG cur s.key s.h2)) _ _ h16e
                    have h15f : Rows8 (w10.setRow (w6.heap.size + 1) (gc (rdG cur s.key s.h2))) (w6.heap.size) 25 (gc (rdG cur s.key s.h2)) := (setRow_other _ _ _ _ (by omega)).trans h15e
                    have hld15 := Tryz.load_group h15f
                    have hld16 := Tryz.load_group h16f
                    have hst5 := Tryz.store_group (rdG cur s.key s.h2) T11.r.c rfl
                    have HT11 := Lib.hid T11
                    clear T10 T11 h15e h16e h15f h16f
                    generalize findE cur s.key s.h2 = E at *
                    by_cases hE : E = 0
                    · subst hE
                      have HCn := Lib.hid (HLd.out rfl)
                      go_wp2_with (first | (refine wpList_storeW (by rfl) 25 _ _ rfl ⟨w6.heap.size + 1, 0, none⟩ _ rfl rfl hst16 ?_) | (refine wpList_loadW (by rfl) _ _ rfl ⟨w6.heap.size, 0, none⟩ _ rfl hld15 ?_) | (refine wpList_loadW (by rfl) _ _ rfl ⟨w6.heap.size + 1, 0, none⟩ _ rfl hld16 ?_) | (refine wpList_neqW (by rfl) 25 _ _ rfl (gc (rdG cur s.key s.h2)) (gc (rdG cur s.key s.h2)) rfl rfl (by kernel_rfl) true (Tryz.eqGroup (rdG cur s.key s.h2) _) ?_) | (refine wpList_storeW (by rfl) 25 _ _ rfl ⟨B5, 0, none⟩ _ rfl rfl hst5 ?_))
                      go_roundw
                      case rel => exact ⟨k + 1, (rdG cur s.key s.h2), sl, a6, c6, (by first | rfl | (rw [List.length_append]; rfl)), by omega, by omega, by go_num, Lib.hid (HT11.out.next (rdG cur s.key s.h2)), HCn, Lib.hid ⟨by have := hsl.out.1; omega, hsl.out.2⟩⟩
                      case measure => simp [intOf] <;> omega
                    · have hEb : (E == 0) = false := by simpa using hE
                      clear hst5
                      go_wp2_with (first | (refine wpList_storeW (by rfl) 25 _ _ rfl ⟨w6.heap.size + 1, 0, none⟩ _ rfl rfl hst16 ?_) | (refine wpList_loadW (by rfl) _ _ rfl ⟨w6.heap.size, 0, none⟩ _ rfl hld15 ?_) | (refine wpList_loadW (by rfl) _ _ rfl ⟨w6.heap.size + 1, 0, none⟩ _ rfl hld16 ?_) | (refine wpList_neqW (by rfl) 25 _ _ rfl (gc (rdG cur s.key s.h2)) (gc (rdG cur s.key s.h2)) rfl rfl (by kernel_rfl) true (Tryz.eqGroup (rdG cur s.key s.h2) _) ?_))
                      go_roundw
                      case rel => exact ⟨k + 1, cur, sl, a6, c6, (by first | rfl | (rw [List.length_append]; rfl)), by omega, by omega, by go_num, Lib.hid HT11.out.r, hcc, Lib.hid ⟨by have := hsl.out.1; omega, hsl.out.2⟩⟩
                      case measure => simp [intOf] <;> omega
            · as_aux_lemma =>
                rw [show ansG cur (setE cur lane) (setG cur lane s.val) = zG from by rw [hlane]; exact (set_no hr hl8 hfu _).1, show ansE cur (setE cur lane) = 4 from by rw [hlane]; exact (set_no hr hl8 hfu s.val).2] at HSet
                rw [decide_eq_false hfu] at HFu
                clear hr hfu hlane
                go_wp2_with (first | (refine wpList_loadW (by rfl) _ _ rfl ⟨B5, 0, none⟩ _ rfl hlda ?_) | (go_at_call 5; refine (HRt _).out.mono ?_; rintro e w1 ⟨rfl, hB1⟩; have hR1 := HRa.out.below hB1; have hA1 := HA.out.below hB1 HA.out.lt; have al1 : Below w1.heap.size w1 (w1.alloc (.cells #[.int .u64 (s.key : Nat), .int .u64 (s.val : Nat), .int .u8 (s.h2 : Nat)] 30)) := (Below.refl _ _).alloc (Nat.le_refl _) _; have T1 : Rt B5 wr.heap.size w1.heap.size w g cur sl (.slice a6 sl.length c6) d s lane (w1.alloc (.cells #[.int .u64 (s.key : Nat), .int .u64 (s.val : Nat), .int .u8 (s.h2 : Nat)] 30)) := ⟨hR1.below al1, hA1.below al1 hA1.lt, Rows8.new _ _ _, h58, hA1.lt⟩; have HNE := Lib.hid (owns_fresh hR.out.o (Nat.le_of_lt hA1.lt)); have fk1 : w1.cell? ⟨wr.heap.size, 1, none⟩ = some (.int .u64 (s.key : Nat)) := hA1.cell 1; have fv1 : w1.cell? ⟨wr.heap.size, 2, none⟩ = some (.int .u64 (s.val : Nat)) := hA1.cell 2; have fh1 : w1.cell? ⟨wr.heap.size, 3, none⟩ = some (.int .u8 (s.h2 : Nat)) := hA1.cell 3; have flb : (w1.alloc (.cells #[.int .u64 (s.key : Nat), .int .u64 (s.val : Nat), .int .u8 (s.h2 : Nat)] 30)).cell? ⟨wr.heap.size, 4, none⟩ = some (.int .i64 lane) := T1.a.cell 4; have fvb : (w1.alloc (.cells #[.int .u64 (s.key : Nat), .int .u64 (s.val : Nat), .int .u8 (s.h2 : Nat)] 30)).cell? ⟨w1.heap.size, 1, none⟩ = some (.int .u64 (s.val : Nat)) := T1.s.cell 1; have hldb := Tryz.load_group T1.r.c; have HT1 := Lib.hid T1; have h81 := hA1.lt; clear hB1 hR1 hA1 al1 T1) | (refine wpList_loadW (by rfl) _ _ rfl ⟨B5, 0, none⟩ _ rfl hldb ?_))
                refine (HSet _).out.mono ?_
                rintro e w2 ⟨rfl, hB2⟩
                have T2 := HT1.out.below hB2
                have h12 : w1.heap.size < w2.heap.size := T2.s.lt
                obtain ⟨w3, hst3, hr11a, hB3⟩ := Tryz.box_new zG w2
                have h23 : w2.heap.size < w3.heap.size := hr11a.lt
                have T3 := T2.below hB3
                obtain ⟨w4, hst4, hr13, hB4⟩ := Tryz.box_new zG w3
                have h34 : w3.heap.size < w4.heap.size := hr13.lt
                have T4 := T3.below hB4
                have hr11 := hr11a.below hB4 hr11a.lt
                clear hB2 hB3 hB4 T2 T3 hr11a fk1 fv1 fh1 flb fvb hlda hldb
                have hlane := HLn.out
                clear HLn
                subst hlane
                have fl4 : (w4).cell? ⟨wr.heap.size, 4, none⟩ = some (.int .i64 ((l : Nat) : Int)) := T4.a.cell 4
                have fv4 : (w4).cell? ⟨w1.heap.size, 1, none⟩ = some (.int .u64 (s.val : Nat)) := T4.s.cell 1
                have T4h := Lib.hid T4
                have R11 := Lib.hid hr11
                have R13 := Lib.hid hr13
                have hld4 := Tryz.load_group T4.r.c
                clear T4 hr11 hr13
                go_upto_region 20 with (first | (refine wpList_storeW (by rfl) 25 _ _ rfl ⟨w2.heap.size, 0, none⟩ _ rfl rfl hst3 ?_) | (refine wpList_storeW (by rfl) 25 _ _ rfl ⟨w3.heap.size, 0, none⟩ _ rfl rfl hst4 ?_) | (go_at_call 7; refine (HIs _).out.mono ?_; rintro e wq ⟨rfl, rfl⟩) | (refine wpList_loadW (by rfl) _ _ rfl ⟨B5, 0, none⟩ _ rfl hld4 ?_) | (go_at_call 8; refine (HFu _).out.mono ?_; rintro e w5 ⟨rfl, hB5⟩; have T5 := Lib.hid (T4h.out.below hB5); have r11b := Lib.hid (R11.out.below hB5 R11.out.lt); have r13b := Lib.hid (R13.out.below hB5 R13.out.lt); clear hB5))
                have T5a := T5.out
                have r11a := r11b.out
                have r13a := r13b.out
                clear T5 r11b r13b hst3 hst4 fl4 fv4
                have hV : w1.heap.size < w5.heap.size := T5a.s.lt
                have hld11 := Tryz.load_group r11a
                have hld13 := Tryz.load_group r13a
                have hal6 : Below w5.heap.size w5 ((w5.alloc (.cells #[.int .u64 0, .int .u64 0, .int .u64 0, .int .u64 0, .int .u64 0, .int .u64 0, .int .u64 0, .int .u64 0, .int .u64 0, .int .u64 0, .int .u64 0, .int .u64 0, .int .u64 0, .int .u64 0, .int .u64 0, .int .u64 0, .int .u64 0] 25)).alloc (.cells #[.int .u64 0, .int .u64 0, .int .u64 0, .int .u64 0, .int .u64 0, .int .u64 0, .int .u64 0, .int .u64 0, .int .u64 0, .int .u64 0, .int .u64 0, .int .u64 0, .int .u64 0, .int .u64 0, .int .u64 0, .int .u64 0, .int .u64 0] 25)) := ((Below.refl _ w5).alloc (Nat.le_refl _) _).alloc (by simp) _
                have h15 : Rows8 ((w5.alloc (.cells #[.int .u64 0, .int .u64 0, .int .u64 0, .int .u64 0, .int .u64 0, .int .u64 0, .int .u64 0, .int .u64 0, .int .u64 0, .int .u64 0, .int .u64 0, .int .u64 0, .int .u64 0, .int .u64 0, .int .u64 0, .int .u64 0, .int .u64 0] 25)).alloc (.cells #[.int .u64 0, .int .u64 0, .int .u64 0, .int .u64 0, .int .u64 0, .int .u64 0, .int .u64 0, .int .u64 0, .int .u64 0, .int .u64 0, .int .u64 0, .int .u64 0, .int .u64 0, .int .u64 0, .int .u64 0, .int .u64 0, .int .u64 0] 25)) (w5.heap.size) 25 (gc zG) := (Rows8.new w5 _ _).alloc _
                have h16 : Rows8 ((w5.alloc (.cells #[.int .u64 0, .int .u64 0, .int .u64 0, .int .u64 0, .int .u64 0, .int .u64 0, .int .u64 0, .int .u64 0, .int .u64 0, .int .u64 0, .int .u64 0, .int .u64 0, .int .u64 0, .int .u64 0, .int .u64 0, .int .u64 0, .int .u64 0] 25)).alloc (.cells #[.int .u64 0, .int .u64 0, .int .u64 0, .int .u64 0, .int .u64 0, .int .u64 0, .int .u64 0, .int .u64 0, .int .u64 0, .int .u64 0, .int .u64 0, .int .u64 0, .int .u64 0, .int .u64 0, .int .u64 0, .int .u64 0, .int .u64 0] 25)) (w5.heap.size + 1) 25 (gc zG) := by
                  have h := Rows8.new (w5.alloc (.cells #[.int .u64 0, .int .u64 0, .int .u64 0, .int .u64 0, .int .u64 0, .int .u64 0, .int .u64 0, .int .u64 0, .int .u64 0, .int .u64 0, .int .u64 0, .int .u64 0, .int .u64 0, .int .u64 0, .int .u64 0, .int .u64 0, .int .u64 0] 25)) 25 (gc zG)
                  rw [World.size_alloc] at h
                  exact h
                have T6 := T5a.below hal6
                have hld6 := Tryz.load_group T6.r.c
                have HT6 := Lib.hid T6
                have H15 := Lib.hid h15
                have H16 := Lib.hid h16
                have fd6 : ((w5.alloc (.cells #[.int .u64 0, .int .u64 0, .int .u64 0, .int .u64 0, .int .u64 0, .int .u64 0, .int .u64 0, .int .u64 0, .int .u64 0, .int .u64 0, .int .u64 0, .int .u64 0, .int .u64 0, .int .u64 0, .int .u64 0, .int .u64 0, .int .u64 0] 25)).alloc (.cells #[.int .u64 0, .int .u64 0, .int .u64 0, .int .u64 0, .int .u64 0, .int .u64 0, .int .u64 0, .int .u64 0, .int .u64 0, .int .u64 0, .int .u64 0, .int .u64 0, .int .u64 0, .int .u64 0, .int .u64 0, .int .u64 0, .int .u64 0] 25)).cell? ⟨wr.heap.size, 0, none⟩ = some (.bool d) := T6.a.cell 0
                have fk6 : ((w5.alloc (.cells #[.int .u64 0, .int .u64 0, .int .u64 0, .int .u64 0, .int .u64 0, .int .u64 0, .int .u64 0, .int .u64 0, .int .u64 0, .int .u64 0, .int .u64 0, .int .u64 0, .int .u64 0, .int .u64 0, .int .u64 0, .int .u64 0, .int .u64 0] 25)).alloc (.cells #[.int .u64 0, .int .u64 0, .int .u64 0, .int .u64 0, .int .u64 0, .int .u64 0, .int .u64 0, .int .u64 0, .int .u64 0, .int .u64 0, .int .u64 0, .int .u64 0, .int .u64 0, .int .u64 0, .int .u64 0, .int .u64 0, .int .u64 0] 25)).cell? ⟨w1.heap.size, 0, none⟩ = some (.int .u64 (s.key : Nat)) := T6.s.cell 0
                have fv6 : ((w5.alloc (.cells #[.int .u64 0, .int .u64 0, .int .u64 0, .int .u64 0, .int .u64 0, .int .u64 0, .int .u64 0, .int .u64 0, .int .u64 0, .int .u64 0, .int .u64 0, .int .u64 0, .int .u64 0, .int .u64 0, .int .u64 0, .int .u64 0, .int .u64 0] 25)).alloc (.cells #[.int .u64 0, .int .u64 0, .int .u64 0, .int .u64 0, .int .u64 0, .int .u64 0, .int .u64 0, .int .u64 0, .int .u64 0, .int .u64 0, .int .u64 0, .int .u64 0, .int .u64 0, .int .u64 0, .int .u64 0, .int .u64 0, .int .u64 0] 25)).cell? ⟨w1.heap.size, 1, none⟩ = some (.int .u64 (s.val : Nat)) := T6.s.cell 1
                have fh6 : ((w5.alloc (.cells #[.int .u64 0, .int .u64 0, .int .u64 0, .int .u64 0, .int .u64 0, .int .u64 0, .int .u64 0, .int .u64 0, .int .u64 0, .int .u64 0, .int .u64 0, .int .u64 0, .int .u64 0, .int .u64 0, .int .u64 0, .int .u64 0, .int .u64 0] 25)).alloc (.cells #[.int .u64 0, .int .u64 0, .int .u64 0, .int .u64 0, .int .u64 0, .int .u64 0, .int .u64 0, .int .u64 0, .int .u64 0, .int .u64 0, .int .u64 0, .int .u64 0, .int .u64 0, .int .u64 0, .int .u64 0, .int .u64 0, .int .u64 0] 25)).cell? ⟨w1.heap.size, 2, none⟩ = some (.int .u8 (s.h2 : Nat)) := T6.s.cell 2
                clear hal6 h15 h16 T6 T5a r11a r13a
                cases d
                · as_aux_lemma =>
                    go_wp2_with (first | (refine wpList_loadW (by rfl) _ _ rfl ⟨w2.heap.size, 0, none⟩ _ rfl hld11 ?_) | (refine wpList_loadW (by rfl) _ _ rfl ⟨w3.heap.size, 0, none⟩ _ rfl hld13 ?_) | (refine wpList_neqW (by rfl) 25 _ _ rfl (gc zG) (gc zG) rfl rfl (by kernel_rfl) true (Tryz.eqGroup zG _) ?_) | (refine wpList_loadW (by rfl) _ _ rfl ⟨B5, 0, none⟩ _ rfl hld6 ?_))
                    refine (HPu _).out.mono ?_
                    rintro e w7 ⟨rfl, hB7⟩
                    have T7 := HT6.out.below hB7
                    have h15 := H15.out.below hB7 H15.out.lt
                    have h16 := H16.out.below hB7 H16.out.lt
                    have hst15 := Tryz.store_group (rpG cur s) h15 rfl
                    have T8 := T7.setRow h15 hV (gc (rpG cur s))
                    have h15b : Rows8 (w7.setRow (w5.heap.size) (gc (rpG cur s))) (w5.heap.size) 25 (gc (rpG cur s)) := setRow_heap _ (w5.heap.size) _ (gc (rpG cur s)) _ _ h15
                    have h16b : Rows8 (w7.setRow (w5.heap.size) (gc (rpG cur s))) (w5.heap.size + 1) 25 (gc zG) := (setRow_other _ _ _ _ (by omega)).trans h16
                    clear h15 h16 T7 hB7 hld11 hld13 hld6 fd6 fk6 fv6 fh6
                    go_upto_region 30 with (refine wpList_storeW (by rfl) 25 _ _ rfl ⟨w5.heap.size, 0, none⟩ _ rfl rfl hst15 ?_)
                    generalize w7.setRow (w5.heap.size) (gc (rpG cur s)) = w8 at *
                    clear hst15
                    have fk8 : (w8).cell? ⟨w1.heap.size, 0, none⟩ = some (.int .u64 (s.key : Nat)) := T8.s.cell 0
                    have fv8 : (w8).cell? ⟨w1.heap.size, 1, none⟩ = some (.int .u64 (s.val : Nat)) := T8.s.cell 1
                    have fh8 : (w8).cell? ⟨w1.heap.size, 2, none⟩ = some (.int .u8 (s.h2 : Nat)) := T8.s.cell 2
                    have hal8 : Below w8.heap.size w8 (w8.alloc (.cells #[.int .u64 (s.key : Nat), .int .u64 (s.val : Nat), .int .u8 (s.h2 : Nat)] 30)) := (Below.refl _ _).alloc (Nat.le_refl _) _
                    have T8a := T8.below hal8
                    have h15c := h15b.below hal8 h15b.lt
                    have h16c := h16b.below hal8 h16b.lt
                    have HT8 := Lib.hid T8a
                    have H15c := Lib.hid h15c
                    have H16c := Lib.hid h16c
                    have hsll : sl.length ≤ 20 := by have := hsl.out.1; omega
                    have hw8 : w.heap.size ≤ w8.heap.size := T8.r.b.size
                    clear T8 T8a h15b h16b h15c h16c hal8
                    go_upto_region 31 with (at_builtin; refine wpList_append_own _ rfl _ _ 28 rfl w.heap.size 30 hi0 (.agg #[.int .u64 0, .int .u64 0, .int .u8 0]) 3 24 Tryz.underlying28 hi hz0 hz1 hz2 rfl (by decide) _ _ _ rfl HT8.out.r.o ⟨w8.heap.size, 0, none⟩ 1 1 [.int .u64 (s.key : Nat), .int .u64 (s.val : Nat), .int .u8 (s.h2 : Nat)] rfl rfl (cells_new w8 _ [.int .u64 (s.key : Nat), .int .u64 (s.val : Nat), .int .u8 (s.h2 : Nat)]) (by simp [Value.oneCell']) (by unfold maxLen; omega) (by omega) (by simp; omega) ?_; intro v9 w9 hown hgrow _; have HOW := Lib.hid hown; have HGR := Lib.hid hgrow; clear hown hgrow)
                    have ho9 : OwnsSlots w.heap.size (sl ++ [s]) v9 w9 := by
                      unfold OwnsSlots
                      rw [slotVals_append1, List.length_append]
                      exact HOW.out
                    obtain ⟨a9, c9, rfl⟩ : ∃ a c, v9 = .slice a (sl ++ [s]).length c := by
                      obtain ⟨_, a, cap, h, _⟩ := rowAt_own ho9
                      exact ⟨a, cap, h⟩
                    have T9 := HT8.out.push HNE.out HGR.out ho9
                    have h15d := rows_grown HT8.out.r.o slot_ne_group HGR.out H15c.out
                    have h16d := rows_grown HT8.out.r.o slot_ne_group HGR.out H16c.out
                    have fk9 : (w9).cell? ⟨w1.heap.size, 0, none⟩ = some (.int .u64 (s.key : Nat)) := T9.s.cell 0
                    have fv9 : (w9).cell? ⟨w1.heap.size, 1, none⟩ = some (.int .u64 (s.val : Nat)) := T9.s.cell 1
                    have fh9 : (w9).cell? ⟨w1.heap.size, 2, none⟩ = some (.int .u8 (s.h2 : Nat)) := T9.s.cell 2
                    have hld9 := Tryz.load_group T9.r.c
                    have HT9 := Lib.hid T9
                    have H15d := Lib.hid h15d
                    have H16d := Lib.hid h16d
                    clear T9 h15d h16d ho9 fk8 fv8 fh8
                    go_wp2_with (first | (refine wpList_loadW (by rfl) _ _ rfl ⟨B5, 0, none⟩ _ rfl hld9 ?_))
                    refine (HRp _).out.mono ?_
                    rintro e w10 ⟨rfl, hB10⟩
                    have T10 := HT9.out.below hB10
                    have h15e := H15d.out.below hB10 H15d.out.lt
                    have h16e := H16d.out.below hB10 H16d.out.lt
                    clear hB10 hld9 fk9 fv9 fh9
                    have hst16 := Tryz.store_group (rpG cur s) h16e rfl
                    have T11 := T10.setRow h16e (by omega : w1.heap.size < w5.heap.size + 1) (gc (rpG cur s))
                    have h16f : Rows8 (w10.setRow (w5.heap.size + 1) (gc (rpG cur s))) (w5.heap.size + 1) 25 (gc (rpG cur s)) := setRow_heap _ (w5.heap.size + 1) _ (gc (rpG cur s)) _ _ h16e
                    have h15f : Rows8 (w10.setRow (w5.heap.size + 1) (gc (rpG cur s))) (w5.heap.size) 25 (gc (rpG cur s)) := (setRow_other _ _ _ _ (by omega)).trans h15e
                    have hld15 := Tryz.load_group h15f
                    have hld16 := Tryz.load_group h16f
                    have hst5 := Tryz.store_group (rpG cur s) T11.r.c rfl
                    have HT11 := Lib.hid T11
                    clear T10 T11 h15e h16e h15f h16f
                    generalize putE cur s = E at *
                    by_cases hE : E = 0
                    · subst hE
                      have HCn := Lib.hid (HLp.out rfl)
                      go_wp2_with (first | (refine wpList_storeW (by rfl) 25 _ _ rfl ⟨w5.heap.size + 1, 0, none⟩ _ rfl rfl hst16 ?_) | (refine wpList_loadW (by rfl) _ _ rfl ⟨w5.heap.size, 0, none⟩ _ rfl hld15 ?_) | (refine wpList_loadW (by rfl) _ _ rfl ⟨w5.heap.size + 1, 0, none⟩ _ rfl hld16 ?_) | (refine wpList_neqW (by rfl) 25 _ _ rfl (gc (rpG cur s)) (gc (rpG cur s)) rfl rfl (by kernel_rfl) true (Tryz.eqGroup (rpG cur s) _) ?_) | (refine wpList_storeW (by rfl) 25 _ _ rfl ⟨B5, 0, none⟩ _ rfl rfl hst5 ?_))
                      go_roundw
                      case rel => exact ⟨k + 1, (rpG cur s), (sl ++ [s]), a9, c9, (by first | rfl | (rw [List.length_append]; rfl)), by omega, by omega, by go_num, Lib.hid (HT11.out.next (rpG cur s)), HCn, Lib.hid ⟨by rw [List.length_append]; have := hsl.out.1; simp; omega, fun x hx => by rcases List.mem_append.1 hx with h | h; exact hsl.out.2 x h; rw [List.mem_singleton.1 h]; exact HS2.out⟩⟩
                      case measure => simp [intOf] <;> omega
                    · have hEb : (E == 0) = false := by simpa using hE
                      clear hst5
                      go_wp2_with (first | (refine wpList_storeW (by rfl) 25 _ _ rfl ⟨w5.heap.size + 1, 0, none⟩ _ rfl rfl hst16 ?_) | (refine wpList_loadW (by rfl) _ _ rfl ⟨w5.heap.size, 0, none⟩ _ rfl hld15 ?_) | (refine wpList_loadW (by rfl) _ _ rfl ⟨w5.heap.size + 1, 0, none⟩ _ rfl hld16 ?_) | (refine wpList_neqW (by rfl) 25 _ _ rfl (gc (rpG cur s)) (gc (rpG cur s)) rfl rfl (by kernel_rfl) true (Tryz.eqGroup (rpG cur s) _) ?_))
                      go_roundw
                      case rel => exact ⟨k + 1, cur, (sl ++ [s]), a9, c9, (by first | rfl | (rw [List.length_append]; rfl)), by omega, by omega, by go_num, Lib.hid HT11.out.r, hcc, Lib.hid ⟨by rw [List.length_append]; have := hsl.out.1; simp; omega, fun x hx => by rcases List.mem_append.1 hx with h | h; exact hsl.out.2 x h; rw [List.mem_singleton.1 h]; exact HS2.out⟩⟩
                      case measure => simp [intOf] <;> omega
                · as_aux_lemma =>
                    go_wp2_with (first | (refine wpList_loadW (by rfl) _ _ rfl ⟨w2.heap.size, 0, none⟩ _ rfl hld11 ?_) | (refine wpList_loadW (by rfl) _ _ rfl ⟨w3.heap.size, 0, none⟩ _ rfl hld13 ?_) | (refine wpList_neqW (by rfl) 25 _ _ rfl (gc zG) (gc zG) rfl rfl (by kernel_rfl) true (Tryz.eqGroup zG _) ?_) | (refine wpList_loadW (by rfl) _ _ rfl ⟨B5, 0, none⟩ _ rfl hld6 ?_))
                    refine (HDr _).out.mono ?_
                    rintro e w7 ⟨rfl, hB7⟩
                    have T7 := HT6.out.below hB7
                    have h15 := H15.out.below hB7 H15.out.lt
                    have h16 := H16.out.below hB7 H16.out.lt
                    have hst15 := Tryz.store_group (rdG cur s.key s.h2) h15 rfl
                    have T8 := T7.setRow h15 hV (gc (rdG cur s.key s.h2))
                    have h15b : Rows8 (w7.setRow (w5.heap.size) (gc (rdG cur s.key s.h2))) (w5.heap.size) 25 (gc (rdG cur s.key s.h2)) := setRow_heap _ (w5.heap.size) _ (gc (rdG cur s.key s.h2)) _ _ h15
                    have h16b : Rows8 (w7.setRow (w5.heap.size) (gc (rdG cur s.key s.h2))) (w5.heap.size + 1) 25 (gc zG) := (setRow_other _ _ _ _ (by omega)).trans h16
                    clear h15 h16 T7 hB7 hld11 hld13 hld6 fd6 fk6 fv6 fh6
                    have fk8 : (w7.setRow (w5.heap.size) (gc (rdG cur s.key s.h2))).cell? ⟨w1.heap.size, 0, none⟩ = some (.int .u64 (s.key : Nat)) := T8.s.cell 0
                    have fh8 : (w7.setRow (w5.heap.size) (gc (rdG cur s.key s.h2))).cell? ⟨w1.heap.size, 2, none⟩ = some (.int .u8 (s.h2 : Nat)) := T8.s.cell 2
                    have hld8 := Tryz.load_group T8.r.c
                    have HT8 := Lib.hid T8
                    have H15b := Lib.hid h15b
                    have H16b := Lib.hid h16b
                    clear T8 h15b h16b
                    go_wp2_with (first | (refine wpList_storeW (by rfl) 25 _ _ rfl ⟨w5.heap.size, 0, none⟩ _ rfl rfl hst15 ?_) | (refine wpList_loadW (by rfl) _ _ rfl ⟨B5, 0, none⟩ _ rfl hld8 ?_))
                    refine (HRd _).out.mono ?_
                    rintro e w10 ⟨rfl, hB10⟩
                    have T10 := HT8.out.below hB10
                    have h15e := H15b.out.below hB10 H15b.out.lt
                    have h16e := H16b.out.below hB10 H16b.out.lt
                    clear hB10 hld8 fk8 fh8 hst15
                    have hst16 := Tryz.store_group (rdG cur s.key s.h2) h16e rfl
                    have T11 := T10.setRow h16e (by omega : w1.heap.size < w5.heap.size + 1) (gc (rdG cur s.key s.h2))
                    have h16f : Rows8 (w10.setRow (w5.heap.size + 1) (gc (rdG cur s.key s.h2))) (w5.heap.size + 1) 25 (gc (rdG cur s.key s.h2)) := setRow_heap _ (w5.heap.size + 1) _ (gc (rdG cur s.key s.h2)) _ _ h16e
                    have h15f : Rows8 (w10.setRow (w5.heap.size + 1) (gc (rdG cur s.key s.h2))) (w5.heap.size) 25 (gc (rdG cur s.key s.h2)) := (setRow_other _ _ _ _ (by omega)).trans h15e
                    have hld15 := Tryz.load_group h15f
                    have hld16 := Tryz.load_group h16f
                    have hst5 := Tryz.store_group (rdG cur s.key s.h2) T11.r.c rfl
                    have HT11 := Lib.hid T11
                    clear T10 T11 h15e h16e h15f h16f
                    generalize findE cur s.key s.h2 = E at *
                    by_cases hE : E = 0
                    · subst hE
                      have HCn := Lib.hid (HLd.out rfl)
                      go_wp2_with (first | (refine wpList_storeW (by rfl) 25 _ _ rfl ⟨w5.heap.size + 1, 0, none⟩ _ rfl rfl hst16 ?_) | (refine wpList_loadW (by rfl) _ _ rfl ⟨w5.heap.size, 0, none⟩ _ rfl hld15 ?_) | (refine wpList_loadW (by rfl) _ _ rfl ⟨w5.heap.size + 1, 0, none⟩ _ rfl hld16 ?_) | (refine wpList_neqW (by rfl) 25 _ _ rfl (gc (rdG cur s.key s.h2)) (gc (rdG cur s.key s.h2)) rfl rfl (by kernel_rfl) true (Tryz.eqGroup (rdG cur s.key s.h2) _) ?_) | (refine wpList_storeW (by rfl) 25 _ _ rfl ⟨B5, 0, none⟩ _ rfl rfl hst5 ?_))
                      go_roundw
                      case rel => exact ⟨k + 1, (rdG cur s.key s.h2), sl, a6, c6, (by first | rfl | (rw [List.length_append]; rfl)), by omega, by omega, by go_num, Lib.hid (HT11.out.next (rdG cur s.key s.h2)), HCn, Lib.hid ⟨by have := hsl.out.1; omega, hsl.out.2⟩⟩
                      case measure => simp [intOf] <;> omega
                    · have hEb : (E == 0) = false := by simpa using hE
                      clear hst5
                      go_wp2_with (first | (refine wpList_storeW (by rfl) 25 _ _ rfl ⟨w5.heap.size + 1, 0, none⟩ _ rfl rfl hst16 ?_) | (refine wpList_loadW (by rfl) _ _ rfl ⟨w5.heap.size, 0, none⟩ _ rfl hld15 ?_) | (refine wpList_loadW (by rfl) _ _ rfl ⟨w5.heap.size + 1, 0, none⟩ _ rfl hld16 ?_) | (refine wpList_neqW (by rfl) 25 _ _ rfl (gc (rdG cur s.key s.h2)) (gc (rdG cur s.key s.h2)) rfl rfl (by kernel_rfl) true (Tryz.eqGroup (rdG cur s.key s.h2) _) ?_))
                      go_roundw
                      case rel => exact ⟨k + 1, cur, sl, a6, c6, (by first | rfl | (rw [List.length_append]; rfl)), by omega, by omega, by go_num, Lib.hid HT11.out.r, hcc, Lib.hid ⟨by have := hsl.out.1; omega, hsl.out.2⟩⟩
                      case measure => simp [intOf] <;> omega
    · obtain rfl : k = n0 := by omega
      have hki : ¬ (k : Int) < (k : Int) := by omega
      as_aux_lemma =>
        have hRz := hR.out
        have hxz := hRz.x
        have hldz := Tryz.load_group hxz
        have HXz := Lib.hid hxz
        have HBz := Lib.hid hRz.b
        have hrow := hRz.o
        have HRow := Lib.hid hrow
        have HPuts := fun W => Lib.hid (fun h => Tryz.gPuts_any g HC.out sl hsl.out.2 a6 sl.length c6 rfl (by have := hsl.out.1; omega) W h)
        rw [(puts_same g sl).1, (puts_same g sl).2] at HPuts
        obtain ⟨e0, he0⟩ : ∃ e, startT g = e := ⟨_, rfl⟩
        rw [he0] at HPuts
        obtain ⟨gP, hgP⟩ : ∃ G : Gr, (if (sl.foldl stepT (e0, g)).1 = 0 then (sl.foldl stepT (e0, g)).2 else zG) = G := ⟨_, rfl⟩
        rw [hgP] at HPuts
        have HGP := Lib.hid hgP
        have HE0 := Lib.hid he0
        clear he0 hgP
        have HRg := fun W => Lib.hid (Tryz.rgRight_any g HC.out W)
        have hpr := rowAt_own hrow
        obtain ⟨mz, hmz⟩ : ∃ m, m = sl.length := ⟨_, rfl⟩
        rw [← hmz] at HPuts HRow hpr ⊢
        have hmz20 : mz ≤ 20 := by rw [hmz]; have := hsl.out.1; omega
        have HM := Lib.hid hmz
        have HS := Lib.hid hsl.out.2
        clear hRz hmz hxz hrow
        go_wp2_with (first | (refine wpList_loadW (by rfl) _ _ rfl ⟨w.heap.size, 0, none⟩ _ rfl hldz ?_))
        refine ((HPuts _).out hpr).mono ?_
        rintro e v2 ⟨rfl, hB2⟩
        obtain ⟨v3, hst3, hr19, hB3⟩ := Tryz.box_new gP v2
        have hx3 := (HXz.out.below hB2 HXz.out.lt).below hB3 (by have := HXz.out.lt; have := hB2.size; omega)
        have hbz := HBz.out.trans ((hB2.trans (hB3.mono hB2.size)).mono HBz.out.size)
        have hrow3 := ownsRow_below (ownsRow_below HRow.out hB2 (Nat.le_refl _)) hB3 (Nat.le_refl _)
        have hld3 := Tryz.load_group hx3
        obtain ⟨v4, hst4, hr21, hB4⟩ := Tryz.box_new g v3
        have hx4 := hx3.below hB4 hx3.lt
        have hr19' := hr19.below hB4 hr19.lt
        have hrow4 := ownsRow_below hrow3 hB4 (Nat.le_refl _)
        have hbz4 := hbz.trans (hB4.mono hbz.size)
        have hld4 := Tryz.load_group hx4
        have HB4 := Lib.hid hbz4
        have HR19 := Lib.hid hr19'
        have HR21 := Lib.hid hr21
        have HRow4 := Lib.hid hrow4
        have hlt34 : v2.heap.size < v3.heap.size := hr19.lt
        have hlw2 : w.heap.size ≤ v2.heap.size := Nat.le_trans HBz.out.size hB2.size
        clear hB2 hB3 hB4 hx3 hbz hrow3 hx4 hr19' hrow4 hbz4 hr19 hr21 hpr
        go_wp2_with (first | (refine wpList_storeW (by rfl) 25 _ _ rfl ⟨v2.heap.size, 0, none⟩ _ rfl rfl hst3 ?_) | (refine wpList_loadW (by rfl) _ _ rfl ⟨w.heap.size, 0, none⟩ _ rfl hld3 ?_) | (refine wpList_storeW (by rfl) 25 _ _ rfl ⟨v3.heap.size, 0, none⟩ _ rfl rfl hst4 ?_) | (refine wpList_loadW (by rfl) _ _ rfl ⟨w.heap.size, 0, none⟩ _ rfl hld4 ?_))
        refine (HRg _).out.mono ?_
        rintro e v5 ⟨rfl, hB5⟩
        have HB5 := Lib.hid (HB4.out.trans (hB5.mono HB4.out.size))
        have HR19 := Lib.hid (HR19.out.below hB5 HR19.out.lt)
        have HR21 := Lib.hid (HR21.out.below hB5 HR21.out.lt)
        have HRow5 := Lib.hid (ownsRow_below HRow4.out hB5 (Nat.le_refl _))
        have hc0 := HC.out
        have hz0 : e0 = if rightG g then 0 else 200 := HE0.out.symm
        clear HE0
        generalize rightG g = rr at *
        clear hB5 hst3 hst4 hld3 hld4 hldz
        cases rr
        · obtain rfl : e0 = 200 := hz0
          go_wp2_with fail
          go_loopw [22, 154] (fun ev i wr => ∃ k : Nat, k ≤ mz ∧ i = .int .i64 k ∧ ev = .int .i64 ((sl.take k).foldl stepT (200, g)).1 ∧ Hid (Rows8 wr v3.heap.size 25 (gc ((sl.take k).foldl stepT (200, g)).2)) ∧ Hid (((sl.take k).foldl stepT (200, g)).1 = 0 → ((sl.take k).foldl stepT (200, g)).2.c < 18446744073709551616) ∧ Hid (Rows8 wr v2.heap.size 25 (gc gP)) ∧ Hid (OwnsSlots w.heap.size sl (.slice a6 mz c6) wr) ∧ Hid (Below w.heap.size w wr)) (fun _ i _ => mz - (intOf i).toNat)
          case atStart => exact ⟨0, Nat.zero_le _, rfl, rfl, HR21, Lib.hid (fun _ => HC.out), HR19, HRow5, HB5⟩
          case round =>
            obtain ⟨k, hk, rfl, rfl, h21, hcl, h19, hrw, hbl⟩ := hrel
            by_cases hlt : k < mz
            · have hkl : k < sl.length := by rw [← HM.out]; exact hlt
              have hki : (k : Int) < (mz : Int) := by omega
              obtain ⟨b1, o1, rfl, hl1, p0, p1, p2⟩ := slotsAt_get (by have h1 := rowAt_own hrw.out; rw [← HM.out] at h1; exact h1) k hkl
              have hsk := HS.out _ (List.getElem_mem hkl)
              have htk : (sl.take (k + 1)).foldl stepT (200, g) = stepT ((sl.take k).foldl stepT (200, g)) sl[k] := by rw [take_next sl k hkl, List.foldl_append]; rfl
              generalize sl[k] = s at *
              generalize hP : (sl.take k).foldl stepT (200, g) = P at *
              obtain ⟨pe, pg⟩ := P
              dsimp only at hcl h21 ⊢
              have HTK := Lib.hid htk
              clear hP htk
              have hal := Lib.hid ((Below.refl wr.heap.size wr).alloc (Nat.le_refl _) (.cells #[.int .u64 (s.key : Nat), .int .u64 (s.val : Nat), .int .u8 (s.h2 : Nat)] 30))
              have hq21 := h21.out.below hal.out h21.out.lt
              have hq19 := h19.out.below hal.out h19.out.lt
              have hqrw := ownsRow_below hrw.out hal.out (Nat.le_refl _)
              have hqbl := hbl.out.trans (hal.out.mono hbl.out.size)
              by_cases hpe : pe = 0
              · subst hpe
                have hpc := hcl.out rfl
                have hldq := Tryz.load_group hq21
                have HPt := fun W => Lib.hid (Tryz.rgPut_any pg hpc s hsk W)
                have HN : Hid (stepT (0, pg) s = (putE pg s, rpG pg s)) := Lib.hid (by unfold stepT; simp only [if_pos])
                have HLt : Hid (putE pg s = 0 → (rpG pg s).c < 18446744073709551616) := Lib.hid (fun h0 => by unfold rpG; rw [if_pos h0]; exact put_lt hsk hpc h0)
                have H21 := Lib.hid hq21
                have H19 := Lib.hid hq19
                have HRw := Lib.hid hqrw
                have HBl := Lib.hid hqbl
                clear hq21 hq19 hqrw hqbl hpc h21 h19 hrw hcl hsk
                go_wp2_with (first | (refine wpList_loadW (by rfl) _ _ rfl ⟨v3.heap.size, 0, none⟩ _ rfl hldq ?_))
                refine (HPt _).out.mono ?_
                rintro e v7 ⟨rfl, hB7⟩
                have hy21 := H21.out.below hB7 H21.out.lt
                have hstq := Tryz.store_group (rpG pg s) hy21 rfl
                have HB7 := Lib.hid hB7
                clear hB7
                go_wp2_with (first | (refine wpList_storeW (by rfl) 25 _ _ rfl ⟨v3.heap.size, 0, none⟩ _ rfl rfl hstq ?_))
                go_roundw
                case rel => exact ⟨k + 1, by omega, by go_num, by rw [HTK.out, HN.out], Lib.hid (by rw [HTK.out, HN.out]; exact setRow_heap _ _ _ _ _ _ hy21), Lib.hid (by rw [HTK.out, HN.out]; exact HLt.out), Lib.hid ((setRow_other _ _ _ _ (by omega)).trans (H19.out.below HB7.out H19.out.lt)), Lib.hid (owns_setRow (ownsRow_below HRw.out HB7.out (Nat.le_refl _)) hy21 slot_ne_group _), Lib.hid (below_setRow (HBl.out.trans (HB7.out.mono HBl.out.size)) (by omega) _)⟩
                case measure => simp [intOf]; omega
              · have hpb : (pe == 0) = false := by simpa using hpe
                have HN : Hid (stepT (pe, pg) s = (pe, pg)) := Lib.hid (if_neg hpe)
                have H21 := Lib.hid hq21
                have H19 := Lib.hid hq19
                have HRw := Lib.hid hqrw
                have HBl := Lib.hid hqbl
                clear hq21 hq19 hqrw hqbl h21 h19 hrw hsk
                go_wp2_with fail
                go_roundw
                case rel => exact ⟨k + 1, by omega, by go_num, by rw [HTK.out, HN.out], Lib.hid (by rw [HTK.out, HN.out]; exact H21.out), Lib.hid (by rw [HTK.out, HN.out]; exact hcl.out), H19, HRw, HBl⟩
                case measure => simp [intOf]; omega
            · obtain rfl : k = mz := by omega
              have hki : ¬ (k : Int) < (k : Int) := by omega
              have hfull : (sl.take k).foldl stepT (200, g) = sl.foldl stepT (200, g) := by rw [HM.out, List.take_of_length_le (Nat.le_refl _)]
              have h19 := h19.out
              rw [← HGP.out] at h19
              have h19 := Lib.hid h19
              clear HGP
              rw [hfull] at h21 hcl ⊢
              generalize sl.foldl stepT (200, g) = P at *
              obtain ⟨pe, pg⟩ := P
              dsimp only at h21 h19 ⊢
              clear hfull hcl
              by_cases hpe : pe = 0
              · subst hpe
                rw [if_pos rfl] at h19
                have hl21 := Tryz.load_group h21.out
                have hl19 := Tryz.load_group h19.out
                go_wp2_with (first | (refine wpList_loadW (by rfl) _ _ rfl ⟨v2.heap.size, 0, none⟩ _ rfl hl19 ?_) | (refine wpList_loadW (by rfl) _ _ rfl ⟨v3.heap.size, 0, none⟩ _ rfl hl21 ?_) | (refine wpList_eqlW (by rfl) 25 _ _ rfl (gc pg) (gc pg) rfl rfl (by kernel_rfl) true (Tryz.eqGroup pg _) ?_))
                go_ret
                exact ⟨rfl, hbl.out⟩
              · have hpb : (pe == 0) = false := by simpa using hpe
                have hpb2 : (pe != 0) = true := by simpa using hpe
                rw [if_neg hpe] at h19
                have hstz := Tryz.store_group zG h21.out rfl
                have hl21 := Tryz.load_group (setRow_heap _ v3.heap.size _ (gc zG) _ _ h21.out)
                have hl19 := Tryz.load_group (show Rows8 (wr.setRow v3.heap.size (gc zG)) v2.heap.size 25 (gc zG) from (setRow_other _ _ _ _ (by omega)).trans h19.out)
                go_wp2_with (first | (refine wpList_storeW (by rfl) 25 _ _ rfl ⟨v3.heap.size, 0, none⟩ _ rfl rfl hstz ?_) | (refine wpList_loadW (by rfl) _ _ rfl ⟨v2.heap.size, 0, none⟩ _ rfl hl19 ?_) | (refine wpList_loadW (by rfl) _ _ rfl ⟨v3.heap.size, 0, none⟩ _ rfl hl21 ?_) | (refine wpList_eqlW (by rfl) 25 _ _ rfl (gc zG) (gc zG) rfl rfl (by kernel_rfl) true (Tryz.eqGroup zG _) ?_))
                go_ret
                exact ⟨by simp, below_setRow hbl.out (by omega) _⟩
        · obtain rfl : e0 = 0 := hz0
          go_wp2_with fail
          go_loopw [22, 154] (fun ev i wr => ∃ k : Nat, k ≤ mz ∧ i = .int .i64 k ∧ ev = .int .i64 ((sl.take k).foldl stepT (0, g)).1 ∧ Hid (Rows8 wr v3.heap.size 25 (gc ((sl.take k).foldl stepT (0, g)).2)) ∧ Hid (((sl.take k).foldl stepT (0, g)).1 = 0 → ((sl.take k).foldl stepT (0, g)).2.c < 18446744073709551616) ∧ Hid (Rows8 wr v2.heap.size 25 (gc gP)) ∧ Hid (OwnsSlots w.heap.size sl (.slice a6 mz c6) wr) ∧ Hid (Below w.heap.size w wr)) (fun _ i _ => mz - (intOf i).toNat)
          case atStart => exact ⟨0, Nat.zero_le _, rfl, rfl, HR21, Lib.hid (fun _ => HC.out), HR19, HRow5, HB5⟩
          case round =>
            obtain ⟨k, hk, rfl, rfl, h21, hcl, h19, hrw, hbl⟩ := hrel
            by_cases hlt : k < mz
            · have hkl : k < sl.length := by rw [← HM.out]; exact hlt
              have hki : (k : Int) < (mz : Int) := by omega
              obtain ⟨b1, o1, rfl, hl1, p0, p1, p2⟩ := slotsAt_get (by have h1 := rowAt_own hrw.out; rw [← HM.out] at h1; exact h1) k hkl
              have hsk := HS.out _ (List.getElem_mem hkl)
              have htk : (sl.take (k + 1)).foldl stepT (0, g) = stepT ((sl.take k).foldl stepT (0, g)) sl[k] := by rw [take_next sl k hkl, List.foldl_append]; rfl
              generalize sl[k] = s at *
              generalize hP : (sl.take k).foldl stepT (0, g) = P at *
              obtain ⟨pe, pg⟩ := P
              dsimp only at hcl h21 ⊢
              have HTK := Lib.hid htk
              clear hP htk
              have hal := Lib.hid ((Below.refl wr.heap.size wr).alloc (Nat.le_refl _) (.cells #[.int .u64 (s.key : Nat), .int .u64 (s.val : Nat), .int .u8 (s.h2 : Nat)] 30))
              have hq21 := h21.out.below hal.out h21.out.lt
              have hq19 := h19.out.below hal.out h19.out.lt
              have hqrw := ownsRow_below hrw.out hal.out (Nat.le_refl _)
              have hqbl := hbl.out.trans (hal.out.mono hbl.out.size)
              by_cases hpe : pe = 0
              · subst hpe
                have hpc := hcl.out rfl
                have hldq := Tryz.load_group hq21
                have HPt := fun W => Lib.hid (Tryz.rgPut_any pg hpc s hsk W)
                have HN : Hid (stepT (0, pg) s = (putE pg s, rpG pg s)) := Lib.hid (by unfold stepT; simp only [if_pos])
                have HLt : Hid (putE pg s = 0 → (rpG pg s).c < 18446744073709551616) := Lib.hid (fun h0 => by unfold rpG; rw [if_pos h0]; exact put_lt hsk hpc h0)
                have H21 := Lib.hid hq21
                have H19 := Lib.hid hq19
                have HRw := Lib.hid hqrw
                have HBl := Lib.hid hqbl
                clear hq21 hq19 hqrw hqbl hpc h21 h19 hrw hcl hsk
                go_wp2_with (first | (refine wpList_loadW (by rfl) _ _ rfl ⟨v3.heap.size, 0, none⟩ _ rfl hldq ?_))
                refine (HPt _).out.mono ?_
                rintro e v7 ⟨rfl, hB7⟩
                have hy21 := H21.out.below hB7 H21.out.lt
                have hstq := Tryz.store_group (rpG pg s) hy21 rfl
                have HB7 := Lib.hid hB7
                clear hB7
                go_wp2_with (first | (refine wpList_storeW (by rfl) 25 _ _ rfl ⟨v3.heap.size, 0, none⟩ _ rfl rfl hstq ?_))
                go_roundw
                case rel => exact ⟨k + 1, by omega, by go_num, by rw [HTK.out, HN.out], Lib.hid (by rw [HTK.out, HN.out]; exact setRow_heap _ _ _ _ _ _ hy21), Lib.hid (by rw [HTK.out, HN.out]; exact HLt.out), Lib.hid ((setRow_other _ _ _ _ (by omega)).trans (H19.out.below HB7.out H19.out.lt)), Lib.hid (owns_setRow (ownsRow_below HRw.out HB7.out (Nat.le_refl _)) hy21 slot_ne_group _), Lib.hid (below_setRow (HBl.out.trans (HB7.out.mono HBl.out.size)) (by omega) _)⟩
                case measure => simp [intOf]; omega
              · have hpb : (pe == 0) = false := by simpa using hpe
                have HN : Hid (stepT (pe, pg) s = (pe, pg)) := Lib.hid (if_neg hpe)
                have H21 := Lib.hid hq21
                have H19 := Lib.hid hq19
                have HRw := Lib.hid hqrw
                have HBl := Lib.hid hqbl
                clear hq21 hq19 hqrw hqbl h21 h19 hrw hsk
                go_wp2_with fail
                go_roundw
                case rel => exact ⟨k + 1, by omega, by go_num, by rw [HTK.out, HN.out], Lib.hid (by rw [HTK.out, HN.out]; exact H21.out), Lib.hid (by rw [HTK.out, HN.out]; exact hcl.out), H19, HRw, HBl⟩
                case measure => simp [intOf]; omega
            · obtain rfl : k = mz := by omega
              have hki : ¬ (k : Int) < (k : Int) := by omega
              have hfull : (sl.take k).foldl stepT (0, g) = sl.foldl stepT (0, g) := by rw [HM.out, List.take_of_length_le (Nat.le_refl _)]
              have h19 := h19.out
              rw [← HGP.out] at h19
              have h19 := Lib.hid h19
              clear HGP
              rw [hfull] at h21 hcl ⊢
              generalize sl.foldl stepT (0, g) = P at *
              obtain ⟨pe, pg⟩ := P
              dsimp only at h21 h19 ⊢
              clear hfull hcl
              by_cases hpe : pe = 0
              · subst hpe
                rw [if_pos rfl] at h19
                have hl21 := Tryz.load_group h21.out
                have hl19 := Tryz.load_group h19.out
                go_wp2_with (first | (refine wpList_loadW (by rfl) _ _ rfl ⟨v2.heap.size, 0, none⟩ _ rfl hl19 ?_) | (refine wpList_loadW (by rfl) _ _ rfl ⟨v3.heap.size, 0, none⟩ _ rfl hl21 ?_) | (refine wpList_eqlW (by rfl) 25 _ _ rfl (gc pg) (gc pg) rfl rfl (by kernel_rfl) true (Tryz.eqGroup pg _) ?_))
                go_ret
                exact ⟨rfl, hbl.out⟩
              · have hpb : (pe == 0) = false := by simpa using hpe
                have hpb2 : (pe != 0) = true := by simpa using hpe
                rw [if_neg hpe] at h19
                have hstz := Tryz.store_group zG h21.out rfl
                have hl21 := Tryz.load_group (setRow_heap _ v3.heap.size _ (gc zG) _ _ h21.out)
                have hl19 := Tryz.load_group (show Rows8 (wr.setRow v3.heap.size (gc zG)) v2.heap.size 25 (gc zG) from (setRow_other _ _ _ _ (by omega)).trans h19.out)
                go_wp2_with (first | (refine wpList_storeW (by rfl) 25 _ _ rfl ⟨v3.heap.size, 0, none⟩ _ rfl rfl hstz ?_) | (refine wpList_loadW (by rfl) _ _ rfl ⟨v2.heap.size, 0, none⟩ _ rfl hl19 ?_) | (refine wpList_loadW (by rfl) _ _ rfl ⟨v3.heap.size, 0, none⟩ _ rfl hl21 ?_) | (refine wpList_eqlW (by rfl) 25 _ _ rfl (gc zG) (gc zG) rfl rfl (by kernel_rfl) true (Tryz.eqGroup zG _) ?_))
                go_ret
                exact ⟨by simp, below_setRow hbl.out (by omega) _⟩
end Go.Proofs
namespace Go.Proofs.YtacphakpmmickaaGreat.groupTurns
open Go.ChangeShapes Go.WideShapes Go.ChangeAt Go.RowKit Go.Shelf

theorem own : ownKnob Tryz.prog.godebug = none := by kernel_rfl
theorem walk (g : Gr) (a1 : Option Addr) (len1 cap1 : Nat) (z1 : List Tu) (w : World) (hc : g.c < 18446744073709551616) (n1 : len1 = z1.length) (w1 : GTurnsK w (.slice a1 len1 cap1) z1) :
    Calls Tryz.prog 3 #[.agg (gc g), .slice a1 len1 cap1] w fun e w' => e = .returned (.bool true) ∧ Below w.heap.size w w' := Tryz.turns_any g hc a1 len1 cap1 z1 n1 w w1
theorem laidOut : laidOutB Tryz.prog = true := by kernel_rfl
set_option maxRecDepth 100000 in
theorem lifted (os : Os) (started : os.Started) (H : Type) (enc : TypeId × Value → H) :
    ReturnsInHanded {} Tryz.checked os 3 .any (Rows.groupTurnsSpec.pre6 enc Tryz.prog Tryz.f3 Rows.groupTurnsRow.domain false) (Rows.groupTurnsSpec.post enc Tryz.prog Tryz.f3 false true false false) := by
  refine returnsInHanded_of_change (C := Tryz.checked) own started (by kernel_rfl) Tryz.func3
    (ChangeSpec.witness6 (enc := enc) (C := Tryz.checked) false ⟨#[], #[.agg #[.int .u64 0, .int .u64 0, .int .u64 0, .int .u64 0, .int .u64 0, .int .u64 0, .int .u64 0, .int .u64 0, .int .u64 0, .int .u64 0, .int .u64 0, .int .u64 0, .int .u64 0, .int .u64 0, .int .u64 0, .int .u64 0, .int .u64 0], .slice none 0 0], []⟩ 8 (by kernel_rfl) (by kernel_rfl) (by kernel_rfl) (by kernel_rfl)) ?_
  intro W base args ds gs before hval0 hW hcnd _
  have hval : ∀ (j : Nat) t v, Tryz.f3.params[j]? = some t → args[j]? = some v → Value.okWide Tryz.prog W .any base t v := hval0
  have hW' := hW
  obtain ⟨p, q, hA0, hV, rfl, hfz, hnd⟩ := hW
  have hA : DataW.TrodAll enc Tryz.prog W 0 (fun _ => true) true Tryz.f3.params.toList args.toList ds p := hA0
  rw [Tryz.params3] at hA hval
  obtain ⟨v0, vs0, d0, ds0, p0, q0, hargs, rfl, rfl, h0, r0⟩ := trodAll_cons hA
  obtain ⟨v1, vs1, d1, ds1, p1, q1, rfl, rfl, rfl, h1, r1⟩ := trodAll_cons r0
  obtain ⟨rfl, rfl, rfl⟩ := trodAll_nil r1
  obtain rfl : args = #[v0, v1] := by cases args; simp_all
  obtain ⟨rfl, rfl⟩ := trodVars_none hV
  have k0 := h0
  have lt0 : ∀ x ∈ p0, x.block < W.heap.size := by obtain ⟨m, hm⟩ := k0; exact DataW.trod_lt m _ _ _ hm
  obtain ⟨g0, rfl, w0⟩ := open_group (hval 0 25 v0 rfl rfl) h0
  obtain ⟨a1, len1, cap1, rfl⟩ := okWide_slice Tryz.underlying26 (hval 1 26 v1 rfl rfl)
  have k1 := h1
  have lt1 : ∀ x ∈ p1, x.block < W.heap.size := by obtain ⟨m, hm⟩ := k1; exact DataW.trod_lt m _ _ _ hm
  obtain ⟨z1, n1, w1⟩ : ∃ zs, len1 = zs.length ∧ GTurnsK W (.slice a1 len1 cap1) zs := by
    obtain ⟨fuel, hf⟩ := h1
    exact open_gturns hf
  clear hA0 hval0
  refine (walk g0 a1 len1 cap1 z1 W w0 n1 w1).mono fun e W' ⟨he, bel⟩ => ?_
  subst he
  exact ⟨_, rfl, _, _, _, [], _, [], hW', trodAll_mk1 (shut_bool Tryz.underlying4 _), (trodAll_cons_mk (Below.trod laidOut (by kernel_rfl) (of_decide_eq_true (by kernel_rfl)) k0 bel lt0) (trodAll_cons_mk (Below.trod laidOut (by kernel_rfl) (of_decide_eq_true (by kernel_rfl)) k1 bel lt1) trodAll_mk0)), rfl, bel.frame _, fun h => by cases h⟩

theorem over : Rows.groupTurnsRow.holds Tryz.pinned (OpenSpec.ofChange Rows.groupTurnsSpec) :=
  OpenClaim.holds_of_wide 3 Tryz.f3 rfl rfl rfl rfl rfl rfl rfl ⟨rfl, rfl, rfl, rfl, rfl⟩ rfl rfl rfl rfl rfl (by kernel_rfl) Tryz.func3 (by kernel_rfl)
    (of_decide_eq_true (by kernel_rfl)) (by unfold Func.isWrapper; first | (rw [if_pos (by decide +kernel)]; kernel_rfl) | (rw [if_neg (by decide +kernel)]; exact ⟨rfl, rfl⟩))
    (fun os started H enc _ => lifted os started H enc)

theorem proved : Rows.GroupTurnsSaid := over
end Go.Proofs.YtacphakpmmickaaGreat.groupTurns
