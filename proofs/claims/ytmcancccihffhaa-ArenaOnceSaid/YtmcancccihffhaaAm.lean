/- Arena: a draft that takes. -/
import Derived.Test.YtmcancccihffhaaAl
namespace Go.Proofs
open Go.RowKit Go.Shelf
attribute [local go_sem] Oper.semAt_some

set_option maxRecDepth 100000 in
set_option maxHeartbeats 8000000 in
theorem Try.take_pos (M D n₀ : Nat) (a : Option Addr) (n c : Nat) (l : List Pr) (hl : l.length ≤ 10000) (w : World) (hD : Dr D n₀ l (.slice a n c) (.slice none 0 0) w) (hn₀ : n₀ ≤ w.heap.size) (hDn : n₀ ≤ D) :
    Calls Try.prog 20 #[.pointer (some ⟨D, 0, none⟩), .int .i64 (M : Nat)] w (TakeQ D n₀ (.slice a n c) w (if M ≤ cnt l 0 then (0, takeL l M, (ents l 0).take M) else (6, l, []))) := by
  obtain ⟨i0, hi, hz0, hz1, hz2⟩ := info_parts Try.infoEntry
  have hn := (pAt_len hD.o.at).1
  obtain ⟨R, hR⟩ : ∃ R, R = (if M ≤ cnt l 0 then ((0 : Int), takeL l M, (ents l 0).take M) else (6, l, [])) := ⟨_, rfl⟩
  rw [← hR]
  have HR := Lib.hid hR
  clear hR
  refine (callsIn_wide (n := 9)).1 ?_
  refine callsIn_of_wp_marks Try.func20 rfl trivial ?_ rfl
  simp only [Try.ntmps20, List.size_toArray, List.length_cons, List.length_nil, Nat.reduceAdd, Nat.reduceSub, Array.replicate_succ, Array.replicate_zero, List.push_toArray, List.append_toArray, List.nil_append, List.cons_append]
  have hcl : cnt l 0 ≤ 10000 := Nat.le_trans (cnt_le l 0) hl
  have hB0 : Below w.heap.size w (w.alloc (.cells #[.pointer (some ⟨D, 0, none⟩)] 61)) := Rows8.newB
  have T0 : Hid (Tk w n₀ D l (.slice a n c) (.slice none 0 0) 0 (w.alloc (.cells #[.pointer (some ⟨D, 0, none⟩)] 61))) := Lib.hid ⟨Rows8.new _ _ _, by rw [takeL_zero]; exact hD.below hB0, ownsP_nil _ _ _, hB0.mono hn₀, .of_below hB0⟩
  have HN := Lib.hid hn
  clear hD hB0 hn
  gi_wp2_with fail
  refine wpIn_scope_straight rfl ?_
  gi_wp2_with fail
  refine wpIn_label ?_
  gi_wp2_with fail
  gi_wp2_with fail
  refine wpIn_loop (fun a' W' => ∃ (k : Nat) (Ds : List Nat) (vt u10 u11 u12 u13 u14 u15 u38 : Value), a' = { tmps := #[.pointer (some ⟨D, 0, none⟩), .int .i64 (M : Nat), .pointer (some ⟨w.heap.size, 0, none⟩), undef, undef, .int .i64 (M : Nat), .bool false, undef, .int .i64 (M : Nat), .int .i64 (k : Nat), u10, u11, u12, u13, u14, u15, undef, undef, undef, undef, undef, undef, undef, undef, undef, undef, undef, undef, undef, undef, undef, undef, undef, undef, undef, undef, undef, undef, u38], defers := marks Ds } ∧ k ≤ M ∧ k ≤ cnt l 0 ∧ Hid (Tk w n₀ D l (.slice a n c) vt k W') ∧ Hid (Mk w Ds W')) (fun a' _ => M - (intOf (a'.tmps.getD 9 undef)).toNat) ?h0 ?round
  case h0 => exact ⟨0, [], _, _, _, _, _, _, _, _, rfl, Nat.zero_le _, Nat.zero_le _, T0, Lib.hid ⟨List.nodup_nil, fun _ h => by cases h⟩⟩
  case round =>
    rintro a' W' ⟨k, Ds, vt, u10, u11, u12, u13, u14, u15, u38, rfl, hkM, hkc, hT, hMk⟩
    have cx : W'.cell? ⟨w.heap.size, 0, none⟩ = some (.pointer (some ⟨D, 0, none⟩)) := hT.out.x.cell 0
    have cd : W'.cell? ⟨D, 0, none⟩ = some (.slice a n c) := hT.out.d.d.cell 0
    have hDl := hT.out.d.d.lt
    have hxl := hT.out.x.lt
    by_cases hlt : k < M
    · have hkM2 : ((k : Nat) : Int) < ((M : Nat) : Int) := by omega
      have HOf := Lib.hid (Try.of_any (.slice a n c) (takeL l k) 0 W' hT.out.d.o.at)
      gi_wp2_with fail
      refine ⟨trivial, ?_⟩
      refine (callsIn_wide.2 HOf.out).mono ?_
      rintro e w2 ⟨Bv, Bt, rfl, hBv, hBt, hsrc, hB2⟩
      have hk2 : KeepsFrom w.heap.size W' w2 := keepsFrom_below hB2
      have T2 := Lib.hid (hT.out.below hn₀ hB2)
      have M2 := Lib.hid (hMk.out.keep hk2)
      have hww : w.heap.size ≤ w2.heap.size := Nat.le_trans (by have := hT.out.f.size; exact this) hB2.size
      have hll : (takeL l k).length ≤ 10000 := by rw [takeL_length]; exact hl
      have HTL := Lib.hid (Try.of1_tells 8 (by decide) (Kt w2.heap.size 52 52) Bv Bt n c a (takeL l k) 0 hll w2 (fun A => Kt w2.heap.size 52 52 w2 A) (Kt.refl _ _ _ _) (fun A hA => hsrc.kt hA) (fun A B hA hB => hA.trans (.of_below hB)) (fun A B p hA => hA.trans p))
      clear hB2 hsrc HOf hT hMk cx cd hk2
      gi_wp2_with fail
      refine range_tellsD rfl (by decide) (gf := 34) (lb := #[.pointer (some ⟨Bv, 0, none⟩), .pointer (some ⟨Bt, 0, none⟩)]) rfl trivial (fun _ _ => by kernel_rfl) HTL.out kt_t (kt_b (B := w2.heap.size)) (Below.refl _ _) (fun _ => rfl)
        (fun pre W => pre = [] ∧ Tk w n₀ D l (.slice a n c) vt k W ∧ Mk w Ds W ∧ w2.heap.size ≤ W.heap.size)
        (fun c' pre W => c' = .exit 1 ∧ ∃ vt', k < cnt l 0 ∧ Tk w n₀ D l (.slice a n c) vt' (k + 1) W ∧ Mk w Ds W)
        (fun s X Y row h hg hr => ⟨h.1, h.2.1.keep (k0_grown hg fun r e => (hr r e).2) (below_grown (Nat.le_trans hn₀ h.2.1.f.size) hg fun r e => by have := (hr r e).1; omega), h.2.2.1.grown M2.out.lt hg fun r e => (hr r e).1, Nat.le_trans h.2.2.2 hg.size⟩)
        (fun c' s X Y row h hg hr => by
          obtain ⟨h1, vt', h2, h3, h4⟩ := h
          exact ⟨h1, vt', h2, h3.keep (k0_grown hg fun r e => (hr r e).2) (below_grown (Nat.le_trans hn₀ h3.f.size) hg fun r e => by have := (hr r e).1; omega), h4.grown M2.out.lt hg fun r e => (hr r e).1⟩)
        (fun s X Y h hXY => ⟨h.1, h.2.1.below hn₀ hXY, h.2.2.1.below hXY, Nat.le_trans h.2.2.2 hXY.size⟩)
        (fun c' s X Y h hXY => by
          obtain ⟨h1, vt', h2, h3, h4⟩ := h
          exact ⟨h1, vt', h2, h3.below hn₀ hXY, h4.below hXY⟩)
        ⟨rfl, T2.out, M2.out, Nat.le_refl _⟩
        (fun x a' W => ∃ Bx, a' = { tmps := #[.pointer (some ⟨D, 0, none⟩), .int .i64 (M : Nat), .pointer (some ⟨w.heap.size, 0, none⟩), undef, .pointer (some ⟨Bx, 0, none⟩), .int .i64 (M : Nat), .bool false, undef, .int .i64 (M : Nat), .int .i64 (k : Nat), .bool true, .pointer (some ⟨D, 0, none⟩), .pointer (some ⟨D, 0, none⟩), .pointer (some ⟨D, 0, none⟩), .agg #[.slice a n c], .func (.func 34) #[] #[.pointer (some ⟨Bv, 0, none⟩), .pointer (some ⟨Bt, 0, none⟩)], .agg #[.int .i64 x.1, .int .u64 (x.2 : Nat)], undef, undef, undef, undef, undef, undef, undef, undef, undef, undef, undef, undef, undef, undef, undef, undef, undef, undef, undef, undef, undef, u38], defers := [] } ∧ Rows8 W Bx 41 (pc x) ∧ w2.heap.size ≤ Bx)
        (fun x a' s X Y row ⟨Bx, e, h, hb⟩ hg hr => ⟨Bx, e, Rows8.own Bx 41 (fun _ => pc x) s X Y row h hg (fun r e => (hr r e).2), hb⟩) ?assign ?body ?done ?stop
      case assign =>
        rintro l2 pre x W K ⟨rfl, hT3, hM3, hwz⟩ hK
        unfold encP
        gi_wp2_with fail
        have hXY : Below W.heap.size W (W.alloc (.cells #[.int .i64 x.1, .int .u64 (x.2 : Nat)] 41)) := Rows8.newB
        exact hK _ _ (keepsFrom_below hXY) (.of_below hXY) ⟨by first | rfl | trivial, hT3.below hn₀ hXY, hM3.below hXY, Nat.le_trans hwz hXY.size⟩ ⟨_, rfl, Rows8.new _ _ _, hwz⟩
      case body =>
        rintro l2 pre x a' W ⟨rfl, hT3, hM3, hwz⟩ ⟨Bx, rfl, hx, hbx⟩ hok
        have hpos : k < cnt l 0 := by
          have h1 := hok.length_le
          rw [ents_length, (takeL_cnt l k hkc).1] at h1
          simp at h1
          omega
        obtain ⟨i, hi9, r, h1, h2, h3, h4⟩ := take_next_free hpos
        have hx9 : x = ((i : Int), l[i].2) := by
          rw [h2] at hok
          simpa using hok
        have hi' : i < (takeL l k).length := by rw [takeL_length]; exact hi9
        have ht9 : (ents l 0).take (k + 1) = (ents l 0).take k ++ [((i : Int), l[i].2)] := by rw [List.take_add_one, h1]; rfl
        have hkl : ((ents l 0).take k).length ≤ 10000 := by rw [List.length_take, ents_length]; omega
        obtain ⟨b0, cs, e0, hb0, hnl, hrow, p0, p1⟩ := hT3.d.o.block i hi'
        subst e0
        have hset := hT3.d.o.set0 hnl i hi' 1
        have hblk2 := T2.out.t
        rw [h3] at p0 p1 hset
        dsimp only at p0 p1 hset
        rw [← h4] at hset
        generalize l[i].2 = g at *
        subst hx9
        obtain ⟨at_, ct, hvt⟩ := hT3.t.form
        obtain ⟨ts, hts⟩ : ∃ ts, ts = (ents l 0).take k := ⟨_, rfl⟩
        obtain ⟨kt, hkt⟩ : ∃ kt, kt = ((ents l 0).take k).length := ⟨_, rfl⟩
        rw [← hkt] at hvt hkl
        subst hvt
        have hO3 : W.ownsRow n₀ 41 2 (.slice at_ kt ct) kt (pVals ts) := by have h := hT3.t; unfold OwnsP at h; rw [← hkt, ← hts] at h; exact h
        have hO2 : w2.ownsRow n₀ 41 2 (.slice at_ kt ct) kt (pVals ts) := by have h := hblk2; unfold OwnsP at h; rw [← hkt, ← hts] at h; exact h
        have hii : ((i : Nat) : Int) < ((n : Nat) : Int) := by have := HN.out; rw [takeL_length] at hi'; omega
        have hi0 : (0 : Int) ≤ ((i : Nat) : Int) := by omega
        have fr0 := hrow.frozen (i * 2)
        have hlb := hrow.lt
        have hxl3 := hT3.x.lt
        have hdl3 := hT3.d.d.lt
        have hbl3 := hx.lt
        have cx : W.cell? ⟨w.heap.size, 0, none⟩ = some (.pointer (some ⟨D, 0, none⟩)) := hT3.x.cell 0
        have cd : W.cell? ⟨D, 0, none⟩ = some (.slice (some ⟨b0, 0, none⟩) n c) := hT3.d.d.cell 0
        have ce : W.cell? ⟨Bx, 0, none⟩ = some (.int .i64 (i : Nat)) := hx.cell 0
        have hx7 := hT3.x.setOther (a := ⟨b0, i * 2, none⟩) (fun e => rows_apart hT3.x hrow (by decide) e.symm) (.int .i64 1)
        have hd7 := hT3.d.d.setOther (a := ⟨b0, i * 2, none⟩) (fun e => rows_apart hT3.d.d hrow (by decide) e.symm) (.int .i64 1)
        have he7 := hx.setOther (a := ⟨b0, i * 2, none⟩) (fun e => rows_apart hx hrow (by decide) e.symm) (.int .i64 1)
        have hO7 := ownsRow_setCell_other hO3 (a := ⟨b0, i * 2, none⟩) (owns_not hO3 hrow (by decide)) (.int .i64 1)
        have HX3 := Lib.hid hT3.x
        have HD3 := Lib.hid hT3.d.d
        have HE3 := Lib.hid hx
        have HX7 := Lib.hid hx7
        have HD7 := Lib.hid hd7
        have HE7 := Lib.hid he7
        have HS7 := Lib.hid hset
        have HT9 := Lib.hid ht9
        have HTS := Lib.hid hts
        have HKT := Lib.hid hkt
        have hal : Below (W.setCell ⟨b0, i * 2, none⟩ (.int .i64 1)).drew.drew.heap.size (W.setCell ⟨b0, i * 2, none⟩ (.int .i64 1)).drew.drew ((W.setCell ⟨b0, i * 2, none⟩ (.int .i64 1)).drew.drew.alloc (.cells #[.int .i64 (i : Nat), .int .u64 (g : Nat)] 41)) := (Below.refl _ _).alloc (Nat.le_refl _) _
        have HAL := Lib.hid hal
        have hO7a : ((W.setCell ⟨b0, i * 2, none⟩ (.int .i64 1)).drew.drew.alloc (.cells #[.int .i64 (i : Nat), .int .u64 (g : Nat)] 41)).ownsRow n₀ 41 2 (.slice at_ kt ct) kt (pVals ts) := owns_keep (B := ((W.setCell ⟨b0, i * 2, none⟩ (.int .i64 1)).drew.drew.alloc (.cells #[.int .i64 (i : Nat), .int .u64 (g : Nat)] 41))) (owns_drewA (owns_drewA hO7)) hal (Nat.le_refl _)
        have HO7a := Lib.hid hO7a
        have HNW := Lib.hid (rowAt_own (own1 (n₀ := 0) (k := 2) (Rows8.new (W.setCell ⟨b0, i * 2, none⟩ (.int .i64 1)).drew.drew 41 #[.int .i64 (i : Nat), .int .u64 (g : Nat)]) (Nat.zero_le _) rfl))
        have hz7 : n₀ ≤ ((W.setCell ⟨b0, i * 2, none⟩ (.int .i64 1)).drew.drew.alloc (.cells #[.int .i64 (i : Nat), .int .u64 (g : Nat)] 41)).heap.size := by
          have h1 := hT3.f.size
          have h2 := hal.size
          have h3 : W.heap.size ≤ (W.setCell ⟨b0, i * 2, none⟩ (.int .i64 1)).drew.drew.heap.size := by simp [World.setCell]
          omega
        have HZ7 := Lib.hid hz7
        have hap : ∀ (v8 : Value) (w8 : World), ((W.setCell ⟨b0, i * 2, none⟩ (.int .i64 1)).drew.drew.alloc (.cells #[.int .i64 (i : Nat), .int .u64 (g : Nat)] 41)).grownBy w8 (Value.slice at_ kt ct).ownBlock → Rows8 w8 w.heap.size 61 #[.pointer (some ⟨D, 0, none⟩)] ∧ Rows8 w8 D 58 #[.slice (some ⟨b0, 0, none⟩) n c, .slice at_ kt ct] ∧ Rows8 w8 Bx 41 #[.int .i64 (i : Nat), .int .u64 (g : Nat)] := fun v8 w8 hg =>
          ⟨rows_grownA HO7a.out (by decide) hg (HX7.out.alloc _), rows_grownA HO7a.out (by decide) hg (HD7.out.alloc _), (hg.block Bx (HE7.out.alloc _).lt (fun e => by have := (World.ownsRow.lt hO2 Bx e.symm).2; omega)).trans (HE7.out.alloc _)⟩
        have HAP := Lib.hid hap
        have hfn : ∀ (v8 : Value) (w8 : World), w8.ownsRow n₀ 41 2 v8 (kt + 1) (pVals ts ++ [.int .i64 (i : Nat), .int .u64 (g : Nat)]) → ((W.setCell ⟨b0, i * 2, none⟩ (.int .i64 1)).drew.drew.alloc (.cells #[.int .i64 (i : Nat), .int .u64 (g : Nat)] 41)).grownBy w8 (Value.slice at_ kt ct).ownBlock →
            KeepsFrom w2.heap.size W (w8.setCell ⟨D, 1, none⟩ v8) ∧ ∃ vt', k < cnt l 0 ∧ Tk w n₀ D l (.slice (some ⟨b0, 0, none⟩) n c) vt' (k + 1) (w8.setCell ⟨D, 1, none⟩ v8) ∧ Mk w Ds (w8.setCell ⟨D, 1, none⟩ v8) := by
          intro v8 w8 ho hg
          obtain ⟨X8, D8, E8⟩ := HAP.out v8 w8 hg
          have k1 : KeepsFrom w.heap.size W (W.setCell ⟨b0, i * 2, none⟩ (.int .i64 1)) := (KeepsOthers.setCell _ _ _).from _
          have k2 : KeepsFrom w.heap.size (W.setCell ⟨b0, i * 2, none⟩ (.int .i64 1)) ((W.setCell ⟨b0, i * 2, none⟩ (.int .i64 1)).drew.drew.alloc (.cells #[.int .i64 (i : Nat), .int .u64 (g : Nat)] 41)) := keepsFrom_trans' (Y := (W.setCell ⟨b0, i * 2, none⟩ (.int .i64 1)).drew.drew) ⟨Nat.le_refl _, fun _ _ _ h _ => h⟩ (keepsFrom_below HAL.out)
          have k3 := keeps_owned HO7a.out hg w.heap.size
          have k4 : KeepsFrom w.heap.size w8 (w8.setCell ⟨D, 1, none⟩ v8) := (KeepsOthers.setCell _ _ _).from _
          have kk := keepsFrom_trans' (keepsFrom_trans' (keepsFrom_trans' k1 k2) k3) k4
          have hs8 := grown_ne (owns_keep (B := ((W.setCell ⟨b0, i * 2, none⟩ (.int .i64 1)).drew.drew.alloc (.cells #[.int .i64 (i : Nat), .int .u64 (g : Nat)] 41))) (owns_drewA (owns_drewA HS7.out)) HAL.out (Nat.le_refl _)) HO7a.out (by decide) hg
          refine ⟨keepsFrom_mono kk hww, v8, hpos, ⟨X8.setOther (a := ⟨D, 1, none⟩) (fun e => rows_apart X8 D8 (by decide) e.symm) v8, ⟨?_, ?_⟩, ?_, ?_, ?_⟩, hM3.keep kk⟩
          · have h9 := D8.set 1 v8
            simp only [List.setIfInBounds_toArray, List.set_cons_zero, List.set_cons_succ] at h9
            exact h9
          · exact OwnsP.setNe hs8 (a := ⟨D, 1, none⟩) D8 (by decide) v8
          · rw [HT9.out, ← HTS.out]
            refine OwnsP.setNe (a := ⟨D, 1, none⟩) ?_ D8 (by decide) v8
            unfold OwnsP
            rw [pVals_snoc, List.length_append, show ts.length = kt by rw [HTS.out, HKT.out]]
            exact ho
          · refine (Below.setCell ?_ (p := ⟨D, 1, none⟩) hDn v8)
            refine ((hT3.b.setCell (p := ⟨b0, i * 2, none⟩) hb0 (.int .i64 1)).drew.drew.trans (HAL.out.mono ?_)).grown hg HZ7.out (fun j e => (World.ownsRow.lt HO7a.out j e).1)
            have h1 := hT3.f.size
            have h3 : W.heap.size ≤ (W.setCell ⟨b0, i * 2, none⟩ (.int .i64 1)).drew.drew.heap.size := by simp [World.setCell]
            omega
          · exact (((hT3.f.trans (Kf.set (t := 52) (by decide) W (a := ⟨b0, i * 2, none⟩) hrow (.int .i64 1))).drew.drew.trans (Kf.of_below HAL.out)).trans (Kf.grown (t := 41) (by decide) HO7a.out hg)).trans (Kf.set (t := 58) (by decide) w8 (a := ⟨D, 1, none⟩) D8 v8)
        have HFN := Lib.hid hfn
        clear hfn hap hO7a hal hz7 hx7 hd7 he7 hO7 hset ht9 hts hkt hO3 hO2 hblk2 h1 h2 h3 h4 p1 hok hnl hT3 hM3 hx
        gi_wp2_with fail
        refine wpIn_region_X (free2_round l2) (fun W9 => Rows8 W9 w.heap.size 61 #[.pointer (some ⟨D, 0, none⟩)] ∧ Rows8 W9 D 58 #[.slice (some ⟨b0, 0, none⟩) n c, .slice at_ kt ct] ∧ Rows8 W9 Bx 41 #[.int .i64 (i : Nat), .int .u64 (g : Nat)]) 11 (by rintro ⟨_, _, h⟩; exact h) (by kernel_rfl) (by kernel_rfl) ?_
        have hS7 : (fun W9 => Rows8 W9 w.heap.size 61 #[.pointer (some ⟨D, 0, none⟩)] ∧ Rows8 W9 D 58 #[.slice (some ⟨b0, 0, none⟩) n c, .slice at_ kt ct] ∧ Rows8 W9 Bx 41 #[.int .i64 (i : Nat), .int .u64 (g : Nat)]) W.drew := ⟨HX3.out, HD3.out, HE3.out⟩
        refine wpAnyN_take (i := 0) (oi := { dst := some 17, op := Go.Op.load 61 (Go.Operand.tmp 2), type := 61, pos := "draft.go:39", after := #[], guard := none }) (v := .pointer (some ⟨D, 0, none⟩)) rfl (by decide) (by kernel_rfl) (by kernel_rfl) (by kernel_rfl) (fun _ _ _ h => h) (Or.inl ⟨by rfl, ?_⟩) hS7 ?_
        · intro W9 hS9
          obtain ⟨q0, q1, q2⟩ := hS9
          have s0 : W9.cell? ⟨w.heap.size, 0, none⟩ = some (.pointer (some ⟨D, 0, none⟩)) := q0.cell 0
          have s1 : W9.cell? ⟨D, 0, none⟩ = some (.slice (some ⟨b0, 0, none⟩) n c) := q1.cell 0
          have s2 : W9.cell? ⟨Bx, 0, none⟩ = some (.int .i64 (i : Nat)) := q2.cell 0
          have s3 : W9.cell? ⟨Bx, 1, none⟩ = some (.int .u64 (g : Nat)) := q2.cell 1
          clear q0 q1 q2
          go_simp
        try simp only [Act.put, List.setIfInBounds_toArray, List.set_cons_zero, List.set_cons_succ]
        refine wpAnyN_take (i := 1) (oi := { dst := some 18, op := Go.Op.nilCheck (Go.Operand.tmp 17), type := 0, pos := "draft.go:39", after := #[{ on := 0, ground := Go.Ground.data }], guard := none }) (v := .pointer (some ⟨D, 0, none⟩)) rfl (by decide) (by kernel_rfl) (by kernel_rfl) (by kernel_rfl) (fun _ _ _ h => h) (Or.inl ⟨by rfl, ?_⟩) hS7 ?_
        · intro W9 hS9
          obtain ⟨q0, q1, q2⟩ := hS9
          have s0 : W9.cell? ⟨w.heap.size, 0, none⟩ = some (.pointer (some ⟨D, 0, none⟩)) := q0.cell 0
          have s1 : W9.cell? ⟨D, 0, none⟩ = some (.slice (some ⟨b0, 0, none⟩) n c) := q1.cell 0
          have s2 : W9.cell? ⟨Bx, 0, none⟩ = some (.int .i64 (i : Nat)) := q2.cell 0
          have s3 : W9.cell? ⟨Bx, 1, none⟩ = some (.int .u64 (g : Nat)) := q2.cell 1
          clear q0 q1 q2
          go_simp
        try simp only [Act.put, List.setIfInBounds_toArray, List.set_cons_zero, List.set_cons_succ]
        refine wpAnyN_take (i := 2) (oi := { dst := some 19, op := Go.Op.fieldAddr 58 (Go.Operand.tmp 18) 0, type := 0, pos := "draft.go:39", after := #[{ on := 1, ground := Go.Ground.data }], guard := none }) (v := .pointer (some ⟨D, 0, none⟩)) rfl (by decide) (by kernel_rfl) (by kernel_rfl) (by kernel_rfl) (fun _ _ _ h => h) (Or.inl ⟨by rfl, ?_⟩) hS7 ?_
        · intro W9 hS9
          obtain ⟨q0, q1, q2⟩ := hS9
          have s0 : W9.cell? ⟨w.heap.size, 0, none⟩ = some (.pointer (some ⟨D, 0, none⟩)) := q0.cell 0
          have s1 : W9.cell? ⟨D, 0, none⟩ = some (.slice (some ⟨b0, 0, none⟩) n c) := q1.cell 0
          have s2 : W9.cell? ⟨Bx, 0, none⟩ = some (.int .i64 (i : Nat)) := q2.cell 0
          have s3 : W9.cell? ⟨Bx, 1, none⟩ = some (.int .u64 (g : Nat)) := q2.cell 1
          clear q0 q1 q2
          go_simp
        try simp only [Act.put, List.setIfInBounds_toArray, List.set_cons_zero, List.set_cons_succ]
        refine wpAnyN_take (i := 3) (oi := { dst := some 20, op := Go.Op.fieldAddr 54 (Go.Operand.tmp 19) 0, type := 0, pos := "draft.go:39", after := #[{ on := 2, ground := Go.Ground.data }], guard := none }) (v := .pointer (some ⟨D, 0, none⟩)) rfl (by decide) (by kernel_rfl) (by kernel_rfl) (by kernel_rfl) (fun _ _ _ h => h) (Or.inl ⟨by rfl, ?_⟩) hS7 ?_
        · intro W9 hS9
          obtain ⟨q0, q1, q2⟩ := hS9
          have s0 : W9.cell? ⟨w.heap.size, 0, none⟩ = some (.pointer (some ⟨D, 0, none⟩)) := q0.cell 0
          have s1 : W9.cell? ⟨D, 0, none⟩ = some (.slice (some ⟨b0, 0, none⟩) n c) := q1.cell 0
          have s2 : W9.cell? ⟨Bx, 0, none⟩ = some (.int .i64 (i : Nat)) := q2.cell 0
          have s3 : W9.cell? ⟨Bx, 1, none⟩ = some (.int .u64 (g : Nat)) := q2.cell 1
          clear q0 q1 q2
          go_simp
        try simp only [Act.put, List.setIfInBounds_toArray, List.set_cons_zero, List.set_cons_succ]
        refine wpAnyN_take (i := 4) (oi := { dst := some 21, op := Go.Op.fieldAddr 24 (Go.Operand.tmp 20) 0, type := 0, pos := "draft.go:39", after := #[{ on := 3, ground := Go.Ground.data }], guard := none }) (v := .pointer (some ⟨D, 0, none⟩)) rfl (by decide) (by kernel_rfl) (by kernel_rfl) (by kernel_rfl) (fun _ _ _ h => h) (Or.inl ⟨by rfl, ?_⟩) hS7 ?_
        · intro W9 hS9
          obtain ⟨q0, q1, q2⟩ := hS9
          have s0 : W9.cell? ⟨w.heap.size, 0, none⟩ = some (.pointer (some ⟨D, 0, none⟩)) := q0.cell 0
          have s1 : W9.cell? ⟨D, 0, none⟩ = some (.slice (some ⟨b0, 0, none⟩) n c) := q1.cell 0
          have s2 : W9.cell? ⟨Bx, 0, none⟩ = some (.int .i64 (i : Nat)) := q2.cell 0
          have s3 : W9.cell? ⟨Bx, 1, none⟩ = some (.int .u64 (g : Nat)) := q2.cell 1
          clear q0 q1 q2
          go_simp
        try simp only [Act.put, List.setIfInBounds_toArray, List.set_cons_zero, List.set_cons_succ]
        refine wpAnyN_take (i := 5) (oi := { dst := some 22, op := Go.Op.load 22 (Go.Operand.tmp 21), type := 22, pos := "draft.go:39", after := #[{ on := 4, ground := Go.Ground.data }], guard := none }) (v := .slice (some ⟨b0, 0, none⟩) n c) rfl (by decide) (by kernel_rfl) (by kernel_rfl) (by kernel_rfl) (fun _ _ _ h => h) (Or.inl ⟨by rfl, ?_⟩) hS7 ?_
        · intro W9 hS9
          obtain ⟨q0, q1, q2⟩ := hS9
          have s0 : W9.cell? ⟨w.heap.size, 0, none⟩ = some (.pointer (some ⟨D, 0, none⟩)) := q0.cell 0
          have s1 : W9.cell? ⟨D, 0, none⟩ = some (.slice (some ⟨b0, 0, none⟩) n c) := q1.cell 0
          have s2 : W9.cell? ⟨Bx, 0, none⟩ = some (.int .i64 (i : Nat)) := q2.cell 0
          have s3 : W9.cell? ⟨Bx, 1, none⟩ = some (.int .u64 (g : Nat)) := q2.cell 1
          clear q0 q1 q2
          go_simp
        try simp only [Act.put, List.setIfInBounds_toArray, List.set_cons_zero, List.set_cons_succ]
        refine wpAnyN_take (i := 6) (oi := { dst := some 23, op := Go.Op.fieldAddr 41 (Go.Operand.tmp 4) 0, type := 0, pos := "draft.go:39", after := #[], guard := none }) (v := .pointer (some ⟨Bx, 0, none⟩)) rfl (by decide) (by kernel_rfl) (by kernel_rfl) (by kernel_rfl) (fun _ _ _ h => h) (Or.inl ⟨by rfl, ?_⟩) hS7 ?_
        · intro W9 hS9
          obtain ⟨q0, q1, q2⟩ := hS9
          have s0 : W9.cell? ⟨w.heap.size, 0, none⟩ = some (.pointer (some ⟨D, 0, none⟩)) := q0.cell 0
          have s1 : W9.cell? ⟨D, 0, none⟩ = some (.slice (some ⟨b0, 0, none⟩) n c) := q1.cell 0
          have s2 : W9.cell? ⟨Bx, 0, none⟩ = some (.int .i64 (i : Nat)) := q2.cell 0
          have s3 : W9.cell? ⟨Bx, 1, none⟩ = some (.int .u64 (g : Nat)) := q2.cell 1
          clear q0 q1 q2
          go_simp
        try simp only [Act.put, List.setIfInBounds_toArray, List.set_cons_zero, List.set_cons_succ]
        refine wpAnyN_take (i := 7) (oi := { dst := some 24, op := Go.Op.load 3 (Go.Operand.tmp 23), type := 3, pos := "draft.go:39", after := #[{ on := 6, ground := Go.Ground.data }], guard := none }) (v := .int .i64 (i : Nat)) rfl (by decide) (by kernel_rfl) (by kernel_rfl) (by kernel_rfl) (fun _ _ _ h => h) (Or.inl ⟨by rfl, ?_⟩) hS7 ?_
        · intro W9 hS9
          obtain ⟨q0, q1, q2⟩ := hS9
          have s0 : W9.cell? ⟨w.heap.size, 0, none⟩ = some (.pointer (some ⟨D, 0, none⟩)) := q0.cell 0
          have s1 : W9.cell? ⟨D, 0, none⟩ = some (.slice (some ⟨b0, 0, none⟩) n c) := q1.cell 0
          have s2 : W9.cell? ⟨Bx, 0, none⟩ = some (.int .i64 (i : Nat)) := q2.cell 0
          have s3 : W9.cell? ⟨Bx, 1, none⟩ = some (.int .u64 (g : Nat)) := q2.cell 1
          clear q0 q1 q2
          go_simp
        try simp only [Act.put, List.setIfInBounds_toArray, List.set_cons_zero, List.set_cons_succ]
        refine wpAnyN_take (i := 8) (oi := { dst := some 25, op := Go.Op.indexAddr 22 (Go.Operand.tmp 22) (Go.Operand.tmp 24), type := 0, pos := "draft.go:39", after := #[{ on := 5, ground := Go.Ground.data }, { on := 7, ground := Go.Ground.data }, { on := 0, ground := Go.Ground.phase }, { on := 1, ground := Go.Ground.phase }, { on := 2, ground := Go.Ground.phase }, { on := 3, ground := Go.Ground.phase }, { on := 4, ground := Go.Ground.phase }, { on := 5, ground := Go.Ground.phase }, { on := 6, ground := Go.Ground.phase }, { on := 7, ground := Go.Ground.phase }], guard := none }) (v := .pointer (some ⟨b0, i * 2, none⟩)) rfl (by decide) (by kernel_rfl) (by kernel_rfl) (by kernel_rfl) (fun _ _ _ h => h) (Or.inl ⟨by rfl, ?_⟩) hS7 ?_
        · intro W9 hS9
          obtain ⟨q0, q1, q2⟩ := hS9
          have s0 : W9.cell? ⟨w.heap.size, 0, none⟩ = some (.pointer (some ⟨D, 0, none⟩)) := q0.cell 0
          have s1 : W9.cell? ⟨D, 0, none⟩ = some (.slice (some ⟨b0, 0, none⟩) n c) := q1.cell 0
          have s2 : W9.cell? ⟨Bx, 0, none⟩ = some (.int .i64 (i : Nat)) := q2.cell 0
          have s3 : W9.cell? ⟨Bx, 1, none⟩ = some (.int .u64 (g : Nat)) := q2.cell 1
          clear q0 q1 q2
          go_simp
        try simp only [Act.put, List.setIfInBounds_toArray, List.set_cons_zero, List.set_cons_succ]
        refine wpAnyN_take (i := 9) (oi := { dst := some 26, op := Go.Op.fieldAddr 52 (Go.Operand.tmp 25) 0, type := 0, pos := "draft.go:39", after := #[{ on := 8, ground := Go.Ground.data }, { on := 0, ground := Go.Ground.phase }, { on := 1, ground := Go.Ground.phase }, { on := 2, ground := Go.Ground.phase }, { on := 3, ground := Go.Ground.phase }, { on := 4, ground := Go.Ground.phase }, { on := 5, ground := Go.Ground.phase }, { on := 6, ground := Go.Ground.phase }, { on := 7, ground := Go.Ground.phase }], guard := none }) (v := .pointer (some ⟨b0, i * 2, none⟩)) rfl (by decide) (by kernel_rfl) (by kernel_rfl) (by kernel_rfl) (fun _ _ _ h => h) (Or.inl ⟨by rfl, ?_⟩) hS7 ?_
        · intro W9 hS9
          obtain ⟨q0, q1, q2⟩ := hS9
          have s0 : W9.cell? ⟨w.heap.size, 0, none⟩ = some (.pointer (some ⟨D, 0, none⟩)) := q0.cell 0
          have s1 : W9.cell? ⟨D, 0, none⟩ = some (.slice (some ⟨b0, 0, none⟩) n c) := q1.cell 0
          have s2 : W9.cell? ⟨Bx, 0, none⟩ = some (.int .i64 (i : Nat)) := q2.cell 0
          have s3 : W9.cell? ⟨Bx, 1, none⟩ = some (.int .u64 (g : Nat)) := q2.cell 1
          clear q0 q1 q2
          go_simp
        try simp only [Act.put, List.setIfInBounds_toArray, List.set_cons_zero, List.set_cons_succ]
        refine wpAnyX_one (i := 10) (o := { dst := none, op := Go.Op.store 3 (Go.Operand.tmp 26) (Go.Operand.const (Go.Value.int Go.IntKind.i64 1)), type := 0, pos := "draft.go:39", after := #[{ on := 9, ground := Go.Ground.data }, { on := 0, ground := Go.Ground.phase }, { on := 1, ground := Go.Ground.phase }, { on := 2, ground := Go.Ground.phase }, { on := 3, ground := Go.Ground.phase }, { on := 4, ground := Go.Ground.phase }, { on := 5, ground := Go.Ground.phase }, { on := 6, ground := Go.Ground.phase }, { on := 7, ground := Go.Ground.phase }], guard := none }) (by kernel_rfl) rfl (fun K hK => ?_)
        have p0' : W.drew.cell? ⟨b0, i * 2, none⟩ = some (.int .i64 0) := p0
        have fr0' : W.drew.frozen? ⟨b0, i * 2, none⟩ = false := fr0
        refine step_skip_g (by rfl) (w' := W.drew.setCell ⟨b0, i * 2, none⟩ (.int .i64 1)) (by go_simp) ?_
        clear p0' fr0'
        refine hK.out _ _ (fun _ => ⟨HX7.out, HD7.out, HE7.out⟩) ?_
        clear hK K hS7
        try simp only [Act.put, List.setIfInBounds_toArray, List.set_cons_zero, List.set_cons_succ]
        refine wpAnyX_end (by kernel_rfl) ?_
        rw [show W.drew.setCell ⟨b0, i * 2, none⟩ (.int .i64 1) = (W.setCell ⟨b0, i * 2, none⟩ (.int .i64 1)).drew from rfl]
        gi_wp2_with fail
        refine wpIn_region_X (free2_round l2) (fun W9 => Rows8 W9 w.heap.size 61 #[.pointer (some ⟨D, 0, none⟩)] ∧ Rows8 W9 D 58 #[.slice (some ⟨b0, 0, none⟩) n c, .slice at_ kt ct] ∧ Rows8 W9 Bx 41 #[.int .i64 (i : Nat), .int .u64 (g : Nat)]) 10 (by rintro ⟨_, _, h⟩; exact h) (by kernel_rfl) (by kernel_rfl) ?_
        have hS0 : (fun W9 => Rows8 W9 w.heap.size 61 #[.pointer (some ⟨D, 0, none⟩)] ∧ Rows8 W9 D 58 #[.slice (some ⟨b0, 0, none⟩) n c, .slice at_ kt ct] ∧ Rows8 W9 Bx 41 #[.int .i64 (i : Nat), .int .u64 (g : Nat)]) (W.setCell ⟨b0, i * 2, none⟩ (.int .i64 1)).drew.drew := ⟨HX7.out, HD7.out, HE7.out⟩
        refine wpAnyX_take (i := 0) (oi := { dst := some 27, op := Go.Op.load 61 (Go.Operand.tmp 2), type := 61, pos := "draft.go:40", after := #[], guard := none }) (oX := { dst := none, op := Go.Op.store 36 (Go.Operand.tmp 36) (Go.Operand.tmp 34), type := 0, pos := "draft.go:40", after := #[{ on := 9, ground := Go.Ground.data }, { on := 7, ground := Go.Ground.data }, { on := 7, ground := Go.Ground.chain }, { on := 0, ground := Go.Ground.phase }, { on := 1, ground := Go.Ground.phase }, { on := 2, ground := Go.Ground.phase }, { on := 3, ground := Go.Ground.phase }, { on := 4, ground := Go.Ground.phase }, { on := 5, ground := Go.Ground.phase }, { on := 6, ground := Go.Ground.phase }, { on := 7, ground := Go.Ground.phase }], guard := none }) (v := .pointer (some ⟨D, 0, none⟩)) rfl rfl (by kernel_rfl) (by kernel_rfl) (by kernel_rfl) (by kernel_rfl) (fun _ _ _ h => h) (Or.inl ⟨by rfl, ?_⟩) hS0 ?_
        · intro W9 hS9
          obtain ⟨q0, q1, q2⟩ := hS9
          have s0 : W9.cell? ⟨w.heap.size, 0, none⟩ = some (.pointer (some ⟨D, 0, none⟩)) := q0.cell 0
          have s1 : W9.cell? ⟨D, 1, none⟩ = some (.slice at_ kt ct) := q1.cell 1
          have s2 : W9.cell? ⟨Bx, 0, none⟩ = some (.int .i64 (i : Nat)) := q2.cell 0
          have s3 : W9.cell? ⟨Bx, 1, none⟩ = some (.int .u64 (g : Nat)) := q2.cell 1
          clear q0 q1 q2
          go_simp
        try simp only [Act.put, List.setIfInBounds_toArray, List.set_cons_zero, List.set_cons_succ]
        refine wpAnyX_take (i := 1) (oi := { dst := some 28, op := Go.Op.load 61 (Go.Operand.tmp 2), type := 61, pos := "draft.go:40", after := #[], guard := none }) (oX := { dst := none, op := Go.Op.store 36 (Go.Operand.tmp 36) (Go.Operand.tmp 34), type := 0, pos := "draft.go:40", after := #[{ on := 9, ground := Go.Ground.data }, { on := 7, ground := Go.Ground.data }, { on := 7, ground := Go.Ground.chain }, { on := 0, ground := Go.Ground.phase }, { on := 1, ground := Go.Ground.phase }, { on := 2, ground := Go.Ground.phase }, { on := 3, ground := Go.Ground.phase }, { on := 4, ground := Go.Ground.phase }, { on := 5, ground := Go.Ground.phase }, { on := 6, ground := Go.Ground.phase }, { on := 7, ground := Go.Ground.phase }], guard := none }) (v := .pointer (some ⟨D, 0, none⟩)) rfl rfl (by kernel_rfl) (by kernel_rfl) (by kernel_rfl) (by kernel_rfl) (fun _ _ _ h => h) (Or.inl ⟨by rfl, ?_⟩) hS0 ?_
        · intro W9 hS9
          obtain ⟨q0, q1, q2⟩ := hS9
          have s0 : W9.cell? ⟨w.heap.size, 0, none⟩ = some (.pointer (some ⟨D, 0, none⟩)) := q0.cell 0
          have s1 : W9.cell? ⟨D, 1, none⟩ = some (.slice at_ kt ct) := q1.cell 1
          have s2 : W9.cell? ⟨Bx, 0, none⟩ = some (.int .i64 (i : Nat)) := q2.cell 0
          have s3 : W9.cell? ⟨Bx, 1, none⟩ = some (.int .u64 (g : Nat)) := q2.cell 1
          clear q0 q1 q2
          go_simp
        try simp only [Act.put, List.setIfInBounds_toArray, List.set_cons_zero, List.set_cons_succ]
        refine wpAnyX_take (i := 2) (oi := { dst := some 29, op := Go.Op.nilCheck (Go.Operand.tmp 28), type := 0, pos := "draft.go:40", after := #[{ on := 1, ground := Go.Ground.data }], guard := none }) (oX := { dst := none, op := Go.Op.store 36 (Go.Operand.tmp 36) (Go.Operand.tmp 34), type := 0, pos := "draft.go:40", after := #[{ on := 9, ground := Go.Ground.data }, { on := 7, ground := Go.Ground.data }, { on := 7, ground := Go.Ground.chain }, { on := 0, ground := Go.Ground.phase }, { on := 1, ground := Go.Ground.phase }, { on := 2, ground := Go.Ground.phase }, { on := 3, ground := Go.Ground.phase }, { on := 4, ground := Go.Ground.phase }, { on := 5, ground := Go.Ground.phase }, { on := 6, ground := Go.Ground.phase }, { on := 7, ground := Go.Ground.phase }], guard := none }) (v := .pointer (some ⟨D, 0, none⟩)) rfl rfl (by kernel_rfl) (by kernel_rfl) (by kernel_rfl) (by kernel_rfl) (fun _ _ _ h => h) (Or.inl ⟨by rfl, ?_⟩) hS0 ?_
        · intro W9 hS9
          obtain ⟨q0, q1, q2⟩ := hS9
          have s0 : W9.cell? ⟨w.heap.size, 0, none⟩ = some (.pointer (some ⟨D, 0, none⟩)) := q0.cell 0
          have s1 : W9.cell? ⟨D, 1, none⟩ = some (.slice at_ kt ct) := q1.cell 1
          have s2 : W9.cell? ⟨Bx, 0, none⟩ = some (.int .i64 (i : Nat)) := q2.cell 0
          have s3 : W9.cell? ⟨Bx, 1, none⟩ = some (.int .u64 (g : Nat)) := q2.cell 1
          clear q0 q1 q2
          go_simp
        try simp only [Act.put, List.setIfInBounds_toArray, List.set_cons_zero, List.set_cons_succ]
        refine wpAnyX_take (i := 3) (oi := { dst := some 30, op := Go.Op.fieldAddr 58 (Go.Operand.tmp 29) 1, type := 0, pos := "draft.go:40", after := #[{ on := 2, ground := Go.Ground.data }], guard := none }) (oX := { dst := none, op := Go.Op.store 36 (Go.Operand.tmp 36) (Go.Operand.tmp 34), type := 0, pos := "draft.go:40", after := #[{ on := 9, ground := Go.Ground.data }, { on := 7, ground := Go.Ground.data }, { on := 7, ground := Go.Ground.chain }, { on := 0, ground := Go.Ground.phase }, { on := 1, ground := Go.Ground.phase }, { on := 2, ground := Go.Ground.phase }, { on := 3, ground := Go.Ground.phase }, { on := 4, ground := Go.Ground.phase }, { on := 5, ground := Go.Ground.phase }, { on := 6, ground := Go.Ground.phase }, { on := 7, ground := Go.Ground.phase }], guard := none }) (v := .pointer (some ⟨D, 1, none⟩)) rfl rfl (by kernel_rfl) (by kernel_rfl) (by kernel_rfl) (by kernel_rfl) (fun _ _ _ h => h) (Or.inl ⟨by rfl, ?_⟩) hS0 ?_
        · intro W9 hS9
          obtain ⟨q0, q1, q2⟩ := hS9
          have s0 : W9.cell? ⟨w.heap.size, 0, none⟩ = some (.pointer (some ⟨D, 0, none⟩)) := q0.cell 0
          have s1 : W9.cell? ⟨D, 1, none⟩ = some (.slice at_ kt ct) := q1.cell 1
          have s2 : W9.cell? ⟨Bx, 0, none⟩ = some (.int .i64 (i : Nat)) := q2.cell 0
          have s3 : W9.cell? ⟨Bx, 1, none⟩ = some (.int .u64 (g : Nat)) := q2.cell 1
          clear q0 q1 q2
          go_simp
        try simp only [Act.put, List.setIfInBounds_toArray, List.set_cons_zero, List.set_cons_succ]
        refine wpAnyX_take (i := 4) (oi := { dst := some 31, op := Go.Op.load 36 (Go.Operand.tmp 30), type := 36, pos := "draft.go:40", after := #[{ on := 3, ground := Go.Ground.data }], guard := none }) (oX := { dst := none, op := Go.Op.store 36 (Go.Operand.tmp 36) (Go.Operand.tmp 34), type := 0, pos := "draft.go:40", after := #[{ on := 9, ground := Go.Ground.data }, { on := 7, ground := Go.Ground.data }, { on := 7, ground := Go.Ground.chain }, { on := 0, ground := Go.Ground.phase }, { on := 1, ground := Go.Ground.phase }, { on := 2, ground := Go.Ground.phase }, { on := 3, ground := Go.Ground.phase }, { on := 4, ground := Go.Ground.phase }, { on := 5, ground := Go.Ground.phase }, { on := 6, ground := Go.Ground.phase }, { on := 7, ground := Go.Ground.phase }], guard := none }) (v := .slice at_ kt ct) rfl rfl (by kernel_rfl) (by kernel_rfl) (by kernel_rfl) (by kernel_rfl) (fun _ _ _ h => h) (Or.inl ⟨by rfl, ?_⟩) hS0 ?_
        · intro W9 hS9
          obtain ⟨q0, q1, q2⟩ := hS9
          have s0 : W9.cell? ⟨w.heap.size, 0, none⟩ = some (.pointer (some ⟨D, 0, none⟩)) := q0.cell 0
          have s1 : W9.cell? ⟨D, 1, none⟩ = some (.slice at_ kt ct) := q1.cell 1
          have s2 : W9.cell? ⟨Bx, 0, none⟩ = some (.int .i64 (i : Nat)) := q2.cell 0
          have s3 : W9.cell? ⟨Bx, 1, none⟩ = some (.int .u64 (g : Nat)) := q2.cell 1
          clear q0 q1 q2
          go_simp
        try simp only [Act.put, List.setIfInBounds_toArray, List.set_cons_zero, List.set_cons_succ]
        refine wpAnyX_take (i := 5) (oi := { dst := some 32, op := Go.Op.load 41 (Go.Operand.tmp 4), type := 41, pos := "draft.go:40", after := #[], guard := none }) (oX := { dst := none, op := Go.Op.store 36 (Go.Operand.tmp 36) (Go.Operand.tmp 34), type := 0, pos := "draft.go:40", after := #[{ on := 9, ground := Go.Ground.data }, { on := 7, ground := Go.Ground.data }, { on := 7, ground := Go.Ground.chain }, { on := 0, ground := Go.Ground.phase }, { on := 1, ground := Go.Ground.phase }, { on := 2, ground := Go.Ground.phase }, { on := 3, ground := Go.Ground.phase }, { on := 4, ground := Go.Ground.phase }, { on := 5, ground := Go.Ground.phase }, { on := 6, ground := Go.Ground.phase }, { on := 7, ground := Go.Ground.phase }], guard := none }) (v := .agg #[.int .i64 (i : Nat), .int .u64 (g : Nat)]) rfl rfl (by kernel_rfl) (by kernel_rfl) (by kernel_rfl) (by kernel_rfl) (fun _ _ _ h => h) (Or.inl ⟨by rfl, ?_⟩) hS0 ?_
        · intro W9 hS9
          obtain ⟨q0, q1, q2⟩ := hS9
          have s0 : W9.cell? ⟨w.heap.size, 0, none⟩ = some (.pointer (some ⟨D, 0, none⟩)) := q0.cell 0
          have s1 : W9.cell? ⟨D, 1, none⟩ = some (.slice at_ kt ct) := q1.cell 1
          have s2 : W9.cell? ⟨Bx, 0, none⟩ = some (.int .i64 (i : Nat)) := q2.cell 0
          have s3 : W9.cell? ⟨Bx, 1, none⟩ = some (.int .u64 (g : Nat)) := q2.cell 1
          clear q0 q1 q2
          go_simp
        try simp only [Act.put, List.setIfInBounds_toArray, List.set_cons_zero, List.set_cons_succ]
        refine wpAnyX_one (i := 6) (o := { dst := some 33, op := Go.Op.buildSlice 36 1 #[(0, Go.Operand.tmp 32)], type := 36, pos := "draft.go:40", after := #[{ on := 5, ground := Go.Ground.data }], guard := none }) (by kernel_rfl) rfl (fun K hK => ?_)
        refine step_value_g (by rfl) (.slice (some ⟨(W.setCell ⟨b0, i * 2, none⟩ (.int .i64 1)).drew.drew.heap.size, 0, none⟩) 1 1) (w' := ((W.setCell ⟨b0, i * 2, none⟩ (.int .i64 1)).drew.drew.alloc (.cells #[.int .i64 (i : Nat), .int .u64 (g : Nat)] 41))) (by go_simp) ?_
        have hS1 : (fun W9 => Rows8 W9 w.heap.size 61 #[.pointer (some ⟨D, 0, none⟩)] ∧ Rows8 W9 D 58 #[.slice (some ⟨b0, 0, none⟩) n c, .slice at_ kt ct] ∧ Rows8 W9 Bx 41 #[.int .i64 (i : Nat), .int .u64 (g : Nat)]) ((W.setCell ⟨b0, i * 2, none⟩ (.int .i64 1)).drew.drew.alloc (.cells #[.int .i64 (i : Nat), .int .u64 (g : Nat)] 41)) := ⟨HX7.out.alloc _, HD7.out.alloc _, HE7.out.alloc _⟩
        refine hK.out _ _ (fun _ => hS1) ?_
        clear hK K
        try simp only [Act.put, List.setIfInBounds_toArray, List.set_cons_zero, List.set_cons_succ]
        refine wpAnyX_one (i := 7) (o := { dst := some 34, op := Go.Op.call { callee := Go.Callee.builtin Go.Builtin.append, args := #[Go.Operand.tmp 31, Go.Operand.tmp 33], argTypes := #[36, 36] }, type := 36, pos := "draft.go:40", after := #[{ on := 4, ground := Go.Ground.data }, { on := 6, ground := Go.Ground.data }], guard := none }) (by kernel_rfl) rfl (fun K hK => ?_)
        refine step_append_row _ rfl _ _ 36 rfl n₀ 41 i0 (.agg #[.int .i64 0, .int .u64 0]) 2 16 Try.underlying36 hi hz0 hz1 hz2 rfl (by decide) (.slice at_ kt ct) kt (pVals ts) (by simp [go_sem]) HO7a.out (.slice (some ⟨(W.setCell ⟨b0, i * 2, none⟩ (.int .i64 1)).drew.drew.heap.size, 0, none⟩) 1 1) 1 [.int .i64 (i : Nat), .int .u64 (g : Nat)] (by simp [go_sem]) HNW.out (by simp [Value.oneCell']) (by unfold maxLen; omega) (by omega) (by simpa using HZ7.out) ?_
        intro v8 w8 hown hgrow _
        obtain ⟨g8, c8, rfl⟩ := ownsRow_succ hown
        obtain ⟨X8, D8, E8⟩ := HAP.out (.slice none 0 0) w8 hgrow
        have hS2 : (fun W9 => Rows8 W9 w.heap.size 61 #[.pointer (some ⟨D, 0, none⟩)] ∧ Rows8 W9 D 58 #[.slice (some ⟨b0, 0, none⟩) n c, .slice at_ kt ct] ∧ Rows8 W9 Bx 41 #[.int .i64 (i : Nat), .int .u64 (g : Nat)]) w8 := ⟨X8, D8, E8⟩
        have HOW := Lib.hid hown
        have HGR := Lib.hid hgrow
        clear hown hgrow
        refine hK.out _ _ (fun _ => hS2) ?_
        clear hK K
        try simp only [Act.put, List.setIfInBounds_toArray, List.set_cons_zero, List.set_cons_succ]
        refine wpAnyX_one (i := 8) (o := { dst := some 35, op := Go.Op.nilCheck (Go.Operand.tmp 27), type := 0, pos := "draft.go:40", after := #[{ on := 0, ground := Go.Ground.data }, { on := 0, ground := Go.Ground.phase }, { on := 1, ground := Go.Ground.phase }, { on := 2, ground := Go.Ground.phase }, { on := 3, ground := Go.Ground.phase }, { on := 4, ground := Go.Ground.phase }, { on := 5, ground := Go.Ground.phase }, { on := 6, ground := Go.Ground.phase }, { on := 7, ground := Go.Ground.phase }], guard := none }) (by kernel_rfl) rfl (fun K hK => ?_)
        refine step_value_g (by rfl) (.pointer (some ⟨D, 0, none⟩)) (w' := w8) (by go_simp) ?_
        refine hK.out _ _ (fun _ => hS2) ?_
        clear hK K
        try simp only [Act.put, List.setIfInBounds_toArray, List.set_cons_zero, List.set_cons_succ]
        refine wpAnyX_one (i := 9) (o := { dst := some 36, op := Go.Op.fieldAddr 58 (Go.Operand.tmp 35) 1, type := 0, pos := "draft.go:40", after := #[{ on := 8, ground := Go.Ground.data }, { on := 0, ground := Go.Ground.phase }, { on := 1, ground := Go.Ground.phase }, { on := 2, ground := Go.Ground.phase }, { on := 3, ground := Go.Ground.phase }, { on := 4, ground := Go.Ground.phase }, { on := 5, ground := Go.Ground.phase }, { on := 6, ground := Go.Ground.phase }, { on := 7, ground := Go.Ground.phase }], guard := none }) (by kernel_rfl) rfl (fun K hK => ?_)
        refine step_value_g (by rfl) (.pointer (some ⟨D, 1, none⟩)) (w' := w8) (by go_simp) ?_
        refine hK.out _ _ (fun _ => hS2) ?_
        clear hK K
        try simp only [Act.put, List.setIfInBounds_toArray, List.set_cons_zero, List.set_cons_succ]
        refine wpAnyX_one (i := 10) (o := { dst := none, op := Go.Op.store 36 (Go.Operand.tmp 36) (Go.Operand.tmp 34), type := 0, pos := "draft.go:40", after := #[{ on := 9, ground := Go.Ground.data }, { on := 7, ground := Go.Ground.data }, { on := 7, ground := Go.Ground.chain }, { on := 0, ground := Go.Ground.phase }, { on := 1, ground := Go.Ground.phase }, { on := 2, ground := Go.Ground.phase }, { on := 3, ground := Go.Ground.phase }, { on := 4, ground := Go.Ground.phase }, { on := 5, ground := Go.Ground.phase }, { on := 6, ground := Go.Ground.phase }, { on := 7, ground := Go.Ground.phase }], guard := none }) (by kernel_rfl) rfl (fun K hK => ?_)
        have cD1 : w8.cell? ⟨D, 1, none⟩ = some (.slice at_ kt ct) := D8.cell 1
        have fD1 := D8.frozen 1
        refine step_skip_g (by rfl) (w' := w8.setCell ⟨D, 1, none⟩ (.slice (some ⟨g8, 0, none⟩) (kt + 1) c8)) (by go_simp) ?_
        have hFin := HFN.out _ w8 HOW.out HGR.out
        have HFin := Lib.hid hFin
        clear hFin hS0 hS1
        refine hK.out _ _ (fun h => absurd rfl h) ?_
        clear hK K
        try simp only [Act.put, List.setIfInBounds_toArray, List.set_cons_zero, List.set_cons_succ]
        refine wpAnyX_end (by kernel_rfl) ?_
        gi_wp2_with fail
        obtain ⟨f1, vt', f2, f3, f4⟩ := HFin.out
        first | exact ⟨f1, rfl, vt', f2, f3, f4⟩ | exact ⟨f1, rfl, ⟨vt', f3⟩, f4⟩
      case done =>
        rintro D9 xs W hD9 rfl ⟨hnil, hT3, hM3, _⟩ hK
        have hk0 : cnt l 0 = k := by
          have h1 := ents_length (takeL l k) 0
          rw [hnil, (takeL_cnt l k hkc).1] at h1
          simp at h1
          omega
        have HR6 := Lib.hid (show R = (6, l, []) by rw [HR.out, if_neg (by omega)])
        have hnd : (D9 :: Ds).Nodup := List.nodup_cons.2 ⟨fun h => by have := M2.out.lt D9 h; omega, hM3.1⟩
        have hdf : ∀ E ∈ D9 :: Ds, W.heap[E]? = some (.deferred (some [])) ∧ w.heap.size ≤ E := fun E hE => by
          rcases List.mem_cons.1 hE with rfl | h
          · exact ⟨hK, by omega⟩
          · exact hM3.2 E h
        have HND := Lib.hid hnd
        have HDF := Lib.hid hdf
        have HT3 := Lib.hid hT3
        clear hnd hdf hT3 hM3 hnil hk0
        gi_wp2_with fail
        have hkk := shutAll_kf (fun _ => false) (D9 :: Ds) W HND.out (fun E hE => (HDF.out E hE).1)
        refine leaves_marks (by simp) (D9 :: Ds) W HND.out (fun E hE => (HDF.out E hE).1) ?_
        exact Or.inr ⟨by rw [HR6.out]; simp, by rw [HR6.out]; rfl, HT3.out.b.trans (shutAll_below (D9 :: Ds) W HND.out (fun E hE => ⟨(HDF.out E hE).1, Nat.le_trans hn₀ (HDF.out E hE).2⟩)), HT3.out.f.trans (k0_kf hkk tA), _, _, k0_row hkk HT3.out.d.d⟩
      case stop =>
        rintro D9 c' pre W hD9 _ ⟨rfl, vt', hkc2, hT3, hM3⟩ hK
        have hnd : (D9 :: Ds).Nodup := List.nodup_cons.2 ⟨fun h => by have := M2.out.lt D9 h; omega, hM3.1⟩
        have hdf : ∀ E ∈ D9 :: Ds, W.heap[E]? = some (.deferred (some [])) ∧ w.heap.size ≤ E := fun E hE => by
          rcases List.mem_cons.1 hE with rfl | h
          · exact ⟨hK, by omega⟩
          · exact hM3.2 E h
        have HMM := Lib.hid (show Mk w (D9 :: Ds) W from ⟨hnd, hdf⟩)
        have HT3 := Lib.hid hT3
        clear hnd hdf hT3 hM3
        gi_wp2_with fail
        exact ⟨⟨k + 1, D9 :: Ds, vt', _, _, _, _, _, _, _, by first | rfl | (push_cast; rfl), by omega, by omega, HT3, HMM⟩, by simp [intOf]; omega⟩
    · obtain rfl : k = M := by omega
      have hkM2 : ¬ ((k : Nat) : Int) < ((k : Nat) : Int) := by omega
      have HR0 := Lib.hid (show R = (0, takeL l k, (ents l 0).take k) by rw [HR.out, if_pos hkc])
      gi_wp2_with fail
      have hkk := shutAll_kf (fun _ => false) Ds W' hMk.out.1 (fun E hE => (hMk.out.2 E hE).1)
      refine leaves_marks (by simp) Ds W' hMk.out.1 (fun E hE => (hMk.out.2 E hE).1) ?_
      refine ⟨_, results_none rfl _ _ _, Or.inl ⟨by rw [HR0.out], rfl, vt, by rw [HR0.out]; exact ⟨k0_row hkk hT.out.d.d, k0_owns hkk hT.out.d.o⟩, by rw [HR0.out]; exact k0_owns hkk hT.out.t, hT.out.b.trans (shutAll_below Ds W' hMk.out.1 (fun E hE => ⟨(hMk.out.2 E hE).1, Nat.le_trans hn₀ (hMk.out.2 E hE).2⟩)), hT.out.f.trans (k0_kf hkk tA)⟩⟩
end Go.Proofs
