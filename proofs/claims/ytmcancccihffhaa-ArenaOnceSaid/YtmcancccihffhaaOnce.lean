/- Proved: for every arena and row of moves, honeycomblaw11.ArenaOnce returns true, and its arguments read as they did. -/
import Derived.Test.YtmcancccihffhaaOnm
import Derived.Test.YtmcancccihffhaaRz
import Derived.Deep.CutBlock
import Derived.SevenTiedAt
import Derived.Stop.Joined
namespace Go.Proofs.Ytmcancccihffhaa.arenaOnce
open Go.ChangeShapes Go.WideShapes Go.ChangeAt Go.RowKit Go.Shelf Go.Maps Go.Deep
attribute [local go_sem] Oper.semAt_some

set_option maxRecDepth 100000 in
set_option maxHeartbeats 64000000 in
theorem walk (x : Arv) (am : Option Addr) (nm cm : Nat) (w : World) (hI : PAt w (.slice x.a x.n x.c) x.l) (hM : MovAt w am nm cm) :
    Calls Try.prog 3 #[.agg #[.slice x.a x.n x.c], .slice am nm cm] w fun e w' => e = .returned (.bool true) ∧ Below w.heap.size w w' := by
  obtain ⟨W0, hW0⟩ : ∃ W, W = w.alloc (.cells #[.slice x.a x.n x.c] 24) := ⟨_, rfl⟩
  have hB0 : Below w.heap.size w W0 := by rw [hW0]; exact Rows8.newB
  have hk0 : Rows8 W0 w.heap.size 24 #[.slice x.a x.n x.c] := by rw [hW0]; exact Rows8.new _ _ _
  have HW := Lib.hid (Try.wakes_any W0)
  have HI := Lib.hid (RowAt.below hI hB0)
  have HM := Lib.hid (hM.below hB0)
  have HK := Lib.hid hk0
  have HB := Lib.hid hB0
  clear hI hM hk0 hB0
  go_enter Try.func3, Try.ntmps3
  go_wp2_with fail
  rw [← hW0]
  clear hW0
  refine HW.out.mono ?_
  rintro e W1 ⟨rfl, hC⟩
  have HK := Lib.hid (HK.out.below hC HK.out.lt)
  have HQ := Lib.hid (Try.own_any x.a x.n x.c x.l W1 (RowAt.below HI.out hC))
  have HM := Lib.hid (HM.out.below hC)
  have HB := Lib.hid (HB.out.trans (hC.mono HB.out.size))
  have hk := HK.out
  have c0 : W1.cell? ⟨w.heap.size, 0, Option.none⟩ = some (.slice x.a x.n x.c) := hk.cell 0
  have ltc := hk.lt
  clear hC hk HW HI
  go_wp2_with fail
  refine HQ.out.mono ?_
  rintro e W2 ⟨a, n, c, rfl, hn130, hO, hC⟩
  obtain ⟨b5, hb5⟩ : ∃ b, b = W2.heap.size := ⟨_, rfl⟩
  obtain ⟨W3, hW3⟩ : ∃ W, W = W2.alloc (.cells #[.slice a n c] 24) := ⟨_, rfl⟩
  have hal : Below W2.heap.size W2 W3 := by rw [hW3]; exact Rows8.newB
  have HX := Lib.hid (show Rows8 W3 b5 24 #[.slice a n c] by rw [hW3, hb5]; exact Rows8.new _ _ _)
  have hb := HB.out.trans (hC.mono HB.out.size)
  have HL5 : Hid (w.heap.size ≤ b5) := Lib.hid (by rw [hb5]; exact hb.size)
  have HB := Lib.hid (hb.trans (hal.mono hb.size))
  have hm2 := HM.out.below hC
  have HM := Lib.hid (hm2.below hal)
  obtain ⟨l, hl⟩ : ∃ l, l = x.l.take 130 := ⟨_, rfl⟩
  rw [← hl] at hO
  have HA := Lib.hid (RowAt.below (OwnsP.at hO) hal)
  clear hC hO hal hb hm2 hl HQ HK c0 ltc
  go_upto_region 4 with fail
  rw [← hW3, ← hb5]
  clear hW3 hb5
  have HQ := Lib.hid (Try.Check_any a n c l W3 HA.out)
  have hx := HX.out
  have c0 : W3.cell? ⟨b5, 0, Option.none⟩ = some (.slice a n c) := hx.cell 0
  have ltc := hx.lt
  clear hx
  go_wp2_with fail
  refine HQ.out.mono ?_
  rintro e W4 ⟨rfl, hC⟩
  have HX := Lib.hid (HX.out.below hC HX.out.lt)
  have HA := Lib.hid (RowAt.below HA.out hC)
  have HM := Lib.hid (HM.out.below hC)
  have HB := Lib.hid (HB.out.trans (hC.mono HB.out.size))
  clear hC HQ c0 ltc hn130
  have hx := HX.out
  cases hr : rightA l with
  | false =>
    rw [if_neg (by decide)]
    have HQ := Try.Counts_any a n c l W4 HA.out
    rw [hr, if_neg (by decide), if_neg (by decide), if_neg (by decide)] at HQ
    have HQ := Lib.hid HQ
    have c0 : W4.cell? ⟨b5, 0, Option.none⟩ = some (.slice a n c) := hx.cell 0
    have ltc := hx.lt
    clear hx
    go_wp2_with fail
    refine HQ.out.mono ?_
    rintro e W5 ⟨rfl, hC⟩
    have HB := Lib.hid (HB.out.trans (hC.mono HB.out.size))
    clear hC HQ c0 ltc
    go_wp2_with fail
    go_ret
    exact ⟨rfl, HB.out⟩
  | true =>
    rw [if_pos rfl]
    have hmm := @run_makeMap Try.prog
    obtain ⟨bg, hbg⟩ : ∃ b, b = W4.heap.size := ⟨_, rfl⟩
    obtain ⟨bt, hbt⟩ : ∃ b, b = W4.heap.size + 1 := ⟨_, rfl⟩
    obtain ⟨W5, hW5⟩ : ∃ W, W = (W4.alloc (.map #[] 0)).alloc (.map #[] 0) := ⟨_, rfl⟩
    have hal : Below W4.heap.size W4 W5 := by rw [hW5]; exact ((Below.refl _ _).alloc (Nat.le_refl _) _).alloc (by simp) _
    have hmg : CntE W5 bg 0 [] := by
      rw [hW5, hbg]
      exact (cntE_new W4).kept (World.grownBy_alloc _ _ Option.none) (by simp)
    have hmt : CntE W5 bt 0 [] := by
      have h9 := cntE_new (W4.alloc (.map #[] 0))
      rw [World.size_alloc] at h9
      rw [hW5, hbt]
      exact h9
    have HX0 : Hid (OnW w b5 a n c l bt bg 0 0 [] [] am nm cm W5) := Lib.hid ⟨hx.below hal hx.lt, RowAt.below HA.out hal, hmt, hmg, HM.out.below hal, HB.out.trans (hal.mono HB.out.size), OnI.nil hr, by omega, HL5.out, by have := HB.out.size; omega, by have := HB.out.size; omega⟩
    clear hx hmg hmt hal hr HX HA HM HB HL5
    go_wp2_with fail
    rw [← hbt, ← hbg, ← hW5]
    clear hbg hbt hW5 hmm
    go_loopg [54] nm (fun g v54 wr => ∃ (k : Nat) (a : Option Addr) (n c : Nat) (l : List Pr) (nt ng : Nat) (tk gv : List Pr), k ≤ nm ∧ k ≤ 60 ∧ nm - k ≤ g ∧ v54 = .int .i64 k ∧ nt ≤ k ∧ ng ≤ k ∧ tk.length ≤ k ∧ gv.length ≤ k ∧ Hid (OnW w b5 a n c l bt bg nt ng tk gv am nm cm wr))
    case atStart => exact ⟨0, a, n, c, l, 0, 0, [], [], Nat.zero_le _, Nat.zero_le _, Nat.sub_le _ _, rfl, Nat.le_refl _, Nat.le_refl _, Nat.le_refl _, Nat.le_refl _, HX0⟩
    case round =>
      obtain ⟨k, a, n, c, l, nt, ng, tk, gv, hk, hk60, hg, rfl, hnt, hng, htk, hgv, hX⟩ := hrel
      clear HX0
      by_cases hlt : k < nm
      · have hki : (k : Int) < (nm : Int) := by omega
        have hki0 : (0 : Int) ≤ (k : Int) := by omega
        obtain ⟨bm, om, y, z, rfl, hbm, z0, z1⟩ := hX.mv.2.2 k hlt
        have HX1 : Hid (OnW w b5 a n c l bt bg nt ng tk gv (some ⟨bm, om, Option.none⟩) nm cm (wr.alloc (.cells #[.int .i64 y, .int .i64 z] 34))) := Lib.hid (hX.out.below Rows8.newB)
        have P12 : Hid (Rows8 (wr.alloc (.cells #[.int .i64 y, .int .i64 z] 34)) wr.heap.size 34 #[.int .i64 y, .int .i64 z]) := Lib.hid (Rows8.new _ _ _)
        have HCN := Lib.hid (And.intro hnt (And.intro hng (And.intro htk hgv)))
        clear hX hbm hnt hng htk hgv
        by_cases h60 : k = 60
        · subst h60
          go_upto_region 46 with fail
          obtain ⟨V1, hV1⟩ : ∃ V, V = wr.alloc (.cells #[.int .i64 y, .int .i64 z] 34) := ⟨_, rfl⟩
          rw [← hV1] at HX1 ⊢
          clear hV1 P12
          as_aux_lemma =>
            have HX := Lib.hid (HX1.out)
            have HQ := Try.Counts_any a n c l V1 HX.out.at_
            rw [HX.out.i.rt, if_pos rfl, if_pos rfl, if_pos rfl] at HQ
            have HQ := Lib.hid HQ
            have hx := HX.out.bx
            have c0 : V1.cell? ⟨b5, 0, Option.none⟩ = some (.slice a n c) := hx.cell 0
            have ltc := hx.lt
            clear hx
            go_wp2_with fail
            refine HQ.out.mono ?_
            rintro e V1 ⟨rfl, hC⟩
            have HX := Lib.hid (HX.out.below hC)
            have HQ := Try.Check_any a n c l V1 HX.out.at_
            rw [HX.out.i.rt, if_pos rfl] at HQ
            have HQ := Lib.hid HQ
            clear hC c0 ltc
            have hx := HX.out.bx
            have c0 : V1.cell? ⟨b5, 0, Option.none⟩ = some (.slice a n c) := hx.cell 0
            have ltc := hx.lt
            clear hx
            go_wp2_with fail
            refine HQ.out.mono ?_
            rintro e V2 ⟨rfl, hC⟩
            have HX := Lib.hid (HX.out.below hC)
            have hsum := cnt_all l (rightA_iff.1 HX.out.i.rt).2
            have hlen := (pAt_len HX.out.at_).1
            have h128 := (rightA_iff.1 HX.out.i.rt).1.2
            obtain ⟨q0, hq0⟩ : ∃ q, q = cnt l 0 := ⟨_, rfl⟩
            obtain ⟨q1, hq1⟩ : ∃ q, q = cnt l 1 := ⟨_, rfl⟩
            obtain ⟨q2, hq2⟩ : ∃ q, q = cnt l 2 := ⟨_, rfl⟩
            rw [← hq0, ← hq1, ← hq2] at hsum ⊢
            have hs1 : (q0 : Int) + (q1 : Int) + (q2 : Int) = (n : Int) := by omega
            have hs2 : q0 + q1 + q2 = n := by omega
            have hw1 : IntKind.i64.wrap ((q0 : Int) + (q1 : Int)) = (q0 : Int) + (q1 : Int) := IntWalk.i64_in _ (by omega)
            have hw2 : IntKind.i64.wrap ((q0 : Int) + (q1 : Int) + (q2 : Int)) = (n : Int) := by rw [IntWalk.i64_in _ (by omega)]; exact hs1
            have HW3 := Lib.hid (show wrap64 (n : Int) = (n : Int) from wrap_small (by omega) (by omega))
            have hx := HX.out.bx
            have c0 : V2.cell? ⟨b5, 0, Option.none⟩ = some (.slice a n c) := hx.cell 0
            have ltc := hx.lt
            have HBL := Lib.hid HX.out.bl
            clear hx hC HQ hlen hsum hq0 hq1 hq2 HX
            go_wp2_with fail
            go_ret
            exact ⟨by simp [HW3.out], HBL.out⟩
        · have d60 : ((k : Int) == 60) = false := by simp; omega
          have e0 : (wr.alloc (.cells #[.int .i64 y, .int .i64 z] 34)).cell? ⟨wr.heap.size, 0, Option.none⟩ = some (.int .i64 y) := P12.out.cell 0
          have lt12 := P12.out.lt
          go_upto_region 13 with fail
          obtain ⟨kd, hkd4, hkd⟩ := kind_four y
          rw [hkd]
          obtain ⟨V1, hV1⟩ : ∃ V, V = wr.alloc (.cells #[.int .i64 y, .int .i64 z] 34) := ⟨_, rfl⟩
          rw [← hV1] at HX1 P12 ⊢
          clear hkd e0 lt12 hV1 z0 z1
          generalize wr.heap.size = b12 at P12 ⊢
          by_cases hk0 : kd = 0
          · subst hk0
            by_cases hc : cnt l 0 = 0
            · as_aux_lemma =>
                have HQ := Try.Take_any a n c l 1 V1 HX1.out.at_
                rw [OnI.full HX1.out.i hc] at HQ
                have HQ := Lib.hid HQ
                have hx := HX1.out.bx
                have c0 : V1.cell? ⟨b5, 0, Option.none⟩ = some (.slice a n c) := hx.cell 0
                have ltc := hx.lt
                clear hx
                go_wp2_with fail
                refine HQ.out.mono ?_
                rintro r V2 ⟨v, u, rfl, hv, hu, hC⟩
                obtain ⟨av, cv, rfl⟩ := hv.form
                obtain ⟨au, cu, rfl⟩ := hu.form
                obtain ⟨V3, hV3⟩ : ∃ V, V = V2.alloc (.cells #[.slice av ([] : List Pr).length cv] 24) := ⟨_, rfl⟩
                have hal : Below V2.heap.size V2 V3 := by rw [hV3]; exact Rows8.newB
                have HX3 := Lib.hid ((HX1.out.below hC).below hal)
                have HQ := Try.Counts_any a n c l V3 HX3.out.at_
                rw [HX3.out.i.rt, if_pos rfl, if_pos rfl, if_pos rfl, hc] at HQ
                have HQ := Lib.hid HQ
                clear hv hu hC hal hc c0 ltc HX1
                go_upto_region 15 with fail
                (try simp only [List.length_nil] at hV3)
                rw [← hV3]
                clear hV3
                have hx := HX3.out.bx
                have c0 : V3.cell? ⟨b5, 0, Option.none⟩ = some (.slice a n c) := hx.cell 0
                have ltc := hx.lt
                clear hx
                go_wp2_with fail
                refine HQ.out.mono ?_
                rintro r V4 ⟨rfl, hC⟩
                have HX4 := Lib.hid (HX3.out.below hC)
                clear hC HQ c0 ltc HX3
                have hcn := HCN.out
                go_wp2_with fail
                go_roundg (gk - 1)
                case measure => omega
                case rel => exact ⟨k + 1, a, n, c, l, nt, ng, tk, gv, by omega, by omega, by omega, by go_num, by omega, by omega, by (try simp only [List.length_append, List.length_cons, List.length_nil]); omega, by (try simp only [List.length_append, List.length_cons, List.length_nil]); omega, HX4⟩
            · as_aux_lemma =>
                obtain ⟨en, hT, hIN, h0t, h0g, hwf⟩ := HX1.out.i.take (Nat.pos_of_ne_zero hc)
                have HIN := Lib.hid hIN
                have H0T := Lib.hid h0t
                have H0G := Lib.hid h0g
                have HWF := Lib.hid hwf
                have HQ := Try.Take_any a n c l 1 V1 HX1.out.at_
                rw [hT] at HQ
                have HQ := Lib.hid HQ
                have hx := HX1.out.bx
                have c0 : V1.cell? ⟨b5, 0, Option.none⟩ = some (.slice a n c) := hx.cell 0
                have ltc := hx.lt
                clear hx hT hIN h0t h0g hwf
                go_wp2_with fail
                refine HQ.out.mono ?_
                rintro r V2 ⟨v, u, rfl, hv, hu, hC⟩
                obtain ⟨av, cv, rfl⟩ := hv.form
                obtain ⟨au, cu, rfl⟩ := hu.form
                have hu2 := hu.at
                obtain ⟨bu, ou, rfl, hbu, y0, y1⟩ := pAt_get hu2 0 (Nat.zero_lt_succ _)
                have hbl := World.ownsRow.lt hu bu rfl
                obtain ⟨nv, hnv⟩ : ∃ q, q = (takeL l 1).length := ⟨_, rfl⟩
                obtain ⟨b14, hb14⟩ : ∃ b, b = V2.heap.size := ⟨_, rfl⟩
                obtain ⟨V3, hV3⟩ : ∃ V, V = V2.alloc (.cells #[.slice av (takeL l 1).length cv] 24) := ⟨_, rfl⟩
                have hal : Below V2.heap.size V2 V3 := by rw [hV3]; exact Rows8.newB
                have HX3 := Lib.hid ((HX1.out.below hC).below hal)
                have P14 := Lib.hid (show Rows8 V3 b14 24 #[.slice av (takeL l 1).length cv] by rw [hV3, hb14]; exact Rows8.new _ _ _)
                have HV := Lib.hid (RowAt.below hv.at hal)
                have YU : Hid (V3.cell? ⟨bu, ou, Option.none⟩ = some (.int .i64 en.1) ∧ V3.cell? ⟨bu, ou + 1, Option.none⟩ = some (.int .u64 (en.2 : Nat))) := Lib.hid ⟨(hal.cell (p := ⟨bu, ou, Option.none⟩) hbu).trans y0, (hal.cell (p := ⟨bu, ou + 1, Option.none⟩) hbu).trans y1⟩
                have HBU : Hid (b5 < bu ∧ b5 < b14) := Lib.hid (by have h9 := HX1.out.bx.lt; have h8 := hbl.1; have h7 := hC.size; rw [hb14]; exact ⟨by omega, by omega⟩)
                have HBL := Lib.hid hbu
                have hbv : bu < V3.heap.size := Nat.lt_of_lt_of_le hbu hal.size
                have HBV := Lib.hid hbv
                have HQ := Try.Counts_any a n c l V3 HX3.out.at_
                rw [HX3.out.i.rt, if_pos rfl, if_pos rfl, if_pos rfl] at HQ
                obtain ⟨cq, hcq⟩ : ∃ q, q = cnt l 0 := ⟨_, rfl⟩
                rw [← hcq] at HQ hc
                have HQ := Lib.hid HQ
                have hq0 : ((cq : Int) == 0) = false := by simp; omega
                rw [← hnv] at P14 HV hV3 ⊢
                have HNV := Lib.hid hnv
                clear hv hu hu2 hC hal hcq hnv c0 ltc HX1 y0 y1 hbu hbl hbv
                go_upto_region 15 with fail
                (try simp only [List.length_cons, List.length_nil])
                rw [← hV3, ← hb14]
                clear hV3 hb14
                have hx := HX3.out.bx
                have c0 : V3.cell? ⟨b5, 0, Option.none⟩ = some (.slice a n c) := hx.cell 0
                have ltc := hx.lt
                clear hx
                go_wp2_with fail
                refine HQ.out.mono ?_
                rintro r V4 ⟨rfl, hC⟩
                have HX4 := Lib.hid (HX3.out.below hC)
                have P14 := Lib.hid (P14.out.below hC P14.out.lt)
                have HV := Lib.hid (RowAt.below HV.out hC)
                have YU : Hid (V4.cell? ⟨bu, ou, Option.none⟩ = some (.int .i64 en.1) ∧ V4.cell? ⟨bu, ou + 1, Option.none⟩ = some (.int .u64 (en.2 : Nat))) := Lib.hid ⟨(hC.cell (p := ⟨bu, ou, Option.none⟩) HBV.out).trans YU.out.1, (hC.cell (p := ⟨bu, ou + 1, Option.none⟩) HBV.out).trans YU.out.2⟩
                clear hC HQ c0 ltc HX3 HBV HBL
                go_upto_region 19 with fail
                clear hq0 hc
                refine wp_region_L (fun W' => OnW w b5 a n c l bt bg nt ng tk gv (some ⟨bm, om, Option.none⟩) nm cm W' ∧ W'.cell? ⟨bu, ou, Option.none⟩ = some (.int .i64 en.1) ∧ W'.cell? ⟨bu, ou + 1, Option.none⟩ = some (.int .u64 (en.2 : Nat))) 17 (by kernel_rfl) ?_
                have hS0 : OnW w b5 a n c l bt bg nt ng tk gv (some ⟨bm, om, Option.none⟩) nm cm V4.drew ∧ V4.drew.cell? ⟨bu, ou, Option.none⟩ = some (.int .i64 en.1) ∧ V4.drew.cell? ⟨bu, ou + 1, Option.none⟩ = some (.int .u64 (en.2 : Nat)) := ⟨HX4.out.below ((Below.refl V4.heap.size V4).drew), YU.out.1, YU.out.2⟩
                refine wpAnyL_takeT (i := 0) (oi := { dst := some 87, op := Go.Op.move (Go.Operand.tmp 15), type := 36, pos := "outright.go:39", after := #[], guard := none }) (v := .slice (some ⟨bu, ou, Option.none⟩) 1 cu) [1, 2, 3, 4, 5, 6, 7, 8, 9, 10, 11, 12, 13, 14, 15, 16] rfl (by kernel_rfl) (by kernel_rfl) (by kernel_rfl) (by kernel_rfl) (fun _ _ _ h => h) (Or.inl ⟨by rfl, ?_⟩) hS0 ?_
                · intro W9 hS9
                  obtain ⟨q0, q1, q2⟩ := hS9
                  clear q0 q1 q2
                  go_simp
                try simp only [Act.put, List.setIfInBounds_toArray, List.set_cons_zero, List.set_cons_succ]
                refine wpAnyL_takeT (i := 1) (oi := { dst := some 88, op := Go.Op.call { callee := Go.Callee.builtin Go.Builtin.len, args := #[Go.Operand.tmp 87], argTypes := #[36] }, type := 3, pos := "outright.go:39", after := #[{ on := 0, ground := Go.Ground.data }], guard := none }) (v := .int .i64 1) [2, 3, 4, 5, 6, 7, 8, 9, 10, 11, 12, 13, 14, 15, 16] rfl (by kernel_rfl) (by kernel_rfl) (by kernel_rfl) (by kernel_rfl) (fun _ _ _ h => h) (Or.inl ⟨by rfl, ?_⟩) hS0 ?_
                · intro W9 hS9
                  obtain ⟨q0, q1, q2⟩ := hS9
                  clear q0 q1 q2
                  go_simp
                try simp only [Act.put, List.setIfInBounds_toArray, List.set_cons_zero, List.set_cons_succ]
                refine wpAnyL_takeT (i := 2) (oi := { dst := some 89, op := Go.Op.binOp Go.BinOp.neq 3 (Go.Operand.tmp 88) (Go.Operand.const (Go.Value.int Go.IntKind.i64 1)) 3, type := 4, pos := "outright.go:39", after := #[{ on := 1, ground := Go.Ground.data }], guard := none }) (v := .bool false) [3, 4, 5, 6, 7, 8, 9, 10, 11, 12, 13, 14, 15, 16] rfl (by kernel_rfl) (by kernel_rfl) (by kernel_rfl) (by kernel_rfl) (fun _ _ _ h => h) (Or.inl ⟨by rfl, ?_⟩) hS0 ?_
                · intro W9 hS9
                  obtain ⟨q0, q1, q2⟩ := hS9
                  clear q0 q1 q2
                  go_simp
                try simp only [Act.put, List.setIfInBounds_toArray, List.set_cons_zero, List.set_cons_succ]
                refine wpAnyL_takeT (i := 3) (oi := { dst := some 90, op := Go.Op.move (Go.Operand.tmp 89), type := 4, pos := "outright.go:39", after := #[{ on := 2, ground := Go.Ground.data }], guard := none }) (v := .bool false) [4, 5, 6, 7, 8, 9, 10, 11, 12, 13, 14, 15, 16] rfl (by kernel_rfl) (by kernel_rfl) (by kernel_rfl) (by kernel_rfl) (fun _ _ _ h => h) (Or.inl ⟨by rfl, ?_⟩) hS0 ?_
                · intro W9 hS9
                  obtain ⟨q0, q1, q2⟩ := hS9
                  clear q0 q1 q2
                  go_simp
                try simp only [Act.put, List.setIfInBounds_toArray, List.set_cons_zero, List.set_cons_succ]
                refine wpAnyL_takeT (i := 4) (oi := { dst := some 91, op := Go.Op.move (Go.Operand.tmp 10), type := 32, pos := "outright.go:39", after := #[{ on := 3, ground := Go.Ground.guard }], guard := some (3, false) }) (v := .map (some bt)) [8, 14, 15, 16] rfl (by kernel_rfl) (by kernel_rfl) (by kernel_rfl) (by kernel_rfl) (fun _ _ _ h => h) (Or.inl ⟨by rfl, ?_⟩) hS0 ?_
                · intro W9 hS9
                  obtain ⟨q0, q1, q2⟩ := hS9
                  clear q0 q1 q2
                  go_simp
                try simp only [Act.put, List.setIfInBounds_toArray, List.set_cons_zero, List.set_cons_succ]
                refine wpAnyL_takeT (i := 5) (oi := { dst := some 92, op := Go.Op.move (Go.Operand.tmp 15), type := 36, pos := "outright.go:39", after := #[{ on := 3, ground := Go.Ground.guard }], guard := some (3, false) }) (v := .slice (some ⟨bu, ou, Option.none⟩) 1 cu) [6, 7, 8, 14, 15, 16] rfl (by kernel_rfl) (by kernel_rfl) (by kernel_rfl) (by kernel_rfl) (fun _ _ _ h => h) (Or.inl ⟨by rfl, ?_⟩) hS0 ?_
                · intro W9 hS9
                  obtain ⟨q0, q1, q2⟩ := hS9
                  clear q0 q1 q2
                  go_simp
                try simp only [Act.put, List.setIfInBounds_toArray, List.set_cons_zero, List.set_cons_succ]
                refine wpAnyL_takeT (i := 6) (oi := { dst := some 93, op := Go.Op.indexAddr 36 (Go.Operand.tmp 92) (Go.Operand.const (Go.Value.int Go.IntKind.i64 0)), type := 0, pos := "outright.go:39", after := #[{ on := 5, ground := Go.Ground.data }, { on := 3, ground := Go.Ground.guard }], guard := some (3, false) }) (v := .pointer (some ⟨bu, ou, Option.none⟩)) [7, 8, 14, 15, 16] rfl (by kernel_rfl) (by kernel_rfl) (by kernel_rfl) (by kernel_rfl) (fun _ _ _ h => h) (Or.inl ⟨by rfl, ?_⟩) hS0 ?_
                · intro W9 hS9
                  obtain ⟨q0, q1, q2⟩ := hS9
                  clear q0 q1 q2
                  go_simp
                try simp only [Act.put, List.setIfInBounds_toArray, List.set_cons_zero, List.set_cons_succ]
                refine wpAnyL_takeT (i := 7) (oi := { dst := some 94, op := Go.Op.load 41 (Go.Operand.tmp 93), type := 41, pos := "outright.go:39", after := #[{ on := 6, ground := Go.Ground.data }, { on := 3, ground := Go.Ground.guard }], guard := some (3, false) }) (v := .agg #[.int .i64 en.1, .int .u64 (en.2 : Nat)]) [8, 14, 15, 16] rfl (by kernel_rfl) (by kernel_rfl) (by kernel_rfl) (by kernel_rfl) (fun _ _ _ h => h) (Or.inl ⟨by rfl, ?_⟩) hS0 ?_
                · intro W9 hS9
                  obtain ⟨q0, q1, q2⟩ := hS9
                  have s0 := q1
                  have s1 := q2
                  clear q0 q1 q2
                  go_simp
                try simp only [Act.put, List.setIfInBounds_toArray, List.set_cons_zero, List.set_cons_succ]
                refine wpAnyL_takeT (i := 8) (oi := { dst := some 95, op := Go.Op.lookup 32 (Go.Operand.tmp 91) (Go.Operand.tmp 94) false, type := 3, pos := "outright.go:39", after := #[{ on := 4, ground := Go.Ground.data }, { on := 7, ground := Go.Ground.data }, { on := 3, ground := Go.Ground.guard }], guard := some (3, false) }) (v := .int .i64 0) [14, 15, 16] rfl (by kernel_rfl) (by kernel_rfl) (by kernel_rfl) (by kernel_rfl) (fun _ _ _ h => h) (Or.inl ⟨by rfl, ?_⟩) hS0 ?_
                · intro W9 hS9
                  obtain ⟨q0, q1, q2⟩ := hS9
                  have hl : (Instr.lookup 32 (.map (some bt)) (.agg #[.int .i64 en.1, .int .u64 (en.2 : Nat)]) false).run Try.prog W9 = .ok (.int .i64 0) W9 := by have h9 := Try.cntE_look q0.mt en HWF.out; rw [H0T.out] at h9; exact h9
                  clear q0 q1 q2
                  go_simp
                try simp only [Act.put, List.setIfInBounds_toArray, List.set_cons_zero, List.set_cons_succ]
                refine wpAnyL_takeT (i := 9) (oi := { dst := some 96, op := Go.Op.move (Go.Operand.tmp 9), type := 32, pos := "outright.go:39", after := #[{ on := 3, ground := Go.Ground.guard }], guard := some (3, false) }) (v := .map (some bg)) [13, 14, 15, 16] rfl (by kernel_rfl) (by kernel_rfl) (by kernel_rfl) (by kernel_rfl) (fun _ _ _ h => h) (Or.inl ⟨by rfl, ?_⟩) hS0 ?_
                · intro W9 hS9
                  obtain ⟨q0, q1, q2⟩ := hS9
                  clear q0 q1 q2
                  go_simp
                try simp only [Act.put, List.setIfInBounds_toArray, List.set_cons_zero, List.set_cons_succ]
                refine wpAnyL_takeT (i := 10) (oi := { dst := some 97, op := Go.Op.move (Go.Operand.tmp 15), type := 36, pos := "outright.go:39", after := #[{ on := 3, ground := Go.Ground.guard }], guard := some (3, false) }) (v := .slice (some ⟨bu, ou, Option.none⟩) 1 cu) [11, 12, 13, 14, 15, 16] rfl (by kernel_rfl) (by kernel_rfl) (by kernel_rfl) (by kernel_rfl) (fun _ _ _ h => h) (Or.inl ⟨by rfl, ?_⟩) hS0 ?_
                · intro W9 hS9
                  obtain ⟨q0, q1, q2⟩ := hS9
                  clear q0 q1 q2
                  go_simp
                try simp only [Act.put, List.setIfInBounds_toArray, List.set_cons_zero, List.set_cons_succ]
                refine wpAnyL_takeT (i := 11) (oi := { dst := some 98, op := Go.Op.indexAddr 36 (Go.Operand.tmp 97) (Go.Operand.const (Go.Value.int Go.IntKind.i64 0)), type := 0, pos := "outright.go:39", after := #[{ on := 10, ground := Go.Ground.data }, { on := 3, ground := Go.Ground.guard }], guard := some (3, false) }) (v := .pointer (some ⟨bu, ou, Option.none⟩)) [12, 13, 14, 15, 16] rfl (by kernel_rfl) (by kernel_rfl) (by kernel_rfl) (by kernel_rfl) (fun _ _ _ h => h) (Or.inl ⟨by rfl, ?_⟩) hS0 ?_
                · intro W9 hS9
                  obtain ⟨q0, q1, q2⟩ := hS9
                  clear q0 q1 q2
                  go_simp
                try simp only [Act.put, List.setIfInBounds_toArray, List.set_cons_zero, List.set_cons_succ]
                refine wpAnyL_takeT (i := 12) (oi := { dst := some 99, op := Go.Op.load 41 (Go.Operand.tmp 98), type := 41, pos := "outright.go:39", after := #[{ on := 11, ground := Go.Ground.data }, { on := 3, ground := Go.Ground.guard }], guard := some (3, false) }) (v := .agg #[.int .i64 en.1, .int .u64 (en.2 : Nat)]) [13, 14, 15, 16] rfl (by kernel_rfl) (by kernel_rfl) (by kernel_rfl) (by kernel_rfl) (fun _ _ _ h => h) (Or.inl ⟨by rfl, ?_⟩) hS0 ?_
                · intro W9 hS9
                  obtain ⟨q0, q1, q2⟩ := hS9
                  have s0 := q1
                  have s1 := q2
                  clear q0 q1 q2
                  go_simp
                try simp only [Act.put, List.setIfInBounds_toArray, List.set_cons_zero, List.set_cons_succ]
                refine wpAnyL_takeT (i := 13) (oi := { dst := some 100, op := Go.Op.lookup 32 (Go.Operand.tmp 96) (Go.Operand.tmp 99) false, type := 3, pos := "outright.go:39", after := #[{ on := 9, ground := Go.Ground.data }, { on := 12, ground := Go.Ground.data }, { on := 3, ground := Go.Ground.guard }], guard := some (3, false) }) (v := .int .i64 0) [14, 15, 16] rfl (by kernel_rfl) (by kernel_rfl) (by kernel_rfl) (by kernel_rfl) (fun _ _ _ h => h) (Or.inl ⟨by rfl, ?_⟩) hS0 ?_
                · intro W9 hS9
                  obtain ⟨q0, q1, q2⟩ := hS9
                  have hl : (Instr.lookup 32 (.map (some bg)) (.agg #[.int .i64 en.1, .int .u64 (en.2 : Nat)]) false).run Try.prog W9 = .ok (.int .i64 0) W9 := by have h9 := Try.cntE_look q0.mg en HWF.out; rw [H0G.out] at h9; exact h9
                  clear q0 q1 q2
                  go_simp
                try simp only [Act.put, List.setIfInBounds_toArray, List.set_cons_zero, List.set_cons_succ]
                refine wpAnyL_takeT (i := 14) (oi := { dst := some 101, op := Go.Op.binOp Go.BinOp.add 3 (Go.Operand.tmp 95) (Go.Operand.tmp 100) 3, type := 3, pos := "outright.go:39", after := #[{ on := 8, ground := Go.Ground.data }, { on := 13, ground := Go.Ground.data }, { on := 3, ground := Go.Ground.guard }], guard := some (3, false) }) (v := .int .i64 0) [15, 16] rfl (by kernel_rfl) (by kernel_rfl) (by kernel_rfl) (by kernel_rfl) (fun _ _ _ h => h) (Or.inl ⟨by rfl, ?_⟩) hS0 ?_
                · intro W9 hS9
                  obtain ⟨q0, q1, q2⟩ := hS9
                  clear q0 q1 q2
                  go_simp
                  rfl
                try simp only [Act.put, List.setIfInBounds_toArray, List.set_cons_zero, List.set_cons_succ]
                refine wpAnyL_takeT (i := 15) (oi := { dst := some 102, op := Go.Op.binOp Go.BinOp.gtr 3 (Go.Operand.tmp 101) (Go.Operand.const (Go.Value.int Go.IntKind.i64 0)) 3, type := 4, pos := "outright.go:39", after := #[{ on := 14, ground := Go.Ground.data }, { on := 3, ground := Go.Ground.guard }], guard := some (3, false) }) (v := .bool false) [16] rfl (by kernel_rfl) (by kernel_rfl) (by kernel_rfl) (by kernel_rfl) (fun _ _ _ h => h) (Or.inl ⟨by rfl, ?_⟩) hS0 ?_
                · intro W9 hS9
                  obtain ⟨q0, q1, q2⟩ := hS9
                  clear q0 q1 q2
                  go_simp
                try simp only [Act.put, List.setIfInBounds_toArray, List.set_cons_zero, List.set_cons_succ]
                refine wpAnyL_takeT (i := 16) (oi := { dst := some 103, op := Go.Op.pick (Go.Operand.tmp 90) (Go.Operand.const (Go.Value.bool true)) (Go.Operand.tmp 102), type := 4, pos := "outright.go:39", after := #[{ on := 3, ground := Go.Ground.data }, { on := 15, ground := Go.Ground.data }], guard := none }) (v := .bool false) [] rfl (by kernel_rfl) (by kernel_rfl) (by kernel_rfl) (by kernel_rfl) (fun _ _ _ h => h) (Or.inl ⟨by rfl, ?_⟩) hS0 ?_
                · intro W9 hS9
                  obtain ⟨q0, q1, q2⟩ := hS9
                  clear q0 q1 q2
                  go_simp
                try simp only [Act.put, List.setIfInBounds_toArray, List.set_cons_zero, List.set_cons_succ]
                refine wpAnyL_end (by kernel_rfl) ?_
                have HX4 := Lib.hid hS0.1
                have YU := Lib.hid hS0.2
                have P14 := Lib.hid P14.out.drewA
                have HV := Lib.hid (show PAt V4.drew (.slice av nv cv) (takeL l 1) from by have h9 := HV.out; rw [HNV.out] at h9 ⊢; exact h9)
                clear hS0
                generalize V4.drew = V5 at *
                go_upto_region 21 with fail
                refine wp_region_L (fun W' => Rows8 W' b14 24 #[.slice av nv cv] ∧ W'.cell? ⟨bu, ou, Option.none⟩ = some (.int .i64 en.1) ∧ W'.cell? ⟨bu, ou + 1, Option.none⟩ = some (.int .u64 (en.2 : Nat))) 6 (by kernel_rfl) ?_
                have hS0 : Rows8 V5.drew b14 24 #[.slice av nv cv] ∧ V5.drew.cell? ⟨bu, ou, Option.none⟩ = some (.int .i64 en.1) ∧ V5.drew.cell? ⟨bu, ou + 1, Option.none⟩ = some (.int .u64 (en.2 : Nat)) := ⟨P14.out.drewA, YU.out.1, YU.out.2⟩
                have HXd := Lib.hid (HX4.out.below ((Below.refl V5.heap.size V5).drew))
                have HVd := Lib.hid (show PAt V5.drew (.slice av nv cv) (takeL l 1) from HV.out)
                clear HX4 P14 HV YU
                generalize V5.drew = Wd at *
                as_aux_lemma =>
                  refine wpAnyL_takeT (i := 0) (oi := { dst := some 104, op := Go.Op.move (Go.Operand.tmp 10), type := 32, pos := "outright.go:42", after := #[{ on := 5, ground := Go.Ground.gcOnly Go.Departure.lateStores }], guard := none }) (v := .map (some bt)) [6, 7, 8] rfl (by kernel_rfl) (by kernel_rfl) (by kernel_rfl) (by kernel_rfl) (fun _ _ _ h => h) (Or.inl ⟨by rfl, ?_⟩) hS0 ?_
                  · intro W9 hS9
                    obtain ⟨q0, q1, q2⟩ := hS9
                    clear q0 q1 q2
                    go_simp
                  try simp only [Act.put, List.setIfInBounds_toArray, List.set_cons_zero, List.set_cons_succ]
                  refine wpAnyL_takeT (i := 1) (oi := { dst := some 105, op := Go.Op.move (Go.Operand.tmp 15), type := 36, pos := "outright.go:42", after := #[], guard := none }) (v := .slice (some ⟨bu, ou, Option.none⟩) 1 cu) [2, 3, 6, 7, 8] rfl (by kernel_rfl) (by kernel_rfl) (by kernel_rfl) (by kernel_rfl) (fun _ _ _ h => h) (Or.inl ⟨by rfl, ?_⟩) hS0 ?_
                  · intro W9 hS9
                    obtain ⟨q0, q1, q2⟩ := hS9
                    clear q0 q1 q2
                    go_simp
                  try simp only [Act.put, List.setIfInBounds_toArray, List.set_cons_zero, List.set_cons_succ]
                  refine wpAnyL_takeT (i := 2) (oi := { dst := some 106, op := Go.Op.indexAddr 36 (Go.Operand.tmp 105) (Go.Operand.const (Go.Value.int Go.IntKind.i64 0)), type := 0, pos := "outright.go:42", after := #[{ on := 1, ground := Go.Ground.data }], guard := none }) (v := .pointer (some ⟨bu, ou, Option.none⟩)) [3, 6, 7, 8] rfl (by kernel_rfl) (by kernel_rfl) (by kernel_rfl) (by kernel_rfl) (fun _ _ _ h => h) (Or.inl ⟨by rfl, ?_⟩) hS0 ?_
                  · intro W9 hS9
                    obtain ⟨q0, q1, q2⟩ := hS9
                    clear q0 q1 q2
                    go_simp
                  try simp only [Act.put, List.setIfInBounds_toArray, List.set_cons_zero, List.set_cons_succ]
                  refine wpAnyL_takeT (i := 3) (oi := { dst := some 107, op := Go.Op.load 41 (Go.Operand.tmp 106), type := 41, pos := "outright.go:42", after := #[{ on := 2, ground := Go.Ground.data }], guard := none }) (v := .agg #[.int .i64 en.1, .int .u64 (en.2 : Nat)]) [6, 7, 8] rfl (by kernel_rfl) (by kernel_rfl) (by kernel_rfl) (by kernel_rfl) (fun _ _ _ h => h) (Or.inl ⟨by rfl, ?_⟩) hS0 ?_
                  · intro W9 hS9
                    obtain ⟨q0, q1, q2⟩ := hS9
                    have s0 := q1
                    have s1 := q2
                    clear q0 q1 q2
                    go_simp
                  try simp only [Act.put, List.setIfInBounds_toArray, List.set_cons_zero, List.set_cons_succ]
                  refine wpAnyL_takeT (i := 4) (oi := { dst := some 108, op := Go.Op.load 24 (Go.Operand.tmp 14), type := 24, pos := "outright.go:42", after := #[], guard := none }) (v := .agg #[.slice av nv cv]) [5, 6, 7, 8] rfl (by kernel_rfl) (by kernel_rfl) (by kernel_rfl) (by kernel_rfl) (fun _ _ _ h => h) (Or.inl ⟨by rfl, ?_⟩) hS0 ?_
                  · intro W9 hS9
                    obtain ⟨q0, q1, q2⟩ := hS9
                    have s0 : W9.cell? ⟨b14, 0, Option.none⟩ = some (.slice av nv cv) := q0.cell 0
                    clear q0 q1 q2
                    go_simp
                  try simp only [Act.put, List.setIfInBounds_toArray, List.set_cons_zero, List.set_cons_succ]
                  refine wpAnyL_one (i := 5) (o := { dst := none, op := Go.Op.store 24 (Go.Operand.tmp 5) (Go.Operand.tmp 108), type := 0, pos := "outright.go:42", after := #[{ on := 4, ground := Go.Ground.data }, { on := 0, ground := Go.Ground.textOnly Go.Departure.lateStores }, { on := 1, ground := Go.Ground.textOnly Go.Departure.lateStoresUnsure }, { on := 2, ground := Go.Ground.textOnly Go.Departure.lateStoresUnsure }, { on := 3, ground := Go.Ground.textOnly Go.Departure.lateStoresUnsure }, { on := 4, ground := Go.Ground.phase }], guard := none }) (by kernel_rfl) rfl (fun K hK => ?_)
                  have hx := HXd.out.bx
                  have c0 : Wd.cell? ⟨b5, 0, Option.none⟩ = some (.slice a n c) := hx.cell 0
                  have ltc := hx.lt
                  have f0 := hx.frozen 0
                  refine step_skip_g (by rfl) (w' := (Wd.setCell ⟨b5, 0, Option.none⟩ (.slice av nv cv))) (by go_simp) ?_
                  have hbu : ((Wd.setCell ⟨b5, 0, Option.none⟩ (.slice av nv cv))).heap[bu]? = Wd.heap[bu]? := Below.heap_setCell Wd ⟨b5, 0, Option.none⟩ _ bu (by have h9 := HBU.out; show bu ≠ b5; omega)
                  have hS5 : Rows8 (Wd.setCell ⟨b5, 0, Option.none⟩ (.slice av nv cv)) b14 24 #[.slice av nv cv] ∧ (Wd.setCell ⟨b5, 0, Option.none⟩ (.slice av nv cv)).cell? ⟨bu, ou, Option.none⟩ = some (.int .i64 en.1) ∧ (Wd.setCell ⟨b5, 0, Option.none⟩ (.slice av nv cv)).cell? ⟨bu, ou + 1, Option.none⟩ = some (.int .u64 (en.2 : Nat)) := ⟨hS0.1.setOther (a := ⟨b5, 0, Option.none⟩) (by have h9 := HBU.out; show b5 ≠ b14; omega) _, by rw [← hS0.2.1]; simp only [World.cell?, hbu], by rw [← hS0.2.2]; simp only [World.cell?, hbu]⟩
                  have HX5 := Lib.hid (HXd.out.arena HVd.out HIN.out.left)
                  clear hx c0 ltc f0 hbu HXd HVd hS0
                  refine hK.out _ _ (fun _ => hS5) ?_
                  clear hK K
                  try simp only [Act.put, List.setIfInBounds_toArray, List.set_cons_zero, List.set_cons_succ]
                  refine wpAnyL_one (i := 6) (o := { dst := some 109, op := Go.Op.mapEntry 32 (Go.Operand.tmp 104) (Go.Operand.tmp 107), type := 0, pos := "outright.go:42", after := #[{ on := 0, ground := Go.Ground.data }, { on := 3, ground := Go.Ground.data }, { on := 5, ground := Go.Ground.chain }, { on := 0, ground := Go.Ground.textOnly Go.Departure.tupleMapEntryFirst }, { on := 1, ground := Go.Ground.textOnly Go.Departure.lateStoresUnsure }, { on := 2, ground := Go.Ground.textOnly Go.Departure.lateStoresUnsure }, { on := 3, ground := Go.Ground.textOnly Go.Departure.lateStoresUnsure }, { on := 4, ground := Go.Ground.phase }, { on := 5, ground := Go.Ground.phase }], guard := none }) (by kernel_rfl) rfl (fun K hK => ?_)
                  generalize (Wd.setCell ⟨b5, 0, Option.none⟩ (.slice av nv cv)) = W5 at *
                  obtain ⟨v0, st, W6, W7, hme, hl2, hes, hc2, hg2, hg1, hs1⟩ := Try.cntE_step HX5.out.mt (by have := HCN.out; omega) (by have := HCN.out; omega) en HWF.out
                  have hme9 : (Instr.mapEntry 32 (.map (some bt)) (.agg #[.int .i64 en.1, .int .u64 (en.2 : Nat)])).run Try.prog W5 = .ok (.tuple #[v0, .int .i64 ((st : Nat) : Int)]) W6 := hme
                  have hes9 : (Instr.entryStore 32 (.map (some bt)) (.int .i64 ((st : Nat) : Int)) (.int .i64 1)).run Try.prog W6 = .ok () W7 := by rw [H0T.out] at hes; exact hes
                  have HX7 := Lib.hid (HX5.out.mapT hg2 hc2 HIN.out)
                  clear hme hes hl2 hc2 hg2 hg1 hs1
                  refine step_value_g (by rfl) (.tuple #[v0, .int .i64 ((st : Nat) : Int)]) (w' := W6) (by go_simp) ?_
                  refine hK.out _ _ (fun h => absurd h (by decide)) ?_
                  clear hK K
                  try simp only [Act.put, List.setIfInBounds_toArray, List.set_cons_zero, List.set_cons_succ]
                  refine wpAnyL_one (i := 7) (o := { dst := some 110, op := Go.Op.extract (Go.Operand.tmp 109) 1, type := 3, pos := "outright.go:42", after := #[{ on := 6, ground := Go.Ground.data }], guard := none }) (by kernel_rfl) rfl (fun K hK => ?_)
                  refine step_value_g (by rfl) (.int .i64 ((st : Nat) : Int)) (w' := W6) (by go_simp) ?_
                  refine hK.out _ _ (fun h => absurd h (by decide)) ?_
                  clear hK K
                  try simp only [Act.put, List.setIfInBounds_toArray, List.set_cons_zero, List.set_cons_succ]
                  refine wpAnyL_one (i := 8) (o := { dst := none, op := Go.Op.entryStore 32 (Go.Operand.tmp 104) (Go.Operand.tmp 110) (Go.Operand.const (Go.Value.int Go.IntKind.i64 1)), type := 0, pos := "outright.go:42", after := #[{ on := 0, ground := Go.Ground.data }, { on := 7, ground := Go.Ground.data }, { on := 6, ground := Go.Ground.chain }, { on := 0, ground := Go.Ground.phase }, { on := 1, ground := Go.Ground.phase }, { on := 2, ground := Go.Ground.phase }, { on := 3, ground := Go.Ground.phase }, { on := 4, ground := Go.Ground.phase }, { on := 5, ground := Go.Ground.phase }, { on := 6, ground := Go.Ground.phase }], guard := none }) (by kernel_rfl) rfl (fun K hK => ?_)
                  refine step_skip_g (by rfl) (w' := W7) (by go_simp) ?_
                  refine hK.out _ _ (fun h => absurd h (by decide)) ?_
                  clear hK K
                  try simp only [Act.put, List.setIfInBounds_toArray, List.set_cons_zero, List.set_cons_succ]
                  refine wpAnyL_end (by kernel_rfl) ?_
                  clear hme9 hes9 hS5 HX5
                  have hcn := HCN.out
                  go_wp2_with fail
                  go_roundg (gk - 1)
                  case measure => omega
                  case rel => exact ⟨k + 1, av, nv, cv, takeL l 1, nt + 1, ng, tk ++ [en], gv, by omega, by omega, by omega, by go_num, by omega, by omega, by (try simp only [List.length_append, List.length_cons, List.length_nil]); omega, by (try simp only [List.length_append, List.length_cons, List.length_nil]); omega, HX7⟩
          · as_aux_lemma =>
              have d0 : ((kd : Int) == 0) = false := by simp; omega
              go_upto_if 112 with fail
              go_cut [20, 54] from 54 to 173 (fun v20 v54 wc => ∃ t : Int, v20 = .int .i64 t ∧ v54 = .int .i64 k ∧ t ≠ 0 ∧ (kd = 1 → t = 1) ∧ Hid (OnW w b5 a n c l bt bg nt ng tk gv (some ⟨bm, om, Option.none⟩) nm cm wc) ∧ Hid (Rows8 wc b12 34 #[.int .i64 y, .int .i64 z]))
              case first =>
                by_cases h3 : kd = 3
                · have d3 : ((kd : Int) == 3) = true := by simp; omega
                  go_wp2_with fail
                  go_meet
                  exact ⟨2, rfl, rfl, by decide, fun h => by omega, HX1, P12⟩
                · have d3 : ((kd : Int) == 3) = false := by simp; omega
                  go_wp2_with fail
                  go_meet
                  exact ⟨1, rfl, rfl, by decide, fun _ => rfl, HX1, P12⟩
              case rest =>
                clear HX1 P12
                obtain ⟨t, rfl, rfl, ht0, ht1, HX1, P12⟩ := hcut
                have HTN := Lib.hid ht0
                have HT1 := Lib.hid ht1
                clear ht0 ht1
                have HQ := Try.Entries_any a n c l t wc HX1.out.at_
                rw [HX1.out.i.rt, if_pos rfl] at HQ
                have HQ := Lib.hid HQ
                have hx := HX1.out.bx
                have c0 : wc.cell? ⟨b5, 0, Option.none⟩ = some (.slice a n c) := hx.cell 0
                have ltc := hx.lt
                clear hx
                go_wp2_with fail
                refine HQ.out.mono ?_
                rintro r V2 ⟨v, rfl, hv, hC⟩
                obtain ⟨sa, sc, rfl⟩ := hv.form
                have HX2 := Lib.hid (HX1.out.below hC)
                have P12 := Lib.hid (P12.out.below hC P12.out.lt)
                have hlen : (ents l t).length ≤ 128 := by rw [ents_length]; exact Nat.le_trans (cnt_le l t) (rightA_iff.1 HX2.out.i.rt).1.2
                have hv9 := hv.at
                obtain ⟨ne, hne⟩ : ∃ q, q = (ents l t).length := ⟨_, rfl⟩
                rw [← hne] at hlen hv9 ⊢
                clear hv hC HQ c0 ltc HX1
                by_cases hn0 : ne = 0
                · subst hn0
                  clear hne hlen hv9
                  as_aux_lemma =>
                    have hcn := HCN.out
                    go_wp2_with fail
                    go_roundg (gk - 1)
                    case measure => omega
                    case rel => exact ⟨k + 1, a, n, c, l, nt, ng, tk, gv, by omega, by omega, by omega, by go_num, by omega, by omega, by (try simp only [List.length_append, List.length_cons, List.length_nil]); omega, by (try simp only [List.length_append, List.length_cons, List.length_nil]); omega, HX2⟩
                · have hnp : 0 < ne := Nat.pos_of_ne_zero hn0
                  obtain ⟨q, hq, hqe⟩ := who_in z hnp (by omega)
                  have hql : q < (ents l t).length := by omega
                  obtain ⟨bs, oo, rfl, hbs, y0, y1⟩ := pAt_get (show PAt V2 (.slice sa ne sc) (ents l t) by rw [hne] at hv9 ⊢; exact hv9) q hql
                  obtain ⟨en, hen⟩ : ∃ e, e = (ents l t)[q] := ⟨_, rfl⟩
                  have HEN := Lib.hid (show en ∈ ents l t by rw [hen]; exact List.getElem_mem hql)
                  rw [← hen] at y0 y1
                  have e1 : V2.cell? ⟨b12, 1, Option.none⟩ = some (.int .i64 z) := P12.out.cell 1
                  have lt12 := P12.out.lt
                  have dn0 : ((ne : Int) == 0) = false := by simp; omega
                  have hwn : IntKind.u64.wrap (ne : Int) = (ne : Int) := by rw [IntKind.wrap_u64]; omega
                  have hnz : ¬ ((ne : Int) = 0) := by omega
                  have hqi : (q : Int) < (ne : Int) := by omega
                  have hqi0 : (0 : Int) ≤ (q : Int) := by omega
                  clear hne hql hen hv9
                  go_upto_region 30 with fail
                  obtain ⟨V4, hV4⟩ : ∃ V, V = (V2.alloc (.cells #[.int .i64 en.1, .int .u64 (en.2 : Nat)] 41)).alloc (.cells #[.slice Option.none 0 0] 24) := ⟨_, rfl⟩
                  have hal : Below V2.heap.size V2 V4 := by rw [hV4]; exact (Rows8.newB).alloc (by simp) _
                  have HX4 := Lib.hid (HX2.out.below hal)
                  have P22 := Lib.hid (show Rows8 V4 V2.heap.size 41 #[.int .i64 en.1, .int .u64 (en.2 : Nat)] by rw [hV4]; exact (Rows8.new _ _ _).alloc _)
                  have P23 := Lib.hid (show Rows8 V4 (V2.heap.size + 1) 24 #[.slice Option.none 0 0] by rw [hV4]; exact rows_new2 _ _ _ _)
                  have HB23 : Hid (b5 < V2.heap.size ∧ V2.heap.size < V2.heap.size + 1 ∧ w.heap.size ≤ V2.heap.size + 1) := Lib.hid (by have h1 := HX2.out.bx.lt; have h2 := HX2.out.bl.size; omega)
                  rw [← hV4]
                  clear hal hV4 HX2 P12 y0 y1 e1 lt12 dn0 hwn hnz hqi hqi0 hqe hnp hbs hlen
                  generalize V2.heap.size + 1 = b23 at *
                  generalize V2.heap.size = b22 at *
                  by_cases hk1 : kd = 1
                  · as_aux_lemma =>
                      obtain rfl : t = 1 := HT1.out hk1
                      subst hk1
                      obtain ⟨hT, hIN⟩ := HX4.out.i.ret HEN.out
                      have HIN := Lib.hid hIN
                      clear hIN
                      have hal4 : Below V4.heap.size V4 (V4.alloc (.cells #[.int .i64 en.1, .int .u64 (en.2 : Nat)] 41)) := Rows8.newB
                      have hcl9 : OwnsP 41 V4.heap.size [en] (.slice (some ⟨V4.heap.size, 0, Option.none⟩) 1 1) (V4.alloc (.cells #[.int .i64 en.1, .int .u64 (en.2 : Nat)] 41)) := World.ownsRow_lit V4 #[.int .i64 en.1, .int .u64 (en.2 : Nat)] 1 (Nat.le_refl _) (by unfold maxLen; omega) rfl
                      have hx4 := HX4.out.below hal4
                      have HQ := Try.Retire_any a n c l (some ⟨V4.heap.size, 0, Option.none⟩) 1 1 [en] (by decide) (V4.alloc (.cells #[.int .i64 en.1, .int .u64 (en.2 : Nat)] 41)) hx4.at_ hcl9.at
                      rw [hT] at HQ
                      have HQ := Lib.hid HQ
                      have HX5 := Lib.hid hx4
                      clear hT
                      have R22 := Lib.hid (P22.out.below hal4 P22.out.lt)
                      have R23 := Lib.hid (P23.out.below hal4 P23.out.lt)
                      have hx := HX4.out.bx
                      have c0 : V4.cell? ⟨b5, 0, Option.none⟩ = some (.slice a n c) := hx.cell 0
                      have ltc := hx.lt
                      have e0 : V4.cell? ⟨b22, 0, Option.none⟩ = some (.int .i64 en.1) := P22.out.cell 0
                      have e1 : V4.cell? ⟨b22, 1, Option.none⟩ = some (.int .u64 (en.2 : Nat)) := P22.out.cell 1
                      have lte := P22.out.lt
                      clear hx hx4 hal4 hcl9 HX4 P22 P23
                      go_wp2_with fail
                      refine HQ.out.mono ?_
                      rintro r V6 ⟨v, rfl, hv, hC⟩
                      obtain ⟨av, cv, rfl⟩ := hv.form
                      have HX6 := Lib.hid (HX5.out.below hC)
                      have R22 := Lib.hid (R22.out.below hC R22.out.lt)
                      have R23 := Lib.hid (R23.out.below hC R23.out.lt)
                      have HV := Lib.hid hv.at
                      obtain ⟨nv, hnv⟩ : ∃ q, q = (retS l en).length := ⟨_, rfl⟩
                      have HNV := Lib.hid hnv
                      (try rw [← hnv])
                      have z1 : V6.cell? ⟨b23, 0, Option.none⟩ = some (.slice Option.none 0 0) := R23.out.cell 0
                      have f23 := R23.out.frozen 0
                      have l23 := R23.out.lt
                      have hv9 : PAt V6 (.slice av nv cv) (retS l en) := by have h9 := HV.out; rw [← hnv] at h9; exact h9
                      have hx7 := HX6.out
                      have hk7 : ∀ b, b < V6.heap.size → b ≠ b23 → (V6.setCell ⟨b23, 0, Option.none⟩ (.slice av nv cv)).heap[b]? = V6.heap[b]? := fun b _ hb => Below.heap_setCell V6 ⟨b23, 0, Option.none⟩ _ b hb
                      have hB7 : Below w.heap.size w (V6.setCell ⟨b23, 0, Option.none⟩ (.slice av nv cv)) := hx7.bl.setCell (p := ⟨b23, 0, Option.none⟩) (by have h9 := HB23.out; show w.heap.size ≤ b23; omega) _
                      have hs7 : V6.heap.size ≤ (V6.setCell ⟨b23, 0, Option.none⟩ (.slice av nv cv)).heap.size := by simp [World.setCell]
                      have HX7 : Hid (OnW w b5 a n c l bt bg nt ng tk gv (some ⟨bm, om, Option.none⟩) nm cm (V6.setCell ⟨b23, 0, Option.none⟩ (.slice av nv cv))) := Lib.hid ⟨hx7.bx.setOther (a := ⟨b23, 0, Option.none⟩) (by have h9 := HB23.out; show b23 ≠ b5; omega) _, row_off hx7.at_ (pVals_int _) R23.out.notInt hs7 hk7, hx7.mt.kept (grown_setCell _ _ _ _) (fun e => hx7.mt.ne R23.out (by injection e)), hx7.mg.kept (grown_setCell _ _ _ _) (fun e => hx7.mg.ne R23.out (by injection e)), hx7.mv.off R23.out.notInt hs7 hk7, hB7, hx7.i, hx7.d1, hx7.l5, hx7.lt, hx7.lg⟩
                      have HV7 : Hid (PAt (V6.setCell ⟨b23, 0, Option.none⟩ (.slice av nv cv)) (.slice av nv cv) (retS l en)) := Lib.hid (row_off hv9 (pVals_int _) R23.out.notInt hs7 hk7)
                      have R22 := Lib.hid (R22.out.setOther (a := ⟨b23, 0, Option.none⟩) (by have h9 := HB23.out; show b23 ≠ b22; omega) (.slice av nv cv))
                      have R23 : Hid (Rows8 (V6.setCell ⟨b23, 0, Option.none⟩ (.slice av nv cv)) b23 24 #[.slice av nv cv]) := Lib.hid (R23.out.set 0 _)
                      clear hv9 hx7 hk7 hB7 hs7 hv hC hnv HX6 HV c0 ltc e0 e1 lte HQ HX5
                      go_upto_region 36 with fail
                      clear z1 f23 l23
                      generalize (V6.setCell ⟨b23, 0, Option.none⟩ (.slice av nv cv)) = V8 at *
                      as_aux_lemma =>
                        have g0 : V8.cell? ⟨b23, 0, Option.none⟩ = some (.slice av nv cv) := R23.out.cell 0
                        have ltg := R23.out.lt
                        have hx := HX7.out.bx
                        have c0 : V8.cell? ⟨b5, 0, Option.none⟩ = some (.slice a n c) := hx.cell 0
                        have ltc := hx.lt
                        have f0 := hx.frozen 0
                        have HX9 := Lib.hid (HX7.out.arena HV7.out (HIN.out))
                        have R22 := Lib.hid (R22.out.setOther (a := ⟨b5, 0, Option.none⟩) (by have h9 := HB23.out; show b5 ≠ b22; omega) (.slice av nv cv))
                        clear hx HX7 HV7
                        go_upto_region 39 with fail
                        clear g0 ltg c0 ltc f0
                        generalize (V8.setCell ⟨b5, 0, Option.none⟩ (.slice av nv cv)) = V9 at *
                        as_aux_lemma =>
                          have HXr : Hid (OnW w b5 av nv cv (retS l en) bt bg nt (ng) tk (gv) (some ⟨bm, om, Option.none⟩) nm cm V9) := HX9
                          obtain ⟨Dg, hown, hD⟩ := HXr.out.mg
                          have HD := Lib.hid hD
                          clear hD
                          go_wp2_with (first
                            | (at_range; refine wpList_range_own _ rfl _ 32 rfl 41 3 Try.keyedE Try.underlying32 _ bg (ng) Dg rfl hown ?_; intro w8 hrg0 hg0 hs0))
                          go_frame
                          clear hs0 hown
                          go_loopw [] (fun wr => ∃ (left : Lit → Bool) (cn : Nat), wr.ranges Try.prog 41 (plainElem Try.prog 3) bg V9.heap.size (ng) Dg left cn ∧ Hid (V9.grownBy wr Option.none) ∧ Hid (∀ kl, left kl = true → ∃ p ∈ (gv), kl = kE p)) (fun wr => wr.rangeLeft bg V9.heap.size)
                          case atStart => exact ⟨_, _, hrg0, Lib.hid hg0, Lib.hid (fun kl h => (HD.out.2.1 kl).1 h)⟩
                          case round =>
                            clear hrg0 hg0
                            obtain ⟨left, cn, hrg, hgw, hL⟩ := hrel
                            go_wp2_with (first
                              | (at_next; refine wpList_next_ranges _ rfl _ rfl 41 Try.keyedE (plainElem Try.prog 3) (fun v : Value => v) (fun v : Value => v) (fun v _ _ => ⟨v, rfl⟩) (fun v _ _ => ⟨v, rfl⟩) bg V9.heap.size (ng) Dg left cn rfl hrg ?_ ?_))
                            · intro _ _
                              have hg9 := hgw.out
                              have HX9 := Lib.hid (HXr.out.below ⟨hg9.os, hg9.tape, hg9.output, hg9.size, fun k hk => hg9.block k hk (by simp)⟩)
                              clear hg9 hrg hgw hL HXr
                              have hcn := HCN.out
                              go_wp2_with fail
                              go_roundg (gk - 1)
                              case measure => omega
                              case rel => exact ⟨k + 1, av, nv, cv, retS l en, nt, ng, tk, gv, by omega, by omega, by omega, by go_num, by omega, by omega, by (try simp only [List.length_append, List.length_cons, List.length_nil]); omega, by (try simp only [List.length_append, List.length_cons, List.length_nil]); omega, HX9⟩
                            · intro key cv9 kl ya yb w11 cnt1 hkey hleft hv9 hat hrg1 hlt9 hg1 hs1 hen
                              obtain ⟨pk, hpk, rfl⟩ := hL.out kl hleft
                              obtain rfl : key = .agg #[.int .i64 pk.1, .int .u64 (pk.2 : Nat)] := Try.keyedE.inj hkey (Try.keyE (HD.out.2.2.2 pk hpk))
                              have hgw1 := hgw.out.andThen hg1 (fun j hj => by cases hj; exact Or.inl (Nat.le_refl _))
                              have HX9 : Hid (OnW w b5 av nv cv (retS l en) bt bg nt (ng) tk (gv) (some ⟨bm, om, Option.none⟩) nm cm w11) := Lib.hid (HXr.out.below ⟨hgw1.os, hgw1.tape, hgw1.output, hgw1.size, fun k hk => hgw1.block k hk (by simp)⟩)
                              have HPK := Lib.hid hpk
                              obtain ⟨X1, hX1⟩ : ∃ X, X = w11.alloc (.cells #[.int .i64 pk.1, .int .u64 (pk.2 : Nat)] 41) := ⟨_, rfl⟩
                              obtain ⟨b25, hb25⟩ : ∃ b, b = w11.heap.size := ⟨_, rfl⟩
                              have hal : Below w11.heap.size w11 X1 := by rw [hX1]; exact Rows8.newB
                              have hga : w11.grownBy X1 Option.none := ⟨hal.os, hal.tape, hal.output, hal.size, fun k hk _ => hal.block k hk⟩
                              have hrg2 := hrg1.kept hga (by simp) (by simp)
                              have hgw2 := hgw1.andThen hga (fun j hj => by cases hj)
                              have HX10 := Lib.hid (HX9.out.below hal)
                              have P25 := Lib.hid (show Rows8 X1 b25 41 #[.int .i64 pk.1, .int .u64 (pk.2 : Nat)] by rw [hX1, hb25]; exact Rows8.new _ _ _)
                              have HQ := Try.Tag_any av nv cv (retS l en) pk X1 HX10.out.at_
                              rw [HX10.out.i.rt, if_pos rfl, HX10.out.i.none HPK.out, tagA_no (HX10.out.i.none HPK.out)] at HQ
                              have HQ := Lib.hid HQ
                              have HLT := Lib.hid (show cnt1 < cn from hlt9)
                              clear hkey hleft hv9 hat hrg1 hg1 hs1 hgw1 hal hga hgw HX9 hlt9
                              go_upto_region 42 with fail
                              rw [← hX1, ← hb25]
                              clear hen hX1 hb25
                              have hx := HX10.out.bx
                              have c0 : X1.cell? ⟨b5, 0, Option.none⟩ = some (.slice (av) (nv) (cv)) := hx.cell 0
                              have ltc := hx.lt
                              have e0 : X1.cell? ⟨b25, 0, Option.none⟩ = some (.int .i64 pk.1) := P25.out.cell 0
                              have e1 : X1.cell? ⟨b25, 1, Option.none⟩ = some (.int .u64 (pk.2 : Nat)) := P25.out.cell 1
                              have lte := P25.out.lt
                              clear hx
                              go_wp2_with fail
                              refine HQ.out.mono ?_
                              rintro r X2 ⟨rfl, hC⟩
                              have hga : X1.grownBy X2 Option.none := ⟨hC.os, hC.tape, hC.output, hC.size, fun k hk _ => hC.block k hk⟩
                              have hrg3 := hrg2.kept hga (by simp) (by simp)
                              have hgw3 := Lib.hid (hgw2.andThen hga (fun j hj => by cases hj))
                              have HL3 := Lib.hid (show ∀ kl, (left kl && !kl.sameKey (kE pk)) = true → ∃ p ∈ (gv), kl = kE p from fun kl h => hL.out kl (by simp at h; exact h.1))
                              have HLE := Lib.hid (show X2.rangeLeft bg V9.heap.size < wr.rangeLeft bg V9.heap.size by rw [hrg3.left_eq, hrg.left_eq]; exact HLT.out)
                              clear hC hga hrg2 hgw2 HQ c0 ltc e0 e1 lte hrg
                              go_wp2_with fail
                              go_roundw
                              case rel => exact ⟨_, _, hrg3, hgw3, HL3⟩
                              case measure => exact HLE.out
                  · as_aux_lemma =>
                      have d1 : ((kd : Int) == 1) = false := by simp; omega
                      have d1b : ((kd : Int) != 1) = true := by simp; omega
                      rcases HX4.out.i.giv HTN.out HEN.out with ⟨hM, hT⟩ | ⟨hT, hIN, h0g, hwf⟩
                      · have HMX := Lib.hid hM
                        clear hM
                        have hal4 : Below V4.heap.size V4 (V4.alloc (.cells #[.int .i64 en.1, .int .u64 (en.2 : Nat)] 41)) := Rows8.newB
                        have hcl9 : OwnsP 41 V4.heap.size [en] (.slice (some ⟨V4.heap.size, 0, Option.none⟩) 1 1) (V4.alloc (.cells #[.int .i64 en.1, .int .u64 (en.2 : Nat)] 41)) := World.ownsRow_lit V4 #[.int .i64 en.1, .int .u64 (en.2 : Nat)] 1 (Nat.le_refl _) (by unfold maxLen; omega) rfl
                        have hx4 := HX4.out.below hal4
                        have HQ := Try.Give_any a n c l (some ⟨V4.heap.size, 0, Option.none⟩) 1 1 [en] (by decide) (V4.alloc (.cells #[.int .i64 en.1, .int .u64 (en.2 : Nat)] 41)) hx4.at_ hcl9.at
                        rw [hT] at HQ
                        have HQ := Lib.hid HQ
                        have HX5 := Lib.hid hx4
                        clear hT
                        have R22 := Lib.hid (P22.out.below hal4 P22.out.lt)
                        have R23 := Lib.hid (P23.out.below hal4 P23.out.lt)
                        have hx := HX4.out.bx
                        have c0 : V4.cell? ⟨b5, 0, Option.none⟩ = some (.slice a n c) := hx.cell 0
                        have ltc := hx.lt
                        have e0 : V4.cell? ⟨b22, 0, Option.none⟩ = some (.int .i64 en.1) := P22.out.cell 0
                        have e1 : V4.cell? ⟨b22, 1, Option.none⟩ = some (.int .u64 (en.2 : Nat)) := P22.out.cell 1
                        have lte := P22.out.lt
                        clear hx hx4 hal4 hcl9 HX4 P22 P23
                        go_wp2_with fail
                        refine HQ.out.mono ?_
                        rintro r V6 ⟨v, rfl, hv, hC⟩
                        obtain ⟨av, cv, rfl⟩ := hv.form
                        have HX6 := Lib.hid (HX5.out.below hC)
                        have R22 := Lib.hid (R22.out.below hC R22.out.lt)
                        have R23 := Lib.hid (R23.out.below hC R23.out.lt)
                        have HV := Lib.hid hv.at
                        obtain ⟨nv, hnv⟩ : ∃ q, q = (([] : List Pr)).length := ⟨_, rfl⟩
                        have z1 : V6.cell? ⟨b23, 0, Option.none⟩ = some (.slice Option.none 0 0) := R23.out.cell 0
                        have f23 := R23.out.frozen 0
                        have l23 := R23.out.lt
                        have hx7 := HX6.out
                        have hk7 : ∀ b, b < V6.heap.size → b ≠ b23 → (V6.setCell ⟨b23, 0, Option.none⟩ (.slice av 0 cv)).heap[b]? = V6.heap[b]? := fun b _ hb => Below.heap_setCell V6 ⟨b23, 0, Option.none⟩ _ b hb
                        have hB7 : Below w.heap.size w (V6.setCell ⟨b23, 0, Option.none⟩ (.slice av 0 cv)) := hx7.bl.setCell (p := ⟨b23, 0, Option.none⟩) (by have h9 := HB23.out; show w.heap.size ≤ b23; omega) _
                        have hs7 : V6.heap.size ≤ (V6.setCell ⟨b23, 0, Option.none⟩ (.slice av 0 cv)).heap.size := by simp [World.setCell]
                        have HX7 : Hid (OnW w b5 a n c l bt bg nt ng tk gv (some ⟨bm, om, Option.none⟩) nm cm (V6.setCell ⟨b23, 0, Option.none⟩ (.slice av 0 cv))) := Lib.hid ⟨hx7.bx.setOther (a := ⟨b23, 0, Option.none⟩) (by have h9 := HB23.out; show b23 ≠ b5; omega) _, row_off hx7.at_ (pVals_int _) R23.out.notInt hs7 hk7, hx7.mt.kept (grown_setCell _ _ _ _) (fun e => hx7.mt.ne R23.out (by injection e)), hx7.mg.kept (grown_setCell _ _ _ _) (fun e => hx7.mg.ne R23.out (by injection e)), hx7.mv.off R23.out.notInt hs7 hk7, hB7, hx7.i, hx7.d1, hx7.l5, hx7.lt, hx7.lg⟩
                        have R22 := Lib.hid (R22.out.setOther (a := ⟨b23, 0, Option.none⟩) (by have h9 := HB23.out; show b23 ≠ b22; omega) (.slice av 0 cv))
                        clear hx7 hk7 hB7 hs7 hv hC hnv HX6 HV c0 ltc e0 e1 lte HQ HX5
                        go_upto_region 34 with fail
                        (try simp only [List.length_nil])
                        have w1 : (V6.setCell ⟨b23, 0, Option.none⟩ (.slice av 0 cv)).cell? ⟨b22, 1, Option.none⟩ = some (.int .u64 1099511627775) := by rw [R22.out.cell 1, HMX.out]; rfl
                        have lw := R22.out.lt
                        clear z1 f23 l23 R22 R23
                        generalize (V6.setCell ⟨b23, 0, Option.none⟩ (.slice av 0 cv)) = V8 at *
                        as_aux_lemma =>
                          have hcn := HCN.out
                          go_wp2_with fail
                          go_roundg (gk - 1)
                          case measure => omega
                          case rel => exact ⟨k + 1, a, n, c, l, nt, ng, tk, gv, by omega, by omega, by omega, by go_num, by omega, by omega, by (try simp only [List.length_append, List.length_cons, List.length_nil]); omega, by (try simp only [List.length_append, List.length_cons, List.length_nil]); omega, HX7⟩
                      · have HIN := Lib.hid hIN
                        have H0G := Lib.hid h0g
                        have HWF := Lib.hid hwf
                        clear hIN h0g hwf
                        have hal4 : Below V4.heap.size V4 (V4.alloc (.cells #[.int .i64 en.1, .int .u64 (en.2 : Nat)] 41)) := Rows8.newB
                        have hcl9 : OwnsP 41 V4.heap.size [en] (.slice (some ⟨V4.heap.size, 0, Option.none⟩) 1 1) (V4.alloc (.cells #[.int .i64 en.1, .int .u64 (en.2 : Nat)] 41)) := World.ownsRow_lit V4 #[.int .i64 en.1, .int .u64 (en.2 : Nat)] 1 (Nat.le_refl _) (by unfold maxLen; omega) rfl
                        have hx4 := HX4.out.below hal4
                        have HQ := Try.Give_any a n c l (some ⟨V4.heap.size, 0, Option.none⟩) 1 1 [en] (by decide) (V4.alloc (.cells #[.int .i64 en.1, .int .u64 (en.2 : Nat)] 41)) hx4.at_ hcl9.at
                        rw [hT] at HQ
                        have HQ := Lib.hid HQ
                        have HX5 := Lib.hid hx4
                        clear hT
                        have R22 := Lib.hid (P22.out.below hal4 P22.out.lt)
                        have R23 := Lib.hid (P23.out.below hal4 P23.out.lt)
                        have hx := HX4.out.bx
                        have c0 : V4.cell? ⟨b5, 0, Option.none⟩ = some (.slice a n c) := hx.cell 0
                        have ltc := hx.lt
                        have e0 : V4.cell? ⟨b22, 0, Option.none⟩ = some (.int .i64 en.1) := P22.out.cell 0
                        have e1 : V4.cell? ⟨b22, 1, Option.none⟩ = some (.int .u64 (en.2 : Nat)) := P22.out.cell 1
                        have lte := P22.out.lt
                        clear hx hx4 hal4 hcl9 HX4 P22 P23
                        go_wp2_with fail
                        refine HQ.out.mono ?_
                        rintro r V6 ⟨v, rfl, hv, hC⟩
                        obtain ⟨av, cv, rfl⟩ := hv.form
                        have HX6 := Lib.hid (HX5.out.below hC)
                        have R22 := Lib.hid (R22.out.below hC R22.out.lt)
                        have R23 := Lib.hid (R23.out.below hC R23.out.lt)
                        have HV := Lib.hid hv.at
                        obtain ⟨nv, hnv⟩ : ∃ q, q = (givS l en).length := ⟨_, rfl⟩
                        have HNV := Lib.hid hnv
                        (try rw [← hnv])
                        have z1 : V6.cell? ⟨b23, 0, Option.none⟩ = some (.slice Option.none 0 0) := R23.out.cell 0
                        have f23 := R23.out.frozen 0
                        have l23 := R23.out.lt
                        have hv9 : PAt V6 (.slice av nv cv) (givS l en) := by have h9 := HV.out; rw [← hnv] at h9; exact h9
                        have hx7 := HX6.out
                        have hk7 : ∀ b, b < V6.heap.size → b ≠ b23 → (V6.setCell ⟨b23, 0, Option.none⟩ (.slice av nv cv)).heap[b]? = V6.heap[b]? := fun b _ hb => Below.heap_setCell V6 ⟨b23, 0, Option.none⟩ _ b hb
                        have hB7 : Below w.heap.size w (V6.setCell ⟨b23, 0, Option.none⟩ (.slice av nv cv)) := hx7.bl.setCell (p := ⟨b23, 0, Option.none⟩) (by have h9 := HB23.out; show w.heap.size ≤ b23; omega) _
                        have hs7 : V6.heap.size ≤ (V6.setCell ⟨b23, 0, Option.none⟩ (.slice av nv cv)).heap.size := by simp [World.setCell]
                        have HX7 : Hid (OnW w b5 a n c l bt bg nt ng tk gv (some ⟨bm, om, Option.none⟩) nm cm (V6.setCell ⟨b23, 0, Option.none⟩ (.slice av nv cv))) := Lib.hid ⟨hx7.bx.setOther (a := ⟨b23, 0, Option.none⟩) (by have h9 := HB23.out; show b23 ≠ b5; omega) _, row_off hx7.at_ (pVals_int _) R23.out.notInt hs7 hk7, hx7.mt.kept (grown_setCell _ _ _ _) (fun e => hx7.mt.ne R23.out (by injection e)), hx7.mg.kept (grown_setCell _ _ _ _) (fun e => hx7.mg.ne R23.out (by injection e)), hx7.mv.off R23.out.notInt hs7 hk7, hB7, hx7.i, hx7.d1, hx7.l5, hx7.lt, hx7.lg⟩
                        have HV7 : Hid (PAt (V6.setCell ⟨b23, 0, Option.none⟩ (.slice av nv cv)) (.slice av nv cv) (givS l en)) := Lib.hid (row_off hv9 (pVals_int _) R23.out.notInt hs7 hk7)
                        have R22 := Lib.hid (R22.out.setOther (a := ⟨b23, 0, Option.none⟩) (by have h9 := HB23.out; show b23 ≠ b22; omega) (.slice av nv cv))
                        have R23 : Hid (Rows8 (V6.setCell ⟨b23, 0, Option.none⟩ (.slice av nv cv)) b23 24 #[.slice av nv cv]) := Lib.hid (R23.out.set 0 _)
                        clear hv9 hx7 hk7 hB7 hs7 hv hC hnv HX6 HV c0 ltc e0 e1 lte HQ HX5
                        go_upto_region 36 with fail
                        clear z1 f23 l23
                        generalize (V6.setCell ⟨b23, 0, Option.none⟩ (.slice av nv cv)) = V8 at *
                        as_aux_lemma =>
                          have g0 : V8.cell? ⟨b23, 0, Option.none⟩ = some (.slice av nv cv) := R23.out.cell 0
                          have ltg := R23.out.lt
                          have hx := HX7.out.bx
                          have c0 : V8.cell? ⟨b5, 0, Option.none⟩ = some (.slice a n c) := hx.cell 0
                          have ltc := hx.lt
                          have f0 := hx.frozen 0
                          have HX9 := Lib.hid (HX7.out.arena HV7.out (HIN.out.leftG))
                          have R22 := Lib.hid (R22.out.setOther (a := ⟨b5, 0, Option.none⟩) (by have h9 := HB23.out; show b5 ≠ b22; omega) (.slice av nv cv))
                          clear hx HX7 HV7
                          go_upto_region 38 with fail
                          clear g0 ltg c0 ltc f0
                          generalize (V8.setCell ⟨b5, 0, Option.none⟩ (.slice av nv cv)) = V9 at *
                          as_aux_lemma =>
                            have e0 : V9.cell? ⟨b22, 0, Option.none⟩ = some (.int .i64 en.1) := R22.out.cell 0
                            have e1 : V9.cell? ⟨b22, 1, Option.none⟩ = some (.int .u64 (en.2 : Nat)) := R22.out.cell 1
                            have lte := R22.out.lt
                            obtain ⟨V10, hup, hc2, hg2⟩ := Try.cntE_upd HX9.out.mg (by have := HCN.out; omega) en HWF.out H0G.out
                            have HX10 := Lib.hid (HX9.out.mapG hg2 hc2 HIN.out)
                            clear hc2 hg2 HX9
                            go_upto_region 39 with fail
                            clear e0 e1 lte hup
                            have HXr : Hid (OnW w b5 av nv cv (givS l en) bt bg nt (ng + 1) tk (gv ++ [en]) (some ⟨bm, om, Option.none⟩) nm cm V10) := HX10
                            obtain ⟨Dg, hown, hD⟩ := HXr.out.mg
                            have HD := Lib.hid hD
                            clear hD
                            go_wp2_with (first
                              | (at_range; refine wpList_range_own _ rfl _ 32 rfl 41 3 Try.keyedE Try.underlying32 _ bg (ng + 1) Dg rfl hown ?_; intro w8 hrg0 hg0 hs0))
                            go_frame
                            clear hs0 hown
                            go_loopw [] (fun wr => ∃ (left : Lit → Bool) (cn : Nat), wr.ranges Try.prog 41 (plainElem Try.prog 3) bg V10.heap.size (ng + 1) Dg left cn ∧ Hid (V10.grownBy wr Option.none) ∧ Hid (∀ kl, left kl = true → ∃ p ∈ (gv ++ [en]), kl = kE p)) (fun wr => wr.rangeLeft bg V10.heap.size)
                            case atStart => exact ⟨_, _, hrg0, Lib.hid hg0, Lib.hid (fun kl h => (HD.out.2.1 kl).1 h)⟩
                            case round =>
                              clear hrg0 hg0
                              obtain ⟨left, cn, hrg, hgw, hL⟩ := hrel
                              go_wp2_with (first
                                | (at_next; refine wpList_next_ranges _ rfl _ rfl 41 Try.keyedE (plainElem Try.prog 3) (fun v : Value => v) (fun v : Value => v) (fun v _ _ => ⟨v, rfl⟩) (fun v _ _ => ⟨v, rfl⟩) bg V10.heap.size (ng + 1) Dg left cn rfl hrg ?_ ?_))
                              · intro _ _
                                have hg9 := hgw.out
                                have HX9 := Lib.hid (HXr.out.below ⟨hg9.os, hg9.tape, hg9.output, hg9.size, fun k hk => hg9.block k hk (by simp)⟩)
                                clear hg9 hrg hgw hL HXr
                                have hcn := HCN.out
                                go_wp2_with fail
                                go_roundg (gk - 1)
                                case measure => omega
                                case rel => exact ⟨k + 1, av, nv, cv, givS l en, nt, ng + 1, tk, gv ++ [en], by omega, by omega, by omega, by go_num, by omega, by omega, by (try simp only [List.length_append, List.length_cons, List.length_nil]); omega, by (try simp only [List.length_append, List.length_cons, List.length_nil]); omega, HX9⟩
                              · intro key cv9 kl ya yb w11 cnt1 hkey hleft hv9 hat hrg1 hlt9 hg1 hs1 hen
                                obtain ⟨pk, hpk, rfl⟩ := hL.out kl hleft
                                obtain rfl : key = .agg #[.int .i64 pk.1, .int .u64 (pk.2 : Nat)] := Try.keyedE.inj hkey (Try.keyE (HD.out.2.2.2 pk hpk))
                                have hgw1 := hgw.out.andThen hg1 (fun j hj => by cases hj; exact Or.inl (Nat.le_refl _))
                                have HX9 : Hid (OnW w b5 av nv cv (givS l en) bt bg nt (ng + 1) tk (gv ++ [en]) (some ⟨bm, om, Option.none⟩) nm cm w11) := Lib.hid (HXr.out.below ⟨hgw1.os, hgw1.tape, hgw1.output, hgw1.size, fun k hk => hgw1.block k hk (by simp)⟩)
                                have HPK := Lib.hid hpk
                                obtain ⟨X1, hX1⟩ : ∃ X, X = w11.alloc (.cells #[.int .i64 pk.1, .int .u64 (pk.2 : Nat)] 41) := ⟨_, rfl⟩
                                obtain ⟨b25, hb25⟩ : ∃ b, b = w11.heap.size := ⟨_, rfl⟩
                                have hal : Below w11.heap.size w11 X1 := by rw [hX1]; exact Rows8.newB
                                have hga : w11.grownBy X1 Option.none := ⟨hal.os, hal.tape, hal.output, hal.size, fun k hk _ => hal.block k hk⟩
                                have hrg2 := hrg1.kept hga (by simp) (by simp)
                                have hgw2 := hgw1.andThen hga (fun j hj => by cases hj)
                                have HX10 := Lib.hid (HX9.out.below hal)
                                have P25 := Lib.hid (show Rows8 X1 b25 41 #[.int .i64 pk.1, .int .u64 (pk.2 : Nat)] by rw [hX1, hb25]; exact Rows8.new _ _ _)
                                have HQ := Try.Tag_any av nv cv (givS l en) pk X1 HX10.out.at_
                                rw [HX10.out.i.rt, if_pos rfl, HX10.out.i.none HPK.out, tagA_no (HX10.out.i.none HPK.out)] at HQ
                                have HQ := Lib.hid HQ
                                have HLT := Lib.hid (show cnt1 < cn from hlt9)
                                clear hkey hleft hv9 hat hrg1 hg1 hs1 hgw1 hal hga hgw HX9 hlt9
                                go_upto_region 42 with fail
                                rw [← hX1, ← hb25]
                                clear hen hX1 hb25
                                have hx := HX10.out.bx
                                have c0 : X1.cell? ⟨b5, 0, Option.none⟩ = some (.slice (av) (nv) (cv)) := hx.cell 0
                                have ltc := hx.lt
                                have e0 : X1.cell? ⟨b25, 0, Option.none⟩ = some (.int .i64 pk.1) := P25.out.cell 0
                                have e1 : X1.cell? ⟨b25, 1, Option.none⟩ = some (.int .u64 (pk.2 : Nat)) := P25.out.cell 1
                                have lte := P25.out.lt
                                clear hx
                                go_wp2_with fail
                                refine HQ.out.mono ?_
                                rintro r X2 ⟨rfl, hC⟩
                                have hga : X1.grownBy X2 Option.none := ⟨hC.os, hC.tape, hC.output, hC.size, fun k hk _ => hC.block k hk⟩
                                have hrg3 := hrg2.kept hga (by simp) (by simp)
                                have hgw3 := Lib.hid (hgw2.andThen hga (fun j hj => by cases hj))
                                have HL3 := Lib.hid (show ∀ kl, (left kl && !kl.sameKey (kE pk)) = true → ∃ p ∈ (gv ++ [en]), kl = kE p from fun kl h => hL.out kl (by simp at h; exact h.1))
                                have HLE := Lib.hid (show X2.rangeLeft bg V10.heap.size < wr.rangeLeft bg V10.heap.size by rw [hrg3.left_eq, hrg.left_eq]; exact HLT.out)
                                clear hC hga hrg2 hgw2 HQ c0 ltc e0 e1 lte hrg
                                go_wp2_with fail
                                go_roundw
                                case rel => exact ⟨_, _, hrg3, hgw3, HL3⟩
                                case measure => exact HLE.out
      · have hki : ¬ (k : Int) < (nm : Int) := by omega
        as_aux_lemma =>
          have HX := Lib.hid (hX.out)
          have HQ := Try.Counts_any a n c l wr HX.out.at_
          rw [HX.out.i.rt, if_pos rfl, if_pos rfl, if_pos rfl] at HQ
          have HQ := Lib.hid HQ
          have hx := HX.out.bx
          have c0 : wr.cell? ⟨b5, 0, Option.none⟩ = some (.slice a n c) := hx.cell 0
          have ltc := hx.lt
          clear hx
          go_wp2_with fail
          refine HQ.out.mono ?_
          rintro e V1 ⟨rfl, hC⟩
          have HX := Lib.hid (HX.out.below hC)
          have HQ := Try.Check_any a n c l V1 HX.out.at_
          rw [HX.out.i.rt, if_pos rfl] at HQ
          have HQ := Lib.hid HQ
          clear hC c0 ltc
          have hx := HX.out.bx
          have c0 : V1.cell? ⟨b5, 0, Option.none⟩ = some (.slice a n c) := hx.cell 0
          have ltc := hx.lt
          clear hx
          go_wp2_with fail
          refine HQ.out.mono ?_
          rintro e V2 ⟨rfl, hC⟩
          have HX := Lib.hid (HX.out.below hC)
          have hsum := cnt_all l (rightA_iff.1 HX.out.i.rt).2
          have hlen := (pAt_len HX.out.at_).1
          have h128 := (rightA_iff.1 HX.out.i.rt).1.2
          obtain ⟨q0, hq0⟩ : ∃ q, q = cnt l 0 := ⟨_, rfl⟩
          obtain ⟨q1, hq1⟩ : ∃ q, q = cnt l 1 := ⟨_, rfl⟩
          obtain ⟨q2, hq2⟩ : ∃ q, q = cnt l 2 := ⟨_, rfl⟩
          rw [← hq0, ← hq1, ← hq2] at hsum ⊢
          have hs1 : (q0 : Int) + (q1 : Int) + (q2 : Int) = (n : Int) := by omega
          have hs2 : q0 + q1 + q2 = n := by omega
          have hw1 : IntKind.i64.wrap ((q0 : Int) + (q1 : Int)) = (q0 : Int) + (q1 : Int) := IntWalk.i64_in _ (by omega)
          have hw2 : IntKind.i64.wrap ((q0 : Int) + (q1 : Int) + (q2 : Int)) = (n : Int) := by rw [IntWalk.i64_in _ (by omega)]; exact hs1
          have HW3 := Lib.hid (show wrap64 (n : Int) = (n : Int) from wrap_small (by omega) (by omega))
          have hx := HX.out.bx
          have c0 : V2.cell? ⟨b5, 0, Option.none⟩ = some (.slice a n c) := hx.cell 0
          have ltc := hx.lt
          have HBL := Lib.hid HX.out.bl
          clear hx hC HQ hlen hsum hq0 hq1 hq2 HX
          go_wp2_with fail
          go_ret
          exact ⟨by simp [HW3.out], HBL.out⟩
theorem own : ownKnob Try.prog.godebug = none := by kernel_rfl
theorem laidOut : laidOutB Try.prog = true := by kernel_rfl
set_option maxRecDepth 100000 in
theorem lifted (os : Os) (started : os.Started) (H : Type) (enc : TypeId × Value → H) :
    ReturnsInHanded {} Try.checked os 3 .any (Rows.arenaOnceSpec.pre6 enc Try.prog Try.f3 Rows.arenaOnceRow.domain false) (Rows.arenaOnceSpec.post enc Try.prog Try.f3 false true false false) := by
  refine returnsInHanded_of_change (C := Try.checked) own started (by kernel_rfl) Try.func3
    (ChangeSpec.witness6 (enc := enc) (C := Try.checked) false ⟨#[], #[.agg #[.slice none 0 0], .slice none 0 0], []⟩ 8 (by kernel_rfl) (by kernel_rfl) (by kernel_rfl) (by kernel_rfl)) ?_
  intro W base args ds gs before hval0 hW hcnd _
  have hval : ∀ (j : Nat) t v, Try.f3.params[j]? = some t → args[j]? = some v → Value.okWide Try.prog W .any base t v := hval0
  have hW' := hW
  obtain ⟨p, q, hA0, hV, rfl, hfz, hnd⟩ := hW
  have hA : DataW.TrodAll enc Try.prog W 0 (fun _ => true) true Try.f3.params.toList args.toList ds p := hA0
  rw [Try.params3] at hA hval
  obtain ⟨v0, vs0, d0, ds0, p0, q0, hargs, rfl, rfl, h0, r0⟩ := trodAll_cons hA
  obtain ⟨v1, vs1, d1, ds1, p1, q1, rfl, rfl, rfl, h1, r1⟩ := trodAll_cons r0
  obtain ⟨rfl, rfl, rfl⟩ := trodAll_nil r1
  obtain rfl : args = #[v0, v1] := by cases args; simp_all
  obtain ⟨rfl, rfl⟩ := trodVars_none hV
  have k0 := h0
  have lt0 : ∀ x ∈ p0, x.block < W.heap.size := by obtain ⟨m, hm⟩ := k0; exact DataW.trod_lt m _ _ _ hm
  obtain ⟨g0, rfl, w0⟩ := open_arena (hval 0 24 v0 rfl rfl) h0
  obtain ⟨a1, len1, cap1, rfl⟩ := okWide_slice Try.underlying25 (hval 1 25 v1 rfl rfl)
  have k1 := h1
  have lt1 : ∀ x ∈ p1, x.block < W.heap.size := by obtain ⟨m, hm⟩ := k1; exact DataW.trod_lt m _ _ _ hm
  have w1 : MovAt W a1 len1 cap1 := by
    obtain ⟨fuel, hf⟩ := h1
    exact open_moves hf
  clear hA0 hval0
  refine (walk g0 a1 len1 cap1 W w0 w1).mono fun e W' ⟨he, bel⟩ => ?_
  subst he
  exact ⟨_, rfl, _, _, _, [], _, [], hW', trodAll_mk1 (shut_bool Try.underlying4 _), (trodAll_cons_mk (Below.trod laidOut (by kernel_rfl) (of_decide_eq_true (by kernel_rfl)) k0 bel lt0) (trodAll_cons_mk (Below.trod laidOut (by kernel_rfl) (of_decide_eq_true (by kernel_rfl)) k1 bel lt1) trodAll_mk0)), rfl, bel.frame _, fun h => by cases h⟩

theorem over : Rows.arenaOnceRow.holds Try.pinned (OpenSpec.ofChange Rows.arenaOnceSpec) :=
  OpenClaim.holds_of_wide 3 Try.f3 rfl rfl rfl rfl rfl rfl rfl ⟨rfl, rfl, rfl, rfl, rfl⟩ rfl rfl rfl rfl rfl (by kernel_rfl) Try.func3 (by kernel_rfl)
    (of_decide_eq_true (by kernel_rfl)) (by unfold Func.isWrapper; first | (rw [if_pos (by decide +kernel)]; kernel_rfl) | (rw [if_neg (by decide +kernel)]; exact ⟨rfl, rfl⟩))
    (fun os started H enc _ => lifted os started H enc)

theorem proved : Rows.ArenaOnceSaid := over
end Go.Proofs.Ytmcancccihffhaa.arenaOnce
