/- Next; laps. -/
import Derived.Test.YtmkpjpdjjdmklaaKo
namespace Go.Proofs
open Go.RowKit Go.Shelf
attribute [local go_sem] Oper.semAt_some

def nextR (N : Int) (ts : List Tn) (can : List Int) : Int × Int := if rightB N ts = true then (if canB N can = true then (mostB (fun g => waitB g ts) can, 0) else (0, 2)) else (0, 140)

set_option maxRecDepth 100000 in
set_option maxHeartbeats 400000 in
theorem Try.Next_any (N : Int) (a : Option Addr) (n cap : Nat) (ts : List Tn) (hlen : n ≤ 1000) (a2 : Option Addr) (m cap2 : Nat) (can : List Int) (hm : m = can.length) (w : World) (hI : TurnsAt w (.slice a n cap) ts) (hC : IntsAt w (.slice a2 m cap2) can) :
    Calls Try.prog 29 #[.int .i64 N, .slice a n cap, .slice a2 m cap2] w fun e w' => e = .returned (.tuple #[.int .i64 (nextR N ts can).1, .int .i64 (nextR N ts can).2]) ∧ Below w.heap.size w w' := by
  have r0 := Rows8.new w 32 #[.slice a n cap]
  have hB0 : Below w.heap.size w (w.alloc (.cells #[.slice a n cap] 32)) := (Below.refl _ w).alloc (Nat.le_refl _) _
  have hI0 := hI.below hB0
  have hC0 := RowAt.below hC hB0
  have hCh := Try.Check_any N a n cap ts _ hI0
  have HCH := Lib.hid hCh
  have HM := Lib.hid hm
  have R0 := Lib.hid r0
  have HB0 := Lib.hid hB0
  have HI0 := Lib.hid hI0
  have HC0 := Lib.hid hC0
  clear hI hC hCh r0 hB0 hI0 hC0 hm
  cases hr : rightB N ts with
  | false =>
    have e1 : nextR N ts can = (0, 140) := by unfold nextR; rw [if_neg (by rw [hr]; decide)]
    have e2 : checkB N ts = 140 := by unfold checkB; rw [if_neg (by rw [hr]; decide)]
    rw [e1]
    rw [e2] at HCH
    clear hr e1 e2
    go_enter Try.func29, Try.ntmps29
    go_wp2_with fail
    refine HCH.out.mono ?_
    rintro e w' ⟨rfl, hB⟩
    have HB := Lib.hid (HB0.out.trans (hB.mono HB0.out.size))
    clear hB
    go_wp2_with fail
    go_ret2
    exact ⟨rfl, HB.out⟩
  | true =>
    obtain ⟨q, rfl, hq1, hq8⟩ := rightB_n hr
    have e2 : checkB q ts = 0 := by unfold checkB; rw [if_pos hr]
    rw [e2] at HCH
    have HCAN := Lib.hid (fun W h => Try.areCan_any q (by omega) a2 m cap2 can HM.out W h)
    cases hc : canB q can with
    | false =>
      have e1 : nextR q ts can = (0, 2) := by unfold nextR; rw [if_pos hr, if_neg (by rw [hc]; decide)]
      rw [e1]
      rw [hc] at HCAN
      clear hr e1 e2 hc
      go_enter Try.func29, Try.ntmps29
      go_wp2_with fail
      refine HCH.out.mono ?_
      rintro e w1 ⟨rfl, hB⟩
      have hcan := HCAN.out w1 (RowAt.below HC0.out hB)
      have HK := Lib.hid hcan
      have HB := Lib.hid (HB0.out.trans (hB.mono HB0.out.size))
      clear hB hcan
      go_wp2_with fail
      refine HK.out.mono ?_
      rintro e w' ⟨rfl, rfl⟩
      go_wp2_with fail
      go_ret2
      exact ⟨rfl, HB.out⟩
    | true =>
      have e1 : nextR q ts can = (mostB (fun g => waitB g ts) can, 0) := by unfold nextR; rw [if_pos hr, if_pos hc]
      have hl1 := canB_len hc
      have hmm := canB_mem hc
      rw [e1]
      rw [hc] at HCAN
      have HMM := Lib.hid hmm
      have hm1 : 1 ≤ m := by have := HM.out; omega
      clear hr e1 e2 hc hl1 hmm
      generalize hfl : (fun g => waitB g ts) = fl at *
      have HFL := Lib.hid hfl
      clear hfl
      go_enter Try.func29, Try.ntmps29
      go_wp2_with fail
      refine HCH.out.mono ?_
      rintro e w1 ⟨rfl, hB⟩
      have hC1 := RowAt.below HC0.out hB
      have hcan := HCAN.out w1 hC1
      have HK := Lib.hid hcan
      have HC1 := Lib.hid hC1
      have HI1 := Lib.hid (HI0.out.below hB)
      have R1 := Lib.hid (R0.out.below hB R0.out.lt)
      have HB := Lib.hid (HB0.out.trans (hB.mono HB0.out.size))
      clear hB hcan hC1
      go_wp2_with fail
      refine HK.out.mono ?_
      rintro e w' ⟨rfl, rfl⟩
      go_wp2_with fail
      refine (Try.each_any q hq8 47 #[.pointer (some ⟨w.heap.size, 0, none⟩)] fl w1 ?_ (enters_of Try.func47 (by kernel_rfl) rfl)).mono ?_
      · intro y W hy hW
        rw [← HFL.out]
        exact Try.next1_any y w.heap.size a n cap ts hlen W (HI1.out.below hW) (R1.out.below hW R1.out.lt)
      · rintro e w2 ⟨rfl, hB2⟩
        have HC2 := Lib.hid (RowAt.below HC1.out hB2)
        have HB2 := Lib.hid (HB.out.trans (hB2.mono HB.out.size))
        clear hB2
        generalize hup : upTo q fl = up at *
        have HUP := Lib.hid hup
        clear hup
        unfold arr8I
        go_wp2_with fail
        have r1 : Rows8 (w2.alloc (.cells #[.int .i64 (up 0), .int .i64 (up 1), .int .i64 (up 2), .int .i64 (up 3), .int .i64 (up 4), .int .i64 (up 5), .int .i64 (up 6), .int .i64 (up 7)] 59)) w2.heap.size 59 (arr8I (upTo q fl)) := by rw [HUP.out]; exact Rows8.new w2 _ _
        have hB3 : Below w2.heap.size w2 (w2.alloc (.cells #[.int .i64 (up 0), .int .i64 (up 1), .int .i64 (up 2), .int .i64 (up 3), .int .i64 (up 4), .int .i64 (up 5), .int .i64 (up 6), .int .i64 (up 7)] 59)) := (Below.refl _ w2).alloc (Nat.le_refl _) _
        have hmost := Try.most_any w2.heap.size q hq8 fl a2 m cap2 can HM.out hm1 HMM.out _ (RowAt.below HC2.out hB3) r1
        have HMO := Lib.hid hmost
        have HB4 := Lib.hid (HB2.out.trans (hB3.mono HB2.out.size))
        clear r1 hB3 hmost
        refine HMO.out.mono ?_
        rintro e w' ⟨rfl, rfl⟩
        go_wp2_with fail
        go_ret2
        exact ⟨rfl, HB4.out⟩
end Go.Proofs
