/- Arena: own; wakes. -/
import Derived.Test.YtmcancccihffhaaAp
namespace Go.Proofs
set_option maxRecDepth 100000
open Go.RowKit Go.Shelf
attribute [local go_sem] Oper.semAt_some

set_option maxRecDepth 100000 in
set_option maxHeartbeats 2000000 in
theorem Try.own_any (a : Option Addr) (n cap : Nat) (l : List Pr) (w : World) (hI : PAt w (.slice a n cap) l) :
    Calls Try.prog 5 #[.agg #[.slice a n cap]] w fun e w' => ∃ b m c, e = .returned (.agg #[.slice b m c]) ∧ m ≤ 130 ∧ OwnsP 52 w.heap.size (l.take 130) (.slice b m c) w' ∧ Below w.heap.size w w' := by
  obtain ⟨hlen, hnc, hcm⟩ := pAt_len hI
  have hreach : cap ≤ 9223372036854775807 := by unfold maxLen at hcm; omega
  have hB0 : Below w.heap.size w ((w.alloc (.cells #[.slice a n cap] 24)).alloc (.cells #[.slice none 0 0] 24)) := (Rows8.newB).alloc (by simp) _
  have hA0 := (Rows8.new w 24 #[.slice a n cap]).alloc (.cells #[.slice none 0 0] 24)
  have hR0 := Rows8.new (w.alloc (.cells #[.slice a n cap] 24)) 24 #[.slice none 0 0]
  rw [World.size_alloc] at hR0
  obtain ⟨m, hm⟩ : ∃ m, m = min n 130 := ⟨_, rfl⟩
  have hmn : m ≤ n := by omega
  have hm130 : m ≤ 130 := by omega
  have hcut := pAt_cut (PAt.below hI hB0) m hmn
  have htk : l.take m = l.take 130 := by
    rcases Nat.le_total n 130 with h | h
    · rw [List.take_of_length_le (by omega), List.take_of_length_le (by omega)]
    · rw [show m = 130 by omega]
  rw [htk] at hcut
  have hml : m = (l.take 130).length := by rw [List.length_take]; omega
  have HC := Lib.hid (Try.cloneSlab_any a m cap (l.take 130) hml (by omega) _ hcut)
  have HB0 := Lib.hid hB0
  have HA0 := Lib.hid hA0
  have HR0 := Lib.hid hR0
  have hmi : min (n : Int) 130 = (m : Int) := by omega
  have hmi2 : (if (n : Int) ≤ 130 then (n : Int) else 130) = (m : Int) := by split <;> omega
  have hmi3 : (if (n : Int) < 130 then (n : Int) else 130) = (m : Int) := by split <;> omega
  have hmi4 : (if (130 : Int) < (n : Int) then (130 : Int) else (n : Int)) = (m : Int) := by split <;> omega
  clear hB0 hA0 hR0 hcut htk hml hI hlen hm
  go_enter Try.func5, Try.ntmps5
  go_wp2_with fail
  generalize ((w.alloc (.cells #[.slice a n cap] 24)).alloc (.cells #[.slice none 0 0] 24)) = W0 at *
  refine HC.out.mono ?_
  rintro e w1 ⟨b, c, rfl, hO, hB1⟩
  have r1 := HR0.out.below hB1 HR0.out.lt
  have c1 : w1.cell? ⟨w.heap.size + 1, 0, none⟩ = some (.slice none 0 0) := r1.cell 0
  have f1 := r1.frozen 0
  have r2 := r1.set 0 (.slice b m c)
  simp only [List.setIfInBounds_toArray, List.set_cons_zero] at r2
  have R2 := Lib.hid r2
  have O2 := Lib.hid ((hO.mono HB0.out.size).setNe (a := ⟨w.heap.size + 1, 0, none⟩) r1 (by decide) (.slice b m c))
  have HB2 := Lib.hid ((HB0.out.trans (hB1.mono HB0.out.size)).setCell (p := ⟨w.heap.size + 1, 0, none⟩) (by simp) (.slice b m c))
  clear r1 r2 hO hB1 HC
  go_wp2_with fail
  refine bodyPost_ret (results_c rfl _ _ (w.heap.size + 1) 24 _ (0, 0) _ rfl R2.out Try.underlying24 rfl (by kernel_rfl)) rfl ?_
  exact ⟨b, m, c, rfl, hm130, O2.out, HB2.out⟩
end Go.Proofs
