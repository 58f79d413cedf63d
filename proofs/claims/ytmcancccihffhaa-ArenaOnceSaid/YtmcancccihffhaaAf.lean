/- Arena: Counts. -/
import Derived.Test.YtmcancccihffhaaAe
namespace Go.Proofs
set_option maxRecDepth 100000
open Go.RowKit Go.Shelf
attribute [local go_sem] Oper.semAt_some

set_option maxRecDepth 100000 in
set_option maxHeartbeats 1000000 in
theorem Try.Counts_any (a : Option Addr) (n cap : Nat) (l : List Pr) (w : World) (hI : PAt w (.slice a n cap) l) :
    Calls Try.prog 7 #[.agg #[.slice a n cap]] w fun r w' => r = .returned (.tuple #[.int .i64 (if rightA l then cnt l 0 else 0 : Nat), .int .i64 (if rightA l then cnt l 1 else 0 : Nat), .int .i64 (if rightA l then cnt l 2 else 0 : Nat)]) ∧ Below w.heap.size w w' := by
  have hB0 : Below w.heap.size w ((w.alloc (.cells #[.slice a n cap] 24)).alloc (.cells #[.slice a n cap] 54)) := (Rows8.newB).alloc (by simp) _
  have h2 := Rows8.new (w.alloc (.cells #[.slice a n cap] 24)) 54 #[.slice a n cap]
  rw [World.size_alloc] at h2
  have hI0 := PAt.below hI hB0
  have HC := fun (W : World) (hr : rightA l = true) (h : PAt W (.slice a n cap) l) => Lib.hid (Try.counts_any a n cap l W h (by have h1 := (pAt_len h).1; have h2 := (rightA_iff.1 hr).1; omega) (rightA_iff.1 hr).2)
  have HM := fun (W : World) (h : PAt W (.slice a n cap) l) => Lib.hid (Try.mayBe_any a n cap l W h)
  obtain ⟨q, hq⟩ : ∃ q, q = rightA l := ⟨_, rfl⟩
  rw [← hq] at HM HC ⊢
  clear hq
  have HB0 := Lib.hid hB0
  have H2 := Lib.hid h2
  have HI0 := Lib.hid hI0
  clear hB0 h2 hI0 hI
  unfold arr3 at HC
  dsimp only at HC
  have hc : ∀ t : Nat, ∀ z : Int, z = (t : Int) → cnt l z = cnt l (t : Int) := fun t z h => by rw [h]
  rw [hc 0 0 rfl, hc 1 1 rfl, hc 2 2 rfl]
  clear hc
  generalize cnt l ((0 : Nat) : Int) = q0 at *
  generalize cnt l ((1 : Nat) : Int) = q1 at *
  generalize cnt l ((2 : Nat) : Int) = q2 at *
  go_enter Try.func7, Try.ntmps7
  go_wp2_with fail
  generalize ((w.alloc (.cells #[.slice a n cap] 24)).alloc (.cells #[.slice a n cap] 54)) = W0 at *
  refine (HM _ HI0.out).out.mono ?_
  rintro r w1 ⟨rfl, hB1⟩
  have c3 : w1.cell? ⟨w.heap.size + 1, 0, none⟩ = some (.slice a n cap) := (H2.out.below hB1 H2.out.lt).cell 0
  have HI1 := Lib.hid (PAt.below HI0.out hB1)
  have HB1 := Lib.hid (HB0.out.trans (hB1.mono HB0.out.size))
  clear hB1
  cases q with
  | true =>
    have HC' := HC w1 rfl HI1.out
    clear HC HM
    go_wp2_with fail
    refine HC'.out.mono ?_
    rintro r w2 ⟨rfl, hB2⟩
    have HB2 := Lib.hid ((HB1.out.trans (hB2.mono HB1.out.size)).alloc (Nat.le_trans HB1.out.size hB2.size) (.cells #[.int .i64 (q0 : Nat), .int .i64 (q1 : Nat), .int .i64 (q2 : Nat)] 55))
    clear hB2
    have hr := Rows8.new w2 55 #[.int .i64 (q0 : Nat), .int .i64 (q1 : Nat), .int .i64 (q2 : Nat)]
    have d0 : (w2.alloc (.cells #[.int .i64 (q0 : Nat), .int .i64 (q1 : Nat), .int .i64 (q2 : Nat)] 55)).cell? ⟨w2.heap.size, 0, none⟩ = some (.int .i64 (q0 : Nat)) := hr.cell 0
    have d1 : (w2.alloc (.cells #[.int .i64 (q0 : Nat), .int .i64 (q1 : Nat), .int .i64 (q2 : Nat)] 55)).cell? ⟨w2.heap.size, 1, none⟩ = some (.int .i64 (q1 : Nat)) := hr.cell 1
    have d2 : (w2.alloc (.cells #[.int .i64 (q0 : Nat), .int .i64 (q1 : Nat), .int .i64 (q2 : Nat)] 55)).cell? ⟨w2.heap.size, 2, none⟩ = some (.int .i64 (q2 : Nat)) := hr.cell 2
    clear hr
    go_wp2_with fail
    go_quiet (fail)
    go_wp2_with fail
    refine bodyPost_ret (results_tmp3 rfl _ _ _) rfl ?_
    exact ⟨rfl, below_drewN HB2.out _⟩
  | false =>
    clear HC HM
    go_wp2_with fail
    refine bodyPost_ret (results_tmp3 rfl _ _ _) rfl ?_
    exact ⟨rfl, HB1.out⟩
end Go.Proofs
