/- Clear. -/
import Derived.Test.YtbipekpohocjdaaDoorGf
namespace Go.Proofs
open Go.RowKit Go.Shelf
attribute [local go_sem] Oper.semAt_some

theorem Tryd.clearIn_ex (x : Option Addr) (n cap : Nat) (w : World) :
    Calls Tryd.prog 37 #[.slice x n cap] w fun e w' => ∃ B, e = .returned (.func (.func 49) #[] #[.pointer (some ⟨B, 0, none⟩)]) ∧ Rows8 w' B 23 #[.slice x n cap] ∧ Below w.heap.size w w' :=
  (Tryd.clearIn_any x n cap w).mono fun e w' h => ⟨_, h.1, by rw [h.2]; exact Rows8.new _ _ _, by rw [h.2]; exact Rows8.newB⟩
set_option maxRecDepth 100000 in
set_option maxHeartbeats 4000000 in
theorem Tryd.Clear_any (f g : Int) (x : Option Addr) (n cap : Nat) (l : List (Int × Int)) (hs : n ≤ 1000000) (w : World) (hI : PAt w (.slice x n cap) l) :
    Calls Tryd.prog 22 #[.slice x n cap, .int .i64 f, .int .i64 g] w fun e w' => e = .returned (.bool (clearR l f g)) ∧ Below w.heap.size w w' := by
  have hB : Below w.heap.size w (w.alloc (.cells #[.int .i64 f, .int .i64 g] 44)) := Rows8.newB
  have hk := Rows8.new w 44 #[.int .i64 f, .int .i64 g]
  have c0 := hk.cell 0
  have c1 := hk.cell 1
  simp at c0 c1
  have hd : clearR l f g = (rightB l && (lookB f g && clearB l f g)) := rfl
  have HAS := fun w' (hB : Below w.heap.size w w') => Lib.hid (Tryd.areSections_any x n cap l w' (hI.below hB))
  have HNL := fun w' => Lib.hid (Tryd.noLook_any f g w')
  have HCI := fun w' => Lib.hid (Tryd.clearIn_ex x n cap w')
  have HCL := fun hr w' Bl (hB : Below w.heap.size w w') (hl : Rows8 w' Bl 23 #[.slice x n cap]) => Lib.hid (Tryd.clearIn1_any f g Bl x n cap l hr hs w' hl (hI.below hB))
  have HB := Lib.hid hB
  have HK := Lib.hid hk
  have B0d : Below w.heap.size w (w.alloc (.cells #[.int .i64 f, .int .i64 g] 44)).drew := hB.drew
  have k0d : Rows8 (w.alloc (.cells #[.int .i64 f, .int .i64 g] 44)).drew w.heap.size 44 #[.int .i64 f, .int .i64 g] := hk
  rw [hd]
  clear hB hk hd hI
  cases hr : rightB l with
  | false =>
    rw [hr] at HAS
    clear HCL HNL HCI
    go_enter Tryd.func22, Tryd.ntmps22
    go_wp2
    first | go_region_with (go_at_call 32; refine (HAS _ B0d).out.mono ?_; rintro e w1 ⟨rfl, hB1⟩; have B1 := B0d.trans (hB1.mono B0d.size)) | fail
    all_goals
      go_wp2
      go_ret
      exact ⟨rfl, B1⟩
  | true =>
    rw [hr] at HAS
    have HCL := HCL hr
    cases hl : lookB f g with
    | false =>
      rw [hl] at HNL
      clear HCL HCI
      go_enter Tryd.func22, Tryd.ntmps22
      go_wp2
      first | go_region_with (first
        | (go_at_call 32; refine (HAS _ B0d).out.mono ?_; rintro e w1 ⟨rfl, hB1⟩; have B1 := B0d.trans (hB1.mono B0d.size); have k1 := k0d.below hB1 k0d.lt; have k10 := k1.cell 0; have k11 := k1.cell 1; simp at k10 k11)
        | (go_at_call 36; refine (HNL _).out.mono ?_; rintro e w2 ⟨rfl, hB2⟩; have B2 := B1.trans (hB2.mono B1.size))) | fail
      all_goals
        go_wp2
        go_ret
        exact ⟨rfl, B2⟩
    | true =>
      rw [hl] at HNL
      rw [Bool.true_and, Bool.true_and]
      generalize clearB l f g = cb at *
      go_enter Tryd.func22, Tryd.ntmps22
      go_wp2
      first | go_region_with (first
        | (go_at_call 32; refine (HAS _ B0d).out.mono ?_; rintro e w1 ⟨rfl, hB1⟩; have B1 := B0d.trans (hB1.mono B0d.size); have k1 := k0d.below hB1 k0d.lt; have k10 := k1.cell 0; have k11 := k1.cell 1; simp at k10 k11)
        | (go_at_call 36; refine (HNL _).out.mono ?_; rintro e w2 ⟨rfl, hB2⟩; have B2 := B1.trans (hB2.mono B1.size); have k2 := k1.below hB2 k1.lt; have k20 := k2.cell 0; have k21 := k2.cell 1; simp at k20 k21)
        | (go_at_call 37; refine (HCI _).out.mono ?_; rintro e w3 ⟨Bl, rfl, r3, hB3⟩; have B3 := B2.trans (hB3.mono B2.size); have k3 := k2.below hB3 k2.lt; have k30 := k3.cell 0; have k31 := k3.cell 1; simp at k30 k31)
        | (go_at_call 49; refine (HCL _ _ B3 r3).out.mono ?_; rintro e w4 ⟨rfl, hB4⟩; have B4 := B3.trans (hB4.mono B3.size))) | fail
      all_goals
        go_wp2
        go_ret
        exact ⟨by cases cb <;> rfl, B4⟩
end Go.Proofs
