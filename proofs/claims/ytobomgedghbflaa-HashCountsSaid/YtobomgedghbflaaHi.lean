/- some: is it so of one in a map that counts? -/
import Derived.Test.YtobomgedghbflaaHh
namespace Go.Proofs
open Go.RowKit Go.Shelf Go.Deep Go.Maps
attribute [local go_sem] Oper.semAt_some

set_option maxRecDepth 100000 in
set_option maxHeartbeats 1000000 in
theorem Try.crowds_any (c many : Int) (bm : Nat) (w : World) (hb : Rows8 w bm 3 #[.int .i64 many]) :
    Calls Try.prog 40 #[.int .i64 c, .pointer (some ⟨bm, 0, none⟩)] w fun e w' => e = .returned (.bool (decide (many < c))) ∧ w = w' := by
  have c0 : w.cell? ⟨bm, 0, none⟩ = some (.int .i64 many) := hb.cell 0
  go_enter Try.func40, Try.ntmps40
  go_wp2
  go_ret
  exact ⟨rfl, rfl⟩
/-- Is one of these words more than so many of them? -/
def overB (ps : List Nat) (many : Int) : Bool := ps.any fun p => decide (many < (ps.count p : Int))
theorem cnt_at {D : DataW Unit} {ps : List Nat} (h : Cnt D ps) {x c : Int} (hat : ∀ zd, D.atKey (.int .u64 x) zd = .lit (.int .i64 c)) : ∃ p ∈ ps, x = (p : Int) ∧ c = (ps.count p : Int) := by
  obtain ⟨p, hp, e⟩ := (h.2.1 _).1 (Maps.has_true_of_atKey hat)
  have ex : x = (p : Int) := by injection e
  subst ex
  have := hat (.lit (.int .i64 0))
  rw [h.2.2 p hp] at this
  refine ⟨p, hp, rfl, ?_⟩
  injection this with this
  injection this with _ this
  exact this.symm
set_option maxRecDepth 100000 in
set_option maxHeartbeats 4000000 in
theorem Try.some_any (many : Int) (bm b n : Nat) (ps : List Nat) (w : World) (hb : Rows8 w bm 3 #[.int .i64 many]) (hm : CntAt w b n ps) :
    Calls Try.prog 41 #[.map (some b), .func (.func 40) #[] #[.pointer (some ⟨bm, 0, none⟩)]] w fun e w' => e = .returned (.bool (overB ps many)) ∧ Below w.heap.size w w' := by
  obtain ⟨D, hown, hD⟩ := hm
  have HD := Lib.hid hD
  have HBM := Lib.hid hb
  clear hD hb
  go_enter Try.func41, Try.ntmps41
  go_wp2_with (first
    | (at_range; refine wpList_range_own _ rfl _ 30 rfl 22 3 Try.lawU Try.underlying30 _ b n _ rfl hown ?_; intro w0 hrg0 hg0 hs0))
  go_frame
  go_loopw [9] (fun _ wr => ∃ (left : Lit → Bool) (cnt : Nat), wr.ranges Try.prog 22 (plainElem Try.prog 3) b w.heap.size n D left cnt ∧ w.grownBy wr none ∧ Hid (∀ p ∈ ps, left (.int .u64 (p : Int)) = false → (ps.count p : Int) ≤ many))
    (fun _ wr => wr.rangeLeft b w.heap.size)
  case atStart =>
    refine ⟨_, _, hrg0, hg0, Lib.hid fun p hp h => ?_⟩
    rw [(HD.out.2.1 _).2 ⟨p, hp, rfl⟩] at h
    cases h
  case round =>
    obtain ⟨left, cnt, hrg, hgw, hle⟩ := hrel
    go_wp2_with (first
      | (at_next; refine wpList_next_ranges_ii _ rfl _ rfl 22 3 .u64 .i64 Try.lawU Try.underlying22 Try.underlying3 b w.heap.size n _ _ _ rfl hrg ?_ ?_))
    · intro _ hl0
      have hr : Hid (overB ps many = false) := Lib.hid (by
        unfold overB
        rw [List.any_eq_false]
        intro p hp
        have := hle.out p hp (hl0 _)
        simp; omega)
      go_wp2
      go_ret
      exact ⟨by rw [hr.out]; rfl, ⟨hgw.os, hgw.tape, hgw.output, hgw.size, fun k hk => hgw.block k hk (by simp)⟩⟩
    · intro x c w1 cnt1 hwx hwc hlx hat hrg1 hlt hg1 hs1 hen
      have hgw1 := hgw.andThen hg1 (fun j hj => by cases hj; exact Or.inl (Nat.le_refl _))
      have hb1 : Rows8 w1 bm 3 #[.int .i64 many] := (hgw1.block bm HBM.out.lt (by simp)).trans HBM.out
      have hca := Try.crowds_any c many bm w1 hb1
      obtain ⟨p, hp, rfl, rfl⟩ := cnt_at HD.out hat
      by_cases hc : many < (ps.count p : Int)
      · have hr : Hid (overB ps many = true) := Lib.hid (by
          unfold overB
          rw [List.any_eq_true]
          exact ⟨p, hp, by simpa using hc⟩)
        rw [decide_eq_true hc] at hca
        clear hc hat hwx hwc
        generalize (ps.count p : Int) = cn at *
        go_wp2_with (go_at_call 40; refine hca.mono ?_; rintro e w'' ⟨rfl, rfl⟩)
        go_ret
        exact ⟨by rw [hr.out]; rfl, ⟨hgw1.os, hgw1.tape, hgw1.output, hgw1.size, fun k hk => hgw1.block k hk (by simp)⟩⟩
      · have hle2 : Hid (∀ q ∈ ps, (left (.int .u64 (q : Int)) && !(Lit.int .u64 (q : Int)).sameKey (.int .u64 (p : Int))) = false → (ps.count q : Int) ≤ many) := Lib.hid fun q hq hl => by
          by_cases e : q = p
          · subst e; omega
          · refine hle.out q hq ?_
            rw [Maps.sameKey_ne (key_ne e)] at hl
            simpa using hl
        rw [decide_eq_false hc] at hca
        clear hc hat hwx hwc
        generalize (ps.count p : Int) = cn at *
        go_wp2_with (go_at_call 40; refine hca.mono ?_; rintro e w'' ⟨rfl, rfl⟩)
        go_roundw
        case rel => exact ⟨_, cnt1, hrg1, hgw1, hle2⟩
        case measure => rw [hrg1.left_eq, hrg.left_eq]; exact hlt
end Go.Proofs
