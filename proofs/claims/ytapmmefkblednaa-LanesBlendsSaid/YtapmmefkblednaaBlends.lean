/- Proved: for every two words, mask, and row of numbers, honeycomblaw01.LanesBlends returns true, and its arguments read as they did; no condition. -/
import Derived.Test.YtapmmefkblednaaQ
import Derived.Deep.RegionHeld3
import Derived.BigQuiet
import Derived.ShutString
import Derived.ChangeOld
import Derived.Below
namespace Go.Proofs.Ytapmmefkblednaa.lanesBlends
open Go.ChangeShapes Go.WideShapes Go.ChangeAt Go.RowKit Go.Shelf
attribute [local go_sem] Oper.semAt_some

theorem own : ownKnob Try.prog.godebug = none := by kernel_rfl
theorem cellsTwo : Try.prog.cellsOf 47 = 2 := by kernel_rfl
theorem cellsWord : Try.prog.cellsOf 23 = 1 := by kernel_rfl

/-- All that lay in W0 lies as it lay. -/
def Since (W0 W : World) : Prop := Below W0.heap.size W0 W
theorem Since.drew {W0 W : World} (h : Since W0 W) : Since W0 W.drew := Below.drew h
theorem Since.drewN {W0 W : World} (h : Since W0 W) (n : Nat) : Since W0 (W.drewN n) := Below.trans h ⟨rfl, rfl, rfl, Nat.le_refl _, fun _ _ => rfl⟩
theorem Since.next {W0 W W' : World} (h : Since W0 W) (k : Below W.heap.size W W') : Since W0 W' := Below.trans h (k.mono (Below.size h))
theorem Since.refl (W0 : World) : Since W0 W0 := Below.refl _ _
theorem Since.base {W W0 W1 : World} (h : Below W.heap.size W W0) (k : Since W0 W1) : Below W.heap.size W W1 := h.trans (Below.mono k h.size)
theorem cell_drew {W : World} {a : Addr} {v : Value} (h : W.cell? a = some v) : W.drew.cell? a = some v := h

/-- The two words lie at B. -/
def Two (B x z : Nat) (W : World) : Prop := W.cell? ⟨B, 0, none⟩ = some (.int .u64 (x : Int)) ∧ W.cell? ⟨B, 1, none⟩ = some (.int .u64 (z : Int))
theorem Two.since {B x z : Nat} {W0 W : World} (h : Two B x z W0) (hB : B < W0.heap.size) (hS : Since W0 W) : Two B x z W :=
  ⟨(Below.cell hS (p := ⟨B, 0, none⟩) hB).trans h.1, (Below.cell hS (p := ⟨B, 1, none⟩) hB).trans h.2⟩

/-- What All hands back in the region: a row of the mask's lanes; the two words lie at B. -/
def AQ (L : Nat) (zs : List Int) (B x z : Nat) (W0 : World) (e : Ending) (w' : World) : Prop := ∃ a cap, e = .returned (.slice a L cap) ∧ IntsAt w' (.slice a L cap) zs ∧ w'.cell? ⟨B, 0, none⟩ = some (.int .u64 (x : Int)) ∧ w'.cell? ⟨B, 1, none⟩ = some (.int .u64 (z : Int)) ∧ Since W0 w'
/-- What All, its reference and First tell of a mask, in one. -/
theorem lanesAll (m : Nat) (hm : m < 256) : ∃ (L : Nat) (zs : List Int) (f : Int) (sb : Bool), L ≤ 8 ∧
    (∀ W, Calls Try.prog 33 #[.int .u8 m] W fun e w' => ∃ a cap, e = .returned (.slice a L cap) ∧ IntsAt w' (.slice a L cap) zs ∧ Below W.heap.size W w') ∧
    (∀ W, Calls Try.prog 28 #[.int .u8 m] W fun e w' => ∃ a cap, e = .returned (.slice a L cap) ∧ IntsAt w' (.slice a L cap) zs ∧ Below W.heap.size W w') ∧
    (∀ W a1 c1 a2 c2, IntsAt W (.slice a1 L c1) zs → IntsAt W (.slice a2 L c2) zs → Calls Try.prog 32 #[.slice a1 L c1, .slice a2 L c2] W fun e w' => e = .returned (.bool true) ∧ Below W.heap.size W w') ∧
    (∀ W, Calls Try.prog 29 #[.int .u8 m] W fun e w' => e = .returned (.tuple #[.int .i64 f, .bool sb]) ∧ Below W.heap.size W w') ∧
    ((L = 0 ∧ f = 0 ∧ sb = false) ∨ (0 < L ∧ sb = true ∧ ∀ W a cap, IntsAt W (.slice a L cap) zs → ∃ g off, a = some ⟨g, off, none⟩ ∧ W.cell? ⟨g, off, none⟩ = some (.int .i64 f))) := by
  have hlen : (lanesInt (lanesOf m)).length = (lanesOf m).length := by simp [lanesInt]
  have hq : ∀ {e : Ending} {W w' : World}, AllQ (lanesOf m) W e w' → ∃ a cap, e = .returned (.slice a (lanesOf m).length cap) ∧ IntsAt w' (.slice a (lanesOf m).length cap) (lanesInt (lanesOf m)) ∧ Below W.heap.size W w' := by
    rintro e W w' ⟨v, rfl, hO, hB⟩
    obtain ⟨⟨a, cap, rfl⟩, hI⟩ := owns_intsAt hO
    exact ⟨a, cap, rfl, hI, hB⟩
  have h8 : (lanesOf m).length ≤ 8 := lanesTo_length m 8
  have hF := Try.First_any m hm
  refine ⟨(lanesOf m).length, lanesInt (lanesOf m), match lanesOf m with | [] => 0 | y :: _ => ((y : Nat) : Int), match lanesOf m with | [] => false | _ :: _ => true, h8,
    fun W => (Try.All_any m hm W).mono fun e w' h => hq h, fun W => (Try.refAll_any m hm W).mono fun e w' h => hq h,
    fun W a1 c1 a2 c2 h1 h2 => Try.equalInts_any a1 a2 _ c1 c2 _ hlen.symm (by omega) W h1 h2, ?_, ?_⟩
  · intro W
    refine (hF W).mono fun e w' ⟨h1, h2⟩ => ⟨?_, h2⟩
    rw [h1]
    cases lanesOf m <;> rfl
  · generalize lanesOf m = l at *
    cases l with
    | nil => exact .inl ⟨rfl, rfl, rfl⟩
    | cons y ys =>
      refine .inr ⟨by simp, rfl, fun W a cap h => ?_⟩
      rcases h with ⟨_, h2⟩ | ⟨b, off, cap', h1, _, h3⟩
      · simp [lanesInt] at h2
      · injection h1 with e1 e2 e3
        subst e1
        have := h3 0 (by rw [hlen]; simp)
        exact ⟨b, off, rfl, by simpa [lanesInt] using this⟩

set_option maxRecDepth 100000 in
set_option maxHeartbeats 8000000 in
theorem walkNat (x z m : Nat) (hx : x < 18446744073709551616) (hz : z < 18446744073709551616) (hm : m < 256)
    (a2 : Option Addr) (n2 c2 : Nat) (zt : Nat → Int) (w : World)
    (hzt : ∀ j, j < n2 → ∃ b off, a2 = some ⟨b, off, none⟩ ∧ b < w.heap.size ∧ w.cell? ⟨b, off + j, none⟩ = some (.int .i64 (zt j))) (hn2 : n2 ≤ 9223372036854775807) :
    Calls Try.prog 5 #[.agg #[.int .u64 x, .int .u64 z], .int .u8 m, .slice a2 n2 c2] w fun e w' => e = .returned (.bool true) ∧ Below w.heap.size w w' := by
  have hbl : ∃ q : Nat, (∀ W, Calls Try.prog 30 #[.int .u64 x, .int .u64 z, .int .u8 m] W fun e w' => e = .returned (.int .u64 q) ∧ Below W.heap.size W w') ∧ (∀ W, Calls Try.prog 31 #[.int .u64 x, .int .u64 z, .int .u8 m] W fun e w' => e = .returned (.int .u64 q) ∧ Below W.heap.size W w') :=
    ⟨_, Try.Blend_any x z m hx hm, Try.refBlend_any x z m hx hz hm⟩
  have htu : ∀ i : Int, ∃ q : Nat, (∀ W, Calls Try.prog 34 #[.int .u64 x, .int .i64 i] W fun e w' => e = .returned (.int .u64 q) ∧ Below W.heap.size W w') ∧ (∀ W, Calls Try.prog 35 #[.int .u64 x, .int .i64 i] W fun e w' => e = .returned (.int .u64 q) ∧ Below W.heap.size W w') :=
    fun i => ⟨_, Try.Turn_any x i, Try.refTurn_any x hx i⟩
  obtain ⟨q, hq1, hq2⟩ := hbl
  obtain ⟨L, zs, f, sb, hL8, hAl, hRA, hEq, hFi, hfirst⟩ := lanesAll m hm
  have KBL := Lib.hid hq1
  have KRB := Lib.hid hq2
  have KTU := Lib.hid htu
  have KAL := Lib.hid hAl
  have KRA := Lib.hid hRA
  have KFI := Lib.hid hFi
  have KEQ := Lib.hid hEq
  have KFS := Lib.hid hfirst
  have HZT := Lib.hid hzt
  clear hx hz hm hq1 hq2 htu hAl hRA hFi hzt hEq hfirst
  go_enter Try.func5, Try.ntmps5
  go_wp2_with fail
  have q0 := Rows8.new w 47 #[.int .u64 x, .int .u64 z]
  have hB0 : Below w.heap.size w (w.alloc (.cells #[.int .u64 x, .int .u64 z] 47)) := (Below.refl _ w).alloc (Nat.le_refl _) _
  have hT0 : Two w.heap.size x z (w.alloc (.cells #[.int .u64 x, .int .u64 z] 47)) := ⟨q0.cell 0, q0.cell 1⟩
  have hlt0 := q0.lt
  generalize (w.alloc (.cells #[.int .u64 x, .int .u64 z] 47)) = w0 at *
  generalize hBn : w.heap.size = B at hlt0 hT0 ⊢
  clear q0
  refine (Try.wakes_any _).mono ?_
  rintro e wa ⟨rfl, hBa⟩
  go_wp2_with fail
  refine (KRA.out _).mono ?_
  rintro e wb ⟨a7, cap7, rfl, hI7, hBb⟩
  go_wp2_with fail
  refine (KFI.out _).mono ?_
  rintro e W0 ⟨rfl, hBc⟩
  have hS0 : Since w0 W0 := Since.next (Since.next (Since.next (Since.refl w0) hBa) hBb) hBc
  have hI0 := hI7.below hBc (Nat.le_refl _)
  have hT := hT0.since hlt0 hS0
  have hltB : B < W0.heap.size := Nat.lt_of_lt_of_le hlt0 (Below.size hS0)
  have hBw : Below w.heap.size w W0 := hB0.trans (Below.mono hS0 hB0.size)
  have KBW := Lib.hid hBw
  have KI0 := Lib.hid hI0
  have KT := Lib.hid hT
  clear hI7 hBa hBb hBc hS0 hI0 hT hT0 hlt0 hB0 hBw KRA KFI
  have hHB : ∀ W, Since W0 W → Calls Try.prog 30 #[.int .u64 x, .int .u64 z, .int .u8 m] W (fun e w' => e = .returned (.int .u64 q) ∧ w'.cell? ⟨B, 0, none⟩ = some (.int .u64 (x : Int)) ∧ w'.cell? ⟨B, 1, none⟩ = some (.int .u64 (z : Int)) ∧ Since W0 w') := fun W hS =>
    (KBL.out W).mono fun e w' ⟨he, hb⟩ => have h := KT.out.since hltB (hS.next hb); ⟨he, h.1, h.2, hS.next hb⟩
  have hHR : ∀ W, Since W0 W → Calls Try.prog 31 #[.int .u64 x, .int .u64 z, .int .u8 m] W (fun e w' => e = .returned (.int .u64 q) ∧ w'.cell? ⟨B, 0, none⟩ = some (.int .u64 (x : Int)) ∧ w'.cell? ⟨B, 1, none⟩ = some (.int .u64 (z : Int)) ∧ Since W0 w') := fun W hS =>
    (KRB.out W).mono fun e w' ⟨he, hb⟩ => have h := KT.out.since hltB (hS.next hb); ⟨he, h.1, h.2, hS.next hb⟩
  have hHA : ∀ W, Since W0 W → Calls Try.prog 33 #[.int .u8 m] W (AQ L zs B x z W0) := fun W hS =>
    (KAL.out W).mono fun e w' ⟨a, cap, he, hI, hb⟩ => have h := KT.out.since hltB (hS.next hb); ⟨a, cap, he, hI, h.1, h.2, hS.next hb⟩
  have hHE : ∀ W a cap, Since W0 W → IntsAt W (.slice a L cap) zs → Calls Try.prog 32 #[.slice a L cap, .slice a7 L cap7] W (fun e w' => e = .returned (.bool true) ∧ w'.cell? ⟨B, 0, none⟩ = some (.int .u64 (x : Int)) ∧ w'.cell? ⟨B, 1, none⟩ = some (.int .u64 (z : Int)) ∧ Since W0 w') := fun W a cap hS hI =>
    (KEQ.out W a cap a7 cap7 hI (KI0.out.below hS (Nat.le_refl _))).mono fun e w' ⟨he, hb⟩ => have h := KT.out.since hltB (hS.next hb); ⟨he, h.1, h.2, hS.next hb⟩
  have KHB := Lib.hid hHB
  have KHR := Lib.hid hHR
  have KHA := Lib.hid hHA
  have KHE := Lib.hid hHE
  have hS0 := Since.refl W0
  have hc0 := KT.out.1
  have hc1 := KT.out.2
  have hneq := ne_self q
  have hnef := ne_selfI f
  clear hHB hHR hHA hHE KBL KRB KAL KEQ
  rcases KFS.out with ⟨rfl, rfl, rfl⟩ | ⟨hpos, rfl, hcell⟩
  · clear KFS KI0
    go_wp2_with fail
    go_region_held3 (fun W' => W'.cell? ⟨B, 0, none⟩ = some (.int .u64 (x : Int)) ∧ W'.cell? ⟨B, 1, none⟩ = some (.int .u64 (z : Int)) ∧ Since W0 W') (first | exact ⟨by assumption, by assumption, by assumption⟩ | exact ⟨cell_drew (by assumption), cell_drew (by assumption), Since.drew (by assumption)⟩ | simp [*]) (first | (go_at_call 30; refine (KHB.out _ (by first | assumption | exact Since.drew (by assumption))).mono ?_; rintro e w' ⟨rfl, h0, h1, hS⟩) | (go_at_call 31; refine (KHR.out _ (by first | assumption | exact Since.drew (by assumption))).mono ?_; rintro e w' ⟨rfl, h0, h1, hS⟩) | (go_at_call 33; refine (KHA.out _ (by first | assumption | exact Since.drew (by assumption))).mono ?_; rintro e w' ⟨a5, cap5, rfl, hA5, h0, h1, hS⟩) | (go_at_call 32; (with_reducible refine (KHE.out _ _ _ (by first | assumption | exact Since.drew (by assumption)) (by assumption)).mono ?_); rintro e w' ⟨rfl, h0, h1, hS⟩))
    clear KHB KHR KHA KHE hc0 hc1
    go_wp2_with fail
    go_loopw [11, 12, 62] (fun _ _ j wr => ∃ k : Nat, k ≤ n2 ∧ j = .int .i64 k ∧ Since W0 wr) (fun _ _ j _ => n2 - (intOf j).toNat)
    case atStart => exact ⟨0, Nat.zero_le _, rfl, by assumption⟩
    case round =>
      obtain ⟨k, hk, rfl, hSr⟩ := hrel
      by_cases hlt : k < n2
      · obtain ⟨b, off2, rfl, hb, hcz⟩ := HZT.out k hlt
        have hx1 := ((Since.base KBW.out hSr).cell (p := ⟨b, off2 + k, none⟩) hb).trans hcz
        have hki : (k : Int) < (n2 : Int) := by omega
        clear hcz
        generalize zt k = i at *
        obtain ⟨t, ht1, ht2⟩ := KTU.out i
        have hH1 : ∀ W, Since W0 W → Calls Try.prog 34 #[.int .u64 x, .int .i64 i] W (fun e w' => e = .returned (.int .u64 t) ∧ w'.cell? ⟨B, 0, none⟩ = some (.int .u64 (x : Int)) ∧ Since W0 w') := fun W hS =>
          (ht1 W).mono fun e w' ⟨he, hb⟩ => ⟨he, (KT.out.since hltB (hS.next hb)).1, hS.next hb⟩
        have hH2 : ∀ W, Since W0 W → Calls Try.prog 35 #[.int .u64 x, .int .i64 i] W (fun e w' => e = .returned (.int .u64 t) ∧ w'.cell? ⟨B, 0, none⟩ = some (.int .u64 (x : Int)) ∧ Since W0 w') := fun W hS =>
          (ht2 W).mono fun e w' ⟨he, hb⟩ => ⟨he, (KT.out.since hltB (hS.next hb)).1, hS.next hb⟩
        have KH1 := Lib.hid hH1
        have KH2 := Lib.hid hH2
        have hc0 := (KT.out.since hltB hSr).1
        have hnet := ne_self t
        clear ht1 ht2 hH1 hH2
        by_cases h10 : k < 10
        · have hk10 : (k : Int) < 10 := by omega
          have hkd : decide ((k : Int) < 10) = true := decide_eq_true hk10
          go_wp2_with fail
          go_region_held3 (fun W' => W'.cell? ⟨B, 0, none⟩ = some (.int .u64 (x : Int)) ∧ Since W0 W') (first | exact ⟨by assumption, by assumption⟩ | exact ⟨cell_drew (by assumption), Since.drew (by assumption)⟩ | simp [*]) (first | (go_at_call 34; refine (KH1.out _ (by first | assumption | exact Since.drew (by assumption))).mono ?_; rintro e w' ⟨rfl, h0, hS⟩) | (go_at_call 35; refine (KH2.out _ (by first | assumption | exact Since.drew (by assumption))).mono ?_; rintro e w' ⟨rfl, h0, hS⟩))
          go_wp2_with fail
          exact ⟨⟨k + 1, by omega, by go_num, by assumption⟩, by simp [intOf]; omega⟩
        · have hk10 : ¬ (k : Int) < 10 := by omega
          have HKD := Lib.hid (decide_eq_false hk10)
          clear hk10
          go_wp2_with fail
          have hkd := HKD.out
          go_quiet (fail)
          clear hkd
          have hSn := hSr.drewN nq
          go_wp2_with fail
          exact ⟨⟨k + 1, by omega, by go_num, hSn⟩, by simp [intOf]; omega⟩
      · obtain rfl : k = n2 := by omega
        go_wp2_with fail
        go_ret
        exact ⟨by simp, Since.base KBW.out hSr⟩
  · obtain ⟨g, off, rfl, hcg⟩ := hcell _ _ _ KI0.out
    have hpos' : (0 : Int) < (L : Int) := by omega
    have hnei : ((L : Int) ≠ 0) := by omega
    clear KFS hcell KI0
    go_wp2_with fail
    go_region_held3 (fun W' => W'.cell? ⟨B, 0, none⟩ = some (.int .u64 (x : Int)) ∧ W'.cell? ⟨B, 1, none⟩ = some (.int .u64 (z : Int)) ∧ Since W0 W') (first | exact ⟨by assumption, by assumption, by assumption⟩ | exact ⟨cell_drew (by assumption), cell_drew (by assumption), Since.drew (by assumption)⟩ | simp [*]) (first | (go_at_call 30; refine (KHB.out _ (by first | assumption | exact Since.drew (by assumption))).mono ?_; rintro e w' ⟨rfl, h0, h1, hS⟩) | (go_at_call 31; refine (KHR.out _ (by first | assumption | exact Since.drew (by assumption))).mono ?_; rintro e w' ⟨rfl, h0, h1, hS⟩) | (go_at_call 33; refine (KHA.out _ (by first | assumption | exact Since.drew (by assumption))).mono ?_; rintro e w' ⟨a5, cap5, rfl, hA5, h0, h1, hS⟩) | (go_at_call 32; (with_reducible refine (KHE.out _ _ _ (by first | assumption | exact Since.drew (by assumption)) (by assumption)).mono ?_); rintro e w' ⟨rfl, h0, h1, hS⟩))
    clear KHB KHR KHA KHE hc0 hc1
    go_wp2_with fail
    go_loopw [11, 12, 62] (fun _ _ j wr => ∃ k : Nat, k ≤ n2 ∧ j = .int .i64 k ∧ Since W0 wr) (fun _ _ j _ => n2 - (intOf j).toNat)
    case atStart => exact ⟨0, Nat.zero_le _, rfl, by assumption⟩
    case round =>
      obtain ⟨k, hk, rfl, hSr⟩ := hrel
      by_cases hlt : k < n2
      · obtain ⟨b, off2, rfl, hb, hcz⟩ := HZT.out k hlt
        have hx1 := ((Since.base KBW.out hSr).cell (p := ⟨b, off2 + k, none⟩) hb).trans hcz
        have hki : (k : Int) < (n2 : Int) := by omega
        clear hcz
        generalize zt k = i at *
        obtain ⟨t, ht1, ht2⟩ := KTU.out i
        have hH1 : ∀ W, Since W0 W → Calls Try.prog 34 #[.int .u64 x, .int .i64 i] W (fun e w' => e = .returned (.int .u64 t) ∧ w'.cell? ⟨B, 0, none⟩ = some (.int .u64 (x : Int)) ∧ Since W0 w') := fun W hS =>
          (ht1 W).mono fun e w' ⟨he, hb⟩ => ⟨he, (KT.out.since hltB (hS.next hb)).1, hS.next hb⟩
        have hH2 : ∀ W, Since W0 W → Calls Try.prog 35 #[.int .u64 x, .int .i64 i] W (fun e w' => e = .returned (.int .u64 t) ∧ w'.cell? ⟨B, 0, none⟩ = some (.int .u64 (x : Int)) ∧ Since W0 w') := fun W hS =>
          (ht2 W).mono fun e w' ⟨he, hb⟩ => ⟨he, (KT.out.since hltB (hS.next hb)).1, hS.next hb⟩
        have KH1 := Lib.hid hH1
        have KH2 := Lib.hid hH2
        have hc0 := (KT.out.since hltB hSr).1
        have hnet := ne_self t
        clear ht1 ht2 hH1 hH2
        by_cases h10 : k < 10
        · have hk10 : (k : Int) < 10 := by omega
          have hkd : decide ((k : Int) < 10) = true := decide_eq_true hk10
          go_wp2_with fail
          go_region_held3 (fun W' => W'.cell? ⟨B, 0, none⟩ = some (.int .u64 (x : Int)) ∧ Since W0 W') (first | exact ⟨by assumption, by assumption⟩ | exact ⟨cell_drew (by assumption), Since.drew (by assumption)⟩ | simp [*]) (first | (go_at_call 34; refine (KH1.out _ (by first | assumption | exact Since.drew (by assumption))).mono ?_; rintro e w' ⟨rfl, h0, hS⟩) | (go_at_call 35; refine (KH2.out _ (by first | assumption | exact Since.drew (by assumption))).mono ?_; rintro e w' ⟨rfl, h0, hS⟩))
          go_wp2_with fail
          exact ⟨⟨k + 1, by omega, by go_num, by assumption⟩, by simp [intOf]; omega⟩
        · have hk10 : ¬ (k : Int) < 10 := by omega
          have HKD := Lib.hid (decide_eq_false hk10)
          clear hk10
          go_wp2_with fail
          have hkd := HKD.out
          go_quiet (fail)
          clear hkd
          have hSn := hSr.drewN nq
          go_wp2_with fail
          exact ⟨⟨k + 1, by omega, by go_num, hSn⟩, by simp [intOf]; omega⟩
      · obtain rfl : k = n2 := by omega
        go_wp2_with fail
        go_ret
        exact ⟨by simp, Since.base KBW.out hSr⟩

/-- An array of two words, opened. -/
theorem open_two {H : Type} {enc : TypeId × Value → H} {W : World} {r : Reach} {b0 base : Nat} {sp : Nat → Bool} {held : Bool} {v : Value} {d : DataW H} {p : List MemPlace}
    (hv : Value.okWide Try.prog W r b0 47 v) (h : DataW.Trod enc Try.prog W base sp held 47 v d p) :
    ∃ a b : Int, v = .agg #[.int .u64 a, .int .u64 b] ∧ (Lit.int .u64 a).wf = true ∧ (Lit.int .u64 b).wf = true := by
  obtain ⟨ys, rfl, hys⟩ : ∃ ys : Array Value, v = .agg ys ∧ ys.size = 2 := by
    simp only [Value.okWide, Try.underlying47] at hv
    obtain ⟨cs, h1, h2, _⟩ := hv
    exact ⟨cs, h1, by rw [h2, cellsTwo]⟩
  obtain ⟨fuel, hf⟩ := h
  obtain ⟨xs, m, rfl, hx, hlen, hxl, hel⟩ := DataW.trod_array Try.underlying47 hf
  obtain ⟨y0, y1, rfl⟩ : ∃ y0 y1, ys = #[y0, y1] := by
    obtain ⟨l⟩ := ys
    match l, hys with
    | [y0, y1], _ => exact ⟨y0, y1, rfl⟩
  obtain ⟨x0, x1, rfl⟩ : ∃ x0 x1, xs = [x0, x1] := by
    match xs, hxl with
    | [x0, x1], _ => exact ⟨x0, x1, rfl⟩
  have e0 := hel 0 (by decide)
  have e1 := hel 1 (by decide)
  rw [cellsWord] at e0 e1
  obtain ⟨a, ha, _, wa⟩ := DataW.trod_int Try.underlying23 e0
  obtain ⟨b, hb, _, wb⟩ := DataW.trod_int Try.underlying23 e1
  simp [Value.cells] at ha hb
  subst ha hb
  exact ⟨a, b, rfl, wa, wb⟩

theorem walk (a0 b0 a1 : Int) (a2 : Option Addr) (len2 cap2 : Nat) (z2 : List Int) (w : World) (w0 : (Lit.int .u64 a0).wf = true) (w0' : (Lit.int .u64 b0).wf = true) (w1 : (Lit.int .u8 a1).wf = true) (w2 : IsRow .i64 w a2 len2 cap2 z2) :
    Calls Try.prog 5 #[.agg #[.int .u64 a0, .int .u64 b0], .int .u8 a1, .slice a2 len2 cap2] w fun e w' => e = .returned (.bool true) ∧ Below w.heap.size w w' := by
  have c0 := bounds_u64 w0
  have c1 := bounds_u64 w0'
  have c2 := bounds_u8 w1
  obtain ⟨x, rfl⟩ := Int.eq_ofNat_of_zero_le c0.1
  obtain ⟨z, rfl⟩ := Int.eq_ofNat_of_zero_le c1.1
  obtain ⟨m, rfl⟩ := Int.eq_ofNat_of_zero_le c2.1
  have hx : x < 18446744073709551616 := by omega
  have hz : z < 18446744073709551616 := by omega
  have hm : m < 256 := by omega
  refine walkNat x z m hx hz hm a2 len2 cap2 (fun j => z2[j]?.getD 0) w ?_ ?_
  · intro j hj
    rcases w2 with ⟨_, h1, _, _⟩ | ⟨y, rfl, hl, hm, hzl, hcell, hwz⟩
    · omega
    · obtain ⟨b, off, rfl, hb, hc⟩ := isRow_at hcell (by omega)
      exact ⟨b, off, rfl, hb, hc j (by omega)⟩
  · rcases w2 with ⟨_, h1, _, _⟩ | ⟨y, rfl, hl, hm, hzl, hcell, hwz⟩
    · omega
    · unfold maxLen at hm; omega

theorem laidOut : laidOutB Try.prog = true := by kernel_rfl
set_option maxRecDepth 100000 in
theorem lifted (os : Os) (started : os.Started) (H : Type) (enc : TypeId × Value → H) :
    ReturnsInHanded {} Try.checked os 5 .any (Rows.lanesBlendsSpec.pre6 enc Try.prog Try.f5 Rows.lanesBlendsRow.domain false) (Rows.lanesBlendsSpec.post enc Try.prog Try.f5 false true false false) := by
  refine returnsInHanded_of_change (C := Try.checked) own started (by kernel_rfl) Try.func5
    (ChangeSpec.witness6 (enc := enc) (C := Try.checked) false ⟨#[], #[.agg #[.int .u64 0, .int .u64 0], .int .u8 0, .slice none 0 0], []⟩ 8 (by kernel_rfl) (by kernel_rfl) (by kernel_rfl) (by kernel_rfl)) ?_
  intro W base args ds gs before hval0 hW hcnd _
  have hval : ∀ (j : Nat) t v, Try.f5.params[j]? = some t → args[j]? = some v → Value.okWide Try.prog W .any base t v := hval0
  have hW' := hW
  obtain ⟨p, q, hA0, hV, rfl, hfz, hnd⟩ := hW
  have hA : DataW.TrodAll enc Try.prog W 0 (fun _ => true) true Try.f5.params.toList args.toList ds p := hA0
  rw [Try.params5] at hA hval
  obtain ⟨v0, vs0, d0, ds0, p0, q0, hargs, rfl, rfl, h0, r0⟩ := trodAll_cons hA
  obtain ⟨v1, vs1, d1, ds1, p1, q1, rfl, rfl, rfl, h1, r1⟩ := trodAll_cons r0
  obtain ⟨v2, vs2, d2, ds2, p2, q2, rfl, rfl, rfl, h2, r2⟩ := trodAll_cons r1
  obtain ⟨rfl, rfl, rfl⟩ := trodAll_nil r2
  obtain rfl : args = #[v0, v1, v2] := by cases args; simp_all
  obtain ⟨rfl, rfl⟩ := trodVars_none hV
  have k0 := h0
  have lt0 : ∀ x ∈ p0, x.block < W.heap.size := by obtain ⟨m, hm⟩ := k0; exact DataW.trod_lt m _ _ _ hm
  obtain ⟨a0, b0, rfl, w0, w0'⟩ := open_two (hval 0 47 v0 rfl rfl) h0
  obtain ⟨a1, rfl, rfl, rfl, w1⟩ := open_int Try.underlying43 (hval 1 43 v1 rfl rfl) h1
  obtain ⟨a2, len2, cap2, rfl⟩ := okWide_slice Try.underlying24 (hval 2 24 v2 rfl rfl)
  have k2 := h2
  have lt2 : ∀ x ∈ p2, x.block < W.heap.size := by obtain ⟨m, hm⟩ := k2; exact DataW.trod_lt m _ _ _ hm
  obtain ⟨z2, w2⟩ : ∃ zs, IsRow .i64 W a2 len2 cap2 zs := by
    obtain ⟨fuel, hf⟩ := h2
    rcases open_ints Try.underlying24 Try.underlying3 (by kernel_rfl) hf with ⟨hcs, _⟩ | ⟨x, l, c, zs, hcs, _, hl, hm, hz, _, hcell, hwz⟩
    · simp [Value.cells] at hcs
      obtain ⟨rfl, rfl, rfl⟩ := hcs
      exact ⟨[], .inl ⟨rfl, rfl, rfl, rfl⟩⟩
    · simp [Value.cells] at hcs
      obtain ⟨rfl, rfl, rfl⟩ := hcs
      exact ⟨zs, .inr ⟨_, rfl, hl, hm, by simpa using hz, hcell, hwz⟩⟩
  clear hA0 hval0
  refine (walk a0 b0 a1 a2 len2 cap2 z2 W w0 w0' w1 w2).mono fun e W' ⟨he, bel⟩ => ?_
  subst he
  exact ⟨_, rfl, _, _, _, [], _, [], hW', trodAll_mk1 (shut_bool Try.underlying4 _), (trodAll_cons_mk (Below.trod laidOut (by kernel_rfl) (of_decide_eq_true (by kernel_rfl)) k0 bel lt0) (trodAll_cons_mk (shut_int Try.underlying43 w1) (trodAll_cons_mk (Below.trod laidOut (by kernel_rfl) (of_decide_eq_true (by kernel_rfl)) k2 bel lt2) trodAll_mk0))), rfl, bel.frame _, fun h => by cases h⟩

theorem over : Rows.lanesBlendsRow.holds Try.pinned (OpenSpec.ofChange Rows.lanesBlendsSpec) :=
  OpenClaim.holds_of_wide 5 Try.f5 rfl rfl rfl rfl rfl rfl rfl ⟨rfl, rfl, rfl, rfl, rfl⟩ rfl rfl rfl rfl rfl (by kernel_rfl) Try.func5 (by kernel_rfl)
    (of_decide_eq_true (by kernel_rfl)) (by unfold Func.isWrapper; first | (rw [if_pos (by decide +kernel)]; kernel_rfl) | (rw [if_neg (by decide +kernel)]; exact ⟨rfl, rfl⟩))
    (fun os started H enc _ => lifted os started H enc)

theorem proved : Rows.LanesBlendsSaid := over
end Go.Proofs.Ytapmmefkblednaa.lanesBlends
