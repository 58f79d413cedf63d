/- The document's Back. -/
import Derived.Test.YtafccppobhhelaaDd
namespace Go.Proofs
open Go.RowKit Go.Shelf
attribute [local go_sem] Oper.semAt_some

def RefBackQ (n₀ : Nat) (ws : List Int) (ms : List Mk) (w : World) (e : Ending) (w' : World) : Prop :=
  ((ws.length < 1 ∨ 8192 < ws.length) ∧ e = .returned (.tuple #[.slice none 0 0, .int .i64 120]) ∧ Below w.heap.size w w') ∨
  (¬ (ws.length < 1 ∨ 8192 < ws.length) ∧ backAll ws ms.reverse = none ∧ e = .returned (.tuple #[.slice none 0 0, .int .i64 2]) ∧ Below w.heap.size w w') ∨
  (¬ (ws.length < 1 ∨ 8192 < ws.length) ∧ ∃ ws' v, backAll ws ms.reverse = some ws' ∧ e = .returned (.tuple #[v, .int .i64 0]) ∧ OwnsWords n₀ ws' v w' ∧ Below w.heap.size w w')
theorem backAll_step (ws cur : List Int) (r : List Mk) (k : Nat) (h : k < r.length) (hc : backAll ws (r.take k) = some cur) : backAll ws (r.take (k + 1)) = backOne cur r[k] := by
  rw [takeNext r k h, backAll_snoc, hc]
  rfl
theorem backAll_stop (ws cur : List Int) (r : List Mk) (k : Nat) (h : k < r.length) (hc : backAll ws (r.take k) = some cur) (hb : backOne cur r[k] = none) : backAll ws r = none := by
  have h1 := backAll_step ws cur r k h hc
  rw [hb] at h1
  have h2 := backAll_none ws (r.take (k + 1)) (r.drop (k + 1)) h1
  rwa [List.take_append_drop] at h2
theorem drewN_below (n k : Nat) (w : World) : Below n w (w.drewN k) := ⟨rfl, rfl, rfl, Nat.le_refl _, fun _ _ => rfl⟩

set_option maxRecDepth 100000 in
set_option maxHeartbeats 8000000 in
theorem Try.refBack2_any (n₀ : Nat) (ws : List Int) (v : Value) (am : Option Addr) (nm cm : Nat) (ms : List Mk) (hnm : nm = ms.length) (hlen : nm ≤ 1000) (w : World) (hn₀ : n₀ ≤ w.heap.size) (hI : OwnsWords n₀ ws v w) (hM : MarksAt w (.slice am nm cm) ms) :
    Calls Try.prog 30 #[v, .slice am nm cm] w (RefBackQ n₀ ws ms w) := by
  obtain ⟨_, a, cap, rfl, _⟩ := rowAt_own hI
  have hr := Try.refRight2_any a ws.length cap w
  have HI := Lib.hid hI
  have HM := Lib.hid hM
  have HN := Lib.hid hnm
  clear hI hM hnm
  by_cases hn : ws.length < 1 ∨ 8192 < ws.length
  · rw [decide_eq_false (by omega)] at hr
    have HR := Lib.hid hr
    have HNN := Lib.hid hn
    clear hr hn
    go_enter Try.func30, Try.ntmps30
    go_wp2_with fail
    refine HR.out.mono ?_
    rintro e w' ⟨rfl, rfl⟩
    go_wp2_with fail
    go_ret2
    unfold RefBackQ
    exact .inl ⟨HNN.out, rfl, Below.refl _ _⟩
  · rw [decide_eq_true (by omega)] at hr
    have HR := Lib.hid hr
    have HNN := Lib.hid hn
    have hl1 : 1 ≤ ws.length ∧ ws.length ≤ 8192 := by omega
    clear hr hn
    go_enter Try.func30, Try.ntmps30
    go_wp2_with fail
    refine HR.out.mono ?_
    rintro e w' ⟨rfl, rfl⟩
    go_wp2_with fail
    go_loopw [0, 6, 7] (fun s0 j _ wr => ∃ (k : Nat) (cur : List Int) (a0 : Option Addr) (c0 : Nat), k ≤ nm ∧ j = .int .i64 ((nm : Int) - 1 - k) ∧ backAll ws (ms.reverse.take k) = some cur ∧ cur.length = ws.length ∧ s0 = .slice a0 ws.length c0 ∧ OwnsWords n₀ cur (.slice a0 ws.length c0) wr ∧ Below w.heap.size w wr) (fun _ j _ _ => (intOf j + 1).toNat)
    case atStart => exact ⟨0, ws, a, cap, Nat.zero_le _, by simp, rfl, rfl, rfl, HI.out, Below.refl _ _⟩
    case round =>
      obtain ⟨k, cur, a0, c0, hk, rfl, hba, hcl, rfl, hO, hB⟩ := hrel
      have HO := Lib.hid hO
      have HBA := Lib.hid hba
      have HCL := Lib.hid hcl
      have HB := Lib.hid hB
      have hzr := hB.size
      clear hO hba hcl
      by_cases hlt : k < nm
      · have hge : (0 : Int) ≤ (nm : Int) - 1 - k := by omega
        have hsub : IntKind.i64.wrap ((nm : Int) - 1 - k - 1) = (nm : Int) - 1 - (k + 1 : Nat) := by
          rw [IntWalk.i64_in _ (by omega)]
          omega
        obtain ⟨j, hj⟩ : ∃ j : Nat, j = nm - 1 - k := ⟨_, rfl⟩
        have hji : ((nm : Int) - 1 - k) = (j : Int) := by omega
        have hkl : k < ms.reverse.length := by rw [List.length_reverse, ← HN.out]; exact hlt
        have hjl : j < ms.length := by rw [← HN.out]; omega
        have hrk : ms.reverse[k] = ms[j] := by
          rw [List.getElem_reverse]
          have : ms.length - 1 - k = j := by rw [← HN.out, hj]
          simp only [this]
        have hstep := backAll_step ws cur ms.reverse k hkl HBA.out
        have hstop := backAll_stop ws cur ms.reverse k hkl HBA.out
        rw [hrk] at hstep hstop
        obtain ⟨bm, om, rfl, hbm, y0, y1, y2, y3⟩ := marksAt_at (RowAt.below HM.out hB) j hjl
        have hjn : (j : Int) < (nm : Int) := by omega
        rw [hji] at hsub hge ⊢
        have HJI := Lib.hid hji
        have HSUB := Lib.hid hsub
        clear hji hrk hj
        generalize ms[j] = m at *
        obtain ⟨no, pl, was, is⟩ := m
        dsimp only at y0 y1 y2 y3
        have hz3 := (Below.refl wr.heap.size wr).alloc (Nat.le_refl _) (.cells #[.int .i64 no, .int .i64 pl, .int .u64 was, .int .u64 is] 47)
        have r7 := Rows8.new wr 47 #[.int .i64 no, .int .i64 pl, .int .u64 was, .int .u64 is]
        have HB2 := Lib.hid (HB.out.trans (hz3.mono HB.out.size))
        have HO2 := Lib.hid (owns_keep HO.out hz3 (Nat.le_refl _))
        clear hz3 HB HO
        by_cases hA : pl < 0
        · have hno : backAll ws ms.reverse = none := hstop (by unfold backOne; rw [if_neg]; simp only; omega)
          have HNO := Lib.hid hno
          clear hstep hstop hno
          go_wp2_with fail
          generalize (wr.alloc (.cells #[.int .i64 no, .int .i64 pl, .int .u64 was, .int .u64 is] 47)) = wc at *
          have z1 := r7.cell 1
          have z2 := r7.cell 2
          have z3 := r7.cell 3
          simp at z1 z2 z3
          clear r7
          go_quiet (fail)
          go_wp2_with fail
          go_ret2
          unfold RefBackQ
          exact .inr (.inl ⟨HNN.out, HNO.out, rfl, HB2.out.trans (drewN_below _ _ _)⟩)
        · have hdA : decide (pl < 0) = false := decide_eq_false hA
          by_cases hC : (ws.length : Int) ≤ pl
          · have hno : backAll ws ms.reverse = none := hstop (by unfold backOne; rw [if_neg]; simp only [HCL.out]; omega)
            have HNO := Lib.hid hno
            clear hstep hstop hno
            go_wp2_with fail
            generalize (wr.alloc (.cells #[.int .i64 no, .int .i64 pl, .int .u64 was, .int .u64 is] 47)) = wc at *
            have z1 := r7.cell 1
            have z2 := r7.cell 2
            have z3 := r7.cell 3
            simp at z1 z2 z3
            clear r7
            go_quiet (fail)
            go_wp2_with fail
            go_ret2
            unfold RefBackQ
            exact .inr (.inl ⟨HNN.out, HNO.out, rfl, HB2.out.trans (drewN_below _ _ _)⟩)
          · have hdC : decide ((ws.length : Int) ≤ pl) = false := decide_eq_false hC
            have hpl : 0 ≤ pl ∧ pl < (ws.length : Int) := by omega
            obtain ⟨b0, off0, rfl, hb0, x0⟩ := wordsAt_get (rowAt_own HO2.out) pl.toNat (by rw [HCL.out]; omega)
            by_cases hD : cur[pl.toNat]?.getD 0 = is
            · have hst : backAll ws (ms.reverse.take (k + 1)) = some (cur.set pl.toNat was) := by
                rw [hstep]; unfold backOne; rw [if_pos]; simp only [HCL.out]; exact ⟨hpl.1, hpl.2, hD⟩
              have HST := Lib.hid hst
              have hne : (cur[pl.toNat]?.getD 0 != is) = false := by simp [hD]
              have hsl : (cur.set pl.toNat was).length = ws.length := by rw [List.length_set]; exact HCL.out
              have HSL := Lib.hid hsl
              have hw0 := fun W hW => Try.refWith2_any (some ⟨b0, off0, none⟩) ws.length c0 cur HCL.out.symm (by omega) pl hpl.1 hpl.2 was W hW
              have HW := Lib.hid hw0
              clear hstep hstop hst hD hsl hw0
              generalize cur[pl.toNat]?.getD 0 = h at *
              go_wp2_with fail
              generalize (wr.alloc (.cells #[.int .i64 no, .int .i64 pl, .int .u64 was, .int .u64 is] 47)) = wc at *
              have z1 := r7.cell 1
              have z2 := r7.cell 2
              have z3 := r7.cell 3
              simp at z1 z2 z3
              have hlt7 := r7.lt
              clear r7
              go_quiet (fail)
              go_wp2_with fail
              refine (HW.out _ (RowAt.below (rowAt_own HO2.out) (drewN_below _ _ _))).mono ?_
              rintro e W8 ⟨v8, rfl, o8, B8⟩
              obtain ⟨_, a8, c8, rfl, _⟩ := rowAt_own o8
              have hBz := (HB2.out.trans (drewN_below _ _ _)).trans (B8.mono HB2.out.size)
              have HBZ := Lib.hid hBz
              have ho8 : OwnsWords n₀ (cur.set pl.toNat was) (.slice a8 ws.length c8) W8 := by
                rw [HSL.out] at o8
                exact owns_mono o8 (Nat.le_trans hn₀ HB2.out.size)
              have HO8 := Lib.hid ho8
              rw [HSL.out]
              clear o8 B8 hBz ho8
              go_wp2_with fail
              exact ⟨⟨k + 1, _, _, _, by omega, by go_num, HST.out, HSL.out, rfl, HO8.out, HBZ.out⟩, by have := HJI.out; simp [intOf]; omega⟩
            · have hno : backAll ws ms.reverse = none := hstop (by unfold backOne; rw [if_neg]; simp only [HCL.out]; omega)
              have HNO := Lib.hid hno
              have hne : (cur[pl.toNat]?.getD 0 != is) = true := by simp [hD]
              clear hstep hstop hno hD
              generalize cur[pl.toNat]?.getD 0 = h at *
              go_wp2_with fail
              generalize (wr.alloc (.cells #[.int .i64 no, .int .i64 pl, .int .u64 was, .int .u64 is] 47)) = wc at *
              have z1 := r7.cell 1
              have z2 := r7.cell 2
              have z3 := r7.cell 3
              simp at z1 z2 z3
              clear r7
              go_quiet (fail)
              go_wp2_with fail
              go_ret2
              unfold RefBackQ
              exact .inr (.inl ⟨HNN.out, HNO.out, rfl, HB2.out.trans (drewN_below _ _ _)⟩)
      · obtain rfl : k = nm := by omega
        have hlt0 : ¬ (0 : Int) ≤ (k : Int) - 1 - k := by omega
        have ht : ms.reverse.take k = ms.reverse := List.take_of_length_le (by rw [List.length_reverse, ← HN.out]; exact Nat.le_refl _)
        have hb := HBA.out
        rw [ht] at hb
        have HBB := Lib.hid hb
        clear hb ht
        go_wp2_with fail
        go_ret2
        unfold RefBackQ
        exact .inr (.inr ⟨HNN.out, cur, _, HBB.out, rfl, HO.out, HB.out⟩)
end Go.Proofs
