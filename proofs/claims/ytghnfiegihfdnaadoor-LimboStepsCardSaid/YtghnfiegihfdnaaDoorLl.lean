/- Limbo: a hand: all that is ready is taken; steps. -/
import Derived.Test.YtghnfiegihfdnaaDoorLk
namespace Go.Proofs
set_option maxRecDepth 100000
open Go.RowKit Go.Shelf
attribute [local go_sem] Oper.semAt_some

theorem readyL_takR (E : Nat) (r : Rw3) : readyL E (takR E r) = (readyL E r).tail := updL_self _ _ _
theorem takR_3 (E : Nat) (r : Rw3) : takR E r 3 = r 3 ++ [(readyL E r).headD (0, 0)] := by
  have h : (E + 1) % 3 < 3 := Nat.mod_lt _ (by decide)
  unfold takR
  rw [updL_ne _ _ (by omega), updL_self]
theorem takA_takR {E : Nat} {r : Rw3} (h : readyL E r ≠ []) : takA E (takR E r) = takA E r := by
  have hk : (E + 1) % 3 < 3 := Nat.mod_lt _ (by decide)
  have h3 : takR E r 3 ++ readyL E (takR E r) = r 3 ++ readyL E r := by
    rw [readyL_takR, takR_3]
    cases hl : readyL E r with
    | nil => exact absurd hl h
    | cons z l => simp
  unfold takA
  rw [h3]
  funext j
  by_cases e : j = (E + 1) % 3
  · rw [e, updL_self, updL_self]
  · rw [updL_ne _ _ e, updL_ne _ _ e]
    by_cases e3 : j = 3
    · rw [e3, updL_self, updL_self]
    · rw [updL_ne _ _ e3, updL_ne _ _ e3]
      unfold takR
      rw [updL_ne _ _ e, updL_ne _ _ e3]
theorem takA_nil {E : Nat} {r : Rw3} (h : readyL E r = []) : takA E r = r := by
  have hk : (E + 1) % 3 < 3 := Nat.mod_lt _ (by decide)
  unfold takA
  funext j
  by_cases e : j = (E + 1) % 3
  · rw [e, updL_self]; exact h.symm
  · rw [updL_ne _ _ e]
    by_cases e3 : j = 3
    · rw [e3, updL_self, h, List.append_nil]
    · rw [updL_ne _ _ e3]
def totL (r : Rw3) : Nat := (r 0).length + (r 1).length + (r 2).length + (r 3).length
theorem totL_le (r : Rw3) (k : Nat) (hk : k < 4) : (r k).length ≤ totL r := by
  unfold totL
  rcases four hk with rfl | rfl | rfl | rfl <;> omega
theorem totL_upd (r : Rw3) (k : Nat) (hk : k < 3) (x : Pr) : totL (updL r k (r k ++ [x])) = totL r + 1 := by
  unfold totL
  rcases three hk with rfl | rfl | rfl <;> simp [updL] <;> omega
theorem totL_takA (E : Nat) (r : Rw3) : totL (takA E r) = totL r := by
  unfold totL takA readyL
  rcases three (Nat.mod_lt (E + 1) (show 0 < 3 by decide)) with h | h | h <;> rw [h] <;> simp [updL] <;> omega
theorem totL_step (E : Nat) (r : Rw3) (e : Pr) : totL (stepN E r e).2.2 ≤ totL r + 1 := by
  unfold stepN onN advN retN
  repeat' split
  all_goals first | (dsimp only; rw [totL_takA]; omega) | (dsimp only; rw [totL_upd _ _ (Nat.mod_lt _ (by decide))]; omega) | (dsimp only; omega)
theorem stepN_E {E : Nat} (h : E ≤ 4611686018427387904) (r : Rw3) (e : Pr) : (stepN E r e).2.1 ≤ 4611686018427387904 := by
  unfold stepN onN advN retN
  repeat' split
  all_goals (dsimp only; omega)
set_option maxHeartbeats 8000000 in
theorem Tryd.goOn_any (H n₀ E : Nat) (r : Rw3) (p : Pr) (s : Ls) (w : World) (h : Hl H n₀ E r s w) (hE : E ≤ 4611686018427387904) (hn0 : n₀ ≤ w.heap.size) (hH : n₀ ≤ H) (hl : totL r ≤ 900000) :
    Calls Tryd.prog 56 #[.pointer (some ⟨H, 0, none⟩), .agg #[.int .i64 p.1, .int .u64 (p.2 : Nat)]] w (HdQ H n₀ w (onN E r)) := by
  obtain ⟨R, hR⟩ : ∃ R, R = onN E r := ⟨_, rfl⟩
  rw [← hR]
  have HR := Lib.hid hR
  obtain ⟨W, hW⟩ : ∃ W, W = w.alloc (.cells #[.int .i64 p.1, .int .u64 (p.2 : Nat)] 38) := ⟨_, rfl⟩
  have hal : Below w.heap.size w W := by rw [hW]; exact Rows8.newB
  have HX := Lib.hid (h.below hal)
  have HAL := Lib.hid (hal.mono hn0)
  have HKF := Lib.hid (Kf.of_below (T := tL) hal)
  have HEE := Lib.hid hE
  have HLL := Lib.hid hl
  have HZ := Lib.hid (Nat.le_trans hn0 hal.size)
  have HK3 := Lib.hid (Nat.mod_lt (E + 1) (show 0 < 3 by decide))
  clear h hal hE hR hl
  go_enter Tryd.func56, Tryd.ntmps56
  go_wp2_with fail
  rw [← hW]
  clear hW
  go_loopg [] ((readyL E r).length) (fun k wr => ∃ (r' : Rw3) (s' : Ls), (readyL E r').length ≤ k ∧ Hid (takA E r' = takA E r) ∧ Hid (Hl H n₀ E r' s' wr) ∧ Hid (Below n₀ w wr) ∧ Hid (Kf tL w wr) ∧ Hid (n₀ ≤ wr.heap.size))
  case atStart => exact ⟨r, s, Nat.le_refl _, Lib.hid rfl, HX, HAL, HKF, HZ⟩
  case round =>
    obtain ⟨r', s', hk, ht, hl, hb, hkf, hz⟩ := hrel
    clear HX HAL HKF HZ
    have htot : totL r' ≤ 900000 := by
      have h1 := totL_takA E r'
      have h2 := totL_takA E r
      have h3 := HLL.out
      rw [ht.out] at h1
      omega
    have HTOT := Lib.hid htot
    have c0 : wr.cell? ⟨H, 0, none⟩ = some (.int .u64 (E : Nat)) := hl.out.bx.cell 0
    have c1 : wr.cell? ⟨H, 1, none⟩ = some (.slice (s'.a 0) (s'.n 0) (s'.c 0)) := hl.out.bx.cell 1
    have c2 : wr.cell? ⟨H, 2, none⟩ = some (.slice (s'.a 1) (s'.n 1) (s'.c 1)) := hl.out.bx.cell 2
    have c3 : wr.cell? ⟨H, 3, none⟩ = some (.slice (s'.a 2) (s'.n 2) (s'.c 2)) := hl.out.bx.cell 3
    have HRD := Lib.hid (Tryd.readyV_any E s' wr HEE.out)
    have hal : Below wr.heap.size wr (wr.alloc (.cells #[.int .u64 (E : Nat), .slice (s'.a 0) (s'.n 0) (s'.c 0), .slice (s'.a 1) (s'.n 1) (s'.c 1), .slice (s'.a 2) (s'.n 2) (s'.c 2)] 57)) := Rows8.newB
    have HX1 := Lib.hid (hl.out.below hal)
    have HB1 := Lib.hid (hb.out.trans (hal.mono hz.out))
    have HK1 := Lib.hid (hkf.out.trans (Kf.of_below (T := tL) hal))
    have HZ1 := Lib.hid (Nat.le_trans hz.out hal.size)
    have hln : s'.n ((E + 1) % 3) = (readyL E r').length := hl.out.len _ (by have := HK3.out; omega)
    generalize (E + 1) % 3 = q at *
    obtain ⟨sa, hsa⟩ : ∃ x, x = s'.a q := ⟨_, rfl⟩
    obtain ⟨n, hsn⟩ : ∃ x, x = s'.n q := ⟨_, rfl⟩
    obtain ⟨sc, hsc⟩ : ∃ x, x = s'.c q := ⟨_, rfl⟩
    rw [← hsa, ← hsn, ← hsc] at HRD
    rw [← hsn] at hln
    have HLN := Lib.hid hln
    have HK := Lib.hid hk
    clear htot hal hl hb hkf hz hln hsa hsn hsc hk
    by_cases hne : readyL E r' = []
    · have hn : n = 0 := by rw [HLN.out, hne]; rfl
      subst hn
      have d1 : decide (((0 : Nat) : Int) > 0) = false := rfl
      have hre : r' = takA E r := by rw [← ht.out]; exact (takA_nil hne).symm
      have HRE := Lib.hid hre
      clear hne hre
      go_wp2_with fail
      refine HRD.out.mono ?_
      rintro e w1 ⟨rfl, rfl⟩
      generalize (wr.alloc (.cells #[.int .u64 (E : Nat), .slice (s'.a 0) (s'.n 0) (s'.c 0), .slice (s'.a 1) (s'.n 1) (s'.c 1), .slice (s'.a 2) (s'.n 2) (s'.c 2)] 57)) = w1 at *
      have HA := Lib.hid (Tryd.advance_any H n₀ E r' s' w1 HX1.out HEE.out HZ1.out hH)
      clear c0 c1 c2 c3
      go_wp2_with fail
      refine HA.out.mono ?_
      rintro e w2 hQ
      have hQ2 := HdQ.behind HB1.out HK1.out hQ
      have hRR : advN E r' = R := by rw [HR.out, HRE.out]; rfl
      rw [hRR] at hQ2
      clear hQ hRR
      rcases hQ2 with ⟨⟨hr, rfl⟩ | ⟨hr, rfl⟩, hq⟩
      · have HQ := Lib.hid (show HdQ H n₀ w R (.returned (.tuple #[])) w2 from ⟨.inl ⟨hr, rfl⟩, hq⟩)
        clear hq hr
        go_wp2_with fail
        go_end0
        exact HQ.out
      · have HQ := Lib.hid (show HdQ H n₀ w R (.panicked (panicA R.1)) w2 from ⟨.inr ⟨hr, rfl⟩, hq⟩)
        clear hq hr
        unfold panicA
        go_wp2_with fail
        exact ⟨rfl, HQ.out⟩
    · have hn : 0 < n := by rw [HLN.out]; exact List.length_pos_iff.2 hne
      have d1 : decide (((n : Nat) : Int) > 0) = true := by simp; omega
      have d2 : decide (0 < ((n : Nat) : Int)) = true := by simp; omega
      have d3 : decide (0 < n) = true := decide_eq_true hn
      have HNE := Lib.hid hne
      have HN := Lib.hid hn
      clear hne hn
      go_wp2_with fail
      refine HRD.out.mono ?_
      rintro e w1 ⟨rfl, rfl⟩
      generalize (wr.alloc (.cells #[.int .u64 (E : Nat), .slice (s'.a 0) (s'.n 0) (s'.c 0), .slice (s'.a 1) (s'.n 1) (s'.c 1), .slice (s'.a 2) (s'.n 2) (s'.c 2)] 57)) = w1 at *
      have HT := Lib.hid (Tryd.take_any H n₀ E r' s' w1 HX1.out HEE.out HZ1.out hH (Nat.le_trans (totL_le r' 3 (by omega)) HTOT.out))
      have htn : takN E r' = (0, E, takR E r') := if_neg HNE.out
      rw [htn] at HT
      clear c0 c1 c2 c3 htn
      go_wp2_with fail
      refine HT.out.mono ?_
      rintro e w2 hQ
      have hQ2 := HdQ.behind HB1.out HK1.out hQ
      rcases hQ2 with ⟨⟨hr, rfl⟩ | ⟨hr, rfl⟩, ⟨s2, hq⟩, hb2, hk2⟩
      · have HQ := Lib.hid hq
        have HB2 := Lib.hid hb2
        have HK2 := Lib.hid hk2
        have HZ2 := Lib.hid (show n₀ ≤ w2.heap.size from Nat.le_trans hn0 hb2.size)
        have HT2 := Lib.hid ((takA_takR HNE.out).trans ht.out)
        have HL2 : Hid ((readyL E (takR E r')).length ≤ n - 1 ∧ n - 1 < gk) := Lib.hid (by
          have h1 := HLN.out
          have h2 := HN.out
          have h3 := HK.out
          rw [readyL_takR, List.length_tail]
          omega)
        clear hq hb2 hk2 hr hQ
        go_wp2_with fail
        go_roundg (n - 1)
        case measure => exact HL2.out.2
        case rel => exact ⟨takR E r', s2, HL2.out.1, HT2, HQ, HB2, HK2, HZ2⟩
      · exact absurd rfl hr
end Go.Proofs
