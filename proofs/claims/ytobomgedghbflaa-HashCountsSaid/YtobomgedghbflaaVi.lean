/- siftDown of rows of words. -/
import Derived.Test.YtobomgedghbflaaVb
namespace Go.Proofs
open Go.RowKit Go.Shelf
attribute [local go_sem] Oper.semAt_some

/-- Child c of root: which one is looked at. -/
theorem sift_step {hi f r : Nat} {d : Array Int} (h : 2 * r + 1 < hi) (c : Nat) (hc : c = if 2 * r + 1 + 1 < hi && ltB d[f + (2 * r + 1)]! d[f + (2 * r + 1) + 1]! then 2 * r + 2 else 2 * r + 1) :
    Sort.siftDown ltB hi f r d = if !ltB d[f + r]! d[f + c]! then d else Sort.siftDown ltB hi f c (Sort.swp d (f + r) (f + c)) := by
  rw [Sort.siftDown.eq_1, dif_neg (by omega)]
  split at hc
  · rename_i h1
    subst hc
    have h2 : 2 * r + 2 < hi := by simp at h1; omega
    rw [if_pos h1, dif_pos h2]
  · rename_i h1
    subst hc
    rw [if_neg h1]
set_option maxRecDepth 100000 in
set_option maxHeartbeats 8000000 in
theorem Try.siftDown_any (B cap lo hi f n cp : Nat) (d : Array Int) (hd : d.size ≤ 100000000) (hn : n = d.size) (hb : f + hi ≤ n) (hlo : lo ≤ 100000000) (w : World) (hS : SRow w B cap d) :
    Calls Try.prog 48 #[.slice (some ⟨B, 0, none⟩) n cp, .int .i64 (lo : Int), .int .i64 (hi : Int), .int .i64 (f : Int)] w
      fun e w' => e = .returned (.tuple #[]) ∧ SRow w' B cap (Sort.siftDown ltB hi f lo d) ∧ w.grownBy w' (some B) := by
  have HN := Lib.hid hn
  have hn' : n ≤ 100000000 := by omega
  obtain ⟨r, hr⟩ : ∃ r, r = Sort.siftDown ltB hi f lo d := ⟨_, rfl⟩
  rw [← hr]
  have HR := Lib.hid hr
  clear hr hn hd
  have hS0 := Lib.hid hS
  clear hS
  go_enter Try.func48, Try.ntmps48
  go_wp2_with fail
  go_loopw [8, 9] (fun rv _ wr => ∃ (k : Nat) (dk : Array Int), rv = .int .i64 (k : Int) ∧ k ≤ 100000000 ∧ Hid (Sort.siftDown ltB hi f k dk = r) ∧ Hid (dk.size = n) ∧ Hid (SRow wr B cap dk) ∧ Hid (w.grownBy wr (some B))) (fun rv _ _ => 100000001 - (intOf rv).toNat)
  case atStart => exact ⟨lo, d, rfl, hlo, Lib.hid HR.out.symm, Lib.hid HN.out.symm, hS0, Lib.hid (World.grownBy.refl _ _)⟩
  case round =>
    obtain ⟨k, dk, rfl, hk, hx, hsz, hS, hG⟩ := hrel
    by_cases hch : 2 * k + 1 < hi
    · have hchi : 2 * (k : Int) + 1 < (hi : Int) := by omega
      have HSTEP := Lib.hid fun c hc => sift_step (hi := hi) (f := f) (r := k) (d := dk) hch c hc
      have j0 : (f : Int) + (k : Int) < (n : Int) := by omega
      have n0 : ((f : Int) + (k : Int)).toNat = f + k := by omega
      have g0 : 0 ≤ (f : Int) + (k : Int) := by omega
      by_cases hch2 : 2 * k + 2 < hi
      · have hch2i : 2 * (k : Int) + 1 + 1 < (hi : Int) := by omega
        have m1 : (f : Int) + (2 * (k : Int) + 1) < (n : Int) := by omega
        have m2 : (f : Int) + (2 * (k : Int) + 1) + 1 < (n : Int) := by omega
        have o1 : ((f : Int) + (2 * (k : Int) + 1)).toNat = f + (2 * k + 1) := by omega
        have o2 : ((f : Int) + (2 * (k : Int) + 1) + 1).toNat = f + (2 * k + 1) + 1 := by omega
        have u1 : 0 ≤ (f : Int) + (2 * (k : Int) + 1) := by omega
        have u2 : 0 ≤ (f : Int) + (2 * (k : Int) + 1) + 1 := by omega
        have d1 := hS.out.cell (f + (2 * k + 1)) (by rw [hsz.out]; omega)
        have d2 := hS.out.cell (f + (2 * k + 1) + 1) (by rw [hsz.out]; omega)
        have hl := fun w => Try.less_any dk[f + (2 * k + 1)]! dk[f + (2 * k + 1) + 1]! w
        cases hlt : ltB dk[f + (2 * k + 1)]! dk[f + (2 * k + 1) + 1]! with
        | true =>
          have hs1 := HSTEP.out (2 * k + 2) (by rw [hlt, if_pos (by simp; omega)])
          have j1 : (f : Int) + (2 * (k : Int) + 1 + 1) < (n : Int) := by omega
          have n1 : ((f : Int) + (2 * (k : Int) + 1 + 1)).toNat = f + (2 * k + 2) := by omega
          have g1 : 0 ≤ (f : Int) + (2 * (k : Int) + 1 + 1) := by omega
          rw [hlt] at hl
          go_wp2_with fail
          go_quiet (first | (go_at_call 35; refine quiet_same (hl _)))
          clear d1 d2 hl
          have hSq := hS.out.drewN nq
          have hGq := hG.out.trans (grown_drewN wr nq (some B))
          clear hS hG
          generalize wr.drewN nq = wq at *
          have e0 := hSq.cell (f + k) (by rw [hsz.out]; omega)
          have f0 := hSq.frozen (f + k)
          have e1 := hSq.cell (f + (2 * k + 2)) (by rw [hsz.out]; omega)
          have f1 := hSq.frozen (f + (2 * k + 2))
          have hl2 := fun w => Try.less_any dk[f + k]! dk[f + (2 * k + 2)]! w
          have hS4 := Lib.hid (hSq.swp (f + k) (f + (2 * k + 2)) (by rw [hsz.out]; omega) (by rw [hsz.out]; omega))
          have hsz4 : Hid ((Sort.swp dk (f + k) (f + (2 * k + 2))).size = n) := Lib.hid (by rw [size_swp]; exact hsz.out)
          have HSQ := Lib.hid hSq
          have HGQ := Lib.hid hGq
          clear hSq hGq
          cases hlt2 : ltB dk[f + k]! dk[f + (2 * k + 2)]! with
          | true =>
            rw [hlt2] at hl2 hs1
            have hx2 : Hid (Sort.siftDown ltB hi f (2 * k + 2) (Sort.swp dk (f + k) (f + (2 * k + 2))) = r) := Lib.hid (by rw [← hx.out, hs1]; rfl)
            generalize dk[f + k]! = x at *
            generalize dk[f + (2 * k + 2)]! = y at *
            clear hlt2 hs1 hx
            go_wp2_with fail
            go_quiet (first | (go_at_call 35; refine quiet_same (hl2 _)))
            go_wp2_with fail
            go_region
            all_goals go_wp2_with fail
            refine ⟨⟨2 * k + 2, _, by go_num, by omega, hx2, hsz4, Lib.hid hS4.out, Lib.hid (HGQ.out.trans ((grown_drewN _ _ _).trans (grown_set2 _ _ _ _ _ _)))⟩, by simp [intOf]; omega⟩
          | false =>
            rw [hlt2] at hl2 hs1
            have hfin : Hid (dk = r) := Lib.hid (by rw [← hx.out, hs1]; rfl)
            generalize dk[f + k]! = x at *
            generalize dk[f + (2 * k + 2)]! = y at *
            clear hlt2 hs1 hx
            go_wp2_with fail
            go_quiet (first | (go_at_call 35; refine quiet_same (hl2 _)))
            go_wp2_with fail
            refine bodyPost_ret (results_none rfl _ _ _) rfl ?_
            exact ⟨rfl, hfin.out ▸ HSQ.out.drewN _, HGQ.out.trans (grown_drewN _ _ _)⟩
        | false =>
          have hs1 := HSTEP.out (2 * k + 1) (by rw [hlt, if_neg (by simp)])
          have j1 : (f : Int) + (2 * (k : Int) + 1) < (n : Int) := by omega
          have n1 : ((f : Int) + (2 * (k : Int) + 1)).toNat = f + (2 * k + 1) := by omega
          have g1 : 0 ≤ (f : Int) + (2 * (k : Int) + 1) := by omega
          rw [hlt] at hl
          go_wp2_with fail
          go_quiet (first | (go_at_call 35; refine quiet_same (hl _)))
          clear d1 d2 hl
          have hSq := hS.out.drewN nq
          have hGq := hG.out.trans (grown_drewN wr nq (some B))
          clear hS hG
          generalize wr.drewN nq = wq at *
          have e0 := hSq.cell (f + k) (by rw [hsz.out]; omega)
          have f0 := hSq.frozen (f + k)
          have e1 := hSq.cell (f + (2 * k + 1)) (by rw [hsz.out]; omega)
          have f1 := hSq.frozen (f + (2 * k + 1))
          have hl2 := fun w => Try.less_any dk[f + k]! dk[f + (2 * k + 1)]! w
          have hS4 := Lib.hid (hSq.swp (f + k) (f + (2 * k + 1)) (by rw [hsz.out]; omega) (by rw [hsz.out]; omega))
          have hsz4 : Hid ((Sort.swp dk (f + k) (f + (2 * k + 1))).size = n) := Lib.hid (by rw [size_swp]; exact hsz.out)
          have HSQ := Lib.hid hSq
          have HGQ := Lib.hid hGq
          clear hSq hGq
          cases hlt2 : ltB dk[f + k]! dk[f + (2 * k + 1)]! with
          | true =>
            rw [hlt2] at hl2 hs1
            have hx2 : Hid (Sort.siftDown ltB hi f (2 * k + 1) (Sort.swp dk (f + k) (f + (2 * k + 1))) = r) := Lib.hid (by rw [← hx.out, hs1]; rfl)
            generalize dk[f + k]! = x at *
            generalize dk[f + (2 * k + 1)]! = y at *
            clear hlt2 hs1 hx
            go_wp2_with fail
            go_quiet (first | (go_at_call 35; refine quiet_same (hl2 _)))
            go_wp2_with fail
            go_region
            all_goals go_wp2_with fail
            refine ⟨⟨2 * k + 1, _, by go_num, by omega, hx2, hsz4, Lib.hid hS4.out, Lib.hid (HGQ.out.trans ((grown_drewN _ _ _).trans (grown_set2 _ _ _ _ _ _)))⟩, by simp [intOf]; omega⟩
          | false =>
            rw [hlt2] at hl2 hs1
            have hfin : Hid (dk = r) := Lib.hid (by rw [← hx.out, hs1]; rfl)
            generalize dk[f + k]! = x at *
            generalize dk[f + (2 * k + 1)]! = y at *
            clear hlt2 hs1 hx
            go_wp2_with fail
            go_quiet (first | (go_at_call 35; refine quiet_same (hl2 _)))
            go_wp2_with fail
            refine bodyPost_ret (results_none rfl _ _ _) rfl ?_
            exact ⟨rfl, hfin.out ▸ HSQ.out.drewN _, HGQ.out.trans (grown_drewN _ _ _)⟩
      · have hch2i : decide (2 * (k : Int) + 1 + 1 < (hi : Int)) = false := by simp; omega
        have hs1 := HSTEP.out (2 * k + 1) (by rw [if_neg (by simp; omega)])
        have j1 : (f : Int) + (2 * (k : Int) + 1) < (n : Int) := by omega
        have n1 : ((f : Int) + (2 * (k : Int) + 1)).toNat = f + (2 * k + 1) := by omega
        have g1 : 0 ≤ (f : Int) + (2 * (k : Int) + 1) := by omega
        go_wp2_with fail
        go_quiet (fail)
        have hSq := hS.out.drewN nq
        have hGq := hG.out.trans (grown_drewN wr nq (some B))
        clear hS hG
        generalize wr.drewN nq = wq at *
        have e0 := hSq.cell (f + k) (by rw [hsz.out]; omega)
        have f0 := hSq.frozen (f + k)
        have e1 := hSq.cell (f + (2 * k + 1)) (by rw [hsz.out]; omega)
        have f1 := hSq.frozen (f + (2 * k + 1))
        have hl2 := fun w => Try.less_any dk[f + k]! dk[f + (2 * k + 1)]! w
        have hS4 := Lib.hid (hSq.swp (f + k) (f + (2 * k + 1)) (by rw [hsz.out]; omega) (by rw [hsz.out]; omega))
        have hsz4 : Hid ((Sort.swp dk (f + k) (f + (2 * k + 1))).size = n) := Lib.hid (by rw [size_swp]; exact hsz.out)
        have HSQ := Lib.hid hSq
        have HGQ := Lib.hid hGq
        clear hSq hGq
        cases hlt2 : ltB dk[f + k]! dk[f + (2 * k + 1)]! with
        | true =>
          rw [hlt2] at hl2 hs1
          have hx2 : Hid (Sort.siftDown ltB hi f (2 * k + 1) (Sort.swp dk (f + k) (f + (2 * k + 1))) = r) := Lib.hid (by rw [← hx.out, hs1]; rfl)
          generalize dk[f + k]! = x at *
          generalize dk[f + (2 * k + 1)]! = y at *
          clear hlt2 hs1 hx
          go_wp2_with fail
          go_quiet (first | (go_at_call 35; refine quiet_same (hl2 _)))
          go_wp2_with fail
          go_region
          all_goals go_wp2_with fail
          refine ⟨⟨2 * k + 1, _, by go_num, by omega, hx2, hsz4, Lib.hid hS4.out, Lib.hid (HGQ.out.trans ((grown_drewN _ _ _).trans (grown_set2 _ _ _ _ _ _)))⟩, by simp [intOf]; omega⟩
        | false =>
          rw [hlt2] at hl2 hs1
          have hfin : Hid (dk = r) := Lib.hid (by rw [← hx.out, hs1]; rfl)
          generalize dk[f + k]! = x at *
          generalize dk[f + (2 * k + 1)]! = y at *
          clear hlt2 hs1 hx
          go_wp2_with fail
          go_quiet (first | (go_at_call 35; refine quiet_same (hl2 _)))
          go_wp2_with fail
          refine bodyPost_ret (results_none rfl _ _ _) rfl ?_
          exact ⟨rfl, hfin.out ▸ HSQ.out.drewN _, HGQ.out.trans (grown_drewN _ _ _)⟩
    · have hchi : ¬ 2 * (k : Int) + 1 < (hi : Int) := by omega
      have hchi2 : (hi : Int) ≤ 2 * (k : Int) + 1 := by omega
      have hfin : Hid (dk = r) := Lib.hid (by rw [← hx.out, Sort.siftDown.eq_1, dif_pos (by omega)])
      clear hx
      go_wp2_with fail
      go_end0
      exact ⟨rfl, hfin.out ▸ hS.out, hG.out⟩
end Go.Proofs
