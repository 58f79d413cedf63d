/- partitionEqual of rows of words. -/
import Derived.Test.YtobomgedghbflaaVb
namespace Go.Proofs
open Go.RowKit Go.Shelf
attribute [local go_sem] Oper.semAt_some

theorem up_stop {p : Int → Bool} {d : Array Int} {i j : Nat} (h : ¬ (i ≤ j ∧ p d[i]! = true)) : Sort.scanUp p d j i = i := by
  rw [Sort.scanUp.eq_1, if_neg (by simpa using h)]
theorem up_go {p : Int → Bool} {d : Array Int} {i j : Nat} (h : i ≤ j) (hp : p d[i]! = true) : Sort.scanUp p d j i = Sort.scanUp p d j (i + 1) := by
  rw [Sort.scanUp.eq_1, if_pos (by simp [h, hp])]
theorem down_stop {p : Int → Bool} {d : Array Int} {i j : Nat} (h : ¬ (i ≤ j ∧ p d[j]! = true)) : Sort.scanDown p d i j = j := by
  cases j with
  | zero => rfl
  | succ j => unfold Sort.scanDown; rw [if_neg (by simpa using h)]
theorem down_go {p : Int → Bool} {d : Array Int} {i j : Nat} (h1 : 1 ≤ i) (h : i ≤ j) (hp : p d[j]! = true) : Sort.scanDown p d i j = Sort.scanDown p d i (j - 1) := by
  cases j with
  | zero => omega
  | succ j =>
    conv => lhs; unfold Sort.scanDown
    rw [if_pos (by simp [h, hp])]
    rfl
theorem partEq_step {a i j : Nat} {d : Array Int} {i2 j2 : Nat} (h1 : Sort.scanUp (fun x => !ltB d[a]! x) d j i = i2) (h2 : Sort.scanDown (fun x => ltB d[a]! x) d i2 j = j2) :
    Sort.partEqLoop ltB a i j d = if i2 > j2 then (i2, d) else Sort.partEqLoop ltB a (i2 + 1) (j2 - 1) (Sort.swp d i2 j2) := by
  have g1 := Sort.scanUp_ge (fun x => !ltB d[a]! x) d j i
  have g2 := Sort.scanDown_le (fun x => ltB d[a]! x) d i2 j
  rw [h1] at g1
  rw [h2] at g2
  rw [Sort.partEqLoop.eq_1]
  simp only [h1, h2]
  split
  · rfl
  · rename_i h
    rw [dif_pos (by omega)]
set_option maxRecDepth 100000 in
set_option maxHeartbeats 8000000 in
theorem Try.partitionEqual_any (B cap a b pv n cp : Nat) (d : Array Int) (hd : d.size ≤ 1000000) (hn : n = d.size) (ha : a < b) (hb : b ≤ n) (hp1 : a ≤ pv) (hp2 : pv < b) (w : World) (hS : SRow w B cap d) :
    Calls Try.prog 36 #[.slice (some ⟨B, 0, none⟩) n cp, .int .i64 (a : Int), .int .i64 (b : Int), .int .i64 (pv : Int)] w
      fun e w' => e = .returned (.int .i64 ((Sort.partitionEqual ltB d a b pv).1 : Int)) ∧ SRow w' B cap (Sort.partitionEqual ltB d a b pv).2 ∧ w.grownBy w' (some B) := by
  have hn' : n ≤ 1000000 := by omega
  obtain ⟨r, hr⟩ : ∃ r, r = Sort.partEqLoop ltB a (a + 1) (b - 1) (Sort.swp d a pv) := ⟨_, rfl⟩
  rw [show Sort.partitionEqual ltB d a b pv = r from hr.symm]
  have e0 := hS.cell a (by omega)
  have e1 := hS.cell pv (by omega)
  have f0 := hS.frozen a
  have f1 := hS.frozen pv
  have f2 := (hS.set a d[pv]! (by omega)).frozen pv
  obtain ⟨v2, e2⟩ : ∃ v2, (w.setCell ⟨B, a, none⟩ (.int .u64 d[pv]!)).cell? ⟨B, pv, none⟩ = some v2 := ⟨_, (hS.set a d[pv]! (by omega)).cell pv (by simp; omega)⟩
  have j0 : (a : Int) < (n : Int) := by omega
  have j1 : (pv : Int) < (n : Int) := by omega
  have HS1 := Lib.hid (hS.swp a pv (by omega) (by omega))
  have HZ1 : Hid ((Sort.swp d a pv).size = n) := Lib.hid (by rw [size_swp]; exact hn.symm)
  have HG1 := Lib.hid (grown_set2 w B a pv (.int .u64 d[pv]!) (.int .u64 d[a]!))
  have HR := Lib.hid hr
  obtain ⟨b1, hb1⟩ : ∃ b1, b1 = b - 1 := ⟨_, rfl⟩
  rw [← hb1] at HR
  have hb2 : b1 < n := by omega
  have hbb : (b : Int) - 1 = (b1 : Int) := by omega
  have hab1 : a ≤ b1 := by omega
  generalize Sort.swp d a pv = d1 at *
  generalize d[a]! = x at *
  generalize d[pv]! = y at *
  clear hS hr hn hd hb1
  go_enter Try.func36, Try.ntmps36
  go_wp2_with fail
  go_region
  all_goals go_wp2_with fail
  go_loopw [9, 10] (fun iv jv wr => ∃ (i j : Nat) (dk : Array Int), iv = .int .i64 (i : Int) ∧ jv = .int .i64 (j : Int) ∧ a + 1 ≤ i ∧ i ≤ 1000003 ∧ a ≤ j ∧ j ≤ b1 ∧ Hid (Sort.partEqLoop ltB a i j dk = r) ∧ Hid (dk.size = n) ∧ Hid (SRow wr B cap dk) ∧ Hid (w.grownBy wr (some B))) (fun iv jv _ => ((intOf jv) + 1 - intOf iv).toNat)
  case atStart => exact ⟨a + 1, b1, d1, by go_num, rfl, Nat.le_refl _, by omega, hab1, Nat.le_refl _, Lib.hid HR.out.symm, HZ1, HS1, Lib.hid (grown_drew' HG1.out)⟩
  case round =>
    clear e0 e1 f0 f1 f2 e2
    obtain ⟨i, j, dk, rfl, rfl, hi1, hi2, hj1, hj2, hx, hsz, hS, hG⟩ := hrel
    obtain ⟨i2, hi3⟩ : ∃ i2, Sort.scanUp (fun x => !ltB dk[a]! x) dk j i = i2 := ⟨_, rfl⟩
    obtain ⟨j2, hj3⟩ : ∃ j2, Sort.scanDown (fun x => ltB dk[a]! x) dk i2 j = j2 := ⟨_, rfl⟩
    have hst := partEq_step hi3 hj3
    rw [hx.out] at hst
    have hge := Sort.scanUp_ge (fun x => !ltB dk[a]! x) dk j i
    rw [hi3] at hge
    have HST := Lib.hid hst
    have HI := Lib.hid hi3
    have HJ := Lib.hid hj3
    clear hst hi3 hj3 hx
    obtain ⟨we, rfl⟩ : ∃ x, x = wr := ⟨_, rfl⟩
    go_wp2_with fail
    go_loopw [9] (fun iv wr => ∃ k : Nat, iv = .int .i64 (k : Int) ∧ i ≤ k ∧ (k ≤ j + 1 ∨ k = i) ∧ Hid (Sort.scanUp (fun x => !ltB dk[a]! x) dk j k = i2) ∧ Hid (SRow wr B cap dk) ∧ Hid (w.grownBy wr (some B))) (fun iv _ => ((j : Int) + 1 - intOf iv).toNat)
    case atStart => exact ⟨i, rfl, Nat.le_refl _, .inr rfl, HI, hS, hG⟩
    case round =>
      clear hS hG HI
      obtain ⟨k, rfl, hk1, hk2, hxk, hS, hG⟩ := hrel
      by_cases hkj : k ≤ j
      · have hkji : (k : Int) ≤ (j : Int) := by omega
        have e0 := hS.out.cell a (by rw [hsz.out]; omega)
        have e1 := hS.out.cell k (by rw [hsz.out]; omega)
        have k1 : (k : Int) < (n : Int) := by omega
        have hl := fun w => Try.less_any dk[a]! dk[k]! w
        cases hlt : ltB dk[a]! dk[k]! with
        | false =>
          have hx2 : Hid (Sort.scanUp (fun x => !ltB dk[a]! x) dk j (k + 1) = i2) := Lib.hid (by rw [← hxk.out]; exact (up_go hkj (by simp only [hlt]; rfl)).symm)
          rw [hlt] at hl
          clear hlt hxk
          go_wp2_with fail
          go_quiet (first | (go_at_call 35; refine quiet_same (hl _)))
          go_wp2_with fail
          exact ⟨⟨k + 1, by go_num, by omega, .inl (by omega), hx2, Lib.hid (hS.out.drewN _), Lib.hid (hG.out.trans (grown_drewN _ _ _))⟩, by simp [intOf]; omega⟩
        | true =>
          rw [hlt] at hl
          go_wp2_with fail
          go_quiet (first | (go_at_call 35; refine quiet_same (hl _)))
          clear e0 e1 hl
          obtain rfl : k = i2 := (by rw [← hxk.out]; exact (up_stop (by simp [hlt])).symm)
          have hSq := hS.out.drewN nq
          have hGq := hG.out.trans (grown_drewN wr nq (some B))
          clear hS hG hxk
          generalize wr.drewN nq = wp at *
          have HSP := Lib.hid hSq
          have HGP := Lib.hid hGq
          clear hSq hGq
          obtain ⟨we2, rfl⟩ : ∃ x, x = wp := ⟨_, rfl⟩
          go_wp2_with fail
          go_loopw [10] (fun jv wr => ∃ m : Nat, jv = .int .i64 (m : Int) ∧ a ≤ m ∧ m ≤ j ∧ Hid (Sort.scanDown (fun x => ltB dk[a]! x) dk k m = j2) ∧ Hid (SRow wr B cap dk) ∧ Hid (w.grownBy wr (some B))) (fun jv _ => (intOf jv).toNat)
          case atStart => exact ⟨j, rfl, hj1, Nat.le_refl _, HJ, HSP, HGP⟩
          case round =>
            clear HSP HGP HJ
            obtain ⟨m, rfl, hm1, hm2, hm, hS, hG⟩ := hrel
            by_cases hkm : k ≤ m
            · have hkmi : (k : Int) ≤ (m : Int) := by omega
              have e0 := hS.out.cell a (by rw [hsz.out]; omega)
              have e1 := hS.out.cell m (by rw [hsz.out]; omega)
              have m1 : (m : Int) < (n : Int) := by omega
              have hl := fun w => Try.less_any dk[a]! dk[m]! w
              cases hlt : ltB dk[a]! dk[m]! with
              | true =>
                have hx2 : Hid (Sort.scanDown (fun x => ltB dk[a]! x) dk k (m - 1) = j2) := Lib.hid (by rw [← hm.out]; exact (down_go (by omega) hkm (by simp only [hlt])).symm)
                rw [hlt] at hl
                clear hlt hm
                go_wp2_with fail
                go_quiet (first | (go_at_call 35; refine quiet_same (hl _)))
                go_wp2_with fail
                exact ⟨⟨m - 1, by go_num, by omega, by omega, hx2, Lib.hid (hS.out.drewN _), Lib.hid (hG.out.trans (grown_drewN _ _ _))⟩, by simp [intOf]; omega⟩
              | false =>
                rw [hlt] at hl
                go_wp2_with fail
                go_quiet (first | (go_at_call 35; refine quiet_same (hl _)))
                clear e0 e1 hl
                obtain rfl : m = j2 := (by rw [← hm.out]; exact (down_stop (by simp [hlt])).symm)
                have hSq := hS.out.drewN nq
                have hGq := hG.out.trans (grown_drewN wr nq (some B))
                clear hS hG hm
                generalize wr.drewN nq = wq at *
                by_cases hgt : k > m
                · have hgti : (m : Int) < (k : Int) := by omega
                  have hfin : Hid (r = (k, dk)) := Lib.hid (by rw [HST.out, if_pos hgt])
                  go_wp2_with fail
                  go_ret
                  exact ⟨by rw [hfin.out]; rfl, by rw [hfin.out]; exact hSq, hGq⟩
                · have hgti : ¬ (m : Int) < (k : Int) := by omega
                  have hx2 : Hid (Sort.partEqLoop ltB a (k + 1) (m - 1) (Sort.swp dk k m) = r) := Lib.hid (by rw [HST.out, if_neg hgt])
                  have e0 := hSq.cell k (by rw [hsz.out]; omega)
                  have e1 := hSq.cell m (by rw [hsz.out]; omega)
                  have f0 := hSq.frozen k
                  have f1 := hSq.frozen m
                  have f2 := (hSq.set k dk[m]! (by rw [hsz.out]; omega)).frozen m
                  obtain ⟨v2, e2⟩ : ∃ v2, (wq.setCell ⟨B, k, none⟩ (.int .u64 dk[m]!)).cell? ⟨B, m, none⟩ = some v2 := ⟨_, (hSq.set k dk[m]! (by rw [hsz.out]; omega)).cell m (by simp [hsz.out]; omega)⟩
                  have k1 : (k : Int) < (n : Int) := by omega
                  have m1 : (m : Int) < (n : Int) := by omega
                  have HS4 := Lib.hid (hSq.swp k m (by rw [hsz.out]; omega) (by rw [hsz.out]; omega))
                  have HZ4 : Hid ((Sort.swp dk k m).size = n) := Lib.hid (by rw [size_swp]; exact hsz.out)
                  have HG4 := Lib.hid (hGq.trans (grown_set2 wq B k m (.int .u64 dk[m]!) (.int .u64 dk[k]!)))
                  generalize Sort.swp dk k m = ds at *
                  generalize dk[k]! = x2 at *
                  generalize dk[m]! = y2 at *
                  clear hSq hGq
                  go_wp2_with fail
                  go_region
                  all_goals go_wp2_with fail
                  exact ⟨⟨k + 1, m - 1, ds, by go_num, by go_num, by omega, by omega, by omega, by omega, hx2, HZ4, HS4, Lib.hid (grown_drew' HG4.out)⟩, by simp [intOf]; omega⟩
            · have hkmi : decide ((k : Int) ≤ (m : Int)) = false := by simp; omega
              go_wp2_with fail
              go_quiet (fail)
              obtain rfl : m = j2 := (by rw [← hm.out]; exact (down_stop (by omega)).symm)
              have hSq := hS.out.drewN nq
              have hGq := hG.out.trans (grown_drewN wr nq (some B))
              clear hS hG hm
              generalize wr.drewN nq = wq at *
              by_cases hgt : k > m
              · have hgti : (m : Int) < (k : Int) := by omega
                have hfin : Hid (r = (k, dk)) := Lib.hid (by rw [HST.out, if_pos hgt])
                go_wp2_with fail
                go_ret
                exact ⟨by rw [hfin.out]; rfl, by rw [hfin.out]; exact hSq, hGq⟩
              · omega
      · have hkji : decide ((k : Int) ≤ (j : Int)) = false := by simp; omega
        go_wp2_with fail
        go_quiet (fail)
        obtain rfl : k = i2 := (by rw [← hxk.out]; exact (up_stop (by omega)).symm)
        have hSq := hS.out.drewN nq
        have hGq := hG.out.trans (grown_drewN wr nq (some B))
        clear hS hG hxk
        generalize wr.drewN nq = wp at *
        have HSP := Lib.hid hSq
        have HGP := Lib.hid hGq
        clear hSq hGq
        obtain ⟨we2, rfl⟩ : ∃ x, x = wp := ⟨_, rfl⟩
        go_wp2_with fail
        go_loopw [10] (fun jv wr => ∃ m : Nat, jv = .int .i64 (m : Int) ∧ a ≤ m ∧ m ≤ j ∧ Hid (Sort.scanDown (fun x => ltB dk[a]! x) dk k m = j2) ∧ Hid (SRow wr B cap dk) ∧ Hid (w.grownBy wr (some B))) (fun jv _ => (intOf jv).toNat)
        case atStart => exact ⟨j, rfl, hj1, Nat.le_refl _, HJ, HSP, HGP⟩
        case round =>
          clear HSP HGP HJ
          obtain ⟨m, rfl, hm1, hm2, hm, hS, hG⟩ := hrel
          by_cases hkm : k ≤ m
          · omega
          · have hkmi : decide ((k : Int) ≤ (m : Int)) = false := by simp; omega
            go_wp2_with fail
            go_quiet (fail)
            obtain rfl : m = j2 := (by rw [← hm.out]; exact (down_stop (by omega)).symm)
            have hSq := hS.out.drewN nq
            have hGq := hG.out.trans (grown_drewN wr nq (some B))
            clear hS hG hm
            generalize wr.drewN nq = wq at *
            by_cases hgt : k > m
            · have hgti : (m : Int) < (k : Int) := by omega
              have hfin : Hid (r = (k, dk)) := Lib.hid (by rw [HST.out, if_pos hgt])
              go_wp2_with fail
              go_ret
              exact ⟨by rw [hfin.out]; rfl, by rw [hfin.out]; exact hSq, hGq⟩
            · omega
end Go.Proofs
