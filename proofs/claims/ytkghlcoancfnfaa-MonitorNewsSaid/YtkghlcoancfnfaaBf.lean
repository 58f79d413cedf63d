/- Monitor: which may be. -/
import Derived.Test.YtkghlcoancfnfaaBe
namespace Go.Proofs
set_option maxRecDepth 100000
open Go.RowKit Go.Shelf
attribute [local go_sem] Oper.semAt_some

theorem StH.mono {H H' : Nat} {x : Mv} {g : Nat} {pre : List Pr} {cp : Array Value} {A : World} (h : StH H' x g pre cp A) (hh : H ≤ H') : StH H x g pre cp A := by
  obtain ⟨B2, B3, B5, bm, h1, h2, h3, h4, h5, h6⟩ := h
  exact ⟨B2, B3, B5, bm, h1, h2, h3, h4, h5, Nat.le_trans hh h6⟩
theorem Try.fitHas_any (x : Mv) (m : Mn) (w : World) (hM : MonAt w x m) (hl : m.has.length = m.pin.length) :
    Calls Try.prog 61 #[.func (.func 62) #[.agg #[.slice x.sa x.sn x.sc, .slice x.pa x.pn x.pc, .slice x.ha x.hn x.hc, .slice x.ba x.bn x.bc]] #[], .slice x.ha x.hn x.hc] w fun e w' => e = .returned (.bool (fitFrom (badH m) 0 m.has)) ∧ Below w.heap.size w w' :=
  Try.fitE_any _ 77 _ (fun k pre cp W => StH w.heap.size x k pre cp W) (badH m) x.ha x.hn x.hc m.has w hM.h (by have := hM.lens; have := hM.z; omega) (fun l h => by have := hM.z.2.2.2.2 l h; omega) (fun _ _ => by kernel_rfl) (fun _ _ => by kernel_rfl)
    (fun k W _ hW => (Try.wrongHas_any x k W).mono fun e w' ⟨cp, h1, h2, h3⟩ => ⟨cp, h1, h2.mono hW.size, h3.mono hW.size⟩)
    (fun k pre e cp W hk he hpl hW hS => Try.wrongHas1_any x m k pre cp e w W hM hW hS (hM.w _ (List.getElem_mem hk) e he) (by omega) (by have := hM.z.2.2.2.2 _ (List.getElem_mem hk); omega))
    (fun k pre cp A B h hB => h.below hB)
theorem Try.fitBad_any (x : Mv) (m : Mn) (a : Option Addr) (n c : Nat) (L : List (List Wt)) (w : World) (hpl : x.pn = m.pin.length) (hL : HasWAt w (.slice a n c) L) (hn : n ≤ 10000) (hz : ∀ l ∈ L, l.length ≤ 10000) :
    Calls Try.prog 63 #[.func (.func 64) #[.agg #[.slice x.sa x.sn x.sc, .slice x.pa x.pn x.pc, .slice x.ha x.hn x.hc, .slice x.ba x.bn x.bc]] #[], .slice a n c] w fun e w' => e = .returned (.bool (fitFrom (badT m) 0 L)) ∧ Below w.heap.size w w' :=
  Try.fitW_any _ 79 _ (fun _ _ cp W => StT x cp W) (badT m) a n c L w hL hn hz (fun _ _ => by kernel_rfl) (fun _ _ => by kernel_rfl)
    (fun k W _ hW => (Try.wrongBad_any x k W).mono fun e w' ⟨cp, h1, h2, h3⟩ => ⟨cp, h1, h2, h3.mono hW.size⟩)
    (fun k pre e cp W _ _ _ hW hS => (Try.wrongBad1_any x m hpl cp e W hS).mono fun r w' ⟨h1, h2, h3⟩ => ⟨h1, h2, h3.mono hW.size⟩)
    (fun k pre cp A B h hB => h.below hB)
set_option maxHeartbeats 8000000 in
theorem Try.mayBeM_any (x : Mv) (m : Mn) (w : World) (hM : MonAt w x m) :
    Calls Try.prog 38 #[.agg #[.slice x.sa x.sn x.sc, .slice x.pa x.pn x.pc, .slice x.ha x.hn x.hc, .slice x.ba x.bn x.bc]] w fun e w' => e = .returned (.bool (rightM m)) ∧ Below w.heap.size w w' := by
  have hmf : ∀ (fn : Fn) (first cap : Array Value) (w : World), (Instr.makeFunc fn first cap).run Try.prog w = .ok (.func fn first cap) w := fun _ _ _ _ => rfl
  obtain ⟨r, hr⟩ : ∃ r, r = rightM m := ⟨_, rfl⟩
  rw [← hr]
  unfold rightM at hr
  obtain ⟨l1, l2, l3, l4⟩ := hM.lens
  rw [← l2, ← l3, ← l4] at hr
  have hB0 : Below w.heap.size w (w.alloc (.cells #[.slice x.sa x.sn x.sc, .slice x.pa x.pn x.pc, .slice x.ha x.hn x.hc, .slice x.ba x.bn x.bc] 79)) := Rows8.newB
  have hR0 := Rows8.new w 79 #[.slice x.sa x.sn x.sc, .slice x.pa x.pn x.pc, .slice x.ha x.hn x.hc, .slice x.ba x.bn x.bc]
  have hM0 := hM.below hB0
  obtain ⟨W0, hW0⟩ : ∃ W, W = w.alloc (.cells #[.slice x.sa x.sn x.sc, .slice x.pa x.pn x.pc, .slice x.ha x.hn x.hc, .slice x.ba x.bn x.bc] 79) := ⟨_, rfl⟩
  rw [← hW0] at hB0 hR0 hM0
  have HC := fun (W : World) (h : MonAt W x m) => Lib.hid (Try.Check_any x.sa x.sn x.sc m.sl W h.s)
  have HH := fun (W : World) => Lib.hid (Try.mayHaveM_any (x.pn : Nat) W)
  have HF := fun (W : World) (h : MonAt W x m) (hl : m.has.length = m.pin.length) => Lib.hid (Try.fitHas_any x m W h hl)
  have HG := fun (W : World) (a : Option Addr) (h : HasWAt W (.slice a 1 1) [m.bad]) => Lib.hid (Try.fitBad_any x m a 1 1 [m.bad] W l2 h (by omega) (fun l hl => by rw [List.mem_singleton.1 hl]; have := hM.z; omega))
  have HL := Lib.hid (And.intro l2 l3)
  obtain ⟨ra, hra⟩ : ∃ b, b = rightA m.sl := ⟨_, rfl⟩
  obtain ⟨rh, hrh⟩ : ∃ b, b = goersM (x.pn : Nat) := ⟨_, rfl⟩
  obtain ⟨rf, hrf⟩ : ∃ b, b = fitFrom (badH m) 0 m.has := ⟨_, rfl⟩
  obtain ⟨rg, hrg⟩ : ∃ b, b = fitFrom (badT m) 0 [m.bad] := ⟨_, rfl⟩
  rw [← hra] at hr HC
  rw [← hrh] at hr HH
  rw [← hrf] at hr HF
  rw [← hrg] at hr HG
  have HR := Lib.hid hr
  have HB0 := Lib.hid hB0
  have HR0 := Lib.hid hR0
  have HM0 := Lib.hid hM0
  clear hr l1 l2 l3 l4 hra hrh hrf hrg hB0 hR0 hM0 hM
  have hfin : Hid (∀ (u : World) (b : Bool), r = b → Below w.heap.size w u → (Ending.returned (.bool b) = Ending.returned (.bool r) ∧ Below w.heap.size w u)) := Lib.hid fun u b h hB => ⟨by rw [h], hB⟩
  go_enter Try.func38, Try.ntmps38
  go_wp2_with fail
  rw [← hW0]
  clear hW0
  have cell := fun (W : World) (h : Rows8 W w.heap.size 79 #[.slice x.sa x.sn x.sc, .slice x.pa x.pn x.pc, .slice x.ha x.hn x.hc, .slice x.ba x.bn x.bc]) => And.intro (h.cell 0) (And.intro (h.cell 1) (And.intro (h.cell 2) (h.cell 3)))
  have CELL := Lib.hid cell
  clear cell
  obtain ⟨c0, c1, c2, c3⟩ := CELL.out _ HR0.out
  simp only [List.getElem?_toArray, List.getElem?_cons_zero, List.getElem?_cons_succ] at c0 c1 c2 c3
  refine (HC W0 HM0.out).out.mono ?_
  rintro e W1 ⟨rfl, hB1⟩
  have HR1 := Lib.hid (HR0.out.below hB1 HR0.out.lt)
  have HM1 := Lib.hid (HM0.out.below hB1)
  have HB1 := Lib.hid (HB0.out.trans (hB1.mono HB0.out.size))
  clear hB1 c0 c1 c2 c3
  obtain ⟨c0, c1, c2, c3⟩ := CELL.out _ HR1.out
  simp only [List.getElem?_toArray, List.getElem?_cons_zero, List.getElem?_cons_succ] at c0 c1 c2 c3
  cases ra with
  | false =>
    go_wp2_with fail
    go_ret
    exact hfin.out _ false (by rw [HR.out]; rfl) HB1.out
  | true =>
    go_wp2_with fail
    refine (HH W1).out.mono ?_
    rintro e W2 ⟨rfl, rfl⟩
    cases rh with
    | false =>
      go_wp2_with fail
      go_ret
      exact hfin.out _ false (by rw [HR.out]; rfl) HB1.out
    | true =>
      by_cases hhp : x.hn = x.pn
      · have hb1 : (((x.hn : Nat) : Int) == ((x.pn : Nat) : Int)) = true := by simp [hhp]
        have HHP := Lib.hid hhp
        clear hhp
        by_cases hbn : x.bn ≤ 16
        · have hbi : ((x.bn : Nat) : Int) ≤ 16 := by omega
          have HBN := Lib.hid hbn
          clear hbn
          have HFl := HF W2 HM1.out (by have h1 := HL.out; have h2 := HHP.out; omega)
          go_wp2_with fail
          refine HFl.out.mono ?_
          rintro e W3 ⟨rfl, hB3⟩
          have HR3 := Lib.hid (HR1.out.below hB3 HR1.out.lt)
          have HM3 := Lib.hid (HM1.out.below hB3)
          have HB3 := Lib.hid (HB1.out.trans (hB3.mono HB1.out.size))
          clear hB3 c0 c1 c2 c3 HFl
          obtain ⟨c0, c1, c2, c3⟩ := CELL.out _ HR3.out
          simp only [List.getElem?_toArray, List.getElem?_cons_zero, List.getElem?_cons_succ] at c0 c1 c2 c3
          cases rf with
          | false =>
            go_wp2_with fail
            go_ret
            exact hfin.out _ false (by rw [HR.out, decide_eq_true HHP.out, decide_eq_true HBN.out]; rfl) HB3.out
          | true =>
            have hal : Below W3.heap.size W3 (W3.alloc (.cells #[.slice x.ba x.bn x.bc] 27)) := Rows8.newB
            have hlit : HasWAt (W3.alloc (.cells #[.slice x.ba x.bn x.bc] 27)) (.slice (some ⟨W3.heap.size, 0, none⟩) 1 1) [m.bad] := by
              refine ⟨[.slice x.ba x.bn x.bc], ⟨rfl, _, 1, rfl, Nat.le_refl _, by unfold maxLen; omega, (fun e => by cases e), fun j hj => ⟨W3.heap.size, 0, rfl, by simp, ?_⟩⟩, fun i hi => ?_⟩
              · rw [Nat.zero_add, Rows8.cell (Rows8.new W3 _ _) j]
                simp
              · obtain rfl : i = 0 := by simpa using hi
                have hwb := HM3.out.b.below hal
                have hbl := (wAt_len hwb).1
                refine ⟨x.ba, x.bc, ?_, ?_⟩
                · simp [hbl]
                · simpa [← hbl] using hwb
            have HGl := HG _ _ hlit
            have HB4 := Lib.hid (HB3.out.trans (hal.mono HB3.out.size))
            clear hal hlit
            go_wp2_with fail
            refine HGl.out.mono ?_
            rintro e W5 ⟨rfl, hB5⟩
            have HB5 := Lib.hid (HB4.out.trans (hB5.mono HB4.out.size))
            clear hB5
            go_wp2_with fail
            go_ret
            exact hfin.out _ rg (by rw [HR.out, decide_eq_true HHP.out, decide_eq_true HBN.out]; rfl) HB5.out
        · have hbi : ¬ ((x.bn : Nat) : Int) ≤ 16 := by omega
          have HBN := Lib.hid hbn
          clear hbn
          go_wp2_with fail
          go_ret
          exact hfin.out _ false (by rw [HR.out, decide_eq_true HHP.out, decide_eq_false HBN.out]; rfl) HB1.out
      · have hb1 : (((x.hn : Nat) : Int) == ((x.pn : Nat) : Int)) = false := by simp; omega
        have HHP := Lib.hid hhp
        clear hhp
        go_wp2_with fail
        go_ret
        exact hfin.out _ false (by rw [HR.out, decide_eq_false HHP.out]; rfl) HB1.out
end Go.Proofs
