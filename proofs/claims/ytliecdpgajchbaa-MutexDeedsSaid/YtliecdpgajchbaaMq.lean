/- A hand: leave. -/
import Derived.Test.YtliecdpgajchbaaMp
namespace Go.Proofs
open Go.RowKit Go.Shelf
attribute [local go_sem] Oper.semAt_some

theorem right_goer {ms : List Mx} (hr : rightB ms = true) {k : Nat} (hk : k < ms.length) {z : Int} (hz : z ∈ ms[k].q) : 0 ≤ z ∧ z ≤ 7 := by
  obtain ⟨_, h1, _⟩ := (rightB_iff ms).1 hr
  have := ((h1 ms[k] (List.getElem_mem hk)).2 z hz).1
  simpa [goerB] using this
theorem OwnM.left {n₀ : Nat} {ms : List Mx} {r n : Nat} {vs : List Value} {W : World} (h : OwnM n₀ ms (.slice (some ⟨r, 0, none⟩) n n) vs W) (k : Nat) (hk : k < ms.length) (z : Int) (t : List Int) (hq : ms[k].q = z :: t) (a : Addr) (c : Nat) (hv : vs[k * 2 + 1]? = some (.slice (some a) (t.length + 1) c)) :
    ∃ vs', OwnM n₀ (ms.set k ⟨z + 1, t⟩) (.slice (some ⟨r, 0, none⟩) n n) vs' (((W.setCell ⟨r, k * 2, none⟩ (.int .i64 0)).setCell ⟨r, k * 2, none⟩ (.int .i64 (z + 1))).setCell ⟨r, k * 2 + 1, none⟩ (.slice (some (if t.length + 1 = 1 then a else a.add (1 * 1))) t.length t.length)) := by
  have hn := h.rows.1
  have h1 := h.setOwn hn k hk 0
  have hl1 : (ms.set k ⟨0, ms[k].q⟩).length = ms.length := List.length_set ..
  have h2 := h1.setOwn (by rw [hl1]; exact hn) k (by rw [hl1]; exact hk) (z + 1)
  have hv2 : ((vs.set (k * 2) (.int .i64 0)).set (k * 2) (.int .i64 (z + 1)))[k * 2 + 1]? = some (.slice (some a) (t.length + 1) c) := by rw [getD_set_ne (by omega), getD_set_ne (by omega)]; exact hv
  have ho : OwnQ n₀ (z :: t) (.slice (some a) (t.length + 1) c) W := by
    obtain ⟨qv, e, ho⟩ := h.que k hk
    rw [hv] at e
    cases e
    rw [hq] at ho
    exact ho
  have hne := h.rowNe k _ hk hv
  have ho2 := (ho.kept (grownBy_set W r (k * 2) (.int .i64 0)) hne).kept (grownBy_set _ r (k * 2) (.int .i64 (z + 1))) hne
  generalize hm1 : ms.set k ⟨0, ms[k].q⟩ = m1 at *
  have hl2 : (m1.set k ⟨z + 1, m1[k].q⟩).length = m1.length := List.length_set ..
  have h3 := (h2.turnQ k (by rw [hl2, hl1]; exact hk) _ hv2 (World.grownBy.refl _ _) t _ ho2.cut (.inl (by
    simp only [Value.ownBlock]
    split <;> simp [Addr.add]))).1
  have e : (m1.set k ⟨z + 1, m1[k].q⟩).set k ⟨(m1.set k ⟨z + 1, m1[k].q⟩)[k].own, t⟩ = ms.set k ⟨z + 1, t⟩ := by
    subst hm1
    simp only [List.set_set, List.getElem_set_self]
  rw [e] at h3
  exact ⟨_, h3⟩
set_option maxRecDepth 100000 in
set_option maxHeartbeats 2000000 in
theorem Try.leave_any (which goer : Int) (H r n n₀ : Nat) (p : Value) (ms : List Mx) (hrt : rightB ms = true) (w : World) (hH : Rows8 w H 67 #[.slice (some ⟨r, 0, none⟩) n n, p]) (hO : OwnsM n₀ ms (.slice (some ⟨r, 0, none⟩) n n) w) :
    Calls Try.prog 46 #[.pointer (some ⟨H, 0, none⟩), .int .i64 which, .int .i64 goer] w fun e w' =>
      (leaveE ms which goer = 0 ∧ e = .returned (.tuple #[]) ∧ Rows8 w' H 67 #[.slice (some ⟨r, 0, none⟩) n n, p] ∧ OwnsM n₀ (leaveS ms which) (.slice (some ⟨r, 0, none⟩) n n) w' ∧ Below n₀ w w' ∧ Spare w w') ∨
      (leaveE ms which goer ≠ 0 ∧ e = .panicked (panic1 (leaveE ms which goer)) ∧ Below w.heap.size w w') := by
  obtain ⟨vs, hO⟩ := hO
  obtain ⟨hn, hn0, hr8⟩ := hO.rows
  have hat := Try.at_any which goer H r n p ms hn w hH
  have hMx := hO.at
  have HAT := Lib.hid hat
  cases hb : argB ms which goer with
  | false =>
    have he : Hid (leaveE ms which goer = 2) := Lib.hid (by unfold leaveE; rw [hb]; rfl)
    generalize leaveE ms which goer = E at *
    have HB := Lib.hid hb
    clear hat hMx hO hH hb
    go_enter Try.func46, Try.ntmps46
    go_wp2_with fail
    refine HAT.out.mono ?_
    rintro e w' ⟨(⟨h1, rfl⟩ | ⟨h1, rfl⟩), rfl⟩
    · rw [HB.out] at h1
      cases h1
    clear h1
    go_wp2_with fail
    exact ⟨rfl, .inr ⟨by rw [he.out]; decide, by rw [he.out], Below.refl _ _⟩⟩
  | true =>
    obtain ⟨⟨hw1, hw2⟩, hg1, hg2⟩ := argB_iff.1 hb
    obtain ⟨k, rfl⟩ : ∃ k : Nat, which = (k : Int) := ⟨which.toNat, by omega⟩
    have hk : k < ms.length := by omega
    rw [Int.toNat_natCast] at hat HAT
    have hm := atM_eq hk
    have hE : leaveE ms k goer = if ms[k].own = goer + 1 then 0 else 4 := by unfold leaveE; rw [if_pos hb, hm]
    have hS : leaveS ms k = ms.set k (leaveX ms[k].q) := by unfold leaveS; rw [hm, Int.toNat_natCast]
    have hof := Try.isOf_any k goer (by omega) (some ⟨r, 0, none⟩) n n ms hk w hMx
    obtain ⟨sa, sc, s1, s2, s3, s4, s5, s6, s7⟩ := hO.cells k hk
    have hso := hO.setOwn hn k hk 0
    have hlf := fun z t (hq : ms[k].q = z :: t) a c (hv : vs[k * 2 + 1]? = some (.slice (some a) (t.length + 1) c)) => hO.left k hk z t hq a c hv
    have hqr : ∀ z ∈ ms[k].q, 0 ≤ z ∧ z ≤ 7 := fun z hz => right_goer hrt hk hz
    have hsq := s6.kept (grownBy_set w r (k * 2) (.int .i64 0)) (hO.rowNe k _ hk s5)
    generalize ms[k] = m at *
    obtain ⟨o, q⟩ := m
    dsimp only at hE hS hof hso hlf hqr s1 s2 s5 s6 hsq
    generalize leaveE ms k goer = E at *
    generalize leaveS ms k = S at *
    have c0 : w.cell? ⟨H, 0, none⟩ = some (.slice (some ⟨r, 0, none⟩) n n) := hH.cell 0
    have HOF := Lib.hid hof
    have HSP := Lib.hid (spare_set hr8 (k * 2) (.int .i64 0))
    have HR8 := Lib.hid hr8
    have HSO := Lib.hid hso
    have HLF := Lib.hid hlf
    have HV := Lib.hid s5
    have HE := Lib.hid hE
    have HS := Lib.hid hS
    have HB := Lib.hid hb
    have HQR := Lib.hid hqr
    have HSQ := Lib.hid hsq
    have hrl := hr8.lt
    have hHl := hH.lt
    have hHr := rows_ne hH hr8 (by decide)
    have hH1 := hH.setOther (a := ⟨r, k * 2, none⟩) (fun e => hHr e.symm) (.int .i64 0)
    have hB1 := (Below.refl n₀ w).setCell (p := ⟨r, k * 2, none⟩) hn0 (.int .i64 0)
    have HH1 := Lib.hid hH1
    have HB1 := Lib.hid hB1
    have hHR := Lib.hid hHr
    have hki : (k : Int) < (n : Int) := by omega
    clear hat hMx hO hH hb hof hso hlf hE hS hm hr8 hn hw1 hw2 hk hqr hsq s5 s6 hH1 hB1 hHr
    go_enter Try.func46, Try.ntmps46
    go_wp2_with fail
    refine HAT.out.mono ?_
    rintro e w' ⟨(⟨h1, rfl⟩ | ⟨h1, rfl⟩), rfl⟩
    case inr =>
      rw [HB.out] at h1
      cases h1
    clear h1 HAT
    go_wp2_with fail
    refine HOF.out.mono ?_
    rintro e w' ⟨rfl, rfl⟩
    by_cases he : o = goer + 1
    · have hE : Hid (E = 0) := Lib.hid (by rw [HE.out, if_pos he])
      rw [decide_eq_true he]
      clear he HOF
      cases q with
      | nil =>
        have hS : Hid (S = ms.set k ⟨0, []⟩) := HS
        go_wp2_with fail
        first | go_end0 | refine bodyPost_ret (results_none rfl _ _ _) rfl ?_
        exact .inl ⟨hE.out, rfl, HH1.out, ⟨_, by rw [hS.out]; exact HSO.out⟩, HB1.out, HSP.out⟩
      | cons z t =>
        have hS : Hid (S = ms.set k ⟨z + 1, t⟩) := HS
        have hzr := HQR.out z (by simp)
        obtain ⟨nq, hnq⟩ : ∃ nq, nq = (z :: t).length := ⟨_, rfl⟩
        have hnq1 : nq = t.length + 1 := hnq
        have hat := HSQ.out.at
        obtain ⟨b2, off2, rfl, hb2, hc2⟩ := intsAt_get hat 0 (by simp)
        simp only [List.getElem?_cons_zero, Option.getD_some, Nat.add_zero] at hc2
        rw [← hnq] at s2
        obtain ⟨vs2, h2⟩ := HLF.out z t rfl ⟨b2, off2, none⟩ sc HV.out
        have hsl : ∀ x : World, (Instr.sliceAt 23 (.slice (some ⟨b2, off2, none⟩) nq sc) (some (.int .i64 1)) (some (.int .i64 (nq : Int))) (some (.int .i64 (nq : Int)))).run Try.prog x = .ok (.slice (some (if t.length + 1 = 1 then ⟨b2, off2, none⟩ else (⟨b2, off2, none⟩ : Addr).add (1 * 1))) t.length t.length) x := fun x => by
          have hcap : nq ≤ sc := by
            obtain ⟨_, _, _, e, h1, _⟩ := hat
            cases e
            omega
          rw [run_sliceAt_slice _ _ _ _ _ _ Try.underlying23, run_slice_lhm x 23 (some ⟨b2, off2, none⟩) nq sc Try.underlying23 .i64 .i64 .i64 1 nq nq (by omega) (by omega) (Int.le_refl _) (by omega)]
          simp [go_sem, sliced, hnq1]
          split <;> rfl
        have hnq0 : (0 : Int) < (nq : Int) := by omega
        have hw1 : IntKind.i64.wrap (z + 1) = z + 1 := IntWalk.i64_in _ (by omega)
        have hH2 := (HH1.out.setOther (a := ⟨r, k * 2, none⟩) (fun e => hHR.out e.symm) (.int .i64 (z + 1))).setOther (a := ⟨r, k * 2 + 1, none⟩) (fun e => hHR.out e.symm) (.slice (some (if t.length + 1 = 1 then ⟨b2, off2, none⟩ else (⟨b2, off2, none⟩ : Addr).add (1 * 1))) t.length t.length)
        have hB2 := (HB1.out.setCell (p := ⟨r, k * 2, none⟩) hn0 (.int .i64 (z + 1))).setCell (p := ⟨r, k * 2 + 1, none⟩) hn0 (.slice (some (if t.length + 1 = 1 then ⟨b2, off2, none⟩ else (⟨b2, off2, none⟩ : Addr).add (1 * 1))) t.length t.length)
        have hsp := ((HSP.out.trans (spare_set (HR8.out.set (k * 2) (.int .i64 0)) (k * 2) (.int .i64 (z + 1))))).trans (spare_set ((HR8.out.set (k * 2) (.int .i64 0)).set (k * 2) (.int .i64 (z + 1))) (k * 2 + 1) (.slice (some (if t.length + 1 = 1 then ⟨b2, off2, none⟩ else (⟨b2, off2, none⟩ : Addr).add (1 * 1))) t.length t.length))
        generalize (if t.length + 1 = 1 then (⟨b2, off2, none⟩ : Addr) else (⟨b2, off2, none⟩ : Addr).add (1 * 1)) = ad at *
        generalize t.length = tl at *
        have H2 := Lib.hid h2
        have HH2 := Lib.hid hH2
        have HB2 := Lib.hid hB2
        have HSP2 := Lib.hid hsp
        clear hsp h2 hH2 hB2 hat hnq hnq1 hzr
        go_wp2_with fail
        first | go_end0 | refine bodyPost_ret (results_none rfl _ _ _) rfl ?_
        exact .inl ⟨hE.out, rfl, HH2.out, ⟨_, by rw [hS.out]; exact H2.out⟩, HB2.out, HSP2.out⟩
    · have hE : Hid (E = 4) := Lib.hid (by rw [HE.out, if_neg he])
      rw [decide_eq_false he]
      clear he
      go_wp2_with fail
      exact ⟨rfl, .inr ⟨by rw [hE.out]; decide, by rw [hE.out]; rfl, Below.refl _ _⟩⟩
end Go.Proofs
