/- PinsHold: while a goroutine pins an epoch, the Epoch goes on once at most, for all pins, goroutines and rows of ops. -/
import Derived.Test.YtdkpenfgeohddaaPm
namespace Go.Proofs
set_option maxRecDepth 100000
open Go.RowKit Go.Shelf
attribute [local go_sem] Oper.semAt_some

theorem heldB_no {E : Int} {S : List Int} (h : heldB E S = false) {k : Nat} (hk : k < 8) : bkB E S k = false := by
  unfold heldB at h
  simp only [Bool.or_eq_false_iff] at h
  rcases eight hk with rfl | rfl | rfl | rfl | rfl | rfl | rfl | rfl <;> simp_all
/-- What stays while it pins. -/
structure Held (T0 : Int) (k : Nat) (E : Int) (S : List Int) : Prop where
  ok : Okp E S
  r : rightN E S = true
  lt : k < S.length
  p : S[k]?.getD 0 = T0 + 1
  t : T0 ≤ E ∧ E ≤ T0 + 1
  z : 0 ≤ T0
theorem Held.step {T0 : Int} {k : Nat} {E : Int} {S : List Int} (h : Held T0 k E S) (o : Po) (hb : 0 ≤ o.by_) (hns : o.kind = 3 ∨ o.goer ≠ k) : Held T0 k (stepP E S o).2.1 (stepP E S o).2.2 := by
  have hso := stepP_ok h.ok h.r o hb
  have hl := stepP_len E S o
  refine ⟨hso.1, hso.2, by rw [hl]; exact h.lt, ?_, ?_, h.z⟩
  · unfold stepP
    split
    · exact h.p
    · split
      · unfold goN
        repeat' split
        all_goals exact h.p
      · next h3 =>
        split
        · exact h.p
        · next ho =>
          have hg : 0 ≤ o.goer ∧ o.goer < S.length := by
            have : isOneN S o.goer = true := by simpa using ho
            exact of_decide_eq_true this
          have hne : k ≠ o.goer.toNat := by
            rcases hns with h4 | h4
            · exact absurd h4 h3
            · omega
          split
          · unfold pinN
            repeat' split
            all_goals first | exact h.p | (show (S.set _ _)[k]?.getD 0 = _; rw [getD_set S _ k _ (by omega), if_neg hne]; exact h.p)
          · unfold unpinN
            split
            · exact h.p
            · show (S.set _ _)[k]?.getD 0 = _
              rw [getD_set S _ k _ (by omega), if_neg hne]
              exact h.p
  · have h8 := right_len h.r
    have hE := h.t
    unfold stepP
    split
    · exact hE
    · split
      · unfold goN
        split
        · exact hE
        · next hh =>
          split
          · exact hE
          · have hb2 := heldB_no (E := E) (S := S) (by simpa using hh) (k := k) (by have := h.lt; omega)
            unfold bkB at hb2
            rw [h.p] at hb2
            have hk := h.lt
            have h0 := h.ok.e.1
            have hnn : T0 + 1 ≠ 0 := by
              have := h.z
              omega
            have : T0 + 1 - 1 = E := by
              by_cases e : T0 + 1 - 1 = E
              · exact e
              · simp [hk, hnn] at hb2
                omega
            exact ⟨by show T0 ≤ E + 1; omega, by show E + 1 ≤ T0 + 1; omega⟩
      · split
        · exact hE
        · split
          · unfold pinN
            repeat' split
            all_goals exact hE
          · unfold unpinN
            split <;> exact hE
set_option maxHeartbeats 8000000 in
theorem Try.hold_err (E : Int) (a : Option Addr) (n c : Nat) (S : List Int) (g : Int) (al : Option Addr) (nl cl : Nat) (l : List Po) (w : World) (hI : WordsAt w (.slice a n c) S) (hE : 0 ≤ E ∧ E < 18446744073709551616) (hS : okW S) (hL : PoK w (.slice al nl cl) l) (h0 : (doP E (S.take 10) ⟨1, g, 0⟩).1 ≠ 0) :
    Calls Try.prog 5 #[.agg #[.int .u64 E, .slice a n c], .int .i64 g, .slice al nl cl] w fun e w' => e = .returned (.bool true) ∧ Below w.heap.size w w' := by
  obtain ⟨U, hU⟩ : ∃ U, U = S.take 10 := ⟨_, rfl⟩
  have hUk : okW U := by rw [hU]; exact okW_take hS 10
  have hk : Okp E U := ⟨hE, hUk⟩
  rw [← hU] at h0
  obtain ⟨er, her⟩ : ∃ x, x = (doP E U ⟨1, g, 0⟩).1 := ⟨_, rfl⟩
  have HD1 := fun (W : World) (a : Option Addr) (n c : Nat) (h : WordsAt W (.slice a n c) U) => Lib.hid (show Calls _ 23 #[.agg #[.int .u64 E, .slice a n c], .agg #[.int .i64 1, .int .i64 g, .int .u64 0]] W (fun e w' => (∃ v, e = .returned (.tuple #[.agg #[.int .u64 0, v], .int .i64 er]) ∧ OwnsWords W.heap.size [] v w') ∧ Below W.heap.size W w') from by have h1 := Try.DoP_any E a n c U ⟨1, g, 0⟩ W h hk (Int.le_refl 0); rw [doP_err h0, ← her] at h1; exact h1)
  rw [← her] at h0
  have hne : (er != 0) = true := by simp [h0]
  clear h0 her hk hUk hE hS hL
  have hB0 : Below w.heap.size w (w.alloc (.cells #[.int .u64 E, .slice a n c] 25)) := Rows8.newB
  have X0 := Lib.hid (Rows8.new w 25 #[.int .u64 E, .slice a n c])
  have HW := fun W => Lib.hid (Try.wakes_any W)
  have HOW := fun (W : World) (h : Below w.heap.size w W) => Lib.hid (Try.own_any E a n c S W (RowAt.below hI h))
  rw [← hU] at HOW
  have B := Lib.hid hB0
  clear hB0 hI hU
  go_enter Try.func5, Try.ntmps5
  go_wp2_with fail
  refine (HW _).out.mono ?_
  rintro e w1 ⟨rfl, hB⟩
  have X0 := Lib.hid (X0.out.below hB X0.out.lt)
  have B := Lib.hid (B.out.trans (hB.mono B.out.size))
  have c0 : w1.cell? ⟨w.heap.size, 0, none⟩ = some (.int .u64 E) := X0.out.cell 0
  have c1 : w1.cell? ⟨w.heap.size, 1, none⟩ = some (.slice a n c) := X0.out.cell 1
  have HOl := HOW w1 B.out
  clear hB HOW HW
  go_wp2_with fail
  refine HOl.out.mono ?_
  rintro e w2 ⟨⟨a1, n1, d1, rfl, hn1, hO⟩, hB⟩
  clear HOl c0 c1 X0
  have hO1 := owns_mono hO B.out.size
  have HDl := HD1 w2 _ _ _ (show OwnsWords w.heap.size U (.slice a1 n1 d1) w2 from hO1).at
  have B := Lib.hid (B.out.trans (hB.mono B.out.size))
  clear HD1 hO hO1 hB
  go_wp2_with fail
  refine HDl.out.mono ?_
  rintro e w3 ⟨⟨v, rfl, hO⟩, hB⟩
  obtain ⟨a2, n2, d2, hv, hn2⟩ := hO.form2
  replace hn2 : n2 = 0 := hn2
  subst hn2 hv
  clear HDl
  have hal : Below w3.heap.size w3 (w3.alloc (.cells #[.int .u64 0, .slice a2 0 d2] 25)) := Rows8.newB
  have hOw : OwnsWords w.heap.size [] (.slice a2 0 d2) (w3.alloc (.cells #[.int .u64 0, .slice a2 0 d2] 25)) := owns_keep (owns_mono hO B.out.size) hal (Nat.le_refl _)
  have hBw := hB.trans (hal.mono hB.size)
  have O2 := Lib.hid hOw
  have P2 := Lib.hid (Rows8.new w3 25 #[.int .u64 0, .slice a2 0 d2])
  have B := Lib.hid (B.out.trans (hBw.mono B.out.size))
  clear hO hB hal hOw hBw
  go_upto_region 4 with fail
  generalize (w3.alloc (.cells #[.int .u64 0, .slice a2 0 d2] 25)) = u3 at *
  obtain ⟨b2, hb2⟩ : ∃ b, b = w3.heap.size := ⟨_, rfl⟩
  rw [← hb2] at P2 ⊢
  clear hb2
  have c20 : u3.cell? ⟨b2, 0, none⟩ = some (.int .u64 0) := P2.out.cell 0
  have c21 : u3.cell? ⟨b2, 1, none⟩ = some (.slice a2 0 d2) := P2.out.cell 1
  go_wp2_with fail
  go_ret
  exact ⟨rfl, B.out⟩
set_option maxHeartbeats 16000000 in
theorem Try.hold_ok (E : Int) (a : Option Addr) (n c : Nat) (S : List Int) (g : Int) (al : Option Addr) (nl cl : Nat) (l : List Po) (w : World) (hI : WordsAt w (.slice a n c) S) (hE : 0 ≤ E ∧ E < 18446744073709551616) (hS : okW S) (hL : PoK w (.slice al nl cl) l) (h0 : (doP E (S.take 10) ⟨1, g, 0⟩).1 = 0) :
    Calls Try.prog 5 #[.agg #[.int .u64 E, .slice a n c], .int .i64 g, .slice al nl cl] w fun e w' => e = .returned (.bool true) ∧ Below w.heap.size w w' := by
  obtain ⟨U, hU⟩ : ∃ U, U = S.take 10 := ⟨_, rfl⟩
  have hUk : okW U := by rw [hU]; exact okW_take hS 10
  have hk : Okp E U := ⟨hE, hUk⟩
  rw [← hU] at h0
  obtain ⟨hr, hs0, hdo⟩ := doP_ok h0
  obtain ⟨hg, hz, hby, hst⟩ := step_pin hs0
  obtain ⟨k, rfl⟩ : ∃ k : Nat, g = k := ⟨g.toNat, by omega⟩
  rw [Int.toNat_natCast, show E - 0 + 1 = E + 1 by omega] at hst
  have hkU : k < U.length := by omega
  have hEm := ((rightN_iff E U).1 hr).1
  obtain ⟨V, hV⟩ : ∃ V, V = U.set k (E + 1) := ⟨_, rfl⟩
  have hheld : Held E k E V := by
    rw [hV]
    exact ⟨⟨hE, set_okW hUk k _ ⟨by omega, by omega⟩⟩, right_set hr k _ (by omega), by rw [List.length_set]; exact hkU, by rw [getD_set U k k _ hkU, if_pos rfl], by omega, hE.1⟩
  have hd1 : doP E U ⟨1, (k : Int), 0⟩ = (0, E, V) := by rw [hdo, hst, hV]
  have HD1 := fun (W : World) (a : Option Addr) (n c : Nat) (h : WordsAt W (.slice a n c) U) => Lib.hid (show Calls _ 23 #[.agg #[.int .u64 E, .slice a n c], .agg #[.int .i64 1, .int .i64 (k : Nat), .int .u64 0]] W (fun e w' => (∃ v, e = .returned (.tuple #[.agg #[.int .u64 E, v], .int .i64 0]) ∧ OwnsWords W.heap.size V v w') ∧ Below W.heap.size W w') from by have h1 := Try.DoP_any E a n c U ⟨1, (k : Int), 0⟩ W h hk (Int.le_refl 0); rw [hd1] at h1; exact h1)
  have HL := Lib.hid hL
  have hnl := (poAt_len hL.1)
  have hreach : nl ≤ 9223372036854775807 := by have := hnl.2; unfold maxLen at this; omega
  have HNL := Lib.hid hnl.1
  have HH := Lib.hid hheld
  have hwr : IntKind.u64.wrap (E + 1) = E + 1 := wrap_u _ (by omega) (by omega)
  clear h0 hr hs0 hdo hg hz hst hkU hV hheld hd1 hk hUk hS hby hL hnl
  have hB0 : Below w.heap.size w (w.alloc (.cells #[.int .u64 E, .slice a n c] 25)) := Rows8.newB
  have X0 := Lib.hid (Rows8.new w 25 #[.int .u64 E, .slice a n c])
  have HW := fun W => Lib.hid (Try.wakes_any W)
  have HOW := fun (W : World) (h : Below w.heap.size w W) => Lib.hid (Try.own_any E a n c S W (RowAt.below hI h))
  rw [← hU] at HOW
  have B := Lib.hid hB0
  clear hB0 hI hU
  go_enter Try.func5, Try.ntmps5
  go_wp2_with fail
  refine (HW _).out.mono ?_
  rintro e w1 ⟨rfl, hB⟩
  have X0 := Lib.hid (X0.out.below hB X0.out.lt)
  have B := Lib.hid (B.out.trans (hB.mono B.out.size))
  have c0 : w1.cell? ⟨w.heap.size, 0, none⟩ = some (.int .u64 E) := X0.out.cell 0
  have c1 : w1.cell? ⟨w.heap.size, 1, none⟩ = some (.slice a n c) := X0.out.cell 1
  have HOl := HOW w1 B.out
  clear hB HOW HW
  go_wp2_with fail
  refine HOl.out.mono ?_
  rintro e w2 ⟨⟨a1, n1, d1, rfl, hn1, hO⟩, hB⟩
  clear HOl c0 c1 X0
  have hO1 := owns_mono hO B.out.size
  have HDl := HD1 w2 _ _ _ (show OwnsWords w.heap.size U (.slice a1 n1 d1) w2 from hO1).at
  have B := Lib.hid (B.out.trans (hB.mono B.out.size))
  clear HD1 hO hO1 hB
  go_wp2_with fail
  refine HDl.out.mono ?_
  rintro e w3 ⟨⟨v, rfl, hO⟩, hB⟩
  obtain ⟨a2, n2, d2, hv, hn2⟩ := hO.form2
  subst hv
  have N2 := Lib.hid hn2
  clear hn2
  clear HDl
  have B0 := B
  have hal : Below w3.heap.size w3 (w3.alloc (.cells #[.int .u64 E, .slice a2 n2 d2] 25)) := Rows8.newB
  have hOw : OwnsWords w.heap.size V (.slice a2 n2 d2) (w3.alloc (.cells #[.int .u64 E, .slice a2 n2 d2] 25)) := owns_keep (owns_mono hO B.out.size) hal (Nat.le_refl _)
  have hBw := hB.trans (hal.mono hB.size)
  have O2 := Lib.hid hOw
  have P2 := Lib.hid (Rows8.new w3 25 #[.int .u64 E, .slice a2 n2 d2])
  have B := Lib.hid (B.out.trans (hBw.mono B.out.size))
  have hw3 : w.heap.size ≤ w3.heap.size := Nat.le_trans B0.out.size hB.size
  clear hO hB hal hOw hBw
  go_upto_region 4 with fail
  generalize (w3.alloc (.cells #[.int .u64 E, .slice a2 n2 d2] 25)) = u3 at *
  obtain ⟨b2, hb2⟩ : ∃ b, b = w3.heap.size := ⟨_, rfl⟩
  have HB2 : Hid (w.heap.size ≤ b2) := Lib.hid (by rw [hb2]; exact hw3)
  rw [← hb2] at P2 ⊢
  clear hb2
  have c20 : u3.cell? ⟨b2, 0, none⟩ = some (.int .u64 E) := P2.out.cell 0
  have c21 : u3.cell? ⟨b2, 1, none⟩ = some (.slice a2 n2 d2) := P2.out.cell 1
  have l2 := P2.out.lt
  go_wp2_with fail
  clear c20 c21
  go_loopw [36] (fun j wr => ∃ (i : Nat) (F : Int) (X : List Int) (a3 : Option Addr) (n3 d3 : Nat), i ≤ nl ∧ j = .int .i64 i ∧ Hid (Held E k F X) ∧ Hid (Rows8 wr b2 25 #[.int .u64 F, .slice a3 n3 d3]) ∧ Hid (OwnsWords w.heap.size X (.slice a3 n3 d3) wr) ∧ Hid (Below w.heap.size w wr) ∧ Hid (w.heap.size ≤ b2)) (fun j _ => nl - (intOf j).toNat)
  case atStart => exact ⟨0, E, V, a2, n2, d2, Nat.zero_le _, rfl, HH, P2, O2, B, HB2⟩
  case round =>
    obtain ⟨i, F, X, a3, n3, d3, hi, rfl, hH, hP, hO, hBB, hb2⟩ := hrel
    clear HH P2 O2 B HB2 l2
    have p := hP.out
    have hlb := p.lt
    by_cases hlt : i < nl
    · have hki : (i : Int) < (nl : Int) := by omega
      have hki0 : (0 : Int) ≤ (i : Int) := by omega
      have hil : i < l.length := by rw [← HNL.out]; exact hlt
      obtain ⟨b, off, rfl, hb3, z0, z1, z2⟩ := poAt_get HL.out.1 i hil
      have p0 := (hBB.out.cell (p := ⟨b, off + i * 3, none⟩) hb3).trans z0
      have p1 := (hBB.out.cell (p := ⟨b, off + i * 3 + 1, none⟩) hb3).trans z1
      have p2 := (hBB.out.cell (p := ⟨b, off + i * 3 + 2, none⟩) hb3).trans z2
      have hby := (HL.out.2 l[i] (List.getElem_mem hil)).1
      have hbr : b < wr.heap.size := by have := hBB.out.size; omega
      clear z0 z1 z2
      generalize l[i] = t at *
      obtain ⟨kd, gr, by_⟩ := t
      dsimp only at p0 p1 p2 hby
      have hal : Below wr.heap.size wr (wr.alloc (.cells #[.int .i64 kd, .int .i64 gr, .int .u64 by_] 44)) := Rows8.newB
      have OP := Lib.hid (Rows8.new wr 44 #[.int .i64 kd, .int .i64 gr, .int .u64 by_])
      have P := Lib.hid (p.below hal p.lt)
      have O : Hid (OwnsWords w.heap.size X (.slice a3 n3 d3) (wr.alloc (.cells #[.int .i64 kd, .int .i64 gr, .int .u64 by_] 44))) := Lib.hid (owns_keep hO.out hal (Nat.le_refl _))
      have B := Lib.hid (hBB.out.trans (hal.mono hBB.out.size))
      clear p hP hO hBB hal hb3 hil
      by_cases h40 : i = 40
      · as_aux_lemma =>
          have d40 : ((i : Int) == 40) = true := by simp; omega
          have pp := P.out
          obtain ⟨ho1, ho2⟩ := oldN_le (S := X) (k := k) hH.out.lt (by have := hH.out.p; have := hH.out.z; omega)
          rw [hH.out.p] at ho2
          obtain ⟨m, hm⟩ : ∃ m, m = (oldN X).1 := ⟨_, rfl⟩
          have hold : oldP F X = (m, true) := by unfold oldP; rw [if_pos hH.out.r, hm, ← ho1]
          rw [← hm] at ho2
          have hle : decide (m ≤ E) = true := decide_eq_true (by omega)
          have HO := Lib.hid (show Calls _ 16 #[.agg #[.int .u64 F, .slice a3 n3 d3]] (wr.alloc (.cells #[.int .i64 kd, .int .i64 gr, .int .u64 by_] 44)) (fun e w' => e = .returned (.tuple #[.int .u64 m, .bool true]) ∧ Below (wr.alloc (.cells #[.int .i64 kd, .int .i64 gr, .int .u64 by_] 44)).heap.size (wr.alloc (.cells #[.int .i64 kd, .int .i64 gr, .int .u64 by_] 44)) w') from by have h1 := Try.OldestP_any F hH.out.ok.e.1 a3 n3 d3 X hH.out.ok.s (wr.alloc (.cells #[.int .i64 kd, .int .i64 gr, .int .u64 by_] 44)) O.out.at; rw [hold] at h1; exact h1)
          have k0 : (wr.alloc (.cells #[.int .i64 kd, .int .i64 gr, .int .u64 by_] 44)).cell? ⟨b2, 0, none⟩ = some (.int .u64 F) := pp.cell 0
          have k1 : (wr.alloc (.cells #[.int .i64 kd, .int .i64 gr, .int .u64 by_] 44)).cell? ⟨b2, 1, none⟩ = some (.slice a3 n3 d3) := pp.cell 1
          clear ho1 ho2 hm hold pp h40
          go_wp2_with fail
          refine HO.out.mono ?_
          rintro e w9 ⟨rfl, hB⟩
          have B := Lib.hid (B.out.trans (hB.mono B.out.size))
          clear hB HO k0 k1
          go_wp2_with fail
          go_ret
          exact ⟨rfl, B.out⟩
      · have d40 : ((i : Int) == 40) = false := by simp; omega
        by_cases hsk : kd ≠ 3 ∧ gr = k
        · as_aux_lemma =>
            obtain ⟨h3, rfl⟩ := hsk
            have e3 : (kd != 3) = true := by simp [h3]
            have e4 : ((k : Int) == (k : Int)) = true := by simp
            clear h3 h40
            go_wp2_with fail
            exact ⟨⟨i + 1, F, X, a3, n3, d3, by omega, by go_num, hH, P, O, B, hb2⟩, by simp [intOf]; omega⟩
        · have hns : kd = 3 ∨ gr ≠ k := by
            by_cases e : kd = 3
            · exact .inl e
            · exact .inr fun e2 => hsk ⟨e, e2⟩
          have hstep := hH.out.step ⟨kd, gr, by_⟩ hby hns
          have hdo := Try.DoP_any F a3 n3 d3 X ⟨kd, gr, by_⟩ _ O.out.at hH.out.ok hby
          have hq1 := fun h => doP_ok (E := F) (S := X) (o := ⟨kd, gr, by_⟩) h
          have hq2 := fun h => doP_err (E := F) (S := X) (o := ⟨kd, gr, by_⟩) h
          dsimp only at hdo hstep
          obtain ⟨ST, hST⟩ : ∃ T, T = stepP F X ⟨kd, gr, by_⟩ := ⟨_, rfl⟩
          obtain ⟨DT, hDT⟩ : ∃ T, T = doP F X ⟨kd, gr, by_⟩ := ⟨_, rfl⟩
          rw [← hDT] at hdo hq1 hq2
          rw [← hST] at hstep hq1
          obtain ⟨t1, TE, TS⟩ := DT
          have HDO := Lib.hid hdo
          have HST := Lib.hid hstep
          have HQ1 := Lib.hid hq1
          have pp := P.out
          have oo := OP.out
          have k0 : (wr.alloc (.cells #[.int .i64 kd, .int .i64 gr, .int .u64 by_] 44)).cell? ⟨b2, 0, none⟩ = some (.int .u64 F) := pp.cell 0
          have k1 : (wr.alloc (.cells #[.int .i64 kd, .int .i64 gr, .int .u64 by_] 44)).cell? ⟨b2, 1, none⟩ = some (.slice a3 n3 d3) := pp.cell 1
          have hdd : ∃ x y : Bool, (kd != 3) = x ∧ (gr == (k : Int)) = y ∧ (x && y) = false := by
            refine ⟨_, _, rfl, rfl, ?_⟩
            rcases hns with h | h
            · simp [h]
            · simp [h]
          obtain ⟨x, y, hx, hy, hxy⟩ := hdd
          clear hdo hstep hq1 hq2 hns hsk hST hDT pp oo h40
          have tail : ∀ (u1 u2 u3 : Value), True := fun _ _ _ => trivial
          clear tail
          cases x with
          | false =>
            clear hy hxy
            as_aux_lemma =>
              go_wp2_with fail
              refine HDO.out.mono ?_
              rintro e w5 ⟨⟨v, rfl, hv⟩, hB⟩
              obtain ⟨a5, n5, dq, rfl, hn5⟩ := hv.form2
              have hal : Below w5.heap.size w5 (w5.alloc (.cells #[.int .u64 TE, .slice a5 n5 dq] 25)) := Rows8.newB
              have o5 := owns_keep (owns_mono hv B.out.size) hal (Nat.le_refl _)
              have hB5 := hB.trans (hal.mono hB.size)
              have P5 := Lib.hid (P.out.below hB5 P.out.lt)
              have N5 := Lib.hid (Rows8.new w5 25 #[.int .u64 TE, .slice a5 n5 dq])
              have O5 : Hid (OwnsWords w.heap.size X (.slice a3 n3 d3) (w5.alloc (.cells #[.int .u64 TE, .slice a5 n5 dq] 25))) := Lib.hid (owns_keep O.out hB5 (Nat.le_refl _))
              have V5 : Hid (OwnsWords w.heap.size TS (.slice a5 n5 dq) (w5.alloc (.cells #[.int .u64 TE, .slice a5 n5 dq] 25))) := Lib.hid o5
              have B5 := Lib.hid (B.out.trans (hB5.mono B.out.size))
              have hlw : b2 < w5.heap.size := Nat.lt_of_lt_of_le P.out.lt hB.size
              clear hv hn5 hB hal o5 hB5 P O B HDO OP k0 k1 p0 p1 p2 hbr
              go_upto_region 13 with fail
              generalize (w5.alloc (.cells #[.int .u64 TE, .slice a5 n5 dq] 25)) = W5 at *
              obtain ⟨b5, hb5⟩ : ∃ b, b = w5.heap.size := ⟨_, rfl⟩
              rw [← hb5] at N5 ⊢
              clear hb5 hlw
              by_cases ht : t1 = 0
              · have d5 : (t1 != 0) = false := by simp [ht]
                obtain ⟨_, hs0, hse⟩ := HQ1.out ht
                have hH2 : Held E k TE TS := by have h := HST.out; rw [← hse] at h; exact h
                clear HQ1 HST hs0 hse ht
                have e0 : W5.cell? ⟨b5, 0, none⟩ = some (.int .u64 TE) := N5.out.cell 0
                have e1 : W5.cell? ⟨b5, 1, none⟩ = some (.slice a5 n5 dq) := N5.out.cell 1
                have k0 : W5.cell? ⟨b2, 0, none⟩ = some (.int .u64 F) := P5.out.cell 0
                have k1 : W5.cell? ⟨b2, 1, none⟩ = some (.slice a3 n3 d3) := P5.out.cell 1
                have f0 := P5.out.frozen 0
                have f1 := P5.out.frozen 1
                have P6 := Lib.hid (P5.out.set2 (.int .u64 TE) (.slice a5 n5 dq))
                have O6 : Hid (OwnsWords w.heap.size TS (.slice a5 n5 dq) _) := Lib.hid (owns_setT (owns_setT V5.out (a := ⟨b2, 0, none⟩) P5.out (by decide) (.int .u64 TE)) (a := ⟨b2, 1, none⟩) (P5.out.set 0 (.int .u64 TE)) (by decide) (.slice a5 n5 dq))
                have B6 := Lib.hid ((B5.out.setCell (p := ⟨b2, 0, none⟩) hb2.out (.int .u64 TE)).setCell (p := ⟨b2, 1, none⟩) hb2.out (.slice a5 n5 dq))
                have l5 : b2 < W5.heap.size := P5.out.lt
                clear P5 O5 V5 B5 N5
                go_upto_region 15 with fail
                generalize ((W5.setCell ⟨b2, 0, none⟩ (.int .u64 TE)).setCell ⟨b2, 1, none⟩ (.slice a5 n5 dq)) = W6 at *
                clear e0 e1 k0 k1 f0 f1 l5
                have k0 : W6.cell? ⟨b2, 0, none⟩ = some (.int .u64 TE) := P6.out.cell 0
                have k1 : W6.cell? ⟨b2, 1, none⟩ = some (.slice a5 n5 dq) := P6.out.cell 1
                have g1 : decide (TE > E + 1) = false := decide_eq_false (by have := hH2.t; omega)
                have g2 : decide (E + 1 < TE) = false := g1
                have g3 : decide (TE < E) = false := decide_eq_false (by have := hH2.t; omega)
                have hch := Try.Check_any TE hH2.ok.e.1 a5 n5 dq TS W6 O6.out.at
                rw [hH2.r, if_pos rfl] at hch
                have HCH := Lib.hid hch
                have HSF := fun (W : World) (h : WordsAt W (.slice a5 n5 dq) TS) => Lib.hid (show Calls _ 19 #[.agg #[.int .u64 TE, .slice a5 n5 dq], .int .u64 E] W (fun e w' => e = .returned (.bool false) ∧ Below W.heap.size W w') from by have h1 := Try.SafeP_any TE E hH2.ok.e hE.1 a5 n5 dq TS W h; rw [show (rightN TE TS && safeN TE E) = false by rw [hH2.r, Bool.true_and]; unfold safeN; exact decide_eq_false (by have := hH2.t; omega)] at h1; exact h1)
                have HH2 := Lib.hid hH2
                clear hch hH2
                go_wp2_with fail
                refine HCH.out.mono ?_
                rintro e w7 ⟨rfl, hB⟩
                have P7 := Lib.hid (P6.out.below hB P6.out.lt)
                have O7 : Hid (OwnsWords w.heap.size TS (.slice a5 n5 dq) w7) := Lib.hid (owns_keep O6.out hB (Nat.le_refl _))
                have B7 := Lib.hid (B6.out.trans (hB.mono B6.out.size))
                clear hB P6 O6 B6 k0 k1 HCH
                have k0 : w7.cell? ⟨b2, 0, none⟩ = some (.int .u64 TE) := P7.out.cell 0
                have k1 : w7.cell? ⟨b2, 1, none⟩ = some (.slice a5 n5 dq) := P7.out.cell 1
                have HSl := HSF w7 O7.out.at
                clear HSF
                go_wp2_with fail
                refine HSl.out.mono ?_
                rintro e w8 ⟨rfl, hB⟩
                have P8 := Lib.hid (P7.out.below hB P7.out.lt)
                have O8 : Hid (OwnsWords w.heap.size TS (.slice a5 n5 dq) w8) := Lib.hid (owns_keep O7.out hB (Nat.le_refl _))
                have B8 := Lib.hid (B7.out.trans (hB.mono B7.out.size))
                clear hB P7 O7 B7 k0 k1 HSl
                go_wp2_with fail
                exact ⟨⟨i + 1, TE, TS, a5, n5, dq, by omega, by go_num, HH2, P8, O8, B8, hb2⟩, by simp [intOf]; omega⟩
              · have d5 : (t1 != 0) = true := by simp [ht]
                clear HQ1 HST ht
                go_wp2_with fail
                exact ⟨⟨i + 1, F, X, a3, n3, d3, by omega, by go_num, hH, P5, O5, B5, hb2⟩, by simp [intOf]; omega⟩
          | true =>
            obtain rfl : y = false := by simpa using hxy
            clear hxy
            as_aux_lemma =>
              go_wp2_with fail
              refine HDO.out.mono ?_
              rintro e w5 ⟨⟨v, rfl, hv⟩, hB⟩
              obtain ⟨a5, n5, dq, rfl, hn5⟩ := hv.form2
              have hal : Below w5.heap.size w5 (w5.alloc (.cells #[.int .u64 TE, .slice a5 n5 dq] 25)) := Rows8.newB
              have o5 := owns_keep (owns_mono hv B.out.size) hal (Nat.le_refl _)
              have hB5 := hB.trans (hal.mono hB.size)
              have P5 := Lib.hid (P.out.below hB5 P.out.lt)
              have N5 := Lib.hid (Rows8.new w5 25 #[.int .u64 TE, .slice a5 n5 dq])
              have O5 : Hid (OwnsWords w.heap.size X (.slice a3 n3 d3) (w5.alloc (.cells #[.int .u64 TE, .slice a5 n5 dq] 25))) := Lib.hid (owns_keep O.out hB5 (Nat.le_refl _))
              have V5 : Hid (OwnsWords w.heap.size TS (.slice a5 n5 dq) (w5.alloc (.cells #[.int .u64 TE, .slice a5 n5 dq] 25))) := Lib.hid o5
              have B5 := Lib.hid (B.out.trans (hB5.mono B.out.size))
              have hlw : b2 < w5.heap.size := Nat.lt_of_lt_of_le P.out.lt hB.size
              clear hv hn5 hB hal o5 hB5 P O B HDO OP k0 k1 p0 p1 p2 hbr
              go_upto_region 13 with fail
              generalize (w5.alloc (.cells #[.int .u64 TE, .slice a5 n5 dq] 25)) = W5 at *
              obtain ⟨b5, hb5⟩ : ∃ b, b = w5.heap.size := ⟨_, rfl⟩
              rw [← hb5] at N5 ⊢
              clear hb5 hlw
              by_cases ht : t1 = 0
              · have d5 : (t1 != 0) = false := by simp [ht]
                obtain ⟨_, hs0, hse⟩ := HQ1.out ht
                have hH2 : Held E k TE TS := by have h := HST.out; rw [← hse] at h; exact h
                clear HQ1 HST hs0 hse ht
                have e0 : W5.cell? ⟨b5, 0, none⟩ = some (.int .u64 TE) := N5.out.cell 0
                have e1 : W5.cell? ⟨b5, 1, none⟩ = some (.slice a5 n5 dq) := N5.out.cell 1
                have k0 : W5.cell? ⟨b2, 0, none⟩ = some (.int .u64 F) := P5.out.cell 0
                have k1 : W5.cell? ⟨b2, 1, none⟩ = some (.slice a3 n3 d3) := P5.out.cell 1
                have f0 := P5.out.frozen 0
                have f1 := P5.out.frozen 1
                have P6 := Lib.hid (P5.out.set2 (.int .u64 TE) (.slice a5 n5 dq))
                have O6 : Hid (OwnsWords w.heap.size TS (.slice a5 n5 dq) _) := Lib.hid (owns_setT (owns_setT V5.out (a := ⟨b2, 0, none⟩) P5.out (by decide) (.int .u64 TE)) (a := ⟨b2, 1, none⟩) (P5.out.set 0 (.int .u64 TE)) (by decide) (.slice a5 n5 dq))
                have B6 := Lib.hid ((B5.out.setCell (p := ⟨b2, 0, none⟩) hb2.out (.int .u64 TE)).setCell (p := ⟨b2, 1, none⟩) hb2.out (.slice a5 n5 dq))
                have l5 : b2 < W5.heap.size := P5.out.lt
                clear P5 O5 V5 B5 N5
                go_upto_region 15 with fail
                generalize ((W5.setCell ⟨b2, 0, none⟩ (.int .u64 TE)).setCell ⟨b2, 1, none⟩ (.slice a5 n5 dq)) = W6 at *
                clear e0 e1 k0 k1 f0 f1 l5
                have k0 : W6.cell? ⟨b2, 0, none⟩ = some (.int .u64 TE) := P6.out.cell 0
                have k1 : W6.cell? ⟨b2, 1, none⟩ = some (.slice a5 n5 dq) := P6.out.cell 1
                have g1 : decide (TE > E + 1) = false := decide_eq_false (by have := hH2.t; omega)
                have g2 : decide (E + 1 < TE) = false := g1
                have g3 : decide (TE < E) = false := decide_eq_false (by have := hH2.t; omega)
                have hch := Try.Check_any TE hH2.ok.e.1 a5 n5 dq TS W6 O6.out.at
                rw [hH2.r, if_pos rfl] at hch
                have HCH := Lib.hid hch
                have HSF := fun (W : World) (h : WordsAt W (.slice a5 n5 dq) TS) => Lib.hid (show Calls _ 19 #[.agg #[.int .u64 TE, .slice a5 n5 dq], .int .u64 E] W (fun e w' => e = .returned (.bool false) ∧ Below W.heap.size W w') from by have h1 := Try.SafeP_any TE E hH2.ok.e hE.1 a5 n5 dq TS W h; rw [show (rightN TE TS && safeN TE E) = false by rw [hH2.r, Bool.true_and]; unfold safeN; exact decide_eq_false (by have := hH2.t; omega)] at h1; exact h1)
                have HH2 := Lib.hid hH2
                clear hch hH2
                go_wp2_with fail
                refine HCH.out.mono ?_
                rintro e w7 ⟨rfl, hB⟩
                have P7 := Lib.hid (P6.out.below hB P6.out.lt)
                have O7 : Hid (OwnsWords w.heap.size TS (.slice a5 n5 dq) w7) := Lib.hid (owns_keep O6.out hB (Nat.le_refl _))
                have B7 := Lib.hid (B6.out.trans (hB.mono B6.out.size))
                clear hB P6 O6 B6 k0 k1 HCH
                have k0 : w7.cell? ⟨b2, 0, none⟩ = some (.int .u64 TE) := P7.out.cell 0
                have k1 : w7.cell? ⟨b2, 1, none⟩ = some (.slice a5 n5 dq) := P7.out.cell 1
                have HSl := HSF w7 O7.out.at
                clear HSF
                go_wp2_with fail
                refine HSl.out.mono ?_
                rintro e w8 ⟨rfl, hB⟩
                have P8 := Lib.hid (P7.out.below hB P7.out.lt)
                have O8 : Hid (OwnsWords w.heap.size TS (.slice a5 n5 dq) w8) := Lib.hid (owns_keep O7.out hB (Nat.le_refl _))
                have B8 := Lib.hid (B7.out.trans (hB.mono B7.out.size))
                clear hB P7 O7 B7 k0 k1 HSl
                go_wp2_with fail
                exact ⟨⟨i + 1, TE, TS, a5, n5, dq, by omega, by go_num, HH2, P8, O8, B8, hb2⟩, by simp [intOf]; omega⟩
              · have d5 : (t1 != 0) = true := by simp [ht]
                clear HQ1 HST ht
                go_wp2_with fail
                exact ⟨⟨i + 1, F, X, a3, n3, d3, by omega, by go_num, hH, P5, O5, B5, hb2⟩, by simp [intOf]; omega⟩
    · obtain rfl : i = nl := by omega
      have hki : ¬ (i : Int) < (i : Int) := by omega
      have p0 := p
      obtain ⟨ho1, ho2⟩ := oldN_le (S := X) (k := k) hH.out.lt (by have := hH.out.p; have := hH.out.z; omega)
      rw [hH.out.p] at ho2
      obtain ⟨m, hm⟩ : ∃ m, m = (oldN X).1 := ⟨_, rfl⟩
      have hold : oldP F X = (m, true) := by unfold oldP; rw [if_pos hH.out.r, hm, ← ho1]
      rw [← hm] at ho2
      have hle : decide (m ≤ E) = true := decide_eq_true (by omega)
      have HO := Lib.hid (show Calls _ 16 #[.agg #[.int .u64 F, .slice a3 n3 d3]] wr (fun e w' => e = .returned (.tuple #[.int .u64 m, .bool true]) ∧ Below wr.heap.size wr w') from by have h1 := Try.OldestP_any F hH.out.ok.e.1 a3 n3 d3 X hH.out.ok.s wr hO.out.at; rw [hold] at h1; exact h1)
      have k0 : wr.cell? ⟨b2, 0, none⟩ = some (.int .u64 F) := p.cell 0
      have k1 : wr.cell? ⟨b2, 1, none⟩ = some (.slice a3 n3 d3) := p.cell 1
      clear ho1 ho2 hm hold p p0 hP
      go_wp2_with fail
      refine HO.out.mono ?_
      rintro e w9 ⟨rfl, hB⟩
      have B := Lib.hid (hBB.out.trans (hB.mono hBB.out.size))
      clear hB HO k0 k1
      go_wp2_with fail
      go_ret
      exact ⟨rfl, B.out⟩
theorem Try.holdP_any (E : Int) (a : Option Addr) (n c : Nat) (S : List Int) (g : Int) (al : Option Addr) (nl cl : Nat) (l : List Po) (w : World) (hI : WordsAt w (.slice a n c) S) (hE : 0 ≤ E ∧ E < 18446744073709551616) (hS : okW S) (hL : PoK w (.slice al nl cl) l) :
    Calls Try.prog 5 #[.agg #[.int .u64 E, .slice a n c], .int .i64 g, .slice al nl cl] w fun e w' => e = .returned (.bool true) ∧ Below w.heap.size w w' := by
  by_cases h0 : (doP E (S.take 10) ⟨1, g, 0⟩).1 = 0
  · exact Try.hold_ok E a n c S g al nl cl l w hI hE hS hL h0
  · exact Try.hold_err E a n c S g al nl cl l w hI hE hS hL h0
end Go.Proofs
namespace Go.Proofs.Ytdkpenfgeohddaa.pinsHold
open Go.ChangeShapes Go.WideShapes Go.ChangeAt Go.RowKit Go.Shelf

theorem own : ownKnob Try.prog.godebug = none := by kernel_rfl
theorem walk (g : Pv) (goer : Int) (al : Option Addr) (nl cl : Nat) (l : List Po) (w : World) (hg : PvAt w g) (_ : (Lit.int .i64 goer).wf = true) (_ : nl = l.length) (hL : PoK w (.slice al nl cl) l) :
    Calls Try.prog 5 #[.agg #[.int .u64 g.e, .slice g.a g.n g.c], .int .i64 goer, .slice al nl cl] w fun e w' => e = .returned (.bool true) ∧ Below w.heap.size w w' := Try.holdP_any g.e g.a g.n g.c g.s goer al nl cl l w hg.2.1 hg.1 hg.2.2 hL
theorem laidOut : laidOutB Try.prog = true := by kernel_rfl
set_option maxRecDepth 100000 in
theorem lifted (os : Os) (started : os.Started) (H : Type) (enc : TypeId × Value → H) :
    ReturnsInHanded {} Try.checked os 5 .any (Rows.pinsHoldSpec.pre6 enc Try.prog Try.f5 Rows.pinsHoldRow.domain false) (Rows.pinsHoldSpec.post enc Try.prog Try.f5 false true false false) := by
  refine returnsInHanded_of_change (C := Try.checked) own started (by kernel_rfl) Try.func5
    (ChangeSpec.witness6 (enc := enc) (C := Try.checked) false ⟨#[], #[.agg #[.int .u64 0, .slice none 0 0], .int .i64 0, .slice none 0 0], []⟩ 8 (by kernel_rfl) (by kernel_rfl) (by kernel_rfl) (by kernel_rfl)) ?_
  intro W base args ds gs before hval0 hW hcnd _
  have hval : ∀ (j : Nat) t v, Try.f5.params[j]? = some t → args[j]? = some v → Value.okWide Try.prog W .any base t v := hval0
  have hW' := hW
  obtain ⟨p, q, hA0, hV, rfl, hfz, hnd⟩ := hW
  have hA : DataW.TrodAll enc Try.prog W 0 (fun _ => true) true Try.f5.params.toList args.toList ds p := hA0
  rw [Try.params5] at hA hval
  obtain ⟨v0, vs0, d0, ds0, p0, q0, hargs, rfl, rfl, h0, r0⟩ := trodAll_cons hA
  obtain ⟨v1, vs1, d1, ds1, p1, q1, rfl, rfl, rfl, h1, r1⟩ := trodAll_cons r0
  obtain ⟨v2, vs2, d2, ds2, p2, q2, rfl, rfl, rfl, h2, r2⟩ := trodAll_cons r1
  obtain ⟨rfl, rfl, rfl⟩ := trodAll_nil r2
  obtain rfl : args = #[v0, v1, v2] := by cases args; simp_all
  obtain ⟨rfl, rfl⟩ := trodVars_none hV
  have k0 := h0
  have lt0 : ∀ x ∈ p0, x.block < W.heap.size := by obtain ⟨m, hm⟩ := k0; exact DataW.trod_lt m _ _ _ hm
  obtain ⟨g0, rfl, w0⟩ := open_pins (hval 0 25 v0 rfl rfl) h0
  obtain ⟨a1, rfl, rfl, rfl, w1⟩ := open_int Try.underlying3 (hval 1 3 v1 rfl rfl) h1
  obtain ⟨a2, len2, cap2, rfl⟩ := okWide_slice Try.underlying41 (hval 2 41 v2 rfl rfl)
  have k2 := h2
  have lt2 : ∀ x ∈ p2, x.block < W.heap.size := by obtain ⟨m, hm⟩ := k2; exact DataW.trod_lt m _ _ _ hm
  obtain ⟨z2, n2, w2⟩ : ∃ zs, len2 = zs.length ∧ PoK W (.slice a2 len2 cap2) zs := by
    obtain ⟨fuel, hf⟩ := h2
    exact open_ops hf
  clear hA0 hval0
  refine (walk g0 a1 a2 len2 cap2 z2 W w0 w1 n2 w2).mono fun e W' ⟨he, bel⟩ => ?_
  subst he
  exact ⟨_, rfl, _, _, _, [], _, [], hW', trodAll_mk1 (shut_bool Try.underlying4 _), (trodAll_cons_mk (Below.trod laidOut (by kernel_rfl) (of_decide_eq_true (by kernel_rfl)) k0 bel lt0) (trodAll_cons_mk (shut_int Try.underlying3 w1) (trodAll_cons_mk (Below.trod laidOut (by kernel_rfl) (of_decide_eq_true (by kernel_rfl)) k2 bel lt2) trodAll_mk0))), rfl, bel.frame _, fun h => by cases h⟩

theorem over : Rows.pinsHoldRow.holds Try.pinned (OpenSpec.ofChange Rows.pinsHoldSpec) :=
  OpenClaim.holds_of_wide 5 Try.f5 rfl rfl rfl rfl rfl rfl rfl ⟨rfl, rfl, rfl, rfl, rfl⟩ rfl rfl rfl rfl rfl (by kernel_rfl) Try.func5 (by kernel_rfl)
    (of_decide_eq_true (by kernel_rfl)) (by unfold Func.isWrapper; first | (rw [if_pos (by decide +kernel)]; kernel_rfl) | (rw [if_neg (by decide +kernel)]; exact ⟨rfl, rfl⟩))
    (fun os started H enc _ => lifted os started H enc)

theorem proved : Rows.PinsHoldSaid := over
end Go.Proofs.Ytdkpenfgeohddaa.pinsHold
