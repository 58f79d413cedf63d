/- One form for what Ask, Leave and Play answer; Clone of deeds. -/
import Derived.Test.YtliecdpgajchbaaOe
namespace Go.Proofs
open Go.RowKit Go.Shelf
attribute [local go_sem] Oper.semAt_some

/-- The mutexes that are told: none, where there is an error. -/
def toldS (P : Int × List Mx × Nat) : List Mx := if P.1 = 0 then P.2.1 else []
theorem told_ok {P : Int × List Mx × Nat} (h : P.1 = 0) : toldS P = P.2.1 := if_pos h
theorem told_err {P : Int × List Mx × Nat} (h : P.1 ≠ 0) : toldS P = [] := if_neg h
def Small (ms : List Mx) : Prop := ms.length ≤ 160 ∧ ∀ m ∈ ms, m.q.length ≤ 10000
theorem small_right {ms : List Mx} (h : rightB ms = true) : Small ms := by
  refine ⟨((rightB_iff ms).1 h).1.2, fun m hm => ?_⟩
  obtain ⟨k, hk, rfl⟩ := List.getElem_of_mem hm
  have := qlen_le ms k hk
  have := right_len h
  omega
theorem small_nil : Small [] := ⟨Nat.zero_le _, by simp⟩
theorem told_small {ms : List Mx} {P : Int × List Mx × Nat} (h : rightB ms = true → P.1 = 0 → rightB P.2.1 = true) : Small (toldS (resR ms P)) := by
  unfold resR
  by_cases hr : rightB ms = true
  · rw [if_pos hr]
    by_cases h0 : P.1 = 0
    · rw [told_ok h0]
      exact small_right (h hr h0)
    · rw [told_err h0]
      exact small_nil
  · rw [if_neg hr, told_err (by decide)]
    exact small_nil
theorem ask_small (ms : List Mx) (which goer : Int) : Small (toldS (askR ms which goer)) := told_small fun hr h => right_ask hr h
theorem leave_small (ms : List Mx) (which goer : Int) : Small (toldS (leaveR ms which goer)) := told_small fun hr h => right_leave hr h
theorem play_right (ds : List Dd) (ms : List Mx) (p : Nat) (hr : rightB ms = true) (h : (playR ms p ds).1 = 0) : rightB (playR ms p ds).2.1 = true := by
  induction ds generalizing ms p with
  | nil => exact hr
  | cons d t ih =>
    by_cases hw : waitsB ms d.goer = -1
    · by_cases he : deedE ms d = 0
      · rw [playR_ok hw he] at h ⊢
        exact ih _ _ (right_deed hr he) h
      · rw [playR_err hw he] at h
        exact absurd h he
    · rw [playR_wait hw] at h ⊢
      exact ih _ _ hr h
theorem play_small (ms : List Mx) (ds : List Dd) : Small (toldS (playP ms ds)) := told_small fun hr h => play_right ds ms 0 hr h
def gotV (ms : List Mx) (which goer : Int) : Bool := if (askR ms which goer).1 = 0 then gotB ms which else false
def nextV (ms : List Mx) (which goer : Int) : Int := if (leaveR ms which goer).1 = 0 then nextB ms which else 0
def overV (ms : List Mx) (ds : List Dd) : Nat := if (playP ms ds).1 = 0 then (playP ms ds).2.2 else 0
/-- What is told, and owned. -/
def ToldQ (w : World) (S : List Mx) (g : Value) (E : Int) (e : Ending) (w' : World) : Prop := ∃ a n c, e = .returned (.tuple #[.slice a n c, g, .int .i64 E]) ∧ OwnsM w.heap.size S (.slice a n c) w' ∧ Below w.heap.size w w'
/-- What is told. -/
def SaidQ (w : World) (S : List Mx) (g : Value) (E : Int) (e : Ending) (w' : World) : Prop := ∃ a n c, e = .returned (.tuple #[.slice a n c, g, .int .i64 E]) ∧ MxAt w' (.slice a n c) S ∧ Below w.heap.size w w'
theorem Try.askU (which goer : Int) (a : Option Addr) (n cap : Nat) (ms : List Mx) (w : World) (hI : MxAt w (.slice a n cap) ms) :
    Calls Try.prog 23 #[.slice a n cap, .int .i64 which, .int .i64 goer] w (ToldQ w (toldS (askR ms which goer)) (.bool (gotV ms which goer)) (askR ms which goer).1) :=
  (Try.Ask_any which goer a n cap ms w hI).mono fun e w' hq => by
    obtain ⟨hB, ⟨h, h2⟩ | ⟨h, r, h2, h3⟩⟩ := hq
    · exact ⟨none, 0, 0, by rw [h2, gotV, if_neg h], by rw [told_err h]; exact ⟨_, ownM_nil _ _⟩, hB⟩
    · exact ⟨_, _, _, by rw [h2, gotV, if_pos h, h], by rw [told_ok h]; exact h3, hB⟩
theorem Try.leaveU (which goer : Int) (a : Option Addr) (n cap : Nat) (ms : List Mx) (w : World) (hI : MxAt w (.slice a n cap) ms) :
    Calls Try.prog 24 #[.slice a n cap, .int .i64 which, .int .i64 goer] w (ToldQ w (toldS (leaveR ms which goer)) (.int .i64 (nextV ms which goer)) (leaveR ms which goer).1) :=
  (Try.Leave_any which goer a n cap ms w hI).mono fun e w' hq => by
    obtain ⟨hB, ⟨h, h2⟩ | ⟨h, r, h2, h3⟩⟩ := hq
    · exact ⟨none, 0, 0, by rw [h2, nextV, if_neg h], by rw [told_err h]; exact ⟨_, ownM_nil _ _⟩, hB⟩
    · exact ⟨_, _, _, by rw [h2, nextV, if_pos h, h], by rw [told_ok h]; exact h3, hB⟩
theorem Try.playU (a : Option Addr) (n cap : Nat) (ms : List Mx) (b : Option Addr) (m dcap : Nat) (ds : List Dd) (hm : m ≤ 10000) (w : World) (hI : MxAt w (.slice a n cap) ms) (hD : DdAt w (.slice b m dcap) ds) :
    Calls Try.prog 28 #[.slice a n cap, .slice b m dcap] w (ToldQ w (toldS (playP ms ds)) (.int .i64 (overV ms ds : Nat)) (playP ms ds).1) :=
  (Try.Play_any a n cap ms b m dcap ds hm w hI hD).mono fun e w' hq => by
    obtain ⟨hB, ⟨h, h2⟩ | ⟨h, r, h2, h3⟩⟩ := hq
    · exact ⟨none, 0, 0, by rw [h2, overV, if_neg h]; rfl, by rw [told_err h]; exact ⟨_, ownM_nil _ _⟩, hB⟩
    · exact ⟨_, _, _, by rw [h2, overV, if_pos h, h], by rw [told_ok h]; exact h3, hB⟩
theorem resR_pos {ms : List Mx} (h : rightB ms = true) (P : Int × List Mx × Nat) : resR ms P = P := if_pos h
theorem Try.refAskU (which goer : Int) (a : Option Addr) (n cap : Nat) (ms : List Mx) (hr : rightB ms = true) (w : World) (hI : MxAt w (.slice a n cap) ms) :
    Calls Try.prog 25 #[.slice a n cap, .int .i64 which, .int .i64 goer] w (SaidQ w (toldS (askR ms which goer)) (.bool (gotV ms which goer)) (askR ms which goer).1) :=
  (Try.refAsk_any which goer a n cap ms hr w hI).mono fun e w' hq => by
    have e1 : askR ms which goer = (askE ms which goer, askS ms which goer, 0) := resR_pos hr _
    obtain ⟨hB, ⟨h, h2⟩ | ⟨h, g, c, h2, h3⟩⟩ := hq
    · exact ⟨none, 0, 0, by rw [h2, gotV, e1, if_neg h], by rw [e1, told_err h]; exact mxAt_none _, hB⟩
    · exact ⟨_, _, _, by rw [h2, gotV, e1, if_pos h, h], by rw [e1, told_ok h]; exact h3, hB⟩
theorem Try.refLeaveU (which goer : Int) (a : Option Addr) (n cap : Nat) (ms : List Mx) (hr : rightB ms = true) (w : World) (hI : MxAt w (.slice a n cap) ms) :
    Calls Try.prog 26 #[.slice a n cap, .int .i64 which, .int .i64 goer] w (SaidQ w (toldS (leaveR ms which goer)) (.int .i64 (nextV ms which goer)) (leaveR ms which goer).1) :=
  (Try.refLeave_any which goer a n cap ms hr w hI).mono fun e w' hq => by
    have e1 : leaveR ms which goer = (leaveE ms which goer, leaveS ms which, 0) := resR_pos hr _
    obtain ⟨hB, ⟨h, h2⟩ | ⟨h, g, c, h2, h3⟩⟩ := hq
    · exact ⟨none, 0, 0, by rw [h2, nextV, e1, if_neg h], by rw [e1, told_err h]; exact mxAt_none _, hB⟩
    · exact ⟨_, _, _, by rw [h2, nextV, e1, if_pos h, h], by rw [e1, told_ok h]; exact h3, hB⟩
theorem Try.refPlayU (a : Option Addr) (n cap : Nat) (ms : List Mx) (hr : rightB ms = true) (b : Option Addr) (m dcap : Nat) (ds : List Dd) (hm : m ≤ 10000) (w : World) (hI : MxAt w (.slice a n cap) ms) (hD : DdAt w (.slice b m dcap) ds) :
    Calls Try.prog 29 #[.slice a n cap, .slice b m dcap] w (SaidQ w (toldS (playP ms ds)) (.int .i64 (overV ms ds : Nat)) (playP ms ds).1) :=
  (Try.refPlay_any a n cap ms hr b m dcap ds hm w hI hD).mono fun e w' hq => by
    have e1 : playP ms ds = playR ms 0 ds := resR_pos hr _
    obtain ⟨hB, ⟨h, h2⟩ | ⟨h, g, c, h2, h3⟩⟩ := hq
    · exact ⟨none, 0, 0, by rw [h2, overV, e1, if_neg h]; rfl, by rw [e1, told_err h]; exact mxAt_none _, hB⟩
    · exact ⟨_, _, _, by rw [h2, overV, e1, if_pos h, h], by rw [e1, told_ok h]; exact h3, hB⟩

theorem Try.infoDd : (Try.prog.info? 42).map (fun i => (i.zero, i.size, i.bytes)) = some (some (.agg #[.bool false, .int .i64 0, .int .i64 0]), 3, 24) := by kernel_rfl
theorem ddVals_one (l : List Dd) : ∀ u ∈ DdVals l, u.oneCell' = true := by
  intro u hu
  simp only [DdVals, List.mem_flatMap] at hu
  obtain ⟨d, _, hu⟩ := hu
  simp at hu
  rcases hu with rfl | rfl | rfl <;> rfl
theorem dd_cut {W : World} {x : Option Addr} {n cap : Nat} {ds : List Dd} (h : DdAt W (.slice x n cap) ds) (k : Nat) (hk : k ≤ n) : DdAt W (.slice x k cap) (ds.take k) := by
  have hn := (ddAt_len h).1
  obtain ⟨h0, a, c, e, h1, h2, h3, h4⟩ := h
  cases e
  have hl : (ds.take k).length = k := by rw [List.length_take]; omega
  refine ⟨ddVals_length _, x, cap, by rw [hl], by omega, h2, h3, fun j hj => ?_⟩
  rw [ddVals_length, hl] at hj
  obtain ⟨b, off, e, hb, hc⟩ := h4 j (by rw [ddVals_length]; omega)
  refine ⟨b, off, e, hb, ?_⟩
  rw [hc]
  have e2 : DdVals ds = DdVals (ds.take k) ++ DdVals (ds.drop k) := by
    unfold DdVals
    rw [← List.flatMap_append, List.take_append_drop]
  rw [e2, List.getElem?_append_left (by rw [ddVals_length, hl]; exact hj)]
set_option maxRecDepth 100000 in
set_option maxHeartbeats 1000000 in
theorem Try.cloneDeeds_any (a : Option Addr) (n cap : Nat) (ws : List Dd) (hn : n = ws.length) (hl : n ≤ 100) (w : World) (hI : DdAt w (.slice a n cap) ws) :
    Calls Try.prog 22 #[.slice a n cap] w fun e w' => ∃ b c, e = .returned (.slice b n c) ∧ DdAt w' (.slice b n c) ws ∧ Below w.heap.size w w' := by
  obtain ⟨i0, hi, hz0, hz1, hz2⟩ := info_parts Try.infoDd
  cases a with
  | none =>
    obtain ⟨h0, a', cap', e, h1, h2, h3, h4⟩ := hI
    cases e
    have hc0 : cap = 0 := h3 rfl
    subst hc0
    have hw0 : ws = [] := List.eq_nil_of_length_eq_zero (by omega)
    subst hw0
    have hnil := fun wx : World => Lib.run_eql_slice_nil (P := Try.prog) wx 39 42 none 0 0 0 0 Try.underlying39
    simp only [List.length_nil]
    clear h0 h1 h2 h3 h4 hn hl
    go_enter Try.func22, Try.ntmps22
    go_wp2
    go_ret
    exact ⟨none, 0, rfl, ⟨rfl, none, 0, rfl, Nat.le_refl _, Nat.zero_le _, fun _ => rfl, fun j hj => absurd hj (Nat.not_lt_zero _)⟩, Below.refl _ _⟩
  | some x =>
    have hnil := fun wx : World => Lib.run_eql_slice_nil (P := Try.prog) wx 39 42 (some x) n cap 0 0 Try.underlying39
    subst hn
    have hsrc := row_src hI
    have HC := Lib.hid hsrc
    clear hI hsrc
    have hO : (w.alloc (.cells #[] 42)).ownsRow w.heap.size 42 3 (.slice (some ⟨w.heap.size, 0, none⟩) 0 0) 0 [] := World.ownsRow_lit w #[] 0 (Nat.le_refl _) (by unfold maxLen; omega) rfl
    have hB : Below w.heap.size w (w.alloc (.cells #[] 42)) := (Below.refl _ w).alloc (Nat.le_refl _) _
    have HO := Lib.hid hO
    clear hO
    go_enter Try.func22, Try.ntmps22
    go_wp2_with (at_builtin; refine wpList_append_own _ rfl _ _ 39 rfl w.heap.size 42 i0 (.agg #[.bool false, .int .i64 0, .int .i64 0]) 3 24 Try.underlying39 hi hz0 hz1 hz2 rfl (by decide) _ _ _ rfl HO.out x ws.length cap (DdVals ws) rfl ?c1 ?c2 ?c3 ?c4 ?c5 ?c6 ?_)
    case c1 => rw [ddVals_length]
    case c2 =>
      intro j u hu
      have h := HC.out j u hu
      have hlt : x.block < w.heap.size := by
        have hk := h
        unfold World.cell? at hk
        rcases Nat.lt_or_ge (x.add j).block w.heap.size with hq | hq
        · have : (x.add j).block = x.block := by unfold Addr.add; split <;> rfl
          omega
        · rw [Array.getElem?_eq_none hq] at hk
          cases hk
      have hblk : (x.add j).block = x.block := by unfold Addr.add; split <;> rfl
      exact (hB.cell (p := x.add j) (by rw [hblk]; exact hlt)).trans h
    case c3 => exact ddVals_one ws
    case c4 => simp; unfold maxLen; omega
    case c5 => simp; omega
    case c6 => simp
    intro v' w1 hown' hgrow _
    have hB1 : Below w.heap.size w w1 := hB.grown hgrow (by simp) (fun j ej => (World.ownsRow.lt HO.out j ej).1)
    have hO2 : w1.ownsRow w.heap.size 42 3 v' ws.length (DdVals ws) := by simpa using hown'
    have hat := rowAt_own hO2
    obtain ⟨_, b, c, rfl, _⟩ := rowAt_own hO2
    have HO2 := Lib.hid (show DdAt w1 (.slice b ws.length c) ws from hat)
    clear hO2 hown' hgrow hat
    go_wp2
    go_ret
    exact ⟨b, c, rfl, HO2.out, hB1⟩
end Go.Proofs
