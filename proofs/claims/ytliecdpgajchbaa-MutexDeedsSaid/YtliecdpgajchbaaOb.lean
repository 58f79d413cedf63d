/- Ask of the reference. -/
import Derived.Test.YtliecdpgajchbaaOa
namespace Go.Proofs
open Go.RowKit Go.Shelf
attribute [local go_sem] Oper.semAt_some

theorem row_cells {W : World} {n₀ : Nat} {e : TypeId} {g n cap m : Nat} {vs : List Value} (h : W.ownsRow n₀ e 2 (.slice (some ⟨g, 0, none⟩) n cap) m vs) : n = m ∧ n₀ ≤ g ∧ g < W.heap.size ∧ ∀ j, j < vs.length → W.cell? ⟨g, j, none⟩ = vs[j]? ∧ W.frozen? ⟨g, j, none⟩ = false := by
  have hvl := h.1
  rcases h.2 with ⟨e, _⟩ | ⟨g', cap', cur, e, hb, hh, hl, hm, hz, ht⟩
  · cases e
  · injection e with e1 e2 e3
    injection e1 with e1
    cases e1
    have hR : Rows8 W g _ cur := hh
    refine ⟨e2, hb, hR.lt, fun j hj => ⟨?_, hR.frozen j⟩⟩
    rw [hR.cell, ← ht, List.getElem?_take_of_lt (by omega), Array.getElem?_toList]
/-- Who waits, anew, behind what turned its own block alone. -/
theorem OwnM.turnQ2 {n₀ : Nat} {ms : List Mx} {g n cap : Nat} {vs : List Value} {W W1 : World} (h : OwnM n₀ ms (.slice (some ⟨g, 0, none⟩) n cap) vs W) (i : Nat) (hi : i < ms.length) (old : Value) (hold : vs[i * 2 + 1]? = some old) (hg : W.grownBy W1 old.ownBlock) (q : List Int) (qv : Value) (ho : OwnQ n₀ q qv W1)
    (hnew : qv.ownBlock = old.ownBlock ∨ ∀ j, qv.ownBlock = some j → W.heap.size ≤ j) :
    OwnM n₀ (ms.set i ⟨ms[i].own, q⟩) (.slice (some ⟨g, 0, none⟩) n cap) (vs.set (i * 2 + 1) qv) (W1.setCell ⟨g, i * 2 + 1, none⟩ qv) ∧ (W1.frozen? ⟨g, i * 2 + 1, none⟩ = false ∧ W1.cell? ⟨g, i * 2 + 1, none⟩ = some old) := by
  have hr0 := h.rowNe i old hi hold
  have hrk : (Value.slice (some ⟨g, 0, none⟩) n cap).ownBlock = none ∨ (Value.slice (some ⟨g, 0, none⟩) n cap).ownBlock ≠ old.ownBlock := by
    refine .inr fun e => ?_
    rcases hr0 with h1 | h1
    · rw [h1] at e
      cases e
    · exact h1 e.symm
  have hrow1 := World.ownsRow.kept h.row hg hrk
  obtain ⟨hn, hbg, hlg, hrr⟩ := row_cells hrow1
  subst hn
  have hl : (ms.set i ⟨ms[i].own, q⟩).length = ms.length := List.length_set ..
  have hvl : vs.length = ms.length * 2 := h.row.1
  have hqn : qv.ownBlock = none ∨ qv.ownBlock ≠ some g := ownQ_row ho hrow1 (by decide)
  have hkeep : ∀ k (hk : k < ms.length), k ≠ i → ∃ qk, vs[k * 2 + 1]? = some qk ∧ OwnQ n₀ ms[k].q qk W1 ∧ (qv.ownBlock = none ∨ qv.ownBlock ≠ qk.ownBlock) ∧ (qk.ownBlock = none ∨ qk.ownBlock ≠ some g) := fun k hk hne => by
    obtain ⟨qk, e1, hok⟩ := h.que k hk
    refine ⟨qk, e1, hok.kept hg (h.apart k i qk old hk hi hne e1 hold), ?_, h.rowNe k qk hk e1⟩
    rcases hnew with h2 | h2
    · rw [h2]
      exact h.apart i k old qk hi hk (fun e => hne e.symm) hold e1
    · cases ej : qv.ownBlock with
      | none => exact .inl rfl
      | some j =>
        refine .inr fun e2 => ?_
        have := (hok.lt j e2.symm).2
        have := h2 j ej
        omega
  refine ⟨⟨by rw [hl]; exact (hrow1.stored (i * 2 + 1) _).1, fun k hk => ?_, fun k hk => ?_, fun k j a b hk hj hne ha hb => ?_⟩, (hrr (i * 2 + 1) (by omega)).2, by rw [(hrr (i * 2 + 1) (by omega)).1]; exact hold⟩
  · rw [hl] at hk
    rw [getD_set_ne (by omega), h.own k hk]
    by_cases e : i = k
    · subst e
      simp
    · rw [List.getElem_set_ne e]
  · rw [hl] at hk
    by_cases e : i = k
    · subst e
      refine ⟨qv, by simp [hvl, show i * 2 + 1 < ms.length * 2 by omega], ?_⟩
      simpa using ho.kept (grownBy_set W1 g (i * 2 + 1) qv) hqn
    · obtain ⟨qk, e1, hok, _, hq⟩ := hkeep k hk (fun e2 => e e2.symm)
      refine ⟨qk, by rw [getD_set_ne (by omega)]; exact e1, ?_⟩
      rw [List.getElem_set_ne e]
      exact hok.kept (grownBy_set W1 g (i * 2 + 1) qv) hq
  · rw [hl] at hk hj
    by_cases ek : i = k
    · subst ek
      rw [getD_set_ne (by omega)] at hb
      rw [List.getElem?_set_self (by omega)] at ha
      cases ha
      obtain ⟨qk, e1, _, h3, _⟩ := hkeep j hj (fun e2 => hne e2.symm)
      rw [hb] at e1
      cases e1
      exact h3
    · rw [getD_set_ne (by omega)] at ha
      by_cases ej : i = j
      · subst ej
        rw [List.getElem?_set_self (by omega)] at hb
        cases hb
        obtain ⟨qk, e1, _, h3, _⟩ := hkeep k hk (fun e2 => ek e2.symm)
        rw [ha] at e1
        cases e1
        rcases h3 with h3 | h3
        · rw [h3]
          cases a.ownBlock <;> simp
        · exact .inr fun e => h3 e.symm
      · rw [getD_set_ne (by omega)] at hb
        exact h.apart k j a b hk hj hne ha hb


theorem OwnM.cells2 {n₀ : Nat} {ms : List Mx} {g n cap : Nat} {vs : List Value} {W : World} (h : OwnM n₀ ms (.slice (some ⟨g, 0, none⟩) n cap) vs W) (i : Nat) (hi : i < ms.length) :
    ∃ a c, W.cell? ⟨g, i * 2, none⟩ = some (.int .i64 ms[i].own) ∧ W.cell? ⟨g, i * 2 + 1, none⟩ = some (.slice a ms[i].q.length c) ∧ W.frozen? ⟨g, i * 2, none⟩ = false ∧ W.frozen? ⟨g, i * 2 + 1, none⟩ = false ∧ vs[i * 2 + 1]? = some (.slice a ms[i].q.length c) ∧ OwnQ n₀ ms[i].q (.slice a ms[i].q.length c) W ∧ g < W.heap.size := by
  obtain ⟨_, _, hlt, hr⟩ := row_cells h.row
  have hvl : vs.length = ms.length * 2 := h.row.1
  obtain ⟨qv, e, ho⟩ := h.que i hi
  obtain ⟨a, c, rfl, _⟩ := ho.form
  exact ⟨a, c, by rw [(hr (i * 2) (by omega)).1]; exact h.own i hi, by rw [(hr (i * 2 + 1) (by omega)).1]; exact e, (hr (i * 2) (by omega)).2, (hr (i * 2 + 1) (by omega)).2, e, ho, hlt⟩
/-- Its form, where there is one. -/
theorem OwnM.form {n₀ : Nat} {ms : List Mx} {v : Value} {vs : List Value} {W : World} (h : OwnM n₀ ms v vs W) (hn : 0 < ms.length) : ∃ g cap, v = .slice (some ⟨g, 0, none⟩) ms.length cap ∧ n₀ ≤ g := by
  rcases h.row.2 with ⟨_, e⟩ | ⟨g', cap', cur, e, hb, _⟩
  · omega
  · exact ⟨g', cap', e, hb⟩

set_option maxRecDepth 100000 in
set_option maxHeartbeats 4000000 in
theorem Try.refAsk_any (which goer : Int) (a : Option Addr) (n cap : Nat) (ms : List Mx) (hrt : rightB ms = true) (w : World) (hI : MxAt w (.slice a n cap) ms) :
    Calls Try.prog 25 #[.slice a n cap, .int .i64 which, .int .i64 goer] w fun e w' => Below w.heap.size w w' ∧
      ((askE ms which goer ≠ 0 ∧ e = .returned (.tuple #[.slice none 0 0, .bool false, .int .i64 (askE ms which goer)])) ∨
       (askE ms which goer = 0 ∧ ∃ g c, e = .returned (.tuple #[.slice (some ⟨g, 0, none⟩) n c, .bool (gotB ms which), .int .i64 0]) ∧ MxAt w' (.slice (some ⟨g, 0, none⟩) n c) (askS ms which goer))) := by
  obtain ⟨hn, hnc, hcm⟩ := mxAt_len hI
  have hl160 := ((rightB_iff ms).1 hrt).1
  have hq8 := right_len hrt
  have hcopy := fun W (hB : Below w.heap.size w W) => Try.refCopy_any a n cap ms (by omega) (by omega) W (hI.below hB)
  have hwt := fun W (hB : Below w.heap.size w W) => Try.refWaits_any goer a n cap ms W (hI.below hB)
  have hgo := fun W => Try.goer_any goer W
  cases hb : argB ms which goer with
  | false =>
    have he : askE ms which goer = 2 := by unfold askE; rw [hb]; rfl
    have HEE := Lib.hid he
    generalize askE ms which goer = E at *
    generalize askS ms which goer = S at *
    generalize gotB ms which = G at *
    have hway : which < 0 ∨ (¬ which < 0 ∧ (n : Int) ≤ which) ∨ (¬ which < 0 ∧ ¬ (n : Int) ≤ which ∧ goerB goer = false) := by
      unfold argB at hb
      rw [Bool.and_eq_false_iff, decide_eq_false_iff_not] at hb
      rcases hb with hb | hb
      · omega
      · by_cases h1 : which < 0
        · exact .inl h1
        · by_cases h2 : (n : Int) ≤ which
          · exact .inr (.inl ⟨h1, h2⟩)
          · exact .inr (.inr ⟨h1, h2, hb⟩)
    have HGO := Lib.hid hgo
    clear hcopy hwt hb he hI hgo hn
    rcases hway with h | ⟨h1, h2⟩ | ⟨h1, h2, h3⟩
    case inr.inr =>
      go_enter Try.func25, Try.ntmps25
      go_wp2_with fail
      refine (HGO.out w).mono ?_
      rintro e w' ⟨rfl, rfl⟩
      rw [h3]
      go_wp2_with fail
      refine bodyPost_ret (results_tmp3 rfl _ _ _) rfl ?_
      exact ⟨Below.refl _ _, .inl ⟨by rw [HEE.out]; decide, by rw [HEE.out]; rfl⟩⟩
    all_goals
      go_enter Try.func25, Try.ntmps25
      go_wp2_with fail
      refine bodyPost_ret (results_tmp3 rfl _ _ _) rfl ?_
      exact ⟨Below.refl _ _, .inl ⟨by rw [HEE.out]; decide, by rw [HEE.out]; rfl⟩⟩
  | true =>
    obtain ⟨⟨hw1, hw2⟩, hg1, hg2⟩ := argB_iff.1 hb
    have hgb : goerB goer = true := by simp [goerB]; omega
    obtain ⟨k, rfl⟩ : ∃ k : Nat, which = (k : Int) := ⟨which.toNat, by omega⟩
    have hk : k < ms.length := by omega
    have hki : (k : Int) < (n : Int) := by omega
    have hk0 : ¬ (k : Int) < 0 := by omega
    have hkn : ¬ (n : Int) ≤ (k : Int) := by omega
    have hwg : IntKind.i64.wrap (goer + 1) = goer + 1 := IntWalk.i64_in _ (by omega)
    have hE : askE ms k goer = if ms[k].own = goer + 1 ∨ waitsB ms goer ≠ -1 then 151 else 0 := by unfold askE; rw [if_pos hb, atM_eq hk]
    have hS : askS ms k goer = ms.set k (if ms[k].own = 0 then ⟨goer + 1, ms[k].q⟩ else ⟨ms[k].own, ms[k].q ++ [goer]⟩) := by unfold askS; rw [atM_eq hk, Int.toNat_natCast]
    have hG : gotB ms k = decide (ms[k].own = 0) := by unfold gotB; rw [atM_eq hk]
    have hkl : (ms[k]).q.length ≤ 8 := by have := qlen_le ms k hk; omega
    have hget := fun W (hB : Below w.heap.size w W) => mxAt_get (hI.below hB) k hk
    have hset := fun (W : World) (n₀ g c : Nat) vs (h : OwnM n₀ ms (.slice (some ⟨g, 0, none⟩) n c) vs W) o => h.setOwn hn k hk o
    have htq := fun (W W1 : World) (n₀ g c : Nat) vs (h : OwnM n₀ ms (.slice (some ⟨g, 0, none⟩) n c) vs W) => h.turnQ2 (W1 := W1) k hk
    have hcl := fun (W : World) (n₀ g c : Nat) vs (h : OwnM n₀ ms (.slice (some ⟨g, 0, none⟩) n c) vs W) => h.cells2 k hk
    have hfm := fun (W : World) (n₀ : Nat) v vs (h : OwnM n₀ ms v vs W) => h.form (by omega)
    rw [← hn] at hfm
    generalize askE ms k goer = E at *
    generalize askS ms k goer = S at *
    generalize gotB ms k = G at *
    have hwl := waitsB_le ms goer
    generalize waitsB ms goer = wt at *
    generalize ms[k] = m at *
    obtain ⟨o, q⟩ := m
    dsimp only at hE hS hG hkl hget hset htq hcl
    obtain ⟨b, off, a', c', rfl, hbl, x0, x1, -⟩ := hget w (Below.refl _ _)
    have hwl : wt = -1 ∨ 0 ≤ wt := by rcases hwl with h | h <;> omega
    have HE := Lib.hid hE
    have HS := Lib.hid hS
    have HG := Lib.hid hG
    have HWT := Lib.hid hwt
    have HGO := Lib.hid hgo
    have HCP := Lib.hid hcopy
    have HGT := Lib.hid hget
    have HST := Lib.hid hset
    have HTQ := Lib.hid htq
    have HCL := Lib.hid hcl
    have HFM := Lib.hid hfm
    clear hE hS hG hwt hgo hcopy hget hset htq hcl hfm hb hI hrt hl160 hq8 hn hw1 hw2
    by_cases ho : o = goer + 1
    · have hq : (o == goer + 1) = true := by simp [ho]
      have hE : Hid (E = 151) := Lib.hid (by rw [HE.out, if_pos (.inl ho)])
      clear ho
      go_enter Try.func25, Try.ntmps25
      go_wp2_with fail
      refine (HGO.out w).mono ?_
      rintro e w' ⟨rfl, rfl⟩
      rw [hgb]
      go_wp2_with fail
      refine bodyPost_ret (results_tmp3 rfl _ _ _) rfl ?_
      exact ⟨Below.refl _ _, .inl ⟨by rw [hE.out]; decide, by rw [hE.out]; rfl⟩⟩
    · have hq : (o == goer + 1) = false := by simp [ho]
      rcases hwl with hwn | hwp
      case inr =>
        have hE : Hid (E = 151) := Lib.hid (by rw [HE.out, if_pos (.inr (by omega))])
        clear ho
        go_enter Try.func25, Try.ntmps25
        go_wp2_with fail
        refine (HGO.out w).mono ?_
        rintro e w' ⟨rfl, rfl⟩
        rw [hgb]
        go_wp2_with fail
        refine (HWT.out w (Below.refl _ _)).mono ?_
        rintro e w1 ⟨rfl, b1⟩
        go_wp2_with fail
        refine bodyPost_ret (results_tmp3 rfl _ _ _) rfl ?_
        exact ⟨b1, .inl ⟨by rw [hE.out]; decide, by rw [hE.out]; rfl⟩⟩
      case inl =>
        subst hwn
        have hE : Hid (E = 0) := Lib.hid (by rw [HE.out, if_neg (by rintro (h | h); exact ho h; exact h rfl)])
        clear ho
        go_enter Try.func25, Try.ntmps25
        go_wp2_with fail
        refine (HGO.out w).mono ?_
        rintro e w' ⟨rfl, rfl⟩
        rw [hgb]
        go_wp2_with fail
        refine (HWT.out w (Below.refl _ _)).mono ?_
        rintro e w1 ⟨rfl, b1⟩
        have B1 := Lib.hid b1
        clear b1
        go_wp2_with fail
        refine (HCP.out w1 B1.out).mono ?_
        rintro e w2 ⟨v, rfl, ⟨vs, hO⟩, b2⟩
        obtain ⟨g, c, rfl, hg⟩ := HFM.out _ _ _ _ hO
        obtain ⟨sa, sc, s1, s2, s3, s4, s5, s6, s7⟩ := HCL.out _ _ _ _ _ hO
        have B2 := Lib.hid (B1.out.trans (b2.mono B1.out.size))
        have O2 := Lib.hid hO
        have Q2 := Lib.hid s6
        have V2 := Lib.hid s5
        have hz1 : w.heap.size ≤ w1.heap.size := B1.out.size
        have hz2 : w1.heap.size ≤ w2.heap.size := b2.size
        have hgw : w.heap.size ≤ g := by omega
        obtain ⟨b', off', a2, c2, e2, -, y0, y1, -⟩ := HGT.out w2 B2.out
        cases e2
        clear b2 hO s5 s6
        by_cases h0 : o = 0
        · have hq0 : (o == 0) = true := by simp [h0]
          have hS : Hid (S = ms.set k ⟨goer + 1, q⟩) := Lib.hid (by rw [HS.out, if_pos h0])
          have hG : Hid (G = true) := Lib.hid (by rw [HG.out, h0]; rfl)
          have h2 := HST.out _ _ _ _ _ O2.out (goer + 1)
          have H2 := Lib.hid h2.at
          have HB3 := Lib.hid (B2.out.setCell (p := ⟨g, k * 2, none⟩) hgw (.int .i64 (goer + 1)))
          clear h2 h0
          go_wp2_with fail
          refine bodyPost_ret (results_tmp3 rfl _ _ _) rfl ?_
          exact ⟨HB3.out, .inr ⟨hE.out, g, c, by rw [hG.out]; rfl, by rw [hS.out]; exact H2.out⟩⟩
        · have hq0 : (o == 0) = false := by simp [h0]
          have hS : Hid (S = ms.set k ⟨o, q ++ [goer]⟩) := Lib.hid (by rw [HS.out, if_neg h0])
          have hG : Hid (G = false) := Lib.hid (by rw [HG.out, decide_eq_false h0])
          have hBa : Below w2.heap.size w2 (w2.alloc (.cells #[.int .i64 goer] 3)) := Rows8.newB
          have HOA := Lib.hid (O2.out.keep hBa (Nat.le_refl _))
          have HQA := Lib.hid (Q2.out.keep hBa (Nat.le_refl _))
          have HBA := Lib.hid (B2.out.trans (hBa.mono B2.out.size))
          have hna : w1.heap.size ≤ (w2.alloc (.cells #[.int .i64 goer] 3)).heap.size := by simp; omega
          have hq9 : q.length + 1 ≤ 100000 := by omega
          clear hBa h0
          go_wp2_with (at_builtin; refine wpList_append_q _ rfl _ _ rfl w1.heap.size q (.slice sa q.length sc) rfl HQA.out goer (.slice (some ⟨w2.heap.size, 0, none⟩) 1 1) rfl (rowAt_own (own1 (n₀ := 0) (Rows8.new w2 _ _) (Nat.zero_le _) rfl)) hq9 hna ?_)
          intro v9 w9 hO9 hg9 hb9
          obtain ⟨a9, c9, e9, _⟩ := hO9.form
          rw [List.length_append, List.length_singleton] at e9
          subst e9
          obtain ⟨h9, f9, d9⟩ := HTQ.out _ w9 _ _ _ _ HOA.out _ V2.out hg9 _ _ hO9 (hb9.imp id (fun h j e => by rw [World.size_alloc]; exact h j e))
          have hB9 : Below w.heap.size w w9 := HBA.out.grown hg9 (by omega) (fun j ej => Nat.le_trans hz1 (HQA.out.lt j ej).1)
          have H9 := Lib.hid h9.at
          have HB10 := Lib.hid (hB9.setCell (p := ⟨g, k * 2 + 1, none⟩) hgw (.slice a9 (q.length + 1) c9))
          clear h9 hB9 hO9 hg9 hb9
          go_wp2_with fail
          refine bodyPost_ret (results_tmp3 rfl _ _ _) rfl ?_
          exact ⟨HB10.out, .inr ⟨hE.out, g, c, by rw [hG.out]; rfl, by rw [hS.out]; exact H9.out⟩⟩
end Go.Proofs
