/- spoil. -/
import Derived.Test.YtliecdpgajchbaaOd
namespace Go.Proofs
open Go.RowKit Go.Shelf
attribute [local go_sem] Oper.semAt_some

theorem intVals_set (q : List Int) (j : Nat) (z : Int) : intVals (q.set j z) = (intVals q).set j (.int .i64 z) := by simp [intVals, List.map_set]
theorem OwnQ.setIn {n₀ : Nat} {q : List Int} {B O ql c : Nat} {W : World} (h : OwnQ n₀ q (.slice (some ⟨B, O, none⟩) ql c) W) (j : Nat) (hj : j < q.length) (z : Int) :
    W.frozen? ⟨B, O + j, none⟩ = false ∧ OwnQ n₀ (q.set j z) (.slice (some ⟨B, O, none⟩) ql c) (W.setCell ⟨B, O + j, none⟩ (.int .i64 z)) ∧ n₀ ≤ B := by
  rcases h with h | ⟨g, o, cs, e, h0, hR, hm, hc⟩
  · have hO : O = 0 ∧ n₀ ≤ B ∧ W.frozen? ⟨B, j, none⟩ = false ∧ ql = q.length := by
      rcases h.2 with ⟨e, _⟩ | ⟨g', cap', cur, e, hb, hh, _⟩
      · cases e
      · injection e with e1 e2 e3
        injection e1 with e1
        cases e1
        exact ⟨rfl, hb, Rows8.frozen hh j, e2⟩
    obtain ⟨rfl, hb, hf, rfl⟩ := hO
    rw [Nat.zero_add]
    refine ⟨hf, .inl ?_, hb⟩
    have h2 := (World.ownsRow.stored h j (.int .i64 z)).1
    unfold OwnsInts
    rw [intVals_set, List.length_set]
    exact h2
  · injection e with e1 e2 e3
    injection e1 with e1
    cases e1
    subst e2
    subst e3
    refine ⟨hR.frozen _, .inr ⟨B, O, _, by rw [List.length_set], h0, hR.set (O + j) (.int .i64 z), by rw [List.length_set]; exact hm, fun i hi => ?_⟩, h0⟩
    rw [List.length_set] at hi
    rw [Array.getElem?_setIfInBounds]
    by_cases e : j = i
    · subst e
      have hlt : O + j < cs.size := by
        have := hc j hj
        exact (Array.getElem?_eq_some_iff.1 this).1
      rw [if_pos rfl, if_pos hlt]
      simp [hj]
    · rw [if_neg (by omega), hc i hi]
      simp [List.getElem?_set_ne e]
theorem OwnM.setIn {n₀ : Nat} {ms : List Mx} {g n cap : Nat} {vs : List Value} {W W' : World} (h : OwnM n₀ ms (.slice (some ⟨g, 0, none⟩) n cap) vs W) (i : Nat) (hi : i < ms.length) (qv : Value) (e : vs[i * 2 + 1]? = some qv) (B : Nat) (hB : qv.ownBlock = some B) (q : List Int) (hg : W.grownBy W' (some B)) (hq : OwnQ n₀ q qv W') :
    OwnM n₀ (ms.set i ⟨ms[i].own, q⟩) (.slice (some ⟨g, 0, none⟩) n cap) vs W' := by
  have hl : (ms.set i ⟨ms[i].own, q⟩).length = ms.length := List.length_set ..
  have hrow : (Value.slice (some ⟨g, 0, none⟩) n cap).ownBlock = none ∨ (Value.slice (some ⟨g, 0, none⟩) n cap).ownBlock ≠ some B := by
    refine .inr fun e2 => ?_
    rcases h.rowNe i qv hi e with h1 | h1
    · rw [hB] at h1; cases h1
    · exact h1 (by rw [hB, ← e2]; rfl)
  refine ⟨by rw [hl]; exact World.ownsRow.kept h.row hg hrow, fun k hk => ?_, fun k hk => ?_, fun k j a b hk hj hne ha hb => ?_⟩
  · rw [hl] at hk
    rw [h.own k hk]
    by_cases ek : i = k
    · subst ek; simp
    · rw [List.getElem_set_ne ek]
  · rw [hl] at hk
    by_cases ek : i = k
    · subst ek
      exact ⟨qv, e, by simpa using hq⟩
    · obtain ⟨qk, e1, hok⟩ := h.que k hk
      refine ⟨qk, e1, ?_⟩
      rw [List.getElem_set_ne ek]
      refine hok.kept hg ?_
      rw [← hB]
      exact h.apart k i qk qv hk hi (fun e2 => ek e2.symm) e1 e
  · rw [hl] at hk hj
    exact h.apart k j a b hk hj hne ha hb

set_option maxRecDepth 100000 in
set_option maxHeartbeats 4000000 in
theorem Try.spoil_some (n₀ n₁ g n c : Nat) (Φ : World → Prop) (hΦ : ∀ (W : World) (B o : Nat) (u : Value), n₀ ≤ B → B < n₁ → Φ W → Φ (W.setCell ⟨B, o, none⟩ u)) (ms : List Mx) (hlen : n ≤ 10000) (hq : ∀ m ∈ ms, m.q.length ≤ 10000) (w : World) (hO : ∃ vs, OwnM n₀ ms (.slice (some ⟨g, 0, none⟩) n c) vs w ∧ g < n₁ ∧ ∀ i B qv, vs[i * 2 + 1]? = some qv → qv.ownBlock = some B → B < n₁) (h0 : Φ w) :
    Calls Try.prog 27 #[.slice (some ⟨g, 0, none⟩) n c] w fun e w' => e = .returned (.tuple #[]) ∧ Below n₀ w w' ∧ Φ w' := by
  obtain ⟨vs, hO, hgn, hvn⟩ := hO
  have H0 := Lib.hid h0
  have HF := Lib.hid hΦ
  have HV := Lib.hid hvn
  clear h0 hΦ hvn
  obtain ⟨hn, hn0, -, -⟩ := row_cells hO.row
  have HO := Lib.hid hO
  have HQ := Lib.hid hq
  clear hO hq
  go_enter Try.func27, Try.ntmps27
  go_wp2_with fail
  go_loopw [6] (fun j wr => ∃ (k : Nat) (xs : List Mx) (vs : List Value), k ≤ n ∧ j = .int .i64 k ∧ Hid (xs.length = n ∧ ∀ m ∈ xs, m.q.length ≤ 10000) ∧ Hid (OwnM n₀ xs (.slice (some ⟨g, 0, none⟩) n c) vs wr) ∧ Hid (∀ i B qv, vs[i * 2 + 1]? = some qv → qv.ownBlock = some B → B < n₁) ∧ Hid (Φ wr) ∧ Hid (Below n₀ w wr)) (fun j _ => n - (intOf j).toNat)
  case atStart => exact ⟨0, ms, vs, Nat.zero_le _, rfl, Lib.hid ⟨hn.symm, HQ.out⟩, HO, HV, H0, Lib.hid (Below.refl _ _)⟩
  case round =>
    obtain ⟨k, xs, vs, hk, rfl, hL, hO, hV, hF, hB⟩ := hrel
    by_cases hlt : k < n
    · have hkl : k < xs.length := by rw [hL.out.1]; exact hlt
      have hki : (k : Int) < (n : Int) := by omega
      obtain ⟨sa, sc, s1, s2, s3, s4, s5, s6, s7⟩ := hO.out.cells2 k hkl
      obtain ⟨o2, ho2⟩ : ∃ o2, o2 = wrap64 (xs[k].own + 1) := ⟨_, rfl⟩
      have h2 := hO.out.setOwn hL.out.1.symm k hkl o2
      have hl2 : (xs.set k ⟨o2, xs[k].q⟩).length = n := by rw [List.length_set]; exact hL.out.1
      have hq2 : ∀ m ∈ xs.set k ⟨o2, xs[k].q⟩, m.q.length ≤ 10000 := fun m hm => by
        rcases List.mem_or_eq_of_mem_set hm with h | h
        · exact hL.out.2 m h
        · rw [h]; exact (hL.out.2 xs[k] (List.getElem_mem hkl) : xs[k].q.length ≤ 10000)
      have hqk : (xs.set k ⟨o2, xs[k].q⟩)[k]'(by rw [hl2]; exact hlt) = ⟨o2, xs[k].q⟩ := List.getElem_set_self _
      obtain ⟨N, hN⟩ : ∃ N, N = xs[k].q.length := ⟨_, rfl⟩
      rw [← hN] at s2
      have hnn : ∀ h : k < (xs.set k ⟨o2, xs[k].q⟩).length, (xs.set k ⟨o2, xs[k].q⟩)[k].q.length = N := fun h => by rw [hqk, hN]
      have HN := Lib.hid hnn
      have hN4 : N ≤ 10000 := by rw [hN]; exact hL.out.2 _ (List.getElem_mem hkl)
      generalize xs[k].own = o at *
      generalize hys : xs.set k ⟨o2, xs[k].q⟩ = ys at *
      have H2 := Lib.hid h2
      have HL2 := Lib.hid (And.intro hl2 hq2)
      have HB2 := Lib.hid (hB.out.setCell (p := ⟨g, k * 2, none⟩) hn0 (.int .i64 o2))
      have HO2 := Lib.hid ho2.symm
      have HF2 := Lib.hid (HF.out _ g (k * 2) (.int .i64 o2) hn0 hgn hF.out)
      have hv2 : ∀ i B qv, (vs.set (k * 2) (Value.int .i64 o2))[i * 2 + 1]? = some qv → qv.ownBlock = some B → B < n₁ := fun i B qv h => hV.out i B qv (by rw [getD_set_ne (by omega)] at h; exact h)
      have HV2 := Lib.hid hv2
      clear h2 hl2 hq2 hnn hqk hN hys ho2 s5 s6 hv2
      obtain ⟨we, rfl⟩ : ∃ x, x = wr := ⟨_, rfl⟩
      go_wp2_with fail
      rw [HO2.out]
      go_loopw [23] (fun j wr => ∃ (i : Nat) (zs : List Mx) (vs : List Value), i ≤ N ∧ j = .int .i64 i ∧ Hid (zs.length = n ∧ ∀ m ∈ zs, m.q.length ≤ 10000) ∧ Hid (∀ h : k < zs.length, zs[k].q.length = N) ∧ Hid (OwnM n₀ zs (.slice (some ⟨g, 0, none⟩) n c) vs wr) ∧ Hid (∀ i B qv, vs[i * 2 + 1]? = some qv → qv.ownBlock = some B → B < n₁) ∧ Hid (Φ wr) ∧ Hid (Below n₀ w wr)) (fun j _ => N - (intOf j).toNat)
      case atStart => exact ⟨0, ys, _, Nat.zero_le _, rfl, HL2, HN, H2, HV2, HF2, HB2⟩
      case round =>
        obtain ⟨i, zs, vs, hiN, rfl, hLz, hNz, hOz, hVz, hFz, hBz⟩ := hrel
        by_cases hil : i < N
        · have hkz : k < zs.length := by rw [hLz.out.1]; exact hlt
          have hii : (i : Int) < (N : Int) := by omega
          have hqn := hNz.out hkz
          obtain ⟨sa, sc, t1, t2, t3, t4, t5, t6, t7⟩ := hOz.out.cells2 k hkz
          obtain ⟨bq, oq, rfl, hbq, hz⟩ := intsAt_get t6.at i (by rw [hqn]; exact hil)
          rw [hqn] at t2
          obtain ⟨z2, hz2⟩ : ∃ z2, z2 = wrap64 (zs[k].q[i]?.getD 0 + 1) := ⟨_, rfl⟩
          obtain ⟨f1, q2, hnb⟩ := t6.setIn i (by rw [hqn]; exact hil) z2
          have h2 := hOz.out.setIn (W' := wr.setCell ⟨bq, oq + i, none⟩ (.int .i64 z2)) k hkz _ t5 bq rfl (zs[k].q.set i z2) (grownBy_set wr bq (oq + i) (.int .i64 z2)) q2
          have hl2 : (zs.set k ⟨zs[k].own, zs[k].q.set i z2⟩).length = n := by rw [List.length_set]; exact hLz.out.1
          have hq2 : ∀ m ∈ zs.set k ⟨zs[k].own, zs[k].q.set i z2⟩, m.q.length ≤ 10000 := fun m hm => by
            rcases List.mem_or_eq_of_mem_set hm with h | h
            · exact hLz.out.2 m h
            · rw [h]
              show (zs[k].q.set i z2).length ≤ 10000
              rw [List.length_set]
              exact hLz.out.2 zs[k] (List.getElem_mem hkz)
          have hnn : ∀ h : k < (zs.set k ⟨zs[k].own, zs[k].q.set i z2⟩).length, (zs.set k ⟨zs[k].own, zs[k].q.set i z2⟩)[k].q.length = N := fun h => by
            rw [List.getElem_set_self]
            show (zs[k].q.set i z2).length = N
            rw [List.length_set]
            exact hqn
          have H2 := Lib.hid h2
          have HL2 := Lib.hid (And.intro hl2 hq2)
          have HN2 := Lib.hid hnn
          have HB2 := Lib.hid (hBz.out.setCell (p := ⟨bq, oq + i, none⟩) hnb (.int .i64 z2))
          have HZ2 := Lib.hid hz2.symm
          have HFZ := Lib.hid (HF.out _ bq (oq + i) (.int .i64 z2) hnb (hVz.out k bq _ t5 rfl) hFz.out)
          generalize zs.set k ⟨zs[k].own, zs[k].q.set i z2⟩ = us at *
          generalize zs[k].q[i]?.getD 0 = zz at *
          clear h2 hl2 hq2 hnn hz2 q2 t5 t6 hqn t1
          go_wp2_with fail
          rw [HZ2.out]
          exact ⟨⟨i + 1, us, vs, by omega, by go_num, HL2, HN2, H2, hVz, HFZ, HB2⟩, by simp [intOf]; omega⟩
        · obtain rfl : i = N := by omega
          go_wp2_with fail
          exact ⟨⟨k + 1, zs, vs, by omega, by go_num, hLz, hOz, hVz, hFz, hBz⟩, by simp [intOf]; omega⟩
    · obtain rfl : k = n := by omega
      go_wp2_with fail
      first | go_end0 | refine bodyPost_ret (results_none rfl _ _ _) rfl ?_
      exact ⟨rfl, hB.out, hF.out⟩
theorem OwnM.blocks {n₀ : Nat} {ms : List Mx} {g n c : Nat} {vs : List Value} {W : World} (h : OwnM n₀ ms (.slice (some ⟨g, 0, none⟩) n c) vs W) : g < W.heap.size ∧ ∀ i B qv, vs[i * 2 + 1]? = some qv → qv.ownBlock = some B → B < W.heap.size := by
  refine ⟨(row_cells h.row).2.2.1, fun i B qv e hB => ?_⟩
  have hvl : vs.length = ms.length * 2 := h.row.1
  have hi : i < ms.length := by
    have := (List.getElem?_eq_some_iff.1 e).1
    omega
  obtain ⟨qk, e1, hok⟩ := h.que i hi
  rw [e] at e1
  cases e1
  exact (hok.lt B hB).2
/-- What another one owns, laid later, outlives it. -/
theorem OwnsM.past {n₁ : Nat} {ms : List Mx} {v : Value} {W : World} (h : OwnsM n₁ ms v W) {B o : Nat} {u : Value} (hB : B < n₁) : OwnsM n₁ ms v (W.setCell ⟨B, o, none⟩ u) := by
  obtain ⟨vs, h⟩ := h
  refine ⟨vs, h.kept (grownBy_set W B o u) ?_ (fun i qv hi e => ?_)⟩
  · cases ej : v.ownBlock with
    | none => exact .inl rfl
    | some j =>
      refine .inr fun e => ?_
      have := (World.ownsRow.lt h.row j ej).1
      cases e
      omega
  · obtain ⟨qk, e1, hok⟩ := h.que i hi
    rw [e] at e1
    cases e1
    cases ej : qv.ownBlock with
    | none => exact .inl rfl
    | some j =>
      refine .inr fun e => ?_
      have := (hok.lt j ej).1
      cases e
      omega
set_option maxRecDepth 100000 in
theorem Try.spoil_nil (w : World) : Calls Try.prog 27 #[.slice none 0 0] w fun e w' => e = .returned (.tuple #[]) ∧ w = w' := by
  go_enter Try.func27, Try.ntmps27
  go_wp2_with fail
  go_loopw [6] (fun j wr => j = .int .i64 0 ∧ wr = w) (fun _ _ => 0)
  case atStart => exact ⟨rfl, rfl⟩
  case round =>
    obtain ⟨rfl, rfl⟩ := hrel
    go_wp2_with fail
    first | go_end0 | refine bodyPost_ret (results_none rfl _ _ _) rfl ?_
    exact ⟨rfl, rfl⟩
/-- What was made between two worlds is spoiled: what was there ahead, and what another one made behind, stands. -/
theorem Try.spoil_any (a : Option Addr) (n c n₀ : Nat) (ms : List Mx) (W : World) (hO : OwnsM n₀ ms (.slice a n c) W) (hlen : n ≤ 10000) (hq : ∀ m ∈ ms, m.q.length ≤ 10000) (w : World) (hw : Below W.heap.size W w) (ns : List Mx) (v : Value) (hN : OwnsM W.heap.size ns v w) :
    Calls Try.prog 27 #[.slice a n c] w fun e w' => e = .returned (.tuple #[]) ∧ Below n₀ w w' ∧ OwnsM W.heap.size ns v w' := by
  obtain ⟨vs, hO⟩ := hO
  rcases hO.row.2 with ⟨e, _⟩ | ⟨g, cap, cur, e, hb, _⟩
  · cases e
    exact (Try.spoil_nil w).mono fun e w' ⟨h1, h2⟩ => by subst h2; exact ⟨h1, Below.refl _ _, hN⟩
  · cases e
    have hk := hO.blocks
    exact Try.spoil_some n₀ W.heap.size g _ c (fun W' => OwnsM W.heap.size ns v W') (fun W' B o u _ hB h => OwnsM.past h hB) ms hlen hq w ⟨vs, hO.keep hw (Nat.le_refl _), hk.1, hk.2⟩ hN
end Go.Proofs
