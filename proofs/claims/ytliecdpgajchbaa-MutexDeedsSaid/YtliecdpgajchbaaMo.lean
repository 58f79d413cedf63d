/- copied. -/
import Derived.Test.YtliecdpgajchbaaMn
namespace Go.Proofs
open Go.RowKit Go.Shelf
attribute [local go_sem] Oper.semAt_some

theorem OwnM.rows {n₀ : Nat} {ms : List Mx} {g n : Nat} {vs : List Value} {W : World} (h : OwnM n₀ ms (.slice (some ⟨g, 0, none⟩) n n) vs W) : n = ms.length ∧ n₀ ≤ g ∧ Rows8 W g 53 vs.toArray := by
  rcases h.row.2 with ⟨e, _⟩ | ⟨g', cap, cur, e, hb, hh, hl, hm, hz, ht⟩
  · cases e
  · injection e with e1 e2 e3
    injection e1 with e1
    cases e1
    subst e3
    refine ⟨e2, hb, ?_⟩
    rw [← e2, List.take_of_length_le (by rw [Array.length_toList, hz]; exact Nat.le_refl _)] at ht
    rw [← ht]
    exact hh
theorem OwnM.cells {n₀ : Nat} {ms : List Mx} {g n : Nat} {vs : List Value} {W : World} (h : OwnM n₀ ms (.slice (some ⟨g, 0, none⟩) n n) vs W) (i : Nat) (hi : i < ms.length) :
    ∃ a c, W.cell? ⟨g, i * 2, none⟩ = some (.int .i64 ms[i].own) ∧ W.cell? ⟨g, i * 2 + 1, none⟩ = some (.slice a ms[i].q.length c) ∧ W.frozen? ⟨g, i * 2, none⟩ = false ∧ W.frozen? ⟨g, i * 2 + 1, none⟩ = false ∧ vs[i * 2 + 1]? = some (.slice a ms[i].q.length c) ∧ OwnQ n₀ ms[i].q (.slice a ms[i].q.length c) W ∧ g < W.heap.size := by
  obtain ⟨_, _, hr⟩ := h.rows
  obtain ⟨qv, e, ho⟩ := h.que i hi
  obtain ⟨a, c, rfl, _⟩ := ho.form
  exact ⟨a, c, by rw [hr.cell, List.getElem?_toArray]; exact h.own i hi, by rw [hr.cell, List.getElem?_toArray]; exact e, hr.frozen _, hr.frozen _, e, ho, hr.lt⟩
/-- Those that are copied, and those that are not yet. -/
def partM (ms : List Mx) (k : Nat) : List Mx := ms.take k ++ freeM (ms.length - k)
theorem partM_length (ms : List Mx) (k : Nat) (h : k ≤ ms.length) : (partM ms k).length = ms.length := by
  unfold partM freeM
  simp
  omega
theorem partM_next (ms : List Mx) (k : Nat) (h : k < ms.length) (m : Mx) (hm : m = ms[k]) : (partM ms k).set k m = partM ms (k + 1) := by
  subst hm
  unfold partM freeM
  rw [List.set_append_right _ _ (by rw [List.length_take]; omega), List.length_take, Nat.min_eq_left (by omega), Nat.sub_self, take_snoc ms k h, show ms.length - k = (ms.length - (k + 1)) + 1 by omega, List.replicate_succ, List.set_cons_zero, List.append_assoc]
  rfl
theorem partM_end (ms : List Mx) : partM ms ms.length = ms := by
  unfold partM freeM
  simp
/-- One is copied. -/
theorem OwnM.put {n₀ : Nat} {ms : List Mx} {g n : Nat} {vs : List Value} {k : Nat} {W : World} (h : OwnM n₀ (partM ms k) (.slice (some ⟨g, 0, none⟩) n n) vs W) (hk : k < ms.length) (qv : Value) (ho : OwnQ n₀ ms[k].q qv W)
    (hnew : ∀ i b, i < ms.length → i ≠ k → vs[i * 2 + 1]? = some b → qv.ownBlock = none ∨ qv.ownBlock ≠ b.ownBlock) :
    ∃ vs', OwnM n₀ (partM ms (k + 1)) (.slice (some ⟨g, 0, none⟩) n n) vs' ((W.setCell ⟨g, k * 2, none⟩ (.int .i64 ms[k].own)).setCell ⟨g, k * 2 + 1, none⟩ qv) := by
  have hl := partM_length ms k (by omega)
  have hn := h.rows.1
  have hqn : qv.ownBlock = none ∨ qv.ownBlock ≠ some g := ownQ_row ho h.row (by decide)
  have h1 := h.setOwn hn k (by omega) ms[k].own
  have ho1 := ho.kept (grownBy_set W g (k * 2) (.int .i64 ms[k].own)) hqn
  have hl1 : ((partM ms k).set k ⟨ms[k].own, (partM ms k)[k].q⟩).length = (partM ms k).length := List.length_set ..
  have h2 := h1.setQ (by rw [hl1]; exact hn) k (by rw [hl1]; omega) ms[k].q qv ho1 (fun i b hi hne hb => by
    rw [hl1, hl] at hi
    rw [getD_set_ne (by omega)] at hb
    exact hnew i b hi hne hb)
  refine ⟨(vs.set (k * 2) (.int .i64 ms[k].own)).set (k * 2 + 1) qv, ?_⟩
  rw [← partM_next ms k hk ms[k] rfl]
  rw [List.set_set] at h2
  have e : (⟨((partM ms k).set k ⟨ms[k].own, (partM ms k)[k].q⟩)[k].own, ms[k].q⟩ : Mx) = ms[k] := by
    rw [List.getElem_set_self]
  rw [e] at h2
  exact h2

set_option maxRecDepth 100000 in
set_option maxHeartbeats 2000000 in
theorem Try.copied_any (a : Option Addr) (n cap : Nat) (ms : List Mx) (h1 : 1 ≤ n) (h160 : n ≤ 160) (hs : (flatQ ms).length ≤ 10000) (w : World) (hI : MxAt w (.slice a n cap) ms) :
    Calls Try.prog 58 #[.slice a n cap] w fun e w' => ∃ r, e = .returned (.slice (some ⟨r, 0, none⟩) n n) ∧ OwnsM w.heap.size ms (.slice (some ⟨r, 0, none⟩) n n) w' ∧ Below w.heap.size w w' := by
  obtain ⟨i0, hi, hz0, hz1, hz2⟩ := info_parts Try.infoMx
  obtain ⟨j0, hj, hy0, hy1, hy2⟩ := info_parts Try.infoInt
  have hn := (mxAt_len hI).1
  have HI := Lib.hid hI
  have HN := Lib.hid hn
  have HS := Lib.hid hs
  clear hI hn hs
  go_enter Try.func58, Try.ntmps58
  go_wp2_with (refine wpList_make_full _ rfl _ _ 60 rfl w.heap.size 53 i0 (.agg #[.int .i64 0, .slice none 0 0]) 2 Try.underlying60 hi hz0 hz1 .i64 .i64 (n : Int) (n : Int) n rfl rfl rfl rfl (by rw [hz2]; omega) (by unfold maxLen; omega) (Nat.le_refl _) ?_)
  intro w' hown hg
  have hO : OwnsM w.heap.size (partM ms 0) (.slice (some ⟨w.heap.size, 0, none⟩) n n) w' := by
    have h2 := own_made hown
    have e : partM ms 0 = freeM n := by rw [HN.out]; rfl
    rw [e]
    exact ⟨_, h2⟩
  have hB := (Below.refl w.heap.size w).grown hg (Nat.le_refl _) (fun j ej => by cases ej)
  have HO := Lib.hid hO
  have HB := Lib.hid hB
  clear hown hg hO hB
  obtain ⟨r, hr⟩ : ∃ r, r = w.heap.size := ⟨_, rfl⟩
  rw [← hr] at HO
  rw [show (Value.slice (some ⟨w.heap.size, 0, none⟩) n n) = .slice (some ⟨r, 0, none⟩) n n by rw [hr]]
  have hwr : w.heap.size ≤ r := by omega
  have h0r : r ≤ w.heap.size := by omega
  clear hr
  go_wp2_with fail
  go_loopw [11] (fun j wr => ∃ k : Nat, k ≤ n ∧ j = .int .i64 k ∧ OwnsM r (partM ms k) (.slice (some ⟨r, 0, none⟩) n n) wr ∧ Below w.heap.size w wr) (fun j _ => n - (intOf j).toNat)
  case atStart => exact ⟨0, Nat.zero_le _, rfl, HO.out, HB.out⟩
  case round =>
    obtain ⟨k, hk, rfl, ⟨vs, hO⟩, hB⟩ := hrel
    by_cases hlt : k < n
    · have hkl : k < ms.length := by rw [← HN.out]; exact hlt
      obtain ⟨b, off, a', c', rfl, hb, hc1, hc2, hin⟩ := mxAt_get (HI.out.below hB) k hkl
      have hql := qlen_le ms k hkl
      have hsz := HS.out
      have hput := fun (W : World) (h : OwnM r (partM ms k) (.slice (some ⟨r, 0, none⟩) n n) vs W) qv h2 h3 => h.put (qv := qv) hkl h2 h3
      have hpl := partM_length ms k (by omega)
      obtain ⟨sa, sc, s1, s2, s3, s4, s5, s6, s7⟩ := hO.cells k (by omega)
      generalize ms[k] = m at *
      obtain ⟨o, q⟩ := m
      dsimp only at hc1 hc2 hin hql hput
      obtain ⟨ql, hqe⟩ : ∃ ql, ql = q.length := ⟨_, rfl⟩
      rw [← hqe] at hc2 hin hql
      have hql4 : ql ≤ 10000 := by omega
      have hki : (k : Int) < (n : Int) := by omega
      have hz := hB.size
      have HIN := Lib.hid hin
      have HQE := Lib.hid hqe
      have HPUT := Lib.hid hput
      have HO := Lib.hid hO
      have HB := Lib.hid hB
      have HPL := Lib.hid hpl
      clear hin hqe hput hO hB hpl hkl s1 s2 s3 s4 s5 s6 hsz
      go_wp2_with fail
      obtain ⟨W1, hW1⟩ : ∃ W1, W1 = wr.alloc (.cells #[.int .i64 o, .slice a' ql c'] 53) := ⟨_, rfl⟩
      have r5 : Rows8 W1 wr.heap.size 53 #[.int .i64 o, .slice a' ql c'] := by rw [hW1]; exact Rows8.new wr _ _
      have hB1 : Below wr.heap.size wr W1 := by rw [hW1]; exact Rows8.newB
      rw [← hW1]
      have HO1 := Lib.hid (HO.out.keep hB1 (Nat.le_refl _))
      have HB1 := Lib.hid (HB.out.trans (hB1.mono hz))
      have hz1 : wr.heap.size < W1.heap.size := r5.lt
      have hr1 : r ≤ W1.heap.size := by omega
      have hin1 := RowAt.below HIN.out hB1
      rw [← HQE.out] at hin1
      have HIN1 := Lib.hid hin1
      clear hW1 HO HB HIN hB1 hin1
      have hk0 : W1.cell? ⟨wr.heap.size, 0, none⟩ = some (.int .i64 o) ∧ W1.cell? ⟨wr.heap.size, 1, none⟩ = some (.slice a' ql c') := ⟨r5.cell 0, r5.cell 1⟩
      have hkn : ¬ (n : Int) ≤ (k : Int) := by omega
      go_region_held3 (fun W' => W'.cell? ⟨wr.heap.size, 0, none⟩ = some (.int .i64 o) ∧ W'.cell? ⟨wr.heap.size, 1, none⟩ = some (.slice a' ql c')) (first | exact hk0 | exact hk1 | exact hk2) (first
        | (refine step_append_row _ rfl _ _ 23 rfl r 3 j0 (.int .i64 0) 1 8 Try.underlying23 hj hy0 hy1 hy2 rfl (by decide) (.slice none 0 0) 0 [] rfl (World.ownsRow_nil _ _ _ _) (.slice a' ql c') ql (intVals q) rfl HIN1.out (intVals_one q) (by unfold maxLen; omega) (by omega) hr1 ?_; intro v9 w9 ho9 hg9 hb9; rw [Nat.zero_add, List.nil_append] at ho9; obtain ⟨_, ax, cx, rfl, _⟩ := rowAt_own ho9; have hBn : Below W1.heap.size W1 w9 := ((Below.refl W1.heap.size W1).drew).grown hg9 (Nat.le_refl _) (fun j ej => by cases ej); have t5 : Rows8 w9 wr.heap.size 53 #[.int .i64 o, .slice a' ql c'] := r5.below hBn r5.lt; have hk1 : w9.cell? ⟨wr.heap.size, 0, none⟩ = some (.int .i64 o) ∧ w9.cell? ⟨wr.heap.size, 1, none⟩ = some (.slice a' ql c') := ⟨t5.cell 0, t5.cell 1⟩; have t6 := (t5.setOther (a := ⟨r, k * 2, none⟩) (show r ≠ wr.heap.size by omega) (.int .i64 o)).setOther (a := ⟨r, k * 2 + 1, none⟩) (show r ≠ wr.heap.size by omega) (.slice ax ql cx); have hk2 : ((w9.setCell ⟨r, k * 2, none⟩ (.int .i64 o)).setCell ⟨r, k * 2 + 1, none⟩ (.slice ax ql cx)).cell? ⟨wr.heap.size, 0, none⟩ = some (.int .i64 o) ∧ ((w9.setCell ⟨r, k * 2, none⟩ (.int .i64 o)).setCell ⟨r, k * 2 + 1, none⟩ (.slice ax ql cx)).cell? ⟨wr.heap.size, 1, none⟩ = some (.slice a' ql c') := ⟨t6.cell 0, t6.cell 1⟩; have HO9 := Lib.hid (HO1.out.keep hBn (Nat.le_refl _)); obtain ⟨sa9, sc9, s1, s2, s3, s4, s5, s6, s7⟩ := HO9.out.cells k (by have := HPL.out; have := HN.out; omega)))
      have hq : OwnQ r q (.slice ax ql cx) w9 := .inl (by unfold OwnsInts; rw [← HQE.out]; exact ho9)
      obtain ⟨vs2, h2⟩ := HPUT.out w9 HO9.out (.slice ax ql cx) hq (fun i b hi _ hb => by
        obtain ⟨qb, eb, hob⟩ := HO1.out.que i (by rw [HPL.out]; exact hi)
        rw [hb] at eb
        cases eb
        cases ej : (Value.slice ax ql cx).ownBlock with
        | none => exact .inl rfl
        | some j =>
          refine .inr fun e2 => ?_
          have h3 := (hob.lt j e2.symm).2
          rcases hb9 with h4 | h4
          · rw [ej] at h4
            cases h4
          · rw [ej] at h4
            injection h4 with h4
            have : W1.drew.heap.size = W1.heap.size := rfl
            omega)
      have hB9 := ((HB1.out.trans (hBn.mono HB1.out.size)).setCell (p := ⟨r, k * 2, none⟩) hwr (.int .i64 o)).setCell (p := ⟨r, k * 2 + 1, none⟩) hwr (.slice ax ql cx)
      have H2 := Lib.hid h2
      have HB9 := Lib.hid hB9
      clear h2 hB9 hq hk2 hk1 hk0 t5 t6 s1 s2 s3 s4 s5 s6 ho9 hg9 hb9 hBn
      go_wp2_with fail
      exact ⟨⟨k + 1, by omega, by go_num, ⟨_, H2.out⟩, HB9.out⟩, by simp [intOf]; omega⟩
    · obtain rfl : k = n := by omega
      have e : partM ms k = ms := by rw [HN.out]; exact partM_end ms
      rw [e] at hO
      have HO := Lib.hid hO
      have HB := Lib.hid hB
      clear hO hB e
      go_wp2_with fail
      go_ret
      exact ⟨r, rfl, OwnsM.mono ⟨vs, HO.out⟩ hwr, HB.out⟩
end Go.Proofs
