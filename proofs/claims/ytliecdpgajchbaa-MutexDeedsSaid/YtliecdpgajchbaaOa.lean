/- Copy of the reference. -/
import Derived.Test.YtliecdpgajchbaaNb
namespace Go.Proofs
open Go.RowKit Go.Shelf
attribute [local go_sem] Oper.semAt_some

theorem OwnM.snoc {n₀ : Nat} {W w1 : World} {ts : List Mx} {v v' : Value} {vs : List Value} {can : List Int} {ch : Int} {a : Option Addr} {c : Nat} (h : OwnM n₀ ts v vs W) (hnew : OwnQ n₀ can (.slice a can.length c) W)
    (hap : ∀ i b, i < ts.length → vs[i * 2 + 1]? = some b → (Value.slice a can.length c).ownBlock = none ∨ (Value.slice a can.length c).ownBlock ≠ b.ownBlock)
    (ho : w1.ownsRow n₀ 53 2 v' (ts.length + 1) (vs ++ [.int .i64 ch, .slice a can.length c])) (hg : W.grownBy w1 v.ownBlock) : OwnM n₀ (ts ++ [⟨ch, can⟩]) v' (vs ++ [.int .i64 ch, .slice a can.length c]) w1 := by
  have hl : vs.length = ts.length * 2 := h.row.1
  have hln : (ts ++ [(⟨ch, can⟩ : Mx)]).length = ts.length + 1 := by simp
  have e1 : ∀ i, i < ts.length → (vs ++ [.int .i64 ch, .slice a can.length c])[i * 2 + 1]? = vs[i * 2 + 1]? := fun i hi => List.getElem?_append_left (by omega)
  have e2 : (vs ++ [.int .i64 ch, .slice a can.length c])[ts.length * 2 + 1]? = some (.slice a can.length c) := by
    rw [List.getElem?_append_right (by omega), hl, Nat.add_sub_cancel_left]
    rfl
  refine ⟨by rw [hln]; exact ho, fun i hi => ?_, fun i hi => ?_, fun i j x y hi hj hne hx hy => ?_⟩
  · rw [hln] at hi
    by_cases hlt : i < ts.length
    · rw [List.getElem?_append_left (by omega), h.own i hlt, List.getElem_append_left hlt]
    · have hi2 : i = ts.length := by omega
      subst hi2
      rw [List.getElem?_append_right (by omega), hl, Nat.sub_self]
      simp
  · rw [hln] at hi
    by_cases hlt : i < ts.length
    · obtain ⟨qv, e, hq⟩ := h.que i hlt
      refine ⟨qv, by rw [e1 i hlt]; exact e, ?_⟩
      rw [List.getElem_append_left hlt]
      exact hq.kept hg (ownQ_row hq h.row (by decide))
    · have hi2 : i = ts.length := by omega
      subst hi2
      refine ⟨_, e2, ?_⟩
      simpa using hnew.kept hg (ownQ_row hnew h.row (by decide))
  · rw [hln] at hi hj
    by_cases hil : i < ts.length
    · rw [e1 i hil] at hx
      by_cases hjl : j < ts.length
      · rw [e1 j hjl] at hy
        exact h.apart i j x y hil hjl hne hx hy
      · have hj2 : j = ts.length := by omega
        subst hj2
        rw [e2] at hy
        cases hy
        rcases hap i x hil hx with h3 | h3
        · rw [h3]
          cases x.ownBlock <;> simp
        · exact .inr fun e => h3 e.symm
    · have hi2 : i = ts.length := by omega
      subst hi2
      rw [e2] at hx
      cases hx
      have hjl : j < ts.length := by omega
      rw [e1 j hjl] at hy
      exact hap j y hjl hy
theorem ownM_nil (n₀ : Nat) (W : World) : OwnM n₀ [] (.slice none 0 0) [] W := ⟨World.ownsRow_nil _ _ _ _, fun _ hi => absurd hi (Nat.not_lt_zero _), fun _ hi => absurd hi (Nat.not_lt_zero _), fun _ _ _ _ hi => absurd hi (Nat.not_lt_zero _)⟩
theorem mx_one2 (a : Option Addr) (n c : Nat) (ch : Int) : ∀ u ∈ [Value.int .i64 ch, .slice a n c], u.oneCell' = true := by
  intro u hu
  simp at hu
  rcases hu with rfl | rfl <;> rfl

set_option maxRecDepth 100000 in
set_option maxHeartbeats 4000000 in
theorem Try.refCopy_any (a : Option Addr) (n cap : Nat) (ms : List Mx) (hs : (flatQ ms).length ≤ 10000) (hn1 : n ≤ 10000) (w : World) (hI : MxAt w (.slice a n cap) ms) :
    Calls Try.prog 47 #[.slice a n cap] w fun e w' => ∃ v, e = .returned v ∧ OwnsM w.heap.size ms v w' ∧ Below w.heap.size w w' := by
  obtain ⟨i0, hi, hz0, hz1', hz2⟩ := info_parts Try.infoMx
  obtain ⟨j0, hj, hy0, hy1, hy2⟩ := info_parts Try.infoInt
  obtain ⟨hn, hnc, hcm⟩ := mxAt_len hI
  have HI := Lib.hid hI
  have HN := Lib.hid hn
  have HS := Lib.hid hs
  clear hI hn hnc hcm hs
  go_enter Try.func47, Try.ntmps47
  go_wp2_with fail
  go_loopw [3, 8] (fun o j wr => ∃ (k : Nat) (vs : List Value), k ≤ n ∧ j = .int .i64 k ∧ Hid (OwnM w.heap.size (ms.take k) o vs wr) ∧ Hid (Below w.heap.size w wr)) (fun _ j _ => n - (intOf j).toNat)
  case atStart => exact ⟨0, [], Nat.zero_le _, rfl, Lib.hid (ownM_nil _ _), Lib.hid (Below.refl _ _)⟩
  case round =>
    obtain ⟨k, vs, hk, rfl, hO, hB⟩ := hrel
    by_cases hlt : k < n
    · have hkl : k < ms.length := by rw [← HN.out]; exact hlt
      obtain ⟨b, off, a', c', rfl, hb, hc1, hc2, hin⟩ := mxAt_get (HI.out.below hB.out) k hkl
      have hql := qlen_le ms k hkl
      have hsz := HS.out
      have hki : (k : Int) < (n : Int) := by omega
      have hz := hB.out.size
      have hsn : ms.take (k + 1) = ms.take k ++ [ms[k]] := take_snoc ms k hkl
      have hln : (ms.take k).length = k := by rw [List.length_take]; omega
      generalize ms[k] = m at *
      obtain ⟨ch, q⟩ := m
      dsimp only at hc1 hc2 hin hql hsn
      generalize ms.take k = us at *
      obtain ⟨ql, hqe⟩ : ∃ ql, ql = q.length := ⟨_, rfl⟩
      rw [← hqe] at hc2 hin hql
      have hql4 : ql ≤ 10000 := by omega
      have HSN := Lib.hid hsn
      have HLN := Lib.hid hln
      have HIN := Lib.hid hin
      have HQE := Lib.hid hqe
      clear hin hqe hkl hsn hln hsz
      go_wp2_with fail
      obtain ⟨W1, hW1⟩ : ∃ W1, W1 = wr.alloc (.cells #[.int .i64 ch, .slice a' ql c'] 53) := ⟨_, rfl⟩
      have r5 : Rows8 W1 wr.heap.size 53 #[.int .i64 ch, .slice a' ql c'] := by rw [hW1]; exact Rows8.new wr _ _
      have hB1 : Below wr.heap.size wr W1 := by rw [hW1]; exact Rows8.newB
      rw [← hW1]
      have HO1 := Lib.hid (hO.out.keep hB1 (Nat.le_refl _))
      have HB1 := Lib.hid (hB.out.trans (hB1.mono hz))
      have hz1 : wr.heap.size < W1.heap.size := r5.lt
      have hzw : w.heap.size ≤ W1.heap.size := by omega
      have hin1 : RowAt W1 (.slice a' ql c') ql 1 (intVals q) := by
        have h := RowAt.below HIN.out hB1
        rwa [← HQE.out] at h
      have hBE : Below W1.heap.size W1 (W1.drew.alloc (.cells #[] 3)) := ((Below.refl W1.heap.size W1).drew).alloc (Nat.le_refl _) _
      have HBE := Lib.hid hBE
      have HINE := Lib.hid (RowAt.below hin1 hBE)
      have hOE : OwnsInts W1.heap.size [] (.slice (some ⟨W1.heap.size, 0, none⟩) 0 0) (W1.drew.alloc (.cells #[] 3)) := World.ownsRow_lit W1.drew #[] 0 (Nat.le_refl _) (by unfold maxLen; omega) rfl
      have HOE := Lib.hid hOE
      have hn3 : u3.ownBlock ≠ some wr.heap.size := fun e => by have := (World.ownsRow.lt hO.out.row _ e).2; omega
      have HN3 := Lib.hid hn3
      clear hW1 hB1 hin1 hBE hOE HIN hn3
      have hk0 : W1.cell? ⟨wr.heap.size, 0, none⟩ = some (.int .i64 ch) ∧ W1.cell? ⟨wr.heap.size, 1, none⟩ = some (.slice a' ql c') := ⟨r5.cell 0, r5.cell 1⟩
      have hkE : ∀ o, (W1.alloc o).cell? ⟨wr.heap.size, 0, none⟩ = some (.int .i64 ch) ∧ (W1.alloc o).cell? ⟨wr.heap.size, 1, none⟩ = some (.slice a' ql c') := fun o => ⟨(r5.alloc o).cell 0, (r5.alloc o).cell 1⟩
      go_region_held3 (fun W' => W'.cell? ⟨wr.heap.size, 0, none⟩ = some (.int .i64 ch) ∧ W'.cell? ⟨wr.heap.size, 1, none⟩ = some (.slice a' ql c')) (first | exact hk0 | exact hkE _ | exact hk1 | exact hk2 _ | exact hk3) (first
        | (refine step_append_row _ rfl _ _ 23 rfl W1.heap.size 3 j0 (.int .i64 0) 1 8 Try.underlying23 hj hy0 hy1 hy2 rfl (by decide) (.slice (some ⟨W1.heap.size, 0, none⟩) 0 0) 0 [] rfl HOE.out (.slice a' ql c') ql (intVals q) rfl HINE.out (intVals_one q) (by unfold maxLen; omega) (by omega) (by simp) ?_; intro v9 w9 ho9 hg9 hb9; rw [Nat.zero_add, List.nil_append] at ho9; obtain ⟨_, ax, cx, rfl, _⟩ := rowAt_own ho9; have Bx : Below W1.heap.size W1 w9 := (HBE.out).grown hg9 HBE.out.size (fun j ej => (World.ownsRow.lt HOE.out j ej).1); have s5 : Rows8 w9 wr.heap.size 53 #[.int .i64 ch, .slice a' ql c'] := r5.below Bx r5.lt; have hk1 : w9.cell? ⟨wr.heap.size, 0, none⟩ = some (.int .i64 ch) ∧ w9.cell? ⟨wr.heap.size, 1, none⟩ = some (.slice a' ql c') := ⟨s5.cell 0, s5.cell 1⟩; have hk2 : ∀ o, (w9.alloc o).cell? ⟨wr.heap.size, 0, none⟩ = some (.int .i64 ch) ∧ (w9.alloc o).cell? ⟨wr.heap.size, 1, none⟩ = some (.slice a' ql c') := (fun o => ⟨(s5.alloc o).cell 0, (s5.alloc o).cell 1⟩); have HO9 := Lib.hid (HO1.out.keep Bx (Nat.le_refl _)); have ry := World.ownsRow.alloc HO9.out.row (.cells #[.int .i64 ch, .slice ax ql cx] 53); have hzx : w.heap.size ≤ w9.heap.size := Nat.le_trans hzw Bx.size)
        | (refine step_append_row _ rfl _ _ 22 rfl w.heap.size 53 i0 (.agg #[.int .i64 0, .slice none 0 0]) 2 32 Try.underlying22 hi hz0 hz1' hz2 rfl (by decide) u3 us.length vs rfl ry _ 1 [.int .i64 ch, .slice ax ql cx] rfl (rowAt_own (own1 (n₀ := 0) (Rows8.new w9 _ _) (Nat.zero_le _) rfl)) (mx_one2 _ _ _ _) (by have := HLN.out; unfold maxLen; omega) (by have := HLN.out; omega) (by simp; omega) ?_; intro v8 wy ho8 hg8 hb8; have t5 : Rows8 wy wr.heap.size 53 #[.int .i64 ch, .slice a' ql c'] := (hg8.block wr.heap.size (s5.alloc (.cells #[.int .i64 ch, .slice ax ql cx] 53)).lt (fun e => HN3.out e.symm)).trans (s5.alloc (.cells #[.int .i64 ch, .slice ax ql cx] 53)); have hk3 : wy.cell? ⟨wr.heap.size, 0, none⟩ = some (.int .i64 ch) ∧ wy.cell? ⟨wr.heap.size, 1, none⟩ = some (.slice a' ql c') := ⟨t5.cell 0, t5.cell 1⟩))
      have hql2 := HQE.out
      subst hql2
      have hBa : Below w9.heap.size w9 (w9.alloc (.cells #[.int .i64 ch, .slice ax q.length cx] 53)) := Rows8.newB
      have hnq : OwnQ w.heap.size q (.slice ax q.length cx) w9 := .inl (owns_mono (show OwnsInts W1.heap.size q (.slice ax q.length cx) w9 from ho9) hzw)
      have hT : OwnM w.heap.size (us ++ [⟨ch, q⟩]) v8 (vs ++ [.int .i64 ch, .slice ax q.length cx]) wy := by
        refine (HO9.out.keep hBa (Nat.le_refl _)).snoc (hnq.keep hBa (Nat.le_refl _)) (fun i b hi hb => ?_) ho8 hg8
        obtain ⟨qb, eb, hob⟩ := HO1.out.que i hi
        rw [hb] at eb
        cases eb
        cases ej : (Value.slice ax q.length cx).ownBlock with
        | none => exact .inl rfl
        | some j =>
          refine .inr fun e2 => ?_
          have h3 := (hob.lt j e2.symm).2
          have h4 := (World.ownsRow.lt ho9 j ej).1
          omega
      have hB9 : Below w.heap.size w wy := ((HB1.out.trans (Bx.mono hzw)).alloc hzx (.cells #[.int .i64 ch, .slice ax q.length cx] 53)).grown hg8 (by simp; omega) (fun j ej => (World.ownsRow.lt ry j ej).1)
      have HT := Lib.hid hT
      have HB9 := Lib.hid hB9
      clear hT hB9 hnq ho8 hg8 hb8 t5 hk3 hk2 hk1 hk0 hkE s5 ry Bx ho9 hg9 hb9
      go_wp2_with fail
      exact ⟨⟨k + 1, _, by omega, by go_num, by rw [HSN.out]; exact HT, HB9⟩, by simp [intOf]; omega⟩
    · obtain rfl : k = n := by omega
      have hO1 := hO.out
      rw [HN.out, List.take_length] at hO1
      have HO1 := Lib.hid hO1
      clear hO1
      go_wp2_with fail
      go_ret
      exact ⟨_, rfl, ⟨_, HO1.out⟩, hB.out⟩
end Go.Proofs
