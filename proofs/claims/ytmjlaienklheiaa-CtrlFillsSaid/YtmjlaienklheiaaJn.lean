/- Ctrl: wakes. -/
import Derived.Test.YtmjlaienklheiaaJm
namespace Go.Proofs
set_option maxRecDepth 100000
open Go.RowKit Go.Shelf
attribute [local go_sem] Oper.semAt_some

theorem intsAt_own {n₀ : Nat} {W : World} {v : Value} {n : Nat} {l : List Nat} (h : W.ownsRow n₀ 3 1 v n (nvals l)) (hn : n = l.length) : IntsAt W v (l.map fun (k : Nat) => (k : Int)) ∧ ∃ a c, v = .slice a n c := by
  subst hn
  rcases h with ⟨hl, ⟨rfl, h2⟩ | ⟨g, cap, cur, rfl, _, h3, h4, h5, h6, h7⟩⟩
  · obtain rfl : l = [] := List.eq_nil_of_length_eq_zero h2
    exact ⟨.inl ⟨rfl, rfl⟩, _, _, rfl⟩
  · refine ⟨.inr ⟨g, 0, cap, by rw [List.length_map], (Array.getElem?_eq_some_iff.1 h3).1, fun j hj => ?_⟩, _, _, rfl⟩
    rw [List.length_map] at hj
    have hcur : cur[j]? = some (.int .i64 (l[j] : Nat)) := by
      have e1 : (cur.toList.take (l.length * 1))[j]? = (nvals l)[j]? := by rw [h7]
      rw [List.getElem?_take, if_pos (by omega)] at e1
      rw [← Array.getElem?_toList, e1]
      simp [nvals, List.getElem?_eq_getElem hj]
    simp [World.cell?, h3, hcur, List.getElem?_eq_getElem hj]
theorem Try.equalL_any (l : List Nat) (hl : l.length ≤ 100) (n₁ n₂ : Nat) (v1 v2 : Value) (W : World) (h1 : W.ownsRow n₁ 3 1 v1 l.length (nvals l)) (h2 : W.ownsRow n₂ 3 1 v2 l.length (nvals l)) :
    Calls Try.prog 29 #[v1, v2] W fun e w' => e = .returned (.bool true) ∧ Below W.heap.size W w' := by
  obtain ⟨i1, a1, c1, rfl⟩ := intsAt_own h1 rfl
  obtain ⟨i2, a2, c2, rfl⟩ := intsAt_own h2 rfl
  exact Try.equalInts_any a1 a2 _ c1 c2 _ (by rw [List.length_map]) hl W i1 i2
set_option maxHeartbeats 2000000 in
theorem Try.wakes_any (w : World) : Calls Try.prog 9 #[] w (wakesQ w) := by
  go_enter Try.func9, Try.ntmps9
  go_wp2_with fail
  refine (Try.wkNew _).mono ?_
  rintro e w1 ⟨rfl, hB1⟩
  go_wp2_with fail
  have b0 := Rows8.new w1 5 #[.int .u8 5, .int .u8 9, .int .u8 5]
  have hB0 : Below w.heap.size w (w1.alloc (.cells #[.int .u8 5, .int .u8 9, .int .u8 5] 5)) := hB1.alloc hB1.size _
  generalize (w1.alloc (.cells #[.int .u8 5, .int .u8 9, .int .u8 5] 5)) = W0 at *
  refine (Try.wkFills _ _ _ b0).mono ?_
  rintro e w2 ⟨lv, rfl, ho, hB2⟩
  have hb2 := hB0.trans (hB2.mono hB0.size)
  obtain ⟨_, al, cl, rfl, _⟩ := rowAt_own ho
  have HO := Lib.hid (owns_mono ho hB0.size)
  clear hB1 hB0 hB2 b0 ho
  go_wp2_with fail
  refine (Try.wkMatch _).mono ?_
  rintro e w3 ⟨rfl, hB3⟩
  have hb3 := hb2.trans (hB3.mono hb2.size)
  have HO := Lib.hid (owns_keep HO.out hB3 (Nat.le_refl _))
  clear hb2 hB3
  go_wp2_with fail
  refine (Try.wkErase _).mono ?_
  rintro e w4 ⟨rfl, hB4⟩
  have hb4 := hb3.trans (hB4.mono hb3.size)
  have HO := Lib.hid (owns_keep HO.out hB4 (Nat.le_refl _))
  clear hb3 hB4
  go_wp2_with fail
  refine (Try.wkSets _).mono ?_
  rintro e w5 ⟨rfl, hB5⟩
  have hb5 := hb4.trans (hB5.mono hb4.size)
  have HO := Lib.hid (owns_keep HO.out hB5 (Nat.le_refl _))
  clear hb4 hB5
  go_wp2_with fail
  have c0 := Rows8.new w5 5 #[.int .u8 3, .int .u8 3, .int .u8 3, .int .u8 3, .int .u8 3, .int .u8 3, .int .u8 3, .int .u8 3]
  have hC0 : Below w5.heap.size w5 (w5.alloc (.cells #[.int .u8 3, .int .u8 3, .int .u8 3, .int .u8 3, .int .u8 3, .int .u8 3, .int .u8 3, .int .u8 3] 5)) := (Below.refl _ w5).alloc (Nat.le_refl _) _
  generalize (w5.alloc (.cells #[.int .u8 3, .int .u8 3, .int .u8 3, .int .u8 3, .int .u8 3, .int .u8 3, .int .u8 3, .int .u8 3] 5)) = W5 at *
  have hb6 := hb5.trans (hC0.mono hb5.size)
  have HO := Lib.hid (owns_keep HO.out hC0 (Nat.le_refl _))
  clear hb5 hC0
  refine (Try.wkOf8 _ _ _ c0).mono ?_
  rintro e w6 ⟨rfl, rfl⟩
  go_wp2_with fail
  refine (Try.wkErase2 _).mono ?_
  rintro e w7 ⟨rfl, hB7⟩
  have hb7 := hb6.trans (hB7.mono hb6.size)
  have HO := Lib.hid (owns_keep HO.out hB7 (Nat.le_refl _))
  clear hb6 hB7 c0
  go_wp2_with fail
  refine (Try.wkFill9 _).mono ?_
  rintro e w8 ⟨rfl, hB8⟩
  have hb8 := hb7.trans (hB8.mono hb7.size)
  have HO := Lib.hid (owns_keep HO.out hB8 (Nat.le_refl _))
  clear hb7 hB8
  go_wp2_with fail
  have hC8 : Below w8.heap.size w8 (w8.alloc (.cells #[.int .i64 0, .int .i64 1, .int .i64 2] 3)) := (Below.refl _ w8).alloc (Nat.le_refl _) _
  have hO2 : Hid ((w8.alloc (.cells #[.int .i64 0, .int .i64 1, .int .i64 2] 3)).ownsRow w8.heap.size 3 1 (.slice (some ⟨w8.heap.size, 0, none⟩) 3 3) 3 (nvals [0, 1, 2])) := Lib.hid ⟨rfl, .inr ⟨_, 3, _, rfl, Nat.le_refl _, Rows8.new w8 3 #[.int .i64 0, .int .i64 1, .int .i64 2], Nat.le_refl _, by decide, rfl, rfl⟩⟩
  have hb9 := hb8.trans (hC8.mono hb8.size)
  have HO := Lib.hid (owns_keep HO.out hC8 (Nat.le_refl _))
  clear hb8 hC8
  generalize (w8.alloc (.cells #[.int .i64 0, .int .i64 1, .int .i64 2] 3)) = W8 at *
  refine (Try.equalL_any [0, 1, 2] (by decide) _ _ _ _ W8 HO.out hO2.out).mono ?_
  rintro e w10 ⟨rfl, hB10⟩
  have hb10 := hb9.trans (hB10.mono hb9.size)
  clear hb9 hB10 HO hO2
  go_wp2_with fail
  refine (Try.wkStops _).mono ?_
  rintro e w11 ⟨rfl, hB11⟩
  have hb11 := hb10.trans (hB11.mono hb10.size)
  clear hb10 hB11
  go_wp2_with fail
  refine (Try.At_any 217021596551021315 4 (by decide) (by decide) _).mono ?_
  rintro e w12 ⟨rfl, rfl⟩
  have ea : byt 217021596551021315 4 = 254 := by decide +kernel
  rw [ea]
  clear ea
  go_wp2_with fail
  refine (Try.wkCheck _).mono ?_
  rintro e w13 ⟨rfl, hB13⟩
  have hb13 := hb11.trans (hB13.mono hb11.size)
  clear hb11 hB13
  go_wp2_with fail
  go_ret
  exact ⟨rfl, hb13⟩
end Go.Proofs
