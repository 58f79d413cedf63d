/- Ctrl: the layer does what it is asked. -/
import Derived.Test.YtacphakpmmickaaGreatZJh
import Derived.Test.YtacphakpmmickaaGreatZI
namespace Go.Proofs
set_option maxRecDepth 100000
set_option maxRecDepth 100000
open Go.RowKit Go.Shelf
attribute [local go_sem] Oper.semAt_some

theorem Tryz.wkNew (w : World) : Calls Tryz.prog 29 #[] w fun e w' => e = .returned (.int .u64 9259542123273814144) ∧ Below w.heap.size w w' := by
  have h := Tryz.New_any w
  have e : (ofB fun _ => 128) = 9259542123273814144 := by decide +kernel
  rw [e] at h
  exact h
theorem Tryz.wkMatch (w : World) : Calls Tryz.prog 31 #[.int .u64 9259542123265722629, .int .u8 5] w fun e w' => e = .returned (.tuple #[.int .u8 5, .int .i64 0]) ∧ Below w.heap.size w w' := by
  have h := Tryz.Match_any 9259542123265722629 5 w
  have e1 : matchM 9259542123265722629 5 = 5 := by decide +kernel
  have e2 : matchE 9259542123265722629 5 = 0 := by decide +kernel
  rw [e1, e2] at h
  exact h
theorem Tryz.wkErase (w : World) : Calls Tryz.prog 45 #[.int .u64 9259542123265722629, .int .i64 1] w fun e w' => e = .returned (.tuple #[.int .u64 9259542123265753093, .int .i64 0]) ∧ Below w.heap.size w w' := by
  have h := Tryz.cErase_any 9259542123265722629 1 (by decide) w
  have e1 : resY 9259542123265722629 (eraseE 9259542123265722629 1) (eraseS 9259542123265722629 1) = 9259542123265753093 := by decide +kernel
  have e2 : resE 9259542123265722629 (eraseE 9259542123265722629 1) = 0 := by decide +kernel
  rw [e1, e2] at h
  exact h
theorem Tryz.wkSets (w : World) : Calls Tryz.prog 35 #[.int .u64 9259542123265753093] w fun e w' => e = .returned (.tuple #[.int .u8 5, .int .u8 250, .int .u8 0]) ∧ Below w.heap.size w w' := by
  have h := Tryz.Sets_any 9259542123265753093 w
  have e1 : setsE 9259542123265753093 0 = 5 := by decide +kernel
  have e2 : setsE 9259542123265753093 1 = 250 := by decide +kernel
  have e3 : setsE 9259542123265753093 2 = 0 := by decide +kernel
  rw [e1, e2, e3] at h
  exact h
theorem Tryz.wkErase2 (w : World) : Calls Tryz.prog 45 #[.int .u64 217020518514230019, .int .i64 4] w fun e w' => e = .returned (.tuple #[.int .u64 217021596551021315, .int .i64 0]) ∧ Below w.heap.size w w' := by
  have h := Tryz.cErase_any 217020518514230019 4 (by decide) w
  have e1 : resY 217020518514230019 (eraseE 217020518514230019 4) (eraseS 217020518514230019 4) = 217021596551021315 := by decide +kernel
  have e2 : resE 217020518514230019 (eraseE 217020518514230019 4) = 0 := by decide +kernel
  rw [e1, e2] at h
  exact h
theorem Tryz.wkFill9 (w : World) : Calls Tryz.prog 51 #[.int .u64 9259542123265722629, .int .i64 0, .int .u8 7] w fun e w' => e = .returned (.tuple #[.int .u64 0, .int .i64 5]) ∧ Below w.heap.size w w' := by
  have h := Tryz.cFill_any 9259542123265722629 0 7 (by decide) (by decide) w
  have e1 : resY 9259542123265722629 (fillE 9259542123265722629 0 7) (fillS 9259542123265722629 0 7) = 0 := by decide +kernel
  have e2 : resE 9259542123265722629 (fillE 9259542123265722629 0 7) = 5 := by decide +kernel
  rw [e1, e2] at h
  exact h
theorem Tryz.wkCheck (w : World) : Calls Tryz.prog 54 #[.int .u64 255] w fun e w' => e = .returned (.int .i64 190) ∧ Below w.heap.size w w' := by
  have h := Tryz.Check_any 255 w
  have e1 : rightC 255 = false := by decide +kernel
  rw [e1] at h
  exact h
theorem Tryz.wkOf8 (w : World) (b : Nat) (t : TypeId) (hb : Rows8 w b t #[.int .u8 3, .int .u8 3, .int .u8 3, .int .u8 3, .int .u8 3, .int .u8 3, .int .u8 3, .int .u8 3]) :
    Calls Tryz.prog 52 #[.slice (some ⟨b, 0, none⟩) 8 8] w fun e w' => e = .returned (.int .u64 217020518514230019) ∧ w = w' := by
  have h := Tryz.refOf_any (some ⟨b, 0, none⟩) 8 8 [3, 3, 3, 3, 3, 3, 3, 3] (fun n => by
    rcases Nat.lt_or_ge n 8 with h | h
    · match n, h with
      | 0, _ => decide
      | 1, _ => decide
      | 2, _ => decide
      | 3, _ => decide
      | 4, _ => decide
      | 5, _ => decide
      | 6, _ => decide
      | 7, _ => decide
    · rw [List.getElem?_eq_none (by simpa using h)]; decide) rfl (by decide) w (.inr ⟨b, 0, 8, rfl, hb.lt, fun j hj => by
    match j, hj with
    | 0, _ => exact hb.cell 0
    | 1, _ => exact hb.cell 1
    | 2, _ => exact hb.cell 2
    | 3, _ => exact hb.cell 3
    | 4, _ => exact hb.cell 4
    | 5, _ => exact hb.cell 5
    | 6, _ => exact hb.cell 6
    | 7, _ => exact hb.cell 7⟩)
  have e : (ofB fun (n : Nat) => ([3, 3, 3, 3, 3, 3, 3, 3] : List Nat)[n]?.getD 0) = 217020518514230019 := by decide +kernel
  rw [e] at h
  exact h
end Go.Proofs

/- Ctrl: maths of masks, of words that are filled and erased. -/
namespace Go.Proofs
set_option maxRecDepth 100000
open Go.RowKit Go.Shelf

theorem setK_bit (x t : Nat) (k : Fin 8) : (setK x t).testBit k = (kd (byt x k) == t) := testBit_maskB _ k
theorem bit255 (k j : Fin 8) : (255 - 2 ^ (k : Nat)).testBit j = !(decide (j = k)) := by revert k j; decide
theorem bitPow (k j : Fin 8) : (2 ^ (k : Nat)).testBit j = decide (j = k) := by revert k j; decide
theorem bit_255 (j : Fin 8) : (255 : Nat).testBit j = true := by revert j; decide
theorem kd_128 : kd 128 = 1 := rfl
theorem kd_254 : kd 254 = 2 := rfl
theorem or_lt8 {a b : Nat} (ha : a < 256) (hb : b < 256) : a ||| b < 256 := Nat.or_lt_two_pow (n := 8) ha hb
theorem and_lt8 {a : Nat} (b : Nat) (ha : a < 256) : a &&& b < 256 := Nat.lt_of_le_of_lt Nat.and_le_left ha
theorem setK_zero {x t : Nat} : (setK x t == 0) = true ↔ ∀ k : Fin 8, kd (byt x k) ≠ t := by
  rw [beq_iff_eq]
  constructor
  · intro h k e
    have h1 := setK_bit x t k
    rw [h, e] at h1
    simp at h1
  · intro h
    refine mask_ext (setK_lt x t) (by decide) fun k => ?_
    rw [setK_bit]
    have := h k
    simp [this]
theorem rightC_iff {x : Nat} : rightC x = true ↔ ∀ k : Fin 8, kd (byt x k) ≠ 3 := setK_zero
theorem stopsC_iff {x : Nat} : stopsC x = true ↔ ∃ k : Fin 8, kd (byt x k) = 1 := by
  unfold stopsC
  constructor
  · intro h
    rcases Classical.em (∃ k : Fin 8, kd (byt x k) = 1) with h1 | h1
    · exact h1
    · rw [setK_zero.2 fun k e => h1 ⟨k, e⟩] at h
      cases h
  · rintro ⟨k, hk⟩
    cases hz : (setK x 1 == 0)
    · rfl
    · exact absurd hk (setK_zero.1 hz k)
theorem stopsC_not {x : Nat} : stopsC x = false ↔ ∀ k : Fin 8, kd (byt x k) ≠ 1 := by
  constructor
  · intro h k e
    rw [stopsC_iff.2 ⟨k, e⟩] at h
    cases h
  · intro h
    cases hz : stopsC x
    · rfl
    · obtain ⟨k, e⟩ := stopsC_iff.1 hz
      exact absurd e (h k)
theorem sets_all {x : Nat} (h : rightC x = true) : setK x 0 ||| setK x 1 ||| setK x 2 = 255 := by
  refine mask_ext (or_lt8 (or_lt8 (setK_lt x 0) (setK_lt x 1)) (setK_lt x 2)) (by decide) fun k => ?_
  rw [Nat.testBit_or, Nat.testBit_or, setK_bit, setK_bit, setK_bit, bit_255]
  have h3 := rightC_iff.1 h k
  have h4 := kd_lt (byt x k)
  have : kd (byt x k) = 0 ∨ kd (byt x k) = 1 ∨ kd (byt x k) = 2 := by omega
  rcases this with e | e | e <;> simp [e]
theorem sets_apart (x : Nat) {s t : Nat} (h : s ≠ t) : setK x s &&& setK x t = 0 := by
  refine mask_ext (and_lt8 _ (setK_lt x s)) (by decide) fun k => ?_
  rw [Nat.testBit_and, setK_bit, setK_bit, Nat.zero_testBit]
  by_cases e : kd (byt x k) = s
  · have : kd (byt x k) ≠ t := fun e2 => h (e.symm.trans e2)
    simp [this]
  · simp [e]
theorem right_set {x k b : Nat} (hb : b < 256) (hr : rightC x = true) (h3 : kd b ≠ 3) : rightC (setB x k b) = true := rightC_iff.2 fun j => by
  rw [byt_setB hb]
  split
  · exact h3
  · exact rightC_iff.1 hr j
theorem setK_set {x k b : Nat} (hb : b < 256) (t : Nat) (j : Fin 8) : (setK (setB x k b) t).testBit j = if (j : Nat) = k then kd b == t else kd (byt x j) == t := by
  rw [setK_bit, byt_setB hb]
  split <;> rfl
theorem fill_more {x k h : Nat} (hk : k < 8) (hh : h ≤ 127) : setK (setB x k h) 0 = setK x 0 ||| 2 ^ k := by
  refine mask_ext (setK_lt _ _) (or_lt8 (setK_lt x 0) (pow_lt_256 hk)) fun j => ?_
  rw [Nat.testBit_or, setK_set (by omega), setK_bit, bitPow ⟨k, hk⟩ j]
  by_cases e : (j : Nat) = k
  · have : j = ⟨k, hk⟩ := Fin.ext e
    have hz : kd h = 0 := by simp [kd, hh]
    simp [this, hz]
  · have : ¬ j = ⟨k, hk⟩ := fun e2 => e (by rw [e2])
    simp [e, this]
theorem fill_less {x k h : Nat} (hk : k < 8) (hh : h ≤ 127) : setK (setB x k h) 1 = setK x 1 &&& (255 - 2 ^ k) := by
  refine mask_ext (setK_lt _ _) (and_lt8 _ (setK_lt x 1)) fun j => ?_
  rw [Nat.testBit_and, setK_set (by omega), setK_bit, bit255 ⟨k, hk⟩ j]
  by_cases e : (j : Nat) = k
  · have : j = ⟨k, hk⟩ := Fin.ext e
    have hz : kd h = 0 := by simp [kd, hh]
    simp [this, hz]
  · have : ¬ j = ⟨k, hk⟩ := fun e2 => e (by rw [e2])
    simp [e, this]
def hasB (x h : Nat) : Nat := maskB fun k => byt x k == h
theorem hasB_lt (x h : Nat) : hasB x h < 256 := maskB_lt _
theorem hasB_bit (x h : Nat) (k : Fin 8) : (hasB x h).testBit k = (byt x k == h) := testBit_maskB _ k
theorem fill_has {x k h : Nat} (hk : k < 8) (hh : h ≤ 127) : hasB (setB x k h) h = hasB x h ||| 2 ^ k := by
  refine mask_ext (hasB_lt _ _) (or_lt8 (hasB_lt x h) (pow_lt_256 hk)) fun j => ?_
  rw [Nat.testBit_or, hasB_bit, hasB_bit, byt_setB (by omega), bitPow ⟨k, hk⟩ j]
  by_cases e : (j : Nat) = k
  · have : j = ⟨k, hk⟩ := Fin.ext e
    simp [this]
  · have : ¬ j = ⟨k, hk⟩ := fun e2 => e (by rw [e2])
    simp [e, this]
theorem erase_has {x k h b : Nat} (hh : h ≤ 127) (hb : b < 256) (hb2 : 127 < b) (hk0 : kd (byt x k) ≠ 0) : hasB (setB (setB x k h) k b) h = hasB x h := by
  refine mask_ext (hasB_lt _ _) (hasB_lt _ _) fun j => ?_
  rw [hasB_bit, hasB_bit, byt_setB hb, byt_setB (by omega)]
  by_cases e : (j : Nat) = k
  · rw [if_pos e, e]
    have h1 : byt x k ≠ h := fun e2 => hk0 (by rw [e2]; simp [kd, hh])
    have h2 : b ≠ h := by omega
    rw [beq_eq_false_iff_ne.2 h1, beq_eq_false_iff_ne.2 h2]
  · rw [if_neg e, if_neg e]
theorem erase_right {x : Nat} {k : Nat} (hr : rightC x = true) : rightC (eraseS x k) = true := by
  unfold eraseS
  split
  · exact right_set (by decide) hr (by decide)
  · exact right_set (by decide) hr (by decide)
theorem erase_stops {x k : Nat} (hk : k < 8) (h0 : kd (byt x k) = 0) : stopsC (eraseS x k) = stopsC x := by
  unfold eraseS
  rw [Int.toNat_natCast]
  cases hs : stopsC x
  · rw [if_neg (by decide)]
    refine stopsC_not.2 fun j => ?_
    rw [byt_setB (by decide)]
    split
    · decide
    · exact stopsC_not.1 hs j
  · rw [if_pos rfl]
    refine stopsC_iff.2 ⟨⟨k, hk⟩, ?_⟩
    rw [byt_setB_same (by decide)]
    rfl
theorem eraseE_cases (x : Nat) (lane : Int) : eraseE x lane = 110 ∨ eraseE x lane = 4 ∨ (eraseE x lane = 0 ∧ ∃ k : Nat, k < 8 ∧ lane = k ∧ kd (byt x k) = 0) := by
  unfold eraseE
  by_cases h : lane < 0 ∨ 8 ≤ lane
  · rw [if_pos h]; exact .inl rfl
  · rw [if_neg h]
    by_cases h2 : kd (byt x lane.toNat) = 0
    · rw [if_pos h2]
      exact .inr (.inr ⟨rfl, lane.toNat, by omega, by omega, h2⟩)
    · rw [if_neg h2]; exact .inr (.inl rfl)
theorem fillE_cases (x : Nat) (lane : Int) (h : Nat) : fillE x lane h = 110 ∨ fillE x lane h = 2 ∨ fillE x lane h = 5 ∨ (fillE x lane h = 0 ∧ ∃ k : Nat, k < 8 ∧ lane = k ∧ kd (byt x k) ≠ 0 ∧ h ≤ 127) := by
  unfold fillE
  by_cases h1 : lane < 0 ∨ 8 ≤ lane
  · rw [if_pos h1]; exact .inl rfl
  · rw [if_neg h1]
    by_cases h2 : 127 < h
    · rw [if_pos h2]; exact .inr (.inl rfl)
    · rw [if_neg h2]
      by_cases h3 : kd (byt x lane.toNat) = 0
      · rw [if_pos h3]; exact .inr (.inr (.inl rfl))
      · rw [if_neg h3]
        exact .inr (.inr (.inr ⟨rfl, lane.toNat, by omega, by omega, h3, by omega⟩))
theorem eraseS_lt {x k : Nat} (hx : x < 18446744073709551616) (hk : k < 8) : eraseS x k < 18446744073709551616 := by
  unfold eraseS
  rw [Int.toNat_natCast]
  split
  · exact setB_lt hx hk (by decide)
  · exact setB_lt hx hk (by decide)

/-- Rows of numbers that came in. -/
def RowI (k : IntKind) (W : World) (v : Value) (ws : List Int) : Prop := RowAt W v ws.length 1 (ws.map fun z => .int k z)
theorem RowI.below {k : IntKind} {W W' : World} {v : Value} {ws : List Int} (h : RowI k W v ws) (hB : Below W.heap.size W W') : RowI k W' v ws := RowAt.below h hB
theorem rowI_of {k : IntKind} {w : World} {a : Option Addr} {len cap : Nat} {zs : List Int} (h : IsRow k w a len cap zs) : len = (zs.take len).length ∧ RowI k w (.slice a len cap) (zs.take len) ∧ ∀ n ∈ zs.take len, (Lit.int k n).wf = true := by
  rcases h with ⟨rfl, rfl, rfl, rfl⟩ | ⟨x, rfl, h1, h2, h3, h4, h5⟩
  · exact ⟨rfl, ⟨rfl, none, 0, rfl, Nat.le_refl _, Nat.zero_le _, fun _ => rfl, fun j hj => by simp at hj⟩, fun n hn => by simp at hn⟩
  · have hl : (zs.take len).length = len := by rw [List.length_take]; omega
    refine ⟨hl.symm, ?_, fun n hn => h5 n (List.mem_of_mem_take hn)⟩
    unfold RowI
    rw [hl]
    refine ⟨by rw [List.length_map, hl]; omega, some x, cap, rfl, h1, h2, (fun e => by cases e), fun j hj => ?_⟩
    rw [List.length_map, hl] at hj
    obtain ⟨b, off, rfl, hb, hc⟩ := isRow_at h4 (by omega)
    refine ⟨b, off, rfl, hb, ?_⟩
    rw [hc j (by omega), List.getElem?_map, List.getElem?_take, if_pos hj, List.getElem?_eq_getElem (by omega)]
    rfl
theorem RowI.get {k : IntKind} {W : World} {x : Option Addr} {n cap : Nat} {l : List Int} (h : RowI k W (.slice x n cap) l) (j : Nat) (hj : j < l.length) :
    ∃ b off, x = some ⟨b, off, none⟩ ∧ b < W.heap.size ∧ W.cell? ⟨b, off + j, none⟩ = some (.int k (l[j]?.getD 0)) := by
  obtain ⟨_, a, cap', e, _, _, _, hc⟩ := h
  cases e
  obtain ⟨b, off, e1, e2, e3⟩ := hc j (by simpa using hj)
  refine ⟨b, off, e1, e2, ?_⟩
  rw [e3, List.getElem?_map, List.getElem?_eq_getElem hj]
  rfl
end Go.Proofs

/- Ctrl: the reference's Byte, Right, Full, Set, Stops, Fill, Erase. -/
namespace Go.Proofs
set_option maxRecDepth 100000
set_option maxRecDepth 100000
open Go.RowKit Go.Shelf
attribute [local go_sem] Oper.semAt_some

theorem kd_facts (b : Nat) : (kd b = 0 ↔ b < 128) ∧ (kd b = 1 ↔ b = 128) ∧ (kd b = 2 ↔ b = 254) := by
  unfold kd
  by_cases h1 : b ≤ 127
  · simp [h1]; omega
  · by_cases h2 : b = 128
    · subst h2; decide
    · by_cases h3 : b = 254
      · subst h3; decide
      · simp [h1, h2, h3]; omega
theorem Tryz.refByte_any (b : Nat) (w : World) : Calls Tryz.prog 41 #[.int .u8 b] w fun e w' => e = .returned (.bool (!(kd b == 3))) ∧ w = w' := by
  have hf := kd_facts b
  have h4 := kd_lt b
  by_cases h1 : b ≤ 127
  · have hk : kd b = 0 := hf.1.2 (by omega)
    have h1' : (b : Int) ≤ 127 := by omega
    rw [hk]
    clear hf h4 hk
    go_enter Tryz.func41, Tryz.ntmps41
    go_wp2
    go_ret
    exact ⟨rfl, rfl⟩
  · have h1' : ¬ (b : Int) ≤ 127 := by omega
    by_cases h2 : b = 128
    · subst h2
      clear hf h4
      go_enter Tryz.func41, Tryz.ntmps41
      go_wp2
      go_ret
      exact ⟨rfl, rfl⟩
    · have h2' : ((b : Int) == 128) = false := by simp; omega
      by_cases h3 : b = 254
      · subst h3
        clear hf h4
        go_enter Tryz.func41, Tryz.ntmps41
        go_wp2
        go_ret
        exact ⟨rfl, rfl⟩
      · have h3' : ((b : Int) == 254) = false := by simp; omega
        have hk : kd b = 3 := by
          have a1 : kd b ≠ 0 := fun h => by have := hf.1.1 h; omega
          have a2 : kd b ≠ 1 := fun h => h2 (hf.2.1.1 h)
          have a3 : kd b ≠ 2 := fun h => h3 (hf.2.2.1 h)
          omega
        rw [hk]
        clear hf h4 hk
        go_enter Tryz.func41, Tryz.ntmps41
        go_wp2
        go_ret
        exact ⟨rfl, rfl⟩
set_option maxHeartbeats 2000000 in
theorem Tryz.refRight_any (x : Nat) (hx : x < 18446744073709551616) (w : World) :
    Calls Tryz.prog 20 #[.int .u64 x] w fun e w' => e = .returned (.bool (rightC x)) ∧ Below w.heap.size w w' := by
  have HBy := Lib.hid (Tryz.refBytes_any x hx w)
  clear hx
  go_enter Tryz.func20, Tryz.ntmps20
  go_wp2_with fail
  refine HBy.out.mono ?_
  rintro e w1 ⟨v, rfl, hown, hB⟩
  obtain ⟨g, cap, rfl, hg, hgl, hcell⟩ := owns_at hown (by rw [bytesTo_length]; decide)
  rw [bytesTo_length] at hcell ⊢
  have HC := Lib.hid hcell
  clear hcell hown
  go_wp2_with fail
  go_loopw [4, 8] (fun _ j wr => ∃ k : Nat, k ≤ 8 ∧ j = .int .i64 k ∧ w1 = wr ∧ ∀ i : Fin 8, (i : Nat) < k → kd (byt x i) ≠ 3) (fun _ j _ => 8 - (intOf j).toNat)
  case atStart => exact ⟨0, Nat.zero_le _, rfl, rfl, fun i hi => absurd hi (Nat.not_lt_zero _)⟩
  case round =>
    obtain ⟨k, hk, rfl, rfl, hall⟩ := hrel
    have HALL := Lib.hid hall
    clear hall
    by_cases hlt : k < 8
    · have hcx := HC.out k hlt
      rw [bytesTo_get _ hlt] at hcx
      have HR := Lib.hid fun W => Tryz.refByte_any (byt x k) W
      cases hq : (kd (byt x k) == 3)
      · rw [hq] at HR
        have HQ := Lib.hid hq
        clear hq
        generalize hb : byt x k = b at *
        have HBB := Lib.hid hb
        clear hb
        go_wp2_with (go_at_call 41; refine (HR.out _).mono ?_; rintro e w' ⟨rfl, rfl⟩)
        refine ⟨⟨k + 1, by omega, by go_num, by first | rfl | trivial, fun i hi => ?_⟩, by simp [intOf]; omega⟩
        by_cases hik : (i : Nat) = k
        · rw [hik, HBB.out]
          simpa using HQ.out
        · exact HALL.out i (by omega)
      · rw [hq] at HR
        have hno : rightC x = false := by
          cases h : rightC x
          · rfl
          · have := rightC_iff.1 h ⟨k, hlt⟩
            simp at hq
            exact absurd hq this
        have HNO := Lib.hid hno
        clear hq hno
        generalize byt x k = b at *
        go_wp2_with (go_at_call 41; refine (HR.out _).mono ?_; rintro e w' ⟨rfl, rfl⟩)
        go_ret
        exact ⟨by rw [HNO.out]; rfl, hB⟩
    · obtain rfl : k = 8 := by omega
      have hyes : rightC x = true := rightC_iff.2 fun i => HALL.out i i.2
      have HYES := Lib.hid hyes
      clear hyes
      go_wp2_with fail
      go_ret
      exact ⟨by rw [HYES.out]; rfl, hB⟩
theorem Tryz.refFull_any (x k : Nat) (hx : x < 18446744073709551616) (hk : k ≤ 1000) (w : World) :
    Calls Tryz.prog 23 #[.int .u64 x, .int .i64 k] w fun e w' => e = .returned (.bool (kd (byt x k) == 0)) ∧ w = w' := by
  have HA := Lib.hid (Tryz.At_any x k hx hk w)
  have e : (kd (byt x k) == 0) = decide (((byt x k : Nat) : Int) < 128) := by
    have := (kd_facts (byt x k)).1
    rw [Bool.eq_iff_iff, beq_iff_eq, decide_eq_true_eq, this]
    omega
  rw [e]
  clear e hx hk
  generalize byt x k = b at *
  go_enter Tryz.func23, Tryz.ntmps23
  go_wp2_with (go_at_call 43; refine HA.out.mono ?_; rintro e w' ⟨rfl, rfl⟩)
  go_ret
  exact ⟨rfl, rfl⟩
set_option maxHeartbeats 4000000 in
theorem Tryz.refSet0_any (x : Nat) (hx : x < 18446744073709551616) (w : World) :
    Calls Tryz.prog 70 #[.int .u64 x, .int .i64 0] w fun e w' => e = .returned (.int .u8 (setK x 0 : Nat)) ∧ w = w' := by
  have HAT := Lib.hid fun (k : Nat) (hk : k < 8) (W : World) => Tryz.At_any x k hx (by omega) W
  obtain ⟨g, hg⟩ : ∃ g : Nat → Bool, g = fun n => kd (byt x n) == 0 := ⟨_, rfl⟩
  have hset : setK x 0 = mt g 8 := by rw [mt_8, hg]; rfl
  rw [hset]
  have HG := Lib.hid hg
  clear hx hset hg
  go_enter Tryz.func70, Tryz.ntmps70
  go_wp2_with fail
  go_loopw [5, 6, 7, 8] (fun ov _ _ j wr => ∃ k : Nat, k ≤ 8 ∧ j = .int .i64 k ∧ ov = .int .u8 (mt g k : Nat) ∧ w = wr) (fun _ _ _ j _ => 8 - (intOf j).toNat)
  case atStart => exact ⟨0, Nat.zero_le _, rfl, rfl, rfl⟩
  case round =>
    obtain ⟨k, hk, rfl, rfl, rfl⟩ := hrel
    by_cases hlt : k < 8
    · have HA := Lib.hid (HAT.out k hlt w)
      have hf := kd_facts (byt x k)
      by_cases hq : kd (byt x k) = 0
      · have hg1 : g k = true := by rw [HG.out]; simp [hq]
        have h256 := mt_256 (g := g) hlt hg1
        have hyes := mt_yes (g := g) hg1
        have hW := Tryz.With_any (mt g k) k hlt h256 w
        rw [← hyes] at hW
        have HW := Lib.hid hW
        have hb : byt x k < 128 := hf.1.1 hq
        have hb' : ((byt x k : Nat) : Int) < 128 := by omega
        have hki : (k : Int) < 8 := by omega
        clear hW hyes h256 hg1 hq hf hb
        generalize byt x k = b at *
        go_wp2_with (first
          | (go_at_call 43; refine HA.out.mono ?_; rintro e w' ⟨rfl, rfl⟩)
          | (go_at_call 91; refine HW.out.mono ?_; rintro e w' ⟨rfl, rfl⟩))
        exact ⟨⟨k + 1, by omega, by go_num, rfl, by first | rfl | trivial⟩, by simp [intOf]; omega⟩
      · have hg1 : g k = false := by rw [HG.out]; simp [hq]
        have hno := mt_no (g := g) (k := k) hg1
        have HNO := Lib.hid hno
        have hb : ¬ byt x k < 128 := fun h => hq (hf.1.2 h)
        have hb' : ¬ ((byt x k : Nat) : Int) < 128 := by omega
        have hki : (k : Int) < 8 := by omega
        clear hno hg1 hq hf hb
        generalize byt x k = b at *
        go_wp2_with (go_at_call 43; refine HA.out.mono ?_; rintro e w' ⟨rfl, rfl⟩)
        exact ⟨⟨k + 1, by omega, by go_num, by rw [HNO.out], by first | rfl | trivial⟩, by simp [intOf]; omega⟩
    · obtain rfl : k = 8 := by omega
      go_wp2_with fail
      go_ret
      exact ⟨rfl, rfl⟩
set_option maxHeartbeats 4000000 in
theorem Tryz.refSet1_any (x : Nat) (hx : x < 18446744073709551616) (w : World) :
    Calls Tryz.prog 70 #[.int .u64 x, .int .i64 1] w fun e w' => e = .returned (.int .u8 (setK x 1 : Nat)) ∧ w = w' := by
  have HAT := Lib.hid fun (k : Nat) (hk : k < 8) (W : World) => Tryz.At_any x k hx (by omega) W
  obtain ⟨g, hg⟩ : ∃ g : Nat → Bool, g = fun n => kd (byt x n) == 1 := ⟨_, rfl⟩
  have hset : setK x 1 = mt g 8 := by rw [mt_8, hg]; rfl
  rw [hset]
  have HG := Lib.hid hg
  clear hx hset hg
  go_enter Tryz.func70, Tryz.ntmps70
  go_wp2_with fail
  go_loopw [5, 6, 7, 8] (fun ov _ _ j wr => ∃ k : Nat, k ≤ 8 ∧ j = .int .i64 k ∧ ov = .int .u8 (mt g k : Nat) ∧ w = wr) (fun _ _ _ j _ => 8 - (intOf j).toNat)
  case atStart => exact ⟨0, Nat.zero_le _, rfl, rfl, rfl⟩
  case round =>
    obtain ⟨k, hk, rfl, rfl, rfl⟩ := hrel
    by_cases hlt : k < 8
    · have HA := Lib.hid (HAT.out k hlt w)
      have hf := kd_facts (byt x k)
      by_cases hq : kd (byt x k) = 1
      · have hg1 : g k = true := by rw [HG.out]; simp [hq]
        have h256 := mt_256 (g := g) hlt hg1
        have hyes := mt_yes (g := g) hg1
        have hW := Tryz.With_any (mt g k) k hlt h256 w
        rw [← hyes] at hW
        have HW := Lib.hid hW
        have hb : byt x k = 128 := hf.2.1.1 hq
        have hb' : (((byt x k : Nat) : Int) == 128) = true := by rw [hb]; rfl
        have hki : (k : Int) < 8 := by omega
        clear hW hyes h256 hg1 hq hf hb
        generalize byt x k = b at *
        go_wp2_with (first
          | (go_at_call 43; refine HA.out.mono ?_; rintro e w' ⟨rfl, rfl⟩)
          | (go_at_call 91; refine HW.out.mono ?_; rintro e w' ⟨rfl, rfl⟩))
        exact ⟨⟨k + 1, by omega, by go_num, rfl, by first | rfl | trivial⟩, by simp [intOf]; omega⟩
      · have hg1 : g k = false := by rw [HG.out]; simp [hq]
        have hno := mt_no (g := g) (k := k) hg1
        have HNO := Lib.hid hno
        have hb : ¬ byt x k = 128 := fun h => hq (hf.2.1.2 h)
        have hb' : (((byt x k : Nat) : Int) == 128) = false := by simp; omega
        have hki : (k : Int) < 8 := by omega
        clear hno hg1 hq hf hb
        generalize byt x k = b at *
        go_wp2_with (go_at_call 43; refine HA.out.mono ?_; rintro e w' ⟨rfl, rfl⟩)
        exact ⟨⟨k + 1, by omega, by go_num, by rw [HNO.out], by first | rfl | trivial⟩, by simp [intOf]; omega⟩
    · obtain rfl : k = 8 := by omega
      go_wp2_with fail
      go_ret
      exact ⟨rfl, rfl⟩
set_option maxHeartbeats 4000000 in
theorem Tryz.refSet2_any (x : Nat) (hx : x < 18446744073709551616) (w : World) :
    Calls Tryz.prog 70 #[.int .u64 x, .int .i64 2] w fun e w' => e = .returned (.int .u8 (setK x 2 : Nat)) ∧ w = w' := by
  have HAT := Lib.hid fun (k : Nat) (hk : k < 8) (W : World) => Tryz.At_any x k hx (by omega) W
  obtain ⟨g, hg⟩ : ∃ g : Nat → Bool, g = fun n => kd (byt x n) == 2 := ⟨_, rfl⟩
  have hset : setK x 2 = mt g 8 := by rw [mt_8, hg]; rfl
  rw [hset]
  have HG := Lib.hid hg
  clear hx hset hg
  go_enter Tryz.func70, Tryz.ntmps70
  go_wp2_with fail
  go_loopw [5, 6, 7, 8] (fun ov _ _ j wr => ∃ k : Nat, k ≤ 8 ∧ j = .int .i64 k ∧ ov = .int .u8 (mt g k : Nat) ∧ w = wr) (fun _ _ _ j _ => 8 - (intOf j).toNat)
  case atStart => exact ⟨0, Nat.zero_le _, rfl, rfl, rfl⟩
  case round =>
    obtain ⟨k, hk, rfl, rfl, rfl⟩ := hrel
    by_cases hlt : k < 8
    · have HA := Lib.hid (HAT.out k hlt w)
      have hf := kd_facts (byt x k)
      by_cases hq : kd (byt x k) = 2
      · have hg1 : g k = true := by rw [HG.out]; simp [hq]
        have h256 := mt_256 (g := g) hlt hg1
        have hyes := mt_yes (g := g) hg1
        have hW := Tryz.With_any (mt g k) k hlt h256 w
        rw [← hyes] at hW
        have HW := Lib.hid hW
        have hb : byt x k = 254 := hf.2.2.1 hq
        have hb' : (((byt x k : Nat) : Int) == 254) = true := by rw [hb]; rfl
        have hki : (k : Int) < 8 := by omega
        clear hW hyes h256 hg1 hq hf hb
        generalize byt x k = b at *
        go_wp2_with (first
          | (go_at_call 43; refine HA.out.mono ?_; rintro e w' ⟨rfl, rfl⟩)
          | (go_at_call 91; refine HW.out.mono ?_; rintro e w' ⟨rfl, rfl⟩))
        exact ⟨⟨k + 1, by omega, by go_num, rfl, by first | rfl | trivial⟩, by simp [intOf]; omega⟩
      · have hg1 : g k = false := by rw [HG.out]; simp [hq]
        have hno := mt_no (g := g) (k := k) hg1
        have HNO := Lib.hid hno
        have hb : ¬ byt x k = 254 := fun h => hq (hf.2.2.2 h)
        have hb' : (((byt x k : Nat) : Int) == 254) = false := by simp; omega
        have hki : (k : Int) < 8 := by omega
        clear hno hg1 hq hf hb
        generalize byt x k = b at *
        go_wp2_with (go_at_call 43; refine HA.out.mono ?_; rintro e w' ⟨rfl, rfl⟩)
        exact ⟨⟨k + 1, by omega, by go_num, by rw [HNO.out], by first | rfl | trivial⟩, by simp [intOf]; omega⟩
    · obtain rfl : k = 8 := by omega
      go_wp2_with fail
      go_ret
      exact ⟨rfl, rfl⟩
theorem Tryz.refStops_any (x : Nat) (hx : x < 18446744073709551616) (w : World) :
    Calls Tryz.prog 47 #[.int .u64 x] w fun e w' => e = .returned (.bool (stopsC x)) ∧ w = w' := by
  have HA := Lib.hid (Tryz.refSet1_any x hx w)
  have e : stopsC x = decide (0 < setK x 1) := by
    unfold stopsC
    rw [Bool.eq_iff_iff, decide_eq_true_eq]
    simp
    omega
  rw [e]
  clear e hx
  generalize setK x 1 = b at *
  go_enter Tryz.func47, Tryz.ntmps47
  go_wp2_with (go_at_call 70; refine HA.out.mono ?_; rintro e w' ⟨rfl, rfl⟩)
  go_ret
  exact ⟨rfl, rfl⟩
def fillW (x : Nat) (lane : Int) (h : Nat) : Nat := if fillE x lane h = 0 then fillS x lane h else 0
def eraseW (x : Nat) (lane : Int) : Nat := if eraseE x lane = 0 then eraseS x lane else 0
theorem bad_iff (lane : Int) : bad lane ↔ (lane < 0 ∨ 8 ≤ lane) := Iff.rfl
set_option maxHeartbeats 2000000 in
theorem Tryz.refErase_any (x : Nat) (lane : Int) (hx : x < 18446744073709551616) (w : World) :
    Calls Tryz.prog 26 #[.int .u64 x, .int .i64 lane] w fun e w' => e = .returned (.tuple #[.int .u64 (eraseW x lane : Nat), .int .i64 (eraseE x lane)]) ∧ Below w.heap.size w w' := by
  have HI := Lib.hid fun W => Tryz.Is_any lane W
  unfold eraseW
  by_cases hb : bad lane
  · have e1 : eraseE x lane = 110 := by unfold eraseE; rw [if_pos (show lane < 0 ∨ 8 ≤ lane from hb)]
    rw [decide_eq_false (fun h' => h' hb)] at HI
    rw [e1, if_neg (by decide)]
    clear hb e1 hx
    go_enter Tryz.func26, Tryz.ntmps26
    go_wp2_with (go_at_call 7; refine (HI.out _).mono ?_; rintro e w' ⟨rfl, rfl⟩)
    go_ret2
    exact ⟨rfl, Below.refl _ _⟩
  · rw [decide_eq_true hb] at HI
    obtain ⟨k, rfl⟩ : ∃ k : Nat, lane = (k : Int) := ⟨lane.toNat, by unfold bad at hb; omega⟩
    have hk : k < 8 := by unfold bad at hb; omega
    have e0 : eraseE x k = if kd (byt x k) = 0 then 0 else 4 := by
      unfold eraseE
      rw [if_neg (show ¬ ((k : Int) < 0 ∨ 8 ≤ (k : Int)) from hb), Int.toNat_natCast]
    have HF := Lib.hid fun W => Tryz.refFull_any x k hx (by omega) W
    have HS := Lib.hid fun W => Tryz.refStops_any x hx W
    by_cases h2 : kd (byt x k) = 0
    · rw [e0, if_pos h2, if_pos rfl]
      rw [h2] at HF
      unfold eraseS
      rw [Int.toNat_natCast]
      cases hs : stopsC x
      · rw [hs] at HS
        have HP := Lib.hid fun W => Tryz.refPut_any x 254 k hx (by decide) hk W
        rw [if_neg (by decide)]
        clear hb e0 hx hk h2 hs
        generalize setB x k 254 = y at *
        go_enter Tryz.func26, Tryz.ntmps26
        go_wp2_with (first
          | (go_at_call 7; refine (HI.out _).mono ?_; rintro e w' ⟨rfl, rfl⟩)
          | (go_at_call 23; refine (HF.out _).mono ?_; rintro e w' ⟨rfl, rfl⟩)
          | (go_at_call 47; refine (HS.out _).mono ?_; rintro e w' ⟨rfl, rfl⟩)
          | (go_at_call 28; refine (HP.out _).mono ?_; rintro e w1 ⟨rfl, hB⟩))
        go_ret2
        exact ⟨rfl, hB⟩
      · rw [hs] at HS
        have HP := Lib.hid fun W => Tryz.refPut_any x 128 k hx (by decide) hk W
        rw [if_pos rfl]
        clear hb e0 hx hk h2 hs
        generalize setB x k 128 = y at *
        go_enter Tryz.func26, Tryz.ntmps26
        go_wp2_with (first
          | (go_at_call 7; refine (HI.out _).mono ?_; rintro e w' ⟨rfl, rfl⟩)
          | (go_at_call 23; refine (HF.out _).mono ?_; rintro e w' ⟨rfl, rfl⟩)
          | (go_at_call 47; refine (HS.out _).mono ?_; rintro e w' ⟨rfl, rfl⟩)
          | (go_at_call 28; refine (HP.out _).mono ?_; rintro e w1 ⟨rfl, hB⟩))
        go_ret2
        exact ⟨rfl, hB⟩
    · rw [e0, if_neg h2, if_neg (by decide)]
      rw [beq_eq_false_iff_ne.2 h2] at HF
      clear hb e0 hx hk h2
      go_enter Tryz.func26, Tryz.ntmps26
      go_wp2_with (first
        | (go_at_call 7; refine (HI.out _).mono ?_; rintro e w' ⟨rfl, rfl⟩)
        | (go_at_call 23; refine (HF.out _).mono ?_; rintro e w' ⟨rfl, rfl⟩))
      go_ret2
      exact ⟨rfl, Below.refl _ _⟩
end Go.Proofs

/- Groups, as plain mathematics. -/
namespace Go.Proofs
set_option maxRecDepth 100000
open Go.RowKit Go.Shelf

/-- A group: its control word, its keys, its values. -/
structure Gr where
  c : Nat
  k : Nat → Nat
  v : Nat → Nat
/-- A slot: its key, its value, its H2. -/
structure Sl where
  key : Nat
  val : Nat
  h2 : Nat
  deriving DecidableEq
/-- Its cells, and the value. -/
def gc (g : Gr) : Array Value := #[.int .u64 (g.c : Nat), .int .u64 (g.k 0 : Nat), .int .u64 (g.k 1 : Nat), .int .u64 (g.k 2 : Nat), .int .u64 (g.k 3 : Nat), .int .u64 (g.k 4 : Nat), .int .u64 (g.k 5 : Nat), .int .u64 (g.k 6 : Nat), .int .u64 (g.k 7 : Nat),
  .int .u64 (g.v 0 : Nat), .int .u64 (g.v 1 : Nat), .int .u64 (g.v 2 : Nat), .int .u64 (g.v 3 : Nat), .int .u64 (g.v 4 : Nat), .int .u64 (g.v 5 : Nat), .int .u64 (g.v 6 : Nat), .int .u64 (g.v 7 : Nat)]
theorem gc_size (g : Gr) : (gc g).size = 17 := rfl
theorem gc_0 (g : Gr) : (gc g)[0]? = some (.int .u64 (g.c : Nat)) := rfl
theorem gc_k (g : Gr) : ∀ n, n < 8 → (gc g)[1 + n]? = some (.int .u64 (g.k n : Nat))
  | 0, _ => rfl | 1, _ => rfl | 2, _ => rfl | 3, _ => rfl | 4, _ => rfl | 5, _ => rfl | 6, _ => rfl | 7, _ => rfl
  | n + 8, h => absurd h (by omega)
theorem gc_v (g : Gr) : ∀ n, n < 8 → (gc g)[9 + n]? = some (.int .u64 (g.v n : Nat))
  | 0, _ => rfl | 1, _ => rfl | 2, _ => rfl | 3, _ => rfl | 4, _ => rfl | 5, _ => rfl | 6, _ => rfl | 7, _ => rfl
  | n + 8, h => absurd h (by omega)
theorem gc_one (g : Gr) : (gc g).all (·.oneCell') = true := by simp [gc, Value.oneCell']
def sc (s : Sl) : Array Value := #[.int .u64 (s.key : Nat), .int .u64 (s.val : Nat), .int .u8 (s.h2 : Nat)]
def zG : Gr := ⟨0, fun _ => 0, fun _ => 0⟩
def upd (f : Nat → Nat) (n x : Nat) : Nat → Nat := fun i => if i = n then x else f i
theorem upd_same (f : Nat → Nat) (n x : Nat) : upd f n x n = x := if_pos rfl
theorem upd_other (f : Nat → Nat) {n x i : Nat} (h : i ≠ n) : upd f n x i = f i := if_neg h

/-- The full lanes. -/
def fm (g : Gr) : Nat := maskB fun n => decide (byt g.c n < 128)
def fl (g : Gr) : List (Fin 8) := lanesOf (fm g)
def slotG (g : Gr) (n : Nat) : Sl := ⟨g.k n, g.v n, byt g.c n⟩
def apartB (g : Gr) : Bool := decide ((fl g).Pairwise fun (y x : Fin 8) => g.k y ≠ g.k x)
def rightG (g : Gr) : Bool := rightC g.c && apartB g
theorem fm_lt (g : Gr) : fm g < 256 := maskB_lt _
theorem mem_fl (g : Gr) (n : Fin 8) : n ∈ fl g ↔ byt g.c n < 128 := by
  unfold fl
  rw [mem_lanesOf]
  unfold fm
  rw [testBit_maskB]
  simp
/-- The first of these of which it holds, and how many were asked. -/
def firstL (p : Nat → Bool) : List (Fin 8) → Nat → Option (Nat × Nat)
  | [], _ => none
  | y :: l, n => if p y then some ((y : Nat), n + 1) else firstL p l (n + 1)
theorem firstL_none {p : Nat → Bool} : ∀ (l : List (Fin 8)) (n : Nat), (∀ y ∈ l, p y = false) → firstL p l n = none
  | [], _, _ => rfl
  | y :: l, n, h => by rw [firstL, if_neg (by rw [h y (by simp)]; decide)]; exact firstL_none l (n + 1) fun z hz => h z (by simp [hz])
theorem firstL_some {p : Nat → Bool} : ∀ (pre : List (Fin 8)) (y : Fin 8) (l : List (Fin 8)) (n : Nat), (∀ z ∈ pre, p z = false) → p y = true → firstL p (pre ++ y :: l) n = some ((y : Nat), n + pre.length + 1)
  | [], y, l, n, _, h => by rw [List.nil_append, firstL, if_pos h]; simp
  | z :: pre, y, l, n, hp, h => by
    rw [List.cons_append, firstL, if_neg (by rw [hp z (by simp)]; decide), firstL_some pre y l (n + 1) (fun u hu => hp u (by simp [hu])) h]
    simp only [List.length_cons]
    congr 2
    omega
theorem firstL_cases (p : Nat → Bool) : ∀ (l : List (Fin 8)) (n : Nat), (firstL p l n = none ∧ ∀ y ∈ l, p y = false) ∨ ∃ (pre : List (Fin 8)) (y : Fin 8) (post : List (Fin 8)), l = pre ++ y :: post ∧ (∀ z ∈ pre, p z = false) ∧ p y = true ∧ firstL p l n = some ((y : Nat), n + pre.length + 1)
  | [], _ => .inl ⟨rfl, by simp⟩
  | y :: l, n => by
    by_cases h : p y = true
    · exact .inr ⟨[], y, l, rfl, by simp, h, by rw [firstL, if_pos h]; simp⟩
    · rcases firstL_cases p l (n + 1) with ⟨h1, h2⟩ | ⟨pre, z, post, rfl, h2, h3, h4⟩
      · exact .inl ⟨by rw [firstL, if_neg h]; exact h1, by simpa [h] using h2⟩
      · refine .inr ⟨y :: pre, z, post, rfl, by simpa [h] using h2, h3, ?_⟩
        rw [firstL, if_neg h, h4]
        simp only [List.length_cons]
        congr 2
        omega

/-- The lanes that are looked at. -/
def hl (g : Gr) (h : Nat) : List (Fin 8) := lanesOf (maskB fun n => byt g.c n == h)
theorem mem_hl (g : Gr) (h : Nat) (n : Fin 8) : n ∈ hl g h ↔ byt g.c n = h := by
  unfold hl
  rw [mem_lanesOf, testBit_maskB]
  simp
def findO (g : Gr) (key h : Nat) : Option (Nat × Nat) := firstL (fun n => g.k n == key) (hl g h) 0
def findE (g : Gr) (key h : Nat) : Int := if 127 < h then 2 else if (findO g key h).isNone then 4 else 0
def findL (g : Gr) (key h : Nat) : Nat := if 127 < h then 0 else ((findO g key h).getD (0, 0)).1
def findN (g : Gr) (key h : Nat) : Nat := if 127 < h then 0 else ((findO g key h).getD (0, 0)).2

/-- What is free. -/
def frl (g : Gr) : List (Fin 8) := lanesOf (255 - fm g)
def putL (g : Gr) : Nat := match frl g with | [] => 0 | y :: _ => (y : Nat)
def putE (g : Gr) (s : Sl) : Int := if 127 < s.h2 then 2 else if (firstL (fun n => g.k n == s.key) (fl g) 0).isSome then 5 else if frl g = [] then 6 else 0
def putG (g : Gr) (s : Sl) : Gr := ⟨setB g.c (putL g) s.h2, upd g.k (putL g) s.key, upd g.v (putL g) s.val⟩
def setE (g : Gr) (lane : Int) : Int := if lane < 0 ∨ 8 ≤ lane then 110 else if 127 < byt g.c lane.toNat then 4 else 0
def setG (g : Gr) (lane : Int) (x : Nat) : Gr := ⟨g.c, g.k, upd g.v lane.toNat x⟩
def dropG (g : Gr) (key h : Nat) : Gr := ⟨eraseS g.c (findL g key h : Nat), g.k, g.v⟩
def liveG (g : Gr) : List Sl := (fl g).map fun (n : Fin 8) => slotG g n
/-- What comes of a change. -/
def ansG (g : Gr) (E : Int) (g' : Gr) : Gr := if rightG g ∧ E = 0 then g' else zG
def ansL (g : Gr) (E : Int) (l : Nat) : Nat := if rightG g ∧ E = 0 then l else 0
def ansE (g : Gr) (E : Int) : Int := if rightG g then E else 200
/-- Puts of slots, one behind the other. -/
def putsE : Gr → List Sl → Int
  | _, [] => 0
  | g, s :: l => if putE g s = 0 then putsE (putG g s) l else putE g s
def putsG : Gr → List Sl → Gr
  | g, [] => g
  | g, s :: l => putsG (putG g s) l
end Go.Proofs
