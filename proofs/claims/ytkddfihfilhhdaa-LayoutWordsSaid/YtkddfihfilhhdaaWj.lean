/- Layout: tables: their cells and words. -/
import Derived.Test.YtkddfihfilhhdaaWi
import Derived.Laws.MakeOwn
namespace Go.Proofs
set_option maxRecDepth 100000
open Go.RowKit Go.Shelf
attribute [local go_sem] Oper.semAt_some

/-- A table: Count, Depth, Prefix, Can, Live, and the words of its arrays, in order. -/
structure Tb where
  c : Int
  d : Int
  p : Nat
  can : Int
  live : Int
  ws : List Int
def tcL (t : Tb) : List Value := .int .u64 t.c :: .int .i64 t.d :: .int .u64 (t.p : Nat) :: .int .i64 t.can :: .int .i64 t.live :: wordVals t.ws
def tc (t : Tb) : Array Value := (tcL t).toArray
theorem tc_0 (t : Tb) : (tc t)[0]? = some (.int .u64 t.c) := rfl
theorem tc_1 (t : Tb) : (tc t)[1]? = some (.int .i64 t.d) := rfl
theorem tc_2 (t : Tb) : (tc t)[2]? = some (.int .u64 (t.p : Nat)) := rfl
theorem tc_3 (t : Tb) : (tc t)[3]? = some (.int .i64 t.can) := rfl
theorem tc_4 (t : Tb) : (tc t)[4]? = some (.int .i64 t.live) := rfl
theorem tc_w (t : Tb) (j : Nat) : (tc t)[5 + j]? = (wordVals t.ws)[j]? := by
  have : (tc t)[5 + j]? = (tcL t)[5 + j]? := by simp [tc]
  rw [this, show 5 + j = j + 1 + 1 + 1 + 1 + 1 by omega]
  rfl
theorem tc_size (t : Tb) (h : t.ws.length = 34) : (tc t).size = 39 := by simp [tc, tcL, wordVals, h]
/-- May its words be such? -/
def okT (t : Tb) : Bool := (((decide (0 ≤ t.d) && decide (t.d ≤ 5)) && decide (t.p < 2 ^ t.d.toNat)) && (decide (0 ≤ t.can) && decide (t.can ≤ 14))) && (decide (0 ≤ t.live) && decide (t.live ≤ 14))
/-- Its words. -/
def twords (t : Tb) : List Int := t.c :: (t.d + 256 * t.p) :: t.can :: t.live :: (t.ws ++ [0, 0])
/-- Words that stand in a block, from a place on. -/
theorem words_in {W : World} {B o : Nat} {T : TypeId} {cs : Array Value} (h : Rows8 W B T cs) (l : List Int) (m : Nat) (hm : l.length = m) (h64 : m ≤ 1000) (hc : ∀ j, j < m → cs[o + j]? = (wordVals l)[j]?) : WordsAt W (.slice (some ⟨B, o, none⟩) m m) l := by
  subst hm
  refine ⟨by simp [wordVals_length], _, _, rfl, Nat.le_refl _, by unfold maxLen; omega, (fun e => by cases e), fun j hj => ⟨B, o, rfl, h.lt, ?_⟩⟩
  rw [wordVals_length] at hj
  rw [h.cell, hc j hj]
theorem one_word (W : World) (z : Int) : WordsAt (W.alloc (.cells #[.int .u64 z] 34)) (.slice (some ⟨W.heap.size, 0, none⟩) 1 1) [z] :=
  words_in (Rows8.new _ _ _) [z] 1 rfl (by decide) (fun j hj => by
    obtain rfl : j = 0 := by omega
    rfl)
theorem wordVals_take (l : List Int) (k : Nat) : wordVals (l.take k) = (wordVals l).take k := by simp [wordVals, List.map_take]
theorem wordVals_drop (l : List Int) (k : Nat) : wordVals (l.drop k) = (wordVals l).drop k := by simp [wordVals, List.map_drop]
/-- The words of an array of a table. -/
theorem tab_words {W : World} {B : Nat} {t : Tb} (h : Rows8 W B 49 (tc t)) (hl : t.ws.length = 34) (a m : Nat) (hm : a + m ≤ 34) : WordsAt W (.slice (some ⟨B, 5 + a, none⟩) m m) ((t.ws.drop a).take m) := by
  refine words_in h _ m (by simp [hl]; omega) (by omega) (fun j hj => ?_)
  rw [Nat.add_assoc, tc_w, wordVals_take, List.getElem?_take, if_pos hj, wordVals_drop, List.getElem?_drop]
def zero40 : List Int := List.replicate 40 0
theorem zero40_len : zero40.length = 40 := rfl
theorem zero40_vals : Array.replicate 40 (Value.int .u64 0) = (wordVals zero40).toArray := rfl
/-- What has been put. -/
theorem splice_len (l vs : List Int) (k : Nat) (hl : l.length = 40) (h : k + vs.length ≤ 40) : (splice l k vs).length = 40 := by rw [length_splice _ _ _ (by omega), hl]
theorem twords_put (t : Tb) (hl : t.ws.length = 34) : splice (splice (splice (splice (splice (splice (splice zero40 0 [t.c]) 1 [t.d + 256 * t.p]) 2 [t.can]) 3 [t.live]) 4 ((t.ws.drop 0).take 2)) 6 ((t.ws.drop 2).take 16)) 22 ((t.ws.drop 18).take 16) = twords t := by
  obtain ⟨c, d, p, can, live, ws⟩ := t
  simp only at hl
  obtain _ | ⟨y0, ws⟩ := ws
  · simp at hl
  obtain _ | ⟨y1, ws⟩ := ws
  · simp at hl
  obtain _ | ⟨y2, ws⟩ := ws
  · simp at hl
  obtain _ | ⟨y3, ws⟩ := ws
  · simp at hl
  obtain _ | ⟨y4, ws⟩ := ws
  · simp at hl
  obtain _ | ⟨y5, ws⟩ := ws
  · simp at hl
  obtain _ | ⟨y6, ws⟩ := ws
  · simp at hl
  obtain _ | ⟨y7, ws⟩ := ws
  · simp at hl
  obtain _ | ⟨y8, ws⟩ := ws
  · simp at hl
  obtain _ | ⟨y9, ws⟩ := ws
  · simp at hl
  obtain _ | ⟨y10, ws⟩ := ws
  · simp at hl
  obtain _ | ⟨y11, ws⟩ := ws
  · simp at hl
  obtain _ | ⟨y12, ws⟩ := ws
  · simp at hl
  obtain _ | ⟨y13, ws⟩ := ws
  · simp at hl
  obtain _ | ⟨y14, ws⟩ := ws
  · simp at hl
  obtain _ | ⟨y15, ws⟩ := ws
  · simp at hl
  obtain _ | ⟨y16, ws⟩ := ws
  · simp at hl
  obtain _ | ⟨y17, ws⟩ := ws
  · simp at hl
  obtain _ | ⟨y18, ws⟩ := ws
  · simp at hl
  obtain _ | ⟨y19, ws⟩ := ws
  · simp at hl
  obtain _ | ⟨y20, ws⟩ := ws
  · simp at hl
  obtain _ | ⟨y21, ws⟩ := ws
  · simp at hl
  obtain _ | ⟨y22, ws⟩ := ws
  · simp at hl
  obtain _ | ⟨y23, ws⟩ := ws
  · simp at hl
  obtain _ | ⟨y24, ws⟩ := ws
  · simp at hl
  obtain _ | ⟨y25, ws⟩ := ws
  · simp at hl
  obtain _ | ⟨y26, ws⟩ := ws
  · simp at hl
  obtain _ | ⟨y27, ws⟩ := ws
  · simp at hl
  obtain _ | ⟨y28, ws⟩ := ws
  · simp at hl
  obtain _ | ⟨y29, ws⟩ := ws
  · simp at hl
  obtain _ | ⟨y30, ws⟩ := ws
  · simp at hl
  obtain _ | ⟨y31, ws⟩ := ws
  · simp at hl
  obtain _ | ⟨y32, ws⟩ := ws
  · simp at hl
  obtain _ | ⟨y33, ws⟩ := ws
  · simp at hl
  obtain _ | ⟨_, _⟩ := ws
  rotate_left
  · simp at hl
  rfl
theorem twords_len (t : Tb) (hl : t.ws.length = 34) : (twords t).length = 40 := by simp [twords, hl]
theorem pre_or {d : Int} {p : Nat} (hd : 0 ≤ d ∧ d ≤ 5) (hp : p < 2 ^ d.toNat) : bits .or .u64 d ((p : Int) * 256) = d + 256 * p := by
  obtain ⟨m, rfl⟩ := Int.eq_ofNat_of_zero_le hd.1
  simp only [Int.toNat_natCast] at hp
  have h32 : p < 32 := Nat.lt_of_lt_of_le hp (Nat.pow_le_pow_right (by decide) (by omega : m ≤ 5))
  rw [show ((p : Int) * 256) = ((p * 256 : Nat) : Int) by omega, u64_or_nat _ _ (by omega) (by omega), Nat.or_comm]
  rw [show p * 256 = 2 ^ 8 * p by omega, ← Nat.two_pow_add_eq_or_of_lt (by omega)]
  omega
theorem up_pre {d p : Nat} : decide ((p : Int) ≤ ((2 ^ d - 1 : Nat) : Int)) = decide (p < 2 ^ d) := by
  have : 0 < 2 ^ d := Nat.two_pow_pos d
  exact decide_eq_decide.2 (by omega)
theorem Try.make40 (W : World) : (Instr.makeSlice 24 (.int .i64 40) (.int .i64 40)).run Try.prog W = .ok (.slice (some ⟨W.heap.size, 0, none⟩) 40 40) (W.alloc (.cells (Array.replicate 40 (.int .u64 0)) 34)) := by
  have hI := Try.infoWord
  cases hi : Try.prog.info? 34 with
  | none => rw [hi] at hI; cases hI
  | some i =>
    rw [hi] at hI
    simp only [Option.map_some, Option.some.injEq, Prod.mk.injEq] at hI
    obtain ⟨h0, h1, h2⟩ := hI
    have h := run_makeSlice (P := Try.prog) (w := W) 24 34 i (.int .u64 0) Try.underlying24 hi h0 .i64 .i64 40 40 (by decide) (by decide) (by rw [h1]; decide) (by rw [h2]; decide) (by decide)
    rw [h1] at h
    have e : madeCells (Value.int .u64 0).cells (Int.toNat 40 * 1) = Array.replicate 40 (.int .u64 0) := by kernel_rfl
    rw [e] at h
    exact h
end Go.Proofs
