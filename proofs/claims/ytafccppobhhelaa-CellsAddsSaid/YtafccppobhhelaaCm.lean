/- The layer does something. -/
import Derived.Test.YtafccppobhhelaaCl
namespace Go.Proofs
open Go.RowKit Go.Shelf
attribute [local go_sem] Oper.semAt_some

def accs4 : List Acc := [⟨0, 2, 0, 0, 9⟩, ⟨0, 1, 0, 0, 0⟩, ⟨0, 4, 0, 0, 1⟩, ⟨0, 3, 1, 5, 0⟩]
def marks2 : List Mk := [⟨0, 0, 5, 9⟩, ⟨2, 0, 9, 10⟩]
def seens4 : List (Int × Bool) := [(5, true), (9, true), (9, true), (6, false)]
theorem run4 : runTo [5, 6] accs4 accs4.length = ⟨[10, 6], seens4, marks2⟩ := by kernel_rfl
theorem err4 : errOf 2 accs4 = 0 := by decide +kernel
theorem back4 : backAll [10, 6] marks2.reverse = some [5, 6] := by decide +kernel
theorem last4 : lastOf 0 marks2 = (2, true) := by decide +kernel

/-- What comes first: Run. -/
theorem Try.run4_any (v lv : Value) (w : World) (hI : WordsAt w v [5, 6]) (hL : AccsAt w lv accs4) :
    Calls Try.prog 24 #[v, lv] w fun e w' => ∃ a1 c1 g2 c2 a3 c3, e = .returned (.tuple #[.slice a1 2 c1, .slice (some ⟨g2, 0, none⟩) 4 c2, .slice a3 2 c3, .int .i64 0]) ∧ OwnsWords w.heap.size [10, 6] (.slice a1 2 c1) w' ∧ OwnsSeens w.heap.size seens4 (.slice (some ⟨g2, 0, none⟩) 4 c2) w' ∧ OwnsMarks w.heap.size marks2 (.slice a3 2 c3) w' ∧ Below w.heap.size w w' := by
  refine (Try.Run_any [5, 6] accs4 (by decide) v lv w hI hL).mono ?_
  rintro e w' (⟨h, _⟩ | ⟨_, v1, v2, v3, rfl, h1, h2, h3, hB⟩)
  · exact absurd err4 h
  · rw [run4] at h1 h2 h3
    obtain ⟨_, a1, c1, rfl, _⟩ := rowAt_own h1
    obtain ⟨g2, c2, rfl, _⟩ := World.ownsRow.form h2 (by decide)
    obtain ⟨_, a3, c3, rfl, _⟩ := rowAt_own h3
    exact ⟨a1, c1, g2, c2, a3, c3, rfl, h1, h2, h3, hB⟩
theorem Try.back4_any (n₀ : Nat) (v vm : Value) (w : World) (hI : WordsAt w v [10, 6]) (hM : OwnsMarks n₀ marks2 vm w) :
    Calls Try.prog 29 #[v, vm] w fun e w' => ∃ a c, e = .returned (.tuple #[.slice a 2 c, .int .i64 0]) ∧ OwnsWords w.heap.size [5, 6] (.slice a 2 c) w' ∧ Below w.heap.size w w' := by
  refine (Try.Back_any n₀ [10, 6] v vm marks2 (by decide) w hI hM).mono ?_
  rintro e w' (⟨h, _⟩ | ⟨_, h, _⟩ | ⟨_, ws', v1, h, rfl, h1, hB⟩)
  · exact absurd h (by decide)
  · rw [back4] at h; cases h
  · rw [back4] at h
    injection h with h
    subst h
    obtain ⟨_, a, c, rfl, _⟩ := rowAt_own h1
    exact ⟨a, c, rfl, h1, hB⟩
theorem Try.share4_any (v : Value) (w : World) (hI : WordsAt w v [5]) :
    Calls Try.prog 36 #[v] w fun e w' => ∃ B g cap, e = .returned (.tuple #[.pointer (some ⟨B, 0, none⟩), .int .i64 0]) ∧ Shr w.heap.size [5] B g cap w' ∧ Below w.heap.size w w' := by
  refine (Try.Share_any [5] v w hI).mono ?_
  rintro e w' (⟨h, _⟩ | ⟨_, B, g, cap, rfl, h1, hB⟩)
  · exact absurd h (by decide)
  · exact ⟨B, g, cap, rfl, h1, hB⟩
theorem Try.do4_any (n₀ B g cap : Nat) (w : World) (hn : n₀ ≤ w.heap.size) (hS : Shr n₀ [5] B g cap w) :
    Calls Try.prog 38 #[.pointer (some ⟨B, 0, none⟩), .agg #[.int .i64 0, .int .i64 4, .int .i64 0, .int .u64 0, .int .u64 2]] w fun e w' => e = .returned (.tuple #[.agg #[.int .u64 5, .bool true], .int .i64 0]) ∧ Shr n₀ [7] B g cap w' ∧ Below n₀ w w' := by
  refine (Try.sDo_any n₀ [5] B g cap 0 4 0 0 2 w hn hS).mono ?_
  rintro e w' (⟨h, _⟩ | ⟨_, rfl, h1, hB⟩)
  · exact absurd (by decide) h
  · have e1 : wordsOf [5] 4 0 0 2 = [7] := by decide +kernel
    rw [e1] at h1
    exact ⟨rfl, h1, hB⟩
/-- Two rows, of which it is known that they are the same. -/
theorem Try.equal4_any (a1 a2 : Option Addr) (n c1 c2 : Nat) (xs : List Int) (hx : n = xs.length) (hl : n ≤ 10000) (w : World) (h1 : WordsAt w (.slice a1 n c1) xs) (h2 : WordsAt w (.slice a2 n c2) xs) :
    Calls Try.prog 23 #[.slice a1 n c1, .slice a2 n c2] w fun e w' => e = .returned (.bool true) ∧ Below w.heap.size w w' :=
  (Try.equalWords_any a1 a2 n n c1 c2 xs xs hx hx hl hl w h1 h2).mono fun e w' ⟨he, hB⟩ => ⟨by rw [he]; simp, hB⟩
/-- A row of words that has just been laid. -/
theorem words_lit (W : World) (zs : List Int) (hz : zs.length ≤ 1000) : WordsAt (W.alloc (.cells (wordVals zs).toArray 25)) (.slice (some ⟨W.heap.size, 0, none⟩) zs.length zs.length) zs := by
  have h := World.ownsRow_lit (base := W.heap.size) (e := 25) (size := 1) W (wordVals zs).toArray zs.length (Nat.le_refl _) (by unfold maxLen; omega) (by simp [wordVals_length])
  exact rowAt_own h
theorem accs_lit (W : World) (l : List Acc) (hz : l.length ≤ 1000) : AccsAt (W.alloc (.cells (accVals l).toArray 32)) (.slice (some ⟨W.heap.size, 0, none⟩) l.length l.length) l := by
  have h := World.ownsRow_lit (base := W.heap.size) (e := 32) (size := 5) W (accVals l).toArray l.length (Nat.le_refl _) (by unfold maxLen; omega) (by simp [accVals_length])
  exact rowAt_own h

set_option maxRecDepth 100000 in
set_option maxHeartbeats 8000000 in
theorem Try.wakes_any (w : World) :
    Calls Try.prog 15 #[] w fun e w' => e = .returned (.bool true) ∧ Below w.heap.size w w' := by
  go_enter Try.func15, Try.ntmps15
  go_wp2_with fail
  have q1 : WordsAt (w.alloc (.cells #[.int .u64 5, .int .u64 6] 25)) (.slice (some ⟨w.heap.size, 0, none⟩) 2 2) [5, 6] := words_lit w [5, 6] (by decide)
  have q2 : AccsAt ((w.alloc (.cells #[.int .u64 5, .int .u64 6] 25)).alloc (.cells #[.int .i64 0, .int .i64 2, .int .i64 0, .int .u64 0, .int .u64 9, .int .i64 0, .int .i64 1, .int .i64 0, .int .u64 0, .int .u64 0, .int .i64 0, .int .i64 4, .int .i64 0, .int .u64 0, .int .u64 1, .int .i64 0, .int .i64 3, .int .i64 1, .int .u64 5, .int .u64 0] 32)) (.slice (some ⟨w.heap.size + 1, 0, none⟩) 4 4) accs4 := by
    have h := accs_lit (w.alloc (.cells #[.int .u64 5, .int .u64 6] 25)) accs4 (by decide)
    rw [World.size_alloc] at h
    exact h
  have B0 : Below w.heap.size w ((w.alloc (.cells #[.int .u64 5, .int .u64 6] 25)).alloc (.cells #[.int .i64 0, .int .i64 2, .int .i64 0, .int .u64 0, .int .u64 9, .int .i64 0, .int .i64 1, .int .i64 0, .int .u64 0, .int .u64 0, .int .i64 0, .int .i64 4, .int .i64 0, .int .u64 0, .int .u64 1, .int .i64 0, .int .i64 3, .int .i64 1, .int .u64 5, .int .u64 0] 32)) := ((Below.refl _ w).alloc (Nat.le_refl _) _).alloc (by simp) _
  have q1' := RowAt.below q1 (W' := ((w.alloc (.cells #[.int .u64 5, .int .u64 6] 25)).alloc (.cells #[.int .i64 0, .int .i64 2, .int .i64 0, .int .u64 0, .int .u64 9, .int .i64 0, .int .i64 1, .int .i64 0, .int .u64 0, .int .u64 0, .int .i64 0, .int .i64 4, .int .i64 0, .int .u64 0, .int .u64 1, .int .i64 0, .int .i64 3, .int .i64 1, .int .u64 5, .int .u64 0] 32))) ((Below.refl _ _).alloc (Nat.le_refl _) _)
  generalize ((w.alloc (.cells #[.int .u64 5, .int .u64 6] 25)).alloc (.cells #[.int .i64 0, .int .i64 2, .int .i64 0, .int .u64 0, .int .u64 9, .int .i64 0, .int .i64 1, .int .i64 0, .int .u64 0, .int .u64 0, .int .i64 0, .int .i64 4, .int .i64 0, .int .u64 0, .int .u64 1, .int .i64 0, .int .i64 3, .int .i64 1, .int .u64 5, .int .u64 0] 32)) = wA at *
  refine (Try.run4_any _ _ wA q1' q2).mono ?_
  rintro e w1 ⟨a1, c1, g2, c2, a3, c3, rfl, o1, o2, o3, B1⟩
  have B01 := B0.trans (B1.mono B0.size)
  have O1 := Lib.hid o1
  have O2 := Lib.hid o2
  have O3 := Lib.hid o3
  clear q1 q1' q2 B0 o1 o2 o3 B1
  go_wp2_with fail
  refine (Try.back4_any _ _ _ w1 (rowAt_own O1.out) O3.out).mono ?_
  rintro e w2 ⟨a4, c4, rfl, o4, B2⟩
  have B02 := B01.trans (B2.mono B01.size)
  have P1 := Lib.hid (owns_keep O1.out B2 (Nat.le_refl _))
  have P2 := Lib.hid (owns_keep O2.out B2 (Nat.le_refl _))
  have P3 := Lib.hid (owns_keep O3.out B2 (Nat.le_refl _))
  have P4 := Lib.hid o4
  clear O1 O2 O3 o4 B2 B01
  go_wp2_with fail
  have hla := Try.Last_any _ (.slice a3 2 c3) marks2 (by decide) 0 w2 P3.out
  rw [last4] at hla
  refine hla.mono ?_
  rintro e w3 ⟨rfl, B3⟩
  have B03 := B02.trans (B3.mono B02.size)
  have R1 := Lib.hid (owns_keep P1.out B3 (Nat.le_refl _))
  have R2 := Lib.hid (owns_keep P2.out B3 (Nat.le_refl _))
  have R4 := Lib.hid (owns_keep P4.out B3 (Nat.le_refl _))
  clear P1 P2 P3 P4 B3 B02 hla
  go_wp2_with fail
  have q5 : WordsAt (w3.alloc (.cells #[.int .u64 5] 25)) (.slice (some ⟨w3.heap.size, 0, none⟩) 1 1) [5] := words_lit w3 [5] (by decide)
  have B04 := B03.alloc B03.size (.cells #[.int .u64 5] 25)
  have S1 := Lib.hid (World.ownsRow.alloc R1.out (.cells #[.int .u64 5] 25))
  have S2 := Lib.hid (World.ownsRow.alloc R2.out (.cells #[.int .u64 5] 25))
  have S4 := Lib.hid (World.ownsRow.alloc R4.out (.cells #[.int .u64 5] 25))
  generalize (w3.alloc (.cells #[.int .u64 5] 25)) = w4 at *
  clear R1 R2 R4
  refine (Try.share4_any _ w4 q5).mono ?_
  rintro e w5 ⟨Bs, gs, cs, rfl, hS, B5⟩
  have B05 := B04.trans (B5.mono B04.size)
  have hz5 := B5.size
  have hz4 := B04.size
  have HS := Lib.hid hS
  clear q5 B04 B03 hS
  go_wp2_with fail
  refine (Try.do4_any w4.heap.size Bs gs cs w5 hz5 HS.out).mono ?_
  rintro e w6 ⟨rfl, hS, B6⟩
  have B06 := B05.trans (B6.mono hz4)
  have B46 := B5.trans B6
  have T1 := Lib.hid (owns_keep S1.out B46 (Nat.le_refl _))
  have T2 := Lib.hid (owns_keep S2.out B46 (Nat.le_refl _))
  have T4 := Lib.hid (owns_keep S4.out B46 (Nat.le_refl _))
  have HS6 := Lib.hid hS
  clear S1 S2 S4 B46 B5 B6 hS HS B05
  go_wp2_with fail
  have b7 := Rows8.new w6 27 #[.int .u64 5, .bool true]
  have B07 := B06.alloc B06.size (.cells #[.int .u64 5, .bool true] 27)
  have U1 := Lib.hid (World.ownsRow.alloc T1.out (.cells #[.int .u64 5, .bool true] 27))
  have U2 := Lib.hid (World.ownsRow.alloc T2.out (.cells #[.int .u64 5, .bool true] 27))
  have U4 := Lib.hid (World.ownsRow.alloc T4.out (.cells #[.int .u64 5, .bool true] 27))
  have US := Lib.hid (HS6.out.keep ((Below.refl _ w6).alloc (Nat.le_refl _) (.cells #[.int .u64 5, .bool true] 27)) (Nat.le_refl _))
  have hz7 : (w6.alloc (.cells #[.int .u64 5, .bool true] 27)).heap.size = w6.heap.size + 1 := by simp
  generalize (w6.alloc (.cells #[.int .u64 5, .bool true] 27)) = w7 at *
  have q8 := words_lit w7 [10, 6] (by decide)
  rw [hz7] at q8
  have V1 := RowAt.below (rowAt_own U1.out) ((Below.refl _ w7).alloc (Nat.le_refl _) (.cells #[.int .u64 10, .int .u64 6] 25))
  have B78 : Below w7.heap.size w7 (w7.alloc (.cells #[.int .u64 10, .int .u64 6] 25)) := (Below.refl _ w7).alloc (Nat.le_refl _) _
  refine (Try.equal4_any a1 (some ⟨w6.heap.size + 1, 0, none⟩) 2 c1 2 [10, 6] (by decide) (by decide) _ V1 q8).mono ?_
  rintro e w9 ⟨rfl, B89⟩
  have B79 := B78.trans (B89.mono B78.size)
  have B09 := B07.trans (B79.mono B07.size)
  have b9 := b7.below B79 b7.lt
  have X2 := Lib.hid (owns_keep U2.out B79 (Nat.le_refl _))
  have X4 := Lib.hid (owns_keep U4.out B79 (Nat.le_refl _))
  have XS := Lib.hid (US.out.keep B79 (Nat.le_refl _))
  clear b7 B78 B89 B79 V1 q8 U1 U2 U4 US T1 T2 T4 HS6 B06
  go_wp2_with fail
  have q10 := words_lit w9 [5, 6] (by decide)
  have V4 := RowAt.below (rowAt_own X4.out) ((Below.refl _ w9).alloc (Nat.le_refl _) (.cells #[.int .u64 5, .int .u64 6] 25))
  have B910 : Below w9.heap.size w9 (w9.alloc (.cells #[.int .u64 5, .int .u64 6] 25)) := (Below.refl _ w9).alloc (Nat.le_refl _) _
  refine (Try.equal4_any a4 (some ⟨w9.heap.size, 0, none⟩) 2 c4 2 [5, 6] (by decide) (by decide) _ V4 q10).mono ?_
  rintro e w11 ⟨rfl, B1011⟩
  have B911 := B910.trans (B1011.mono B910.size)
  have B011 := B09.trans (B911.mono B09.size)
  have b11 := b9.below B911 b9.lt
  have hO2 := owns_keep X2.out B911 (Nat.le_refl _)
  have YS := Lib.hid (XS.out.keep B911 (Nat.le_refl _))
  have s2 := World.ownsRow.cellAt hO2 2 (by decide)
  have s3 := World.ownsRow.cellAt hO2 3 (by decide)
  have s7 := World.ownsRow.cellAt hO2 7 (by decide)
  simp [seens4, seenVals, seenCells] at s2 s3 s7
  have x0 := b11.cell 0
  have x1 := b11.cell 1
  simp at x0 x1
  clear b9 B910 B1011 B911 V4 q10 X2 X4 XS hO2 B09 B07 b11
  go_wp2_with fail
  refine (Try.Words_any _ [7] Bs gs cs (by decide) (by decide) w11 YS.out).mono ?_
  rintro e w12 ⟨v12, rfl, hO12, B12⟩
  obtain ⟨_, a5, c5, rfl, _⟩ := rowAt_own hO12
  have B012 := B011.trans (B12.mono B011.size)
  have O12 := Lib.hid hO12
  clear hO12 B12 s2 s3 s7 x0 x1 YS
  go_wp2_with fail
  have q13 := words_lit w12 [7] (by decide)
  have V5 := RowAt.below (rowAt_own O12.out) ((Below.refl _ w12).alloc (Nat.le_refl _) (.cells #[.int .u64 7] 25))
  have B1213 := B012.alloc B012.size (.cells #[.int .u64 7] 25)
  refine (Try.equal4_any a5 (some ⟨w12.heap.size, 0, none⟩) 1 c5 1 [7] (by decide) (by decide) _ V5 q13).mono ?_
  rintro e w14 ⟨rfl, B14⟩
  have B014 := B1213.trans (B14.mono B1213.size)
  clear q13 V5 B1213 B14
  go_wp2_with fail
  go_ret
  exact ⟨rfl, B014⟩
end Go.Proofs
