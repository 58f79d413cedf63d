/- The document's own Turn, Blend and All; slices.Equal of ints. -/
import Derived.Test.YtapmmefkblednaaP
namespace Go.Proofs
open Go.RowKit Go.Shelf
attribute [local go_sem] Oper.semAt_some

theorem tmod8 (i : Int) : -8 < i.tmod 8 ∧ i.tmod 8 < 8 ∧ (i.tmod 8) % 8 = i % 8 := by
  rw [Int.tmod_eq_emod]
  split
  · omega
  · rename_i h
    have : ¬ (8 ∣ i) := fun h' => h (.inr h')
    simp only [Int.natAbs]
    omega
/-- The bytes that f tells of 0 to k - 1. -/
def rowTo (f : Nat → Nat) (k : Nat) : List Nat := (List.range k).map f
theorem rowTo_succ (f : Nat → Nat) (k : Nat) : rowTo f (k + 1) = rowTo f k ++ [f k] := by simp [rowTo, List.range_succ]
theorem rowTo_length (f : Nat → Nat) (k : Nat) : (rowTo f k).length = k := by simp [rowTo]
theorem rowTo_get (f : Nat → Nat) {k n : Nat} (h : k < n) : (rowTo f n)[k]?.getD 0 = f k := by simp [rowTo, h]
theorem rowTo_lt {f : Nat → Nat} (hf : ∀ n, f n < 256) (k n : Nat) : (rowTo f k)[n]?.getD 0 < 256 := by
  by_cases h : n < k
  · rw [rowTo_get f h]; exact hf n
  · rw [List.getElem?_eq_none (by rw [rowTo_length]; omega)]; decide
theorem rowTo_of {f : Nat → Nat} (hf : ∀ n, f n < 256) : (ofB fun (n : Nat) => (rowTo f 8)[n]?.getD 0) = ofB f := by
  refine byt_ext (ofB_lt (rowTo_lt hf 8)) (ofB_lt hf) fun k hk => ?_
  rw [byt_ofB (g := fun (n : Nat) => (rowTo f 8)[n]?.getD 0) (rowTo_lt hf 8) hk, byt_ofB hf hk, rowTo_get f hk]

set_option maxHeartbeats 2000000 in
theorem Try.refTurn_any (x : Nat) (hx : x < 18446744073709551616) (i : Int) (w : World) :
    Calls Try.prog 35 #[.int .u64 x, .int .i64 i] w fun e w' => e = .returned (.int .u64 (ofB fun n => byt x (((n : Int) + i) % 8).toNat)) ∧ Below w.heap.size w w' := by
  obtain ⟨i0, hi, hz0, hz1, hz2⟩ := info_parts Try.infoByte
  obtain ⟨f, hf⟩ : ∃ f : Nat → Nat, f = fun (n : Nat) => byt x (((n : Int) + i) % 8).toNat := ⟨_, rfl⟩
  have hf2 : ∀ n, f n < 256 := fun n => by rw [hf]; exact byt_lt _ _
  have hf3 : ∀ n, f n = byt x (((n : Int) + i) % 8).toNat := fun n => by rw [hf]
  rw [← hf, ← rowTo_of hf2]
  obtain ⟨h1, h2, h3⟩ := tmod8 i
  obtain ⟨r, hr⟩ : ∃ r, i.tmod 8 = r := ⟨_, rfl⟩
  rw [hr] at h1 h2 h3
  have hf4 : ∀ n, f n = byt x (((n : Int) + r) % 8).toNat := fun n => by
    rw [hf3 n]
    congr 2
    omega
  have HX := Lib.hid hx
  have HF := Lib.hid hf4
  have HF2 := Lib.hid hf2
  clear hx hf hf2 hf3 hf4 h3
  go_enter Try.func35, Try.ntmps35
  go_wp2_with fail
  go_loopw [5, 6, 7] (fun v _ j wr => ∃ k : Nat, k ≤ 8 ∧ j = .int .i64 k ∧ OwnsBytes w.heap.size (rowTo f k) v wr ∧ Below w.heap.size w wr) (fun _ _ j _ => 8 - (intOf j).toNat)
  case atStart => exact ⟨0, Nat.zero_le _, rfl, World.ownsRow_nil _ _ _ _, Below.refl _ _⟩
  case round =>
    obtain ⟨k, hk, rfl, hown, hB⟩ := hrel
    by_cases hlt : k < 8
    · have hml : (rowTo f k).length + 1 ≤ maxLen := by rw [rowTo_length]; unfold maxLen; omega
      have hbl := rowTo_length f k
      obtain ⟨s, hs⟩ : ∃ s, ((k : Int) + r).tmod 8 = s := ⟨_, rfl⟩
      obtain ⟨g1, g2, g3⟩ := tmod8 ((k : Int) + r)
      rw [hs] at g1 g2 g3
      obtain ⟨m, hm⟩ : ∃ m : Nat, m = (((k : Int) + r) % 8).toNat := ⟨_, rfl⟩
      have hm8 : m < 8 := by omega
      have em2 : (s + 8).tmod 8 = (m : Int) := by rw [Int.tmod_eq_emod_of_nonneg (by omega)]; omega
      have ew1 : IntKind.i64.wrap ((k : Int) + r) = (k : Int) + r := IntWalk.i64_in _ (by omega)
      have ew2 : IntKind.i64.wrap (s + 8) = s + 8 := IntWalk.i64_in _ (by omega)
      have hA := fun W => Try.At_any x m HX.out (by omega) W
      have hfk := HF.out k
      rw [← hm] at hfk
      rw [← hfk] at hA
      have HA := Lib.hid hA
      have HO := Lib.hid hown
      have HBL := Lib.hid hbl
      have HS := Lib.hid rowTo_succ
      clear hA hown hbl hm hfk g3
      go_wp2_with (first | (go_at_call 18; refine (HA.out _).mono ?_; rintro e w' ⟨rfl, rfl⟩) | (at_builtin; refine wpList_append_own _ rfl _ _ 22 rfl w.heap.size 5 i0 (.int .u8 0) 1 1 Try.underlying22 hi hz0 hz1 hz2 rfl (by decide) _ _ _ rfl (World.ownsRow.alloc HO.out _) ⟨wr.heap.size, 0, none⟩ 1 1 [.int .u8 (f k : Nat)] rfl rfl ?c1 ?c2 ?c3 ?c4 ?c5 ?_))
      case c1 => exact cell_one_new _ _ _
      case c2 => simp [Value.oneCell']
      case c3 => exact hml
      case c4 => rw [HBL.out]; omega
      case c5 => have := hB.size; simp; omega
      intro v' w1 hown' hgrow _
      have hB1 : Below w.heap.size w w1 := below_append (hB.alloc hB.size _) (World.ownsRow.alloc HO.out _) hgrow (by have := hB.size; simp; omega)
      have hO2 : OwnsBytes w.heap.size (rowTo f (k + 1)) v' w1 := by
        unfold OwnsBytes
        rw [rowTo_succ, byteVals_snoc, List.length_append]
        exact hown'
      have HO2 := Lib.hid hO2
      clear hO2 hown' hgrow hml em2 ew1 ew2 hs
      go_wp2
      exact ⟨⟨k + 1, by omega, by go_num, HO2.out, hB1⟩, by simp [intOf]; omega⟩
    · obtain rfl : k = 8 := by omega
      obtain ⟨⟨a, cap, hv⟩, hA⟩ := owns_bytesAt hown
      rw [rowTo_length] at hv
      subst hv
      have hOf := Try.refOf_any a 8 cap (rowTo f 8) (rowTo_lt HF2.out 8) (rowTo_length f 8).symm (by omega) wr hA
      obtain ⟨q, hq⟩ : ∃ q, (ofB fun (n : Nat) => (rowTo f 8)[n]?.getD 0) = q := ⟨_, rfl⟩
      rw [hq] at hOf
      have HQ := Lib.hid hq
      clear hq
      have HOF := Lib.hid hOf
      clear hOf hown hA
      go_wp2_with fail
      refine HOF.out.mono ?_
      rintro e w' ⟨rfl, rfl⟩
      go_wp2
      go_ret
      exact ⟨by rw [HQ.out]; rfl, hB⟩

/-- The bytes of a word, those of the first k lanes that m has being z's. -/
def mix (x z m k n : Nat) : Nat := if n < k ∧ m.testBit n = true then byt z n else byt x n
theorem mix_lt (x z m k n : Nat) : mix x z m k n < 256 := by
  unfold mix
  split <;> exact byt_lt _ _
theorem mix_0 (x z m n : Nat) : mix x z m 0 n = byt x n := by simp [mix]
theorem mix_no {x z m k n : Nat} (h : m.testBit k = false) : mix x z m (k + 1) n = mix x z m k n := by
  unfold mix
  by_cases hn : n = k
  · subst hn; simp [h]
  · have : n < k + 1 ↔ n < k := by omega
    simp only [this]
theorem mix_yes {x z m k : Nat} (h : m.testBit k = true) (n : Nat) : mix x z m (k + 1) n = if n = k then byt z k else mix x z m k n := by
  unfold mix
  by_cases hn : n = k
  · subst hn; simp [h]
  · have : n < k + 1 ↔ n < k := by omega
    simp only [this, if_neg hn]
theorem mix_8 (x z m : Nat) (hx : x < 18446744073709551616) : ofB (mix x z m 8) = setAll (byt z) x (lanesOf m) := by
  refine byt_ext (ofB_lt (mix_lt x z m 8)) (setAll_lt (fun n => byt_lt z n) hx _) fun k hk => ?_
  rw [byt_ofB (mix_lt x z m 8) hk]
  have h := byt_setAll (g := byt z) (fun n => byt_lt z n) x (lanesOf m) ⟨k, hk⟩
  rw [h]
  unfold mix
  have := mem_lanesOf m ⟨k, hk⟩
  simp only at this
  simp [hk, this]
/-- Eight bytes that the call owns. -/
def Own8 (n₀ : Nat) (f : Nat → Nat) (v : Value) (W : World) : Prop := W.ownsRow n₀ 5 1 v 8 (byteVals (rowTo f 8))
theorem own8_of {n₀ x : Nat} {v : Value} {W : World} (h : OwnsBytes n₀ (bytesTo x 8) v W) : Own8 n₀ (byt x) v W := by
  unfold OwnsBytes at h
  rw [bytesTo_length] at h
  exact h
theorem own8_bytes {n₀ : Nat} {f : Nat → Nat} {v : Value} {W : World} (h : Own8 n₀ f v W) : OwnsBytes n₀ (rowTo f 8) v W := by
  unfold OwnsBytes
  rw [rowTo_length]
  exact h
theorem set8 {f g : Nat → Nat} {k b : Nat} (h : ∀ n, g n = if n = k then b else f n) : (byteVals (rowTo f 8)).set k (.int .u8 (b : Int)) = byteVals (rowTo g 8) := by
  unfold byteVals
  rw [← List.map_set]
  congr 1
  unfold rowTo
  apply List.ext_getElem
  · simp
  · intro n h1 h2
    simp only [List.getElem_set, List.getElem_map, List.getElem_range]
    rw [h n]
    by_cases hn : k = n
    · subst hn; simp
    · rw [if_neg hn, if_neg (fun e => hn e.symm)]
theorem own8_cells {n₀ : Nat} {f : Nat → Nat} {v : Value} {W : World} (h : Own8 n₀ f v W) :
    ∃ g cap, v = .slice (some ⟨g, 0, none⟩) 8 cap ∧ n₀ ≤ g ∧ g < W.heap.size := by
  obtain ⟨g, cap, rfl, hg, hl, _⟩ := owns_at (own8_bytes h) (by rw [rowTo_length]; decide)
  exact ⟨g, cap, by rw [rowTo_length], hg, hl⟩
theorem own8_cell {n₀ g cap : Nat} {f : Nat → Nat} {W : World} (h : Own8 n₀ f (.slice (some ⟨g, 0, none⟩) 8 cap) W) (j : Nat) (hj : j < 8) : W.cell? ⟨g, j, none⟩ = some (.int .u8 (f j : Nat)) := by
  rw [World.ownsRow.cellAt h j (by omega)]
  simp [byteVals, rowTo, hj]
theorem own8_mono {n₀ n₁ : Nat} {f : Nat → Nat} {v : Value} {W : World} (h : Own8 n₁ f v W) (hn : n₀ ≤ n₁) : Own8 n₀ f v W :=
  ⟨h.1, h.2.imp id fun ⟨g, cap, cur, h1, h2, h3⟩ => ⟨g, cap, cur, h1, Nat.le_trans hn h2, h3⟩⟩
theorem own8_keep {n₀ h : Nat} {f : Nat → Nat} {v : Value} {A B : World} (o : Own8 n₀ f v A) (hB : Below h A B) (hh : A.heap.size ≤ h) : Own8 n₀ f v B := by
  refine World.ownsRow.kept o (row := none) ⟨hB.os, hB.tape, hB.output, hB.size, fun k hk _ => hB.block k (Nat.lt_of_lt_of_le hk hh)⟩ ?_
  cases e : v.ownBlock <;> simp

set_option maxHeartbeats 2000000 in
theorem Try.refBlend_any (x z m : Nat) (hx : x < 18446744073709551616) (hz : z < 18446744073709551616) (hm : m < 256) (w : World) :
    Calls Try.prog 31 #[.int .u64 x, .int .u64 z, .int .u8 m] w fun e w' => e = .returned (.int .u64 (setAll (byt z) x (lanesOf m) : Nat)) ∧ Below w.heap.size w w' := by
  rw [← mix_8 x z m hx, ← rowTo_of (mix_lt x z m 8)]
  have HBX := Lib.hid (Try.refBytes_any x hx)
  have HBZ := Lib.hid (Try.refBytes_any z hz)
  have HM := Lib.hid hm
  clear hx hz hm
  go_enter Try.func31, Try.ntmps31
  go_wp2_with fail
  refine (HBX.out _).mono ?_
  rintro e w1 ⟨v1, rfl, hO1, hB1⟩
  have hP1 := own8_of hO1
  obtain ⟨g1, cap1, rfl, hg1, hl1⟩ := own8_cells hP1
  have HP1 := Lib.hid hP1
  clear hO1 hP1
  go_wp2_with fail
  refine (HBZ.out _).mono ?_
  rintro e w2 ⟨v2, rfl, hO2, hB2⟩
  have hP2 := own8_of hO2
  obtain ⟨g2, cap2, rfl, hg2, hl2⟩ := own8_cells hP2
  have hP3 := own8_keep HP1.out hB2 (Nat.le_refl _)
  have hB := hB1.trans (hB2.mono hB1.size)
  have hP0 : Own8 w.heap.size (mix x z m 0) (.slice (some ⟨g1, 0, none⟩) 8 cap1) w2 := by
    rw [show mix x z m 0 = byt x from funext fun n => mix_0 x z m n]
    exact hP3
  have HP0 := Lib.hid hP0
  have HP2 := Lib.hid hP2
  clear hO2 hP2 hP3 hP0 HP1 hB1 hB2
  go_wp2_with fail
  go_loopw [8, 9, 15] (fun _ _ j wr => ∃ k : Nat, k ≤ 8 ∧ j = .int .i64 k ∧ Own8 w.heap.size (mix x z m k) (.slice (some ⟨g1, 0, none⟩) 8 cap1) wr ∧ Own8 w1.heap.size (byt z) (.slice (some ⟨g2, 0, none⟩) 8 cap2) wr ∧ Below w.heap.size w wr) (fun _ _ j _ => 8 - (intOf j).toNat)
  case atStart => exact ⟨0, Nat.zero_le _, rfl, HP0.out, HP2.out, hB⟩
  case round =>
    obtain ⟨k, hk, rfl, hQ1, hQ2, hBr⟩ := hrel
    by_cases hlt : k < 8
    · have hc2 := own8_cell hQ2 k hlt
      have hc1 := own8_cell hQ1 k hlt
      have hf1 := World.ownsRow.frozenAt hQ1 k
      have hst := World.ownsRow.stored hQ1 k (.int .u8 (byt z k : Nat))
      have hne : (Value.slice (some ⟨g2, 0, none⟩) 8 cap2).ownBlock ≠ some (⟨g1, k, none⟩ : Addr).block := by
        simp [Value.ownBlock]
        omega
      have hst2 := ownsRow_setCell_other hQ2 hne (.int .u8 (byt z k : Nat))
      have HH := Lib.hid (Try.Has_any m k HM.out (by omega))
      have Q1 := Lib.hid hQ1
      have Q2 := Lib.hid hQ2
      have ST := Lib.hid hst.1
      have ST2 := Lib.hid hst2
      clear hQ1 hQ2 hst hst2 hne
      by_cases hb : m.testBit k = true
      · have hmx : mix x z m (k + 1) = fun n => if n = k then byt z k else mix x z m k n := funext fun n => mix_yes hb n
        have HMX := Lib.hid hmx
        rw [hb] at HH
        clear hmx hb
        go_wp2_with fail
        refine (HH.out _).mono ?_
        rintro e w4 ⟨rfl, rfl⟩
        go_wp2
        exact ⟨⟨k + 1, by omega, by go_num, by
          have h := ST.out
          rw [set8 (g := mix x z m (k + 1)) (fun n => by rw [HMX.out])] at h
          exact h, ST2.out, hBr.setCell (p := ⟨g1, k, none⟩) hg1 _⟩, by simp [intOf]; omega⟩
      · have hb' : m.testBit k = false := by simpa using hb
        have hmx : mix x z m (k + 1) = mix x z m k := funext fun n => mix_no hb'
        rw [hb'] at HH
        have Q1' := Q1.out
        rw [← hmx] at Q1'
        have Q1'' := Lib.hid Q1'
        clear hmx hb hb' Q1'
        go_wp2_with fail
        refine (HH.out _).mono ?_
        rintro e w4 ⟨rfl, rfl⟩
        go_wp2
        exact ⟨⟨k + 1, by omega, by go_num, Q1''.out, Q2.out, hBr⟩, by simp [intOf]; omega⟩
    · obtain rfl : k = 8 := by omega
      obtain ⟨_, hA⟩ := owns_bytesAt (own8_bytes hQ1)
      have hOf := Try.refOf_any (some ⟨g1, 0, none⟩) 8 cap1 (rowTo (mix x z m 8) 8) (rowTo_lt (mix_lt x z m 8) 8) (rowTo_length _ 8).symm (by omega) wr hA
      obtain ⟨q, hq⟩ : ∃ q, (ofB fun (n : Nat) => (rowTo (mix x z m 8) 8)[n]?.getD 0) = q := ⟨_, rfl⟩
      rw [hq] at hOf
      have HQ := Lib.hid hq
      have HOF := Lib.hid hOf
      clear hOf hq hA hQ1 hQ2
      go_wp2_with fail
      refine HOF.out.mono ?_
      rintro e w' ⟨rfl, rfl⟩
      go_wp2
      go_ret
      exact ⟨by rw [HQ.out]; rfl, hBr⟩

set_option maxHeartbeats 2000000 in
theorem Try.refAll_any (m : Nat) (hm : m < 256) (w : World) :
    Calls Try.prog 28 #[.int .u8 m] w (AllQ (lanesOf m) w) := by
  obtain ⟨i0, hi, hz0, hz1, hz2⟩ := info_parts Try.infoInt
  have HM := Lib.hid hm
  clear hm
  go_enter Try.func28, Try.ntmps28
  go_wp2_with fail
  go_loopw [3, 4, 5] (fun v _ j wr => ∃ k : Nat, k ≤ 8 ∧ j = .int .i64 k ∧ OwnsLanes w.heap.size (lanesTo m k) v wr ∧ Below w.heap.size w wr) (fun _ _ j _ => 8 - (intOf j).toNat)
  case atStart => exact ⟨0, Nat.zero_le _, rfl, ⟨World.ownsRow_nil _ _ _ _, by simp [lanesTo]⟩, Below.refl _ _⟩
  case round =>
    obtain ⟨k, hk, rfl, hown, hB⟩ := hrel
    by_cases hlt : k < 8
    · have HH := Lib.hid (Try.Has_any m k HM.out (by omega))
      have hll : (lanesTo m k).length ≤ 8 := Nat.le_trans (lanesTo_length m k) (by omega)
      have HO := Lib.hid hown
      clear hown
      by_cases hb : m.testBit k = true
      · have hl := lanesTo_yes hlt hb
        have HL := Lib.hid hl
        rw [hb] at HH
        clear hl hb
        go_wp2_with (first | (go_at_call 54; refine (HH.out _).mono ?_; rintro e w' ⟨rfl, rfl⟩) | (at_builtin; refine wpList_append_own _ rfl _ _ 24 rfl w.heap.size 3 i0 (.int .i64 0) 1 8 Try.underlying24 hi hz0 hz1 hz2 rfl (by decide) _ _ _ rfl (World.ownsRow.alloc HO.out.1 _) ⟨wr.heap.size, 0, none⟩ 1 1 [.int .i64 k] rfl rfl ?c1 ?c2 ?c3 ?c4 ?c5 ?_))
        case c1 => exact cell_one_new _ _ _
        case c2 => simp [Value.oneCell']
        case c3 => unfold maxLen; omega
        case c4 => omega
        case c5 => have := hB.size; simp; omega
        intro v' w1 hown' hgrow _
        have hB1 : Below w.heap.size w w1 := (hB.alloc hB.size _).grown hgrow (by have := hB.size; simp; omega) (fun j ej => by
          rcases HO.out.1.2 with ⟨rfl, _⟩ | ⟨g, cap, cur, rfl, hg, _⟩
          · simp [Value.ownBlock] at ej
          · obtain rfl : g = j := by simpa [Value.ownBlock] using ej
            exact hg)
        have hO2 : OwnsLanes w.heap.size (lanesTo m (k + 1)) v' w1 := by
          obtain ⟨g', cap', rfl⟩ := ownsRow_succ hown'
          refine ⟨?_, by rw [HL.out]; simp⟩
          rw [HL.out, laneVals_snoc, List.length_append]
          exact hown'
        have HO2 := Lib.hid hO2
        clear hO2 hown' hgrow
        go_wp2
        exact ⟨⟨k + 1, by omega, by go_num, HO2.out, hB1⟩, by simp [intOf]; omega⟩
      · have hb' : m.testBit k = false := by simpa using hb
        have hl := lanesTo_no hb'
        rw [hb'] at HH
        have hO' := HO.out
        rw [← hl] at hO'
        have HO' := Lib.hid hO'
        clear hl hb hb' hO'
        go_wp2_with (go_at_call 54; refine (HH.out _).mono ?_; rintro e w' ⟨rfl, rfl⟩)
        exact ⟨⟨k + 1, by omega, by go_num, HO'.out, hB⟩, by simp [intOf]; omega⟩
    · obtain rfl : k = 8 := by omega
      have HO := Lib.hid hown
      clear hown
      go_wp2
      go_ret
      exact ⟨_, rfl, HO.out, hB⟩

theorem owns_intsAt {n₀ : Nat} {l : List (Fin 8)} {v : Value} {W : World} (h : OwnsLanes n₀ l v W) : (∃ a cap, v = .slice a l.length cap) ∧ IntsAt W v (lanesInt l) := by
  have hlen : (lanesInt l).length = l.length := by simp [lanesInt]
  rcases h.1.2 with ⟨h1, h2⟩ | ⟨g, cap, cur, h1, hg, hh, _⟩
  · have hl := h.2.1 h1
    subst hl
    exact ⟨⟨none, 0, h1⟩, .inl ⟨h1, rfl⟩⟩
  · subst h1
    refine ⟨⟨_, _, rfl⟩, .inr ⟨g, 0, cap, by rw [hlen], (Array.getElem?_eq_some_iff.1 hh).1, fun j hj => ?_⟩⟩
    rw [hlen] at hj
    rw [Nat.zero_add, World.ownsRow.cellAt h.1 j (by omega), lanesInt_get l j hj]
    simp [laneVals, hj]

theorem ne_selfI (a : Int) : (a != a) = false := by simp
set_option maxHeartbeats 1000000 in
/-- Two rows of the same ints are equal. -/
theorem Try.equalInts_any (a1 a2 : Option Addr) (n c1 c2 : Nat) (zs : List Int) (hn : n = zs.length) (hl : n ≤ 100) (w : World) (h1 : IntsAt w (.slice a1 n c1) zs) (h2 : IntsAt w (.slice a2 n c2) zs) :
    Calls Try.prog 32 #[.slice a1 n c1, .slice a2 n c2] w fun e w' => e = .returned (.bool true) ∧ Below w.heap.size w w' := by
  have H1 := Lib.hid h1
  have H2 := Lib.hid h2
  have HN := Lib.hid hn
  clear h1 h2 hn
  go_enter Try.func32, Try.ntmps32
  go_wp2
  go_loopw [5, 13] (fun _ j wr => ∃ k : Nat, k ≤ n ∧ j = .int .i64 k ∧ Below w.heap.size w wr) (fun _ j _ => n - (intOf j).toNat)
  case atStart => exact ⟨0, Nat.zero_le _, rfl, Below.refl _ _⟩
  case round =>
    obtain ⟨k, hk, rfl, hB⟩ := hrel
    by_cases hlt : k < n
    · have hcx : ∀ (a : Option Addr) (c : Nat), IntsAt w (.slice a n c) zs → ∃ b off, a = some ⟨b, off, none⟩ ∧ wr.cell? ⟨b, off + k, none⟩ = some (.int .i64 (zs[k]?.getD 0)) := by
        intro a c h
        rcases h with ⟨h1, h2⟩ | ⟨b, off, cap', h1, hb, h3⟩
        · have := HN.out; rw [h2] at this; simp at this; omega
        · cases h1
          exact ⟨b, off, rfl, (hB.cell (p := ⟨b, off + k, none⟩) hb).trans (h3 k (by have := HN.out; omega))⟩
      obtain ⟨b1, o1, rfl, hc1⟩ := hcx a1 c1 H1.out
      obtain ⟨b2, o2, rfl, hc2⟩ := hcx a2 c2 H2.out
      clear hcx
      generalize zs[k]?.getD 0 = y at *
      have hne := ne_selfI y
      have hmx : Try.prog.follows .mixedOrders = true := by kernel_rfl
      have hki : (k : Int) < (n : Int) := by omega
      go_wp2
      refine wp_region_still_lit hmx (by kernel_rfl) ?_
      repeat still_step
      refine wpStill_nil ?_
      go_wp2
      exact ⟨⟨k + 1, by omega, by go_num, hB.drew⟩, by simp [intOf]; omega⟩
    · obtain rfl : k = n := by omega
      go_wp2
      go_ret
      exact ⟨rfl, hB⟩
end Go.Proofs
