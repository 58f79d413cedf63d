/- The document's own Turn, Blend and All; slices.Equal of ints. -/
import Derived.Test.YtmjlaienklheiaaP
namespace Go.Proofs
set_option maxRecDepth 100000
open Go.RowKit Go.Shelf
attribute [local go_sem] Oper.semAt_some

theorem tmod8 (i : Int) : -8 < i.tmod 8 ∧ i.tmod 8 < 8 ∧ (i.tmod 8) % 8 = i % 8 := by
  rw [Int.tmod_eq_emod]
  split
  · omega
  · rename_i h
    have : ¬ (8 ∣ i) := fun h' => h (.inr h')
    simp only [Int.natAbs]
    omega
/-- The bytes that f tells of 0 to k - 1. -/
def rowTo (f : Nat → Nat) (k : Nat) : List Nat := (List.range k).map f
theorem rowTo_succ (f : Nat → Nat) (k : Nat) : rowTo f (k + 1) = rowTo f k ++ [f k] := by simp [rowTo, List.range_succ]
theorem rowTo_length (f : Nat → Nat) (k : Nat) : (rowTo f k).length = k := by simp [rowTo]
theorem rowTo_get (f : Nat → Nat) {k n : Nat} (h : k < n) : (rowTo f n)[k]?.getD 0 = f k := by simp [rowTo, h]
theorem rowTo_lt {f : Nat → Nat} (hf : ∀ n, f n < 256) (k n : Nat) : (rowTo f k)[n]?.getD 0 < 256 := by
  by_cases h : n < k
  · rw [rowTo_get f h]; exact hf n
  · rw [List.getElem?_eq_none (by rw [rowTo_length]; omega)]; decide
theorem rowTo_of {f : Nat → Nat} (hf : ∀ n, f n < 256) : (ofB fun (n : Nat) => (rowTo f 8)[n]?.getD 0) = ofB f := by
  refine byt_ext (ofB_lt (rowTo_lt hf 8)) (ofB_lt hf) fun k hk => ?_
  rw [byt_ofB (g := fun (n : Nat) => (rowTo f 8)[n]?.getD 0) (rowTo_lt hf 8) hk, byt_ofB hf hk, rowTo_get f hk]

/-- The bytes of a word, those of the first k lanes that m has being z's. -/
def mix (x z m k n : Nat) : Nat := if n < k ∧ m.testBit n = true then byt z n else byt x n
theorem mix_lt (x z m k n : Nat) : mix x z m k n < 256 := by
  unfold mix
  split <;> exact byt_lt _ _
theorem mix_0 (x z m n : Nat) : mix x z m 0 n = byt x n := by simp [mix]
theorem mix_no {x z m k n : Nat} (h : m.testBit k = false) : mix x z m (k + 1) n = mix x z m k n := by
  unfold mix
  by_cases hn : n = k
  · subst hn; simp [h]
  · have : n < k + 1 ↔ n < k := by omega
    simp only [this]
theorem mix_yes {x z m k : Nat} (h : m.testBit k = true) (n : Nat) : mix x z m (k + 1) n = if n = k then byt z k else mix x z m k n := by
  unfold mix
  by_cases hn : n = k
  · subst hn; simp [h]
  · have : n < k + 1 ↔ n < k := by omega
    simp only [this, if_neg hn]
theorem mix_8 (x z m : Nat) (hx : x < 18446744073709551616) : ofB (mix x z m 8) = setAll (byt z) x (lanesOf m) := by
  refine byt_ext (ofB_lt (mix_lt x z m 8)) (setAll_lt (fun n => byt_lt z n) hx _) fun k hk => ?_
  rw [byt_ofB (mix_lt x z m 8) hk]
  have h := byt_setAll (g := byt z) (fun n => byt_lt z n) x (lanesOf m) ⟨k, hk⟩
  rw [h]
  unfold mix
  have := mem_lanesOf m ⟨k, hk⟩
  simp only at this
  simp [hk, this]
/-- Eight bytes that the call owns. -/
def Own8 (n₀ : Nat) (f : Nat → Nat) (v : Value) (W : World) : Prop := W.ownsRow n₀ 5 1 v 8 (byteVals (rowTo f 8))
theorem own8_of {n₀ x : Nat} {v : Value} {W : World} (h : OwnsBytes n₀ (bytesTo x 8) v W) : Own8 n₀ (byt x) v W := by
  unfold OwnsBytes at h
  rw [bytesTo_length] at h
  exact h
theorem own8_bytes {n₀ : Nat} {f : Nat → Nat} {v : Value} {W : World} (h : Own8 n₀ f v W) : OwnsBytes n₀ (rowTo f 8) v W := by
  unfold OwnsBytes
  rw [rowTo_length]
  exact h
theorem set8 {f g : Nat → Nat} {k b : Nat} (h : ∀ n, g n = if n = k then b else f n) : (byteVals (rowTo f 8)).set k (.int .u8 (b : Int)) = byteVals (rowTo g 8) := by
  unfold byteVals
  rw [← List.map_set]
  congr 1
  unfold rowTo
  apply List.ext_getElem
  · simp
  · intro n h1 h2
    simp only [List.getElem_set, List.getElem_map, List.getElem_range]
    rw [h n]
    by_cases hn : k = n
    · subst hn; simp
    · rw [if_neg hn, if_neg (fun e => hn e.symm)]
theorem own8_cells {n₀ : Nat} {f : Nat → Nat} {v : Value} {W : World} (h : Own8 n₀ f v W) :
    ∃ g cap, v = .slice (some ⟨g, 0, none⟩) 8 cap ∧ n₀ ≤ g ∧ g < W.heap.size := by
  obtain ⟨g, cap, rfl, hg, hl, _⟩ := owns_at (own8_bytes h) (by rw [rowTo_length]; decide)
  exact ⟨g, cap, by rw [rowTo_length], hg, hl⟩
theorem own8_cell {n₀ g cap : Nat} {f : Nat → Nat} {W : World} (h : Own8 n₀ f (.slice (some ⟨g, 0, none⟩) 8 cap) W) (j : Nat) (hj : j < 8) : W.cell? ⟨g, j, none⟩ = some (.int .u8 (f j : Nat)) := by
  rw [World.ownsRow.cellAt h j (by omega)]
  simp [byteVals, rowTo, hj]
theorem own8_mono {n₀ n₁ : Nat} {f : Nat → Nat} {v : Value} {W : World} (h : Own8 n₁ f v W) (hn : n₀ ≤ n₁) : Own8 n₀ f v W :=
  ⟨h.1, h.2.imp id fun ⟨g, cap, cur, h1, h2, h3⟩ => ⟨g, cap, cur, h1, Nat.le_trans hn h2, h3⟩⟩
theorem own8_keep {n₀ h : Nat} {f : Nat → Nat} {v : Value} {A B : World} (o : Own8 n₀ f v A) (hB : Below h A B) (hh : A.heap.size ≤ h) : Own8 n₀ f v B := by
  refine World.ownsRow.kept o (row := none) ⟨hB.os, hB.tape, hB.output, hB.size, fun k hk _ => hB.block k (Nat.lt_of_lt_of_le hk hh)⟩ ?_
  cases e : v.ownBlock <;> simp

theorem owns_intsAt {n₀ : Nat} {l : List (Fin 8)} {v : Value} {W : World} (h : OwnsLanes n₀ l v W) : (∃ a cap, v = .slice a l.length cap) ∧ IntsAt W v (lanesInt l) := by
  have hlen : (lanesInt l).length = l.length := by simp [lanesInt]
  rcases h.1.2 with ⟨h1, h2⟩ | ⟨g, cap, cur, h1, hg, hh, _⟩
  · have hl := h.2.1 h1
    subst hl
    exact ⟨⟨none, 0, h1⟩, .inl ⟨h1, rfl⟩⟩
  · subst h1
    refine ⟨⟨_, _, rfl⟩, .inr ⟨g, 0, cap, by rw [hlen], (Array.getElem?_eq_some_iff.1 hh).1, fun j hj => ?_⟩⟩
    rw [hlen] at hj
    rw [Nat.zero_add, World.ownsRow.cellAt h.1 j (by omega), lanesInt_get l j hj]
    simp [laneVals, hj]

theorem ne_selfI (a : Int) : (a != a) = false := by simp
set_option maxHeartbeats 1000000 in
/-- Two rows of the same ints are equal. -/
theorem Try.equalInts_any (a1 a2 : Option Addr) (n c1 c2 : Nat) (zs : List Int) (hn : n = zs.length) (hl : n ≤ 100) (w : World) (h1 : IntsAt w (.slice a1 n c1) zs) (h2 : IntsAt w (.slice a2 n c2) zs) :
    Calls Try.prog 29 #[.slice a1 n c1, .slice a2 n c2] w fun e w' => e = .returned (.bool true) ∧ Below w.heap.size w w' := by
  have H1 := Lib.hid h1
  have H2 := Lib.hid h2
  have HN := Lib.hid hn
  clear h1 h2 hn
  go_enter Try.func29, Try.ntmps29
  go_wp2
  go_loopw [5, 13] (fun _ j wr => ∃ k : Nat, k ≤ n ∧ j = .int .i64 k ∧ Below w.heap.size w wr) (fun _ j _ => n - (intOf j).toNat)
  case atStart => exact ⟨0, Nat.zero_le _, rfl, Below.refl _ _⟩
  case round =>
    obtain ⟨k, hk, rfl, hB⟩ := hrel
    by_cases hlt : k < n
    · have hcx : ∀ (a : Option Addr) (c : Nat), IntsAt w (.slice a n c) zs → ∃ b off, a = some ⟨b, off, none⟩ ∧ wr.cell? ⟨b, off + k, none⟩ = some (.int .i64 (zs[k]?.getD 0)) := by
        intro a c h
        rcases h with ⟨h1, h2⟩ | ⟨b, off, cap', h1, hb, h3⟩
        · have := HN.out; rw [h2] at this; simp at this; omega
        · cases h1
          exact ⟨b, off, rfl, (hB.cell (p := ⟨b, off + k, none⟩) hb).trans (h3 k (by have := HN.out; omega))⟩
      obtain ⟨b1, o1, rfl, hc1⟩ := hcx a1 c1 H1.out
      obtain ⟨b2, o2, rfl, hc2⟩ := hcx a2 c2 H2.out
      clear hcx
      generalize zs[k]?.getD 0 = y at *
      have hne := ne_selfI y
      have hmx : Try.prog.follows .mixedOrders = true := by kernel_rfl
      have hki : (k : Int) < (n : Int) := by omega
      go_wp2
      refine wp_region_still_lit hmx (by kernel_rfl) ?_
      repeat still_step
      refine wpStill_nil ?_
      go_wp2
      exact ⟨⟨k + 1, by omega, by go_num, hB.drew⟩, by simp [intOf]; omega⟩
    · obtain rfl : k = n := by omega
      go_wp2
      go_ret
      exact ⟨rfl, hB⟩
end Go.Proofs
