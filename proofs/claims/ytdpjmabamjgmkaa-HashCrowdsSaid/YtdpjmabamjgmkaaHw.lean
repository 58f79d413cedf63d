/- The reference's Most, Deepest. -/
import Derived.Test.YtdpjmabamjgmkaaHv
namespace Go.Proofs
open Go.RowKit Go.Shelf Go.Deep
attribute [local go_sem] Oper.semAt_some

theorem prefs_take {s n : Nat} {ks : List Int} {k : Nat} (h : k < ks.length) : prefsB s n (ks.take (k + 1)) = prefsB s n (ks.take k) ++ [prefixB (ofB s (ks[k]?.getD 0).toNat) n] := by
  unfold prefsB
  rw [List.take_succ_eq_append_getElem h, List.map_append, List.getElem?_eq_getElem h]
  rfl
/-- m is by how many of these words at most one of those is had. -/
def MostAt (ps qs : List Nat) (m : Nat) : Prop := ∀ many : Int, 0 ≤ many → (many < (m : Int) ↔ ∃ p ∈ qs, many < (ps.count p : Int))
theorem most_nil (ps : List Nat) : MostAt ps [] 0 := fun many h => by
  constructor
  · intro h2; omega
  · rintro ⟨p, hp, _⟩; cases hp
theorem most_snoc {ps qs : List Nat} {m : Nat} (h : MostAt ps qs m) (p : Nat) : MostAt ps (qs ++ [p]) (max m (ps.count p)) := fun many h0 => by
  have h1 := h many h0
  constructor
  · intro h2
    by_cases hm : many < (m : Int)
    · obtain ⟨q, hq, hc⟩ := h1.1 hm
      exact ⟨q, by simp [hq], hc⟩
    · exact ⟨p, by simp, by omega⟩
  · rintro ⟨q, hq, hc⟩
    rcases List.mem_append.1 hq with hq | hq
    · have := h1.2 ⟨q, hq, hc⟩; omega
    · obtain rfl : q = p := by simpa using hq
      omega
theorem prefs_mem {s n : Nat} {l l' : List Int} (h : ∀ x, x ∈ l ↔ x ∈ l') (p : Nat) : p ∈ prefsB s n l ↔ p ∈ prefsB s n l' := by
  unfold prefsB
  rw [List.mem_map, List.mem_map]
  exact ⟨fun ⟨x, hx, e⟩ => ⟨x, (h x).1 hx, e⟩, fun ⟨x, hx, e⟩ => ⟨x, (h x).2 hx, e⟩⟩
theorem most_over {s n : Nat} {ks : List Int} {m : Nat} (h : MostAt (prefsB s n (onceW ks)) (prefsB s n ks) m) (many : Int) (h0 : 0 ≤ many) : decide (many < (m : Int)) = overB (prefsB s n (onceW ks)) many := by
  rw [Bool.eq_iff_iff, decide_eq_true_iff, h many h0]
  unfold overB
  rw [List.any_eq_true]
  have hm := prefs_mem (s := s) (n := n) (l := onceW ks) (l' := ks) (fun x => onceW_mem)
  constructor
  · rintro ⟨p, hp, hc⟩; exact ⟨p, (hm p).2 hp, by simpa using hc⟩
  · rintro ⟨p, hp, hc⟩; exact ⟨p, (hm p).1 hp, by simpa using hc⟩
set_option maxRecDepth 100000 in
set_option maxHeartbeats 4000000 in
theorem Try.refMost_any (s n : Nat) (hs : s < 18446744073709551616) (hn : n ≤ 64) (a : Option Addr) (len cap : Nat) (ks : List Int) (hl : len = ks.length) (hl1 : len ≤ 1000) (hk : KeysOk ks) (w : World) (hI : WordsAt w (.slice a len cap) ks) :
    Calls Try.prog 48 #[.int .u64 (s : Int), .int .i64 (n : Int), .slice a len cap] w
      fun e w' => ∃ m : Nat, e = .returned (.int .i64 (m : Int)) ∧ MostAt (prefsB s n (onceW ks)) (prefsB s n ks) m ∧ Below w.heap.size w w' := by
  have CM := Lib.hid fun (key : Nat) (hkey : key < 18446744073709551616) (W : World) (hB : Below w.heap.size w W) => Try.refMany_any s n hs hn a len cap ks hl hl1 hk key hkey W (RowAt.below hI hB)
  have HI := Lib.hid hI
  have HK := Lib.hid hk
  have HL := Lib.hid hl
  have hP0 : Hid (MostAt (prefsB s n (onceW ks)) (prefsB s n (ks.take 0)) 0) := Lib.hid (most_nil _)
  have HT := Lib.hid fun (k : Nat) (h : k < ks.length) => prefs_take (s := s) (n := n) h
  have hcl : (prefsB s n (onceW ks)).length ≤ 1000 := by rw [prefs_len]; exact Nat.le_trans (onceW_le ks) (by omega)
  have HCL := Lib.hid fun p => Nat.le_trans (List.count_le_length (a := p) (l := prefsB s n (onceW ks))) hcl
  have HF : Hid (prefsB s n (ks.take len) = prefsB s n ks) := Lib.hid (by rw [hl, List.take_length])
  clear hI hk hl hcl
  generalize prefsB s n (onceW ks) = ps at *
  go_enter Try.func48, Try.ntmps48
  go_wp2_with fail
  go_loopw [7, 13] (fun o j wr => ∃ (k m : Nat), k ≤ len ∧ m ≤ 1000 ∧ j = .int .i64 (k : Int) ∧ o = .int .i64 (m : Int) ∧ Hid (MostAt ps (prefsB s n (ks.take k)) m) ∧ Hid (Below w.heap.size w wr)) (fun _ j _ => len - (intOf j).toNat)
  case atStart => exact ⟨0, 0, Nat.zero_le _, Nat.zero_le _, rfl, rfl, hP0, Lib.hid (Below.refl _ _)⟩
  case round =>
    obtain ⟨k, m, hk, hmk, rfl, rfl, hm, HB⟩ := hrel
    by_cases hlt : k < len
    · have hki : (k : Int) < (len : Int) := by omega
      have hkl : k < ks.length := by rw [← HL.out]; exact hlt
      obtain ⟨b, off, rfl, hb, hc⟩ := wordsAt_get (RowAt.below HI.out HB.out) k hkl
      obtain ⟨x, hx, hx64⟩ := HK.out.get hkl
      have ht := HT.out k hkl
      rw [hx] at hc
      rw [hx, Int.toNat_natCast] at ht
      have cx := CM.out x hx64 wr HB.out
      have hcl := HCL.out (prefixB (ofB s x) n)
      have hsn := most_snoc hm.out (prefixB (ofB s x) n)
      rw [← ht] at hsn
      clear ht hx
      generalize ps.count (prefixB (ofB s x) n) = c at *
      by_cases he : m < c
      · have he2 : decide ((m : Int) < (c : Int)) = true := by simp; omega
        have he3 : (m : Int) < (c : Int) := by omega
        rw [show max m c = c by omega] at hsn
        have HX := Lib.hid hsn
        clear hsn
        go_wp2_with fail
        refine cx.mono ?_
        rintro e w' ⟨rfl, hB2⟩
        have HB2 := Lib.hid (HB.out.trans (hB2.mono HB.out.size))
        clear hB2 cx
        go_wp2_with fail
        exact ⟨⟨k + 1, c, by omega, by omega, by go_num, rfl, HX, HB2⟩, by simp [intOf]; omega⟩
      · have he2 : decide ((m : Int) < (c : Int)) = false := by simp; omega
        have he3 : ¬ (m : Int) < (c : Int) := by omega
        rw [show max m c = m by omega] at hsn
        have HX := Lib.hid hsn
        clear hsn
        go_wp2_with fail
        refine cx.mono ?_
        rintro e w' ⟨rfl, hB2⟩
        have HB2 := Lib.hid (HB.out.trans (hB2.mono HB.out.size))
        clear hB2 cx
        go_wp2_with fail
        exact ⟨⟨k + 1, m, by omega, by omega, by go_num, rfl, HX, HB2⟩, by simp [intOf]; omega⟩
    · obtain rfl : k = len := by omega
      have hfin := hm.out
      rw [HF.out] at hfin
      go_wp2_with fail
      go_ret
      exact ⟨m, rfl, hfin, HB.out⟩
set_option maxRecDepth 100000 in
set_option maxHeartbeats 4000000 in
theorem Try.refDeepest_any (s : Nat) (hs : s < 18446744073709551616) (many : Int) (hmany : 1 ≤ many) (a : Option Addr) (len cap : Nat) (ks : List Int) (hl : len = ks.length) (hl1 : len ≤ 1000) (hk : KeysOk ks) (w : World) (hI : WordsAt w (.slice a len cap) ks) :
    Calls Try.prog 27 #[.int .u64 (s : Int), .int .i64 many, .slice a len cap] w
      fun e w' => ∃ d : Nat, e = .returned (.int .i64 (d : Int)) ∧ DeepAt s many (onceW ks) d ∧ Below w.heap.size w w' := by
  have CM := Lib.hid fun (n : Nat) (hn : n ≤ 64) (W : World) (hB : Below w.heap.size w W) => Try.refMost_any s n hs hn a len cap ks hl hl1 hk W (RowAt.below hI hB)
  have HO := Lib.hid fun (n m : Nat) (h : MostAt (prefsB s n (onceW ks)) (prefsB s n ks) m) => most_over h many (by omega)
  have H64 := Lib.hid (over_64 hs hk.once (onceW_nodup ks) hmany)
  clear hI hk hl
  generalize onceW ks = u at *
  go_enter Try.func27, Try.ntmps27
  go_wp2_with fail
  go_loopw [7] (fun o wr => ∃ (k : Nat), k ≤ 64 ∧ o = .int .i64 (k : Int) ∧ Hid (0 < k → overB (prefsB s (k - 1) u) many = true) ∧ Hid (Below w.heap.size w wr)) (fun o _ => 64 - (intOf o).toNat)
  case atStart => exact ⟨0, Nat.zero_le _, rfl, Lib.hid fun h => absurd h (by omega), Lib.hid (Below.refl _ _)⟩
  case round =>
    obtain ⟨k, hk, rfl, hov, HB⟩ := hrel
    have cx := CM.out k hk wr HB.out
    go_wp2_with fail
    refine cx.mono ?_
    rintro e w' ⟨m, rfl, hM, hB2⟩
    have HB2 := Lib.hid (HB.out.trans (hB2.mono HB.out.size))
    have hoo := HO.out k m hM
    clear hB2 cx hM
    by_cases he : many < (m : Int)
    · have he2 : decide (many < (m : Int)) = true := by simp [he]
      have hk64 : k < 64 := by
        rcases Nat.lt_or_ge k 64 with h | h
        · exact h
        · obtain rfl : k = 64 := by omega
          rw [H64.out, he2] at hoo
          cases hoo
      have HX : Hid (0 < k + 1 → overB (prefsB s (k + 1 - 1) u) many = true) := Lib.hid fun _ => by rw [Nat.add_sub_cancel, ← hoo, he2]
      clear hoo
      go_wp2_with fail
      exact ⟨⟨k + 1, by omega, by go_num, HX, HB2⟩, by simp [intOf]; omega⟩
    · have he2 : decide (many < (m : Int)) = false := by simp [he]
      have HX : Hid (DeepAt s many u k) := Lib.hid ⟨hk, by rw [← hoo, he2], hov.out⟩
      clear hoo
      go_wp2_with fail
      go_ret
      exact ⟨k, rfl, HX.out, HB2.out⟩
end Go.Proofs
