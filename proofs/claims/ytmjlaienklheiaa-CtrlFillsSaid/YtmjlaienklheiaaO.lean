/- The document's own Of and Put; slices.Equal of bytes. -/
import Derived.Test.YtmjlaienklheiaaN
namespace Go.Proofs
set_option maxRecDepth 100000
open Go.RowKit Go.Shelf
attribute [local go_sem] Oper.semAt_some

/-- The word of the bytes 8 - j to 7 of a row. -/
def uv (bs : List Nat) : Nat → Nat
  | 0 => 0
  | j + 1 => bs[7 - j]?.getD 0 + 256 * uv bs j
theorem byt_low {c y : Nat} (hc : c < 256) : byt (c + 256 * y) 0 = c := by unfold byt; omega
theorem byt_high {c y : Nat} (hc : c < 256) (n : Nat) : byt (c + 256 * y) (n + 1) = byt y n := by
  unfold byt
  rw [show 8 * (n + 1) = 8 + 8 * n by omega, Nat.pow_add, ← Nat.div_div_eq_div_mul]
  rw [show (c + 256 * y) / 2 ^ 8 = y by omega]
theorem uv_lt {bs : List Nat} (hb : ∀ n : Nat, bs[n]?.getD 0 < 256) (j : Nat) : uv bs j < 256 ^ j := by
  induction j with
  | zero => simp [uv]
  | succ j ih =>
    have h1 := hb (7 - j)
    rw [uv, Nat.pow_succ]
    omega
theorem byt_uv {bs : List Nat} (hb : ∀ n : Nat, bs[n]?.getD 0 < 256) : ∀ (j n : Nat), j ≤ 8 → n < j → byt (uv bs j) n = bs[8 - j + n]?.getD 0
  | 0, n, _, h => absurd h (Nat.not_lt_zero _)
  | j + 1, 0, hj, _ => by
    rw [uv, byt_low (hb _), show 8 - (j + 1) + 0 = 7 - j by omega]
  | j + 1, n + 1, hj, hn => by
    rw [uv, byt_high (hb _), byt_uv hb j n (by omega) (by omega), show 8 - (j + 1) + (n + 1) = 8 - j + n by omega]
theorem uv_8 {bs : List Nat} (hb : ∀ n : Nat, bs[n]?.getD 0 < 256) : uv bs 8 = ofB fun (n : Nat) => bs[n]?.getD 0 := by
  refine byt_ext (uv_lt hb 8) (ofB_lt hb) fun k hk => ?_
  rw [byt_ofB (g := fun (n : Nat) => bs[n]?.getD 0) hb hk, byt_uv hb 8 k (by omega) hk]
  simp
theorem uv_zero (bs : List Nat) : ∀ j, bs.length ≤ 8 - j → j ≤ 8 → uv bs j = 0
  | 0, _, _ => rfl
  | j + 1, h, hj => by
    rw [uv, uv_zero bs j (by omega) (by omega), List.getElem?_eq_none (by omega)]
    rfl
theorem uv_start (bs : List Nat) : uv bs (8 - bs.length) = 0 := by
  by_cases h : bs.length ≤ 8
  · exact uv_zero bs _ (by omega) (by omega)
  · rw [show 8 - bs.length = 0 by omega]; rfl
theorem uv_step (bs : List Nat) {k : Nat} (hk : k < 8) : uv bs (8 - k) = 256 * uv bs (8 - (k + 1)) + bs[k]?.getD 0 := by
  rw [show 8 - k = (8 - (k + 1)) + 1 by omega, uv, show 7 - (8 - (k + 1)) = k by omega]
  omega
theorem uv_big {bs : List Nat} (hb : ∀ n : Nat, bs[n]?.getD 0 < 256) {k : Nat} (hk : k < 8) : 256 * uv bs (8 - (k + 1)) + bs[k]?.getD 0 < 18446744073709551616 := by
  rw [← uv_step bs hk]
  exact Nat.lt_of_lt_of_le (uv_lt hb _) (Nat.pow_le_pow_right (n := 256) (show 0 < 256 by decide) (show 8 - k ≤ 8 by omega))

set_option maxHeartbeats 1000000 in
theorem Try.refOf_any (a : Option Addr) (len cap : Nat) (bs : List Nat) (hb : ∀ n : Nat, bs[n]?.getD 0 < 256) (hlen : len = bs.length) (hl : len ≤ 100) (w : World) (hI : BytesAt w (.slice a len cap) bs) :
    Calls Try.prog 19 #[.slice a len cap] w fun e w' => e = .returned (.int .u64 (ofB fun (n : Nat) => bs[n]?.getD 0 : Nat)) ∧ w = w' := by
  rw [← uv_8 hb]
  have HI := Lib.hid hI
  have HB := Lib.hid hb
  have HL := Lib.hid hlen
  have hu := uv_start bs
  rw [← hlen] at hu
  have HU := Lib.hid hu
  clear hI hb hlen hu
  go_enter Try.func19, Try.ntmps19
  go_wp2
  go_loop [3, 4] (fun ov i => ∃ k : Nat, k ≤ len ∧ i = .int .i64 ((k : Int) - 1) ∧ ov = .int .u64 (uv bs (8 - k) : Nat)) (fun _ i => (intOf i + 1).toNat)
  case atStart => exact ⟨len, Nat.le_refl _, by go_num, by rw [HU.out]; rfl⟩
  case round =>
    obtain ⟨k, hk, rfl, rfl⟩ := hrel
    match k, hk with
    | 0, hk =>
      go_wp2
      go_ret
      exact ⟨rfl, rfl⟩
    | k + 1, hk =>
      have hcx : ∃ b off, a = some ⟨b, off, none⟩ ∧ w.cell? ⟨b, off + k, none⟩ = some (.int .u8 ((bs[k]?.getD 0 : Nat) : Int)) := by
        rcases HI.out with ⟨h1, h2⟩ | ⟨b, off, cap', h1, _, h3⟩
        · have := HL.out; rw [h2] at this; simp at this; omega
        · cases h1
          exact ⟨b, off, rfl, h3 k (by omega)⟩
      obtain ⟨b, off, rfl, hcell⟩ := hcx
      have e1 : (((k + 1 : Nat) : Int) - 1) = (k : Int) := by omega
      rw [e1]
      clear e1
      by_cases h8 : k < 8
      · have hst := uv_step bs h8
        have hbg := uv_big HB.out h8
        have h2 := HB.out k
        generalize bs[k]?.getD 0 = y at *
        generalize uv bs (8 - (k + 1)) = u at *
        have HST := Lib.hid hst
        clear hst
        go_wp2
        exact ⟨⟨k, by omega, rfl, by rw [HST.out]; go_num⟩, by simp [intOf] <;> omega⟩
      · have e0 : 8 - (k + 1) = 8 - k := by omega
        rw [e0]
        clear e0
        go_wp2
        exact ⟨⟨k, by omega, rfl, rfl⟩, by simp [intOf] <;> omega⟩

theorem ne_self (a : Nat) : (((a : Nat) : Int) != ((a : Nat) : Int)) = false := by simp
set_option maxHeartbeats 1000000 in
/-- Two rows of the same bytes are equal. -/
theorem Try.equalBytes_any (a1 a2 : Option Addr) (n c1 c2 : Nat) (bs : List Nat) (hn : n = bs.length) (hl : n ≤ 100) (w : World) (h1 : BytesAt w (.slice a1 n c1) bs) (h2 : BytesAt w (.slice a2 n c2) bs) :
    Calls Try.prog 30 #[.slice a1 n c1, .slice a2 n c2] w fun e w' => e = .returned (.bool true) ∧ Below w.heap.size w w' := by
  have H1 := Lib.hid h1
  have H2 := Lib.hid h2
  have HN := Lib.hid hn
  clear h1 h2 hn
  go_enter Try.func30, Try.ntmps30
  go_wp2
  go_loopw [5, 13] (fun _ j wr => ∃ k : Nat, k ≤ n ∧ j = .int .i64 k ∧ Below w.heap.size w wr) (fun _ j _ => n - (intOf j).toNat)
  case atStart => exact ⟨0, Nat.zero_le _, rfl, Below.refl _ _⟩
  case round =>
    obtain ⟨k, hk, rfl, hB⟩ := hrel
    by_cases hlt : k < n
    · have hcx : ∀ (a : Option Addr) (c : Nat), BytesAt w (.slice a n c) bs → ∃ b off, a = some ⟨b, off, none⟩ ∧ wr.cell? ⟨b, off + k, none⟩ = some (.int .u8 ((bs[k]?.getD 0 : Nat) : Int)) := by
        intro a c h
        rcases h with ⟨h1, h2⟩ | ⟨b, off, cap', h1, hb, h3⟩
        · have := HN.out; rw [h2] at this; simp at this; omega
        · cases h1
          exact ⟨b, off, rfl, (hB.cell (p := ⟨b, off + k, none⟩) hb).trans (h3 k (by have := HN.out; omega))⟩
      obtain ⟨b1, o1, rfl, hc1⟩ := hcx a1 c1 H1.out
      obtain ⟨b2, o2, rfl, hc2⟩ := hcx a2 c2 H2.out
      clear hcx
      generalize bs[k]?.getD 0 = y at *
      have hne := ne_self y
      have hmx : Try.prog.follows .mixedOrders = true := by kernel_rfl
      have hki : (k : Int) < (n : Int) := by omega
      go_wp2
      refine wp_region_still_lit hmx (by kernel_rfl) ?_
      repeat still_step
      refine wpStill_nil ?_
      go_wp2
      exact ⟨⟨k + 1, by omega, by go_num, hB.drew⟩, by simp [intOf]; omega⟩
    · obtain rfl : k = n := by omega
      go_wp2
      go_ret
      exact ⟨rfl, hB⟩

/-- A row of bytes with one of them set. -/
theorem set_get (l : List Nat) (k b n : Nat) (hk : k < l.length) : (l.set k b)[n]?.getD 0 = if n = k then b else l[n]?.getD 0 := by
  rw [List.getElem?_set]
  by_cases h : k = n
  · subst h
    simp [hk]
  · rw [if_neg h, if_neg (fun h' => h h'.symm)]
set_option maxHeartbeats 1000000 in
theorem Try.refPut_any (x b k : Nat) (hx : x < 18446744073709551616) (hb : b < 256) (hk : k < 8) (w : World) :
    Calls Try.prog 48 #[.int .u64 x, .int .u8 b, .int .i64 k] w fun e w' => e = .returned (.int .u64 (setB x k b : Nat)) ∧ Below w.heap.size w w' := by
  have hBy := Try.refBytes_any x hx w
  have HBy := Lib.hid hBy
  have HX := Lib.hid hx
  have HB := Lib.hid hb
  clear hBy hx hb
  go_enter Try.func48, Try.ntmps48
  go_wp2_with fail
  refine HBy.out.mono ?_
  rintro e w1 ⟨v, rfl, hown, hB⟩
  have hown' := hown
  obtain ⟨g, cap, rfl, hg, hgl, hcell⟩ := owns_at hown (by rw [bytesTo_length]; decide)
  rw [bytesTo_length] at hcell hown' ⊢
  have hck := hcell k hk
  have hfr := World.ownsRow.frozenAt hown' k
  have HC := Lib.hid hcell
  clear hcell hown hown'
  go_wp2_with fail
  have hfin : BytesAt (w1.setCell ⟨g, k, none⟩ (.int .u8 (b : Int))) (.slice (some ⟨g, 0, none⟩) 8 cap) ((bytesTo x 8).set k b) := .inr ⟨g, 0, cap, by rw [List.length_set, bytesTo_length], by simpa [World.setCell] using hgl, fun j hj => by
    rw [List.length_set, bytesTo_length] at hj
    rw [set_get _ _ _ _ (by rw [bytesTo_length]; exact hk), Nat.zero_add]
    by_cases hjk : j = k
    · subst hjk
      rw [if_pos rfl]
      exact World.cell?_setCell_same' _ _ _ (by rw [hck]; rfl)
    · rw [if_neg hjk, ← HC.out j hj]
      exact World.cell?_setCell_other _ _ _ _ (fun h => hjk (by injection h with _ h2; exact h2.symm))⟩
  have hlt : ∀ n : Nat, ((bytesTo x 8).set k b)[n]?.getD 0 < 256 := fun n => by
    rw [set_get _ _ _ _ (by rw [bytesTo_length]; exact hk)]
    split
    · exact HB.out
    · by_cases h8 : n < 8
      · rw [bytesTo_get x h8]; exact byt_lt x n
      · rw [List.getElem?_eq_none (by rw [bytesTo_length]; omega)]; decide
  have hO := Try.refOf_any (some ⟨g, 0, none⟩) 8 cap ((bytesTo x 8).set k b) hlt (by rw [List.length_set, bytesTo_length]) (by omega) _ hfin
  have hv : (ofB fun (n : Nat) => ((bytesTo x 8).set k b)[n]?.getD 0) = setB x k b := by
    refine byt_ext (ofB_lt hlt) (setB_lt HX.out hk HB.out) fun j hj => ?_
    rw [byt_ofB (g := fun (n : Nat) => ((bytesTo x 8).set k b)[n]?.getD 0) hlt hj, set_get _ _ _ _ (by rw [bytesTo_length]; exact hk), byt_setB HB.out, bytesTo_get x hj]
  rw [hv] at hO
  have hB2 := hB.setCell (p := ⟨g, k, none⟩) hg (.int .u8 (b : Int))
  have HO := Lib.hid hO
  clear hO hv hlt hfin hck hfr
  refine HO.out.mono ?_
  rintro e w2 ⟨rfl, rfl⟩
  go_wp2
  go_ret
  exact ⟨rfl, hB2⟩
end Go.Proofs
