/- The document's own answers for lanes: At, Bytes, With, Has, Is. -/
import Derived.Test.YtmjlaienklheiaaI
namespace Go.Proofs
set_option maxRecDepth 100000
open Go.RowKit Go.Shelf
attribute [local go_sem] Oper.semAt_some

theorem div256 (x k : Nat) (hx : x < 18446744073709551616) : IntKind.u64.wrap (((x / 256 ^ k : Nat) : Int) / 256) = ((x / 256 ^ (k + 1) : Nat) : Int) := by
  have e : ((x / 256 ^ k : Nat) : Int) / 256 = ((x / 256 ^ (k + 1) : Nat) : Int) := by
    rw [Nat.pow_succ, ← Nat.div_div_eq_div_mul]
    simp
  have h : x / 256 ^ (k + 1) ≤ x := Nat.div_le_self _ _
  rw [e, IntKind.wrap_u64]
  generalize x / 256 ^ (k + 1) = y at *
  omega
theorem byt_256 (x n : Nat) : ((x / 256 ^ n : Nat) : Int) % 256 = ((byt x n : Nat) : Int) := by
  unfold byt
  rw [show (256 : Nat) ^ n = 2 ^ (8 * n) by rw [Nat.pow_mul]]
  omega

set_option maxHeartbeats 1000000 in
theorem Try.At_any (x n : Nat) (hx : x < 18446744073709551616) (hn : n ≤ 1000) (w : World) :
    Calls Try.prog 31 #[.int .u64 x, .int .i64 n] w fun e w' => e = .returned (.int .u8 (byt x n : Nat)) ∧ w = w' := by
  have HX := Lib.hid hx
  clear hx
  go_enter Try.func31, Try.ntmps31
  go_wp2
  go_loop [0, 6] (fun xv i => ∃ k : Nat, k ≤ n ∧ i = .int .i64 k ∧ xv = .int .u64 (x / 256 ^ k : Nat)) (fun _ i => n - (intOf i).toNat)
  case atStart => exact ⟨0, Nat.zero_le _, rfl, by simp⟩
  case round =>
    obtain ⟨k, hk, rfl, rfl⟩ := hrel
    have hd := div256 x k HX.out
    by_cases hlt : k < n
    · generalize hy : x / 256 ^ k = y at *
      have HD := Lib.hid hd
      clear hy hd
      go_wp2
      exact ⟨⟨k + 1, by omega, by go_num, by rw [HD.out]⟩, by simp [intOf]; omega⟩
    · obtain rfl : k = n := by omega
      have hb := byt_256 x k
      generalize x / 256 ^ k = y at *
      have HB := Lib.hid hb
      clear hb hd
      go_wp2
      go_ret
      exact ⟨by rw [← HB.out]; rfl, rfl⟩

theorem half (x k : Nat) : (((x / 2 ^ k : Nat) : Int) / 2) = ((x / 2 ^ (k + 1) : Nat) : Int) := by
  rw [Nat.pow_succ, ← Nat.div_div_eq_div_mul]
  simp
theorem half_wrap (x k : Nat) (hx : x < 256) : (((x / 2 ^ k : Nat) : Int) / 2) % 256 = ((x / 2 ^ (k + 1) : Nat) : Int) := by
  have h : x / 2 ^ (k + 1) ≤ x := Nat.div_le_self _ _
  rw [half]
  generalize x / 2 ^ (k + 1) = y at *
  omega
theorem bit_walk (x n : Nat) : ((((x / 2 ^ n : Nat) : Int) % 2) == 1) = x.testBit n := by
  rw [Nat.testBit_eq_decide_div_mod_eq, Bool.eq_iff_iff]
  generalize x / 2 ^ n = y
  simp only [beq_iff_eq, decide_eq_true_eq]
  omega
theorem ret_int' {k : IntKind} {a b : Int} (h : a = b) : Ending.returned (.int k a) = .returned (.int k b) := by rw [h]
set_option maxHeartbeats 1000000 in
theorem Try.With_any (m n : Nat) (hn : n < 8) (hm : m + 2 ^ n < 256) (w : World) :
    Calls Try.prog 36 #[.int .u8 m, .int .i64 n] w fun e w' => e = .returned (.int .u8 (m + 2 ^ n : Nat)) ∧ w = w' := by
  have HX := Lib.hid hm
  clear hm
  go_enter Try.func36, Try.ntmps36
  go_wp2
  go_loop [5, 7] (fun xv i => ∃ k : Nat, k ≤ n ∧ i = .int .i64 k ∧ xv = .int .u8 (2 ^ k : Nat)) (fun _ i => n - (intOf i).toNat)
  case atStart => exact ⟨0, Nat.zero_le _, rfl, rfl⟩
  case round =>
    obtain ⟨k, hk, rfl, rfl⟩ := hrel
    have hs : 2 ^ (k + 1) = 2 * 2 ^ k := by rw [Nat.pow_succ]; omega
    by_cases hlt : k < n
    · have hp : 2 ^ (k + 1) < 256 := pow_lt_256 (by omega)
      rw [hs] at hp
      generalize hy : 2 ^ k = y at *
      have HD := Lib.hid hs
      have HP := Lib.hid hp
      clear hy hs hp
      go_wp2
      exact ⟨⟨k + 1, by omega, by go_num, by rw [HD.out]; first | rfl | (simp; done) | (rw [IntKind.wrap_u8']; have := HP.out; congr 1; omega) | (have := HP.out; congr 1; omega)⟩, by simp [intOf]; omega⟩
    · obtain rfl : k = n := by omega
      have hm := HX.out
      generalize hy : 2 ^ k = y at *
      have HY := Lib.hid hy
      clear hs hy
      go_wp2
      go_ret
      have h2 : ((2 : Int) ^ k) = (y : Int) := by rw [← HY.out]; simp
      exact ⟨ret_int' (by simp [h2]), rfl⟩

theorem Try.Is_any (i : Int) (w : World) : Calls Try.prog 46 #[.int .i64 i] w fun e w' => e = .returned (.bool (decide (¬ bad i))) ∧ w = w' := by
  by_cases h : bad i
  · rw [decide_eq_false (fun h' => h' h)]
    by_cases h0 : i < 0
    · clear h
      go_enter Try.func46, Try.ntmps46
      go_wp2
      go_ret
      exact ⟨rfl, rfl⟩
    · have h8 : 8 ≤ i := h.resolve_left h0
      have h7 : decide (i ≤ 7) = false := decide_eq_false (by omega)
      clear h
      go_enter Try.func46, Try.ntmps46
      go_wp2
      go_ret
      exact ⟨by first | rfl | (rw [← h7]; rfl), rfl⟩
  · rw [decide_eq_true h]
    have h2 : 0 ≤ i ∧ i < 8 := by unfold bad at h; omega
    obtain ⟨h3, h4⟩ := h2
    have h7 : decide (i ≤ 7) = true := decide_eq_true (by omega)
    clear h
    go_enter Try.func46, Try.ntmps46
    go_wp2
    go_ret
    exact ⟨by first | rfl | (rw [← h7]; rfl), rfl⟩

theorem Try.infoByte : (Try.prog.info? 5).map (fun i => (i.zero, i.size, i.bytes)) = some (some (.int .u8 0), 1, 1) := by kernel_rfl
/-- The values of bytes. -/
def byteVals (l : List Nat) : List Value := l.map fun (b : Nat) => Value.int .u8 (b : Int)
theorem byteVals_length (l : List Nat) : (byteVals l).length = l.length := by simp [byteVals]
theorem byteVals_snoc (l : List Nat) (b : Nat) : byteVals (l ++ [b]) = byteVals l ++ [.int .u8 ((b : Nat) : Int)] := by simp [byteVals]
def OwnsBytes (n₀ : Nat) (l : List Nat) (v : Value) (W : World) : Prop := W.ownsRow n₀ 5 1 v l.length (byteVals l)
def BytesQ (l : List Nat) (w : World) (e : Ending) (w' : World) : Prop := ∃ v, e = .returned v ∧ OwnsBytes w.heap.size l v w' ∧ Below w.heap.size w w'
def bytesTo (x k : Nat) : List Nat := (List.range k).map (byt x)
theorem bytesTo_succ (x k : Nat) : bytesTo x (k + 1) = bytesTo x k ++ [byt x k] := by simp [bytesTo, List.range_succ]
theorem bytesTo_length (x k : Nat) : (bytesTo x k).length = k := by simp [bytesTo]

set_option maxHeartbeats 2000000 in
theorem Try.refBytes_any (x : Nat) (hx : x < 18446744073709551616) (w : World) :
    Calls Try.prog 32 #[.int .u64 x] w (BytesQ (bytesTo x 8) w) := by
  obtain ⟨i0, hi, hz0, hz1, hz2⟩ := info_parts Try.infoByte
  have HX := Lib.hid hx
  clear hx
  go_enter Try.func32, Try.ntmps32
  go_wp2_with fail
  go_loopw [3, 5] (fun v j wr => ∃ k : Nat, k ≤ 8 ∧ j = .int .i64 k ∧ OwnsBytes w.heap.size (bytesTo x k) v wr ∧ Below w.heap.size w wr) (fun _ j _ => 8 - (intOf j).toNat)
  case atStart => exact ⟨0, Nat.zero_le _, rfl, World.ownsRow_nil _ _ _ _, Below.refl _ _⟩
  case round =>
    obtain ⟨k, hk, rfl, hown, hB⟩ := hrel
    by_cases hlt : k < 8
    · have hml : (bytesTo x k).length + 1 ≤ maxLen := by rw [bytesTo_length]; unfold maxLen; omega
      have hbl := bytesTo_length x k
      have hA := fun W => Try.At_any x k HX.out (by omega) W
      have HA := Lib.hid hA
      have HO := Lib.hid hown
      have HBL := Lib.hid hbl
      clear hA hown hbl
      go_wp2_with (first | (go_at_call 31; refine (HA.out _).mono ?_; rintro e w' ⟨rfl, rfl⟩) | (at_builtin; refine wpList_append_own _ rfl _ _ 23 rfl w.heap.size 5 i0 (.int .u8 0) 1 1 Try.underlying23 hi hz0 hz1 hz2 rfl (by decide) _ _ _ rfl (World.ownsRow.alloc HO.out _) ⟨wr.heap.size, 0, none⟩ 1 1 [.int .u8 (byt x k : Nat)] rfl rfl ?c1 ?c2 ?c3 ?c4 ?c5 ?_))
      case c1 => exact cell_one_new _ _ _
      case c2 => simp [Value.oneCell']
      case c3 => exact hml
      case c4 => rw [HBL.out]; omega
      case c5 => have := hB.size; simp; omega
      intro v' w1 hown' hgrow _
      have hB1 : Below w.heap.size w w1 := (hB.alloc hB.size _).grown hgrow (by have := hB.size; simp; omega) (fun j ej => by
        rcases HO.out.2 with ⟨rfl, _⟩ | ⟨g, cap, cur, rfl, hg, _⟩
        · simp [Value.ownBlock] at ej
        · obtain rfl : g = j := by simpa [Value.ownBlock] using ej
          exact hg)
      have hO2 : OwnsBytes w.heap.size (bytesTo x (k + 1)) v' w1 := by
        unfold OwnsBytes
        rw [bytesTo_succ, byteVals_snoc, List.length_append]
        exact hown'
      have HO2 := Lib.hid hO2
      clear hO2 hown' hgrow hml
      go_wp2
      exact ⟨⟨k + 1, by omega, by go_num, HO2.out, hB1⟩, by simp [intOf]; omega⟩
    · obtain rfl : k = 8 := by omega
      have HO := Lib.hid hown
      clear hown
      go_wp2
      go_ret
      exact ⟨_, rfl, HO.out, hB⟩
end Go.Proofs
