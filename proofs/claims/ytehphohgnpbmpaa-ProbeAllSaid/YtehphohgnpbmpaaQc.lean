/- Check, outside, left, behind, row; a row told. -/
import Derived.Test.YtehphohgnpbmpaaQm
import Derived.Test.YtehphohgnpbmpaaQb
import Derived.Test.YtehphohgnpbmpaaGt
namespace Go.Proofs
open Go.RowKit Go.Shelf
attribute [local go_sem] Oper.semAt_some

/-- Check's answer. -/
def checkE (g : Int) : Int := if 1 ≤ g ∧ mayB g.toNat = true then 0 else 180
theorem checkE_ok {g : Int} (h : checkE g = 0) : ∃ n : Nat, g = n ∧ mayB n = true ∧ 1 ≤ n ∧ n ≤ 64 := by
  unfold checkE at h
  split at h
  · rename_i h2
    exact ⟨g.toNat, by omega, h2.2, mayB_le h2.2⟩
  · cases h
theorem checkE_may {n : Nat} (h : mayB n = true) : checkE (n : Int) = 0 := by
  have := mayB_le h
  unfold checkE
  rw [if_pos ⟨by omega, by simpa using h⟩]
theorem checkE_not {g : Int} (h : checkE g ≠ 0) : checkE g = 180 := by
  unfold checkE at *
  split <;> simp_all
set_option maxRecDepth 100000 in
set_option maxHeartbeats 1000000 in
theorem Try.Check_any (g : Int) (w : World) : Calls Try.prog 10 #[.int .i64 g] w fun e w' => e = .returned (.int .i64 (checkE g)) ∧ w = w' := by
  by_cases h1 : g < 1
  · have hq : checkE g = 180 := by unfold checkE; rw [if_neg (by omega)]
    rw [hq]
    go_enter Try.func10, Try.ntmps10
    go_wp2
    go_ret
    exact ⟨rfl, rfl⟩
  by_cases h2 : 64 < g
  · have hq : checkE g = 180 := by
      unfold checkE
      rw [if_neg]
      rintro ⟨_, h⟩
      have := mayB_le h
      omega
    rw [hq]
    go_enter Try.func10, Try.ntmps10
    go_wp2
    go_ret
    exact ⟨rfl, rfl⟩
  obtain ⟨n, rfl⟩ : ∃ n : Nat, g = n := ⟨g.toNat, by omega⟩
  have hq : checkE (n : Int) = if mayB n = true then 0 else 180 := by
    unfold checkE
    by_cases h : mayB n = true
    · rw [if_pos ⟨by omega, by simpa using h⟩, if_pos h]
    · rw [if_neg (fun h3 => h (by simpa using h3.2)), if_neg h]
  have hb : (bits BinOp.and IntKind.i64 (n : Int) ((n : Int) - 1) != 0) = !mayB n := by
    have h : ∀ m : Nat, m < 65 → 1 ≤ m → (bits BinOp.and IntKind.i64 (m : Int) ((m : Int) - 1) != 0) = !mayB m := by decide +kernel
    exact h n (by omega) (by omega)
  cases hm : mayB n with
  | true =>
    rw [hm] at hb hq
    rw [hq, if_pos rfl]
    have hb2 : (bits BinOp.and IntKind.i64 (n : Int) ((n : Int) - 1) != 0) = false := hb
    clear hb hq hm
    go_enter Try.func10, Try.ntmps10
    go_wp2
    go_ret
    exact ⟨rfl, rfl⟩
  | false =>
    rw [hm] at hb hq
    rw [hq, if_neg (by decide)]
    have hb2 : (bits BinOp.and IntKind.i64 (n : Int) ((n : Int) - 1) != 0) = true := hb
    clear hb hq hm
    go_enter Try.func10, Try.ntmps10
    go_wp2
    go_ret
    exact ⟨rfl, rfl⟩

def outB (many n : Int) : Bool := decide (n < 0) || decide (many ≤ n)
set_option maxHeartbeats 1000000 in
theorem Try.outside_any (many n : Int) (w : World) : Calls Try.prog 31 #[.int .i64 many, .int .i64 n] w fun e w' => e = .returned (.bool (outB many n)) ∧ w = w' := by
  have hq : outB many n = (decide (n < 0) || decide (many ≤ n)) := rfl
  by_cases h1 : n < 0
  · rw [decide_eq_true h1, Bool.true_or] at hq
    rw [hq]
    go_enter Try.func31, Try.ntmps31
    go_wp2
    go_ret
    exact ⟨rfl, rfl⟩
  · rw [decide_eq_false h1, Bool.false_or] at hq
    rw [hq]
    clear hq
    by_cases h2 : many ≤ n
    · rw [decide_eq_true h2]
      go_enter Try.func31, Try.ntmps31
      go_wp2
      go_ret
      exact ⟨rfl, rfl⟩
    · rw [decide_eq_false h2]
      go_enter Try.func31, Try.ntmps31
      go_wp2
      go_ret
      exact ⟨rfl, rfl⟩
set_option maxHeartbeats 1000000 in
theorem Try.left_any (g h : Nat) (hg : 1 ≤ g) (hg2 : g ≤ 64) (hh : h < 18446744073709551616) (w : World) : Calls Try.prog 43 #[.int .i64 (g : Int), .int .u64 (h : Int)] w fun e w' => e = .returned (.int .i64 ((h % g : Nat) : Int)) ∧ w = w' := by
  have hlt : h % g < g := Nat.mod_lt _ hg
  go_enter Try.func43, Try.ntmps43
  go_wp2
  go_ret
  exact ⟨by rw [Int.natCast_emod]; rfl, rfl⟩
set_option maxHeartbeats 1000000 in
theorem Try.behind_any (g a i : Nat) (hg : 1 ≤ g) (hg2 : g ≤ 64) (ha : a < g) (hi : i < g) (w : World) : Calls Try.prog 37 #[.int .i64 (g : Int), .int .i64 (a : Int), .int .i64 (i : Int)] w fun e w' => e = .returned (.int .i64 (((a + i + 1) % g : Nat) : Int)) ∧ w = w' := by
  go_enter Try.func37, Try.ntmps37
  go_wp2
  go_ret
  exact ⟨rfl, rfl⟩
theorem Try.row_any (g h : Int) (w : World) : Calls Try.prog 33 #[.int .i64 g, .int .u64 h] w fun e w' => e = .returned (.func (.func 42) #[] #[.pointer (some ⟨w.heap.size, 0, none⟩), .pointer (some ⟨w.heap.size + 1, 0, none⟩)]) ∧ w' = (w.alloc (.cells #[.int .i64 g] 3)).alloc (.cells #[.int .u64 h] 22) := by
  go_enter Try.func33, Try.ntmps33
  go_wp2
  go_ret
  exact ⟨rfl, rfl⟩

/-- A group, and which one of the row it is. -/
def encQ (q : Nat × Nat) : Array Value := #[.int .i64 (q.1 : Int), .int .i64 (q.2 : Int)]
set_option maxRecDepth 100000 in
set_option maxHeartbeats 2000000 in
theorem Try.row1_tells (d : Nat) (hd : 1 ≤ d) (g h : Nat) (hg : 1 ≤ g) (hg2 : g ≤ 64) (hh : h < 18446744073709551616) (B1 B2 : Nat) (w : World) (Kp : World → World → Prop)
    (hKr : ∀ A, Kp A A) (hKt : ∀ {X Y Z : World}, Kp X Y → Kp Y Z → Kp X Z) (hK1 : ∀ A B, Kp A B → Rows8 A B1 3 #[.int .i64 (g : Int)] → Rows8 B B1 3 #[.int .i64 (g : Int)])
    (h1 : Rows8 w B1 3 #[.int .i64 (g : Int)]) (h2 : Rows8 w B2 22 #[.int .u64 (h : Int)]) :
    TellsD Fence.wide d Try.prog 42 #[.pointer (some ⟨B1, 0, none⟩), .pointer (some ⟨B2, 0, none⟩)] encQ Kp (fun xs => xs = rowL g (h % g)) (fun pre => pre <+: rowL g (h % g)) (fun pre x => pre ++ [x] <+: rowL g (h % g)) w := fun lp J Jx W hW hJ hJx hY h0 => by
  refine callsIn_of_wp Try.func42 rfl trivial ?_ rfl
  simp only [Try.ntmps42, List.size_toArray, List.length_cons, List.length_nil, Nat.reduceAdd, Nat.reduceSub, Array.replicate_succ, Array.replicate_zero, List.push_toArray, List.append_toArray, List.nil_append, List.cons_append]
  have HY := Lib.hid hY
  have HJ := Lib.hid hJ
  have b1 := h1.below hW h1.lt
  have b2 := h2.below hW h2.lt
  have c1 : W.cell? ⟨B1, 0, none⟩ = some (.int .i64 (g : Int)) := b1.cell 0
  have c2 : W.cell? ⟨B2, 0, none⟩ = some (.int .u64 (h : Int)) := b2.cell 0
  have hl : h % g < g := Nat.mod_lt _ hg
  have HL := Lib.hid (Try.left_any g h hg hg2 hh W)
  have hlen := Lib.hid (rowL_len g (h % g))
  generalize h % g = l at *
  have HB := fun (a i : Nat) (ha : a < g) (hi : i < g) W' => Lib.hid (Try.behind_any g a i hg hg2 ha hi W')
  have hz1 := b1.lt
  have H1 := Lib.hid b1
  clear hY hJ h1 h2 b2 b1
  refine wpIn_scope_straight rfl ?_
  gi_wp2_with fail
  refine ⟨trivial, ?_⟩
  refine (callsIn_wide.2 HL.out).mono ?_
  rintro e w2 ⟨rfl, rfl⟩
  gi_wp2_with fail
  refine wpIn_label ?_
  gi_wp2_with fail
  gi_loopw [4, 10] (fun gv j wr => ∃ k : Nat, k ≤ g ∧ j = .int .i64 k ∧ gv = .int .i64 (rowAt g l k : Int) ∧ J ((rowL g l).take k) wr ∧ Kp W wr) (fun _ j _ => g - (intOf j).toNat)
  case atStart => exact ⟨0, Nat.zero_le _, rfl, by rw [rowAt_zero hl], h0, hKr _⟩
  case round =>
    obtain ⟨k, hk, rfl, rfl, hJs, hK⟩ := hrel
    by_cases hlt : k < g
    · have hkl : k < (rowL g l).length := by rw [hlen.out]; exact hlt
      have hsn := take_snoc (rowL g l) k hkl
      rw [rowL_get] at hsn
      have hki : (k : Int) < (g : Int) := by omega
      obtain ⟨fn, tmps, assign, body, hy, hR⟩ := HY.out _ (k, rowAt g l k) _ hJs (by rw [← hsn]; exact List.take_prefix _ _)
      unfold encQ at hy
      dsimp only at hy
      have HSN := Lib.hid hsn
      have HBB := HB (rowAt g l k) k (rowAt_lt hg l k) hlt
      have hrn := Lib.hid (rowAt_succ g l k)
      have HK := Lib.hid hK
      generalize rowAt g l k = ga at *
      clear hJs hkl hsn hK
      gi_wp2_with fail
      refine hR.mono ?_
      rintro e w5 (⟨rfl, hJ5, hk5, hx5⟩ | ⟨rfl, hJx5, hk5⟩)
      · have HK5 := Lib.hid (hKt HK.out hx5)
        have HJ5 := Lib.hid hJ5
        have c5 : w5.cell? ⟨B1, 0, none⟩ = some (.int .i64 (g : Int)) := (hK1 _ _ HK5.out H1.out).cell 0
        have hz5 : B1 < w5.heap.size := (hK1 _ _ HK5.out H1.out).lt
        clear hJ5 hx5 hk5
        gi_wp2_with fail
        refine ⟨trivial, ?_⟩
        refine (callsIn_wide.2 (HBB w5).out).mono ?_
        rintro e w6 ⟨rfl, rfl⟩
        gi_wp2_with fail
        go_roundw
        case rel => exact ⟨k + 1, by omega, by go_num, by rw [hrn.out]; push_cast; rfl, by rw [HSN.out]; exact HJ5.out, HK5.out⟩
        case measure => simp [intOf]; omega
      · have HJ5 := Lib.hid hJx5
        clear hk5 hJx5
        gi_wp2_with fail
        rw [noGoto_normal']; go_end0
        exact ⟨⟨_, rfl⟩, .inr ⟨_, by rw [← HSN.out]; exact List.take_prefix _ _, HJ5.out⟩⟩
    · obtain rfl : k = g := by omega
      have hfin : Hid ((rowL k l).take k = rowL k l) := Lib.hid (List.take_of_length_le (Nat.le_of_eq hlen.out))
      have HJ5 := Lib.hid hJs
      clear hJs hK
      gi_wp2_with fail
      rw [noGoto_normal']; go_end0
      exact ⟨⟨_, rfl⟩, .inl ⟨_, rfl, by have := HJ5.out; rw [hfin.out] at this; exact this⟩⟩
end Go.Proofs
