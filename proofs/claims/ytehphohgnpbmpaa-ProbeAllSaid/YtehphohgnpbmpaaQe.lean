/- Row, At. -/
import Derived.Test.YtehphohgnpbmpaaQd
namespace Go.Proofs
open Go.RowKit Go.Shelf
attribute [local go_sem] Oper.semAt_some

def natI (ns : List Nat) : List Int := ns.map fun n : Nat => (n : Int)
theorem natI_len (ns : List Nat) : (natI ns).length = ns.length := by simp [natI]
theorem natI_get (ns : List Nat) (k : Nat) (h : k < ns.length) : (natI ns)[k]?.getD 0 = (ns[k] : Int) := by simp [natI, h]
/-- The array's first cells are a row. -/
theorem arr64_cut {W : World} {B : Nat} {t : TypeId} {f : Nat → Nat} {ns : List Nat} (h : Rows8 W B t (arr64 f)) (h8 : ns.length ≤ 64) (hf : ∀ k (hk : k < ns.length), f k = ns[k]) : IntsAt W (.slice (some ⟨B, 0, none⟩) ns.length 64) (natI ns) := by
  refine ⟨by rw [intVals_length, Nat.mul_one], some ⟨B, 0, none⟩, 64, by rw [natI_len], by rw [natI_len]; exact h8, by unfold maxLen; omega, (fun e => by cases e), fun j hj => ⟨B, 0, rfl, h.lt, ?_⟩⟩
  rw [intVals_length, natI_len] at hj
  rw [Nat.zero_add, h.cell j, arr64_get f j (by omega), intVals_get (natI ns) j (by rw [natI_len]; exact hj), natI_get _ _ hj, hf j hj]

/-- What Row answers. -/
def RowQ (g l : Nat) (w : World) (e : Ending) (w' : World) : Prop :=
  ∃ b, e = .returned (.tuple #[.slice (some ⟨b, 0, none⟩) g 64, .int .i64 0]) ∧ w.heap.size ≤ b ∧ Rows8 w' b 53 (arr64 (keptF g l g)) ∧ Below w.heap.size w w'
theorem keptF_at {g l k : Nat} (h : k < g) : keptF g l g k = rowAt g l k := if_pos h
theorem rowQ_at {g l : Nat} {w' : World} {b : Nat} (h64 : g ≤ 64) (h : Rows8 w' b 53 (arr64 (keptF g l g))) : IntsAt w' (.slice (some ⟨b, 0, none⟩) g 64) (natI (rowG g l)) := by
  have h2 := arr64_cut (ns := rowG g l) h (by rw [rowG_len]; exact h64) (fun k hk => by
    rw [rowG_get]
    exact keptF_at (by rw [rowG_len] at hk; exact hk))
  rwa [rowG_len] at h2
set_option maxRecDepth 100000 in
set_option maxHeartbeats 4000000 in
theorem Try.Row_ok (g h : Nat) (hm : mayB g = true) (hh : h < 18446744073709551616) (w : World) :
    Calls Try.prog 11 #[.int .i64 (g : Int), .int .u64 (h : Int)] w (RowQ g (h % g) w) := by
  obtain ⟨hg, hg2⟩ := mayB_le hm
  have HC := Lib.hid (Try.Check_any (g : Int) w)
  rw [checkE_may hm] at HC
  have HK := Lib.hid (Try.kept_any g h hg hg2 hh w)
  have hsz := arr64_size (keptF g (h % g) g)
  have hone := arr64_one (keptF g (h % g) g)
  unfold RowQ
  generalize arr64 (keptF g (h % g) g) = A at *
  go_enter Try.func11, Try.ntmps11
  go_wp2_with fail
  refine HC.out.mono ?_
  rintro e w1 ⟨rfl, rfl⟩
  go_wp2_with fail
  refine HK.out.mono ?_
  rintro e w2 ⟨rfl, hB⟩
  have hst := run_storeVar_new (P := Try.prog) w2 53 (arr64 fun _ => 0) A (by rw [hsz]; exact Try.info64) (by rw [arr64_size, hsz]) hone
  rw [zero64] at hst
  have hB2 := Lib.hid (hB.alloc hB.size (.cells A 53))
  have hR := Lib.hid (Rows8.new w2 53 A)
  have hz2 := hB.size
  have hgi : (g : Int) ≤ 64 := by omega
  have hsl : ∀ x : World, (Instr.sliceAt 53 (.pointer (some ⟨w2.heap.size, 0, none⟩)) none (some (.int .i64 (g : Int))) none).run Try.prog x = .ok (.slice (some ⟨w2.heap.size, 0, none⟩) g 64) x := fun x => by
    rw [run_sliceAt_array_h x 53 ⟨w2.heap.size, 0, none⟩ Try.underlying53 .i64 _ (by omega) (by show (g : Int) ≤ 64; omega)]
    rfl
  clear hB
  go_wp2_with (refine wpList_storeVar rfl _ _ _ rfl ⟨w2.heap.size, 0, none⟩ (.agg A) rfl rfl hst ?_)
  go_ret2
  exact ⟨_, rfl, hz2, hR.out, hB2.out⟩
theorem Try.Row_no (g h : Int) (hm : checkE g ≠ 0) (w : World) :
    Calls Try.prog 11 #[.int .i64 g, .int .u64 h] w fun e w' => e = .returned (.tuple #[.slice none 0 0, .int .i64 180]) ∧ w = w' := by
  have HC := Lib.hid (Try.Check_any g w)
  rw [checkE_not hm] at HC
  clear hm
  go_enter Try.func11, Try.ntmps11
  go_wp2_with fail
  refine HC.out.mono ?_
  rintro e w1 ⟨rfl, rfl⟩
  go_wp2_with fail
  go_ret2
  exact ⟨rfl, rfl⟩
theorem Try.At_no (g h i : Int) (hm : checkE g ≠ 0) (w : World) :
    Calls Try.prog 12 #[.int .i64 g, .int .u64 h, .int .i64 i] w fun e w' => e = .returned (.tuple #[.int .i64 0, .int .i64 180]) ∧ w = w' := by
  have HC := Lib.hid (Try.Check_any g w)
  rw [checkE_not hm] at HC
  clear hm
  go_enter Try.func12, Try.ntmps12
  go_wp2_with fail
  refine HC.out.mono ?_
  rintro e w1 ⟨rfl, rfl⟩
  go_wp2_with fail
  go_ret2
  exact ⟨rfl, rfl⟩
theorem Try.At_out (g : Nat) (h i : Int) (hm : mayB g = true) (ho : outB (g : Int) i = true) (w : World) :
    Calls Try.prog 12 #[.int .i64 (g : Int), .int .u64 h, .int .i64 i] w fun e w' => e = .returned (.tuple #[.int .i64 0, .int .i64 2]) ∧ w = w' := by
  have HC := Lib.hid (Try.Check_any (g : Int) w)
  rw [checkE_may hm] at HC
  have HO := Lib.hid (Try.outside_any (g : Int) i w)
  rw [ho] at HO
  clear hm ho
  go_enter Try.func12, Try.ntmps12
  go_wp2_with fail
  refine HC.out.mono ?_
  rintro e w1 ⟨rfl, rfl⟩
  go_wp2_with fail
  refine HO.out.mono ?_
  rintro e w1 ⟨rfl, rfl⟩
  go_wp2_with fail
  go_ret2
  exact ⟨rfl, rfl⟩
set_option maxRecDepth 100000 in
set_option maxHeartbeats 2000000 in
theorem Try.At_ok (g h i : Nat) (hm : mayB g = true) (hi : i < g) (hh : h < 18446744073709551616) (w : World) :
    Calls Try.prog 12 #[.int .i64 (g : Int), .int .u64 (h : Int), .int .i64 (i : Int)] w fun e w' => e = .returned (.tuple #[.int .i64 (rowAt g (h % g) i : Int), .int .i64 0]) ∧ Below w.heap.size w w' := by
  obtain ⟨hg, hg2⟩ := mayB_le hm
  have HC := Lib.hid (Try.Check_any (g : Int) w)
  rw [checkE_may hm] at HC
  have HO := Lib.hid (Try.outside_any (g : Int) i w)
  rw [show outB (g : Int) (i : Int) = false by simp [outB]; omega] at HO
  have HK := Lib.hid (Try.kept_any g h hg hg2 hh w)
  have hget := arr64_get (keptF g (h % g) g) i (by omega)
  rw [keptF_at hi] at hget
  have hsz := arr64_size (keptF g (h % g) g)
  generalize rowAt g (h % g) i = r at *
  generalize arr64 (keptF g (h % g) g) = A at *
  have hi64 : (i : Int) < 64 := by omega
  have hix : ∀ x : World, (Instr.index 53 (.agg A) (.int .i64 (i : Int))).run Try.prog x = .ok (.int .i64 (r : Int)) x := fun x => by
    have hi0 : (0 : Int) ≤ (i : Int) := by omega
    simp [Instr.index, asIntOf, run_underlying Try.underlying53, part, go_sem, hi0, hget, Result.andThen]
    intro hc
    omega
  clear hm hg hg2 hi
  go_enter Try.func12, Try.ntmps12
  go_wp2_with fail
  refine HC.out.mono ?_
  rintro e w1 ⟨rfl, rfl⟩
  go_wp2_with fail
  refine HO.out.mono ?_
  rintro e w1 ⟨rfl, rfl⟩
  go_wp2_with fail
  refine HK.out.mono ?_
  rintro e w2 ⟨rfl, hB⟩
  go_wp2_with fail
  go_ret2
  exact ⟨rfl, hB⟩
end Go.Proofs
