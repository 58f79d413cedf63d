/- Put, First, All, Of of lanes. -/
import Derived.Test.YtmjlaienklheiaaE
import Derived.Maps.AppendAt
namespace Go.Proofs
set_option maxRecDepth 100000
open Go.RowKit Go.Shelf
attribute [local go_sem] Oper.semAt_some

set_option maxHeartbeats 1000000 in
theorem Try.Put_no (x b : Int) (a : Option Addr) (len cap : Nat) (zs : List Int) (hreach : zs.length * 8 ≤ 140737488351232) (w : World) (hI : IntsAt w (.slice a len cap) zs) (hbad : ∃ z, z ∈ zs ∧ bad z) :
    Calls Try.prog 72 #[.int .u64 x, .int .u8 b, .slice a len cap] w fun e w' => e = .returned (.tuple #[.int .u64 0, .int .i64 110]) ∧ Below w.heap.size w w' := by
  have hB0 : Below w.heap.size w (w.alloc (.cells #[.int .u8 b] 5)) := (Below.refl _ w).alloc (Nat.le_refl _) _
  have hC := Try.contains_any (.slice a len cap) zs hreach (w.alloc (.cells #[.int .u8 b] 5)) (hI.below hB0 (Nat.le_refl _)) true (by simp; exact hbad)
  have HC := Lib.hid hC
  clear hC hI hbad
  go_enter Try.func72, Try.ntmps72
  go_wp2_with fail
  refine HC.out.mono ?_
  rintro e w' ⟨rfl, rfl⟩
  go_wp2
  go_ret2
  exact ⟨rfl, hB0⟩

set_option maxHeartbeats 1000000 in
theorem Try.Put_yes (x b : Nat) (hx : x < 18446744073709551616) (hb : b < 256) (a : Option Addr) (len cap : Nat) (xs : List (Fin 8)) (hreach : xs.length * 8 ≤ 140737488351232) (w : World) (hI : IntsAt w (.slice a len cap) (lanesInt xs)) :
    Calls Try.prog 72 #[.int .u64 x, .int .u8 b, .slice a len cap] w fun e w' => e = .returned (.tuple #[.int .u64 (setAll (fun _ => b) x xs : Nat), .int .i64 0]) ∧ Below w.heap.size w w' := by
  have hB0 : Below w.heap.size w (w.alloc (.cells #[.int .u8 b] 5)) := (Below.refl _ w).alloc (Nat.le_refl _) _
  have hC := Try.contains_any (.slice a len cap) (lanesInt xs) (by simpa [lanesInt] using hreach) (w.alloc (.cells #[.int .u8 b] 5)) (hI.below hB0 (Nat.le_refl _)) false (by
    simp only [Bool.false_eq_true, false_iff]
    rintro ⟨z, hz, hz'⟩
    obtain ⟨y, _, rfl⟩ := List.mem_map.1 hz
    have := y.isLt
    rcases hz' with h | h <;> omega)
  have HC := Lib.hid hC
  have HI := Lib.hid hI
  have HX := Lib.hid hx
  have HB := Lib.hid hb
  clear hC hI hx hb
  go_enter Try.func72, Try.ntmps72
  go_wp2_with fail
  refine HC.out.mono ?_
  rintro e w' ⟨rfl, rfl⟩
  go_wp2_with (go_at_call 78; refine (Try.values_any _ _ _ _).mono ?_; rintro e w' ⟨rfl, rfl⟩)
  have b0 := ((Rows8.new w 5 #[.int .u8 b]).alloc (.cells #[.int .u64 x] 99)).alloc (.cells #[.slice a len cap] 40)
  have b1 := (Rows8.new (w.alloc (.cells #[.int .u8 b] 5)) 99 #[.int .u64 x]).alloc (.cells #[.slice a len cap] 40)
  have b2 := Rows8.new ((w.alloc (.cells #[.int .u8 b] 5)).alloc (.cells #[.int .u64 x] 99)) 40 #[.slice a len cap]
  simp only [World.size_alloc] at b1 b2
  have hB1 : Below w.heap.size w (((w.alloc (.cells #[.int .u8 b] 5)).alloc (.cells #[.int .u64 x] 99)).alloc (.cells #[.slice a len cap] 40)) := (hB0.alloc (by simp) _).alloc (by simp [Nat.add_assoc]) _
  have hsz : (((w.alloc (.cells #[.int .u8 b] 5)).alloc (.cells #[.int .u64 x] 99)).alloc (.cells #[.slice a len cap] 40)).heap.size = w.heap.size + 3 := by simp
  generalize (((w.alloc (.cells #[.int .u8 b] 5)).alloc (.cells #[.int .u64 x] 99)).alloc (.cells #[.slice a len cap] 40)) = W0 at *
  have HSZ := Lib.hid hsz
  clear hsz
  have hL := Try.lay_any 81 #[.pointer (some ⟨w.heap.size + 1 + 1, 0, none⟩)] 79 #[] #[.pointer (some ⟨w.heap.size, 0, none⟩)] (w.heap.size + 1) x (w.heap.size + 3) xs.length (fun _ => b) xs _ W0 HX.out (fun _ => HB.out) (by rw [HSZ.out]; exact Nat.le_refl _)
    (Try.values_stops Fence.wide 2 trivial rfl (by omega) (w.heap.size + 1 + 1) (w.heap.size + 3) (w.heap.size + 1) (.slice a len cap) xs hreach W0 (by rw [HSZ.out]; omega) (b2.cell 0) ⟨w, HI.out, hB1, by omega, by omega⟩)
    (fun y W hW => Try.put1_any b w.heap.size y W ((hW.cell (a := ⟨w.heap.size, 0, none⟩) b0.lt (by simp)).trans (b0.cell 0)))
    b1 (enters_of Try.func81 (by kernel_rfl) rfl) (enters_of Try.func79 (by kernel_rfl) rfl)
  have HL := Lib.hid hL
  clear hL b0 b1 b2
  refine HL.out.mono ?_
  rintro e W1 ⟨⟨v, rfl⟩, hr, hB⟩
  have hc : W1.cell? ⟨w.heap.size + 1, 0, none⟩ = some (.int .u64 (setAll (fun _ => b) x xs : Nat)) := hr.cell 0
  clear hr
  go_wp2_with (go_at_call 70; refine (Try.number_any _ _).mono ?_; rintro e w' ⟨rfl, rfl⟩)
  go_ret2
  exact ⟨rfl, hB1.trans (hB.below hB1.size (by omega))⟩

theorem Rows8.keep {A B : World} {row : Option Nat} {b : Nat} {t : TypeId} {cs : Array Value} (p : Rows8 A b t cs) (hg : A.grownBy B row) (hr : ∀ r, row = some r → ∃ o : Obj, A.heap[r]? = some o ∧ o.isCells = false) : Rows8 B b t cs :=
  Rows8.own (β := Unit) b t (fun _ => cs) () A B row p hg hr

/-- What First tells of the lanes of a mask. -/
def firstV : List (Fin 8) → Value
  | [] => .tuple #[.int .i64 0, .bool false]
  | y :: _ => .tuple #[.int .i64 (y : Nat), .bool true]

end Go.Proofs
