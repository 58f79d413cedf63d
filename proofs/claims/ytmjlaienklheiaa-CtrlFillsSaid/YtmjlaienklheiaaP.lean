/- Empty rows, wherever they point. -/
import Derived.Test.YtmjlaienklheiaaO
namespace Go.Proofs
set_option maxRecDepth 100000
open Go.RowKit Go.Shelf
attribute [local go_sem] Oper.semAt_some

set_option maxHeartbeats 1000000 in
theorem Try.equalEmpty_any (a1 a2 : Option Addr) (c1 c2 : Nat) (w : World) :
    Calls Try.prog 30 #[.slice a1 0 c1, .slice a2 0 c2] w fun e w' => e = .returned (.bool true) ∧ Below w.heap.size w w' := by
  go_enter Try.func30, Try.ntmps30
  go_wp2
  go_loopw [5, 13] (fun _ j wr => j = .int .i64 0 ∧ Below w.heap.size w wr) (fun _ _ _ => 0)
  case atStart => exact ⟨rfl, Below.refl _ _⟩
  case round =>
    obtain ⟨rfl, hB⟩ := hrel
    go_wp2
    go_ret
    exact ⟨rfl, hB⟩
set_option maxHeartbeats 1000000 in
theorem Try.indexEmpty_any (a : Option Addr) (cap : Nat) (w : World) :
    Calls Try.prog 80 #[.slice a 0 cap, .func (.func 76) #[] #[]] w (Found [] w) := by
  go_enter Try.func80, Try.ntmps80
  go_wp2
  go_loop [8] (fun i => i = .int .i64 0) (fun _ => 0)
  case atStart => rfl
  case round =>
    obtain rfl := hrel
    go_wp2
    go_ret
    exact ⟨-1, rfl, by simp, rfl⟩
theorem Try.containsEmpty_any (a : Option Addr) (cap : Nat) (w : World) :
    Calls Try.prog 77 #[.slice a 0 cap, .func (.func 76) #[] #[]] w fun e w' => e = .returned (.bool false) ∧ w = w' := by
  have hI := Try.indexEmpty_any a cap w
  have HI := Lib.hid hI
  clear hI
  go_enter Try.func77, Try.ntmps77
  go_wp2_with fail
  refine HI.out.mono ?_
  rintro e w' ⟨r, rfl, hr, rfl⟩
  have et : (decide (0 ≤ r)) = false := by
    rw [decide_eq_false_iff_not, hr]
    rintro ⟨z, hz, _⟩
    simp at hz
  have ET := Lib.hid et
  clear hr et
  go_wp2
  go_ret
  exact ⟨by rw [← ET.out]; rfl, rfl⟩

set_option maxRecDepth 100000 in
set_option maxHeartbeats 1000000 in
theorem Try.values1_empty_in (F : Fence) (n : Nat) (hF : F.fn 81) (hro : F.round = none) (l Bs : Nat) (a : Option Addr) (cap : Nat) (J : List (Fin 8) → World → Prop) (W : World) (hBs : W.cell? ⟨Bs, 0, none⟩ = some (.slice a 0 cap)) (h0 : J [] W) :
    CallsIn F n Try.prog 81 #[.func (.yield l) #[] #[], .pointer (some ⟨Bs, 0, none⟩)] W fun e W' => (∃ v, e = .returned v) ∧ J [] W' := by
  refine callsIn_of_wp Try.func81 rfl hF ?_ hro
  simp only [Try.ntmps81, List.size_toArray, List.length_cons, List.length_nil, Nat.reduceAdd, Nat.reduceSub, Array.replicate_succ, Array.replicate_zero, List.push_toArray, List.append_toArray, List.nil_append, List.cons_append]
  gi_wp2
  gi_loopw [7] (fun i wr => i = .int .i64 0 ∧ J [] wr) (fun _ _ => 0)
  case atStart => exact ⟨rfl, h0⟩
  case round =>
    obtain ⟨rfl, hJs⟩ := hrel
    gi_wp2
    go_end0
    exact ⟨⟨_, rfl⟩, hJs⟩
theorem Try.valuesEmpty_stops (F : Fence) (n : Nat) (hF : F.fn 81) (hro : F.round = none) (Bs h x : Nat) (a : Option Addr) (cap : Nat) (w : World) (hBs : Bs < w.heap.size)
    (hc : w.cell? ⟨Bs, 0, none⟩ = some (.slice a 0 cap)) :
    SeqStopsK F n Try.prog 81 #[.pointer (some ⟨Bs, 0, none⟩)] (fun y : Fin 8 => #[Value.int .i64 (y : Nat)]) (But h x) (fun ys => ys = []) (fun pre => pre <+: []) 0 w := fun l J _ W hW _ _ _ h0 =>
  (Try.values1_empty_in F n hF hro l Bs a cap J W ((hW.cell (p := ⟨Bs, 0, none⟩) hBs).trans hc) h0).mono fun _ _ ⟨he, hj⟩ => ⟨he, .inl ⟨_, rfl, hj⟩⟩

set_option maxHeartbeats 1000000 in
theorem Try.PutEmpty_any (x b : Nat) (hx : x < 18446744073709551616) (hb : b < 256) (a : Option Addr) (cap : Nat) (w : World) :
    Calls Try.prog 72 #[.int .u64 x, .int .u8 b, .slice a 0 cap] w fun e w' => e = .returned (.tuple #[.int .u64 x, .int .i64 0]) ∧ Below w.heap.size w w' := by
  have hB0 : Below w.heap.size w (w.alloc (.cells #[.int .u8 b] 5)) := (Below.refl _ w).alloc (Nat.le_refl _) _
  have hC := Try.containsEmpty_any a cap (w.alloc (.cells #[.int .u8 b] 5))
  have HC := Lib.hid hC
  have HX := Lib.hid hx
  have HB := Lib.hid hb
  clear hC hx hb
  go_enter Try.func72, Try.ntmps72
  go_wp2_with fail
  refine HC.out.mono ?_
  rintro e w' ⟨rfl, rfl⟩
  go_wp2_with (go_at_call 78; refine (Try.values_any _ _ _ _).mono ?_; rintro e w' ⟨rfl, rfl⟩)
  have b0 := ((Rows8.new w 5 #[.int .u8 b]).alloc (.cells #[.int .u64 x] 99)).alloc (.cells #[.slice a 0 cap] 40)
  have b1 := (Rows8.new (w.alloc (.cells #[.int .u8 b] 5)) 99 #[.int .u64 x]).alloc (.cells #[.slice a 0 cap] 40)
  have b2 := Rows8.new ((w.alloc (.cells #[.int .u8 b] 5)).alloc (.cells #[.int .u64 x] 99)) 40 #[.slice a 0 cap]
  simp only [World.size_alloc] at b1 b2
  have hB1 : Below w.heap.size w (((w.alloc (.cells #[.int .u8 b] 5)).alloc (.cells #[.int .u64 x] 99)).alloc (.cells #[.slice a 0 cap] 40)) := (hB0.alloc (by simp) _).alloc (by simp [Nat.add_assoc]) _
  have hsz : (((w.alloc (.cells #[.int .u8 b] 5)).alloc (.cells #[.int .u64 x] 99)).alloc (.cells #[.slice a 0 cap] 40)).heap.size = w.heap.size + 3 := by simp
  generalize (((w.alloc (.cells #[.int .u8 b] 5)).alloc (.cells #[.int .u64 x] 99)).alloc (.cells #[.slice a 0 cap] 40)) = W0 at *
  have HSZ := Lib.hid hsz
  clear hsz
  have hL := Try.lay_any 81 #[.pointer (some ⟨w.heap.size + 1 + 1, 0, none⟩)] 79 #[] #[.pointer (some ⟨w.heap.size, 0, none⟩)] (w.heap.size + 1) x (w.heap.size + 3) 0 (fun _ => b) [] _ W0 HX.out (fun _ => HB.out) (by rw [HSZ.out]; exact Nat.le_refl _)
    (Try.valuesEmpty_stops Fence.wide 2 trivial rfl (w.heap.size + 1 + 1) (w.heap.size + 3) (w.heap.size + 1) a cap W0 (by rw [HSZ.out]; omega) (b2.cell 0))
    (fun y W hW => Try.put1_any b w.heap.size y W ((hW.cell (a := ⟨w.heap.size, 0, none⟩) b0.lt (by simp)).trans (b0.cell 0)))
    b1 (enters_of Try.func81 (by kernel_rfl) rfl) (enters_of Try.func79 (by kernel_rfl) rfl)
  have HL := Lib.hid hL
  clear hL b0 b1 b2
  refine HL.out.mono ?_
  rintro e W1 ⟨⟨v, rfl⟩, hr, hB⟩
  have hc : W1.cell? ⟨w.heap.size + 1, 0, none⟩ = some (.int .u64 x) := hr.cell 0
  clear hr
  go_wp2_with (go_at_call 70; refine (Try.number_any _ _).mono ?_; rintro e w' ⟨rfl, rfl⟩)
  go_ret2
  exact ⟨rfl, hB1.trans (hB.below hB1.size (by omega))⟩

/-- A row that is cut, nil or wherever it points. -/
theorem Try.slice_bytes (a : Option Addr) (n c m : Nat) (ha : (a = none ∧ n = 0 ∧ c = 0 ∧ m = 0) ∨ ∃ y, a = some y) (hmn : m ≤ n) (hnc : n ≤ c) (hc : c ≤ 9223372036854775807) (W : World) :
    (Instr.slice 23 (.slice a n c) none (some (.int .i64 m)) none).run Try.prog W = .ok (.slice a m c) W := by
  rcases ha with ⟨rfl, rfl, rfl, rfl⟩ | ⟨y, rfl⟩
  · go_simp
  · go_simp
    intro h
    omega
theorem Try.slice_ints (a : Option Addr) (n c m : Nat) (ha : (a = none ∧ n = 0 ∧ c = 0 ∧ m = 0) ∨ ∃ y, a = some y) (hmn : m ≤ n) (hnc : n ≤ c) (hc : c ≤ 9223372036854775807) (W : World) :
    (Instr.slice 40 (.slice a n c) none (some (.int .i64 m)) none).run Try.prog W = .ok (.slice a m c) W := by
  rcases ha with ⟨rfl, rfl, rfl, rfl⟩ | ⟨y, rfl⟩
  · go_simp
  · go_simp
    intro h
    omega
end Go.Proofs
