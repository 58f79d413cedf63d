/- What a hand does. -/
import Derived.Test.YtafccppobhhelaaCb
namespace Go.Proofs
open Go.RowKit Go.Shelf
attribute [local go_sem] Oper.semAt_some

/-- A cell behind an interface: the word lies at b, k. -/
def IsCell (T : TypeId) (v : Value) (b k : Nat) : Prop := (T = 101 ∧ v = .slice (some ⟨b, k, none⟩) 1 1) ∨ (T = 126 ∧ v = .pointer (some ⟨b, k, none⟩))
theorem isCell_ways {T : TypeId} {v : Value} {b k : Nat} (h : IsCell T v b k) : ∃ KL KC,
    (∀ W, (method 310 T v "Load").run Try.prog W = .ok (KL, v) W) ∧ (∀ W, (method 310 T v "CompareAndSwap").run Try.prog W = .ok (KC, v) W) ∧
    (∀ args W, (callFunc KL args).run Try.prog W = .ok (.enter KL args) W) ∧ (∀ args W, (callFunc KC args).run Try.prog W = .ok (.enter KC args) W) ∧
    (∀ x W, W.cell? ⟨b, k, none⟩ = some (.int .u64 x) → Calls Try.prog KL #[v] W fun e w' => e = .returned (.int .u64 x) ∧ W = w') ∧
    (∀ x y W, W.cell? ⟨b, k, none⟩ = some (.int .u64 x) → W.frozen? ⟨b, k, none⟩ = false → Calls Try.prog KC #[v, .int .u64 x, .int .u64 y] W fun e w' => e = .returned (.bool true) ∧ w' = W.setCell ⟨b, k, none⟩ (.int .u64 y)) := by
  rcases h with ⟨rfl, rfl⟩ | ⟨rfl, rfl⟩
  · refine ⟨161, 71, fun W => by kernel_rfl, fun W => by kernel_rfl, fun args W => by kernel_rfl, fun args W => by kernel_rfl, fun x W hc => Try.plainLoad_any b k x W hc, fun x y W hc hf => ?_⟩
    refine (Try.plainCas_any b k x x y W hc hf).mono ?_
    rintro e w' ⟨rfl, rfl⟩
    exact ⟨by simp, by simp⟩
  · refine ⟨75, 162, fun W => by kernel_rfl, fun W => by kernel_rfl, fun args W => by kernel_rfl, fun args W => by kernel_rfl, fun x W hc => Try.atomLoad_any b k x W hc, fun x y W hc hf => ?_⟩
    refine (Try.atomCas_any b k x x y W hc hf).mono ?_
    rintro e w' ⟨rfl, rfl⟩
    exact ⟨by simp, by simp⟩

theorem HandAt.of {W : World} {B : Nat} {who kind pl old new : Int} {c : Value} (h : Rows8 W B 106 #[.int .i64 who, .int .i64 kind, .int .i64 pl, .int .u64 old, .int .u64 new, c]) : HandAt W B who kind pl old new c := h

set_option maxHeartbeats 1000000 in
theorem Try.handLoad_any (T : TypeId) (v : Value) (b k : Nat) (hI : IsCell T v b k) (h who kind pl old new : Int) (w : World) (hb : b < w.heap.size) (hc : w.cell? ⟨b, k, none⟩ = some (.int .u64 h)) :
    Calls Try.prog 91 #[.agg #[.int .i64 who, .int .i64 kind, .int .i64 pl, .int .u64 old, .int .u64 new, .iface T v]] w fun e w' =>
      e = .returned (.agg #[.int .u64 h, .bool true]) ∧ Below w.heap.size w w' := by
  obtain ⟨KL, KC, mL, mC, eL, eC, hL, hC⟩ := isCell_ways hI
  have HL := Lib.hid hL
  clear hL hC mC eC hI
  go_enter Try.func91, Try.ntmps91
  go_wp2_with fail
  have b0 := Rows8.new w 106 #[.int .i64 who, .int .i64 kind, .int .i64 pl, .int .u64 old, .int .u64 new, .iface T v]
  have b1 := Rows8.new (w.alloc (.cells #[.int .i64 who, .int .i64 kind, .int .i64 pl, .int .u64 old, .int .u64 new, .iface T v] 106)) 27 #[.int .u64 0, .bool false]
  have hB0 : Below w.heap.size w ((w.alloc (.cells #[.int .i64 who, .int .i64 kind, .int .i64 pl, .int .u64 old, .int .u64 new, .iface T v] 106)).alloc (.cells #[.int .u64 0, .bool false] 27)) := ((Below.refl _ w).alloc (Nat.le_refl _) _).alloc (by simp) _
  rw [World.size_alloc] at b1
  generalize ((w.alloc (.cells #[.int .i64 who, .int .i64 kind, .int .i64 pl, .int .u64 old, .int .u64 new, .iface T v] 106)).alloc (.cells #[.int .u64 0, .bool false] 27)) = W0 at *
  refine (HL.out h _ ((hB0.cell (p := ⟨b, k, none⟩) hb).trans hc)).mono ?_
  rintro e w' ⟨rfl, rfl⟩
  have s0 := b1.cell 0
  have s1 := b1.cell 1
  have f0 := b1.frozen 0
  have f1 := b1.frozen 1
  simp at s0 s1
  go_wp2_with fail
  have cE := b1.set2 (.int .u64 h) (.bool true)
  refine bodyPost_ret (results_cell_row rfl _ _ (w.heap.size + 1) 27 _ (0, 0) _ rfl cE Try.underlying27 rfl (by kernel_rfl)) rfl ?_
  exact ⟨rfl, (hB0.setCell (p := ⟨w.heap.size + 1, 0, none⟩) (by simp) _).setCell (p := ⟨w.heap.size + 1, 1, none⟩) (by simp) _⟩

set_option maxHeartbeats 1000000 in
theorem Try.handStore_any (T : TypeId) (v : Value) (b k : Nat) (hI : IsCell T v b k) (h who kind pl old new : Int) (w : World) (hb : b < w.heap.size) (hc : w.cell? ⟨b, k, none⟩ = some (.int .u64 h)) (hf : w.frozen? ⟨b, k, none⟩ = false) :
    Calls Try.prog 92 #[.agg #[.int .i64 who, .int .i64 kind, .int .i64 pl, .int .u64 old, .int .u64 new, .iface T v]] w fun e w' =>
      e = .returned (.agg #[.int .u64 h, .bool true]) ∧ Below w.heap.size (w.setCell ⟨b, k, none⟩ (.int .u64 new)) w' := by
  obtain ⟨KL, KC, mL, mC, eL, eC, hL, hC⟩ := isCell_ways hI
  have hmf : ∀ (fn : Fn) (first cap : Array Value) (w : World), (Instr.makeFunc fn first cap).run Try.prog w = .ok (.func fn first cap) w := fun _ _ _ _ => rfl
  have b0 := Rows8.new w 106 #[.int .i64 who, .int .i64 kind, .int .i64 pl, .int .u64 old, .int .u64 new, .iface T v]
  have b1 := Rows8.new (w.alloc (.cells #[.int .i64 who, .int .i64 kind, .int .i64 pl, .int .u64 old, .int .u64 new, .iface T v] 106)) 27 #[.int .u64 0, .bool false]
  have b0' := b0.alloc (.cells #[.int .u64 0, .bool false] 27)
  have hB0 : Below w.heap.size w ((w.alloc (.cells #[.int .i64 who, .int .i64 kind, .int .i64 pl, .int .u64 old, .int .u64 new, .iface T v] 106)).alloc (.cells #[.int .u64 0, .bool false] 27)) := ((Below.refl _ w).alloc (Nat.le_refl _) _).alloc (by simp) _
  rw [World.size_alloc] at b1
  have HMT := Lib.hid fun W (hW : Below w.heap.size w W) (hR : Rows8 W w.heap.size 106 #[.int .i64 who, .int .i64 kind, .int .i64 pl, .int .u64 old, .int .u64 new, .iface T v]) =>
    Try.try_gen T v KL KC 119 w.heap.size b k h new true who kind pl old new W (Nat.lt_of_lt_of_le hb hW.size) mL mC eL eC (fun args W => by kernel_rfl)
      (fun W' hW' => hL h W' ((hW'.cell (p := ⟨b, k, none⟩) (Nat.lt_of_lt_of_le hb hW.size)).trans ((hW.cell (p := ⟨b, k, none⟩) hb).trans hc)))
      (fun W' hW' => hC h new W' ((hW'.cell (p := ⟨b, k, none⟩) (Nat.lt_of_lt_of_le hb hW.size)).trans ((hW.cell (p := ⟨b, k, none⟩) hb).trans hc)) ((hW'.frozen (p := ⟨b, k, none⟩) (Nat.lt_of_lt_of_le hb hW.size)).trans ((hW.frozen (p := ⟨b, k, none⟩) hb).trans hf)))
      (fun W' hW' => Try.store1_any w.heap.size h who kind pl old new _ W' (HandAt.of (hR.below hW' hR.lt)))
  clear hL hC mL mC eL eC hI
  go_enter Try.func92, Try.ntmps92
  go_wp2_with fail
  generalize ((w.alloc (.cells #[.int .i64 who, .int .i64 kind, .int .i64 pl, .int .u64 old, .int .u64 new, .iface T v] 106)).alloc (.cells #[.int .u64 0, .bool false] 27)) = W0 at *
  refine (HMT.out W0 hB0 b0').mono ?_
  rintro e W1 ⟨rfl, hB1⟩
  simp only [if_true] at hB1
  have hB2 := (below_setBoth hB0 (a := ⟨b, k, none⟩) (.int .u64 new)).trans (hB1.mono (by simpa [World.setCell] using hB0.size))
  have hsz : W0.heap.size ≤ W1.heap.size := by simpa [World.setCell] using hB1.size
  have c1 : Rows8 W1 (w.heap.size + 1) 27 #[.int .u64 0, .bool false] := (Rows8.setOther b1 (a := ⟨b, k, none⟩) (by simp; omega) (.int .u64 new)).below hB1 b1.lt
  clear hB1 b1 b0' hB0 HMT b0
  have s0 := c1.cell 0
  have s1 := c1.cell 1
  have f0 := c1.frozen 0
  have f1 := c1.frozen 1
  simp at s0 s1
  have HB2 := Lib.hid hB2
  clear hB2
  go_wp2_with fail
  have cE := c1.set2 (.int .u64 h) (.bool true)
  refine bodyPost_ret (results_cell_row rfl _ _ (w.heap.size + 1) 27 _ (0, 0) _ rfl cE Try.underlying27 rfl (by kernel_rfl)) rfl ?_
  exact ⟨by simp, (HB2.out.setCell (p := ⟨w.heap.size + 1, 0, none⟩) (by simp) _).setCell (p := ⟨w.heap.size + 1, 1, none⟩) (by simp) _⟩

set_option maxHeartbeats 1000000 in
theorem Try.handAdd_any (T : TypeId) (v : Value) (b k : Nat) (hI : IsCell T v b k) (h who kind pl old new : Int) (w : World) (hb : b < w.heap.size) (hc : w.cell? ⟨b, k, none⟩ = some (.int .u64 h)) (hf : w.frozen? ⟨b, k, none⟩ = false) :
    Calls Try.prog 94 #[.agg #[.int .i64 who, .int .i64 kind, .int .i64 pl, .int .u64 old, .int .u64 new, .iface T v]] w fun e w' =>
      e = .returned (.agg #[.int .u64 h, .bool true]) ∧ Below w.heap.size (w.setCell ⟨b, k, none⟩ (.int .u64 (IntKind.u64.wrap (h + new)))) w' := by
  obtain ⟨KL, KC, mL, mC, eL, eC, hL, hC⟩ := isCell_ways hI
  have hmf : ∀ (fn : Fn) (first cap : Array Value) (w : World), (Instr.makeFunc fn first cap).run Try.prog w = .ok (.func fn first cap) w := fun _ _ _ _ => rfl
  have b0 := Rows8.new w 106 #[.int .i64 who, .int .i64 kind, .int .i64 pl, .int .u64 old, .int .u64 new, .iface T v]
  have b1 := Rows8.new (w.alloc (.cells #[.int .i64 who, .int .i64 kind, .int .i64 pl, .int .u64 old, .int .u64 new, .iface T v] 106)) 27 #[.int .u64 0, .bool false]
  have b0' := b0.alloc (.cells #[.int .u64 0, .bool false] 27)
  have hB0 : Below w.heap.size w ((w.alloc (.cells #[.int .i64 who, .int .i64 kind, .int .i64 pl, .int .u64 old, .int .u64 new, .iface T v] 106)).alloc (.cells #[.int .u64 0, .bool false] 27)) := ((Below.refl _ w).alloc (Nat.le_refl _) _).alloc (by simp) _
  rw [World.size_alloc] at b1
  have HMT := Lib.hid fun W (hW : Below w.heap.size w W) (hR : Rows8 W w.heap.size 106 #[.int .i64 who, .int .i64 kind, .int .i64 pl, .int .u64 old, .int .u64 new, .iface T v]) =>
    Try.try_gen T v KL KC 121 w.heap.size b k h (IntKind.u64.wrap (h + new)) true who kind pl old new W (Nat.lt_of_lt_of_le hb hW.size) mL mC eL eC (fun args W => by kernel_rfl)
      (fun W' hW' => hL h W' ((hW'.cell (p := ⟨b, k, none⟩) (Nat.lt_of_lt_of_le hb hW.size)).trans ((hW.cell (p := ⟨b, k, none⟩) hb).trans hc)))
      (fun W' hW' => hC h (IntKind.u64.wrap (h + new)) W' ((hW'.cell (p := ⟨b, k, none⟩) (Nat.lt_of_lt_of_le hb hW.size)).trans ((hW.cell (p := ⟨b, k, none⟩) hb).trans hc)) ((hW'.frozen (p := ⟨b, k, none⟩) (Nat.lt_of_lt_of_le hb hW.size)).trans ((hW.frozen (p := ⟨b, k, none⟩) hb).trans hf)))
      (fun W' hW' => Try.add1_any w.heap.size h who kind pl old new _ W' (HandAt.of (hR.below hW' hR.lt)))
  clear hL hC mL mC eL eC hI
  go_enter Try.func94, Try.ntmps94
  go_wp2_with fail
  generalize ((w.alloc (.cells #[.int .i64 who, .int .i64 kind, .int .i64 pl, .int .u64 old, .int .u64 new, .iface T v] 106)).alloc (.cells #[.int .u64 0, .bool false] 27)) = W0 at *
  refine (HMT.out W0 hB0 b0').mono ?_
  rintro e W1 ⟨rfl, hB1⟩
  simp only [if_true] at hB1
  have hB2 := (below_setBoth hB0 (a := ⟨b, k, none⟩) (.int .u64 (IntKind.u64.wrap (h + new)))).trans (hB1.mono (by simpa [World.setCell] using hB0.size))
  have hsz : W0.heap.size ≤ W1.heap.size := by simpa [World.setCell] using hB1.size
  have c1 : Rows8 W1 (w.heap.size + 1) 27 #[.int .u64 0, .bool false] := (Rows8.setOther b1 (a := ⟨b, k, none⟩) (by simp; omega) (.int .u64 (IntKind.u64.wrap (h + new)))).below hB1 b1.lt
  clear hB1 b1 b0' hB0 HMT b0
  have s0 := c1.cell 0
  have s1 := c1.cell 1
  have f0 := c1.frozen 0
  have f1 := c1.frozen 1
  simp at s0 s1
  have HB2 := Lib.hid hB2
  clear hB2
  go_wp2_with fail
  have cE := c1.set2 (.int .u64 h) (.bool true)
  refine bodyPost_ret (results_cell_row rfl _ _ (w.heap.size + 1) 27 _ (0, 0) _ rfl cE Try.underlying27 rfl (by kernel_rfl)) rfl ?_
  exact ⟨by simp, (HB2.out.setCell (p := ⟨w.heap.size + 1, 0, none⟩) (by simp) _).setCell (p := ⟨w.heap.size + 1, 1, none⟩) (by simp) _⟩

set_option maxHeartbeats 1000000 in
theorem Try.handSwapYes_any (T : TypeId) (v : Value) (b k : Nat) (hI : IsCell T v b k) (h who kind pl old new : Int) (he : (h == old) = true) (w : World) (hb : b < w.heap.size) (hc : w.cell? ⟨b, k, none⟩ = some (.int .u64 h)) (hf : w.frozen? ⟨b, k, none⟩ = false) :
    Calls Try.prog 93 #[.agg #[.int .i64 who, .int .i64 kind, .int .i64 pl, .int .u64 old, .int .u64 new, .iface T v]] w fun e w' =>
      e = .returned (.agg #[.int .u64 h, .bool true]) ∧ Below w.heap.size (w.setCell ⟨b, k, none⟩ (.int .u64 new)) w' := by
  obtain ⟨KL, KC, mL, mC, eL, eC, hL, hC⟩ := isCell_ways hI
  have hmf : ∀ (fn : Fn) (first cap : Array Value) (w : World), (Instr.makeFunc fn first cap).run Try.prog w = .ok (.func fn first cap) w := fun _ _ _ _ => rfl
  have b0 := Rows8.new w 106 #[.int .i64 who, .int .i64 kind, .int .i64 pl, .int .u64 old, .int .u64 new, .iface T v]
  have b1 := Rows8.new (w.alloc (.cells #[.int .i64 who, .int .i64 kind, .int .i64 pl, .int .u64 old, .int .u64 new, .iface T v] 106)) 27 #[.int .u64 0, .bool false]
  have b0' := b0.alloc (.cells #[.int .u64 0, .bool false] 27)
  have hB0 : Below w.heap.size w ((w.alloc (.cells #[.int .i64 who, .int .i64 kind, .int .i64 pl, .int .u64 old, .int .u64 new, .iface T v] 106)).alloc (.cells #[.int .u64 0, .bool false] 27)) := ((Below.refl _ w).alloc (Nat.le_refl _) _).alloc (by simp) _
  rw [World.size_alloc] at b1
  have HMT := Lib.hid fun W (hW : Below w.heap.size w W) (hR : Rows8 W w.heap.size 106 #[.int .i64 who, .int .i64 kind, .int .i64 pl, .int .u64 old, .int .u64 new, .iface T v]) =>
    Try.try_gen T v KL KC 120 w.heap.size b k h new true who kind pl old new W (Nat.lt_of_lt_of_le hb hW.size) mL mC eL eC (fun args W => by kernel_rfl)
      (fun W' hW' => hL h W' ((hW'.cell (p := ⟨b, k, none⟩) (Nat.lt_of_lt_of_le hb hW.size)).trans ((hW.cell (p := ⟨b, k, none⟩) hb).trans hc)))
      (fun W' hW' => hC h new W' ((hW'.cell (p := ⟨b, k, none⟩) (Nat.lt_of_lt_of_le hb hW.size)).trans ((hW.cell (p := ⟨b, k, none⟩) hb).trans hc)) ((hW'.frozen (p := ⟨b, k, none⟩) (Nat.lt_of_lt_of_le hb hW.size)).trans ((hW.frozen (p := ⟨b, k, none⟩) hb).trans hf)))
      (fun W' hW' => by have hs := Try.swap1_any w.heap.size h who kind pl old new _ W' (HandAt.of (hR.below hW' hR.lt)); rw [he] at hs; exact hs)
  clear hL hC mL mC eL eC hI
  go_enter Try.func93, Try.ntmps93
  go_wp2_with fail
  generalize ((w.alloc (.cells #[.int .i64 who, .int .i64 kind, .int .i64 pl, .int .u64 old, .int .u64 new, .iface T v] 106)).alloc (.cells #[.int .u64 0, .bool false] 27)) = W0 at *
  refine (HMT.out W0 hB0 b0').mono ?_
  rintro e W1 ⟨rfl, hB1⟩
  simp only [if_true] at hB1
  have hB2 := (below_setBoth hB0 (a := ⟨b, k, none⟩) (.int .u64 new)).trans (hB1.mono (by simpa [World.setCell] using hB0.size))
  have hsz : W0.heap.size ≤ W1.heap.size := by simpa [World.setCell] using hB1.size
  have c1 : Rows8 W1 (w.heap.size + 1) 27 #[.int .u64 0, .bool false] := (Rows8.setOther b1 (a := ⟨b, k, none⟩) (by simp; omega) (.int .u64 new)).below hB1 b1.lt
  clear hB1 b1 b0' hB0 HMT b0
  have s0 := c1.cell 0
  have s1 := c1.cell 1
  have f0 := c1.frozen 0
  have f1 := c1.frozen 1
  simp at s0 s1
  have HB2 := Lib.hid hB2
  clear hB2
  go_wp2_with fail
  have cE := c1.set2 (.int .u64 h) (.bool true)
  refine bodyPost_ret (results_cell_row rfl _ _ (w.heap.size + 1) 27 _ (0, 0) _ rfl cE Try.underlying27 rfl (by kernel_rfl)) rfl ?_
  exact ⟨by simp, (HB2.out.setCell (p := ⟨w.heap.size + 1, 0, none⟩) (by simp) _).setCell (p := ⟨w.heap.size + 1, 1, none⟩) (by simp) _⟩

set_option maxHeartbeats 1000000 in
theorem Try.handSwapNo_any (T : TypeId) (v : Value) (b k : Nat) (hI : IsCell T v b k) (h who kind pl old new : Int) (he : (h == old) = false) (w : World) (hb : b < w.heap.size) (hc : w.cell? ⟨b, k, none⟩ = some (.int .u64 h)) (hf : w.frozen? ⟨b, k, none⟩ = false) :
    Calls Try.prog 93 #[.agg #[.int .i64 who, .int .i64 kind, .int .i64 pl, .int .u64 old, .int .u64 new, .iface T v]] w fun e w' =>
      e = .returned (.agg #[.int .u64 h, .bool false]) ∧ Below w.heap.size w w' := by
  obtain ⟨KL, KC, mL, mC, eL, eC, hL, hC⟩ := isCell_ways hI
  have hmf : ∀ (fn : Fn) (first cap : Array Value) (w : World), (Instr.makeFunc fn first cap).run Try.prog w = .ok (.func fn first cap) w := fun _ _ _ _ => rfl
  have b0 := Rows8.new w 106 #[.int .i64 who, .int .i64 kind, .int .i64 pl, .int .u64 old, .int .u64 new, .iface T v]
  have b1 := Rows8.new (w.alloc (.cells #[.int .i64 who, .int .i64 kind, .int .i64 pl, .int .u64 old, .int .u64 new, .iface T v] 106)) 27 #[.int .u64 0, .bool false]
  have b0' := b0.alloc (.cells #[.int .u64 0, .bool false] 27)
  have hB0 : Below w.heap.size w ((w.alloc (.cells #[.int .i64 who, .int .i64 kind, .int .i64 pl, .int .u64 old, .int .u64 new, .iface T v] 106)).alloc (.cells #[.int .u64 0, .bool false] 27)) := ((Below.refl _ w).alloc (Nat.le_refl _) _).alloc (by simp) _
  rw [World.size_alloc] at b1
  have HMT := Lib.hid fun W (hW : Below w.heap.size w W) (hR : Rows8 W w.heap.size 106 #[.int .i64 who, .int .i64 kind, .int .i64 pl, .int .u64 old, .int .u64 new, .iface T v]) =>
    Try.try_gen T v KL KC 120 w.heap.size b k h new false who kind pl old new W (Nat.lt_of_lt_of_le hb hW.size) mL mC eL eC (fun args W => by kernel_rfl)
      (fun W' hW' => hL h W' ((hW'.cell (p := ⟨b, k, none⟩) (Nat.lt_of_lt_of_le hb hW.size)).trans ((hW.cell (p := ⟨b, k, none⟩) hb).trans hc)))
      (fun W' hW' => hC h new W' ((hW'.cell (p := ⟨b, k, none⟩) (Nat.lt_of_lt_of_le hb hW.size)).trans ((hW.cell (p := ⟨b, k, none⟩) hb).trans hc)) ((hW'.frozen (p := ⟨b, k, none⟩) (Nat.lt_of_lt_of_le hb hW.size)).trans ((hW.frozen (p := ⟨b, k, none⟩) hb).trans hf)))
      (fun W' hW' => by have hs := Try.swap1_any w.heap.size h who kind pl old new _ W' (HandAt.of (hR.below hW' hR.lt)); rw [he] at hs; exact hs)
  clear hL hC mL mC eL eC hI
  go_enter Try.func93, Try.ntmps93
  go_wp2_with fail
  generalize ((w.alloc (.cells #[.int .i64 who, .int .i64 kind, .int .i64 pl, .int .u64 old, .int .u64 new, .iface T v] 106)).alloc (.cells #[.int .u64 0, .bool false] 27)) = W0 at *
  refine (HMT.out W0 hB0 b0').mono ?_
  rintro e W1 ⟨rfl, hB1⟩
  simp only [Bool.false_eq_true, if_false] at hB1
  have hB2 := hB0.trans (hB1.mono hB0.size)
  have hsz : W0.heap.size ≤ W1.heap.size := hB1.size
  have c1 : Rows8 W1 (w.heap.size + 1) 27 #[.int .u64 0, .bool false] := b1.below hB1 b1.lt
  clear hB1 b1 b0' hB0 HMT b0
  have s0 := c1.cell 0
  have s1 := c1.cell 1
  have f0 := c1.frozen 0
  have f1 := c1.frozen 1
  simp at s0 s1
  have HB2 := Lib.hid hB2
  clear hB2
  go_wp2_with fail
  have cE := c1.set2 (.int .u64 h) (.bool false)
  refine bodyPost_ret (results_cell_row rfl _ _ (w.heap.size + 1) 27 _ (0, 0) _ rfl cE Try.underlying27 rfl (by kernel_rfl)) rfl ?_
  exact ⟨by simp, (HB2.out.setCell (p := ⟨w.heap.size + 1, 0, none⟩) (by simp) _).setCell (p := ⟨w.heap.size + 1, 1, none⟩) (by simp) _⟩

/-- What a cell that held h holds behind an access, and whether it is done. -/
def doneOf (kind old h : Int) : Bool := !(kind == 3) || h == old
def nextOf (kind old new h : Int) : Int := if kind = 2 then new else if kind = 4 then IntKind.u64.wrap (h + new) else if kind = 3 ∧ h = old then new else h
def afterOf (kind old new h : Int) (a : Addr) (w : World) : World := if kind ≠ 1 ∧ doneOf kind old h = true then w.setCell a (.int .u64 (nextOf kind old new h)) else w

set_option maxRecDepth 100000 in
set_option maxHeartbeats 2000000 in
theorem Try.do_any (T : TypeId) (v : Value) (b k : Nat) (hI : IsCell T v b k) (h who kind pl old new : Int) (hk : 1 ≤ kind ∧ kind ≤ 4) (w : World) (hb : b < w.heap.size) (hc : w.cell? ⟨b, k, none⟩ = some (.int .u64 h)) (hf : w.frozen? ⟨b, k, none⟩ = false) :
    Calls Try.prog 66 #[.agg #[.int .i64 who, .int .i64 kind, .int .i64 pl, .int .u64 old, .int .u64 new, .iface T v]] w fun e w' =>
      e = .returned (.agg #[.int .u64 h, .bool (doneOf kind old h)]) ∧ Below w.heap.size (afterOf kind old new h ⟨b, k, none⟩ w) w' := by
  have hmf : ∀ (fn : Fn) (first cap : Array Value) (w : World), (Instr.makeFunc fn first cap).run Try.prog w = .ok (.func fn first cap) w := fun _ _ _ _ => rfl
  have b0 := Rows8.new w 106 #[.int .i64 who, .int .i64 kind, .int .i64 pl, .int .u64 old, .int .u64 new, .iface T v]
  have b1 := Rows8.new (w.alloc (.cells #[.int .i64 who, .int .i64 kind, .int .i64 pl, .int .u64 old, .int .u64 new, .iface T v] 106)) 27 #[.int .u64 0, .bool false]
  have b0' := b0.alloc (.cells #[.int .u64 0, .bool false] 27)
  have hB0 : Below w.heap.size w ((w.alloc (.cells #[.int .i64 who, .int .i64 kind, .int .i64 pl, .int .u64 old, .int .u64 new, .iface T v] 106)).alloc (.cells #[.int .u64 0, .bool false] 27)) := ((Below.refl _ w).alloc (Nat.le_refl _) _).alloc (by simp) _
  rw [World.size_alloc] at b1
  have h1 : kind = 1 ∨ kind = 2 ∨ kind = 3 ∨ kind = 4 := by omega
  have hq : ∃ K, (kind = 1 ∧ K = 91 ∨ kind = 2 ∧ K = 92 ∨ kind = 3 ∧ K = 93 ∨ kind = 4 ∧ K = 94) ∧ ∀ W, Below w.heap.size w W → Calls Try.prog K #[.agg #[.int .i64 who, .int .i64 kind, .int .i64 pl, .int .u64 old, .int .u64 new, .iface T v]] W fun e w' =>
      e = .returned (.agg #[.int .u64 h, .bool (doneOf kind old h)]) ∧ Below W.heap.size (afterOf kind old new h ⟨b, k, none⟩ W) w' := by
    have hbW : ∀ W, Below w.heap.size w W → b < W.heap.size := fun W hW => Nat.lt_of_lt_of_le hb hW.size
    have hcW : ∀ W, Below w.heap.size w W → W.cell? ⟨b, k, none⟩ = some (.int .u64 h) := fun W hW => (hW.cell (p := ⟨b, k, none⟩) hb).trans hc
    have hfW : ∀ W, Below w.heap.size w W → W.frozen? ⟨b, k, none⟩ = false := fun W hW => (hW.frozen (p := ⟨b, k, none⟩) hb).trans hf
    rcases h1 with rfl | rfl | rfl | rfl
    · exact ⟨_, .inl ⟨rfl, rfl⟩, fun W hW => by simpa [doneOf, afterOf] using Try.handLoad_any T v b k hI h who 1 pl old new W (hbW W hW) (hcW W hW)⟩
    · exact ⟨_, .inr (.inl ⟨rfl, rfl⟩), fun W hW => by simpa [doneOf, afterOf, nextOf] using Try.handStore_any T v b k hI h who 2 pl old new W (hbW W hW) (hcW W hW) (hfW W hW)⟩
    · refine ⟨_, .inr (.inr (.inl ⟨rfl, rfl⟩)), fun W hW => ?_⟩
      by_cases he : h = old
      · have he' : (h == old) = true := by simp [he]
        simpa [doneOf, afterOf, nextOf, he] using Try.handSwapYes_any T v b k hI h who 3 pl old new he' W (hbW W hW) (hcW W hW) (hfW W hW)
      · have he' : (h == old) = false := by simp [he]
        simpa [doneOf, afterOf, nextOf, he, he'] using Try.handSwapNo_any T v b k hI h who 3 pl old new he' W (hbW W hW) (hcW W hW) (hfW W hW)
    · exact ⟨_, .inr (.inr (.inr ⟨rfl, rfl⟩)), fun W hW => by simpa [doneOf, afterOf, nextOf] using Try.handAdd_any T v b k hI h who 4 pl old new W (hbW W hW) (hcW W hW) (hfW W hW)⟩
  obtain ⟨K, hK, hQ⟩ := hq
  have hfin : ∀ W0 w', Below w.heap.size w W0 → Below W0.heap.size (afterOf kind old new h ⟨b, k, none⟩ W0) w' → Below w.heap.size (afterOf kind old new h ⟨b, k, none⟩ w) w' ∧ (∀ B t cs, Rows8 W0 B t cs → b ≠ B → Rows8 w' B t cs) := by
    intro W0 w' h1 h2
    unfold afterOf at h2 ⊢
    split at h2 <;> rename_i hcd
    · rw [if_pos hcd]
      exact ⟨(below_setBoth h1 (a := ⟨b, k, none⟩) _).trans (h2.mono (by simpa [World.setCell] using h1.size)), fun B t cs hR hne => (Rows8.setOther hR (a := ⟨b, k, none⟩) hne _).below h2 hR.lt⟩
    · rw [if_neg hcd]
      exact ⟨h1.trans (h2.mono h1.size), fun B t cs hR _ => hR.below h2 hR.lt⟩
  have HQ := Lib.hid hQ
  have HF := Lib.hid hfin
  have x1 : ∀ (a0 a1 a2 a3 a4 : Value) (W : World), (Instr.index 149 (.agg #[a0, a1, a2, a3, a4]) (.int .i64 1)).run Try.prog W = .ok a1 W := fun _ _ _ _ _ _ => by kernel_rfl
  have x2 : ∀ (a0 a1 a2 a3 a4 : Value) (W : World), (Instr.index 149 (.agg #[a0, a1, a2, a3, a4]) (.int .i64 2)).run Try.prog W = .ok a2 W := fun _ _ _ _ _ _ => by kernel_rfl
  have x3 : ∀ (a0 a1 a2 a3 a4 : Value) (W : World), (Instr.index 149 (.agg #[a0, a1, a2, a3, a4]) (.int .i64 3)).run Try.prog W = .ok a3 W := fun _ _ _ _ _ _ => by kernel_rfl
  have x4 : ∀ (a0 a1 a2 a3 a4 : Value) (W : World), (Instr.index 149 (.agg #[a0, a1, a2, a3, a4]) (.int .i64 4)).run Try.prog W = .ok a4 W := fun _ _ _ _ _ _ => by kernel_rfl
  generalize doneOf kind old h = dn at *
  clear hQ hfin hI hc hf
  rcases hK with ⟨rfl, rfl⟩ | ⟨rfl, rfl⟩ | ⟨rfl, rfl⟩ | ⟨rfl, rfl⟩
  all_goals
    go_enter Try.func66, Try.ntmps66
    go_wp2_with fail
    generalize ((w.alloc (.cells #[.int .i64 who, .int .i64 _, .int .i64 pl, .int .u64 old, .int .u64 new, .iface T v] 106)).alloc (.cells #[.int .u64 0, .bool false] 27)) = W0 at *
    refine (HQ.out W0 hB0).mono ?_
    rintro e W1 ⟨rfl, hB1⟩
    obtain ⟨hB2, hR⟩ := HF.out _ _ hB0 hB1
    have c1 := hR _ _ _ b1 (by omega)
    clear hB1 b1 b0' hB0 HQ HF b0 hR
    have s0 := c1.cell 0
    have s1 := c1.cell 1
    have f0 := c1.frozen 0
    have f1 := c1.frozen 1
    simp at s0 s1
    have HB2 := Lib.hid hB2
    clear hB2
    go_wp2_with fail
    have cE := c1.set2 (.int .u64 h) (.bool dn)
    refine bodyPost_ret (results_cell_row rfl _ _ (w.heap.size + 1) 27 _ (0, 0) _ rfl cE Try.underlying27 rfl (by kernel_rfl)) rfl ?_
    exact ⟨by simp, (HB2.out.setCell (p := ⟨w.heap.size + 1, 0, none⟩) (by simp) _).setCell (p := ⟨w.heap.size + 1, 1, none⟩) (by simp) _⟩
end Go.Proofs
