/- Put, First, All, Of of lanes. -/
import Derived.Test.YtacphakpmmickaaGreatZA
import Derived.Maps.AppendAt
namespace Go.Proofs
set_option maxRecDepth 100000
open Go.RowKit Go.Shelf
attribute [local go_sem] Oper.semAt_some

set_option maxHeartbeats 1000000 in
theorem Tryz.Put_no (x b : Int) (a : Option Addr) (len cap : Nat) (zs : List Int) (hreach : zs.length * 8 ≤ 140737488351232) (w : World) (hI : IntsAt w (.slice a len cap) zs) (hbad : ∃ z, z ∈ zs ∧ bad z) :
    Calls Tryz.prog 100 #[.int .u64 x, .int .u8 b, .slice a len cap] w fun e w' => e = .returned (.tuple #[.int .u64 0, .int .i64 110]) ∧ Below w.heap.size w w' := by
  have hB0 : Below w.heap.size w (w.alloc (.cells #[.int .u8 b] 5)) := (Below.refl _ w).alloc (Nat.le_refl _) _
  have hC := Tryz.contains_any (.slice a len cap) zs hreach (w.alloc (.cells #[.int .u8 b] 5)) (hI.below hB0 (Nat.le_refl _)) true (by simp; exact hbad)
  have HC := Lib.hid hC
  clear hC hI hbad
  go_enter Tryz.func100, Tryz.ntmps100
  go_wp2_with fail
  refine HC.out.mono ?_
  rintro e w' ⟨rfl, rfl⟩
  go_wp2
  go_ret2
  exact ⟨rfl, hB0⟩

set_option maxHeartbeats 1000000 in
theorem Tryz.Put_yes (x b : Nat) (hx : x < 18446744073709551616) (hb : b < 256) (a : Option Addr) (len cap : Nat) (xs : List (Fin 8)) (hreach : xs.length * 8 ≤ 140737488351232) (w : World) (hI : IntsAt w (.slice a len cap) (lanesInt xs)) :
    Calls Tryz.prog 100 #[.int .u64 x, .int .u8 b, .slice a len cap] w fun e w' => e = .returned (.tuple #[.int .u64 (setAll (fun _ => b) x xs : Nat), .int .i64 0]) ∧ Below w.heap.size w w' := by
  have hB0 : Below w.heap.size w (w.alloc (.cells #[.int .u8 b] 5)) := (Below.refl _ w).alloc (Nat.le_refl _) _
  have hC := Tryz.contains_any (.slice a len cap) (lanesInt xs) (by simpa [lanesInt] using hreach) (w.alloc (.cells #[.int .u8 b] 5)) (hI.below hB0 (Nat.le_refl _)) false (by
    simp only [Bool.false_eq_true, false_iff]
    rintro ⟨z, hz, hz'⟩
    obtain ⟨y, _, rfl⟩ := List.mem_map.1 hz
    have := y.isLt
    rcases hz' with h | h <;> omega)
  have HC := Lib.hid hC
  have HI := Lib.hid hI
  have HX := Lib.hid hx
  have HB := Lib.hid hb
  clear hC hI hx hb
  go_enter Tryz.func100, Tryz.ntmps100
  go_wp2_with fail
  refine HC.out.mono ?_
  rintro e w' ⟨rfl, rfl⟩
  go_wp2_with (go_at_call 82; refine (Tryz.values_any _ _ _ _).mono ?_; rintro e w' ⟨rfl, rfl⟩)
  have b0 := ((Rows8.new w 5 #[.int .u8 b]).alloc (.cells #[.int .u64 x] 137)).alloc (.cells #[.slice a len cap] 46)
  have b1 := (Rows8.new (w.alloc (.cells #[.int .u8 b] 5)) 137 #[.int .u64 x]).alloc (.cells #[.slice a len cap] 46)
  have b2 := Rows8.new ((w.alloc (.cells #[.int .u8 b] 5)).alloc (.cells #[.int .u64 x] 137)) 46 #[.slice a len cap]
  simp only [World.size_alloc] at b1 b2
  have hB1 : Below w.heap.size w (((w.alloc (.cells #[.int .u8 b] 5)).alloc (.cells #[.int .u64 x] 137)).alloc (.cells #[.slice a len cap] 46)) := (hB0.alloc (by simp) _).alloc (by simp [Nat.add_assoc]) _
  have hsz : (((w.alloc (.cells #[.int .u8 b] 5)).alloc (.cells #[.int .u64 x] 137)).alloc (.cells #[.slice a len cap] 46)).heap.size = w.heap.size + 3 := by simp
  generalize (((w.alloc (.cells #[.int .u8 b] 5)).alloc (.cells #[.int .u64 x] 137)).alloc (.cells #[.slice a len cap] 46)) = W0 at *
  have HSZ := Lib.hid hsz
  clear hsz
  have hL := Tryz.lay_any 99 #[.pointer (some ⟨w.heap.size + 1 + 1, 0, none⟩)] 103 #[] #[.pointer (some ⟨w.heap.size, 0, none⟩)] (w.heap.size + 1) x (w.heap.size + 3) xs.length (fun _ => b) xs _ W0 HX.out (fun _ => HB.out) (by rw [HSZ.out]; exact Nat.le_refl _)
    (Tryz.values_stops Fence.wide 2 trivial rfl (by omega) (w.heap.size + 1 + 1) (w.heap.size + 3) (w.heap.size + 1) (.slice a len cap) xs hreach W0 (by rw [HSZ.out]; omega) (b2.cell 0) ⟨w, HI.out, hB1, by omega, by omega⟩)
    (fun y W hW => Tryz.put1_any b w.heap.size y W ((hW.cell (a := ⟨w.heap.size, 0, none⟩) b0.lt (by simp)).trans (b0.cell 0)))
    b1 (enters_of Tryz.func99 (by kernel_rfl) rfl) (enters_of Tryz.func103 (by kernel_rfl) rfl)
  have HL := Lib.hid hL
  clear hL b0 b1 b2
  refine HL.out.mono ?_
  rintro e W1 ⟨⟨v, rfl⟩, hr, hB⟩
  have hc : W1.cell? ⟨w.heap.size + 1, 0, none⟩ = some (.int .u64 (setAll (fun _ => b) x xs : Nat)) := hr.cell 0
  clear hr
  go_wp2_with (go_at_call 95; refine (Tryz.number_any _ _).mono ?_; rintro e w' ⟨rfl, rfl⟩)
  go_ret2
  exact ⟨rfl, hB1.trans (hB.below hB1.size (by omega))⟩

theorem Rows8.keep {A B : World} {row : Option Nat} {b : Nat} {t : TypeId} {cs : Array Value} (p : Rows8 A b t cs) (hg : A.grownBy B row) (hr : ∀ r, row = some r → ∃ o : Obj, A.heap[r]? = some o ∧ o.isCells = false) : Rows8 B b t cs :=
  Rows8.own (β := Unit) b t (fun _ => cs) () A B row p hg hr

/-- What First tells of the lanes of a mask. -/
def firstV : List (Fin 8) → Value
  | [] => .tuple #[.int .i64 0, .bool false]
  | y :: _ => .tuple #[.int .i64 (y : Nat), .bool true]

set_option maxRecDepth 100000 in
set_option maxHeartbeats 2000000 in
theorem Tryz.First_any (m : Nat) (hm : m < 256) (w : World) :
    Calls Tryz.prog 50 #[.int .u8 m] w fun e w' =>
      e = .returned (firstV (lanesOf m)) ∧ Below w.heap.size w w' := by
  refine (callsIn_wide (n := 3)).1 ?_
  refine callsIn_of_wp_marks Tryz.func50 rfl trivial ?_ rfl
  simp only [Tryz.ntmps50, List.size_toArray, List.length_cons, List.length_nil, Nat.reduceAdd, Nat.reduceSub, Array.replicate_succ, Array.replicate_zero, List.push_toArray, List.append_toArray, List.nil_append, List.cons_append]
  gi_wp2_with (refine ⟨trivial, ?_⟩; gi_at_call 60; refine (callsIn_wide.2 (Tryz.in_any _ _)).mono ?_; rintro e w' ⟨rfl, rfl⟩)
  have b0 := ((Rows8.new w 3 #[.int .i64 0]).alloc (.cells #[.bool false] 4)).alloc (.cells #[.int .u8 m] 69)
  have b1 := (Rows8.new (w.alloc (.cells #[.int .i64 0] 3)) 4 #[.bool false]).alloc (.cells #[.int .u8 m] 69)
  have b2 := Rows8.new ((w.alloc (.cells #[.int .i64 0] 3)).alloc (.cells #[.bool false] 4)) 69 #[.int .u8 m]
  simp only [World.size_alloc] at b1 b2
  have hB0 : Below w.heap.size w (((w.alloc (.cells #[.int .i64 0] 3)).alloc (.cells #[.bool false] 4)).alloc (.cells #[.int .u8 m] 69)) := (((Below.refl _ w).alloc (Nat.le_refl _) _).alloc (by simp) _).alloc (by simp [Nat.add_assoc]) _
  have hsz : (((w.alloc (.cells #[.int .i64 0] 3)).alloc (.cells #[.bool false] 4)).alloc (.cells #[.int .u8 m] 69)).heap.size = w.heap.size + 3 := by simp
  generalize (((w.alloc (.cells #[.int .i64 0] 3)).alloc (.cells #[.bool false] 4)).alloc (.cells #[.int .u8 m] 69)) = W0 at *
  have HSZ := Lib.hid hsz
  clear hsz
  refine wpIn_rangeFunc_ownG rfl (by omega) (gf := 80) (lb := #[.pointer (some ⟨w.heap.size + 1 + 1, 0, none⟩)]) rfl trivial (enters_of Tryz.func80 (by kernel_rfl) rfl)
    (Tryz.in_stops Fence.wide _ rfl trivial rfl (by omega) (w.heap.size + 1 + 1) (w.heap.size + 3) (w.heap.size + 1) m hm (by omega) (by omega) W0 (by rw [HSZ.out]; exact Nat.le_refl _) (b2.cell 0)) but_t (but_b (by rw [HSZ.out]; exact Nat.le_refl _)) (Below.refl _ _) (fun _ => rfl)
    (fun pre W => (pre = [] ∧ Rows8 W w.heap.size 3 #[.int .i64 0] ∧ Rows8 W (w.heap.size + 1) 4 #[.bool false]) ∧ Below w.heap.size w W)
    (fun c pre W => (c = .ret ∧ ∃ y : Fin 8, pre = [y] ∧ Rows8 W w.heap.size 3 #[.int .i64 (y : Nat)] ∧ Rows8 W (w.heap.size + 1) 4 #[.bool true]) ∧ Below w.heap.size w W)
    (OwnFrom.and (Own.from (fun s A B row hs hg hr => ⟨hs.1, hs.2.1.keep hg hr, hs.2.2.keep hg hr⟩) _) (ownFrom_below (Nat.le_refl _) (by rw [HSZ.out]; omega)))
    (fun c => OwnFrom.and (Own.from (fun s A B row hs hg hr => by obtain ⟨hc, y, e, r1, r2⟩ := hs; exact ⟨hc, y, e, r1.keep hg hr, r2.keep hg hr⟩) _) (ownFrom_below (Nat.le_refl _) (by rw [HSZ.out]; omega)))
    ⟨⟨rfl, b0, b1⟩, hB0⟩
    (fun x => { tmps := #[.int .u8 m, undef, .pointer (some ⟨w.heap.size, 0, none⟩), .pointer (some ⟨w.heap.size + 1, 0, none⟩), .int .i64 (x : Nat), .int .u8 m, .func (.func 80) #[] #[.pointer (some ⟨w.heap.size + 1 + 1, 0, none⟩)], .int .i64 (x : Nat), undef], defers := [] }) ?assign ?body ?done ?stop
  case assign =>
    intro l x W K hK
    gi_wp2
    exact hK
  case body =>
    rintro l pre x W ⟨⟨rfl, hr0, hr1⟩, hB⟩ _
    have c0 : W.cell? ⟨w.heap.size, 0, none⟩ = some (.int .i64 0) := hr0.cell 0
    have c1 : W.cell? ⟨w.heap.size + 1, 0, none⟩ = some (.bool false) := hr1.cell 0
    have f0 := hr0.frozen 0
    have f1 := hr1.frozen 0
    have H0 := Lib.hid hr0
    have H1 := Lib.hid hr1
    clear hr0 hr1
    gi_wp2
    refine ⟨KeepsOthers.from ((KeepsOthers.setCell _ _ _).trans (KeepsOthers.setCell _ _ _)) _, ⟨rfl, x, rfl, ?_, ?_⟩, (hB.setCell (p := ⟨w.heap.size, 0, none⟩) (Nat.le_refl _) _).setCell (p := ⟨w.heap.size + 1, 0, none⟩) (by simp) _⟩
    · exact (Below.heap_setCell _ _ _ _ (by simp)).trans (Rows8.set1 H0.out _)
    · exact Rows8.set1 (show Rows8 (W.setCell ⟨w.heap.size, 0, none⟩ _) (w.heap.size + 1) 4 #[.bool false] from (Below.heap_setCell _ _ _ _ (by simp)).trans H1.out) _
  case done =>
    rintro D ys W hD rfl ⟨⟨hn, hr0, hr1⟩, hB⟩ hK
    have c0 : W.cell? ⟨w.heap.size, 0, none⟩ = some (.int .i64 0) := hr0.cell 0
    have c1 : W.cell? ⟨w.heap.size + 1, 0, none⟩ = some (.bool false) := hr1.cell 0
    have f0 := hr0.frozen 0
    have f1 := hr1.frozen 0
    have H0 := Lib.hid hr0
    have H1 := Lib.hid hr1
    have HN := Lib.hid hn
    clear hr0 hr1 hn
    gi_wp2
    have hK' := ((KeepsOthers.setCell W ⟨w.heap.size, 0, none⟩ (.int .i64 0)).trans (KeepsOthers.setCell _ ⟨w.heap.size + 1, 0, none⟩ (.bool false))).same D _ hK rfl
    have hBE := (hB.setCell (p := ⟨w.heap.size, 0, none⟩) (Nat.le_refl _) (.int .i64 0)).setCell (p := ⟨w.heap.size + 1, 0, none⟩) (by simp) (.bool false)
    have hD0 : w.heap.size ≠ D := by have := HSZ.out; omega
    have hD1 : w.heap.size + 1 ≠ D := by have := HSZ.out; omega
    have r0 : Rows8 ((W.setCell ⟨w.heap.size, 0, none⟩ (.int .i64 0)).setCell ⟨w.heap.size + 1, 0, none⟩ (.bool false)) w.heap.size 3 #[.int .i64 0] := (Below.heap_setCell _ _ _ _ (by simp)).trans (Rows8.set1 H0.out _)
    have r1 : Rows8 ((W.setCell ⟨w.heap.size, 0, none⟩ (.int .i64 0)).setCell ⟨w.heap.size + 1, 0, none⟩ (.bool false)) (w.heap.size + 1) 4 #[.bool false] := Rows8.set1 (show Rows8 (W.setCell ⟨w.heap.size, 0, none⟩ _) (w.heap.size + 1) 4 #[.bool false] from (Below.heap_setCell _ _ _ _ (by simp)).trans H1.out) _
    generalize ((W.setCell ⟨w.heap.size, 0, none⟩ (.int .i64 0)).setCell ⟨w.heap.size + 1, 0, none⟩ (.bool false)) = W5 at *
    refine ⟨by simp, .inl ⟨_, _, rfl, run_takeDeferred hK', ?_⟩⟩
    have q0 : (W5.putObj D (.deferred none)).cell? ⟨w.heap.size, 0, none⟩ = some (.int .i64 0) := Rows8.cell (show Rows8 _ _ _ _ from (World.putObj_heap_other hD0).trans r0) 0
    have q1 : (W5.putObj D (.deferred none)).cell? ⟨w.heap.size + 1, 0, none⟩ = some (.bool false) := Rows8.cell (show Rows8 _ _ _ _ from (World.putObj_heap_other hD1).trans r1) 0
    refine ⟨.tuple #[.int .i64 0, .bool false], ?_, by rw [HN.out]; rfl, hBE.trans (belowK_b (w := w) (Nat.le_refl _) _ D _ _ (by have := HSZ.out; omega) hK' rfl rfl)⟩
    simp [results, Tryz.f50, go_sem, q0, q1]
  case stop =>
    rintro D c pre W hD hpre ⟨⟨rfl, y, rfl, hr0, hr1⟩, hB⟩ hK
    obtain ⟨t, ht⟩ := hpre
    have HT := Lib.hid ht
    clear ht
    have hD0 : w.heap.size ≠ D := by have := HSZ.out; omega
    have hD1 : w.heap.size + 1 ≠ D := by have := HSZ.out; omega
    have q0 : (W.putObj D (.deferred none)).cell? ⟨w.heap.size, 0, none⟩ = some (.int .i64 (y : Nat)) := Rows8.cell (show Rows8 _ _ _ _ from (World.putObj_heap_other hD0).trans hr0) 0
    have q1 : (W.putObj D (.deferred none)).cell? ⟨w.heap.size + 1, 0, none⟩ = some (.bool true) := Rows8.cell (show Rows8 _ _ _ _ from (World.putObj_heap_other hD1).trans hr1) 0
    clear hr0 hr1
    gi_wp2
    refine ⟨by simp, .inl ⟨_, _, rfl, run_takeDeferred hK, ?_⟩⟩
    refine ⟨.tuple #[.int .i64 (y : Nat), .bool true], ?_, by rw [← HT.out]; rfl, hB.trans (belowK_b (w := w) (Nat.le_refl _) W D _ _ (by have := HSZ.out; omega) hK rfl rfl)⟩
    simp [results, Tryz.f50, go_sem, q0, q1]
end Go.Proofs
