/- All of lanes, and how many bits a byte has. -/
import Derived.Test.YtapmmefkblednaaH
import Derived.Maps.AppendAt
import Derived.Lib.BitFns
import Derived.Lib.Strings
import Derived.Lib.Walk
namespace Go.Proofs
open Go.RowKit Go.Shelf
attribute [local go_sem] Oper.semAt_some

theorem Try.infoInt : (Try.prog.info? 3).map (fun i => (i.zero, i.size, i.bytes)) = some (some (.int .i64 0), 1, 8) := by kernel_rfl

/-- The value of the slice of lanes. -/
def laneVals (l : List (Fin 8)) : List Value := l.map fun (y : Fin 8) => Value.int .i64 ((y : Nat) : Int)
theorem laneVals_length (l : List (Fin 8)) : (laneVals l).length = l.length := by simp [laneVals]
theorem laneVals_snoc (l : List (Fin 8)) (y : Fin 8) : laneVals (l ++ [y]) = laneVals l ++ [.int .i64 ((y : Nat) : Int)] := by simp [laneVals]
def OwnsLanes (n₀ : Nat) (l : List (Fin 8)) (v : Value) (W : World) : Prop := W.ownsRow n₀ 3 1 v l.length (laneVals l) ∧ (v = .slice none 0 0 ↔ l = [])
def AllQ (l : List (Fin 8)) (w : World) (e : Ending) (w' : World) : Prop := ∃ v, e = .returned v ∧ OwnsLanes w.heap.size l v w' ∧ Below w.heap.size w w'

set_option maxRecDepth 100000 in
set_option maxHeartbeats 2000000 in
theorem Try.appendSeq_any (Bm m : Nat) (hm : m < 256) (w : World) (hb : Rows8 w Bm 43 #[.int .u8 m]) :
    Calls Try.prog 64 #[.slice none 0 0, .func (.func 63) #[] #[.pointer (some ⟨Bm, 0, none⟩)]] w (AllQ (lanesOf m) w) := by
  obtain ⟨i0, hi, hz0, hz1, hz2⟩ := info_parts Try.infoInt
  refine (callsIn_wide (n := 3)).1 ?_
  refine callsIn_of_wp_marks Try.func64 rfl trivial ?_ rfl
  simp only [Try.ntmps64, List.size_toArray, List.length_cons, List.length_nil, Nat.reduceAdd, Nat.reduceSub, Array.replicate_succ, Array.replicate_zero, List.push_toArray, List.append_toArray, List.nil_append, List.cons_append]
  have hbl := hb.lt
  have HB := Lib.hid hb
  clear hb
  gi_wp2_with fail
  have bO := Boxed.new w 24 (.slice none 0 0)
  have hB0 : Below w.heap.size w (w.alloc (.cells #[.slice none 0 0] 24)) := (Below.refl _ w).alloc (Nat.le_refl _) _
  have hsz : (w.alloc (.cells #[.slice none 0 0] 24)).heap.size = w.heap.size + 1 := by simp
  generalize (w.alloc (.cells #[.slice none 0 0] 24)) = W0 at *
  have HSZ := Lib.hid hsz
  clear hsz
  refine wpIn_rangeFunc_ownG rfl (by omega) (gf := 63) (lb := #[.pointer (some ⟨Bm, 0, none⟩)]) rfl trivial (enters_of Try.func63 (by kernel_rfl) rfl)
    (Try.in_stops Fence.wide _ rfl trivial rfl (by omega) Bm w.heap.size w.heap.size m hm hbl (by omega) W0 hB0.size ((hB0.cell (p := ⟨Bm, 0, none⟩) hbl).trans (HB.out.cell 0))) but_t (but_b hB0.size) (Below.refl _ _) (fun _ => rfl)
    (fun pre W => (∃ v, Boxed W w.heap.size 24 v ∧ W.ownsRow w.heap.size 3 1 v pre.length (laneVals pre) ∧ (v = .slice none 0 0 ↔ pre = [])) ∧ Below w.heap.size w W)
    (fun _ _ _ => False)
    (OwnFrom.and (Own.from (holdsRow_own w.heap.size w.heap.size 24 3 1 (fun pre => pre.length) laneVals (fun pre v => v = .slice none 0 0 ↔ pre = [])) _) (ownFrom_below (Nat.le_refl _) hB0.size))
    (fun _ _ _ _ _ hs _ _ => hs)
    ⟨⟨_, bO, World.ownsRow_nil _ _ _ _, by simp⟩, hB0⟩
    (fun x => { tmps := #[.slice none 0 0, .func (.func 63) #[] #[.pointer (some ⟨Bm, 0, none⟩)], .pointer (some ⟨w.heap.size, 0, none⟩), undef, .slice none 0 0, .int .i64 (x : Nat), .func (.func 63) #[] #[.pointer (some ⟨Bm, 0, none⟩)], .int .i64 (x : Nat), undef, undef, undef, undef, undef], defers := [] }) ?assign ?body ?done ?stop
  case assign =>
    intro l x W K hK
    gi_wp2
    exact hK
  case body =>
    rintro l pre x W ⟨⟨v, hv, hrow, hnil⟩, hB⟩ hlt
    have hc := hv.cell
    have hml : pre.length + 1 ≤ maxLen := by unfold maxLen; omega
    gi_wp2_with (gi_at_builtin; refine wpListIn_append_own _ rfl _ _ 24 rfl w.heap.size 3 i0 (.int .i64 0) 1 8 Try.underlying24 hi hz0 hz1 hz2 rfl (by decide) _ _ _ rfl (hrow.alloc _) ⟨W.heap.size, 0, none⟩ 1 1 [.int .i64 (x : Nat)] rfl rfl (cell_one_new _ _ _) (by simp [Value.oneCell']) (by omega) (by omega) (by have := hB.size; simp; omega) ?_; intro v' w1 hown' hgrow _; obtain ⟨g', cap', rfl⟩ := ownsRow_succ hown'; obtain ⟨hv1, hv2, hr2, hk2, hb2⟩ := hv.appended (by decide) hrow hB.size (Nat.le_refl _) hown' hgrow; have hc1 := hv1.cell; have hf1 := hv1.frozen)
    exact ⟨hk2.from _, But.of_below hb2, ⟨_, hv2, by rw [laneVals_snoc]; simpa using hr2, by simp⟩, hB.trans hb2⟩
  case done =>
    rintro D ys W hD rfl ⟨⟨v, hv, hrow, hnil⟩, hB⟩ hK
    have hc := hv.cell
    gi_wp2
    refine ⟨by simp, .inl ⟨_, _, rfl, run_takeDeferred hK, ?_⟩⟩
    exact ⟨_, results_tmp rfl _ _ _, v, rfl, ⟨ownsRow_putObj hrow _ hK rfl, hnil⟩, hB.trans (belowK_b (w := w) (Nat.le_refl _) W D _ _ (by have := HSZ.out; omega) hK rfl rfl)⟩
  case stop =>
    rintro D c pre W _ _ h _
    exact h.elim

set_option maxHeartbeats 1000000 in
theorem Try.collect_any (Bm m : Nat) (hm : m < 256) (w : World) (hb : Rows8 w Bm 43 #[.int .u8 m]) :
    Calls Try.prog 56 #[.func (.func 63) #[] #[.pointer (some ⟨Bm, 0, none⟩)]] w (AllQ (lanesOf m) w) := by
  have hA := Try.appendSeq_any Bm m hm w hb
  have HA := Lib.hid hA
  clear hA hb
  go_enter Try.func56, Try.ntmps56
  go_wp2_with fail
  refine HA.out.mono ?_
  rintro e w' ⟨v, rfl, hQ⟩
  have HQ := Lib.hid hQ
  clear hQ
  go_wp2
  go_ret
  exact ⟨v, rfl, HQ.out⟩
set_option maxHeartbeats 1000000 in
theorem Try.All_any (m : Nat) (hm : m < 256) (w : World) :
    Calls Try.prog 33 #[.int .u8 m] w (AllQ (lanesOf m) w) := by
  have hB0 : Below w.heap.size w (w.alloc (.cells #[.int .u8 m] 43)) := (Below.refl _ w).alloc (Nat.le_refl _) _
  have hA := Try.collect_any w.heap.size m hm (w.alloc (.cells #[.int .u8 m] 43)) (Rows8.new w _ _)
  have HA := Lib.hid hA
  clear hA
  go_enter Try.func33, Try.ntmps33
  go_wp2_with (go_at_call 55; refine (Try.in_any _ _).mono ?_; rintro e w' ⟨rfl, rfl⟩)
  refine HA.out.mono ?_
  rintro e w' ⟨v, rfl, hQ, hB⟩
  have HQ := Lib.hid hQ
  clear hQ
  go_wp2
  go_ret
  refine ⟨v, rfl, ⟨?_, HQ.out.2⟩, hB0.trans (hB.mono hB0.size)⟩
  have := HQ.out.1
  exact ⟨this.1, this.2.imp id fun ⟨g, cap, cur, h1, h2, h3⟩ => ⟨g, cap, cur, h1, Nat.le_trans hB0.size h2, h3⟩⟩

/-- How many lanes a mask has. -/
theorem ones_lanes : ∀ m : Fin 256, Lib.onesCount (m : Nat) = (lanesOf m).length := by decide +kernel
theorem wrap64_eq (n : Int) : (n + 9223372036854775808) % 18446744073709551616 - 9223372036854775808 = wrap64 n := by unfold wrap64; rfl
set_option maxRecDepth 100000 in
theorem Try.ones_int (x : Int) (h0 : 0 ≤ x) (h1 : x ≤ 255) (w : World) :
    Calls Try.prog 36 #[.int .u8 x] w fun e w' => e = .returned (.int .i64 (Lib.onesCount x.toNat)) ∧ w = w' := by
  rw [← Lib.pop8_int x h0 h1, wrap64_eq]
  go_enter Try.func36, Try.ntmps36
  go_wp2
  go_ret
  exact ⟨rfl, rfl⟩
theorem Try.ones_any (m : Nat) (hm : m < 256) (w : World) :
    Calls Try.prog 36 #[.int .u8 m] w fun e w' => e = .returned (.int .i64 ((lanesOf m).length : Nat)) ∧ w = w' := by
  have h := Try.ones_int m (by omega) (by omega) w
  rw [Int.toNat_natCast, ones_lanes ⟨m, hm⟩] at h
  exact h

/-- The lanes of a mask that is said lane by lane. -/
theorem lanesOf_filter : ∀ m : Fin 256, lanesOf m = all8.filter fun (k : Fin 8) => (m : Nat).testBit (k : Nat) := by decide +kernel
theorem lanesOf_maskB (g : Nat → Bool) : lanesOf (maskB g) = all8.filter fun (k : Fin 8) => g k := by
  rw [lanesOf_filter ⟨maskB g, maskB_lt g⟩]
  exact List.filter_congr fun k _ => testBit_maskB g k
/-- How many lanes of x have a byte less than k. -/
def cnt (x k : Nat) : Nat := (all8.filter fun (n : Fin 8) => decide (byt x n < k)).length
theorem filter_split (f : Fin 8 → Nat) (k : Nat) (l : List (Fin 8)) : (l.filter fun n => decide (f n < k + 1)).length = (l.filter fun n => decide (f n < k)).length + (l.filter fun n => f n == k).length := by
  induction l with
  | nil => rfl
  | cons a l ih =>
    simp only [List.filter_cons]
    by_cases h1 : f a < k
    · have h2 : ¬ f a = k := by omega
      have h3 : f a < k + 1 := by omega
      simp [h1, h2, h3]
      omega
    · by_cases h2 : f a = k
      · subst h2
        simp
        omega
      · have h3 : ¬ f a < k + 1 := by omega
        simp [h1, h2, h3]
        omega
theorem cnt_succ (x k : Nat) : cnt x (k + 1) = cnt x k + (lanesOf (maskB fun n => byt x n == k)).length := by
  rw [lanesOf_maskB]
  exact filter_split (fun n => byt x n) k all8
theorem cnt_zero (x : Nat) : cnt x 0 = 0 := by simp [cnt]
theorem cnt_all (x : Nat) : cnt x 256 = 8 := by
  unfold cnt
  rw [List.filter_eq_self.2 (fun (n : Fin 8) _ => decide_eq_true (byt_lt x n))]
  rfl
theorem cnt_le (x k : Nat) : cnt x k ≤ 8 := List.length_filter_le _ all8
end Go.Proofs
