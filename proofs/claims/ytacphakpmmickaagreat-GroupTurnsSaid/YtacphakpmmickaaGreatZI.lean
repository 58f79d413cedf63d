/- All of lanes, and how many bits a byte has. -/
import Derived.Test.YtacphakpmmickaaGreatZH
import Derived.Maps.AppendAt
import Derived.Lib.BitFns
import Derived.Lib.Strings
import Derived.Lib.Walk
namespace Go.Proofs
set_option maxRecDepth 100000
open Go.RowKit Go.Shelf
attribute [local go_sem] Oper.semAt_some

theorem Tryz.infoInt : (Tryz.prog.info? 3).map (fun i => (i.zero, i.size, i.bytes)) = some (some (.int .i64 0), 1, 8) := by kernel_rfl

/-- The value of the slice of lanes. -/
def laneVals (l : List (Fin 8)) : List Value := l.map fun (y : Fin 8) => Value.int .i64 ((y : Nat) : Int)
theorem laneVals_length (l : List (Fin 8)) : (laneVals l).length = l.length := by simp [laneVals]
theorem laneVals_snoc (l : List (Fin 8)) (y : Fin 8) : laneVals (l ++ [y]) = laneVals l ++ [.int .i64 ((y : Nat) : Int)] := by simp [laneVals]
def OwnsLanes (n₀ : Nat) (l : List (Fin 8)) (v : Value) (W : World) : Prop := W.ownsRow n₀ 3 1 v l.length (laneVals l) ∧ (v = .slice none 0 0 ↔ l = [])
def AllQ (l : List (Fin 8)) (w : World) (e : Ending) (w' : World) : Prop := ∃ v, e = .returned v ∧ OwnsLanes w.heap.size l v w' ∧ Below w.heap.size w w'

set_option maxRecDepth 100000 in
set_option maxHeartbeats 2000000 in
theorem Tryz.appendSeq_any (Bm m : Nat) (hm : m < 256) (w : World) (hb : Rows8 w Bm 69 #[.int .u8 m]) :
    Calls Tryz.prog 79 #[.slice none 0 0, .func (.func 80) #[] #[.pointer (some ⟨Bm, 0, none⟩)]] w (AllQ (lanesOf m) w) := by
  obtain ⟨i0, hi, hz0, hz1, hz2⟩ := info_parts Tryz.infoInt
  refine (callsIn_wide (n := 3)).1 ?_
  refine callsIn_of_wp_marks Tryz.func79 rfl trivial ?_ rfl
  simp only [Tryz.ntmps79, List.size_toArray, List.length_cons, List.length_nil, Nat.reduceAdd, Nat.reduceSub, Array.replicate_succ, Array.replicate_zero, List.push_toArray, List.append_toArray, List.nil_append, List.cons_append]
  have hbl := hb.lt
  have HB := Lib.hid hb
  clear hb
  gi_wp2_with fail
  have bO := Boxed.new w 46 (.slice none 0 0)
  have hB0 : Below w.heap.size w (w.alloc (.cells #[.slice none 0 0] 46)) := (Below.refl _ w).alloc (Nat.le_refl _) _
  have hsz : (w.alloc (.cells #[.slice none 0 0] 46)).heap.size = w.heap.size + 1 := by simp
  generalize (w.alloc (.cells #[.slice none 0 0] 46)) = W0 at *
  have HSZ := Lib.hid hsz
  clear hsz
  refine wpIn_rangeFunc_ownG rfl (by omega) (gf := 80) (lb := #[.pointer (some ⟨Bm, 0, none⟩)]) rfl trivial (enters_of Tryz.func80 (by kernel_rfl) rfl)
    (Tryz.in_stops Fence.wide _ rfl trivial rfl (by omega) Bm w.heap.size w.heap.size m hm hbl (by omega) W0 hB0.size ((hB0.cell (p := ⟨Bm, 0, none⟩) hbl).trans (HB.out.cell 0))) but_t (but_b hB0.size) (Below.refl _ _) (fun _ => rfl)
    (fun pre W => (∃ v, Boxed W w.heap.size 46 v ∧ W.ownsRow w.heap.size 3 1 v pre.length (laneVals pre) ∧ (v = .slice none 0 0 ↔ pre = [])) ∧ Below w.heap.size w W)
    (fun _ _ _ => False)
    (OwnFrom.and (Own.from (holdsRow_own w.heap.size w.heap.size 46 3 1 (fun pre => pre.length) laneVals (fun pre v => v = .slice none 0 0 ↔ pre = [])) _) (ownFrom_below (Nat.le_refl _) hB0.size))
    (fun _ _ _ _ _ hs _ _ => hs)
    ⟨⟨_, bO, World.ownsRow_nil _ _ _ _, by simp⟩, hB0⟩
    (fun x => { tmps := #[.slice none 0 0, .func (.func 80) #[] #[.pointer (some ⟨Bm, 0, none⟩)], .pointer (some ⟨w.heap.size, 0, none⟩), undef, .slice none 0 0, .int .i64 (x : Nat), .func (.func 80) #[] #[.pointer (some ⟨Bm, 0, none⟩)], .int .i64 (x : Nat), undef, undef, undef, undef, undef], defers := [] }) ?assign ?body ?done ?stop
  case assign =>
    intro l x W K hK
    gi_wp2
    exact hK
  case body =>
    rintro l pre x W ⟨⟨v, hv, hrow, hnil⟩, hB⟩ hlt
    have hc := hv.cell
    have hml : pre.length + 1 ≤ maxLen := by unfold maxLen; omega
    gi_wp2_with (gi_at_builtin; refine wpListIn_append_own _ rfl _ _ 46 rfl w.heap.size 3 i0 (.int .i64 0) 1 8 Tryz.underlying46 hi hz0 hz1 hz2 rfl (by decide) _ _ _ rfl (hrow.alloc _) ⟨W.heap.size, 0, none⟩ 1 1 [.int .i64 (x : Nat)] rfl rfl (cell_one_new _ _ _) (by simp [Value.oneCell']) (by omega) (by omega) (by have := hB.size; simp; omega) ?_; intro v' w1 hown' hgrow _; obtain ⟨g', cap', rfl⟩ := ownsRow_succ hown'; obtain ⟨hv1, hv2, hr2, hk2, hb2⟩ := hv.appended (by decide) hrow hB.size (Nat.le_refl _) hown' hgrow; have hc1 := hv1.cell; have hf1 := hv1.frozen)
    exact ⟨hk2.from _, But.of_below hb2, ⟨_, hv2, by rw [laneVals_snoc]; simpa using hr2, by simp⟩, hB.trans hb2⟩
  case done =>
    rintro D ys W hD rfl ⟨⟨v, hv, hrow, hnil⟩, hB⟩ hK
    have hc := hv.cell
    gi_wp2
    refine ⟨by simp, .inl ⟨_, _, rfl, run_takeDeferred hK, ?_⟩⟩
    exact ⟨_, results_tmp rfl _ _ _, v, rfl, ⟨ownsRow_putObj hrow _ hK rfl, hnil⟩, hB.trans (belowK_b (w := w) (Nat.le_refl _) W D _ _ (by have := HSZ.out; omega) hK rfl rfl)⟩
  case stop =>
    rintro D c pre W _ _ h _
    exact h.elim

set_option maxHeartbeats 1000000 in
theorem Tryz.collect_any (Bm m : Nat) (hm : m < 256) (w : World) (hb : Rows8 w Bm 69 #[.int .u8 m]) :
    Calls Tryz.prog 59 #[.func (.func 80) #[] #[.pointer (some ⟨Bm, 0, none⟩)]] w (AllQ (lanesOf m) w) := by
  have hA := Tryz.appendSeq_any Bm m hm w hb
  have HA := Lib.hid hA
  clear hA hb
  go_enter Tryz.func59, Tryz.ntmps59
  go_wp2_with fail
  refine HA.out.mono ?_
  rintro e w' ⟨v, rfl, hQ⟩
  have HQ := Lib.hid hQ
  clear hQ
  go_wp2
  go_ret
  exact ⟨v, rfl, HQ.out⟩
set_option maxHeartbeats 1000000 in
theorem Tryz.All_any (m : Nat) (hm : m < 256) (w : World) :
    Calls Tryz.prog 32 #[.int .u8 m] w (AllQ (lanesOf m) w) := by
  have hB0 : Below w.heap.size w (w.alloc (.cells #[.int .u8 m] 69)) := (Below.refl _ w).alloc (Nat.le_refl _) _
  have hA := Tryz.collect_any w.heap.size m hm (w.alloc (.cells #[.int .u8 m] 69)) (Rows8.new w _ _)
  have HA := Lib.hid hA
  clear hA
  go_enter Tryz.func32, Tryz.ntmps32
  go_wp2_with (go_at_call 60; refine (Tryz.in_any _ _).mono ?_; rintro e w' ⟨rfl, rfl⟩)
  refine HA.out.mono ?_
  rintro e w' ⟨v, rfl, hQ, hB⟩
  have HQ := Lib.hid hQ
  clear hQ
  go_wp2
  go_ret
  refine ⟨v, rfl, ⟨?_, HQ.out.2⟩, hB0.trans (hB.mono hB0.size)⟩
  have := HQ.out.1
  exact ⟨this.1, this.2.imp id fun ⟨g, cap, cur, h1, h2, h3⟩ => ⟨g, cap, cur, h1, Nat.le_trans hB0.size h2, h3⟩⟩

/-- How many lanes a mask has. -/
theorem ones_lanes : ∀ m : Fin 256, Lib.onesCount (m : Nat) = (lanesOf m).length := by decide +kernel
theorem wrap64_eq (n : Int) : (n + 9223372036854775808) % 18446744073709551616 - 9223372036854775808 = wrap64 n := by unfold wrap64; rfl
/-- The lanes of a mask that is said lane by lane. -/
theorem lanesOf_filter : ∀ m : Fin 256, lanesOf m = all8.filter fun (k : Fin 8) => (m : Nat).testBit (k : Nat) := by decide +kernel
theorem lanesOf_maskB (g : Nat → Bool) : lanesOf (maskB g) = all8.filter fun (k : Fin 8) => g k := by
  rw [lanesOf_filter ⟨maskB g, maskB_lt g⟩]
  exact List.filter_congr fun k _ => testBit_maskB g k
/-- How many lanes of x have a byte less than k. -/
def cnt (x k : Nat) : Nat := (all8.filter fun (n : Fin 8) => decide (byt x n < k)).length
theorem filter_split (f : Fin 8 → Nat) (k : Nat) (l : List (Fin 8)) : (l.filter fun n => decide (f n < k + 1)).length = (l.filter fun n => decide (f n < k)).length + (l.filter fun n => f n == k).length := by
  induction l with
  | nil => rfl
  | cons a l ih =>
    simp only [List.filter_cons]
    by_cases h1 : f a < k
    · have h2 : ¬ f a = k := by omega
      have h3 : f a < k + 1 := by omega
      simp [h1, h2, h3]
      omega
    · by_cases h2 : f a = k
      · subst h2
        simp
        omega
      · have h3 : ¬ f a < k + 1 := by omega
        simp [h1, h2, h3]
        omega
theorem cnt_succ (x k : Nat) : cnt x (k + 1) = cnt x k + (lanesOf (maskB fun n => byt x n == k)).length := by
  rw [lanesOf_maskB]
  exact filter_split (fun n => byt x n) k all8
theorem cnt_zero (x : Nat) : cnt x 0 = 0 := by simp [cnt]
theorem cnt_all (x : Nat) : cnt x 256 = 8 := by
  unfold cnt
  rw [List.filter_eq_self.2 (fun (n : Fin 8) _ => decide_eq_true (byt_lt x n))]
  rfl
theorem cnt_le (x k : Nat) : cnt x k ≤ 8 := List.length_filter_le _ all8
end Go.Proofs

/- The document's own answers for lanes: At, Bytes, With, Has, Is. -/
namespace Go.Proofs
set_option maxRecDepth 100000
open Go.RowKit Go.Shelf
attribute [local go_sem] Oper.semAt_some

theorem div256 (x k : Nat) (hx : x < 18446744073709551616) : IntKind.u64.wrap (((x / 256 ^ k : Nat) : Int) / 256) = ((x / 256 ^ (k + 1) : Nat) : Int) := by
  have e : ((x / 256 ^ k : Nat) : Int) / 256 = ((x / 256 ^ (k + 1) : Nat) : Int) := by
    rw [Nat.pow_succ, ← Nat.div_div_eq_div_mul]
    simp
  have h : x / 256 ^ (k + 1) ≤ x := Nat.div_le_self _ _
  rw [e, IntKind.wrap_u64]
  generalize x / 256 ^ (k + 1) = y at *
  omega
theorem byt_256 (x n : Nat) : ((x / 256 ^ n : Nat) : Int) % 256 = ((byt x n : Nat) : Int) := by
  unfold byt
  rw [show (256 : Nat) ^ n = 2 ^ (8 * n) by rw [Nat.pow_mul]]
  omega

set_option maxHeartbeats 1000000 in
theorem Tryz.At_any (x n : Nat) (hx : x < 18446744073709551616) (hn : n ≤ 1000) (w : World) :
    Calls Tryz.prog 43 #[.int .u64 x, .int .i64 n] w fun e w' => e = .returned (.int .u8 (byt x n : Nat)) ∧ w = w' := by
  have HX := Lib.hid hx
  clear hx
  go_enter Tryz.func43, Tryz.ntmps43
  go_wp2
  go_loop [0, 6] (fun xv i => ∃ k : Nat, k ≤ n ∧ i = .int .i64 k ∧ xv = .int .u64 (x / 256 ^ k : Nat)) (fun _ i => n - (intOf i).toNat)
  case atStart => exact ⟨0, Nat.zero_le _, rfl, by simp⟩
  case round =>
    obtain ⟨k, hk, rfl, rfl⟩ := hrel
    have hd := div256 x k HX.out
    by_cases hlt : k < n
    · generalize hy : x / 256 ^ k = y at *
      have HD := Lib.hid hd
      clear hy hd
      go_wp2
      exact ⟨⟨k + 1, by omega, by go_num, by rw [HD.out]⟩, by simp [intOf]; omega⟩
    · obtain rfl : k = n := by omega
      have hb := byt_256 x k
      generalize x / 256 ^ k = y at *
      have HB := Lib.hid hb
      clear hb hd
      go_wp2
      go_ret
      exact ⟨by rw [← HB.out]; rfl, rfl⟩

theorem half (x k : Nat) : (((x / 2 ^ k : Nat) : Int) / 2) = ((x / 2 ^ (k + 1) : Nat) : Int) := by
  rw [Nat.pow_succ, ← Nat.div_div_eq_div_mul]
  simp
theorem half_wrap (x k : Nat) (hx : x < 256) : (((x / 2 ^ k : Nat) : Int) / 2) % 256 = ((x / 2 ^ (k + 1) : Nat) : Int) := by
  have h : x / 2 ^ (k + 1) ≤ x := Nat.div_le_self _ _
  rw [half]
  generalize x / 2 ^ (k + 1) = y at *
  omega
theorem bit_walk (x n : Nat) : ((((x / 2 ^ n : Nat) : Int) % 2) == 1) = x.testBit n := by
  rw [Nat.testBit_eq_decide_div_mod_eq, Bool.eq_iff_iff]
  generalize x / 2 ^ n = y
  simp only [beq_iff_eq, decide_eq_true_eq]
  omega
theorem ret_int' {k : IntKind} {a b : Int} (h : a = b) : Ending.returned (.int k a) = .returned (.int k b) := by rw [h]
set_option maxHeartbeats 1000000 in
theorem Tryz.With_any (m n : Nat) (hn : n < 8) (hm : m + 2 ^ n < 256) (w : World) :
    Calls Tryz.prog 91 #[.int .u8 m, .int .i64 n] w fun e w' => e = .returned (.int .u8 (m + 2 ^ n : Nat)) ∧ w = w' := by
  have HX := Lib.hid hm
  clear hm
  go_enter Tryz.func91, Tryz.ntmps91
  go_wp2
  go_loop [5, 7] (fun xv i => ∃ k : Nat, k ≤ n ∧ i = .int .i64 k ∧ xv = .int .u8 (2 ^ k : Nat)) (fun _ i => n - (intOf i).toNat)
  case atStart => exact ⟨0, Nat.zero_le _, rfl, rfl⟩
  case round =>
    obtain ⟨k, hk, rfl, rfl⟩ := hrel
    have hs : 2 ^ (k + 1) = 2 * 2 ^ k := by rw [Nat.pow_succ]; omega
    by_cases hlt : k < n
    · have hp : 2 ^ (k + 1) < 256 := pow_lt_256 (by omega)
      rw [hs] at hp
      generalize hy : 2 ^ k = y at *
      have HD := Lib.hid hs
      have HP := Lib.hid hp
      clear hy hs hp
      go_wp2
      exact ⟨⟨k + 1, by omega, by go_num, by rw [HD.out]; first | rfl | (simp; done) | (rw [IntKind.wrap_u8']; have := HP.out; congr 1; omega) | (have := HP.out; congr 1; omega)⟩, by simp [intOf]; omega⟩
    · obtain rfl : k = n := by omega
      have hm := HX.out
      generalize hy : 2 ^ k = y at *
      have HY := Lib.hid hy
      clear hs hy
      go_wp2
      go_ret
      have h2 : ((2 : Int) ^ k) = (y : Int) := by rw [← HY.out]; simp
      exact ⟨ret_int' (by simp [h2]), rfl⟩

theorem Tryz.Is_any (i : Int) (w : World) : Calls Tryz.prog 7 #[.int .i64 i] w fun e w' => e = .returned (.bool (decide (¬ bad i))) ∧ w = w' := by
  by_cases h : bad i
  · rw [decide_eq_false (fun h' => h' h)]
    by_cases h0 : i < 0
    · clear h
      go_enter Tryz.func7, Tryz.ntmps7
      go_wp2
      go_ret
      exact ⟨rfl, rfl⟩
    · have h8 : 8 ≤ i := h.resolve_left h0
      have h7 : decide (i ≤ 7) = false := decide_eq_false (by omega)
      clear h
      go_enter Tryz.func7, Tryz.ntmps7
      go_wp2
      go_ret
      exact ⟨by first | rfl | (rw [← h7]; rfl), rfl⟩
  · rw [decide_eq_true h]
    have h2 : 0 ≤ i ∧ i < 8 := by unfold bad at h; omega
    obtain ⟨h3, h4⟩ := h2
    have h7 : decide (i ≤ 7) = true := decide_eq_true (by omega)
    clear h
    go_enter Tryz.func7, Tryz.ntmps7
    go_wp2
    go_ret
    exact ⟨by first | rfl | (rw [← h7]; rfl), rfl⟩

theorem Tryz.infoByte : (Tryz.prog.info? 5).map (fun i => (i.zero, i.size, i.bytes)) = some (some (.int .u8 0), 1, 1) := by kernel_rfl
/-- The values of bytes. -/
def byteVals (l : List Nat) : List Value := l.map fun (b : Nat) => Value.int .u8 (b : Int)
theorem byteVals_length (l : List Nat) : (byteVals l).length = l.length := by simp [byteVals]
theorem byteVals_snoc (l : List Nat) (b : Nat) : byteVals (l ++ [b]) = byteVals l ++ [.int .u8 ((b : Nat) : Int)] := by simp [byteVals]
def OwnsBytes (n₀ : Nat) (l : List Nat) (v : Value) (W : World) : Prop := W.ownsRow n₀ 5 1 v l.length (byteVals l)
def BytesQ (l : List Nat) (w : World) (e : Ending) (w' : World) : Prop := ∃ v, e = .returned v ∧ OwnsBytes w.heap.size l v w' ∧ Below w.heap.size w w'
def bytesTo (x k : Nat) : List Nat := (List.range k).map (byt x)
theorem bytesTo_succ (x k : Nat) : bytesTo x (k + 1) = bytesTo x k ++ [byt x k] := by simp [bytesTo, List.range_succ]
theorem bytesTo_length (x k : Nat) : (bytesTo x k).length = k := by simp [bytesTo]

set_option maxHeartbeats 2000000 in
theorem Tryz.refBytes_any (x : Nat) (hx : x < 18446744073709551616) (w : World) :
    Calls Tryz.prog 40 #[.int .u64 x] w (BytesQ (bytesTo x 8) w) := by
  obtain ⟨i0, hi, hz0, hz1, hz2⟩ := info_parts Tryz.infoByte
  have HX := Lib.hid hx
  clear hx
  go_enter Tryz.func40, Tryz.ntmps40
  go_wp2_with fail
  go_loopw [3, 5] (fun v j wr => ∃ k : Nat, k ≤ 8 ∧ j = .int .i64 k ∧ OwnsBytes w.heap.size (bytesTo x k) v wr ∧ Below w.heap.size w wr) (fun _ j _ => 8 - (intOf j).toNat)
  case atStart => exact ⟨0, Nat.zero_le _, rfl, World.ownsRow_nil _ _ _ _, Below.refl _ _⟩
  case round =>
    obtain ⟨k, hk, rfl, hown, hB⟩ := hrel
    by_cases hlt : k < 8
    · have hml : (bytesTo x k).length + 1 ≤ maxLen := by rw [bytesTo_length]; unfold maxLen; omega
      have hbl := bytesTo_length x k
      have hA := fun W => Tryz.At_any x k HX.out (by omega) W
      have HA := Lib.hid hA
      have HO := Lib.hid hown
      have HBL := Lib.hid hbl
      clear hA hown hbl
      go_wp2_with (first | (go_at_call 43; refine (HA.out _).mono ?_; rintro e w' ⟨rfl, rfl⟩) | (at_builtin; refine wpList_append_own _ rfl _ _ 80 rfl w.heap.size 5 i0 (.int .u8 0) 1 1 Tryz.underlying80 hi hz0 hz1 hz2 rfl (by decide) _ _ _ rfl (World.ownsRow.alloc HO.out _) ⟨wr.heap.size, 0, none⟩ 1 1 [.int .u8 (byt x k : Nat)] rfl rfl ?c1 ?c2 ?c3 ?c4 ?c5 ?_))
      case c1 => exact cell_one_new _ _ _
      case c2 => simp [Value.oneCell']
      case c3 => exact hml
      case c4 => rw [HBL.out]; omega
      case c5 => have := hB.size; simp; omega
      intro v' w1 hown' hgrow _
      have hB1 : Below w.heap.size w w1 := (hB.alloc hB.size _).grown hgrow (by have := hB.size; simp; omega) (fun j ej => by
        rcases HO.out.2 with ⟨rfl, _⟩ | ⟨g, cap, cur, rfl, hg, _⟩
        · simp [Value.ownBlock] at ej
        · obtain rfl : g = j := by simpa [Value.ownBlock] using ej
          exact hg)
      have hO2 : OwnsBytes w.heap.size (bytesTo x (k + 1)) v' w1 := by
        unfold OwnsBytes
        rw [bytesTo_succ, byteVals_snoc, List.length_append]
        exact hown'
      have HO2 := Lib.hid hO2
      clear hO2 hown' hgrow hml
      go_wp2
      exact ⟨⟨k + 1, by omega, by go_num, HO2.out, hB1⟩, by simp [intOf]; omega⟩
    · obtain rfl : k = 8 := by omega
      have HO := Lib.hid hown
      clear hown
      go_wp2
      go_ret
      exact ⟨_, rfl, HO.out, hB⟩
end Go.Proofs

/- The document's own masks; rows of bytes that are cloned and appended to. -/
namespace Go.Proofs
set_option maxRecDepth 100000
open Go.RowKit Go.Shelf
attribute [local go_sem] Oper.semAt_some

/-- The mask of the lanes less than k that are so. -/
def mt (g : Nat → Bool) : Nat → Nat
  | 0 => 0
  | k + 1 => if g k then mt g k ||| 2 ^ k else mt g k
theorem mt_lt (g : Nat → Bool) (k : Nat) : mt g k < 2 ^ k := by
  induction k with
  | zero => simp [mt]
  | succ k ih =>
    have h1 : mt g k < 2 ^ (k + 1) := Nat.lt_of_lt_of_le ih (Nat.pow_le_pow_right (by decide) (by omega))
    rw [mt]
    split
    · exact Nat.or_lt_two_pow h1 (Nat.pow_lt_pow_right (by decide) (by omega))
    · exact h1
theorem mt_add (g : Nat → Bool) (k : Nat) : mt g k + 2 ^ k = mt g k ||| 2 ^ k := by
  have := Nat.two_pow_add_eq_or_of_lt (mt_lt g k) 1
  rw [Nat.mul_one] at this
  rw [Nat.add_comm, this, Nat.or_comm]
theorem mt_yes {g : Nat → Bool} {k : Nat} (h : g k = true) : mt g (k + 1) = mt g k + 2 ^ k := by rw [mt, if_pos h, mt_add]
theorem mt_no {g : Nat → Bool} {k : Nat} (h : g k = false) : mt g (k + 1) = mt g k := by rw [mt, if_neg (by rw [h]; decide)]
theorem mt_8 (g : Nat → Bool) : mt g 8 = maskB g := rfl
theorem mt_256 {g : Nat → Bool} {k : Nat} (hk : k < 8) (h : g k = true) : mt g k + 2 ^ k < 256 := by
  rw [← mt_yes h]
  exact Nat.lt_of_lt_of_le (mt_lt g (k + 1)) (Nat.pow_le_pow_right (show 0 < 2 by decide) (show k + 1 ≤ 8 by omega))

theorem owns_at {n₀ : Nat} {l : List Nat} {v : Value} {W : World} (h : OwnsBytes n₀ l v W) (hl : 0 < l.length) :
    ∃ g cap, v = .slice (some ⟨g, 0, none⟩) l.length cap ∧ n₀ ≤ g ∧ g < W.heap.size ∧ ∀ j, j < l.length → W.cell? ⟨g, j, none⟩ = some (.int .u8 ((l[j]?.getD 0 : Nat) : Int)) := by
  have h' := h
  rcases h.2 with ⟨_, h2⟩ | ⟨g, cap, cur, rfl, hg, hh, _⟩
  · omega
  · refine ⟨g, cap, rfl, hg, (Array.getElem?_eq_some_iff.1 hh).1, fun j hj => ?_⟩
    have hc := World.ownsRow.cellAt h' j (by omega)
    rw [hc]
    simp [byteVals, hj]
theorem owns_bytesAt {n₀ : Nat} {l : List Nat} {v : Value} {W : World} (h : OwnsBytes n₀ l v W) : (∃ a cap, v = .slice a l.length cap) ∧ BytesAt W v l := by
  by_cases hl : 0 < l.length
  · obtain ⟨g, cap, rfl, _, hg, hc⟩ := owns_at h hl
    exact ⟨⟨_, _, rfl⟩, .inr ⟨g, 0, cap, rfl, hg, fun j hj => by rw [Nat.zero_add]; exact hc j hj⟩⟩
  · obtain rfl : l = [] := List.eq_nil_of_length_eq_zero (by omega)
    rcases h.2 with ⟨rfl, _⟩ | ⟨g, cap, cur, rfl, hg, hh, _⟩
    · exact ⟨⟨none, 0, rfl⟩, .inl ⟨rfl, rfl⟩⟩
    · exact ⟨⟨_, _, rfl⟩, .inr ⟨g, 0, cap, rfl, (Array.getElem?_eq_some_iff.1 hh).1, fun j hj => absurd hj (Nat.not_lt_zero _)⟩⟩
theorem bytesTo_get (x : Nat) {k n : Nat} (h : k < n) : (bytesTo x n)[k]?.getD 0 = byt x k := by simp [bytesTo, h]

end Go.Proofs

/- slices.Clone of bytes; bytes that are appended. -/
namespace Go.Proofs
set_option maxRecDepth 100000
open Go.RowKit Go.Shelf
attribute [local go_sem] Oper.semAt_some

theorem below_append {n₀ : Nat} {l : List Nat} {v : Value} {w W w1 : World} (hB : Below n₀ w W) (hO : OwnsBytes n₀ l v W) (hgrow : W.grownBy w1 v.ownBlock) (hn : n₀ ≤ W.heap.size) : Below n₀ w w1 :=
  hB.grown hgrow hn (fun j ej => by
    rcases hO.2 with ⟨rfl, _⟩ | ⟨g, cap, cur, rfl, hg, _⟩
    · simp [Value.ownBlock] at ej
    · obtain rfl : g = j := by simpa [Value.ownBlock] using ej
      exact hg)
theorem byteVals_append (l m : List Nat) : byteVals l ++ byteVals m = byteVals (l ++ m) := by simp [byteVals]
theorem byteVals_cell (bs : List Nat) (W : World) (b off : Nat) (hc : ∀ j, j < bs.length → W.cell? ⟨b, off + j, none⟩ = some (.int .u8 ((bs[j]?.getD 0 : Nat) : Int))) :
    ∀ j u, (byteVals bs)[j]? = some u → W.cell? ((⟨b, off, none⟩ : Addr).add j) = some u := by
  intro j u hu
  have hadd : (⟨b, off, none⟩ : Addr).add j = ⟨b, off + j, none⟩ := by unfold Addr.add; split <;> simp_all
  rw [hadd]
  unfold byteVals at hu
  rw [List.getElem?_map] at hu
  cases hj : bs[j]? with
  | none => rw [hj] at hu; cases hu
  | some x =>
    rw [hj] at hu
    have h3 := hc j (List.getElem?_eq_some_iff.1 hj).1
    rw [hj] at h3
    simpa using h3.trans hu
theorem byteVals_one (l : List Nat) : ∀ u ∈ byteVals l, u.oneCell' = true := by
  intro u hu
  obtain ⟨b, _, rfl⟩ := List.mem_map.1 hu
  rfl

/-- What the walk is told of a row of integers that came in. -/
def IsRow (k : IntKind) (w : World) (a : Option Addr) (len cap : Nat) (zs : List Int) : Prop :=
  (a = none ∧ len = 0 ∧ cap = 0 ∧ zs = []) ∨
  ∃ x, a = some x ∧ len ≤ cap ∧ cap ≤ maxLen ∧ zs.length = cap ∧ (∀ i, i < zs.length → w.cell? (x.add i) = some (.int k (zs.getD i 0))) ∧ ∀ n ∈ zs, (Lit.int k n).wf = true
/-- Of m numbers of it, m less than its length. -/
theorem isRow_at {k : IntKind} {w : World} {x : Addr} {zs : List Int} (hc : ∀ i, i < zs.length → w.cell? (x.add i) = some (.int k (zs.getD i 0))) (hp : 0 < zs.length) :
    ∃ b off, x = ⟨b, off, none⟩ ∧ b < w.heap.size ∧ ∀ j, j < zs.length → w.cell? ⟨b, off + j, none⟩ = some (.int k (zs[j]?.getD 0)) := by
  obtain ⟨b, off, spot⟩ := x
  have h0 := hc 0 hp
  have hspot : spot = none := by simpa [Addr.add] using World.cell?_spot h0
  subst hspot
  refine ⟨b, off, rfl, ?_, fun j hj => ?_⟩
  · rcases Nat.lt_or_ge b w.heap.size with h | h
    · exact h
    · simp [World.cell?, Addr.add, Array.getElem?_eq_none h] at h0
  · have h1 := hc j hj
    have hadd : (⟨b, off, none⟩ : Addr).add j = ⟨b, off + j, none⟩ := by unfold Addr.add; split <;> simp_all
    rw [hadd] at h1
    simpa using h1
/-- The bytes, as numbers. -/
def natOf (zs : List Int) : List Nat := zs.map Int.toNat
theorem natOf_take (zs : List Int) (m : Nat) : natOf (zs.take m) = (natOf zs).take m := by simp [natOf]
theorem natOf_get {zs : List Int} (h : ∀ n ∈ zs, (Lit.int .u8 n).wf = true) (j : Nat) : (((natOf zs)[j]?.getD 0 : Nat) : Int) = zs[j]?.getD 0 ∧ (natOf zs)[j]?.getD 0 < 256 := by
  unfold natOf
  rw [List.getElem?_map]
  cases hj : zs[j]? with
  | none => simp
  | some z =>
    have hb := bounds_u8 (h z (List.mem_of_getElem? hj))
    simp
    omega
end Go.Proofs

/- The document's own Of and Put; slices.Equal of bytes. -/
namespace Go.Proofs
set_option maxRecDepth 100000
open Go.RowKit Go.Shelf
attribute [local go_sem] Oper.semAt_some

/-- The word of the bytes 8 - j to 7 of a row. -/
def uv (bs : List Nat) : Nat → Nat
  | 0 => 0
  | j + 1 => bs[7 - j]?.getD 0 + 256 * uv bs j
theorem byt_low {c y : Nat} (hc : c < 256) : byt (c + 256 * y) 0 = c := by unfold byt; omega
theorem byt_high {c y : Nat} (hc : c < 256) (n : Nat) : byt (c + 256 * y) (n + 1) = byt y n := by
  unfold byt
  rw [show 8 * (n + 1) = 8 + 8 * n by omega, Nat.pow_add, ← Nat.div_div_eq_div_mul]
  rw [show (c + 256 * y) / 2 ^ 8 = y by omega]
theorem uv_lt {bs : List Nat} (hb : ∀ n : Nat, bs[n]?.getD 0 < 256) (j : Nat) : uv bs j < 256 ^ j := by
  induction j with
  | zero => simp [uv]
  | succ j ih =>
    have h1 := hb (7 - j)
    rw [uv, Nat.pow_succ]
    omega
theorem byt_uv {bs : List Nat} (hb : ∀ n : Nat, bs[n]?.getD 0 < 256) : ∀ (j n : Nat), j ≤ 8 → n < j → byt (uv bs j) n = bs[8 - j + n]?.getD 0
  | 0, n, _, h => absurd h (Nat.not_lt_zero _)
  | j + 1, 0, hj, _ => by
    rw [uv, byt_low (hb _), show 8 - (j + 1) + 0 = 7 - j by omega]
  | j + 1, n + 1, hj, hn => by
    rw [uv, byt_high (hb _), byt_uv hb j n (by omega) (by omega), show 8 - (j + 1) + (n + 1) = 8 - j + n by omega]
theorem uv_8 {bs : List Nat} (hb : ∀ n : Nat, bs[n]?.getD 0 < 256) : uv bs 8 = ofB fun (n : Nat) => bs[n]?.getD 0 := by
  refine byt_ext (uv_lt hb 8) (ofB_lt hb) fun k hk => ?_
  rw [byt_ofB (g := fun (n : Nat) => bs[n]?.getD 0) hb hk, byt_uv hb 8 k (by omega) hk]
  simp
theorem uv_zero (bs : List Nat) : ∀ j, bs.length ≤ 8 - j → j ≤ 8 → uv bs j = 0
  | 0, _, _ => rfl
  | j + 1, h, hj => by
    rw [uv, uv_zero bs j (by omega) (by omega), List.getElem?_eq_none (by omega)]
    rfl
theorem uv_start (bs : List Nat) : uv bs (8 - bs.length) = 0 := by
  by_cases h : bs.length ≤ 8
  · exact uv_zero bs _ (by omega) (by omega)
  · rw [show 8 - bs.length = 0 by omega]; rfl
theorem uv_step (bs : List Nat) {k : Nat} (hk : k < 8) : uv bs (8 - k) = 256 * uv bs (8 - (k + 1)) + bs[k]?.getD 0 := by
  rw [show 8 - k = (8 - (k + 1)) + 1 by omega, uv, show 7 - (8 - (k + 1)) = k by omega]
  omega
theorem uv_big {bs : List Nat} (hb : ∀ n : Nat, bs[n]?.getD 0 < 256) {k : Nat} (hk : k < 8) : 256 * uv bs (8 - (k + 1)) + bs[k]?.getD 0 < 18446744073709551616 := by
  rw [← uv_step bs hk]
  exact Nat.lt_of_lt_of_le (uv_lt hb _) (Nat.pow_le_pow_right (n := 256) (show 0 < 256 by decide) (show 8 - k ≤ 8 by omega))

set_option maxHeartbeats 1000000 in
theorem Tryz.refOf_any (a : Option Addr) (len cap : Nat) (bs : List Nat) (hb : ∀ n : Nat, bs[n]?.getD 0 < 256) (hlen : len = bs.length) (hl : len ≤ 100) (w : World) (hI : BytesAt w (.slice a len cap) bs) :
    Calls Tryz.prog 52 #[.slice a len cap] w fun e w' => e = .returned (.int .u64 (ofB fun (n : Nat) => bs[n]?.getD 0 : Nat)) ∧ w = w' := by
  rw [← uv_8 hb]
  have HI := Lib.hid hI
  have HB := Lib.hid hb
  have HL := Lib.hid hlen
  have hu := uv_start bs
  rw [← hlen] at hu
  have HU := Lib.hid hu
  clear hI hb hlen hu
  go_enter Tryz.func52, Tryz.ntmps52
  go_wp2
  go_loop [3, 4] (fun ov i => ∃ k : Nat, k ≤ len ∧ i = .int .i64 ((k : Int) - 1) ∧ ov = .int .u64 (uv bs (8 - k) : Nat)) (fun _ i => (intOf i + 1).toNat)
  case atStart => exact ⟨len, Nat.le_refl _, by go_num, by rw [HU.out]; rfl⟩
  case round =>
    obtain ⟨k, hk, rfl, rfl⟩ := hrel
    match k, hk with
    | 0, hk =>
      go_wp2
      go_ret
      exact ⟨rfl, rfl⟩
    | k + 1, hk =>
      have hcx : ∃ b off, a = some ⟨b, off, none⟩ ∧ w.cell? ⟨b, off + k, none⟩ = some (.int .u8 ((bs[k]?.getD 0 : Nat) : Int)) := by
        rcases HI.out with ⟨h1, h2⟩ | ⟨b, off, cap', h1, _, h3⟩
        · have := HL.out; rw [h2] at this; simp at this; omega
        · cases h1
          exact ⟨b, off, rfl, h3 k (by omega)⟩
      obtain ⟨b, off, rfl, hcell⟩ := hcx
      have e1 : (((k + 1 : Nat) : Int) - 1) = (k : Int) := by omega
      rw [e1]
      clear e1
      by_cases h8 : k < 8
      · have hst := uv_step bs h8
        have hbg := uv_big HB.out h8
        have h2 := HB.out k
        generalize bs[k]?.getD 0 = y at *
        generalize uv bs (8 - (k + 1)) = u at *
        have HST := Lib.hid hst
        clear hst
        go_wp2
        exact ⟨⟨k, by omega, rfl, by rw [HST.out]; go_num⟩, by simp [intOf] <;> omega⟩
      · have e0 : 8 - (k + 1) = 8 - k := by omega
        rw [e0]
        clear e0
        go_wp2
        exact ⟨⟨k, by omega, rfl, rfl⟩, by simp [intOf] <;> omega⟩

theorem ne_self (a : Nat) : (((a : Nat) : Int) != ((a : Nat) : Int)) = false := by simp
/-- A row of bytes with one of them set. -/
theorem set_get (l : List Nat) (k b n : Nat) (hk : k < l.length) : (l.set k b)[n]?.getD 0 = if n = k then b else l[n]?.getD 0 := by
  rw [List.getElem?_set]
  by_cases h : k = n
  · subst h
    simp [hk]
  · rw [if_neg h, if_neg (fun h' => h h'.symm)]
set_option maxHeartbeats 1000000 in
theorem Tryz.refPut_any (x b k : Nat) (hx : x < 18446744073709551616) (hb : b < 256) (hk : k < 8) (w : World) :
    Calls Tryz.prog 28 #[.int .u64 x, .int .u8 b, .int .i64 k] w fun e w' => e = .returned (.int .u64 (setB x k b : Nat)) ∧ Below w.heap.size w w' := by
  have hBy := Tryz.refBytes_any x hx w
  have HBy := Lib.hid hBy
  have HX := Lib.hid hx
  have HB := Lib.hid hb
  clear hBy hx hb
  go_enter Tryz.func28, Tryz.ntmps28
  go_wp2_with fail
  refine HBy.out.mono ?_
  rintro e w1 ⟨v, rfl, hown, hB⟩
  have hown' := hown
  obtain ⟨g, cap, rfl, hg, hgl, hcell⟩ := owns_at hown (by rw [bytesTo_length]; decide)
  rw [bytesTo_length] at hcell hown' ⊢
  have hck := hcell k hk
  have hfr := World.ownsRow.frozenAt hown' k
  have HC := Lib.hid hcell
  clear hcell hown hown'
  go_wp2_with fail
  have hfin : BytesAt (w1.setCell ⟨g, k, none⟩ (.int .u8 (b : Int))) (.slice (some ⟨g, 0, none⟩) 8 cap) ((bytesTo x 8).set k b) := .inr ⟨g, 0, cap, by rw [List.length_set, bytesTo_length], by simpa [World.setCell] using hgl, fun j hj => by
    rw [List.length_set, bytesTo_length] at hj
    rw [set_get _ _ _ _ (by rw [bytesTo_length]; exact hk), Nat.zero_add]
    by_cases hjk : j = k
    · subst hjk
      rw [if_pos rfl]
      exact World.cell?_setCell_same' _ _ _ (by rw [hck]; rfl)
    · rw [if_neg hjk, ← HC.out j hj]
      exact World.cell?_setCell_other _ _ _ _ (fun h => hjk (by injection h with _ h2; exact h2.symm))⟩
  have hlt : ∀ n : Nat, ((bytesTo x 8).set k b)[n]?.getD 0 < 256 := fun n => by
    rw [set_get _ _ _ _ (by rw [bytesTo_length]; exact hk)]
    split
    · exact HB.out
    · by_cases h8 : n < 8
      · rw [bytesTo_get x h8]; exact byt_lt x n
      · rw [List.getElem?_eq_none (by rw [bytesTo_length]; omega)]; decide
  have hO := Tryz.refOf_any (some ⟨g, 0, none⟩) 8 cap ((bytesTo x 8).set k b) hlt (by rw [List.length_set, bytesTo_length]) (by omega) _ hfin
  have hv : (ofB fun (n : Nat) => ((bytesTo x 8).set k b)[n]?.getD 0) = setB x k b := by
    refine byt_ext (ofB_lt hlt) (setB_lt HX.out hk HB.out) fun j hj => ?_
    rw [byt_ofB (g := fun (n : Nat) => ((bytesTo x 8).set k b)[n]?.getD 0) hlt hj, set_get _ _ _ _ (by rw [bytesTo_length]; exact hk), byt_setB HB.out, bytesTo_get x hj]
  rw [hv] at hO
  have hB2 := hB.setCell (p := ⟨g, k, none⟩) hg (.int .u8 (b : Int))
  have HO := Lib.hid hO
  clear hO hv hlt hfin hck hfr
  refine HO.out.mono ?_
  rintro e w2 ⟨rfl, rfl⟩
  go_wp2
  go_ret
  exact ⟨rfl, hB2⟩
end Go.Proofs

/- Empty rows, wherever they point. -/
namespace Go.Proofs
set_option maxRecDepth 100000
open Go.RowKit Go.Shelf
attribute [local go_sem] Oper.semAt_some

set_option maxHeartbeats 1000000 in
theorem Tryz.indexEmpty_any (a : Option Addr) (cap : Nat) (w : World) :
    Calls Tryz.prog 104 #[.slice a 0 cap, .func (.func 66) #[] #[]] w (Found [] w) := by
  go_enter Tryz.func104, Tryz.ntmps104
  go_wp2
  go_loop [8] (fun i => i = .int .i64 0) (fun _ => 0)
  case atStart => rfl
  case round =>
    obtain rfl := hrel
    go_wp2
    go_ret
    exact ⟨-1, rfl, by simp, rfl⟩
theorem Tryz.containsEmpty_any (a : Option Addr) (cap : Nat) (w : World) :
    Calls Tryz.prog 102 #[.slice a 0 cap, .func (.func 66) #[] #[]] w fun e w' => e = .returned (.bool false) ∧ w = w' := by
  have hI := Tryz.indexEmpty_any a cap w
  have HI := Lib.hid hI
  clear hI
  go_enter Tryz.func102, Tryz.ntmps102
  go_wp2_with fail
  refine HI.out.mono ?_
  rintro e w' ⟨r, rfl, hr, rfl⟩
  have et : (decide (0 ≤ r)) = false := by
    rw [decide_eq_false_iff_not, hr]
    rintro ⟨z, hz, _⟩
    simp at hz
  have ET := Lib.hid et
  clear hr et
  go_wp2
  go_ret
  exact ⟨by rw [← ET.out]; rfl, rfl⟩

set_option maxRecDepth 100000 in
set_option maxHeartbeats 1000000 in
theorem Tryz.values1_empty_in (F : Fence) (n : Nat) (hF : F.fn 99) (hro : F.round = none) (l Bs : Nat) (a : Option Addr) (cap : Nat) (J : List (Fin 8) → World → Prop) (W : World) (hBs : W.cell? ⟨Bs, 0, none⟩ = some (.slice a 0 cap)) (h0 : J [] W) :
    CallsIn F n Tryz.prog 99 #[.func (.yield l) #[] #[], .pointer (some ⟨Bs, 0, none⟩)] W fun e W' => (∃ v, e = .returned v) ∧ J [] W' := by
  refine callsIn_of_wp Tryz.func99 rfl hF ?_ hro
  simp only [Tryz.ntmps99, List.size_toArray, List.length_cons, List.length_nil, Nat.reduceAdd, Nat.reduceSub, Array.replicate_succ, Array.replicate_zero, List.push_toArray, List.append_toArray, List.nil_append, List.cons_append]
  gi_wp2
  gi_loopw [7] (fun i wr => i = .int .i64 0 ∧ J [] wr) (fun _ _ => 0)
  case atStart => exact ⟨rfl, h0⟩
  case round =>
    obtain ⟨rfl, hJs⟩ := hrel
    gi_wp2
    go_end0
    exact ⟨⟨_, rfl⟩, hJs⟩
theorem Tryz.valuesEmpty_stops (F : Fence) (n : Nat) (hF : F.fn 99) (hro : F.round = none) (Bs h x : Nat) (a : Option Addr) (cap : Nat) (w : World) (hBs : Bs < w.heap.size)
    (hc : w.cell? ⟨Bs, 0, none⟩ = some (.slice a 0 cap)) :
    SeqStopsK F n Tryz.prog 99 #[.pointer (some ⟨Bs, 0, none⟩)] (fun y : Fin 8 => #[Value.int .i64 (y : Nat)]) (But h x) (fun ys => ys = []) (fun pre => pre <+: []) 0 w := fun l J _ W hW _ _ _ h0 =>
  (Tryz.values1_empty_in F n hF hro l Bs a cap J W ((hW.cell (p := ⟨Bs, 0, none⟩) hBs).trans hc) h0).mono fun _ _ ⟨he, hj⟩ => ⟨he, .inl ⟨_, rfl, hj⟩⟩

set_option maxHeartbeats 1000000 in
theorem Tryz.PutEmpty_any (x b : Nat) (hx : x < 18446744073709551616) (hb : b < 256) (a : Option Addr) (cap : Nat) (w : World) :
    Calls Tryz.prog 100 #[.int .u64 x, .int .u8 b, .slice a 0 cap] w fun e w' => e = .returned (.tuple #[.int .u64 x, .int .i64 0]) ∧ Below w.heap.size w w' := by
  have hB0 : Below w.heap.size w (w.alloc (.cells #[.int .u8 b] 5)) := (Below.refl _ w).alloc (Nat.le_refl _) _
  have hC := Tryz.containsEmpty_any a cap (w.alloc (.cells #[.int .u8 b] 5))
  have HC := Lib.hid hC
  have HX := Lib.hid hx
  have HB := Lib.hid hb
  clear hC hx hb
  go_enter Tryz.func100, Tryz.ntmps100
  go_wp2_with fail
  refine HC.out.mono ?_
  rintro e w' ⟨rfl, rfl⟩
  go_wp2_with (go_at_call 82; refine (Tryz.values_any _ _ _ _).mono ?_; rintro e w' ⟨rfl, rfl⟩)
  have b0 := ((Rows8.new w 5 #[.int .u8 b]).alloc (.cells #[.int .u64 x] 137)).alloc (.cells #[.slice a 0 cap] 46)
  have b1 := (Rows8.new (w.alloc (.cells #[.int .u8 b] 5)) 137 #[.int .u64 x]).alloc (.cells #[.slice a 0 cap] 46)
  have b2 := Rows8.new ((w.alloc (.cells #[.int .u8 b] 5)).alloc (.cells #[.int .u64 x] 137)) 46 #[.slice a 0 cap]
  simp only [World.size_alloc] at b1 b2
  have hB1 : Below w.heap.size w (((w.alloc (.cells #[.int .u8 b] 5)).alloc (.cells #[.int .u64 x] 137)).alloc (.cells #[.slice a 0 cap] 46)) := (hB0.alloc (by simp) _).alloc (by simp [Nat.add_assoc]) _
  have hsz : (((w.alloc (.cells #[.int .u8 b] 5)).alloc (.cells #[.int .u64 x] 137)).alloc (.cells #[.slice a 0 cap] 46)).heap.size = w.heap.size + 3 := by simp
  generalize (((w.alloc (.cells #[.int .u8 b] 5)).alloc (.cells #[.int .u64 x] 137)).alloc (.cells #[.slice a 0 cap] 46)) = W0 at *
  have HSZ := Lib.hid hsz
  clear hsz
  have hL := Tryz.lay_any 99 #[.pointer (some ⟨w.heap.size + 1 + 1, 0, none⟩)] 103 #[] #[.pointer (some ⟨w.heap.size, 0, none⟩)] (w.heap.size + 1) x (w.heap.size + 3) 0 (fun _ => b) [] _ W0 HX.out (fun _ => HB.out) (by rw [HSZ.out]; exact Nat.le_refl _)
    (Tryz.valuesEmpty_stops Fence.wide 2 trivial rfl (w.heap.size + 1 + 1) (w.heap.size + 3) (w.heap.size + 1) a cap W0 (by rw [HSZ.out]; omega) (b2.cell 0))
    (fun y W hW => Tryz.put1_any b w.heap.size y W ((hW.cell (a := ⟨w.heap.size, 0, none⟩) b0.lt (by simp)).trans (b0.cell 0)))
    b1 (enters_of Tryz.func99 (by kernel_rfl) rfl) (enters_of Tryz.func103 (by kernel_rfl) rfl)
  have HL := Lib.hid hL
  clear hL b0 b1 b2
  refine HL.out.mono ?_
  rintro e W1 ⟨⟨v, rfl⟩, hr, hB⟩
  have hc : W1.cell? ⟨w.heap.size + 1, 0, none⟩ = some (.int .u64 x) := hr.cell 0
  clear hr
  go_wp2_with (go_at_call 95; refine (Tryz.number_any _ _).mono ?_; rintro e w' ⟨rfl, rfl⟩)
  go_ret2
  exact ⟨rfl, hB1.trans (hB.below hB1.size (by omega))⟩

/-- A row that is cut, nil or wherever it points. -/
theorem Tryz.slice_bytes (a : Option Addr) (n c m : Nat) (ha : (a = none ∧ n = 0 ∧ c = 0 ∧ m = 0) ∨ ∃ y, a = some y) (hmn : m ≤ n) (hnc : n ≤ c) (hc : c ≤ 9223372036854775807) (W : World) :
    (Instr.slice 80 (.slice a n c) none (some (.int .i64 m)) none).run Tryz.prog W = .ok (.slice a m c) W := by
  rcases ha with ⟨rfl, rfl, rfl, rfl⟩ | ⟨y, rfl⟩
  · go_simp
  · go_simp
    intro h
    omega
theorem Tryz.slice_ints (a : Option Addr) (n c m : Nat) (ha : (a = none ∧ n = 0 ∧ c = 0 ∧ m = 0) ∨ ∃ y, a = some y) (hmn : m ≤ n) (hnc : n ≤ c) (hc : c ≤ 9223372036854775807) (W : World) :
    (Instr.slice 46 (.slice a n c) none (some (.int .i64 m)) none).run Tryz.prog W = .ok (.slice a m c) W := by
  rcases ha with ⟨rfl, rfl, rfl, rfl⟩ | ⟨y, rfl⟩
  · go_simp
  · go_simp
    intro h
    omega
end Go.Proofs

/- The document's own Turn, Blend and All; slices.Equal of ints. -/
namespace Go.Proofs
set_option maxRecDepth 100000
open Go.RowKit Go.Shelf
attribute [local go_sem] Oper.semAt_some

theorem tmod8 (i : Int) : -8 < i.tmod 8 ∧ i.tmod 8 < 8 ∧ (i.tmod 8) % 8 = i % 8 := by
  rw [Int.tmod_eq_emod]
  split
  · omega
  · rename_i h
    have : ¬ (8 ∣ i) := fun h' => h (.inr h')
    simp only [Int.natAbs]
    omega
/-- The bytes that f tells of 0 to k - 1. -/
def rowTo (f : Nat → Nat) (k : Nat) : List Nat := (List.range k).map f
theorem rowTo_succ (f : Nat → Nat) (k : Nat) : rowTo f (k + 1) = rowTo f k ++ [f k] := by simp [rowTo, List.range_succ]
theorem rowTo_length (f : Nat → Nat) (k : Nat) : (rowTo f k).length = k := by simp [rowTo]
theorem rowTo_get (f : Nat → Nat) {k n : Nat} (h : k < n) : (rowTo f n)[k]?.getD 0 = f k := by simp [rowTo, h]
theorem rowTo_lt {f : Nat → Nat} (hf : ∀ n, f n < 256) (k n : Nat) : (rowTo f k)[n]?.getD 0 < 256 := by
  by_cases h : n < k
  · rw [rowTo_get f h]; exact hf n
  · rw [List.getElem?_eq_none (by rw [rowTo_length]; omega)]; decide
theorem rowTo_of {f : Nat → Nat} (hf : ∀ n, f n < 256) : (ofB fun (n : Nat) => (rowTo f 8)[n]?.getD 0) = ofB f := by
  refine byt_ext (ofB_lt (rowTo_lt hf 8)) (ofB_lt hf) fun k hk => ?_
  rw [byt_ofB (g := fun (n : Nat) => (rowTo f 8)[n]?.getD 0) (rowTo_lt hf 8) hk, byt_ofB hf hk, rowTo_get f hk]

/-- The bytes of a word, those of the first k lanes that m has being z's. -/
def mix (x z m k n : Nat) : Nat := if n < k ∧ m.testBit n = true then byt z n else byt x n
theorem mix_lt (x z m k n : Nat) : mix x z m k n < 256 := by
  unfold mix
  split <;> exact byt_lt _ _
theorem mix_0 (x z m n : Nat) : mix x z m 0 n = byt x n := by simp [mix]
theorem mix_no {x z m k n : Nat} (h : m.testBit k = false) : mix x z m (k + 1) n = mix x z m k n := by
  unfold mix
  by_cases hn : n = k
  · subst hn; simp [h]
  · have : n < k + 1 ↔ n < k := by omega
    simp only [this]
theorem mix_yes {x z m k : Nat} (h : m.testBit k = true) (n : Nat) : mix x z m (k + 1) n = if n = k then byt z k else mix x z m k n := by
  unfold mix
  by_cases hn : n = k
  · subst hn; simp [h]
  · have : n < k + 1 ↔ n < k := by omega
    simp only [this, if_neg hn]
theorem mix_8 (x z m : Nat) (hx : x < 18446744073709551616) : ofB (mix x z m 8) = setAll (byt z) x (lanesOf m) := by
  refine byt_ext (ofB_lt (mix_lt x z m 8)) (setAll_lt (fun n => byt_lt z n) hx _) fun k hk => ?_
  rw [byt_ofB (mix_lt x z m 8) hk]
  have h := byt_setAll (g := byt z) (fun n => byt_lt z n) x (lanesOf m) ⟨k, hk⟩
  rw [h]
  unfold mix
  have := mem_lanesOf m ⟨k, hk⟩
  simp only at this
  simp [hk, this]
/-- Eight bytes that the call owns. -/
def Own8 (n₀ : Nat) (f : Nat → Nat) (v : Value) (W : World) : Prop := W.ownsRow n₀ 5 1 v 8 (byteVals (rowTo f 8))
theorem own8_of {n₀ x : Nat} {v : Value} {W : World} (h : OwnsBytes n₀ (bytesTo x 8) v W) : Own8 n₀ (byt x) v W := by
  unfold OwnsBytes at h
  rw [bytesTo_length] at h
  exact h
theorem own8_bytes {n₀ : Nat} {f : Nat → Nat} {v : Value} {W : World} (h : Own8 n₀ f v W) : OwnsBytes n₀ (rowTo f 8) v W := by
  unfold OwnsBytes
  rw [rowTo_length]
  exact h
theorem set8 {f g : Nat → Nat} {k b : Nat} (h : ∀ n, g n = if n = k then b else f n) : (byteVals (rowTo f 8)).set k (.int .u8 (b : Int)) = byteVals (rowTo g 8) := by
  unfold byteVals
  rw [← List.map_set]
  congr 1
  unfold rowTo
  apply List.ext_getElem
  · simp
  · intro n h1 h2
    simp only [List.getElem_set, List.getElem_map, List.getElem_range]
    rw [h n]
    by_cases hn : k = n
    · subst hn; simp
    · rw [if_neg hn, if_neg (fun e => hn e.symm)]
theorem own8_cells {n₀ : Nat} {f : Nat → Nat} {v : Value} {W : World} (h : Own8 n₀ f v W) :
    ∃ g cap, v = .slice (some ⟨g, 0, none⟩) 8 cap ∧ n₀ ≤ g ∧ g < W.heap.size := by
  obtain ⟨g, cap, rfl, hg, hl, _⟩ := owns_at (own8_bytes h) (by rw [rowTo_length]; decide)
  exact ⟨g, cap, by rw [rowTo_length], hg, hl⟩
theorem own8_cell {n₀ g cap : Nat} {f : Nat → Nat} {W : World} (h : Own8 n₀ f (.slice (some ⟨g, 0, none⟩) 8 cap) W) (j : Nat) (hj : j < 8) : W.cell? ⟨g, j, none⟩ = some (.int .u8 (f j : Nat)) := by
  rw [World.ownsRow.cellAt h j (by omega)]
  simp [byteVals, rowTo, hj]
theorem own8_mono {n₀ n₁ : Nat} {f : Nat → Nat} {v : Value} {W : World} (h : Own8 n₁ f v W) (hn : n₀ ≤ n₁) : Own8 n₀ f v W :=
  ⟨h.1, h.2.imp id fun ⟨g, cap, cur, h1, h2, h3⟩ => ⟨g, cap, cur, h1, Nat.le_trans hn h2, h3⟩⟩
theorem own8_keep {n₀ h : Nat} {f : Nat → Nat} {v : Value} {A B : World} (o : Own8 n₀ f v A) (hB : Below h A B) (hh : A.heap.size ≤ h) : Own8 n₀ f v B := by
  refine World.ownsRow.kept o (row := none) ⟨hB.os, hB.tape, hB.output, hB.size, fun k hk _ => hB.block k (Nat.lt_of_lt_of_le hk hh)⟩ ?_
  cases e : v.ownBlock <;> simp

theorem owns_intsAt {n₀ : Nat} {l : List (Fin 8)} {v : Value} {W : World} (h : OwnsLanes n₀ l v W) : (∃ a cap, v = .slice a l.length cap) ∧ IntsAt W v (lanesInt l) := by
  have hlen : (lanesInt l).length = l.length := by simp [lanesInt]
  rcases h.1.2 with ⟨h1, h2⟩ | ⟨g, cap, cur, h1, hg, hh, _⟩
  · have hl := h.2.1 h1
    subst hl
    exact ⟨⟨none, 0, h1⟩, .inl ⟨h1, rfl⟩⟩
  · subst h1
    refine ⟨⟨_, _, rfl⟩, .inr ⟨g, 0, cap, by rw [hlen], (Array.getElem?_eq_some_iff.1 hh).1, fun j hj => ?_⟩⟩
    rw [hlen] at hj
    rw [Nat.zero_add, World.ownsRow.cellAt h.1 j (by omega), lanesInt_get l j hj]
    simp [laneVals, hj]

theorem ne_selfI (a : Int) : (a != a) = false := by simp
set_option maxHeartbeats 1000000 in
/-- Two rows of the same ints are equal. -/
theorem Tryz.equalInts_any (a1 a2 : Option Addr) (n c1 c2 : Nat) (zs : List Int) (hn : n = zs.length) (hl : n ≤ 100) (w : World) (h1 : IntsAt w (.slice a1 n c1) zs) (h2 : IntsAt w (.slice a2 n c2) zs) :
    Calls Tryz.prog 18 #[.slice a1 n c1, .slice a2 n c2] w fun e w' => e = .returned (.bool true) ∧ Below w.heap.size w w' := by
  have H1 := Lib.hid h1
  have H2 := Lib.hid h2
  have HN := Lib.hid hn
  clear h1 h2 hn
  go_enter Tryz.func18, Tryz.ntmps18
  go_wp2
  go_loopw [5, 13] (fun _ j wr => ∃ k : Nat, k ≤ n ∧ j = .int .i64 k ∧ Below w.heap.size w wr) (fun _ j _ => n - (intOf j).toNat)
  case atStart => exact ⟨0, Nat.zero_le _, rfl, Below.refl _ _⟩
  case round =>
    obtain ⟨k, hk, rfl, hB⟩ := hrel
    by_cases hlt : k < n
    · have hcx : ∀ (a : Option Addr) (c : Nat), IntsAt w (.slice a n c) zs → ∃ b off, a = some ⟨b, off, none⟩ ∧ wr.cell? ⟨b, off + k, none⟩ = some (.int .i64 (zs[k]?.getD 0)) := by
        intro a c h
        rcases h with ⟨h1, h2⟩ | ⟨b, off, cap', h1, hb, h3⟩
        · have := HN.out; rw [h2] at this; simp at this; omega
        · cases h1
          exact ⟨b, off, rfl, (hB.cell (p := ⟨b, off + k, none⟩) hb).trans (h3 k (by have := HN.out; omega))⟩
      obtain ⟨b1, o1, rfl, hc1⟩ := hcx a1 c1 H1.out
      obtain ⟨b2, o2, rfl, hc2⟩ := hcx a2 c2 H2.out
      clear hcx
      generalize zs[k]?.getD 0 = y at *
      have hne := ne_selfI y
      have hmx : Tryz.prog.follows .mixedOrders = true := by kernel_rfl
      have hki : (k : Int) < (n : Int) := by omega
      go_wp2
      refine wp_region_still_lit hmx (by kernel_rfl) ?_
      repeat still_step
      refine wpStill_nil ?_
      go_wp2
      exact ⟨⟨k + 1, by omega, by go_num, hB.drew⟩, by simp [intOf]; omega⟩
    · obtain rfl : k = n := by omega
      go_wp2
      go_ret
      exact ⟨rfl, hB⟩
end Go.Proofs
