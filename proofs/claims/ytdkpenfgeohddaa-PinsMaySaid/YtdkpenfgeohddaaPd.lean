/- Pins: who holds the epoch back. -/
import Derived.Test.YtdkpenfgeohddaaPc
namespace Go.Proofs
set_option maxRecDepth 100000
open Go.RowKit Go.Shelf
attribute [local go_sem] Oper.semAt_some

/-- Eight flags. -/
def arr8B (f : Nat → Bool) : Array Value := #[.bool (f 0), .bool (f 1), .bool (f 2), .bool (f 3), .bool (f 4), .bool (f 5), .bool (f 6), .bool (f 7)]
theorem eight {k : Nat} (h : k < 8) : k = 0 ∨ k = 1 ∨ k = 2 ∨ k = 3 ∨ k = 4 ∨ k = 5 ∨ k = 6 ∨ k = 7 := by omega
theorem arr8B_get (f : Nat → Bool) (k : Nat) (h : k < 8) : (arr8B f)[k]? = some (.bool (f k)) := by
  rcases eight h with rfl | rfl | rfl | rfl | rfl | rfl | rfl | rfl <;> rfl
theorem arr8B_set (f : Nat → Bool) (k : Nat) (h : k < 8) (z : Bool) : (arr8B f).setIfInBounds k (.bool z) = arr8B (fun n => if n = k then z else f n) := by
  rcases eight h with rfl | rfl | rfl | rfl | rfl | rfl | rfl | rfl <;> rfl
theorem Rows8.setB8 {W : World} {B : Nat} {t : TypeId} {f : Nat → Bool} (h : Rows8 W B t (arr8B f)) (k : Nat) (hk : k < 8) (z : Bool) : Rows8 (W.setCell ⟨B, k, none⟩ (.bool z)) B t (arr8B (fun n => if n = k then z else f n)) := by
  rw [← arr8B_set f k hk z]
  exact h.set k _
theorem Rows8.all8B {W : World} {B : Nat} {t : TypeId} {f : Nat → Bool} (h : Rows8 W B t (arr8B f)) :
    W.cell? ⟨B, 0, none⟩ = some (.bool (f 0)) ∧ W.cell? ⟨B, 1, none⟩ = some (.bool (f 1)) ∧ W.cell? ⟨B, 2, none⟩ = some (.bool (f 2)) ∧ W.cell? ⟨B, 3, none⟩ = some (.bool (f 3)) ∧ W.cell? ⟨B, 4, none⟩ = some (.bool (f 4)) ∧ W.cell? ⟨B, 5, none⟩ = some (.bool (f 5)) ∧ W.cell? ⟨B, 6, none⟩ = some (.bool (f 6)) ∧ W.cell? ⟨B, 7, none⟩ = some (.bool (f 7)) :=
  ⟨h.cell 0, h.cell 1, h.cell 2, h.cell 3, h.cell 4, h.cell 5, h.cell 6, h.cell 7⟩
theorem Rows8.same8B {W : World} {B : Nat} {t : TypeId} {f : Nat → Bool} (h : Rows8 W B t (arr8B f)) :
    Rows8 ((((((((W.setCell ⟨B, 0, none⟩ (.bool (f 0))).setCell ⟨B, 1, none⟩ (.bool (f 1))).setCell ⟨B, 2, none⟩ (.bool (f 2))).setCell ⟨B, 3, none⟩ (.bool (f 3))).setCell ⟨B, 4, none⟩ (.bool (f 4))).setCell ⟨B, 5, none⟩ (.bool (f 5))).setCell ⟨B, 6, none⟩ (.bool (f 6))).setCell ⟨B, 7, none⟩ (.bool (f 7))) B t (arr8B f) := by
  have h8 := (((((((h.set 0 (.bool (f 0))).set 1 (.bool (f 1))).set 2 (.bool (f 2))).set 3 (.bool (f 3))).set 4 (.bool (f 4))).set 5 (.bool (f 5))).set 6 (.bool (f 6))).set 7 (.bool (f 7))
  unfold arr8B at h8
  simp only [List.setIfInBounds_toArray, List.set_cons_zero, List.set_cons_succ] at h8
  exact h8
theorem below_set8B {h : Nat} {A W : World} (p : Below h A W) {B : Nat} (hB : h ≤ B) (f : Nat → Bool) :
    Below h A ((((((((W.setCell ⟨B, 0, none⟩ (.bool (f 0))).setCell ⟨B, 1, none⟩ (.bool (f 1))).setCell ⟨B, 2, none⟩ (.bool (f 2))).setCell ⟨B, 3, none⟩ (.bool (f 3))).setCell ⟨B, 4, none⟩ (.bool (f 4))).setCell ⟨B, 5, none⟩ (.bool (f 5))).setCell ⟨B, 6, none⟩ (.bool (f 6))).setCell ⟨B, 7, none⟩ (.bool (f 7))) :=
  (((((((p.setCell (p := ⟨B, 0, none⟩) hB _).setCell (p := ⟨B, 1, none⟩) hB _).setCell (p := ⟨B, 2, none⟩) hB _).setCell (p := ⟨B, 3, none⟩) hB _).setCell (p := ⟨B, 4, none⟩) hB _).setCell (p := ⟨B, 5, none⟩) hB _).setCell (p := ⟨B, 6, none⟩) hB _).setCell (p := ⟨B, 7, none⟩) hB _
/-- The flags behind what was told. -/
def flagF (E : Int) (pre : List (Int × Int)) : Nat → Bool := pre.foldl (fun f y g => if (g : Int) = y.1 then y.2 != E else f g) (fun _ => false)
theorem flagF_snoc (E : Int) (pre : List (Int × Int)) (y : Int × Int) : flagF E (pre ++ [y]) = fun g : Nat => if (g : Int) = y.1 then y.2 != E else flagF E pre g := by
  unfold flagF
  rw [List.foldl_append]
  rfl
/-- Who holds the epoch back. -/
def bkB (E : Int) (S : List Int) (g : Nat) : Bool := decide (g < S.length) && (S[g]?.getD 0 != 0 && (S[g]?.getD 0 - 1 != E))
theorem flagF_all (E : Int) (S : List Int) : flagF E (pinL S) = bkB E S := by
  induction S using snoc_ind with
  | h0 => funext g; simp [flagF, pinL, pinF, bkB]
  | h1 S z ih =>
    rw [pinL_snoc]
    by_cases hz : z = 0
    · rw [if_pos hz, List.append_nil, ih]
      funext g
      unfold bkB
      rcases Nat.lt_trichotomy g S.length with h | h | h
      · rw [List.getElem?_append_left h]
        simp [h, Nat.lt_succ_of_lt h]
      · subst h
        simp [hz]
      · rw [decide_eq_false (by omega), decide_eq_false (by simp; omega)]
        simp
    · rw [if_neg hz, flagF_snoc, ih]
      funext g
      unfold bkB
      rcases Nat.lt_trichotomy g S.length with h | h | h
      · rw [List.getElem?_append_left h, if_neg (by dsimp only; omega)]
        simp [h, Nat.lt_succ_of_lt h]
      · subst h
        rw [if_pos rfl]
        simp [hz]
      · rw [if_neg (by dsimp only; omega), decide_eq_false (by omega), decide_eq_false (by simp; omega)]
        simp
theorem pre_mem {α : Type} {pre : List α} {y : α} {l : List α} (h : pre ++ [y] <+: l) : y ∈ l := by
  obtain ⟨t, ht⟩ := h
  rw [← ht]
  simp
set_option maxHeartbeats 8000000 in
theorem Try.backs_any (E : Int) (a : Option Addr) (n c : Nat) (S : List Int) (hS : okW S) (h8 : n ≤ 8) (w : World) (hI : WordsAt w (.slice a n c) S) :
    Calls Try.prog 32 #[.agg #[.int .u64 E, .slice a n c]] w fun e w' => e = .returned (.agg (arr8B (bkB E S))) ∧ Below w.heap.size w w' := by
  refine (callsIn_wide (n := 9)).1 ?_
  refine callsIn_of_wp_marks Try.func32 rfl trivial ?_ rfl
  simp only [Try.ntmps32, List.size_toArray, List.length_cons, List.length_nil, Nat.reduceAdd, Nat.reduceSub, Array.replicate_succ, Array.replicate_zero, List.push_toArray, List.append_toArray, List.nil_append, List.cons_append]
  have hn := (wordsAt_len hI).1
  have hfin := flagF_all E S
  obtain ⟨q, hq⟩ : ∃ q, q = bkB E S := ⟨_, rfl⟩
  rw [← hq] at hfin ⊢
  clear hq
  have v0 := Rows8.new w 57 #[.int .u64 E, .slice a n c]
  have v1 := v0.alloc (.cells #[.bool false, .bool false, .bool false, .bool false, .bool false, .bool false, .bool false, .bool false] 61)
  have f1 := rows_new2 w (.cells #[.int .u64 E, .slice a n c] 57) 61 #[.bool false, .bool false, .bool false, .bool false, .bool false, .bool false, .bool false, .bool false]
  have hB1 : Below w.heap.size w ((w.alloc (.cells #[.int .u64 E, .slice a n c] 57)).alloc (.cells #[.bool false, .bool false, .bool false, .bool false, .bool false, .bool false, .bool false, .bool false] 61)) := (Rows8.newB).alloc (by simp) _
  have hsz : ((w.alloc (.cells #[.int .u64 E, .slice a n c] 57)).alloc (.cells #[.bool false, .bool false, .bool false, .bool false, .bool false, .bool false, .bool false, .bool false] 61)).heap.size = w.heap.size + 1 + 1 := by simp
  have HP := fun W => Lib.hid (Try.pinning_any E a n c W)
  have HS8 := Lib.hid hS
  have HI := Lib.hid hI
  have HFIN := Lib.hid hfin
  have HN := Lib.hid hn
  clear v0 hn hfin hS hI
  gi_wp2_with fail
  generalize ((w.alloc (.cells #[.int .u64 E, .slice a n c] 57)).alloc (.cells #[.bool false, .bool false, .bool false, .bool false, .bool false, .bool false, .bool false, .bool false] 61)) = W0 at *
  refine ⟨trivial, ?_⟩
  refine (callsIn_wide.2 (HP _).out).mono ?_
  rintro e W1 ⟨rfl, hw1⟩
  have hB01 : Below W0.heap.size W0 W1 := by rw [hw1]; exact Rows8.newB
  have p1 : Rows8 W1 W0.heap.size 57 #[.int .u64 E, .slice a n c] := by rw [hw1]; exact Rows8.new _ _ _
  rw [hsz] at p1
  simp only [hsz]
  have hB2 := hB1.trans (hB01.mono hB1.size)
  have hk0 : Kt w.heap.size 61 61 w W1 := .of_below hB2
  have v2 := v1.below hB01 v1.lt
  have f2 := f1.below hB01 f1.lt
  have hs1 : W0.heap.size ≤ W1.heap.size := hB01.size
  have HTL := Lib.hid (tellsE_of (Try.pinning1_tells 8 (by decide) (Kt w.heap.size 61 61) (w.heap.size + 1 + 1) E a n c S HS8.out W1 (fun A => Kt w.heap.size 61 61 W1 A) (Kt.refl _ _ _ _) (fun A hA => ⟨hA.rows p1 (by decide) (by decide), rowAt_kt HI.out (hk0.trans hA)⟩) (fun A B hA hB => hA.trans (.of_below hB)) (fun A B p hA => hA.trans p)))
  have hI0 : Rows8 W1 (w.heap.size + 1) 61 (arr8B (flagF E [])) := f2
  have HB2 := Lib.hid hB2
  clear v1 f1 hB1 hw1 hB01 p1 hk0 f2
  gi_wp2_with fail
  refine range_tellsE rfl (by decide) (gf := 44) (lb := #[.pointer (some ⟨w.heap.size + 1 + 1, 0, none⟩)]) rfl trivial (fun _ _ => by kernel_rfl) HTL.out kt_t (kt_b (B := W1.heap.size)) (Below.refl _ _) (fun _ => rfl)
    (fun pre W => Rows8 W (w.heap.size + 1) 61 (arr8B (flagF E pre)) ∧ Rows8 W w.heap.size 57 #[.int .u64 E, .slice a n c] ∧ Below w.heap.size w W)
    (fun s X Y row h hg hr => ⟨h.1.keepM hg (fun r e => (hr r e).2), h.2.1.keepM hg (fun r e => (hr r e).2), (ownFrom_below (β := Unit) (Nat.le_refl _) (by omega)) () X Y row h.2.2 hg hr⟩)
    (fun s X Y h hXY => ⟨h.1.below hXY h.1.lt, h.2.1.below hXY h.2.1.lt, h.2.2.trans (hXY.mono h.2.2.size)⟩)
    ⟨hI0, v2, HB2.out⟩
    (fun y a' W' => a' = { tmps := #[.agg #[.int .u64 E, .slice a n c], .pointer (some ⟨w.heap.size, 0, none⟩), .pointer (some ⟨w.heap.size + 1, 0, none⟩), .int .i64 y.1, .int .u64 y.2, .agg #[.int .u64 E, .slice a n c], .func (.func 44) #[] #[.pointer (some ⟨w.heap.size + 1 + 1, 0, none⟩)], .int .i64 y.1, .int .u64 y.2, undef, undef, undef, undef, undef, undef, undef, undef], defers := [] })
    (fun y a' s X Y row e hg hr => e) ?assign ?body ?done
  case assign =>
    rintro l2 pre y W' K hI2 hK
    unfold encY
    gi_wp2_with fail
    exact hK _ _ (keepsFrom_below (Below.refl _ _)) (.of_below (Below.refl _ _)) hI2 (by simp)
  case body =>
    rintro l2 pre y a' W' ⟨hf, hv, hB⟩ rfl hok
    obtain ⟨k, hk, hy1, -⟩ := (pinL_mem S y).1 (pre_mem hok)
    obtain ⟨y1, y2⟩ := y
    dsimp only at hy1
    subst hy1
    have hk8 : k < 8 := by have := HN.out; omega
    have hki : (k : Int) < 8 := by omega
    have hki0 : (0 : Int) ≤ (k : Int) := by omega
    have cv := hv.cell 0
    have cf := hf.cell k
    rw [arr8B_get _ k hk8] at cf
    have ff := hf.frozen k
    have hlt1 := hf.lt
    have s1 := hf.setB8 k hk8 (y2 != E)
    have hfn : (fun n => if n = k then (y2 != E) else flagF E pre n) = flagF E (pre ++ [((k : Int), y2)]) := by
      rw [flagF_snoc]
      funext g
      by_cases e : g = k
      · rw [if_pos e, if_pos (by rw [e])]
      · rw [if_neg e, if_neg (by dsimp only; omega)]
    rw [hfn] at s1
    have HS1 := Lib.hid s1
    have HV1 := Lib.hid (hv.setOther (a := ⟨w.heap.size + 1, k, none⟩) (by simp) (.bool (y2 != E)))
    have HB1 := Lib.hid (hB.setCell (p := ⟨w.heap.size + 1, k, none⟩) (by simp) (.bool (y2 != E)))
    have HK1 := Lib.hid (keepsFrom_set (H := W1.heap.size) W' (a := ⟨w.heap.size + 1, k, none⟩) hf (.bool (y2 != E)))
    have HKT := Lib.hid ((Kt.refl w.heap.size 61 61 W').set (a := ⟨w.heap.size + 1, k, none⟩) hf (by show w.heap.size ≤ w.heap.size + 1; omega) (.inl rfl) (.bool (y2 != E)))
    clear hf hv hB s1 hfn hok hk
    gi_wp2_with fail
    exact ⟨HK1.out, HKT.out, HS1.out, HV1.out, HB1.out⟩
  case done =>
    rintro D ys W' hD rfl ⟨hf, hv, hB⟩ hK
    rw [HFIN.out] at hf
    obtain ⟨c0, c1, c2, c3, c4, c5, c6, c7⟩ := hf.all8B
    have g0 := hf.frozen 0
    have g1 := hf.frozen 1
    have g2 := hf.frozen 2
    have g3 := hf.frozen 3
    have g4 := hf.frozen 4
    have g5 := hf.frozen 5
    have g6 := hf.frozen 6
    have g7 := hf.frozen 7
    have hlt := hf.lt
    have hneD : D ≠ w.heap.size + 1 := fun e => by
      subst e
      rw [show W'.heap[w.heap.size + 1]? = _ from hf] at hK
      cases hK
    have hf2 := hf.same8B
    have hB2 := below_set8B hB (B := w.heap.size + 1) (by omega) q
    have HF2 := Lib.hid hf2
    have HBB := Lib.hid hB2
    have HKK := Lib.hid hK
    clear hf hv hB hf2 hB2 hK HFIN
    gi_wp2_with fail
    have hK2 : ∀ (X : World) (o : Nat) (u : Value), X.heap[D]? = some (.deferred (some [])) → (X.setCell ⟨w.heap.size + 1, o, none⟩ u).heap[D]? = some (.deferred (some [])) := fun X o u h => (Below.heap_setCell _ _ _ _ (by show D ≠ w.heap.size + 1; exact hneD)).trans h
    have hK3 := hK2 _ 7 (.bool (q 7)) (hK2 _ 6 (.bool (q 6)) (hK2 _ 5 (.bool (q 5)) (hK2 _ 4 (.bool (q 4)) (hK2 _ 3 (.bool (q 3)) (hK2 _ 2 (.bool (q 2)) (hK2 _ 1 (.bool (q 1)) (hK2 _ 0 (.bool (q 0)) HKK.out)))))))
    refine ⟨by simp, .inl ⟨_, _, rfl, run_takeDeferred hK3, ?_⟩⟩
    exact ⟨_, results_c rfl _ _ (w.heap.size + 1) 61 (arr8B q) (0, 0) _ rfl (rows_put HF2.out hK3) Try.underlying61 rfl (by kernel_rfl), rfl, HBB.out.trans (belowK_b (w := w) (Nat.le_refl _) _ D _ (.deferred none) (by omega) hK3 rfl rfl)⟩
/-- The goroutines of which it is so. -/
def trues (f : Nat → Bool) (k : Nat) : List Int := ((List.range k).filter f).map fun g : Nat => (g : Int)
theorem trues_succ (f : Nat → Bool) (k : Nat) : trues f (k + 1) = trues f k ++ (if f k then [(k : Int)] else []) := by
  unfold trues
  rw [List.range_succ, List.filter_append, List.map_append]
  cases h : f k <;> simp [h]
theorem trues_len (f : Nat → Bool) (k : Nat) : (trues f k).length ≤ k := by
  unfold trues
  rw [List.length_map]
  exact Nat.le_trans (List.length_filter_le _ _) (by simp)
theorem Try.index_flags (f : Nat → Bool) (k : Nat) (h : k < 8) (W : World) : (Instr.index 61 (.agg (arr8B f)) (.int .i64 k)).run Try.prog W = .ok (.bool (f k)) W := by
  rcases eight h with rfl | rfl | rfl | rfl | rfl | rfl | rfl | rfl <;> kernel_rfl
set_option maxHeartbeats 4000000 in
theorem Try.list_any (f : Nat → Bool) (w : World) :
    Calls Try.prog 33 #[.agg (arr8B f)] w (IntsQ (trues f 8) w) := by
  obtain ⟨i0, hi, hz0, hz1, hz2⟩ := info_parts Try.infoInt
  have r0 := Rows8.new w 61 (arr8B f)
  have hB0 : Below w.heap.size w (w.alloc (.cells (arr8B f) 61)) := Rows8.newB
  obtain ⟨c0, c1, c2, c3, c4, c5, c6, c7⟩ := r0.all8B
  have hlt := r0.lt
  have hix := fun (k : Nat) (h : k < 8) (W : World) => Lib.hid (Try.index_flags f k h W)
  have HB0 := Lib.hid hB0
  clear r0 hB0
  go_enter Try.func33, Try.ntmps33
  go_wp2_with fail
  go_loopw [2, 6] (fun v j wr => ∃ k : Nat, k ≤ 8 ∧ j = .int .i64 k ∧ Hid (OwnsInts w.heap.size (trues f k) v wr) ∧ Hid (Below w.heap.size w wr)) (fun _ j _ => 8 - (intOf j).toNat)
  case atStart => exact ⟨0, Nat.zero_le _, rfl, Lib.hid (World.ownsRow_nil _ _ _ _), HB0⟩
  case round =>
    obtain ⟨k, hk, rfl, hO, hB⟩ := hrel
    clear c0 c1 c2 c3 c4 c5 c6 c7 hlt
    by_cases hlt : k < 8
    · have hki : (k : Int) < 8 := by omega
      have hki0 : (0 : Int) ≤ (k : Int) := by omega
      have hx := (hix k hlt wr).out
      have hts := trues_succ f k
      have htl := trues_len f k
      obtain ⟨p, hp⟩ : ∃ p, p = f k := ⟨_, rfl⟩
      rw [← hp] at hx hts
      clear hp
      unfold arr8B at *
      cases p with
      | false =>
        rw [if_neg (by simp), List.append_nil] at hts
        have HT := Lib.hid hts
        clear hts htl
        go_wp2_with fail
        exact ⟨⟨k + 1, by omega, by go_num, by rw [HT.out]; exact hO, hB⟩, by simp [intOf]; omega⟩
      | true =>
        rw [if_pos rfl] at hts
        have HT := Lib.hid hts
        have hsz := hB.out.size
        have HTL := Lib.hid htl
        clear hts htl
        obtain ⟨au, cu, rfl⟩ : ∃ au cu, u2 = .slice au (trues f k).length cu := by
          obtain ⟨_, a, cap, h, _⟩ := rowAt_own hO.out
          exact ⟨a, cap, h⟩
        go_wp2_with (at_builtin; refine wpList_append_own _ rfl _ _ 32 rfl w.heap.size 3 i0 (.int .i64 0) 1 8 Try.underlying32 hi hz0 hz1 hz2 rfl (by decide) _ _ _ rfl (hO.out.alloc _) ⟨wr.heap.size, 0, none⟩ 1 1 [.int .i64 k] rfl rfl (cells_new wr _ [.int .i64 k]) (by simp [Value.oneCell']) (by have := HTL.out; unfold maxLen; omega) (by have := HTL.out; omega) (by simp; omega) ?_)
        intro v' w3 hown' hgrow _
        have hB1 : Below w.heap.size w w3 := (hB.out.alloc hsz _).grown hgrow (by simp; omega) (fun j ej => (World.ownsRow.lt hO.out j ej).1)
        have HO2 : Hid (OwnsInts w.heap.size (trues f (k + 1)) v' w3) := Lib.hid (by
          rw [HT.out]
          unfold OwnsInts
          rw [List.length_append, show intVals (trues f k ++ [(k : Int)]) = intVals (trues f k) ++ [.int .i64 k] by simp [intVals]]
          exact hown')
        have HB1 := Lib.hid hB1
        clear hown' hgrow hB1
        go_wp2_with fail
        exact ⟨⟨k + 1, by omega, by go_num, HO2, HB1⟩, by simp [intOf]; omega⟩
    · obtain rfl : k = 8 := by omega
      go_wp2_with fail
      go_ret
      exact ⟨_, rfl, hO.out, hB.out⟩
end Go.Proofs
