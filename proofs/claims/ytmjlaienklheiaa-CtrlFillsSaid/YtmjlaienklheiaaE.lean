/- The library's functions over rows of lanes; Put, First, All, Of. -/
import Derived.Test.YtmjlaienklheiaaD
namespace Go.Proofs
set_option maxRecDepth 100000
open Go.RowKit Go.Shelf
attribute [local go_sem] Oper.semAt_some

/-- The slice value sv holds the ints zs. -/
def IntsAt (W : World) (sv : Value) (zs : List Int) : Prop :=
  (sv = .slice none 0 0 ∧ zs = []) ∨ ∃ b off cap, sv = .slice (some ⟨b, off, none⟩) zs.length cap ∧ b < W.heap.size ∧ ∀ j, j < zs.length → W.cell? ⟨b, off + j, none⟩ = some (.int .i64 (zs[j]?.getD 0))
theorem IntsAt.below {A B : World} {h : Nat} (p : Below h A B) (hh : A.heap.size ≤ h) {sv : Value} {zs : List Int} : IntsAt A sv zs → IntsAt B sv zs
  | .inl e => .inl e
  | .inr ⟨b, off, cap, e, hb, hc⟩ => .inr ⟨b, off, cap, e, Nat.lt_of_lt_of_le hb p.size, fun j hj => (p.cell (p := ⟨b, off + j, none⟩) (Nat.lt_of_lt_of_le hb hh)).trans (hc j hj)⟩
def bad (z : Int) : Prop := z < 0 ∨ 8 ≤ z
instance (z : Int) : Decidable (bad z) := inferInstanceAs (Decidable (_ ∨ _))

theorem Try.noLane_yes (i : Int) (h : bad i) (w : World) : Calls Try.prog 76 #[.int .i64 i] w fun e w' => e = .returned (.bool true) ∧ w = w' := by
  have := Try.noLane_any i w
  rwa [decide_eq_true (show i < 0 ∨ 8 ≤ i from h)] at this
theorem Try.noLane_no (i : Int) (h : ¬ bad i) (w : World) : Calls Try.prog 76 #[.int .i64 i] w fun e w' => e = .returned (.bool false) ∧ w = w' := by
  have := Try.noLane_any i w
  rwa [decide_eq_false (show ¬ (i < 0 ∨ 8 ≤ i) from h)] at this

def Found (zs : List Int) (w : World) (e : Ending) (w' : World) : Prop := ∃ r : Int, e = .returned (.int .i64 r) ∧ (0 ≤ r ↔ ∃ z, z ∈ zs ∧ bad z) ∧ w = w'

set_option maxHeartbeats 1000000 in
theorem Try.indexNil_any (w : World) :
    Calls Try.prog 80 #[.slice none 0 0, .func (.func 76) #[] #[]] w (Found [] w) := by
  go_enter Try.func80, Try.ntmps80
  go_wp2
  go_loop [8] (fun i => i = .int .i64 0) (fun _ => 0)
  case atStart => rfl
  case round =>
    obtain rfl := hrel
    go_wp2
    go_ret
    exact ⟨-1, rfl, by simp, rfl⟩

set_option maxHeartbeats 1000000 in
theorem Try.index_any (b off cap : Nat) (zs : List Int) (hreach : zs.length * 8 ≤ 140737488351232) (w : World) (hc : ∀ j, j < zs.length → w.cell? ⟨b, off + j, none⟩ = some (.int .i64 (zs[j]?.getD 0))) :
    Calls Try.prog 80 #[.slice (some ⟨b, off, none⟩) zs.length cap, .func (.func 76) #[] #[]] w (Found zs w) := by
  have HC := Lib.hid hc
  clear hc
  obtain ⟨n, hn⟩ : ∃ n, n = zs.length := ⟨_, rfl⟩
  rw [← hn] at hreach ⊢
  have HN := Lib.hid hn
  clear hn
  go_enter Try.func80, Try.ntmps80
  go_wp2
  go_loop [8] (fun i => ∃ k : Nat, k ≤ n ∧ i = .int .i64 k ∧ Hid (∀ j, j < k → ¬ bad (zs[j]?.getD 0))) (fun i => n - (intOf i).toNat)
  case atStart => exact ⟨0, Nat.zero_le _, rfl, Lib.hid (fun j hj => absurd hj (Nat.not_lt_zero _))⟩
  case round =>
    obtain ⟨k, hk, rfl, hok⟩ := hrel
    by_cases hlt : k < n
    · have hcell := HC.out k (by have := HN.out; omega)
      generalize hz : zs[k]?.getD 0 = z at hcell
      have HZ := Lib.hid hz
      clear hz
      by_cases hb : bad z
      · have hno := fun w => Try.noLane_yes z hb w
        have HNO := Lib.hid hno
        have HB := Lib.hid hb
        clear hno hb
        go_wp2_with (go_at_call 76; refine (HNO.out _).mono ?_; rintro e w' ⟨rfl, rfl⟩)
        go_ret
        exact ⟨(k : Int), rfl, ⟨fun _ => ⟨z, by
          have hlt' : k < zs.length := by have := HN.out; omega
          have e := HZ.out
          rw [List.getElem?_eq_getElem hlt'] at e
          simp at e
          rw [← e]
          exact List.getElem_mem hlt', HB.out⟩, fun _ => by omega⟩, rfl⟩
      · have hno := fun w => Try.noLane_no z hb w
        have HNO := Lib.hid hno
        have HB := Lib.hid hb
        clear hno hb
        go_wp2_with (go_at_call 76; refine (HNO.out _).mono ?_; rintro e w' ⟨rfl, rfl⟩)
        go_round
        case rel => exact ⟨k + 1, by omega, by go_num, Lib.hid (fun j hj => by
          by_cases hj' : j < k
          · exact hok.out j hj'
          · obtain rfl : j = k := by omega
            rw [HZ.out]
            exact HB.out)⟩
        case measure => simp [intOf]; omega
    · obtain rfl : k = n := by omega
      go_wp2
      go_ret
      refine ⟨-1, rfl, ⟨fun h => by omega, ?_⟩, rfl⟩
      rintro ⟨z, hz, hb⟩
      obtain ⟨j, hj, rfl⟩ := List.mem_iff_getElem.1 hz
      have := hok.out j (by rw [HN.out]; exact hj)
      rw [List.getElem?_eq_getElem hj] at this
      exact absurd hb this

theorem Try.indexInts_any (sv : Value) (zs : List Int) (hreach : zs.length * 8 ≤ 140737488351232) (w : World) (h : IntsAt w sv zs) :
    Calls Try.prog 80 #[sv, .func (.func 76) #[] #[]] w (Found zs w) := by
  rcases h with ⟨rfl, rfl⟩ | ⟨b, off, cap, rfl, _, hc⟩
  · exact Try.indexNil_any w
  · exact Try.index_any b off cap zs hreach w hc

theorem Try.contains_any (sv : Value) (zs : List Int) (hreach : zs.length * 8 ≤ 140737488351232) (w : World) (h : IntsAt w sv zs) (t : Bool) (ht : t = true ↔ ∃ z, z ∈ zs ∧ bad z) :
    Calls Try.prog 77 #[sv, .func (.func 76) #[] #[]] w fun e w' => e = .returned (.bool t) ∧ w = w' := by
  have hI := Try.indexInts_any sv zs hreach w h
  have HI := Lib.hid hI
  have HT := Lib.hid ht
  clear hI h ht
  go_enter Try.func77, Try.ntmps77
  go_wp2_with fail
  refine HI.out.mono ?_
  rintro e w' ⟨r, rfl, hr, rfl⟩
  have et : (decide (0 ≤ r)) = t := by
    rw [Bool.eq_iff_iff, decide_eq_true_iff, hr, HT.out]
  have ET := Lib.hid et
  clear hr et
  go_wp2
  go_ret
  exact ⟨by rw [← ET.out]; rfl, rfl⟩

set_option maxHeartbeats 1000000 in
theorem Try.values_any (a : Option Addr) (len cap : Nat) (w : World) :
    Calls Try.prog 78 #[.slice a len cap] w fun e w' => e = .returned (.func (.func 81) #[] #[.pointer (some ⟨w.heap.size, 0, none⟩)]) ∧ w' = w.alloc (.cells #[.slice a len cap] 40) := by
  go_enter Try.func78, Try.ntmps78
  go_wp2
  go_ret
  exact ⟨rfl, rfl⟩

def lanesInt (xs : List (Fin 8)) : List Int := xs.map fun (y : Fin 8) => ((y : Nat) : Int)
theorem lanesInt_get (xs : List (Fin 8)) (k : Nat) (h : k < xs.length) : (lanesInt xs)[k]?.getD 0 = ((xs[k] : Nat) : Int) := by
  simp [lanesInt, h]
theorem take_next {α : Type} (xs : List α) (k : Nat) (h : k < xs.length) : xs.take (k + 1) = xs.take k ++ [xs[k]] := by
  rw [List.take_succ_eq_append_getElem h]

set_option maxRecDepth 100000 in
set_option maxHeartbeats 2000000 in
theorem Try.values1_in (F : Fence) (n : Nat) (hF : F.fn 81) (hro : F.round = none) (hn : 1 ≤ n) (l Bs h x b off len cap : Nat) (xs : List (Fin 8)) (hlen : Hid (len = xs.length)) (hreach : len * 8 ≤ 140737488351232) (hb : b < h) (hbx : b ≠ x) (J Jx : List (Fin 8) → World → Prop)
    (hY : ∀ pre (y : Fin 8) W, J pre W → pre.length < len → YieldAt F (n - 1) Try.prog l #[.int .i64 (y : Nat)] W fun e W' =>
      (e = .returned (.bool true) ∧ J (pre ++ [y]) W' ∧ But h x W W') ∨ (e = .returned (.bool false) ∧ Jx (pre ++ [y]) W'))
    (W : World) (hBs : W.cell? ⟨Bs, 0, none⟩ = some (.slice (some ⟨b, off, none⟩) len cap)) (hc : Hid (∀ j (hj : j < xs.length), W.cell? ⟨b, off + j, none⟩ = some (.int .i64 ((xs[j] : Nat) : Int)))) (h0 : J [] W) :
    CallsIn F n Try.prog 81 #[.func (.yield l) #[] #[], .pointer (some ⟨Bs, 0, none⟩)] W fun e W' => (∃ v, e = .returned v) ∧
      ((∃ ys, ys = xs ∧ J ys W') ∨ (∃ pre, pre <+: xs ∧ Jx pre W')) := by
  refine callsIn_of_wp Try.func81 rfl hF ?_ hro
  simp only [Try.ntmps81, List.size_toArray, List.length_cons, List.length_nil, Nat.reduceAdd, Nat.reduceSub, Array.replicate_succ, Array.replicate_zero, List.push_toArray, List.append_toArray, List.nil_append, List.cons_append]
  gi_wp2
  gi_loopw [7] (fun i wr => ∃ k : Nat, k ≤ len ∧ i = .int .i64 k ∧ J (xs.take k) wr ∧ But h x W wr)
    (fun i _ => len - (intOf i).toNat)
  case atStart => exact ⟨0, Nat.zero_le _, rfl, h0, But.refl _ _ _⟩
  case round =>
    obtain ⟨k, hk, rfl, hJs, hnx⟩ := hrel
    by_cases hlt : k < len
    · have hlt' : k < xs.length := by have := hlen.out; omega
      have hcx : wr.cell? ⟨b, off + k, none⟩ = some (.int .i64 ((xs[k] : Nat) : Int)) := (hnx.cell (a := ⟨b, off + k, none⟩) hb hbx).trans (hc.out k hlt')
      have ht := take_next xs k hlt'
      obtain ⟨fn, tmps, assign, body, hy, hR⟩ := hY _ xs[k] wr hJs (by rw [List.length_take]; omega)
      generalize xs[k] = y at *
      have HT := Lib.hid ht
      clear ht
      gi_wp2
      refine hR.mono ?_
      rintro e W3 (⟨rfl, hJ3, hk3⟩ | ⟨rfl, hJx3⟩)
      · -- THE ROUND GOES ON
        gi_wp2
        go_roundw
        case rel => exact ⟨k + 1, by omega, by simp, by rw [HT.out]; exact hJ3, hnx.trans hk3⟩
        case measure => simp [intOf]; omega
      · gi_wp2
        refine bodyPost_ret (results_none rfl _ _ _) rfl ?_
        exact ⟨⟨_, rfl⟩, .inr ⟨_, List.take_prefix (k + 1) xs, by rw [HT.out]; exact hJx3⟩⟩
    · obtain rfl : k = len := by omega
      gi_wp2
      go_end0
      exact ⟨⟨_, rfl⟩, .inl ⟨_, rfl, by rw [List.take_of_length_le (by have := hlen.out; omega)] at hJs; exact hJs⟩⟩

set_option maxRecDepth 100000 in
set_option maxHeartbeats 1000000 in
theorem Try.values1_nil_in (F : Fence) (n : Nat) (hF : F.fn 81) (hro : F.round = none) (l Bs : Nat) (J : List (Fin 8) → World → Prop) (W : World) (hBs : W.cell? ⟨Bs, 0, none⟩ = some (.slice none 0 0)) (h0 : J [] W) :
    CallsIn F n Try.prog 81 #[.func (.yield l) #[] #[], .pointer (some ⟨Bs, 0, none⟩)] W fun e W' => (∃ v, e = .returned v) ∧ J [] W' := by
  refine callsIn_of_wp Try.func81 rfl hF ?_ hro
  simp only [Try.ntmps81, List.size_toArray, List.length_cons, List.length_nil, Nat.reduceAdd, Nat.reduceSub, Array.replicate_succ, Array.replicate_zero, List.push_toArray, List.append_toArray, List.nil_append, List.cons_append]
  gi_wp2
  gi_loopw [7] (fun i wr => i = .int .i64 0 ∧ J [] wr) (fun _ _ => 0)
  case atStart => exact ⟨rfl, h0⟩
  case round =>
    obtain ⟨rfl, hJs⟩ := hrel
    gi_wp2
    go_end0
    exact ⟨⟨_, rfl⟩, hJs⟩

theorem Try.values_stops (F : Fence) (n : Nat) (hF : F.fn 81) (hro : F.round = none) (hn : 1 ≤ n) (Bs h x : Nat) (sv : Value) (xs : List (Fin 8)) (hreach : xs.length * 8 ≤ 140737488351232) (w : World) (hBs : Bs < w.heap.size)
    (hc : w.cell? ⟨Bs, 0, none⟩ = some sv) (hI : ∃ A, IntsAt A sv (lanesInt xs) ∧ Below A.heap.size A w ∧ A.heap.size ≤ h ∧ A.heap.size ≤ x) :
    SeqStopsK F n Try.prog 81 #[.pointer (some ⟨Bs, 0, none⟩)] (fun y : Fin 8 => #[Value.int .i64 (y : Nat)]) (But h x) (fun ys => ys = xs) (fun pre => pre <+: xs) xs.length w := fun l J Jx W hW _ _ hY h0 => by
  have hc' := (hW.cell (p := ⟨Bs, 0, none⟩) hBs).trans hc
  obtain ⟨A, hA, hAw, hAh, hAx⟩ := hI
  rcases hA with ⟨rfl, hz⟩ | ⟨b, off, cap, rfl, hb, hcs⟩
  · have hx : xs = [] := by simpa [lanesInt] using hz
    subst hx
    exact (Try.values1_nil_in F n hF hro l Bs J W hc' h0).mono fun e W' ⟨he, hj⟩ => ⟨he, .inl ⟨_, rfl, hj⟩⟩
  · have hl : (lanesInt xs).length = xs.length := by simp [lanesInt]
    rw [hl] at hc'
    exact Try.values1_in F n hF hro hn l Bs h x b off xs.length cap xs (Lib.hid rfl) hreach (by omega) (by omega) J Jx hY W hc'
      (Lib.hid fun j hj => by
        have h1 := hcs j (by rw [hl]; exact hj)
        rw [lanesInt_get xs j hj] at h1
        exact (hW.cell (p := ⟨b, off + j, none⟩) (by have := hAw.size; show b < w.heap.size; omega)).trans ((hAw.cell (p := ⟨b, off + j, none⟩) hb).trans h1)) h0
end Go.Proofs
