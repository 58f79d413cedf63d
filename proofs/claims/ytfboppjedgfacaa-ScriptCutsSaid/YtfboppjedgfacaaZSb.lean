/- Script: bytes.Equal, bytes.HasPrefix. -/
import Derived.Test.YtfboppjedgfacaaZKa
import Derived.Laws.BytesArg
namespace Go.Proofs
open Go.RowKit Go.Shelf
attribute [local go_sem] Oper.semAt_some

def AllBytes (xs : List Int) : Prop := ∀ x ∈ xs, 0 ≤ x ∧ x < 256
theorem strOfNums_inj : ∀ {xs ys : List Int}, AllBytes xs → AllBytes ys → strOfNums xs = strOfNums ys → xs = ys := by
  intro xs ys hx hy h
  have h1 := congrArg (fun s : ByteArray => s.data.toList) h
  simp only [strOfNums_data] at h1
  clear h
  induction xs generalizing ys with
  | nil =>
    cases ys with
    | nil => rfl
    | cons b l => simp at h1
  | cons a l ih =>
    cases ys with
    | nil => simp at h1
    | cons b m =>
      simp only [List.map_cons, List.cons.injEq] at h1
      obtain ⟨e1, e2⟩ := h1
      have ha := hx a (List.mem_cons_self ..)
      have hb := hy b (List.mem_cons_self ..)
      have e3 := congrArg UInt8.toNat e1
      simp only [UInt8.toNat_ofNat'] at e3
      have : a = b := by omega
      rw [this, ih (fun x hx' => hx x (List.mem_cons_of_mem _ hx')) (fun x hx' => hy x (List.mem_cons_of_mem _ hx')) e2]
set_option maxRecDepth 100000 in
theorem bytes_conv {W : World} {a : Option Addr} {n cap : Nat} {xs : List Int} (hn : n = xs.length) (h : BytesAt W (.slice a n cap) xs) : (convert 38 9 (.slice a n cap)).run Try.prog W = .ok (.string (strOfNums xs)) W := by
  cases a with
  | none =>
    obtain ⟨h0, a', cap', e, h1, h2, h3, h4⟩ := h
    cases e
    have hc0 := h3 rfl
    have hxs : xs = [] := List.eq_nil_of_length_eq_zero (by omega)
    subst hxs
    exact run_convert_bytes_nil (P := Try.prog) W 38 5 Try.underlying38 Try.underlying5 _ _ 9 Try.underlying9
  | some x =>
    obtain ⟨b, off, spot⟩ := x
    have hsp : xs.length = 0 ∨ spot = none := by
      rcases Nat.eq_zero_or_pos xs.length with h0 | h0
      · exact .inl h0
      · obtain ⟨b', off', e, _, _⟩ := bytesAt_get h 0 h0
        injection e with e
        injection e with _ _ e3
        exact .inr e3
    by_cases h0 : xs.length = 0
    · have hxs : xs = [] := List.eq_nil_of_length_eq_zero h0
      subst hxs
      have hn0 : n = 0 := by rw [hn]; rfl
      subst hn0
      rw [run_convert_bytes_string W 38 9 5 _ 0 cap Try.underlying38 Try.underlying5 Try.underlying9]
      rfl
    · have hs : spot = none := by rcases hsp with h | h; exact absurd h h0; exact h
      subst hs
      refine run_convert_bytes_arg (P := Try.prog) W 38 5 Try.underlying38 Try.underlying5 b off n cap xs hn.symm (fun i hi => ?_) 9 Try.underlying9
      obtain ⟨b', off', e, _, hc⟩ := bytesAt_get h i (by omega)
      injection e with e
      injection e with e1 e2
      subst e1 e2
      rw [hc]
      simp [List.getD]
theorem Try.equalBytes_any (a1 a2 : Option Addr) (n1 n2 c1 c2 : Nat) (xs ys : List Int) (hx : n1 = xs.length) (hy : n2 = ys.length) (bx : AllBytes xs) (by_ : AllBytes ys) (w : World) (h1 : BytesAt w (.slice a1 n1 c1) xs) (h2 : BytesAt w (.slice a2 n2 c2) ys) :
    Calls Try.prog 20 #[.slice a1 n1 c1, .slice a2 n2 c2] w fun e w' => e = .returned (.bool (decide (xs = ys))) ∧ w = w' := by
  have e1 := bytes_conv hx h1
  have e2 := bytes_conv hy h2
  have hd : ((strOfNums xs).toList == (strOfNums ys).toList) = decide (xs = ys) := by
    by_cases h : xs = ys
    · subst h; simp
    · have h9 : ¬ (strOfNums xs).toList = (strOfNums ys).toList := fun e => by
        rw [ByteArray.toList_eq, ByteArray.toList_eq] at e
        exact h (strOfNums_inj bx by_ (WideShapes.bytes_inj e))
      rw [decide_eq_false h]
      simpa using h9
  clear h1 h2 hx hy bx by_
  generalize decide (xs = ys) = r at *
  generalize strOfNums xs = s1 at *
  generalize strOfNums ys = s2 at *
  go_enter Try.func20, Try.ntmps20
  go_wp2
  go_ret
  exact ⟨by first | rfl | rw [hd] | simp [hd], rfl⟩

theorem prefix_take {xs ys : List Int} (h : ys.length ≤ xs.length) : decide (ys <+: xs) = decide (xs.take ys.length = ys) := by
  by_cases hp : ys <+: xs
  · rw [decide_eq_true hp, decide_eq_true]
    obtain ⟨t, rfl⟩ := hp
    simp
  · rw [decide_eq_false hp, decide_eq_false]
    intro e
    refine hp ⟨xs.drop ys.length, ?_⟩
    have h9 := List.take_append_drop ys.length xs
    rw [e] at h9
    exact h9
set_option maxHeartbeats 1000000 in
theorem Try.hasPrefix_any (a1 a2 : Option Addr) (n1 n2 c1 c2 : Nat) (xs ys : List Int) (hx : n1 = xs.length) (hy : n2 = ys.length) (bx : AllBytes xs) (by_ : AllBytes ys) (w : World) (h1 : BytesAt w (.slice a1 n1 c1) xs) (h2 : BytesAt w (.slice a2 n2 c2) ys) :
    Calls Try.prog 33 #[.slice a1 n1 c1, .slice a2 n2 c2] w fun e w' => e = .returned (.bool (decide (ys <+: xs))) ∧ w = w' := by
  have hc1 : n1 ≤ c1 ∧ c1 ≤ maxLen := by
    obtain ⟨h0, a', cap', e, k1, k2, k3, k4⟩ := h1
    cases e
    exact ⟨by omega, k2⟩
  by_cases hn : n2 ≤ n1
  · have hcut := bytes_cut hx h1 n2 hn
    have heq := Try.equalBytes_any a1 a2 n2 n2 c1 c2 (xs.take n2) ys (by rw [List.length_take]; omega) hy (fun x hx' => bx x (List.mem_of_mem_take hx')) by_ w hcut h2
    have hp : decide (ys <+: xs) = decide (xs.take n2 = ys) := by rw [hy]; exact prefix_take (by omega)
    rw [hp]
    have HEQ := Lib.hid heq
    have hge : (n2 : Int) ≤ (n1 : Int) := by omega
    have hlc : ¬ (c1 : Int) < (n2 : Int) := by omega
    have hlc2 : n2 ≤ c1 := by omega
    clear heq hcut h1 h2 hx hy bx by_ hp hc1
    generalize decide (xs.take n2 = ys) = r at *
    go_enter Try.func33, Try.ntmps33
    go_wp2_with fail
    refine HEQ.out.mono ?_
    rintro e w' ⟨rfl, rfl⟩
    go_wp2_with fail
    go_ret
    exact ⟨rfl, rfl⟩
  · have hge : ¬ (n2 : Int) ≤ (n1 : Int) := by omega
    have hp : decide (ys <+: xs) = false := decide_eq_false fun h => by have := h.length_le; omega
    rw [hp]
    clear h1 h2 hx hy bx by_ hp hc1
    go_enter Try.func33, Try.ntmps33
    go_wp2_with fail
    go_ret
    exact ⟨rfl, rfl⟩
end Go.Proofs

/- Script: rows of calls: cut, Clone, Equal, opened. -/
namespace Go.Proofs
open Go.ChangeShapes Go.WideShapes Go.RowKit Go.Shelf Go.Deep
attribute [local go_sem] Oper.semAt_some

/-- A call: its Op, key, and two words. -/
structure Cl4 where
  op : Int
  key : Int
  a : Int
  b : Int
deriving DecidableEq
def Cl4.cells (c : Cl4) : List Value := [.int .i64 c.op, .int .u64 c.key, .int .u64 c.a, .int .u64 c.b]
def callVals (l : List Cl4) : List Value := l.flatMap Cl4.cells
theorem callVals_length (l : List Cl4) : (callVals l).length = l.length * 4 := flat_length _ 4 (fun _ => rfl) l
def CallsAt (W : World) (v : Value) (l : List Cl4) : Prop := RowAt W v l.length 4 (callVals l)
def OwnsCalls (n₀ : Nat) (l : List Cl4) (v : Value) (W : World) : Prop := W.ownsRow n₀ 55 4 v l.length (callVals l)
def CallsQ (l : List Cl4) (w : World) (e : Ending) (w' : World) : Prop := ∃ v, e = .returned v ∧ OwnsCalls w.heap.size l v w' ∧ Below w.heap.size w w'
theorem Try.infoCall : (Try.prog.info? 55).map (fun i => (i.zero, i.size, i.bytes)) = some (some (.agg #[.int .i64 0, .int .u64 0, .int .u64 0, .int .u64 0]), 4, 32) := by kernel_rfl
theorem callVals_one (l : List Cl4) : ∀ u ∈ callVals l, u.oneCell' = true := by
  intro u hu
  obtain ⟨a, _, h⟩ := List.mem_flatMap.1 hu
  simp [Cl4.cells] at h
  rcases h with rfl | rfl | rfl | rfl <;> rfl
theorem calls_cut {W : World} {a : Option Addr} {n cap : Nat} {l : List Cl4} (hn : n = l.length) (h : CallsAt W (.slice a n cap) l) (m : Nat) (hm : m ≤ n) : CallsAt W (.slice a m cap) (l.take m) := by
  subst hn
  have h1 := RowAt.cut h m hm
  have e : (l.take m).length = m := by rw [List.length_take]; omega
  unfold CallsAt
  rw [e, show callVals (l.take m) = (callVals l).take (m * 4) from flat_take Cl4.cells 4 (fun _ => rfl) l m]
  exact h1
set_option maxRecDepth 100000 in
set_option maxHeartbeats 1000000 in
theorem Try.cloneCalls_any (a : Option Addr) (n cap : Nat) (ws : List Cl4) (hn : n = ws.length) (hl : n ≤ 100) (w : World) (hI : CallsAt w (.slice a n cap) ws) :
    Calls Try.prog 36 #[.slice a n cap] w (CallsQ ws w) := by
  obtain ⟨i0, hi, hz0, hz1, hz2⟩ := info_parts Try.infoCall
  cases a with
  | none =>
    obtain ⟨h0, a', cap', e, h1, h2, h3, h4⟩ := hI
    cases e
    have hc0 : cap = 0 := h3 rfl
    subst hc0
    have hw0 : ws = [] := List.eq_nil_of_length_eq_zero (by omega)
    subst hw0
    have hnil := fun wx : World => Lib.run_eql_slice_nil (P := Try.prog) wx 53 55 none 0 0 0 0 Try.underlying53
    simp only [List.length_nil]
    clear h0 h1 h2 h3 h4 hn hl
    go_enter Try.func36, Try.ntmps36
    go_wp2
    go_ret
    exact ⟨_, rfl, World.ownsRow_nil _ _ _ _, Below.refl _ _⟩
  | some x =>
    have hnil := fun wx : World => Lib.run_eql_slice_nil (P := Try.prog) wx 53 55 (some x) n cap 0 0 Try.underlying53
    subst hn
    have hsrc := row_src hI
    have HC := Lib.hid hsrc
    clear hI hsrc
    have hO : OwnsCalls w.heap.size [] (.slice (some ⟨w.heap.size, 0, none⟩) 0 0) (w.alloc (.cells #[] 55)) := World.ownsRow_lit w #[] 0 (Nat.le_refl _) (by unfold maxLen; omega) rfl
    have hB : Below w.heap.size w (w.alloc (.cells #[] 55)) := (Below.refl _ w).alloc (Nat.le_refl _) _
    have HO := Lib.hid hO
    clear hO
    go_enter Try.func36, Try.ntmps36
    go_wp2_with (at_builtin; refine wpList_append_own _ rfl _ _ 53 rfl w.heap.size 55 i0 (.agg #[.int .i64 0, .int .u64 0, .int .u64 0, .int .u64 0]) 4 32 Try.underlying53 hi hz0 hz1 hz2 rfl (by decide) _ _ _ rfl HO.out x ws.length cap (callVals ws) rfl ?c1 ?c2 ?c3 ?c4 ?c5 ?c6 ?_)
    case c1 => rw [callVals_length]
    case c2 =>
      intro j u hu
      have h := HC.out j u hu
      have hlt : x.block < w.heap.size := by
        have hk := h
        unfold World.cell? at hk
        rcases Nat.lt_or_ge (x.add j).block w.heap.size with hq | hq
        · have : (x.add j).block = x.block := by unfold Addr.add; split <;> rfl
          omega
        · rw [Array.getElem?_eq_none hq] at hk
          cases hk
      have hblk : (x.add j).block = x.block := by unfold Addr.add; split <;> rfl
      exact (hB.cell (p := x.add j) (by rw [hblk]; exact hlt)).trans h
    case c3 => exact callVals_one ws
    case c4 => simp; unfold maxLen; omega
    case c5 => simp; omega
    case c6 => simp
    intro v' w1 hown' hgrow _
    have hB1 : Below w.heap.size w w1 := hB.grown hgrow (by simp) (fun j ej => (World.ownsRow.lt HO.out j ej).1)
    have hO2 : OwnsCalls w.heap.size ws v' w1 := by
      unfold OwnsCalls
      simpa [callVals] using hown'
    have HO2 := Lib.hid hO2
    clear hO2 hown' hgrow
    go_wp2
    go_ret
    exact ⟨_, rfl, HO2.out, hB1⟩
theorem callsAt_el {W : World} {x : Option Addr} {n cap : Nat} {l : List Cl4} (h : CallsAt W (.slice x n cap) l) (j : Nat) (hj : j < l.length) :
    ∃ b off, x = some ⟨b, off, none⟩ ∧ b < W.heap.size ∧ W.cell? ⟨b, off + j * 4, none⟩ = some (.int .i64 l[j].op) ∧ W.cell? ⟨b, off + j * 4 + 1, none⟩ = some (.int .u64 l[j].key) ∧ W.cell? ⟨b, off + j * 4 + 2, none⟩ = some (.int .u64 l[j].a) ∧ W.cell? ⟨b, off + j * 4 + 3, none⟩ = some (.int .u64 l[j].b) := by
  obtain ⟨h0, a, cap', e, _, _, _, hc⟩ := h
  cases e
  have hlen : (callVals l).length = l.length * 4 := callVals_length l
  have hg : ∀ i, i < 4 → ∃ b off, x = some ⟨b, off, none⟩ ∧ b < W.heap.size ∧ W.cell? ⟨b, off + (j * 4 + i), none⟩ = (l[j].cells)[i]? := by
    intro i hi
    obtain ⟨b, off, e, hb, h3⟩ := hc (j * 4 + i) (by omega)
    exact ⟨b, off, e, hb, h3.trans (flat_get Cl4.cells 4 (fun _ => rfl) l j i hj hi)⟩
  obtain ⟨b, off, e, hb, g0⟩ := hg 0 (by decide)
  obtain ⟨_, _, e1, _, g1⟩ := hg 1 (by decide)
  obtain ⟨_, _, e2, _, g2⟩ := hg 2 (by decide)
  obtain ⟨_, _, e3, _, g3⟩ := hg 3 (by decide)
  subst e
  cases e1; cases e2; cases e3
  exact ⟨b, off, rfl, hb, g0, g1, g2, g3⟩
theorem take_eq_nextC {xs ys : List Cl4} {k : Nat} (h : xs.take k = ys.take k) (hx : k < xs.length) (hy : k < ys.length) (he : xs[k] = ys[k]) : xs.take (k + 1) = ys.take (k + 1) := by
  rw [List.take_succ_eq_append_getElem hx, List.take_succ_eq_append_getElem hy, h, he]

set_option maxRecDepth 100000 in
set_option maxHeartbeats 2000000 in
theorem Try.equalCalls_any (a1 a2 : Option Addr) (n1 n2 c1 c2 : Nat) (xs ys : List Cl4) (hx : n1 = xs.length) (hy : n2 = ys.length) (hl : n1 ≤ 10000) (hl2 : n2 ≤ 10000) (w : World) (h1 : CallsAt w (.slice a1 n1 c1) xs) (h2 : CallsAt w (.slice a2 n2 c2) ys) :
    Calls Try.prog 41 #[.slice a1 n1 c1, .slice a2 n2 c2] w fun e w' => e = .returned (.bool (decide (xs = ys))) ∧ Below w.heap.size w w' := by
  have H1 := Lib.hid h1
  have H2 := Lib.hid h2
  have HX := Lib.hid hx
  have HY := Lib.hid hy
  clear h1 h2 hx hy
  by_cases hn : n1 = n2
  · subst hn
    have hd : ((n1 : Int) != (n1 : Int)) = false := by simp
    go_enter Try.func41, Try.ntmps41
    go_wp2
    go_loopw [5, 13] (fun _ j wr => ∃ k : Nat, k ≤ n1 ∧ j = .int .i64 k ∧ xs.take k = ys.take k ∧ Below w.heap.size w wr) (fun _ j _ => n1 - (intOf j).toNat)
    case atStart => exact ⟨0, Nat.zero_le _, rfl, rfl, Below.refl _ _⟩
    case round =>
      obtain ⟨k, hk, rfl, ht, hB⟩ := hrel
      by_cases hlt : k < n1
      · have hkx : k < xs.length := by rw [← HX.out]; exact hlt
        have hky : k < ys.length := by rw [← HY.out]; exact hlt
        obtain ⟨b1, o1, rfl, hb1, p0, p1, p2, p3⟩ := callsAt_el (RowAt.below H1.out hB) k hkx
        obtain ⟨b2, o2, rfl, hb2, q0, q1, q2, q3⟩ := callsAt_el (RowAt.below H2.out hB) k hky
        have hmx : Try.prog.follows .mixedOrders = true := by kernel_rfl
        have hki : (k : Int) < (n1 : Int) := by omega
        have HT := Lib.hid ht
        clear ht
        rcases hx1 : xs[k] with ⟨x0, x1, x2, x3⟩
        rcases hy1 : ys[k] with ⟨y0, y1, y2, y3⟩
        rw [hx1] at p0 p1 p2 p3
        rw [hy1] at q0 q1 q2 q3
        dsimp only at p0 p1 p2 p3 q0 q1 q2 q3
        by_cases he : xs[k] = ys[k]
        · have hnx := take_eq_nextC HT.out hkx hky he
          have HNX := Lib.hid hnx
          rw [hx1, hy1] at he
          injection he with e0 e1 e2 e3
          subst e0 e1 e2 e3
          have d0 : (x0 == x0) = true := by simp
          have d1 : (x1 == x1) = true := by simp
          have d2 : (x2 == x2) = true := by simp
          have d3 : (x3 == x3) = true := by simp
          have c0 : (x0 != x0) = false := by simp
          have c1 : (x1 != x1) = false := by simp
          have c2 : (x2 != x2) = false := by simp
          have c3 : (x3 != x3) = false := by simp
          clear hnx hx1 hy1
          go_wp2
          refine wp_region_still_lit hmx (by kernel_rfl) ?_
          repeat still_step
          refine wpStill_nil ?_
          go_wp2
          exact ⟨⟨k + 1, by omega, by go_num, HNX.out, hB.drew⟩, by simp [intOf]; omega⟩
        · have hq : decide (xs = ys) = false := decide_eq_false (fun h => he (by subst h; rfl))
          have HQ := Lib.hid hq
          have hne : ¬ (x0 = y0 ∧ x1 = y1 ∧ x2 = y2 ∧ x3 = y3) := fun ⟨e0, e1, e2, e3⟩ => he (by rw [hx1, hy1, e0, e1, e2, e3])
          have hs : x0 ≠ y0 ∨ (x0 = y0 ∧ x1 ≠ y1) ∨ (x0 = y0 ∧ x1 = y1 ∧ x2 ≠ y2) ∨ (x0 = y0 ∧ x1 = y1 ∧ x2 = y2 ∧ x3 ≠ y3) := by omega
          clear hq he hne hx1 hy1
          rcases hs with h | ⟨rfl, h⟩ | ⟨rfl, rfl, h⟩ | ⟨rfl, rfl, rfl, h⟩
          · have d0 : (x0 == y0) = false := by simp [h]
            have c0 : (x0 != y0) = true := by simp [h]
            go_wp2
            refine wp_region_still_lit hmx (by kernel_rfl) ?_
            repeat still_step
            refine wpStill_nil ?_
            go_wp2
            go_ret
            exact ⟨by rw [HQ.out]; rfl, hB.drew⟩
          · have d0 : (x0 == x0) = true := by simp
            have c0 : (x0 != x0) = false := by simp
            have d1 : (x1 == y1) = false := by simp [h]
            have c1 : (x1 != y1) = true := by simp [h]
            go_wp2
            refine wp_region_still_lit hmx (by kernel_rfl) ?_
            repeat still_step
            refine wpStill_nil ?_
            go_wp2
            go_ret
            exact ⟨by rw [HQ.out]; rfl, hB.drew⟩
          · have d0 : (x0 == x0) = true := by simp
            have c0 : (x0 != x0) = false := by simp
            have d1 : (x1 == x1) = true := by simp
            have c1 : (x1 != x1) = false := by simp
            have d2 : (x2 == y2) = false := by simp [h]
            have c2 : (x2 != y2) = true := by simp [h]
            go_wp2
            refine wp_region_still_lit hmx (by kernel_rfl) ?_
            repeat still_step
            refine wpStill_nil ?_
            go_wp2
            go_ret
            exact ⟨by rw [HQ.out]; rfl, hB.drew⟩
          · have d0 : (x0 == x0) = true := by simp
            have c0 : (x0 != x0) = false := by simp
            have d1 : (x1 == x1) = true := by simp
            have c1 : (x1 != x1) = false := by simp
            have d2 : (x2 == x2) = true := by simp
            have c2 : (x2 != x2) = false := by simp
            have d3 : (x3 == y3) = false := by simp [h]
            have c3 : (x3 != y3) = true := by simp [h]
            go_wp2
            refine wp_region_still_lit hmx (by kernel_rfl) ?_
            repeat still_step
            refine wpStill_nil ?_
            go_wp2
            go_ret
            exact ⟨by rw [HQ.out]; rfl, hB.drew⟩
      · obtain rfl : k = n1 := by omega
        have hq : decide (xs = ys) = true := by
          refine decide_eq_true ?_
          rw [List.take_of_length_le (by rw [← HX.out]; exact Nat.le_refl _), List.take_of_length_le (by rw [← HY.out]; exact Nat.le_refl _)] at ht
          exact ht
        have HQ := Lib.hid hq
        clear hq ht
        go_wp2
        go_ret
        exact ⟨by rw [HQ.out]; rfl, hB⟩
  · have hd : ((n1 : Int) != (n2 : Int)) = true := by simp; omega
    have hq : decide (xs = ys) = false := decide_eq_false (fun h => hn (by rw [HX.out, HY.out, h]))
    have HQ := Lib.hid hq
    clear hq
    go_enter Try.func41, Try.ntmps41
    go_wp2
    go_ret
    exact ⟨by rw [HQ.out]; rfl, Below.refl _ _⟩
theorem cellsCl : Try.prog.cellsOf 55 = 4 := by kernel_rfl
set_option maxRecDepth 100000 in
/-- One mark, out of its four cells. -/
theorem open_call {H : Type} {enc : TypeId × Value → H} {W : World} {base : Nat} {sp : Nat → Bool} {held : Bool} {fuel : Nat} {cs : List Value} {x : DataW H × List MemPlace} (hl : cs.length = 4)
    (h : DataW.trod enc Try.prog W base sp held fuel 55 cs = some x) : ∃ a : Cl4, cs = a.cells := by
  obtain ⟨xs, k, hk, hxy, _, hxl, hf⟩ := DataW.trod_struct Try.underlying55 h
  match xs, hxl, cs, hl with
  | [y0, y1, y2, y3], _, [v0, v1, v2, v3], _ =>
    have g0 := hf 0 _ rfl
    have g1 := hf 1 _ rfl
    have g2 := hf 2 _ rfl
    have g3 := hf 3 _ rfl
    simp [cellsI, cellsU] at g0 g1 g2 g3
    obtain ⟨z0, e0, _, _⟩ := DataW.trod_int Try.underlying3 g0
    obtain ⟨z1, e1, _, _⟩ := DataW.trod_int Try.underlying22 g1
    obtain ⟨z2, e2, _, _⟩ := DataW.trod_int Try.underlying22 g2
    obtain ⟨z3, e3, _, _⟩ := DataW.trod_int Try.underlying22 g3
    simp at e0 e1 e2 e3
    subst e0 e1 e2 e3
    exact ⟨⟨z0, z1, z2, z3⟩, rfl⟩

set_option maxRecDepth 100000 in
theorem open_calls {H : Type} {enc : TypeId × Value → H} {W : World} {base : Nat} {sp : Nat → Bool} {held : Bool} {fuel : Nat} {a : Option Addr} {len cap : Nat} {x : DataW H × List MemPlace}
    (h : DataW.trod enc Try.prog W base sp held fuel 53 [.slice a len cap] = some x) : ∃ l : List Cl4, len = l.length ∧ CallsAt W (.slice a len cap) l := by
  rcases open_slice Try.underlying53 h with ⟨hcs, _⟩ | ⟨ad, len', cap', m, n, D, Pl, hcs, hb, hl, hm, hmm, _, hx⟩
  · simp at hcs
    obtain ⟨rfl, rfl, rfl⟩ := hcs
    exact ⟨[], rfl, ⟨rfl, none, 0, rfl, Nat.le_refl _, Nat.zero_le _, fun _ => rfl, fun j hj => by simp [callVals] at hj⟩⟩
  · simp at hcs
    obtain ⟨rfl, rfl, rfl⟩ := hcs
    have hlm : len ≤ m := by rw [hmm]; split <;> omega
    have each : ∀ i, i < m → ∃ q : Cl4, ∀ r, r < 4 → W.cell? (ad.add (i * 4 + r)) = q.cells[r]? := by
      intro i hi
      obtain ⟨cs', h1, h2⟩ := hx i hi
      rw [cellsCl] at h1
      obtain ⟨_, hlen, hcell⟩ := World.cells?_some h1
      obtain ⟨q, rfl⟩ := open_call hlen h2
      refine ⟨q, fun r hr => ?_⟩
      have e := hcell r hr
      rw [add_add] at e
      exact e
    haveI : Inhabited Cl4 := ⟨⟨0, 0, 0, 0⟩⟩
    obtain ⟨q, hq⟩ := choose_lt each
    have hll : ((List.range len).map q).length = len := by simp
    refine ⟨(List.range len).map q, hll.symm, ?_⟩
    refine ⟨by rw [callVals_length], some ad, cap, by rw [hll], by rw [hll]; exact hl, hm, (fun e => by cases e), fun j hj => ?_⟩
    rw [callVals_length, hll] at hj
    have hi : j / 4 < len := by omega
    have hr : j % 4 < 4 := Nat.mod_lt _ (by decide)
    have hc := hq (j / 4) (by omega) (j % 4) hr
    have hg := flat_get Cl4.cells 4 (fun _ => rfl) ((List.range len).map q) (j / 4) (j % 4) (by rw [hll]; exact hi) hr
    have ej : j / 4 * 4 + j % 4 = j := by omega
    rw [ej] at hc hg
    rw [List.getElem_map, List.getElem_range] at hg
    have hv : (q (j / 4)).cells[j % 4]? = some (((q (j / 4)).cells)[j % 4]'(by simpa [Cl4.cells] using hr)) := List.getElem?_eq_getElem _
    obtain ⟨b, off, spot⟩ := ad
    rw [hv] at hc
    have hspot : spot = none := by
      have h00 := hq 0 (by omega) 0 (by decide)
      have h01 : W.cell? ((⟨b, off, spot⟩ : Addr).add 0) = some (.int .i64 (q 0).op) := h00
      simpa [Addr.add] using World.cell?_spot h01
    subst hspot
    have hadd : (⟨b, off, none⟩ : Addr).add j = ⟨b, off + j, none⟩ := by unfold Addr.add; split <;> simp_all
    rw [hadd] at hc
    refine ⟨b, off, rfl, ?_, ?_⟩
    · rcases Nat.lt_or_ge b W.heap.size with hq | hq
      · exact hq
      · simp [World.cell?, Array.getElem?_eq_none hq] at hc
    · rw [hc]
      unfold callVals
      rw [hg, hv]
end Go.Proofs

/- Script: rows of lists; scripts; Same. -/
namespace Go.Proofs
open Go.RowKit Go.Shelf
attribute [local go_sem] Oper.semAt_some

/-- A row of lists of calls. -/
def ListsAt (W : World) (v : Value) (ls : List (List Cl4)) : Prop := ∃ vs : List Value, RowAt W v ls.length 1 vs ∧ ∀ i (h : i < ls.length), ∃ a cap, vs[i]? = some (.slice a ls[i].length cap) ∧ CallsAt W (.slice a ls[i].length cap) ls[i]
structure Scr where
  goers : Int
  slabs : Int
  seed : Int
  lists : List (List Cl4)
  picks : List Int
deriving DecidableEq
def ScrAt (W : World) (v : Value) (s : Scr) : Prop := ∃ al cl ap cp, v = .agg #[.int .i64 s.goers, .int .i64 s.slabs, .int .u64 s.seed, .slice al s.lists.length cl, .slice ap s.picks.length cp] ∧ ListsAt W (.slice al s.lists.length cl) s.lists ∧ WordsAt W (.slice ap s.picks.length cp) s.picks
theorem ListsAt.below {W W' : World} {v : Value} {ls : List (List Cl4)} (h : ListsAt W v ls) (hB : Below W.heap.size W W') : ListsAt W' v ls := by
  obtain ⟨vs, h1, h2⟩ := h
  exact ⟨vs, RowAt.below h1 hB, fun i hi => by obtain ⟨a, cap, e, hc⟩ := h2 i hi; exact ⟨a, cap, e, RowAt.below hc hB⟩⟩
theorem ScrAt.below {W W' : World} {v : Value} {s : Scr} (h : ScrAt W v s) (hB : Below W.heap.size W W') : ScrAt W' v s := by
  obtain ⟨al, cl, ap, cp, e, h1, h2⟩ := h
  exact ⟨al, cl, ap, cp, e, h1.below hB, RowAt.below h2 hB⟩
theorem listsAt_get {W : World} {x : Option Addr} {n cap : Nat} {ls : List (List Cl4)} (h : ListsAt W (.slice x n cap) ls) (j : Nat) (hj : j < ls.length) :
    ∃ b off a c, x = some ⟨b, off, none⟩ ∧ b < W.heap.size ∧ W.cell? ⟨b, off + j, none⟩ = some (.slice a ls[j].length c) ∧ CallsAt W (.slice a ls[j].length c) ls[j] := by
  obtain ⟨vs, h1, h2⟩ := h
  obtain ⟨a, c, e, hc⟩ := h2 j hj
  obtain ⟨h0, a', cap', e', _, _, _, h4⟩ := h1
  cases e'
  obtain ⟨b, off, ex, hb, h5⟩ := h4 j (by omega)
  exact ⟨b, off, a, c, ex, hb, h5.trans e, hc⟩
theorem listsAt_len {W : World} {x : Option Addr} {n cap : Nat} {ls : List (List Cl4)} (h : ListsAt W (.slice x n cap) ls) : n = ls.length := by
  obtain ⟨vs, h1, _⟩ := h
  obtain ⟨_, a', cap', e', _⟩ := h1
  cases e'
  rfl

set_option maxHeartbeats 1000000 in
theorem Try.sameList_any (a1 a2 : Option Addr) (n1 n2 c1 c2 : Nat) (xs ys : List Cl4) (hx : n1 = xs.length) (hy : n2 = ys.length) (hl : n1 ≤ 10000) (hl2 : n2 ≤ 10000) (w : World) (h1 : CallsAt w (.slice a1 n1 c1) xs) (h2 : CallsAt w (.slice a2 n2 c2) ys) :
    Calls Try.prog 40 #[.slice a1 n1 c1, .slice a2 n2 c2] w fun e w' => e = .returned (.bool (decide (xs = ys))) ∧ Below w.heap.size w w' := by
  have h := Try.equalCalls_any a1 a2 n1 n2 c1 c2 xs ys hx hy hl hl2 w h1 h2
  have H := Lib.hid h
  clear h h1 h2 hx hy
  generalize decide (xs = ys) = r at *
  go_enter Try.func40, Try.ntmps40
  go_wp2_with fail
  refine H.out.mono ?_
  rintro e w' ⟨rfl, hB⟩
  go_wp2_with fail
  go_ret
  exact ⟨rfl, hB⟩
theorem take_eq_nextL {xs ys : List (List Cl4)} {k : Nat} (h : xs.take k = ys.take k) (hx : k < xs.length) (hy : k < ys.length) (he : xs[k] = ys[k]) : xs.take (k + 1) = ys.take (k + 1) := by
  rw [List.take_succ_eq_append_getElem hx, List.take_succ_eq_append_getElem hy, h, he]

set_option maxRecDepth 100000 in
set_option maxHeartbeats 2000000 in
theorem Try.equalLists_any (a1 a2 : Option Addr) (n1 n2 c1 c2 : Nat) (xs ys : List (List Cl4)) (hl : n1 ≤ 10000) (hl2 : n2 ≤ 10000) (bx : ∀ l ∈ xs, l.length ≤ 10000) (by_ : ∀ l ∈ ys, l.length ≤ 10000) (w : World) (h1 : ListsAt w (.slice a1 n1 c1) xs) (h2 : ListsAt w (.slice a2 n2 c2) ys) :
    Calls Try.prog 39 #[.slice a1 n1 c1, .slice a2 n2 c2, .func (.func 40) #[] #[]] w fun e w' => e = .returned (.bool (decide (xs = ys))) ∧ Below w.heap.size w w' := by
  have H1 := Lib.hid h1
  have H2 := Lib.hid h2
  have HX := Lib.hid (listsAt_len h1)
  have HY := Lib.hid (listsAt_len h2)
  clear h1 h2
  by_cases hn : n1 = n2
  · subst hn
    have hd : ((n1 : Int) != (n1 : Int)) = false := by simp
    go_enter Try.func39, Try.ntmps39
    go_wp2_with fail
    go_loopw [7, 8, 9, 17] (fun _ _ _ j wr => ∃ k : Nat, k ≤ n1 ∧ j = .int .i64 k ∧ xs.take k = ys.take k ∧ Below w.heap.size w wr) (fun _ _ _ j _ => n1 - (intOf j).toNat)
    case atStart => exact ⟨0, Nat.zero_le _, rfl, rfl, Below.refl _ _⟩
    case round =>
      obtain ⟨k, hk, rfl, ht, hB⟩ := hrel
      by_cases hlt : k < n1
      · have hkx : k < xs.length := by rw [← HX.out]; exact hlt
        have hky : k < ys.length := by rw [← HY.out]; exact hlt
        obtain ⟨b1, o1, d1, e1, rfl, hb1, p0, hp⟩ := listsAt_get (H1.out.below hB) k hkx
        obtain ⟨b2, o2, d2, e2, rfl, hb2, q0, hq⟩ := listsAt_get (H2.out.below hB) k hky
        have hki : (k : Int) < (n1 : Int) := by omega
        have hnx := fun he => take_eq_nextL ht hkx hky he
        have hne : ¬ xs[k] = ys[k] → decide (xs = ys) = false := fun h => decide_eq_false (fun e => h (by subst e; rfl))
        have hl1 := bx xs[k] (List.getElem_mem _)
        have hl3 := by_ ys[k] (List.getElem_mem _)
        have hcon := Try.sameList_any d1 d2 _ _ e1 e2 xs[k] ys[k] rfl rfl hl1 hl3 wr hp hq
        have HNX := Lib.hid hnx
        have HNE := Lib.hid hne
        clear hnx hne ht hp hq
        generalize xs[k] = x at *
        generalize ys[k] = y at *
        have HCON := Lib.hid hcon
        clear hcon
        go_wp2_with fail
        refine HCON.out.mono ?_
        rintro e w' ⟨rfl, hB'⟩
        have hB2 := hB.trans (hB'.mono hB.size)
        by_cases he : x = y
        · rw [decide_eq_true he]
          have HT := Lib.hid (HNX.out he)
          clear he hB hB'
          go_wp2_with fail
          exact ⟨⟨k + 1, by omega, by go_num, HT.out, hB2⟩, by simp [intOf]; omega⟩
        · rw [decide_eq_false he]
          have HQ := Lib.hid (HNE.out he)
          clear he hB hB'
          go_wp2_with fail
          go_ret
          exact ⟨by rw [HQ.out]; rfl, hB2⟩
      · obtain rfl : k = n1 := by omega
        have hq : decide (xs = ys) = true := by
          refine decide_eq_true ?_
          rw [List.take_of_length_le (by rw [← HX.out]; exact Nat.le_refl _), List.take_of_length_le (by rw [← HY.out]; exact Nat.le_refl _)] at ht
          exact ht
        have HQ := Lib.hid hq
        clear hq ht
        go_wp2_with fail
        go_ret
        exact ⟨by rw [HQ.out]; rfl, hB⟩
  · have hd : ((n1 : Int) != (n2 : Int)) = true := by simp; omega
    have hq : decide (xs = ys) = false := decide_eq_false (fun h => hn (by rw [HX.out, HY.out, h]))
    have HQ := Lib.hid hq
    clear hq
    go_enter Try.func39, Try.ntmps39
    go_wp2_with fail
    go_ret
    exact ⟨by rw [HQ.out]; rfl, Below.refl _ _⟩
end Go.Proofs

/- Script: Same. -/
namespace Go.Proofs
open Go.RowKit Go.Shelf
attribute [local go_sem] Oper.semAt_some

def Scr.ok (s : Scr) : Prop := s.lists.length ≤ 10000 ∧ (∀ l ∈ s.lists, l.length ≤ 10000) ∧ s.picks.length ≤ 10000
theorem scr_ne {s t : Scr} (h : ¬ (s.goers = t.goers ∧ s.slabs = t.slabs ∧ s.seed = t.seed ∧ s.lists = t.lists ∧ s.picks = t.picks)) : decide (s = t) = false := decide_eq_false fun e => h (by subst e; exact ⟨rfl, rfl, rfl, rfl, rfl⟩)
set_option maxRecDepth 100000 in
set_option maxHeartbeats 2000000 in
theorem Try.same_any (v1 v2 : Value) (s t : Scr) (hs : s.ok) (ht : t.ok) (w : World) (h1 : ScrAt w v1 s) (h2 : ScrAt w v2 t) :
    Calls Try.prog 15 #[v1, v2] w fun e w' => e = .returned (.bool (decide (s = t))) ∧ Below w.heap.size w w' := by
  obtain ⟨a1, c1, a2, c2, rfl, hl1, hp1⟩ := h1
  obtain ⟨a3, c3, a4, c4, rfl, hl2, hp2⟩ := h2
  have hq1 : decide (s.lists = t.lists) = true → s.lists = t.lists := fun h => of_decide_eq_true h
  have EL := Lib.hid fun W hW => Try.equalLists_any a1 a3 _ _ c1 c3 s.lists t.lists hs.1 ht.1 hs.2.1 ht.2.1 W (hl1.below hW) (hl2.below hW)
  have EP := Lib.hid fun W hW => Try.equalWords_any a2 a4 _ _ c2 c4 s.picks t.picks rfl rfl hs.2.2 ht.2.2 W (RowAt.below hp1 hW) (RowAt.below hp2 hW)
  have hne := @scr_ne s t
  obtain ⟨g1, b1, d1, ls1, ps1⟩ := s
  obtain ⟨g2, b2, d2, ls2, ps2⟩ := t
  dsimp only at EL EP hne ⊢
  have NE := Lib.hid hne
  have B0 := Lib.hid (((Below.refl w.heap.size w).alloc (Nat.le_refl _) (.cells #[.int .i64 g1, .int .i64 b1, .int .u64 d1, .slice a1 ls1.length c1, .slice a2 ps1.length c2] 26)).alloc (by simp) (.cells #[.int .i64 g2, .int .i64 b2, .int .u64 d2, .slice a3 ls2.length c3, .slice a4 ps2.length c4] 26))
  clear hl1 hl2 hp1 hp2 hs ht hq1 hne
  by_cases e1 : g1 = g2
  · have k1 : (g1 == g2) = true := by simp [e1]
    by_cases e2 : b1 = b2
    · have k2 : (b1 == b2) = true := by simp [e2]
      by_cases e3 : d1 = d2
      · have k3 : (d1 == d2) = true := by simp [e3]
        have hfin : ls1 = ls2 → decide ((⟨g1, b1, d1, ls1, ps1⟩ : Scr) = ⟨g2, b2, d2, ls2, ps2⟩) = decide (ps1 = ps2) := fun e4 => by simp [e1, e2, e3, e4]
        have FIN := Lib.hid hfin
        have E1 := Lib.hid e1
        have E2 := Lib.hid e2
        have E3 := Lib.hid e3
        clear hfin e1 e2 e3
        go_enter Try.func15, Try.ntmps15
        go_wp2_with fail
        refine (EL.out _ B0.out).mono ?_
        rintro e w2 ⟨rfl, B2⟩
        have HB2 := Lib.hid (B0.out.trans (B2.mono B0.out.size))
        have r0 := ((Rows8.new w 26 #[.int .i64 g1, .int .i64 b1, .int .u64 d1, .slice a1 ls1.length c1, .slice a2 ps1.length c2]).alloc (.cells #[.int .i64 g2, .int .i64 b2, .int .u64 d2, .slice a3 ls2.length c3, .slice a4 ps2.length c4] 26)).below B2 (by simp; omega)
        have r1 := (rows_new2 w (.cells #[.int .i64 g1, .int .i64 b1, .int .u64 d1, .slice a1 ls1.length c1, .slice a2 ps1.length c2] 26) 26 #[.int .i64 g2, .int .i64 b2, .int .u64 d2, .slice a3 ls2.length c3, .slice a4 ps2.length c4]).below B2 (by simp)
        have x0 := r0.cell 4
        have x1 := r1.cell 4
        simp at x0 x1
        clear r0 r1 B2
        by_cases hl : ls1 = ls2
        · rw [decide_eq_true hl]
          have FN := Lib.hid (FIN.out hl)
          clear hl
          go_wp2_with fail
          refine (EP.out _ HB2.out).mono ?_
          rintro e w3 ⟨rfl, B3⟩
          have HB3 := Lib.hid (HB2.out.trans (B3.mono HB2.out.size))
          clear B3
          go_wp2_with fail
          go_ret
          exact ⟨by rw [FN.out]; rfl, HB3.out⟩
        · rw [decide_eq_false hl]
          have HQ := Lib.hid (NE.out fun h => hl h.2.2.2.1)
          clear hl
          go_wp2_with fail
          go_ret
          exact ⟨by rw [HQ.out]; rfl, HB2.out⟩
      · have k3 : (d1 == d2) = false := by simp [e3]
        have HQ := Lib.hid (NE.out fun h => e3 h.2.2.1)
        clear e1 e2 e3
        go_enter Try.func15, Try.ntmps15
        go_wp2_with fail
        go_ret
        exact ⟨by rw [HQ.out]; rfl, B0.out⟩
    · have k2 : (b1 == b2) = false := by simp [e2]
      have HQ := Lib.hid (NE.out fun h => e2 h.2.1)
      clear e1 e2
      go_enter Try.func15, Try.ntmps15
      go_wp2_with fail
      go_ret
      exact ⟨by rw [HQ.out]; rfl, B0.out⟩
  · have k1 : (g1 == g2) = false := by simp [e1]
    have HQ := Lib.hid (NE.out fun h => e1 h.1)
    clear e1
    go_enter Try.func15, Try.ntmps15
    go_wp2_with fail
    go_ret
    exact ⟨by rw [HQ.out]; rfl, B0.out⟩
end Go.Proofs

/- Script: the chapter's script. -/
namespace Go.Proofs
open Go.RowKit Go.Shelf
attribute [local go_sem] Oper.semAt_some

def scr1 : Scr := ⟨1, 2, 5, [[⟨2, 7, 9, 0⟩, ⟨7, 0, 0, 0⟩]], [0, 1]⟩
def SmallQ (w : World) (e : Ending) (w' : World) : Prop := ∃ v, e = .returned v ∧ ScrAt w' v scr1 ∧ Below w.heap.size w w'
set_option maxRecDepth 100000 in
set_option maxHeartbeats 2000000 in
theorem Try.small_any (w : World) : Calls Try.prog 34 #[] w (SmallQ w) := by
  go_enter Try.func34, Try.ntmps34
  go_wp2_with fail
  obtain ⟨o0, h0⟩ : ∃ o : Obj, o = .cells #[.int .i64 1, .int .i64 2, .int .u64 5, .slice (some ⟨w.heap.size + 1 + 1, 0, none⟩) 1 1, .slice (some ⟨w.heap.size + 1 + 1 + 1, 0, none⟩) 2 2] 26 := ⟨_, rfl⟩
  obtain ⟨o1, h1⟩ : ∃ o : Obj, o = .cells #[.int .i64 2, .int .u64 7, .int .u64 9, .int .u64 0, .int .i64 7, .int .u64 0, .int .u64 0, .int .u64 0] 55 := ⟨_, rfl⟩
  obtain ⟨o2, h2⟩ : ∃ o : Obj, o = .cells #[.slice (some ⟨w.heap.size + 1, 0, none⟩) 2 2] 53 := ⟨_, rfl⟩
  obtain ⟨o3, h3⟩ : ∃ o : Obj, o = .cells #[.int .u64 0, .int .u64 1] 22 := ⟨_, rfl⟩
  have q1 := World.ownsRow_lit (base := 0) (e := 55) (size := 4) (w.alloc o0) #[.int .i64 2, .int .u64 7, .int .u64 9, .int .u64 0, .int .i64 7, .int .u64 0, .int .u64 0, .int .u64 0] 2 (Nat.zero_le _) (by unfold maxLen; omega) rfl
  have q2 := World.ownsRow_lit (base := 0) (e := 53) (size := 1) ((w.alloc o0).alloc o1) #[.slice (some ⟨w.heap.size + 1, 0, none⟩) 2 2] 1 (Nat.zero_le _) (by unfold maxLen; omega) rfl
  have q3 := World.ownsRow_lit (base := 0) (e := 22) (size := 1) (((w.alloc o0).alloc o1).alloc o2) #[.int .u64 0, .int .u64 1] 2 (Nat.zero_le _) (by unfold maxLen; omega) rfl
  have r0 := Rows8.new w 26 #[.int .i64 1, .int .i64 2, .int .u64 5, .slice (some ⟨w.heap.size + 1 + 1, 0, none⟩) 1 1, .slice (some ⟨w.heap.size + 1 + 1 + 1, 0, none⟩) 2 2]
  rw [← h0] at r0
  rw [← h1, World.size_alloc] at q1
  rw [← h2, World.size_alloc, World.size_alloc] at q2
  rw [← h3, World.size_alloc, World.size_alloc, World.size_alloc] at q3
  rw [← h0, ← h1, ← h2, ← h3]
  have k1 := rowAt_own (World.ownsRow.alloc (World.ownsRow.alloc q1 o2) o3)
  have k2 := rowAt_own (World.ownsRow.alloc q2 o3)
  have k3 := rowAt_own q3
  have k0 := ((r0.alloc o1).alloc o2).alloc o3
  refine bodyPost_ret (results_c rfl _ _ w.heap.size 26 _ (0, 0) _ rfl k0 Try.underlying26 rfl (by kernel_rfl)) rfl ?_
  refine ⟨_, rfl, ⟨_, _, _, _, rfl, ⟨_, k2, fun i hi => ?_⟩, k3⟩, ((((Below.refl _ w).alloc (Nat.le_refl _) _).alloc (by simp) _).alloc (by simp; omega) _).alloc (by simp; omega) _⟩
  have hi1 : i < 1 := hi
  obtain rfl : i = 0 := by omega
  exact ⟨_, _, rfl, k1⟩
end Go.Proofs

/- Script: words, isCall. -/
namespace Go.Proofs
open Go.RowKit Go.Shelf
attribute [local go_sem] Oper.semAt_some

set_option maxHeartbeats 1000000 in
theorem Try.words3_any (op key x y : Int) (w : World) :
    Calls Try.prog 68 #[.agg #[.int .i64 op, .int .u64 key, .int .u64 x, .int .u64 y]] w fun e w' => e = .returned (.agg #[.int .u64 key, .int .u64 x, .int .u64 y]) ∧ Below w.heap.size w w' := by
  have k0 := rows_new2 w (.cells #[.int .i64 op, .int .u64 key, .int .u64 x, .int .u64 y] 55) 80 #[.int .u64 key, .int .u64 x, .int .u64 y]
  have HK := Lib.hid k0
  clear k0
  go_enter Try.func68, Try.ntmps68
  go_wp2_with fail
  refine bodyPost_ret (results_c rfl _ _ (w.heap.size + 1) 80 _ (0, 0) _ rfl HK.out Try.underlying80 rfl (by kernel_rfl)) rfl ?_
  exact ⟨rfl, ((Below.refl _ w).alloc (Nat.le_refl _) _).alloc (by simp) _⟩
theorem Try.isZero_any (x : Int) (w : World) : Calls Try.prog 69 #[.int .u64 x] w fun e w' => e = .returned (.bool (decide (x = 0))) ∧ w = w' := by
  by_cases h : x = 0
  · rw [decide_eq_true h]
    have hd : (x == 0) = true := by simp [h]
    clear h
    go_enter Try.func69, Try.ntmps69
    go_wp2
    go_ret
    exact ⟨rfl, rfl⟩
  · rw [decide_eq_false h]
    have hd : (x == 0) = false := by simp [h]
    clear h
    go_enter Try.func69, Try.ntmps69
    go_wp2
    go_ret
    exact ⟨rfl, rfl⟩
set_option maxRecDepth 100000 in
set_option maxHeartbeats 2000000 in
theorem Try.allZero_any (a : Option Addr) (n c : Nat) (xs : List Int) (hx : n = xs.length) (hl : n ≤ 10000) (w : World) (h1 : WordsAt w (.slice a n c) xs) :
    Calls Try.prog 59 #[.slice a n c, .func (.func 69) #[] #[]] w fun e w' => e = .returned (.bool (decide (∀ x ∈ xs, x = 0))) ∧ w = w' := by
  have H1 := Lib.hid h1
  have HX := Lib.hid hx
  clear h1 hx
  go_enter Try.func59, Try.ntmps59
  go_wp2_with fail
  go_loop [6, 9] (fun _ j => ∃ k : Nat, k ≤ n ∧ j = .int .i64 k ∧ ∀ x ∈ xs.take k, x = 0) (fun _ j => n - (intOf j).toNat)
  case atStart => exact ⟨0, Nat.zero_le _, rfl, by simp⟩
  case round =>
    obtain ⟨k, hk, rfl, ht⟩ := hrel
    by_cases hlt : k < n
    · have hkx : k < xs.length := by rw [← HX.out]; exact hlt
      obtain ⟨b1, o1, rfl, hb1, p0⟩ := wordsAt_get H1.out k hkx
      have hki : (k : Int) < (n : Int) := by omega
      have hnx : xs[k]?.getD 0 = 0 → ∀ x ∈ xs.take (k + 1), x = 0 := fun e => by
        rw [List.take_succ_eq_append_getElem hkx]
        intro x hx
        rcases List.mem_append.1 hx with h | h
        · exact ht x h
        · simp at h
          rw [h]
          simpa [hkx] using e
      have hno : ¬ xs[k]?.getD 0 = 0 → decide (∀ x ∈ xs, x = 0) = false := fun e => decide_eq_false fun h => e (by simp [hkx]; exact h _ (List.getElem_mem hkx))
      have HNX := Lib.hid hnx
      have HNO := Lib.hid hno
      clear hnx hno ht
      generalize xs[k]?.getD 0 = x at *
      go_wp2_with fail
      refine (Try.isZero_any x w).mono ?_
      rintro e w' ⟨rfl, rfl⟩
      by_cases he : x = 0
      · rw [decide_eq_true he]
        have HN := Lib.hid (HNX.out he)
        clear he
        go_wp2_with fail
        go_round
        case rel => exact ⟨k + 1, by omega, by go_num, HN.out⟩
        case measure => simp [intOf]; omega
      · rw [decide_eq_false he]
        have HN := Lib.hid (HNO.out he)
        clear he
        go_wp2_with fail
        go_ret
        exact ⟨by rw [HN.out]; rfl, rfl⟩
    · obtain rfl : k = n := by omega
      have hq : decide (∀ x ∈ xs, x = 0) = true := decide_eq_true (by rw [List.take_of_length_le (by rw [← HX.out]; exact Nat.le_refl _)] at ht; exact ht)
      have HQ := Lib.hid hq
      clear hq ht
      go_wp2_with fail
      go_ret
      exact ⟨by rw [HQ.out]; rfl, rfl⟩
end Go.Proofs

/- Script: isCall. -/
namespace Go.Proofs
open Go.RowKit Go.Shelf
attribute [local go_sem] Oper.semAt_some

def isCallB (c : Cl4) : Bool := decide (0 ≤ takesOf c.op) && decide (∀ x ∈ [c.key, c.a, c.b].drop (takesOf c.op).toNat, x = 0)
theorem takesOf_ways (op : Int) : takesOf op = -1 ∨ takesOf op = 0 ∨ takesOf op = 1 ∨ takesOf op = 2 ∨ takesOf op = 3 := by
  unfold takesOf
  split
  · exact .inl rfl
  · split
    · exact .inr (.inr (.inl rfl))
    · split
      · exact .inr (.inr (.inr (.inl rfl)))
      · split
        · exact .inr (.inr (.inr (.inr rfl)))
        · exact .inr (.inl rfl)
theorem arr_row {W : World} {B : Nat} {t : TypeId} {x y z : Int} (h : Rows8 W B t #[.int .u64 x, .int .u64 y, .int .u64 z]) (m : Nat) (hm : m ≤ 3) : WordsAt W (.slice (some ⟨B, m, none⟩) (3 - m) (3 - m)) ([x, y, z].drop m) := by
  refine ⟨by rw [wordVals_length, Nat.mul_one], _, 3 - m, by simp, by simp, by unfold maxLen; omega, (fun e => by cases e), fun j hj => ⟨B, m, rfl, h.lt, ?_⟩⟩
  rw [h.cell (m + j)]
  rw [wordVals_length, List.length_drop] at hj
  have e : wordVals ([x, y, z].drop m) = (wordVals [x, y, z]).drop m := by simp [wordVals, List.map_drop]
  rw [e, List.getElem?_drop]
  simp [wordVals]
set_option maxRecDepth 100000 in
set_option maxHeartbeats 2000000 in
theorem Try.isCall_any (c : Cl4) (w : World) :
    Calls Try.prog 53 #[.agg #[.int .i64 c.op, .int .u64 c.key, .int .u64 c.a, .int .u64 c.b]] w fun e w' => e = .returned (.bool (isCallB c)) ∧ Below w.heap.size w w' := by
  obtain ⟨op, key, a, b⟩ := c
  have HT := Lib.hid fun W => Try.Takes_any op W
  unfold isCallB
  dsimp only
  have HB := Lib.hid ((Below.refl w.heap.size w).alloc (Nat.le_refl _) (.cells #[.int .i64 op, .int .u64 key, .int .u64 a, .int .u64 b] 55))
  rcases takesOf_ways op with h | h | h | h | h
  · rw [h] at HT ⊢
    clear h
    go_enter Try.func53, Try.ntmps53
    go_wp2_with fail
    refine (HT.out _).mono ?_
    rintro e w' ⟨rfl, rfl⟩
    go_wp2_with fail
    go_ret
    exact ⟨rfl, HB.out⟩
  · rw [h] at HT ⊢
    clear h
    go_enter Try.func53, Try.ntmps53
    go_wp2_with fail
    refine (HT.out _).mono ?_
    rintro e w' ⟨rfl, rfl⟩
    go_wp2_with fail
    refine (Try.words3_any op key a b _).mono ?_
    rintro e w2 ⟨rfl, B2⟩
    have HB2 := Lib.hid (HB.out.trans (B2.mono HB.out.size))
    have r4 := Rows8.new w2 80 #[.int .u64 key, .int .u64 a, .int .u64 b]
    have hrow : WordsAt (w2.alloc (.cells #[.int .u64 key, .int .u64 a, .int .u64 b] 80)) (.slice (some ⟨w2.heap.size, 0, none⟩) 3 3) [key, a, b] := arr_row r4 0 (by decide)
    have HR := Lib.hid (Try.allZero_any _ 3 3 [key, a, b] rfl (by decide) _ hrow)
    clear r4 B2 hrow
    go_wp2_with fail
    refine HR.out.mono ?_
    rintro e w3 ⟨rfl, rfl⟩
    go_wp2_with fail
    go_ret
    exact ⟨by first | rfl | simp, HB2.out.alloc HB2.out.size _⟩
  · rw [h] at HT ⊢
    clear h
    go_enter Try.func53, Try.ntmps53
    go_wp2_with fail
    refine (HT.out _).mono ?_
    rintro e w' ⟨rfl, rfl⟩
    go_wp2_with fail
    refine (Try.words3_any op key a b _).mono ?_
    rintro e w2 ⟨rfl, B2⟩
    have HB2 := Lib.hid (HB.out.trans (B2.mono HB.out.size))
    have r4 := Rows8.new w2 80 #[.int .u64 key, .int .u64 a, .int .u64 b]
    have hrow : WordsAt (w2.alloc (.cells #[.int .u64 key, .int .u64 a, .int .u64 b] 80)) (.slice (some ⟨w2.heap.size, 1, none⟩) 2 2) [a, b] := arr_row r4 1 (by decide)
    have HR := Lib.hid (Try.allZero_any _ 2 2 [a, b] rfl (by decide) _ hrow)
    clear r4 B2 hrow
    go_wp2_with fail
    refine HR.out.mono ?_
    rintro e w3 ⟨rfl, rfl⟩
    go_wp2_with fail
    go_ret
    exact ⟨by first | rfl | simp, HB2.out.alloc HB2.out.size _⟩
  · rw [h] at HT ⊢
    clear h
    go_enter Try.func53, Try.ntmps53
    go_wp2_with fail
    refine (HT.out _).mono ?_
    rintro e w' ⟨rfl, rfl⟩
    go_wp2_with fail
    refine (Try.words3_any op key a b _).mono ?_
    rintro e w2 ⟨rfl, B2⟩
    have HB2 := Lib.hid (HB.out.trans (B2.mono HB.out.size))
    have r4 := Rows8.new w2 80 #[.int .u64 key, .int .u64 a, .int .u64 b]
    have hrow : WordsAt (w2.alloc (.cells #[.int .u64 key, .int .u64 a, .int .u64 b] 80)) (.slice (some ⟨w2.heap.size, 2, none⟩) 1 1) [b] := arr_row r4 2 (by decide)
    have HR := Lib.hid (Try.allZero_any _ 1 1 [b] rfl (by decide) _ hrow)
    clear r4 B2 hrow
    go_wp2_with fail
    refine HR.out.mono ?_
    rintro e w3 ⟨rfl, rfl⟩
    go_wp2_with fail
    go_ret
    exact ⟨by first | rfl | simp, HB2.out.alloc HB2.out.size _⟩
  · rw [h] at HT ⊢
    clear h
    go_enter Try.func53, Try.ntmps53
    go_wp2_with fail
    refine (HT.out _).mono ?_
    rintro e w' ⟨rfl, rfl⟩
    go_wp2_with fail
    refine (Try.words3_any op key a b _).mono ?_
    rintro e w2 ⟨rfl, B2⟩
    have HB2 := Lib.hid (HB.out.trans (B2.mono HB.out.size))
    have r4 := Rows8.new w2 80 #[.int .u64 key, .int .u64 a, .int .u64 b]
    have hrow : WordsAt (w2.alloc (.cells #[.int .u64 key, .int .u64 a, .int .u64 b] 80)) (.slice (some ⟨w2.heap.size, 0, none⟩) 0 0) [] := ⟨rfl, _, 0, rfl, Nat.le_refl _, Nat.zero_le _, (fun e => by cases e), fun j hj => by simp [wordVals] at hj⟩
    have HR := Lib.hid (Try.allZero_any _ 0 0 [] rfl (by decide) _ hrow)
    clear r4 B2 hrow
    go_wp2_with fail
    refine HR.out.mono ?_
    rintro e w3 ⟨rfl, rfl⟩
    go_wp2_with fail
    go_ret
    exact ⟨by first | rfl | simp, HB2.out.alloc HB2.out.size _⟩
end Go.Proofs

/- Script: whether all calls of a list are calls. -/
namespace Go.Proofs
open Go.RowKit Go.Shelf
attribute [local go_sem] Oper.semAt_some

theorem all_next {l : List Cl4} {k : Nat} (h : k < l.length) (hk : (l.take k).all isCallB = true) : (l.take (k + 1)).all isCallB = isCallB l[k] := by
  rw [List.take_succ_eq_append_getElem h, List.all_append, hk]
  simp
theorem all_stop {l : List Cl4} {k : Nat} (h : k < l.length) (hk : isCallB l[k] = false) : l.all isCallB = false := by
  rw [List.all_eq_false]
  exact ⟨l[k], List.getElem_mem h, by simp [hk]⟩
set_option maxRecDepth 100000 in
set_option maxHeartbeats 2000000 in
theorem Try.allCalls_any (a : Option Addr) (n c : Nat) (l : List Cl4) (hx : n = l.length) (hl : n ≤ 10000) (w : World) (h1 : CallsAt w (.slice a n c) l) :
    Calls Try.prog 52 #[.slice a n c, .func (.func 53) #[] #[]] w fun e w' => e = .returned (.bool (l.all isCallB)) ∧ Below w.heap.size w w' := by
  have H1 := Lib.hid h1
  have HX := Lib.hid hx
  clear h1 hx
  go_enter Try.func52, Try.ntmps52
  go_wp2_with fail
  go_loopw [6, 9] (fun _ j wr => ∃ k : Nat, k ≤ n ∧ j = .int .i64 k ∧ (l.take k).all isCallB = true ∧ Below w.heap.size w wr) (fun _ j _ => n - (intOf j).toNat)
  case atStart => exact ⟨0, Nat.zero_le _, rfl, rfl, Below.refl _ _⟩
  case round =>
    obtain ⟨k, hk, rfl, ht, hB⟩ := hrel
    by_cases hlt : k < n
    · have hkx : k < l.length := by rw [← HX.out]; exact hlt
      obtain ⟨b1, o1, rfl, hb1, p0, p1, p2, p3⟩ := callsAt_el (RowAt.below H1.out hB) k hkx
      have hki : (k : Int) < (n : Int) := by omega
      have hnx := all_next hkx ht
      have hst := fun h => all_stop hkx h
      have hcon := fun W => Try.isCall_any l[k] W
      generalize l[k] = cc at *
      obtain ⟨op, key, x, y⟩ := cc
      dsimp only at p0 p1 p2 p3 hcon
      have HNX := Lib.hid hnx
      have HST := Lib.hid hst
      have HCON := Lib.hid hcon
      have HB1 := Lib.hid (hB.alloc hB.size (.cells #[.int .i64 op, .int .u64 key, .int .u64 x, .int .u64 y] 55))
      clear hnx hst hcon ht
      generalize isCallB ⟨op, key, x, y⟩ = r at *
      go_wp2_with fail
      refine (HCON.out _).mono ?_
      rintro e w2 ⟨rfl, B2⟩
      have HB2 := Lib.hid (HB1.out.trans (B2.mono HB1.out.size))
      clear B2 HB1 p0 p1 p2 p3
      cases r with
      | true =>
        go_wp2_with fail
        exact ⟨⟨k + 1, by omega, by go_num, HNX.out, HB2.out⟩, by simp [intOf]; omega⟩
      | false =>
        have HS := Lib.hid (HST.out rfl)
        go_wp2_with fail
        go_ret
        exact ⟨by rw [HS.out]; rfl, HB2.out⟩
    · obtain rfl : k = n := by omega
      have hq : l.all isCallB = true := by rw [List.take_of_length_le (by rw [← HX.out]; exact Nat.le_refl _)] at ht; exact ht
      have HQ := Lib.hid hq
      clear hq ht
      go_wp2_with fail
      go_ret
      exact ⟨by rw [HQ.out]; rfl, hB⟩
end Go.Proofs

/- Script: one list against the room that is left. -/
namespace Go.Proofs
open Go.RowKit Go.Shelf
attribute [local go_sem] Oper.semAt_some

def fitsB (room : Int) (l : List Cl4) : Bool := decide (0 ≤ room - l.length) && l.all isCallB
set_option maxRecDepth 100000 in
set_option maxHeartbeats 2000000 in
theorem Try.fits_any (a : Option Addr) (n c B : Nat) (l : List Cl4) (hx : n = l.length) (hl : n ≤ 10000) (room : Int) (hr : -1000000000 ≤ room ∧ room ≤ 1000000) (w0 w : World) (h1 : CallsAt w0 (.slice a n c) l) (hB0 : w0.heap.size ≤ B) (hB : Below w0.heap.size w0 w) (hR : Rows8 w B 3 #[.int .i64 room]) :
    Calls Try.prog 51 #[.slice a n c, .pointer (some ⟨B, 0, none⟩)] w fun e w' => e = .returned (.bool (fitsB room l)) ∧ Rows8 w' B 3 #[.int .i64 (room - l.length)] ∧ Below w0.heap.size w0 w' := by
  unfold fitsB
  subst hx
  have hlt := hR.lt
  have x0 := hR.cell 0
  have f0 := hR.frozen 0
  simp at x0
  have hw : IntKind.i64.wrap (room - (l.length : Int)) = room - (l.length : Int) := IntWalk.i64_in _ (by omega)
  have hR2 := hR.set 0 (.int .i64 (room - (l.length : Int)))
  simp only [List.setIfInBounds_toArray, List.set_cons_zero] at hR2
  have hB2 := hB.setCell (p := ⟨B, 0, none⟩) hB0 (.int .i64 (room - (l.length : Int)))
  have HR2 := Lib.hid hR2
  have HB2 := Lib.hid hB2
  have HAL := Lib.hid (Try.allCalls_any a l.length c l rfl hl (w.setCell ⟨B, 0, none⟩ (.int .i64 (room - (l.length : Int)))) (RowAt.below h1 hB2))
  have hbi : -1000010000 ≤ room - (l.length : Int) ∧ room - (l.length : Int) ≤ 1000000 := by omega
  clear hR hR2 hB hB2 h1
  by_cases hg : 0 ≤ room - (l.length : Int)
  · rw [decide_eq_true hg]
    go_enter Try.func51, Try.ntmps51
    go_wp2_with fail
    refine HAL.out.mono ?_
    rintro e w2 ⟨rfl, B2⟩
    have R3 := Lib.hid (HR2.out.below B2 HR2.out.lt)
    have B3 := Lib.hid (HB2.out.trans (B2.mono HB2.out.size))
    clear B2
    go_wp2_with fail
    go_ret
    exact ⟨by simp, R3.out, B3.out⟩
  · rw [decide_eq_false hg]
    go_enter Try.func51, Try.ntmps51
    go_wp2_with fail
    go_ret
    exact ⟨by simp, HR2.out, HB2.out⟩
end Go.Proofs

/- Script: all lists against the room. -/
namespace Go.Proofs
open Go.RowKit Go.Shelf
attribute [local go_sem] Oper.semAt_some

def roomOk : Int → List (List Cl4) → Bool
  | _, [] => true
  | r, l :: ls => fitsB r l && roomOk (r - l.length) ls
theorem roomOk_at (r : Int) (ls : List (List Cl4)) (k : Nat) (h : k < ls.length) : roomOk r (ls.drop k) = (fitsB r ls[k] && roomOk (r - ls[k].length) (ls.drop (k + 1))) := by
  rw [List.drop_eq_getElem_cons h]
  rfl
set_option maxRecDepth 100000 in
set_option maxHeartbeats 2000000 in
theorem Try.allLists_any (a : Option Addr) (n c B : Nat) (ls : List (List Cl4)) (hl : n ≤ 10000) (hll : ∀ l ∈ ls, l.length ≤ 10000) (room : Int) (hr : 0 ≤ room ∧ room ≤ 1000) (w0 w : World) (h1 : ListsAt w0 (.slice a n c) ls) (hB0 : w0.heap.size ≤ B) (hB : Below w0.heap.size w0 w) (hR : Rows8 w B 3 #[.int .i64 room]) :
    Calls Try.prog 50 #[.slice a n c, .func (.func 51) #[] #[.pointer (some ⟨B, 0, none⟩)]] w fun e w' => e = .returned (.bool (roomOk room ls)) ∧ Below w0.heap.size w0 w' := by
  have H1 := Lib.hid h1
  have HX := Lib.hid (listsAt_len h1)
  have HR := Lib.hid hR
  have HB := Lib.hid hB
  clear h1 hR hB
  go_enter Try.func50, Try.ntmps50
  go_wp2_with fail
  go_loopw [6, 9] (fun _ j wr => ∃ (k : Nat) (r : Int), k ≤ n ∧ j = .int .i64 k ∧ roomOk room ls = roomOk r (ls.drop k) ∧ room - 10000 * (k : Int) ≤ r ∧ r ≤ room ∧ Rows8 wr B 3 #[.int .i64 r] ∧ Below w0.heap.size w0 wr) (fun _ j _ => n - (intOf j).toNat)
  case atStart => exact ⟨0, room, Nat.zero_le _, rfl, rfl, by omega, by omega, HR.out, HB.out⟩
  case round =>
    obtain ⟨k, r, hk, rfl, he, hr1, hr2, hRr, hBr⟩ := hrel
    by_cases hlt : k < n
    · have hkx : k < ls.length := by rw [← HX.out]; exact hlt
      obtain ⟨b1, o1, d1, e1, rfl, hb1, p0, hp⟩ := listsAt_get H1.out k hkx
      have p0' : wr.cell? ⟨b1, o1 + k, none⟩ = some (.slice d1 ls[k].length e1) := (hBr.cell (p := ⟨b1, o1 + k, none⟩) hb1).trans p0
      have hki : (k : Int) < (n : Int) := by omega
      have hst := roomOk_at r ls k hkx
      rw [← he] at hst
      have hlk := hll ls[k] (List.getElem_mem _)
      have hcon := Try.fits_any d1 _ e1 B ls[k] rfl hlk r (by omega) w0 wr hp hB0 hBr hRr
      have hln : (0 : Int) ≤ (ls[k].length : Int) := by omega
      generalize ls[k] = l at *
      have HST := Lib.hid hst
      have HCON := Lib.hid hcon
      clear hst hcon he p0 hp hRr hBr
      go_wp2_with fail
      refine HCON.out.mono ?_
      rintro e w2 ⟨rfl, R2, B2⟩
      have HR2 := Lib.hid R2
      have HB2 := Lib.hid B2
      clear R2 B2 p0'
      cases hf : fitsB r l with
      | true =>
        rw [hf, Bool.true_and] at HST
        clear hf
        go_wp2_with fail
        exact ⟨⟨k + 1, r - (l.length : Int), by omega, by go_num, HST.out, by omega, by omega, HR2.out, HB2.out⟩, by simp [intOf]; omega⟩
      | false =>
        rw [hf, Bool.false_and] at HST
        clear hf
        go_wp2_with fail
        go_ret
        exact ⟨by rw [HST.out]; rfl, HB2.out⟩
    · obtain rfl : k = n := by omega
      have hq : roomOk room ls = true := by rw [he, List.drop_eq_nil_of_le (by rw [← HX.out]; exact Nat.le_refl _)]; rfl
      have HQ := Lib.hid hq
      have HBZ := Lib.hid hBr
      clear hq he hBr
      go_wp2_with fail
      go_ret
      exact ⟨by rw [HQ.out]; rfl, HBZ.out⟩
end Go.Proofs

/- Script: mayBe, Check. -/
namespace Go.Proofs
open Go.RowKit Go.Shelf
attribute [local go_sem] Oper.semAt_some

def mayBeB (s : Scr) : Bool := decide (1 ≤ s.goers ∧ s.goers ≤ 8 ∧ 2 ≤ s.slabs ∧ s.slabs ≤ 128 ∧ (s.lists.length : Int) = s.goers ∧ (s.picks.length : Int) ≤ 4096) && roomOk 64 s.lists
set_option maxRecDepth 100000 in
set_option maxHeartbeats 4000000 in
theorem Try.mayBe_any (v : Value) (s : Scr) (hs : s.ok) (w : World) (h : ScrAt w v s) :
    Calls Try.prog 37 #[v] w fun e w' => e = .returned (.bool (mayBeB s)) ∧ Below w.heap.size w w' := by
  obtain ⟨al, cl, ap, cp, rfl, hl1, hp1⟩ := h
  obtain ⟨hs1, hll, hs3⟩ := hs
  obtain ⟨g, b, sd, ls, ps⟩ := s
  dsimp only at hl1 hp1 hs1 hll hs3 ⊢
  have hno : ¬ (1 ≤ g ∧ g ≤ 8 ∧ 2 ≤ b ∧ b ≤ 128 ∧ (ls.length : Int) = g ∧ (ps.length : Int) ≤ 4096) → mayBeB ⟨g, b, sd, ls, ps⟩ = false := fun h => by
    unfold mayBeB
    rw [decide_eq_false h]
    rfl
  have hyes : (1 ≤ g ∧ g ≤ 8 ∧ 2 ≤ b ∧ b ≤ 128 ∧ (ls.length : Int) = g ∧ (ps.length : Int) ≤ 4096) → mayBeB ⟨g, b, sd, ls, ps⟩ = roomOk 64 ls := fun h => by
    unfold mayBeB
    rw [decide_eq_true h]
    rfl
  have HB0 := Lib.hid ((Below.refl w.heap.size w).alloc (Nat.le_refl _) (.cells #[.int .i64 g, .int .i64 b, .int .u64 sd, .slice al ls.length cl, .slice ap ps.length cp] 26))
  by_cases h1 : g < 1
  · have HN := Lib.hid (hno (by omega))
    have eh1 := decide_eq_true h1
    clear hno
    go_enter Try.func37, Try.ntmps37
    go_wp2_with fail
    go_ret
    exact ⟨by rw [HN.out]; rfl, HB0.out⟩
  · skip
    by_cases h2 : 8 < g
    · have HN := Lib.hid (hno (by omega))
      have dh1 := decide_eq_false h1
      have eh2 := decide_eq_true h2
      clear hno
      go_enter Try.func37, Try.ntmps37
      go_wp2_with fail
      go_ret
      exact ⟨by rw [HN.out]; rfl, HB0.out⟩
    · skip
      by_cases h3 : b < 2
      · have HN := Lib.hid (hno (by omega))
        have dh1 := decide_eq_false h1
        have dh2 := decide_eq_false h2
        have eh3 := decide_eq_true h3
        clear hno
        go_enter Try.func37, Try.ntmps37
        go_wp2_with fail
        go_ret
        exact ⟨by rw [HN.out]; rfl, HB0.out⟩
      · skip
        by_cases h4 : 128 < b
        · have HN := Lib.hid (hno (by omega))
          have dh1 := decide_eq_false h1
          have dh2 := decide_eq_false h2
          have dh3 := decide_eq_false h3
          have eh4 := decide_eq_true h4
          clear hno
          go_enter Try.func37, Try.ntmps37
          go_wp2_with fail
          go_ret
          exact ⟨by rw [HN.out]; rfl, HB0.out⟩
        · skip
          by_cases h5 : (ls.length : Int) = g
          · have k5 : ((ls.length : Int) != g) = false := by simp [h5]
            by_cases h6 : 4096 < (ps.length : Int)
            · have HN := Lib.hid (hno (by omega))
              have H5 := Lib.hid h5
              clear hno h5
              go_enter Try.func37, Try.ntmps37
              go_wp2_with fail
              go_ret
              exact ⟨by rw [HN.out]; rfl, HB0.out⟩
            · have HY := Lib.hid (hyes ⟨by omega, by omega, by omega, by omega, h5, by omega⟩)
              have H5 := Lib.hid h5
              clear hno hyes h5
              go_enter Try.func37, Try.ntmps37
              go_wp2_with fail
              have r3 := rows_new2 w (.cells #[.int .i64 g, .int .i64 b, .int .u64 sd, .slice al ls.length cl, .slice ap ps.length cp] 26) 3 #[.int .i64 64]
              refine (Try.allLists_any al ls.length cl (w.heap.size + 1) ls (by omega) hll 64 (by omega) w _ hl1 (by omega) (HB0.out.alloc HB0.out.size _) r3).mono ?_
              rintro e w2 ⟨rfl, B2⟩
              have HB2 := Lib.hid B2
              clear r3 B2
              go_wp2_with fail
              go_ret
              exact ⟨by rw [HY.out]; rfl, HB2.out⟩
          · have k5 : ((ls.length : Int) != g) = true := by simp [h5]
            have HN := Lib.hid (hno (by omega))
            clear hno h5
            go_enter Try.func37, Try.ntmps37
            go_wp2_with fail
            go_ret
            exact ⟨by rw [HN.out]; rfl, HB0.out⟩
def scrErr : Bool → Int
  | true => 0
  | false => 130
set_option maxHeartbeats 1000000 in
theorem Try.Check_any (v : Value) (s : Scr) (hs : s.ok) (w : World) (h : ScrAt w v s) :
    Calls Try.prog 13 #[v] w fun e w' => e = .returned (.int .i64 (scrErr (mayBeB s))) ∧ Below w.heap.size w w' := by
  have hm := fun W hW => Try.mayBe_any v s hs W (h.below hW)
  obtain ⟨al, cl, ap, cp, rfl, _, _⟩ := h
  have HM := Lib.hid hm
  have HB0 := Lib.hid ((Below.refl w.heap.size w).alloc (Nat.le_refl _) (.cells #[.int .i64 s.goers, .int .i64 s.slabs, .int .u64 s.seed, .slice al s.lists.length cl, .slice ap s.picks.length cp] 26))
  clear hm
  generalize mayBeB s = r at *
  go_enter Try.func13, Try.ntmps13
  go_wp2_with fail
  refine (HM.out _ HB0.out).mono ?_
  rintro e w2 ⟨rfl, B2⟩
  have HB2 := Lib.hid (HB0.out.trans (B2.mono HB0.out.size))
  clear B2
  cases r with
  | true =>
    go_wp2_with fail
    go_ret
    exact ⟨rfl, HB2.out⟩
  | false =>
    go_wp2_with fail
    go_ret
    exact ⟨rfl, HB2.out⟩
end Go.Proofs

/- Script: the reference's Call; the room as a sum. -/
namespace Go.Proofs
open Go.RowKit Go.Shelf
attribute [local go_sem] Oper.semAt_some

set_option maxRecDepth 100000 in
set_option maxHeartbeats 4000000 in
theorem Try.refCall_any (c : Cl4) (w : World) :
    Calls Try.prog 38 #[.agg #[.int .i64 c.op, .int .u64 c.key, .int .u64 c.a, .int .u64 c.b]] w fun e w' => e = .returned (.bool (isCallB c)) ∧ Below w.heap.size w w' := by
  obtain ⟨op, key, a, b⟩ := c
  have HT := Lib.hid fun W => Try.refTakes_any op W
  dsimp only
  have HB := Lib.hid ((Below.refl w.heap.size w).alloc (Nat.le_refl _) (.cells #[.int .i64 op, .int .u64 key, .int .u64 a, .int .u64 b] 55))
  by_cases hk : key = 0 <;> by_cases ha : a = 0 <;> by_cases hb : b = 0
  · rcases takesOf_ways op with h | h | h | h | h
    · have HV := Lib.hid (show isCallB ⟨op, key, a, b⟩ = false by unfold isCallB; dsimp only; rw [h]; simp [hk, ha, hb])
      rw [h] at HT
      clear h
      have ehk : (key == 0) = true := by rw [hk]; rfl
      clear hk
      have eha : (a == 0) = true := by rw [ha]; rfl
      clear ha
      have ehb : (b == 0) = true := by rw [hb]; rfl
      clear hb
      go_enter Try.func38, Try.ntmps38
      go_wp2_with fail
      refine (HT.out _).mono ?_
      rintro e w' ⟨rfl, rfl⟩
      go_wp2_with fail
      go_ret
      exact ⟨by rw [HV.out]; rfl, HB.out⟩
    · have HV := Lib.hid (show isCallB ⟨op, key, a, b⟩ = true by unfold isCallB; dsimp only; rw [h]; simp [hk, ha, hb])
      rw [h] at HT
      clear h
      have ehk : (key == 0) = true := by rw [hk]; rfl
      clear hk
      have eha : (a == 0) = true := by rw [ha]; rfl
      clear ha
      have ehb : (b == 0) = true := by rw [hb]; rfl
      clear hb
      go_enter Try.func38, Try.ntmps38
      go_wp2_with fail
      refine (HT.out _).mono ?_
      rintro e w' ⟨rfl, rfl⟩
      go_wp2_with fail
      go_ret
      exact ⟨by rw [HV.out]; rfl, HB.out⟩
    · have HV := Lib.hid (show isCallB ⟨op, key, a, b⟩ = true by unfold isCallB; dsimp only; rw [h]; simp [hk, ha, hb])
      rw [h] at HT
      clear h
      have ehk : (key == 0) = true := by rw [hk]; rfl
      clear hk
      have eha : (a == 0) = true := by rw [ha]; rfl
      clear ha
      have ehb : (b == 0) = true := by rw [hb]; rfl
      clear hb
      go_enter Try.func38, Try.ntmps38
      go_wp2_with fail
      refine (HT.out _).mono ?_
      rintro e w' ⟨rfl, rfl⟩
      go_wp2_with fail
      go_ret
      exact ⟨by rw [HV.out]; rfl, HB.out⟩
    · have HV := Lib.hid (show isCallB ⟨op, key, a, b⟩ = true by unfold isCallB; dsimp only; rw [h]; simp [hk, ha, hb])
      rw [h] at HT
      clear h
      have ehk : (key == 0) = true := by rw [hk]; rfl
      clear hk
      have eha : (a == 0) = true := by rw [ha]; rfl
      clear ha
      have ehb : (b == 0) = true := by rw [hb]; rfl
      clear hb
      go_enter Try.func38, Try.ntmps38
      go_wp2_with fail
      refine (HT.out _).mono ?_
      rintro e w' ⟨rfl, rfl⟩
      go_wp2_with fail
      go_ret
      exact ⟨by rw [HV.out]; rfl, HB.out⟩
    · have HV := Lib.hid (show isCallB ⟨op, key, a, b⟩ = true by unfold isCallB; dsimp only; rw [h]; simp [hk, ha, hb])
      rw [h] at HT
      clear h
      have ehk : (key == 0) = true := by rw [hk]; rfl
      clear hk
      have eha : (a == 0) = true := by rw [ha]; rfl
      clear ha
      have ehb : (b == 0) = true := by rw [hb]; rfl
      clear hb
      go_enter Try.func38, Try.ntmps38
      go_wp2_with fail
      refine (HT.out _).mono ?_
      rintro e w' ⟨rfl, rfl⟩
      go_wp2_with fail
      go_ret
      exact ⟨by rw [HV.out]; rfl, HB.out⟩
  · rcases takesOf_ways op with h | h | h | h | h
    · have HV := Lib.hid (show isCallB ⟨op, key, a, b⟩ = false by unfold isCallB; dsimp only; rw [h]; simp [hk, ha, hb])
      rw [h] at HT
      clear h
      have ehk : (key == 0) = true := by rw [hk]; rfl
      clear hk
      have eha : (a == 0) = true := by rw [ha]; rfl
      clear ha
      have ehb : (b == 0) = false := by rw [beq_eq_false_iff_ne]; exact hb
      go_enter Try.func38, Try.ntmps38
      go_wp2_with fail
      refine (HT.out _).mono ?_
      rintro e w' ⟨rfl, rfl⟩
      go_wp2_with fail
      go_ret
      exact ⟨by rw [HV.out]; rfl, HB.out⟩
    · have HV := Lib.hid (show isCallB ⟨op, key, a, b⟩ = false by unfold isCallB; dsimp only; rw [h]; simp [hk, ha, hb])
      rw [h] at HT
      clear h
      have ehk : (key == 0) = true := by rw [hk]; rfl
      clear hk
      have eha : (a == 0) = true := by rw [ha]; rfl
      clear ha
      have ehb : (b == 0) = false := by rw [beq_eq_false_iff_ne]; exact hb
      go_enter Try.func38, Try.ntmps38
      go_wp2_with fail
      refine (HT.out _).mono ?_
      rintro e w' ⟨rfl, rfl⟩
      go_wp2_with fail
      go_ret
      exact ⟨by rw [HV.out]; rfl, HB.out⟩
    · have HV := Lib.hid (show isCallB ⟨op, key, a, b⟩ = false by unfold isCallB; dsimp only; rw [h]; simp [hk, ha, hb])
      rw [h] at HT
      clear h
      have ehk : (key == 0) = true := by rw [hk]; rfl
      clear hk
      have eha : (a == 0) = true := by rw [ha]; rfl
      clear ha
      have ehb : (b == 0) = false := by rw [beq_eq_false_iff_ne]; exact hb
      go_enter Try.func38, Try.ntmps38
      go_wp2_with fail
      refine (HT.out _).mono ?_
      rintro e w' ⟨rfl, rfl⟩
      go_wp2_with fail
      go_ret
      exact ⟨by rw [HV.out]; rfl, HB.out⟩
    · have HV := Lib.hid (show isCallB ⟨op, key, a, b⟩ = false by unfold isCallB; dsimp only; rw [h]; simp [hk, ha, hb])
      rw [h] at HT
      clear h
      have ehk : (key == 0) = true := by rw [hk]; rfl
      clear hk
      have eha : (a == 0) = true := by rw [ha]; rfl
      clear ha
      have ehb : (b == 0) = false := by rw [beq_eq_false_iff_ne]; exact hb
      go_enter Try.func38, Try.ntmps38
      go_wp2_with fail
      refine (HT.out _).mono ?_
      rintro e w' ⟨rfl, rfl⟩
      go_wp2_with fail
      go_ret
      exact ⟨by rw [HV.out]; rfl, HB.out⟩
    · have HV := Lib.hid (show isCallB ⟨op, key, a, b⟩ = true by unfold isCallB; dsimp only; rw [h]; simp [hk, ha, hb])
      rw [h] at HT
      clear h
      have ehk : (key == 0) = true := by rw [hk]; rfl
      clear hk
      have eha : (a == 0) = true := by rw [ha]; rfl
      clear ha
      have ehb : (b == 0) = false := by rw [beq_eq_false_iff_ne]; exact hb
      go_enter Try.func38, Try.ntmps38
      go_wp2_with fail
      refine (HT.out _).mono ?_
      rintro e w' ⟨rfl, rfl⟩
      go_wp2_with fail
      go_ret
      exact ⟨by rw [HV.out]; rfl, HB.out⟩
  · rcases takesOf_ways op with h | h | h | h | h
    · have HV := Lib.hid (show isCallB ⟨op, key, a, b⟩ = false by unfold isCallB; dsimp only; rw [h]; simp [hk, ha, hb])
      rw [h] at HT
      clear h
      have ehk : (key == 0) = true := by rw [hk]; rfl
      clear hk
      have eha : (a == 0) = false := by rw [beq_eq_false_iff_ne]; exact ha
      have ehb : (b == 0) = true := by rw [hb]; rfl
      clear hb
      go_enter Try.func38, Try.ntmps38
      go_wp2_with fail
      refine (HT.out _).mono ?_
      rintro e w' ⟨rfl, rfl⟩
      go_wp2_with fail
      go_ret
      exact ⟨by rw [HV.out]; rfl, HB.out⟩
    · have HV := Lib.hid (show isCallB ⟨op, key, a, b⟩ = false by unfold isCallB; dsimp only; rw [h]; simp [hk, ha, hb])
      rw [h] at HT
      clear h
      have ehk : (key == 0) = true := by rw [hk]; rfl
      clear hk
      have eha : (a == 0) = false := by rw [beq_eq_false_iff_ne]; exact ha
      have ehb : (b == 0) = true := by rw [hb]; rfl
      clear hb
      go_enter Try.func38, Try.ntmps38
      go_wp2_with fail
      refine (HT.out _).mono ?_
      rintro e w' ⟨rfl, rfl⟩
      go_wp2_with fail
      go_ret
      exact ⟨by rw [HV.out]; rfl, HB.out⟩
    · have HV := Lib.hid (show isCallB ⟨op, key, a, b⟩ = false by unfold isCallB; dsimp only; rw [h]; simp [hk, ha, hb])
      rw [h] at HT
      clear h
      have ehk : (key == 0) = true := by rw [hk]; rfl
      clear hk
      have eha : (a == 0) = false := by rw [beq_eq_false_iff_ne]; exact ha
      have ehb : (b == 0) = true := by rw [hb]; rfl
      clear hb
      go_enter Try.func38, Try.ntmps38
      go_wp2_with fail
      refine (HT.out _).mono ?_
      rintro e w' ⟨rfl, rfl⟩
      go_wp2_with fail
      go_ret
      exact ⟨by rw [HV.out]; rfl, HB.out⟩
    · have HV := Lib.hid (show isCallB ⟨op, key, a, b⟩ = true by unfold isCallB; dsimp only; rw [h]; simp [hk, ha, hb])
      rw [h] at HT
      clear h
      have ehk : (key == 0) = true := by rw [hk]; rfl
      clear hk
      have eha : (a == 0) = false := by rw [beq_eq_false_iff_ne]; exact ha
      have ehb : (b == 0) = true := by rw [hb]; rfl
      clear hb
      go_enter Try.func38, Try.ntmps38
      go_wp2_with fail
      refine (HT.out _).mono ?_
      rintro e w' ⟨rfl, rfl⟩
      go_wp2_with fail
      go_ret
      exact ⟨by rw [HV.out]; rfl, HB.out⟩
    · have HV := Lib.hid (show isCallB ⟨op, key, a, b⟩ = true by unfold isCallB; dsimp only; rw [h]; simp [hk, ha, hb])
      rw [h] at HT
      clear h
      have ehk : (key == 0) = true := by rw [hk]; rfl
      clear hk
      have eha : (a == 0) = false := by rw [beq_eq_false_iff_ne]; exact ha
      have ehb : (b == 0) = true := by rw [hb]; rfl
      clear hb
      go_enter Try.func38, Try.ntmps38
      go_wp2_with fail
      refine (HT.out _).mono ?_
      rintro e w' ⟨rfl, rfl⟩
      go_wp2_with fail
      go_ret
      exact ⟨by rw [HV.out]; rfl, HB.out⟩
  · rcases takesOf_ways op with h | h | h | h | h
    · have HV := Lib.hid (show isCallB ⟨op, key, a, b⟩ = false by unfold isCallB; dsimp only; rw [h]; simp [hk, ha, hb])
      rw [h] at HT
      clear h
      have ehk : (key == 0) = true := by rw [hk]; rfl
      clear hk
      have eha : (a == 0) = false := by rw [beq_eq_false_iff_ne]; exact ha
      have ehb : (b == 0) = false := by rw [beq_eq_false_iff_ne]; exact hb
      go_enter Try.func38, Try.ntmps38
      go_wp2_with fail
      refine (HT.out _).mono ?_
      rintro e w' ⟨rfl, rfl⟩
      go_wp2_with fail
      go_ret
      exact ⟨by rw [HV.out]; rfl, HB.out⟩
    · have HV := Lib.hid (show isCallB ⟨op, key, a, b⟩ = false by unfold isCallB; dsimp only; rw [h]; simp [hk, ha, hb])
      rw [h] at HT
      clear h
      have ehk : (key == 0) = true := by rw [hk]; rfl
      clear hk
      have eha : (a == 0) = false := by rw [beq_eq_false_iff_ne]; exact ha
      have ehb : (b == 0) = false := by rw [beq_eq_false_iff_ne]; exact hb
      go_enter Try.func38, Try.ntmps38
      go_wp2_with fail
      refine (HT.out _).mono ?_
      rintro e w' ⟨rfl, rfl⟩
      go_wp2_with fail
      go_ret
      exact ⟨by rw [HV.out]; rfl, HB.out⟩
    · have HV := Lib.hid (show isCallB ⟨op, key, a, b⟩ = false by unfold isCallB; dsimp only; rw [h]; simp [hk, ha, hb])
      rw [h] at HT
      clear h
      have ehk : (key == 0) = true := by rw [hk]; rfl
      clear hk
      have eha : (a == 0) = false := by rw [beq_eq_false_iff_ne]; exact ha
      have ehb : (b == 0) = false := by rw [beq_eq_false_iff_ne]; exact hb
      go_enter Try.func38, Try.ntmps38
      go_wp2_with fail
      refine (HT.out _).mono ?_
      rintro e w' ⟨rfl, rfl⟩
      go_wp2_with fail
      go_ret
      exact ⟨by rw [HV.out]; rfl, HB.out⟩
    · have HV := Lib.hid (show isCallB ⟨op, key, a, b⟩ = false by unfold isCallB; dsimp only; rw [h]; simp [hk, ha, hb])
      rw [h] at HT
      clear h
      have ehk : (key == 0) = true := by rw [hk]; rfl
      clear hk
      have eha : (a == 0) = false := by rw [beq_eq_false_iff_ne]; exact ha
      have ehb : (b == 0) = false := by rw [beq_eq_false_iff_ne]; exact hb
      go_enter Try.func38, Try.ntmps38
      go_wp2_with fail
      refine (HT.out _).mono ?_
      rintro e w' ⟨rfl, rfl⟩
      go_wp2_with fail
      go_ret
      exact ⟨by rw [HV.out]; rfl, HB.out⟩
    · have HV := Lib.hid (show isCallB ⟨op, key, a, b⟩ = true by unfold isCallB; dsimp only; rw [h]; simp [hk, ha, hb])
      rw [h] at HT
      clear h
      have ehk : (key == 0) = true := by rw [hk]; rfl
      clear hk
      have eha : (a == 0) = false := by rw [beq_eq_false_iff_ne]; exact ha
      have ehb : (b == 0) = false := by rw [beq_eq_false_iff_ne]; exact hb
      go_enter Try.func38, Try.ntmps38
      go_wp2_with fail
      refine (HT.out _).mono ?_
      rintro e w' ⟨rfl, rfl⟩
      go_wp2_with fail
      go_ret
      exact ⟨by rw [HV.out]; rfl, HB.out⟩
  · rcases takesOf_ways op with h | h | h | h | h
    · have HV := Lib.hid (show isCallB ⟨op, key, a, b⟩ = false by unfold isCallB; dsimp only; rw [h]; simp [hk, ha, hb])
      rw [h] at HT
      clear h
      have ehk : (key == 0) = false := by rw [beq_eq_false_iff_ne]; exact hk
      have eha : (a == 0) = true := by rw [ha]; rfl
      clear ha
      have ehb : (b == 0) = true := by rw [hb]; rfl
      clear hb
      go_enter Try.func38, Try.ntmps38
      go_wp2_with fail
      refine (HT.out _).mono ?_
      rintro e w' ⟨rfl, rfl⟩
      go_wp2_with fail
      go_ret
      exact ⟨by rw [HV.out]; rfl, HB.out⟩
    · have HV := Lib.hid (show isCallB ⟨op, key, a, b⟩ = false by unfold isCallB; dsimp only; rw [h]; simp [hk, ha, hb])
      rw [h] at HT
      clear h
      have ehk : (key == 0) = false := by rw [beq_eq_false_iff_ne]; exact hk
      have eha : (a == 0) = true := by rw [ha]; rfl
      clear ha
      have ehb : (b == 0) = true := by rw [hb]; rfl
      clear hb
      go_enter Try.func38, Try.ntmps38
      go_wp2_with fail
      refine (HT.out _).mono ?_
      rintro e w' ⟨rfl, rfl⟩
      go_wp2_with fail
      go_ret
      exact ⟨by rw [HV.out]; rfl, HB.out⟩
    · have HV := Lib.hid (show isCallB ⟨op, key, a, b⟩ = true by unfold isCallB; dsimp only; rw [h]; simp [hk, ha, hb])
      rw [h] at HT
      clear h
      have ehk : (key == 0) = false := by rw [beq_eq_false_iff_ne]; exact hk
      have eha : (a == 0) = true := by rw [ha]; rfl
      clear ha
      have ehb : (b == 0) = true := by rw [hb]; rfl
      clear hb
      go_enter Try.func38, Try.ntmps38
      go_wp2_with fail
      refine (HT.out _).mono ?_
      rintro e w' ⟨rfl, rfl⟩
      go_wp2_with fail
      go_ret
      exact ⟨by rw [HV.out]; rfl, HB.out⟩
    · have HV := Lib.hid (show isCallB ⟨op, key, a, b⟩ = true by unfold isCallB; dsimp only; rw [h]; simp [hk, ha, hb])
      rw [h] at HT
      clear h
      have ehk : (key == 0) = false := by rw [beq_eq_false_iff_ne]; exact hk
      have eha : (a == 0) = true := by rw [ha]; rfl
      clear ha
      have ehb : (b == 0) = true := by rw [hb]; rfl
      clear hb
      go_enter Try.func38, Try.ntmps38
      go_wp2_with fail
      refine (HT.out _).mono ?_
      rintro e w' ⟨rfl, rfl⟩
      go_wp2_with fail
      go_ret
      exact ⟨by rw [HV.out]; rfl, HB.out⟩
    · have HV := Lib.hid (show isCallB ⟨op, key, a, b⟩ = true by unfold isCallB; dsimp only; rw [h]; simp [hk, ha, hb])
      rw [h] at HT
      clear h
      have ehk : (key == 0) = false := by rw [beq_eq_false_iff_ne]; exact hk
      have eha : (a == 0) = true := by rw [ha]; rfl
      clear ha
      have ehb : (b == 0) = true := by rw [hb]; rfl
      clear hb
      go_enter Try.func38, Try.ntmps38
      go_wp2_with fail
      refine (HT.out _).mono ?_
      rintro e w' ⟨rfl, rfl⟩
      go_wp2_with fail
      go_ret
      exact ⟨by rw [HV.out]; rfl, HB.out⟩
  · rcases takesOf_ways op with h | h | h | h | h
    · have HV := Lib.hid (show isCallB ⟨op, key, a, b⟩ = false by unfold isCallB; dsimp only; rw [h]; simp [hk, ha, hb])
      rw [h] at HT
      clear h
      have ehk : (key == 0) = false := by rw [beq_eq_false_iff_ne]; exact hk
      have eha : (a == 0) = true := by rw [ha]; rfl
      clear ha
      have ehb : (b == 0) = false := by rw [beq_eq_false_iff_ne]; exact hb
      go_enter Try.func38, Try.ntmps38
      go_wp2_with fail
      refine (HT.out _).mono ?_
      rintro e w' ⟨rfl, rfl⟩
      go_wp2_with fail
      go_ret
      exact ⟨by rw [HV.out]; rfl, HB.out⟩
    · have HV := Lib.hid (show isCallB ⟨op, key, a, b⟩ = false by unfold isCallB; dsimp only; rw [h]; simp [hk, ha, hb])
      rw [h] at HT
      clear h
      have ehk : (key == 0) = false := by rw [beq_eq_false_iff_ne]; exact hk
      have eha : (a == 0) = true := by rw [ha]; rfl
      clear ha
      have ehb : (b == 0) = false := by rw [beq_eq_false_iff_ne]; exact hb
      go_enter Try.func38, Try.ntmps38
      go_wp2_with fail
      refine (HT.out _).mono ?_
      rintro e w' ⟨rfl, rfl⟩
      go_wp2_with fail
      go_ret
      exact ⟨by rw [HV.out]; rfl, HB.out⟩
    · have HV := Lib.hid (show isCallB ⟨op, key, a, b⟩ = false by unfold isCallB; dsimp only; rw [h]; simp [hk, ha, hb])
      rw [h] at HT
      clear h
      have ehk : (key == 0) = false := by rw [beq_eq_false_iff_ne]; exact hk
      have eha : (a == 0) = true := by rw [ha]; rfl
      clear ha
      have ehb : (b == 0) = false := by rw [beq_eq_false_iff_ne]; exact hb
      go_enter Try.func38, Try.ntmps38
      go_wp2_with fail
      refine (HT.out _).mono ?_
      rintro e w' ⟨rfl, rfl⟩
      go_wp2_with fail
      go_ret
      exact ⟨by rw [HV.out]; rfl, HB.out⟩
    · have HV := Lib.hid (show isCallB ⟨op, key, a, b⟩ = false by unfold isCallB; dsimp only; rw [h]; simp [hk, ha, hb])
      rw [h] at HT
      clear h
      have ehk : (key == 0) = false := by rw [beq_eq_false_iff_ne]; exact hk
      have eha : (a == 0) = true := by rw [ha]; rfl
      clear ha
      have ehb : (b == 0) = false := by rw [beq_eq_false_iff_ne]; exact hb
      go_enter Try.func38, Try.ntmps38
      go_wp2_with fail
      refine (HT.out _).mono ?_
      rintro e w' ⟨rfl, rfl⟩
      go_wp2_with fail
      go_ret
      exact ⟨by rw [HV.out]; rfl, HB.out⟩
    · have HV := Lib.hid (show isCallB ⟨op, key, a, b⟩ = true by unfold isCallB; dsimp only; rw [h]; simp [hk, ha, hb])
      rw [h] at HT
      clear h
      have ehk : (key == 0) = false := by rw [beq_eq_false_iff_ne]; exact hk
      have eha : (a == 0) = true := by rw [ha]; rfl
      clear ha
      have ehb : (b == 0) = false := by rw [beq_eq_false_iff_ne]; exact hb
      go_enter Try.func38, Try.ntmps38
      go_wp2_with fail
      refine (HT.out _).mono ?_
      rintro e w' ⟨rfl, rfl⟩
      go_wp2_with fail
      go_ret
      exact ⟨by rw [HV.out]; rfl, HB.out⟩
  · rcases takesOf_ways op with h | h | h | h | h
    · have HV := Lib.hid (show isCallB ⟨op, key, a, b⟩ = false by unfold isCallB; dsimp only; rw [h]; simp [hk, ha, hb])
      rw [h] at HT
      clear h
      have ehk : (key == 0) = false := by rw [beq_eq_false_iff_ne]; exact hk
      have eha : (a == 0) = false := by rw [beq_eq_false_iff_ne]; exact ha
      have ehb : (b == 0) = true := by rw [hb]; rfl
      clear hb
      go_enter Try.func38, Try.ntmps38
      go_wp2_with fail
      refine (HT.out _).mono ?_
      rintro e w' ⟨rfl, rfl⟩
      go_wp2_with fail
      go_ret
      exact ⟨by rw [HV.out]; rfl, HB.out⟩
    · have HV := Lib.hid (show isCallB ⟨op, key, a, b⟩ = false by unfold isCallB; dsimp only; rw [h]; simp [hk, ha, hb])
      rw [h] at HT
      clear h
      have ehk : (key == 0) = false := by rw [beq_eq_false_iff_ne]; exact hk
      have eha : (a == 0) = false := by rw [beq_eq_false_iff_ne]; exact ha
      have ehb : (b == 0) = true := by rw [hb]; rfl
      clear hb
      go_enter Try.func38, Try.ntmps38
      go_wp2_with fail
      refine (HT.out _).mono ?_
      rintro e w' ⟨rfl, rfl⟩
      go_wp2_with fail
      go_ret
      exact ⟨by rw [HV.out]; rfl, HB.out⟩
    · have HV := Lib.hid (show isCallB ⟨op, key, a, b⟩ = false by unfold isCallB; dsimp only; rw [h]; simp [hk, ha, hb])
      rw [h] at HT
      clear h
      have ehk : (key == 0) = false := by rw [beq_eq_false_iff_ne]; exact hk
      have eha : (a == 0) = false := by rw [beq_eq_false_iff_ne]; exact ha
      have ehb : (b == 0) = true := by rw [hb]; rfl
      clear hb
      go_enter Try.func38, Try.ntmps38
      go_wp2_with fail
      refine (HT.out _).mono ?_
      rintro e w' ⟨rfl, rfl⟩
      go_wp2_with fail
      go_ret
      exact ⟨by rw [HV.out]; rfl, HB.out⟩
    · have HV := Lib.hid (show isCallB ⟨op, key, a, b⟩ = true by unfold isCallB; dsimp only; rw [h]; simp [hk, ha, hb])
      rw [h] at HT
      clear h
      have ehk : (key == 0) = false := by rw [beq_eq_false_iff_ne]; exact hk
      have eha : (a == 0) = false := by rw [beq_eq_false_iff_ne]; exact ha
      have ehb : (b == 0) = true := by rw [hb]; rfl
      clear hb
      go_enter Try.func38, Try.ntmps38
      go_wp2_with fail
      refine (HT.out _).mono ?_
      rintro e w' ⟨rfl, rfl⟩
      go_wp2_with fail
      go_ret
      exact ⟨by rw [HV.out]; rfl, HB.out⟩
    · have HV := Lib.hid (show isCallB ⟨op, key, a, b⟩ = true by unfold isCallB; dsimp only; rw [h]; simp [hk, ha, hb])
      rw [h] at HT
      clear h
      have ehk : (key == 0) = false := by rw [beq_eq_false_iff_ne]; exact hk
      have eha : (a == 0) = false := by rw [beq_eq_false_iff_ne]; exact ha
      have ehb : (b == 0) = true := by rw [hb]; rfl
      clear hb
      go_enter Try.func38, Try.ntmps38
      go_wp2_with fail
      refine (HT.out _).mono ?_
      rintro e w' ⟨rfl, rfl⟩
      go_wp2_with fail
      go_ret
      exact ⟨by rw [HV.out]; rfl, HB.out⟩
  · rcases takesOf_ways op with h | h | h | h | h
    · have HV := Lib.hid (show isCallB ⟨op, key, a, b⟩ = false by unfold isCallB; dsimp only; rw [h]; simp [hk, ha, hb])
      rw [h] at HT
      clear h
      have ehk : (key == 0) = false := by rw [beq_eq_false_iff_ne]; exact hk
      have eha : (a == 0) = false := by rw [beq_eq_false_iff_ne]; exact ha
      have ehb : (b == 0) = false := by rw [beq_eq_false_iff_ne]; exact hb
      go_enter Try.func38, Try.ntmps38
      go_wp2_with fail
      refine (HT.out _).mono ?_
      rintro e w' ⟨rfl, rfl⟩
      go_wp2_with fail
      go_ret
      exact ⟨by rw [HV.out]; rfl, HB.out⟩
    · have HV := Lib.hid (show isCallB ⟨op, key, a, b⟩ = false by unfold isCallB; dsimp only; rw [h]; simp [hk, ha, hb])
      rw [h] at HT
      clear h
      have ehk : (key == 0) = false := by rw [beq_eq_false_iff_ne]; exact hk
      have eha : (a == 0) = false := by rw [beq_eq_false_iff_ne]; exact ha
      have ehb : (b == 0) = false := by rw [beq_eq_false_iff_ne]; exact hb
      go_enter Try.func38, Try.ntmps38
      go_wp2_with fail
      refine (HT.out _).mono ?_
      rintro e w' ⟨rfl, rfl⟩
      go_wp2_with fail
      go_ret
      exact ⟨by rw [HV.out]; rfl, HB.out⟩
    · have HV := Lib.hid (show isCallB ⟨op, key, a, b⟩ = false by unfold isCallB; dsimp only; rw [h]; simp [hk, ha, hb])
      rw [h] at HT
      clear h
      have ehk : (key == 0) = false := by rw [beq_eq_false_iff_ne]; exact hk
      have eha : (a == 0) = false := by rw [beq_eq_false_iff_ne]; exact ha
      have ehb : (b == 0) = false := by rw [beq_eq_false_iff_ne]; exact hb
      go_enter Try.func38, Try.ntmps38
      go_wp2_with fail
      refine (HT.out _).mono ?_
      rintro e w' ⟨rfl, rfl⟩
      go_wp2_with fail
      go_ret
      exact ⟨by rw [HV.out]; rfl, HB.out⟩
    · have HV := Lib.hid (show isCallB ⟨op, key, a, b⟩ = false by unfold isCallB; dsimp only; rw [h]; simp [hk, ha, hb])
      rw [h] at HT
      clear h
      have ehk : (key == 0) = false := by rw [beq_eq_false_iff_ne]; exact hk
      have eha : (a == 0) = false := by rw [beq_eq_false_iff_ne]; exact ha
      have ehb : (b == 0) = false := by rw [beq_eq_false_iff_ne]; exact hb
      go_enter Try.func38, Try.ntmps38
      go_wp2_with fail
      refine (HT.out _).mono ?_
      rintro e w' ⟨rfl, rfl⟩
      go_wp2_with fail
      go_ret
      exact ⟨by rw [HV.out]; rfl, HB.out⟩
    · have HV := Lib.hid (show isCallB ⟨op, key, a, b⟩ = true by unfold isCallB; dsimp only; rw [h]; simp [hk, ha, hb])
      rw [h] at HT
      clear h
      have ehk : (key == 0) = false := by rw [beq_eq_false_iff_ne]; exact hk
      have eha : (a == 0) = false := by rw [beq_eq_false_iff_ne]; exact ha
      have ehb : (b == 0) = false := by rw [beq_eq_false_iff_ne]; exact hb
      go_enter Try.func38, Try.ntmps38
      go_wp2_with fail
      refine (HT.out _).mono ?_
      rintro e w' ⟨rfl, rfl⟩
      go_wp2_with fail
      go_ret
      exact ⟨by rw [HV.out]; rfl, HB.out⟩
/-- All calls of lists. -/
def countC (ls : List (List Cl4)) : Nat := (ls.map List.length).sum
theorem roomOk_all : ∀ (ls : List (List Cl4)) (r : Int), 0 ≤ r → roomOk r ls = (ls.all (fun l => l.all isCallB) && decide ((countC ls : Int) ≤ r)) := by
  intro ls
  induction ls with
  | nil => intro r hr; unfold roomOk countC; simp; omega
  | cons l t ih =>
    intro r hr
    unfold roomOk fitsB
    have hc : countC (l :: t) = l.length + countC t := by unfold countC; rw [List.map_cons, List.sum_cons]
    rw [hc, List.all_cons]
    by_cases h : 0 ≤ r - l.length
    · rw [decide_eq_true h, Bool.true_and, ih _ h, Bool.and_assoc]
      congr 2
      rw [decide_eq_decide]
      omega
    · rw [decide_eq_false h, Bool.false_and, Bool.false_and, decide_eq_false (by omega), Bool.and_false]
theorem countC_snoc (ls : List (List Cl4)) (l : List Cl4) : countC (ls ++ [l]) = countC ls + l.length := by unfold countC; simp
theorem mayBeB_eq (s : Scr) : mayBeB s = (decide (1 ≤ s.goers ∧ s.goers ≤ 8 ∧ 2 ≤ s.slabs ∧ s.slabs ≤ 128 ∧ (s.lists.length : Int) = s.goers ∧ (s.picks.length : Int) ≤ 4096) && (s.lists.all (fun l => l.all isCallB) && decide ((countC s.lists : Int) ≤ 64))) := by
  unfold mayBeB
  rw [roomOk_all _ _ (by decide)]
end Go.Proofs

/- Script: the reference's Right. -/
namespace Go.Proofs
open Go.RowKit Go.Shelf
attribute [local go_sem] Oper.semAt_some

set_option maxRecDepth 100000 in
set_option maxHeartbeats 4000000 in
theorem Try.refRight_any (v : Value) (s : Scr) (hs : s.ok) (w : World) (h : ScrAt w v s) :
    Calls Try.prog 14 #[v] w fun e w' => e = .returned (.bool (mayBeB s)) ∧ Below w.heap.size w w' := by
  obtain ⟨al, cl, ap, cp, rfl, hl1, hp1⟩ := h
  obtain ⟨hs1, hll, hs3⟩ := hs
  obtain ⟨g, b, sd, ls, ps⟩ := s
  dsimp only at hl1 hp1 hs1 hll hs3 ⊢
  have hno : ¬ (1 ≤ g ∧ g ≤ 8 ∧ 2 ≤ b ∧ b ≤ 128 ∧ (ls.length : Int) = g ∧ (ps.length : Int) ≤ 4096) → mayBeB ⟨g, b, sd, ls, ps⟩ = false := fun h => by
    unfold mayBeB
    rw [decide_eq_false h]
    rfl
  have hyes : (1 ≤ g ∧ g ≤ 8 ∧ 2 ≤ b ∧ b ≤ 128 ∧ (ls.length : Int) = g ∧ (ps.length : Int) ≤ 4096) → mayBeB ⟨g, b, sd, ls, ps⟩ = roomOk 64 ls := fun h => by
    unfold mayBeB
    rw [decide_eq_true h]
    rfl
  have HB0 := Lib.hid ((Below.refl w.heap.size w).alloc (Nat.le_refl _) (.cells #[.int .i64 g, .int .i64 b, .int .u64 sd, .slice al ls.length cl, .slice ap ps.length cp] 26))
  by_cases h1 : g < 1
  · have HN := Lib.hid (hno (by omega))
    have eh1 := decide_eq_true h1
    clear hno
    go_enter Try.func14, Try.ntmps14
    go_wp2_with fail
    go_ret
    exact ⟨by rw [HN.out]; rfl, HB0.out⟩
  · skip
    by_cases h2 : 8 < g
    · have HN := Lib.hid (hno (by omega))
      have dh1 := decide_eq_false h1
      have eh2 := decide_eq_true h2
      clear hno
      go_enter Try.func14, Try.ntmps14
      go_wp2_with fail
      go_ret
      exact ⟨by rw [HN.out]; rfl, HB0.out⟩
    · skip
      by_cases h3 : b < 2
      · have HN := Lib.hid (hno (by omega))
        have dh1 := decide_eq_false h1
        have dh2 := decide_eq_false h2
        have eh3 := decide_eq_true h3
        clear hno
        go_enter Try.func14, Try.ntmps14
        go_wp2_with fail
        go_ret
        exact ⟨by rw [HN.out]; rfl, HB0.out⟩
      · skip
        by_cases h4 : 128 < b
        · have HN := Lib.hid (hno (by omega))
          have dh1 := decide_eq_false h1
          have dh2 := decide_eq_false h2
          have dh3 := decide_eq_false h3
          have eh4 := decide_eq_true h4
          clear hno
          go_enter Try.func14, Try.ntmps14
          go_wp2_with fail
          go_ret
          exact ⟨by rw [HN.out]; rfl, HB0.out⟩
        · skip
          by_cases h5 : (ls.length : Int) = g
          · have k5 : ((ls.length : Int) != g) = false := by simp [h5]
            by_cases h6 : 4096 < (ps.length : Int)
            · have HN := Lib.hid (hno (by omega))
              have H5 := Lib.hid h5
              clear hno h5
              go_enter Try.func14, Try.ntmps14
              go_wp2_with fail
              go_ret
              exact ⟨by rw [HN.out]; rfl, HB0.out⟩
            · have hall := mayBeB_eq ⟨g, b, sd, ls, ps⟩
              dsimp only at hall
              rw [decide_eq_true (show 1 ≤ g ∧ g ≤ 8 ∧ 2 ≤ b ∧ b ≤ 128 ∧ (ls.length : Int) = g ∧ (ps.length : Int) ≤ 4096 from ⟨by omega, by omega, by omega, by omega, h5, by omega⟩), Bool.true_and] at hall
              have HALL := Lib.hid hall
              have hls8 : ls.length ≤ 8 := by omega
              have H5 := Lib.hid h5
              have H1 := Lib.hid hl1
              have HLL := Lib.hid hll
              clear hno hyes h5 hall hl1 hp1 hll
              go_enter Try.func14, Try.ntmps14
              go_wp2_with fail
              go_loopw [3, 43] (fun nv j wr => ∃ k C : Nat, k ≤ ls.length ∧ j = .int .i64 k ∧ nv = .int .i64 C ∧ Hid (C = countC (ls.take k)) ∧ Hid ((ls.take k).all (fun l => l.all isCallB) = true) ∧ C ≤ 10000 * k ∧ Below w.heap.size w wr) (fun _ j _ => ls.length - (intOf j).toNat)
              case atStart => exact ⟨0, 0, Nat.zero_le _, rfl, rfl, Lib.hid rfl, Lib.hid rfl, Nat.le_refl _, HB0.out⟩
              case round =>
                obtain ⟨k, C, hk, rfl, rfl, hC, hA, hC1, hB⟩ := hrel
                by_cases hlt : k < ls.length
                · have hki : (k : Int) < (ls.length : Int) := by omega
                  obtain ⟨b1, o1, d1, c1, rfl, hb1, p0, hp⟩ := listsAt_get (H1.out.below hB) k hlt
                  have hll1 := HLL.out ls[k] (List.getElem_mem hlt)
                  have hsn := List.take_succ_eq_append_getElem hlt
                  have hcs : countC (ls.take (k + 1)) = C + ls[k].length := by rw [hsn, countC_snoc, hC.out]
                  have has : (ls.take (k + 1)).all (fun l => l.all isCallB) = ls[k].all isCallB := by rw [hsn, List.all_append, hA.out]; simp
                  have hno2 : ls[k].all isCallB = false → ls.all (fun l => l.all isCallB) = false := fun h => by rw [List.all_eq_false]; exact ⟨ls[k], List.getElem_mem hlt, by simp [h]⟩
                  generalize ls[k] = l at *
                  have HCS := Lib.hid hcs
                  have HAS := Lib.hid has
                  have HNO := Lib.hid hno2
                  have HP := Lib.hid hp
                  have HB := Lib.hid hB
                  clear hcs has hno2 hp hB hsn hC hA
                  rename World => w0
                  go_wp2_with fail
                  go_loopw [3, 49] (fun nv j wr => ∃ i : Nat, i ≤ l.length ∧ j = .int .i64 i ∧ nv = .int .i64 ((C + i : Nat) : Int) ∧ Hid ((l.take i).all isCallB = true) ∧ Below w0.heap.size w0 wr) (fun _ j _ => l.length - (intOf j).toNat)
                  case atStart => exact ⟨0, Nat.zero_le _, rfl, rfl, Lib.hid rfl, Below.refl _ _⟩
                  case round =>
                    obtain ⟨i, hi, rfl, rfl, ht, hBi⟩ := hrel
                    by_cases hil : i < l.length
                    · have hii : (i : Int) < (l.length : Int) := by omega
                      obtain ⟨b2, o2, rfl, hb2, q0, q1, q2, q3⟩ := callsAt_el (RowAt.below HP.out hBi) i hil
                      have hnx := all_next hil ht.out
                      have hst := fun h => all_stop hil h
                      have hcon := fun W => Try.refCall_any l[i] W
                      generalize l[i] = cc at *
                      obtain ⟨op, key, x, y⟩ := cc
                      dsimp only at q0 q1 q2 q3 hcon
                      have HNX := Lib.hid hnx
                      have HST := Lib.hid hst
                      have HCON := Lib.hid hcon
                      have HB1 := Lib.hid (hBi.alloc hBi.size (.cells #[.int .i64 op, .int .u64 key, .int .u64 x, .int .u64 y] 55))
                      clear hnx hst hcon ht hBi
                      have hCi : ((C + i : Nat) : Int) + 1 = ((C + (i + 1) : Nat) : Int) := by omega
                      have hCb : C + i ≤ 200000 := by omega
                      generalize isCallB ⟨op, key, x, y⟩ = r at *
                      generalize hD : C + i = D at *
                      generalize hD2 : C + (i + 1) = D2 at *
                      have HD2 := Lib.hid hD2
                      clear hD hD2
                      go_wp2_with fail
                      refine (HCON.out _).mono ?_
                      rintro e w2 ⟨rfl, B2⟩
                      have HB2 := Lib.hid (HB1.out.trans (B2.mono HB1.out.size))
                      clear B2 HB1 q0 q1 q2 q3
                      cases r with
                      | true =>
                        go_wp2_with fail
                        exact ⟨⟨i + 1, by omega, by go_num, by rw [HD2.out], HNX, HB2.out⟩, by simp [intOf]; omega⟩
                      | false =>
                        have HS := Lib.hid (HNO.out (HST.out rfl))
                        go_wp2_with fail
                        go_ret
                        exact ⟨by rw [HALL.out, HS.out]; rfl, HB.out.trans (HB2.out.mono HB.out.size)⟩
                    · obtain rfl : i = l.length := by omega
                      rw [List.take_length] at ht
                      have HB2 := Lib.hid (HB.out.trans (hBi.mono HB.out.size))
                      clear hBi
                      go_wp2_with fail
                      exact ⟨⟨k + 1, C + l.length, by omega, by go_num, rfl, Lib.hid HCS.out.symm, Lib.hid (HAS.out.trans ht.out), by omega, HB2.out⟩, by simp [intOf]; omega⟩
                · obtain rfl : k = ls.length := by omega
                  rw [List.take_length] at hC hA
                  have HB := Lib.hid hB
                  have HC := hC
                  have HA := hA
                  clear hB
                  go_wp2_with fail
                  go_ret
                  exact ⟨by rw [HALL.out, HA.out, Bool.true_and, ← HC.out]; rfl, HB.out⟩
          · have k5 : ((ls.length : Int) != g) = true := by simp [h5]
            have HN := Lib.hid (hno (by omega))
            clear hno h5
            go_enter Try.func14, Try.ntmps14
            go_wp2_with fail
            go_ret
            exact ⟨by rw [HN.out]; rfl, HB0.out⟩
end Go.Proofs

/- Script: the reference's Same. -/
namespace Go.Proofs
open Go.RowKit Go.Shelf
attribute [local go_sem] Oper.semAt_some

set_option maxRecDepth 100000 in
set_option maxHeartbeats 4000000 in
theorem Try.refSame_any (v1 v2 : Value) (s t : Scr) (hs : s.ok) (ht : t.ok) (w : World) (h1 : ScrAt w v1 s) (h2 : ScrAt w v2 t) :
    Calls Try.prog 16 #[v1, v2] w fun e w' => e = .returned (.bool (decide (s = t))) ∧ Below w.heap.size w w' := by
  obtain ⟨a1, c1, a2, c2, rfl, hl1, hp1⟩ := h1
  obtain ⟨a3, c3, a4, c4, rfl, hl2, hp2⟩ := h2
  have hne := @scr_ne s t
  have HK := Lib.hid hs
  have HK2 := Lib.hid ht
  obtain ⟨g1, b1, d1, ls1, ps1⟩ := s
  obtain ⟨g2, b2, d2, ls2, ps2⟩ := t
  dsimp only at hl1 hl2 hp1 hp2 hne ⊢
  have hls1 : ls1.length ≤ 10000 := hs.1
  have hls2 : ls2.length ≤ 10000 := ht.1
  have hps1 : ps1.length ≤ 10000 := hs.2.2
  have hps2 : ps2.length ≤ 10000 := ht.2.2
  have NE := Lib.hid hne
  have H1 := Lib.hid hl1
  have H2 := Lib.hid hl2
  have P1 := Lib.hid hp1
  have P2 := Lib.hid hp2
  have B0 := Lib.hid (((Below.refl w.heap.size w).alloc (Nat.le_refl _) (.cells #[.int .i64 g1, .int .i64 b1, .int .u64 d1, .slice a1 ls1.length c1, .slice a2 ps1.length c2] 26)).alloc (by simp) (.cells #[.int .i64 g2, .int .i64 b2, .int .u64 d2, .slice a3 ls2.length c3, .slice a4 ps2.length c4] 26))
  clear hl1 hl2 hp1 hp2 hs ht hne
  by_cases e1 : g1 = g2
  · have k1 : (g1 != g2) = false := by simp [e1]
    by_cases e2 : b1 = b2
    · have k2 : (b1 != b2) = false := by simp [e2]
      by_cases e3 : d1 = d2
      · have k3 : (d1 != d2) = false := by simp [e3]
        by_cases e4 : (ls1.length : Int) = (ls2.length : Int)
        · have k4 : ((ls1.length : Int) != (ls2.length : Int)) = false := by simp [e4]
          by_cases e5 : (ps1.length : Int) = (ps2.length : Int)
          · have k5 : ((ps1.length : Int) != (ps2.length : Int)) = false := by simp [e5]
            have hl : ls1.length = ls2.length := by omega
            have hp : ps1.length = ps2.length := by omega
            have hfin : ls1 = ls2 → ps1 = ps2 → decide ((⟨g1, b1, d1, ls1, ps1⟩ : Scr) = ⟨g2, b2, d2, ls2, ps2⟩) = true := fun q4 q5 => by simp [e1, e2, e3, q4, q5]
            have FIN := Lib.hid hfin
            have HL := Lib.hid hl
            have HP := Lib.hid hp
            clear hfin e1 e2 e3 e4 e5 hl hp
            go_enter Try.func16, Try.ntmps16
            go_wp2_with fail
            have r0 := (Rows8.new w 26 #[.int .i64 g1, .int .i64 b1, .int .u64 d1, .slice a1 ls1.length c1, .slice a2 ps1.length c2]).alloc (.cells #[.int .i64 g2, .int .i64 b2, .int .u64 d2, .slice a3 ls2.length c3, .slice a4 ps2.length c4] 26)
            have r1 := rows_new2 w (.cells #[.int .i64 g1, .int .i64 b1, .int .u64 d1, .slice a1 ls1.length c1, .slice a2 ps1.length c2] 26) 26 #[.int .i64 g2, .int .i64 b2, .int .u64 d2, .slice a3 ls2.length c3, .slice a4 ps2.length c4]
            generalize (w.alloc (.cells #[.int .i64 g1, .int .i64 b1, .int .u64 d1, .slice a1 ls1.length c1, .slice a2 ps1.length c2] 26)).alloc (.cells #[.int .i64 g2, .int .i64 b2, .int .u64 d2, .slice a3 ls2.length c3, .slice a4 ps2.length c4] 26) = w0 at *
            have R0 := Lib.hid r0
            have R1 := Lib.hid r1
            clear r0 r1
            go_loopw [5, 51] (fun _ j wr => ∃ k : Nat, k ≤ ls1.length ∧ j = .int .i64 k ∧ Hid (ls1.take k = ls2.take k) ∧ Below w0.heap.size w0 wr) (fun _ j _ => ls1.length - (intOf j).toNat)
            case atStart => exact ⟨0, Nat.zero_le _, rfl, Lib.hid rfl, Below.refl _ _⟩
            case round =>
              obtain ⟨k, hk, rfl, hT, hB⟩ := hrel
              have s1 := R1.out.below hB R1.out.lt
              have x3 := s1.cell 3
              simp at x3
              by_cases hlt : k < ls1.length
              · have hki : (k : Int) < (ls1.length : Int) := by omega
                have hky : k < ls2.length := by rw [← HL.out]; exact hlt
                have hki2 : (k : Int) < (ls2.length : Int) := by omega
                obtain ⟨m1, o1, f1, q1, rfl, hm1, y0, hy⟩ := listsAt_get ((H1.out.below B0.out).below hB) k hlt
                obtain ⟨m2, o2, f2, qcap, rfl, hm2, z0, hz⟩ := listsAt_get ((H2.out.below B0.out).below hB) k hky
                have hb1 := HK.out.2.1 ls1[k] (List.getElem_mem hlt)
                have hb2 := HK2.out.2.1 ls2[k] (List.getElem_mem hky)
                have hnx := fun he => take_eq_nextL hT.out hlt hky he
                have hno := fun (he : ¬ ls1[k] = ls2[k]) => NE.out (fun h => he (by have := h.2.2.2.1; subst this; rfl))
                generalize ls1[k] = l at *
                generalize ls2[k] = m at *
                have HNX := Lib.hid hnx
                have HNO := Lib.hid hno
                have HY := Lib.hid hy
                have HZ := Lib.hid hz
                clear hnx hno hy hz hT s1
                by_cases hlm : l.length = m.length
                · have k6 : ((l.length : Int) != (m.length : Int)) = false := by simp [hlm]
                  have HLM := Lib.hid hlm
                  have HB := Lib.hid hB
                  have HX3 := Lib.hid x3
                  clear hlm hB
                  go_wp2_with fail
                  have Z0 := Lib.hid z0
                  clear x3 y0 z0 HX3
                  rename World => wi
                  go_loopw [7, 67] (fun _ j wr => ∃ i : Nat, i ≤ l.length ∧ j = .int .i64 i ∧ Hid (l.take i = m.take i) ∧ Below wi.heap.size wi wr) (fun _ j _ => l.length - (intOf j).toNat)
                  case atStart => exact ⟨0, Nat.zero_le _, rfl, Lib.hid rfl, Below.refl _ _⟩
                  case round =>
                    obtain ⟨i, hi, rfl, hU, hBi⟩ := hrel
                    by_cases hil : i < l.length
                    · have hii : (i : Int) < (l.length : Int) := by omega
                      have him : i < m.length := by rw [← HLM.out]; exact hil
                      have hii2 : (i : Int) < (m.length : Int) := by omega
                      obtain ⟨b5, o5, rfl, hb5, p0, p1, p2, p3⟩ := callsAt_el (RowAt.below HY.out hBi) i hil
                      have hmx : Try.prog.follows .mixedOrders = true := by kernel_rfl
                      have hun := fun he => take_eq_nextC hU.out hil him he
                      have hbad := fun (he : ¬ l[i] = m[i]) => HNO.out (fun e => he (by subst e; rfl))
                      have hzz := fun (W' : World) (h : Below wi.heap.size wi W') => callsAt_el (RowAt.below HZ.out h) i him
                      generalize hx1 : l[i] = cx at *
                      generalize hy1 : m[i] = cy at *
                      clear hx1 hy1
                      obtain ⟨x0, x1, x2, x3⟩ := cx
                      obtain ⟨y0, y1, y2, y3⟩ := cy
                      dsimp only at p0 p1 p2 p3 hzz
                      have HUN := Lib.hid hun
                      have HBAD := Lib.hid hbad
                      have HZZ := Lib.hid hzz
                      have HBI := Lib.hid hBi
                      clear hun hbad hzz hBi hU
                      go_wp2_with fail
                      obtain ⟨W1, hW1⟩ : ∃ W1, W1 = wr.alloc (.cells #[.int .i64 x0, .int .u64 x1, .int .u64 x2, .int .u64 x3] 55) := ⟨_, rfl⟩
                      have r5 : Rows8 W1 wr.heap.size 55 #[.int .i64 x0, .int .u64 x1, .int .u64 x2, .int .u64 x3] := by rw [hW1]; exact Rows8.new wr _ _
                      have hB1 : Below wi.heap.size wi W1 := by rw [hW1]; exact HBI.out.alloc HBI.out.size _
                      rw [← hW1]
                      clear hW1 p0 p1 p2 p3
                      obtain ⟨b6, o6, rfl, hb6, q0, q1, q2, q3⟩ := HZZ.out W1 hB1
                      have z0' : W1.cell? ⟨m2, o2 + k, none⟩ = some (.slice (some ⟨b6, o6, none⟩) m.length qcap) := (hB1.cell (p := ⟨m2, o2 + k, none⟩) hm2).trans Z0.out
                      have x3' : W1.cell? ⟨w.heap.size + 1, 3, none⟩ = some (.slice (some ⟨m2, o2, none⟩) ls2.length c3) := ((R1.out.below HB.out R1.out.lt).below hB1 ((R1.out.below HB.out R1.out.lt).lt)).cell 3
                      have t0 : W1.cell? ⟨wr.heap.size, 0, none⟩ = some (.int .i64 x0) := r5.cell 0
                      have t1 : W1.cell? ⟨wr.heap.size, 1, none⟩ = some (.int .u64 x1) := r5.cell 1
                      have t2 : W1.cell? ⟨wr.heap.size, 2, none⟩ = some (.int .u64 x2) := r5.cell 2
                      have t3 : W1.cell? ⟨wr.heap.size, 3, none⟩ = some (.int .u64 x3) := r5.cell 3
                      have HB1 := Lib.hid hB1
                      clear hB1 r5 HBI HZZ
                      have hne : (x0 = y0 ∧ x1 = y1 ∧ x2 = y2 ∧ x3 = y3) ∨ x0 ≠ y0 ∨ (x0 = y0 ∧ x1 ≠ y1) ∨ (x0 = y0 ∧ x1 = y1 ∧ x2 ≠ y2) ∨ (x0 = y0 ∧ x1 = y1 ∧ x2 = y2 ∧ x3 ≠ y3) := by omega
                      rcases hne with ⟨rfl, rfl, rfl, rfl⟩ | h | ⟨rfl, h⟩ | ⟨rfl, rfl, h⟩ | ⟨rfl, rfl, rfl, h⟩
                      · have d0 : (x0 == x0) = true := by simp
                        have d1 : (x1 == x1) = true := by simp
                        have d2 : (x2 == x2) = true := by simp
                        have d3 : (x3 == x3) = true := by simp
                        have c0' : (x0 != x0) = false := by simp
                        have c1' : (x1 != x1) = false := by simp
                        have c2' : (x2 != x2) = false := by simp
                        have c3' : (x3 != x3) = false := by simp
                        have HN := Lib.hid (HUN.out rfl)
                        clear HUN HBAD
                        refine wp_region_still_lit hmx (by kernel_rfl) ?_
                        repeat still_step
                        refine wpStill_nil ?_
                        go_wp2
                        exact ⟨⟨i + 1, by omega, by go_num, HN, HB1.out.drew⟩, by simp [intOf]; omega⟩
                      · have HQ := Lib.hid (HBAD.out (fun e => h (by injection e)))
                        have d0 : (x0 == y0) = false := by simp [h]
                        have c0' : (x0 != y0) = true := by simp [h]
                        clear HUN HBAD h
                        refine wp_region_still_lit hmx (by kernel_rfl) ?_
                        repeat still_step
                        refine wpStill_nil ?_
                        go_wp2
                        go_ret
                        exact ⟨by rw [HQ.out]; rfl, B0.out.trans (((HB.out.trans (HB1.out.mono HB.out.size)).drew).mono B0.out.size)⟩
                      · have HQ := Lib.hid (HBAD.out (fun e => h (by injection e)))
                        have d0 : (x0 == x0) = true := by simp
                        have c0' : (x0 != x0) = false := by simp
                        have d1 : (x1 == y1) = false := by simp [h]
                        have c1' : (x1 != y1) = true := by simp [h]
                        clear HUN HBAD h
                        refine wp_region_still_lit hmx (by kernel_rfl) ?_
                        repeat still_step
                        refine wpStill_nil ?_
                        go_wp2
                        go_ret
                        exact ⟨by rw [HQ.out]; rfl, B0.out.trans (((HB.out.trans (HB1.out.mono HB.out.size)).drew).mono B0.out.size)⟩
                      · have HQ := Lib.hid (HBAD.out (fun e => h (by injection e)))
                        have d0 : (x0 == x0) = true := by simp
                        have c0' : (x0 != x0) = false := by simp
                        have d1 : (x1 == x1) = true := by simp
                        have c1' : (x1 != x1) = false := by simp
                        have d2 : (x2 == y2) = false := by simp [h]
                        have c2' : (x2 != y2) = true := by simp [h]
                        clear HUN HBAD h
                        refine wp_region_still_lit hmx (by kernel_rfl) ?_
                        repeat still_step
                        refine wpStill_nil ?_
                        go_wp2
                        go_ret
                        exact ⟨by rw [HQ.out]; rfl, B0.out.trans (((HB.out.trans (HB1.out.mono HB.out.size)).drew).mono B0.out.size)⟩
                      · have HQ := Lib.hid (HBAD.out (fun e => h (by injection e)))
                        have d0 : (x0 == x0) = true := by simp
                        have c0' : (x0 != x0) = false := by simp
                        have d1 : (x1 == x1) = true := by simp
                        have c1' : (x1 != x1) = false := by simp
                        have d2 : (x2 == x2) = true := by simp
                        have c2' : (x2 != x2) = false := by simp
                        have d3 : (x3 == y3) = false := by simp [h]
                        have c3' : (x3 != y3) = true := by simp [h]
                        clear HUN HBAD h
                        refine wp_region_still_lit hmx (by kernel_rfl) ?_
                        repeat still_step
                        refine wpStill_nil ?_
                        go_wp2
                        go_ret
                        exact ⟨by rw [HQ.out]; rfl, B0.out.trans (((HB.out.trans (HB1.out.mono HB.out.size)).drew).mono B0.out.size)⟩
                    · obtain rfl : i = l.length := by omega
                      have heq : l = m := by
                        have := hU.out
                        rw [List.take_length, List.take_of_length_le (by rw [HLM.out]; exact Nat.le_refl _)] at this
                        exact this
                      have HN := Lib.hid (HNX.out heq)
                      have HB2 := Lib.hid (HB.out.trans (hBi.mono HB.out.size))
                      clear heq hU hBi
                      go_wp2_with fail
                      exact ⟨⟨k + 1, by omega, by go_num, HN, HB2.out⟩, by simp [intOf]; omega⟩
                · have k6 : ((l.length : Int) != (m.length : Int)) = true := by simp; omega
                  have HQ := Lib.hid (HNO.out (fun e => hlm (by rw [e])))
                  have HB := Lib.hid hB
                  clear hlm hB
                  go_wp2_with fail
                  go_ret
                  exact ⟨by rw [HQ.out]; rfl, B0.out.trans (HB.out.mono B0.out.size)⟩
              · obtain rfl : k = ls1.length := by omega
                have hle : ls1 = ls2 := by
                  have := hT.out
                  rw [List.take_length, List.take_of_length_le (by rw [HL.out]; exact Nat.le_refl _)] at this
                  exact this
                have x14 : wr.cell? ⟨w.heap.size, 4, none⟩ = some (.slice a2 ps1.length c2) := (R0.out.below hB R0.out.lt).cell 4
                have HLE := Lib.hid hle
                have HB := Lib.hid hB
                clear hle hT s1 x3 hB
                go_wp2_with fail
                clear x14
                rename World => wi
                go_loopw [9, 87] (fun _ j wr => ∃ i : Nat, i ≤ ps1.length ∧ j = .int .i64 i ∧ Hid (ps1.take i = ps2.take i) ∧ Below wi.heap.size wi wr) (fun _ j _ => ps1.length - (intOf j).toNat)
                case atStart => exact ⟨0, Nat.zero_le _, rfl, Lib.hid rfl, Below.refl _ _⟩
                case round =>
                  obtain ⟨i, hi, rfl, hU, hBi⟩ := hrel
                  by_cases hil : i < ps1.length
                  · have hii : (i : Int) < (ps1.length : Int) := by omega
                    have him : i < ps2.length := by rw [← HP.out]; exact hil
                    have hii2 : (i : Int) < (ps2.length : Int) := by omega
                    have hB2 := HB.out.trans (hBi.mono HB.out.size)
                    obtain ⟨b5, o5, rfl, hb5, p0⟩ := wordsAt_get ((RowAt.below (RowAt.below P1.out B0.out) hB2)) i hil
                    obtain ⟨b6, o6, rfl, hb6, q0⟩ := wordsAt_get ((RowAt.below (RowAt.below P2.out B0.out) hB2)) i him
                    have x34 : wr.cell? ⟨w.heap.size + 1, 4, none⟩ = some (.slice (some ⟨b6, o6, none⟩) ps2.length c4) := (R1.out.below hB2 R1.out.lt).cell 4
                    have hun := fun he => take_eq_next hU.out hil him he
                    have hbad := fun (he : ¬ ps1[i]?.getD 0 = ps2[i]?.getD 0) => NE.out (fun h => he (by have := h.2.2.2.2; subst this; rfl))
                    have HBI := Lib.hid hBi
                    have HUN := Lib.hid hun
                    have HBAD := Lib.hid hbad
                    clear hun hbad hU hBi hB2
                    generalize ps1[i]?.getD 0 = x at *
                    generalize ps2[i]?.getD 0 = y at *
                    by_cases hxy : x = y
                    · have k7 : (x != y) = false := by simp [hxy]
                      have HN := Lib.hid (HUN.out hxy)
                      clear hxy HUN HBAD
                      go_wp2_with fail
                      exact ⟨⟨i + 1, by omega, by go_num, HN, HBI.out⟩, by simp [intOf]; omega⟩
                    · have k7 : (x != y) = true := by simp [hxy]
                      have HQ := Lib.hid (HBAD.out hxy)
                      clear hxy HUN HBAD
                      go_wp2_with fail
                      go_ret
                      exact ⟨by rw [HQ.out]; rfl, B0.out.trans ((HB.out.trans (HBI.out.mono HB.out.size)).mono B0.out.size)⟩
                  · obtain rfl : i = ps1.length := by omega
                    have hpe : ps1 = ps2 := by
                      have := hU.out
                      rw [List.take_length, List.take_of_length_le (by rw [HP.out]; exact Nat.le_refl _)] at this
                      exact this
                    have HQ := Lib.hid (FIN.out HLE.out hpe)
                    have HBI := Lib.hid hBi
                    clear hpe hU hBi
                    go_wp2_with fail
                    go_ret
                    exact ⟨by rw [HQ.out]; rfl, B0.out.trans ((HB.out.trans (HBI.out.mono HB.out.size)).mono B0.out.size)⟩
          · have k5 : ((ps1.length : Int) != (ps2.length : Int)) = true := by simp [e5]
            have HQ := Lib.hid (NE.out fun h => e5 (by rw [h.2.2.2.2]))
            clear e1 e2 e3 e4 e5
            go_enter Try.func16, Try.ntmps16
            go_wp2_with fail
            go_ret
            exact ⟨by rw [HQ.out]; rfl, B0.out⟩
        · have k4 : ((ls1.length : Int) != (ls2.length : Int)) = true := by simp [e4]
          have HQ := Lib.hid (NE.out fun h => e4 (by rw [h.2.2.2.1]))
          clear e1 e2 e3 e4
          go_enter Try.func16, Try.ntmps16
          go_wp2_with fail
          go_ret
          exact ⟨by rw [HQ.out]; rfl, B0.out⟩
      · have k3 : (d1 != d2) = true := by simp [e3]
        have HQ := Lib.hid (NE.out fun h => e3 h.2.2.1)
        clear e1 e2 e3
        go_enter Try.func16, Try.ntmps16
        go_wp2_with fail
        go_ret
        exact ⟨by rw [HQ.out]; rfl, B0.out⟩
    · have k2 : (b1 != b2) = true := by simp [e2]
      have HQ := Lib.hid (NE.out fun h => e2 h.2.1)
      clear e1 e2
      go_enter Try.func16, Try.ntmps16
      go_wp2_with fail
      go_ret
      exact ⟨by rw [HQ.out]; rfl, B0.out⟩
  · have k1 : (g1 != g2) = true := by simp [e1]
    have HQ := Lib.hid (NE.out fun h => e1 h.1)
    clear e1
    go_enter Try.func16, Try.ntmps16
    go_wp2_with fail
    go_ret
    exact ⟨by rw [HQ.out]; rfl, B0.out⟩
end Go.Proofs

/- Script: listed. -/
namespace Go.Proofs
open Go.RowKit Go.Shelf
attribute [local go_sem] Oper.semAt_some

/-- The numbers of a call, and of a list. -/
def callNums (c : Cl4) : List Int := c.op :: [c.key, c.a, c.b].take (takesOf c.op).toNat
def listNums (l : List Cl4) : List Int := (l.length : Int) :: l.flatMap callNums
theorem arr_take {W : World} {B : Nat} {t : TypeId} {x y z : Int} (h : Rows8 W B t #[.int .u64 x, .int .u64 y, .int .u64 z]) (m : Nat) (hm : m ≤ 3) : RowAt W (.slice (some ⟨B, 0, none⟩) m 3) m 1 (wordVals ([x, y, z].take m)) := by
  have h0 : WordsAt W (.slice (some ⟨B, 0, none⟩) 3 3) [x, y, z] := arr_row h 0 (by decide)
  have e : wordVals ([x, y, z].take m) = (wordVals [x, y, z]).take m := by simp [wordVals, List.map_take]
  have := RowAt.cut h0 m hm
  rwa [Nat.mul_one, ← e] at this
theorem isCallB_takes {c : Cl4} (h : isCallB c = true) : ∃ t : Nat, takesOf c.op = t ∧ t ≤ 3 ∧ 1 ≤ c.op ∧ c.op ≤ 7 := by
  unfold isCallB at h
  rw [Bool.and_eq_true] at h
  have h0 := of_decide_eq_true h.1
  have hop : 1 ≤ c.op ∧ c.op ≤ 7 := by
    unfold takesOf at h0
    split at h0 <;> omega
  rcases takesOf_ways c.op with e | e | e | e | e
  · omega
  · exact ⟨0, e, by omega, hop⟩
  · exact ⟨1, e, by omega, hop⟩
  · exact ⟨2, e, by omega, hop⟩
  · exact ⟨3, e, by omega, hop⟩
theorem callNums_eq {c : Cl4} {t : Nat} (h : takesOf c.op = t) : callNums c = c.op :: [c.key, c.a, c.b].take t := by unfold callNums; rw [h]; rfl
theorem flat_snoc {l : List Cl4} {k : Nat} (h : k < l.length) : (l.take (k + 1)).flatMap callNums = (l.take k).flatMap callNums ++ callNums l[k] := by
  rw [List.take_succ_eq_append_getElem h, List.flatMap_append]
  simp
theorem callNums_le (c : Cl4) : (callNums c).length ≤ 4 := by unfold callNums; simp; omega
theorem flat_le : ∀ l : List Cl4, (l.flatMap callNums).length ≤ 4 * l.length := by
  intro l
  induction l with
  | nil => simp
  | cons c t ih =>
    rw [List.flatMap_cons, List.length_append, List.length_cons]
    have := callNums_le c
    omega
theorem wordVals_append (a b : List Int) : wordVals (a ++ b) = wordVals a ++ wordVals b := by simp [wordVals]

set_option maxRecDepth 100000 in
set_option maxHeartbeats 4000000 in
theorem Try.listed_any (a : Option Addr) (n c : Nat) (l : List Cl4) (hx : n = l.length) (hl : n ≤ 10000) (ha : l.all isCallB = true) (w : World) (h1 : CallsAt w (.slice a n c) l) :
    Calls Try.prog 61 #[.slice a n c] w (WordsQ (listNums l) w) := by
  obtain ⟨i0, hi, hz0, hz1, hz2_⟩ := info_parts Try.infoWord
  have H1 := Lib.hid h1
  have HX := Lib.hid hx
  have HA := Lib.hid (List.all_eq_true.1 ha)
  clear h1 hx ha
  have hwl : IntKind.u64.wrap (n : Int) = (n : Int) := by
    unfold IntKind.wrap
    simp [IntKind.bits, IntKind.signed]
    omega
  have hO0 : OwnsWords w.heap.size [(n : Int)] (.slice (some ⟨w.heap.size, 0, none⟩) 1 1) (w.alloc (.cells #[.int .u64 (n : Int)] 22)) := World.ownsRow_lit w #[.int .u64 (n : Int)] 1 (Nat.le_refl _) (by unfold maxLen; omega) rfl
  have HO0 := Lib.hid hO0
  have HB0 := Lib.hid ((Below.refl w.heap.size w).alloc (Nat.le_refl _) (.cells #[.int .u64 (n : Int)] 22))
  clear hO0
  go_enter Try.func61, Try.ntmps61
  go_wp2_with fail
  go_loopw [3, 13] (fun r j wr => ∃ k : Nat, k ≤ n ∧ j = .int .i64 k ∧ OwnsWords w.heap.size ((n : Int) :: (l.take k).flatMap callNums) r wr ∧ Below w.heap.size w wr) (fun _ j _ => n - (intOf j).toNat)
  case atStart => exact ⟨0, Nat.zero_le _, rfl, HO0.out, HB0.out⟩
  case round =>
    obtain ⟨k, hk, rfl, hO, hB⟩ := hrel
    by_cases hlt : k < n
    · have hkx : k < l.length := by rw [← HX.out]; exact hlt
      obtain ⟨b1, o1, rfl, hb1, p0, p1, p2, p3⟩ := callsAt_el (RowAt.below H1.out hB) k hkx
      have hki : (k : Int) < (n : Int) := by omega
      obtain ⟨t, ht, ht3, hop1, hop7⟩ := isCallB_takes (HA.out l[k] (List.getElem_mem hkx))
      have hsn := flat_snoc hkx
      rw [callNums_eq ht] at hsn
      have hle : ((l.take k).flatMap callNums).length ≤ 40000 := by
        have := flat_le (l.take k)
        rw [List.length_take] at this
        omega
      generalize l[k] = cc at *
      generalize (l.take k).flatMap callNums = pre at *
      obtain ⟨op, key, x, y⟩ := cc
      dsimp only at p0 p1 p2 p3 ht hop1 hop7 hsn
      have HT := Lib.hid fun W => Try.Takes_any op W
      rw [ht] at HT
      have HSN := Lib.hid hsn
      have HO := Lib.hid hO
      have HB := Lib.hid hB
      have hz := hB.size
      have hwop : IntKind.u64.wrap op = op := by
        unfold IntKind.wrap
        simp [IntKind.bits, IntKind.signed]
        omega
      have HB1 := Lib.hid ((Below.refl wr.heap.size wr).alloc (Nat.le_refl _) (.cells #[.int .i64 op, .int .u64 key, .int .u64 x, .int .u64 y] 55))
      clear hsn ht hO hB
      go_wp2_with fail
      refine (Try.words3_any op key x y _).mono ?_
      rintro e w2 ⟨rfl, B2⟩
      have rc := (Rows8.new wr 55 #[.int .i64 op, .int .u64 key, .int .u64 x, .int .u64 y]).below B2 (Rows8.new wr _ _).lt
      have rc3 := rc.alloc (.cells #[.int .u64 key, .int .u64 x, .int .u64 y] 80)
      have k0 : (w2.alloc (.cells #[.int .u64 key, .int .u64 x, .int .u64 y] 80)).cell? ⟨wr.heap.size, 0, none⟩ = some (.int .i64 op) := rc3.cell 0
      have HB2 := Lib.hid (HB1.out.trans (B2.mono HB1.out.size))
      have hO2 := World.ownsRow.alloc (World.ownsRow.alloc (owns_keep HO.out HB2.out (Nat.le_refl _)) (.cells #[.int .u64 key, .int .u64 x, .int .u64 y] 80)) (.cells #[.int .u64 op] 22)
      have HO2 := Lib.hid hO2
      have RC := Lib.hid (rc3.alloc (.cells #[.int .u64 op] 22))
      have RA := Lib.hid ((Rows8.new w2 80 #[.int .u64 key, .int .u64 x, .int .u64 y]).alloc (.cells #[.int .u64 op] 22))
      have hz2 := HB2.out.size
      have HN := Lib.hid (fun b (e : u3.ownBlock = some b) => (World.ownsRow.lt HO.out b e).2)
      have HB3 := Lib.hid (((HB.out.trans (HB2.out.mono hz)).alloc (by omega) (.cells #[.int .u64 key, .int .u64 x, .int .u64 y] 80)).alloc (by simp; omega) (.cells #[.int .u64 op] 22))
      clear p0 p1 p2 p3 B2 rc rc3 hO2 HO
      go_wp2_with (at_builtin; refine wpList_append_row _ rfl _ _ 24 rfl w.heap.size 22 i0 (.int .u64 0) 1 8 Try.underlying24 hi hz0 hz1 hz2_ rfl (by decide) _ _ _ rfl HO2.out _ 1 [.int .u64 op] rfl (rowAt_own (own1 (n₀ := 0) (rows_new2 w2 _ 22 #[.int .u64 op]) (Nat.zero_le _) rfl)) (by simp [Value.oneCell']) (by simp; unfold maxLen; omega) (by simp; omega) (by simp; omega) ?_)
      intro v4 w4 hown4 hg4 _
      have r5 : Rows8 w4 wr.heap.size 55 #[.int .i64 op, .int .u64 key, .int .u64 x, .int .u64 y] := (hg4.block wr.heap.size RC.out.lt (fun e => by have := HN.out _ e.symm; omega)).trans RC.out
      have r6 : Rows8 w4 w2.heap.size 80 #[.int .u64 key, .int .u64 x, .int .u64 y] := (hg4.block w2.heap.size RA.out.lt (fun e => by have := HN.out _ e.symm; omega)).trans RA.out
      have k4 : w4.cell? ⟨wr.heap.size, 0, none⟩ = some (.int .i64 op) := r5.cell 0
      have hO4 : OwnsWords w.heap.size ((n : Int) :: pre ++ [op]) v4 w4 := by
        unfold OwnsWords
        rw [wordVals_append, List.length_append]
        exact hown4
      have hB4 := HB3.out.grown hg4 (by simp; omega) (fun j ej => (World.ownsRow.lt HO2.out j ej).1)
      have HO4 := Lib.hid hO4
      have HB4 := Lib.hid hB4
      have R6 := Lib.hid (arr_take r6 t ht3)
      have hti : (t : Int) ≤ 3 := by omega
      have htj : ¬ (3 : Int) < (t : Int) := by omega
      have hz4 := hB4.size
      clear hown4 hg4 r5 r6 hO4 hB4 HO2 RC RA HN k0
      go_wp2_with fail
      refine (HT.out _).mono ?_
      rintro e w' ⟨rfl, rfl⟩
      go_wp2_with (at_builtin; refine wpList_append_row _ rfl _ _ 24 rfl w.heap.size 22 i0 (.int .u64 0) 1 8 Try.underlying24 hi hz0 hz1 hz2_ rfl (by decide) _ _ _ rfl HO4.out _ t (wordVals ([key, x, y].take t)) rfl R6.out (wordVals_one _) (by simp; unfold maxLen; omega) (by simp; omega) (by omega) ?_)
      intro v5 w5 hown5 hg5 _
      have hO5 : OwnsWords w.heap.size ((n : Int) :: (l.take (k + 1)).flatMap callNums) v5 w5 := by
        have hlt3 : ([key, x, y].take t).length = t := by rw [List.length_take]; simp; omega
        rw [HSN.out]
        unfold OwnsWords
        have e1 : (n : Int) :: (pre ++ op :: [key, x, y].take t) = ((n : Int) :: pre ++ [op]) ++ [key, x, y].take t := by simp
        have e2 : ((n : Int) :: pre ++ [op]).length = pre.length + 1 + 1 := by simp
        rw [e1, wordVals_append, List.length_append, hlt3, e2]
        exact hown5
      have hB5 := HB4.out.grown hg5 hz4 (fun j ej => (World.ownsRow.lt HO4.out j ej).1)
      have HO5 := Lib.hid hO5
      have HB5 := Lib.hid hB5
      clear hown5 hg5 hO5 hB5
      go_wp2_with fail
      exact ⟨⟨k + 1, by omega, by go_num, HO5.out, HB5.out⟩, by simp [intOf]; omega⟩
    · obtain rfl : k = n := by omega
      have htk : l.take k = l := List.take_of_length_le (by rw [← HX.out]; exact Nat.le_refl _)
      rw [htk] at hO
      have HO := Lib.hid hO
      have HB := Lib.hid hB
      clear hO hB htk
      go_wp2_with fail
      go_ret
      exact ⟨_, rfl, by unfold listNums; rw [← HX.out]; exact HO.out, HB.out⟩
end Go.Proofs
