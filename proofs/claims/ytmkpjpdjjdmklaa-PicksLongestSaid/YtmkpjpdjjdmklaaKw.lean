/- Arguments, opened: rows of turns, rows of rows, two numbers. -/
import Derived.Test.YtmkpjpdjjdmklaaKv
import Derived.Deep.SlicePairs
import Derived.ShutString
import Derived.ChangeOld
import Derived.Test.YtmkpjpdjjdmklaaRows
namespace Go.Proofs
open Go.ChangeShapes Go.WideShapes Go.RowKit Go.Shelf Go.Deep

theorem Try.sameSelf_any (ts : List Tn) (hl : ts.length ≤ 10000) (hb : ∀ t ∈ ts, t.can.length ≤ 10) (a1 a2 : Option Addr) (c1 c2 : Nat) (w : World) (h1 : TurnsAt w (.slice a1 ts.length c1) ts) (h2 : TurnsAt w (.slice a2 ts.length c2) ts) :
    Calls Try.prog 28 #[.slice a1 ts.length c1, .slice a2 ts.length c2] w fun e w' => e = .returned (.bool true) ∧ Below w.heap.size w w' :=
  (Try.same_any a1 a2 ts.length ts.length c1 c2 ts ts hl hl (fun t h => by have := hb t h; omega) (fun t h => by have := hb t h; omega) w h1 h2).mono fun e w' ⟨he, hB⟩ => ⟨by rw [he]; simp, hB⟩
theorem cellsTurn : Try.prog.cellsOf 47 = 2 := by kernel_rfl
theorem cellsRow : Try.prog.cellsOf 22 = 1 := by kernel_rfl
theorem cellsPair : Try.prog.cellsOf 49 = 2 := by kernel_rfl
/-- A row's value is a slice. -/
theorem open_intVal {H : Type} {enc : TypeId × Value → H} {W : World} {base : Nat} {sp : Nat → Bool} {held : Bool} {fuel : Nat} {v : Value} {x : DataW H × List MemPlace}
    (h : DataW.trod enc Try.prog W base sp held fuel 22 [v] = some x) : ∃ a c, ∃ l : List Int, v = .slice a l.length c ∧ IntsAt W (.slice a l.length c) l := by
  have hv : ∃ a n c, v = .slice a n c := by
    rcases open_slice Try.underlying22 h with ⟨hcs, _⟩ | ⟨ad, len', cap', m, n, D, Pl, hcs, _⟩
    · simp at hcs
      exact ⟨_, _, _, hcs⟩
    · simp at hcs
      exact ⟨_, _, _, hcs⟩
  obtain ⟨a, n, c, rfl⟩ := hv
  obtain ⟨l, rfl, hl⟩ := open_intRow h
  exact ⟨a, c, l, rfl, hl⟩
theorem addr_form {W : World} {ad : Addr} {v : Value} (h : W.cell? ad = some v) : ∃ b off, ad = ⟨b, off, none⟩ ∧ b < W.heap.size := by
  obtain ⟨b, off, spot⟩ := ad
  have hspot : spot = none := World.cell?_spot h
  subst hspot
  refine ⟨b, off, rfl, ?_⟩
  rcases Nat.lt_or_ge b W.heap.size with hq | hq
  · exact hq
  · simp [World.cell?, Array.getElem?_eq_none hq] at h
theorem add_plain (b off j : Nat) : (⟨b, off, none⟩ : Addr).add j = ⟨b, off + j, none⟩ := by unfold Addr.add; split <;> simp_all

set_option maxRecDepth 100000 in
/-- A row of turns that came in, opened. -/
theorem open_turns {H : Type} {enc : TypeId × Value → H} {W : World} {base : Nat} {sp : Nat → Bool} {held : Bool} {fuel : Nat} {a : Option Addr} {len cap : Nat} {x : DataW H × List MemPlace}
    (h : DataW.trod enc Try.prog W base sp held fuel 32 [.slice a len cap] = some x) : ∃ l : List Tn, len = l.length ∧ TurnsAt W (.slice a len cap) l := by
  rcases open_slice_pairs Try.underlying32 Try.underlying47 cellsTurn rfl rfl cellsRow cellsI h with ⟨hcs, _⟩ | ⟨ad, len', cap', m, n, V0, V1, D0, D1, P0, P1, hcs, hb, hl, hm, hmm, _, hx⟩
  · simp at hcs
    obtain ⟨rfl, rfl, rfl⟩ := hcs
    exact ⟨[], rfl, turns_none none 0 (fun _ => rfl) (Nat.zero_le _)⟩
  · simp at hcs
    obtain ⟨rfl, rfl, rfl⟩ := hcs
    have hlm : len ≤ m := by rw [hmm]; split <;> omega
    have each : ∀ i, i < m → ∃ q : Tn, ∃ a' c', W.cell? (ad.add (i * 2)) = some (.slice a' q.can.length c') ∧ W.cell? (ad.add (i * 2 + 1)) = some (.int .i64 q.ch) ∧ IntsAt W (.slice a' q.can.length c') q.can := by
      intro i hi
      obtain ⟨h1, h2, h3, h4⟩ := hx i hi
      obtain ⟨a', c', l, e, hl⟩ := open_intVal h3
      obtain ⟨z, e2, _⟩ := DataW.trod_int Try.underlying3 h4
      simp at e2
      exact ⟨⟨l, z⟩, a', c', by rw [h1, e], by rw [h2, e2], hl⟩
    obtain ⟨q, hq⟩ := choose_lt each
    have hll : ((List.range len).map q).length = len := by simp
    refine ⟨(List.range len).map q, hll.symm, ?_⟩
    have hval : ∀ i, i < m → ∃ u : Value × Value, W.cell? (ad.add (i * 2)) = some u.1 ∧ W.cell? (ad.add (i * 2 + 1)) = some u.2 ∧ ∃ a' c', u.1 = .slice a' (q i).can.length c' ∧ u.2 = .int .i64 (q i).ch ∧ IntsAt W (.slice a' (q i).can.length c') (q i).can := by
      intro i hi
      obtain ⟨a', c', h1, h2, h3⟩ := hq i hi
      exact ⟨(_, _), h1, h2, a', c', rfl, rfl, h3⟩
    haveI : Inhabited (Value × Value) := ⟨(undef, undef)⟩
    obtain ⟨u, hu⟩ := choose_lt hval
    have hfl := flat_length (fun k : Nat => [(u k).1, (u k).2]) 2 (fun _ => rfl) (List.range len)
    have hfg := fun i r (hi : i < len) (hr : r < 2) => flat_get (fun k : Nat => [(u k).1, (u k).2]) 2 (fun _ => rfl) (List.range len) i r (by rw [List.length_range]; exact hi) hr
    rw [List.length_range] at hfl
    refine ⟨(List.range len).flatMap fun k => [(u k).1, (u k).2], ⟨by rw [hfl, hll], some ad, cap, by rw [hll], by rw [hll]; exact hl, hm, (fun e => by cases e), fun j hj => ?_⟩, fun i hi => ?_⟩
    · rw [hfl] at hj
      have hi : j / 2 < len := by omega
      have hr : j % 2 < 2 := Nat.mod_lt _ (by decide)
      obtain ⟨h1, h2, _⟩ := hu (j / 2) (by omega)
      obtain ⟨b, off, rfl, hb'⟩ : ∃ b off, ad = ⟨b, off, none⟩ ∧ b < W.heap.size := by
        have h0 := (hu 0 (by omega)).1
        obtain ⟨b, off, e, hb'⟩ := addr_form h0
        cases ad with
        | mk b0 o0 s0 =>
          have hs : s0 = none := by
            have := World.cell?_spot h0
            simpa [Addr.add] using this
          subst hs
          rw [add_plain] at e
          cases e
          exact ⟨_, o0, rfl, hb'⟩
      refine ⟨b, off, rfl, hb', ?_⟩
      have hg := hfg (j / 2) (j % 2) hi hr
      rw [show j / 2 * 2 + j % 2 = j by omega] at hg
      rw [hg]
      simp only [List.getElem_range]
      rw [add_plain] at h1 h2
      rcases (by omega : j % 2 = 0 ∨ j % 2 = 1) with e | e
      · rw [e, show off + j = off + j / 2 * 2 by omega]
        exact h1
      · rw [e, show off + j = off + (j / 2 * 2 + 1) by omega]
        exact h2
    · rw [hll] at hi
      obtain ⟨_, _, a', c', e1, e2, h3⟩ := hu i (by omega)
      have g0 := hfg i 0 hi (by decide)
      have g1 := hfg i 1 hi (by decide)
      simp only [List.getElem_range] at g0 g1
      rw [Nat.add_zero] at g0
      have eg : ((List.range len).map q)[i]'(by rw [hll]; exact hi) = q i := by simp
      rw [eg]
      exact ⟨a', c', by rw [g0]; simp [e1], by rw [g1]; simp [e2], h3⟩

/-- A row of rows that came in. -/
def RowsAt (W : World) (v : Value) (ls : List (List Int)) : Prop := ∃ vs : List Value, RowAt W v ls.length 1 vs ∧ ∀ i (h : i < ls.length), ∃ a cap, vs[i]? = some (.slice a ls[i].length cap) ∧ IntsAt W (.slice a ls[i].length cap) ls[i]
theorem RowsAt.below {W W' : World} {v : Value} {ls : List (List Int)} (h : RowsAt W v ls) (hB : Below W.heap.size W W') : RowsAt W' v ls := by
  obtain ⟨vs, h1, h2⟩ := h
  exact ⟨vs, RowAt.below h1 hB, fun i hi => by obtain ⟨a, cap, e, hc⟩ := h2 i hi; exact ⟨a, cap, e, RowAt.below hc hB⟩⟩
theorem rowsAt_get {W : World} {x : Option Addr} {n cap : Nat} {ls : List (List Int)} (h : RowsAt W (.slice x n cap) ls) (j : Nat) (hj : j < ls.length) :
    ∃ b off a c, x = some ⟨b, off, none⟩ ∧ b < W.heap.size ∧ W.cell? ⟨b, off + j, none⟩ = some (.slice a ls[j].length c) ∧ IntsAt W (.slice a ls[j].length c) ls[j] := by
  obtain ⟨vs, h1, h2⟩ := h
  obtain ⟨a, c, e, hc⟩ := h2 j hj
  obtain ⟨h0, a', cap', e', _, _, _, h4⟩ := h1
  cases e'
  obtain ⟨b, off, ex, hb, h5⟩ := h4 j (by omega)
  exact ⟨b, off, a, c, ex, hb, h5.trans e, hc⟩
set_option maxRecDepth 100000 in
theorem open_rows {H : Type} {enc : TypeId × Value → H} {W : World} {base : Nat} {sp : Nat → Bool} {held : Bool} {fuel : Nat} {a : Option Addr} {len cap : Nat} {x : DataW H × List MemPlace}
    (h : DataW.trod enc Try.prog W base sp held fuel 44 [.slice a len cap] = some x) : ∃ l : List (List Int), len = l.length ∧ RowsAt W (.slice a len cap) l := by
  rcases open_slice1 Try.underlying44 cellsRow h with ⟨hcs, _⟩ | ⟨ad, len', cap', m, n, V, D, Pl, hcs, hb, hl, hm, hmm, _, hx⟩
  · simp at hcs
    obtain ⟨rfl, rfl, rfl⟩ := hcs
    exact ⟨[], rfl, ⟨[], ⟨rfl, none, 0, rfl, Nat.le_refl _, Nat.zero_le _, fun _ => rfl, fun _ hj => absurd hj (Nat.not_lt_zero _)⟩, fun _ hi => absurd hi (Nat.not_lt_zero _)⟩⟩
  · simp at hcs
    obtain ⟨rfl, rfl, rfl⟩ := hcs
    have hlm : len ≤ m := by rw [hmm]; split <;> omega
    have each : ∀ i, i < m → ∃ q : List Int, W.cell? (ad.add i) = some (V i) ∧ ∃ a' c', V i = .slice a' q.length c' ∧ IntsAt W (.slice a' q.length c') q := by
      intro i hi
      obtain ⟨h1, h2⟩ := hx i hi
      obtain ⟨a', c', l, e, hl⟩ := open_intVal h2
      exact ⟨l, h1, a', c', e, hl⟩
    obtain ⟨q, hq⟩ := choose_lt each
    have hll : ((List.range len).map q).length = len := by simp
    refine ⟨(List.range len).map q, hll.symm, (List.range len).map V, ⟨by simp, some ad, cap, by rw [hll], by rw [hll]; exact hl, hm, (fun e => by cases e), fun j hj => ?_⟩, fun i hi => ?_⟩
    · simp at hj
      have h0 := (hq j (by omega)).1
      obtain ⟨b, off, e, hb'⟩ := addr_form h0
      cases ad with
      | mk b0 o0 s0 =>
        have hs : s0 = none := by
          have := World.cell?_spot (hq 0 (by omega)).1
          simpa [Addr.add] using this
        subst hs
        rw [add_plain] at e h0
        cases e
        exact ⟨_, o0, rfl, hb', by rw [h0]; simp [hj]⟩
    · rw [hll] at hi
      obtain ⟨_, a', c', e, h3⟩ := hq i (by omega)
      have eg : ((List.range len).map q)[i]'(by rw [hll]; exact hi) = q i := by simp
      rw [eg]
      exact ⟨a', c', by simp [hi, e], h3⟩
/-- Two numbers, opened. -/
theorem open_pair {H : Type} {enc : TypeId × Value → H} {W : World} {r : Reach} {b0 base : Nat} {sp : Nat → Bool} {held : Bool} {v : Value} {d : DataW H} {p : List MemPlace}
    (hv : Value.okWide Try.prog W r b0 49 v) (h : DataW.Trod enc Try.prog W base sp held 49 v d p) :
    ∃ a b : Int, v = .agg #[.int .i64 a, .int .i64 b] ∧ (Lit.int .i64 a).wf = true ∧ (Lit.int .i64 b).wf = true := by
  obtain ⟨ys, rfl, hys⟩ : ∃ ys : Array Value, v = .agg ys ∧ ys.size = 2 := by
    simp only [Value.okWide, Try.underlying49] at hv
    obtain ⟨cs, h1, h2, _⟩ := hv
    exact ⟨cs, h1, by rw [h2, cellsPair]⟩
  obtain ⟨fuel, hf⟩ := h
  obtain ⟨xs, m, rfl, hx, hlen, hxl, hel⟩ := DataW.trod_array Try.underlying49 hf
  obtain ⟨y0, y1, rfl⟩ : ∃ y0 y1, ys = #[y0, y1] := by
    obtain ⟨l⟩ := ys
    match l, hys with
    | [y0, y1], _ => exact ⟨y0, y1, rfl⟩
  obtain ⟨x0, x1, rfl⟩ : ∃ x0 x1, xs = [x0, x1] := by
    match xs, hxl with
    | [x0, x1], _ => exact ⟨x0, x1, rfl⟩
  have e0 := hel 0 (by decide)
  have e1 := hel 1 (by decide)
  rw [cellsI] at e0 e1
  obtain ⟨a, ha, _, wa⟩ := DataW.trod_int Try.underlying3 e0
  obtain ⟨b, hb, _, wb⟩ := DataW.trod_int Try.underlying3 e1
  simp [Value.cells] at ha hb
  subst ha hb
  exact ⟨a, b, rfl, wa, wb⟩
end Go.Proofs
