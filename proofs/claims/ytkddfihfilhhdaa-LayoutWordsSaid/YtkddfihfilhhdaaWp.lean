/- Layout: arguments, opened. -/
import Derived.Test.YtkddfihfilhhdaaWo
import Derived.ProofKit
import Derived.ChangeAt
import Derived.JoinedAt
import Derived.LaidMore
import Derived.Lay
import Derived.ShutString
import Derived.ChangeOld
import Derived.Below
import Derived.Test.YtkddfihfilhhdaaRows
namespace Go.Proofs
set_option maxRecDepth 100000
open Go.ChangeShapes Go.WideShapes Go.RowKit Go.Shelf Go.Deep

theorem cellsEn : Try.prog.cellsOf 36 = 2 := by kernel_rfl
theorem w64 {z : Int} (h : (Lit.int .u64 z).wf = true) : 0 ≤ z ∧ z < 18446744073709551616 := by
  simp [Lit.wf] at h
  have h1 : IntKind.u64.min = 0 := rfl
  have h2 : IntKind.u64.max = 18446744073709551615 := rfl
  omega
theorem addr_form {W : World} {ad : Addr} {v : Value} (h : W.cell? ad = some v) : ∃ b off, ad = ⟨b, off, none⟩ ∧ b < W.heap.size := by
  obtain ⟨b, off, spot⟩ := ad
  have hspot : spot = none := World.cell?_spot h
  subst hspot
  refine ⟨b, off, rfl, ?_⟩
  rcases Nat.lt_or_ge b W.heap.size with hq | hq
  · exact hq
  · simp [World.cell?, Array.getElem?_eq_none hq] at h
theorem add_plain (b off j : Nat) : (⟨b, off, none⟩ : Addr).add j = ⟨b, off + j, none⟩ := by unfold Addr.add; split <;> simp_all
def q2Cells (x : Int × Int) : List Value := [.int .i64 x.1, .int .i64 x.2]
def q2Vals (l : List (Int × Int)) : List Value := l.flatMap q2Cells
theorem q2Vals_length (l : List (Int × Int)) : (q2Vals l).length = l.length * 2 := flat_length q2Cells 2 (fun _ => rfl) l
def Q2At (W : World) (v : Value) (l : List (Int × Int)) : Prop := RowAt W v l.length 2 (q2Vals l)
theorem q2At_len {W : World} {x : Option Addr} {n cap : Nat} {l : List (Int × Int)} (h : Q2At W (.slice x n cap) l) : n = l.length ∧ n ≤ cap ∧ cap ≤ maxLen := by
  obtain ⟨h0, a, c, e, h1, h2, _⟩ := h
  cases e
  exact ⟨rfl, h1, h2⟩
theorem q2At_get {W : World} {x : Option Addr} {n cap : Nat} {l : List (Int × Int)} (h : Q2At W (.slice x n cap) l) (j : Nat) (hj : j < l.length) :
    ∃ b off, x = some ⟨b, off, none⟩ ∧ b < W.heap.size ∧ W.cell? ⟨b, off + j * 2, none⟩ = some (.int .i64 l[j].1) ∧ W.cell? ⟨b, off + j * 2 + 1, none⟩ = some (.int .i64 l[j].2) := by
  obtain ⟨h0, a, cap', e, _, _, _, hc⟩ := h
  cases e
  have hl := q2Vals_length l
  obtain ⟨b, off, e, hb, h0⟩ := hc (j * 2) (by omega)
  have hg := fun i hi => flat_get q2Cells 2 (fun _ => rfl) l j i hj hi
  have key : ∀ i, i < 2 → W.cell? ⟨b, off + j * 2 + i, none⟩ = (q2Cells l[j])[i]? := fun i hi => by
    obtain ⟨b', off', e', _, h1⟩ := hc (j * 2 + i) (by omega)
    rw [e] at e'
    cases e'
    rw [← hg i hi, show off + j * 2 + i = off + (j * 2 + i) by omega, h1]
    rfl
  exact ⟨b, off, e, hb, key 0 (by omega), key 1 (by omega)⟩
theorem cellsQ2 : Try.prog.cellsOf 26 = 2 := by kernel_rfl
theorem i64_in {z : Int} (h : (Lit.int .i64 z).wf = true) : I64 z := by
  simp [Lit.wf] at h
  have h1 : IntKind.i64.min = -9223372036854775808 := rfl
  have h2 : IntKind.i64.max = 9223372036854775807 := rfl
  unfold I64
  omega
/-- All words are in range. -/
def okW (ws : List Int) : Prop := ∀ z ∈ ws, 0 ≤ z ∧ z < 18446744073709551616
/-- An entry whose numbers are in range. -/
def okP (p : Pr) : Prop := I64 p.1 ∧ p.2 < 18446744073709551616
/-- A row of words, all of them in range. -/
def WordsK (W : World) (v : Value) (ws : List Int) : Prop := WordsAt W v ws ∧ okW ws
def EntsK (W : World) (v : Value) (l : List Pr) : Prop := PAt W v l ∧ ∀ p ∈ l, okP p
def Q2K (W : World) (v : Value) (l : List (Int × Int)) : Prop := Q2At W v l ∧ ∀ p ∈ l, I64 p.1 ∧ I64 p.2
set_option maxRecDepth 100000 in
theorem open_wordsK {H : Type} {enc : TypeId × Value → H} {W : World} {base : Nat} {sp : Nat → Bool} {held : Bool} {fuel : Nat} {a : Option Addr} {len cap : Nat} {x : DataW H × List MemPlace}
    (h : DataW.trod enc Try.prog W base sp held fuel 24 [.slice a len cap] = some x) : ∃ l : List Int, len = l.length ∧ WordsK W (.slice a len cap) l := by
  obtain ⟨l, hl, hw⟩ := open_words h
  refine ⟨l, hl, hw, ?_⟩
  rcases open_slice Try.underlying24 h with ⟨hcs, _⟩ | ⟨ad, len', cap', m, n, D, Pl, hcs, hb, hl', hm, hmm, _, hx⟩
  · simp at hcs
    obtain ⟨rfl, rfl, rfl⟩ := hcs
    intro k hk
    rw [List.eq_nil_of_length_eq_zero hl.symm] at hk
    cases hk
  · simp at hcs
    obtain ⟨rfl, rfl, rfl⟩ := hcs
    have hlm : len ≤ m := by rw [hmm]; split <;> omega
    intro k hk
    obtain ⟨j, hj, rfl⟩ := List.mem_iff_getElem.1 hk
    obtain ⟨cs', h1, h2⟩ := hx j (by omega)
    rw [cellsU] at h1
    obtain ⟨_, hlen, hcell⟩ := World.cells?_some h1
    obtain ⟨z, rfl, _, hz⟩ := DataW.trod_int Try.underlying34 h2
    have e := hcell 0 (by omega)
    rw [add_add] at e
    obtain ⟨b, off, ea, hbl, hc⟩ := wordsAt_get hw j hj
    injection ea with ea
    subst ea
    have hadd : (⟨b, off, none⟩ : Addr).add j = ⟨b, off + j, none⟩ := by unfold Addr.add; split <;> simp_all
    simp [hadd] at e
    rw [hc] at e
    simp [hj] at e
    rw [e]
    exact w64 hz
theorem pAt_mk {W : World} {ad : Addr} {len cap m : Nat} (hl : len ≤ cap) (hm : cap ≤ maxLen) (hlm : len ≤ m) {q : Nat → Pr}
    (hq : ∀ i, i < m → W.cell? (ad.add (i * 2)) = some (.int .i64 (q i).1) ∧ W.cell? (ad.add (i * 2 + 1)) = some (.int .u64 ((q i).2 : Nat))) : PAt W (.slice (some ad) len cap) ((List.range len).map q) := by
  have hll : ((List.range len).map q).length = len := by simp
  refine ⟨pVals_length _, some ad, cap, by rw [hll], by rw [hll]; exact hl, hm, (fun e => by cases e), fun j hj => ?_⟩
  rw [pVals_length, hll] at hj
  have hi : j / 2 < len := by omega
  obtain ⟨h1, h2⟩ := hq (j / 2) (by omega)
  obtain ⟨b, off, rfl, hb'⟩ : ∃ b off, ad = ⟨b, off, none⟩ ∧ b < W.heap.size := by
    have h0 := (hq 0 (by omega)).1
    obtain ⟨b, off, e, hb'⟩ := addr_form h0
    cases ad with
    | mk b0 o0 s0 =>
      have hs : s0 = none := by
        have := World.cell?_spot h0
        simpa [Addr.add] using this
      subst hs
      rw [add_plain] at e
      cases e
      exact ⟨_, o0, rfl, hb'⟩
  refine ⟨b, off, rfl, hb', ?_⟩
  have hg := flat_get pCells 2 (fun _ => rfl) ((List.range len).map q) (j / 2) (j % 2) (by rw [hll]; exact hi) (Nat.mod_lt _ (by decide))
  rw [show j / 2 * 2 + j % 2 = j by omega] at hg
  unfold pVals
  rw [hg]
  rw [add_plain] at h1 h2
  simp only [List.getElem_map, List.getElem_range]
  rcases (by omega : j % 2 = 0 ∨ j % 2 = 1) with e | e
  · rw [e, show off + j = off + j / 2 * 2 by omega]
    exact h1
  · rw [e, show off + j = off + (j / 2 * 2 + 1) by omega]
    exact h2
set_option maxRecDepth 100000 in
theorem open_entsk {H : Type} {enc : TypeId × Value → H} {W : World} {base : Nat} {sp : Nat → Bool} {held : Bool} {fuel : Nat} {a : Option Addr} {len cap : Nat} {x : DataW H × List MemPlace}
    (h : DataW.trod enc Try.prog W base sp held fuel 23 [.slice a len cap] = some x) : ∃ l : List Pr, len = l.length ∧ EntsK W (.slice a len cap) l := by
  rcases open_slice_pairs Try.underlying23 Try.underlying36 cellsEn rfl rfl cellsI cellsU h with ⟨hcs, _⟩ | ⟨ad, len', cap', m, n, V0, V1, D0, D1, P0, P1, hcs, hb, hl, hm, hmm, _, hx⟩
  · simp at hcs
    obtain ⟨rfl, rfl, rfl⟩ := hcs
    exact ⟨[], rfl, pAt_none _, fun p hp => by cases hp⟩
  · simp at hcs
    obtain ⟨rfl, rfl, rfl⟩ := hcs
    have each : ∀ i, i < m → ∃ q : Pr, W.cell? (ad.add (i * 2)) = some (.int .i64 q.1) ∧ W.cell? (ad.add (i * 2 + 1)) = some (.int .u64 (q.2 : Nat)) ∧ okP q := by
      intro i hi
      obtain ⟨h1, h2, h3, h4⟩ := hx i hi
      obtain ⟨z, e2, _, hz⟩ := DataW.trod_int Try.underlying3 h3
      obtain ⟨y, e3, _, hy⟩ := DataW.trod_int Try.underlying34 h4
      simp at e2 e3
      have hy0 := (w64 hy).1
      have hy1 := (w64 hy).2
      exact ⟨(z, y.toNat), by rw [h1, e2], by rw [h2, e3, Int.toNat_of_nonneg hy0], i64_in hz, by show y.toNat < _; omega⟩
    obtain ⟨q, hq⟩ := choose_lt each
    have hlm : len ≤ m := by rw [hmm]; split <;> omega
    refine ⟨(List.range len).map q, by simp, pAt_mk hl hm hlm (fun i hi => ⟨(hq i hi).1, (hq i hi).2.1⟩), fun p hp => ?_⟩
    obtain ⟨i, hi, rfl⟩ := List.mem_map.1 hp
    exact (hq i (by have := List.mem_range.1 hi; omega)).2.2
theorem open_q2 {H : Type} {enc : TypeId × Value → H} {W : World} {base : Nat} {sp : Nat → Bool} {held : Bool} {fuel : Nat} {cs : List Value} {x : DataW H × List MemPlace} (hl : cs.length = 2)
    (h : DataW.trod enc Try.prog W base sp held fuel 26 cs = some x) : ∃ t : Int × Int, cs = q2Cells t ∧ I64 t.1 ∧ I64 t.2 := by
  obtain ⟨d, p⟩ := x
  obtain ⟨xs, m, rfl, hx, hlen, hxl, hel⟩ := DataW.trod_array Try.underlying26 h
  match xs, hxl, cs, hl with
  | [x0, x1], _, [v0, v1], _ =>
    have e0 := hel 0 (by decide)
    have e1 := hel 1 (by decide)
    rw [cellsI] at e0 e1
    obtain ⟨a, ha, _, wa⟩ := DataW.trod_int Try.underlying3 e0
    obtain ⟨b, hb, _, wb⟩ := DataW.trod_int Try.underlying3 e1
    simp at ha hb
    subst ha hb
    exact ⟨(a, b), rfl, i64_in wa, i64_in wb⟩
theorem open_q2k {H : Type} {enc : TypeId × Value → H} {W : World} {base : Nat} {sp : Nat → Bool} {held : Bool} {fuel : Nat} {a : Option Addr} {len cap : Nat} {x : DataW H × List MemPlace}
    (h : DataW.trod enc Try.prog W base sp held fuel 22 [.slice a len cap] = some x) : ∃ l : List (Int × Int), len = l.length ∧ Q2K W (.slice a len cap) l := by
  rcases open_slice Try.underlying22 h with ⟨hcs, _⟩ | ⟨ad, len', cap', m, n, D, Pl, hcs, hb, hl, hm, hmm, _, hx⟩
  · simp at hcs
    obtain ⟨rfl, rfl, rfl⟩ := hcs
    exact ⟨[], rfl, ⟨rfl, none, 0, rfl, Nat.le_refl _, Nat.zero_le _, fun _ => rfl, fun j hj => by simp [q2Vals] at hj⟩, fun p hp => by cases hp⟩
  · simp at hcs
    obtain ⟨rfl, rfl, rfl⟩ := hcs
    have hlm : len ≤ m := by rw [hmm]; split <;> omega
    have each : ∀ i, i < m → ∃ q : Int × Int, (∀ r, r < 2 → W.cell? (ad.add (i * 2 + r)) = (q2Cells q)[r]?) ∧ I64 q.1 ∧ I64 q.2 := by
      intro i hi
      obtain ⟨cs', h1, h2⟩ := hx i hi
      rw [cellsQ2] at h1
      obtain ⟨_, hlen, hcell⟩ := World.cells?_some h1
      obtain ⟨q, rfl, hq1, hq2⟩ := open_q2 hlen h2
      refine ⟨q, fun r hr => ?_, hq1, hq2⟩
      have e := hcell r hr
      rw [add_add] at e
      exact e
    obtain ⟨q, hq⟩ := choose_lt each
    have hll : ((List.range len).map q).length = len := by simp
    refine ⟨(List.range len).map q, hll.symm, ?_, fun p hp => by
      obtain ⟨i, hi, rfl⟩ := List.mem_map.1 hp
      exact (hq i (by have := List.mem_range.1 hi; omega)).2⟩
    refine ⟨by rw [q2Vals_length], some ad, cap, by rw [hll], by rw [hll]; exact hl, hm, (fun e => by cases e), fun j hj => ?_⟩
    rw [q2Vals_length, hll] at hj
    have hi : j / 2 < len := by omega
    have hr : j % 2 < 2 := Nat.mod_lt _ (by decide)
    have hc := (hq (j / 2) (by omega)).1 (j % 2) hr
    have hg := flat_get q2Cells 2 (fun _ => rfl) ((List.range len).map q) (j / 2) (j % 2) (by rw [hll]; exact hi) hr
    have ej : j / 2 * 2 + j % 2 = j := by omega
    rw [ej] at hc hg
    rw [List.getElem_map, List.getElem_range] at hg
    have hv : (q2Cells (q (j / 2)))[j % 2]? = some ((q2Cells (q (j / 2)))[j % 2]'(by simpa [q2Cells] using hr)) := List.getElem?_eq_getElem _
    obtain ⟨b, off, spot⟩ := ad
    rw [hv] at hc
    have hspot : spot = none := by
      have h00 := (hq 0 (by omega)).1 0 (by decide)
      have h01 : W.cell? ((⟨b, off, spot⟩ : Addr).add 0) = some (.int .i64 (q 0).1) := h00
      simpa [Addr.add] using World.cell?_spot h01
    subst hspot
    have hadd : (⟨b, off, none⟩ : Addr).add j = ⟨b, off + j, none⟩ := by unfold Addr.add; split <;> simp_all
    rw [hadd] at hc
    refine ⟨b, off, rfl, ?_, ?_⟩
    · rcases Nat.lt_or_ge b W.heap.size with hq | hq
      · exact hq
      · simp [World.cell?, Array.getElem?_eq_none hq] at hc
    · rw [hc]
      unfold q2Vals
      rw [hg, hv]
theorem open_entry {H : Type} {enc : TypeId × Value → H} {W : World} {r : Reach} {b0 base : Nat} {sp : Nat → Bool} {held : Bool} {v : Value} {d : DataW H} {p : List MemPlace}
    (hv : Value.okWide Try.prog W r b0 36 v) (h : DataW.Trod enc Try.prog W base sp held 36 v d p) : ∃ g : Pr, v = .agg #[.int .i64 g.1, .int .u64 (g.2 : Nat)] ∧ okP g := by
  obtain ⟨cs, rfl, hcs⟩ := okWide_struct Try.underlying36 hv
  rw [cellsEn] at hcs
  obtain ⟨fuel, hf⟩ := h
  obtain ⟨y0, y1, rfl⟩ : ∃ y0 y1, cs = #[y0, y1] := by
    obtain ⟨l⟩ := cs
    match l, hcs with
    | [y0, y1], _ => exact ⟨y0, y1, rfl⟩
  obtain ⟨xs, k, hk, hxy, _, hxl, hg⟩ := DataW.trod_struct Try.underlying36 hf
  match xs, hxl with
  | [x0, x1], _ =>
    have g0 := hg 0 _ rfl
    have g1 := hg 1 _ rfl
    simp [cellsI, cellsU, Value.cells] at g0 g1
    obtain ⟨z, e0, _, hz⟩ := DataW.trod_int Try.underlying3 g0
    obtain ⟨y, e1, _, hy⟩ := DataW.trod_int Try.underlying34 g1
    simp at e0 e1
    subst e0 e1
    have := w64 hy
    exact ⟨(z, y.toNat), by simp only [Int.toNat_of_nonneg this.1], i64_in hz, by show y.toNat < _; omega⟩
/-- A directory that comes in. -/
structure Dv where
  d : Int
  a : Option Addr
  n : Nat
  c : Nat
  l : List Pr
def dc (g : Dv) : Array Value := #[.int .i64 g.d, .slice g.a g.n g.c]
def DvK (W : World) (g : Dv) : Prop := I64 g.d ∧ EntsK W (.slice g.a g.n g.c) g.l
theorem cellsDi : Try.prog.cellsOf 64 = 2 := by kernel_rfl
theorem cellsEns : Try.prog.cellsOf 23 = 1 := by kernel_rfl
theorem open_dir {H : Type} {enc : TypeId × Value → H} {W : World} {r : Reach} {b0 base : Nat} {sp : Nat → Bool} {held : Bool} {v : Value} {d : DataW H} {p : List MemPlace}
    (hv : Value.okWide Try.prog W r b0 64 v) (h : DataW.Trod enc Try.prog W base sp held 64 v d p) : ∃ g : Dv, v = .agg (dc g) ∧ DvK W g := by
  obtain ⟨cs, rfl, hcs⟩ := okWide_struct Try.underlying64 hv
  rw [cellsDi] at hcs
  obtain ⟨fuel, hf⟩ := h
  obtain ⟨y0, y1, rfl⟩ : ∃ y0 y1, cs = #[y0, y1] := by
    obtain ⟨l⟩ := cs
    match l, hcs with
    | [y0, y1], _ => exact ⟨y0, y1, rfl⟩
  obtain ⟨xs, k, hk, hxy, _, hxl, hg⟩ := DataW.trod_struct Try.underlying64 hf
  match xs, hxl with
  | [x0, x1], _ =>
    have g0 := hg 0 _ rfl
    have g1 := hg 1 _ rfl
    simp [cellsI, cellsEns, Value.cells] at g0 g1
    obtain ⟨z, e0, _, hz⟩ := DataW.trod_int Try.underlying3 g0
    simp at e0
    subst e0
    have hv3 : ∃ a n c, y1 = .slice a n c := by
      rcases open_slice Try.underlying23 g1 with ⟨hcs, _⟩ | ⟨ad, len', cap', m, n, D, Pl, hcs, _⟩
      · simp at hcs
        exact ⟨_, _, _, hcs⟩
      · simp at hcs
        exact ⟨_, _, _, hcs⟩
    obtain ⟨a3, n3, c3, rfl⟩ := hv3
    obtain ⟨l, _, hl⟩ := open_entsk g1
    exact ⟨⟨z, a3, n3, c3, l⟩, rfl, i64_in hz, hl⟩
/-- An array of words. -/
theorem open_arrW {H : Type} {enc : TypeId × Value → H} {W : World} {base : Nat} {sp : Nat → Bool} {held : Bool} {fuel n : Nat} {T : TypeId} {cs : List Value} {x : DataW H × List MemPlace}
    (hu : Try.prog.underlying T = some (.array n 34)) (hc : Try.prog.cellsOf T = n) (h : DataW.trod enc Try.prog W base sp held fuel T cs = some x) : ∃ ws : List Int, cs = wordVals ws ∧ ws.length = n ∧ okW ws := by
  obtain ⟨xs, m, rfl, hx, hlen, hxl, hel⟩ := DataW.trod_array hu h
  rw [hc] at hlen
  have each : ∀ i, i < n → ∃ z : Int, cs[i]? = some (.int .u64 z) ∧ 0 ≤ z ∧ z < 18446744073709551616 := by
    intro i hi
    have e := hel i hi
    rw [cellsU, Nat.mul_one] at e
    have hxi : xs[i]? = some xs[i] := List.getElem?_eq_getElem (by omega)
    rw [hxi] at e
    obtain ⟨z, ez, _, hz⟩ := DataW.trod_int Try.underlying34 e
    refine ⟨z, ?_, w64 hz⟩
    have h0 : ((cs.drop i).take 1)[0]? = some (.int .u64 z) := by rw [ez]; rfl
    rw [List.getElem?_take, if_pos (by decide), List.getElem?_drop] at h0
    exact h0
  obtain ⟨q, hq⟩ := choose_lt each
  refine ⟨(List.range n).map q, ?_, by simp, fun z hz => ?_⟩
  · refine List.ext_getElem? fun i => ?_
    rcases Nat.lt_or_ge i n with hi | hi
    · rw [(hq i hi).1]
      simp [wordVals, hi]
    · rw [List.getElem?_eq_none (by omega), List.getElem?_eq_none (by simp [wordVals]; omega)]
  · obtain ⟨i, hi, rfl⟩ := List.mem_map.1 hz
    exact (hq i (List.mem_range.1 hi)).2
theorem cellsTa : Try.prog.cellsOf 49 = 39 := by kernel_rfl
theorem cellsA2 : Try.prog.cellsOf 46 = 2 := by kernel_rfl
theorem cellsA16 : Try.prog.cellsOf 47 = 16 := by kernel_rfl
/-- A table's numbers are in range. -/
def TbK (t : Tb) : Prop := t.ws.length = 34 ∧ okW t.ws ∧ (0 ≤ t.c ∧ t.c < 18446744073709551616) ∧ t.p < 18446744073709551616 ∧ I64 t.d ∧ I64 t.can ∧ I64 t.live
theorem part_list {α : Type} (L : List α) (a0 a1 a2 a3 a4 : α) (w1 w2 w3 : List α) (hl : L.length = 39) (h0 : L.take 1 = [a0]) (h1 : (L.drop 1).take 1 = [a1]) (h2 : (L.drop 2).take 1 = [a2]) (h3 : (L.drop 3).take 1 = [a3]) (h4 : (L.drop 4).take 1 = [a4])
    (h5 : (L.drop 5).take 2 = w1) (h6 : (L.drop 7).take 16 = w2) (h7 : (L.drop 23).take 16 = w3) : L = a0 :: a1 :: a2 :: a3 :: a4 :: (w1 ++ (w2 ++ w3)) := by
  have e7 : L.drop 23 = w3 := by rw [← h7, List.take_of_length_le (by simp; omega)]
  have e6 : L.drop 7 = w2 ++ w3 := by
    rw [← List.take_append_drop 16 (L.drop 7), h6, List.drop_drop, e7]
  have e5 : L.drop 5 = w1 ++ (w2 ++ w3) := by
    rw [← List.take_append_drop 2 (L.drop 5), h5, List.drop_drop, e6]
  have e4 : L.drop 4 = a4 :: (w1 ++ (w2 ++ w3)) := by
    rw [← List.take_append_drop 1 (L.drop 4), h4, List.drop_drop, e5]; rfl
  have e3 : L.drop 3 = a3 :: a4 :: (w1 ++ (w2 ++ w3)) := by
    rw [← List.take_append_drop 1 (L.drop 3), h3, List.drop_drop, e4]; rfl
  have e2 : L.drop 2 = a2 :: a3 :: a4 :: (w1 ++ (w2 ++ w3)) := by
    rw [← List.take_append_drop 1 (L.drop 2), h2, List.drop_drop, e3]; rfl
  have e1 : L.drop 1 = a1 :: a2 :: a3 :: a4 :: (w1 ++ (w2 ++ w3)) := by
    rw [← List.take_append_drop 1 (L.drop 1), h1, List.drop_drop, e2]; rfl
  rw [← List.take_append_drop 1 L, h0, e1]
  rfl
theorem open_table {H : Type} {enc : TypeId × Value → H} {W : World} {r : Reach} {b0 base : Nat} {sp : Nat → Bool} {held : Bool} {v : Value} {d : DataW H} {p : List MemPlace}
    (hv : Value.okWide Try.prog W r b0 49 v) (h : DataW.Trod enc Try.prog W base sp held 49 v d p) : ∃ g : Tb, v = .agg (tc g) ∧ TbK g := by
  obtain ⟨cs, rfl, hcs⟩ := okWide_struct Try.underlying49 hv
  rw [cellsTa] at hcs
  obtain ⟨fuel, hf⟩ := h
  obtain ⟨L⟩ := cs
  have hL : L.length = 39 := hcs
  obtain ⟨xs, k, hk, hxy, _, hxl, hg⟩ := DataW.trod_struct Try.underlying49 hf
  match xs, hxl with
  | [x0, x1, x2, x3, x4, x5, x6, x7], _ =>
    have g0 := hg 0 _ rfl
    have g1 := hg 1 _ rfl
    have g2 := hg 2 _ rfl
    have g3 := hg 3 _ rfl
    have g4 := hg 4 _ rfl
    have g5 := hg 5 _ rfl
    have g6 := hg 6 _ rfl
    have g7 := hg 7 _ rfl
    simp only [Value.cells] at g0 g1 g2 g3 g4 g5 g6 g7
    obtain ⟨c, e0, _, w0⟩ := DataW.trod_int Try.underlying34 g0
    obtain ⟨dd, e1, _, w1⟩ := DataW.trod_int Try.underlying3 g1
    obtain ⟨pp, e2, _, w2⟩ := DataW.trod_int Try.underlying34 g2
    obtain ⟨can, e3, _, w3⟩ := DataW.trod_int Try.underlying3 g3
    obtain ⟨live, e4, _, w4⟩ := DataW.trod_int Try.underlying3 g4
    obtain ⟨u1, e5, l5, k5⟩ := open_arrW Try.underlying46 cellsA2 g5
    obtain ⟨u2, e6, l6, k6⟩ := open_arrW Try.underlying47 cellsA16 g6
    obtain ⟨u3, e7, l7, k7⟩ := open_arrW Try.underlying47 cellsA16 g7
    have hp := w64 w2
    refine ⟨⟨c, dd, pp.toNat, can, live, u1 ++ (u2 ++ u3)⟩, ?_, by simp [l5, l6, l7], ?_, w64 w0, by show pp.toNat < _; omega, i64_in w1, i64_in w3, i64_in w4⟩
    · have hpl := part_list L _ _ _ _ _ _ _ _ hL e0 e1 e2 e3 e4 e5 e6 e7
      show Value.agg ⟨L⟩ = _
      rw [hpl]
      simp only [tc, tcL, Int.toNat_of_nonneg hp.1]
      simp [wordVals]
    · intro z hz
      rcases List.mem_append.1 hz with h | h
      · exact k5 z h
      · rcases List.mem_append.1 h with h | h
        · exact k6 z h
        · exact k7 z h
end Go.Proofs
