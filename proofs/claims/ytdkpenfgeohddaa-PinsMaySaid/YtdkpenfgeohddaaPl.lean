/- Pins: arguments, opened. -/
import Derived.Test.YtdkpenfgeohddaaPk
import Derived.ProofKit
import Derived.ChangeAt
import Derived.JoinedAt
import Derived.LaidMore
import Derived.Lay
import Derived.ShutString
import Derived.ChangeOld
import Derived.Below
import Derived.Test.YtdkpenfgeohddaaRows
namespace Go.Proofs
set_option maxRecDepth 100000
open Go.ChangeShapes Go.WideShapes Go.RowKit Go.Shelf Go.Deep

/-- A row of words, all of them in range. -/
def WordsK (W : World) (v : Value) (ws : List Int) : Prop := WordsAt W v ws ∧ okW ws
theorem u64_range {z : Int} (h : (Lit.int .u64 z).wf = true) : 0 ≤ z ∧ z < 18446744073709551616 := by
  have : 0 ≤ z ∧ z ≤ 18446744073709551615 := by simpa [Lit.wf, IntKind.min, IntKind.max, IntKind.bits, IntKind.signed] using h
  omega
theorem u64_nat {z : Int} (h : (Lit.int .u64 z).wf = true) : ∃ n : Nat, z = (n : Int) ∧ n < 18446744073709551616 := by
  have := u64_range h
  exact ⟨z.toNat, by omega, by omega⟩
set_option maxRecDepth 100000 in
theorem open_wordsK {H : Type} {enc : TypeId × Value → H} {W : World} {base : Nat} {sp : Nat → Bool} {held : Bool} {fuel : Nat} {a : Option Addr} {len cap : Nat} {x : DataW H × List MemPlace}
    (h : DataW.trod enc Try.prog W base sp held fuel 23 [.slice a len cap] = some x) : ∃ l : List Int, len = l.length ∧ WordsK W (.slice a len cap) l := by
  obtain ⟨l, hl, hw⟩ := open_words h
  refine ⟨l, hl, hw, ?_⟩
  rcases open_slice Try.underlying23 h with ⟨hcs, _⟩ | ⟨ad, len', cap', m, n, D, Pl, hcs, hb, hl', hm, hmm, _, hx⟩
  · simp at hcs
    obtain ⟨rfl, rfl, rfl⟩ := hcs
    intro k hk
    rw [List.eq_nil_of_length_eq_zero hl.symm] at hk
    cases hk
  · simp at hcs
    obtain ⟨rfl, rfl, rfl⟩ := hcs
    have hlm : len ≤ m := by rw [hmm]; split <;> omega
    intro k hk
    obtain ⟨j, hj, rfl⟩ := List.mem_iff_getElem.1 hk
    obtain ⟨cs', h1, h2⟩ := hx j (by omega)
    rw [cellsU] at h1
    obtain ⟨_, hlen, hcell⟩ := World.cells?_some h1
    obtain ⟨z, rfl, _, hz⟩ := DataW.trod_int Try.underlying22 h2
    have e := hcell 0 (by omega)
    rw [add_add] at e
    obtain ⟨b, off, ea, hbl, hc⟩ := wordsAt_get hw j hj
    injection ea with ea
    subst ea
    have hadd : (⟨b, off, none⟩ : Addr).add j = ⟨b, off + j, none⟩ := by unfold Addr.add; split <;> simp_all
    simp [hadd] at e
    rw [hc] at e
    simp [hj] at e
    rw [e]
    exact u64_range hz
theorem cellsPo : Try.prog.cellsOf 44 = 3 := by kernel_rfl
theorem cellsPn : Try.prog.cellsOf 25 = 2 := by kernel_rfl
theorem cellsSt : Try.prog.cellsOf 23 = 1 := by kernel_rfl
theorem open_po {H : Type} {enc : TypeId × Value → H} {W : World} {base : Nat} {sp : Nat → Bool} {held : Bool} {fuel : Nat} {cs : List Value} {x : DataW H × List MemPlace} (hl : cs.length = 3)
    (h : DataW.trod enc Try.prog W base sp held fuel 44 cs = some x) : ∃ t : Po, cs = poCells t ∧ okO t := by
  obtain ⟨xs, k, hk, hxy, _, hxl, hf⟩ := DataW.trod_struct Try.underlying44 h
  match xs, hxl, cs, hl with
  | [y0, y1, y2], _, [v0, v1, v2], _ =>
    have g0 := hf 0 _ rfl
    have g1 := hf 1 _ rfl
    have g2 := hf 2 _ rfl
    simp [cellsI, cellsU] at g0 g1 g2
    obtain ⟨a0, e0, _, _⟩ := DataW.trod_int Try.underlying3 g0
    obtain ⟨a1, e1, _, _⟩ := DataW.trod_int Try.underlying3 g1
    obtain ⟨a2, e2, _, w2⟩ := DataW.trod_int Try.underlying22 g2
    simp at e0 e1 e2
    subst e0 e1 e2
    exact ⟨⟨a0, a1, a2⟩, rfl, u64_range w2⟩
def PoK (W : World) (v : Value) (l : List Po) : Prop := PoAt W v l ∧ ∀ o ∈ l, okO o
theorem open_ops {H : Type} {enc : TypeId × Value → H} {W : World} {base : Nat} {sp : Nat → Bool} {held : Bool} {fuel : Nat} {a : Option Addr} {len cap : Nat} {x : DataW H × List MemPlace}
    (h : DataW.trod enc Try.prog W base sp held fuel 41 [.slice a len cap] = some x) : ∃ l : List Po, len = l.length ∧ PoK W (.slice a len cap) l := by
  rcases open_slice Try.underlying41 h with ⟨hcs, _⟩ | ⟨ad, len', cap', m, n, D, Pl, hcs, hb, hl, hm, hmm, _, hx⟩
  · simp at hcs
    obtain ⟨rfl, rfl, rfl⟩ := hcs
    exact ⟨[], rfl, ⟨rfl, none, 0, rfl, Nat.le_refl _, Nat.zero_le _, fun _ => rfl, fun j hj => by simp [poVals] at hj⟩, fun t ht => by cases ht⟩
  · simp at hcs
    obtain ⟨rfl, rfl, rfl⟩ := hcs
    have hlm : len ≤ m := by rw [hmm]; split <;> omega
    have each : ∀ i, i < m → ∃ q : Po, (∀ r, r < 3 → W.cell? (ad.add (i * 3 + r)) = (poCells q)[r]?) ∧ okO q := by
      intro i hi
      obtain ⟨cs', h1, h2⟩ := hx i hi
      rw [cellsPo] at h1
      obtain ⟨_, hlen, hcell⟩ := World.cells?_some h1
      obtain ⟨q, rfl, hq⟩ := open_po hlen h2
      refine ⟨q, fun r hr => ?_, hq⟩
      have e := hcell r hr
      rw [add_add] at e
      exact e
    haveI : Inhabited Po := ⟨⟨0, 0, 0⟩⟩
    obtain ⟨q, hq⟩ := choose_lt each
    have hll : ((List.range len).map q).length = len := by simp
    refine ⟨(List.range len).map q, hll.symm, ?_, fun t ht => ?_⟩
    rotate_left
    · obtain ⟨i, hi, rfl⟩ := List.mem_map.1 ht
      exact (hq i (by have := List.mem_range.1 hi; omega)).2
    refine ⟨by rw [poVals_length], some ad, cap, by rw [hll], by rw [hll]; exact hl, hm, (fun e => by cases e), fun j hj => ?_⟩
    rw [poVals_length, hll] at hj
    have hi : j / 3 < len := by omega
    have hr : j % 3 < 3 := Nat.mod_lt _ (by decide)
    have hc := (hq (j / 3) (by omega)).1 (j % 3) hr
    have hg := flat_get poCells 3 (fun _ => rfl) ((List.range len).map q) (j / 3) (j % 3) (by rw [hll]; exact hi) hr
    have ej : j / 3 * 3 + j % 3 = j := by omega
    rw [ej] at hc hg
    rw [List.getElem_map, List.getElem_range] at hg
    have hv : (poCells (q (j / 3)))[j % 3]? = some ((poCells (q (j / 3)))[j % 3]'(by simpa [poCells] using hr)) := List.getElem?_eq_getElem _
    obtain ⟨b, off, spot⟩ := ad
    rw [hv] at hc
    have hspot : spot = none := by
      have h00 := (hq 0 (by omega)).1 0 (by decide)
      have h01 : W.cell? ((⟨b, off, spot⟩ : Addr).add 0) = some (.int .i64 (q 0).kind) := h00
      simpa [Addr.add] using World.cell?_spot h01
    subst hspot
    have hadd : (⟨b, off, none⟩ : Addr).add j = ⟨b, off + j, none⟩ := by unfold Addr.add; split <;> simp_all
    rw [hadd] at hc
    refine ⟨b, off, rfl, ?_, ?_⟩
    · rcases Nat.lt_or_ge b W.heap.size with hq | hq
      · exact hq
      · simp [World.cell?, Array.getElem?_eq_none hq] at hc
    · rw [hc]
      unfold poVals
      rw [hg, hv]
/-- Pins that come in. -/
structure Pv where
  e : Int
  a : Option Addr
  n : Nat
  c : Nat
  s : List Int
def PvAt (W : World) (g : Pv) : Prop := (0 ≤ g.e ∧ g.e < 18446744073709551616) ∧ WordsK W (.slice g.a g.n g.c) g.s
theorem open_pins {H : Type} {enc : TypeId × Value → H} {W : World} {r : Reach} {b0 base : Nat} {sp : Nat → Bool} {held : Bool} {v : Value} {d : DataW H} {p : List MemPlace}
    (hv : Value.okWide Try.prog W r b0 25 v) (h : DataW.Trod enc Try.prog W base sp held 25 v d p) : ∃ g : Pv, v = .agg #[.int .u64 g.e, .slice g.a g.n g.c] ∧ PvAt W g := by
  obtain ⟨cs, rfl, hcs⟩ := okWide_struct Try.underlying25 hv
  rw [cellsPn] at hcs
  obtain ⟨fuel, hf⟩ := h
  obtain ⟨y0, y1, rfl⟩ : ∃ y0 y1, cs = #[y0, y1] := by
    obtain ⟨l⟩ := cs
    match l, hcs with
    | [y0, y1], _ => exact ⟨y0, y1, rfl⟩
  obtain ⟨xs, k, hk, hxy, _, hxl, hg⟩ := DataW.trod_struct Try.underlying25 hf
  match xs, hxl with
  | [x0, x1], _ =>
    have g0 := hg 0 _ rfl
    have g1 := hg 1 _ rfl
    simp [cellsU, cellsSt, Value.cells] at g0 g1
    obtain ⟨z, e0, _, w0⟩ := DataW.trod_int Try.underlying22 g0
    simp at e0
    subst e0
    have hv3 : ∃ a n c, y1 = .slice a n c := by
      rcases open_slice Try.underlying23 g1 with ⟨hcs, _⟩ | ⟨ad, len', cap', m, n, D, Pl, hcs, _⟩
      · simp at hcs
        exact ⟨_, _, _, hcs⟩
      · simp at hcs
        exact ⟨_, _, _, hcs⟩
    obtain ⟨a3, n3, c3, rfl⟩ := hv3
    obtain ⟨l, _, hl⟩ := open_wordsK g1
    exact ⟨⟨z, a3, n3, c3, l⟩, rfl, u64_range w0, hl⟩
end Go.Proofs
