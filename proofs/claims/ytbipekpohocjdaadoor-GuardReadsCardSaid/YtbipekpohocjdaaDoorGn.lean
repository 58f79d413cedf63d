/- Arguments, opened: sections, looks, one look, words, numbers; what the listed variable says. -/
import Derived.Test.YtbipekpohocjdaaDoorGl
import Derived.ProofKit
import Derived.ChangeAt
import Derived.JoinedAt
import Derived.LaidMore
import Derived.Lay
import Derived.Test.YtbipekpohocjdaaDoorRows
namespace Go.Proofs
open Go.ChangeShapes Go.WideShapes Go.RowKit Go.Shelf Go.Deep

theorem cellsI : Tryd.prog.cellsOf 3 = 1 := by kernel_rfl
theorem cellsU : Tryd.prog.cellsOf 26 = 1 := by kernel_rfl
theorem cellsS : Tryd.prog.cellsOf 39 = 2 := by kernel_rfl
theorem cellsL : Tryd.prog.cellsOf 44 = 2 := by kernel_rfl
theorem addr_form {W : World} {ad : Addr} {v : Value} (h : W.cell? ad = some v) : ∃ b off, ad = ⟨b, off, none⟩ ∧ b < W.heap.size := by
  obtain ⟨b, off, spot⟩ := ad
  have hspot : spot = none := World.cell?_spot h
  subst hspot
  refine ⟨b, off, rfl, ?_⟩
  rcases Nat.lt_or_ge b W.heap.size with hq | hq
  · exact hq
  · simp [World.cell?, Array.getElem?_eq_none hq] at h
theorem add_plain (b off j : Nat) : (⟨b, off, none⟩ : Addr).add j = ⟨b, off + j, none⟩ := by unfold Addr.add; split <;> simp_all
/-- A row whose elements read as pairs. -/
theorem pAt_mk {W : World} {ad : Addr} {len cap m : Nat} (hl : len ≤ cap) (hm : cap ≤ maxLen) (hlm : len ≤ m) {q : Nat → Int × Int}
    (hq : ∀ i, i < m → W.cell? (ad.add (i * 2)) = some (.int .i64 (q i).1) ∧ W.cell? (ad.add (i * 2 + 1)) = some (.int .i64 (q i).2)) : PAt W (.slice (some ad) len cap) ((List.range len).map q) := by
  have hll : ((List.range len).map q).length = len := by simp
  refine ⟨pVals_length _, some ad, cap, by rw [hll], by rw [hll]; exact hl, hm, (fun e => by cases e), fun j hj => ?_⟩
  rw [pVals_length, hll] at hj
  have hi : j / 2 < len := by omega
  obtain ⟨h1, h2⟩ := hq (j / 2) (by omega)
  obtain ⟨b, off, rfl, hb'⟩ : ∃ b off, ad = ⟨b, off, none⟩ ∧ b < W.heap.size := by
    have h0 := (hq 0 (by omega)).1
    obtain ⟨b, off, e, hb'⟩ := addr_form h0
    cases ad with
    | mk b0 o0 s0 =>
      have hs : s0 = none := by
        have := World.cell?_spot h0
        simpa [Addr.add] using this
      subst hs
      rw [add_plain] at e
      cases e
      exact ⟨_, o0, rfl, hb'⟩
  refine ⟨b, off, rfl, hb', ?_⟩
  have hg := flat_get pCells 2 (fun _ => rfl) ((List.range len).map q) (j / 2) (j % 2) (by rw [hll]; exact hi) (Nat.mod_lt _ (by decide))
  rw [show j / 2 * 2 + j % 2 = j by omega] at hg
  unfold pVals
  rw [hg]
  rw [add_plain] at h1 h2
  simp only [List.getElem_map, List.getElem_range]
  rcases (by omega : j % 2 = 0 ∨ j % 2 = 1) with e | e
  · rw [e, show off + j = off + j / 2 * 2 by omega]
    exact h1
  · rw [e, show off + j = off + (j / 2 * 2 + 1) by omega]
    exact h2
set_option maxRecDepth 100000 in
theorem open_secs {H : Type} {enc : TypeId × Value → H} {W : World} {base : Nat} {sp : Nat → Bool} {held : Bool} {fuel : Nat} {a : Option Addr} {len cap : Nat} {x : DataW H × List MemPlace}
    (h : DataW.trod enc Tryd.prog W base sp held fuel 23 [.slice a len cap] = some x) : ∃ l : List (Int × Int), len = l.length ∧ PAt W (.slice a len cap) l := by
  rcases open_slice_pairs Tryd.underlying23 Tryd.underlying39 cellsS rfl rfl cellsI cellsI h with ⟨hcs, _⟩ | ⟨ad, len', cap', m, n, V0, V1, D0, D1, P0, P1, hcs, hb, hl, hm, hmm, _, hx⟩
  · simp at hcs
    obtain ⟨rfl, rfl, rfl⟩ := hcs
    exact ⟨[], rfl, pAt_none _⟩
  · simp at hcs
    obtain ⟨rfl, rfl, rfl⟩ := hcs
    have each : ∀ i, i < m → ∃ q : Int × Int, W.cell? (ad.add (i * 2)) = some (.int .i64 q.1) ∧ W.cell? (ad.add (i * 2 + 1)) = some (.int .i64 q.2) := by
      intro i hi
      obtain ⟨h1, h2, h3, h4⟩ := hx i hi
      obtain ⟨z, e2, _⟩ := DataW.trod_int Tryd.underlying3 h3
      obtain ⟨y, e3, _⟩ := DataW.trod_int Tryd.underlying3 h4
      simp at e2 e3
      exact ⟨(z, y), by rw [h1, e2], by rw [h2, e3]⟩
    obtain ⟨q, hq⟩ := choose_lt each
    exact ⟨(List.range len).map q, by simp, pAt_mk hl hm (by rw [hmm]; split <;> omega) hq⟩
set_option maxRecDepth 100000 in
theorem open_looks {H : Type} {enc : TypeId × Value → H} {W : World} {base : Nat} {sp : Nat → Bool} {held : Bool} {fuel : Nat} {a : Option Addr} {len cap : Nat} {x : DataW H × List MemPlace}
    (h : DataW.trod enc Tryd.prog W base sp held fuel 41 [.slice a len cap] = some x) : ∃ l : List (Int × Int), len = l.length ∧ PAt W (.slice a len cap) l := by
  rcases open_slice_pairs Tryd.underlying41 Tryd.underlying44 cellsL rfl rfl cellsI cellsI h with ⟨hcs, _⟩ | ⟨ad, len', cap', m, n, V0, V1, D0, D1, P0, P1, hcs, hb, hl, hm, hmm, _, hx⟩
  · simp at hcs
    obtain ⟨rfl, rfl, rfl⟩ := hcs
    exact ⟨[], rfl, pAt_none _⟩
  · simp at hcs
    obtain ⟨rfl, rfl, rfl⟩ := hcs
    have each : ∀ i, i < m → ∃ q : Int × Int, W.cell? (ad.add (i * 2)) = some (.int .i64 q.1) ∧ W.cell? (ad.add (i * 2 + 1)) = some (.int .i64 q.2) := by
      intro i hi
      obtain ⟨h1, h2, h3, h4⟩ := hx i hi
      obtain ⟨z, e2, _⟩ := DataW.trod_int Tryd.underlying3 h3
      obtain ⟨y, e3, _⟩ := DataW.trod_int Tryd.underlying3 h4
      simp at e2 e3
      exact ⟨(z, y), by rw [h1, e2], by rw [h2, e3]⟩
    obtain ⟨q, hq⟩ := choose_lt each
    exact ⟨(List.range len).map q, by simp, pAt_mk hl hm (by rw [hmm]; split <;> omega) hq⟩
set_option maxRecDepth 100000 in
/-- One look. -/
theorem open_look {H : Type} {enc : TypeId × Value → H} {W : World} {r : Reach} {b0 base : Nat} {sp : Nat → Bool} {held : Bool} {v : Value} {d : DataW H} {p : List MemPlace}
    (hv : Value.okWide Tryd.prog W r b0 44 v) (h : DataW.Trod enc Tryd.prog W base sp held 44 v d p) :
    ∃ a b : Int, v = .agg #[.int .i64 a, .int .i64 b] ∧ (Lit.int .i64 a).wf = true ∧ (Lit.int .i64 b).wf = true := by
  obtain ⟨ys, rfl, hys⟩ := okWide_struct Tryd.underlying44 hv
  rw [cellsL] at hys
  obtain ⟨fuel, hf⟩ := h
  obtain ⟨xs, m, hm, hx, hlen, hxl, hel⟩ := DataW.trod_struct Tryd.underlying44 hf
  obtain ⟨y0, y1, rfl⟩ : ∃ y0 y1, ys = #[y0, y1] := by
    obtain ⟨l⟩ := ys
    match l, hys with
    | [y0, y1], _ => exact ⟨y0, y1, rfl⟩
  match xs, hxl with
  | [x0, x1], _ =>
    have e0 := hel 0 _ rfl
    have e1 := hel 1 _ rfl
    simp [cellsI, Value.cells] at e0 e1
    obtain ⟨a, ha, _, wa⟩ := DataW.trod_int Tryd.underlying3 e0
    obtain ⟨b, hb, _, wb⟩ := DataW.trod_int Tryd.underlying3 e1
    simp at ha hb
    subst ha hb
    exact ⟨a, b, rfl, wa, wb⟩

theorem gTwo : Tryd.prog.globalNamed "honeycomb/honeycomblaw06.two" = some 0 := by kernel_rfl
theorem tTwo : (Tryd.prog.globals[0]?).map (·.type) = some 23 := by kernel_rfl
set_option maxRecDepth 100000 in
/-- What the condition on the listed variable gives. -/
theorem of_laid {W : World} (h : laidMetH Tryd.prog [("honeycomb/honeycomblaw06.two", YtbipekpohocjdaaDoor.Rows.laid_honeycomb_honeycomblaw06_two)] W) : TwoAt W := by
  rw [MakeChecks.laidMetH_plain _ _ _ (by kernel_rfl)] at h
  obtain ⟨ps, ⟨g, t, cs, fuel, p, q, hg, ht, hv, hd, _, _⟩, _, _⟩ := h
  obtain rfl := Option.some.inj (gTwo.symm.trans hg)
  obtain rfl := Option.some.inj (tTwo.symm.trans ht)
  rcases open_slice_pairs Tryd.underlying23 Tryd.underlying39 cellsS rfl rfl cellsI cellsI hd with ⟨_, hx⟩ | ⟨ad, len, cap, m, n, V0, V1, D0, D1, P0, P1, hcs, hb, hl, hm, hmm, hx, hel⟩
  · simp [YtbipekpohocjdaaDoor.Rows.laid_honeycomb_honeycomblaw06_two] at hx
  · have hx1 := (Prod.mk.inj hx).1
    unfold YtbipekpohocjdaaDoor.Rows.laid_honeycomb_honeycomblaw06_two at hx1
    injection hx1 with hx1 hx2
    have hlen : len = 2 := by
      have := congrArg List.length hx1
      simp at this
      exact this.symm
    subst hlen
    have hlm : 2 ≤ m := by rw [hmm]; split <;> omega
    simp [List.range_succ] at hx1
    obtain ⟨⟨e0, e1⟩, e2, e3⟩ := hx1
    have val : ∀ {n : Nat} {v : Value} {d : DataW Unit} {pp : List MemPlace} {z : Int}, DataW.trod (fun _ => ()) Tryd.prog W 0 (fun _ => true) false n 3 [v] = some (d, pp) → .lit (.int .i64 z) = d → v = .int .i64 z := by
      intro n v d pp z h1 h2
      obtain ⟨k, e, e', _⟩ := DataW.trod_int Tryd.underlying3 h1
      subst h2
      simp at e e'
      rw [e, e'.1]
    obtain ⟨a0, a1, a2, a3⟩ := hel 0 (by omega)
    obtain ⟨b0, b1, b2, b3⟩ := hel 1 (by omega)
    rw [val a2 e0] at a0
    rw [val a3 e1] at a1
    rw [val b2 e2] at b0
    rw [val b3 e3] at b1
    have hcell : W.cell? ⟨0, 0, none⟩ = some (.slice (some ad) 2 cap) := by
      have := World.var?_cell hg hv 0
      rw [Array.eq_one_of_toList hcs] at this
      simpa using this
    refine ⟨?_, some ad, cap, hcell, ?_⟩
    · obtain ⟨b, off, e, hlt⟩ := addr_form hcell
      cases e
      exact hlt
    · have key := pAt_mk (W := W) (ad := ad) (len := 2) (m := 2) hl hm (Nat.le_refl _) (q := fun i => if i = 0 then (3, 5) else (8, 0)) (fun i hi => by
        rcases (by omega : i = 0 ∨ i = 1) with rfl | rfl
        · exact ⟨a0, a1⟩
        · exact ⟨b0, b1⟩)
      exact key
end Go.Proofs
