/- Arena: arguments, opened. -/
import Derived.Test.YtmcancccihffhaaAr
import Derived.ProofKit
import Derived.ChangeAt
import Derived.JoinedAt
import Derived.LaidMore
import Derived.Lay
import Derived.ShutString
import Derived.ChangeOld
import Derived.Below
import Derived.Test.YtmcancccihffhaaRows
namespace Go.Proofs
open Go.ChangeShapes Go.WideShapes Go.RowKit Go.Shelf Go.Deep

theorem cellsI : Try.prog.cellsOf 3 = 1 := by kernel_rfl
theorem cellsU : Try.prog.cellsOf 39 = 1 := by kernel_rfl
theorem cellsSl : Try.prog.cellsOf 52 = 2 := by kernel_rfl
theorem cellsEn : Try.prog.cellsOf 41 = 2 := by kernel_rfl
theorem cellsAr : Try.prog.cellsOf 24 = 1 := by kernel_rfl
theorem cellsSls : Try.prog.cellsOf 22 = 1 := by kernel_rfl
theorem w64 {z : Int} (h : (Lit.int .u64 z).wf = true) : 0 ≤ z ∧ z < 18446744073709551616 := by
  simp [Lit.wf] at h
  have h1 : IntKind.u64.min = 0 := rfl
  have h2 : IntKind.u64.max = 18446744073709551615 := rfl
  omega
theorem addr_form {W : World} {ad : Addr} {v : Value} (h : W.cell? ad = some v) : ∃ b off, ad = ⟨b, off, none⟩ ∧ b < W.heap.size := by
  obtain ⟨b, off, spot⟩ := ad
  have hspot : spot = none := World.cell?_spot h
  subst hspot
  refine ⟨b, off, rfl, ?_⟩
  rcases Nat.lt_or_ge b W.heap.size with hq | hq
  · exact hq
  · simp [World.cell?, Array.getElem?_eq_none hq] at h
theorem add_plain (b off j : Nat) : (⟨b, off, none⟩ : Addr).add j = ⟨b, off + j, none⟩ := by unfold Addr.add; split <;> simp_all
theorem pAt_mk {W : World} {ad : Addr} {len cap m : Nat} (hl : len ≤ cap) (hm : cap ≤ maxLen) (hlm : len ≤ m) {q : Nat → Pr}
    (hq : ∀ i, i < m → W.cell? (ad.add (i * 2)) = some (.int .i64 (q i).1) ∧ W.cell? (ad.add (i * 2 + 1)) = some (.int .u64 ((q i).2 : Nat))) : PAt W (.slice (some ad) len cap) ((List.range len).map q) := by
  have hll : ((List.range len).map q).length = len := by simp
  refine ⟨pVals_length _, some ad, cap, by rw [hll], by rw [hll]; exact hl, hm, (fun e => by cases e), fun j hj => ?_⟩
  rw [pVals_length, hll] at hj
  have hi : j / 2 < len := by omega
  obtain ⟨h1, h2⟩ := hq (j / 2) (by omega)
  obtain ⟨b, off, rfl, hb'⟩ : ∃ b off, ad = ⟨b, off, none⟩ ∧ b < W.heap.size := by
    have h0 := (hq 0 (by omega)).1
    obtain ⟨b, off, e, hb'⟩ := addr_form h0
    cases ad with
    | mk b0 o0 s0 =>
      have hs : s0 = none := by
        have := World.cell?_spot h0
        simpa [Addr.add] using this
      subst hs
      rw [add_plain] at e
      cases e
      exact ⟨_, o0, rfl, hb'⟩
  refine ⟨b, off, rfl, hb', ?_⟩
  have hg := flat_get pCells 2 (fun _ => rfl) ((List.range len).map q) (j / 2) (j % 2) (by rw [hll]; exact hi) (Nat.mod_lt _ (by decide))
  rw [show j / 2 * 2 + j % 2 = j by omega] at hg
  unfold pVals
  rw [hg]
  rw [add_plain] at h1 h2
  simp only [List.getElem_map, List.getElem_range]
  rcases (by omega : j % 2 = 0 ∨ j % 2 = 1) with e | e
  · rw [e, show off + j = off + j / 2 * 2 by omega]
    exact h1
  · rw [e, show off + j = off + (j / 2 * 2 + 1) by omega]
    exact h2
set_option maxRecDepth 100000 in
theorem open_slabs {H : Type} {enc : TypeId × Value → H} {W : World} {base : Nat} {sp : Nat → Bool} {held : Bool} {fuel : Nat} {a : Option Addr} {len cap : Nat} {x : DataW H × List MemPlace}
    (h : DataW.trod enc Try.prog W base sp held fuel 22 [.slice a len cap] = some x) : ∃ l : List Pr, len = l.length ∧ PAt W (.slice a len cap) l := by
  rcases open_slice_pairs Try.underlying22 Try.underlying52 cellsSl rfl rfl cellsI cellsU h with ⟨hcs, _⟩ | ⟨ad, len', cap', m, n, V0, V1, D0, D1, P0, P1, hcs, hb, hl, hm, hmm, _, hx⟩
  · simp at hcs
    obtain ⟨rfl, rfl, rfl⟩ := hcs
    exact ⟨[], rfl, pAt_none _⟩
  · simp at hcs
    obtain ⟨rfl, rfl, rfl⟩ := hcs
    have each : ∀ i, i < m → ∃ q : Pr, W.cell? (ad.add (i * 2)) = some (.int .i64 q.1) ∧ W.cell? (ad.add (i * 2 + 1)) = some (.int .u64 (q.2 : Nat)) := by
      intro i hi
      obtain ⟨h1, h2, h3, h4⟩ := hx i hi
      obtain ⟨z, e2, _⟩ := DataW.trod_int Try.underlying3 h3
      obtain ⟨y, e3, _, hy⟩ := DataW.trod_int Try.underlying39 h4
      simp at e2 e3
      have hy0 := (w64 hy).1
      exact ⟨(z, y.toNat), by rw [h1, e2], by rw [h2, e3, Int.toNat_of_nonneg hy0]⟩
    obtain ⟨q, hq⟩ := choose_lt each
    exact ⟨(List.range len).map q, by simp, pAt_mk hl hm (by rw [hmm]; split <;> omega) hq⟩
set_option maxRecDepth 100000 in
theorem open_ents {H : Type} {enc : TypeId × Value → H} {W : World} {base : Nat} {sp : Nat → Bool} {held : Bool} {fuel : Nat} {a : Option Addr} {len cap : Nat} {x : DataW H × List MemPlace}
    (h : DataW.trod enc Try.prog W base sp held fuel 36 [.slice a len cap] = some x) : ∃ l : List Pr, len = l.length ∧ PAt W (.slice a len cap) l := by
  rcases open_slice_pairs Try.underlying36 Try.underlying41 cellsEn rfl rfl cellsI cellsU h with ⟨hcs, _⟩ | ⟨ad, len', cap', m, n, V0, V1, D0, D1, P0, P1, hcs, hb, hl, hm, hmm, _, hx⟩
  · simp at hcs
    obtain ⟨rfl, rfl, rfl⟩ := hcs
    exact ⟨[], rfl, pAt_none _⟩
  · simp at hcs
    obtain ⟨rfl, rfl, rfl⟩ := hcs
    have each : ∀ i, i < m → ∃ q : Pr, W.cell? (ad.add (i * 2)) = some (.int .i64 q.1) ∧ W.cell? (ad.add (i * 2 + 1)) = some (.int .u64 (q.2 : Nat)) := by
      intro i hi
      obtain ⟨h1, h2, h3, h4⟩ := hx i hi
      obtain ⟨z, e2, _⟩ := DataW.trod_int Try.underlying3 h3
      obtain ⟨y, e3, _, hy⟩ := DataW.trod_int Try.underlying39 h4
      simp at e2 e3
      have hy0 := (w64 hy).1
      exact ⟨(z, y.toNat), by rw [h1, e2], by rw [h2, e3, Int.toNat_of_nonneg hy0]⟩
    obtain ⟨q, hq⟩ := choose_lt each
    exact ⟨(List.range len).map q, by simp, pAt_mk hl hm (by rw [hmm]; split <;> omega) hq⟩
/-- An arena that comes in. -/
structure Arv where
  a : Option Addr
  n : Nat
  c : Nat
  l : List Pr
set_option maxRecDepth 100000 in
theorem open_arena {H : Type} {enc : TypeId × Value → H} {W : World} {r : Reach} {b0 base : Nat} {sp : Nat → Bool} {held : Bool} {v : Value} {d : DataW H} {p : List MemPlace}
    (hv : Value.okWide Try.prog W r b0 24 v) (h : DataW.Trod enc Try.prog W base sp held 24 v d p) : ∃ g : Arv, v = .agg #[.slice g.a g.n g.c] ∧ PAt W (.slice g.a g.n g.c) g.l := by
  obtain ⟨cs, rfl, hcs⟩ := okWide_struct Try.underlying24 hv
  rw [cellsAr] at hcs
  obtain ⟨fuel, hf⟩ := h
  obtain ⟨y0, rfl⟩ : ∃ y0, cs = #[y0] := by
    obtain ⟨l⟩ := cs
    match l, hcs with
    | [y0], _ => exact ⟨y0, rfl⟩
  obtain ⟨xs, k, hk, hxy, _, hxl, hg⟩ := DataW.trod_struct Try.underlying24 hf
  match xs, hxl with
  | [x0], _ =>
    have g0 := hg 0 _ rfl
    simp [cellsSls, Value.cells] at g0
    have hv3 : ∃ a n c, y0 = .slice a n c := by
      rcases open_slice Try.underlying22 g0 with ⟨hcs, _⟩ | ⟨ad, len', cap', m, n, D, Pl, hcs, _⟩
      · simp at hcs
        exact ⟨_, _, _, hcs⟩
      · simp at hcs
        exact ⟨_, _, _, hcs⟩
    obtain ⟨a3, n3, c3, rfl⟩ := hv3
    obtain ⟨l, _, hl⟩ := open_slabs g0
    exact ⟨⟨a3, n3, c3, l⟩, rfl, hl⟩
end Go.Proofs
