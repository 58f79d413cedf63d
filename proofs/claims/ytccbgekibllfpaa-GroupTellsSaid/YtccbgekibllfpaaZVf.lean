/- Group: rows of slots that come in. -/
import Derived.Test.YtccbgekibllfpaaZTw
import Derived.Deep.SlicePairs
import Derived.WideShapes
namespace Go.Proofs
set_option maxRecDepth 100000
open Go.RowKit Go.Shelf Go.Deep
attribute [local go_sem] Oper.semAt_some

def slCells (s : Sl) : List Value := [.int .u64 (s.key : Nat), .int .u64 (s.val : Nat), .int .u8 (s.h2 : Nat)]
def SlotsK (W : World) (v : Value) (l : List Sl) : Prop := RowAt W v l.length 3 (slotVals l) ∧ ∀ s ∈ l, s.h2 < 256
theorem open_sl {H : Type} {enc : TypeId × Value → H} {W : World} {base : Nat} {sp : Nat → Bool} {held : Bool} {fuel : Nat} {cs : List Value} {x : DataW H × List MemPlace} (hl : cs.length = 3)
    (h : DataW.trod enc Try.prog W base sp held fuel 38 cs = some x) : ∃ s : Sl, cs = slCells s ∧ s.h2 < 256 := by
  obtain ⟨xs, k, hk, hxy, _, hxl, hf⟩ := DataW.trod_struct Try.underlying38 h
  match xs, hxl, cs, hl with
  | [y0, y1, y2], _, [v0, v1, v2], _ =>
    have u0 := hf 0 _ rfl
    have u1 := hf 1 _ rfl
    have u2 := hf 2 _ rfl
    simp [cellsU, cellsB] at u0 u1 u2
    obtain ⟨a0, f0, _, w0⟩ := DataW.trod_int Try.underlying22 u0
    obtain ⟨a1, f1, _, w1⟩ := DataW.trod_int Try.underlying22 u1
    obtain ⟨a2, f2, _, w2⟩ := DataW.trod_int Try.underlying5 u2
    simp at f0 f1 f2
    subst f0 f1 f2
    have b0 := wf64 w0
    have b1 := wf64 w1
    have b2 := wf8 w2
    obtain ⟨n0, rfl⟩ := Int.eq_ofNat_of_zero_le b0.1
    obtain ⟨n1, rfl⟩ := Int.eq_ofNat_of_zero_le b1.1
    obtain ⟨n2, rfl⟩ := Int.eq_ofNat_of_zero_le b2.1
    exact ⟨⟨n0, n1, n2⟩, rfl, by show n2 < 256; omega⟩
theorem open_slots {H : Type} {enc : TypeId × Value → H} {W : World} {base : Nat} {sp : Nat → Bool} {held : Bool} {fuel : Nat} {a : Option Addr} {len cap : Nat} {x : DataW H × List MemPlace}
    (h : DataW.trod enc Try.prog W base sp held fuel 26 [.slice a len cap] = some x) : ∃ l : List Sl, len = l.length ∧ SlotsK W (.slice a len cap) l := by
  rcases open_slice Try.underlying26 h with ⟨hcs, _⟩ | ⟨ad, len', cap', m, n, D, Pl, hcs, hb, hl, hm, hmm, _, hx⟩
  · simp at hcs
    obtain ⟨rfl, rfl, rfl⟩ := hcs
    exact ⟨[], rfl, ⟨rfl, none, 0, rfl, Nat.le_refl _, Nat.zero_le _, fun _ => rfl, fun j hj => by simp [slotVals] at hj⟩, fun t ht => by cases ht⟩
  · simp at hcs
    obtain ⟨rfl, rfl, rfl⟩ := hcs
    have hlm : len ≤ m := by rw [hmm]; split <;> omega
    have each : ∀ i, i < m → ∃ q : Sl, (∀ r, r < 3 → W.cell? (ad.add (i * 3 + r)) = (slCells q)[r]?) ∧ q.h2 < 256 := by
      intro i hi
      obtain ⟨cs', h1, h2⟩ := hx i hi
      rw [cellsS] at h1
      obtain ⟨_, hlen, hcell⟩ := World.cells?_some h1
      obtain ⟨q, rfl, hq⟩ := open_sl hlen h2
      refine ⟨q, fun r hr => ?_, hq⟩
      have e := hcell r hr
      rw [add_add] at e
      exact e
    haveI : Inhabited Sl := ⟨⟨0, 0, 0⟩⟩
    obtain ⟨q, hq⟩ := choose_lt each
    have hll : ((List.range len).map q).length = len := by simp
    refine ⟨(List.range len).map q, hll.symm, ?_, fun t ht => ?_⟩
    rotate_left
    · obtain ⟨i, hi, rfl⟩ := List.mem_map.1 ht
      exact (hq i (by have := List.mem_range.1 hi; omega)).2
    refine ⟨by rw [slotVals_length], some ad, cap, by rw [hll], by rw [hll]; exact hl, hm, (fun e => by cases e), fun j hj => ?_⟩
    rw [slotVals_length, hll] at hj
    have hi : j / 3 < len := by omega
    have hr : j % 3 < 3 := Nat.mod_lt _ (by decide)
    have hc := (hq (j / 3) (by omega)).1 (j % 3) hr
    have hg := flat_get slCells 3 (fun _ => rfl) ((List.range len).map q) (j / 3) (j % 3) (by rw [hll]; exact hi) hr
    have ej : j / 3 * 3 + j % 3 = j := by omega
    rw [ej] at hc hg
    rw [List.getElem_map, List.getElem_range] at hg
    have hv : (slCells (q (j / 3)))[j % 3]? = some ((slCells (q (j / 3)))[j % 3]'(by simpa [slCells] using hr)) := List.getElem?_eq_getElem _
    obtain ⟨b, off, spot⟩ := ad
    rw [hv] at hc
    have hspot : spot = none := by
      have h00 := (hq 0 (by omega)).1 0 (by decide)
      have h01 : W.cell? ((⟨b, off, spot⟩ : Addr).add 0) = some (.int .u64 ((q 0).key : Nat)) := h00
      simpa [Addr.add] using World.cell?_spot h01
    subst hspot
    have hadd : (⟨b, off, none⟩ : Addr).add j = ⟨b, off + j, none⟩ := by unfold Addr.add; split <;> simp_all
    rw [hadd] at hc
    refine ⟨b, off, rfl, ?_, ?_⟩
    · rcases Nat.lt_or_ge b W.heap.size with hq | hq
      · exact hq
      · simp [World.cell?, Array.getElem?_eq_none hq] at hc
    · rw [hc]
      have e2 : slotVals ((List.range len).map q) = ((List.range len).map q).flatMap slCells := rfl
      rw [e2, hg, hv]
end Go.Proofs
