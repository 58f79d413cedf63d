/- Rows of numbers, opened (at a seat without their Clone and Equal; on Wa). -/
import Derived.Test.YtdpjmabamjgmkaaWa
namespace Go.Proofs
open Go.ChangeShapes Go.WideShapes Go.RowKit Go.Shelf Go.Deep
attribute [local go_sem] Oper.semAt_some

def intVals (ws : List Int) : List Value := ws.map fun z => Value.int .i64 z
theorem intVals_length (ws : List Int) : (intVals ws).length = ws.length := by simp [intVals]
theorem intVals_one (ws : List Int) : ∀ u ∈ intVals ws, u.oneCell' = true := by
  intro u hu
  obtain ⟨b, _, rfl⟩ := List.mem_map.1 hu
  rfl
theorem intVals_get (ws : List Int) (j : Nat) (h : j < ws.length) : (intVals ws)[j]? = some (.int .i64 (ws[j]?.getD 0)) := by
  simp [intVals, h]
def IntsAt (W : World) (v : Value) (ws : List Int) : Prop := RowAt W v ws.length 1 (intVals ws)
theorem intsAt_get {W : World} {x : Option Addr} {n cap : Nat} {l : List Int} (h : IntsAt W (.slice x n cap) l) (j : Nat) (hj : j < l.length) :
    ∃ b off, x = some ⟨b, off, none⟩ ∧ b < W.heap.size ∧ W.cell? ⟨b, off + j, none⟩ = some (.int .i64 (l[j]?.getD 0)) := by
  obtain ⟨h0, a, cap', e, _, _, _, hc⟩ := h
  cases e
  obtain ⟨b, off, e, hb, h3⟩ := hc j (by rw [intVals_length]; exact hj)
  exact ⟨b, off, e, hb, by rw [h3]; exact intVals_get l j hj⟩
set_option maxRecDepth 100000 in
/-- A row of numbers that came in, opened. -/
theorem open_intRow {H : Type} {enc : TypeId × Value → H} {W : World} {base : Nat} {sp : Nat → Bool} {held : Bool} {fuel : Nat} {a : Option Addr} {len cap : Nat} {x : DataW H × List MemPlace}
    (h : DataW.trod enc Try.prog W base sp held fuel 29 [.slice a len cap] = some x) : ∃ l : List Int, len = l.length ∧ IntsAt W (.slice a len cap) l := by
  rcases open_slice Try.underlying29 h with ⟨hcs, _⟩ | ⟨ad, len', cap', m, n, D, Pl, hcs, hb, hl, hm, hmm, _, hx⟩
  · simp at hcs
    obtain ⟨rfl, rfl, rfl⟩ := hcs
    exact ⟨[], rfl, ⟨rfl, none, 0, rfl, Nat.le_refl _, Nat.zero_le _, fun _ => rfl, fun j hj => by simp [intVals] at hj⟩⟩
  · simp at hcs
    obtain ⟨rfl, rfl, rfl⟩ := hcs
    have hlm : len ≤ m := by rw [hmm]; split <;> omega
    have each : ∀ i, i < m → ∃ q : Int, W.cell? (ad.add i) = some (.int .i64 q) := by
      intro i hi
      obtain ⟨cs', h1, h2⟩ := hx i hi
      rw [cellsI] at h1
      obtain ⟨_, hlen, hcell⟩ := World.cells?_some h1
      obtain ⟨z, rfl, _⟩ := DataW.trod_int Try.underlying3 h2
      refine ⟨z, ?_⟩
      have e := hcell 0 (by omega)
      rw [add_add] at e
      simpa using e
    obtain ⟨q, hq⟩ := choose_lt each
    have hll : ((List.range len).map q).length = len := by simp
    refine ⟨(List.range len).map q, hll.symm, ?_⟩
    refine ⟨by rw [intVals_length, Nat.mul_one], some ad, cap, by rw [hll], by rw [hll]; exact hl, hm, (fun e => by cases e), fun j hj => ?_⟩
    rw [intVals_length, hll] at hj
    have hc := hq j (by omega)
    obtain ⟨b, off, spot⟩ := ad
    have hspot : spot = none := by
      have h00 := hq 0 (by omega)
      simpa [Addr.add] using World.cell?_spot h00
    subst hspot
    have hadd : (⟨b, off, none⟩ : Addr).add j = ⟨b, off + j, none⟩ := by unfold Addr.add; split <;> simp_all
    rw [hadd] at hc
    refine ⟨b, off, rfl, ?_, ?_⟩
    · rcases Nat.lt_or_ge b W.heap.size with hq | hq
      · exact hq
      · simp [World.cell?, Array.getElem?_eq_none hq] at hc
    · rw [hc, intVals_get _ j (by rw [hll]; exact hj)]
      simp [hj]
end Go.Proofs
