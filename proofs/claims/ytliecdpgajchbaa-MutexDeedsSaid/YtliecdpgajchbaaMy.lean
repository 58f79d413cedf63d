/- Arguments, opened: mutexes, deeds. -/
import Derived.Test.YtliecdpgajchbaaMx
import Derived.Deep.SlicePairs
import Derived.ShutString
import Derived.ChangeOld
import Derived.Test.YtliecdpgajchbaaRows
namespace Go.Proofs
open Go.ChangeShapes Go.WideShapes Go.RowKit Go.Shelf Go.Deep

theorem cellsMx : Try.prog.cellsOf 53 = 2 := by kernel_rfl
theorem cellsRow : Try.prog.cellsOf 23 = 1 := by kernel_rfl
theorem cellsDd : Try.prog.cellsOf 42 = 3 := by kernel_rfl
theorem cellsB : Try.prog.cellsOf 4 = 1 := by kernel_rfl
/-- A row's value is a slice. -/
theorem open_intVal {H : Type} {enc : TypeId × Value → H} {W : World} {base : Nat} {sp : Nat → Bool} {held : Bool} {fuel : Nat} {v : Value} {x : DataW H × List MemPlace}
    (h : DataW.trod enc Try.prog W base sp held fuel 23 [v] = some x) : ∃ a c, ∃ l : List Int, v = .slice a l.length c ∧ IntsAt W (.slice a l.length c) l := by
  have hv : ∃ a n c, v = .slice a n c := by
    rcases open_slice Try.underlying23 h with ⟨hcs, _⟩ | ⟨ad, len', cap', m, n, D, Pl, hcs, _⟩
    · simp at hcs
      exact ⟨_, _, _, hcs⟩
    · simp at hcs
      exact ⟨_, _, _, hcs⟩
  obtain ⟨a, n, c, rfl⟩ := hv
  obtain ⟨l, rfl, hl⟩ := open_intRow h
  exact ⟨a, c, l, rfl, hl⟩
theorem addr_form {W : World} {ad : Addr} {v : Value} (h : W.cell? ad = some v) : ∃ b off, ad = ⟨b, off, none⟩ ∧ b < W.heap.size := by
  obtain ⟨b, off, spot⟩ := ad
  have hspot : spot = none := World.cell?_spot h
  subst hspot
  refine ⟨b, off, rfl, ?_⟩
  rcases Nat.lt_or_ge b W.heap.size with hq | hq
  · exact hq
  · simp [World.cell?, Array.getElem?_eq_none hq] at h
theorem add_plain (b off j : Nat) : (⟨b, off, none⟩ : Addr).add j = ⟨b, off + j, none⟩ := by unfold Addr.add; split <;> simp_all

set_option maxRecDepth 100000 in
/-- A row of mutexes that came in, opened. -/
theorem open_mxs {H : Type} {enc : TypeId × Value → H} {W : World} {base : Nat} {sp : Nat → Bool} {held : Bool} {fuel : Nat} {a : Option Addr} {len cap : Nat} {x : DataW H × List MemPlace}
    (h : DataW.trod enc Try.prog W base sp held fuel 22 [.slice a len cap] = some x) : ∃ l : List Mx, len = l.length ∧ MxAt W (.slice a len cap) l := by
  rcases open_slice_pairs Try.underlying22 Try.underlying53 cellsMx rfl rfl cellsI cellsRow h with ⟨hcs, _⟩ | ⟨ad, len', cap', m, n, V0, V1, D0, D1, P0, P1, hcs, hb, hl, hm, hmm, _, hx⟩
  · simp at hcs
    obtain ⟨rfl, rfl, rfl⟩ := hcs
    exact ⟨[], rfl, mxAt_none _⟩
  · simp at hcs
    obtain ⟨rfl, rfl, rfl⟩ := hcs
    have hlm : len ≤ m := by rw [hmm]; split <;> omega
    have each : ∀ i, i < m → ∃ q : Mx, ∃ a' c', W.cell? (ad.add (i * 2)) = some (.int .i64 q.own) ∧ W.cell? (ad.add (i * 2 + 1)) = some (.slice a' q.q.length c') ∧ IntsAt W (.slice a' q.q.length c') q.q := by
      intro i hi
      obtain ⟨h1, h2, h3, h4⟩ := hx i hi
      obtain ⟨a', c', l, e, hl⟩ := open_intVal h4
      obtain ⟨z, e2, _⟩ := DataW.trod_int Try.underlying3 h3
      simp at e2
      exact ⟨⟨z, l⟩, a', c', by rw [h1, e2], by rw [h2, e], hl⟩
    obtain ⟨q, hq⟩ := choose_lt each
    have hll : ((List.range len).map q).length = len := by simp
    refine ⟨(List.range len).map q, hll.symm, ?_⟩
    have hval : ∀ i, i < m → ∃ u : Value × Value, W.cell? (ad.add (i * 2)) = some u.1 ∧ W.cell? (ad.add (i * 2 + 1)) = some u.2 ∧ ∃ a' c', u.1 = .int .i64 (q i).own ∧ u.2 = .slice a' (q i).q.length c' ∧ IntsAt W (.slice a' (q i).q.length c') (q i).q := by
      intro i hi
      obtain ⟨a', c', h1, h2, h3⟩ := hq i hi
      exact ⟨(_, _), h1, h2, a', c', rfl, rfl, h3⟩
    haveI : Inhabited (Value × Value) := ⟨(undef, undef)⟩
    obtain ⟨u, hu⟩ := choose_lt hval
    have hfl := flat_length (fun k : Nat => [(u k).1, (u k).2]) 2 (fun _ => rfl) (List.range len)
    have hfg := fun i r (hi : i < len) (hr : r < 2) => flat_get (fun k : Nat => [(u k).1, (u k).2]) 2 (fun _ => rfl) (List.range len) i r (by rw [List.length_range]; exact hi) hr
    rw [List.length_range] at hfl
    refine ⟨(List.range len).flatMap fun k => [(u k).1, (u k).2], ⟨by rw [hfl, hll], some ad, cap, by rw [hll], by rw [hll]; exact hl, hm, (fun e => by cases e), fun j hj => ?_⟩, fun i hi => ?_⟩
    · rw [hfl] at hj
      have hi : j / 2 < len := by omega
      have hr : j % 2 < 2 := Nat.mod_lt _ (by decide)
      obtain ⟨h1, h2, _⟩ := hu (j / 2) (by omega)
      obtain ⟨b, off, rfl, hb'⟩ : ∃ b off, ad = ⟨b, off, none⟩ ∧ b < W.heap.size := by
        have h0 := (hu 0 (by omega)).1
        obtain ⟨b, off, e, hb'⟩ := addr_form h0
        cases ad with
        | mk b0 o0 s0 =>
          have hs : s0 = none := by
            have := World.cell?_spot h0
            simpa [Addr.add] using this
          subst hs
          rw [add_plain] at e
          cases e
          exact ⟨_, o0, rfl, hb'⟩
      refine ⟨b, off, rfl, hb', ?_⟩
      have hg := hfg (j / 2) (j % 2) hi hr
      rw [show j / 2 * 2 + j % 2 = j by omega] at hg
      rw [hg]
      simp only [List.getElem_range]
      rw [add_plain] at h1 h2
      rcases (by omega : j % 2 = 0 ∨ j % 2 = 1) with e | e
      · rw [e, show off + j = off + j / 2 * 2 by omega]
        exact h1
      · rw [e, show off + j = off + (j / 2 * 2 + 1) by omega]
        exact h2
    · rw [hll] at hi
      obtain ⟨_, _, a', c', e1, e2, h3⟩ := hu i (by omega)
      have g0 := hfg i 0 hi (by decide)
      have g1 := hfg i 1 hi (by decide)
      simp only [List.getElem_range] at g0 g1
      rw [Nat.add_zero] at g0
      have eg : ((List.range len).map q)[i]'(by rw [hll]; exact hi) = q i := by simp
      rw [eg]
      exact ⟨a', c', by rw [g0]; simp [e1], by rw [g1]; simp [e2], h3⟩


set_option maxRecDepth 100000 in
/-- One deed, out of its three cells. -/
theorem open_deed {H : Type} {enc : TypeId × Value → H} {W : World} {base : Nat} {sp : Nat → Bool} {held : Bool} {fuel : Nat} {cs : List Value} {x : DataW H × List MemPlace} (hl : cs.length = 3)
    (h : DataW.trod enc Try.prog W base sp held fuel 42 cs = some x) : ∃ a : Dd, cs = [.bool a.lv, .int .i64 a.goer, .int .i64 a.which] := by
  obtain ⟨xs, k, hk, hxy, _, hxl, hf⟩ := DataW.trod_struct Try.underlying42 h
  match xs, hxl, cs, hl with
  | [y0, y1, y2], _, [v0, v1, v2], _ =>
    have g0 := hf 0 _ rfl
    have g1 := hf 1 _ rfl
    have g2 := hf 2 _ rfl
    simp [cellsI, cellsB] at g0 g1 g2
    obtain ⟨z0, e0, _⟩ := DataW.trod_bool Try.underlying4 g0
    obtain ⟨z1, e1, _, _⟩ := DataW.trod_int Try.underlying3 g1
    obtain ⟨z2, e2, _, _⟩ := DataW.trod_int Try.underlying3 g2
    simp at e0 e1 e2
    subst e0 e1 e2
    exact ⟨⟨z0, z1, z2⟩, rfl⟩

set_option maxRecDepth 100000 in
theorem open_deeds {H : Type} {enc : TypeId × Value → H} {W : World} {base : Nat} {sp : Nat → Bool} {held : Bool} {fuel : Nat} {a : Option Addr} {len cap : Nat} {x : DataW H × List MemPlace}
    (h : DataW.trod enc Try.prog W base sp held fuel 39 [.slice a len cap] = some x) : ∃ l : List Dd, len = l.length ∧ DdAt W (.slice a len cap) l := by
  rcases open_slice Try.underlying39 h with ⟨hcs, _⟩ | ⟨ad, len', cap', m, n, D, Pl, hcs, hb, hl, hm, hmm, _, hx⟩
  · simp at hcs
    obtain ⟨rfl, rfl, rfl⟩ := hcs
    exact ⟨[], rfl, ⟨rfl, none, 0, rfl, Nat.le_refl _, Nat.zero_le _, fun _ => rfl, fun j hj => by simp [DdVals] at hj⟩⟩
  · simp at hcs
    obtain ⟨rfl, rfl, rfl⟩ := hcs
    have hlm : len ≤ m := by rw [hmm]; split <;> omega
    have each : ∀ i, i < m → ∃ q : Dd, ∀ r, r < 3 → W.cell? (ad.add (i * 3 + r)) = [Value.bool q.lv, .int .i64 q.goer, .int .i64 q.which][r]? := by
      intro i hi
      obtain ⟨cs', h1, h2⟩ := hx i hi
      rw [cellsDd] at h1
      obtain ⟨_, hlen, hcell⟩ := World.cells?_some h1
      obtain ⟨q, rfl⟩ := open_deed hlen h2
      refine ⟨q, fun r hr => ?_⟩
      have e := hcell r hr
      rw [add_add] at e
      exact e
    obtain ⟨q, hq⟩ := choose_lt each
    have hll : ((List.range len).map q).length = len := by simp
    refine ⟨(List.range len).map q, hll.symm, ?_⟩
    refine ⟨by rw [ddVals_length], some ad, cap, by rw [hll], by rw [hll]; exact hl, hm, (fun e => by cases e), fun j hj => ?_⟩
    rw [ddVals_length, hll] at hj
    have hi : j / 3 < len := by omega
    have hr : j % 3 < 3 := Nat.mod_lt _ (by decide)
    have hc := hq (j / 3) (by omega) (j % 3) hr
    have hg := flat_get (fun d : Dd => [Value.bool d.lv, .int .i64 d.goer, .int .i64 d.which]) 3 (fun _ => rfl) ((List.range len).map q) (j / 3) (j % 3) (by rw [hll]; exact hi) hr
    have ej : j / 3 * 3 + j % 3 = j := by omega
    rw [ej] at hc hg
    rw [List.getElem_map, List.getElem_range] at hg
    have hv : [Value.bool (q (j / 3)).lv, .int .i64 (q (j / 3)).goer, .int .i64 (q (j / 3)).which][j % 3]? = some ([Value.bool (q (j / 3)).lv, .int .i64 (q (j / 3)).goer, .int .i64 (q (j / 3)).which][j % 3]'(by simpa using hr)) := List.getElem?_eq_getElem _
    obtain ⟨b, off, spot⟩ := ad
    rw [hv] at hc
    have hspot : spot = none := by
      have h00 := hq 0 (by omega) 0 (by decide)
      have h01 : W.cell? ((⟨b, off, spot⟩ : Addr).add 0) = some (.bool (q 0).lv) := h00
      simpa [Addr.add] using World.cell?_spot h01
    subst hspot
    have hadd : (⟨b, off, none⟩ : Addr).add j = ⟨b, off + j, none⟩ := by unfold Addr.add; split <;> simp_all
    rw [hadd] at hc
    refine ⟨b, off, rfl, ?_, ?_⟩
    · rcases Nat.lt_or_ge b W.heap.size with hq | hq
      · exact hq
      · simp [World.cell?, Array.getElem?_eq_none hq] at hc
    · rw [hc]
      unfold DdVals
      rw [hg, hv]
end Go.Proofs
