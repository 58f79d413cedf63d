/- Limbo: arguments, opened; what the listed variable says. -/
import Derived.Test.YtghnfiegihfdnaaDoorLt
import Derived.ProofKit
import Derived.ChangeAt
import Derived.JoinedAt
import Derived.LaidMore
import Derived.Lay
import Derived.Test.YtghnfiegihfdnaaDoorRows
namespace Go.Proofs
open Go.ChangeShapes Go.WideShapes Go.RowKit Go.Shelf Go.Deep

theorem cellsI : Tryd.prog.cellsOf 3 = 1 := by kernel_rfl
theorem cellsU : Tryd.prog.cellsOf 22 = 1 := by kernel_rfl
theorem cellsEn : Tryd.prog.cellsOf 38 = 2 := by kernel_rfl
theorem cellsLm : Tryd.prog.cellsOf 26 = 4 := by kernel_rfl
theorem cellsA3 : Tryd.prog.cellsOf 24 = 3 := by kernel_rfl
theorem cellsRow : Tryd.prog.cellsOf 23 = 1 := by kernel_rfl
theorem w64 {z : Int} (h : (Lit.int .u64 z).wf = true) : 0 ≤ z ∧ z < 18446744073709551616 := by
  simp [Lit.wf] at h
  have h1 : IntKind.u64.min = 0 := rfl
  have h2 : IntKind.u64.max = 18446744073709551615 := rfl
  omega
theorem addr_form {W : World} {ad : Addr} {v : Value} (h : W.cell? ad = some v) : ∃ b off, ad = ⟨b, off, none⟩ ∧ b < W.heap.size := by
  obtain ⟨b, off, spot⟩ := ad
  have hspot : spot = none := World.cell?_spot h
  subst hspot
  refine ⟨b, off, rfl, ?_⟩
  rcases Nat.lt_or_ge b W.heap.size with hq | hq
  · exact hq
  · simp [World.cell?, Array.getElem?_eq_none hq] at h
theorem add_plain (b off j : Nat) : (⟨b, off, none⟩ : Addr).add j = ⟨b, off + j, none⟩ := by unfold Addr.add; split <;> simp_all
theorem pAt_mk {W : World} {ad : Addr} {len cap m : Nat} (hl : len ≤ cap) (hm : cap ≤ maxLen) (hlm : len ≤ m) {q : Nat → Pr}
    (hq : ∀ i, i < m → W.cell? (ad.add (i * 2)) = some (.int .i64 (q i).1) ∧ W.cell? (ad.add (i * 2 + 1)) = some (.int .u64 ((q i).2 : Nat))) : PAt W (.slice (some ad) len cap) ((List.range len).map q) := by
  have hll : ((List.range len).map q).length = len := by simp
  refine ⟨pVals_length _, some ad, cap, by rw [hll], by rw [hll]; exact hl, hm, (fun e => by cases e), fun j hj => ?_⟩
  rw [pVals_length, hll] at hj
  have hi : j / 2 < len := by omega
  obtain ⟨h1, h2⟩ := hq (j / 2) (by omega)
  obtain ⟨b, off, rfl, hb'⟩ : ∃ b off, ad = ⟨b, off, none⟩ ∧ b < W.heap.size := by
    have h0 := (hq 0 (by omega)).1
    obtain ⟨b, off, e, hb'⟩ := addr_form h0
    cases ad with
    | mk b0 o0 s0 =>
      have hs : s0 = none := by
        have := World.cell?_spot h0
        simpa [Addr.add] using this
      subst hs
      rw [add_plain] at e
      cases e
      exact ⟨_, o0, rfl, hb'⟩
  refine ⟨b, off, rfl, hb', ?_⟩
  have hg := flat_get pCells 2 (fun _ => rfl) ((List.range len).map q) (j / 2) (j % 2) (by rw [hll]; exact hi) (Nat.mod_lt _ (by decide))
  rw [show j / 2 * 2 + j % 2 = j by omega] at hg
  unfold pVals
  rw [hg]
  rw [add_plain] at h1 h2
  simp only [List.getElem_map, List.getElem_range]
  rcases (by omega : j % 2 = 0 ∨ j % 2 = 1) with e | e
  · rw [e, show off + j = off + j / 2 * 2 by omega]
    exact h1
  · rw [e, show off + j = off + (j / 2 * 2 + 1) by omega]
    exact h2
set_option maxRecDepth 100000 in
theorem open_ents {H : Type} {enc : TypeId × Value → H} {W : World} {base : Nat} {sp : Nat → Bool} {held : Bool} {fuel : Nat} {a : Option Addr} {len cap : Nat} {x : DataW H × List MemPlace}
    (h : DataW.trod enc Tryd.prog W base sp held fuel 23 [.slice a len cap] = some x) : ∃ l : List Pr, len = l.length ∧ PAt W (.slice a len cap) l := by
  rcases open_slice_pairs Tryd.underlying23 Tryd.underlying38 cellsEn rfl rfl cellsI cellsU h with ⟨hcs, _⟩ | ⟨ad, len', cap', m, n, V0, V1, D0, D1, P0, P1, hcs, hb, hl, hm, hmm, _, hx⟩
  · simp at hcs
    obtain ⟨rfl, rfl, rfl⟩ := hcs
    exact ⟨[], rfl, pAt_none _⟩
  · simp at hcs
    obtain ⟨rfl, rfl, rfl⟩ := hcs
    have each : ∀ i, i < m → ∃ q : Pr, W.cell? (ad.add (i * 2)) = some (.int .i64 q.1) ∧ W.cell? (ad.add (i * 2 + 1)) = some (.int .u64 (q.2 : Nat)) := by
      intro i hi
      obtain ⟨h1, h2, h3, h4⟩ := hx i hi
      obtain ⟨z, e2, _⟩ := DataW.trod_int Tryd.underlying3 h3
      obtain ⟨y, e3, _, hy⟩ := DataW.trod_int Tryd.underlying22 h4
      simp at e2 e3
      have hy0 := (w64 hy).1
      exact ⟨(z, y.toNat), by rw [h1, e2], by rw [h2, e3, Int.toNat_of_nonneg hy0]⟩
    obtain ⟨q, hq⟩ := choose_lt each
    exact ⟨(List.range len).map q, by simp, pAt_mk hl hm (by rw [hmm]; split <;> omega) hq⟩
def intVals (ws : List Int) : List Value := ws.map fun z => Value.int .i64 z
theorem intVals_length (ws : List Int) : (intVals ws).length = ws.length := by simp [intVals]
theorem intVals_one (ws : List Int) : ∀ u ∈ intVals ws, u.oneCell' = true := by
  intro u hu
  obtain ⟨b, _, rfl⟩ := List.mem_map.1 hu
  rfl
theorem intVals_get (ws : List Int) (j : Nat) (h : j < ws.length) : (intVals ws)[j]? = some (.int .i64 (ws[j]?.getD 0)) := by
  simp [intVals, h]
def IntsAt (W : World) (v : Value) (ws : List Int) : Prop := RowAt W v ws.length 1 (intVals ws)
def OwnsInts (n₀ : Nat) (ws : List Int) (v : Value) (W : World) : Prop := W.ownsRow n₀ 3 1 v ws.length (intVals ws)
def IntsQ (ws : List Int) (w : World) (e : Ending) (w' : World) : Prop := ∃ v, e = .returned v ∧ OwnsInts w.heap.size ws v w' ∧ Below w.heap.size w w'
theorem Tryd.infoInt : (Tryd.prog.info? 3).map (fun i => (i.zero, i.size, i.bytes)) = some (some (.int .i64 0), 1, 8) := by kernel_rfl
theorem intsAt_get {W : World} {x : Option Addr} {n cap : Nat} {l : List Int} (h : IntsAt W (.slice x n cap) l) (j : Nat) (hj : j < l.length) :
    ∃ b off, x = some ⟨b, off, none⟩ ∧ b < W.heap.size ∧ W.cell? ⟨b, off + j, none⟩ = some (.int .i64 (l[j]?.getD 0)) := by
  obtain ⟨h0, a, cap', e, _, _, _, hc⟩ := h
  cases e
  obtain ⟨b, off, e, hb, h3⟩ := hc j (by rw [intVals_length]; exact hj)
  exact ⟨b, off, e, hb, by rw [h3]; exact intVals_get l j hj⟩
theorem ints_cut {W : World} {a : Option Addr} {n cap : Nat} {ws : List Int} (hn : n = ws.length) (h : IntsAt W (.slice a n cap) ws) (m : Nat) (hm : m ≤ n) : IntsAt W (.slice a m cap) (ws.take m) := by
  subst hn
  have h1 := RowAt.cut h m hm
  unfold IntsAt
  have e : (ws.take m).length = m := by rw [List.length_take]; omega
  rw [e]
  have e2 : intVals (ws.take m) = (intVals ws).take (m * 1) := by rw [Nat.mul_one]; simp [intVals]
  rw [e2]
  exact h1
set_option maxRecDepth 100000 in
theorem open_intRow {H : Type} {enc : TypeId × Value → H} {W : World} {base : Nat} {sp : Nat → Bool} {held : Bool} {fuel : Nat} {a : Option Addr} {len cap : Nat} {x : DataW H × List MemPlace}
    (h : DataW.trod enc Tryd.prog W base sp held fuel 27 [.slice a len cap] = some x) : ∃ l : List Int, len = l.length ∧ IntsAt W (.slice a len cap) l := by
  rcases open_slice Tryd.underlying27 h with ⟨hcs, _⟩ | ⟨ad, len', cap', m, n, D, Pl, hcs, hb, hl, hm, hmm, _, hx⟩
  · simp at hcs
    obtain ⟨rfl, rfl, rfl⟩ := hcs
    exact ⟨[], rfl, ⟨rfl, none, 0, rfl, Nat.le_refl _, Nat.zero_le _, fun _ => rfl, fun j hj => by simp [intVals] at hj⟩⟩
  · simp at hcs
    obtain ⟨rfl, rfl, rfl⟩ := hcs
    have hlm : len ≤ m := by rw [hmm]; split <;> omega
    have each : ∀ i, i < m → ∃ q : Int, W.cell? (ad.add i) = some (.int .i64 q) := by
      intro i hi
      obtain ⟨cs', h1, h2⟩ := hx i hi
      rw [cellsI] at h1
      obtain ⟨_, hlen, hcell⟩ := World.cells?_some h1
      obtain ⟨z, rfl, _⟩ := DataW.trod_int Tryd.underlying3 h2
      refine ⟨z, ?_⟩
      have e := hcell 0 (by omega)
      rw [add_add] at e
      simpa using e
    obtain ⟨q, hq⟩ := choose_lt each
    have hll : ((List.range len).map q).length = len := by simp
    refine ⟨(List.range len).map q, hll.symm, ?_⟩
    refine ⟨by rw [intVals_length, Nat.mul_one], some ad, cap, by rw [hll], by rw [hll]; exact hl, hm, (fun e => by cases e), fun j hj => ?_⟩
    rw [intVals_length, hll] at hj
    have hc := hq j (by omega)
    obtain ⟨b, off, spot⟩ := ad
    have hspot : spot = none := by
      have h00 := hq 0 (by omega)
      simpa [Addr.add] using World.cell?_spot h00
    subst hspot
    have hadd : (⟨b, off, none⟩ : Addr).add j = ⟨b, off + j, none⟩ := by unfold Addr.add; split <;> simp_all
    rw [hadd] at hc
    refine ⟨b, off, rfl, ?_, ?_⟩
    · rcases Nat.lt_or_ge b W.heap.size with hq | hq
      · exact hq
      · simp [World.cell?, Array.getElem?_eq_none hq] at hc
    · rw [hc, intVals_get _ j (by rw [hll]; exact hj)]
      simp [hj]
/-- A limbo that comes in. -/
structure Lmv where
  e : Nat
  s : Ls
  r : Rw3
set_option maxRecDepth 100000 in
theorem open_limbo {H : Type} {enc : TypeId × Value → H} {W : World} {r : Reach} {b0 base : Nat} {sp : Nat → Bool} {held : Bool} {v : Value} {d : DataW H} {p : List MemPlace}
    (hv : Value.okWide Tryd.prog W r b0 26 v) (h : DataW.Trod enc Tryd.prog W base sp held 26 v d p) :
    ∃ g : Lmv, v = .agg #[.int .u64 (g.e : Nat), .slice (g.s.a 0) (g.s.n 0) (g.s.c 0), .slice (g.s.a 1) (g.s.n 1) (g.s.c 1), .slice (g.s.a 2) (g.s.n 2) (g.s.c 2)] ∧ LAt W g.s g.r ∧ g.e < 18446744073709551616 ∧ g.r 3 = [] := by
  obtain ⟨ys, rfl, hys⟩ := okWide_struct Tryd.underlying26 hv
  rw [cellsLm] at hys
  obtain ⟨fuel, hf⟩ := h
  obtain ⟨y0, y1, y2, y3, rfl⟩ : ∃ y0 y1 y2 y3, ys = #[y0, y1, y2, y3] := by
    obtain ⟨l⟩ := ys
    match l, hys with
    | [y0, y1, y2, y3], _ => exact ⟨y0, y1, y2, y3, rfl⟩
  obtain ⟨xs, m, hm, hx, hlen, hxl, hel⟩ := DataW.trod_struct Tryd.underlying26 hf
  match xs, hxl with
  | [x0, x1], _ =>
    have e0 := hel 0 _ rfl
    have e1 := hel 1 _ rfl
    simp [cellsU, cellsA3, Value.cells] at e0 e1
    obtain ⟨z, ez, _, wz⟩ := DataW.trod_int Tryd.underlying22 e0
    simp at ez
    subst ez
    obtain ⟨xs', m', _, _, _, hxl', hel'⟩ := DataW.trod_array Tryd.underlying24 e1
    obtain ⟨q0, q1, q2, rfl⟩ : ∃ q0 q1 q2, xs' = [q0, q1, q2] := by
      match xs', hxl' with
      | [q0, q1, q2], _ => exact ⟨q0, q1, q2, rfl⟩
    have one : ∀ {y : Value} {mm : Nat} {d : DataW H} {q : List MemPlace}, DataW.trod enc Tryd.prog W base sp held mm 23 [y] = some (d, q) → ∃ a n c, ∃ l : List Pr, y = .slice a n c ∧ PAt W (.slice a n c) l := by
      intro y mm d q hy
      have hv3 : ∃ a n c, y = .slice a n c := by
        rcases open_slice Tryd.underlying23 hy with ⟨hcs, _⟩ | ⟨ad, len', cap', m, n, D, Pl, hcs, _⟩
        · simp at hcs
          exact ⟨_, _, _, hcs⟩
        · simp at hcs
          exact ⟨_, _, _, hcs⟩
      obtain ⟨a, n, c, rfl⟩ := hv3
      obtain ⟨l, _, hl⟩ := open_ents hy
      exact ⟨a, n, c, l, rfl, hl⟩
    have g0 := hel' 0 (by decide)
    have g1 := hel' 1 (by decide)
    have g2 := hel' 2 (by decide)
    rw [cellsRow] at g0 g1 g2
    obtain ⟨a0, n0, c0, l0, rfl, p0⟩ := one g0
    obtain ⟨a1, n1, c1, l1, rfl, p1⟩ := one g1
    obtain ⟨a2, n2, c2, l2, rfl, p2⟩ := one g2
    have hw := w64 wz
    obtain ⟨c, rfl⟩ : ∃ c : Nat, z = c := ⟨z.toNat, by rw [Int.toNat_of_nonneg (by omega)]⟩
    refine ⟨⟨c, ⟨fun k => [a0, a1, a2].getD k none, fun k => [n0, n1, n2].getD k 0, fun k => [c0, c1, c2].getD k 0⟩, fun k => [l0, l1, l2].getD k []⟩, rfl, ?_, by show c < _; omega, rfl⟩
    intro k hk
    rcases (by omega : k = 0 ∨ k = 1 ∨ k = 2) with rfl | rfl | rfl
    · exact p0
    · exact p1
    · exact p2

theorem gOn : Tryd.prog.globalNamed "honeycomb/honeycomblaw14.on" = some 0 := by kernel_rfl
theorem tOn : (Tryd.prog.globals[0]?).map (·.type) = some 38 := by kernel_rfl
set_option maxRecDepth 100000 in
/-- What the condition on the listed variable gives. -/
theorem of_laid {W : World} (h : laidMetH Tryd.prog [("honeycomb/honeycomblaw14.on", YtghnfiegihfdnaaDoor.Rows.laid_honeycomb_honeycomblaw14_on)] W) : OnAt W := by
  rw [MakeChecks.laidMetH_plain _ _ _ (by kernel_rfl)] at h
  obtain ⟨ps, ⟨g, t, cs, fuel, p, q, hg, ht, hv, hd, _, _⟩, _, _⟩ := h
  obtain rfl := Option.some.inj (gOn.symm.trans hg)
  obtain rfl := Option.some.inj (tOn.symm.trans ht)
  obtain ⟨xs, m, hm, hx, hlen, hxl, hel⟩ := DataW.trod_struct Tryd.underlying38 hd
  match xs, hxl with
  | [x0, x1], _ =>
    have e0 := hel 0 _ rfl
    have e1 := hel 1 _ rfl
    simp [cellsI, cellsU] at e0 e1
    have hx1 := (Prod.mk.inj hx).1
    unfold YtghnfiegihfdnaaDoor.Rows.laid_honeycomb_honeycomblaw14_on at hx1
    simp at hx1
    obtain ⟨z, ez, d0, _⟩ := DataW.trod_int Tryd.underlying3 e0
    obtain ⟨y, ey, d1, _⟩ := DataW.trod_int Tryd.underlying22 e1
    rw [d0] at hx1
    rw [d1] at hx1
    simp at hx1
    obtain ⟨rfl, rfl⟩ := hx1
    obtain ⟨cs⟩ := cs
    match cs, ez, ey with
    | [c0, c1], ez, ey =>
      simp at ez ey
      subst ez ey
      have k0 : W.cell? ⟨0, 0, none⟩ = some (.int .i64 (-1)) := by
        have := World.var?_cell gOn hv 0
        simpa using this
      have k1 : W.cell? ⟨0, 1, none⟩ = some (.int .u64 0) := by
        have := World.var?_cell gOn hv 1
        simpa [Addr.add] using this
      obtain ⟨b, off, e, hlt⟩ := addr_form k0
      cases e
      exact ⟨hlt, k0, k1⟩
    | c0 :: c1 :: c2 :: l, ez, ey =>
      rw [show Tryd.prog.cellsOf 38 = 2 from cellsEn] at hlen
      simp at hlen
end Go.Proofs
