/- Script: arguments, opened: scripts, their words in range. -/
import Derived.Test.YtfboppjedgfacaaZSb
import Derived.Deep.SlicePairs
import Derived.OpenShut
namespace Go.Proofs
open Go.ChangeShapes Go.WideShapes Go.RowKit Go.Shelf Go.Deep

def W64 (z : Int) : Prop := 0 ≤ z ∧ z < 18446744073709551616
def Cl4.wf (c : Cl4) : Prop := W64 c.key ∧ W64 c.a ∧ W64 c.b
theorem w64 {z : Int} (h : (Lit.int .u64 z).wf = true) : W64 z := by
  unfold W64
  simp [Lit.wf] at h
  have h1 : IntKind.u64.min = 0 := rfl
  have h2 : IntKind.u64.max = 18446744073709551615 := rfl
  omega
theorem cellsRowC : Try.prog.cellsOf 53 = 1 := by kernel_rfl
theorem cellsLs : Try.prog.cellsOf 23 = 1 := by kernel_rfl
theorem cellsWs : Try.prog.cellsOf 24 = 1 := by kernel_rfl
theorem cellsScr : Try.prog.cellsOf 26 = 5 := by kernel_rfl
theorem addr_form {W : World} {ad : Addr} {v : Value} (h : W.cell? ad = some v) : ∃ b off, ad = ⟨b, off, none⟩ ∧ b < W.heap.size := by
  obtain ⟨b, off, spot⟩ := ad
  have hspot : spot = none := World.cell?_spot h
  subst hspot
  refine ⟨b, off, rfl, ?_⟩
  rcases Nat.lt_or_ge b W.heap.size with hq | hq
  · exact hq
  · simp [World.cell?, Array.getElem?_eq_none hq] at h
theorem add_plain (b off j : Nat) : (⟨b, off, none⟩ : Addr).add j = ⟨b, off + j, none⟩ := by unfold Addr.add; split <;> simp_all

set_option maxRecDepth 100000 in
/-- One call, out of its four cells, its words in range. -/
theorem open_callW {H : Type} {enc : TypeId × Value → H} {W : World} {base : Nat} {sp : Nat → Bool} {held : Bool} {fuel : Nat} {cs : List Value} {x : DataW H × List MemPlace} (hl : cs.length = 4)
    (h : DataW.trod enc Try.prog W base sp held fuel 55 cs = some x) : ∃ a : Cl4, cs = a.cells ∧ a.wf := by
  obtain ⟨xs, k, hk, hxy, _, hxl, hf⟩ := DataW.trod_struct Try.underlying55 h
  match xs, hxl, cs, hl with
  | [y0, y1, y2, y3], _, [v0, v1, v2, v3], _ =>
    have g0 := hf 0 _ rfl
    have g1 := hf 1 _ rfl
    have g2 := hf 2 _ rfl
    have g3 := hf 3 _ rfl
    simp [cellsI, cellsU] at g0 g1 g2 g3
    obtain ⟨z0, e0, _, _⟩ := DataW.trod_int Try.underlying3 g0
    obtain ⟨z1, e1, _, f1⟩ := DataW.trod_int Try.underlying22 g1
    obtain ⟨z2, e2, _, f2⟩ := DataW.trod_int Try.underlying22 g2
    obtain ⟨z3, e3, _, f3⟩ := DataW.trod_int Try.underlying22 g3
    simp at e0 e1 e2 e3
    subst e0 e1 e2 e3
    exact ⟨⟨z0, z1, z2, z3⟩, rfl, w64 f1, w64 f2, w64 f3⟩

set_option maxRecDepth 100000 in
theorem open_callsW {H : Type} {enc : TypeId × Value → H} {W : World} {base : Nat} {sp : Nat → Bool} {held : Bool} {fuel : Nat} {a : Option Addr} {len cap : Nat} {x : DataW H × List MemPlace}
    (h : DataW.trod enc Try.prog W base sp held fuel 53 [.slice a len cap] = some x) : ∃ l : List Cl4, len = l.length ∧ CallsAt W (.slice a len cap) l ∧ ∀ c ∈ l, c.wf := by
  rcases open_slice Try.underlying53 h with ⟨hcs, _⟩ | ⟨ad, len', cap', m, n, D, Pl, hcs, hb, hl, hm, hmm, _, hx⟩
  · simp at hcs
    obtain ⟨rfl, rfl, rfl⟩ := hcs
    exact ⟨[], rfl, ⟨rfl, none, 0, rfl, Nat.le_refl _, Nat.zero_le _, fun _ => rfl, fun j hj => by simp [callVals] at hj⟩, fun c h => by cases h⟩
  · simp at hcs
    obtain ⟨rfl, rfl, rfl⟩ := hcs
    have hlm : len ≤ m := by rw [hmm]; split <;> omega
    have each : ∀ i, i < m → ∃ q : Cl4, (∀ r, r < 4 → W.cell? (ad.add (i * 4 + r)) = q.cells[r]?) ∧ q.wf := by
      intro i hi
      obtain ⟨cs', h1, h2⟩ := hx i hi
      rw [cellsCl] at h1
      obtain ⟨_, hlen, hcell⟩ := World.cells?_some h1
      obtain ⟨q, rfl, hqw⟩ := open_callW hlen h2
      refine ⟨q, fun r hr => ?_, hqw⟩
      have e := hcell r hr
      rw [add_add] at e
      exact e
    haveI : Inhabited Cl4 := ⟨⟨0, 0, 0, 0⟩⟩
    obtain ⟨q, hq⟩ := choose_lt each
    have hll : ((List.range len).map q).length = len := by simp
    refine ⟨(List.range len).map q, hll.symm, ?_, fun c hc => by obtain ⟨i, hi, rfl⟩ := List.mem_map.1 hc; exact (hq i (by have := List.mem_range.1 hi; omega)).2⟩
    refine ⟨by rw [callVals_length], some ad, cap, by rw [hll], by rw [hll]; exact hl, hm, (fun e => by cases e), fun j hj => ?_⟩
    rw [callVals_length, hll] at hj
    have hi : j / 4 < len := by omega
    have hr : j % 4 < 4 := Nat.mod_lt _ (by decide)
    have hc := (hq (j / 4) (by omega)).1 (j % 4) hr
    have hg := flat_get Cl4.cells 4 (fun _ => rfl) ((List.range len).map q) (j / 4) (j % 4) (by rw [hll]; exact hi) hr
    have ej : j / 4 * 4 + j % 4 = j := by omega
    rw [ej] at hc hg
    rw [List.getElem_map, List.getElem_range] at hg
    have hv : (q (j / 4)).cells[j % 4]? = some (((q (j / 4)).cells)[j % 4]'(by simpa [Cl4.cells] using hr)) := List.getElem?_eq_getElem _
    obtain ⟨b, off, spot⟩ := ad
    rw [hv] at hc
    have hspot : spot = none := by
      have h00 := (hq 0 (by omega)).1 0 (by decide)
      have h01 : W.cell? ((⟨b, off, spot⟩ : Addr).add 0) = some (.int .i64 (q 0).op) := h00
      simpa [Addr.add] using World.cell?_spot h01
    subst hspot
    have hadd : (⟨b, off, none⟩ : Addr).add j = ⟨b, off + j, none⟩ := by unfold Addr.add; split <;> simp_all
    rw [hadd] at hc
    refine ⟨b, off, rfl, ?_, ?_⟩
    · rcases Nat.lt_or_ge b W.heap.size with hq | hq
      · exact hq
      · simp [World.cell?, Array.getElem?_eq_none hq] at hc
    · rw [hc]
      unfold callVals
      rw [hg, hv]
set_option maxRecDepth 100000 in
/-- A row of words that came in, opened. -/
theorem open_wordsW {H : Type} {enc : TypeId × Value → H} {W : World} {base : Nat} {sp : Nat → Bool} {held : Bool} {fuel : Nat} {a : Option Addr} {len cap : Nat} {x : DataW H × List MemPlace}
    (h : DataW.trod enc Try.prog W base sp held fuel 24 [.slice a len cap] = some x) : ∃ l : List Int, len = l.length ∧ WordsAt W (.slice a len cap) l ∧ ∀ z ∈ l, W64 z := by
  rcases open_slice Try.underlying24 h with ⟨hcs, _⟩ | ⟨ad, len', cap', m, n, D, Pl, hcs, hb, hl, hm, hmm, _, hx⟩
  · simp at hcs
    obtain ⟨rfl, rfl, rfl⟩ := hcs
    exact ⟨[], rfl, ⟨rfl, none, 0, rfl, Nat.le_refl _, Nat.zero_le _, fun _ => rfl, fun j hj => by simp [wordVals] at hj⟩, fun c h => by cases h⟩
  · simp at hcs
    obtain ⟨rfl, rfl, rfl⟩ := hcs
    have hlm : len ≤ m := by rw [hmm]; split <;> omega
    have each : ∀ i, i < m → ∃ q : Int, W.cell? (ad.add i) = some (.int .u64 q) ∧ W64 q := by
      intro i hi
      obtain ⟨cs', h1, h2⟩ := hx i hi
      rw [cellsU] at h1
      obtain ⟨_, hlen, hcell⟩ := World.cells?_some h1
      obtain ⟨z, rfl, _, hzw⟩ := DataW.trod_int Try.underlying22 h2
      refine ⟨z, ?_, w64 hzw⟩
      have e := hcell 0 (by omega)
      rw [add_add] at e
      simpa using e
    obtain ⟨q, hq⟩ := choose_lt each
    have hll : ((List.range len).map q).length = len := by simp
    refine ⟨(List.range len).map q, hll.symm, ?_, fun c hc => by obtain ⟨i, hi, rfl⟩ := List.mem_map.1 hc; exact (hq i (by have := List.mem_range.1 hi; omega)).2⟩
    refine ⟨by rw [wordVals_length, Nat.mul_one], some ad, cap, by rw [hll], by rw [hll]; exact hl, hm, (fun e => by cases e), fun j hj => ?_⟩
    rw [wordVals_length, hll] at hj
    have hc := (hq j (by omega)).1
    obtain ⟨b, off, spot⟩ := ad
    have hspot : spot = none := by
      have h00 := (hq 0 (by omega)).1
      simpa [Addr.add] using World.cell?_spot h00
    subst hspot
    have hadd : (⟨b, off, none⟩ : Addr).add j = ⟨b, off + j, none⟩ := by unfold Addr.add; split <;> simp_all
    rw [hadd] at hc
    refine ⟨b, off, rfl, ?_, ?_⟩
    · rcases Nat.lt_or_ge b W.heap.size with hq | hq
      · exact hq
      · simp [World.cell?, Array.getElem?_eq_none hq] at hc
    · rw [hc, wordVals_get _ j (by rw [hll]; exact hj)]
      simp [hj]


/-- A list's value is a slice. -/
theorem open_callVal {H : Type} {enc : TypeId × Value → H} {W : World} {base : Nat} {sp : Nat → Bool} {held : Bool} {fuel : Nat} {v : Value} {x : DataW H × List MemPlace}
    (h : DataW.trod enc Try.prog W base sp held fuel 53 [v] = some x) : ∃ a c, ∃ l : List Cl4, v = .slice a l.length c ∧ CallsAt W (.slice a l.length c) l ∧ ∀ q ∈ l, q.wf := by
  have hv : ∃ a n c, v = .slice a n c := by
    rcases open_slice Try.underlying53 h with ⟨hcs, _⟩ | ⟨ad, len', cap', m, n, D, Pl, hcs, _⟩
    · simp at hcs
      exact ⟨_, _, _, hcs⟩
    · simp at hcs
      exact ⟨_, _, _, hcs⟩
  obtain ⟨a, n, c, rfl⟩ := hv
  obtain ⟨l, rfl, hl, hw⟩ := open_callsW h
  exact ⟨a, c, l, rfl, hl, hw⟩
set_option maxRecDepth 100000 in
theorem open_listsW {H : Type} {enc : TypeId × Value → H} {W : World} {base : Nat} {sp : Nat → Bool} {held : Bool} {fuel : Nat} {a : Option Addr} {len cap : Nat} {x : DataW H × List MemPlace}
    (h : DataW.trod enc Try.prog W base sp held fuel 23 [.slice a len cap] = some x) : ∃ l : List (List Cl4), len = l.length ∧ ListsAt W (.slice a len cap) l ∧ ∀ r ∈ l, ∀ c ∈ r, c.wf := by
  rcases open_slice1 Try.underlying23 cellsRowC h with ⟨hcs, _⟩ | ⟨ad, len', cap', m, n, V, D, Pl, hcs, hb, hl, hm, hmm, _, hx⟩
  · simp at hcs
    obtain ⟨rfl, rfl, rfl⟩ := hcs
    exact ⟨[], rfl, ⟨[], ⟨rfl, none, 0, rfl, Nat.le_refl _, Nat.zero_le _, fun _ => rfl, fun _ hj => absurd hj (Nat.not_lt_zero _)⟩, fun _ hi => absurd hi (Nat.not_lt_zero _)⟩, fun r h => by cases h⟩
  · simp at hcs
    obtain ⟨rfl, rfl, rfl⟩ := hcs
    have hlm : len ≤ m := by rw [hmm]; split <;> omega
    have each : ∀ i, i < m → ∃ q : List Cl4, (W.cell? (ad.add i) = some (V i) ∧ ∃ a' c', V i = .slice a' q.length c' ∧ CallsAt W (.slice a' q.length c') q) ∧ ∀ c ∈ q, c.wf := by
      intro i hi
      obtain ⟨h1, h2⟩ := hx i hi
      obtain ⟨a', c', l, e, hl, hw⟩ := open_callVal h2
      exact ⟨l, ⟨h1, a', c', e, hl⟩, hw⟩
    obtain ⟨q, hq⟩ := choose_lt each
    have hll : ((List.range len).map q).length = len := by simp
    refine ⟨(List.range len).map q, hll.symm, ⟨(List.range len).map V, ⟨by simp, some ad, cap, by rw [hll], by rw [hll]; exact hl, hm, (fun e => by cases e), fun j hj => ?_⟩, fun i hi => ?_⟩, fun r hr => by obtain ⟨i, hi, rfl⟩ := List.mem_map.1 hr; exact (hq i (by have := List.mem_range.1 hi; omega)).2⟩
    · simp at hj
      have h0 := (hq j (by omega)).1.1
      obtain ⟨b, off, e, hb'⟩ := addr_form h0
      cases ad with
      | mk b0 o0 s0 =>
        have hs : s0 = none := by
          have := World.cell?_spot (hq 0 (by omega)).1.1
          simpa [Addr.add] using this
        subst hs
        rw [add_plain] at e h0
        cases e
        exact ⟨_, o0, rfl, hb', by rw [h0]; simp [hj]⟩
    · rw [hll] at hi
      obtain ⟨⟨_, a', c', e, h3⟩, _⟩ := hq i (by omega)
      have eg : ((List.range len).map q)[i]'(by rw [hll]; exact hi) = q i := by simp
      rw [eg]
      exact ⟨a', c', by simp [hi, e], h3⟩

/-- What a script's words are, wherever it came from. -/
def Scr.wf (s : Scr) : Prop := (Lit.int .i64 s.goers).wf = true ∧ (Lit.int .i64 s.slabs).wf = true ∧ W64 s.seed ∧ (∀ l ∈ s.lists, ∀ c ∈ l, c.wf) ∧ ∀ p ∈ s.picks, W64 p
set_option maxRecDepth 100000 in
theorem open_scr {H : Type} {enc : TypeId × Value → H} {W : World} {r : Reach} {b0 base : Nat} {sp : Nat → Bool} {held : Bool} {v : Value} {d : DataW H} {p : List MemPlace}
    (hv : Value.okWide Try.prog W r b0 26 v) (h : DataW.Trod enc Try.prog W base sp held 26 v d p) : ∃ s : Scr, ScrAt W v s ∧ s.wf := by
  obtain ⟨cs, rfl, hcs⟩ := okWide_struct Try.underlying26 hv
  rw [cellsScr] at hcs
  obtain ⟨fuel, hf⟩ := h
  obtain ⟨y0, y1, y2, y3, y4, rfl⟩ : ∃ y0 y1 y2 y3 y4, cs = #[y0, y1, y2, y3, y4] := by
    obtain ⟨l⟩ := cs
    match l, hcs with
    | [y0, y1, y2, y3, y4], _ => exact ⟨y0, y1, y2, y3, y4, rfl⟩
  obtain ⟨xs, k, hk, hxy, _, hxl, hg⟩ := DataW.trod_struct Try.underlying26 hf
  match xs, hxl with
  | [x0, x1, x2, x3, x4], _ =>
    have g0 := hg 0 _ rfl
    have g1 := hg 1 _ rfl
    have g2 := hg 2 _ rfl
    have g3 := hg 3 _ rfl
    have g4 := hg 4 _ rfl
    simp [cellsI, cellsU, cellsLs, cellsWs, Value.cells] at g0 g1 g2 g3 g4
    obtain ⟨z0, e0, _, f0⟩ := DataW.trod_int Try.underlying3 g0
    obtain ⟨z1, e1, _, f1⟩ := DataW.trod_int Try.underlying3 g1
    obtain ⟨z2, e2, _, f2⟩ := DataW.trod_int Try.underlying22 g2
    simp at e0 e1 e2
    subst e0 e1 e2
    have hv3 : ∃ a n c, y3 = .slice a n c := by
      rcases open_slice Try.underlying23 g3 with ⟨hcs, _⟩ | ⟨ad, len', cap', m, n, D, Pl, hcs, _⟩
      · simp at hcs
        exact ⟨_, _, _, hcs⟩
      · simp at hcs
        exact ⟨_, _, _, hcs⟩
    have hv4 : ∃ a n c, y4 = .slice a n c := by
      rcases open_slice Try.underlying24 g4 with ⟨hcs, _⟩ | ⟨ad, len', cap', m, n, D, Pl, hcs, _⟩
      · simp at hcs
        exact ⟨_, _, _, hcs⟩
      · simp at hcs
        exact ⟨_, _, _, hcs⟩
    obtain ⟨a3, n3, c3, rfl⟩ := hv3
    obtain ⟨a4, n4, c4, rfl⟩ := hv4
    obtain ⟨ls, rfl, hl, hlw⟩ := open_listsW g3
    obtain ⟨ps, rfl, hp, hpw⟩ := open_wordsW g4
    exact ⟨⟨z0, z1, z2, ls, ps⟩, ⟨a3, c3, a4, c4, rfl, hl, hp⟩, f0, f1, w64 f2, hlw, hpw⟩
end Go.Proofs

/- Script: lists of calls that the call owns; the maths of own. -/
namespace Go.Proofs
open Go.RowKit Go.Shelf
attribute [local go_sem] Oper.semAt_some

theorem Try.infoRowC : (Try.prog.info? 53).map (fun i => (i.zero, i.size, i.bytes)) = some (some (.slice none 0 0), 1, 24) := by kernel_rfl
/-- A row of lists, and the lists in it, that the call owns. -/
def RowsInC (n₀ : Nat) (ls : List (List Cl4)) (vs : List Value) (W : World) : Prop := ∀ i (h : i < ls.length), ∃ a cap, vs[i]? = some (.slice a ls[i].length cap) ∧ OwnsCalls n₀ ls[i] (.slice a ls[i].length cap) W
def OwnsL (n₀ : Nat) (ls : List (List Cl4)) (v : Value) (W : World) : Prop := ∃ vs, W.ownsRow n₀ 53 1 v ls.length vs ∧ RowsInC n₀ ls vs W
theorem OwnsL.at {n₀ : Nat} {ls : List (List Cl4)} {v : Value} {W : World} (h : OwnsL n₀ ls v W) : ListsAt W v ls := by
  obtain ⟨vs, h1, h2⟩ := h
  exact ⟨vs, rowAt_own h1, fun i hi => by obtain ⟨a, c, e, ho⟩ := h2 i hi; exact ⟨a, c, e, rowAt_own ho⟩⟩
theorem RowsInC.keep {n₀ h : Nat} {ls : List (List Cl4)} {vs : List Value} {A B : World} (o : RowsInC n₀ ls vs A) (hB : Below h A B) (hh : A.heap.size ≤ h) : RowsInC n₀ ls vs B := fun i hi => by
  obtain ⟨a, c, e, ho⟩ := o i hi
  exact ⟨a, c, e, owns_keep ho hB hh⟩
theorem OwnsL.keep {n₀ h : Nat} {ls : List (List Cl4)} {v : Value} {A B : World} (o : OwnsL n₀ ls v A) (hB : Below h A B) (hh : A.heap.size ≤ h) : OwnsL n₀ ls v B := by
  obtain ⟨vs, h1, h2⟩ := o
  exact ⟨vs, owns_keep h1 hB hh, h2.keep hB hh⟩
theorem ownsL_nil (n₀ : Nat) (W : World) : OwnsL n₀ [] (.slice none 0 0) W := ⟨[], World.ownsRow_nil _ _ _ _, fun _ hi => absurd hi (Nat.not_lt_zero _)⟩
theorem ownsL_snoc {n₀ : Nat} {W w1 : World} {ls : List (List Cl4)} {v v' : Value} {vs : List Value} {l : List Cl4} {a : Option Addr} {c : Nat} (hrow : W.ownsRow n₀ 53 1 v ls.length vs) (h2 : RowsInC n₀ ls vs W) (hnew : OwnsCalls n₀ l (.slice a l.length c) W)
    (ho : w1.ownsRow n₀ 53 1 v' (ls.length + 1) (vs ++ [.slice a l.length c])) (hg : W.grownBy w1 v.ownBlock) : OwnsL n₀ (ls ++ [l]) v' w1 := by
  have hl : vs.length = ls.length * 1 := hrow.1
  refine ⟨_, by rw [List.length_append]; exact ho, fun i hi => ?_⟩
  rw [List.length_append] at hi
  by_cases hlt : i < ls.length
  · obtain ⟨a', c', e, ho'⟩ := h2 i hlt
    have eg : (ls ++ [l])[i]'(by rw [List.length_append]; exact hi) = ls[i] := List.getElem_append_left hlt
    rw [eg]
    exact ⟨a', c', by rw [List.getElem?_append_left (by omega)]; exact e, grown_ne ho' hrow (by decide) hg⟩
  · have hi2 : i = ls.length := by simp at hi; omega
    subst hi2
    have eg : (ls ++ [l])[ls.length]'(by rw [List.length_append]; exact hi) = l := by simp
    rw [eg]
    exact ⟨a, c, by rw [List.getElem?_append_right (by omega), hl, Nat.mul_one, Nat.sub_self]; rfl, grown_ne hnew hrow (by decide) hg⟩
/-- What own makes of a script. -/
def ownB (s : Scr) : Scr := ⟨s.goers, s.slabs, s.seed, (s.lists.take 10).map (·.take 66), s.picks.take 4100⟩
theorem ownB_ok (s : Scr) : (ownB s).ok := by
  refine ⟨by unfold ownB; simp; omega, fun l hl => ?_, by unfold ownB; simp; omega⟩
  unfold ownB at hl
  obtain ⟨r, _, rfl⟩ := List.mem_map.1 hl
  rw [List.length_take]
  omega
theorem ownB_wf {s : Scr} (h : s.wf) : (ownB s).wf := by
  obtain ⟨h1, h2, h3, h4, h5⟩ := h
  refine ⟨h1, h2, h3, fun l hl c hc => ?_, fun p hp => h5 p (List.mem_of_mem_take hp)⟩
  unfold ownB at hl
  obtain ⟨r, hr, rfl⟩ := List.mem_map.1 hl
  exact h4 r (List.mem_of_mem_take hr) c (List.mem_of_mem_take hc)
theorem own_snoc {ls : List (List Cl4)} {k : Nat} (h : k < ls.length) : (ls.take (k + 1)).map (·.take 66) = (ls.take k).map (·.take 66) ++ [ls[k].take 66] := by
  rw [List.take_succ_eq_append_getElem h, List.map_append]
  rfl

/-- Numbers of a script, in their order, and their bytes. -/
def scrNums (s : Scr) : List Int := [s.goers, s.slabs, s.seed] ++ s.lists.flatMap (fun l => (l.length : Int) :: l.flatMap (fun c => c.op :: [c.key, c.a, c.b].take (takesOf c.op).toNat)) ++ ((s.picks.length : Int) :: s.picks)
def bytesOf (ns : List Int) : List Int := ns.flatMap fun n => numB n.toNat
theorem bytesOf_append (a b : List Int) : bytesOf (a ++ b) = bytesOf a ++ bytesOf b := by unfold bytesOf; rw [List.flatMap_append]
theorem bytesOf_one (n : Int) : bytesOf [n] = numB n.toNat := by unfold bytesOf; simp
end Go.Proofs

/- Script: rows of words: Index, Contains. -/
namespace Go.Proofs
open Go.RowKit Go.Shelf
attribute [local go_sem] Oper.semAt_some

theorem drop_next {α : Type} (l : List α) (k : Nat) (h : k < l.length) : l.drop k = l[k] :: l.drop (k + 1) := List.drop_eq_getElem_cons h
theorem getD_int (l : List Int) (k : Nat) (h : k < l.length) : l[k]?.getD 0 = l[k] := by simp [h]
/-- Where it stands first, or -1. -/
def idxI (z : Int) : List Int → Nat → Int
  | [], _ => -1
  | x :: t, k => if z = x then (k : Int) else idxI z t (k + 1)
theorem idxI_has (z : Int) (l : List Int) (k : Nat) : 0 ≤ idxI z l k ↔ z ∈ l := by
  induction l generalizing k with
  | nil => simp [idxI]
  | cons x t ih =>
    unfold idxI
    by_cases h : z = x
    · simp [h]
    · simp [h, ih]
theorem idxI_ge (z : Int) (l : List Int) (k : Nat) : idxI z l k = -1 ∨ (k : Int) ≤ idxI z l k := by
  induction l generalizing k with
  | nil => simp [idxI]
  | cons x t ih =>
    unfold idxI
    split
    · exact .inr (Int.le_refl _)
    · rcases ih (k + 1) with h | h
      · exact .inl h
      · exact .inr (by omega)
theorem idxI_le (z : Int) (l : List Int) (k : Nat) : idxI z l k < k + l.length := by
  induction l generalizing k with
  | nil => simp [idxI]; omega
  | cons x t ih =>
    unfold idxI
    split
    · simp; omega
    · have := ih (k + 1)
      simp; omega

set_option maxRecDepth 100000 in
set_option maxHeartbeats 1000000 in
theorem Try.indexWords_any (a : Option Addr) (n cap : Nat) (ws : List Int) (hn : n = ws.length) (z : Int) (w : World) (hI : WordsAt w (.slice a n cap) ws) :
    Calls Try.prog 48 #[.slice a n cap, .int .u64 z] w fun e w' => e = .returned (.int .i64 (idxI z ws 0)) ∧ w = w' := by
  have hreach : n ≤ maxLen := by
    obtain ⟨_, _, _, e, h1, h2, _⟩ := hI
    cases e
    omega
  unfold maxLen at hreach
  have HI := Lib.hid hI
  have HN := Lib.hid hn
  clear hI hn
  go_enter Try.func48, Try.ntmps48
  go_wp2
  go_loop [5, 8] (fun _ j => ∃ k : Nat, k ≤ n ∧ j = .int .i64 k ∧ Hid (idxI z ws 0 = idxI z (ws.drop k) k)) (fun _ j => n - (intOf j).toNat)
  case atStart => exact ⟨0, Nat.zero_le _, rfl, Lib.hid rfl⟩
  case round =>
    obtain ⟨k, hk, rfl, hx⟩ := hrel
    by_cases hlt : k < n
    · have hkl : k < ws.length := by rw [← HN.out]; exact hlt
      obtain ⟨b, off, rfl, hb, hc⟩ := wordsAt_get HI.out k hkl
      have hd := drop_next ws k hkl
      rw [getD_int ws k hkl] at hc
      generalize ws[k] = x at *
      have HD := Lib.hid hd
      have hki : (k : Int) < (n : Int) := by omega
      clear hd hkl
      by_cases he : z = x
      · subst he
        have hq : (z == z) = true := by simp
        go_wp2
        go_ret
        exact ⟨by rw [hx.out, HD.out]; simp [idxI], rfl⟩
      · have hq : (z == x) = false := by simp [he]
        have HE := Lib.hid he
        clear he
        go_wp2
        go_round
        case rel => exact ⟨k + 1, by omega, by go_num, Lib.hid (by rw [hx.out, HD.out]; simp [idxI, HE.out])⟩
        case measure => simp [intOf]; omega
    · obtain rfl : k = n := by omega
      go_wp2
      go_ret
      exact ⟨by rw [hx.out, HN.out, List.drop_length]; rfl, rfl⟩

theorem Try.containsWords_any (a : Option Addr) (n cap : Nat) (ws : List Int) (hn : n = ws.length) (z : Int) (w : World) (hI : WordsAt w (.slice a n cap) ws) :
    Calls Try.prog 31 #[.slice a n cap, .int .u64 z] w fun e w' => e = .returned (.bool (decide (z ∈ ws))) ∧ w = w' := by
  have h := Try.indexWords_any a n cap ws hn z w hI
  have hh := idxI_has z ws 0
  have H := Lib.hid h
  have HH := Lib.hid hh
  clear h hh hI hn
  generalize idxI z ws 0 = r at *
  go_enter Try.func31, Try.ntmps31
  go_wp2_with fail
  refine H.out.mono ?_
  rintro e w' ⟨rfl, rfl⟩
  go_wp2
  go_ret
  exact ⟨by rw [show decide (z ∈ ws) = decide (0 ≤ r) by rw [decide_eq_decide]; exact HH.out.symm]; rfl, rfl⟩
end Go.Proofs

/- Script: rows of ints: Clone, cut, opened. -/
namespace Go.Proofs
open Go.ChangeShapes Go.WideShapes Go.RowKit Go.Shelf Go.Deep
attribute [local go_sem] Oper.semAt_some

def intVals (ws : List Int) : List Value := ws.map fun z => Value.int .i64 z
theorem intVals_length (ws : List Int) : (intVals ws).length = ws.length := by simp [intVals]
theorem intVals_one (ws : List Int) : ∀ u ∈ intVals ws, u.oneCell' = true := by
  intro u hu
  obtain ⟨b, _, rfl⟩ := List.mem_map.1 hu
  rfl
theorem intVals_get (ws : List Int) (j : Nat) (h : j < ws.length) : (intVals ws)[j]? = some (.int .i64 (ws[j]?.getD 0)) := by
  simp [intVals, h]
def IntsAt (W : World) (v : Value) (ws : List Int) : Prop := RowAt W v ws.length 1 (intVals ws)
def OwnsInts (n₀ : Nat) (ws : List Int) (v : Value) (W : World) : Prop := W.ownsRow n₀ 3 1 v ws.length (intVals ws)
def IntsQ (ws : List Int) (w : World) (e : Ending) (w' : World) : Prop := ∃ v, e = .returned v ∧ OwnsInts w.heap.size ws v w' ∧ Below w.heap.size w w'
theorem Try.infoInt : (Try.prog.info? 3).map (fun i => (i.zero, i.size, i.bytes)) = some (some (.int .i64 0), 1, 8) := by kernel_rfl
theorem intsAt_get {W : World} {x : Option Addr} {n cap : Nat} {l : List Int} (h : IntsAt W (.slice x n cap) l) (j : Nat) (hj : j < l.length) :
    ∃ b off, x = some ⟨b, off, none⟩ ∧ b < W.heap.size ∧ W.cell? ⟨b, off + j, none⟩ = some (.int .i64 (l[j]?.getD 0)) := by
  obtain ⟨h0, a, cap', e, _, _, _, hc⟩ := h
  cases e
  obtain ⟨b, off, e, hb, h3⟩ := hc j (by rw [intVals_length]; exact hj)
  exact ⟨b, off, e, hb, by rw [h3]; exact intVals_get l j hj⟩
theorem ints_cut {W : World} {a : Option Addr} {n cap : Nat} {ws : List Int} (hn : n = ws.length) (h : IntsAt W (.slice a n cap) ws) (m : Nat) (hm : m ≤ n) : IntsAt W (.slice a m cap) (ws.take m) := by
  subst hn
  have h1 := RowAt.cut h m hm
  unfold IntsAt
  have e : (ws.take m).length = m := by rw [List.length_take]; omega
  rw [e]
  have e2 : intVals (ws.take m) = (intVals ws).take (m * 1) := by rw [Nat.mul_one]; simp [intVals]
  rw [e2]
  exact h1
set_option maxRecDepth 100000 in
set_option maxHeartbeats 1000000 in
theorem Try.cloneInts_any (a : Option Addr) (n cap : Nat) (ws : List Int) (hn : n = ws.length) (hl : n ≤ 100) (w : World) (hI : IntsAt w (.slice a n cap) ws) :
    Calls Try.prog 28 #[.slice a n cap] w (IntsQ ws w) := by
  obtain ⟨i0, hi, hz0, hz1, hz2⟩ := info_parts Try.infoInt
  cases a with
  | none =>
    obtain ⟨h0, a', cap', e, h1, h2, h3, h4⟩ := hI
    cases e
    have hc0 : cap = 0 := h3 rfl
    subst hc0
    have hw0 : ws = [] := List.eq_nil_of_length_eq_zero (by omega)
    subst hw0
    have hnil := fun wx : World => Lib.run_eql_slice_nil (P := Try.prog) wx 27 3 none 0 0 0 0 Try.underlying27
    simp only [List.length_nil]
    clear h0 h1 h2 h3 h4 hn hl
    go_enter Try.func28, Try.ntmps28
    go_wp2
    go_ret
    exact ⟨_, rfl, World.ownsRow_nil _ _ _ _, Below.refl _ _⟩
  | some x =>
    have hnil := fun wx : World => Lib.run_eql_slice_nil (P := Try.prog) wx 27 3 (some x) n cap 0 0 Try.underlying27
    subst hn
    have hsrc := row_src hI
    have HC := Lib.hid hsrc
    clear hI hsrc
    have hO : OwnsInts w.heap.size [] (.slice (some ⟨w.heap.size, 0, none⟩) 0 0) (w.alloc (.cells #[] 3)) := World.ownsRow_lit w #[] 0 (Nat.le_refl _) (by unfold maxLen; omega) rfl
    have hB : Below w.heap.size w (w.alloc (.cells #[] 3)) := (Below.refl _ w).alloc (Nat.le_refl _) _
    have HO := Lib.hid hO
    clear hO
    go_enter Try.func28, Try.ntmps28
    go_wp2_with (at_builtin; refine wpList_append_own _ rfl _ _ 27 rfl w.heap.size 3 i0 (.int .i64 0) 1 8 Try.underlying27 hi hz0 hz1 hz2 rfl (by decide) _ _ _ rfl HO.out x ws.length cap (intVals ws) rfl ?c1 ?c2 ?c3 ?c4 ?c5 ?c6 ?_)
    case c1 => rw [intVals_length]; omega
    case c2 =>
      intro j u hu
      have h := HC.out j u hu
      have hlt : x.block < w.heap.size := by
        have hk := h
        unfold World.cell? at hk
        rcases Nat.lt_or_ge (x.add j).block w.heap.size with hq | hq
        · have : (x.add j).block = x.block := by unfold Addr.add; split <;> rfl
          omega
        · rw [Array.getElem?_eq_none hq] at hk
          cases hk
      have hblk : (x.add j).block = x.block := by unfold Addr.add; split <;> rfl
      exact (hB.cell (p := x.add j) (by rw [hblk]; exact hlt)).trans h
    case c3 => exact intVals_one ws
    case c4 => simp; unfold maxLen; omega
    case c5 => simp; omega
    case c6 => simp
    intro v' w1 hown' hgrow _
    have hB1 : Below w.heap.size w w1 := hB.grown hgrow (by simp) (fun j ej => (World.ownsRow.lt HO.out j ej).1)
    have hO2 : OwnsInts w.heap.size ws v' w1 := by
      unfold OwnsInts
      simpa [intVals] using hown'
    have HO2 := Lib.hid hO2
    clear hO2 hown' hgrow
    go_wp2
    go_ret
    exact ⟨_, rfl, HO2.out, hB1⟩

set_option maxRecDepth 100000 in
/-- A row of numbers that came in, opened. -/
theorem open_intRow {H : Type} {enc : TypeId × Value → H} {W : World} {base : Nat} {sp : Nat → Bool} {held : Bool} {fuel : Nat} {a : Option Addr} {len cap : Nat} {x : DataW H × List MemPlace}
    (h : DataW.trod enc Try.prog W base sp held fuel 27 [.slice a len cap] = some x) : ∃ l : List Int, len = l.length ∧ IntsAt W (.slice a len cap) l := by
  rcases open_slice Try.underlying27 h with ⟨hcs, _⟩ | ⟨ad, len', cap', m, n, D, Pl, hcs, hb, hl, hm, hmm, _, hx⟩
  · simp at hcs
    obtain ⟨rfl, rfl, rfl⟩ := hcs
    exact ⟨[], rfl, ⟨rfl, none, 0, rfl, Nat.le_refl _, Nat.zero_le _, fun _ => rfl, fun j hj => by simp [intVals] at hj⟩⟩
  · simp at hcs
    obtain ⟨rfl, rfl, rfl⟩ := hcs
    have hlm : len ≤ m := by rw [hmm]; split <;> omega
    have each : ∀ i, i < m → ∃ q : Int, W.cell? (ad.add i) = some (.int .i64 q) := by
      intro i hi
      obtain ⟨cs', h1, h2⟩ := hx i hi
      rw [cellsI] at h1
      obtain ⟨_, hlen, hcell⟩ := World.cells?_some h1
      obtain ⟨z, rfl, _⟩ := DataW.trod_int Try.underlying3 h2
      refine ⟨z, ?_⟩
      have e := hcell 0 (by omega)
      rw [add_add] at e
      simpa using e
    obtain ⟨q, hq⟩ := choose_lt each
    have hll : ((List.range len).map q).length = len := by simp
    refine ⟨(List.range len).map q, hll.symm, ?_⟩
    refine ⟨by rw [intVals_length, Nat.mul_one], some ad, cap, by rw [hll], by rw [hll]; exact hl, hm, (fun e => by cases e), fun j hj => ?_⟩
    rw [intVals_length, hll] at hj
    have hc := hq j (by omega)
    obtain ⟨b, off, spot⟩ := ad
    have hspot : spot = none := by
      have h00 := hq 0 (by omega)
      simpa [Addr.add] using World.cell?_spot h00
    subst hspot
    have hadd : (⟨b, off, none⟩ : Addr).add j = ⟨b, off + j, none⟩ := by unfold Addr.add; split <;> simp_all
    rw [hadd] at hc
    refine ⟨b, off, rfl, ?_, ?_⟩
    · rcases Nat.lt_or_ge b W.heap.size with hq | hq
      · exact hq
      · simp [World.cell?, Array.getElem?_eq_none hq] at hc
    · rw [hc, intVals_get _ j (by rw [hll]; exact hj)]
      simp [hj]
end Go.Proofs
