/- Script: Decode in two forms; what scripts that may be come to; the walk of ScriptBack. -/
import Derived.Test.YtfboppjedgfacaaZYf
import Derived.Test.YtfboppjedgfacaaZUc
namespace Go.Proofs
set_option maxRecDepth 100000
open Go.RowKit Go.Shelf Go.ChangeShapes Go.WideShapes Go.Deep
attribute [local go_sem] Oper.semAt_some

theorem Try.decode_yes (a : Option Addr) (n cap : Nat) (bs : List Int) (hn : n = bs.length) (hl : bs.length ≤ 1000000) (hbs : AllBytes bs) (w : World) (hI : BytesAt w (.slice a n cap) bs) (hIb : ∀ b off, a = some ⟨b, off, none⟩ → b < w.heap.size)
    {s : Scr} {r : List Int} (h : decP bs = some (s, r)) (k : Nat) (hk : bs.length = k + r.length) :
    Calls Try.prog 26 #[.slice a n cap] w fun e w' => ∃ al cl ap cp, e = .returned (.tuple #[.agg #[.int .i64 s.goers, .int .i64 s.slabs, .int .u64 s.seed, .slice al s.lists.length cl, .slice ap s.picks.length cp], .int .i64 (k : Nat), .int .i64 0]) ∧ ScrAt w' (.agg #[.int .i64 s.goers, .int .i64 s.slabs, .int .u64 s.seed, .slice al s.lists.length cl, .slice ap s.picks.length cp]) s ∧ Below w.heap.size w w' := by
  refine (Try.Decode_any a n cap bs hn hl hbs w hI hIb).mono ?_
  rintro e w' ⟨hb, (⟨s2, r2, vl, vp, h1, rfl, h2, h3⟩ | ⟨h1, _⟩)⟩
  · rw [h] at h1
    injection h1 with h1
    injection h1 with h1 h4
    subst h1 h4
    have hA := h2.at
    obtain ⟨vs, hv, hr⟩ := hA
    have hv' := hv
    obtain ⟨_, al, cl, rfl, _⟩ := hv
    have hp := rowAt_own h3
    have hp' := hp
    obtain ⟨_, ap, cp, rfl, _⟩ := hp
    exact ⟨al, cl, ap, cp, by rw [show ((bs.length : Int) - (r.length : Int)) = (k : Int) by omega], ⟨al, cl, ap, cp, rfl, ⟨vs, hv', hr⟩, hp'⟩, hb⟩
  · rw [h] at h1; cases h1
theorem Try.decode_no (a : Option Addr) (n cap : Nat) (bs : List Int) (hn : n = bs.length) (hl : bs.length ≤ 1000000) (hbs : AllBytes bs) (w : World) (hI : BytesAt w (.slice a n cap) bs) (hIb : ∀ b off, a = some ⟨b, off, none⟩ → b < w.heap.size)
    (h : decP bs = none) :
    Calls Try.prog 26 #[.slice a n cap] w fun e w' => e = .returned (.tuple #[.agg #[.int .i64 0, .int .i64 0, .int .u64 0, .slice none 0 0, .slice none 0 0], .int .i64 0, .int .i64 131]) ∧ Below w.heap.size w w' := by
  refine (Try.Decode_any a n cap bs hn hl hbs w hI hIb).mono ?_
  rintro e w' ⟨hb, (⟨s, r, vl, vp, h1, _⟩ | ⟨_, rfl⟩)⟩
  · rw [h] at h1; cases h1
  · exact ⟨rfl, hb⟩
theorem five8 {W : World} {B : Nat} {t : TypeId} {a b c d e : Value} (h : Rows8 W B t #[a, b, c, d, e]) : W.cell? ⟨B, 0, none⟩ = some a ∧ W.cell? ⟨B, 1, none⟩ = some b ∧ W.cell? ⟨B, 2, none⟩ = some c ∧ W.cell? ⟨B, 3, none⟩ = some d ∧ W.cell? ⟨B, 4, none⟩ = some e :=
  ⟨h.cell 0, h.cell 1, h.cell 2, h.cell 3, h.cell 4⟩
theorem listsNums_le2 : ∀ ls : List (List Cl4), (ls.flatMap listNums).length ≤ ls.length + 4 * countC ls := by
  intro ls
  induction ls with
  | nil => simp [countC]
  | cons l t ih =>
    have h2 := listNums_le l
    have hc : countC (l :: t) = l.length + countC t := by unfold countC; rw [List.map_cons, List.sum_cons]
    rw [List.flatMap_cons, List.length_append, List.length_cons, hc]
    omega
theorem le_countC : ∀ (ls : List (List Cl4)) (l : List Cl4), l ∈ ls → l.length ≤ countC ls := by
  intro ls
  induction ls with
  | nil => intro l h; cases h
  | cons x t ih =>
    intro l h
    have hc : countC (x :: t) = x.length + countC t := by unfold countC; rw [List.map_cons, List.sum_cons]
    rcases List.mem_cons.1 h with rfl | h
    · omega
    · have := ih l h; omega
theorem may_count {s : Scr} (h : mayBeB s = true) : countC s.lists ≤ 64 := by
  rw [mayBeB_eq, Bool.and_eq_true, Bool.and_eq_true] at h
  have := of_decide_eq_true h.2.2
  omega
theorem may_ok {s : Scr} (h : mayBeB s = true) : s.ok := by
  obtain ⟨_, _, h3, h4, _⟩ := mayBe_parts h
  have hc := may_count h
  exact ⟨by omega, fun l hl => by have := le_countC _ l hl; omega, by omega⟩
theorem bytes_le {s : Scr} (h : mayBeB s = true) (hw : s.wf) : (bytesOf (scrNums s)).length ≤ 50000 ∧ 1 ≤ (bytesOf (scrNums s)).length ∧ AllBytes (bytesOf (scrNums s)) := by
  have hn := (scrNums_ok (may_ok h) hw h).1
  obtain ⟨_, _, h3, h4, _⟩ := mayBe_parts h
  have hc := may_count h
  have hl : (scrNums s).length ≤ 5000 := by
    rw [scrNums_eq]
    have := listsNums_le2 s.lists
    simp only [List.length_append, List.length_cons, List.length_nil]
    omega
  have h1 := bytesOf_le _ hn
  refine ⟨by omega, ?_, fun x hx => ?_⟩
  · rw [scrNums_eq]
    unfold bytesOf
    rw [List.flatMap_append, List.flatMap_append, List.length_append, List.length_append, List.flatMap_cons, List.length_append]
    have := (numB_len10 (n := s.goers.toNat) (by have := (mayBe_parts h).1; omega)).1
    omega
  · unfold bytesOf at hx
    obtain ⟨z, _, hz⟩ := List.mem_flatMap.1 hx
    exact numB_bytes _ x hz
theorem w8b {z : Int} (h : (Lit.int .u8 z).wf = true) : 0 ≤ z ∧ z < 256 := by
  simp [Lit.wf] at h
  have h1 : IntKind.u8.min = 0 := rfl
  have h2 : IntKind.u8.max = 255 := rfl
  omega
theorem cellsB8 : Try.prog.cellsOf 5 = 1 := by kernel_rfl
/-- Where a row that came in lies. -/
theorem slice_lies {P : Program} {W : World} {r : Reach} {base : Nat} {t e : TypeId} {b off : Nat} {n cap : Nat} (ht : P.underlying t = some (.slice e)) (h : Value.okWide P W r base t (.slice (some ⟨b, off, none⟩) n cap)) : b < W.heap.size := by
  simp only [Value.okWide, ht, Cell.okWide, Cell.ok] at h
  obtain ⟨_, _, _, _, row, cells, h1, _⟩ := h
  rcases Nat.lt_or_ge b W.heap.size with hq | hq
  · exact hq
  · simp [World.shape?, Array.getElem?_eq_none hq] at h1
set_option maxRecDepth 100000 in
/-- A row of bytes that came in, opened. -/
theorem open_bytesW {H : Type} {enc : TypeId × Value → H} {W : World} {base : Nat} {sp : Nat → Bool} {held : Bool} {fuel : Nat} {a : Option Addr} {len cap : Nat} {x : DataW H × List MemPlace}
    (h : DataW.trod enc Try.prog W base sp held fuel 38 [.slice a len cap] = some x) : ∃ l : List Int, len = l.length ∧ BytesAt W (.slice a len cap) l ∧ AllBytes l := by
  rcases open_slice Try.underlying38 h with ⟨hcs, _⟩ | ⟨ad, len', cap', m, n, D, Pl, hcs, hb, hl, hm, hmm, _, hx⟩
  · simp at hcs
    obtain ⟨rfl, rfl, rfl⟩ := hcs
    exact ⟨[], rfl, ⟨rfl, none, 0, rfl, Nat.le_refl _, Nat.zero_le _, fun _ => rfl, fun j hj => by simp [byteVals] at hj⟩, fun c h => by cases h⟩
  · simp at hcs
    obtain ⟨rfl, rfl, rfl⟩ := hcs
    have hlm : len ≤ m := by rw [hmm]; split <;> omega
    have each : ∀ i, i < m → ∃ q : Int, W.cell? (ad.add i) = some (.int .u8 q) ∧ (0 ≤ q ∧ q < 256) := by
      intro i hi
      obtain ⟨cs', h1, h2⟩ := hx i hi
      rw [cellsB8] at h1
      obtain ⟨_, hlen, hcell⟩ := World.cells?_some h1
      obtain ⟨z, rfl, _, hzw⟩ := DataW.trod_int Try.underlying5 h2
      refine ⟨z, ?_, w8b hzw⟩
      have e := hcell 0 (by omega)
      rw [add_add] at e
      simpa using e
    obtain ⟨q, hq⟩ := choose_lt each
    have hll : ((List.range len).map q).length = len := by simp
    refine ⟨(List.range len).map q, hll.symm, ?_, fun c hc => by obtain ⟨i, hi, rfl⟩ := List.mem_map.1 hc; exact (hq i (by have := List.mem_range.1 hi; omega)).2⟩
    refine ⟨by rw [byteVals_length, Nat.mul_one], some ad, cap, by rw [hll], by rw [hll]; exact hl, hm, (fun e => by cases e), fun j hj => ?_⟩
    rw [byteVals_length, hll] at hj
    have hc := (hq j (by omega)).1
    obtain ⟨b, off, spot⟩ := ad
    have hspot : spot = none := by
      have h00 := (hq 0 (by omega)).1
      simpa [Addr.add] using World.cell?_spot h00
    subst hspot
    have hadd : (⟨b, off, none⟩ : Addr).add j = ⟨b, off + j, none⟩ := by unfold Addr.add; split <;> simp_all
    rw [hadd] at hc
    refine ⟨b, off, rfl, ?_, ?_⟩
    · rcases Nat.lt_or_ge b W.heap.size with hq | hq
      · exact hq
      · simp [World.cell?, Array.getElem?_eq_none hq] at hc
    · rw [hc, byteVals_get _ j (by rw [hll]; exact hj)]
      simp [hj]

end Go.Proofs
