/- A pair opened; a map that has what was met. -/
import Derived.Test.YtdpjmabamjgmkaaHw
import Derived.Test.YtdpjmabamjgmkaaHl
namespace Go.Proofs
open Go.RowKit Go.Shelf Go.Deep Go.Maps
attribute [local go_sem] Oper.semAt_some

theorem words_cut {W : World} {a : Option Addr} {n cap : Nat} {ws : List Int} (hn : n = ws.length) (h : WordsAt W (.slice a n cap) ws) (m : Nat) (hm : m ≤ n) : WordsAt W (.slice a m cap) (ws.take m) := by
  have h2 := RowAt.cut (k := 1) (show RowAt W (.slice a n cap) n 1 (wordVals ws) by rw [hn]; rw [hn] at h; exact h) m hm
  unfold WordsAt
  rw [show (ws.take m).length = m by rw [List.length_take]; omega]
  rw [Nat.mul_one] at h2
  rw [show wordVals (ws.take m) = (wordVals ws).take m by unfold wordVals; rw [List.map_take]]
  exact h2
/-- Block b is a map that has just these words. -/
def MetAt (W : World) (b n : Nat) (ps : List Nat) : Prop := ∃ D : DataW Unit, W.ownsMap Try.prog 22 (plainElem Try.prog 3) b n D ∧ Maps.Tidy D ∧ ∀ kl, Maps.has D kl = true ↔ ∃ p ∈ ps, kl = .int .u64 (p : Int)
theorem MetAt.made (W : World) : MetAt (W.alloc (.map #[] 0)) W.heap.size 0 [] :=
  ⟨.map [], World.ownsMap_made (H := Unit) W Try.prog 22 (plainElem Try.prog 3), Maps.tidy_empty, fun kl => by simp [Maps.has]⟩
theorem MetAt.kept {W W' : World} {b n : Nat} {ps : List Nat} {row : Option Nat} (h : MetAt W b n ps) (hg : W.grownBy W' row) (hne : some b ≠ row) : MetAt W' b n ps := let ⟨D, h1, h2⟩ := h; ⟨D, h1.kept hg hne, h2⟩
theorem MetAt.lt {W : World} {b n : Nat} {ps : List Nat} (h : MetAt W b n ps) : b < W.heap.size := let ⟨_, h1, _⟩ := h; h1.lt
theorem MetAt.below {W W' : World} {b n h : Nat} {ps : List Nat} (r : MetAt W b n ps) (p : Below h W W') (hh : W.heap.size ≤ h) : MetAt W' b n ps := r.kept (grown_below p hh) (by simp)
/-- m[p] = 1. -/
theorem MetAt.add {W : World} {b n : Nat} {ps : List Nat} (h : MetAt W b n ps) (p : Nat) (hp : p < 18446744073709551616) (hn : n < 1000000000) :
    ∃ w', (Instr.mapUpdate 39 (.map (some b)) (.int .u64 (p : Int)) (.int .i64 1)).run Try.prog W = .ok () w' ∧ MetAt w' b (n + 1) (ps ++ [p]) ∧ W.grownBy w' (some b) := by
  obtain ⟨D, h1, h2, h3⟩ := h
  obtain ⟨w', hr, ho, hg⟩ := h1.update (val := .int .i64 1) Try.lawU Try.underlying39 (by unfold maxLen; omega) (Try.keyU hp) (plainElem_int Try.underlying3 (i64_wf (by omega)))
  have hk := Try.lawU.key (Try.keyU hp)
  refine ⟨w', hr, ⟨_, ho, h2.put hk _, fun kl => ?_⟩, hg⟩
  by_cases e : kl = .int .u64 (p : Int)
  · subst e
    simp only [Maps.has_put_same h2.isMap hk, true_iff]
    exact ⟨p, by simp, rfl⟩
  · rw [Maps.has_put_other e, h3]
    constructor
    · rintro ⟨q, hq, rfl⟩; exact ⟨q, by simp [hq], rfl⟩
    · rintro ⟨q, hq, rfl⟩
      rcases List.mem_append.1 hq with hq | hq
      · exact ⟨q, hq, rfl⟩
      · obtain rfl : q = p := by simpa using hq
        exact absurd rfl e
theorem lens_same {W : World} {b n b' n' : Nat} {ps qs : List Nat} (h : CntAt W b n ps) (h' : MetAt W b' n' qs) (hm : ∀ x, x ∈ ps ↔ x ∈ qs) :
    ∃ z : Int, (∀ ty, (Builtin.len_ #[39] ty #[.map (some b)]).run Try.prog W = .ok (.int .i64 z) W) ∧ ∀ ty, (Builtin.len_ #[39] ty #[.map (some b')]).run Try.prog W = .ok (.int .i64 z) W := by
  obtain ⟨D, h1, h2⟩ := h
  obtain ⟨E, k1, k2, k3⟩ := h'
  obtain ⟨es, he, _, hk⟩ := h1.entries Try.lawU
  obtain ⟨fs, hf, _, hk2⟩ := k1.entries Try.lawU
  have hl := fun ty => h1.len Try.underlying39 ty
  have hl2 := fun ty => k1.len Try.underlying39 ty
  have hs : Maps.size D = Maps.size E := size_same h2.1 k2 (by subst he; exact hk) (by subst hf; exact hk2) fun kl => by
    rw [Bool.eq_iff_iff, h2.2.1, k3]
    exact ⟨fun ⟨p, hp, e⟩ => ⟨p, (hm p).1 hp, e⟩, fun ⟨p, hp, e⟩ => ⟨p, (hm p).2 hp, e⟩⟩
  rw [← hs] at hl2
  exact ⟨_, hl, hl2⟩
theorem cellsPair : Try.prog.cellsOf 37 = 2 := by kernel_rfl
/-- Two numbers, opened. -/
theorem open_pair {H : Type} {enc : TypeId × Value → H} {W : World} {r : Reach} {b0 base : Nat} {sp : Nat → Bool} {held : Bool} {v : Value} {d : DataW H} {p : List MemPlace}
    (hv : Value.okWide Try.prog W r b0 37 v) (h : DataW.Trod enc Try.prog W base sp held 37 v d p) :
    ∃ a b : Int, v = .agg #[.int .i64 a, .int .i64 b] ∧ (Lit.int .i64 a).wf = true ∧ (Lit.int .i64 b).wf = true := by
  obtain ⟨ys, rfl, hys⟩ : ∃ ys : Array Value, v = .agg ys ∧ ys.size = 2 := by
    simp only [Value.okWide, Try.underlying37] at hv
    obtain ⟨cs, h1, h2, _⟩ := hv
    exact ⟨cs, h1, by rw [h2, cellsPair]⟩
  obtain ⟨fuel, hf⟩ := h
  obtain ⟨xs, m, rfl, hx, hlen, hxl, hel⟩ := DataW.trod_array Try.underlying37 hf
  obtain ⟨y0, y1, rfl⟩ : ∃ y0 y1, ys = #[y0, y1] := by
    obtain ⟨l⟩ := ys
    match l, hys with
    | [y0, y1], _ => exact ⟨y0, y1, rfl⟩
  obtain ⟨x0, x1, rfl⟩ : ∃ x0 x1, xs = [x0, x1] := by
    match xs, hxl with
    | [x0, x1], _ => exact ⟨x0, x1, rfl⟩
  have e0 := hel 0 (by decide)
  have e1 := hel 1 (by decide)
  rw [cellsI] at e0 e1
  obtain ⟨a, ha, _, wa⟩ := DataW.trod_int Try.underlying3 e0
  obtain ⟨b, hb, _, wb⟩ := DataW.trod_int Try.underlying3 e1
  simp [Value.cells] at ha hb
  subst ha hb
  exact ⟨a, b, rfl, wa, wb⟩
end Go.Proofs
