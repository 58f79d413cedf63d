/- Arena: spoil, all but its row stays. -/
import Derived.Test.YtahcghppmhlebaaAx
namespace Go.Proofs
set_option maxRecDepth 100000
open Go.RowKit Go.Shelf
attribute [local go_sem] Oper.semAt_some

/-- All but a row's own block is as it was. -/
structure Spo (v : Value) (A B : World) : Prop where
  os : B.os = A.os
  tape : B.tape = A.tape
  output : B.output = A.output
  size : A.heap.size ≤ B.heap.size
  block : ∀ k, k < A.heap.size → v.ownBlock ≠ some k → B.heap[k]? = A.heap[k]?
theorem Spo.of_below {v : Value} {A B : World} (p : Below A.heap.size A B) : Spo v A B := ⟨p.os, p.tape, p.output, p.size, fun k hk _ => p.block k hk⟩
theorem Spo.set {A B : World} {g n c : Nat} (p : Spo (.slice (some ⟨g, 0, none⟩) n c) A B) (o : Nat) (u : Value) : Spo (.slice (some ⟨g, 0, none⟩) n c) A (B.setCell ⟨g, o, none⟩ u) :=
  ⟨p.os, p.tape, p.output, by simpa [World.setCell] using p.size, fun k hk hne => (Below.heap_setCell B ⟨g, o, none⟩ u k (by show k ≠ g; intro e; subst e; exact hne (by simp [Value.ownBlock]))).trans (p.block k hk hne)⟩
theorem Spo.below {v : Value} {A B w : World} {h : Nat} (p : Spo v A B) (q : Below h w A) (hA : h ≤ A.heap.size) (hv : ∀ j, v.ownBlock = some j → h ≤ j) : Below h w B :=
  q.trans ⟨p.os, p.tape, p.output, p.size, fun k hk => p.block k (by omega) (fun e => by have := hv k e; omega)⟩
theorem Spo.rows {v : Value} {A B : World} (p : Spo v A B) {n₀ k n D : Nat} {e t : TypeId} {xs : List Value} {cs : Array Value} (o : A.ownsRow n₀ e k v n xs) (r : Rows8 A D t cs) (hne : e ≠ t) : Rows8 B D t cs :=
  (p.block D r.lt (owns_not o r hne)).trans r
theorem Spo.owns {v u : Value} {A B : World} (p : Spo v A B) {n₀ k n : Nat} {e : TypeId} {xs : List Value} (o : A.ownsRow n₀ e k u n xs) (hne : u.ownBlock = none ∨ u.ownBlock ≠ v.ownBlock) : B.ownsRow n₀ e k u n xs := by
  refine ⟨o.1, o.2.imp id fun ⟨g, cap, cur, h1, h2, h3, h4⟩ => ⟨g, cap, cur, h1, h2, ?_, h4⟩⟩
  subst h1
  refine (p.block g (Array.getElem?_eq_some_iff.1 h3).1 (fun e => ?_)).trans h3
  rcases hne with h | h
  · simp [Value.ownBlock] at h
  · exact h (by rw [e]; simp [Value.ownBlock])
/-- A row of pairs does not lie in a block that holds a slice. -/
theorem pAt_sep {W : World} {v : Value} {l : List Pr} (h : PAt W v l) {B : Nat} {t : TypeId} {x : Option Addr} {n c : Nat} (r : Rows8 W B t #[.slice x n c]) (u : Value) : PAt (W.setCell ⟨B, 0, none⟩ u) v l := by
  obtain ⟨h0, a, cap, e, h1, h2, h3, h4⟩ := h
  refine ⟨h0, _, _, e, h1, h2, h3, fun j hj => ?_⟩
  obtain ⟨b, off, e, hb, hc⟩ := h4 j hj
  refine ⟨b, off, e, by simpa [World.setCell] using hb, ?_⟩
  rw [cell_set_other (a := ⟨b, off + j, none⟩) (p := ⟨B, 0, none⟩) (fun hbB => ?_) u]
  · exact hc
  · have hbB' : b = B := hbB
    subst hbB'
    rw [r.cell (off + j), List.getElem?_eq_getElem hj] at hc
    have hm : (pVals l)[j] ∈ pVals l := List.getElem_mem hj
    generalize (pVals l)[j] = z at *
    cases hk : off + j with
    | zero =>
      rw [hk] at hc
      simp at hc
      subst hc
      simp only [pVals, List.mem_flatMap] at hm
      obtain ⟨d, _, hm⟩ := hm
      simp [pCells] at hm
    | succ k => rw [hk] at hc; simp at hc
theorem ne_symm {u v : Value} (h : u.ownBlock = none ∨ u.ownBlock ≠ v.ownBlock) : v.ownBlock = none ∨ v.ownBlock ≠ u.ownBlock := by
  rcases h with h | h
  · cases e : v.ownBlock with
    | none => exact .inl rfl
    | some j => exact .inr (by rw [h]; simp)
  · exact .inr fun e => h e.symm
/-- A row that was there ahead of a call is not what the call tells. -/
theorem apart {T S : TypeId} {n₀ : Nat} {l m : List Pr} {u v : Value} {A B : World} (o : OwnsP T n₀ l u A) (q : OwnsP S A.heap.size m v B) : u.ownBlock = none ∨ u.ownBlock ≠ v.ownBlock := by
  cases e : u.ownBlock with
  | none => exact .inl rfl
  | some j => exact .inr fun e2 => by have h1 := (World.ownsRow.lt o j e).2; have h2 := (World.ownsRow.lt q j e2.symm).1; omega
end Go.Proofs
