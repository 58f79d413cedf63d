/- Arena: spoil; the reference's Retire, Give, Take. -/
import Derived.Test.YtahcghppmhlebaaAv
namespace Go.Proofs
set_option maxRecDepth 100000
open Go.RowKit Go.Shelf
attribute [local go_sem] Oper.semAt_some

theorem cell_set_other {W : World} {a p : Addr} (h : a.block ≠ p.block) (u : Value) : (W.setCell p u).cell? a = W.cell? a := World.cell?_of_block (w := W) (Below.heap_setCell W p u a.block h)
/-- A row that lies elsewhere stays. -/
theorem pAt_set {W : World} {x : Option Addr} {n c : Nat} {l : List Pr} (h : PAt W (.slice x n c) l) {p : Addr} (hne : ∀ y, x = some y → y.block ≠ p.block) (u : Value) : PAt (W.setCell p u) (.slice x n c) l := by
  obtain ⟨h0, a, cap, e, h1, h2, h3, h4⟩ := h
  cases e
  refine ⟨h0, _, _, rfl, h1, h2, h3, fun j hj => ?_⟩
  obtain ⟨b, off, e, hb, hc⟩ := h4 j hj
  exact ⟨b, off, e, by simpa [World.setCell] using hb, by rw [cell_set_other (a := ⟨b, off + j, none⟩) (show b ≠ p.block from hne ⟨b, off, none⟩ e)]; exact hc⟩
theorem owns_apart {T : TypeId} {n₀ : Nat} {l : List Pr} {x : Option Addr} {n c B : Nat} {W : World} (o : OwnsP T n₀ l (.slice x n c) W) (hB : B < n₀) : ∀ y, x = some y → y.block ≠ B := fun y e => by
  rcases o.2 with ⟨h, _⟩ | ⟨g, cap, cur, h, hg, _⟩
  · cases h; cases e
  · cases h; cases e; intro h2; have h3 : g = B := h2; omega
/-- What the reference says of a change. -/
def RefQ (w : World) (R : Int × List Pr) (e : Ending) (w' : World) : Prop := ∃ a n c, e = .returned (.tuple #[.agg #[.slice a n c], .int .i64 R.1]) ∧ PAt w' (.slice a n c) (if R.1 = 0 then R.2 else []) ∧ Below w.heap.size w w'

end Go.Proofs
