/- Limbo: rows stand where a limbo's box is written. -/
import Derived.Test.YtghnfiegihfdnaaDoorLsg
namespace Go.Proofs
set_option maxRecDepth 100000
open Go.RowKit Go.Shelf
attribute [local go_sem] Oper.semAt_some

theorem pat_off {W : World} {v : Value} {l : List Pr} (h : PAt W v l) {B : Nat} {e : Int} {x0 x1 x2 : Option Addr} {m0 m1 m2 d0 d1 d2 : Nat} (hR : Rows8 W B 26 #[.int .u64 e, .slice x0 m0 d0, .slice x1 m1 d1, .slice x2 m2 d2]) {W' : World} (hs : W.heap.size ≤ W'.heap.size) (hk : ∀ b, b ≠ B → W'.heap[b]? = W.heap[b]?) : PAt W' v l := by
  obtain ⟨h0, a, cap, ea, h1, h2, h3, hc⟩ := h
  refine ⟨h0, a, cap, ea, h1, h2, h3, fun j hj => ?_⟩
  obtain ⟨b, off, eb, hb, hcell⟩ := hc j hj
  have hne : b ≠ B := fun e1 => by
    subst e1
    have hl : 0 < (pVals l).length := by omega
    obtain ⟨b2, off2, eb2, _, hc0⟩ := hc 0 hl
    rw [eb] at eb2
    injection eb2 with eb2
    injection eb2 with e2 e3
    subst e2 e3
    rw [Nat.add_zero, Rows8.cell hR off] at hc0
    have hv : ∃ z : Int, (pVals l)[0]? = some (.int .i64 z) := by
      cases l with
      | nil => simp [pVals] at hl
      | cons p t => exact ⟨p.1, rfl⟩
    obtain ⟨z, hz⟩ := hv
    rw [hz] at hc0
    match off, hc0 with
    | 0, hc0 => simp at hc0
    | 1, hc0 => simp at hc0
    | 2, hc0 => simp at hc0
    | 3, hc0 => simp at hc0
    | n + 4, hc0 => simp at hc0
  refine ⟨b, off, eb, Nat.lt_of_lt_of_le hb hs, ?_⟩
  rw [← hcell]
  simp only [World.cell?, hk b hne]
theorem heap_set4 (W : World) (B : Nat) (v0 v1 v2 v3 : Value) (b : Nat) (h : b ≠ B) : ((((W.setCell ⟨B, 0, none⟩ v0).setCell ⟨B, 1, none⟩ v1).setCell ⟨B, 2, none⟩ v2).setCell ⟨B, 3, none⟩ v3).heap[b]? = W.heap[b]? :=
  (Below.heap_setCell _ ⟨B, 3, none⟩ v3 b h).trans ((Below.heap_setCell _ ⟨B, 2, none⟩ v2 b h).trans ((Below.heap_setCell _ ⟨B, 1, none⟩ v1 b h).trans (Below.heap_setCell _ ⟨B, 0, none⟩ v0 b h)))
theorem lat_set4 {W : World} {s : Ls} {r : Rw3} (h : LAt W s r) {B : Nat} {e : Int} {x0 x1 x2 : Option Addr} {m0 m1 m2 d0 d1 d2 : Nat} (hR : Rows8 W B 26 #[.int .u64 e, .slice x0 m0 d0, .slice x1 m1 d1, .slice x2 m2 d2]) (v0 v1 v2 v3 : Value) : LAt ((((W.setCell ⟨B, 0, none⟩ v0).setCell ⟨B, 1, none⟩ v1).setCell ⟨B, 2, none⟩ v2).setCell ⟨B, 3, none⟩ v3) s r := fun k hk =>
  pat_off (h k hk) hR (by simp [World.setCell]) (fun b hb => heap_set4 W B v0 v1 v2 v3 b hb)
end Go.Proofs
