/- Limbo: the reference: with, Advance. -/
import Derived.Test.YtghnfiegihfdnaaDoorLrt
namespace Go.Proofs
set_option maxRecDepth 100000
open Go.RowKit Go.Shelf
attribute [local go_sem] Oper.semAt_some

theorem of_ready {E : Nat} {r : Rw3} (h : rightL E r = true) : ofL E r 2 = readyL E r := by
  obtain ⟨⟨_, h1, h2⟩, _⟩ := rightL_iff.1 h
  unfold ofL readyL
  rcases two_more E with rfl | rfl | ⟨F, rfl⟩
  · rw [if_pos (by omega), h1 (by omega)]
  · rw [if_pos (by omega)]; exact (h2 (by omega)).symm
  · rw [if_neg (by omega), show F + 2 - 2 = F by omega, show (F + 2 + 1) % 3 = F % 3 by omega]
theorem setLimU (e : Value) (s : Ls) (k : Nat) (hk : k < 3) (a : Option Addr) (n c : Nat) : (#[e, .slice (s.a 0) (s.n 0) (s.c 0), .slice (s.a 1) (s.n 1) (s.c 1), .slice (s.a 2) (s.n 2) (s.c 2)] : Array Value).setIfInBounds (1 + k) (.slice a n c) = #[e, .slice ((s.upd k a n c).a 0) ((s.upd k a n c).n 0) ((s.upd k a n c).c 0), .slice ((s.upd k a n c).a 1) ((s.upd k a n c).n 1) ((s.upd k a n c).c 1), .slice ((s.upd k a n c).a 2) ((s.upd k a n c).n 2) ((s.upd k a n c).c 2)] := by
  rcases three hk with rfl | rfl | rfl <;> rfl
theorem lat_upd {W : World} {s : Ls} {r : Rw3} (h : LAt W s r) (k : Nat) (a : Option Addr) (n c : Nat) (l : List Pr) (hl : PAt W (.slice a n c) l) : LAt W (s.upd k a n c) (updL r k l) := fun j hj => by
  by_cases e : j = k
  · subst e
    rw [updL_self]
    simpa [Ls.upd] using hl
  · rw [updL_ne _ _ e]
    simpa [Ls.upd, e] using h j hj
set_option maxHeartbeats 4000000 in
theorem Tryd.with_any (E : Nat) (s : Ls) (g : Nat) (a : Option Addr) (n c : Nat) (w : World) (hE : E < 18446744073709551616) (hg : g ≤ E) :
    Calls Tryd.prog 46 #[.agg #[.int .u64 (E : Nat), .slice (s.a 0) (s.n 0) (s.c 0), .slice (s.a 1) (s.n 1) (s.c 1), .slice (s.a 2) (s.n 2) (s.c 2)], .int .u64 (g : Nat), .slice a n c] w fun e w' => e = .returned (.agg #[.int .u64 (E : Nat), .slice ((s.upd ((E - g) % 3) a n c).a 0) ((s.upd ((E - g) % 3) a n c).n 0) ((s.upd ((E - g) % 3) a n c).c 0), .slice ((s.upd ((E - g) % 3) a n c).a 1) ((s.upd ((E - g) % 3) a n c).n 1) ((s.upd ((E - g) % 3) a n c).c 1), .slice ((s.upd ((E - g) % 3) a n c).a 2) ((s.upd ((E - g) % 3) a n c).n 2) ((s.upd ((E - g) % 3) a n c).c 2)]) ∧ Below w.heap.size w w' := by
  obtain ⟨W0, hW0⟩ : ∃ W, W = (w.alloc (.cells #[.int .u64 (E : Nat), .slice (s.a 0) (s.n 0) (s.c 0), .slice (s.a 1) (s.n 1) (s.c 1), .slice (s.a 2) (s.n 2) (s.c 2)] 26)).alloc (.cells #[.int .u64 0, .slice none 0 0, .slice none 0 0, .slice none 0 0] 26) := ⟨_, rfl⟩
  have hB0 : Below w.heap.size w W0 := by rw [hW0]; exact (Rows8.newB).alloc (by simp) _
  have hk0 : Rows8 W0 w.heap.size 26 #[.int .u64 (E : Nat), .slice (s.a 0) (s.n 0) (s.c 0), .slice (s.a 1) (s.n 1) (s.c 1), .slice (s.a 2) (s.n 2) (s.c 2)] := by rw [hW0]; exact (Rows8.new _ _ _).alloc _
  have hz0 : Rows8 W0 (w.heap.size + 1) 26 #[.int .u64 0, .slice none 0 0, .slice none 0 0, .slice none 0 0] := by rw [hW0]; exact rows_new2 _ _ _ _
  have HB := Lib.hid hB0
  have HZ := Lib.hid hz0
  have c0 : W0.cell? ⟨w.heap.size, 0, none⟩ = some (.int .u64 (E : Nat)) := hk0.cell 0
  have lt := hk0.lt
  have hs : IntKind.u64.wrap (((E : Nat) : Int) - ((g : Nat) : Int)) = ((E - g : Nat) : Int) := by rw [IntKind.wrap_u64]; omega
  obtain ⟨F, hF⟩ : ∃ F, F = E - g := ⟨_, rfl⟩
  rw [← hF] at hs ⊢
  have h1 : ((F : Nat) : Int) % 3 = ((F % 3 : Nat) : Int) := by omega
  have h2 : ((F : Nat) : Int).tmod 3 = ((F % 3 : Nat) : Int) := by rw [Int.tmod_eq_emod_of_nonneg (by omega)]; exact h1
  have hk : F % 3 < 3 := Nat.mod_lt _ (by decide)
  have h3 : IntKind.u64.wrap ((F % 3 : Nat) : Int) = ((F % 3 : Nat) : Int) := wrap_u _ (by omega) (by omega)
  have cK := cellK hk0 (F % 3) hk
  have fK := hk0.frozen (1 + F % 3)
  generalize F % 3 = k at *
  have cL : ([.int .u64 (E : Nat), .slice (s.a 0) (s.n 0) (s.c 0), .slice (s.a 1) (s.n 1) (s.c 1), .slice (s.a 2) (s.n 2) (s.c 2)] : List Value)[1 + k]? = some (.slice (s.a k) (s.n k) (s.c k)) := by rcases three hk with rfl | rfl | rfl <;> rfl
  have hki : (k : Int) < 3 := by omega
  have hki0 : (0 : Int) ≤ (k : Int) := by omega
  have HK : Hid (Rows8 (W0.setCell ⟨w.heap.size, 1 + k, none⟩ (.slice a n c)) w.heap.size 26 #[.int .u64 (E : Nat), .slice ((s.upd k a n c).a 0) ((s.upd k a n c).n 0) ((s.upd k a n c).c 0), .slice ((s.upd k a n c).a 1) ((s.upd k a n c).n 1) ((s.upd k a n c).c 1), .slice ((s.upd k a n c).a 2) ((s.upd k a n c).n 2) ((s.upd k a n c).c 2)]) := Lib.hid (by rw [← setLimU _ _ k hk]; exact hk0.set (1 + k) (.slice a n c))
  have HZ2 := Lib.hid (hz0.setOther (a := ⟨w.heap.size, 1 + k, none⟩) (by simp) (.slice a n c))
  have HB2 := Lib.hid (hB0.setCell (p := ⟨w.heap.size, 1 + k, none⟩) (Nat.le_refl _) (.slice a n c))
  generalize s.upd k a n c = s' at *
  have k0 := HK.out
  have m0 : (W0.setCell ⟨w.heap.size, 1 + k, none⟩ (.slice a n c)).cell? ⟨w.heap.size, 0, none⟩ = some (.int .u64 (E : Nat)) := k0.cell 0
  have m1 : (W0.setCell ⟨w.heap.size, 1 + k, none⟩ (.slice a n c)).cell? ⟨w.heap.size, 1, none⟩ = some (.slice (s'.a 0) (s'.n 0) (s'.c 0)) := k0.cell 1
  have m2 : (W0.setCell ⟨w.heap.size, 1 + k, none⟩ (.slice a n c)).cell? ⟨w.heap.size, 2, none⟩ = some (.slice (s'.a 1) (s'.n 1) (s'.c 1)) := k0.cell 2
  have m3 : (W0.setCell ⟨w.heap.size, 1 + k, none⟩ (.slice a n c)).cell? ⟨w.heap.size, 3, none⟩ = some (.slice (s'.a 2) (s'.n 2) (s'.c 2)) := k0.cell 3
  have ltk := k0.lt
  have z0 : (W0.setCell ⟨w.heap.size, 1 + k, none⟩ (.slice a n c)).cell? ⟨w.heap.size + 1, 0, none⟩ = some (.int .u64 0) := HZ2.out.cell 0
  have f0 := HZ2.out.frozen 0
  have z1 : (W0.setCell ⟨w.heap.size, 1 + k, none⟩ (.slice a n c)).cell? ⟨w.heap.size + 1, 1, none⟩ = some (.slice none 0 0) := HZ2.out.cell 1
  have f1 := HZ2.out.frozen 1
  have z2 : (W0.setCell ⟨w.heap.size, 1 + k, none⟩ (.slice a n c)).cell? ⟨w.heap.size + 1, 2, none⟩ = some (.slice none 0 0) := HZ2.out.cell 2
  have f2 := HZ2.out.frozen 2
  have z3 : (W0.setCell ⟨w.heap.size, 1 + k, none⟩ (.slice a n c)).cell? ⟨w.heap.size + 1, 3, none⟩ = some (.slice none 0 0) := HZ2.out.cell 3
  have f3 := HZ2.out.frozen 3
  have ltz := HZ2.out.lt
  have HR := Lib.hid (rows4 HZ2.out (.int .u64 (E : Nat)) (.slice (s'.a 0) (s'.n 0) (s'.c 0)) (.slice (s'.a 1) (s'.n 1) (s'.c 1)) (.slice (s'.a 2) (s'.n 2) (s'.c 2)))
  have HB3 := Lib.hid (below4 HB2.out (B := w.heap.size + 1) (by omega) (.int .u64 (E : Nat)) (.slice (s'.a 0) (s'.n 0) (s'.c 0)) (.slice (s'.a 1) (s'.n 1) (s'.c 1)) (.slice (s'.a 2) (s'.n 2) (s'.c 2)))
  clear hk0 hz0 hB0 hE hg hF h1 k0
  go_enter Tryd.func46, Tryd.ntmps46
  go_upto_region 1 with fail
  rw [← hW0]
  clear hW0 cL
  go_wp2_with fail
  refine bodyPost_ret (results_c1 rfl _ _ (w.heap.size + 1) _ rfl (load_row HR.out Tryd.underlying26 rfl (by kernel_rfl))) rfl ?_
  exact ⟨rfl, HB3.out⟩
end Go.Proofs
