/- each, lay, join, where of lanes. -/
import Derived.Test.YtmjlaienklheiaaA
namespace Go.Proofs
set_option maxRecDepth 100000
open Go.RowKit Go.Shelf
attribute [local go_sem] Oper.semAt_some

/-- A block of cells. -/
def Rows8 (W : World) (B : Nat) (t : TypeId) (cs : Array Value) : Prop := W.heap[B]? = some (.cells cs t (0, 0))
theorem Rows8.lt {W : World} {B : Nat} {t : TypeId} {cs : Array Value} (h : Rows8 W B t cs) : B < W.heap.size := (Array.getElem?_eq_some_iff.1 h).1
theorem Rows8.cell {W : World} {B : Nat} {t : TypeId} {cs : Array Value} (h : Rows8 W B t cs) (o : Nat) : W.cell? ⟨B, o, none⟩ = cs[o]? := by simp [World.cell?, show W.heap[B]? = _ from h]
theorem Rows8.frozen {W : World} {B : Nat} {t : TypeId} {cs : Array Value} (h : Rows8 W B t cs) (o : Nat) : W.frozen? ⟨B, o, none⟩ = false := by simp [World.frozen?, show W.heap[B]? = _ from h]
theorem Rows8.new (W : World) (t : TypeId) (cs : Array Value) : Rows8 (W.alloc (.cells cs t)) W.heap.size t cs := World.alloc_heap_new W _
theorem Rows8.alloc {W : World} {B : Nat} {t : TypeId} {cs : Array Value} (h : Rows8 W B t cs) (o : Obj) : Rows8 (W.alloc o) B t cs := (Below.heap_alloc _ _ _ h.lt).trans h
theorem Rows8.set {W : World} {B : Nat} {t : TypeId} {cs : Array Value} (h : Rows8 W B t cs) (o : Nat) (v : Value) : Rows8 (W.setCell ⟨B, o, none⟩ v) B t (cs.setIfInBounds o v) := by
  obtain ⟨hlt, hk⟩ := Array.getElem?_eq_some_iff.1 h
  show (W.heap.modify B _)[B]? = _
  rw [Array.getElem?_eq_getElem (by rw [Array.size_modify]; exact hlt), Array.getElem_modify_self, hk]
  rfl
theorem Rows8.but {A B : World} {h x b : Nat} {t : TypeId} {cs : Array Value} (p : But h x A B) (r : Rows8 A b t cs) (h1 : b < h) (h2 : b ≠ x) : Rows8 B b t cs := (p.block b h1 h2).trans r
theorem Rows8.own {β : Type} (B : Nat) (t : TypeId) (f : β → Array Value) : Own (fun (s : β) W => Rows8 W B t (f s)) := fun s X Y row hs hg hr =>
  (hg.block B hs.lt (fun e => by obtain ⟨o, ho, hc⟩ := hr B e.symm; rw [show X.heap[B]? = _ from hs] at ho; cases ho; cases hc)).trans hs

/-- The array when the lanes of l have been set. -/
def arrAll (g : Nat → Value) (a : Array Value) (l : List (Fin 8)) : Array Value := l.foldl (fun a (y : Fin 8) => a.setIfInBounds y (g y)) a
theorem arrAll_snoc (g : Nat → Value) (a : Array Value) (l : List (Fin 8)) (y : Fin 8) : arrAll g a (l ++ [y]) = (arrAll g a l).setIfInBounds y (g y) := by simp [arrAll]
theorem arrAll_size (g : Nat → Value) (a : Array Value) (l : List (Fin 8)) : (arrAll g a l).size = a.size := by
  induction l generalizing a with
  | nil => rfl
  | cons y l ih => exact (ih _).trans (by simp)
def arr8 (g : Nat → Value) : Array Value := #[g 0, g 1, g 2, g 3, g 4, g 5, g 6, g 7]
theorem arrAll_all8 (g : Nat → Value) (v : Value) : arrAll g #[v, v, v, v, v, v, v, v] all8 = arr8 g := by simp only [arrAll, all8, List.foldl_cons, List.foldl_nil, List.setIfInBounds_toArray, List.set_cons_zero, List.set_cons_succ, arr8]

theorem Rows8.all {W : World} {B : Nat} {t : TypeId} {v0 v1 v2 v3 v4 v5 v6 v7 : Value} (h : Rows8 W B t #[v0, v1, v2, v3, v4, v5, v6, v7]) :
    W.cell? ⟨B, 0, none⟩ = some v0 ∧ W.cell? ⟨B, 1, none⟩ = some v1 ∧ W.cell? ⟨B, 2, none⟩ = some v2 ∧ W.cell? ⟨B, 3, none⟩ = some v3 ∧ W.cell? ⟨B, 4, none⟩ = some v4 ∧ W.cell? ⟨B, 5, none⟩ = some v5 ∧ W.cell? ⟨B, 6, none⟩ = some v6 ∧ W.cell? ⟨B, 7, none⟩ = some v7 :=
  ⟨h.cell 0, h.cell 1, h.cell 2, h.cell 3, h.cell 4, h.cell 5, h.cell 6, h.cell 7⟩
theorem Rows8.allf {W : World} {B : Nat} {t : TypeId} {cs : Array Value} (h : Rows8 W B t cs) :
    W.frozen? ⟨B, 0, none⟩ = false ∧ W.frozen? ⟨B, 1, none⟩ = false ∧ W.frozen? ⟨B, 2, none⟩ = false ∧ W.frozen? ⟨B, 3, none⟩ = false ∧ W.frozen? ⟨B, 4, none⟩ = false ∧ W.frozen? ⟨B, 5, none⟩ = false ∧ W.frozen? ⟨B, 6, none⟩ = false ∧ W.frozen? ⟨B, 7, none⟩ = false :=
  ⟨h.frozen 0, h.frozen 1, h.frozen 2, h.frozen 3, h.frozen 4, h.frozen 5, h.frozen 6, h.frozen 7⟩

theorem Rows8.set8 {W : World} {B : Nat} {t : TypeId} {v : Value} (h : Rows8 W B t #[v, v, v, v, v, v, v, v]) (g : Nat → Value) :
    Rows8 ((((((((W.setCell ⟨B, 0, none⟩ (g 0)).setCell ⟨B, 1, none⟩ (g 1)).setCell ⟨B, 2, none⟩ (g 2)).setCell ⟨B, 3, none⟩ (g 3)).setCell ⟨B, 4, none⟩ (g 4)).setCell ⟨B, 5, none⟩ (g 5)).setCell ⟨B, 6, none⟩ (g 6)).setCell ⟨B, 7, none⟩ (g 7)) B t (arr8 g) := by
  have h8 := (((((((h.set 0 (g 0)).set 1 (g 1)).set 2 (g 2)).set 3 (g 3)).set 4 (g 4)).set 5 (g 5)).set 6 (g 6)).set 7 (g 7)
  simp only [List.setIfInBounds_toArray, List.set_cons_zero, List.set_cons_succ] at h8
  exact h8
theorem Rows8.set1 {W : World} {B : Nat} {t : TypeId} {v : Value} (h : Rows8 W B t #[v]) (u : Value) : Rows8 (W.setCell ⟨B, 0, none⟩ u) B t #[u] := by
  have h1 := h.set 0 u
  simp only [List.setIfInBounds_toArray, List.set_cons_zero] at h1
  exact h1
theorem Rows8.drew {W : World} {B : Nat} {t : TypeId} {cs : Array Value} (h : Rows8 W B t cs) : Rows8 W.drew B t cs := h
theorem KeepsOthers.drewN' (W : World) (q : Nat) : KeepsOthers W (W.drewN q) := ⟨Nat.le_refl _, fun _ _ h _ => h⟩

/-- The function k, its arguments bound ahead and its captured cells behind: of a lane it says g. -/
def Says8 (P : Program) (k : FuncId) (bnd cap : Array Value) (g : Nat → Value) (w : World) : Prop :=
  ∀ (y : Fin 8) (W : World), Below w.heap.size w W → Calls P k (bnd.push (.int .i64 (y : Nat)) ++ cap) W fun e W' => e = .returned (g y) ∧ ∃ q, W' = W.drewN q

set_option maxRecDepth 100000 in
set_option maxHeartbeats 2000000 in
theorem Try.each37_any (k : FuncId) (bnd cap : Array Value) (g : Nat → Int) (w : World) (hs : Says8 Try.prog k bnd cap (fun n => .int .u8 (g n)) w)
    (eg : ∀ args w, (callFunc k args).run Try.prog w = .ok (.enter k args) w) :
    Calls Try.prog 56 #[.func (.func k) bnd cap] w fun e w' => e = .returned (.agg (arr8 fun n => .int .u8 (g n))) ∧ Below w.heap.size w w' := by
  refine (callsIn_wide (n := 3)).1 ?_
  refine callsIn_of_wp_marks Try.func56 rfl trivial ?_ rfl
  simp only [Try.ntmps56, List.size_toArray, List.length_cons, List.length_nil, Nat.reduceAdd, Nat.reduceSub, Array.replicate_succ, Array.replicate_zero, List.push_toArray, List.append_toArray, List.nil_append, List.cons_append]
  gi_wp2_with (refine ⟨trivial, ?_⟩; gi_at_call 67; refine (callsIn_wide.2 (Try.in_any _ _)).mono ?_; rintro e w' ⟨rfl, rfl⟩)
  have b0 : Rows8 (w.alloc (.cells #[.func (.func k) bnd cap] 85)) w.heap.size 85 #[.func (.func k) bnd cap] := Rows8.new w _ _
  have b1 := Rows8.new (w.alloc (.cells #[.func (.func k) bnd cap] 85)) 81 #[.int .u8 0, .int .u8 0, .int .u8 0, .int .u8 0, .int .u8 0, .int .u8 0, .int .u8 0, .int .u8 0]
  have b2 := Rows8.new ((w.alloc (.cells #[.func (.func k) bnd cap] 85)).alloc (.cells #[.int .u8 0, .int .u8 0, .int .u8 0, .int .u8 0, .int .u8 0, .int .u8 0, .int .u8 0, .int .u8 0] 81)) 81 #[.int .u8 0, .int .u8 0, .int .u8 0, .int .u8 0, .int .u8 0, .int .u8 0, .int .u8 0, .int .u8 0]
  have b3 := Rows8.new (((w.alloc (.cells #[.func (.func k) bnd cap] 85)).alloc (.cells #[.int .u8 0, .int .u8 0, .int .u8 0, .int .u8 0, .int .u8 0, .int .u8 0, .int .u8 0, .int .u8 0] 81)).alloc (.cells #[.int .u8 0, .int .u8 0, .int .u8 0, .int .u8 0, .int .u8 0, .int .u8 0, .int .u8 0, .int .u8 0] 81)) 29 #[.int .u8 255]
  simp only [World.size_alloc] at b1 b2 b3
  have b0' := ((b0.alloc (.cells #[.int .u8 0, .int .u8 0, .int .u8 0, .int .u8 0, .int .u8 0, .int .u8 0, .int .u8 0, .int .u8 0] 81)).alloc (.cells #[.int .u8 0, .int .u8 0, .int .u8 0, .int .u8 0, .int .u8 0, .int .u8 0, .int .u8 0, .int .u8 0] 81)).alloc (.cells #[.int .u8 255] 29)
  have b1' := (b1.alloc (.cells #[.int .u8 0, .int .u8 0, .int .u8 0, .int .u8 0, .int .u8 0, .int .u8 0, .int .u8 0, .int .u8 0] 81)).alloc (.cells #[.int .u8 255] 29)
  have b2' := b2.alloc (.cells #[.int .u8 255] 29)
  have hB0 : Below w.heap.size w ((((w.alloc (.cells #[.func (.func k) bnd cap] 85)).alloc (.cells #[.int .u8 0, .int .u8 0, .int .u8 0, .int .u8 0, .int .u8 0, .int .u8 0, .int .u8 0, .int .u8 0] 81)).alloc (.cells #[.int .u8 0, .int .u8 0, .int .u8 0, .int .u8 0, .int .u8 0, .int .u8 0, .int .u8 0, .int .u8 0] 81)).alloc (.cells #[.int .u8 255] 29)) :=
    ((((Below.refl _ w).alloc (Nat.le_refl _) _).alloc (by simp) _).alloc (by simp; omega) _).alloc (by simp; omega) _
  have hsz : ((((w.alloc (.cells #[.func (.func k) bnd cap] 85)).alloc (.cells #[.int .u8 0, .int .u8 0, .int .u8 0, .int .u8 0, .int .u8 0, .int .u8 0, .int .u8 0, .int .u8 0] 81)).alloc (.cells #[.int .u8 0, .int .u8 0, .int .u8 0, .int .u8 0, .int .u8 0, .int .u8 0, .int .u8 0, .int .u8 0] 81)).alloc (.cells #[.int .u8 255] 29)).heap.size = w.heap.size + 4 := by simp
  generalize ((((w.alloc (.cells #[.func (.func k) bnd cap] 85)).alloc (.cells #[.int .u8 0, .int .u8 0, .int .u8 0, .int .u8 0, .int .u8 0, .int .u8 0, .int .u8 0, .int .u8 0] 81)).alloc (.cells #[.int .u8 0, .int .u8 0, .int .u8 0, .int .u8 0, .int .u8 0, .int .u8 0, .int .u8 0, .int .u8 0] 81)).alloc (.cells #[.int .u8 255] 29)) = W0 at *
  clear b0 b1 b2
  have HSZ := Lib.hid hsz
  clear hsz
  refine wpIn_rangeFunc_ownG rfl (by omega) (gf := 75) (lb := #[.pointer (some ⟨w.heap.size + 1 + 1 + 1, 0, none⟩)]) rfl trivial (enters_of Try.func75 (by kernel_rfl) rfl)
    (Try.in_stops Fence.wide _ rfl trivial rfl (by omega) (w.heap.size + 1 + 1 + 1) (w.heap.size + 4) (w.heap.size + 1 + 1) 255 (by decide) (by omega) (by omega) W0 (by rw [HSZ.out]; exact Nat.le_refl _) (b3.cell 0)) but_t (but_b (by rw [HSZ.out]; exact Nat.le_refl _)) (Below.refl _ _) (fun _ => rfl)
    (fun pre W => Rows8 W (w.heap.size + 1 + 1) 81 (arrAll (fun n => .int .u8 (g n)) #[.int .u8 0, .int .u8 0, .int .u8 0, .int .u8 0, .int .u8 0, .int .u8 0, .int .u8 0, .int .u8 0] pre) ∧ But (w.heap.size + 4) (w.heap.size + 1 + 1) W0 W)
    (fun _ _ _ => False)
    (OwnFrom.and (Own.from (Rows8.own _ _ _) _) (ownFrom_but (by rw [HSZ.out]; exact Nat.le_refl _) (by rw [HSZ.out]; exact Nat.le_refl _)))
    (fun _ _ _ _ _ hs _ _ => hs)
    ⟨b2', But.refl _ _ _⟩
    (fun x => { tmps := #[.func (.func k) bnd cap, .pointer (some ⟨w.heap.size, 0, none⟩), .pointer (some ⟨w.heap.size + 1, 0, none⟩), .pointer (some ⟨w.heap.size + 1 + 1, 0, none⟩), .int .i64 (x : Nat), .func (.func 75) #[] #[.pointer (some ⟨w.heap.size + 1 + 1 + 1, 0, none⟩)], .int .i64 (x : Nat), undef, undef, undef, undef, undef, undef], defers := [] }) ?assign ?body ?done ?stop
  case assign =>
    intro l x W K hK
    gi_wp2
    exact hK
  case body =>
    rintro l pre x W ⟨hr, hB⟩ _
    have hof : W.cell? ⟨w.heap.size, 0, none⟩ = some (.func (.func k) bnd cap) := (hB.cell (a := ⟨w.heap.size, 0, none⟩) (by simp) (by simp; omega)).trans (b0'.cell 0)
    have hx := x.isLt
    have hbl : Below w.heap.size w W := hB0.trans (hB.below (by omega) (by omega))
    have hcl := hr.cell x
    have hfr := hr.frozen x
    obtain ⟨v0, hv0⟩ : ∃ v, (arrAll (fun n => Value.int .u8 (g n)) #[.int .u8 0, .int .u8 0, .int .u8 0, .int .u8 0, .int .u8 0, .int .u8 0, .int .u8 0, .int .u8 0] pre)[(x : Nat)]? = some v :=
      ⟨_, Array.getElem?_eq_getElem (by rw [arrAll_size]; exact hx)⟩
    rw [hv0] at hcl
    have hK := hs x W hbl
    have HK := Lib.hid hK
    have HR := Lib.hid hr
    clear hK hs hr hv0
    gi_wp2_with fail
    refine ⟨trivial, ?_⟩
    refine (CallsIn.inRound l (callsIn_wide.2 HK.out)).mono ?_
    rintro e W1 ⟨rfl, q, rfl⟩
    gi_wp2
    refine ⟨(KeepsOthers.from (KeepsOthers.trans (KeepsOthers.drewN' _ _) (KeepsOthers.setCell _ _ _)) _), (But.drewN (But.refl _ _ _) _).setCell _ _, ?_, (hB.drewN _).setCell _ _⟩
    rw [arrAll_snoc]
    exact Rows8.set (W := W.drewN q) HR.out _ _
  case done =>
    rintro D ys W hD rfl ⟨hr, hB⟩ hK
    have hb1 := hB.block (w.heap.size + 1) (by omega) (by omega)
    have hb2 : Rows8 W (w.heap.size + 1) _ _ := hb1.trans b1'
    rw [lanesOf_255, arrAll_all8] at hr
    obtain ⟨r0, r1, r2, r3, r4, r5, r6, r7⟩ := Rows8.all hr
    obtain ⟨s0, s1, s2, s3, s4, s5, s6, s7⟩ := Rows8.all hb2
    obtain ⟨f0, f1, f2, f3, f4, f5, f6, f7⟩ := Rows8.allf hb2
    have HR := Lib.hid hr
    have HB2 := Lib.hid hb2
    clear hb1 hb2 hr hs
    gi_wp2
    have hR := Rows8.set8 HB2.out (fun n => .int .u8 (g n))
    have hKO : KeepsOthers W _ := (((((((KeepsOthers.setCell W ⟨w.heap.size + 1, 0, none⟩ (.int .u8 (g 0))).trans (KeepsOthers.setCell _ ⟨w.heap.size + 1, 1, none⟩ (.int .u8 (g 1)))).trans (KeepsOthers.setCell _ ⟨w.heap.size + 1, 2, none⟩ (.int .u8 (g 2)))).trans (KeepsOthers.setCell _ ⟨w.heap.size + 1, 3, none⟩ (.int .u8 (g 3)))).trans (KeepsOthers.setCell _ ⟨w.heap.size + 1, 4, none⟩ (.int .u8 (g 4)))).trans (KeepsOthers.setCell _ ⟨w.heap.size + 1, 5, none⟩ (.int .u8 (g 5)))).trans (KeepsOthers.setCell _ ⟨w.heap.size + 1, 6, none⟩ (.int .u8 (g 6)))).trans (KeepsOthers.setCell _ ⟨w.heap.size + 1, 7, none⟩ (.int .u8 (g 7)))
    have hBE : Below w.heap.size w _ := (((((((((hB0.trans (hB.below (by omega) (by omega))).setCell (p := ⟨w.heap.size + 1, 0, none⟩) (by simp) (.int .u8 (g 0))).setCell (p := ⟨w.heap.size + 1, 1, none⟩) (by simp) (.int .u8 (g 1))).setCell (p := ⟨w.heap.size + 1, 2, none⟩) (by simp) (.int .u8 (g 2))).setCell (p := ⟨w.heap.size + 1, 3, none⟩) (by simp) (.int .u8 (g 3))).setCell (p := ⟨w.heap.size + 1, 4, none⟩) (by simp) (.int .u8 (g 4))).setCell (p := ⟨w.heap.size + 1, 5, none⟩) (by simp) (.int .u8 (g 5))).setCell (p := ⟨w.heap.size + 1, 6, none⟩) (by simp) (.int .u8 (g 6))).setCell (p := ⟨w.heap.size + 1, 7, none⟩) (by simp) (.int .u8 (g 7)))
    have hK' := hKO.same D _ hK rfl
    have hDn : w.heap.size + 1 ≠ D := by have := HSZ.out; omega
    refine ⟨by simp, .inl ⟨_, _, rfl, run_takeDeferred hK', ?_⟩⟩
    refine ⟨.agg (arr8 fun n => .int .u8 (g n)), results_cell_row rfl _ _ (w.heap.size + 1) 81 _ (0, 0) _ rfl ((World.putObj_heap_other hDn).trans hR) Try.underlying81 rfl (by kernel_rfl), rfl, hBE.trans (belowK_b (w := w) (Nat.le_refl _) _ D _ _ (by have := HSZ.out; omega) hK' rfl rfl)⟩
  case stop =>
    rintro D c pre W _ _ h _
    exact h.elim
end Go.Proofs
