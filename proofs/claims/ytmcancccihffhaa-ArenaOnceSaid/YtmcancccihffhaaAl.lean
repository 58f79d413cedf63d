/- Arena: what a draft that takes keeps; marks of loops over functions. -/
import Derived.Test.YtmcancccihffhaaAk
import Derived.Test.YtmcancccihffhaaGz
import Derived.RangeFuncLeaves
namespace Go.Proofs
set_option maxRecDepth 100000
open Go.RowKit Go.Shelf
attribute [local go_sem] Oper.semAt_some

/-- All but blocks of these types is as it was. -/
structure Kf (T : TypeId → Bool) (A B : World) : Prop where
  size : A.heap.size ≤ B.heap.size
  same : ∀ (k : Nat) (cs : Array Value) (t : TypeId) (fr : Nat × Nat), A.heap[k]? = some (Obj.cells cs t fr) → T t = false → B.heap[k]? = some (Obj.cells cs t fr)
theorem Kf.refl (T : TypeId → Bool) (A : World) : Kf T A A := ⟨Nat.le_refl _, fun _ _ _ _ h _ => h⟩
theorem Kf.trans {T : TypeId → Bool} {A B C : World} (p : Kf T A B) (q : Kf T B C) : Kf T A C := ⟨Nat.le_trans p.size q.size, fun k cs t fr h ht => q.same k cs t fr (p.same k cs t fr h ht) ht⟩
theorem Kf.of_below {T : TypeId → Bool} {A B : World} (p : Below A.heap.size A B) : Kf T A B := ⟨p.size, fun k _ _ _ h _ => (p.block k (Array.getElem?_eq_some_iff.1 h).1).trans h⟩
theorem Kf.of_ks {T : TypeId → Bool} {t : TypeId} (ht : T t = true) {A B : World} (p : Ks t A B) : Kf T A B := ⟨p.size, fun k cs t' fr h hf => p.same k cs t' fr h fun e => by rw [e, ht] at hf; cases hf⟩
theorem Kf.rows {T : TypeId → Bool} {t : TypeId} {A B : World} (p : Kf T A B) {k : Nat} {cs : Array Value} (r : Rows8 A k t cs) (ht : T t = false) : Rows8 B k t cs := p.same k cs t (0, 0) r ht
theorem Kf.drew {T : TypeId → Bool} {A B : World} (p : Kf T A B) : Kf T A B.drew := ⟨p.size, p.same⟩
theorem Kf.set {T : TypeId → Bool} {t : TypeId} (ht : T t = true) (A : World) {a : Addr} {cs : Array Value} (r : Rows8 A a.block t cs) (v : Value) : Kf T A (A.setCell a v) := .of_ks ht (Ks.set A r v)
theorem Kf.grown {T : TypeId → Bool} {t : TypeId} (ht : T t = true) {A B : World} {n₀ k n : Nat} {v : Value} {cs : List Value} (o : A.ownsRow n₀ t k v n cs) (hg : A.grownBy B v.ownBlock) : Kf T A B :=
  ⟨hg.size, fun q cs' t' fr hk hf => (hg.block q (Array.getElem?_eq_some_iff.1 hk).1 (fun e => by
    rcases o.2 with ⟨rfl, _⟩ | ⟨g, cap, cur, rfl, hb, hc, _⟩
    · simp [Value.ownBlock] at e
    · obtain rfl : q = g := by simpa [Value.ownBlock] using e
      rw [hc] at hk
      injection hk with hk
      injection hk with _ hk _
      rw [← hk, ht] at hf
      cases hf)).trans hk⟩
theorem Kf.put {T : TypeId → Bool} (W : World) (l : Nat) (o o' : Obj) (hh : W.heap[l]? = some o) (hc : o.isCells = false) : Kf T W (W.putObj l o') := by
  refine ⟨by simp [World.putObj], fun k cs t fr hk _ => ?_⟩
  have hne : l ≠ k := fun e => by
    subst e
    rw [hk] at hh
    injection hh with hh
    subst hh
    cases hc
  exact (World.putObj_heap_other (fun e => hne e.symm)).trans hk
def tA : TypeId → Bool := fun t => t == 52 || t == 41 || t == 58

def marks (Ds : List Nat) : List Deferred := Ds.map fun D => { target := .collected D, args := #[] }
def shutAll (W : World) (Ds : List Nat) : World := Ds.foldl (fun W D => W.putObj D (.deferred none)) W
theorem leaves_marks {F : Fence} {n : Nat} {P : Program} {fn : Func} {tmps : Array Value} {R : Ending → World → Prop} {u : FrameMode} (hu : u ≠ .run) : ∀ (Ds : List Nat) (W : World), Ds.Nodup → (∀ D ∈ Ds, W.heap[D]? = some (.deferred (some []))) →
    LeavesInM F n P fn tmps R [] u (shutAll W Ds) → LeavesInM F n P fn tmps R (marks Ds) u W
  | [], _, _, _, h => h
  | D :: Ds, W, hn, hK, h => by
    obtain ⟨h1, h2⟩ := List.nodup_cons.1 hn
    refine ⟨hu, .inl ⟨D, _, rfl, run_takeDeferred (hK D (by simp)), ?_⟩⟩
    exact leaves_marks hu Ds _ h2 (fun E hE => (World.putObj_heap_other (by rintro rfl; exact h1 hE)).trans (hK E (by simp [hE]))) h
/-- What is shut keeps all cells. -/
theorem shutAll_kf (T : TypeId → Bool) : ∀ (Ds : List Nat) (W : World), Ds.Nodup → (∀ D ∈ Ds, W.heap[D]? = some (.deferred (some []))) → Kf T W (shutAll W Ds)
  | [], W, _, _ => Kf.refl T W
  | D :: Ds, W, hn, hK => by
    obtain ⟨h1, h2⟩ := List.nodup_cons.1 hn
    exact (Kf.put W D _ _ (hK D (by simp)) rfl).trans (shutAll_kf T Ds _ h2 (fun E hE => (World.putObj_heap_other (by rintro rfl; exact h1 hE)).trans (hK E (by simp [hE]))))
theorem shutAll_below {h : Nat} : ∀ (Ds : List Nat) (W : World), Ds.Nodup → (∀ D ∈ Ds, W.heap[D]? = some (.deferred (some [])) ∧ h ≤ D) → Below h W (shutAll W Ds)
  | [], W, _, _ => Below.refl _ _
  | D :: Ds, W, hn, hK => by
    obtain ⟨h1, h2⟩ := List.nodup_cons.1 hn
    have hlt := (Array.getElem?_eq_some_iff.1 (hK D (by simp)).1).1
    have p : Below h W (W.putObj D (.deferred none)) := ⟨rfl, rfl, rfl, by simp [World.putObj], fun k hk => World.putObj_heap_other (by have := (hK D (by simp)).2; omega)⟩
    exact p.trans (shutAll_below Ds _ h2 (fun E hE => ⟨(World.putObj_heap_other (by rintro rfl; exact h1 hE)).trans (hK E (by simp [hE])).1, (hK E (by simp [hE])).2⟩))
theorem shutAll_owns {n₀ k n : Nat} {e : TypeId} {v : Value} {cs : List Value} : ∀ (Ds : List Nat) (W : World), Ds.Nodup → (∀ D ∈ Ds, W.heap[D]? = some (.deferred (some []))) → W.ownsRow n₀ e k v n cs → (shutAll W Ds).ownsRow n₀ e k v n cs
  | [], _, _, _, h => h
  | D :: Ds, W, hn, hK, h => by
    obtain ⟨h1, h2⟩ := List.nodup_cons.1 hn
    exact shutAll_owns Ds _ h2 (fun E hE => (World.putObj_heap_other (by rintro rfl; exact h1 hE)).trans (hK E (by simp [hE]))) (ownsRow_putObj h _ (hK D (by simp)) rfl)
/-- A draft that takes: behind k of them. -/
structure Tk (w : World) (n₀ D : Nat) (l : List Pr) (vs vt : Value) (k : Nat) (W : World) : Prop where
  x : Rows8 W w.heap.size 61 #[.pointer (some ⟨D, 0, none⟩)]
  d : Dr D n₀ (takeL l k) vs vt W
  t : OwnsP 41 n₀ ((ents l 0).take k) vt W
  b : Below n₀ w W
  f : Kf tA w W
theorem Tk.below {w : World} {n₀ D k : Nat} {l : List Pr} {vs vt : Value} {A B : World} (p : Tk w n₀ D l vs vt k A) (hn : n₀ ≤ w.heap.size) (q : Below A.heap.size A B) : Tk w n₀ D l vs vt k B :=
  ⟨p.x.below q p.x.lt, p.d.below q, p.t.below q (Nat.le_refl _), p.b.trans (q.mono (Nat.le_trans hn p.b.size)), p.f.trans (.of_below q)⟩
abbrev K0 : World → World → Prop := Kf fun _ => false
theorem k0_kf {A B : World} (p : K0 A B) (T : TypeId → Bool) : Kf T A B := ⟨p.size, fun k cs t fr h _ => p.same k cs t fr h rfl⟩
theorem k0_owns {A B : World} (p : K0 A B) {n₀ k n : Nat} {e : TypeId} {v : Value} {cs : List Value} (o : A.ownsRow n₀ e k v n cs) : B.ownsRow n₀ e k v n cs :=
  ⟨o.1, o.2.imp id fun ⟨g, cap, cur, h1, h2, h3, h4⟩ => ⟨g, cap, cur, h1, h2, p.same _ _ _ _ h3 rfl, h4⟩⟩
theorem k0_row {A B : World} (p : K0 A B) {k : Nat} {t : TypeId} {cs : Array Value} (r : Rows8 A k t cs) : Rows8 B k t cs := p.same _ _ _ _ r rfl
theorem k0_grown {X Y : World} {row : Option Nat} (hg : X.grownBy Y row) (hr : ∀ r, row = some r → ∃ o, X.heap[r]? = some o ∧ o.isCells = false) : K0 X Y :=
  ⟨hg.size, fun k cs t fr hk _ => (hg.block k (Array.getElem?_eq_some_iff.1 hk).1 (fun e => by
    obtain ⟨o, ho, hc⟩ := hr k e.symm
    rw [hk] at ho
    cases ho
    cases hc)).trans hk⟩
theorem Tk.keep {w : World} {n₀ D k : Nat} {l : List Pr} {vs vt : Value} {A B : World} (p : Tk w n₀ D l vs vt k A) (q : K0 A B) (b : Below n₀ A B) : Tk w n₀ D l vs vt k B :=
  ⟨k0_row q p.x, ⟨k0_row q p.d.d, k0_owns q p.d.o⟩, k0_owns q p.t, p.b.trans b, p.f.trans (k0_kf q tA)⟩
theorem below_grown {h : Nat} {X Y : World} {row : Option Nat} (hX : h ≤ X.heap.size) (hg : X.grownBy Y row) (hr : ∀ r, row = some r → h ≤ r) : Below h X Y := (Below.refl h X).grown hg hX hr
theorem keeps_owned {A B : World} {n₀ k n : Nat} {t : TypeId} {v : Value} {cs : List Value} (o : A.ownsRow n₀ t k v n cs) (hg : A.grownBy B v.ownBlock) (H : Nat) : KeepsFrom H A B :=
  ⟨hg.size, fun q ob _ hk hc => (hg.block q (Array.getElem?_eq_some_iff.1 hk).1 (fun e => by
    rcases o.2 with ⟨rfl, _⟩ | ⟨g, cap, cur, rfl, _, h3, _⟩
    · simp [Value.ownBlock] at e
    · obtain rfl : q = g := by simpa [Value.ownBlock] using e
      rw [h3] at hk
      cases hk
      cases hc)).trans hk⟩
theorem owns_drewA {W : World} {n₀ k n : Nat} {e : TypeId} {v : Value} {xs : List Value} (o : W.ownsRow n₀ e k v n xs) : W.drew.ownsRow n₀ e k v n xs := o
theorem rows_grownA {A B : World} {n₀ k n : Nat} {e t : TypeId} {v : Value} {xs : List Value} {D : Nat} {cs : Array Value} (o : A.ownsRow n₀ e k v n xs) (hne : e ≠ t) (hg : A.grownBy B v.ownBlock) (r : Rows8 A D t cs) : Rows8 B D t cs :=
  (hg.block D r.lt (fun e' => owns_not o r hne e'.symm)).trans r
/-- Marks that are laid. -/
def Mk (w : World) (Ds : List Nat) (W : World) : Prop := Ds.Nodup ∧ ∀ D ∈ Ds, W.heap[D]? = some (.deferred (some [])) ∧ w.heap.size ≤ D
theorem Mk.keep {w : World} {Ds : List Nat} {A B : World} (p : Mk w Ds A) (q : KeepsFrom w.heap.size A B) : Mk w Ds B := ⟨p.1, fun D hD => ⟨q.same D _ (p.2 D hD).2 (p.2 D hD).1 rfl, (p.2 D hD).2⟩⟩
theorem Mk.grown {w : World} {Ds : List Nat} {X Y : World} {row : Option Nat} {B : Nat} (p : Mk w Ds X) (hB : ∀ D ∈ Ds, D < B) (hg : X.grownBy Y row) (hr : ∀ r, row = some r → B ≤ r) : Mk w Ds Y :=
  ⟨p.1, fun D hD => ⟨(hg.block D (Array.getElem?_eq_some_iff.1 (p.2 D hD).1).1 (fun e => by have := hr D e.symm; have := hB D hD; omega)).trans (p.2 D hD).1, (p.2 D hD).2⟩⟩
theorem Mk.below {w : World} {Ds : List Nat} {A B : World} (p : Mk w Ds A) (q : Below A.heap.size A B) : Mk w Ds B := p.keep (keepsFrom_below q)
theorem Mk.lt {w : World} {Ds : List Nat} {A : World} (p : Mk w Ds A) : ∀ D ∈ Ds, D < A.heap.size := fun D hD => (Array.getElem?_eq_some_iff.1 (p.2 D hD).1).1
def TakeQ (D n₀ : Nat) (vs : Value) (w : World) (R : Int × List Pr × List Pr) (e : Ending) (w' : World) : Prop :=
  (R.1 = 0 ∧ e = .returned (.tuple #[]) ∧ ∃ vt, Dr D n₀ R.2.1 vs vt w' ∧ OwnsP 41 n₀ R.2.2 vt w' ∧ Below n₀ w w' ∧ Kf tA w w') ∨
  (R.1 ≠ 0 ∧ e = .panicked (panicA R.1) ∧ Below n₀ w w' ∧ Kf tA w w' ∧ ∃ u v, Rows8 w' D 58 #[u, v])
theorem takeQ_of {D n₀ : Nat} {vs : Value} {w : World} {R : Int × List Pr} {e : Ending} {w' : World} (h : StepQ D n₀ vs (.slice none 0 0) w R.1 R.2 e w') (hd : Rows8 w D 58 #[vs, .slice none 0 0]) : TakeQ D n₀ vs w (R.1, R.2, []) e w' := by
  rcases h with ⟨h1, h2, h3, h4, h5⟩ | ⟨h1, h2, h3, h4⟩
  · exact .inl ⟨h1, h2, _, h3, ownsP_nil _ _ _, h4, .of_ks (by decide) h5⟩
  · exact .inr ⟨h1, h2, h3, .of_ks (by decide) h4, _, _, h4.rows hd (by decide)⟩
end Go.Proofs
