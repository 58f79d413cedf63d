/- What a round that writes into blocks of some types leaves alone. -/
import Derived.Test.YtacphakpmmickaaGreatZKa
namespace Go.Proofs
set_option maxRecDepth 100000
open Go.RowKit Go.Shelf

/-- All is as it was, but the cells of blocks of these types. -/
structure Ke (T : TypeId → Bool) (A B : World) : Prop where
  size : A.heap.size ≤ B.heap.size
  same : ∀ (k : Nat) (o : Obj), A.heap[k]? = some o → (∀ cs t fr, o = .cells cs t fr → T t = false) → B.heap[k]? = some o
theorem Ke.keeps {T : TypeId → Bool} {A B : World} (p : Ke T A B) (H : Nat) : KeepsFrom H A B := ⟨p.size, fun k o _ ho hc => p.same k o ho fun cs t fr e => by subst e; cases hc⟩
theorem Ke.kq {T : TypeId → Bool} {A B : World} (p : Ke T A B) : Kq T A B := ⟨p.size, fun k cs t fr ho hT => p.same k _ ho fun cs' t' fr' e => by cases e; exact hT⟩
theorem Ke.refl (T : TypeId → Bool) (A : World) : Ke T A A := ⟨Nat.le_refl _, fun _ _ h _ => h⟩
theorem Ke.trans {T : TypeId → Bool} {A B C : World} (p : Ke T A B) (q : Ke T B C) : Ke T A C := ⟨Nat.le_trans p.size q.size, fun k o h hT => q.same k o (p.same k o h hT) hT⟩
theorem Ke.of_below {T : TypeId → Bool} {A B : World} (p : Below A.heap.size A B) : Ke T A B := ⟨p.size, fun k _ h _ => (p.block k (Array.getElem?_eq_some_iff.1 h).1).trans h⟩
theorem Ke.drew (T : TypeId → Bool) (A : World) : Ke T A A.drew := ⟨Nat.le_refl _, fun _ _ h _ => h⟩
theorem Ke.alloc (T : TypeId → Bool) (A : World) (o : Obj) : Ke T A (A.alloc o) := .of_below ((Below.refl _ A).alloc (Nat.le_refl _) o)
theorem Ke.of_but {T : TypeId → Bool} {A B : World} {D : Nat} {t : TypeId} {cs : Array Value} (p : But A.heap.size D A B) (r : Rows8 A D t cs) (ht : T t = true) : Ke T A B := by
  refine ⟨p.size, fun k o h hT => (p.block k (Array.getElem?_eq_some_iff.1 h).1 fun e => ?_).trans h⟩
  subst e
  rw [show A.heap[k]? = _ from r] at h
  cases h
  rw [hT _ _ _ rfl] at ht
  cases ht
theorem Ke.set {T : TypeId → Bool} {A : World} {a : Addr} {t : TypeId} {cs : Array Value} (r : Rows8 A a.block t cs) (ht : T t = true) (v : Value) : Ke T A (A.setCell a v) :=
  Ke.of_but (D := a.block) ⟨rfl, rfl, rfl, by simp [World.setCell], fun _ _ b => Below.heap_setCell _ _ _ _ b⟩ r ht
theorem Ke.grown {T : TypeId → Bool} {A B : World} {n₀ k n : Nat} {t : TypeId} {v : Value} {cs : List Value} (ht : T t = true) (o : A.ownsRow n₀ t k v n cs) (hg : A.grownBy B v.ownBlock) : Ke T A B := by
  refine ⟨hg.size, fun j ob hk hT => (hg.block j (Array.getElem?_eq_some_iff.1 hk).1 fun e => ?_).trans hk⟩
  rcases o.2 with ⟨rfl, _⟩ | ⟨g, cap, cur, rfl, _, hh, _⟩
  · simp [Value.ownBlock] at e
  · obtain rfl : j = g := by simpa [Value.ownBlock] using e
    rw [hk] at hh
    cases hh
    rw [hT _ _ _ rfl] at ht
    cases ht
/-- A grown row of the call's own touches no block below, nor one of another type. -/
theorem rows_grown {A B : World} {n₀ k n : Nat} {e t : TypeId} {v : Value} {xs : List Value} {D : Nat} {cs : Array Value} (o : A.ownsRow n₀ e k v n xs) (hne : e ≠ t) (hg : A.grownBy B v.ownBlock) (r : Rows8 A D t cs) : Rows8 B D t cs :=
  (Ke.grown (T := fun x => x == e) (by simp) o hg).same D _ r fun cs' t' fr ee => by cases ee; simpa using fun h : t = e => hne h.symm
theorem But.grown {h x : Nat} {w A B : World} {n₀ k n : Nat} {e : TypeId} {v : Value} {xs : List Value} (p : But h x w A) (o : A.ownsRow n₀ e k v n xs) (hn : h ≤ n₀) (hs : h ≤ A.heap.size) (hg : A.grownBy B v.ownBlock) : But h x w B := by
  refine p.trans ⟨hg.os, hg.tape, hg.output, hg.size, fun j a b => hg.block j (by omega) fun e => ?_⟩
  rcases o.2 with ⟨rfl, _⟩ | ⟨g, cap, cur, rfl, hb, _⟩
  · simp [Value.ownBlock] at e
  · obtain rfl : j = g := by simpa [Value.ownBlock] using e
    omega
theorem But.mono {h h' x : Nat} {A B : World} (p : But h' x A B) (hh : h ≤ h') : But h x A B := ⟨p.os, p.tape, p.output, p.size, fun j a b => p.block j (Nat.lt_of_lt_of_le a hh) b⟩
theorem owns_drew {W : World} {n₀ k n : Nat} {e : TypeId} {v : Value} {xs : List Value} (o : W.ownsRow n₀ e k v n xs) : W.drew.ownsRow n₀ e k v n xs := o
theorem owns_set {W : World} {n₀ k n : Nat} {e t : TypeId} {v : Value} {xs : List Value} (o : W.ownsRow n₀ e k v n xs) {a : Addr} {cs : Array Value} (r : Rows8 W a.block t cs) (hne : e ≠ t) (u : Value) : (W.setCell a u).ownsRow n₀ e k v n xs := by
  rcases o with ⟨hl, ⟨h1, h2⟩ | ⟨g, cap, cur, h1, h2, h3, h4⟩⟩
  · exact ⟨hl, .inl ⟨h1, h2⟩⟩
  · refine ⟨hl, .inr ⟨g, cap, cur, h1, h2, ?_, h4⟩⟩
    refine (Below.heap_setCell _ _ _ _ fun ee => ?_).trans h3
    subst ee
    rw [show W.heap[a.block]? = _ from r] at h3
    cases h3
    exact hne rfl
theorem owns_butD {A B : World} {h D n₀ k n : Nat} {e t : TypeId} {v : Value} {xs : List Value} (o : A.ownsRow n₀ e k v n xs) {cs : Array Value} (r : Rows8 A D t cs) (hne : e ≠ t) (p : But h D A B) (hh : A.heap.size ≤ h) : B.ownsRow n₀ e k v n xs := by
  rcases o with ⟨hl, ⟨h1, h2⟩ | ⟨g, cap, cur, h1, h2, h3, h4⟩⟩
  · exact ⟨hl, .inl ⟨h1, h2⟩⟩
  · refine ⟨hl, .inr ⟨g, cap, cur, h1, h2, ?_, h4⟩⟩
    refine (p.block g (Nat.lt_of_lt_of_le (Array.getElem?_eq_some_iff.1 h3).1 hh) fun ee => ?_).trans h3
    subst ee
    rw [show A.heap[g]? = _ from r] at h3
    cases h3
    exact hne rfl
theorem owns_own' {β : Type} (n₀ : Nat) (e : TypeId) (k : Nat) (v : β → Value) (n : β → Nat) (cs : β → List Value) : Own (fun (s : β) W => W.ownsRow n₀ e k (v s) (n s) (cs s)) := fun s X Y row hs hg hr => by
  rcases hs with ⟨hl, ⟨h1, h2⟩ | ⟨g, cap, cur, h1, h2, h3, h4⟩⟩
  · exact ⟨hl, .inl ⟨h1, h2⟩⟩
  · refine ⟨hl, .inr ⟨g, cap, cur, h1, h2, ?_, h4⟩⟩
    refine (hg.block g (Array.getElem?_eq_some_iff.1 h3).1 fun ee => ?_).trans h3
    obtain ⟨o, ho, hc⟩ := hr g ee.symm
    rw [h3] at ho
    cases ho
    cases hc
/-- Bytes that lie below a block, all of them. -/
def BA (W : World) (D : Nat) (lv : Value) (bs : List Nat) : Prop :=
  ∃ a c, lv = .slice a bs.length c ∧ bs.length ≤ c ∧ ∀ i, i < bs.length → ∃ b off, a = some ⟨b, off, none⟩ ∧ b < D ∧ W.cell? ⟨b, off + i, none⟩ = some (.int .u8 ((bs[i]?.getD 0 : Nat) : Int))
theorem BA.but {A B : World} {h D : Nat} {lv : Value} {bs : List Nat} (p : BA A D lv bs) (q : But h D A B) (hh : D ≤ h) : BA B D lv bs := by
  obtain ⟨a, c, e, hc, hx⟩ := p
  refine ⟨a, c, e, hc, fun i hi => ?_⟩
  obtain ⟨b, off, e1, e2, e3⟩ := hx i hi
  exact ⟨b, off, e1, e2, (q.cell (a := ⟨b, off + i, none⟩) (by show b < h; omega) (by show b ≠ D; omega)).trans e3⟩
theorem BA.below {A B : World} {h D : Nat} {lv : Value} {bs : List Nat} (p : BA A D lv bs) (q : Below h A B) (hh : D ≤ h) : BA B D lv bs := p.but (But.of_below q) hh
theorem BA.up {A : World} {D D' : Nat} {lv : Value} {bs : List Nat} (p : BA A D lv bs) (hh : D ≤ D') : BA A D' lv bs := by
  obtain ⟨a, c, e, hc, hx⟩ := p
  refine ⟨a, c, e, hc, fun i hi => ?_⟩
  obtain ⟨b, off, e1, e2, e3⟩ := hx i hi
  exact ⟨b, off, e1, Nat.lt_of_lt_of_le e2 hh, e3⟩
theorem BA.head {W : World} {D b : Nat} {lv : Value} {bs : List Nat} (p : BA W D lv (b :: bs)) : ∃ bl off c, lv = .slice (some ⟨bl, off, none⟩) (bs.length + 1) c ∧ bl < D ∧ W.cell? ⟨bl, off, none⟩ = some (.int .u8 (b : Int)) ∧ bs.length + 1 ≤ c ∧ BA W D (.slice (if c = 1 then some ⟨bl, off, none⟩ else some ⟨bl, off + 1, none⟩) bs.length (c - 1)) bs := by
  obtain ⟨a, c, rfl, hc, hx⟩ := p
  obtain ⟨bl, off, rfl, h2, h3⟩ := hx 0 (by simp)
  refine ⟨bl, off, c, rfl, h2, by simpa using h3, by simpa using hc, _, _, rfl, by simp at hc; omega, fun i hi => ?_⟩
  have hc1 : ¬ c = 1 := by simp at hc; omega
  rw [if_neg hc1]
  obtain ⟨bl', off', e1, _, e3⟩ := hx (i + 1) (by simp; omega)
  cases e1
  refine ⟨bl, off + 1, rfl, h2, ?_⟩
  rw [Nat.add_assoc, Nat.add_comm 1 i, e3]
  simp
theorem BA.own (D : Nat) {B : Nat} (hB : D ≤ B) (lv : Value) (bs : List Nat) {β : Type} : OwnFrom B (fun (_ : β) W => BA W D lv bs) := fun s X Y row ⟨a, c, e, hc, hx⟩ hg hr => by
  refine ⟨a, c, e, hc, fun i hi => ?_⟩
  obtain ⟨b, off, e1, e2, e3⟩ := hx i hi
  refine ⟨b, off, e1, e2, ?_⟩
  have hbl : b < X.heap.size := by
    rcases Nat.lt_or_ge b X.heap.size with h | h
    · exact h
    · simp [World.cell?, Array.getElem?_eq_none h] at e3
  exact (World.cell?_of_block (a := ⟨b, off + i, none⟩) (hg.block b hbl fun ee => by have := (hr b ee.symm).1; omega)).trans e3
end Go.Proofs
