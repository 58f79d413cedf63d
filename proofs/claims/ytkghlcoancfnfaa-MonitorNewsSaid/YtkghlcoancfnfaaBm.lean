/- Monitor: what the call owns; what is done, step by step. -/
import Derived.Test.YtkghlcoancfnfaaBl
import Derived.Test.YtkghlcoancfnfaaRy
namespace Go.Proofs
set_option maxRecDepth 100000
open Go.RowKit Go.Shelf
attribute [local go_sem] Oper.semAt_some

/-- Rows of entries that the call owns, no two of them in one block. -/
structure OwnH (n₀ : Nat) (L : List (List Pr)) (v : Value) (vs : List Value) (W : World) : Prop where
  row : W.ownsRow n₀ 62 1 v L.length vs
  el : ∀ i (h : i < L.length), ∃ q, vs[i]? = some q ∧ OwnsP 38 n₀ L[i] q W
  apart : ∀ i j a b, i < L.length → j < L.length → i ≠ j → vs[i]? = some a → vs[j]? = some b → a.ownBlock = none ∨ a.ownBlock ≠ b.ownBlock
theorem OwnH.at {n₀ : Nat} {L : List (List Pr)} {v : Value} {vs : List Value} {W : World} (h : OwnH n₀ L v vs W) : HasAt W v L :=
  ⟨vs, rowAt_own h.row, fun i hi => by
    obtain ⟨q, e, ho⟩ := h.el i hi
    obtain ⟨a, c, rfl⟩ := ho.form
    exact ⟨a, c, e, ho.at⟩⟩
theorem OwnH.below {n₀ hh : Nat} {L : List (List Pr)} {v : Value} {vs : List Value} {A B : World} (h : OwnH n₀ L v vs A) (hB : Below hh A B) (hA : A.heap.size ≤ hh) : OwnH n₀ L v vs B :=
  ⟨owns_keep h.row hB hA, fun i hi => by obtain ⟨q, e, ho⟩ := h.el i hi; exact ⟨q, e, ho.below hB hA⟩, h.apart⟩
theorem OwnH.mono {n₀ n₁ : Nat} {L : List (List Pr)} {v : Value} {vs : List Value} {W : World} (h : OwnH n₁ L v vs W) (hn : n₀ ≤ n₁) : OwnH n₀ L v vs W :=
  ⟨owns_mono h.row hn, fun i hi => by obtain ⟨q, e, ho⟩ := h.el i hi; exact ⟨q, e, ho.mono hn⟩, h.apart⟩
/-- .. is kept where a block that is none of its own turns. -/
theorem OwnH.kept {n₀ : Nat} {L : List (List Pr)} {v : Value} {vs : List Value} {A B : World} {row : Option Nat} (h : OwnH n₀ L v vs A) (hg : A.grownBy B row) (h1 : v.ownBlock = none ∨ v.ownBlock ≠ row)
    (h2 : ∀ i q, i < L.length → vs[i]? = some q → q.ownBlock = none ∨ q.ownBlock ≠ row) : OwnH n₀ L v vs B :=
  ⟨World.ownsRow.kept h.row hg h1, fun i hi => by obtain ⟨q, e, ho⟩ := h.el i hi; exact ⟨q, e, World.ownsRow.kept ho hg (h2 i q hi e)⟩, h.apart⟩
theorem grownBy_set (W : World) (B o : Nat) (u : Value) : W.grownBy (W.setCell ⟨B, o, none⟩ u) (some B) :=
  ⟨rfl, rfl, rfl, by simp [World.setCell], fun k _ hk => Below.heap_setCell W ⟨B, o, none⟩ u k (by show k ≠ B; exact fun e => hk (by rw [e]))⟩
/-- A block of another type is none of its own. -/
theorem OwnH.ne {n₀ : Nat} {L : List (List Pr)} {v : Value} {vs : List Value} {W : World} (h : OwnH n₀ L v vs W) {B : Nat} {t : TypeId} {ds : Array Value} (r : Rows8 W B t ds) (h1 : 62 ≠ t) (h2 : 38 ≠ t) :
    v.ownBlock ≠ some B ∧ ∀ i q, i < L.length → vs[i]? = some q → q.ownBlock = none ∨ q.ownBlock ≠ some B :=
  ⟨owns_not h.row r h1, fun i q hi e => by
    obtain ⟨q', e', ho⟩ := h.el i hi
    rw [e] at e'
    cases e'
    exact .inr (owns_not ho r h2)⟩
theorem OwnH.set {n₀ : Nat} {L : List (List Pr)} {v : Value} {vs : List Value} {W : World} (h : OwnH n₀ L v vs W) {a : Addr} {t : TypeId} {ds : Array Value} (r : Rows8 W a.block t ds) (h1 : 62 ≠ t) (h2 : 38 ≠ t) (ha : a.spot = none) (u : Value) : OwnH n₀ L v vs (W.setCell a u) := by
  obtain ⟨B, o, sp⟩ := a
  obtain rfl : sp = none := ha
  have := h.ne r h1 h2
  exact h.kept (grownBy_set W B o u) (.inr this.1) this.2
/-- .. where rows of another element type grow. -/
theorem OwnH.grown {n₀ n₁ k n : Nat} {e : TypeId} {L : List (List Pr)} {v v' : Value} {vs cs : List Value} {A B : World} (h : OwnH n₀ L v vs A) (o : A.ownsRow n₁ e k v' n cs) (h1 : 62 ≠ e) (h2 : 38 ≠ e) (hg : A.grownBy B v'.ownBlock) : OwnH n₀ L v vs B :=
  h.kept hg (owns_ne h.row o h1) (fun i q hi e => by
    obtain ⟨q', e', ho⟩ := h.el i hi
    rw [e] at e'
    cases e'
    exact owns_ne ho o h2)
/-- One row is another one. -/
theorem ownH_setEl {n₀ : Nat} {L : List (List Pr)} {g n c : Nat} {vs : List Value} {W : World} (hn : n = L.length) (i : Nat) (hi : i < L.length) (hrow : W.ownsRow n₀ 62 1 (.slice (some ⟨g, 0, none⟩) n c) L.length vs)
    (hel : ∀ k (h : k < L.length), k ≠ i → ∃ q, vs[k]? = some q ∧ OwnsP 38 n₀ L[k] q W)
    (hap : ∀ k j a b, k < L.length → j < L.length → k ≠ j → k ≠ i → j ≠ i → vs[k]? = some a → vs[j]? = some b → a.ownBlock = none ∨ a.ownBlock ≠ b.ownBlock)
    (l' : List Pr) (q' : Value) (ho : OwnsP 38 n₀ l' q' W) (hnew : ∀ k b, k < L.length → k ≠ i → vs[k]? = some b → q'.ownBlock = none ∨ q'.ownBlock ≠ b.ownBlock) :
    OwnH n₀ (L.set i l') (.slice (some ⟨g, 0, none⟩) n c) (vs.set i q') (W.setCell ⟨g, i, none⟩ q') := by
  subst hn
  have hl : (L.set i l').length = L.length := List.length_set ..
  have hvl : vs.length = L.length := by have := hrow.1; omega
  have hgb : ∀ (l : List Pr) (q : Value), OwnsP 38 n₀ l q W → q.ownBlock = none ∨ q.ownBlock ≠ some g := fun l q ho => owns_ne ho hrow (by decide)
  refine ⟨by rw [hl]; exact (hrow.stored i _).1, fun k hk => ?_, fun k j a b hk hj hne ha hb => ?_⟩
  · rw [hl] at hk
    by_cases e : i = k
    · subst e
      refine ⟨q', by simp [hvl, hi], ?_⟩
      simpa using (show OwnsP 38 n₀ l' q' (W.setCell ⟨g, i, none⟩ q') from World.ownsRow.kept ho (grownBy_set W g i q') (hgb _ _ ho))
    · obtain ⟨q, e1, hq⟩ := hel k hk (fun h => e h.symm)
      refine ⟨q, by rw [List.getElem?_set_ne e]; exact e1, ?_⟩
      rw [List.getElem_set_ne e]
      exact World.ownsRow.kept hq (grownBy_set W g i q') (hgb _ _ hq)
  · rw [hl] at hk hj
    by_cases ek : i = k
    · subst ek
      rw [List.getElem?_set_self (by omega)] at ha
      cases ha
      rw [List.getElem?_set_ne hne] at hb
      exact hnew j b hj (fun e => hne e.symm) hb
    · rw [List.getElem?_set_ne ek] at ha
      by_cases ej : i = j
      · subst ej
        rw [List.getElem?_set_self (by omega)] at hb
        cases hb
        rcases hnew k a hk (fun e => ek e.symm) ha with h3 | h3
        · rw [h3]; cases a.ownBlock <;> simp
        · exact .inr fun e => h3 e.symm
      · rw [List.getElem?_set_ne ej] at hb
        exact hap k j a b hk hj hne (fun e => ek e.symm) (fun e => ej e.symm) ha hb
theorem OwnH.block {n₀ : Nat} {L : List (List Pr)} {a : Option Addr} {n c : Nat} {vs : List Value} {W : World} (h : OwnH n₀ L (.slice a n c) vs W) (i : Nat) (hi : i < L.length) : ∃ g cs, a = some ⟨g, 0, none⟩ ∧ n₀ ≤ g ∧ n = L.length ∧ Rows8 W g 62 cs := by
  rcases h.row.2 with ⟨_, h0⟩ | ⟨g, cap, cur, e, hg, hh, _⟩
  · have := h.row.1; rw [h0] at this; simp at this; omega
  · cases e; exact ⟨g, cur, rfl, hg, rfl, hh⟩
theorem OwnsBools.block {n₀ : Nat} {l : List Bool} {a : Option Addr} {n c : Nat} {W : World} (h : OwnsBools n₀ l (.slice a n c) W) (i : Nat) (hi : i < l.length) : ∃ g cs, a = some ⟨g, 0, none⟩ ∧ n₀ ≤ g ∧ n = l.length ∧ Rows8 W g 4 cs ∧ W.cell? ⟨g, i, none⟩ = some (.bool l[i]) := by
  rcases h.2 with ⟨_, h0⟩ | ⟨g, cap, cur, e, hg, hh, _⟩
  · have := h.1; rw [h0] at this; simp at this; omega
  · cases e
    obtain ⟨b, off, e, hb, hc⟩ := bAt_get (show BAt W _ l from rowAt_own h) i hi
    cases e
    rw [Nat.zero_add] at hc
    exact ⟨g, cur, rfl, hg, rfl, hh, hc⟩
theorem bVals_set (l : List Bool) (i : Nat) (b : Bool) : bVals (l.set i b) = (bVals l).set i (.bool b) := by simp [bVals, List.map_set]
theorem OwnsBools.setB {n₀ : Nat} {l : List Bool} {g n c : Nat} {W : World} (h : OwnsBools n₀ l (.slice (some ⟨g, 0, none⟩) n c) W) (hn : n = l.length) (i : Nat) (b : Bool) : OwnsBools n₀ (l.set i b) (.slice (some ⟨g, 0, none⟩) n c) (W.setCell ⟨g, i, none⟩ (.bool b)) := by
  subst hn
  have h1 := (World.ownsRow.stored h i (.bool b)).1
  unfold OwnsBools
  rw [bVals_set, List.length_set]
  exact h1
theorem owns_setT {n₀ k n : Nat} {T t : TypeId} {v : Value} {cs : List Value} {W : World} (o : W.ownsRow n₀ T k v n cs) {a : Addr} {ds : Array Value} (r : Rows8 W a.block t ds) (hne : T ≠ t) (u : Value) : (W.setCell a u).ownsRow n₀ T k v n cs :=
  ownsRow_setCell_other o (owns_not o r hne) u

/-- A monitor that the call owns. -/
structure OwnMon (n₀ : Nat) (x : Mv) (m : Mn) (vs : List Value) (W : World) : Prop where
  s : OwnsP 56 n₀ m.sl (.slice x.sa x.sn x.sc) W
  p : OwnsBools n₀ m.pin (.slice x.pa x.pn x.pc) W
  h : OwnH n₀ m.has (.slice x.ha x.hn x.hc) vs W
  b : OwnsW n₀ m.bad (.slice x.ba x.bn x.bc) W
def okM (m : Mn) : Prop := (∀ l ∈ m.has, ∀ e ∈ l, wfE e) ∧ m.sl.length ≤ 1000 ∧ m.pin.length ≤ 1000 ∧ m.has.length ≤ 1000 ∧ m.bad.length ≤ 1000 ∧ ∀ l ∈ m.has, l.length ≤ 9000
theorem OwnMon.at {n₀ : Nat} {x : Mv} {m : Mn} {vs : List Value} {W : World} (h : OwnMon n₀ x m vs W) (hk : okM m) : MonAt W x m := ⟨h.s.at, rowAt_own h.p, h.h.at, h.b.at, hk.1, hk.2⟩
theorem MonAt.ok {W : World} {x : Mv} {m : Mn} (h : MonAt W x m) : okM m := ⟨h.w, h.z⟩
theorem OwnMon.below {n₀ hh : Nat} {x : Mv} {m : Mn} {vs : List Value} {A B : World} (h : OwnMon n₀ x m vs A) (hB : Below hh A B) (hA : A.heap.size ≤ hh) : OwnMon n₀ x m vs B :=
  ⟨h.s.below hB hA, owns_keep h.p hB hA, h.h.below hB hA, h.b.below hB hA⟩
theorem OwnMon.mono {n₀ n₁ : Nat} {x : Mv} {m : Mn} {vs : List Value} {W : World} (h : OwnMon n₁ x m vs W) (hn : n₀ ≤ n₁) : OwnMon n₀ x m vs W :=
  ⟨h.s.mono hn, owns_mono h.p hn, h.h.mono hn, h.b.mono hn⟩
theorem OwnMon.drew {n₀ : Nat} {x : Mv} {m : Mn} {vs : List Value} {W : World} (h : OwnMon n₀ x m vs W) : OwnMon n₀ x m vs W.drew := ⟨h.s, h.p, ⟨h.h.row, h.h.el, h.h.apart⟩, h.b⟩
/-- A box of another type is written. -/
theorem OwnMon.set {n₀ : Nat} {x : Mv} {m : Mn} {vs : List Value} {W : World} (h : OwnMon n₀ x m vs W) {B : Nat} {t : TypeId} {ds : Array Value} (r : Rows8 W B t ds) (h1 : 56 ≠ t) (h2 : 4 ≠ t) (h3 : 62 ≠ t) (h4 : 38 ≠ t) (h5 : 40 ≠ t) (o : Nat) (u : Value) :
    OwnMon n₀ x m vs (W.setCell ⟨B, o, none⟩ u) :=
  ⟨owns_setT h.s (a := ⟨B, o, none⟩) r h1 u, owns_setT h.p (a := ⟨B, o, none⟩) r h2 u, h.h.set (a := ⟨B, o, none⟩) r h3 h4 rfl u, owns_setT h.b (a := ⟨B, o, none⟩) r h5 u⟩

/-! ### What is done -/
def pinM (m : Mn) (g : Int) : Bool := m.pin[g.toNat]?.getD false
def addM (m : Mn) (g : Int) (e : Pr) : Mn := if hasM m g e then m else { m with has := m.has.set g.toNat (m.has[g.toNat]?.getD [] ++ [e]) }
def actM (m : Mn) (x : Wt) : Int × Mn × List Pr :=
  if x.kind = 1 then (if pinM m x.goer then (5, m, []) else (0, { m with pin := m.pin.set x.goer.toNat true }, []))
  else if x.kind = 2 then (if pinM m x.goer then (0, { m with pin := m.pin.set x.goer.toNat false, has := m.has.set x.goer.toNat [] }, []) else (4, m, []))
  else if x.kind = 3 then (if pinM m x.goer then (0, addM m x.goer x.ent, []) else (4, m, []))
  else if x.kind = 4 ∨ x.kind = 5 then (if pinM m x.goer then (0, (if !goodM m x && decide (m.bad.length < 16) then { m with bad := m.bad ++ [x] } else m), []) else (4, m, []))
  else if x.kind = 6 then (if pinM m x.goer then (if (takT m.sl 1).1 = 0 then (0, addM { m with sl := (takT m.sl 1).2.1 } x.goer ((takT m.sl 1).2.2.headD (0, 0)), [(takT m.sl 1).2.2.headD (0, 0)]) else ((takT m.sl 1).1, m, [])) else (4, m, []))
  else if x.kind = 7 then (if (retT m.sl [x.ent]).1 = 0 then (0, { m with sl := (retT m.sl [x.ent]).2.1 }, []) else ((retT m.sl [x.ent]).1, m, []))
  else (if (givT m.sl [x.ent]).1 = 0 then (0, { m with sl := (givT m.sl [x.ent]).2.1 }, []) else ((givT m.sl [x.ent]).1, m, []))
def whyM (n : Nat) (x : Wt) : Int := if x.kind < 1 ∨ 8 < x.kind then 221 else if !oneB n x.goer || (asksB x.kind && !entB x.ent) then 2 else 0
def stepM (m : Mn) (x : Wt) : Int × Mn × List Pr := if whyM m.pin.length x = 0 then actM m x else (whyM m.pin.length x, m, [])
/-- All of it, one behind the other; the first error. -/
def runM : Mn → List Pr → List Wt → Int × Mn × List Pr
  | m, tk, [] => (0, m, tk)
  | m, tk, x :: l => if (stepM m x).1 = 0 then runM (stepM m x).2.1 (tk ++ (stepM m x).2.2) l else ((stepM m x).1, m, tk)
def noM : Mn := ⟨[], [], [], []⟩
/-- What is tried: the error, the monitor, what was taken. -/
def triM (m : Mn) (l : List Wt) : Int × Mn × List Pr := if rightM m then (if (runM m [] l).1 = 0 then runM m [] l else ((runM m [] l).1, noM, [])) else (220, noM, [])
end Go.Proofs
