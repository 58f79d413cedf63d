/- Monitor: a hand whose rows grow. -/
import Derived.Test.YtkghlcoancfnfaaBo
namespace Go.Proofs
set_option maxRecDepth 100000
open Go.RowKit Go.Shelf
attribute [local go_sem] Oper.semAt_some

theorem Hx.clearHas {H n₀ : Nat} {x : Mv} {ta : Option Addr} {tn tc : Nat} {vs : List Value} {m : Mn} {tk : List Pr} {W : World} (h : Hx H n₀ x ta tn tc vs m tk W) {gh : Nat} (hp : x.ha = some ⟨gh, 0, none⟩) {cs : Array Value} (r : Rows8 W gh 62 cs) (hn : x.hn = m.has.length) (g : Nat) (hg : g < m.has.length) :
    Hx H n₀ x ta tn tc (vs.set g (.slice none 0 0)) { m with has := m.has.set g [] } tk (W.setCell ⟨gh, g, none⟩ (.slice none 0 0)) := by
  have hvl : vs.length = m.has.length := by have := h.o.h.row.1; omega
  refine Hx.setHas r g _ h.bx h.o.s h.o.p h.o.b h.t ?_ rfl rfl rfl (fun i q' hi e => ?_)
  · have hh := h.o.h
    rw [hp] at hh ⊢
    exact ownH_setEl hn g hg hh.row (fun k hk _ => hh.el k hk) (fun k j a b hk hj hne _ _ ha hb => hh.apart k j a b hk hj hne ha hb) [] _ (ownsP_nil _ _ _) (fun k b _ _ _ => .inl rfl)
  · by_cases eg : g = i
    · subst eg
      rw [List.getElem?_set_self (by omega)] at e
      cases e
      exact .inl rfl
    · rw [List.getElem?_set_ne eg] at e
      exact h.ap i q' (by simpa using hi) e
theorem grown_rows {A B : World} {n₀ k n : Nat} {T t : TypeId} {v : Value} {cs : List Value} {D : Nat} {ds : Array Value} (o : A.ownsRow n₀ T k v n cs) (hne : T ≠ t) (hg : A.grownBy B v.ownBlock) (r : Rows8 A D t ds) : Rows8 B D t ds :=
  (hg.block D r.lt (fun e' => owns_not o r hne e'.symm)).trans r
theorem grown_owns {A B : World} {n₀ n₁ k n k' n' : Nat} {T T' : TypeId} {v v' : Value} {cs cs' : List Value} (o : A.ownsRow n₀ T k v n cs) (hne : T' ≠ T) (hg : A.grownBy B v.ownBlock) (o' : A.ownsRow n₁ T' k' v' n' cs') : B.ownsRow n₁ T' k' v' n' cs' :=
  World.ownsRow.kept o' hg (owns_ne o' o hne)
/-- A goroutine has one more. -/
theorem Hx.pushHas {H n₀ : Nat} {x : Mv} {ta : Option Addr} {tn tc : Nat} {vs : List Value} {m : Mn} {tk : List Pr} {A B : World} (h : Hx H n₀ x ta tn tc vs m tk A) {gh : Nat} (hp : x.ha = some ⟨gh, 0, none⟩) {cs : Array Value} (r : Rows8 A gh 62 cs) (hn : x.hn = m.has.length) (g : Nat) (hg : g < m.has.length)
    (q q' : Value) (l' : List Pr) (hq : vs[g]? = some q) (hgr : A.grownBy B q.ownBlock) (hbl : q'.ownBlock = q.ownBlock ∨ q'.ownBlock = some A.heap.size) (ho : OwnsP 38 n₀ l' q' B) :
    Hx H n₀ x ta tn tc (vs.set g q') { m with has := m.has.set g l' } tk (B.setCell ⟨gh, g, none⟩ q') ∧ ∃ oq, OwnsP 38 n₀ oq q A := by
  have hvl : vs.length = m.has.length := by have := h.o.h.row.1; omega
  obtain ⟨q0, e0, oq⟩ := h.o.h.el g hg
  rw [hq] at e0
  cases e0
  refine ⟨?_, _, oq⟩
  have hrow := grown_owns oq (by decide) hgr h.o.h.row
  have hnewlt : ∀ (l : List Pr) (b : Value), OwnsP 38 n₀ l b A → b.ownBlock = none ∨ b.ownBlock ≠ q.ownBlock → q'.ownBlock = none ∨ q'.ownBlock ≠ b.ownBlock := fun l b ob hb => by
    rcases hbl with e | e
    · rw [e]
      rcases hb with hb | hb
      · rw [hb]; cases q.ownBlock <;> simp
      · exact .inr (fun e2 => hb e2.symm)
    · refine .inr fun e2 => ?_
      rw [e] at e2
      exact absurd (World.ownsRow.lt ob _ e2.symm).2 (by omega)
  refine Hx.setHas (grown_rows oq (by decide) hgr r) g q' (grown_rows oq (by decide) hgr h.bx) (grown_owns oq (by decide) hgr h.o.s) (grown_owns oq (by decide) hgr h.o.p) (grown_owns oq (by decide) hgr h.o.b) ?_ ?_ rfl rfl rfl (fun i b hi e => ?_)
  · exact World.ownsRow.kept h.t hgr (by
      rcases h.ap g q hg hq with e | e
      · rw [e]; cases (Value.slice ta tn tc).ownBlock <;> simp
      · exact .inr fun e2 => e e2.symm)
  · have hh := h.o.h
    rw [hp] at hh hrow ⊢
    refine ownH_setEl hn g hg hrow (fun k hk hkg => ?_) (fun k j a b hk hj hne _ _ ha hb => hh.apart k j a b hk hj hne ha hb) l' q' ho (fun k b hk hkg hb => ?_)
    · obtain ⟨qk, ek, ok⟩ := hh.el k hk
      exact ⟨qk, ek, World.ownsRow.kept ok hgr (hh.apart k g qk q hk hg hkg ek hq)⟩
    · obtain ⟨qk, ek, ok⟩ := hh.el k hk
      rw [hb] at ek
      cases ek
      exact hnewlt _ b ok (hh.apart k g b q hk hg hkg hb hq)
  · by_cases eg : g = i
    · subst eg
      rw [List.getElem?_set_self (by omega)] at e
      cases e
      refine hnewlt _ _ h.t ?_
      rcases h.ap g q hg hq with e | e
      · rw [e]; cases (Value.slice ta tn tc).ownBlock <;> simp
      · exact .inr fun e2 => e e2.symm
    · rw [List.getElem?_set_ne eg] at e
      exact h.ap i b (by simpa using hi) e
/-- One more bad touch. -/
theorem Hx.pushBad {H n₀ : Nat} {x : Mv} {ta : Option Addr} {tn tc : Nat} {vs : List Value} {m : Mn} {tk : List Pr} {A B : World} (h : Hx H n₀ x ta tn tc vs m tk A) (hgr : A.grownBy B (.slice x.ba x.bn x.bc : Value).ownBlock) (a : Option Addr) (n c : Nat) (l' : List Wt) (ho : OwnsW n₀ l' (.slice a n c) B) :
    Hx H n₀ { x with ba := a, bn := n, bc := c } ta tn tc vs { m with bad := l' } tk (B.setCell ⟨H, 3, none⟩ (.slice a n c)) := by
  have rb := grown_rows h.o.b (by decide) hgr h.bx
  have r3 := rb.set 3 (.slice a n c)
  simp only [List.setIfInBounds_toArray, List.set_cons_zero, List.set_cons_succ] at r3
  have hh := h.o.h.grown h.o.b (by decide) (by decide) hgr
  exact ⟨r3, ⟨owns_setT (grown_owns h.o.b (by decide) hgr h.o.s) (a := ⟨H, 3, none⟩) rb (by decide) _, owns_setT (grown_owns h.o.b (by decide) hgr h.o.p) (a := ⟨H, 3, none⟩) rb (by decide) _, hh.set (a := ⟨H, 3, none⟩) rb (by decide) (by decide) rfl _, owns_setT ho (a := ⟨H, 3, none⟩) rb (by decide) _⟩,
    owns_setT (grown_owns h.o.b (by decide) hgr h.t) (a := ⟨H, 3, none⟩) rb (by decide) _, h.ap⟩
/-- One more was taken. -/
theorem Hx.pushTk {H n₀ : Nat} {x : Mv} {ta : Option Addr} {tn tc : Nat} {vs : List Value} {m : Mn} {tk : List Pr} {A B : World} (h : Hx H n₀ x ta tn tc vs m tk A) (hgr : A.grownBy B (.slice ta tn tc : Value).ownBlock) (a : Option Addr) (n c : Nat) (l' : List Pr)
    (hbl : (.slice a n c : Value).ownBlock = (.slice ta tn tc : Value).ownBlock ∨ (.slice a n c : Value).ownBlock = some A.heap.size) (ho : OwnsP 38 n₀ l' (.slice a n c) B) :
    Hx H n₀ x a n c vs m l' (B.setCell ⟨H, 4, none⟩ (.slice a n c)) := by
  have rb := grown_rows h.t (by decide) hgr h.bx
  have r3 := rb.set 4 (.slice a n c)
  simp only [List.setIfInBounds_toArray, List.set_cons_zero, List.set_cons_succ] at r3
  have hh : OwnH n₀ m.has (.slice x.ha x.hn x.hc) vs B := h.o.h.kept hgr (owns_ne h.o.h.row h.t (by decide)) h.ap
  refine ⟨r3, ⟨owns_setT (grown_owns h.t (by decide) hgr h.o.s) (a := ⟨H, 4, none⟩) rb (by decide) _, owns_setT (grown_owns h.t (by decide) hgr h.o.p) (a := ⟨H, 4, none⟩) rb (by decide) _, hh.set (a := ⟨H, 4, none⟩) rb (by decide) (by decide) rfl _, owns_setT (grown_owns h.t (by decide) hgr h.o.b) (a := ⟨H, 4, none⟩) rb (by decide) _⟩,
    owns_setT ho (a := ⟨H, 4, none⟩) rb (by decide) _, fun i q hi e => ?_⟩
  obtain ⟨q0, e0, oq⟩ := h.o.h.el i hi
  rw [e] at e0
  cases e0
  rcases hbl with e2 | e2
  · rw [e2]; exact h.ap i q hi e
  · rw [e2]
    exact .inr fun e3 => absurd (World.ownsRow.lt oq _ e3).2 (by omega)
/-- Other slabs. -/
theorem Hx.setSl {H n₀ : Nat} {x : Mv} {ta : Option Addr} {tn tc : Nat} {vs : List Value} {m : Mn} {tk : List Pr} {W : World} (h : Hx H n₀ x ta tn tc vs m tk W) (a : Option Addr) (n c : Nat) (l' : List Pr) (ho : OwnsP 56 n₀ l' (.slice a n c) W) :
    Hx H n₀ { x with sa := a, sn := n, sc := c } ta tn tc vs { m with sl := l' } tk (W.setCell ⟨H, 0, none⟩ (.slice a n c)) := by
  have r3 := h.bx.set 0 (.slice a n c)
  simp only [List.setIfInBounds_toArray, List.set_cons_zero, List.set_cons_succ] at r3
  exact ⟨r3, ⟨owns_setT ho (a := ⟨H, 0, none⟩) h.bx (by decide) _, owns_setT h.o.p (a := ⟨H, 0, none⟩) h.bx (by decide) _, h.o.h.set (a := ⟨H, 0, none⟩) h.bx (by decide) (by decide) rfl _, owns_setT h.o.b (a := ⟨H, 0, none⟩) h.bx (by decide) _⟩,
    owns_setT h.t (a := ⟨H, 0, none⟩) h.bx (by decide) _, h.ap⟩
theorem kf_grown {A B : World} {n₀ k n : Nat} {t : TypeId} {v : Value} {cs : List Value} (ht : tM t = true) (o : A.ownsRow n₀ t k v n cs) (hg : A.grownBy B v.ownBlock) : Kf tM A B := Kf.grown ht o hg
end Go.Proofs
