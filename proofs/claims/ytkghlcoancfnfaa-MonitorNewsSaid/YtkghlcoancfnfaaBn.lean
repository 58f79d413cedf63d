/- Monitor: a copy of its own. -/
import Derived.Test.YtkghlcoancfnfaaBm
namespace Go.Proofs
set_option maxRecDepth 100000
open Go.RowKit Go.Shelf
attribute [local go_sem] Oper.semAt_some

theorem Try.cpSlab_any (x : Mv) (m : Mn) (w : World) (hM : MonAt w x m) : Calls Try.prog 80 #[.slice x.sa x.sn x.sc] w fun e w' => ∃ g, e = .returned (.slice (some ⟨g, 0, none⟩) x.sn x.sn) ∧ OwnsP 56 w.heap.size m.sl (.slice (some ⟨g, 0, none⟩) x.sn x.sn) w' ∧ Below w.heap.size w w' := by
  have h := hM.s
  have hl := hM.lens.1
  have hz := hM.z
  unfold PAt at h
  rw [← hl] at h
  refine (Try.copiedSlab_any x.sa x.sn x.sc _ (by omega) w h (pVals_one _)).mono fun e w' ⟨g, h1, h2, h3⟩ => ⟨g, h1, ?_, h3⟩
  unfold OwnsP
  rw [← hl]
  exact h2
theorem Try.cpBool_any (x : Mv) (m : Mn) (w : World) (hM : MonAt w x m) : Calls Try.prog 81 #[.slice x.pa x.pn x.pc] w fun e w' => ∃ g, e = .returned (.slice (some ⟨g, 0, none⟩) x.pn x.pn) ∧ OwnsBools w.heap.size m.pin (.slice (some ⟨g, 0, none⟩) x.pn x.pn) w' ∧ Below w.heap.size w w' := by
  have h := hM.p
  have hl := hM.lens.2.1
  have hz := hM.z
  unfold BAt at h
  rw [← hl] at h
  refine (Try.copiedBool_any x.pa x.pn x.pc _ (by omega) w h (bVals_one _)).mono fun e w' ⟨g, h1, h2, h3⟩ => ⟨g, h1, ?_, h3⟩
  unfold OwnsBools
  rw [← hl]
  exact h2
theorem Try.cpWatch_any (x : Mv) (m : Mn) (w : World) (hM : MonAt w x m) : Calls Try.prog 83 #[.slice x.ba x.bn x.bc] w fun e w' => ∃ g, e = .returned (.slice (some ⟨g, 0, none⟩) x.bn x.bn) ∧ OwnsW w.heap.size m.bad (.slice (some ⟨g, 0, none⟩) x.bn x.bn) w' ∧ Below w.heap.size w w' := by
  have h := hM.b
  have hl := hM.lens.2.2.2
  have hz := hM.z
  unfold WAt at h
  rw [← hl] at h
  refine (Try.copiedWatch_any x.ba x.bn x.bc _ (by omega) w h (wVals_one _)).mono fun e w' ⟨g, h1, h2, h3⟩ => ⟨g, h1, ?_, h3⟩
  unfold OwnsW
  rw [← hl]
  exact h2
theorem Try.cpEntry_any (a : Option Addr) (n c : Nat) (l : List Pr) (w : World) (hn : n = l.length) (hl : l.length ≤ 9000) (h : PAt w (.slice a n c) l) : Calls Try.prog 84 #[.slice a n c] w fun e w' => ∃ g, e = .returned (.slice (some ⟨g, 0, none⟩) n n) ∧ OwnsP 38 w.heap.size l (.slice (some ⟨g, 0, none⟩) n n) w' ∧ Below w.heap.size w w' := by
  unfold PAt at h
  rw [← hn] at h
  refine (Try.copiedEntry_any a n c _ (by omega) w h (pVals_one _)).mono fun e w' ⟨g, h1, h2, h3⟩ => ⟨g, h1, ?_, h3⟩
  unfold OwnsP
  rw [← hn]
  exact h2
/-- Rows that are those of another one. -/
def Els (W : World) (L : List (List Pr)) (vs : List Value) (k : Nat) : Prop := ∀ i (h : i < L.length), k ≤ i → ∃ a c, vs[i]? = some (.slice a L[i].length c) ∧ PAt W (.slice a L[i].length c) L[i]
theorem Try.cpHas_any (x : Mv) (m : Mn) (w₀ w : World) (hM₀ : MonAt w₀ x m) (hB : Below w₀.heap.size w₀ w) : Calls Try.prog 82 #[.slice x.ha x.hn x.hc] w fun e w' => ∃ g vs, e = .returned (.slice (some ⟨g, 0, none⟩) x.hn x.hn) ∧ w'.ownsRow w.heap.size 62 1 (.slice (some ⟨g, 0, none⟩) x.hn x.hn) m.has.length vs ∧ Els w₀ m.has vs 0 ∧ Below w.heap.size w w' := by
  obtain ⟨vs, h, he⟩ := hM₀.h
  have hl := hM₀.lens.2.2.1
  have hz := hM₀.z
  have h2 := h.below hB
  rw [← hl] at h2
  have hvl : vs.length = m.has.length := by have := h.1; omega
  refine (Try.copiedRow_any x.ha x.hn x.hc vs (by omega) w h2 (fun u hu => ?_)).mono fun e w' ⟨g, h1, h2, h3⟩ => ⟨g, vs, h1, ?_, fun i hi _ => he i hi, h3⟩
  · obtain ⟨i, hi, rfl⟩ := List.getElem_of_mem hu
    obtain ⟨a, c, e, _⟩ := he i (by omega)
    rw [List.getElem?_eq_getElem hi] at e
    injection e with e
    rw [e]
    rfl
  · rw [← hl]
    exact h2
/-- What lies there while rows are copied: k of them are. -/
structure Al (w : World) (x : Mv) (m : Mn) (g0 g1 g2 g3 k : Nat) (W : World) : Prop where
  bx : Rows8 W w.heap.size 29 #[.slice (some ⟨g0, 0, none⟩) x.sn x.sn, .slice (some ⟨g1, 0, none⟩) x.pn x.pn, .slice (some ⟨g2, 0, none⟩) x.hn x.hn, .slice (some ⟨g3, 0, none⟩) x.bn x.bn]
  rs : Rows8 W (w.heap.size + 1) 29 #[.slice none 0 0, .slice none 0 0, .slice none 0 0, .slice none 0 0]
  s : OwnsP 56 w.heap.size m.sl (.slice (some ⟨g0, 0, none⟩) x.sn x.sn) W
  p : OwnsBools w.heap.size m.pin (.slice (some ⟨g1, 0, none⟩) x.pn x.pn) W
  b : OwnsW w.heap.size m.bad (.slice (some ⟨g3, 0, none⟩) x.bn x.bn) W
  h : ∃ vs, W.ownsRow w.heap.size 62 1 (.slice (some ⟨g2, 0, none⟩) x.hn x.hn) m.has.length vs ∧ Els w m.has vs k ∧
    (∀ i (h : i < m.has.length), i < k → ∃ q, vs[i]? = some q ∧ OwnsP 38 w.heap.size m.has[i] q W) ∧
    (∀ i j a b, i < k → j < k → i ≠ j → vs[i]? = some a → vs[j]? = some b → a.ownBlock = none ∨ a.ownBlock ≠ b.ownBlock)
  bl : Below w.heap.size w W
theorem Al.drew {w : World} {x : Mv} {m : Mn} {g0 g1 g2 g3 k : Nat} {W : World} (h : Al w x m g0 g1 g2 g3 k W) : Al w x m g0 g1 g2 g3 k W.drew := ⟨h.bx, h.rs, h.s, h.p, h.b, h.h, h.bl.drew⟩
theorem Al.below {w : World} {x : Mv} {m : Mn} {g0 g1 g2 g3 k : Nat} {A B : World} (h : Al w x m g0 g1 g2 g3 k A) (hB : Below A.heap.size A B) : Al w x m g0 g1 g2 g3 k B := by
  refine ⟨h.bx.below hB h.bx.lt, h.rs.below hB h.rs.lt, h.s.below hB (Nat.le_refl _), owns_keep h.p hB (Nat.le_refl _), h.b.below hB (Nat.le_refl _), ?_, h.bl.trans (hB.mono h.bl.size)⟩
  obtain ⟨vs, h1, h2, h3, h4⟩ := h.h
  exact ⟨vs, owns_keep h1 hB (Nat.le_refl _), h2, fun i hi hk => by obtain ⟨q, e, ho⟩ := h3 i hi hk; exact ⟨q, e, ho.below hB (Nat.le_refl _)⟩, h4⟩
theorem own_rows {W : World} {n₀ k n g c : Nat} {T : TypeId} {len : Nat} {cs : List Value} (h : W.ownsRow n₀ T k (.slice (some ⟨g, 0, none⟩) len c) n cs) : ∃ cur, Rows8 W g T cur ∧ n = len ∧ n₀ ≤ g ∧ ∀ j, j < cs.length → W.cell? ⟨g, j, none⟩ = cs[j]? := by
  have hr := rowAt_own h
  rcases h.2 with ⟨h0, _⟩ | ⟨g', cap, cur, e, hg, hh, _⟩
  · cases h0
  · cases e
    refine ⟨cur, hh, rfl, hg, fun j hj => ?_⟩
    obtain ⟨_, a, cp, e, _, _, _, hc⟩ := hr
    cases e
    obtain ⟨b, off, e, _, h3⟩ := hc j hj
    cases e
    rw [Nat.zero_add] at h3
    exact h3
/-- One more is copied. -/
theorem Al.next {w : World} {x : Mv} {m : Mn} {g0 g1 g2 g3 k : Nat} {A B : World} (h : Al w x m g0 g1 g2 g3 k A) (hB : Below A.heap.size A B) (hk : k < m.has.length) (q n c : Nat) (ho : OwnsP 38 A.heap.size m.has[k] (.slice (some ⟨q, 0, none⟩) n c) B) :
    Al w x m g0 g1 g2 g3 (k + 1) (B.setCell ⟨g2, k, none⟩ (.slice (some ⟨q, 0, none⟩) n c)) := by
  have hb := h.below hB
  have hq : A.heap.size ≤ q := (World.ownsRow.lt ho q rfl).1
  obtain ⟨vs, h1, h2, h3, h4⟩ := hb.h
  obtain ⟨vs0, a1, a2, a3, a4⟩ := h.h
  obtain ⟨cur, hcr, hnl, hg2, hcell⟩ := own_rows h1
  have hvl : vs.length = m.has.length := by have := h1.1; omega
  have hset := grownBy_set B g2 k (.slice (some ⟨q, 0, none⟩) n c)
  have oE : ∀ (l : List Pr) (v : Value), OwnsP 38 w.heap.size l v B → OwnsP 38 w.heap.size l v (B.setCell ⟨g2, k, none⟩ (.slice (some ⟨q, 0, none⟩) n c)) := fun l v o => owns_setT o (a := ⟨g2, k, none⟩) hcr (by decide) _
  refine ⟨hb.bx.setOther (a := ⟨g2, k, none⟩) (fun e => rows_apart hb.bx hcr (by decide) e.symm) _, hb.rs.setOther (a := ⟨g2, k, none⟩) (fun e => rows_apart hb.rs hcr (by decide) e.symm) _,
    owns_setT hb.s (a := ⟨g2, k, none⟩) hcr (by decide) _, owns_setT hb.p (a := ⟨g2, k, none⟩) hcr (by decide) _, owns_setT hb.b (a := ⟨g2, k, none⟩) hcr (by decide) _, ?_, hb.bl.setCell (p := ⟨g2, k, none⟩) hg2 _⟩
  have hst : (B.setCell ⟨g2, k, none⟩ (.slice (some ⟨q, 0, none⟩) n c)).ownsRow w.heap.size 62 1 (.slice (some ⟨g2, 0, none⟩) x.hn x.hn) m.has.length (vs.set k (.slice (some ⟨q, 0, none⟩) n c)) := by
    have h1' := h1
    rw [hnl] at h1' ⊢
    exact (World.ownsRow.stored h1' k (.slice (some ⟨q, 0, none⟩) n c)).1
  refine ⟨vs.set k (.slice (some ⟨q, 0, none⟩) n c), hst, fun i hi hki => ?_, fun i hi hik => ?_, fun i j a b hi hj hne ha hbb => ?_⟩
  · rw [List.getElem?_set_ne (by omega)]
    exact h2 i hi (by omega)
  · by_cases e : k = i
    · subst e
      exact ⟨_, by simp [hvl, hk], oE _ _ (OwnsP.mono ho h.bl.size)⟩
    · obtain ⟨q', e1, ho1⟩ := h3 i hi (by omega)
      exact ⟨q', by rw [List.getElem?_set_ne e]; exact e1, oE _ _ ho1⟩
  · have old : ∀ i a, i < k → (vs.set k (.slice (some ⟨q, 0, none⟩) n c))[i]? = some a → ∀ z, a.ownBlock = some z → z < A.heap.size := fun i a hi ha z hz => by
      rw [List.getElem?_set_ne (by omega)] at ha
      obtain ⟨q0, e0, o0⟩ := a3 i (by omega) hi
      have hsame : ∀ (W : World) (u1 u2 : List Value), True := fun _ _ _ => trivial
      obtain ⟨q1, e1, o1⟩ := h3 i (by omega) hi
      rw [ha] at e1
      cases e1
      have hcA : A.cell? ⟨g2, i, none⟩ = some q0 := by
        obtain ⟨cu, hcu, _, _, hcc⟩ := own_rows a1
        rw [hcc i (by have := a1.1; omega)]
        exact e0
      have hcB : B.cell? ⟨g2, i, none⟩ = some a := by
        rw [hcell i (by omega)]
        exact ha
      obtain ⟨cu, hcu, _, _, hcc⟩ := own_rows a1
      have hAB := hB.cell (p := ⟨g2, i, none⟩) hcu.lt
      rw [hcA, hcB] at hAB
      injection hAB with hAB
      subst hAB
      exact (World.ownsRow.lt o0 z hz).2
    by_cases ei : k = i
    · subst ei
      rw [List.getElem?_set_self (by omega)] at ha
      cases ha
      refine .inr fun e => ?_
      have := old j b (by omega) hbb q (by rw [← e]; rfl)
      omega
    · by_cases ej : k = j
      · subst ej
        rw [List.getElem?_set_self (by omega)] at hbb
        cases hbb
        cases hab : a.ownBlock with
        | none => exact .inl rfl
        | some z =>
          have := old i a (by omega) ha z hab
          exact .inr (fun e => absurd (Option.some.inj (show some z = some q from e)) (by omega))
      · rw [List.getElem?_set_ne ei] at ha
        rw [List.getElem?_set_ne ej] at hbb
        exact h4 i j a b (by omega) (by omega) hne ha hbb
theorem Al.own {w : World} {x : Mv} {m : Mn} {g0 g1 g2 g3 : Nat} {W : World} (h : Al w x m g0 g1 g2 g3 m.has.length W) : ∃ vs, OwnMon w.heap.size ⟨some ⟨g0, 0, none⟩, x.sn, x.sn, some ⟨g1, 0, none⟩, x.pn, x.pn, some ⟨g2, 0, none⟩, x.hn, x.hn, some ⟨g3, 0, none⟩, x.bn, x.bn⟩ m vs W := by
  obtain ⟨vs, h1, h2, h3, h4⟩ := h.h
  exact ⟨vs, h.s, h.p, ⟨h1, fun i hi => h3 i hi hi, fun i j a b hi hj hne ha hb => h4 i j a b hi hj hne ha hb⟩, h.b⟩
set_option maxHeartbeats 8000000 in
theorem Try.alone_any (x : Mv) (m : Mn) (w : World) (hM : MonAt w x m) :
    Calls Try.prog 75 #[.agg #[.slice x.sa x.sn x.sc, .slice x.pa x.pn x.pc, .slice x.ha x.hn x.hc, .slice x.ba x.bn x.bc]] w fun e w' => ∃ (g0 g1 g2 g3 : Nat), e = .returned (.agg #[.slice (some ⟨g0, 0, none⟩) x.sn x.sn, .slice (some ⟨g1, 0, none⟩) x.pn x.pn, .slice (some ⟨g2, 0, none⟩) x.hn x.hn, .slice (some ⟨g3, 0, none⟩) x.bn x.bn]) ∧
      (∃ vs, OwnMon w.heap.size ⟨some ⟨g0, 0, none⟩, x.sn, x.sn, some ⟨g1, 0, none⟩, x.pn, x.pn, some ⟨g2, 0, none⟩, x.hn, x.hn, some ⟨g3, 0, none⟩, x.bn, x.bn⟩ m vs w') ∧ Below w.heap.size w w' := by
  have HC1 := fun (W : World) (h : MonAt W x m) => Lib.hid (Try.cpSlab_any x m W h)
  have HC2 := fun (W : World) (h : MonAt W x m) => Lib.hid (Try.cpBool_any x m W h)
  have HC3 := fun (W : World) (h : Below w.heap.size w W) => Lib.hid (Try.cpHas_any x m w W hM h)
  have HC4 := fun (W : World) (h : MonAt W x m) => Lib.hid (Try.cpWatch_any x m W h)
  have hz9 := hM.z.2.2.2.2
  have hhl := hM.lens.2.2.1
  have hz3 := hM.z.2.2.1
  obtain ⟨u0, hu0⟩ : ∃ u, u = (w.alloc (.cells #[.slice x.sa x.sn x.sc, .slice x.pa x.pn x.pc, .slice x.ha x.hn x.hc, .slice x.ba x.bn x.bc] 29)).alloc (.cells #[.slice none 0 0, .slice none 0 0, .slice none 0 0, .slice none 0 0] 29) := ⟨_, rfl⟩
  have hB0 : Below w.heap.size w u0 := by rw [hu0]; exact (Rows8.newB).alloc (by simp) _
  have r1 : Rows8 u0 w.heap.size 29 #[.slice x.sa x.sn x.sc, .slice x.pa x.pn x.pc, .slice x.ha x.hn x.hc, .slice x.ba x.bn x.bc] := by rw [hu0]; exact (Rows8.new _ _ _).alloc _
  have r2 : Rows8 u0 (w.heap.size + 1) 29 #[.slice none 0 0, .slice none 0 0, .slice none 0 0, .slice none 0 0] := by rw [hu0]; exact rows_new2 _ _ _ _
  have hMw := Lib.hid hM
  have HHL := Lib.hid hhl
  have HZ9 := Lib.hid hz9
  have hz3b : x.hn ≤ 10000 := by omega
  have R1 := Lib.hid r1
  have R2 := Lib.hid r2
  have B0 := Lib.hid hB0
  clear hB0 r1 r2 hM hhl hz9 hz3
  go_enter Try.func75, Try.ntmps75
  go_wp2_with fail
  rw [← hu0]
  clear hu0
  refine wp_region_L (fun W' => Rows8 W' w.heap.size 29 #[.slice x.sa x.sn x.sc, .slice x.pa x.pn x.pc, .slice x.ha x.hn x.hc, .slice x.ba x.bn x.bc]) 13 (by kernel_rfl) ?_
  have hS0 : Rows8 u0.drew w.heap.size 29 #[.slice x.sa x.sn x.sc, .slice x.pa x.pn x.pc, .slice x.ha x.hn x.hc, .slice x.ba x.bn x.bc] := R1.out.drewA
  have R2 : Hid (Rows8 u0.drew (w.heap.size + 1) 29 _) := R2
  have B0 := Lib.hid B0.out.drew
  have HM : Hid (MonAt u0.drew x m) := Lib.hid (hMw.out.below B0.out)
  clear R1
  generalize u0.drew = Wd at *
  refine wpAnyL_take (i := 0) (oi := { dst := some 5, op := Go.Op.fieldAddr 29 (Go.Operand.tmp 1) 0, type := 0, pos := "hand.go:35", after := #[], guard := none }) (v := .pointer (some ⟨w.heap.size, 0, none⟩)) rfl (by kernel_rfl) (by kernel_rfl) (by kernel_rfl) (by kernel_rfl) (fun _ _ _ h => h) (Or.inl ⟨by rfl, ?_⟩) hS0 ?_
  · intro W9 hS9
    clear hS9
    go_simp
  try simp only [Act.put, List.setIfInBounds_toArray, List.set_cons_zero, List.set_cons_succ]
  refine wpAnyL_take (i := 1) (oi := { dst := some 6, op := Go.Op.fieldAddr 24 (Go.Operand.tmp 5) 0, type := 0, pos := "hand.go:35", after := #[{ on := 0, ground := Go.Ground.data }], guard := none }) (v := .pointer (some ⟨w.heap.size, 0, none⟩)) rfl (by kernel_rfl) (by kernel_rfl) (by kernel_rfl) (by kernel_rfl) (fun _ _ _ h => h) (Or.inl ⟨by rfl, ?_⟩) hS0 ?_
  · intro W9 hS9
    clear hS9
    go_simp
  try simp only [Act.put, List.setIfInBounds_toArray, List.set_cons_zero, List.set_cons_succ]
  refine wpAnyL_take (i := 2) (oi := { dst := some 7, op := Go.Op.load 22 (Go.Operand.tmp 6), type := 22, pos := "hand.go:35", after := #[{ on := 1, ground := Go.Ground.data }], guard := none }) (v := .slice x.sa x.sn x.sc) rfl (by kernel_rfl) (by kernel_rfl) (by kernel_rfl) (by kernel_rfl) (fun _ _ _ h => h) (Or.inl ⟨by rfl, ?_⟩) hS0 ?_
  · intro W9 hS9
    have s0 : W9.cell? ⟨w.heap.size, 0, none⟩ = some (.slice x.sa x.sn x.sc) := hS9.cell 0
    clear hS9
    go_simp
  try simp only [Act.put, List.setIfInBounds_toArray, List.set_cons_zero, List.set_cons_succ]
  refine wpAnyL_take (i := 4) (oi := { dst := some 9, op := Go.Op.fieldAddr 29 (Go.Operand.tmp 1) 1, type := 0, pos := "hand.go:35", after := #[], guard := none }) (v := .pointer (some ⟨w.heap.size, 1, none⟩)) rfl (by kernel_rfl) (by kernel_rfl) (by kernel_rfl) (by kernel_rfl) (fun _ _ _ h => h) (Or.inl ⟨by rfl, ?_⟩) hS0 ?_
  · intro W9 hS9
    clear hS9
    go_simp
  try simp only [Act.put, List.setIfInBounds_toArray, List.set_cons_zero, List.set_cons_succ]
  refine wpAnyL_take (i := 5) (oi := { dst := some 10, op := Go.Op.load 25 (Go.Operand.tmp 9), type := 25, pos := "hand.go:35", after := #[{ on := 4, ground := Go.Ground.data }], guard := none }) (v := .slice x.pa x.pn x.pc) rfl (by kernel_rfl) (by kernel_rfl) (by kernel_rfl) (by kernel_rfl) (fun _ _ _ h => h) (Or.inl ⟨by rfl, ?_⟩) hS0 ?_
  · intro W9 hS9
    have s0 : W9.cell? ⟨w.heap.size, 1, none⟩ = some (.slice x.pa x.pn x.pc) := hS9.cell 1
    clear hS9
    go_simp
  try simp only [Act.put, List.setIfInBounds_toArray, List.set_cons_zero, List.set_cons_succ]
  refine wpAnyL_take (i := 7) (oi := { dst := some 12, op := Go.Op.fieldAddr 29 (Go.Operand.tmp 1) 2, type := 0, pos := "hand.go:35", after := #[], guard := none }) (v := .pointer (some ⟨w.heap.size, 2, none⟩)) rfl (by kernel_rfl) (by kernel_rfl) (by kernel_rfl) (by kernel_rfl) (fun _ _ _ h => h) (Or.inl ⟨by rfl, ?_⟩) hS0 ?_
  · intro W9 hS9
    clear hS9
    go_simp
  try simp only [Act.put, List.setIfInBounds_toArray, List.set_cons_zero, List.set_cons_succ]
  refine wpAnyL_take (i := 8) (oi := { dst := some 13, op := Go.Op.load 26 (Go.Operand.tmp 12), type := 26, pos := "hand.go:35", after := #[{ on := 7, ground := Go.Ground.data }], guard := none }) (v := .slice x.ha x.hn x.hc) rfl (by kernel_rfl) (by kernel_rfl) (by kernel_rfl) (by kernel_rfl) (fun _ _ _ h => h) (Or.inl ⟨by rfl, ?_⟩) hS0 ?_
  · intro W9 hS9
    have s0 : W9.cell? ⟨w.heap.size, 2, none⟩ = some (.slice x.ha x.hn x.hc) := hS9.cell 2
    clear hS9
    go_simp
  try simp only [Act.put, List.setIfInBounds_toArray, List.set_cons_zero, List.set_cons_succ]
  refine wpAnyL_take (i := 10) (oi := { dst := some 15, op := Go.Op.fieldAddr 29 (Go.Operand.tmp 1) 3, type := 0, pos := "hand.go:35", after := #[], guard := none }) (v := .pointer (some ⟨w.heap.size, 3, none⟩)) rfl (by kernel_rfl) (by kernel_rfl) (by kernel_rfl) (by kernel_rfl) (fun _ _ _ h => h) (Or.inl ⟨by rfl, ?_⟩) hS0 ?_
  · intro W9 hS9
    clear hS9
    go_simp
  try simp only [Act.put, List.setIfInBounds_toArray, List.set_cons_zero, List.set_cons_succ]
  refine wpAnyL_take (i := 11) (oi := { dst := some 16, op := Go.Op.load 27 (Go.Operand.tmp 15), type := 27, pos := "hand.go:35", after := #[{ on := 10, ground := Go.Ground.data }], guard := none }) (v := .slice x.ba x.bn x.bc) rfl (by kernel_rfl) (by kernel_rfl) (by kernel_rfl) (by kernel_rfl) (fun _ _ _ h => h) (Or.inl ⟨by rfl, ?_⟩) hS0 ?_
  · intro W9 hS9
    have s0 : W9.cell? ⟨w.heap.size, 3, none⟩ = some (.slice x.ba x.bn x.bc) := hS9.cell 3
    clear hS9
    go_simp
  try simp only [Act.put, List.setIfInBounds_toArray, List.set_cons_zero, List.set_cons_succ]
  refine wpAnyL_one (i := 3) (o := { dst := some 8, op := Go.Op.call { callee := Go.Callee.value (Go.Operand.func 80), args := #[Go.Operand.tmp 7], argTypes := #[22] }, type := 22, pos := "hand.go:35", after := #[{ on := 2, ground := Go.Ground.data }], guard := none }) (by kernel_rfl) rfl (fun K hK => ?_)
  refine step_call_g (by rfl) 80 _ _ rfl (fun _ _ => by kernel_rfl) #[.slice x.sa x.sn x.sc] (by simp [go_sem]) _ (HC1 Wd HM.out).out ?_
  rintro e v1 ⟨g0, rfl, ho, hC⟩
  refine ⟨_, rfl, ?_⟩
  have hS1 : Rows8 v1 w.heap.size 29 #[.slice x.sa x.sn x.sc, .slice x.pa x.pn x.pc, .slice x.ha x.hn x.hc, .slice x.ba x.bn x.bc] := hS0.below hC hS0.lt
  have R2 := Lib.hid (R2.out.below hC R2.out.lt)
  have O1 := Lib.hid (OwnsP.mono ho B0.out.size)
  clear ho
  have B0 := Lib.hid (B0.out.trans (hC.mono B0.out.size))
  have HM := Lib.hid (HM.out.below hC)
  clear hC
  refine hK.out _ _ (fun _ => hS1) ?_
  clear hK K
  try simp only [Act.put, List.setIfInBounds_toArray, List.set_cons_zero, List.set_cons_succ]
  refine wpAnyL_takeP (i := 13) (oi := { dst := some 18, op := Go.Op.fieldAddr 29 (Go.Operand.tmp 1) 0, type := 0, pos := "hand.go:35", after := #[{ on := 0, ground := Go.Ground.phase }, { on := 1, ground := Go.Ground.phase }, { on := 2, ground := Go.Ground.phase }, { on := 3, ground := Go.Ground.phase }, { on := 4, ground := Go.Ground.phase }, { on := 5, ground := Go.Ground.phase }, { on := 6, ground := Go.Ground.textOnly Go.Departure.lateStoresUnsure }, { on := 7, ground := Go.Ground.phase }, { on := 8, ground := Go.Ground.phase }, { on := 9, ground := Go.Ground.textOnly Go.Departure.lateStoresUnsure }, { on := 10, ground := Go.Ground.phase }, { on := 11, ground := Go.Ground.phase }, { on := 12, ground := Go.Ground.textOnly Go.Departure.lateStoresUnsure }], guard := none }) (v := .pointer (some ⟨w.heap.size, 0, none⟩)) rfl (by kernel_rfl) (by kernel_rfl) (by kernel_rfl) (by kernel_rfl) (fun _ _ _ h => h) (Or.inl ⟨by rfl, ?_⟩) ?_
  · intro W9 _
    go_simp
  try simp only [Act.put, List.setIfInBounds_toArray, List.set_cons_zero, List.set_cons_succ]
  refine wpAnyL_takeP (i := 14) (oi := { dst := some 19, op := Go.Op.fieldAddr 24 (Go.Operand.tmp 18) 0, type := 0, pos := "hand.go:35", after := #[{ on := 13, ground := Go.Ground.data }, { on := 0, ground := Go.Ground.phase }, { on := 1, ground := Go.Ground.phase }, { on := 2, ground := Go.Ground.phase }, { on := 3, ground := Go.Ground.phase }, { on := 4, ground := Go.Ground.phase }, { on := 5, ground := Go.Ground.phase }, { on := 6, ground := Go.Ground.textOnly Go.Departure.lateStoresUnsure }, { on := 7, ground := Go.Ground.phase }, { on := 8, ground := Go.Ground.phase }, { on := 9, ground := Go.Ground.textOnly Go.Departure.lateStoresUnsure }, { on := 10, ground := Go.Ground.phase }, { on := 11, ground := Go.Ground.phase }, { on := 12, ground := Go.Ground.textOnly Go.Departure.lateStoresUnsure }], guard := none }) (v := .pointer (some ⟨w.heap.size, 0, none⟩)) rfl (by kernel_rfl) (by kernel_rfl) (by kernel_rfl) (by kernel_rfl) (fun _ _ _ h => h) (Or.inl ⟨by rfl, ?_⟩) ?_
  · intro W9 _
    go_simp
  try simp only [Act.put, List.setIfInBounds_toArray, List.set_cons_zero, List.set_cons_succ]
  refine wpAnyL_one (i := 6) (o := { dst := some 11, op := Go.Op.call { callee := Go.Callee.value (Go.Operand.func 81), args := #[Go.Operand.tmp 10], argTypes := #[25] }, type := 25, pos := "hand.go:35", after := #[{ on := 5, ground := Go.Ground.data }, { on := 3, ground := Go.Ground.chain }], guard := none }) (by kernel_rfl) rfl (fun K hK => ?_)
  refine step_call_g (by rfl) 81 _ _ rfl (fun _ _ => by kernel_rfl) #[.slice x.pa x.pn x.pc] (by simp [go_sem]) _ (HC2 v1 HM.out).out ?_
  rintro e v2 ⟨g1, rfl, ho, hC⟩
  refine ⟨_, rfl, ?_⟩
  have hS2 : Rows8 v2 w.heap.size 29 #[.slice x.sa x.sn x.sc, .slice x.pa x.pn x.pc, .slice x.ha x.hn x.hc, .slice x.ba x.bn x.bc] := hS1.below hC hS1.lt
  have R2 := Lib.hid (R2.out.below hC R2.out.lt)
  have O1 := Lib.hid (OwnsP.below O1.out hC (Nat.le_refl _))
  have O2 := Lib.hid (show OwnsBools w.heap.size m.pin _ _ from owns_mono ho B0.out.size)
  clear ho
  have B0 := Lib.hid (B0.out.trans (hC.mono B0.out.size))
  have HM := Lib.hid (HM.out.below hC)
  clear hC
  refine hK.out _ _ (fun _ => hS2) ?_
  clear hK K
  try simp only [Act.put, List.setIfInBounds_toArray, List.set_cons_zero, List.set_cons_succ]
  refine wpAnyL_one (i := 9) (o := { dst := some 14, op := Go.Op.call { callee := Go.Callee.value (Go.Operand.func 82), args := #[Go.Operand.tmp 13], argTypes := #[26] }, type := 26, pos := "hand.go:35", after := #[{ on := 8, ground := Go.Ground.data }, { on := 6, ground := Go.Ground.chain }], guard := none }) (by kernel_rfl) rfl (fun K hK => ?_)
  refine step_call_g (by rfl) 82 _ _ rfl (fun _ _ => by kernel_rfl) #[.slice x.ha x.hn x.hc] (by simp [go_sem]) _ (HC3 v2 B0.out).out ?_
  rintro e v3 ⟨g2, vs, rfl, ho, hes, hC⟩
  refine ⟨_, rfl, ?_⟩
  have hS3 : Rows8 v3 w.heap.size 29 #[.slice x.sa x.sn x.sc, .slice x.pa x.pn x.pc, .slice x.ha x.hn x.hc, .slice x.ba x.bn x.bc] := hS2.below hC hS2.lt
  have R2 := Lib.hid (R2.out.below hC R2.out.lt)
  have O1 := Lib.hid (OwnsP.below O1.out hC (Nat.le_refl _))
  have O2 := Lib.hid (show OwnsBools w.heap.size m.pin _ _ from owns_keep O2.out hC (Nat.le_refl _))
  have O3 := Lib.hid (owns_mono ho B0.out.size)
  have HES := Lib.hid hes
  clear ho hes
  have B0 := Lib.hid (B0.out.trans (hC.mono B0.out.size))
  have HM := Lib.hid (HM.out.below hC)
  clear hC
  refine hK.out _ _ (fun _ => hS3) ?_
  clear hK K
  try simp only [Act.put, List.setIfInBounds_toArray, List.set_cons_zero, List.set_cons_succ]
  refine wpAnyL_one (i := 12) (o := { dst := some 17, op := Go.Op.call { callee := Go.Callee.value (Go.Operand.func 83), args := #[Go.Operand.tmp 16], argTypes := #[27] }, type := 27, pos := "hand.go:35", after := #[{ on := 11, ground := Go.Ground.data }, { on := 9, ground := Go.Ground.chain }], guard := none }) (by kernel_rfl) rfl (fun K hK => ?_)
  refine step_call_g (by rfl) 83 _ _ rfl (fun _ _ => by kernel_rfl) #[.slice x.ba x.bn x.bc] (by simp [go_sem]) _ (HC4 v3 HM.out).out ?_
  rintro e v4 ⟨g3, rfl, ho, hC⟩
  refine ⟨_, rfl, ?_⟩
  have hS4 : Rows8 v4 w.heap.size 29 #[.slice x.sa x.sn x.sc, .slice x.pa x.pn x.pc, .slice x.ha x.hn x.hc, .slice x.ba x.bn x.bc] := hS3.below hC hS3.lt
  have R2 := Lib.hid (R2.out.below hC R2.out.lt)
  have O1 := Lib.hid (OwnsP.below O1.out hC (Nat.le_refl _))
  have O2 := Lib.hid (show OwnsBools w.heap.size m.pin _ _ from owns_keep O2.out hC (Nat.le_refl _))
  have O3 := Lib.hid (owns_keep O3.out hC (Nat.le_refl _))
  have O4 := Lib.hid (OwnsW.mono ho B0.out.size)
  clear ho
  have B0 := Lib.hid (B0.out.trans (hC.mono B0.out.size))
  have HM := Lib.hid (HM.out.below hC)
  clear hC
  refine hK.out _ _ (fun _ => hS4) ?_
  clear hK K
  try simp only [Act.put, List.setIfInBounds_toArray, List.set_cons_zero, List.set_cons_succ]
  have hb0 := hS4
  clear hS0 hS1 hS2 hS3 hS4
  have D0 := Lib.hid (show w.heap.size ≤ w.heap.size from Nat.le_refl _)
  refine wpAnyL_one (i := 15) (o := { dst := none, op := Go.Op.store 22 (Go.Operand.tmp 19) (Go.Operand.tmp 8), type := 0, pos := "hand.go:35", after := #[{ on := 14, ground := Go.Ground.data }, { on := 3, ground := Go.Ground.data }, { on := 12, ground := Go.Ground.chain }, { on := 0, ground := Go.Ground.phase }, { on := 1, ground := Go.Ground.phase }, { on := 2, ground := Go.Ground.phase }, { on := 3, ground := Go.Ground.phase }, { on := 4, ground := Go.Ground.phase }, { on := 5, ground := Go.Ground.phase }, { on := 6, ground := Go.Ground.textOnly Go.Departure.lateStoresUnsure }, { on := 7, ground := Go.Ground.phase }, { on := 8, ground := Go.Ground.phase }, { on := 9, ground := Go.Ground.textOnly Go.Departure.lateStoresUnsure }, { on := 10, ground := Go.Ground.phase }, { on := 11, ground := Go.Ground.phase }, { on := 12, ground := Go.Ground.textOnly Go.Departure.lateStoresUnsure }], guard := none }) (by kernel_rfl) rfl (fun K hK => ?_)
  have cK : v4.cell? ⟨w.heap.size, 0, none⟩ = some (.slice x.sa x.sn x.sc) := hb0.cell 0
  have fK := hb0.frozen 0
  refine step_skip_g (by rfl) (w' := (v4.setCell ⟨w.heap.size, 0, none⟩ (.slice (some ⟨g0, 0, none⟩) x.sn x.sn))) (by go_simp) ?_
  have hb1 : Rows8 (v4.setCell ⟨w.heap.size, 0, none⟩ (.slice (some ⟨g0, 0, none⟩) x.sn x.sn)) w.heap.size 29 #[.slice (some ⟨g0, 0, none⟩) x.sn x.sn, .slice x.pa x.pn x.pc, .slice x.ha x.hn x.hc, .slice x.ba x.bn x.bc] := by
    have h := hb0.set 0 (.slice (some ⟨g0, 0, none⟩) x.sn x.sn)
    simpa only [List.setIfInBounds_toArray, List.set_cons_zero, List.set_cons_succ] using h
  have R2 := Lib.hid (R2.out.setOther (a := ⟨w.heap.size, 0, none⟩) (by show w.heap.size ≠ w.heap.size + 1; omega) (.slice (some ⟨g0, 0, none⟩) x.sn x.sn))
  have O1 := Lib.hid (show OwnsP 56 w.heap.size m.sl _ _ from owns_setT O1.out (a := ⟨w.heap.size, 0, none⟩) hb0 (by decide) (.slice (some ⟨g0, 0, none⟩) x.sn x.sn))
  have O2 := Lib.hid (show OwnsBools w.heap.size m.pin _ _ from owns_setT O2.out (a := ⟨w.heap.size, 0, none⟩) hb0 (by decide) (.slice (some ⟨g0, 0, none⟩) x.sn x.sn))
  have O3 := Lib.hid (owns_setT O3.out (a := ⟨w.heap.size, 0, none⟩) hb0 (by decide) (.slice (some ⟨g0, 0, none⟩) x.sn x.sn))
  have O4 := Lib.hid (show OwnsW w.heap.size m.bad _ _ from owns_setT O4.out (a := ⟨w.heap.size, 0, none⟩) hb0 (by decide) (.slice (some ⟨g0, 0, none⟩) x.sn x.sn))
  have B0 := Lib.hid (B0.out.setCell (p := ⟨w.heap.size, 0, none⟩) (Nat.le_refl _) (.slice (some ⟨g0, 0, none⟩) x.sn x.sn))
  clear cK fK hb0
  refine hK.out _ _ (fun h => absurd h (by decide)) ?_
  clear hK K
  try simp only [Act.put, List.setIfInBounds_toArray, List.set_cons_zero, List.set_cons_succ]
  generalize (v4.setCell ⟨w.heap.size, 0, none⟩ (.slice (some ⟨g0, 0, none⟩) x.sn x.sn)) = u1 at *
  refine wpAnyL_takeP (i := 16) (oi := { dst := some 20, op := Go.Op.fieldAddr 29 (Go.Operand.tmp 1) 1, type := 0, pos := "hand.go:35", after := #[{ on := 0, ground := Go.Ground.phase }, { on := 1, ground := Go.Ground.phase }, { on := 2, ground := Go.Ground.phase }, { on := 3, ground := Go.Ground.phase }, { on := 4, ground := Go.Ground.phase }, { on := 5, ground := Go.Ground.phase }, { on := 6, ground := Go.Ground.phase }, { on := 7, ground := Go.Ground.phase }, { on := 8, ground := Go.Ground.phase }, { on := 9, ground := Go.Ground.textOnly Go.Departure.lateStoresUnsure }, { on := 10, ground := Go.Ground.phase }, { on := 11, ground := Go.Ground.phase }, { on := 12, ground := Go.Ground.textOnly Go.Departure.lateStoresUnsure }, { on := 13, ground := Go.Ground.phase }, { on := 14, ground := Go.Ground.phase }, { on := 15, ground := Go.Ground.phase }], guard := none }) (v := .pointer (some ⟨w.heap.size, 1, none⟩)) rfl (by kernel_rfl) (by kernel_rfl) (by kernel_rfl) (by kernel_rfl) (fun _ _ _ h => h) (Or.inl ⟨by rfl, ?_⟩) ?_
  · intro W9 _
    go_simp
  try simp only [Act.put, List.setIfInBounds_toArray, List.set_cons_zero, List.set_cons_succ]
  refine wpAnyL_one (i := 17) (o := { dst := none, op := Go.Op.store 25 (Go.Operand.tmp 20) (Go.Operand.tmp 11), type := 0, pos := "hand.go:35", after := #[{ on := 16, ground := Go.Ground.data }, { on := 6, ground := Go.Ground.data }, { on := 15, ground := Go.Ground.chain }, { on := 0, ground := Go.Ground.phase }, { on := 1, ground := Go.Ground.phase }, { on := 2, ground := Go.Ground.phase }, { on := 3, ground := Go.Ground.phase }, { on := 4, ground := Go.Ground.phase }, { on := 5, ground := Go.Ground.phase }, { on := 6, ground := Go.Ground.phase }, { on := 7, ground := Go.Ground.phase }, { on := 8, ground := Go.Ground.phase }, { on := 9, ground := Go.Ground.textOnly Go.Departure.lateStoresUnsure }, { on := 10, ground := Go.Ground.phase }, { on := 11, ground := Go.Ground.phase }, { on := 12, ground := Go.Ground.textOnly Go.Departure.lateStoresUnsure }, { on := 13, ground := Go.Ground.phase }, { on := 14, ground := Go.Ground.phase }, { on := 15, ground := Go.Ground.phase }], guard := none }) (by kernel_rfl) rfl (fun K hK => ?_)
  have cK : u1.cell? ⟨w.heap.size, 1, none⟩ = some (.slice x.pa x.pn x.pc) := hb1.cell 1
  have fK := hb1.frozen 1
  refine step_skip_g (by rfl) (w' := (u1.setCell ⟨w.heap.size, 1, none⟩ (.slice (some ⟨g1, 0, none⟩) x.pn x.pn))) (by go_simp) ?_
  have hb2 : Rows8 (u1.setCell ⟨w.heap.size, 1, none⟩ (.slice (some ⟨g1, 0, none⟩) x.pn x.pn)) w.heap.size 29 #[.slice (some ⟨g0, 0, none⟩) x.sn x.sn, .slice (some ⟨g1, 0, none⟩) x.pn x.pn, .slice x.ha x.hn x.hc, .slice x.ba x.bn x.bc] := by
    have h := hb1.set 1 (.slice (some ⟨g1, 0, none⟩) x.pn x.pn)
    simpa only [List.setIfInBounds_toArray, List.set_cons_zero, List.set_cons_succ] using h
  have R2 := Lib.hid (R2.out.setOther (a := ⟨w.heap.size, 1, none⟩) (by show w.heap.size ≠ w.heap.size + 1; omega) (.slice (some ⟨g1, 0, none⟩) x.pn x.pn))
  have O1 := Lib.hid (show OwnsP 56 w.heap.size m.sl _ _ from owns_setT O1.out (a := ⟨w.heap.size, 1, none⟩) hb1 (by decide) (.slice (some ⟨g1, 0, none⟩) x.pn x.pn))
  have O2 := Lib.hid (show OwnsBools w.heap.size m.pin _ _ from owns_setT O2.out (a := ⟨w.heap.size, 1, none⟩) hb1 (by decide) (.slice (some ⟨g1, 0, none⟩) x.pn x.pn))
  have O3 := Lib.hid (owns_setT O3.out (a := ⟨w.heap.size, 1, none⟩) hb1 (by decide) (.slice (some ⟨g1, 0, none⟩) x.pn x.pn))
  have O4 := Lib.hid (show OwnsW w.heap.size m.bad _ _ from owns_setT O4.out (a := ⟨w.heap.size, 1, none⟩) hb1 (by decide) (.slice (some ⟨g1, 0, none⟩) x.pn x.pn))
  have B0 := Lib.hid (B0.out.setCell (p := ⟨w.heap.size, 1, none⟩) (Nat.le_refl _) (.slice (some ⟨g1, 0, none⟩) x.pn x.pn))
  clear cK fK hb1
  refine hK.out _ _ (fun h => absurd h (by decide)) ?_
  clear hK K
  try simp only [Act.put, List.setIfInBounds_toArray, List.set_cons_zero, List.set_cons_succ]
  generalize (u1.setCell ⟨w.heap.size, 1, none⟩ (.slice (some ⟨g1, 0, none⟩) x.pn x.pn)) = u2 at *
  refine wpAnyL_takeP (i := 18) (oi := { dst := some 21, op := Go.Op.fieldAddr 29 (Go.Operand.tmp 1) 2, type := 0, pos := "hand.go:35", after := #[{ on := 0, ground := Go.Ground.phase }, { on := 1, ground := Go.Ground.phase }, { on := 2, ground := Go.Ground.phase }, { on := 3, ground := Go.Ground.phase }, { on := 4, ground := Go.Ground.phase }, { on := 5, ground := Go.Ground.phase }, { on := 6, ground := Go.Ground.phase }, { on := 7, ground := Go.Ground.phase }, { on := 8, ground := Go.Ground.phase }, { on := 9, ground := Go.Ground.phase }, { on := 10, ground := Go.Ground.phase }, { on := 11, ground := Go.Ground.phase }, { on := 12, ground := Go.Ground.textOnly Go.Departure.lateStoresUnsure }, { on := 13, ground := Go.Ground.phase }, { on := 14, ground := Go.Ground.phase }, { on := 15, ground := Go.Ground.phase }, { on := 16, ground := Go.Ground.phase }, { on := 17, ground := Go.Ground.phase }], guard := none }) (v := .pointer (some ⟨w.heap.size, 2, none⟩)) rfl (by kernel_rfl) (by kernel_rfl) (by kernel_rfl) (by kernel_rfl) (fun _ _ _ h => h) (Or.inl ⟨by rfl, ?_⟩) ?_
  · intro W9 _
    go_simp
  try simp only [Act.put, List.setIfInBounds_toArray, List.set_cons_zero, List.set_cons_succ]
  refine wpAnyL_one (i := 19) (o := { dst := none, op := Go.Op.store 26 (Go.Operand.tmp 21) (Go.Operand.tmp 14), type := 0, pos := "hand.go:35", after := #[{ on := 18, ground := Go.Ground.data }, { on := 9, ground := Go.Ground.data }, { on := 17, ground := Go.Ground.chain }, { on := 0, ground := Go.Ground.phase }, { on := 1, ground := Go.Ground.phase }, { on := 2, ground := Go.Ground.phase }, { on := 3, ground := Go.Ground.phase }, { on := 4, ground := Go.Ground.phase }, { on := 5, ground := Go.Ground.phase }, { on := 6, ground := Go.Ground.phase }, { on := 7, ground := Go.Ground.phase }, { on := 8, ground := Go.Ground.phase }, { on := 9, ground := Go.Ground.phase }, { on := 10, ground := Go.Ground.phase }, { on := 11, ground := Go.Ground.phase }, { on := 12, ground := Go.Ground.textOnly Go.Departure.lateStoresUnsure }, { on := 13, ground := Go.Ground.phase }, { on := 14, ground := Go.Ground.phase }, { on := 15, ground := Go.Ground.phase }, { on := 16, ground := Go.Ground.phase }, { on := 17, ground := Go.Ground.phase }], guard := none }) (by kernel_rfl) rfl (fun K hK => ?_)
  have cK : u2.cell? ⟨w.heap.size, 2, none⟩ = some (.slice x.ha x.hn x.hc) := hb2.cell 2
  have fK := hb2.frozen 2
  refine step_skip_g (by rfl) (w' := (u2.setCell ⟨w.heap.size, 2, none⟩ (.slice (some ⟨g2, 0, none⟩) x.hn x.hn))) (by go_simp) ?_
  have hb3 : Rows8 (u2.setCell ⟨w.heap.size, 2, none⟩ (.slice (some ⟨g2, 0, none⟩) x.hn x.hn)) w.heap.size 29 #[.slice (some ⟨g0, 0, none⟩) x.sn x.sn, .slice (some ⟨g1, 0, none⟩) x.pn x.pn, .slice (some ⟨g2, 0, none⟩) x.hn x.hn, .slice x.ba x.bn x.bc] := by
    have h := hb2.set 2 (.slice (some ⟨g2, 0, none⟩) x.hn x.hn)
    simpa only [List.setIfInBounds_toArray, List.set_cons_zero, List.set_cons_succ] using h
  have R2 := Lib.hid (R2.out.setOther (a := ⟨w.heap.size, 2, none⟩) (by show w.heap.size ≠ w.heap.size + 1; omega) (.slice (some ⟨g2, 0, none⟩) x.hn x.hn))
  have O1 := Lib.hid (show OwnsP 56 w.heap.size m.sl _ _ from owns_setT O1.out (a := ⟨w.heap.size, 2, none⟩) hb2 (by decide) (.slice (some ⟨g2, 0, none⟩) x.hn x.hn))
  have O2 := Lib.hid (show OwnsBools w.heap.size m.pin _ _ from owns_setT O2.out (a := ⟨w.heap.size, 2, none⟩) hb2 (by decide) (.slice (some ⟨g2, 0, none⟩) x.hn x.hn))
  have O3 := Lib.hid (owns_setT O3.out (a := ⟨w.heap.size, 2, none⟩) hb2 (by decide) (.slice (some ⟨g2, 0, none⟩) x.hn x.hn))
  have O4 := Lib.hid (show OwnsW w.heap.size m.bad _ _ from owns_setT O4.out (a := ⟨w.heap.size, 2, none⟩) hb2 (by decide) (.slice (some ⟨g2, 0, none⟩) x.hn x.hn))
  have B0 := Lib.hid (B0.out.setCell (p := ⟨w.heap.size, 2, none⟩) (Nat.le_refl _) (.slice (some ⟨g2, 0, none⟩) x.hn x.hn))
  clear cK fK hb2
  refine hK.out _ _ (fun h => absurd h (by decide)) ?_
  clear hK K
  try simp only [Act.put, List.setIfInBounds_toArray, List.set_cons_zero, List.set_cons_succ]
  generalize (u2.setCell ⟨w.heap.size, 2, none⟩ (.slice (some ⟨g2, 0, none⟩) x.hn x.hn)) = u3 at *
  refine wpAnyL_takeP (i := 20) (oi := { dst := some 22, op := Go.Op.fieldAddr 29 (Go.Operand.tmp 1) 3, type := 0, pos := "hand.go:35", after := #[{ on := 0, ground := Go.Ground.phase }, { on := 1, ground := Go.Ground.phase }, { on := 2, ground := Go.Ground.phase }, { on := 3, ground := Go.Ground.phase }, { on := 4, ground := Go.Ground.phase }, { on := 5, ground := Go.Ground.phase }, { on := 6, ground := Go.Ground.phase }, { on := 7, ground := Go.Ground.phase }, { on := 8, ground := Go.Ground.phase }, { on := 9, ground := Go.Ground.phase }, { on := 10, ground := Go.Ground.phase }, { on := 11, ground := Go.Ground.phase }, { on := 12, ground := Go.Ground.phase }, { on := 13, ground := Go.Ground.phase }, { on := 14, ground := Go.Ground.phase }, { on := 15, ground := Go.Ground.phase }, { on := 16, ground := Go.Ground.phase }, { on := 17, ground := Go.Ground.phase }, { on := 18, ground := Go.Ground.phase }, { on := 19, ground := Go.Ground.phase }], guard := none }) (v := .pointer (some ⟨w.heap.size, 3, none⟩)) rfl (by kernel_rfl) (by kernel_rfl) (by kernel_rfl) (by kernel_rfl) (fun _ _ _ h => h) (Or.inl ⟨by rfl, ?_⟩) ?_
  · intro W9 _
    go_simp
  try simp only [Act.put, List.setIfInBounds_toArray, List.set_cons_zero, List.set_cons_succ]
  refine wpAnyL_one (i := 21) (o := { dst := none, op := Go.Op.store 27 (Go.Operand.tmp 22) (Go.Operand.tmp 17), type := 0, pos := "hand.go:35", after := #[{ on := 20, ground := Go.Ground.data }, { on := 12, ground := Go.Ground.data }, { on := 19, ground := Go.Ground.chain }, { on := 0, ground := Go.Ground.phase }, { on := 1, ground := Go.Ground.phase }, { on := 2, ground := Go.Ground.phase }, { on := 3, ground := Go.Ground.phase }, { on := 4, ground := Go.Ground.phase }, { on := 5, ground := Go.Ground.phase }, { on := 6, ground := Go.Ground.phase }, { on := 7, ground := Go.Ground.phase }, { on := 8, ground := Go.Ground.phase }, { on := 9, ground := Go.Ground.phase }, { on := 10, ground := Go.Ground.phase }, { on := 11, ground := Go.Ground.phase }, { on := 12, ground := Go.Ground.phase }, { on := 13, ground := Go.Ground.phase }, { on := 14, ground := Go.Ground.phase }, { on := 15, ground := Go.Ground.phase }, { on := 16, ground := Go.Ground.phase }, { on := 17, ground := Go.Ground.phase }, { on := 18, ground := Go.Ground.phase }, { on := 19, ground := Go.Ground.phase }], guard := none }) (by kernel_rfl) rfl (fun K hK => ?_)
  have cK : u3.cell? ⟨w.heap.size, 3, none⟩ = some (.slice x.ba x.bn x.bc) := hb3.cell 3
  have fK := hb3.frozen 3
  refine step_skip_g (by rfl) (w' := (u3.setCell ⟨w.heap.size, 3, none⟩ (.slice (some ⟨g3, 0, none⟩) x.bn x.bn))) (by go_simp) ?_
  have hb4 : Rows8 (u3.setCell ⟨w.heap.size, 3, none⟩ (.slice (some ⟨g3, 0, none⟩) x.bn x.bn)) w.heap.size 29 #[.slice (some ⟨g0, 0, none⟩) x.sn x.sn, .slice (some ⟨g1, 0, none⟩) x.pn x.pn, .slice (some ⟨g2, 0, none⟩) x.hn x.hn, .slice (some ⟨g3, 0, none⟩) x.bn x.bn] := by
    have h := hb3.set 3 (.slice (some ⟨g3, 0, none⟩) x.bn x.bn)
    simpa only [List.setIfInBounds_toArray, List.set_cons_zero, List.set_cons_succ] using h
  have R2 := Lib.hid (R2.out.setOther (a := ⟨w.heap.size, 3, none⟩) (by show w.heap.size ≠ w.heap.size + 1; omega) (.slice (some ⟨g3, 0, none⟩) x.bn x.bn))
  have O1 := Lib.hid (show OwnsP 56 w.heap.size m.sl _ _ from owns_setT O1.out (a := ⟨w.heap.size, 3, none⟩) hb3 (by decide) (.slice (some ⟨g3, 0, none⟩) x.bn x.bn))
  have O2 := Lib.hid (show OwnsBools w.heap.size m.pin _ _ from owns_setT O2.out (a := ⟨w.heap.size, 3, none⟩) hb3 (by decide) (.slice (some ⟨g3, 0, none⟩) x.bn x.bn))
  have O3 := Lib.hid (owns_setT O3.out (a := ⟨w.heap.size, 3, none⟩) hb3 (by decide) (.slice (some ⟨g3, 0, none⟩) x.bn x.bn))
  have O4 := Lib.hid (show OwnsW w.heap.size m.bad _ _ from owns_setT O4.out (a := ⟨w.heap.size, 3, none⟩) hb3 (by decide) (.slice (some ⟨g3, 0, none⟩) x.bn x.bn))
  have B0 := Lib.hid (B0.out.setCell (p := ⟨w.heap.size, 3, none⟩) (Nat.le_refl _) (.slice (some ⟨g3, 0, none⟩) x.bn x.bn))
  clear cK fK hb3
  refine hK.out _ _ (fun h => absurd h (by decide)) ?_
  clear hK K
  try simp only [Act.put, List.setIfInBounds_toArray, List.set_cons_zero, List.set_cons_succ]
  generalize (u3.setCell ⟨w.heap.size, 3, none⟩ (.slice (some ⟨g3, 0, none⟩) x.bn x.bn)) = u4 at *
  refine wpAnyL_end (by kernel_rfl) ?_
  have hA0 : Al w x m g0 g1 g2 g3 0 u4 := ⟨hb4, R2.out, O1.out, O2.out, O4.out, ⟨vs, O3.out, HES.out, fun i hi h => by omega, fun i j a b h => by omega⟩, B0.out⟩
  have HA0 := Lib.hid hA0
  have c2 : u4.cell? ⟨w.heap.size, 2, none⟩ = some (.slice (some ⟨g2, 0, none⟩) x.hn x.hn) := hb4.cell 2
  clear hA0 hb4 R2 O1 O2 O3 O4 HES B0 HM HC1 HC2 HC3 HC4
  go_wp2_with fail
  clear c2
  go_loopw [26] (fun i wr => ∃ k : Nat, k ≤ x.hn ∧ i = .int .i64 k ∧ Hid (Al w x m g0 g1 g2 g3 k wr)) (fun i _ => x.hn - (intOf i).toNat)
  case atStart => exact ⟨0, Nat.zero_le _, rfl, HA0⟩
  case round =>
    obtain ⟨k, hk, rfl, hA⟩ := hrel
    by_cases hlt : k < x.hn
    · have hkl : k < m.has.length := by rw [← HHL.out]; exact hlt
      have hki : ((k : Nat) : Int) < ((x.hn : Nat) : Int) := by omega
      have hki0 : (0 : Int) ≤ ((k : Nat) : Int) := by omega
      obtain ⟨vsk, hrow, hels, _, _⟩ := hA.out.h
      obtain ⟨ae, ce, hve, hpe⟩ := hels k hkl (Nat.le_refl _)
      obtain ⟨cur, hcur, hnl, hg2, hcell⟩ := own_rows hrow
      have hvl : vsk.length = m.has.length := by have := hrow.1; omega
      have hck : wr.cell? ⟨g2, k, none⟩ = some (.slice ae m.has[k].length ce) := by rw [hcell k (by omega)]; exact hve
      obtain ⟨ne, hne⟩ : ∃ n, n = m.has[k].length := ⟨_, rfl⟩
      rw [← hne] at hck hpe
      have HNE := Lib.hid hne
      have HC5 := fun (W : World) (hB : Below w.heap.size w W) => Lib.hid (Try.cpEntry_any ae ne ce m.has[k] W hne (HZ9.out _ (List.getElem_mem hkl)) (hpe.below hB))
      have HCUR := Lib.hid hcur
      have HKL := Lib.hid hkl
      clear hels hve hpe hrow hcell hvl hne hcur hnl
      go_wp2_with fail
      refine wp_region_L (fun W' => Rows8 W' w.heap.size 29 #[.slice (some ⟨g0, 0, none⟩) x.sn x.sn, .slice (some ⟨g1, 0, none⟩) x.pn x.pn, .slice (some ⟨g2, 0, none⟩) x.hn x.hn, .slice (some ⟨g3, 0, none⟩) x.bn x.bn]) 5 (by kernel_rfl) ?_
      have hS0 : Rows8 wr.drew w.heap.size 29 #[.slice (some ⟨g0, 0, none⟩) x.sn x.sn, .slice (some ⟨g1, 0, none⟩) x.pn x.pn, .slice (some ⟨g2, 0, none⟩) x.hn x.hn, .slice (some ⟨g3, 0, none⟩) x.bn x.bn] := hA.out.bx.drewA
      have HA : Hid (Al w x m g0 g1 g2 g3 k wr.drew) := Lib.hid hA.out.drew
      have HCUR : Hid (Rows8 wr.drew g2 62 cur) := HCUR
      have hck : wr.drew.cell? ⟨g2, k, none⟩ = _ := hck
      clear hA
      generalize wr.drew = Wd at *
      refine wpAnyL_take (i := 0) (oi := { dst := some 31, op := Go.Op.fieldAddr 29 (Go.Operand.tmp 1) 2, type := 0, pos := "hand.go:37", after := #[], guard := none }) (v := .pointer (some ⟨w.heap.size, 2, none⟩)) rfl (by kernel_rfl) (by kernel_rfl) (by kernel_rfl) (by kernel_rfl) (fun _ _ _ h => h) (Or.inl ⟨by rfl, ?_⟩) hS0 ?_
      · intro W9 hS9
        clear hS9
        go_simp
      try simp only [Act.put, List.setIfInBounds_toArray, List.set_cons_zero, List.set_cons_succ]
      refine wpAnyL_take (i := 1) (oi := { dst := some 32, op := Go.Op.load 26 (Go.Operand.tmp 31), type := 26, pos := "hand.go:37", after := #[{ on := 0, ground := Go.Ground.data }], guard := none }) (v := .slice (some ⟨g2, 0, none⟩) x.hn x.hn) rfl (by kernel_rfl) (by kernel_rfl) (by kernel_rfl) (by kernel_rfl) (fun _ _ _ h => h) (Or.inl ⟨by rfl, ?_⟩) hS0 ?_
      · intro W9 hS9
        have s0 : W9.cell? ⟨w.heap.size, 2, none⟩ = some (.slice (some ⟨g2, 0, none⟩) x.hn x.hn) := hS9.cell 2
        clear hS9
        go_simp
      try simp only [Act.put, List.setIfInBounds_toArray, List.set_cons_zero, List.set_cons_succ]
      refine wpAnyL_take (i := 2) (oi := { dst := some 33, op := Go.Op.move (Go.Operand.tmp 3), type := 3, pos := "hand.go:37", after := #[], guard := none }) (v := .int .i64 (k : Nat)) rfl (by kernel_rfl) (by kernel_rfl) (by kernel_rfl) (by kernel_rfl) (fun _ _ _ h => h) (Or.inl ⟨by rfl, ?_⟩) hS0 ?_
      · intro W9 hS9
        clear hS9
        go_simp
      try simp only [Act.put, List.setIfInBounds_toArray, List.set_cons_zero, List.set_cons_succ]
      refine wpAnyL_take (i := 3) (oi := { dst := some 34, op := Go.Op.move (Go.Operand.tmp 4), type := 62, pos := "hand.go:37", after := #[], guard := none }) (v := .slice ae ne ce) rfl (by kernel_rfl) (by kernel_rfl) (by kernel_rfl) (by kernel_rfl) (fun _ _ _ h => h) (Or.inl ⟨by rfl, ?_⟩) hS0 ?_
      · intro W9 hS9
        clear hS9
        go_simp
      try simp only [Act.put, List.setIfInBounds_toArray, List.set_cons_zero, List.set_cons_succ]
      refine wpAnyL_one (i := 4) (o := { dst := some 35, op := Go.Op.call { callee := Go.Callee.value (Go.Operand.func 84), args := #[Go.Operand.tmp 34], argTypes := #[62] }, type := 62, pos := "hand.go:37", after := #[{ on := 3, ground := Go.Ground.data }], guard := none }) (by kernel_rfl) rfl (fun K hK => ?_)
      refine step_call_g (by rfl) 84 _ _ rfl (fun _ _ => by kernel_rfl) #[.slice ae ne ce] (by simp [go_sem]) _ (HC5 Wd HA.out.bl).out ?_
      rintro e v1 ⟨q, rfl, ho, hC⟩
      refine ⟨_, rfl, ?_⟩
      have hS1 : Rows8 v1 w.heap.size 29 #[.slice (some ⟨g0, 0, none⟩) x.sn x.sn, .slice (some ⟨g1, 0, none⟩) x.pn x.pn, .slice (some ⟨g2, 0, none⟩) x.hn x.hn, .slice (some ⟨g3, 0, none⟩) x.bn x.bn] := hS0.below hC hS0.lt
      have HO := Lib.hid ho
      have hCC := hC
      clear hC ho
      refine hK.out _ _ (fun _ => hS1) ?_
      clear hK K
      try simp only [Act.put, List.setIfInBounds_toArray, List.set_cons_zero, List.set_cons_succ]
      refine wpAnyL_takeP (i := 5) (oi := { dst := some 36, op := Go.Op.indexAddr 26 (Go.Operand.tmp 32) (Go.Operand.tmp 33), type := 0, pos := "hand.go:37", after := #[{ on := 1, ground := Go.Ground.data }, { on := 2, ground := Go.Ground.data }, { on := 0, ground := Go.Ground.phase }, { on := 1, ground := Go.Ground.phase }, { on := 2, ground := Go.Ground.phase }, { on := 3, ground := Go.Ground.phase }, { on := 4, ground := Go.Ground.phase }], guard := none }) (v := .pointer (some ⟨g2, k, none⟩)) rfl (by kernel_rfl) (by kernel_rfl) (by kernel_rfl) (by kernel_rfl) (fun _ _ _ h => h) (Or.inl ⟨by rfl, ?_⟩) ?_
      · intro W9 _
        go_simp
      try simp only [Act.put, List.setIfInBounds_toArray, List.set_cons_zero, List.set_cons_succ]
      refine wpAnyL_one (i := 6) (o := { dst := none, op := Go.Op.store 62 (Go.Operand.tmp 36) (Go.Operand.tmp 35), type := 0, pos := "hand.go:37", after := #[{ on := 5, ground := Go.Ground.data }, { on := 4, ground := Go.Ground.data }, { on := 4, ground := Go.Ground.chain }, { on := 0, ground := Go.Ground.phase }, { on := 1, ground := Go.Ground.phase }, { on := 2, ground := Go.Ground.phase }, { on := 3, ground := Go.Ground.phase }, { on := 4, ground := Go.Ground.phase }], guard := none }) (by kernel_rfl) rfl (fun K hK => ?_)
      have cK : v1.cell? ⟨g2, k, none⟩ = some (.slice ae ne ce) := (hCC.cell (p := ⟨g2, k, none⟩) HCUR.out.lt).trans hck
      have fK := (HCUR.out.below hCC HCUR.out.lt).frozen k
      have hA2 := Lib.hid (HA.out.next hCC HKL.out q ne ne HO.out)
      refine step_skip_g (by rfl) (w' := v1.setCell ⟨g2, k, none⟩ (.slice (some ⟨q, 0, none⟩) ne ne)) (by go_simp) ?_
      refine hK.out _ _ (fun h => absurd h (by decide)) ?_
      clear hK K
      try simp only [Act.put, List.setIfInBounds_toArray, List.set_cons_zero, List.set_cons_succ]
      refine wpAnyL_end (by kernel_rfl) ?_
      go_wp2_with fail
      go_roundw
      case rel => exact ⟨k + 1, by omega, by go_num, hA2⟩
      case measure => simp [intOf]; omega
    · obtain rfl : k = x.hn := by omega
      have hki : ¬ ((x.hn : Nat) : Int) < ((x.hn : Nat) : Int) := by omega
      have hAx := hA.out
      have c0 : wr.cell? ⟨w.heap.size, 0, none⟩ = some (.slice (some ⟨g0, 0, none⟩) x.sn x.sn) := hAx.bx.cell 0
      have c1 : wr.cell? ⟨w.heap.size, 1, none⟩ = some (.slice (some ⟨g1, 0, none⟩) x.pn x.pn) := hAx.bx.cell 1
      have c2 : wr.cell? ⟨w.heap.size, 2, none⟩ = some (.slice (some ⟨g2, 0, none⟩) x.hn x.hn) := hAx.bx.cell 2
      have c3 : wr.cell? ⟨w.heap.size, 3, none⟩ = some (.slice (some ⟨g3, 0, none⟩) x.bn x.bn) := hAx.bx.cell 3
      have d0 : wr.cell? ⟨w.heap.size + 1, 0, none⟩ = some (.slice none 0 0) := hAx.rs.cell 0
      have d1 : wr.cell? ⟨w.heap.size + 1, 1, none⟩ = some (.slice none 0 0) := hAx.rs.cell 1
      have d2 : wr.cell? ⟨w.heap.size + 1, 2, none⟩ = some (.slice none 0 0) := hAx.rs.cell 2
      have d3 : wr.cell? ⟨w.heap.size + 1, 3, none⟩ = some (.slice none 0 0) := hAx.rs.cell 3
      have f0 := hAx.rs.frozen 0
      have f1 := hAx.rs.frozen 1
      have f2 := hAx.rs.frozen 2
      have f3 := hAx.rs.frozen 3
      have hl2 := hAx.rs.lt
      have hA9 := hA.out
      rw [HHL.out] at hA9
      obtain ⟨vs9, o0⟩ := hA9.own
      have q0 := hAx.rs
      have b0 := hAx.bl
      have o1 := o0.set q0 (by decide) (by decide) (by decide) (by decide) (by decide) 0 (.slice (some ⟨g0, 0, none⟩) x.sn x.sn)
      have b1 := b0.setCell (p := ⟨w.heap.size + 1, 0, none⟩) (by show w.heap.size ≤ w.heap.size + 1; omega) (.slice (some ⟨g0, 0, none⟩) x.sn x.sn)
      have q1 := q0.set 0 (.slice (some ⟨g0, 0, none⟩) x.sn x.sn)
      simp only [List.setIfInBounds_toArray, List.set_cons_zero, List.set_cons_succ] at q1
      have o2 := o1.set q1 (by decide) (by decide) (by decide) (by decide) (by decide) 1 (.slice (some ⟨g1, 0, none⟩) x.pn x.pn)
      have b2 := b1.setCell (p := ⟨w.heap.size + 1, 1, none⟩) (by show w.heap.size ≤ w.heap.size + 1; omega) (.slice (some ⟨g1, 0, none⟩) x.pn x.pn)
      have q2 := q1.set 1 (.slice (some ⟨g1, 0, none⟩) x.pn x.pn)
      simp only [List.setIfInBounds_toArray, List.set_cons_zero, List.set_cons_succ] at q2
      have o3 := o2.set q2 (by decide) (by decide) (by decide) (by decide) (by decide) 2 (.slice (some ⟨g2, 0, none⟩) x.hn x.hn)
      have b3 := b2.setCell (p := ⟨w.heap.size + 1, 2, none⟩) (by show w.heap.size ≤ w.heap.size + 1; omega) (.slice (some ⟨g2, 0, none⟩) x.hn x.hn)
      have q3 := q2.set 2 (.slice (some ⟨g2, 0, none⟩) x.hn x.hn)
      simp only [List.setIfInBounds_toArray, List.set_cons_zero, List.set_cons_succ] at q3
      have o4 := o3.set q3 (by decide) (by decide) (by decide) (by decide) (by decide) 3 (.slice (some ⟨g3, 0, none⟩) x.bn x.bn)
      have b4 := b3.setCell (p := ⟨w.heap.size + 1, 3, none⟩) (by show w.heap.size ≤ w.heap.size + 1; omega) (.slice (some ⟨g3, 0, none⟩) x.bn x.bn)
      have q4 := q3.set 3 (.slice (some ⟨g3, 0, none⟩) x.bn x.bn)
      simp only [List.setIfInBounds_toArray, List.set_cons_zero, List.set_cons_succ] at q4
      have Q4 := Lib.hid q4
      have O4 := Lib.hid o4
      have BB4 := Lib.hid b4
      clear hAx o0 o1 o2 o3 o4 b0 b1 b2 b3 b4 q0 q1 q2 q3 q4 hA9
      go_wp2_with fail
      refine bodyPost_ret (results_c rfl _ _ (w.heap.size + 1) 29 _ (0, 0) _ rfl Q4.out Try.underlying29 rfl (by kernel_rfl)) rfl ?_
      exact ⟨g0, g1, g2, g3, rfl, ⟨vs9, O4.out⟩, BB4.out⟩
end Go.Proofs
