/- Arena: what ArenaOnce keeps: no entry is taken twice. -/
import Derived.Test.YtmcancccihffhaaBc
namespace Go.Proofs
set_option maxRecDepth 100000
open Go.RowKit Go.Shelf Go.Deep Go.Maps Go.ChangeShapes Go.WideShapes
attribute [local go_sem] Oper.semAt_some

theorem entF_get (t : Int) : ∀ (l : List Pr) (o : Nat) (e : Pr), e ∈ entF o l t → ∃ (j : Nat) (hj : j < l.length), e.1 = ((o + j : Nat) : Int) ∧ l[j] = (t, e.2)
  | [], _, _, h => by cases h
  | s :: l, o, e, h => by
    rw [entF] at h
    split at h
    · rename_i hs
      rcases List.mem_cons.1 h with rfl | h
      · exact ⟨0, Nat.zero_lt_succ _, rfl, by rw [List.getElem_cons_zero]; exact Prod.ext hs rfl⟩
      · obtain ⟨j, hj, h1, h2⟩ := entF_get t l (o + 1) e h
        exact ⟨j + 1, Nat.succ_lt_succ hj, by rw [h1]; congr 1; omega, by rw [List.getElem_cons_succ]; exact h2⟩
    · obtain ⟨j, hj, h1, h2⟩ := entF_get t l (o + 1) e h
      exact ⟨j + 1, Nat.succ_lt_succ hj, by rw [h1]; congr 1; omega, by rw [List.getElem_cons_succ]; exact h2⟩
theorem ents_get {l : List Pr} {t : Int} {e : Pr} (h : e ∈ ents l t) : ∃ (j : Nat) (hj : j < l.length), e.1 = (j : Int) ∧ l[j] = (t, e.2) := by
  obtain ⟨j, hj, h1, h2⟩ := entF_get t l 0 e h
  exact ⟨j, hj, by rw [h1]; congr 1; omega, h2⟩
/-- Of what was taken, and what was given back. -/
structure OnI (l tk gv : List Pr) : Prop where
  rt : rightA l = true
  tk : ∀ p ∈ tk, ∃ j : Nat, p.1 = (j : Int) ∧ ∃ h : j < l.length, p.2 < l[j].2 ∨ (p.2 = l[j].2 ∧ l[j].1 ≠ 0)
  gv : ∀ p ∈ gv, ∃ j : Nat, p.1 = (j : Int) ∧ ∃ h : j < l.length, p.2 < l[j].2
theorem right_gen {l : List Pr} (h : rightA l = true) {j : Nat} (hj : j < l.length) : l[j].2 ≤ 1099511627775 ∧ j < 128 := by
  obtain ⟨⟨_, h1⟩, h2⟩ := rightA_iff.1 h
  exact ⟨(okS_iff.1 (h2 _ (List.getElem_mem hj))).2.2, by omega⟩
theorem wf_at {l : List Pr} (h : rightA l = true) {j : Nat} (hj : j < l.length) {e : Pr} (h1 : e.1 = (j : Int)) (h2 : e.2 ≤ 1099511627775) : wfE e := by
  have := (right_gen h hj).2
  unfold wfE
  omega
theorem OnI.set {l tk gv : List Pr} (h : OnI l tk gv) (i : Nat) (hi : i < l.length) (x : Pr) (hr : rightA (l.set i x) = true) (hx : l[i].2 < x.2 ∨ (l[i].2 = x.2 ∧ (l[i].1 ≠ 0 → x.1 ≠ 0))) : OnI (l.set i x) tk gv := by
  refine ⟨hr, fun p hp => ?_, fun p hp => ?_⟩
  · obtain ⟨j, e, hj, hc⟩ := h.tk p hp
    refine ⟨j, e, by rw [List.length_set]; exact hj, ?_⟩
    rw [List.getElem_set]
    by_cases hij : i = j
    · subst hij
      rw [if_pos rfl]
      rcases hx with hx | ⟨hx, hx2⟩
      · left; rcases hc with hc | hc <;> omega
      · rcases hc with hc | ⟨hc, hc2⟩
        · left; omega
        · right; exact ⟨by omega, hx2 hc2⟩
    · rw [if_neg hij]; exact hc
  · obtain ⟨j, e, hj, hc⟩ := h.gv p hp
    refine ⟨j, e, by rw [List.length_set]; exact hj, ?_⟩
    rw [List.getElem_set]
    by_cases hij : i = j
    · subst hij
      rw [if_pos rfl]
      rcases hx with hx | ⟨hx, hx2⟩ <;> omega
    · rw [if_neg hij]; exact hc
theorem OnI.take {l tk gv : List Pr} (h : OnI l tk gv) (hc : 0 < cnt l 0) : ∃ e : Pr, takT l 1 = (0, takeL l 1, [e]) ∧ OnI (takeL l 1) (tk ++ [e]) gv ∧ tk.count e = 0 ∧ gv.count e = 0 ∧ wfE e := by
  obtain ⟨i, hi, r, h1, _, h3, h4⟩ := take_next_free (k := 0) hc
  rw [takeL_zero] at h4
  have h5 : l[i] = (0, l[i].2) := by
    have h9 := h3
    simp only [takeL_zero] at h9
    exact h9
  have hz : l[i].1 = 0 := congrArg Prod.fst h5
  have hg := right_gen h.rt hi
  have hR : rightA (takeL l 1) = true := takeL_right h.rt 1
  refine ⟨((i : Int), l[i].2), ?_, ?_, ?_, ?_, wf_at h.rt hi rfl hg.1⟩
  · have hT : takeR l 1 = (0, takeL l 1, (ents l 0).take 1) := by
      unfold takeR
      rw [if_neg (by decide), if_pos (by show (1 : Int).toNat ≤ _; exact hc)]
      rfl
    have hE : (ents l 0).take 1 = [((i : Int), l[i].2)] := by
      cases he : ents l 0 with
      | nil => rw [he] at h1; cases h1
      | cons z t => rw [he] at h1; simp at h1; rw [h1]; rfl
    unfold takT triR
    rw [hT, h.rt, if_pos rfl, if_pos rfl, hE]
  · rw [h4]
    rw [h4] at hR
    have h6 := h.set i hi (1, l[i].2) hR (.inr ⟨rfl, fun _ => (show (1 : Int) ≠ 0 by decide)⟩)
    refine ⟨hR, fun p hp => ?_, h6.gv⟩
    rcases List.mem_append.1 hp with hp | hp
    · exact h6.tk p hp
    · obtain rfl := List.mem_singleton.1 hp
      refine ⟨i, rfl, by rw [List.length_set]; exact hi, .inr ?_⟩
      rw [List.getElem_set_self]
      exact ⟨rfl, (show (1 : Int) ≠ 0 by decide)⟩
  · refine List.count_eq_zero_of_not_mem fun hm => ?_
    obtain ⟨j, e, hj, hq⟩ := h.tk _ hm
    have e2 : i = j := by have e3 : (i : Int) = (j : Int) := e; omega
    subst e2
    rcases hq with hq | ⟨_, hq⟩
    · exact Nat.lt_irrefl _ hq
    · exact hq hz
  · refine List.count_eq_zero_of_not_mem fun hm => ?_
    obtain ⟨j, e, hj, hq⟩ := h.gv _ hm
    have e2 : i = j := by have e3 : (i : Int) = (j : Int) := e; omega
    subst e2
    exact Nat.lt_irrefl _ hq
theorem OnI.full {l tk gv : List Pr} (h : OnI l tk gv) (hc : cnt l 0 = 0) : takT l 1 = (6, [], []) := by
  have hT : takeR l 1 = (6, l, []) := by
    unfold takeR
    rw [if_neg (by decide), if_neg (by rw [hc]; decide)]
  unfold takT triR
  rw [hT, h.rt, if_pos rfl, if_neg (show ¬ (6 : Int) = 0 by decide)]
theorem OnI.ret {l tk gv : List Pr} (h : OnI l tk gv) {e : Pr} (he : e ∈ ents l 1) : retT l [e] = (0, retS l e, []) ∧ OnI (retS l e) tk gv := by
  obtain ⟨j, hj, h1, h2⟩ := ents_get he
  obtain ⟨h3, h4⟩ := ret_hE l e j hj h1 h2 trivial
  have h5 : l[j].2 = e.2 := by rw [h2]
  have hR : rightA (retS l e) = true := by
    have h9 := rightA_iff.1 h.rt
    exact rightA_iff.2 ⟨by unfold retS; rw [List.length_set]; exact h9.1, retS_ok h9.2 h3⟩
  refine ⟨?_, ?_⟩
  · unfold retT triR retR eachR eachR
    rw [h.rt, if_pos rfl]
    simp only [if_pos h3]
    rfl
  · rw [h4] at hR ⊢
    exact h.set j hj _ hR (.inr ⟨h5, fun _ => (show (2 : Int) ≠ 0 by decide)⟩)
theorem OnI.giv {l tk gv : List Pr} (h : OnI l tk gv) {t : Int} (ht : t ≠ 0) {e : Pr} (he : e ∈ ents l t) : (e.2 = 1099511627775 ∧ givT l [e] = (6, [], [])) ∨ (givT l [e] = (0, givS l e, []) ∧ OnI (givS l e) tk (gv ++ [e]) ∧ gv.count e = 0 ∧ wfE e) := by
  obtain ⟨j, hj, h1, h2⟩ := ents_get he
  have h5 : l[j].2 = e.2 := by rw [h2]
  have hg := (right_gen h.rt hj).1
  by_cases hM : e.2 = 1099511627775
  · refine .inl ⟨hM, ?_⟩
    have h6 : givE l e = 6 := by
      unfold givE
      rw [(tagA_at h1 hj h5).2, h2, if_neg ht, if_pos hM]
    unfold givT triR givR eachR
    rw [h.rt, if_pos rfl]
    simp only [h6]
    rfl
  · obtain ⟨h3, h4⟩ := giv_hE ht l e j hj h1 h2 hM
    have hR : rightA (givS l e) = true := by
      have h9 := rightA_iff.1 h.rt
      exact rightA_iff.2 ⟨by unfold givS; rw [List.length_set]; exact h9.1, (givS_ok h9.2 h3).1⟩
    refine .inr ⟨?_, ?_, ?_, wf_at h.rt hj h1 (by omega)⟩
    · unfold givT triR givR eachR eachR
      rw [h.rt, if_pos rfl]
      simp only [if_pos h3]
      rfl
    · rw [h4] at hR ⊢
      have h6 := h.set j hj (0, e.2 + 1) hR (.inl (by show l[j].2 < e.2 + 1; omega))
      refine ⟨hR, h6.tk, fun p hp => ?_⟩
      rcases List.mem_append.1 hp with hp | hp
      · exact h6.gv p hp
      · obtain rfl := List.mem_singleton.1 hp
        refine ⟨j, h1, by rw [List.length_set]; exact hj, ?_⟩
        rw [List.getElem_set_self]
        exact Nat.lt_succ_self _
    · refine List.count_eq_zero_of_not_mem fun hm => ?_
      obtain ⟨i, e4, hi, hq⟩ := h.gv _ hm
      have e2 : i = j := by rw [h1] at e4; omega
      subst e2
      omega
theorem OnI.none {l tk gv : List Pr} (h : OnI l tk gv) {p : Pr} (hp : p ∈ gv) : tagB l p = false := by
  cases hb : tagB l p with
  | false => rfl
  | true =>
    obtain ⟨j, e1, hj, h2⟩ := tagB_iff.1 hb
    obtain ⟨i, e4, hi, hq⟩ := h.gv p hp
    have e2 : i = j := by rw [e1] at e4; omega
    subst e2
    omega
theorem OnI.nil {l : List Pr} (h : rightA l = true) : OnI l [] [] := ⟨h, fun p hp => absurd hp List.not_mem_nil, fun p hp => absurd hp List.not_mem_nil⟩
/-- Rows of numbers stand where a block that holds no numbers is written. -/
theorem row_off {W W' : World} {v : Value} {n k : Nat} {cs : List Value} (h : RowAt W v n k cs) (hi : ∀ (j : Nat) (x : Value), cs[j]? = some x → ∃ (q : IntKind) (z : Int), x = Value.int q z) {B : Nat} (hB : ∀ (o : Nat) (q : IntKind) (z : Int), W.cell? ⟨B, o, Option.none⟩ ≠ some (Value.int q z)) (hs : W.heap.size ≤ W'.heap.size) (hk : ∀ b, b < W.heap.size → b ≠ B → W'.heap[b]? = W.heap[b]?) : RowAt W' v n k cs := by
  obtain ⟨h0, a, cap, ea, h1, h2, h3, hc⟩ := h
  refine ⟨h0, a, cap, ea, h1, h2, h3, fun j hj => ?_⟩
  obtain ⟨b, off, eb, hb, hcell⟩ := hc j hj
  have hne : b ≠ B := fun e1 => by
    subst e1
    obtain ⟨x, hx⟩ : ∃ x, cs[j]? = some x := ⟨cs[j], List.getElem?_eq_getElem hj⟩
    obtain ⟨q, z, rfl⟩ := hi j x hx
    exact hB _ q z (hcell.trans hx)
  refine ⟨b, off, eb, Nat.lt_of_lt_of_le hb hs, ?_⟩
  rw [← hcell]
  simp only [World.cell?, hk b hb hne]
theorem pVals_int (l : List Pr) : ∀ (j : Nat) (x : Value), (pVals l)[j]? = some x → ∃ (q : IntKind) (z : Int), x = Value.int q z := fun j x hx => by
  have hm := List.mem_of_getElem? hx
  unfold pVals at hm
  obtain ⟨p, _, hp⟩ := List.mem_flatMap.1 hm
  simp [pCells] at hp
  rcases hp with rfl | rfl <;> exact ⟨_, _, rfl⟩
/-- A row of moves: of each two numbers. -/
def MovAt (W : World) (a : Option Addr) (n c : Nat) : Prop := n ≤ c ∧ c ≤ maxLen ∧ ∀ k, k < n → ∃ b off y z, a = some ⟨b, off, Option.none⟩ ∧ b < W.heap.size ∧ W.cell? ⟨b, off + k * 2, Option.none⟩ = some (.int .i64 y) ∧ W.cell? ⟨b, off + k * 2 + 1, Option.none⟩ = some (.int .i64 z)
theorem MovAt.off {W W' : World} {a : Option Addr} {n c : Nat} (h : MovAt W a n c) {B : Nat} (hB : ∀ (o : Nat) (q : IntKind) (z : Int), W.cell? ⟨B, o, Option.none⟩ ≠ some (Value.int q z)) (hs : W.heap.size ≤ W'.heap.size) (hk : ∀ b, b < W.heap.size → b ≠ B → W'.heap[b]? = W.heap[b]?) : MovAt W' a n c := by
  refine ⟨h.1, h.2.1, fun k hkn => ?_⟩
  obtain ⟨b, off, y, z, e, hb, h1, h2⟩ := h.2.2 k hkn
  have hne : b ≠ B := fun e1 => by subst e1; exact hB _ _ _ h1
  exact ⟨b, off, y, z, e, Nat.lt_of_lt_of_le hb hs, by rw [← h1]; simp only [World.cell?, hk b hb hne], by rw [← h2]; simp only [World.cell?, hk b hb hne]⟩
theorem MovAt.below {W W' : World} {a : Option Addr} {n c : Nat} (h : MovAt W a n c) (hB : Below W.heap.size W W') : MovAt W' a n c := by
  refine ⟨h.1, h.2.1, fun k hkn => ?_⟩
  obtain ⟨b, off, y, z, e, hb, h1, h2⟩ := h.2.2 k hkn
  exact ⟨b, off, y, z, e, Nat.lt_of_lt_of_le hb hB.size, (hB.cell (p := ⟨b, _, Option.none⟩) hb).trans h1, (hB.cell (p := ⟨b, _, Option.none⟩) hb).trans h2⟩
theorem MovAt.drew {W : World} {a : Option Addr} {n c : Nat} (h : MovAt W a n c) : MovAt W.drew a n c := h
theorem cellsMv : Try.prog.cellsOf 34 = 2 := by kernel_rfl
theorem open_moves {H : Type} {enc : TypeId × Value → H} {W : World} {base : Nat} {sp : Nat → Bool} {held : Bool} {fuel : Nat} {a : Option Addr} {len cap : Nat} {x : DataW H × List MemPlace}
    (h : DataW.trod enc Try.prog W base sp held fuel 25 [.slice a len cap] = some x) : MovAt W a len cap := by
  rcases open_slice_pairs Try.underlying25 Try.underlying34 cellsMv rfl rfl cellsI cellsI h with ⟨hcs, _⟩ | ⟨ad, len', cap', m, n, V0, V1, D0, D1, P0, P1, hcs, hb, hl, hm, hmm, _, hx⟩
  · simp at hcs
    obtain ⟨rfl, rfl, rfl⟩ := hcs
    exact ⟨Nat.le_refl _, Nat.zero_le _, fun k hk => absurd hk (Nat.not_lt_zero _)⟩
  · simp at hcs
    obtain ⟨rfl, rfl, rfl⟩ := hcs
    refine ⟨hl, hm, fun k hk => ?_⟩
    obtain ⟨h1, h2, h3, h4⟩ := hx k (by rw [hmm]; split <;> omega)
    obtain ⟨z, e2, _⟩ := DataW.trod_int Try.underlying3 h3
    obtain ⟨y, e3, _⟩ := DataW.trod_int Try.underlying3 h4
    simp at e2 e3
    rw [e2] at h1
    rw [e3] at h2
    obtain ⟨b, off, spot⟩ := ad
    have hspot : spot = Option.none := by
      obtain ⟨g1, _, g3, _⟩ := hx 0 (by rw [hmm]; split <;> omega)
      obtain ⟨z0, e0, _⟩ := DataW.trod_int Try.underlying3 g3
      simp at e0
      rw [e0] at g1
      have := World.cell?_spot g1
      simpa [Addr.add] using this
    subst hspot
    rw [add_plain] at h1 h2
    have hb' : b < W.heap.size := by
      rcases Nat.lt_or_ge b W.heap.size with hq | hq
      · exact hq
      · simp [World.cell?, Array.getElem?_eq_none hq] at h1
    exact ⟨b, off, z, y, rfl, hb', h1, by rw [Nat.add_assoc]; exact h2⟩
/-- What stands while the moves are gone through. -/
structure OnW (w : World) (b5 : Nat) (a : Option Addr) (n c : Nat) (l : List Pr) (bt bg nt ng : Nat) (tk gv : List Pr) (am : Option Addr) (nm cm : Nat) (W : World) : Prop where
  bx : Rows8 W b5 24 #[.slice a n c]
  at_ : PAt W (.slice a n c) l
  mt : CntE W bt nt tk
  mg : CntE W bg ng gv
  mv : MovAt W am nm cm
  bl : Below w.heap.size w W
  i : OnI l tk gv
  d1 : bt ≠ bg
  l5 : w.heap.size ≤ b5
  lt : w.heap.size ≤ bt
  lg : w.heap.size ≤ bg
theorem OnW.below {w : World} {b5 : Nat} {a : Option Addr} {n c : Nat} {l : List Pr} {bt bg nt ng : Nat} {tk gv : List Pr} {am : Option Addr} {nm cm : Nat} {W W' : World} (h : OnW w b5 a n c l bt bg nt ng tk gv am nm cm W) (hB : Below W.heap.size W W') : OnW w b5 a n c l bt bg nt ng tk gv am nm cm W' :=
  ⟨h.bx.below hB h.bx.lt, RowAt.below h.at_ hB, h.mt.below hB, h.mg.below hB, h.mv.below hB, h.bl.trans (hB.mono h.bl.size), h.i, h.d1, h.l5, h.lt, h.lg⟩
theorem Rows8.notInt {W : World} {B : Nat} {t : TypeId} {a : Option Addr} {n c : Nat} (h : Rows8 W B t #[.slice a n c]) (o : Nat) (q : IntKind) (z : Int) : W.cell? ⟨B, o, Option.none⟩ ≠ some (.int q z) := by
  rw [Rows8.cell h o]
  match o with
  | 0 => simp
  | o + 1 => simp
theorem CntE.notInt {W : World} {B n : Nat} {ps : List Pr} (h : CntE W B n ps) (o : Nat) (q : IntKind) (z : Int) : W.cell? ⟨B, o, Option.none⟩ ≠ some (.int q z) := by
  obtain ⟨D, ⟨es, clock, hb, _⟩, _⟩ := h
  simp [World.cell?, hb]
theorem CntE.ne {W : World} {B b n : Nat} {t : TypeId} {cs : Array Value} {ps : List Pr} (h : CntE W b n ps) (hR : Rows8 W B t cs) : b ≠ B := fun e => by
  obtain ⟨D, ⟨es, clock, hb, _⟩, _⟩ := h
  subst e
  have hR' : W.heap[b]? = _ := hR
  rw [hb] at hR'
  cases hR'
theorem grown_setCell (W : World) (B o : Nat) (x : Value) : W.grownBy (W.setCell ⟨B, o, Option.none⟩ x) (some B) :=
  ⟨rfl, rfl, rfl, by simp [World.setCell], fun k _ hk => Below.heap_setCell W ⟨B, o, Option.none⟩ x k (fun e => hk (by rw [e]))⟩
/-- The arena is another one. -/
theorem OnW.arena {w : World} {b5 : Nat} {a : Option Addr} {n c : Nat} {l : List Pr} {bt bg nt ng : Nat} {tk gv : List Pr} {am : Option Addr} {nm cm : Nat} {W : World} (h : OnW w b5 a n c l bt bg nt ng tk gv am nm cm W) {a2 : Option Addr} {n2 c2 : Nat} {l2 : List Pr} (h2 : PAt W (.slice a2 n2 c2) l2) (hi : OnI l2 tk gv) : OnW w b5 a2 n2 c2 l2 bt bg nt ng tk gv am nm cm (W.setCell ⟨b5, 0, Option.none⟩ (.slice a2 n2 c2)) := by
  have hk : ∀ b, b < W.heap.size → b ≠ b5 → (W.setCell ⟨b5, 0, Option.none⟩ (.slice a2 n2 c2)).heap[b]? = W.heap[b]? := fun b _ hb => Below.heap_setCell W ⟨b5, 0, Option.none⟩ _ b hb
  have hs : W.heap.size ≤ (W.setCell ⟨b5, 0, Option.none⟩ (.slice a2 n2 c2)).heap.size := by simp [World.setCell]
  exact ⟨h.bx.set 0 _, row_off h2 (pVals_int _) h.bx.notInt hs hk, h.mt.kept (grown_setCell _ _ _ _) (fun e => h.mt.ne h.bx (by injection e)), h.mg.kept (grown_setCell _ _ _ _) (fun e => h.mg.ne h.bx (by injection e)), h.mv.off h.bx.notInt hs hk, h.bl.setCell (p := ⟨b5, 0, Option.none⟩) h.l5 _, hi, h.d1, h.l5, h.lt, h.lg⟩
theorem Below.ofGrown {B : Nat} {A W V : World} (p : Below B A W) {b : Nat} (hg : W.grownBy V (some b)) (hb : B ≤ b) (hs : B ≤ W.heap.size) : Below B A V :=
  p.grown hg hs (fun j e => by injection e with e; omega)
theorem wrap_small {q : Int} (h0 : 0 ≤ q) (h1 : q < 1000000) : wrap64 q = q := by
  unfold wrap64
  omega
theorem u64_pos (y : Int) : 0 ≤ IntKind.u64.wrap y := by rw [IntKind.wrap_u64]; omega
theorem kind_four (y : Int) : ∃ kd : Nat, kd < 4 ∧ wrap64 ((IntKind.u64.wrap y).tmod 4) = (kd : Int) := by
  have h0 := u64_pos y
  refine ⟨((IntKind.u64.wrap y) % 4).toNat, by omega, ?_⟩
  rw [Int.tmod_eq_emod_of_nonneg h0, wrap_small (by omega) (by omega)]
  omega
theorem who_in (z : Int) {m : Nat} (h : 0 < m) (hm : m ≤ 1000) : ∃ q : Nat, q < m ∧ wrap64 ((IntKind.u64.wrap z).tmod (m : Int)) = (q : Int) := by
  have h0 := u64_pos z
  have h1 := Int.emod_lt_of_pos (IntKind.u64.wrap z) (show (0 : Int) < (m : Int) by omega)
  have h2 := Int.emod_nonneg (IntKind.u64.wrap z) (show (m : Int) ≠ 0 by omega)
  refine ⟨((IntKind.u64.wrap z) % (m : Int)).toNat, by omega, ?_⟩
  rw [Int.tmod_eq_emod_of_nonneg h0, wrap_small h2 (by omega)]
  omega
theorem OnI.left {l tk gv : List Pr} {e : Pr} (h : OnI l (tk ++ [e]) gv) : OnI l tk gv := ⟨h.rt, fun p hp => h.tk p (List.mem_append_left _ hp), h.gv⟩
theorem OnI.leftG {l tk gv : List Pr} {e : Pr} (h : OnI l tk (gv ++ [e])) : OnI l tk gv := ⟨h.rt, h.tk, fun p hp => h.gv p (List.mem_append_left _ hp)⟩
theorem Try.cntE_upd {W : World} {b n : Nat} {ps : List Pr} (h : CntE W b n ps) (hn : n < 100000) (p : Pr) (hp : wfE p) (h0 : ps.count p = 0) : ∃ W', (Instr.mapUpdate 32 (.map (some b)) (.agg #[.int .i64 p.1, .int .u64 (p.2 : Nat)]) (.int .i64 1)).run Try.prog W = .ok () W' ∧ CntE W' b (n + 1) (ps ++ [p]) ∧ W.grownBy W' (some b) := by
  obtain ⟨D, h1, h2⟩ := h
  obtain ⟨w', hrun, ho, hg⟩ := h1.update Try.keyedE Try.underlying32 (by unfold maxLen; omega) (Try.keyE hp) (plainElem_int Try.underlying3 (wf_i64 (z := 1) (by decide)))
  have h3 := cntD_snoc h2 p hp
  rw [h0] at h3
  exact ⟨w', hrun, ⟨_, ho, h3⟩, hg⟩
/-- One more is taken. -/
theorem OnW.mapT {w : World} {b5 : Nat} {a : Option Addr} {n c : Nat} {l : List Pr} {bt bg nt ng : Nat} {tk gv : List Pr} {am : Option Addr} {nm cm : Nat} {W W' : World} (h : OnW w b5 a n c l bt bg nt ng tk gv am nm cm W) {nt' : Nat} {tk' : List Pr} (hg : W.grownBy W' (some bt)) (hm : CntE W' bt nt' tk') (hi : OnI l tk' gv) : OnW w b5 a n c l bt bg nt' ng tk' gv am nm cm W' :=
  ⟨(hg.block _ h.bx.lt (fun e => h.mt.ne h.bx (by injection e with e; exact e.symm))).trans h.bx, row_off h.at_ (pVals_int _) h.mt.notInt hg.size (fun b hb hne => hg.block b hb (fun e => hne (by injection e))), hm, h.mg.kept hg (fun e => h.d1 (by injection e with e; exact e.symm)), h.mv.off h.mt.notInt hg.size (fun b hb hne => hg.block b hb (fun e => hne (by injection e))), Below.ofGrown h.bl hg h.lt h.bl.size, hi, h.d1, h.l5, h.lt, h.lg⟩
/-- One more is given back. -/
theorem OnW.mapG {w : World} {b5 : Nat} {a : Option Addr} {n c : Nat} {l : List Pr} {bt bg nt ng : Nat} {tk gv : List Pr} {am : Option Addr} {nm cm : Nat} {W W' : World} (h : OnW w b5 a n c l bt bg nt ng tk gv am nm cm W) {ng' : Nat} {gv' : List Pr} (hg : W.grownBy W' (some bg)) (hm : CntE W' bg ng' gv') (hi : OnI l tk gv') : OnW w b5 a n c l bt bg nt ng' tk gv' am nm cm W' :=
  ⟨(hg.block _ h.bx.lt (fun e => h.mg.ne h.bx (by injection e with e; exact e.symm))).trans h.bx, row_off h.at_ (pVals_int _) h.mg.notInt hg.size (fun b hb hne => hg.block b hb (fun e => hne (by injection e))), h.mt.kept hg (fun e => h.d1 (by injection e)), hm, h.mv.off h.mg.notInt hg.size (fun b hb hne => hg.block b hb (fun e => hne (by injection e))), Below.ofGrown h.bl hg h.lg h.bl.size, hi, h.d1, h.l5, h.lt, h.lg⟩
theorem rows_map {W W' : World} {B b n : Nat} {t : TypeId} {cs : Array Value} {ps : List Pr} (h : Rows8 W B t cs) (hm : CntE W b n ps) (hg : W.grownBy W' (some b)) : Rows8 W' B t cs :=
  (hg.block _ h.lt (fun e => hm.ne h (by injection e with e; exact e.symm))).trans h
end Go.Proofs
