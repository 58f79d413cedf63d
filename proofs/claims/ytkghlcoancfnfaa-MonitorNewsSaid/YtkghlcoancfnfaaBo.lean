/- Monitor: a hand, and what changes it. -/
import Derived.Test.YtkghlcoancfnfaaBn
namespace Go.Proofs
set_option maxRecDepth 100000
open Go.RowKit Go.Shelf
attribute [local go_sem] Oper.semAt_some

/-- A hand: a monitor of its own in a box, and what was taken. -/
structure Hx (H n₀ : Nat) (x : Mv) (ta : Option Addr) (tn tc : Nat) (vs : List Value) (m : Mn) (tk : List Pr) (W : World) : Prop where
  bx : Rows8 W H 95 #[.slice x.sa x.sn x.sc, .slice x.pa x.pn x.pc, .slice x.ha x.hn x.hc, .slice x.ba x.bn x.bc, .slice ta tn tc]
  o : OwnMon n₀ x m vs W
  t : OwnsP 38 n₀ tk (.slice ta tn tc) W
  ap : ∀ i q, i < m.has.length → vs[i]? = some q → q.ownBlock = none ∨ q.ownBlock ≠ (.slice ta tn tc : Value).ownBlock
def Hd (H n₀ : Nat) (m : Mn) (tk : List Pr) (W : World) : Prop := ∃ x ta tn tc vs, Hx H n₀ x ta tn tc vs m tk W
theorem Hx.below {H n₀ : Nat} {x : Mv} {ta : Option Addr} {tn tc : Nat} {vs : List Value} {m : Mn} {tk : List Pr} {A B : World} (h : Hx H n₀ x ta tn tc vs m tk A) (hB : Below A.heap.size A B) : Hx H n₀ x ta tn tc vs m tk B :=
  ⟨h.bx.below hB h.bx.lt, h.o.below hB (Nat.le_refl _), h.t.below hB (Nat.le_refl _), h.ap⟩
theorem Hx.drew {H n₀ : Nat} {x : Mv} {ta : Option Addr} {tn tc : Nat} {vs : List Value} {m : Mn} {tk : List Pr} {A : World} (h : Hx H n₀ x ta tn tc vs m tk A) : Hx H n₀ x ta tn tc vs m tk A.drew := ⟨h.bx, h.o.drew, h.t, h.ap⟩
theorem Hd.below {H n₀ : Nat} {m : Mn} {tk : List Pr} {A B : World} (h : Hd H n₀ m tk A) (hB : Below A.heap.size A B) : Hd H n₀ m tk B := by
  obtain ⟨x, ta, tn, tc, vs, h⟩ := h
  exact ⟨x, ta, tn, tc, vs, h.below hB⟩
theorem Hd.drew {H n₀ : Nat} {m : Mn} {tk : List Pr} {A : World} (h : Hd H n₀ m tk A) : Hd H n₀ m tk A.drew := by
  obtain ⟨x, ta, tn, tc, vs, h⟩ := h
  exact ⟨x, ta, tn, tc, vs, h.drew⟩
def tM : TypeId → Bool := fun t => t == 56 || t == 4 || t == 62 || t == 38 || t == 40 || t == 95
/-- What is done to a hand. -/
def HdQ (H n₀ : Nat) (w : World) (R : Int × Mn × List Pr) (tk : List Pr) (e : Ending) (w' : World) : Prop :=
  (R.1 = 0 ∧ e = .returned (.tuple #[]) ∧ Hd H n₀ R.2.1 (tk ++ R.2.2) w' ∧ Below n₀ w w' ∧ Kf tM w w') ∨
  (R.1 ≠ 0 ∧ e = .panicked (panicA R.1) ∧ Below n₀ w w' ∧ Kf tM w w' ∧ ∃ u0 u1 u2 u3 u4, Rows8 w' H 95 #[u0, u1, u2, u3, u4])
/-- A goroutine is pinned, or not. -/
theorem Hx.setPin {H n₀ : Nat} {x : Mv} {ta : Option Addr} {tn tc : Nat} {vs : List Value} {m : Mn} {tk : List Pr} {W : World} (h : Hx H n₀ x ta tn tc vs m tk W) {gp : Nat} (hp : x.pa = some ⟨gp, 0, none⟩) {cs : Array Value} (r : Rows8 W gp 4 cs) (hn : x.pn = m.pin.length) (g : Nat) (b : Bool) :
    Hx H n₀ x ta tn tc vs { m with pin := m.pin.set g b } tk (W.setCell ⟨gp, g, none⟩ (.bool b)) := by
  refine ⟨h.bx.setOther (a := ⟨gp, g, none⟩) (fun e => rows_apart h.bx r (by decide) e.symm) _, ⟨owns_setT h.o.s (a := ⟨gp, g, none⟩) r (by decide) _, ?_, h.o.h.set (a := ⟨gp, g, none⟩) r (by decide) (by decide) rfl _, owns_setT h.o.b (a := ⟨gp, g, none⟩) r (by decide) _⟩, owns_setT h.t (a := ⟨gp, g, none⟩) r (by decide) _, h.ap⟩
  have hb := h.o.p
  rw [hp] at hb ⊢
  exact hb.setB hn g b
/-- A goroutine has other entries. -/
theorem Hx.setHas {H n₀ : Nat} {x : Mv} {ta : Option Addr} {tn tc : Nat} {vs : List Value} {m m' : Mn} {tk : List Pr} {W : World} {gh : Nat} {cs : Array Value} (r : Rows8 W gh 62 cs) (g : Nat) (q : Value)
    (bx : Rows8 W H 95 #[.slice x.sa x.sn x.sc, .slice x.pa x.pn x.pc, .slice x.ha x.hn x.hc, .slice x.ba x.bn x.bc, .slice ta tn tc]) (hs : OwnsP 56 n₀ m.sl (.slice x.sa x.sn x.sc) W) (hp : OwnsBools n₀ m.pin (.slice x.pa x.pn x.pc) W) (hb : OwnsW n₀ m.bad (.slice x.ba x.bn x.bc) W) (ht : OwnsP 38 n₀ tk (.slice ta tn tc) W)
    (hh : OwnH n₀ m'.has (.slice x.ha x.hn x.hc) (vs.set g q) (W.setCell ⟨gh, g, none⟩ q)) (e1 : m'.sl = m.sl) (e2 : m'.pin = m.pin) (e3 : m'.bad = m.bad)
    (hap : ∀ i q', i < m'.has.length → (vs.set g q)[i]? = some q' → q'.ownBlock = none ∨ q'.ownBlock ≠ (.slice ta tn tc : Value).ownBlock) :
    Hx H n₀ x ta tn tc (vs.set g q) m' tk (W.setCell ⟨gh, g, none⟩ q) :=
  ⟨bx.setOther (a := ⟨gh, g, none⟩) (fun e => rows_apart bx r (by decide) e.symm) _, ⟨by rw [e1]; exact owns_setT hs (a := ⟨gh, g, none⟩) r (by decide) _, by rw [e2]; exact owns_setT hp (a := ⟨gh, g, none⟩) r (by decide) _, hh, by rw [e3]; exact owns_setT hb (a := ⟨gh, g, none⟩) r (by decide) _⟩, owns_setT ht (a := ⟨gh, g, none⟩) r (by decide) _, hap⟩
/-- A box of another row. -/
theorem OwnMon.setH {n₀ H : Nat} {x : Mv} {m : Mn} {vs : List Value} {W : World} (h : OwnMon n₀ x m vs W) {ds : Array Value} (r : Rows8 W H 95 ds) (o : Nat) (u : Value) : OwnMon n₀ x m vs (W.setCell ⟨H, o, none⟩ u) :=
  h.set r (by decide) (by decide) (by decide) (by decide) (by decide) o u

theorem Try.must_yes (w : World) : Calls Try.prog 74 #[.int .i64 0] w fun e w' => e = .returned (.tuple #[]) ∧ w' = w := by
  go_enter Try.func74, Try.ntmps74
  go_wp2_with fail
  go_end0
  exact ⟨rfl, by trivial⟩
theorem Try.must_no (n : Int) (hn : n ≠ 0) (w : World) : Calls Try.prog 74 #[.int .i64 n] w fun e w' => e = .panicked (panicA n) ∧ w' = w := by
  have hne : (n != 0) = true := by simp [hn]
  go_enter Try.func74, Try.ntmps74
  go_wp2_with fail
  exact ⟨rfl, rfl, by trivial⟩
theorem pinM_at {m : Mn} {g : Nat} (h : g < m.pin.length) : pinM m (g : Nat) = m.pin[g] := by unfold pinM; rw [Int.toNat_natCast, List.getElem?_eq_getElem h]; rfl
set_option maxHeartbeats 2000000 in
theorem Try.mustLook_any (H n₀ : Nat) (m : Mn) (tk : List Pr) (g : Nat) (w : World) (h : Hd H n₀ m tk w) (hg : g < m.pin.length) :
    Calls Try.prog 93 #[.pointer (some ⟨H, 0, none⟩), .int .i64 (g : Nat)] w fun e w' => (pinM m (g : Nat) = true ∧ e = .returned (.tuple #[]) ∧ w' = w) ∨ (pinM m (g : Nat) = false ∧ e = .panicked (panicA 4) ∧ w' = w) := by
  obtain ⟨x, ta, tn, tc, vs, h⟩ := h
  obtain ⟨gp, cs, hpa, hgp, hpn, rp, cp⟩ := h.o.p.block g hg
  rw [pinM_at hg]
  generalize m.pin[g] = b at *
  have c1 : w.cell? ⟨H, 1, none⟩ = some (.slice x.pa x.pn x.pc) := h.bx.cell 1
  rw [hpa] at c1
  have hgi : ((g : Nat) : Int) < ((x.pn : Nat) : Int) := by omega
  have hgi0 : (0 : Int) ≤ ((g : Nat) : Int) := by omega
  clear h hpa hpn rp hg hgp
  cases b with
  | true =>
    go_enter Try.func93, Try.ntmps93
    go_wp2_with fail
    go_end0
    exact Or.inl ⟨by first | rfl | trivial, rfl, by first | rfl | trivial⟩
  | false =>
    go_enter Try.func93, Try.ntmps93
    go_wp2_with fail
    exact ⟨rfl, Or.inr ⟨by first | rfl | trivial, rfl, by first | rfl | trivial⟩⟩
set_option maxHeartbeats 4000000 in
theorem Try.pin_any (H n₀ : Nat) (m : Mn) (tk : List Pr) (t : Wt) (w : World) (h : Hd H n₀ m tk w) (hg : 0 ≤ t.goer ∧ t.goer < m.pin.length) (hn : n₀ ≤ w.heap.size) :
    Calls Try.prog 86 #[.pointer (some ⟨H, 0, none⟩), .agg #[.int .i64 t.kind, .int .i64 t.goer, .int .i64 t.slab, .int .u64 (t.gen : Nat)]] w (HdQ H n₀ w (if pinM m t.goer then (5, m, []) else (0, { m with pin := m.pin.set t.goer.toNat true }, [])) tk) := by
  obtain ⟨kd, gr, i, q⟩ := t
  dsimp only at hg ⊢
  obtain ⟨g, rfl⟩ : ∃ g : Nat, gr = g := ⟨gr.toNat, by omega⟩
  have hg : g < m.pin.length := by omega
  obtain ⟨x, ta, tn, tc, vs, h⟩ := h
  have hal : Below w.heap.size w (w.alloc (.cells #[.int .i64 kd, .int .i64 (g : Nat), .int .i64 i, .int .u64 (q : Nat)] 40)) := Rows8.newB
  have rw0 := Rows8.new w 40 #[.int .i64 kd, .int .i64 (g : Nat), .int .i64 i, .int .u64 (q : Nat)]
  have h1 := h.below hal
  obtain ⟨gp, cs, hpa, hgp, hpn, rp, cp⟩ := h1.o.p.block g hg
  rw [pinM_at hg]
  obtain ⟨b, hb⟩ : ∃ b, b = m.pin[g] := ⟨_, rfl⟩
  rw [← hb] at cp ⊢
  obtain ⟨W, hW⟩ : ∃ W, W = w.alloc (.cells #[.int .i64 kd, .int .i64 (g : Nat), .int .i64 i, .int .u64 (q : Nat)] 40) := ⟨_, rfl⟩
  rw [← hW] at hal rw0 h1 rp cp
  have c1 : W.cell? ⟨H, 1, none⟩ = some (.slice x.pa x.pn x.pc) := h1.bx.cell 1
  rw [hpa] at c1
  have cg : W.cell? ⟨w.heap.size, 1, none⟩ = some (.int .i64 (g : Nat)) := rw0.cell 1
  have hgi : ((g : Nat) : Int) < ((x.pn : Nat) : Int) := by omega
  have hgi0 : (0 : Int) ≤ ((g : Nat) : Int) := by omega
  have fp := rp.frozen g
  have H1 := Lib.hid h1
  have HAL := Lib.hid (hal.mono hn)
  have HKF := Lib.hid (Kf.of_below (T := tM) hal)
  have HPA := Lib.hid hpa
  have HPN := Lib.hid hpn
  have RP := Lib.hid rp
  have HGP := Lib.hid hgp
  clear h h1 hal hpa hpn rp hb rw0 hgp hg
  cases b with
  | true =>
    go_enter Try.func86, Try.ntmps86
    go_wp2_with fail
    rw [← hW]
    clear hW
    go_region
    go_wp2_with fail
    exact ⟨rfl, Or.inr ⟨by show (5 : Int) ≠ 0; decide, rfl, HAL.out.drew, HKF.out.drew, _, _, _, _, _, H1.out.bx.drewA⟩⟩
  | false =>
    go_enter Try.func86, Try.ntmps86
    go_wp2_with fail
    rw [← hW]
    clear hW
    go_region
    go_wp2_with fail
    have H2 := Lib.hid (H1.out.setPin HPA.out (cs := cs) RP.out HPN.out g true)
    have HB2 := Lib.hid (HAL.out.setCell (p := ⟨gp, g, none⟩) HGP.out (.bool true))
    have HK2 := Lib.hid (HKF.out.trans (Kf.set (T := tM) (t := 4) (by decide) W (a := ⟨gp, g, none⟩) (cs := cs) RP.out (.bool true)))
    go_region
    go_end0
    exact Or.inl ⟨rfl, rfl, by rw [List.append_nil]; exact ⟨_, _, _, _, _, H2.out.drew.drew⟩, HB2.out.drew.drew, HK2.out.drew.drew⟩
end Go.Proofs
