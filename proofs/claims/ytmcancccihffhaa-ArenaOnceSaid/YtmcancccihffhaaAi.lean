/- Arena: a draft that retires, and gives back. -/
import Derived.Test.YtmcancccihffhaaAh
namespace Go.Proofs
set_option maxRecDepth 100000
open Go.RowKit Go.Shelf
attribute [local go_sem] Oper.semAt_some

def panicA (n : Int) : List PanicEntry := [{ v := .iface 28 (.int .i64 n), recovered := false }]
/-- All but slabs is as it was. -/
structure Ks (T : TypeId) (A B : World) : Prop where
  size : A.heap.size ≤ B.heap.size
  same : ∀ (k : Nat) (cs : Array Value) (t : TypeId) (fr : Nat × Nat), A.heap[k]? = some (Obj.cells cs t fr) → t ≠ T → B.heap[k]? = some (Obj.cells cs t fr)
theorem Ks.refl (T : TypeId) (A : World) : Ks T A A := ⟨Nat.le_refl _, fun _ _ _ _ h _ => h⟩
theorem Ks.trans {T : TypeId} {A B C : World} (p : Ks T A B) (q : Ks T B C) : Ks T A C := ⟨Nat.le_trans p.size q.size, fun k cs t fr h ht => q.same k cs t fr (p.same k cs t fr h ht) ht⟩
theorem Ks.of_below {T : TypeId} {A B : World} (p : Below A.heap.size A B) : Ks T A B := ⟨p.size, fun k _ _ _ h _ => (p.block k (Array.getElem?_eq_some_iff.1 h).1).trans h⟩
theorem Ks.rows {T t : TypeId} {A B : World} (p : Ks T A B) {k : Nat} {cs : Array Value} (r : Rows8 A k t cs) (ht : t ≠ T) : Rows8 B k t cs := p.same k cs t (0, 0) r ht
theorem Ks.set {T : TypeId} (A : World) {a : Addr} {cs : Array Value} (r : Rows8 A a.block T cs) (v : Value) : Ks T A (A.setCell a v) :=
  ⟨by simp [World.setCell], fun k cs' t' fr hk ht => by
    have hne : a.block ≠ k := fun e => by
      subst e
      rw [show A.heap[a.block]? = _ from r] at hk
      injection hk with hk
      injection hk with _ hk _
      exact ht hk.symm
    show (A.heap.modify a.block _)[k]? = _
    rw [Array.getElem?_modify, if_neg hne]
    exact hk⟩
theorem Ks.drew {T : TypeId} {A B : World} (p : Ks T A B) : Ks T A B.drew := ⟨p.size, p.same⟩
/-- A draft of these slabs, and of what was taken. -/
structure Dr (D n₀ : Nat) (l : List Pr) (vs vt : Value) (W : World) : Prop where
  d : Rows8 W D 58 #[vs, vt]
  o : OwnsP 52 n₀ l vs W
theorem Dr.below {D n₀ : Nat} {l : List Pr} {vs vt : Value} {A B : World} (p : Dr D n₀ l vs vt A) (q : Below A.heap.size A B) : Dr D n₀ l vs vt B := ⟨p.d.below q p.d.lt, p.o.below q (Nat.le_refl _)⟩
theorem Dr.drew {D n₀ : Nat} {l : List Pr} {vs vt : Value} {A : World} (p : Dr D n₀ l vs vt A) : Dr D n₀ l vs vt A.drew := ⟨p.d, p.o⟩
def StepQ (D n₀ : Nat) (vs vt : Value) (w : World) (E : Int) (l' : List Pr) (e : Ending) (w' : World) : Prop :=
  (E = 0 ∧ e = .returned (.tuple #[]) ∧ Dr D n₀ l' vs vt w' ∧ Below n₀ w w' ∧ Ks 52 w w') ∨ (E ≠ 0 ∧ e = .panicked (panicA E) ∧ Below n₀ w w' ∧ Ks 52 w w')
theorem rows_apart {W : World} {B g : Nat} {t e : TypeId} {cs ds : Array Value} (r : Rows8 W B t cs) (q : Rows8 W g e ds) (h : t ≠ e) : B ≠ g := fun ee => by
  subst ee
  have q9 : W.heap[B]? = some (Obj.cells ds e (0, 0)) := q
  rw [show W.heap[B]? = _ from r] at q9
  injection q9 with q1
  injection q1 with _ q2 _
  exact h q2
theorem Rows8.drewA {W : World} {B : Nat} {t : TypeId} {cs : Array Value} (h : Rows8 W B t cs) : Rows8 W.drew B t cs := h

set_option maxRecDepth 100000 in
set_option maxHeartbeats 4000000 in
theorem Try.retire_any (D n₀ : Nat) (l : List Pr) (vs vt : Value) (e : Pr) (w : World) (hD : Dr D n₀ l vs vt w) (hn₀ : n₀ ≤ w.heap.size) :
    Calls Try.prog 25 #[.pointer (some ⟨D, 0, none⟩), .agg #[.int .i64 e.1, .int .u64 (e.2 : Nat)]] w (StepQ D n₀ vs vt w (retE l e) (retS l e)) := by
  obtain ⟨a, c, hvs⟩ := hD.o.form
  obtain ⟨n, hn⟩ : ∃ n, n = l.length := ⟨_, rfl⟩
  rw [← hn] at hvs
  have hT := fun (W : World) (h : PAt W vs l) => Try.tag_any a n c l e W (by rw [← hvs]; exact h)
  have hB0 : Below w.heap.size w (w.alloc (.cells #[.int .i64 e.1, .int .u64 (e.2 : Nat)] 41)) := Rows8.newB
  have hE0 := Rows8.new w 41 #[.int .i64 e.1, .int .u64 (e.2 : Nat)]
  have hD0 := hD.below hB0
  have hne := @tagA_ne l e
  have htb := @tagB_iff l e
  have hre : retE l e = if tagA l e = 1 then 0 else 4 := rfl
  obtain ⟨E, hE⟩ : ∃ E, E = retE l e := ⟨_, rfl⟩
  rw [← hE] at hre ⊢
  have hrs : retS l e = l.set e.1.toNat (2, e.2) := rfl
  obtain ⟨L, hL⟩ : ∃ L, L = retS l e := ⟨_, rfl⟩
  rw [← hL] at hrs ⊢
  obtain ⟨t, ht⟩ : ∃ t, t = tagA l e := ⟨_, rfl⟩
  rw [← ht] at hT hne hre
  obtain ⟨i, g⟩ := e
  dsimp only at hB0 hE0 hD0 hT hne hrs ⊢
  generalize tagB l (i, g) = b at *
  have HT := fun W h => Lib.hid (hT W h)
  have HNE := Lib.hid hne
  have HRE := Lib.hid hre
  have HRS := Lib.hid hrs
  have HB0 := Lib.hid hB0
  have HE0 := Lib.hid hE0
  have HD0 := Lib.hid hD0
  have HN := Lib.hid hn
  have hsz := hD.d.lt
  clear hT hne hre hrs hB0 hE0 hD0 hn hD hE hL ht htb
  subst hvs
  go_enter Try.func25, Try.ntmps25
  go_wp2_with fail
  generalize (w.alloc (.cells #[.int .i64 i, .int .u64 (g : Nat)] 41)) = W0 at *
  have hc0 : W0.cell? ⟨D, 0, none⟩ = some (.slice a n c) := HD0.out.d.cell 0
  have hc1 : W0.cell? ⟨w.heap.size, 0, none⟩ = some (.int .i64 i) := HE0.out.cell 0
  have hc2 : W0.cell? ⟨w.heap.size, 1, none⟩ = some (.int .u64 (g : Nat)) := HE0.out.cell 1
  go_region_held3 (fun W' => W'.cell? ⟨D, 0, none⟩ = some (.slice a n c) ∧ W'.cell? ⟨w.heap.size, 0, none⟩ = some (.int .i64 i) ∧ W'.cell? ⟨w.heap.size, 1, none⟩ = some (.int .u64 (g : Nat))) (first | exact ⟨hc0, hc1, hc2⟩ | exact hkeep) (first
    | (go_at_call 28; refine (HT _ HD0.out.drew.o.at).out.mono ?_; rintro r w2 ⟨rfl, hB2⟩; have hD2 := HD0.out.drew.below hB2; have hE2 := HE0.out.drewA.below hB2 HE0.out.lt; have hkeep : w2.cell? ⟨D, 0, none⟩ = some (.slice a n c) ∧ w2.cell? ⟨w.heap.size, 0, none⟩ = some (.int .i64 i) ∧ w2.cell? ⟨w.heap.size, 1, none⟩ = some (.int .u64 (g : Nat)) := ⟨hD2.d.cell 0, hE2.cell 0, hE2.cell 1⟩; have HD2 := Lib.hid hD2; have HE2 := Lib.hid hE2; have HB2 := Lib.hid (HB0.out.drew.trans (hB2.mono HB0.out.size)); clear hB2 hD2 hE2))
  have hB2 := HB2.out
  by_cases h1 : t = 1
  · obtain ⟨j, rfl, hj, hg, htj⟩ := HNE.out (by omega)
    obtain ⟨b0, cs, rfl, hb0, hnl2, hrow, p0, p1⟩ := HD2.out.o.block j hj
    have hnl := HN.out
    have hji : (j : Int) < (n : Int) := by omega
    have hj0 : (0 : Int) ≤ (j : Int) := by omega
    have hne1 : (t != 1) = false := by simp [h1]
    have pd0 : w2.cell? ⟨D, 0, none⟩ = some (.slice (some ⟨b0, 0, none⟩) n c) := HD2.out.d.cell 0
    have pe0 : w2.cell? ⟨w.heap.size, 0, none⟩ = some (.int .i64 (j : Nat)) := HE2.out.cell 0
    have fr0 := hrow.frozen (j * 2)
    have hlb := hrow.lt
    have hE : Hid (E = 0) := Lib.hid (by rw [HRE.out, if_pos h1])
    have hset := HD2.out.o.set0 HN.out j hj 2
    have hDb : D ≠ b0 := rows_apart HD2.out.d hrow (by decide)
    have hds := HD2.out.d.setOther (a := ⟨b0, j * 2, none⟩) (fun e => hDb e.symm) (.int .i64 2)
    have hL : L = l.set j (2, l[j].2) := by rw [HRS.out, hg, Int.toNat_natCast]
    rw [← hL] at hset
    have hks := Ks.set (T := 52) w2 (a := ⟨b0, j * 2, none⟩) hrow (.int .i64 2)
    have HKS := Lib.hid hks
    have HSET := Lib.hid hset
    have HDS := Lib.hid hds
    have HB3 := Lib.hid ((hB2.mono hn₀).setCell (p := ⟨b0, j * 2, none⟩) hb0 (.int .i64 2))
    have HKB := Lib.hid (Ks.of_below (T := 52) hB2)
    generalize l[j].1 = tt at *
    clear hL hset hds hks hB2 hg HNE h1 hnl hnl2 htj p1
    go_wp2_with fail
    go_region
    go_end0
    exact Or.inl ⟨hE.out, rfl, ⟨HDS.out, HSET.out⟩, HB3.out.drew, (HKB.out.trans HKS.out).drew⟩
  · have hne1 : (t != 1) = true := by simp [h1]
    have hE : Hid (E = 4) := Lib.hid (by rw [HRE.out, if_neg h1])
    have HB3 := Lib.hid hB2
    clear hB2
    go_wp2_with fail
    exact ⟨rfl, Or.inr ⟨by rw [hE.out]; decide, by rw [hE.out]; rfl, HB3.out.mono hn₀, .of_below HB3.out⟩⟩
end Go.Proofs
