/- Pins: rows of ops; what is tried; Do. -/
import Derived.Test.YtdkpenfgeohddaaPh
namespace Go.Proofs
set_option maxRecDepth 100000
open Go.RowKit Go.Shelf
attribute [local go_sem] Oper.semAt_some

def poCells (x : Po) : List Value := [.int .i64 x.kind, .int .i64 x.goer, .int .u64 x.by_]
def poVals (l : List Po) : List Value := l.flatMap poCells
theorem poVals_length (l : List Po) : (poVals l).length = l.length * 3 := flat_length poCells 3 (fun _ => rfl) l
theorem poVals_one (l : List Po) : ∀ u ∈ poVals l, u.oneCell' = true := by
  intro u hu
  obtain ⟨x, _, hx⟩ := List.mem_flatMap.1 hu
  simp only [poCells, List.mem_cons, List.not_mem_nil, or_false] at hx
  rcases hx with rfl | rfl | rfl <;> rfl
def PoAt (W : World) (v : Value) (l : List Po) : Prop := RowAt W v l.length 3 (poVals l)
theorem PoAt.below {W W' : World} {v : Value} {l : List Po} (h : PoAt W v l) (hB : Below W.heap.size W W') : PoAt W' v l := RowAt.below h hB
theorem poAt_len {W : World} {x : Option Addr} {n cap : Nat} {l : List Po} (h : PoAt W (.slice x n cap) l) : n = l.length ∧ n ≤ cap ∧ cap ≤ maxLen := by
  obtain ⟨h0, a, c, e, h1, h2, _⟩ := h
  cases e
  exact ⟨rfl, h1, h2⟩
theorem poAt_get {W : World} {x : Option Addr} {n cap : Nat} {l : List Po} (h : PoAt W (.slice x n cap) l) (j : Nat) (hj : j < l.length) :
    ∃ b off, x = some ⟨b, off, none⟩ ∧ b < W.heap.size ∧ W.cell? ⟨b, off + j * 3, none⟩ = some (.int .i64 l[j].kind) ∧ W.cell? ⟨b, off + j * 3 + 1, none⟩ = some (.int .i64 l[j].goer) ∧ W.cell? ⟨b, off + j * 3 + 2, none⟩ = some (.int .u64 l[j].by_) := by
  obtain ⟨h0, a, cap', e, _, _, _, hc⟩ := h
  cases e
  have hl := poVals_length l
  obtain ⟨b, off, e, hb, h0⟩ := hc (j * 3) (by omega)
  have hg := fun i hi => flat_get poCells 3 (fun _ => rfl) l j i hj hi
  have key : ∀ i, i < 3 → W.cell? ⟨b, off + j * 3 + i, none⟩ = (poCells l[j])[i]? := fun i hi => by
    obtain ⟨b', off', e', _, h1⟩ := hc (j * 3 + i) (by omega)
    rw [e] at e'
    cases e'
    rw [← hg i hi, show off + j * 3 + i = off + (j * 3 + i) by omega, h1]
    rfl
  exact ⟨b, off, e, hb, key 0 (by omega), key 1 (by omega), key 2 (by omega)⟩
/-- What may stand in an op. -/
def okO (o : Po) : Prop := 0 ≤ o.by_ ∧ o.by_ < 18446744073709551616
/-- What is so of pins that may be. -/
structure Okp (E : Int) (S : List Int) : Prop where
  e : 0 ≤ E ∧ E < 18446744073709551616
  s : okW S
theorem set_okW {S : List Int} (h : okW S) (k : Nat) (z : Int) (hz : 0 ≤ z ∧ z < 18446744073709551616) : okW (S.set k z) := by
  intro y hy
  rcases List.mem_or_eq_of_mem_set hy with h1 | rfl
  · exact h y h1
  · exact hz
theorem stepP_ok {E : Int} {S : List Int} (h : Okp E S) (hr : rightN E S = true) (o : Po) (ho : 0 ≤ o.by_) : Okp (stepP E S o).2.1 (stepP E S o).2.2 ∧ rightN (stepP E S o).2.1 (stepP E S o).2.2 = true := by
  have hR := (rightN_iff E S).1 hr
  have h0 := h.e.1
  have key : ∀ z, 0 ≤ z → z ≤ E + 1 → ∀ k, Okp E (S.set k z) ∧ rightN E (S.set k z) = true := fun z h1 h2 k =>
    ⟨⟨h.e, set_okW h.s k z ⟨h1, by omega⟩⟩, (rightN_iff _ _).2 ⟨hR.1, by rw [List.length_set]; exact hR.2.1, by rw [List.length_set]; exact hR.2.2.1, fun y hy => by
      rcases List.mem_or_eq_of_mem_set hy with h3 | rfl
      · exact hR.2.2.2 y h3
      · exact h2⟩⟩
  have same : Okp E S ∧ rightN E S = true := ⟨h, hr⟩
  unfold stepP
  split
  · exact same
  · split
    · unfold goN
      split
      · exact same
      · split
        · exact same
        · refine ⟨⟨⟨by show 0 ≤ E + 1; omega, by show E + 1 < _; omega⟩, h.s⟩, (rightN_iff _ _).2 ⟨by show E + 1 ≤ _; omega, hR.2.1, hR.2.2.1, fun y hy => by have := hR.2.2.2 y hy; show y ≤ E + 1 + 1; omega⟩⟩
    · split
      · exact same
      · split
        · unfold pinN
          split
          · exact same
          · split
            · exact same
            · exact key _ (by omega) (by omega) _
        · unfold unpinN
          split
          · exact same
          · exact key 0 (by omega) (by omega) _
theorem stepP_len (E : Int) (S : List Int) (o : Po) : (stepP E S o).2.2.length = S.length := by
  unfold stepP goN pinN unpinN
  repeat' split
  all_goals first | rfl | exact List.length_set
set_option maxHeartbeats 1000000 in
theorem Try.catch_panicking (T : Nat) (n z : Int) (older : List PanicEntry) (w : World) (hE : Rows8 w T 29 #[.int .i64 z]) :
    CallsD Try.prog 42 #[.pointer (some ⟨T, 0, none⟩)] (.panicking ({ v := .iface 29 (.int .i64 n), recovered := false } :: older)) w fun e u' w' =>
      e = .returned (.tuple #[]) ∧ u' = .panicking ({ v := .iface 29 (.int .i64 n), recovered := true } :: older) ∧ w' = w.setCell ⟨T, 0, none⟩ (.int .i64 n) := by
  have c2 : w.cell? ⟨T, 0, none⟩ = some (.int .i64 z) := hE.cell 0
  have f2 := hE.frozen 0
  refine callsD_of_wpS Try.func42 rfl fun c₀ cs hu => ?_
  apply wpS_seq
  apply wpS_region
  simp [wpOpsS, go_sem, recoverD, hu, Try.ntmps42, Exit.thenS]
  have hne := Try.neq_nil n
  have hta := Try.assert_yes (.int .i64 n)
  apply wpS_seq
  apply wpS_region
  simp [wpOpsS, go_sem, Exit.thenS, hne]
  refine wpS_cond (t := true) (by simp [Act.eval, Array.replicate]) ?_
  simp only [if_true]
  apply wpS_seq
  apply wpS_region
  simp [wpOpsS, go_sem, Exit.thenS, hta]
  apply wpS_seq
  apply wpS_seq
  apply wpS_region
  simp [wpOpsS, go_sem, Exit.thenS]
  refine wpS_cond (t := false) (by simp [Act.eval, Array.replicate]) ?_
  simp only [Bool.false_eq_true, if_false]
  refine wpS_of_wp (wp_skip ?_)
  simp only [Exit.thenS]
  apply wpS_region
  simp [wpOpsS, go_sem, c2, f2, bodyPostS, results, Try.results42]
theorem Try.catch_idle (p : Addr) (w : World) :
    CallsD Try.prog 42 #[.pointer (some p)] .returning w fun e u' w' => e = .returned (.tuple #[]) ∧ u' = .returning ∧ w' = w := by
  have hne := Try.nil_nil
  refine callsD_of_wpS Try.func42 rfl fun c₀ cs hu => ?_
  apply wpS_seq
  apply wpS_region
  simp [wpOpsS, go_sem, recoverD, hu, Try.ntmps42, Exit.thenS]
  apply wpS_seq
  apply wpS_region
  simp [wpOpsS, go_sem, Exit.thenS, hne]
  refine wpS_cond (t := false) (by simp [Act.eval, Array.replicate]) ?_
  simp only [Bool.false_eq_true, if_false]
  refine wpS_of_wp (wp_skip ?_)
  cases c₀
  simp_all [bodyPostS, results, Try.results42]
theorem Kf.setNew {T : TypeId → Bool} {A B : World} (p : Kf T A B) {a : Addr} (h : A.heap.size ≤ a.block) (v : Value) : Kf T A (B.setCell a v) :=
  ⟨by simpa [World.setCell] using p.size, fun k cs t fr hk hf => by
    have hlt := (Array.getElem?_eq_some_iff.1 hk).1
    show (B.heap.modify a.block _)[k]? = _
    rw [Array.getElem?_modify, if_neg (by omega)]
    exact p.same k cs t fr hk hf⟩
theorem Hd.setT {H n₀ T : Nat} {E : Int} {S : List Int} {W : World} {ds : Array Value} (h : Hd H n₀ E S W) (r : Rows8 W T 29 ds) (u : Value) : Hd H n₀ E S (W.setCell ⟨T, 0, none⟩ u) := by
  obtain ⟨g, n, h⟩ := h
  exact ⟨g, n, h.bx.setOther (a := ⟨T, 0, none⟩) (fun e => rows_apart h.bx r (by decide) e.symm) _, owns_setT h.o (a := ⟨T, 0, none⟩) r (by decide) _⟩
set_option maxHeartbeats 8000000 in
theorem Try.try_any (H n₀ : Nat) (E : Int) (S : List Int) (o : Po) (w : World) (h : Hd H n₀ E S w) (hk : Okp E S) (hr : rightN E S = true) (hb : 0 ≤ o.by_) (hn0 : n₀ ≤ w.heap.size) (hH : n₀ ≤ H) :
    Calls Try.prog 37 #[.pointer (some ⟨H, 0, none⟩), .agg #[.int .i64 o.kind, .int .i64 o.goer, .int .u64 o.by_]] w fun e w' => e = .returned (.int .i64 (stepP E S o).1) ∧ Hd H n₀ (stepP E S o).2.1 (stepP E S o).2.2 w' ∧ Below n₀ w w' ∧ Kf tP w w' := by
  have hR := (rightN_iff E S).1 hr
  obtain ⟨kd, gr, by_⟩ := o
  dsimp only at *
  obtain ⟨R, hRR⟩ : ∃ R, R = stepP E S ⟨kd, gr, by_⟩ := ⟨_, rfl⟩
  rw [← hRR]
  obtain ⟨u0, hu0⟩ : ∃ u, u = (w.alloc (.cells #[.int .i64 kd, .int .i64 gr, .int .u64 by_] 44)).alloc (.cells #[.int .i64 0] 29) := ⟨_, rfl⟩
  have hB0 : Below w.heap.size w u0 := by rw [hu0]; exact (Rows8.newB).alloc (by simp) _
  have hO0 : Rows8 u0 w.heap.size 44 #[.int .i64 kd, .int .i64 gr, .int .u64 by_] := by rw [hu0]; exact (Rows8.new _ _ _).alloc _
  have hE0 : Rows8 u0 (w.heap.size + 1) 29 #[.int .i64 0] := by rw [hu0]; exact rows_new2 _ _ _ _
  have hc := Try.do_any H n₀ E S ⟨kd, gr, by_⟩ u0 (h.below hB0) ⟨hk.e.1, hR.1⟩ hk.s hR.2.2.1 hb (Nat.le_trans hn0 hB0.size) hH
  dsimp only at hc
  rw [← hRR] at hc
  have hmf : ∀ (fn : Fn) (first cap : Array Value) (w : World), (Instr.makeFunc fn first cap).run Try.prog w = .ok (.func fn first cap) w := fun _ _ _ _ => rfl
  have c0 : u0.cell? ⟨w.heap.size, 0, none⟩ = some (.int .i64 kd) := hO0.cell 0
  have c1 : u0.cell? ⟨w.heap.size, 1, none⟩ = some (.int .i64 gr) := hO0.cell 1
  have c2 : u0.cell? ⟨w.heap.size, 2, none⟩ = some (.int .u64 by_) := hO0.cell 2
  have HC := Lib.hid hc
  have HB0 := Lib.hid (hB0.mono hn0)
  have HK0 := Lib.hid (Kf.of_below (T := tP) hB0)
  have HT0 := Lib.hid hE0
  have HE00 := Lib.hid hE0
  clear hc hB0 hO0 hE0 hRR h hk hr hR hb
  subst hu0
  go_enter_defers Try.func37, Try.ntmps37
  go_wp2_with fail
  refine HC.out.mono ?_
  rintro e w1 ⟨⟨hz, rfl⟩ | ⟨hz, rfl⟩, hd, hb1, hk1⟩
  · have t1 := hk1.rows HT0.out (by decide)
    have ct : w1.cell? ⟨w.heap.size + 1, 0, none⟩ = some (.int .i64 0) := t1.cell 0
    have ft := t1.frozen 0
    have lt := t1.lt
    have t2 := t1.set 0 (.int .i64 0)
    simp only [List.setIfInBounds_toArray, List.set_cons_zero] at t2
    have HT2 := Lib.hid t2
    have HD2 := Lib.hid (hd.setT t1 (.int .i64 0))
    have HB2 := Lib.hid ((HB0.out.trans hb1).setCell (p := ⟨w.heap.size + 1, 0, none⟩) (by show n₀ ≤ w.heap.size + 1; omega) (.int .i64 0))
    have HK2 := Lib.hid ((HK0.out.trans hk1).setNew (a := ⟨w.heap.size + 1, 0, none⟩) (by show w.heap.size ≤ w.heap.size + 1; omega) (.int .i64 0))
    have HZ := Lib.hid hz
    clear t1 t2 hd hb1 hk1 hz HC HB0 HK0 HT0 HE00 c0 c1 c2
    go_wp2_with fail
    refine leaves_cons (f := 42) (args := #[.pointer (some ⟨w.heap.size + 1, 0, none⟩)]) (by simp) (by simp [go_sem]) ?_
    refine (Try.catch_idle ⟨w.heap.size + 1, 0, none⟩ _).mono ?_
    rintro e u' w'' ⟨rfl, rfl, rfl⟩
    refine ⟨_, results_c1 rfl _ _ (w.heap.size + 1) _ rfl (load_one HT2.out (by kernel_rfl)), ?_⟩
    exact ⟨by rw [HZ.out], HD2.out, HB2.out, HK2.out⟩
  · have t1 := hk1.rows HT0.out (by decide)
    have hcatch := Try.catch_panicking (w.heap.size + 1) R.1 _ [] _ t1
    have t2 := t1.set 0 (.int .i64 R.1)
    simp only [List.setIfInBounds_toArray, List.set_cons_zero] at t2
    have HT2 := Lib.hid t2
    have HD2 := Lib.hid (hd.setT t1 (.int .i64 R.1))
    have HB2 := Lib.hid ((HB0.out.trans hb1).setCell (p := ⟨w.heap.size + 1, 0, none⟩) (by show n₀ ≤ w.heap.size + 1; omega) (.int .i64 R.1))
    have HK2 := Lib.hid ((HK0.out.trans hk1).setNew (a := ⟨w.heap.size + 1, 0, none⟩) (by show w.heap.size ≤ w.heap.size + 1; omega) (.int .i64 R.1))
    have HCT := Lib.hid hcatch
    clear t1 t2 hd hb1 hk1 hz HC HB0 HK0 HT0 HE00 c0 c1 c2 hcatch
    unfold panicA
    go_wp2_with fail
    refine leaves_cons (f := 42) (args := #[.pointer (some ⟨w.heap.size + 1, 0, none⟩)]) (by simp) (by simp [go_sem]) ?_
    refine HCT.out.mono ?_
    rintro e u' w'' ⟨rfl, rfl, rfl⟩
    refine ⟨_, results_c1 rfl _ _ (w.heap.size + 1) _ rfl (load_one HT2.out (by kernel_rfl)), ?_⟩
    exact ⟨rfl, HD2.out, HB2.out, HK2.out⟩
/-- An op on pins: what comes, the Epoch, the Slots. -/
def doP (E : Int) (S : List Int) (o : Po) : Rn := if rightN E S = true then (if (stepP E S o).1 = 0 then stepP E S o else ((stepP E S o).1, 0, [])) else (230, 0, [])
theorem owns_setLow {n₀ k n B : Nat} {T : TypeId} {v : Value} {cs : List Value} {W : World} (h : W.ownsRow n₀ T k v n cs) (hB : B < n₀) (o : Nat) (u : Value) : (W.setCell ⟨B, o, none⟩ u).ownsRow n₀ T k v n cs :=
  World.ownsRow.kept h (grownBy_set W B o u) (.inr fun e => by have := (World.ownsRow.lt h B e).1; omega)
set_option maxHeartbeats 8000000 in
theorem Try.DoP_any (E : Int) (a : Option Addr) (n c : Nat) (S : List Int) (o : Po) (w : World) (hI : WordsAt w (.slice a n c) S) (hk : Okp E S) (hb : 0 ≤ o.by_) :
    Calls Try.prog 23 #[.agg #[.int .u64 E, .slice a n c], .agg #[.int .i64 o.kind, .int .i64 o.goer, .int .u64 o.by_]] w fun e w' => PinQ w.heap.size (doP E S o) e w' ∧ Below w.heap.size w w' := by
  have hst := fun W (h : rightN E S = true) H n₀ hd hn hH => Try.try_any H n₀ E S o W hd hk h hb hn hH
  obtain ⟨R, hR⟩ : ∃ R, R = doP E S o := ⟨_, rfl⟩
  obtain ⟨T, hT⟩ : ∃ T, T = stepP E S o := ⟨_, rfl⟩
  rw [← hR]
  unfold doP at hR
  rw [← hT] at hR hst
  obtain ⟨kd, gr, by_⟩ := o
  dsimp only at *
  obtain ⟨u0, hu0⟩ : ∃ u, u = ((w.alloc (.cells #[.int .u64 E, .slice a n c] 25)).alloc (.cells #[.int .i64 kd, .int .i64 gr, .int .u64 by_] 44)).alloc (.cells #[.int .u64 0, .slice none 0 0] 25) := ⟨_, rfl⟩
  have hB0 : Below w.heap.size w u0 := by rw [hu0]; exact ((Rows8.newB).alloc (by simp) _).alloc (by simp <;> omega) _
  have hP0 : Rows8 u0 w.heap.size 25 #[.int .u64 E, .slice a n c] := by rw [hu0]; exact ((Rows8.new _ _ _).alloc _).alloc _
  have hO0 : Rows8 u0 (w.heap.size + 1) 44 #[.int .i64 kd, .int .i64 gr, .int .u64 by_] := by rw [hu0]; exact (rows_new2 _ _ _ _).alloc _
  have hR0 : Rows8 u0 (w.heap.size + 1 + 1) 25 #[.int .u64 0, .slice none 0 0] := by
    have h := Rows8.new ((w.alloc (.cells #[.int .u64 E, .slice a n c] 25)).alloc (.cells #[.int .i64 kd, .int .i64 gr, .int .u64 by_] 44)) 25 #[.int .u64 0, .slice none 0 0]
    rw [World.size_alloc, World.size_alloc] at h
    rw [hu0]
    exact h
  have hsz : u0.heap.size = w.heap.size + 1 + 1 + 1 := by rw [hu0]; simp only [World.size_alloc]
  have hho := Try.handOf_any E hk.e.1 a n c S u0 (RowAt.below hI hB0)
  rw [hsz] at hho
  have HHO := Lib.hid hho
  have HST := Lib.hid hst
  have HR := Lib.hid hR
  have HB0 := Lib.hid hB0
  have HO0 := Lib.hid hO0
  have HR0 := Lib.hid hR0
  have c0 : u0.cell? ⟨w.heap.size, 0, none⟩ = some (.int .u64 E) := hP0.cell 0
  have c1 : u0.cell? ⟨w.heap.size, 1, none⟩ = some (.slice a n c) := hP0.cell 1
  clear hB0 hP0 hO0 hR0 hho hst hR hI hk hb hT
  subst hu0
  go_enter Try.func23, Try.ntmps23
  go_wp2_with fail
  refine HHO.out.mono ?_
  rintro e w1 ⟨hq, hB1⟩
  unfold HofQ at hq
  have hB1' := hB1
  have o1 := HO0.out.below hB1' (by omega)
  have r1 := HR0.out.below hB1' (by omega)
  have hb1 := HB0.out.trans (hB1'.mono (by omega))
  have hs1 : w.heap.size + 1 + 1 + 1 ≤ w1.heap.size := by have := hB1.size; rw [hsz] at this; exact this
  by_cases hr : rightN E S = true
  · rw [if_pos hr] at hq
    obtain ⟨g, m, rfl, ho⟩ := hq
    have hal : Below w1.heap.size w1 (w1.alloc (.cells #[.int .u64 E, .slice (some ⟨g, 0, none⟩) m m] 67)) := Rows8.newB
    have o2 := o1.below hal o1.lt
    have r2 := r1.below hal r1.lt
    have hd : Hd w1.heap.size (w.heap.size + 1 + 1 + 1) E S (w1.alloc (.cells #[.int .u64 E, .slice (some ⟨g, 0, none⟩) m m] 67)) := ⟨g, m, Rows8.new _ _ _, owns_keep ho hal (Nat.le_refl _)⟩
    have hbw := hb1.trans (hal.mono hb1.size)
    have HT := Lib.hid (HST.out _ hr _ _ hd (Nat.le_trans hs1 hal.size) hs1)
    have HRR := Lib.hid (HR.out.trans (if_pos hr))
    have z0 : (w1.alloc (.cells #[.int .u64 E, .slice (some ⟨g, 0, none⟩) m m] 67)).cell? ⟨w.heap.size + 1, 0, none⟩ = some (.int .i64 kd) := o2.cell 0
    have z1 : (w1.alloc (.cells #[.int .u64 E, .slice (some ⟨g, 0, none⟩) m m] 67)).cell? ⟨w.heap.size + 1, 1, none⟩ = some (.int .i64 gr) := o2.cell 1
    have z2 : (w1.alloc (.cells #[.int .u64 E, .slice (some ⟨g, 0, none⟩) m m] 67)).cell? ⟨w.heap.size + 1, 2, none⟩ = some (.int .u64 by_) := o2.cell 2
    have HBW := Lib.hid hbw
    have HR2 := Lib.hid r2
    have hlo := o1.lt
    obtain ⟨t1, TE, TS⟩ := T
    dsimp only at *
    clear o1 r1 hb1 ho hal o2 r2 hd hbw hr hB1 hB1' HHO HST HR HB0 HO0 HR0 c0 c1
    go_wp2_with fail
    refine HT.out.mono ?_
    rintro e w3 ⟨rfl, ⟨g3, m3, h3⟩, hb3, hk3⟩
    have r3 := hk3.rows HR2.out (by decide)
    have q0 : w3.cell? ⟨w.heap.size + 1 + 1, 0, none⟩ = some (.int .u64 0) := r3.cell 0
    have q1 : w3.cell? ⟨w.heap.size + 1 + 1, 1, none⟩ = some (.slice none 0 0) := r3.cell 1
    have f0 := r3.frozen 0
    have f1 := r3.frozen 1
    have lr := r3.lt
    have hb4 := HBW.out.trans (hb3.mono (by omega))
    by_cases ht : t1 = 0
    · have y0 : w3.cell? ⟨w1.heap.size, 0, none⟩ = some (.int .u64 TE) := h3.bx.cell 0
      have y1 : w3.cell? ⟨w1.heap.size, 1, none⟩ = some (.slice (some ⟨g3, 0, none⟩) m3 m3) := h3.bx.cell 1
      have hd : (t1 != 0) = false := by simp [ht]
      have HS := Lib.hid (r3.set2 (.int .u64 TE) (.slice (some ⟨g3, 0, none⟩) m3 m3))
      have HO := Lib.hid (owns_setLow (owns_setLow h3.o (show w.heap.size + 1 + 1 < w.heap.size + 1 + 1 + 1 by omega) 0 (.int .u64 TE)) (show w.heap.size + 1 + 1 < w.heap.size + 1 + 1 + 1 by omega) 1 (.slice (some ⟨g3, 0, none⟩) m3 m3))
      have HB := Lib.hid ((hb4.setCell (p := ⟨w.heap.size + 1 + 1, 0, none⟩) (by show w.heap.size ≤ w.heap.size + 1 + 1; omega) (.int .u64 TE)).setCell (p := ⟨w.heap.size + 1 + 1, 1, none⟩) (by show w.heap.size ≤ w.heap.size + 1 + 1; omega) (.slice (some ⟨g3, 0, none⟩) m3 m3))
      have hfin : Hid (R = (0, TE, TS)) := Lib.hid (by rw [HRR.out, if_pos ht, ht])
      clear h3 hb3 hk3 r3 hb4 ht HT HRR HR2 HBW z0 z1 z2
      go_wp2_with fail
      refine bodyPost_ret (results_ctA rfl _ _ (w.heap.size + 1 + 1) _ _ rfl rfl (load_row HS.out Try.underlying25 rfl (by kernel_rfl))) rfl ?_
      exact ⟨⟨_, by rw [hfin.out]; rfl, by rw [hfin.out]; exact owns_mono HO.out (by omega)⟩, HB.out⟩
    · have hd : (t1 != 0) = true := by simp [ht]
      have HS := Lib.hid (r3.set2 (.int .u64 0) (.slice none 0 0))
      have HB := Lib.hid ((hb4.setCell (p := ⟨w.heap.size + 1 + 1, 0, none⟩) (by show w.heap.size ≤ w.heap.size + 1 + 1; omega) (.int .u64 0)).setCell (p := ⟨w.heap.size + 1 + 1, 1, none⟩) (by show w.heap.size ≤ w.heap.size + 1 + 1; omega) (.slice none 0 0))
      have hfin : Hid (R = (t1, 0, [])) := Lib.hid (by rw [HRR.out, if_neg ht])
      clear h3 hb3 hk3 r3 hb4 ht HT HRR HR2 HBW z0 z1 z2
      go_wp2_with fail
      refine bodyPost_ret (results_ctA rfl _ _ (w.heap.size + 1 + 1) _ _ rfl rfl (load_row HS.out Try.underlying25 rfl (by kernel_rfl))) rfl ?_
      exact ⟨⟨_, by rw [hfin.out]; rfl, by rw [hfin.out]; exact World.ownsRow_nil _ _ _ _⟩, HB.out⟩
  · rw [if_neg hr] at hq
    obtain rfl := hq
    have hal : Below w1.heap.size w1 (w1.alloc (.cells #[.int .u64 0, .slice none 0 0] 67)) := Rows8.newB
    have r2 := r1.below hal r1.lt
    have hbw := hb1.trans (hal.mono hb1.size)
    have hfin : Hid (R = (230, 0, [])) := Lib.hid (HR.out.trans (if_neg hr))
    have q0 : (w1.alloc (.cells #[.int .u64 0, .slice none 0 0] 67)).cell? ⟨w.heap.size + 1 + 1, 0, none⟩ = some (.int .u64 0) := r2.cell 0
    have q1 : (w1.alloc (.cells #[.int .u64 0, .slice none 0 0] 67)).cell? ⟨w.heap.size + 1 + 1, 1, none⟩ = some (.slice none 0 0) := r2.cell 1
    have f0 := r2.frozen 0
    have f1 := r2.frozen 1
    have lr := r2.lt
    have HS := Lib.hid (r2.set2 (.int .u64 0) (.slice none 0 0))
    have HB := Lib.hid ((hbw.setCell (p := ⟨w.heap.size + 1 + 1, 0, none⟩) (by show w.heap.size ≤ w.heap.size + 1 + 1; omega) (.int .u64 0)).setCell (p := ⟨w.heap.size + 1 + 1, 1, none⟩) (by show w.heap.size ≤ w.heap.size + 1 + 1; omega) (.slice none 0 0))
    clear o1 r1 hb1 hal r2 hbw hr hB1 hB1' HHO HST HR HB0 HO0 HR0 c0 c1
    go_wp2_with fail
    refine bodyPost_ret (results_ctA rfl _ _ (w.heap.size + 1 + 1) _ _ rfl rfl (load_row HS.out Try.underlying25 rfl (by kernel_rfl))) rfl ?_
    exact ⟨⟨_, by rw [hfin.out]; rfl, by rw [hfin.out]; exact World.ownsRow_nil _ _ _ _⟩, HB.out⟩
end Go.Proofs
