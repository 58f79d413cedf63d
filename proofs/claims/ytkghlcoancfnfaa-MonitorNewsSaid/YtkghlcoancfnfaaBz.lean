/- Monitor: what is tried. -/
import Derived.Test.YtkghlcoancfnfaaBy
namespace Go.Proofs
set_option maxRecDepth 100000
open Go.RowKit Go.Shelf
attribute [local go_sem] Oper.semAt_some

def TriedM (w : World) (R : Int × Mn × List Pr) (e : Ending) (w' : World) : Prop :=
  ∃ (x : Mv) (vs : List Value) (ta : Option Addr) (tc : Nat), e = .returned (.tuple #[.agg #[.slice x.sa x.sn x.sc, .slice x.pa x.pn x.pc, .slice x.ha x.hn x.hc, .slice x.ba x.bn x.bc, .slice ta R.2.2.length tc], .int .i64 R.1]) ∧ OwnMon w.heap.size x R.2.1 vs w' ∧ OwnsP 38 w.heap.size R.2.2 (.slice ta R.2.2.length tc) w' ∧ Below w.heap.size w w'
theorem ownMon_no (n₀ : Nat) (W : World) : OwnMon n₀ ⟨none, 0, 0, none, 0, 0, none, 0, 0, none, 0, 0⟩ noM [] W :=
  ⟨ownsP_nil _ _ _, ⟨rfl, .inl ⟨rfl, rfl⟩⟩, ⟨⟨rfl, .inl ⟨rfl, rfl⟩⟩, fun _ h => absurd h (Nat.not_lt_zero _), fun _ _ _ _ h => absurd h (Nat.not_lt_zero _)⟩, ⟨rfl, .inl ⟨rfl, rfl⟩⟩⟩
theorem OwnMon.setE {n₀ E : Nat} {x : Mv} {m : Mn} {vs : List Value} {W : World} (h : OwnMon n₀ x m vs W) {ds : Array Value} (r : Rows8 W E 33 ds) (o : Nat) (u : Value) : OwnMon n₀ x m vs (W.setCell ⟨E, o, none⟩ u) :=
  h.set r (by decide) (by decide) (by decide) (by decide) (by decide) o u
theorem run_next (L : List Wt) (m : Mn) (tk : List Pr) (k : Nat) (h : k < L.length) : runM m tk (L.drop k) = if (stepM m L[k]).1 = 0 then runM (stepM m L[k]).2.1 (tk ++ (stepM m L[k]).2.2) (L.drop (k + 1)) else ((stepM m L[k]).1, m, tk) := by
  rw [List.drop_eq_getElem_cons h]
  rfl
set_option maxHeartbeats 32000000 in
theorem Try.triedM_any (x : Mv) (m : Mn) (a : Option Addr) (n cap c : Nat) (L : List Wt) (w : World) (hM : MonAt w x m) (hL : WAt w (.slice a n cap) L) (hc : ∀ l ∈ m.has, l.length ≤ c) (hcl : c + L.length ≤ 9000) :
    Calls Try.prog 57 #[.agg #[.slice x.sa x.sn x.sc, .slice x.pa x.pn x.pc, .slice x.ha x.hn x.hc, .slice x.ba x.bn x.bc], .slice a n cap] w (TriedM w (triM m L)) := by
  obtain ⟨T, hT⟩ : ∃ T, T = triM m L := ⟨_, rfl⟩
  rw [← hT]
  unfold triM at hT
  have hn := (wAt_len hL).1
  obtain ⟨u0, hu0⟩ : ∃ u, u = ((w.alloc (.cells #[.slice x.sa x.sn x.sc, .slice x.pa x.pn x.pc, .slice x.ha x.hn x.hc, .slice x.ba x.bn x.bc] 29)).alloc (.cells #[.slice none 0 0, .slice none 0 0, .slice none 0 0, .slice none 0 0, .slice none 0 0] 95)).alloc (.cells #[.int .i64 0] 33) := ⟨_, rfl⟩
  have hB0 : Below w.heap.size w u0 := by rw [hu0]; exact ((Rows8.newB).alloc (by simp) _).alloc (by simp <;> omega) _
  have hA0 : Rows8 u0 w.heap.size 29 #[.slice x.sa x.sn x.sc, .slice x.pa x.pn x.pc, .slice x.ha x.hn x.hc, .slice x.ba x.bn x.bc] := by rw [hu0]; exact ((Rows8.new _ _ _).alloc _).alloc _
  have hD0 : Rows8 u0 (w.heap.size + 1) 95 #[.slice none 0 0, .slice none 0 0, .slice none 0 0, .slice none 0 0, .slice none 0 0] := by rw [hu0]; exact (rows_new2 _ _ _ _).alloc _
  have hE0 : Rows8 u0 (w.heap.size + 1 + 1) 33 #[.int .i64 0] := by
    have h := Rows8.new ((w.alloc (.cells #[.slice x.sa x.sn x.sc, .slice x.pa x.pn x.pc, .slice x.ha x.hn x.hc, .slice x.ba x.bn x.bc] 29)).alloc (.cells #[.slice none 0 0, .slice none 0 0, .slice none 0 0, .slice none 0 0, .slice none 0 0] 95)) 33 #[.int .i64 0]
    rw [World.size_alloc, World.size_alloc] at h
    rw [hu0]
    exact h
  have hmf : ∀ (fn : Fn) (first cap : Array Value) (w : World), (Instr.makeFunc fn first cap).run Try.prog w = .ok (.func fn first cap) w := fun _ _ _ _ => rfl
  have HC := fun (W : World) (h : MonAt W x m) => Lib.hid (Try.CheckM_any x m W h)
  have HM := Lib.hid hM
  have HL := Lib.hid hL
  have HN := Lib.hid hn
  have HCC := Lib.hid hc
  have HCL := Lib.hid hcl
  have HM0 := Lib.hid (hM.below hB0)
  have HB0 := Lib.hid hB0
  have HA0 := Lib.hid hA0
  have HD0 := Lib.hid hD0
  have HE0 := Lib.hid hE0
  have HT := Lib.hid hT
  obtain ⟨q, hq⟩ : ∃ q, q = rightM m := ⟨_, rfl⟩
  rw [← hq] at HC HT
  have HQ := Lib.hid hq
  have HZ := Lib.hid (Nat.le_refl w.heap.size)
  clear hM hL hn hc hcl hB0 hA0 hD0 hE0 hT hq
  cases q with
  | false => as_aux_lemma =>
      have HT' := Lib.hid (show T = (220, noM, []) by rw [HT.out]; rfl)
      have HMU := fun W => Lib.hid (Try.must_no 220 (by decide) W)
      clear HT
      go_enter_defers Try.func57, Try.ntmps57
      go_wp2_with fail
      rw [← hu0]
      clear hu0
      refine (HC _ HM0.out).out.mono ?_
      rintro e w1 ⟨rfl, hB1⟩
      simp only [Bool.false_eq_true, if_false]
      have d1 := HD0.out.below hB1 HD0.out.lt
      have e1 := HE0.out.below hB1 HE0.out.lt
      have HB1 := Lib.hid (HB0.out.trans (hB1.mono HB0.out.size))
      have D1 := Lib.hid d1
      have E1 := Lib.hid e1
      clear hB1 d1 e1 HC HM0 HA0 HB0 HD0 HE0
      go_wp2_with fail
      refine (HMU _).out.mono ?_
      rintro e w2 ⟨rfl, rfl⟩
      clear HMU
      have hcatch := Try.mcatch_panicking (w.heap.size + 1) (w.heap.size + 1 + 1) _ _ _ _ _ (220) _ [] _ D1.out E1.out
      have s0 := (((((D1.out.set 0 (.slice none 0 0)).set 1 (.slice none 0 0)).set 2 (.slice none 0 0)).set 3 (.slice none 0 0)).set 4 (.slice none 0 0)).setOther (a := ⟨w.heap.size + 1 + 1, 0, none⟩) (by simp) (.int .i64 220)
      have s1 := (((((E1.out.setOther (a := ⟨w.heap.size + 1, 0, none⟩) (by simp) (.slice none 0 0)).setOther (a := ⟨w.heap.size + 1, 1, none⟩) (by simp) (.slice none 0 0)).setOther (a := ⟨w.heap.size + 1, 2, none⟩) (by simp) (.slice none 0 0)).setOther (a := ⟨w.heap.size + 1, 3, none⟩) (by simp) (.slice none 0 0)).setOther (a := ⟨w.heap.size + 1, 4, none⟩) (by simp) (.slice none 0 0)).set 0 (.int .i64 220)
      simp only [List.setIfInBounds_toArray, List.set_cons_zero, List.set_cons_succ] at s0 s1
      have hB6 := (((((HB1.out.setCell (p := ⟨w.heap.size + 1, 0, none⟩) (by simp) (.slice none 0 0)).setCell (p := ⟨w.heap.size + 1, 1, none⟩) (by simp) (.slice none 0 0)).setCell (p := ⟨w.heap.size + 1, 2, none⟩) (by simp) (.slice none 0 0)).setCell (p := ⟨w.heap.size + 1, 3, none⟩) (by simp) (.slice none 0 0)).setCell (p := ⟨w.heap.size + 1, 4, none⟩) (by simp) (.slice none 0 0)).setCell (p := ⟨w.heap.size + 1 + 1, 0, none⟩) (by simp <;> omega) (.int .i64 220)
      have S0 := Lib.hid s0
      have S2 := Lib.hid s1
      have HB6 := Lib.hid hB6
      have HCT := Lib.hid hcatch
      clear s0 s1 hB6 hcatch D1 E1 HB1
      unfold panicA
      go_wp2_with fail
      refine leaves_cons (f := 73) (args := #[.pointer (some ⟨w.heap.size + 1, 0, none⟩), .pointer (some ⟨w.heap.size + 1 + 1, 0, none⟩)]) (by simp) (by simp [go_sem]) ?_
      refine HCT.out.mono ?_
      rintro e u' w'' ⟨rfl, rfl, rfl⟩
      refine ⟨_, results_cc rfl _ _ (w.heap.size + 1) (w.heap.size + 1 + 1) _ _ rfl rfl (load_row S0.out Try.underlying95 rfl (by kernel_rfl)) (load_one S2.out (by kernel_rfl)), ?_⟩
      rw [HT'.out]
      exact ⟨⟨none, 0, 0, none, 0, 0, none, 0, 0, none, 0, 0⟩, [], none, 0, rfl, ownMon_no _ _, ownsP_nil _ _ _, HB6.out⟩
  | true =>
    have HT' := Lib.hid (show T = if (runM m [] L).1 = 0 then runM m [] L else ((runM m [] L).1, noM, []) by rw [HT.out]; rfl)
    have HMU := fun W => Lib.hid (Try.must_yes W)
    clear HT
    go_enter_defers Try.func57, Try.ntmps57
    go_wp2_with fail
    rw [← hu0]
    clear hu0
    refine (HC _ HM0.out).out.mono ?_
    rintro e w1 ⟨rfl, hB1⟩
    simp only [if_true]
    have a1 := HA0.out.below hB1 HA0.out.lt
    have D1 := Lib.hid (HD0.out.below hB1 HD0.out.lt)
    have E1 := Lib.hid (HE0.out.below hB1 HE0.out.lt)
    have HB1 := Lib.hid (HB0.out.trans (hB1.mono HB0.out.size))
    have HM1 := Lib.hid (HM0.out.below hB1)
    have ca0 : w1.cell? ⟨w.heap.size, 0, none⟩ = some (.slice x.sa x.sn x.sc) := a1.cell 0
    have ca1 : w1.cell? ⟨w.heap.size, 1, none⟩ = some (.slice x.pa x.pn x.pc) := a1.cell 1
    have ca2 : w1.cell? ⟨w.heap.size, 2, none⟩ = some (.slice x.ha x.hn x.hc) := a1.cell 2
    have ca3 : w1.cell? ⟨w.heap.size, 3, none⟩ = some (.slice x.ba x.bn x.bc) := a1.cell 3
    have HAL := Lib.hid (Try.alone_any x m w1 HM1.out)
    clear hB1 a1 HC HM0 HA0 HB0 HD0 HE0
    go_wp2_with fail
    refine (HMU _).out.mono ?_
    rintro e w2 ⟨rfl, rfl⟩
    clear HMU
    go_wp2_with fail
    refine HAL.out.mono ?_
    rintro e w3 ⟨g0, g1, g2, g3, rfl, ⟨vs, ho⟩, hB3⟩
    have d3 := D1.out.below hB3 D1.out.lt
    have E3 := Lib.hid (E1.out.below hB3 E1.out.lt)
    have hb3 := HB1.out.trans (hB3.mono HB1.out.size)
    have cd0 : w3.cell? ⟨w.heap.size + 1, 0, none⟩ = some (.slice none 0 0) := d3.cell 0
    have cd1 : w3.cell? ⟨w.heap.size + 1, 1, none⟩ = some (.slice none 0 0) := d3.cell 1
    have cd2 : w3.cell? ⟨w.heap.size + 1, 2, none⟩ = some (.slice none 0 0) := d3.cell 2
    have cd3 : w3.cell? ⟨w.heap.size + 1, 3, none⟩ = some (.slice none 0 0) := d3.cell 3
    have fd0 := d3.frozen 0
    have fd1 := d3.frozen 1
    have fd2 := d3.frozen 2
    have fd3 := d3.frozen 3
    have hdl := d3.lt
    have o0 := ho.mono HB1.out.size
    have q0 := d3
    have b0 := hb3
    have e0 := E3.out
    have o1 := o0.setH q0 0 (.slice (some ⟨g0, 0, none⟩) x.sn x.sn)
    have b1 := b0.setCell (p := ⟨w.heap.size + 1, 0, none⟩) (by show w.heap.size ≤ w.heap.size + 1; omega) (.slice (some ⟨g0, 0, none⟩) x.sn x.sn)
    have e1 := e0.setOther (a := ⟨w.heap.size + 1, 0, none⟩) (by simp) (.slice (some ⟨g0, 0, none⟩) x.sn x.sn)
    have q1 := q0.set 0 (.slice (some ⟨g0, 0, none⟩) x.sn x.sn)
    simp only [List.setIfInBounds_toArray, List.set_cons_zero, List.set_cons_succ] at q1
    have o2 := o1.setH q1 1 (.slice (some ⟨g1, 0, none⟩) x.pn x.pn)
    have b2 := b1.setCell (p := ⟨w.heap.size + 1, 1, none⟩) (by show w.heap.size ≤ w.heap.size + 1; omega) (.slice (some ⟨g1, 0, none⟩) x.pn x.pn)
    have e2 := e1.setOther (a := ⟨w.heap.size + 1, 1, none⟩) (by simp) (.slice (some ⟨g1, 0, none⟩) x.pn x.pn)
    have q2 := q1.set 1 (.slice (some ⟨g1, 0, none⟩) x.pn x.pn)
    simp only [List.setIfInBounds_toArray, List.set_cons_zero, List.set_cons_succ] at q2
    have o3 := o2.setH q2 2 (.slice (some ⟨g2, 0, none⟩) x.hn x.hn)
    have b3 := b2.setCell (p := ⟨w.heap.size + 1, 2, none⟩) (by show w.heap.size ≤ w.heap.size + 1; omega) (.slice (some ⟨g2, 0, none⟩) x.hn x.hn)
    have e3 := e2.setOther (a := ⟨w.heap.size + 1, 2, none⟩) (by simp) (.slice (some ⟨g2, 0, none⟩) x.hn x.hn)
    have q3 := q2.set 2 (.slice (some ⟨g2, 0, none⟩) x.hn x.hn)
    simp only [List.setIfInBounds_toArray, List.set_cons_zero, List.set_cons_succ] at q3
    have o4 := o3.setH q3 3 (.slice (some ⟨g3, 0, none⟩) x.bn x.bn)
    have b4 := b3.setCell (p := ⟨w.heap.size + 1, 3, none⟩) (by show w.heap.size ≤ w.heap.size + 1; omega) (.slice (some ⟨g3, 0, none⟩) x.bn x.bn)
    have e4 := e3.setOther (a := ⟨w.heap.size + 1, 3, none⟩) (by simp) (.slice (some ⟨g3, 0, none⟩) x.bn x.bn)
    have q4 := q3.set 3 (.slice (some ⟨g3, 0, none⟩) x.bn x.bn)
    simp only [List.setIfInBounds_toArray, List.set_cons_zero, List.set_cons_succ] at q4
    have Q4 := Lib.hid q4
    have O4 := Lib.hid o4
    have B4 := Lib.hid b4
    have E4 := Lib.hid e4
    clear ho hB3 d3 hb3 o0 HAL ca0 ca1 ca2 ca3 q0 b0 e0 q1 b1 e1 o1 q2 b2 e2 o2 q3 b3 e3 o3 q4 b4 e4 o4
    go_wp2_with fail
    have HX4 : Hid (Hd (w.heap.size + 1) w.heap.size m [] ((((w3.setCell ⟨w.heap.size + 1, 0, none⟩ (.slice (some ⟨g0, 0, none⟩) x.sn x.sn)).setCell ⟨w.heap.size + 1, 1, none⟩ (.slice (some ⟨g1, 0, none⟩) x.pn x.pn)).setCell ⟨w.heap.size + 1, 2, none⟩ (.slice (some ⟨g2, 0, none⟩) x.hn x.hn)).setCell ⟨w.heap.size + 1, 3, none⟩ (.slice (some ⟨g3, 0, none⟩) x.bn x.bn))) := Lib.hid ⟨⟨some ⟨g0, 0, none⟩, x.sn, x.sn, some ⟨g1, 0, none⟩, x.pn, x.pn, some ⟨g2, 0, none⟩, x.hn, x.hn, some ⟨g3, 0, none⟩, x.bn, x.bn⟩, none, 0, 0, vs, Q4.out, O4.out, ownsP_nil _ _ _, fun i q' _ _ => by
      show q'.ownBlock = none ∨ q'.ownBlock ≠ none
      cases q'.ownBlock <;> simp⟩
    have hn9 : n ≤ 9000 := by have := HCL.out; have := HN.out; omega
    have HK0 : Hid (okC c m) := Lib.hid ⟨HM.out.ok, right_has HQ.out.symm, HCC.out⟩
    clear Q4 O4 cd0 cd1 cd2 cd3 fd0 fd1 fd2 fd3 hdl HM1 HB1 D1 E1 HCC HQ
    generalize ((((w3.setCell ⟨w.heap.size + 1, 0, none⟩ (.slice (some ⟨g0, 0, none⟩) x.sn x.sn)).setCell ⟨w.heap.size + 1, 1, none⟩ (.slice (some ⟨g1, 0, none⟩) x.pn x.pn)).setCell ⟨w.heap.size + 1, 2, none⟩ (.slice (some ⟨g2, 0, none⟩) x.hn x.hn)).setCell ⟨w.heap.size + 1, 3, none⟩ (.slice (some ⟨g3, 0, none⟩) x.bn x.bn)) = W4 at *
    go_loopw [18] (fun j wr => ∃ (k : Nat) (mk : Mn) (tk : List Pr), k ≤ n ∧ j = .int .i64 k ∧ Hid (runM m [] L = runM mk tk (L.drop k)) ∧ Hid (okC (c + k) mk) ∧ Hid (tk.length ≤ k) ∧ Hid (Hd (w.heap.size + 1) w.heap.size mk tk wr) ∧ Hid (Below w.heap.size w wr) ∧ Hid (Rows8 wr (w.heap.size + 1 + 1) 33 #[.int .i64 0])) (fun j _ => n - (intOf j).toNat)
    case atStart => exact ⟨0, m, [], Nat.zero_le _, rfl, Lib.hid rfl, HK0, Lib.hid (Nat.le_refl _), HX4, B4, E4⟩
    case round =>
      obtain ⟨k, mk, tk, hk, rfl, hR, hok, htk, hd, hB, hE⟩ := hrel
      clear HX4 HK0 B4 E4
      by_cases hlt : k < n
      · have hki : (k : Int) < (n : Int) := by omega
        have hki0 : (0 : Int) ≤ (k : Int) := by omega
        have hkl : k < L.length := by rw [← HN.out]; exact hlt
        have hR2 := hR.out
        rw [run_next L mk tk k hkl] at hR2
        obtain ⟨b, off, rfl, hb2, z0, z1, z2, z3⟩ := wAt_get HL.out k hkl
        have p0 := (hB.out.cell (p := ⟨b, off + k * 4, none⟩) hb2).trans z0
        have p1 := (hB.out.cell (p := ⟨b, off + k * 4 + 1, none⟩) hb2).trans z1
        have p2 := (hB.out.cell (p := ⟨b, off + k * 4 + 2, none⟩) hb2).trans z2
        have p3 := (hB.out.cell (p := ⟨b, off + k * 4 + 3, none⟩) hb2).trans z3
        clear z0 z1 z2 z3
        obtain ⟨t, ht⟩ : ∃ t, t = L[k] := ⟨_, rfl⟩
        rw [← ht] at p0 p1 p2 p3 hR2
        obtain ⟨kd, gr, i, q⟩ := t
        dsimp only at p0 p1 p2 p3
        have hal : Below wr.heap.size wr (wr.alloc (.cells #[.int .i64 kd, .int .i64 gr, .int .i64 i, .int .u64 (q : Nat)] 40)) := Rows8.newB
        have hck : c + k + 1 ≤ 9000 := by have := HCL.out; have := HN.out; omega
        have HSO := Lib.hid (fun h => step_ok (t := ⟨kd, gr, i, q⟩) hok.out hck h)
        have HAC := Lib.hid (Try.watch_any (w.heap.size + 1) w.heap.size mk tk ⟨kd, gr, i, q⟩ _ (hd.out.below hal) hok.out.1 hok.out.2.1 (by have := htk.out; omega) (Nat.le_trans hB.out.size hal.size) (by omega))
        dsimp only at HAC
        have HR2 := Lib.hid hR2
        have HBX := Lib.hid (hB.out.trans (hal.mono hB.out.size))
        have HEX := Lib.hid (hE.out.below hal hE.out.lt)
        obtain ⟨ST, hST⟩ : ∃ S, S = stepM mk ⟨kd, gr, i, q⟩ := ⟨_, rfl⟩
        rw [← hST] at HAC HR2 HSO
        clear hR2 hkl hal hck ht hR hd hB hE hok hST hb2
        go_wp2_with fail
        refine HAC.out.mono ?_
        intro e w5 hQ
        rcases hQ with ⟨hp, rfl, hd5, hb5, hk5⟩ | ⟨hp, rfl, hb5, hk5, v0, v1, v2, v3, v4, hd5⟩
        · as_aux_lemma =>
            have HE5 := Lib.hid (hk5.rows HEX.out (by decide))
            have HB5 := Lib.hid (HBX.out.trans hb5)
            have HD5 := Lib.hid hd5
            have hso := HSO.out hp
            have HO5 := Lib.hid (show okC (c + (k + 1)) ST.2.1 from hso.1)
            have HT5 := Lib.hid (show (tk ++ ST.2.2).length ≤ k + 1 by have := hso.2; have := htk.out; rw [List.length_append]; omega)
            have HR5 := Lib.hid (HR2.out.trans (if_pos hp))
            clear hp hd5 hb5 hk5 hso HSO HR2 HBX HEX HAC htk p0 p1 p2 p3
            go_wp2_with fail
            exact ⟨⟨k + 1, ST.2.1, tk ++ ST.2.2, by omega, by go_num, HR5, HO5, HT5, HD5, HB5, HE5⟩, by simp [intOf]; omega⟩
        · as_aux_lemma =>
            have E1 := Lib.hid (hk5.rows HEX.out (by decide))
            have HB1 := Lib.hid (HBX.out.trans hb5)
            have D1 := Lib.hid hd5
            have HT'' := Lib.hid (show T = (ST.1, noM, []) by rw [HT'.out, HR2.out, if_neg hp]; exact if_neg hp)
            clear hp hd5 hb5 hk5 HSO HR2 HBX HEX HAC htk p0 p1 p2 p3 HT'
            have hcatch := Try.mcatch_panicking (w.heap.size + 1) (w.heap.size + 1 + 1) _ _ _ _ _ (ST.1) _ [] _ D1.out E1.out
            have s0 := (((((D1.out.set 0 (.slice none 0 0)).set 1 (.slice none 0 0)).set 2 (.slice none 0 0)).set 3 (.slice none 0 0)).set 4 (.slice none 0 0)).setOther (a := ⟨w.heap.size + 1 + 1, 0, none⟩) (by simp) (.int .i64 ST.1)
            have s1 := (((((E1.out.setOther (a := ⟨w.heap.size + 1, 0, none⟩) (by simp) (.slice none 0 0)).setOther (a := ⟨w.heap.size + 1, 1, none⟩) (by simp) (.slice none 0 0)).setOther (a := ⟨w.heap.size + 1, 2, none⟩) (by simp) (.slice none 0 0)).setOther (a := ⟨w.heap.size + 1, 3, none⟩) (by simp) (.slice none 0 0)).setOther (a := ⟨w.heap.size + 1, 4, none⟩) (by simp) (.slice none 0 0)).set 0 (.int .i64 ST.1)
            simp only [List.setIfInBounds_toArray, List.set_cons_zero, List.set_cons_succ] at s0 s1
            have hB6 := (((((HB1.out.setCell (p := ⟨w.heap.size + 1, 0, none⟩) (by simp) (.slice none 0 0)).setCell (p := ⟨w.heap.size + 1, 1, none⟩) (by simp) (.slice none 0 0)).setCell (p := ⟨w.heap.size + 1, 2, none⟩) (by simp) (.slice none 0 0)).setCell (p := ⟨w.heap.size + 1, 3, none⟩) (by simp) (.slice none 0 0)).setCell (p := ⟨w.heap.size + 1, 4, none⟩) (by simp) (.slice none 0 0)).setCell (p := ⟨w.heap.size + 1 + 1, 0, none⟩) (by simp <;> omega) (.int .i64 ST.1)
            have S0 := Lib.hid s0
            have S2 := Lib.hid s1
            have HB6 := Lib.hid hB6
            have HCT := Lib.hid hcatch
            clear s0 s1 hB6 hcatch D1 E1 HB1
            unfold panicA
            go_wp2_with fail
            refine leaves_cons (f := 73) (args := #[.pointer (some ⟨w.heap.size + 1, 0, none⟩), .pointer (some ⟨w.heap.size + 1 + 1, 0, none⟩)]) (by simp) (by simp [go_sem]) ?_
            refine HCT.out.mono ?_
            rintro e u' w'' ⟨rfl, rfl, rfl⟩
            refine ⟨_, results_cc rfl _ _ (w.heap.size + 1) (w.heap.size + 1 + 1) _ _ rfl rfl (load_row S0.out Try.underlying95 rfl (by kernel_rfl)) (load_one S2.out (by kernel_rfl)), ?_⟩
            rw [HT''.out]
            exact ⟨⟨none, 0, 0, none, 0, 0, none, 0, 0, none, 0, 0⟩, [], none, 0, rfl, ownMon_no _ _, ownsP_nil _ _ _, HB6.out⟩
      · as_aux_lemma =>
          obtain rfl : k = n := by omega
          have hki : ¬ (k : Int) < (k : Int) := by omega
          have hRR : runM m [] L = (0, mk, tk) := by rw [hR.out, List.drop_of_length_le (Nat.le_of_eq HN.out.symm)]; rfl
          have HTT := Lib.hid (show T = (0, mk, tk) by rw [HT'.out, hRR]; rfl)
          obtain ⟨y, ta, tn, tc, vs5, hx5⟩ := hd.out
          have htn : tn = tk.length := (pAt_len hx5.t.at).1
          have d5 := hx5.bx
          have e5 := hE.out
          have hdl5 := d5.lt
          have c0 : wr.cell? ⟨w.heap.size + 1, 0, none⟩ = some (.slice y.sa y.sn y.sc) := d5.cell 0
          have f0 := d5.frozen 0
          have c1 : wr.cell? ⟨w.heap.size + 1, 1, none⟩ = some (.slice y.pa y.pn y.pc) := d5.cell 1
          have f1 := d5.frozen 1
          have c2 : wr.cell? ⟨w.heap.size + 1, 2, none⟩ = some (.slice y.ha y.hn y.hc) := d5.cell 2
          have f2 := d5.frozen 2
          have c3 : wr.cell? ⟨w.heap.size + 1, 3, none⟩ = some (.slice y.ba y.bn y.bc) := d5.cell 3
          have f3 := d5.frozen 3
          have c4 : wr.cell? ⟨w.heap.size + 1, 4, none⟩ = some (.slice ta tn tc) := d5.cell 4
          have f4 := d5.frozen 4
          have ce : wr.cell? ⟨w.heap.size + 1 + 1, 0, none⟩ = some (.int .i64 0) := e5.cell 0
          have fe := e5.frozen 0
          have o0 := hx5.o
          have t0 := hx5.t
          have q0 := d5
          have b0 := hB.out
          have r0 := e5
          have o1 := o0.setH q0 0 (.slice y.sa y.sn y.sc)
          have t1 := owns_setT t0 (a := ⟨w.heap.size + 1, 0, none⟩) q0 (by decide) (.slice y.sa y.sn y.sc)
          have b1 := b0.setCell (p := ⟨w.heap.size + 1, 0, none⟩) (by show w.heap.size ≤ w.heap.size + 1; omega) (.slice y.sa y.sn y.sc)
          have r1 := r0.setOther (a := ⟨w.heap.size + 1, 0, none⟩) (by simp) (.slice y.sa y.sn y.sc)
          have q1 := q0.set 0 (.slice y.sa y.sn y.sc)
          simp only [List.setIfInBounds_toArray, List.set_cons_zero, List.set_cons_succ] at q1
          have o2 := o1.setH q1 1 (.slice y.pa y.pn y.pc)
          have t2 := owns_setT t1 (a := ⟨w.heap.size + 1, 1, none⟩) q1 (by decide) (.slice y.pa y.pn y.pc)
          have b2 := b1.setCell (p := ⟨w.heap.size + 1, 1, none⟩) (by show w.heap.size ≤ w.heap.size + 1; omega) (.slice y.pa y.pn y.pc)
          have r2 := r1.setOther (a := ⟨w.heap.size + 1, 1, none⟩) (by simp) (.slice y.pa y.pn y.pc)
          have q2 := q1.set 1 (.slice y.pa y.pn y.pc)
          simp only [List.setIfInBounds_toArray, List.set_cons_zero, List.set_cons_succ] at q2
          have o3 := o2.setH q2 2 (.slice y.ha y.hn y.hc)
          have t3 := owns_setT t2 (a := ⟨w.heap.size + 1, 2, none⟩) q2 (by decide) (.slice y.ha y.hn y.hc)
          have b3 := b2.setCell (p := ⟨w.heap.size + 1, 2, none⟩) (by show w.heap.size ≤ w.heap.size + 1; omega) (.slice y.ha y.hn y.hc)
          have r3 := r2.setOther (a := ⟨w.heap.size + 1, 2, none⟩) (by simp) (.slice y.ha y.hn y.hc)
          have q3 := q2.set 2 (.slice y.ha y.hn y.hc)
          simp only [List.setIfInBounds_toArray, List.set_cons_zero, List.set_cons_succ] at q3
          have o4 := o3.setH q3 3 (.slice y.ba y.bn y.bc)
          have t4 := owns_setT t3 (a := ⟨w.heap.size + 1, 3, none⟩) q3 (by decide) (.slice y.ba y.bn y.bc)
          have b4 := b3.setCell (p := ⟨w.heap.size + 1, 3, none⟩) (by show w.heap.size ≤ w.heap.size + 1; omega) (.slice y.ba y.bn y.bc)
          have r4 := r3.setOther (a := ⟨w.heap.size + 1, 3, none⟩) (by simp) (.slice y.ba y.bn y.bc)
          have q4 := q3.set 3 (.slice y.ba y.bn y.bc)
          simp only [List.setIfInBounds_toArray, List.set_cons_zero, List.set_cons_succ] at q4
          have o5 := o4.setH q4 4 (.slice ta tn tc)
          have t5 := owns_setT t4 (a := ⟨w.heap.size + 1, 4, none⟩) q4 (by decide) (.slice ta tn tc)
          have b5 := b4.setCell (p := ⟨w.heap.size + 1, 4, none⟩) (by show w.heap.size ≤ w.heap.size + 1; omega) (.slice ta tn tc)
          have r5 := r4.setOther (a := ⟨w.heap.size + 1, 4, none⟩) (by simp) (.slice ta tn tc)
          have q5 := q4.set 4 (.slice ta tn tc)
          simp only [List.setIfInBounds_toArray, List.set_cons_zero, List.set_cons_succ] at q5
          have S0 := Lib.hid (q5.setOther (a := ⟨w.heap.size + 1 + 1, 0, none⟩) (by simp) (.int .i64 0))
          have s1 := r5.set 0 (.int .i64 0)
          simp only [List.setIfInBounds_toArray, List.set_cons_zero, List.set_cons_succ] at s1
          have S2 := Lib.hid s1
          have O6 := Lib.hid (o5.setE r5 0 (.int .i64 0))
          have T6 := Lib.hid (owns_setT t5 (a := ⟨w.heap.size + 1 + 1, 0, none⟩) r5 (by decide) (.int .i64 0))
          have HB6 := Lib.hid (b5.setCell (p := ⟨w.heap.size + 1 + 1, 0, none⟩) (by show w.heap.size ≤ w.heap.size + 1 + 1; omega) (.int .i64 0))
          have HTN := Lib.hid htn
          clear s1 hx5 hd hR hok htk hB hE HT' hRR htn d5 e5 o0 t0 b0 r0 q0 o1 t1 b1 r1 q1 o2 t2 b2 r2 q2 o3 t3 b3 r3 q3 o4 t4 b4 r4 q4 o5 t5 b5 r5 q5
          go_wp2_with fail
          refine leaves_cons (f := 73) (args := #[.pointer (some ⟨w.heap.size + 1, 0, none⟩), .pointer (some ⟨w.heap.size + 1 + 1, 0, none⟩)]) (by simp) (by simp [go_sem]) ?_
          refine (Try.mcatch_idle ⟨w.heap.size + 1, 0, none⟩ ⟨w.heap.size + 1 + 1, 0, none⟩ _).mono ?_
          rintro e u' w'' ⟨rfl, rfl, rfl⟩
          refine ⟨_, results_cc rfl _ _ (w.heap.size + 1) (w.heap.size + 1 + 1) _ _ rfl rfl (load_row S0.out Try.underlying95 rfl (by kernel_rfl)) (load_one S2.out (by kernel_rfl)), ?_⟩
          rw [HTT.out]
          refine ⟨y, vs5, ta, tc, ?_, O6.out, ?_, HB6.out⟩
          · rw [← HTN.out]
          · dsimp only
            rw [← HTN.out]
            have h := T6.out
            unfold OwnsP at h ⊢
            rw [← HTN.out] at h ⊢
            exact h
  end Go.Proofs
