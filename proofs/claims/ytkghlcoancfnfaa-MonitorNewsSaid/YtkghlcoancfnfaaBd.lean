/- Monitor: what is wrong with an entry, or a bad touch. -/
import Derived.Test.YtkghlcoancfnfaaBb
namespace Go.Proofs
set_option maxRecDepth 100000
open Go.RowKit Go.Shelf
attribute [local go_sem] Oper.semAt_some

/-- A closure that keeps which entries it met. -/
def StH (H : Nat) (x : Mv) (g : Nat) (pre : List Pr) (cp : Array Value) (W : World) : Prop :=
  ∃ B2 B3 B5 bm : Nat, cp = #[.pointer (some ⟨B5, 0, none⟩), .pointer (some ⟨B2, 0, none⟩), .pointer (some ⟨B3, 0, none⟩)] ∧ Rows8 W B5 114 #[.map (some bm)] ∧ Rows8 W B2 79 #[.slice x.sa x.sn x.sc, .slice x.pa x.pn x.pc, .slice x.ha x.hn x.hc, .slice x.ba x.bn x.bc] ∧ Rows8 W B3 3 #[.int .i64 (g : Nat)] ∧ CntE W bm pre.length pre ∧ H ≤ bm
theorem StH.below {H : Nat} {x : Mv} {g : Nat} {pre : List Pr} {cp : Array Value} {A B : World} (h : StH H x g pre cp A) (hB : Below A.heap.size A B) : StH H x g pre cp B := by
  obtain ⟨B2, B3, B5, bm, h1, h2, h3, h4, h5, h6⟩ := h
  exact ⟨B2, B3, B5, bm, h1, h2.below hB h2.lt, h3.below hB h3.lt, h4.below hB h4.lt, h5.below hB, h6⟩
theorem rows_grownM {A B : World} {r : Nat} {D : Nat} {t : TypeId} {cs : Array Value} (hg : A.grownBy B (some r)) (hne : D ≠ r) (h : Rows8 A D t cs) : Rows8 B D t cs := (hg.block D h.lt (fun e => hne (by injection e))).trans h
theorem rows_ne_map {W : World} {D b n : Nat} {t : TypeId} {cs : Array Value} {ps : List Pr} (r : Rows8 W D t cs) (h : CntE W b n ps) : D ≠ b := fun e => by
  subst e
  obtain ⟨_, ⟨es, clock, hb, _⟩, _⟩ := h
  rw [show W.heap[D]? = _ from r] at hb
  cases hb
set_option maxHeartbeats 1000000 in
theorem Try.wrongHas_any (x : Mv) (g : Nat) (w : World) : Calls Try.prog 62 #[.agg #[.slice x.sa x.sn x.sc, .slice x.pa x.pn x.pc, .slice x.ha x.hn x.hc, .slice x.ba x.bn x.bc], .int .i64 (g : Nat)] w fun e w' => ∃ cp, e = .returned (.func (.func 77) #[] cp) ∧ StH w.heap.size x g [] cp w' ∧ Below w.heap.size w w' := by
  have hmf : ∀ (fn : Fn) (first cap : Array Value) (w : World), (Instr.makeFunc fn first cap).run Try.prog w = .ok (.func fn first cap) w := fun _ _ _ _ => rfl
  obtain ⟨u0, hu0⟩ : ∃ u, u = (w.alloc (.cells #[.slice x.sa x.sn x.sc, .slice x.pa x.pn x.pc, .slice x.ha x.hn x.hc, .slice x.ba x.bn x.bc] 79)).alloc (.cells #[.int .i64 (g : Nat)] 3) := ⟨_, rfl⟩
  have hB0 : Below w.heap.size w u0 := by rw [hu0]; exact (Rows8.newB).alloc (by simp) _
  have r2 : Rows8 u0 w.heap.size 79 #[.slice x.sa x.sn x.sc, .slice x.pa x.pn x.pc, .slice x.ha x.hn x.hc, .slice x.ba x.bn x.bc] := by rw [hu0]; exact (Rows8.new _ _ _).alloc _
  have r3 : Rows8 u0 (w.heap.size + 1) 3 #[.int .i64 (g : Nat)] := by rw [hu0]; exact rows_new2 _ _ _ _
  have hm := cntE_new u0
  obtain ⟨u1, hu1⟩ : ∃ u, u = u0.alloc (.map #[] 0) := ⟨_, rfl⟩
  have hal : Below u0.heap.size u0 u1 := by rw [hu1]; exact (Below.refl _ _).alloc (Nat.le_refl _) _
  rw [← hu1] at hm
  have r2b := r2.below hal r2.lt
  have r3b := r3.below hal r3.lt
  have hB1 := hB0.trans (hal.mono hB0.size)
  have hal2 : Below u1.heap.size u1 (u1.alloc (.cells #[.map (some u0.heap.size)] 114)) := Rows8.newB
  have hmm := @run_makeMap Try.prog
  have hR2 := Lib.hid (r2b.below hal2 r2b.lt)
  have hR3 := Lib.hid (r3b.below hal2 r3b.lt)
  have hR5 := Lib.hid (Rows8.new u1 114 #[.map (some u0.heap.size)])
  have hM := Lib.hid (hm.below hal2)
  have hB2 := Lib.hid (hB1.trans (hal2.mono hB1.size))
  have hH := Lib.hid hB0.size
  have e0 : u0.heap.size = w.heap.size + 1 + 1 := by rw [hu0]; simp
  have e1 : u1.heap.size = w.heap.size + 1 + 1 + 1 := by rw [hu1, World.size_alloc, e0]
  rw [e0] at hR2 hR3 hR5 hM hB2 hH
  rw [e1] at hR5
  clear hB0 r2 r3 hm hal r2b r3b hB1 hal2 e0 e1
  subst hu1
  subst hu0
  go_enter Try.func62, Try.ntmps62
  go_wp2_with fail
  go_ret
  exact ⟨_, rfl, ⟨_, _, _, _, rfl, hR5.out, hR2.out, hR3.out, hM.out, hH.out⟩, hB2.out⟩

theorem mem_count_snoc (l : List Pr) (e : Pr) : (l ++ [e]).count e = l.count e + 1 := by simp
set_option maxHeartbeats 4000000 in
theorem Try.wrongHas1_any (x : Mv) (m : Mn) (g : Nat) (pre : List Pr) (cp : Array Value) (e : Pr) (w₀ w : World) (hM : MonAt w₀ x m) (hw : Below w₀.heap.size w₀ w) (hS : StH w₀.heap.size x g pre cp w) (he : wfE e) (hg : g < m.pin.length) (hl : pre.length < 10000) :
    Calls Try.prog 77 (#[.agg #[.int .i64 e.1, .int .u64 (e.2 : Nat)]] ++ cp) w fun r w' => r = .returned (.bool (badH m g pre e)) ∧ StH w₀.heap.size x g (pre ++ [e]) cp w' ∧ Below w₀.heap.size w w' := by
  obtain ⟨B2, B3, B5, bm, rfl, r5, r2, r3, hc, hH⟩ := hS
  obtain ⟨i, q⟩ := e
  obtain ⟨z, hz⟩ : ∃ z, z = badH m g pre (i, q) := ⟨_, rfl⟩
  rw [← hz]
  obtain ⟨bp, op, hpa, hbp, hcp⟩ := bAt_get hM.p g hg
  obtain ⟨pt, hpt⟩ : ∃ b, b = m.pin[g] := ⟨_, rfl⟩
  rw [← hpt] at hcp
  have hz2 : z = (!pt || !entB (i, q) || decide ((i, q) ∈ pre)) := by rw [hz, hpt]; unfold badH; rw [List.getElem?_eq_getElem hg]; rfl
  have hpl := (bAt_len hM.p).1
  have hsz := hw.size
  have HSZ := Lib.hid hsz
  have hgi : ((g : Nat) : Int) < ((x.pn : Nat) : Int) := by omega
  have hgi0 : (0 : Int) ≤ ((g : Nat) : Int) := by omega
  have hal : Below w.heap.size w (w.alloc (.cells #[.int .i64 i, .int .u64 (q : Nat)] 38)) := Rows8.newB
  have hE := Rows8.new w 38 #[.int .i64 i, .int .u64 (q : Nat)]
  have r2b := r2.below hal r2.lt
  have r3b := r3.below hal r3.lt
  have r5b := r5.below hal r5.lt
  have hcb := hc.below hal
  have l5 := r5.lt
  have hcpb : (w.alloc (.cells #[.int .i64 i, .int .u64 (q : Nat)] 38)).cell? ⟨bp, op + g, none⟩ = some (.bool pt) := ((hw.trans (hal.mono hsz)).cell (p := ⟨bp, op + g, none⟩) hbp).trans hcp
  have hBw := hal
  obtain ⟨W, hW⟩ : ∃ W, W = w.alloc (.cells #[.int .i64 i, .int .u64 (q : Nat)] 38) := ⟨_, rfl⟩
  rw [← hW] at hal hE r2b r3b r5b hcb hcpb hBw
  have hcD : CntE W.drew bm pre.length pre := hcb
  obtain ⟨c, hcc⟩ : ∃ c : Nat, c = pre.count (i, q) := ⟨_, rfl⟩
  obtain ⟨v0, st, W1, W2, hme, hl2, hes, hc2, hg2, hg1, hs1⟩ := Try.cntE_step hcD (by omega) (by omega) (i, q) he
  have hl1 := Try.cntE_look hcD (i, q) he
  have hl3 := Try.cntE_look hc2 (i, q) he
  have hcl : c ≤ pre.length := by rw [hcc]; exact List.count_le_length
  have hmem : (i, q) ∈ pre ↔ 0 < c := by rw [hcc]; exact List.count_pos_iff.symm
  rw [mem_count_snoc, ← hcc] at hl3
  rw [← hcc] at hl1 hl2 hes
  dsimp only at hme hl1 hl2 hl3
  have hes9 : (Instr.entryStore 114 (.map (some bm)) (.int .i64 ((st : Nat) : Int)) (.int .i64 ((c : Int) + 1))).run Try.prog W1 = .ok () W2 := hes
  have hme9 : (Instr.mapEntry 114 (.map (some bm)) (.agg #[.int .i64 i, .int .u64 (q : Nat)])).run Try.prog W.drew = .ok (.tuple #[v0, .int .i64 ((st : Nat) : Int)]) W1 := hme
  clear hes hme
  have hwr : IntKind.i64.wrap ((c : Int) + 1) = (c : Int) + 1 := IntWalk.i64_in _ (by omega)
  have s0 : W.cell? ⟨w.heap.size, 0, none⟩ = some (.int .i64 i) := hE.cell 0
  have s1 : W.cell? ⟨w.heap.size, 1, none⟩ = some (.int .u64 (q : Nat)) := hE.cell 1
  have s5 : W.cell? ⟨B5, 0, none⟩ = some (.map (some bm)) := r5b.cell 0
  have HG2 := Lib.hid hg2
  have HWF := Lib.hid he
  have HCC := Lib.hid hcc
  have HCD := Lib.hid hcb
  have HC2 := Lib.hid hc2
  have HZ := Lib.hid hz2
  have HMEM := Lib.hid hmem
  have HBW := Lib.hid hBw
  have R2 := Lib.hid r2b
  have R3 := Lib.hid r3b
  have R5 := Lib.hid r5b
  have HE := Lib.hid hE
  have HPA := Lib.hid hpa
  have HEN := Lib.hid (Try.isEntry_any (i, q))
  have hwl : w.heap.size < W.heap.size := hE.lt
  clear hg2 hc2 hz2 hmem hBw r2b r3b r5b hE hcD hcb hal hz hcc hpt hpl hg1 hs1 r2 r3 r5 hc hM hg hcl hl he hsz hpa
  go_enter Try.func77, Try.ntmps77
  go_wp2_with fail
  rw [← hW]
  clear hW
  go_region
  have hgd : W.drew.grownBy W2 (some bm) := HG2.out
  have e2 := rows_grownM hgd (rows_ne_map HE.out HCD.out) HE.out.drewA
  have q2 := rows_grownM hgd (rows_ne_map R2.out HCD.out) R2.out.drewA
  have q3 := rows_grownM hgd (rows_ne_map R3.out HCD.out) R3.out.drewA
  have q5 := rows_grownM hgd (rows_ne_map R5.out HCD.out) R5.out.drewA
  have hbpW : bp < W.heap.size := by have := HSZ.out; omega
  have hpin : W2.cell? ⟨bp, op + g, none⟩ = some (.bool pt) := by
    have hb : W2.heap[bp]? = W.heap[bp]? := hgd.block bp hbpW (fun e => by injection e; omega)
    rw [← hcpb]
    simp [World.cell?, hb]
  have hB2 : Below w₀.heap.size w W2 := (HBW.out.mono HSZ.out).drew.grown hgd (by have := HSZ.out; show w₀.heap.size ≤ W.heap.size; omega) (fun j ej => by injection ej with ej; omega)
  have k0 : W2.cell? ⟨w.heap.size, 0, none⟩ = some (.int .i64 i) := e2.cell 0
  have k1 : W2.cell? ⟨w.heap.size, 1, none⟩ = some (.int .u64 (q : Nat)) := e2.cell 1
  have k5 : W2.cell? ⟨B5, 0, none⟩ = some (.map (some bm)) := q5.cell 0
  have k2 : W2.cell? ⟨B2, 1, none⟩ = some (.slice x.pa x.pn x.pc) := q2.cell 1
  have k3 : W2.cell? ⟨B3, 0, none⟩ = some (.int .i64 (g : Nat)) := q3.cell 0
  rw [HPA.out] at k2
  have H5 := Lib.hid q5
  have HE2 := Lib.hid e2
  have H2 := Lib.hid q2
  have H3 := Lib.hid q3
  have HB2 := Lib.hid hB2
  clear hgd e2 q2 q3 q5 hbpW hB2 hl1 hl2 hes9 hme9 hwr s0 s1 s5 hcpb hcp HG2 HCD HE R2 R3 R5 HBW
  have hfin : Hid (∀ W3, Below W2.heap.size W2 W3 → StH w₀.heap.size x g (pre ++ [(i, q)]) #[.pointer (some ⟨B5, 0, none⟩), .pointer (some ⟨B2, 0, none⟩), .pointer (some ⟨B3, 0, none⟩)] W3) := Lib.hid fun W3 hB => by
    refine StH.below ⟨B2, B3, B5, bm, rfl, H5.out, H2.out, H3.out, ?_, hH⟩ hB
    have h := HC2.out
    rw [List.length_append]
    exact h
  cases pt with
  | false =>
    have hzz : Hid (z = true) := Lib.hid (by rw [HZ.out]; rfl)
    go_wp2_with fail
    go_ret
    exact ⟨by rw [hzz.out]; rfl, hfin.out _ (Below.refl _ _), HB2.out⟩
  | true =>
    go_wp2_with fail
    refine (HEN.out W2).mono ?_
    rintro r W3 ⟨rfl, hB3⟩
    have F3 := Lib.hid (hfin.out W3 hB3)
    have HB3 := Lib.hid (HB2.out.trans (hB3.mono (Nat.le_trans HSZ.out HB2.out.size)))
    have l5 : W3.cell? ⟨B5, 0, none⟩ = some (.map (some bm)) := (H5.out.below hB3 H5.out.lt).cell 0
    have l0 : W3.cell? ⟨w.heap.size, 0, none⟩ = some (.int .i64 i) := (hB3.cell (p := ⟨w.heap.size, 0, none⟩) (by have := HE2.out.lt; exact this)).trans k0
    have l1 : W3.cell? ⟨w.heap.size, 1, none⟩ = some (.int .u64 (q : Nat)) := (hB3.cell (p := ⟨w.heap.size, 1, none⟩) (by have := HE2.out.lt; exact this)).trans k1
    have hc3 := Try.cntE_look (HC2.out.below hB3) (i, q) HWF.out
    rw [mem_count_snoc, ← HCC.out] at hc3
    dsimp only at hc3
    obtain ⟨C, hC⟩ : ∃ C, C = c + 1 := ⟨_, rfl⟩
    rw [← hC] at hc3
    clear hl3 hB3 k0 k1 k5 k2 k3
    cases he : entB (i, q) with
    | false =>
      have hzz : Hid (z = true) := Lib.hid (by rw [HZ.out, he]; rfl)
      clear he
      go_wp2_with fail
      go_ret
      exact ⟨by rw [hzz.out]; rfl, F3.out, HB3.out⟩
    | true =>
      by_cases hp : 0 < c
      · have hzz : Hid (z = true) := Lib.hid (by rw [HZ.out, he, decide_eq_true (HMEM.out.2 hp)]; rfl)
        have hgt : (1 : Int) < ((C : Nat) : Int) := by omega
        clear he hp hC
        go_wp2_with fail
        go_ret
        exact ⟨by rw [hzz.out]; first | rfl | (simp; omega), F3.out, HB3.out⟩
      · have hzz : Hid (z = false) := Lib.hid (by rw [HZ.out, he, decide_eq_false (fun h => hp (HMEM.out.1 h))]; rfl)
        have hgt : ¬ (1 : Int) < ((C : Nat) : Int) := by omega
        clear he hp hC
        go_wp2_with fail
        go_ret
        exact ⟨by rw [hzz.out]; first | rfl | (simp; omega), F3.out, HB3.out⟩

/-- A closure that tells what is wrong with a bad touch. -/
def StT (x : Mv) (cp : Array Value) (W : World) : Prop := ∃ B2 : Nat, cp = #[.pointer (some ⟨B2, 0, none⟩)] ∧ Rows8 W B2 79 #[.slice x.sa x.sn x.sc, .slice x.pa x.pn x.pc, .slice x.ha x.hn x.hc, .slice x.ba x.bn x.bc]
theorem StT.below {x : Mv} {cp : Array Value} {A B : World} (h : StT x cp A) (hB : Below A.heap.size A B) : StT x cp B := by
  obtain ⟨B2, h1, h2⟩ := h
  exact ⟨B2, h1, h2.below hB h2.lt⟩
set_option maxHeartbeats 1000000 in
theorem Try.wrongBad_any (x : Mv) (g : Nat) (w : World) : Calls Try.prog 64 #[.agg #[.slice x.sa x.sn x.sc, .slice x.pa x.pn x.pc, .slice x.ha x.hn x.hc, .slice x.ba x.bn x.bc], .int .i64 (g : Nat)] w fun e w' => ∃ cp, e = .returned (.func (.func 79) #[] cp) ∧ StT x cp w' ∧ Below w.heap.size w w' := by
  have hmf : ∀ (fn : Fn) (first cap : Array Value) (w : World), (Instr.makeFunc fn first cap).run Try.prog w = .ok (.func fn first cap) w := fun _ _ _ _ => rfl
  have hB0 : Below w.heap.size w (w.alloc (.cells #[.slice x.sa x.sn x.sc, .slice x.pa x.pn x.pc, .slice x.ha x.hn x.hc, .slice x.ba x.bn x.bc] 79)) := Rows8.newB
  have hR := Rows8.new w 79 #[.slice x.sa x.sn x.sc, .slice x.pa x.pn x.pc, .slice x.ha x.hn x.hc, .slice x.ba x.bn x.bc]
  have HB0 := Lib.hid hB0
  have HR := Lib.hid hR
  clear hB0 hR
  go_enter Try.func64, Try.ntmps64
  go_wp2_with fail
  go_ret
  exact ⟨_, rfl, ⟨_, rfl, HR.out⟩, HB0.out⟩
set_option maxHeartbeats 4000000 in
theorem Try.wrongBad1_any (x : Mv) (m : Mn) (hpl : x.pn = m.pin.length) (cp : Array Value) (e : Wt) (w : World) (hS : StT x cp w) :
    Calls Try.prog 79 (#[.agg #[.int .i64 e.kind, .int .i64 e.goer, .int .i64 e.slab, .int .u64 (e.gen : Nat)]] ++ cp) w fun r w' => r = .returned (.bool (badT m 0 [] e)) ∧ StT x cp w' ∧ Below w.heap.size w w' := by
  obtain ⟨B2, rfl, r2⟩ := hS
  have hal : Below w.heap.size w (w.alloc (.cells #[.int .i64 e.kind, .int .i64 e.goer, .int .i64 e.slab, .int .u64 (e.gen : Nat)] 40)) := Rows8.newB
  have hE := Rows8.new w 40 #[.int .i64 e.kind, .int .i64 e.goer, .int .i64 e.slab, .int .u64 (e.gen : Nat)]
  have r2b := r2.below hal r2.lt
  obtain ⟨z, hz⟩ : ∃ z, z = badT m 0 [] e := ⟨_, rfl⟩
  rw [← hz]
  unfold badT at hz
  rw [← hpl] at hz
  obtain ⟨k, g, i, q⟩ := e
  unfold Wt.ent at hz
  dsimp only at *
  obtain ⟨t1, ht1⟩ : ∃ t, t = touchB k := ⟨_, rfl⟩
  obtain ⟨t2, ht2⟩ : ∃ t, t = oneB x.pn g := ⟨_, rfl⟩
  obtain ⟨t3, ht3⟩ : ∃ t, t = entB (i, q) := ⟨_, rfl⟩
  have HT := fun W => Lib.hid (Try.isTouch_any k W)
  have HO := fun W => Lib.hid (Try.isOne_any x g W)
  have HN := fun W => Lib.hid (Try.isEntry_any (i, q) W)
  rw [← ht1, ← ht2, ← ht3] at hz
  rw [← ht1] at HT
  rw [← ht2] at HO
  rw [← ht3] at HN
  have HZ := Lib.hid hz
  have HAL := Lib.hid hal
  have HE := Lib.hid hE
  have HR := Lib.hid r2b
  have l2 := r2.lt
  clear hz ht1 ht2 ht3 hal hE r2b r2 hpl
  go_enter Try.func79, Try.ntmps79
  go_wp2_with fail
  generalize w.alloc (.cells #[.int .i64 k, .int .i64 g, .int .i64 i, .int .u64 (q : Nat)] 40) = W at *
  have b0 : W.cell? ⟨B2, 0, none⟩ = some (.slice x.sa x.sn x.sc) := HR.out.cell 0
  have b1 : W.cell? ⟨B2, 1, none⟩ = some (.slice x.pa x.pn x.pc) := HR.out.cell 1
  have b2 : W.cell? ⟨B2, 2, none⟩ = some (.slice x.ha x.hn x.hc) := HR.out.cell 2
  have b3 : W.cell? ⟨B2, 3, none⟩ = some (.slice x.ba x.bn x.bc) := HR.out.cell 3
  have k0 : W.cell? ⟨w.heap.size, 0, none⟩ = some (.int .i64 k) := HE.out.cell 0
  have k1 : W.cell? ⟨w.heap.size, 1, none⟩ = some (.int .i64 g) := HE.out.cell 1
  refine (HT W).out.mono ?_
  rintro r W1 ⟨rfl, rfl⟩
  cases t1 with
  | false =>
    have hzz : Hid (z = true) := Lib.hid (by rw [HZ.out]; rfl)
    go_wp2_with fail
    go_ret
    exact ⟨by rw [hzz.out]; rfl, ⟨_, rfl, HR.out⟩, HAL.out⟩
  | true =>
    go_wp2_with fail
    refine (HO _).out.mono ?_
    rintro r W2 ⟨rfl, hB2⟩
    have HE2 := Lib.hid (HE.out.below hB2 HE.out.lt)
    have HR2 := Lib.hid (HR.out.below hB2 HR.out.lt)
    have HA2 := Lib.hid (HAL.out.trans (hB2.mono HAL.out.size))
    have l2 : W2.cell? ⟨w.heap.size, 2, none⟩ = some (.int .i64 i) := HE2.out.cell 2
    have l3 : W2.cell? ⟨w.heap.size, 3, none⟩ = some (.int .u64 (q : Nat)) := HE2.out.cell 3
    clear hB2 k0 k1 b0 b1 b2 b3
    cases t2 with
    | false =>
      have hzz : Hid (z = true) := Lib.hid (by rw [HZ.out]; rfl)
      go_wp2_with fail
      go_ret
      exact ⟨by rw [hzz.out]; rfl, ⟨_, rfl, HR2.out⟩, HA2.out⟩
    | true =>
      go_wp2_with fail
      refine (HN _).out.mono ?_
      rintro r W3 ⟨rfl, hB3⟩
      have HR3 := Lib.hid (HR2.out.below hB3 HR2.out.lt)
      have HA3 := Lib.hid (HA2.out.trans (hB3.mono HA2.out.size))
      have hzz : Hid (z = !t3) := Lib.hid (by rw [HZ.out]; rfl)
      clear hB3 l2 l3
      go_wp2_with fail
      go_ret
      exact ⟨by rw [hzz.out]; rfl, ⟨_, rfl, HR3.out⟩, HA3.out⟩
end Go.Proofs
