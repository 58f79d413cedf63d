import Derived.Test.YtkghlcoancfnfaaBz

/- Monitor: Run. -/
namespace Go.Proofs
set_option maxRecDepth 100000
open Go.RowKit Go.Shelf
attribute [local go_sem] Oper.semAt_some

/-- A monitor, what was taken, and an error. -/
def RunQ (w : World) (R : Int × Mn × List Pr) (e : Ending) (w' : World) : Prop :=
  ∃ (x : Mv) (vs : List Value) (ta : Option Addr) (tc : Nat), e = .returned (.tuple #[.agg #[.slice x.sa x.sn x.sc, .slice x.pa x.pn x.pc, .slice x.ha x.hn x.hc, .slice x.ba x.bn x.bc], .slice ta R.2.2.length tc, .int .i64 R.1]) ∧ OwnMon w.heap.size x R.2.1 vs w' ∧ OwnsP 38 w.heap.size R.2.2 (.slice ta R.2.2.length tc) w' ∧ Below w.heap.size w w'
set_option maxHeartbeats 16000000 in
theorem Try.Run_any (x : Mv) (m : Mn) (a : Option Addr) (n cap c : Nat) (L : List Wt) (w : World) (hM : MonAt w x m) (hL : WAt w (.slice a n cap) L) (hc : ∀ l ∈ m.has, l.length ≤ c) (hcl : c + L.length ≤ 9000) :
    Calls Try.prog 29 #[.agg #[.slice x.sa x.sn x.sc, .slice x.pa x.pn x.pc, .slice x.ha x.hn x.hc, .slice x.ba x.bn x.bc], .slice a n cap] w (RunQ w (triM m L)) := by
  obtain ⟨R, hR⟩ : ∃ R, R = triM m L := ⟨_, rfl⟩
  obtain ⟨u0, hu0⟩ : ∃ u, u = (w.alloc (.cells #[.slice x.sa x.sn x.sc, .slice x.pa x.pn x.pc, .slice x.ha x.hn x.hc, .slice x.ba x.bn x.bc] 29)).alloc (.cells #[.slice none 0 0, .slice none 0 0, .slice none 0 0, .slice none 0 0] 29) := ⟨_, rfl⟩
  have hB0 : Below w.heap.size w u0 := by rw [hu0]; exact (Rows8.newB).alloc (by simp) _
  have hR0 : Rows8 u0 (w.heap.size + 1) 29 #[.slice none 0 0, .slice none 0 0, .slice none 0 0, .slice none 0 0] := by rw [hu0]; exact rows_new2 _ _ _ _
  have HTR := Lib.hid (Try.triedM_any x m a n cap c L u0 (hM.below hB0) (hL.below hB0) hc hcl)
  have HB0 := Lib.hid hB0
  have HR0 := Lib.hid hR0
  rw [← hR] at HTR ⊢
  clear hM hL hc hcl hB0 hR0 hR
  go_enter Try.func29, Try.ntmps29
  go_wp2_with fail
  rw [← hu0]
  clear hu0
  refine HTR.out.mono ?_
  rintro e w1 ⟨y, vs, ta, tc, rfl, ho, ht, hB⟩
  obtain ⟨kt, hkt⟩ : ∃ k, k = R.2.2.length := ⟨_, rfl⟩
  rw [← hkt] at ht
  have HKT := Lib.hid hkt
  rw [← hkt]
  clear hkt
  have hal : Below w1.heap.size w1 (w1.alloc (.cells #[.slice y.sa y.sn y.sc, .slice y.pa y.pn y.pc, .slice y.ha y.hn y.hc, .slice y.ba y.bn y.bc, .slice ta kt tc] 95)) := Rows8.newB
  obtain ⟨W2, hW2⟩ : ∃ W, W = w1.alloc (.cells #[.slice y.sa y.sn y.sc, .slice y.pa y.pn y.pc, .slice y.ha y.hn y.hc, .slice y.ba y.bn y.bc, .slice ta kt tc] 95) := ⟨_, rfl⟩
  have HH2 := Lib.hid (show Rows8 W2 w1.heap.size 95 #[.slice y.sa y.sn y.sc, .slice y.pa y.pn y.pc, .slice y.ha y.hn y.hc, .slice y.ba y.bn y.bc, .slice ta kt tc] by rw [hW2]; exact Rows8.new _ _ _)
  rw [← hW2] at hal
  have HR2 := Lib.hid ((HR0.out.below hB HR0.out.lt).below hal (HR0.out.below hB HR0.out.lt).lt)
  have HO2 := Lib.hid ((ho.below hal (Nat.le_refl _)).mono HB0.out.size)
  have HT2 : Hid (OwnsP 38 w.heap.size R.2.2 (.slice ta kt tc) W2) := Lib.hid ((OwnsP.below ht hal (Nat.le_refl _)).mono HB0.out.size)
  have HB2 := Lib.hid ((HB0.out.trans (hB.mono HB0.out.size)).trans (hal.mono (Nat.le_trans HB0.out.size hB.size)))
  have HSZ := Lib.hid (show w.heap.size + 1 < w1.heap.size from (HR0.out.below hB HR0.out.lt).lt)
  clear ho ht hB hal HR0 HB0 HTR
  go_wp2_with fail
  rw [← hW2]
  clear hW2
  refine wp_region_X (fun W' => Rows8 W' w1.heap.size 95 #[.slice y.sa y.sn y.sc, .slice y.pa y.pn y.pc, .slice y.ha y.hn y.hc, .slice y.ba y.bn y.bc, .slice ta kt tc]) 9 (by kernel_rfl) ?_
  have hS0 : Rows8 W2.drew w1.heap.size 95 #[.slice y.sa y.sn y.sc, .slice y.pa y.pn y.pc, .slice y.ha y.hn y.hc, .slice y.ba y.bn y.bc, .slice ta kt tc] := HH2.out.drewA
  have hr0 : Rows8 W2.drew (w.heap.size + 1) 29 #[.slice none 0 0, .slice none 0 0, .slice none 0 0, .slice none 0 0] := HR2.out.drewA
  have ho0 := HO2.out.drew
  have ht0 : OwnsP 38 w.heap.size R.2.2 (.slice ta kt tc) W2.drew := HT2.out
  have hb0 := HB2.out.drew
  clear HH2 HR2 HO2 HT2 HB2
  generalize W2.drew = Wd at *
  refine wpAnyN_take (i := 0) (oi := { dst := some 15, op := Go.Op.fieldAddr 95 (Go.Operand.tmp 7) 0, type := 0, pos := "monitor.go:49", after := #[], guard := none }) (v := .pointer (some ⟨w1.heap.size, 0, none⟩)) rfl (by decide) (by kernel_rfl) (by kernel_rfl) (by kernel_rfl) (fun _ _ _ h => h) (Or.inl ⟨by rfl, ?_⟩) hS0 ?_
  · intro W9 hS9
    clear hS9
    go_simp
  try simp only [Act.put, List.setIfInBounds_toArray, List.set_cons_zero, List.set_cons_succ]
  refine wpAnyN_take (i := 1) (oi := { dst := some 16, op := Go.Op.fieldAddr 79 (Go.Operand.tmp 15) 0, type := 0, pos := "monitor.go:49", after := #[{ on := 0, ground := Go.Ground.data }], guard := none }) (v := .pointer (some ⟨w1.heap.size, 0, none⟩)) rfl (by decide) (by kernel_rfl) (by kernel_rfl) (by kernel_rfl) (fun _ _ _ h => h) (Or.inl ⟨by rfl, ?_⟩) hS0 ?_
  · intro W9 hS9
    clear hS9
    go_simp
  try simp only [Act.put, List.setIfInBounds_toArray, List.set_cons_zero, List.set_cons_succ]
  refine wpAnyN_take (i := 2) (oi := { dst := some 17, op := Go.Op.load 29 (Go.Operand.tmp 16), type := 29, pos := "monitor.go:49", after := #[{ on := 1, ground := Go.Ground.data }], guard := none }) (v := .agg #[.slice y.sa y.sn y.sc, .slice y.pa y.pn y.pc, .slice y.ha y.hn y.hc, .slice y.ba y.bn y.bc]) rfl (by decide) (by kernel_rfl) (by kernel_rfl) (by kernel_rfl) (fun _ _ _ h => h) (Or.inl ⟨by rfl, ?_⟩) hS0 ?_
  · intro W9 hS9
    have s0 : W9.cell? ⟨w1.heap.size, 0, none⟩ = some (.slice y.sa y.sn y.sc) := hS9.cell 0
    have s1 : W9.cell? ⟨w1.heap.size, 1, none⟩ = some (.slice y.pa y.pn y.pc) := hS9.cell 1
    have s2 : W9.cell? ⟨w1.heap.size, 2, none⟩ = some (.slice y.ha y.hn y.hc) := hS9.cell 2
    have s3 : W9.cell? ⟨w1.heap.size, 3, none⟩ = some (.slice y.ba y.bn y.bc) := hS9.cell 3
    clear hS9
    go_simp
  try simp only [Act.put, List.setIfInBounds_toArray, List.set_cons_zero, List.set_cons_succ]
  refine wpAnyN_take (i := 3) (oi := { dst := some 18, op := Go.Op.fieldAddr 95 (Go.Operand.tmp 7) 1, type := 0, pos := "monitor.go:49", after := #[{ on := 6, ground := Go.Ground.gcOnly Go.Departure.lateStores }], guard := none }) (v := .pointer (some ⟨w1.heap.size, 4, none⟩)) rfl (by decide) (by kernel_rfl) (by kernel_rfl) (by kernel_rfl) (fun _ _ _ h => h) (Or.inl ⟨by rfl, ?_⟩) hS0 ?_
  · intro W9 hS9
    clear hS9
    go_simp
  try simp only [Act.put, List.setIfInBounds_toArray, List.set_cons_zero, List.set_cons_succ]
  refine wpAnyN_take (i := 4) (oi := { dst := some 19, op := Go.Op.load 62 (Go.Operand.tmp 18), type := 62, pos := "monitor.go:49", after := #[{ on := 3, ground := Go.Ground.data }, { on := 6, ground := Go.Ground.gcOnly Go.Departure.lateStores }], guard := none }) (v := .slice ta kt tc) rfl (by decide) (by kernel_rfl) (by kernel_rfl) (by kernel_rfl) (fun _ _ _ h => h) (Or.inl ⟨by rfl, ?_⟩) hS0 ?_
  · intro W9 hS9
    have s4 : W9.cell? ⟨w1.heap.size, 4, none⟩ = some (.slice ta kt tc) := hS9.cell 4
    clear hS9
    go_simp
  try simp only [Act.put, List.setIfInBounds_toArray, List.set_cons_zero, List.set_cons_succ]
  refine wpAnyN_take (i := 5) (oi := { dst := some 20, op := Go.Op.move (Go.Operand.tmp 8), type := 33, pos := "monitor.go:49", after := #[{ on := 7, ground := Go.Ground.gcOnly Go.Departure.lateStores }], guard := none }) (v := .int .i64 R.1) rfl (by decide) (by kernel_rfl) (by kernel_rfl) (by kernel_rfl) (fun _ _ _ h => h) (Or.inl ⟨by rfl, ?_⟩) hS0 ?_
  · intro W9 hS9
    clear hS9
    go_simp
  try simp only [Act.put, List.setIfInBounds_toArray, List.set_cons_zero, List.set_cons_succ]
  refine wpAnyX_one (i := 6) (o := { dst := none, op := Go.Op.store 29 (Go.Operand.tmp 4) (Go.Operand.tmp 17), type := 0, pos := "monitor.go:49", after := #[{ on := 2, ground := Go.Ground.data }, { on := 0, ground := Go.Ground.phase }, { on := 1, ground := Go.Ground.phase }, { on := 2, ground := Go.Ground.phase }, { on := 3, ground := Go.Ground.textOnly Go.Departure.lateStores }, { on := 4, ground := Go.Ground.textOnly Go.Departure.lateStores }, { on := 5, ground := Go.Ground.textOnly Go.Departure.lateStores }], guard := none }) (by kernel_rfl) rfl (fun K hK => ?_)
  have ck0 : Wd.cell? ⟨w.heap.size + 1, 0, none⟩ = some (.slice none 0 0) := hr0.cell 0
  have fk0 := hr0.frozen 0
  have ck1 : Wd.cell? ⟨w.heap.size + 1, 1, none⟩ = some (.slice none 0 0) := hr0.cell 1
  have fk1 := hr0.frozen 1
  have ck2 : Wd.cell? ⟨w.heap.size + 1, 2, none⟩ = some (.slice none 0 0) := hr0.cell 2
  have fk2 := hr0.frozen 2
  have ck3 : Wd.cell? ⟨w.heap.size + 1, 3, none⟩ = some (.slice none 0 0) := hr0.cell 3
  have fk3 := hr0.frozen 3
  have hlt := hr0.lt
  refine step_skip_g (by rfl) (w' := ((((Wd.setCell ⟨w.heap.size + 1, 0, none⟩ (.slice y.sa y.sn y.sc)).setCell ⟨w.heap.size + 1, 1, none⟩ (.slice y.pa y.pn y.pc)).setCell ⟨w.heap.size + 1, 2, none⟩ (.slice y.ha y.hn y.hc)).setCell ⟨w.heap.size + 1, 3, none⟩ (.slice y.ba y.bn y.bc))) (by go_simp) ?_
  clear ck0 fk0 ck1 fk1 ck2 fk2 ck3 fk3 hlt
  have hS1 := hS0.setOther (a := ⟨w.heap.size + 1, 0, none⟩) (by show w.heap.size + 1 ≠ w1.heap.size; have := HSZ.out; omega) (.slice y.sa y.sn y.sc)
  have ho1 := ho0.set hr0 (by decide) (by decide) (by decide) (by decide) (by decide) 0 (.slice y.sa y.sn y.sc)
  have ht1 := owns_setT ht0 (a := ⟨w.heap.size + 1, 0, none⟩) hr0 (by decide) (.slice y.sa y.sn y.sc)
  have hb1 := hb0.setCell (p := ⟨w.heap.size + 1, 0, none⟩) (by show w.heap.size ≤ w.heap.size + 1; omega) (.slice y.sa y.sn y.sc)
  have hr1 := hr0.set 0 (.slice y.sa y.sn y.sc)
  simp only [List.setIfInBounds_toArray, List.set_cons_zero, List.set_cons_succ] at hr1
  have hS2 := hS1.setOther (a := ⟨w.heap.size + 1, 1, none⟩) (by show w.heap.size + 1 ≠ w1.heap.size; have := HSZ.out; omega) (.slice y.pa y.pn y.pc)
  have ho2 := ho1.set hr1 (by decide) (by decide) (by decide) (by decide) (by decide) 1 (.slice y.pa y.pn y.pc)
  have ht2 := owns_setT ht1 (a := ⟨w.heap.size + 1, 1, none⟩) hr1 (by decide) (.slice y.pa y.pn y.pc)
  have hb2 := hb1.setCell (p := ⟨w.heap.size + 1, 1, none⟩) (by show w.heap.size ≤ w.heap.size + 1; omega) (.slice y.pa y.pn y.pc)
  have hr2 := hr1.set 1 (.slice y.pa y.pn y.pc)
  simp only [List.setIfInBounds_toArray, List.set_cons_zero, List.set_cons_succ] at hr2
  have hS3 := hS2.setOther (a := ⟨w.heap.size + 1, 2, none⟩) (by show w.heap.size + 1 ≠ w1.heap.size; have := HSZ.out; omega) (.slice y.ha y.hn y.hc)
  have ho3 := ho2.set hr2 (by decide) (by decide) (by decide) (by decide) (by decide) 2 (.slice y.ha y.hn y.hc)
  have ht3 := owns_setT ht2 (a := ⟨w.heap.size + 1, 2, none⟩) hr2 (by decide) (.slice y.ha y.hn y.hc)
  have hb3 := hb2.setCell (p := ⟨w.heap.size + 1, 2, none⟩) (by show w.heap.size ≤ w.heap.size + 1; omega) (.slice y.ha y.hn y.hc)
  have hr3 := hr2.set 2 (.slice y.ha y.hn y.hc)
  simp only [List.setIfInBounds_toArray, List.set_cons_zero, List.set_cons_succ] at hr3
  have hS4 := hS3.setOther (a := ⟨w.heap.size + 1, 3, none⟩) (by show w.heap.size + 1 ≠ w1.heap.size; have := HSZ.out; omega) (.slice y.ba y.bn y.bc)
  have ho4 := ho3.set hr3 (by decide) (by decide) (by decide) (by decide) (by decide) 3 (.slice y.ba y.bn y.bc)
  have ht4 := owns_setT ht3 (a := ⟨w.heap.size + 1, 3, none⟩) hr3 (by decide) (.slice y.ba y.bn y.bc)
  have hb4 := hb3.setCell (p := ⟨w.heap.size + 1, 3, none⟩) (by show w.heap.size ≤ w.heap.size + 1; omega) (.slice y.ba y.bn y.bc)
  have hr4 := hr3.set 3 (.slice y.ba y.bn y.bc)
  simp only [List.setIfInBounds_toArray, List.set_cons_zero, List.set_cons_succ] at hr4
  have HR4 := Lib.hid hr4
  have HO4 := Lib.hid ho4
  have HT4 := Lib.hid ht4
  have HB4 := Lib.hid hb4
  clear hr0 ho0 ht0 hb0 hr1 ho1 ht1 hb1 hr2 ho2 ht2 hb2 hr3 ho3 ht3 hb3 hr4 ho4 ht4 hb4
  refine hK.out _ _ (fun _ => hS4) ?_
  clear hK K
  try simp only [Act.put, List.setIfInBounds_toArray, List.set_cons_zero, List.set_cons_succ]
  generalize ((((Wd.setCell ⟨w.heap.size + 1, 0, none⟩ (.slice y.sa y.sn y.sc)).setCell ⟨w.heap.size + 1, 1, none⟩ (.slice y.pa y.pn y.pc)).setCell ⟨w.heap.size + 1, 2, none⟩ (.slice y.ha y.hn y.hc)).setCell ⟨w.heap.size + 1, 3, none⟩ (.slice y.ba y.bn y.bc)) = W5 at *
  refine wpAnyN_take (i := 7) (oi := { dst := some 5, op := Go.Op.assign (Go.Operand.tmp 19), type := 62, pos := "monitor.go:49", after := #[{ on := 4, ground := Go.Ground.data }, { on := 6, ground := Go.Ground.chain }, { on := 0, ground := Go.Ground.phase }, { on := 1, ground := Go.Ground.phase }, { on := 2, ground := Go.Ground.phase }, { on := 3, ground := Go.Ground.phase }, { on := 4, ground := Go.Ground.phase }, { on := 5, ground := Go.Ground.textOnly Go.Departure.lateStores }, { on := 6, ground := Go.Ground.phase }], guard := none }) (v := .slice ta kt tc) rfl (by decide) (by kernel_rfl) (by kernel_rfl) (by kernel_rfl) (fun _ _ _ h => h) (Or.inl ⟨by rfl, ?_⟩) hS4 ?_
  · intro W9 hS9
    clear hS9
    go_simp
  try simp only [Act.put, List.setIfInBounds_toArray, List.set_cons_zero, List.set_cons_succ]
  refine wpAnyN_take (i := 8) (oi := { dst := some 6, op := Go.Op.assign (Go.Operand.tmp 20), type := 33, pos := "monitor.go:49", after := #[{ on := 5, ground := Go.Ground.data }, { on := 7, ground := Go.Ground.chain }, { on := 0, ground := Go.Ground.phase }, { on := 1, ground := Go.Ground.phase }, { on := 2, ground := Go.Ground.phase }, { on := 3, ground := Go.Ground.phase }, { on := 4, ground := Go.Ground.phase }, { on := 5, ground := Go.Ground.phase }, { on := 6, ground := Go.Ground.phase }, { on := 7, ground := Go.Ground.phase }], guard := none }) (v := .int .i64 R.1) rfl (by decide) (by kernel_rfl) (by kernel_rfl) (by kernel_rfl) (fun _ _ _ h => h) (Or.inl ⟨by rfl, ?_⟩) hS4 ?_
  · intro W9 hS9
    clear hS9
    go_simp
  try simp only [Act.put, List.setIfInBounds_toArray, List.set_cons_zero, List.set_cons_succ]
  refine wpAnyX_end (by kernel_rfl) ?_
  go_wp2_with fail
  refine bodyPost_ret (results_ctt rfl _ _ (w.heap.size + 1) _ _ _ rfl rfl rfl (load_row HR4.out Try.underlying29 rfl (by kernel_rfl))) rfl ?_
  refine ⟨y, vs, ta, tc, by rw [← HKT.out]; rfl, HO4.out, by rw [← HKT.out]; exact HT4.out, HB4.out⟩
end Go.Proofs

/- Monitor: Do. -/
namespace Go.Proofs
set_option maxRecDepth 100000
open Go.RowKit Go.Shelf
attribute [local go_sem] Oper.semAt_some

theorem owns_setLow {n₀ k n B : Nat} {T : TypeId} {v : Value} {cs : List Value} {W : World} (h : W.ownsRow n₀ T k v n cs) (hB : B < n₀) (o : Nat) (u : Value) : (W.setCell ⟨B, o, none⟩ u).ownsRow n₀ T k v n cs :=
  World.ownsRow.kept h (grownBy_set W B o u) (.inr fun e => by have := (World.ownsRow.lt h B e).1; omega)
theorem OwnMon.setLow {n₀ B : Nat} {x : Mv} {m : Mn} {vs : List Value} {W : World} (h : OwnMon n₀ x m vs W) (hB : B < n₀) (o : Nat) (u : Value) : OwnMon n₀ x m vs (W.setCell ⟨B, o, none⟩ u) :=
  ⟨owns_setLow h.s hB o u, owns_setLow h.p hB o u, h.h.kept (grownBy_set W B o u) (.inr fun e => by have := (World.ownsRow.lt h.h.row B e).1; omega) (fun i q hi e => .inr fun e2 => by
    obtain ⟨q', e', ho⟩ := h.h.el i hi
    rw [e] at e'
    cases e'
    have := (World.ownsRow.lt ho B e2).1
    omega), owns_setLow h.b hB o u⟩
theorem results_cct {P : Program} {fn : Func} {p q r : Tmp} {ty uy : TypeId} (h : fn.results = #[.cell p ty, .cell q uy, .tmp r]) (tmps : Array Value) (w : World) (B C : Nat) (u v y : Value)
    (hp : tmps.getD p undef = .pointer (some ⟨B, 0, none⟩)) (hq : tmps.getD q undef = .pointer (some ⟨C, 0, none⟩)) (hy : tmps.getD r undef = y) (h1 : (loadVar ty ⟨B, 0, none⟩).run P w = .ok u w) (h2 : (loadVar uy ⟨C, 0, none⟩).run P w = .ok v w) :
    (results fn tmps).run P w = .ok (.tuple #[u, v, y]) w := by
  have hp' : tmps[p]?.getD undef = .pointer (some ⟨B, 0, none⟩) := by simpa using hp
  have hq' : tmps[q]?.getD undef = .pointer (some ⟨C, 0, none⟩) := by simpa using hq
  have hy' : tmps[r]?.getD undef = y := by simpa using hy
  simp [results, h, hp', hq', hy', asAddr, h1, h2, Result.andThen]
/-- A monitor, the entry that was taken, and an error. -/
def DoQ (w : World) (R : Int × Mn × List Pr) (e : Ending) (w' : World) : Prop :=
  ∃ (x : Mv) (vs : List Value), e = .returned (.tuple #[.agg #[.slice x.sa x.sn x.sc, .slice x.pa x.pn x.pc, .slice x.ha x.hn x.hc, .slice x.ba x.bn x.bc], .agg #[.int .i64 (R.2.2.headD (0, 0)).1, .int .u64 ((R.2.2.headD (0, 0)).2 : Nat)], .int .i64 R.1]) ∧ OwnMon w.heap.size x R.2.1 vs w' ∧ Below w.heap.size w w'
set_option maxHeartbeats 16000000 in
theorem Try.Do_any (x : Mv) (m : Mn) (t : Wt) (c : Nat) (w : World) (hM : MonAt w x m) (hc : ∀ l ∈ m.has, l.length ≤ c) (hcl : c + 1 ≤ 9000) :
    Calls Try.prog 24 #[.agg #[.slice x.sa x.sn x.sc, .slice x.pa x.pn x.pc, .slice x.ha x.hn x.hc, .slice x.ba x.bn x.bc], .agg #[.int .i64 t.kind, .int .i64 t.goer, .int .i64 t.slab, .int .u64 (t.gen : Nat)]] w (DoQ w (triM m [t])) := by
  obtain ⟨R, hR⟩ : ∃ R, R = triM m [t] := ⟨_, rfl⟩
  obtain ⟨kd, gr, i, q⟩ := t
  obtain ⟨u0, hu0⟩ : ∃ u, u = ((((w.alloc (.cells #[.slice x.sa x.sn x.sc, .slice x.pa x.pn x.pc, .slice x.ha x.hn x.hc, .slice x.ba x.bn x.bc] 29)).alloc (.cells #[.int .i64 kd, .int .i64 gr, .int .i64 i, .int .u64 (q : Nat)] 40)).alloc (.cells #[.slice none 0 0, .slice none 0 0, .slice none 0 0, .slice none 0 0] 29)).alloc (.cells #[.int .i64 0, .int .u64 0] 38)) := ⟨_, rfl⟩
  have hsz : u0.heap.size = w.heap.size + 1 + 1 + 1 + 1 := by rw [hu0]; simp only [World.size_alloc]
  obtain ⟨u1, hu1⟩ : ∃ u, u = u0.alloc (.cells #[.int .i64 kd, .int .i64 gr, .int .i64 i, .int .u64 (q : Nat)] 40) := ⟨_, rfl⟩
  have hB0 : Below w.heap.size w u0 := by rw [hu0]; exact (((Rows8.newB).alloc (by simp) _).alloc (by simp <;> omega) _).alloc (by simp <;> omega) _
  have hB1 : Below w.heap.size w u1 := by rw [hu1]; exact hB0.alloc (by omega) _
  have hlit := lit_atW u0 kd gr i q
  rw [← hu1, hsz] at hlit
  have hR1 : Rows8 u1 (w.heap.size + 1 + 1) 29 #[.slice none 0 0, .slice none 0 0, .slice none 0 0, .slice none 0 0] := by
    have h := Rows8.new ((w.alloc (.cells #[.slice x.sa x.sn x.sc, .slice x.pa x.pn x.pc, .slice x.ha x.hn x.hc, .slice x.ba x.bn x.bc] 29)).alloc (.cells #[.int .i64 kd, .int .i64 gr, .int .i64 i, .int .u64 (q : Nat)] 40)) 29 #[.slice none 0 0, .slice none 0 0, .slice none 0 0, .slice none 0 0]
    rw [World.size_alloc, World.size_alloc] at h
    rw [hu1, hu0]
    exact (h.alloc _).alloc _
  have hX1 : Rows8 u1 (w.heap.size + 1 + 1 + 1) 38 #[.int .i64 0, .int .u64 0] := by
    have h := Rows8.new (((w.alloc (.cells #[.slice x.sa x.sn x.sc, .slice x.pa x.pn x.pc, .slice x.ha x.hn x.hc, .slice x.ba x.bn x.bc] 29)).alloc (.cells #[.int .i64 kd, .int .i64 gr, .int .i64 i, .int .u64 (q : Nat)] 40)).alloc (.cells #[.slice none 0 0, .slice none 0 0, .slice none 0 0, .slice none 0 0] 29)) 38 #[.int .i64 0, .int .u64 0]
    rw [World.size_alloc, World.size_alloc, World.size_alloc] at h
    rw [hu1, hu0]
    exact h.alloc _
  have hs1 : u1.heap.size = w.heap.size + 1 + 1 + 1 + 1 + 1 := by rw [hu1, World.size_alloc, hsz]
  have HTR := Lib.hid (Try.triedM_any x m (some ⟨w.heap.size + 1 + 1 + 1 + 1, 0, none⟩) 1 1 c [⟨kd, gr, i, q⟩] u1 (hM.below hB1) hlit hc hcl)
  rw [hu0] at hu1
  have HB0 := Lib.hid hB1
  have HR0 := Lib.hid hR1
  have HX0 := Lib.hid hX1
  have HS1 := Lib.hid hs1
  rw [← hR] at HTR ⊢
  clear hM hc hcl hB0 hB1 hR hlit hR1 hX1 hs1 hsz hu0
  go_enter Try.func24, Try.ntmps24
  go_wp2_with fail
  rw [← hu1]
  clear hu1
  refine HTR.out.mono ?_
  rintro e w1 ⟨y, vs, ta, tc, rfl, ho, ht, hB⟩
  obtain ⟨kt, hkt⟩ : ∃ k, k = R.2.2.length := ⟨_, rfl⟩
  rw [← hkt] at ht
  have HKT := Lib.hid hkt
  rw [← hkt]
  clear hkt
  obtain ⟨n1, hn1⟩ : ∃ n, n = u1.heap.size := ⟨_, rfl⟩
  rw [← hn1] at ho ht hB
  have HN1 := Lib.hid (show n1 = w.heap.size + 1 + 1 + 1 + 1 + 1 from hn1.trans HS1.out)
  have hal : Below w1.heap.size w1 (w1.alloc (.cells #[.slice y.sa y.sn y.sc, .slice y.pa y.pn y.pc, .slice y.ha y.hn y.hc, .slice y.ba y.bn y.bc, .slice ta kt tc] 95)) := Rows8.newB
  obtain ⟨W2, hW2⟩ : ∃ W, W = w1.alloc (.cells #[.slice y.sa y.sn y.sc, .slice y.pa y.pn y.pc, .slice y.ha y.hn y.hc, .slice y.ba y.bn y.bc, .slice ta kt tc] 95) := ⟨_, rfl⟩
  have HH2 := Lib.hid (show Rows8 W2 w1.heap.size 95 #[.slice y.sa y.sn y.sc, .slice y.pa y.pn y.pc, .slice y.ha y.hn y.hc, .slice y.ba y.bn y.bc, .slice ta kt tc] by rw [hW2]; exact Rows8.new _ _ _)
  rw [← hW2] at hal
  rw [hn1] at hB
  have HR2 := Lib.hid ((HR0.out.below hB HR0.out.lt).below hal (HR0.out.below hB HR0.out.lt).lt)
  have HX2 := Lib.hid ((HX0.out.below hB HX0.out.lt).below hal (HX0.out.below hB HX0.out.lt).lt)
  have HO2 := Lib.hid (ho.below hal (Nat.le_refl _))
  have HT2 : Hid (OwnsP 38 n1 R.2.2 (.slice ta kt tc) W2) := Lib.hid (OwnsP.below ht hal (Nat.le_refl _))
  have HB2 := Lib.hid ((HB0.out.trans (hB.mono HB0.out.size)).trans (hal.mono (Nat.le_trans HB0.out.size hB.size)))
  have HSZ := Lib.hid (show w.heap.size + 1 + 1 + 1 < w1.heap.size from (HX0.out.below hB HX0.out.lt).lt)
  have c4 : W2.cell? ⟨w1.heap.size, 4, none⟩ = some (.slice ta kt tc) := HH2.out.cell 4
  clear ho ht hB hal HR0 HX0 HB0 HTR hn1 HS1
  cases kt with
  | zero =>
    have HE := Lib.hid (List.eq_nil_of_length_eq_zero HKT.out.symm)
    have ck0 : W2.cell? ⟨w1.heap.size, 0, none⟩ = some (.slice y.sa y.sn y.sc) := HH2.out.cell 0
    have dk0 : W2.cell? ⟨w.heap.size + 1 + 1, 0, none⟩ = some (.slice none 0 0) := HR2.out.cell 0
    have gk0 := HR2.out.frozen 0
    have ck1 : W2.cell? ⟨w1.heap.size, 1, none⟩ = some (.slice y.pa y.pn y.pc) := HH2.out.cell 1
    have dk1 : W2.cell? ⟨w.heap.size + 1 + 1, 1, none⟩ = some (.slice none 0 0) := HR2.out.cell 1
    have gk1 := HR2.out.frozen 1
    have ck2 : W2.cell? ⟨w1.heap.size, 2, none⟩ = some (.slice y.ha y.hn y.hc) := HH2.out.cell 2
    have dk2 : W2.cell? ⟨w.heap.size + 1 + 1, 2, none⟩ = some (.slice none 0 0) := HR2.out.cell 2
    have gk2 := HR2.out.frozen 2
    have ck3 : W2.cell? ⟨w1.heap.size, 3, none⟩ = some (.slice y.ba y.bn y.bc) := HH2.out.cell 3
    have dk3 : W2.cell? ⟨w.heap.size + 1 + 1, 3, none⟩ = some (.slice none 0 0) := HR2.out.cell 3
    have gk3 := HR2.out.frozen 3
    have ek0 : W2.cell? ⟨w.heap.size + 1 + 1 + 1, 0, none⟩ = some (.int .i64 0) := HX2.out.cell 0
    have ek1 : W2.cell? ⟨w.heap.size + 1 + 1 + 1, 1, none⟩ = some (.int .u64 0) := HX2.out.cell 1
    have hk0 := HX2.out.frozen 0
    have hk1 := HX2.out.frozen 1
    have hr0 := HR2.out
    have ho0 := HO2.out
    have he0 := HX2.out
    have hb0 := HB2.out
    have ho1 := ho0.setLow (show w.heap.size + 1 + 1 < n1 by have := HN1.out; omega) 0 (.slice y.sa y.sn y.sc)
    have hb1 := hb0.setCell (p := ⟨w.heap.size + 1 + 1, 0, none⟩) (by show w.heap.size ≤ w.heap.size + 1 + 1; omega) (.slice y.sa y.sn y.sc)
    have he1 := he0.setOther (a := ⟨w.heap.size + 1 + 1, 0, none⟩) (by show w.heap.size + 1 + 1 ≠ w.heap.size + 1 + 1 + 1; omega) (.slice y.sa y.sn y.sc)
    have hr1 := hr0.set 0 (.slice y.sa y.sn y.sc)
    simp only [List.setIfInBounds_toArray, List.set_cons_zero, List.set_cons_succ] at hr1
    have ho2 := ho1.setLow (show w.heap.size + 1 + 1 < n1 by have := HN1.out; omega) 1 (.slice y.pa y.pn y.pc)
    have hb2 := hb1.setCell (p := ⟨w.heap.size + 1 + 1, 1, none⟩) (by show w.heap.size ≤ w.heap.size + 1 + 1; omega) (.slice y.pa y.pn y.pc)
    have he2 := he1.setOther (a := ⟨w.heap.size + 1 + 1, 1, none⟩) (by show w.heap.size + 1 + 1 ≠ w.heap.size + 1 + 1 + 1; omega) (.slice y.pa y.pn y.pc)
    have hr2 := hr1.set 1 (.slice y.pa y.pn y.pc)
    simp only [List.setIfInBounds_toArray, List.set_cons_zero, List.set_cons_succ] at hr2
    have ho3 := ho2.setLow (show w.heap.size + 1 + 1 < n1 by have := HN1.out; omega) 2 (.slice y.ha y.hn y.hc)
    have hb3 := hb2.setCell (p := ⟨w.heap.size + 1 + 1, 2, none⟩) (by show w.heap.size ≤ w.heap.size + 1 + 1; omega) (.slice y.ha y.hn y.hc)
    have he3 := he2.setOther (a := ⟨w.heap.size + 1 + 1, 2, none⟩) (by show w.heap.size + 1 + 1 ≠ w.heap.size + 1 + 1 + 1; omega) (.slice y.ha y.hn y.hc)
    have hr3 := hr2.set 2 (.slice y.ha y.hn y.hc)
    simp only [List.setIfInBounds_toArray, List.set_cons_zero, List.set_cons_succ] at hr3
    have ho4 := ho3.setLow (show w.heap.size + 1 + 1 < n1 by have := HN1.out; omega) 3 (.slice y.ba y.bn y.bc)
    have hb4 := hb3.setCell (p := ⟨w.heap.size + 1 + 1, 3, none⟩) (by show w.heap.size ≤ w.heap.size + 1 + 1; omega) (.slice y.ba y.bn y.bc)
    have he4 := he3.setOther (a := ⟨w.heap.size + 1 + 1, 3, none⟩) (by show w.heap.size + 1 + 1 ≠ w.heap.size + 1 + 1 + 1; omega) (.slice y.ba y.bn y.bc)
    have hr4 := hr3.set 3 (.slice y.ba y.bn y.bc)
    simp only [List.setIfInBounds_toArray, List.set_cons_zero, List.set_cons_succ] at hr4
    have ho5 := ho4.setLow (show w.heap.size + 1 + 1 + 1 < n1 by have := HN1.out; omega) 0 (.int .i64 0)
    have hb5 := hb4.setCell (p := ⟨w.heap.size + 1 + 1 + 1, 0, none⟩) (by show w.heap.size ≤ w.heap.size + 1 + 1 + 1; omega) (.int .i64 0)
    have hr5 := hr4.setOther (a := ⟨w.heap.size + 1 + 1 + 1, 0, none⟩) (by show w.heap.size + 1 + 1 + 1 ≠ w.heap.size + 1 + 1; omega) (.int .i64 0)
    have he5 := he4.set 0 (.int .i64 0)
    simp only [List.setIfInBounds_toArray, List.set_cons_zero, List.set_cons_succ] at he5
    have ho6 := ho5.setLow (show w.heap.size + 1 + 1 + 1 < n1 by have := HN1.out; omega) 1 (.int .u64 0)
    have hb6 := hb5.setCell (p := ⟨w.heap.size + 1 + 1 + 1, 1, none⟩) (by show w.heap.size ≤ w.heap.size + 1 + 1 + 1; omega) (.int .u64 0)
    have hr6 := hr5.setOther (a := ⟨w.heap.size + 1 + 1 + 1, 1, none⟩) (by show w.heap.size + 1 + 1 + 1 ≠ w.heap.size + 1 + 1; omega) (.int .u64 0)
    have he6 := he5.set 1 (.int .u64 0)
    simp only [List.setIfInBounds_toArray, List.set_cons_zero, List.set_cons_succ] at he6
    have HR4 := Lib.hid hr6
    have HE4 := Lib.hid he6
    have HO4 := Lib.hid ho6
    have HB4 := Lib.hid hb6
    clear hr0 ho0 hb0 he0 hr1 ho1 hb1 he1 hr2 ho2 hb2 he2 hr3 ho3 hb3 he3 hr4 ho4 hb4 he4 hr5 ho5 hb5 he5 hr6 ho6 hb6 he6
    subst hW2
    go_wp2_with fail
    refine bodyPost_ret (results_cct rfl _ _ (w.heap.size + 1 + 1) (w.heap.size + 1 + 1 + 1) _ _ _ rfl rfl rfl (load_row HR4.out Try.underlying29 rfl (by kernel_rfl)) (load_row HE4.out Try.underlying38 rfl (by kernel_rfl))) rfl ?_
    exact ⟨y, vs, by rw [HE.out]; rfl, HO4.out.mono (by have := HN1.out; omega), HB4.out⟩
  | succ kk =>
    obtain ⟨en, es, hen⟩ : ∃ e l, R.2.2 = e :: l := by
      cases h : R.2.2 with
      | nil => have h2 := HKT.out; rw [h] at h2; simp at h2
      | cons e l => exact ⟨e, l, rfl⟩
    have hT2 := HT2.out
    rw [hen] at hT2
    obtain ⟨tb, tcs, hta, htb, -, hrt, hu0, hu1⟩ := hT2.block 0 (by simp)
    subst hta
    obtain ⟨e0, e1⟩ := en
    have HEN := Lib.hid hen
    have HE0 := Lib.hid ((hrt.cell 0).symm.trans hu0)
    have HE1 := Lib.hid ((hrt.cell 1).symm.trans hu1)
    have HNT := Lib.hid (show w.heap.size + 1 + 1 ≠ tb by have := HN1.out; omega)
    have HNU := Lib.hid (show w.heap.size + 1 + 1 + 1 ≠ tb by have := HN1.out; omega)
    have HTB := Lib.hid hrt
    have hki : ¬ (((kk + 1 : Nat) : Int) = 0) := by omega
    have hk0 : 0 < kk + 1 := by omega
    rw [hW2] at c4
    have HW2 := Lib.hid hW2
    clear hT2 hen htb hrt hu0 hu1 hW2
    go_wp2_with fail
    rw [← HW2.out]
    clear c4
    refine wp_region_X (fun W' => Rows8 W' w1.heap.size 95 #[.slice y.sa y.sn y.sc, .slice y.pa y.pn y.pc, .slice y.ha y.hn y.hc, .slice y.ba y.bn y.bc, .slice (some ⟨tb, 0, none⟩) (kk + 1) tc] ∧ Rows8 W' tb 38 tcs) 11 (by kernel_rfl) ?_
    have hS0 : Rows8 W2.drew w1.heap.size 95 #[.slice y.sa y.sn y.sc, .slice y.pa y.pn y.pc, .slice y.ha y.hn y.hc, .slice y.ba y.bn y.bc, .slice (some ⟨tb, 0, none⟩) (kk + 1) tc] ∧ Rows8 W2.drew tb 38 tcs := ⟨HH2.out.drewA, HTB.out.drewA⟩
    have hr0 : Rows8 W2.drew (w.heap.size + 1 + 1) 29 #[.slice none 0 0, .slice none 0 0, .slice none 0 0, .slice none 0 0] := HR2.out.drewA
    have he0 : Rows8 W2.drew (w.heap.size + 1 + 1 + 1) 38 #[.int .i64 0, .int .u64 0] := HX2.out.drewA
    have ho0 := HO2.out.drew
    have hb0 := HB2.out.drew
    clear HH2 HR2 HX2 HO2 HB2 HTB
    generalize W2.drew = Wd at *
    refine wpAnyN_take (i := 0) (oi := { dst := some 25, op := Go.Op.fieldAddr 95 (Go.Operand.tmp 7) 0, type := 0, pos := "monitor.go:43", after := #[], guard := none }) (v := .pointer (some ⟨w1.heap.size, 0, none⟩)) rfl (by decide) (by kernel_rfl) (by kernel_rfl) (by kernel_rfl) (fun _ _ _ h => h) (Or.inl ⟨by rfl, ?_⟩) hS0 ?_
    · intro W9 hS9
      obtain ⟨q0, q1⟩ := hS9
      clear q0 q1
      go_simp
    try simp only [Act.put, List.setIfInBounds_toArray, List.set_cons_zero, List.set_cons_succ]
    refine wpAnyN_take (i := 1) (oi := { dst := some 26, op := Go.Op.fieldAddr 79 (Go.Operand.tmp 25) 0, type := 0, pos := "monitor.go:43", after := #[{ on := 0, ground := Go.Ground.data }], guard := none }) (v := .pointer (some ⟨w1.heap.size, 0, none⟩)) rfl (by decide) (by kernel_rfl) (by kernel_rfl) (by kernel_rfl) (fun _ _ _ h => h) (Or.inl ⟨by rfl, ?_⟩) hS0 ?_
    · intro W9 hS9
      obtain ⟨q0, q1⟩ := hS9
      clear q0 q1
      go_simp
    try simp only [Act.put, List.setIfInBounds_toArray, List.set_cons_zero, List.set_cons_succ]
    refine wpAnyN_take (i := 2) (oi := { dst := some 27, op := Go.Op.load 29 (Go.Operand.tmp 26), type := 29, pos := "monitor.go:43", after := #[{ on := 1, ground := Go.Ground.data }], guard := none }) (v := .agg #[.slice y.sa y.sn y.sc, .slice y.pa y.pn y.pc, .slice y.ha y.hn y.hc, .slice y.ba y.bn y.bc]) rfl (by decide) (by kernel_rfl) (by kernel_rfl) (by kernel_rfl) (fun _ _ _ h => h) (Or.inl ⟨by rfl, ?_⟩) hS0 ?_
    · intro W9 hS9
      obtain ⟨q0, q1⟩ := hS9
      have s0 : W9.cell? ⟨w1.heap.size, 0, none⟩ = some (.slice y.sa y.sn y.sc) := q0.cell 0
      have s1 : W9.cell? ⟨w1.heap.size, 1, none⟩ = some (.slice y.pa y.pn y.pc) := q0.cell 1
      have s2 : W9.cell? ⟨w1.heap.size, 2, none⟩ = some (.slice y.ha y.hn y.hc) := q0.cell 2
      have s3 : W9.cell? ⟨w1.heap.size, 3, none⟩ = some (.slice y.ba y.bn y.bc) := q0.cell 3
      clear q0 q1
      go_simp
    try simp only [Act.put, List.setIfInBounds_toArray, List.set_cons_zero, List.set_cons_succ]
    refine wpAnyN_take (i := 3) (oi := { dst := some 28, op := Go.Op.fieldAddr 95 (Go.Operand.tmp 7) 1, type := 0, pos := "monitor.go:43", after := #[{ on := 8, ground := Go.Ground.gcOnly Go.Departure.lateStores }], guard := none }) (v := .pointer (some ⟨w1.heap.size, 4, none⟩)) rfl (by decide) (by kernel_rfl) (by kernel_rfl) (by kernel_rfl) (fun _ _ _ h => h) (Or.inl ⟨by rfl, ?_⟩) hS0 ?_
    · intro W9 hS9
      obtain ⟨q0, q1⟩ := hS9
      clear q0 q1
      go_simp
    try simp only [Act.put, List.setIfInBounds_toArray, List.set_cons_zero, List.set_cons_succ]
    refine wpAnyN_take (i := 4) (oi := { dst := some 29, op := Go.Op.load 62 (Go.Operand.tmp 28), type := 62, pos := "monitor.go:43", after := #[{ on := 3, ground := Go.Ground.data }, { on := 8, ground := Go.Ground.gcOnly Go.Departure.lateStores }], guard := none }) (v := .slice (some ⟨tb, 0, none⟩) (kk + 1) tc) rfl (by decide) (by kernel_rfl) (by kernel_rfl) (by kernel_rfl) (fun _ _ _ h => h) (Or.inl ⟨by rfl, ?_⟩) hS0 ?_
    · intro W9 hS9
      obtain ⟨q0, q1⟩ := hS9
      have s4 : W9.cell? ⟨w1.heap.size, 4, none⟩ = some (.slice (some ⟨tb, 0, none⟩) (kk + 1) tc) := q0.cell 4
      clear q0 q1
      go_simp
    try simp only [Act.put, List.setIfInBounds_toArray, List.set_cons_zero, List.set_cons_succ]
    refine wpAnyN_take (i := 5) (oi := { dst := some 30, op := Go.Op.indexAddr 62 (Go.Operand.tmp 29) (Go.Operand.const (Go.Value.int Go.IntKind.i64 0)), type := 0, pos := "monitor.go:43", after := #[{ on := 4, ground := Go.Ground.data }, { on := 8, ground := Go.Ground.gcOnly Go.Departure.lateStores }], guard := none }) (v := .pointer (some ⟨tb, 0, none⟩)) rfl (by decide) (by kernel_rfl) (by kernel_rfl) (by kernel_rfl) (fun _ _ _ h => h) (Or.inl ⟨by rfl, ?_⟩) hS0 ?_
    · intro W9 hS9
      obtain ⟨q0, q1⟩ := hS9
      clear q0 q1
      go_simp
    try simp only [Act.put, List.setIfInBounds_toArray, List.set_cons_zero, List.set_cons_succ]
    refine wpAnyN_take (i := 6) (oi := { dst := some 31, op := Go.Op.load 38 (Go.Operand.tmp 30), type := 38, pos := "monitor.go:43", after := #[{ on := 5, ground := Go.Ground.data }, { on := 8, ground := Go.Ground.gcOnly Go.Departure.lateStores }], guard := none }) (v := .agg #[.int .i64 e0, .int .u64 (e1 : Nat)]) rfl (by decide) (by kernel_rfl) (by kernel_rfl) (by kernel_rfl) (fun _ _ _ h => h) (Or.inl ⟨by rfl, ?_⟩) hS0 ?_
    · intro W9 hS9
      obtain ⟨q0, q1⟩ := hS9
      have s0 : W9.cell? ⟨tb, 0, none⟩ = some (.int .i64 e0) := (q1.cell 0).trans HE0.out
      have s1 : W9.cell? ⟨tb, 1, none⟩ = some (.int .u64 (e1 : Nat)) := (q1.cell 1).trans HE1.out
      clear q0 q1
      go_simp
    try simp only [Act.put, List.setIfInBounds_toArray, List.set_cons_zero, List.set_cons_succ]
    refine wpAnyN_take (i := 7) (oi := { dst := some 32, op := Go.Op.move (Go.Operand.tmp 8), type := 33, pos := "monitor.go:43", after := #[{ on := 9, ground := Go.Ground.gcOnly Go.Departure.lateStores }], guard := none }) (v := .int .i64 R.1) rfl (by decide) (by kernel_rfl) (by kernel_rfl) (by kernel_rfl) (fun _ _ _ h => h) (Or.inl ⟨by rfl, ?_⟩) hS0 ?_
    · intro W9 hS9
      obtain ⟨q0, q1⟩ := hS9
      clear q0 q1
      go_simp
    try simp only [Act.put, List.setIfInBounds_toArray, List.set_cons_zero, List.set_cons_succ]
    refine wpAnyX_one (i := 8) (o := { dst := none, op := Go.Op.store 29 (Go.Operand.tmp 4) (Go.Operand.tmp 27), type := 0, pos := "monitor.go:43", after := #[{ on := 2, ground := Go.Ground.data }, { on := 0, ground := Go.Ground.phase }, { on := 1, ground := Go.Ground.phase }, { on := 2, ground := Go.Ground.phase }, { on := 3, ground := Go.Ground.textOnly Go.Departure.lateStores }, { on := 4, ground := Go.Ground.textOnly Go.Departure.lateStores }, { on := 5, ground := Go.Ground.textOnly Go.Departure.lateStores }, { on := 6, ground := Go.Ground.textOnly Go.Departure.lateStores }, { on := 7, ground := Go.Ground.textOnly Go.Departure.lateStores }], guard := none }) (by kernel_rfl) rfl (fun K hK => ?_)
    have ck0 : Wd.cell? ⟨w.heap.size + 1 + 1, 0, none⟩ = some (.slice none 0 0) := hr0.cell 0
    have fk0 := hr0.frozen 0
    have ck1 : Wd.cell? ⟨w.heap.size + 1 + 1, 1, none⟩ = some (.slice none 0 0) := hr0.cell 1
    have fk1 := hr0.frozen 1
    have ck2 : Wd.cell? ⟨w.heap.size + 1 + 1, 2, none⟩ = some (.slice none 0 0) := hr0.cell 2
    have fk2 := hr0.frozen 2
    have ck3 : Wd.cell? ⟨w.heap.size + 1 + 1, 3, none⟩ = some (.slice none 0 0) := hr0.cell 3
    have fk3 := hr0.frozen 3
    have hlt := hr0.lt
    refine step_skip_g (by rfl) (w' := ((((Wd.setCell ⟨w.heap.size + 1 + 1, 0, none⟩ (.slice y.sa y.sn y.sc)).setCell ⟨w.heap.size + 1 + 1, 1, none⟩ (.slice y.pa y.pn y.pc)).setCell ⟨w.heap.size + 1 + 1, 2, none⟩ (.slice y.ha y.hn y.hc)).setCell ⟨w.heap.size + 1 + 1, 3, none⟩ (.slice y.ba y.bn y.bc))) (by go_simp) ?_
    clear ck0 fk0 ck1 fk1 ck2 fk2 ck3 fk3 hlt
    have hS1 : Rows8 (_ : World) w1.heap.size 95 #[.slice y.sa y.sn y.sc, .slice y.pa y.pn y.pc, .slice y.ha y.hn y.hc, .slice y.ba y.bn y.bc, .slice (some ⟨tb, 0, none⟩) (kk + 1) tc] ∧ Rows8 (_ : World) tb 38 tcs := ⟨hS0.1.setOther (a := ⟨w.heap.size + 1 + 1, 0, none⟩) (by show w.heap.size + 1 + 1 ≠ w1.heap.size; have := HSZ.out; omega) (.slice y.sa y.sn y.sc), hS0.2.setOther (a := ⟨w.heap.size + 1 + 1, 0, none⟩) HNT.out (.slice y.sa y.sn y.sc)⟩
    have ho1 := ho0.setLow (show w.heap.size + 1 + 1 < n1 by have := HN1.out; omega) 0 (.slice y.sa y.sn y.sc)
    have hb1 := hb0.setCell (p := ⟨w.heap.size + 1 + 1, 0, none⟩) (by show w.heap.size ≤ w.heap.size + 1 + 1; omega) (.slice y.sa y.sn y.sc)
    have he1 := he0.setOther (a := ⟨w.heap.size + 1 + 1, 0, none⟩) (by show w.heap.size + 1 + 1 ≠ w.heap.size + 1 + 1 + 1; omega) (.slice y.sa y.sn y.sc)
    have hr1 := hr0.set 0 (.slice y.sa y.sn y.sc)
    simp only [List.setIfInBounds_toArray, List.set_cons_zero, List.set_cons_succ] at hr1
    have hS2 : Rows8 (_ : World) w1.heap.size 95 #[.slice y.sa y.sn y.sc, .slice y.pa y.pn y.pc, .slice y.ha y.hn y.hc, .slice y.ba y.bn y.bc, .slice (some ⟨tb, 0, none⟩) (kk + 1) tc] ∧ Rows8 (_ : World) tb 38 tcs := ⟨hS1.1.setOther (a := ⟨w.heap.size + 1 + 1, 1, none⟩) (by show w.heap.size + 1 + 1 ≠ w1.heap.size; have := HSZ.out; omega) (.slice y.pa y.pn y.pc), hS1.2.setOther (a := ⟨w.heap.size + 1 + 1, 1, none⟩) HNT.out (.slice y.pa y.pn y.pc)⟩
    have ho2 := ho1.setLow (show w.heap.size + 1 + 1 < n1 by have := HN1.out; omega) 1 (.slice y.pa y.pn y.pc)
    have hb2 := hb1.setCell (p := ⟨w.heap.size + 1 + 1, 1, none⟩) (by show w.heap.size ≤ w.heap.size + 1 + 1; omega) (.slice y.pa y.pn y.pc)
    have he2 := he1.setOther (a := ⟨w.heap.size + 1 + 1, 1, none⟩) (by show w.heap.size + 1 + 1 ≠ w.heap.size + 1 + 1 + 1; omega) (.slice y.pa y.pn y.pc)
    have hr2 := hr1.set 1 (.slice y.pa y.pn y.pc)
    simp only [List.setIfInBounds_toArray, List.set_cons_zero, List.set_cons_succ] at hr2
    have hS3 : Rows8 (_ : World) w1.heap.size 95 #[.slice y.sa y.sn y.sc, .slice y.pa y.pn y.pc, .slice y.ha y.hn y.hc, .slice y.ba y.bn y.bc, .slice (some ⟨tb, 0, none⟩) (kk + 1) tc] ∧ Rows8 (_ : World) tb 38 tcs := ⟨hS2.1.setOther (a := ⟨w.heap.size + 1 + 1, 2, none⟩) (by show w.heap.size + 1 + 1 ≠ w1.heap.size; have := HSZ.out; omega) (.slice y.ha y.hn y.hc), hS2.2.setOther (a := ⟨w.heap.size + 1 + 1, 2, none⟩) HNT.out (.slice y.ha y.hn y.hc)⟩
    have ho3 := ho2.setLow (show w.heap.size + 1 + 1 < n1 by have := HN1.out; omega) 2 (.slice y.ha y.hn y.hc)
    have hb3 := hb2.setCell (p := ⟨w.heap.size + 1 + 1, 2, none⟩) (by show w.heap.size ≤ w.heap.size + 1 + 1; omega) (.slice y.ha y.hn y.hc)
    have he3 := he2.setOther (a := ⟨w.heap.size + 1 + 1, 2, none⟩) (by show w.heap.size + 1 + 1 ≠ w.heap.size + 1 + 1 + 1; omega) (.slice y.ha y.hn y.hc)
    have hr3 := hr2.set 2 (.slice y.ha y.hn y.hc)
    simp only [List.setIfInBounds_toArray, List.set_cons_zero, List.set_cons_succ] at hr3
    have hS4 : Rows8 (_ : World) w1.heap.size 95 #[.slice y.sa y.sn y.sc, .slice y.pa y.pn y.pc, .slice y.ha y.hn y.hc, .slice y.ba y.bn y.bc, .slice (some ⟨tb, 0, none⟩) (kk + 1) tc] ∧ Rows8 (_ : World) tb 38 tcs := ⟨hS3.1.setOther (a := ⟨w.heap.size + 1 + 1, 3, none⟩) (by show w.heap.size + 1 + 1 ≠ w1.heap.size; have := HSZ.out; omega) (.slice y.ba y.bn y.bc), hS3.2.setOther (a := ⟨w.heap.size + 1 + 1, 3, none⟩) HNT.out (.slice y.ba y.bn y.bc)⟩
    have ho4 := ho3.setLow (show w.heap.size + 1 + 1 < n1 by have := HN1.out; omega) 3 (.slice y.ba y.bn y.bc)
    have hb4 := hb3.setCell (p := ⟨w.heap.size + 1 + 1, 3, none⟩) (by show w.heap.size ≤ w.heap.size + 1 + 1; omega) (.slice y.ba y.bn y.bc)
    have he4 := he3.setOther (a := ⟨w.heap.size + 1 + 1, 3, none⟩) (by show w.heap.size + 1 + 1 ≠ w.heap.size + 1 + 1 + 1; omega) (.slice y.ba y.bn y.bc)
    have hr4 := hr3.set 3 (.slice y.ba y.bn y.bc)
    simp only [List.setIfInBounds_toArray, List.set_cons_zero, List.set_cons_succ] at hr4
    clear hr0 ho0 hb0 he0 hr1 ho1 hb1 he1 hr2 ho2 hb2 he2 hr3 ho3 hb3 he3
    refine hK.out _ _ (fun _ => hS4) ?_
    clear hK K
    try simp only [Act.put, List.setIfInBounds_toArray, List.set_cons_zero, List.set_cons_succ]
    generalize ((((Wd.setCell ⟨w.heap.size + 1 + 1, 0, none⟩ (.slice y.sa y.sn y.sc)).setCell ⟨w.heap.size + 1 + 1, 1, none⟩ (.slice y.pa y.pn y.pc)).setCell ⟨w.heap.size + 1 + 1, 2, none⟩ (.slice y.ha y.hn y.hc)).setCell ⟨w.heap.size + 1 + 1, 3, none⟩ (.slice y.ba y.bn y.bc)) = W5 at *
    refine wpAnyX_one (i := 9) (o := { dst := none, op := Go.Op.store 38 (Go.Operand.tmp 5) (Go.Operand.tmp 31), type := 0, pos := "monitor.go:43", after := #[{ on := 6, ground := Go.Ground.data }, { on := 8, ground := Go.Ground.chain }, { on := 0, ground := Go.Ground.phase }, { on := 1, ground := Go.Ground.phase }, { on := 2, ground := Go.Ground.phase }, { on := 3, ground := Go.Ground.phase }, { on := 4, ground := Go.Ground.phase }, { on := 5, ground := Go.Ground.phase }, { on := 6, ground := Go.Ground.phase }, { on := 7, ground := Go.Ground.textOnly Go.Departure.lateStores }, { on := 8, ground := Go.Ground.phase }], guard := none }) (by kernel_rfl) rfl (fun K hK => ?_)
    have ck0 : W5.cell? ⟨w.heap.size + 1 + 1 + 1, 0, none⟩ = some (.int .i64 0) := he4.cell 0
    have ck1 : W5.cell? ⟨w.heap.size + 1 + 1 + 1, 1, none⟩ = some (.int .u64 0) := he4.cell 1
    have fk0 := he4.frozen 0
    have fk1 := he4.frozen 1
    have hlt := he4.lt
    refine step_skip_g (by rfl) (w' := (W5.setCell ⟨w.heap.size + 1 + 1 + 1, 0, none⟩ (.int .i64 e0)).setCell ⟨w.heap.size + 1 + 1 + 1, 1, none⟩ (.int .u64 (e1 : Nat))) (by go_simp) ?_
    clear ck0 ck1 fk0 fk1 hlt
    have hS5 : Rows8 (_ : World) w1.heap.size 95 #[.slice y.sa y.sn y.sc, .slice y.pa y.pn y.pc, .slice y.ha y.hn y.hc, .slice y.ba y.bn y.bc, .slice (some ⟨tb, 0, none⟩) (kk + 1) tc] ∧ Rows8 (_ : World) tb 38 tcs := ⟨hS4.1.setOther (a := ⟨w.heap.size + 1 + 1 + 1, 0, none⟩) (by show w.heap.size + 1 + 1 + 1 ≠ w1.heap.size; have := HSZ.out; omega) (.int .i64 e0), hS4.2.setOther (a := ⟨w.heap.size + 1 + 1 + 1, 0, none⟩) HNU.out (.int .i64 e0)⟩
    have ho5 := ho4.setLow (show w.heap.size + 1 + 1 + 1 < n1 by have := HN1.out; omega) 0 (.int .i64 e0)
    have hb5 := hb4.setCell (p := ⟨w.heap.size + 1 + 1 + 1, 0, none⟩) (by show w.heap.size ≤ w.heap.size + 1 + 1 + 1; omega) (.int .i64 e0)
    have hr5 := hr4.setOther (a := ⟨w.heap.size + 1 + 1 + 1, 0, none⟩) (by show w.heap.size + 1 + 1 + 1 ≠ w.heap.size + 1 + 1; omega) (.int .i64 e0)
    have he5 := he4.set 0 (.int .i64 e0)
    simp only [List.setIfInBounds_toArray, List.set_cons_zero, List.set_cons_succ] at he5
    have hS6 : Rows8 (_ : World) w1.heap.size 95 #[.slice y.sa y.sn y.sc, .slice y.pa y.pn y.pc, .slice y.ha y.hn y.hc, .slice y.ba y.bn y.bc, .slice (some ⟨tb, 0, none⟩) (kk + 1) tc] ∧ Rows8 (_ : World) tb 38 tcs := ⟨hS5.1.setOther (a := ⟨w.heap.size + 1 + 1 + 1, 1, none⟩) (by show w.heap.size + 1 + 1 + 1 ≠ w1.heap.size; have := HSZ.out; omega) (.int .u64 (e1 : Nat)), hS5.2.setOther (a := ⟨w.heap.size + 1 + 1 + 1, 1, none⟩) HNU.out (.int .u64 (e1 : Nat))⟩
    have ho6 := ho5.setLow (show w.heap.size + 1 + 1 + 1 < n1 by have := HN1.out; omega) 1 (.int .u64 (e1 : Nat))
    have hb6 := hb5.setCell (p := ⟨w.heap.size + 1 + 1 + 1, 1, none⟩) (by show w.heap.size ≤ w.heap.size + 1 + 1 + 1; omega) (.int .u64 (e1 : Nat))
    have hr6 := hr5.setOther (a := ⟨w.heap.size + 1 + 1 + 1, 1, none⟩) (by show w.heap.size + 1 + 1 + 1 ≠ w.heap.size + 1 + 1; omega) (.int .u64 (e1 : Nat))
    have he6 := he5.set 1 (.int .u64 (e1 : Nat))
    simp only [List.setIfInBounds_toArray, List.set_cons_zero, List.set_cons_succ] at he6
    have HR4 := Lib.hid hr6
    have HE4 := Lib.hid he6
    have HO4 := Lib.hid ho6
    have HB4 := Lib.hid hb6
    clear hr4 ho4 hb4 he4 hr5 ho5 hb5 he5 hr6 ho6 hb6 he6
    refine hK.out _ _ (fun _ => hS6) ?_
    clear hK K
    try simp only [Act.put, List.setIfInBounds_toArray, List.set_cons_zero, List.set_cons_succ]
    generalize (W5.setCell ⟨w.heap.size + 1 + 1 + 1, 0, none⟩ (.int .i64 e0)).setCell ⟨w.heap.size + 1 + 1 + 1, 1, none⟩ (.int .u64 (e1 : Nat)) = W6 at *
    refine wpAnyN_take (i := 10) (oi := { dst := some 6, op := Go.Op.assign (Go.Operand.tmp 32), type := 33, pos := "monitor.go:43", after := #[{ on := 7, ground := Go.Ground.data }, { on := 9, ground := Go.Ground.chain }, { on := 0, ground := Go.Ground.phase }, { on := 1, ground := Go.Ground.phase }, { on := 2, ground := Go.Ground.phase }, { on := 3, ground := Go.Ground.phase }, { on := 4, ground := Go.Ground.phase }, { on := 5, ground := Go.Ground.phase }, { on := 6, ground := Go.Ground.phase }, { on := 7, ground := Go.Ground.phase }, { on := 8, ground := Go.Ground.phase }, { on := 9, ground := Go.Ground.phase }], guard := none }) (v := .int .i64 R.1) rfl (by decide) (by kernel_rfl) (by kernel_rfl) (by kernel_rfl) (fun _ _ _ h => h) (Or.inl ⟨by rfl, ?_⟩) hS6 ?_
    · intro W9 hS9
      obtain ⟨q0, q1⟩ := hS9
      clear q0 q1
      go_simp
    try simp only [Act.put, List.setIfInBounds_toArray, List.set_cons_zero, List.set_cons_succ]
    refine wpAnyX_end (by kernel_rfl) ?_
    go_wp2_with fail
    refine bodyPost_ret (results_cct rfl _ _ (w.heap.size + 1 + 1) (w.heap.size + 1 + 1 + 1) _ _ _ rfl rfl rfl (load_row HR4.out Try.underlying29 rfl (by kernel_rfl)) (load_row HE4.out Try.underlying38 rfl (by kernel_rfl))) rfl ?_
    exact ⟨y, vs, by rw [HEN.out]; rfl, HO4.out.mono (by have := HN1.out; omega), HB4.out⟩
end Go.Proofs

/- Monitor: New. -/
namespace Go.Proofs
set_option maxRecDepth 100000
open Go.RowKit Go.Shelf
attribute [local go_sem] Oper.semAt_some

theorem step_make_full {P : Program} (w : World) {ops : Array Oper} {o : Oper} {a : Act} {K : Act → World → Prop} {Q : Exit → Act → World → Prop} {E : Prop}
    (hgd : o.guard = none) (l c : Operand) (t : TypeId) (hop : o.op = Op.makeSlice t l c)
    (base : Nat) (e : TypeId) (i : TypeInfo) (z : Value) (size : Nat) (h1 : P.underlying t = some (.slice e)) (h2 : P.info? e = some i) (h3 : i.zero = some z) (h4 : i.size = size)
    (kl kc : IntKind) (L C : Int) (n : Nat) (hl : a.eval l = .int kl L) (hc : a.eval c = .int kc C) (hL : L = (n : Int)) (hC : C = (n : Int)) (b2 : i.bytes * n ≤ 281474976710656) (b3 : n ≤ maxLen) (b4 : base ≤ w.heap.size)
    (hK : ∀ w', w'.ownsRow base e size (.slice (some ⟨w.heap.size, 0, none⟩) n n) n (madeCells z.cells (n * size)).toList → w.grownBy w' none → K (a.put o.dst (.slice (some ⟨w.heap.size, 0, none⟩) n n)) w') :
    if Region.wanted o (yielded ops a.tmps) = true then Oper.wp P o a w K Q else E := by
  have hw : Region.wanted o (yielded ops a.tmps) = true := by simp [Region.wanted, hgd]
  rw [if_pos hw]
  obtain ⟨w', hrun, r1, r2⟩ := run_make_full (P := P) w base t e i z size h1 h2 h3 h4 kl kc n b2 b3 b4
  subst hL
  subst hC
  unfold Oper.wp
  simp [execOp, hop, hl, hc, hrun, Result.andThen]
  exact hK w' r1 r2
theorem made_one (z : Value) (hz : z.cells = #[z]) (n : Nat) : (madeCells z.cells (n * 1)).toList = List.replicate n z := by
  rw [hz, Nat.mul_one]
  apply List.ext_getElem?
  intro j
  by_cases hj : j < n
  · rw [List.getElem?_replicate, if_pos hj]
    simp [madeCells, hj, Nat.mod_one]
  · rw [List.getElem?_eq_none (by simp [madeCells]; omega), List.getElem?_eq_none (by simp; omega)]
theorem newBools {n₀ g gn : Nat} {W : World} (h : W.ownsRow n₀ 4 1 (.slice (some ⟨g, 0, none⟩) gn gn) gn (madeCells (Value.bool false).cells (gn * 1)).toList) : OwnsBools n₀ (List.replicate gn false) (.slice (some ⟨g, 0, none⟩) gn gn) W := by
  unfold OwnsBools
  rw [List.length_replicate]
  have e : bVals (List.replicate gn false) = (madeCells (Value.bool false).cells (gn * 1)).toList := by rw [made_one _ rfl]; simp [bVals]
  rw [e]
  exact h
theorem newHas {n₀ g gn : Nat} {W : World} (h : W.ownsRow n₀ 62 1 (.slice (some ⟨g, 0, none⟩) gn gn) gn (madeCells (Value.slice none 0 0).cells (gn * 1)).toList) : OwnH n₀ (List.replicate gn []) (.slice (some ⟨g, 0, none⟩) gn gn) (List.replicate gn (.slice none 0 0)) W := by
  have e : List.replicate gn (Value.slice none 0 0) = (madeCells (Value.slice none 0 0).cells (gn * 1)).toList := by rw [made_one _ rfl]
  refine ⟨by rw [List.length_replicate, e]; exact h, fun i hi => ⟨.slice none 0 0, ?_, ?_⟩, fun i j a b hi _ _ ha _ => ?_⟩
  · rw [List.length_replicate] at hi
    rw [List.getElem?_replicate, if_pos hi]
  · rw [List.getElem_replicate]
    exact ownsP_nil _ _ _
  · rw [List.length_replicate] at hi
    rw [List.getElem?_replicate, if_pos hi] at ha
    cases ha
    exact .inl rfl
def newM (g n : Int) : Int × Mn := if goersM g && manyA n then (0, ⟨newL n, List.replicate g.toNat false, List.replicate g.toNat [], []⟩) else (2, noM)
def NewQ (w : World) (R : Int × Mn) (e : Ending) (w' : World) : Prop :=
  ∃ (x : Mv) (vs : List Value), e = .returned (.tuple #[.agg #[.slice x.sa x.sn x.sc, .slice x.pa x.pn x.pc, .slice x.ha x.hn x.hc, .slice x.ba x.bn x.bc], .int .i64 R.1]) ∧ OwnMon w.heap.size x R.2 vs w' ∧ Below w.heap.size w w'
set_option maxHeartbeats 16000000 in
theorem Try.NewM_any (g n : Int) (w : World) : Calls Try.prog 20 #[.int .i64 g, .int .i64 n] w (NewQ w (newM g n)) := by
  obtain ⟨ib, hib, hzb0, hzb1, hzb2⟩ := info_parts Try.infoBool
  obtain ⟨ih, hih, hzh0, hzh1, hzh2⟩ := info_parts Try.infoRow
  have hr := Rows8.new w 29 #[.slice none 0 0, .slice none 0 0, .slice none 0 0, .slice none 0 0]
  have hb : Below w.heap.size w (w.alloc (.cells #[.slice none 0 0, .slice none 0 0, .slice none 0 0, .slice none 0 0] 29)) := Rows8.newB
  obtain ⟨U, hU⟩ : ∃ u, u = w.alloc (.cells #[.slice none 0 0, .slice none 0 0, .slice none 0 0, .slice none 0 0] 29) := ⟨_, rfl⟩
  rw [← hU] at hr hb
  have HR := Lib.hid hr
  have HB := Lib.hid hb
  have HMH := fun W => Lib.hid (Try.mayHaveM_any g W)
  unfold newM
  clear hr hb
  cases hg : goersM g with
  | false =>
    rw [hg] at HMH
    simp only [Bool.false_and, Bool.false_eq_true, if_false]
    clear hg
    go_enter Try.func20, Try.ntmps20
    go_wp2_with fail
    rw [← hU]
    clear hU
    refine (HMH _).out.mono ?_
    rintro e w1 ⟨rfl, rfl⟩
    clear HMH
    have hr0 := HR.out
    have hb0 := HB.out
    have ck0 : w1.cell? ⟨w.heap.size, 0, none⟩ = some (.slice none 0 0) := hr0.cell 0
    have fk0 := hr0.frozen 0
    have ck1 : w1.cell? ⟨w.heap.size, 1, none⟩ = some (.slice none 0 0) := hr0.cell 1
    have fk1 := hr0.frozen 1
    have ck2 : w1.cell? ⟨w.heap.size, 2, none⟩ = some (.slice none 0 0) := hr0.cell 2
    have fk2 := hr0.frozen 2
    have ck3 : w1.cell? ⟨w.heap.size, 3, none⟩ = some (.slice none 0 0) := hr0.cell 3
    have fk3 := hr0.frozen 3
    have hb1 := hb0.setCell (p := ⟨w.heap.size, 0, none⟩) (Nat.le_refl _) (.slice none 0 0)
    have hr1 := hr0.set 0 (.slice none 0 0)
    simp only [List.setIfInBounds_toArray, List.set_cons_zero, List.set_cons_succ] at hr1
    have hb2 := hb1.setCell (p := ⟨w.heap.size, 1, none⟩) (Nat.le_refl _) (.slice none 0 0)
    have hr2 := hr1.set 1 (.slice none 0 0)
    simp only [List.setIfInBounds_toArray, List.set_cons_zero, List.set_cons_succ] at hr2
    have hb3 := hb2.setCell (p := ⟨w.heap.size, 2, none⟩) (Nat.le_refl _) (.slice none 0 0)
    have hr3 := hr2.set 2 (.slice none 0 0)
    simp only [List.setIfInBounds_toArray, List.set_cons_zero, List.set_cons_succ] at hr3
    have hb4 := hb3.setCell (p := ⟨w.heap.size, 3, none⟩) (Nat.le_refl _) (.slice none 0 0)
    have hr4 := hr3.set 3 (.slice none 0 0)
    simp only [List.setIfInBounds_toArray, List.set_cons_zero, List.set_cons_succ] at hr4
    have HR4 := Lib.hid hr4
    have HB4 := Lib.hid hb4
    clear hr0 hr1 hr2 hr3 hr4 hb0 hb1 hb2 hb3 hb4 HR HB
    go_wp2_with fail
    refine bodyPost_ret (results_ctA rfl _ _ w.heap.size _ _ rfl rfl (load_row HR4.out Try.underlying29 rfl (by kernel_rfl))) rfl ?_
    exact ⟨⟨none, 0, 0, none, 0, 0, none, 0, 0, none, 0, 0⟩, [], rfl, ownMon_no _ _, HB4.out⟩
  | true =>
    rw [hg] at HMH
    obtain ⟨gn, rfl, hg8⟩ : ∃ k : Nat, g = k ∧ k ≤ 8 := by
      unfold goersM at hg
      rw [decide_eq_true_eq] at hg
      exact ⟨g.toNat, by omega, by omega⟩
    rw [Int.toNat_natCast]
    simp only [Bool.true_and]
    clear hg
    have HNW := Lib.hid (Try.New_any n U)
    cases hm : manyA n with
    | false =>
      rw [hm] at HNW
      simp only [Bool.false_eq_true, if_false] at HNW ⊢
      clear hm
      go_enter Try.func20, Try.ntmps20
      go_wp2_with fail
      rw [← hU]
      clear hU
      refine (HMH _).out.mono ?_
      rintro e w0 ⟨rfl, rfl⟩
      clear HMH
      go_wp2_with fail
      refine HNW.out.mono ?_
      rintro e w1 ⟨⟨v, rfl, ho⟩, hC⟩
      have hal : Below w1.heap.size w1 (w1.alloc (.cells #[v] 24)) := Rows8.newB
      have HR1 := Lib.hid ((HR.out.below hC HR.out.lt).below hal (HR.out.below hC HR.out.lt).lt)
      have HR := HR1
      have HB1 := Lib.hid ((HB.out.trans (hC.mono HB.out.size)).trans (hal.mono (Nat.le_trans HB.out.size hC.size)))
      have HB := HB1
      rw [if_neg (by decide)] at ho
      obtain ⟨sa, sc, hv⟩ := ho.form
      rw [List.length_nil] at hv
      subst hv
      clear HR1 HB1 hC hal ho HNW
      have hr0 := HR.out
      have hb0 := HB.out
      have ck0 : (w1.alloc (.cells #[.slice sa 0 sc] 24)).cell? ⟨w.heap.size, 0, none⟩ = some (.slice none 0 0) := hr0.cell 0
      have fk0 := hr0.frozen 0
      have ck1 : (w1.alloc (.cells #[.slice sa 0 sc] 24)).cell? ⟨w.heap.size, 1, none⟩ = some (.slice none 0 0) := hr0.cell 1
      have fk1 := hr0.frozen 1
      have ck2 : (w1.alloc (.cells #[.slice sa 0 sc] 24)).cell? ⟨w.heap.size, 2, none⟩ = some (.slice none 0 0) := hr0.cell 2
      have fk2 := hr0.frozen 2
      have ck3 : (w1.alloc (.cells #[.slice sa 0 sc] 24)).cell? ⟨w.heap.size, 3, none⟩ = some (.slice none 0 0) := hr0.cell 3
      have fk3 := hr0.frozen 3
      have hb1 := hb0.setCell (p := ⟨w.heap.size, 0, none⟩) (Nat.le_refl _) (.slice none 0 0)
      have hr1 := hr0.set 0 (.slice none 0 0)
      simp only [List.setIfInBounds_toArray, List.set_cons_zero, List.set_cons_succ] at hr1
      have hb2 := hb1.setCell (p := ⟨w.heap.size, 1, none⟩) (Nat.le_refl _) (.slice none 0 0)
      have hr2 := hr1.set 1 (.slice none 0 0)
      simp only [List.setIfInBounds_toArray, List.set_cons_zero, List.set_cons_succ] at hr2
      have hb3 := hb2.setCell (p := ⟨w.heap.size, 2, none⟩) (Nat.le_refl _) (.slice none 0 0)
      have hr3 := hr2.set 2 (.slice none 0 0)
      simp only [List.setIfInBounds_toArray, List.set_cons_zero, List.set_cons_succ] at hr3
      have hb4 := hb3.setCell (p := ⟨w.heap.size, 3, none⟩) (Nat.le_refl _) (.slice none 0 0)
      have hr4 := hr3.set 3 (.slice none 0 0)
      simp only [List.setIfInBounds_toArray, List.set_cons_zero, List.set_cons_succ] at hr4
      have HR4 := Lib.hid hr4
      have HB4 := Lib.hid hb4
      clear hr0 hr1 hr2 hr3 hr4 hb0 hb1 hb2 hb3 hb4 HR HB
      go_wp2_with fail
      refine bodyPost_ret (results_ctA rfl _ _ w.heap.size _ _ rfl rfl (load_row HR4.out Try.underlying29 rfl (by kernel_rfl))) rfl ?_
      exact ⟨⟨none, 0, 0, none, 0, 0, none, 0, 0, none, 0, 0⟩, [], rfl, ownMon_no _ _, HB4.out⟩
    | true =>
      rw [hm] at HNW
      simp only [if_true] at HNW ⊢
      clear hm
      go_enter Try.func20, Try.ntmps20
      go_wp2_with fail
      rw [← hU]
      clear hU
      refine (HMH _).out.mono ?_
      rintro e w0 ⟨rfl, rfl⟩
      clear HMH
      go_wp2_with fail
      refine HNW.out.mono ?_
      rintro e w1 ⟨⟨v, rfl, ho⟩, hC⟩
      rw [if_pos rfl] at ho
      obtain ⟨sa, sc, hv⟩ := ho.form
      obtain ⟨sn, hsn⟩ : ∃ k, k = (newL n).length := ⟨_, rfl⟩
      rw [← hsn] at hv
      subst hv
      have hal : Below w1.heap.size w1 (w1.alloc (.cells #[.slice sa sn sc] 24)) := Rows8.newB
      have HSZ := Lib.hid (show w.heap.size < w1.heap.size from (HR.out.below hC HR.out.lt).lt)
      have HR1 := Lib.hid ((HR.out.below hC HR.out.lt).below hal (HR.out.below hC HR.out.lt).lt)
      have HR := HR1
      have HO := Lib.hid ((ho.below hal (Nat.le_refl _)).mono HB.out.size)
      have HB1 := Lib.hid ((HB.out.trans (hC.mono HB.out.size)).trans (hal.mono (Nat.le_trans HB.out.size hC.size)))
      have HB := HB1
      have HA := Lib.hid (Rows8.new w1 24 #[.slice sa sn sc])
      obtain ⟨W2, hW2⟩ : ∃ W, W = w1.alloc (.cells #[.slice sa sn sc] 24) := ⟨_, rfl⟩
      rw [← hW2] at HR HO HB HA
      have HW2 := Lib.hid hW2
      clear HR1 HB1 hC hal ho HNW hsn hW2
      go_wp2_with fail
      rw [← HW2.out]
      refine wp_region_X (fun W' => Rows8 W' w1.heap.size 24 #[.slice sa sn sc]) 8 (by kernel_rfl) ?_
      have hS0 : Rows8 W2.drew w1.heap.size 24 #[.slice sa sn sc] := HA.out.drewA
      have HR0 : Hid (Rows8 W2.drew w.heap.size 29 #[.slice none 0 0, .slice none 0 0, .slice none 0 0, .slice none 0 0]) := Lib.hid HR.out.drewA
      have HR := HR0
      have HB0 := Lib.hid HB.out.drew
      have HB := HB0
      have HO0 : Hid (OwnsP 56 w.heap.size (newL n) (.slice sa sn sc) W2.drew) := HO
      have HO := HO0
      clear HA HR0 HB0 HO0
      generalize W2.drew = Wd at *
      refine wpAnyN_take (i := 0) (oi := { dst := some 21, op := Go.Op.load 24 (Go.Operand.tmp 6), type := 24, pos := "monitor.go:20", after := #[], guard := none }) (v := .agg #[.slice sa sn sc]) rfl (by decide) (by kernel_rfl) (by kernel_rfl) (by kernel_rfl) (fun _ _ _ h => h) (Or.inl ⟨by rfl, ?_⟩) hS0 ?_
      · intro W9 hS9
        have s0 : W9.cell? ⟨w1.heap.size, 0, none⟩ = some (.slice sa sn sc) := hS9.cell 0
        clear hS9
        go_simp
      try simp only [Act.put, List.setIfInBounds_toArray, List.set_cons_zero, List.set_cons_succ]
      refine wpAnyN_take (i := 1) (oi := { dst := some 22, op := Go.Op.move (Go.Operand.tmp 0), type := 3, pos := "monitor.go:20", after := #[], guard := none }) (v := .int .i64 (gn : Nat)) rfl (by decide) (by kernel_rfl) (by kernel_rfl) (by kernel_rfl) (fun _ _ _ h => h) (Or.inl ⟨by rfl, ?_⟩) hS0 ?_
      · intro W9 hS9
        clear hS9
        go_simp
      try simp only [Act.put, List.setIfInBounds_toArray, List.set_cons_zero, List.set_cons_succ]
      refine wpAnyN_take (i := 3) (oi := { dst := some 24, op := Go.Op.move (Go.Operand.tmp 0), type := 3, pos := "monitor.go:20", after := #[], guard := none }) (v := .int .i64 (gn : Nat)) rfl (by decide) (by kernel_rfl) (by kernel_rfl) (by kernel_rfl) (fun _ _ _ h => h) (Or.inl ⟨by rfl, ?_⟩) hS0 ?_
      · intro W9 hS9
        clear hS9
        go_simp
      try simp only [Act.put, List.setIfInBounds_toArray, List.set_cons_zero, List.set_cons_succ]
      refine wpAnyX_two (i := 2) (j := 4) (oi := { dst := some 23, op := Go.Op.makeSlice 25 (Go.Operand.tmp 22) (Go.Operand.tmp 22), type := 25, pos := "monitor.go:20", after := #[{ on := 1, ground := Go.Ground.data }, { on := 1, ground := Go.Ground.data }], guard := none }) (oj := { dst := some 25, op := Go.Op.makeSlice 26 (Go.Operand.tmp 24) (Go.Operand.tmp 24), type := 26, pos := "monitor.go:20", after := #[{ on := 3, ground := Go.Ground.data }, { on := 3, ground := Go.Ground.data }], guard := none }) (by kernel_rfl) rfl rfl (fun K hK => ?_) (fun K hK => ?_)
      · refine step_make_full Wd rfl _ _ 25 rfl w.heap.size 4 ib (.bool false) 1 Try.underlying25 hib hzb0 hzb1 .i64 .i64 (gn : Int) (gn : Int) gn (by simp [go_sem]) (by simp [go_sem]) rfl rfl (by rw [hzb2]; omega) (by unfold maxLen; omega) (by have := HB.out.size; omega) ?_
        intro W3 hown hgr
        have hC : Below Wd.heap.size Wd W3 := (Below.refl _ Wd).grown hgr (Nat.le_refl _) (fun j ej => by cases ej)
        have HR := Lib.hid (HR.out.below hC HR.out.lt)
        have HO := Lib.hid (OwnsP.below HO.out hC (Nat.le_refl _))
        have hS1 : Rows8 W3 w1.heap.size 24 #[.slice sa sn sc] := hS0.below hC hS0.lt
        have HP := Lib.hid (newBools hown)
        have HB3 := Lib.hid (HB.out.trans (hC.mono HB.out.size))
        have HB := HB3
        clear HB3 hown hgr hC
        refine hK.out _ _ (fun _ => hS1) ?_
        clear hK K
        try simp only [Act.put, List.setIfInBounds_toArray, List.set_cons_zero, List.set_cons_succ]
        refine wpAnyX_one (i := 4) (o := { dst := some 25, op := Go.Op.makeSlice 26 (Go.Operand.tmp 24) (Go.Operand.tmp 24), type := 26, pos := "monitor.go:20", after := #[{ on := 3, ground := Go.Ground.data }, { on := 3, ground := Go.Ground.data }], guard := none }) (by kernel_rfl) rfl (fun K hK => ?_)
        refine step_make_full W3 rfl _ _ 26 rfl w.heap.size 62 ih (.slice none 0 0) 1 Try.underlying26 hih hzh0 hzh1 .i64 .i64 (gn : Int) (gn : Int) gn (by simp [go_sem]) (by simp [go_sem]) rfl rfl (by rw [hzh2]; omega) (by unfold maxLen; omega) (by have := HB.out.size; omega) ?_
        intro W4 hown hgr
        have hC : Below W3.heap.size W3 W4 := (Below.refl _ W3).grown hgr (Nat.le_refl _) (fun j ej => by cases ej)
        have HR := Lib.hid (HR.out.below hC HR.out.lt)
        have HO := Lib.hid (OwnsP.below HO.out hC (Nat.le_refl _))
        have hS2 : Rows8 W4 w1.heap.size 24 #[.slice sa sn sc] := hS1.below hC hS1.lt
        have HH := Lib.hid (newHas hown)
        have HP := Lib.hid (owns_keep HP.out hC (Nat.le_refl _))
        have HB3 := Lib.hid (HB.out.trans (hC.mono HB.out.size))
        have HB := HB3
        clear HB3 hown hgr hC
        refine hK.out _ _ (fun _ => hS2) ?_
        clear hK K
        try simp only [Act.put, List.setIfInBounds_toArray, List.set_cons_zero, List.set_cons_succ]
        refine wpAnyN_take (i := 5) (oi := { dst := some 26, op := Go.Op.build 29 #[(0, Go.Operand.tmp 21), (1, Go.Operand.tmp 23), (2, Go.Operand.tmp 25)], type := 29, pos := "monitor.go:20", after := #[{ on := 0, ground := Go.Ground.data }, { on := 2, ground := Go.Ground.data }, { on := 4, ground := Go.Ground.data }], guard := none }) (v := .agg #[.slice sa sn sc, .slice (some ⟨Wd.heap.size, 0, none⟩) gn gn, .slice (some ⟨W3.heap.size, 0, none⟩) gn gn, .slice none 0 0]) rfl (by decide) (by kernel_rfl) (by kernel_rfl) (by kernel_rfl) (fun _ _ _ h => h) (Or.inl ⟨by rfl, ?_⟩) hS2 ?_
        · intro W9 hS9
          clear hS9
          first | (go_simp; done) | kernel_rfl
        try simp only [Act.put, List.setIfInBounds_toArray, List.set_cons_zero, List.set_cons_succ]
        refine wpAnyX_one (i := 6) (o := { dst := none, op := Go.Op.store 29 (Go.Operand.tmp 4) (Go.Operand.tmp 26), type := 0, pos := "monitor.go:20", after := #[{ on := 5, ground := Go.Ground.data }, { on := 0, ground := Go.Ground.phase }, { on := 1, ground := Go.Ground.phase }, { on := 2, ground := Go.Ground.phase }, { on := 3, ground := Go.Ground.phase }, { on := 4, ground := Go.Ground.phase }, { on := 5, ground := Go.Ground.phase }], guard := none }) (by kernel_rfl) rfl (fun K hK => ?_)
        have hr0 := HR.out
        have hb0 := HB.out
        have ho0 : OwnMon w.heap.size ⟨sa, sn, sc, some ⟨Wd.heap.size, 0, none⟩, gn, gn, some ⟨W3.heap.size, 0, none⟩, gn, gn, none, 0, 0⟩ ⟨newL n, List.replicate gn false, List.replicate gn [], []⟩ (List.replicate gn (.slice none 0 0)) W4 := ⟨HO.out, HP.out, HH.out, ⟨rfl, .inl ⟨rfl, rfl⟩⟩⟩
        have hS9 := hS2
        have ck0 : W4.cell? ⟨w.heap.size, 0, none⟩ = some (.slice none 0 0) := hr0.cell 0
        have fk0 := hr0.frozen 0
        have ck1 : W4.cell? ⟨w.heap.size, 1, none⟩ = some (.slice none 0 0) := hr0.cell 1
        have fk1 := hr0.frozen 1
        have ck2 : W4.cell? ⟨w.heap.size, 2, none⟩ = some (.slice none 0 0) := hr0.cell 2
        have fk2 := hr0.frozen 2
        have ck3 : W4.cell? ⟨w.heap.size, 3, none⟩ = some (.slice none 0 0) := hr0.cell 3
        have fk3 := hr0.frozen 3
        have hlt := hr0.lt
        refine step_skip_g (by rfl) (w' := ((((W4.setCell ⟨w.heap.size, 0, none⟩ (.slice sa sn sc)).setCell ⟨w.heap.size, 1, none⟩ (.slice (some ⟨Wd.heap.size, 0, none⟩) gn gn)).setCell ⟨w.heap.size, 2, none⟩ (.slice (some ⟨W3.heap.size, 0, none⟩) gn gn)).setCell ⟨w.heap.size, 3, none⟩ (.slice none 0 0))) (by go_simp) ?_
        clear ck0 ck1 ck2 ck3 fk0 fk1 fk2 fk3 hlt
        have hS10 := hS9.setOther (a := ⟨w.heap.size, 0, none⟩) (by show w.heap.size ≠ w1.heap.size; have := HSZ.out; omega) (.slice sa sn sc)
        have ho1 := ho0.set hr0 (by decide) (by decide) (by decide) (by decide) (by decide) 0 (.slice sa sn sc)
        have hb1 := hb0.setCell (p := ⟨w.heap.size, 0, none⟩) (Nat.le_refl _) (.slice sa sn sc)
        have hr1 := hr0.set 0 (.slice sa sn sc)
        simp only [List.setIfInBounds_toArray, List.set_cons_zero, List.set_cons_succ] at hr1
        have hS11 := hS10.setOther (a := ⟨w.heap.size, 1, none⟩) (by show w.heap.size ≠ w1.heap.size; have := HSZ.out; omega) (.slice (some ⟨Wd.heap.size, 0, none⟩) gn gn)
        have ho2 := ho1.set hr1 (by decide) (by decide) (by decide) (by decide) (by decide) 1 (.slice (some ⟨Wd.heap.size, 0, none⟩) gn gn)
        have hb2 := hb1.setCell (p := ⟨w.heap.size, 1, none⟩) (Nat.le_refl _) (.slice (some ⟨Wd.heap.size, 0, none⟩) gn gn)
        have hr2 := hr1.set 1 (.slice (some ⟨Wd.heap.size, 0, none⟩) gn gn)
        simp only [List.setIfInBounds_toArray, List.set_cons_zero, List.set_cons_succ] at hr2
        have hS12 := hS11.setOther (a := ⟨w.heap.size, 2, none⟩) (by show w.heap.size ≠ w1.heap.size; have := HSZ.out; omega) (.slice (some ⟨W3.heap.size, 0, none⟩) gn gn)
        have ho3 := ho2.set hr2 (by decide) (by decide) (by decide) (by decide) (by decide) 2 (.slice (some ⟨W3.heap.size, 0, none⟩) gn gn)
        have hb3 := hb2.setCell (p := ⟨w.heap.size, 2, none⟩) (Nat.le_refl _) (.slice (some ⟨W3.heap.size, 0, none⟩) gn gn)
        have hr3 := hr2.set 2 (.slice (some ⟨W3.heap.size, 0, none⟩) gn gn)
        simp only [List.setIfInBounds_toArray, List.set_cons_zero, List.set_cons_succ] at hr3
        have hS13 := hS12.setOther (a := ⟨w.heap.size, 3, none⟩) (by show w.heap.size ≠ w1.heap.size; have := HSZ.out; omega) (.slice none 0 0)
        have ho4 := ho3.set hr3 (by decide) (by decide) (by decide) (by decide) (by decide) 3 (.slice none 0 0)
        have hb4 := hb3.setCell (p := ⟨w.heap.size, 3, none⟩) (Nat.le_refl _) (.slice none 0 0)
        have hr4 := hr3.set 3 (.slice none 0 0)
        simp only [List.setIfInBounds_toArray, List.set_cons_zero, List.set_cons_succ] at hr4
        have HR4 := Lib.hid hr4
        have HB4 := Lib.hid hb4
        have HO4 := Lib.hid ho4
        clear hr0 hr1 hr2 hr3 hr4 hb0 hb1 hb2 hb3 hb4 ho0 ho1 ho2 ho3 ho4 HR HB HO HP HH
        refine hK.out _ _ (fun _ => hS13) ?_
        clear hK K
        try simp only [Act.put, List.setIfInBounds_toArray, List.set_cons_zero, List.set_cons_succ]
        generalize ((((W4.setCell ⟨w.heap.size, 0, none⟩ (.slice sa sn sc)).setCell ⟨w.heap.size, 1, none⟩ (.slice (some ⟨Wd.heap.size, 0, none⟩) gn gn)).setCell ⟨w.heap.size, 2, none⟩ (.slice (some ⟨W3.heap.size, 0, none⟩) gn gn)).setCell ⟨w.heap.size, 3, none⟩ (.slice none 0 0)) = W9 at *
        refine wpAnyN_take (i := 7) (oi := { dst := some 5, op := Go.Op.assign (Go.Operand.const (Go.Value.int Go.IntKind.i64 0)), type := 33, pos := "monitor.go:20", after := #[{ on := 6, ground := Go.Ground.chain }, { on := 0, ground := Go.Ground.phase }, { on := 1, ground := Go.Ground.phase }, { on := 2, ground := Go.Ground.phase }, { on := 3, ground := Go.Ground.phase }, { on := 4, ground := Go.Ground.phase }, { on := 5, ground := Go.Ground.phase }, { on := 6, ground := Go.Ground.phase }], guard := none }) (v := .int .i64 0) rfl (by decide) (by kernel_rfl) (by kernel_rfl) (by kernel_rfl) (fun _ _ _ h => h) (Or.inl ⟨by rfl, ?_⟩) hS13 ?_
        · intro W9 hS9
          clear hS9
          go_simp
        try simp only [Act.put, List.setIfInBounds_toArray, List.set_cons_zero, List.set_cons_succ]
        refine wpAnyX_end (by kernel_rfl) ?_
        go_wp2_with fail
        refine bodyPost_ret (results_ctA rfl _ _ w.heap.size _ _ rfl rfl (load_row HR4.out Try.underlying29 rfl (by kernel_rfl))) rfl ?_
        exact ⟨_, _, rfl, HO4.out, HB4.out⟩
      · refine step_make_full Wd rfl _ _ 26 rfl w.heap.size 62 ih (.slice none 0 0) 1 Try.underlying26 hih hzh0 hzh1 .i64 .i64 (gn : Int) (gn : Int) gn (by simp [go_sem]) (by simp [go_sem]) rfl rfl (by rw [hzh2]; omega) (by unfold maxLen; omega) (by have := HB.out.size; omega) ?_
        intro W3 hown hgr
        have hC : Below Wd.heap.size Wd W3 := (Below.refl _ Wd).grown hgr (Nat.le_refl _) (fun j ej => by cases ej)
        have HR := Lib.hid (HR.out.below hC HR.out.lt)
        have HO := Lib.hid (OwnsP.below HO.out hC (Nat.le_refl _))
        have hS1 : Rows8 W3 w1.heap.size 24 #[.slice sa sn sc] := hS0.below hC hS0.lt
        have HH := Lib.hid (newHas hown)
        have HB3 := Lib.hid (HB.out.trans (hC.mono HB.out.size))
        have HB := HB3
        clear HB3 hown hgr hC
        refine hK.out _ _ (fun _ => hS1) ?_
        clear hK K
        try simp only [Act.put, List.setIfInBounds_toArray, List.set_cons_zero, List.set_cons_succ]
        refine wpAnyX_one (i := 2) (o := { dst := some 23, op := Go.Op.makeSlice 25 (Go.Operand.tmp 22) (Go.Operand.tmp 22), type := 25, pos := "monitor.go:20", after := #[{ on := 1, ground := Go.Ground.data }, { on := 1, ground := Go.Ground.data }], guard := none }) (by kernel_rfl) rfl (fun K hK => ?_)
        refine step_make_full W3 rfl _ _ 25 rfl w.heap.size 4 ib (.bool false) 1 Try.underlying25 hib hzb0 hzb1 .i64 .i64 (gn : Int) (gn : Int) gn (by simp [go_sem]) (by simp [go_sem]) rfl rfl (by rw [hzb2]; omega) (by unfold maxLen; omega) (by have := HB.out.size; omega) ?_
        intro W4 hown hgr
        have hC : Below W3.heap.size W3 W4 := (Below.refl _ W3).grown hgr (Nat.le_refl _) (fun j ej => by cases ej)
        have HR := Lib.hid (HR.out.below hC HR.out.lt)
        have HO := Lib.hid (OwnsP.below HO.out hC (Nat.le_refl _))
        have hS2 : Rows8 W4 w1.heap.size 24 #[.slice sa sn sc] := hS1.below hC hS1.lt
        have HP := Lib.hid (newBools hown)
        have HH := Lib.hid (HH.out.below hC (Nat.le_refl _))
        have HB3 := Lib.hid (HB.out.trans (hC.mono HB.out.size))
        have HB := HB3
        clear HB3 hown hgr hC
        refine hK.out _ _ (fun _ => hS2) ?_
        clear hK K
        try simp only [Act.put, List.setIfInBounds_toArray, List.set_cons_zero, List.set_cons_succ]
        refine wpAnyN_take (i := 5) (oi := { dst := some 26, op := Go.Op.build 29 #[(0, Go.Operand.tmp 21), (1, Go.Operand.tmp 23), (2, Go.Operand.tmp 25)], type := 29, pos := "monitor.go:20", after := #[{ on := 0, ground := Go.Ground.data }, { on := 2, ground := Go.Ground.data }, { on := 4, ground := Go.Ground.data }], guard := none }) (v := .agg #[.slice sa sn sc, .slice (some ⟨W3.heap.size, 0, none⟩) gn gn, .slice (some ⟨Wd.heap.size, 0, none⟩) gn gn, .slice none 0 0]) rfl (by decide) (by kernel_rfl) (by kernel_rfl) (by kernel_rfl) (fun _ _ _ h => h) (Or.inl ⟨by rfl, ?_⟩) hS2 ?_
        · intro W9 hS9
          clear hS9
          first | (go_simp; done) | kernel_rfl
        try simp only [Act.put, List.setIfInBounds_toArray, List.set_cons_zero, List.set_cons_succ]
        refine wpAnyX_one (i := 6) (o := { dst := none, op := Go.Op.store 29 (Go.Operand.tmp 4) (Go.Operand.tmp 26), type := 0, pos := "monitor.go:20", after := #[{ on := 5, ground := Go.Ground.data }, { on := 0, ground := Go.Ground.phase }, { on := 1, ground := Go.Ground.phase }, { on := 2, ground := Go.Ground.phase }, { on := 3, ground := Go.Ground.phase }, { on := 4, ground := Go.Ground.phase }, { on := 5, ground := Go.Ground.phase }], guard := none }) (by kernel_rfl) rfl (fun K hK => ?_)
        have hr0 := HR.out
        have hb0 := HB.out
        have ho0 : OwnMon w.heap.size ⟨sa, sn, sc, some ⟨W3.heap.size, 0, none⟩, gn, gn, some ⟨Wd.heap.size, 0, none⟩, gn, gn, none, 0, 0⟩ ⟨newL n, List.replicate gn false, List.replicate gn [], []⟩ (List.replicate gn (.slice none 0 0)) W4 := ⟨HO.out, HP.out, HH.out, ⟨rfl, .inl ⟨rfl, rfl⟩⟩⟩
        have hS9 := hS2
        have ck0 : W4.cell? ⟨w.heap.size, 0, none⟩ = some (.slice none 0 0) := hr0.cell 0
        have fk0 := hr0.frozen 0
        have ck1 : W4.cell? ⟨w.heap.size, 1, none⟩ = some (.slice none 0 0) := hr0.cell 1
        have fk1 := hr0.frozen 1
        have ck2 : W4.cell? ⟨w.heap.size, 2, none⟩ = some (.slice none 0 0) := hr0.cell 2
        have fk2 := hr0.frozen 2
        have ck3 : W4.cell? ⟨w.heap.size, 3, none⟩ = some (.slice none 0 0) := hr0.cell 3
        have fk3 := hr0.frozen 3
        have hlt := hr0.lt
        refine step_skip_g (by rfl) (w' := ((((W4.setCell ⟨w.heap.size, 0, none⟩ (.slice sa sn sc)).setCell ⟨w.heap.size, 1, none⟩ (.slice (some ⟨W3.heap.size, 0, none⟩) gn gn)).setCell ⟨w.heap.size, 2, none⟩ (.slice (some ⟨Wd.heap.size, 0, none⟩) gn gn)).setCell ⟨w.heap.size, 3, none⟩ (.slice none 0 0))) (by go_simp) ?_
        clear ck0 ck1 ck2 ck3 fk0 fk1 fk2 fk3 hlt
        have hS10 := hS9.setOther (a := ⟨w.heap.size, 0, none⟩) (by show w.heap.size ≠ w1.heap.size; have := HSZ.out; omega) (.slice sa sn sc)
        have ho1 := ho0.set hr0 (by decide) (by decide) (by decide) (by decide) (by decide) 0 (.slice sa sn sc)
        have hb1 := hb0.setCell (p := ⟨w.heap.size, 0, none⟩) (Nat.le_refl _) (.slice sa sn sc)
        have hr1 := hr0.set 0 (.slice sa sn sc)
        simp only [List.setIfInBounds_toArray, List.set_cons_zero, List.set_cons_succ] at hr1
        have hS11 := hS10.setOther (a := ⟨w.heap.size, 1, none⟩) (by show w.heap.size ≠ w1.heap.size; have := HSZ.out; omega) (.slice (some ⟨W3.heap.size, 0, none⟩) gn gn)
        have ho2 := ho1.set hr1 (by decide) (by decide) (by decide) (by decide) (by decide) 1 (.slice (some ⟨W3.heap.size, 0, none⟩) gn gn)
        have hb2 := hb1.setCell (p := ⟨w.heap.size, 1, none⟩) (Nat.le_refl _) (.slice (some ⟨W3.heap.size, 0, none⟩) gn gn)
        have hr2 := hr1.set 1 (.slice (some ⟨W3.heap.size, 0, none⟩) gn gn)
        simp only [List.setIfInBounds_toArray, List.set_cons_zero, List.set_cons_succ] at hr2
        have hS12 := hS11.setOther (a := ⟨w.heap.size, 2, none⟩) (by show w.heap.size ≠ w1.heap.size; have := HSZ.out; omega) (.slice (some ⟨Wd.heap.size, 0, none⟩) gn gn)
        have ho3 := ho2.set hr2 (by decide) (by decide) (by decide) (by decide) (by decide) 2 (.slice (some ⟨Wd.heap.size, 0, none⟩) gn gn)
        have hb3 := hb2.setCell (p := ⟨w.heap.size, 2, none⟩) (Nat.le_refl _) (.slice (some ⟨Wd.heap.size, 0, none⟩) gn gn)
        have hr3 := hr2.set 2 (.slice (some ⟨Wd.heap.size, 0, none⟩) gn gn)
        simp only [List.setIfInBounds_toArray, List.set_cons_zero, List.set_cons_succ] at hr3
        have hS13 := hS12.setOther (a := ⟨w.heap.size, 3, none⟩) (by show w.heap.size ≠ w1.heap.size; have := HSZ.out; omega) (.slice none 0 0)
        have ho4 := ho3.set hr3 (by decide) (by decide) (by decide) (by decide) (by decide) 3 (.slice none 0 0)
        have hb4 := hb3.setCell (p := ⟨w.heap.size, 3, none⟩) (Nat.le_refl _) (.slice none 0 0)
        have hr4 := hr3.set 3 (.slice none 0 0)
        simp only [List.setIfInBounds_toArray, List.set_cons_zero, List.set_cons_succ] at hr4
        have HR4 := Lib.hid hr4
        have HB4 := Lib.hid hb4
        have HO4 := Lib.hid ho4
        clear hr0 hr1 hr2 hr3 hr4 hb0 hb1 hb2 hb3 hb4 ho0 ho1 ho2 ho3 ho4 HR HB HO HP HH
        refine hK.out _ _ (fun _ => hS13) ?_
        clear hK K
        try simp only [Act.put, List.setIfInBounds_toArray, List.set_cons_zero, List.set_cons_succ]
        generalize ((((W4.setCell ⟨w.heap.size, 0, none⟩ (.slice sa sn sc)).setCell ⟨w.heap.size, 1, none⟩ (.slice (some ⟨W3.heap.size, 0, none⟩) gn gn)).setCell ⟨w.heap.size, 2, none⟩ (.slice (some ⟨Wd.heap.size, 0, none⟩) gn gn)).setCell ⟨w.heap.size, 3, none⟩ (.slice none 0 0)) = W9 at *
        refine wpAnyN_take (i := 7) (oi := { dst := some 5, op := Go.Op.assign (Go.Operand.const (Go.Value.int Go.IntKind.i64 0)), type := 33, pos := "monitor.go:20", after := #[{ on := 6, ground := Go.Ground.chain }, { on := 0, ground := Go.Ground.phase }, { on := 1, ground := Go.Ground.phase }, { on := 2, ground := Go.Ground.phase }, { on := 3, ground := Go.Ground.phase }, { on := 4, ground := Go.Ground.phase }, { on := 5, ground := Go.Ground.phase }, { on := 6, ground := Go.Ground.phase }], guard := none }) (v := .int .i64 0) rfl (by decide) (by kernel_rfl) (by kernel_rfl) (by kernel_rfl) (fun _ _ _ h => h) (Or.inl ⟨by rfl, ?_⟩) hS13 ?_
        · intro W9 hS9
          clear hS9
          go_simp
        try simp only [Act.put, List.setIfInBounds_toArray, List.set_cons_zero, List.set_cons_succ]
        refine wpAnyX_end (by kernel_rfl) ?_
        go_wp2_with fail
        refine bodyPost_ret (results_ctA rfl _ _ w.heap.size _ _ rfl rfl (load_row HR4.out Try.underlying29 rfl (by kernel_rfl))) rfl ?_
        exact ⟨_, _, rfl, HO4.out, HB4.out⟩
end Go.Proofs

/- Monitor: the law's watch. -/
namespace Go.Proofs
set_option maxRecDepth 100000
open Go.RowKit Go.Shelf
attribute [local go_sem] Oper.semAt_some

set_option maxHeartbeats 4000000 in
theorem Try.lawWatch_any (k g i : Int) (q : Nat) (w : World) : Calls Try.prog 26 #[.int .i64 k, .int .i64 g, .agg #[.int .i64 i, .int .u64 (q : Nat)]] w fun e w' => e = .returned (.agg #[.int .i64 k, .int .i64 g, .int .i64 i, .int .u64 (q : Nat)]) ∧ Below w.heap.size w w' := by
  have HB := Lib.hid (show Below w.heap.size w ((w.alloc (.cells #[.int .i64 i, .int .u64 (q : Nat)] 38)).alloc (.cells #[.int .i64 k, .int .i64 g, .int .i64 i, .int .u64 (q : Nat)] 40)) from (Rows8.newB).alloc (by simp) _)
  have HR := Lib.hid (rows_new2 w (.cells #[.int .i64 i, .int .u64 (q : Nat)] 38) 40 #[.int .i64 k, .int .i64 g, .int .i64 i, .int .u64 (q : Nat)])
  go_enter Try.func26, Try.ntmps26
  go_wp2_with fail
  refine bodyPost_ret (results_c rfl _ _ (w.heap.size + 1) 40 _ (0, 0) _ rfl HR.out Try.underlying40 rfl (by kernel_rfl)) rfl ?_
  exact ⟨rfl, HB.out⟩
end Go.Proofs
