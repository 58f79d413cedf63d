/- Proved: for every script, number, and row of goroutines, honeycomblaw03.ScriptCuts returns true, and its arguments read as they did; no condition. -/
import Derived.Test.YtfboppjedgfacaaZYj
import Derived.Test.YtfboppjedgfacaaZSb
import Derived.Test.YtfboppjedgfacaaRows
import Derived.ProofKit
import Derived.ShutString
import Derived.ChangeOld
import Derived.ChangeAt
import Derived.JoinedAt
import Derived.OpenShut
import Derived.Below
namespace Go.Proofs.Ytfboppjedgfacaa.scriptCuts
open Go.ChangeShapes Go.WideShapes Go.ChangeAt Go.RowKit Go.Shelf
attribute [local go_sem] Oper.semAt_some
set_option maxRecDepth 100000

theorem own : ownKnob Try.prog.godebug = none := by kernel_rfl
set_option maxHeartbeats 8000000 in
theorem walkAt (vx : Value) (s : Scr) (p : Int) (a : Option Addr) (n cap : Nat) (bs : List Int) (w : World) (hx : ScrAt w vx s) (hn : n = bs.length) (hb : IntsAt w (.slice a n cap) bs) :
    Calls Try.prog 5 #[vx, .int .i64 p, .slice a n cap] w fun e w' => e = .returned (.bool true) ∧ Below w.heap.size w w' := by
  have hcap : n ≤ cap := by
    obtain ⟨_, _, _, e, h1, _⟩ := hb
    cases e
    exact hn ▸ h1
  obtain ⟨m, hm⟩ : ∃ m, m = min n 10 := ⟨_, rfl⟩
  obtain ⟨gs, hgs⟩ : ∃ gs, gs = bs.take 10 := ⟨_, rfl⟩
  have hml : m = gs.length := by rw [hgs, List.length_take, hm, hn]; exact Nat.min_comm _ _
  have hmb : IntsAt w (.slice a m cap) gs := by
    have h0 := ints_cut hn hb m (by omega)
    rw [hgs]
    have e1 : bs.take m = bs.take 10 := by
      by_cases h : n ≤ 10
      · rw [hm, Nat.min_eq_left h, List.take_of_length_le (by omega), List.take_of_length_le (by omega)]
      · rw [hm, Nat.min_eq_right (by omega)]
    rw [e1] at h0
    exact h0
  have hm2 : m ≤ 10 := by omega
  have g5 : min (n : Int) 10 = (m : Int) := by omega
  have g6 : (if (10 : Int) < (n : Int) then (10 : Int) else (n : Int)) = (m : Int) := by split <;> omega
  have g7 : (if (n : Int) < 10 then (n : Int) else (10 : Int)) = (m : Int) := by split <;> omega
  have g8 : (m : Int) ≤ (cap : Int) := by omega
  have g9 : (0 : Int) ≤ (m : Int) := by omega
  have HML := Lib.hid hml
  have HMB := Lib.hid hmb
  clear hml hmb hgs hm hb hn hcap
  have hok := ownB_ok s
  have h66 : ∀ l ∈ (ownB s).lists, l.length ≤ 100 := fun l hl => by
    unfold ownB at hl
    obtain ⟨r, _, rfl⟩ := List.mem_map.1 hl
    rw [List.length_take]
    omega
  have hx0 := hx
  obtain ⟨al, cl, ap, cp, rfl, _, _⟩ := hx0
  have HOWN : Hid (∀ W : World, Below w.heap.size w W → Calls Try.prog 10 #[.agg #[.int .i64 s.goers, .int .i64 s.slabs, .int .u64 s.seed, .slice al s.lists.length cl, .slice ap s.picks.length cp]] W (OwnQ (ownB s) W)) := Lib.hid fun W hW => Try.own_any _ s W (hx.below hW)
  clear hx
  generalize ownB s = so at *
  obtain ⟨g, b, sd, ls, ps⟩ := s
  dsimp only at HOWN ⊢
  generalize ls.length = ll at *
  generalize ps.length = pl at *
  obtain ⟨ct, hct⟩ : ∃ ct, ct = cutB so p gs := ⟨_, rfl⟩
  have hco : ct.ok := by
    rw [hct]
    unfold cutB
    refine ⟨by show (cutLs _ _).length ≤ _; rw [cutLs_length]; exact hok.1, fun l hl => ?_, by show (List.take _ _).length ≤ _; rw [List.length_take]; have := hok.2.2; omega⟩
    obtain ⟨i, hi, e⟩ := List.getElem_of_mem hl
    have hi' : i < so.lists.length := by have h := hi; rw [cutLs_length] at h; exact h
    have e2 := cutLs_get so.lists gs i hi'
    rw [← e, e2]
    unfold inG
    split
    · exact hok.2.1 _ (List.getElem_mem _)
    · exact Nat.zero_le _
  have HCUT : Hid (∀ (W : World) (v : Value) (x : Option Addr) (y : Nat), ScrAt W v so → IntsAt W (.slice x m y) gs → Calls Try.prog 29 #[v, .int .i64 p, .slice x m y] W (CutQ ct W)) := Lib.hid fun W v x y h1 h2 => by
    rw [hct]
    exact Try.Cut_any v so p x m y gs hok HML.out (by omega) W h1 h66 h2
  have HREF : Hid (∀ (W : World) (v : Value) (x : Option Addr) (y : Nat), ScrAt W v so → IntsAt W (.slice x m y) gs → Calls Try.prog 30 #[v, .int .i64 p, .slice x m y] W (RefCutQ ct W)) := Lib.hid fun W v x y h1 h2 => by
    rw [hct]
    exact Try.refCut_any v so p x m y gs hok HML.out (by omega) W h1 h66 h2
  have HOK := Lib.hid hok
  have HCOK := Lib.hid hco
  clear hok h66 hct hco
  have HB0 : Hid (Below w.heap.size w (w.alloc (.cells #[.int .i64 g, .int .i64 b, .int .u64 sd, .slice al ll cl, .slice ap pl cp] 26))) := Lib.hid ((Below.refl w.heap.size w).alloc (Nat.le_refl _) _)
  have HR0 : Hid (Rows8 (w.alloc (.cells #[.int .i64 g, .int .i64 b, .int .u64 sd, .slice al ll cl, .slice ap pl cp] 26)) w.heap.size 26 #[.int .i64 g, .int .i64 b, .int .u64 sd, .slice al ll cl, .slice ap pl cp]) := Lib.hid (Rows8.new w _ _)
  go_enter Try.func5, Try.ntmps5
  go_wp2_with fail
  generalize w.alloc (.cells #[.int .i64 g, .int .i64 b, .int .u64 sd, .slice al ll cl, .slice ap pl cp] 26) = W0 at *
  refine (Try.wakes_any W0).mono ?_
  rintro e w1 ⟨rfl, hB1⟩
  have HB1 := Lib.hid (HB0.out.trans (hB1.mono HB0.out.size))
  have r1 := HR0.out.below hB1 HR0.out.lt
  obtain ⟨c0, c1, c2, c3, c4⟩ := five8 r1
  have HR1 := Lib.hid r1
  clear hB1 r1 HB0 HR0
  go_wp2_with fail
  refine (HOWN.out w1 HB1.out).mono ?_
  rintro e w2 ⟨v2, rfl, hS2, hB2⟩
  have HB2 := Lib.hid (HB1.out.trans (hB2.mono HB1.out.size))
  have HR2 := Lib.hid (HR1.out.below hB2 HR1.out.lt)
  clear hB2 c0 c1 c2 c3 c4 HB1 HR1
  obtain ⟨al2, cl2, ap2, cp2, rfl, h21, h22⟩ := hS2
  have hS2 : ScrAt w2 (.agg #[.int .i64 so.goers, .int .i64 so.slabs, .int .u64 so.seed, .slice al2 so.lists.length cl2, .slice ap2 so.picks.length cp2]) so := ⟨_, _, _, _, rfl, h21, h22⟩
  have HS2 := Lib.hid hS2
  clear h21 h22 hS2
  go_wp2_with fail
  have HB3 : Hid (Below w.heap.size w (w2.alloc (.cells #[.int .i64 so.goers, .int .i64 so.slabs, .int .u64 so.seed, .slice al2 so.lists.length cl2, .slice ap2 so.picks.length cp2] 26))) := Lib.hid (HB2.out.alloc HB2.out.size _)
  have HR3 : Hid (Rows8 (w2.alloc (.cells #[.int .i64 so.goers, .int .i64 so.slabs, .int .u64 so.seed, .slice al2 so.lists.length cl2, .slice ap2 so.picks.length cp2] 26)) w2.heap.size 26 #[.int .i64 so.goers, .int .i64 so.slabs, .int .u64 so.seed, .slice al2 so.lists.length cl2, .slice ap2 so.picks.length cp2]) := Lib.hid (Rows8.new w2 _ _)
  have HH3 : Hid (Rows8 (w2.alloc (.cells #[.int .i64 so.goers, .int .i64 so.slabs, .int .u64 so.seed, .slice al2 so.lists.length cl2, .slice ap2 so.picks.length cp2] 26)) w.heap.size 26 #[.int .i64 g, .int .i64 b, .int .u64 sd, .slice al ll cl, .slice ap pl cp]) := Lib.hid (HR2.out.alloc _)
  have HS3 : Hid (ScrAt (w2.alloc (.cells #[.int .i64 so.goers, .int .i64 so.slabs, .int .u64 so.seed, .slice al2 so.lists.length cl2, .slice ap2 so.picks.length cp2] 26)) (.agg #[.int .i64 so.goers, .int .i64 so.slabs, .int .u64 so.seed, .slice al2 so.lists.length cl2, .slice ap2 so.picks.length cp2]) so) := Lib.hid (HS2.out.below ((Below.refl _ w2).alloc (Nat.le_refl _) _))
  generalize w2.alloc (.cells #[.int .i64 so.goers, .int .i64 so.slabs, .int .u64 so.seed, .slice al2 so.lists.length cl2, .slice ap2 so.picks.length cp2] 26) = w3 at *
  generalize w2.heap.size = B7 at *
  clear HS2 HB2 HR2
  --S1
  refine (Try.cloneInts_any a m cap gs HML.out (by omega) w3 (RowAt.below HMB.out HB3.out)).mono ?_
  rintro e w5 ⟨v5, rfl, ho5, hB5⟩
  have hi5 : IntsAt w5 v5 gs := rowAt_own ho5
  obtain ⟨_, x5, y5, rfl, _⟩ := rowAt_own ho5
  rw [← HML.out] at hi5 ⊢
  have HC8 : Hid (∀ W : World, Below w5.heap.size w5 W → Rows8 W B7 26 #[.int .i64 so.goers, .int .i64 so.slabs, .int .u64 so.seed, .slice al2 so.lists.length cl2, .slice ap2 so.picks.length cp2] ∧ Rows8 W w.heap.size 26 #[.int .i64 g, .int .i64 b, .int .u64 sd, .slice al ll cl, .slice ap pl cp] ∧ ScrAt W (.agg #[.int .i64 so.goers, .int .i64 so.slabs, .int .u64 so.seed, .slice al2 so.lists.length cl2, .slice ap2 so.picks.length cp2]) so ∧ Below w.heap.size w W) := Lib.hid fun W h => by
    have h3 := hB5.trans (h.mono hB5.size)
    exact ⟨HR3.out.below h3 HR3.out.lt, HH3.out.below h3 HH3.out.lt, HS3.out.below h3, HB3.out.trans (h3.mono HB3.out.size)⟩
  have HI5 := Lib.hid hi5
  have hr := HC8.out w5 (Below.refl _ _)
  have HS5 := Lib.hid hr.2.2.1
  obtain ⟨c0, c1, c2, c3, c4⟩ := five8 hr.1
  clear ho5 hB5 hi5 hr HR3 HH3 HS3 HB3
  go_wp2_with fail
  --S2
  refine (HCUT.out w5 _ x5 y5 HS5.out HI5.out).mono ?_
  rintro e w6' ⟨vl, vp, rfl, hl6, hp6, hB6⟩
  obtain ⟨al3, cl3, rfl⟩ := hl6.form
  obtain ⟨_, ap3, cp3, rfl, _⟩ := rowAt_own hp6
  have HL6 := Lib.hid hl6
  have HP6 := Lib.hid hp6
  have HB6 := Lib.hid hB6
  clear hl6 hp6 hB6 c0 c1 c2 c3 c4 HCUT HS5
  go_wp2_with fail
  --S3
  have hb6 := (Below.refl w6'.heap.size w6').alloc (Nat.le_refl _) (.cells #[.int .i64 ct.goers, .int .i64 ct.slabs, .int .u64 ct.seed, .slice al3 ct.lists.length cl3, .slice ap3 ct.picks.length cp3] 26)
  have HBC : Hid (Below w5.heap.size w5 (w6'.alloc (.cells #[.int .i64 ct.goers, .int .i64 ct.slabs, .int .u64 ct.seed, .slice al3 ct.lists.length cl3, .slice ap3 ct.picks.length cp3] 26))) := Lib.hid (HB6.out.alloc HB6.out.size _)
  have HLC := Lib.hid (HL6.out.keep hb6 (Nat.le_refl _))
  have HPC : Hid (OwnsWords w5.heap.size ct.picks (.slice ap3 ct.picks.length cp3) (w6'.alloc (.cells #[.int .i64 ct.goers, .int .i64 ct.slabs, .int .u64 ct.seed, .slice al3 ct.lists.length cl3, .slice ap3 ct.picks.length cp3] 26))) := Lib.hid (owns_keep HP6.out hb6 (Nat.le_refl _))
  have HRC : Hid (Rows8 (w6'.alloc (.cells #[.int .i64 ct.goers, .int .i64 ct.slabs, .int .u64 ct.seed, .slice al3 ct.lists.length cl3, .slice ap3 ct.picks.length cp3] 26)) w6'.heap.size 26 #[.int .i64 ct.goers, .int .i64 ct.slabs, .int .u64 ct.seed, .slice al3 ct.lists.length cl3, .slice ap3 ct.picks.length cp3]) := Lib.hid (Rows8.new w6' _ _)
  have hB8 : w5.heap.size ≤ w6'.heap.size := HB6.out.size
  have HB8 := Lib.hid hB8
  clear hb6 HL6 HP6 HB6 hB8
  generalize w6'.alloc (.cells #[.int .i64 ct.goers, .int .i64 ct.slabs, .int .u64 ct.seed, .slice al3 ct.lists.length cl3, .slice ap3 ct.picks.length cp3] 26) = w6 at *
  generalize w6'.heap.size = B8 at *
  obtain ⟨nk, hnk⟩ : ∃ nk, nk = m := ⟨_, rfl⟩
  rw [← hnk] at HI5 HREF ⊢
  clear hnk
  have HC6 : Hid (∀ W : World, Below w6.heap.size w6 W → Rows8 W B8 26 #[.int .i64 ct.goers, .int .i64 ct.slabs, .int .u64 ct.seed, .slice al3 ct.lists.length cl3, .slice ap3 ct.picks.length cp3] ∧ Rows8 W w.heap.size 26 #[.int .i64 g, .int .i64 b, .int .u64 sd, .slice al ll cl, .slice ap pl cp] ∧ IntsAt W (.slice x5 nk y5) gs ∧ Below w.heap.size w W) := Lib.hid fun W h => by
    have h5 := HBC.out.trans (h.mono HBC.out.size)
    exact ⟨HRC.out.below h HRC.out.lt, (HC8.out W h5).2.1, RowAt.below HI5.out h5, (HC8.out W h5).2.2.2⟩
  have HC7 : Hid (∀ W : World, Below w6.heap.size w6 W → ScrAt W (.agg #[.int .i64 ct.goers, .int .i64 ct.slabs, .int .u64 ct.seed, .slice al3 ct.lists.length cl3, .slice ap3 ct.picks.length cp3]) ct) := Lib.hid fun W h => ⟨_, _, _, _, rfl, (HLC.out.keep h (Nat.le_refl _)).at, rowAt_own (owns_keep HPC.out h (Nat.le_refl _))⟩
  --S4
  refine wp_region_X (fun W' => Rows8 W' B8 26 #[.int .i64 ct.goers, .int .i64 ct.slabs, .int .u64 ct.seed, .slice al3 ct.lists.length cl3, .slice ap3 ct.picks.length cp3] ∧ Rows8 W' w.heap.size 26 #[.int .i64 g, .int .i64 b, .int .u64 sd, .slice al ll cl, .slice ap pl cp]) 8 (by kernel_rfl) ?_
  have hD : Below w6.heap.size w6 w6.drew := (Below.refl _ _).drew
  have hS0 := HC6.out w6.drew hD
  generalize w6.drew = Wd at *
  refine wpAnyN_take (i := 0) (oi := { dst := some 27, op := Go.Op.load 26 (Go.Operand.tmp 8), type := 26, pos := "law.go:89", after := #[], guard := none }) (v := (.agg #[.int .i64 ct.goers, .int .i64 ct.slabs, .int .u64 ct.seed, .slice al3 ct.lists.length cl3, .slice ap3 ct.picks.length cp3])) rfl (by decide) (by kernel_rfl) (by kernel_rfl) (by kernel_rfl) (fun _ _ _ h => h) (Or.inl ⟨by rfl, ?_⟩) ⟨hS0.1, hS0.2.1⟩ ?_
  · intro W9 hS9
    obtain ⟨q0, q1, q2, q3, q4⟩ := five8 hS9.1
    obtain ⟨q5, q6, q7, q8, q9⟩ := five8 hS9.2
    clear hS9
    go_simp
  try simp only [Act.put, List.setIfInBounds_toArray, List.set_cons_zero, List.set_cons_succ]
  refine wpAnyN_take (i := 1) (oi := { dst := some 28, op := Go.Op.load 26 (Go.Operand.tmp 3), type := 26, pos := "law.go:89", after := #[], guard := none }) (v := (.agg #[.int .i64 g, .int .i64 b, .int .u64 sd, .slice al ll cl, .slice ap pl cp])) rfl (by decide) (by kernel_rfl) (by kernel_rfl) (by kernel_rfl) (fun _ _ _ h => h) (Or.inl ⟨by rfl, ?_⟩) ⟨hS0.1, hS0.2.1⟩ ?_
  · intro W9 hS9
    obtain ⟨q0, q1, q2, q3, q4⟩ := five8 hS9.1
    obtain ⟨q5, q6, q7, q8, q9⟩ := five8 hS9.2
    clear hS9
    go_simp
  try simp only [Act.put, List.setIfInBounds_toArray, List.set_cons_zero, List.set_cons_succ]
  refine wpAnyN_take (i := 3) (oi := { dst := some 30, op := Go.Op.move (Go.Operand.tmp 1), type := 3, pos := "law.go:89", after := #[], guard := none }) (v := .int .i64 p) rfl (by decide) (by kernel_rfl) (by kernel_rfl) (by kernel_rfl) (fun _ _ _ h => h) (Or.inl ⟨by rfl, ?_⟩) ⟨hS0.1, hS0.2.1⟩ ?_
  · intro W9 hS9
    obtain ⟨q0, q1, q2, q3, q4⟩ := five8 hS9.1
    obtain ⟨q5, q6, q7, q8, q9⟩ := five8 hS9.2
    clear hS9
    go_simp
  try simp only [Act.put, List.setIfInBounds_toArray, List.set_cons_zero, List.set_cons_succ]
  refine wpAnyN_take (i := 4) (oi := { dst := some 31, op := Go.Op.move (Go.Operand.tmp 2), type := 27, pos := "law.go:89", after := #[], guard := none }) (v := .slice x5 nk y5) rfl (by decide) (by kernel_rfl) (by kernel_rfl) (by kernel_rfl) (fun _ _ _ h => h) (Or.inl ⟨by rfl, ?_⟩) ⟨hS0.1, hS0.2.1⟩ ?_
  · intro W9 hS9
    obtain ⟨q0, q1, q2, q3, q4⟩ := five8 hS9.1
    obtain ⟨q5, q6, q7, q8, q9⟩ := five8 hS9.2
    clear hS9
    go_simp
  try simp only [Act.put, List.setIfInBounds_toArray, List.set_cons_zero, List.set_cons_succ]
  refine wpAnyX_one (i := 2) (o := { dst := some 29, op := Go.Op.call { callee := Go.Callee.value (Go.Operand.func 10), args := #[Go.Operand.tmp 28], argTypes := #[26] }, type := 26, pos := "law.go:89", after := #[{ on := 1, ground := Go.Ground.data }], guard := none }) (by kernel_rfl) rfl (fun K hK => ?_)
  refine step_call_g (by rfl) 10 _ _ rfl (fun _ _ => by kernel_rfl) #[(.agg #[.int .i64 g, .int .i64 b, .int .u64 sd, .slice al ll cl, .slice ap pl cp])] (by simp [go_sem]) _ (HOWN.out Wd (hS0).2.2.2) ?_
  rintro e wx ⟨vx, rfl, hSx, hBx⟩
  refine ⟨_, rfl, ?_⟩
  obtain ⟨al7, cl7, ap7, cp7, rfl, hxa, hxb⟩ := hSx
  have hSx : ScrAt wx (.agg #[.int .i64 so.goers, .int .i64 so.slabs, .int .u64 so.seed, .slice al7 so.lists.length cl7, .slice ap7 so.picks.length cp7]) so := ⟨_, _, _, _, rfl, hxa, hxb⟩
  clear hxa hxb
  have hE := hD.trans (hBx.mono hD.size)
  have hS1 := HC6.out wx hE
  refine hK.out _ _ (fun _ => ⟨hS1.1, hS1.2.1⟩) ?_
  clear hK K
  try simp only [Act.put, List.setIfInBounds_toArray, List.set_cons_zero, List.set_cons_succ]
  refine wpAnyX_one (i := 5) (o := { dst := some 32, op := Go.Op.call { callee := Go.Callee.value (Go.Operand.func 30), args := #[Go.Operand.tmp 29, Go.Operand.tmp 30, Go.Operand.tmp 31], argTypes := #[26, 3, 27] }, type := 26, pos := "law.go:89", after := #[{ on := 2, ground := Go.Ground.data }, { on := 3, ground := Go.Ground.data }, { on := 4, ground := Go.Ground.data }, { on := 2, ground := Go.Ground.chain }], guard := none }) (by kernel_rfl) rfl (fun K hK => ?_)
  refine step_call_g (by rfl) 30 _ _ rfl (fun _ _ => by kernel_rfl) #[(.agg #[.int .i64 so.goers, .int .i64 so.slabs, .int .u64 so.seed, .slice al7 so.lists.length cl7, .slice ap7 so.picks.length cp7]), .int .i64 p, .slice x5 nk y5] (by simp [go_sem]) _ (HREF.out wx _ x5 y5 hSx hS1.2.2.1) ?_
  rintro e wy ⟨vy, rfl, hSy, hBy⟩
  refine ⟨_, rfl, ?_⟩
  have hG := hE.trans (hBy.mono hE.size)
  have hS2 := HC6.out wy hG
  refine hK.out _ _ (fun _ => ⟨hS2.1, hS2.2.1⟩) ?_
  clear hK K
  try simp only [Act.put, List.setIfInBounds_toArray, List.set_cons_zero, List.set_cons_succ]
  refine wpAnyX_one (i := 6) (o := { dst := some 33, op := Go.Op.call { callee := Go.Callee.value (Go.Operand.func 16), args := #[Go.Operand.tmp 27, Go.Operand.tmp 32], argTypes := #[26, 26] }, type := 4, pos := "law.go:89", after := #[{ on := 0, ground := Go.Ground.data }, { on := 5, ground := Go.Ground.data }, { on := 5, ground := Go.Ground.chain }], guard := none }) (by kernel_rfl) rfl (fun K hK => ?_)
  refine step_call_g (by rfl) 16 _ _ rfl (fun _ _ => by kernel_rfl) #[(.agg #[.int .i64 ct.goers, .int .i64 ct.slabs, .int .u64 ct.seed, .slice al3 ct.lists.length cl3, .slice ap3 ct.picks.length cp3]), vy] (by simp [go_sem]) _ (Try.refSame_any _ _ _ _ HCOK.out HCOK.out wy (HC7.out wy hG) hSy) ?_
  rintro e wz ⟨rfl, hBz⟩
  rw [decide_eq_true rfl]
  refine ⟨_, rfl, ?_⟩
  have hI := hG.trans (hBz.mono hG.size)
  have hS3 := HC6.out wz hI
  refine hK.out _ _ (fun _ => ⟨hS3.1, hS3.2.1⟩) ?_
  clear hK K
  try simp only [Act.put, List.setIfInBounds_toArray, List.set_cons_zero, List.set_cons_succ]
  refine wpAnyX_one (i := 7) (o := { dst := some 34, op := Go.Op.unOp Go.UnOp.not 4 (Go.Operand.tmp 33), type := 4, pos := "law.go:89", after := #[{ on := 6, ground := Go.Ground.data }], guard := none }) (by kernel_rfl) rfl (fun K hK => ?_)
  refine step_value_g (by rfl) (.bool false) (w' := wz) (by go_simp) ?_
  refine hK.out _ _ (fun _ => ⟨hS3.1, hS3.2.1⟩) ?_
  clear hK K
  try simp only [Act.put, List.setIfInBounds_toArray, List.set_cons_zero, List.set_cons_succ]
  refine wpAnyX_end (by kernel_rfl) ?_
  have HI := Lib.hid hI
  clear hD hS0 hSx hBx hE hS1 hSy hBy hG hS2 hBz hI hS3
  --S5
  have e4 : wz.cell? ⟨B8, 4, none⟩ = some (.slice ap3 ct.picks.length cp3) := (HC6.out wz HI.out).1.cell 4
  go_wp2_with fail
  --S6
  have HJ0 : Hid (∃ cur, ct.picks.length = cur.length ∧ OwnsWords w5.heap.size cur (.slice ap3 ct.picks.length cp3) wz ∧ OwnsL w5.heap.size ct.lists (.slice al3 ct.lists.length cl3) wz ∧ Rows8 wz B8 26 #[.int .i64 ct.goers, .int .i64 ct.slabs, .int .u64 ct.seed, .slice al3 ct.lists.length cl3, .slice ap3 ct.picks.length cp3] ∧ Below w5.heap.size w5 wz) := Lib.hid ⟨ct.picks, rfl, owns_keep HPC.out HI.out (Nat.le_refl _), HLC.out.keep HI.out (Nat.le_refl _), (HC6.out wz HI.out).1, HBC.out.trans (HI.out.mono HBC.out.size)⟩
  have hpk : ct.picks.length ≤ 10000 := HCOK.out.2.2
  have hlk : ct.lists.length ≤ 10000 := HCOK.out.1
  clear e4 HC6 HC7 HREF HLC HPC HRC HBC HI HI5
  generalize ct.picks.length = mp at *
  generalize ct.lists.length = nl3 at *
  go_loopw [38] (fun jv wr => ∃ k : Nat, k ≤ mp ∧ jv = .int .i64 k ∧ Hid (∃ cur : List Int, mp = cur.length ∧ OwnsWords w5.heap.size cur (.slice ap3 mp cp3) wr ∧ OwnsL w5.heap.size ct.lists (.slice al3 nl3 cl3) wr ∧ Rows8 wr B8 26 #[.int .i64 ct.goers, .int .i64 ct.slabs, .int .u64 ct.seed, .slice al3 nl3 cl3, .slice ap3 mp cp3] ∧ Below w5.heap.size w5 wr)) (fun jv _ => mp - (intOf jv).toNat)
  case atStart => exact ⟨0, Nat.zero_le _, rfl, HJ0⟩
  case round =>
    clear HJ0
    obtain ⟨k, hk, rfl, HJ⟩ := hrel
    by_cases hlt : k < mp
    · obtain ⟨cur, hcl, hO, hLs, hR, hBB⟩ := HJ.out
      obtain ⟨bw, cs, z, rfl, hbw, rw_, hz, hf⟩ := words_get hO hlt
      have e4 : wr.cell? ⟨B8, 4, none⟩ = some (.slice (some ⟨bw, 0, none⟩) mp cp3) := hR.cell 4
      have hki : (k : Int) < (mp : Int) := by omega
      have HN : Hid (∀ z2 : Int, ∃ cur : List Int, mp = cur.length ∧ OwnsWords w5.heap.size cur (.slice (some ⟨bw, 0, none⟩) mp cp3) (wr.setCell ⟨bw, k, none⟩ (.int .u64 z2)) ∧ OwnsL w5.heap.size ct.lists (.slice al3 nl3 cl3) (wr.setCell ⟨bw, k, none⟩ (.int .u64 z2)) ∧ Rows8 (wr.setCell ⟨bw, k, none⟩ (.int .u64 z2)) B8 26 #[.int .i64 ct.goers, .int .i64 ct.slabs, .int .u64 ct.seed, .slice al3 nl3 cl3, .slice (some ⟨bw, 0, none⟩) mp cp3] ∧ Below w5.heap.size w5 (wr.setCell ⟨bw, k, none⟩ (.int .u64 z2))) := Lib.hid fun z2 =>
        ⟨cur.set k z2, by rw [List.length_set]; exact hcl, (store_word hO hcl hlt z2).1, hLs.setNe (a := ⟨bw, k, none⟩) rw_ (by decide) (by decide) _, hR.setOther (rows_apart hR rw_ (by decide)) _, hBB.setCell hbw _⟩
      clear hO hLs hR hBB rw_ hcl HJ
      --S7
      go_wp2_with fail
      exact ⟨⟨k + 1, by omega, by go_num, Lib.hid (HN.out _)⟩, by simp [intOf]; omega⟩
    · obtain rfl : k = mp := by omega
      obtain ⟨cur, hcl, hO, hLs, hR, hBB⟩ := HJ.out
      have e3 : wr.cell? ⟨B8, 3, none⟩ = some (.slice al3 nl3 cl3) := hR.cell 3
      obtain ⟨vs, hv1, hv2⟩ := hLs
      have hnl3 : nl3 = ct.lists.length := by
        obtain ⟨_, _, _, e, _⟩ := rowAt_own hv1
        cases e
        rfl
      rw [← hnl3] at hv1
      have HW0 : Hid (ListsOf w5.heap.size nl3 (.slice al3 nl3 cl3) vs wr ∧ Below w5.heap.size w5 wr) := Lib.hid ⟨⟨hv1, fun i hi => by
        obtain ⟨a', c', h3, h4⟩ := hv2 i (by rw [← hnl3]; exact hi)
        exact ⟨a', c', _, h3, h4⟩⟩, hBB⟩
      clear HJ hcl hO hR hBB hv1 hv2 hnl3
      --S8
      go_wp2_with fail
      clear e3
      obtain ⟨wo, hwo⟩ : ∃ wo, wo = wr := ⟨_, rfl⟩
      rw [← hwo] at HW0 ⊢
      clear hwo
      --S9
      go_loopw [52] (fun jv wr => ∃ i : Nat, i ≤ nl3 ∧ jv = .int .i64 i ∧ Hid (ListsOf w5.heap.size nl3 (.slice al3 nl3 cl3) vs wr ∧ Below w5.heap.size w5 wr)) (fun jv _ => nl3 - (intOf jv).toNat)
      case atStart => exact ⟨0, Nat.zero_le _, rfl, HW0⟩
      case round =>
        clear HW0
        obtain ⟨i, hi, rfl, HW⟩ := hrel
        by_cases hlt2 : i < nl3
        · obtain ⟨L, v, rfl, hcv, hvs⟩ := HW.out.1.get hlt2
          obtain ⟨a4, c4, l4, hv4, _⟩ := HW.out.1.2 i hlt2
          rw [hvs] at hv4
          cases hv4
          obtain ⟨n4, hn4⟩ : ∃ n4, n4 = l4.length := ⟨_, rfl⟩
          rw [← hn4] at hvs hcv
          have hn63 : n4 ≤ 9223372036854775807 := by
            obtain ⟨a5, c5, l5, hv5, ho5⟩ := HW.out.1.2 i hlt2
            rw [hvs] at hv5
            cases hv5
            obtain ⟨_, _, _, e, h1, h2, _⟩ := rowAt_own ho5
            cases e
            unfold maxLen at h2
            omega
          have HVS := Lib.hid hvs
          have hii : (i : Int) < (nl3 : Int) := by omega
          clear hn4 hvs
          obtain ⟨wo, hwo⟩ : ∃ wo, wo = wr := ⟨_, rfl⟩
          rw [← hwo] at HW hcv ⊢
          clear hwo
          --SA
          go_wp2_with fail
          --SB
          go_loopw [58] (fun jv wr => ∃ j : Nat, j ≤ n4 ∧ jv = .int .i64 j ∧ Hid (ListsOf w5.heap.size nl3 (.slice (some ⟨L, 0, none⟩) nl3 cl3) vs wr ∧ Below w5.heap.size w5 wr)) (fun jv _ => n4 - (intOf jv).toNat)
          case atStart => exact ⟨0, Nat.zero_le _, rfl, HW⟩
          case round =>
            clear HW hcv
            obtain ⟨j, hj, rfl, HW⟩ := hrel
            by_cases hlt3 : j < n4
            · obtain ⟨a5, c5, l5, hv5, ho5⟩ := HW.out.1.2 i hlt2
              rw [HVS.out] at hv5
              have hq := Option.some.inj hv5
              injection hq with hq1 hq2 hq3
              subst hq1 hq3
              rw [← hq2] at ho5
              obtain ⟨bq, cs, z, rfl, hbq, rq, hz, hf⟩ := calls_get ho5 hlt3
              have HN : Hid (∀ z2 : Int, ListsOf w5.heap.size nl3 (.slice (some ⟨L, 0, none⟩) nl3 cl3) vs (wr.setCell ⟨bq, j * 4 + 1, none⟩ (.int .u64 z2)) ∧ Below w5.heap.size w5 (wr.setCell ⟨bq, j * 4 + 1, none⟩ (.int .u64 z2))) := Lib.hid fun z2 => ⟨HW.out.1.store rq z2, HW.out.2.setCell hbq _⟩
              have hjj : (j : Int) < (n4 : Int) := by omega
              clear ho5 hv5 hq2 rq HW
              --SC
              go_wp2_with fail
              exact ⟨⟨j + 1, by omega, by go_num, Lib.hid (HN.out _)⟩, by simp [intOf]; omega⟩
            · obtain rfl : j = n4 := by omega
              --SD
              go_wp2_with fail
              exact ⟨⟨i + 1, by omega, by go_num, HW⟩, by simp [intOf]; omega⟩
        · obtain rfl : i = nl3 := by omega
          have HBW := Lib.hid HW.out.2
          clear HW
          --SE
          go_wp2_with fail
          --SF
          refine wp_region_X (fun W' => Rows8 W' B7 26 #[.int .i64 so.goers, .int .i64 so.slabs, .int .u64 so.seed, .slice al2 so.lists.length cl2, .slice ap2 so.picks.length cp2] ∧ Rows8 W' w.heap.size 26 #[.int .i64 g, .int .i64 b, .int .u64 sd, .slice al ll cl, .slice ap pl cp]) 5 (by kernel_rfl) ?_
          have hD := HBW.out.drew
          have hS0 := HC8.out wr.drew hD
          generalize wr.drew = Wd at *
          refine wpAnyN_take (i := 0) (oi := { dst := some 71, op := Go.Op.load 26 (Go.Operand.tmp 7), type := 26, pos := "law.go:100", after := #[], guard := none }) (v := (.agg #[.int .i64 so.goers, .int .i64 so.slabs, .int .u64 so.seed, .slice al2 so.lists.length cl2, .slice ap2 so.picks.length cp2])) rfl (by decide) (by kernel_rfl) (by kernel_rfl) (by kernel_rfl) (fun _ _ _ h => h) (Or.inl ⟨by rfl, ?_⟩) ⟨hS0.1, hS0.2.1⟩ ?_
          · intro W9 hS9
            obtain ⟨q0, q1, q2, q3, q4⟩ := five8 hS9.1
            obtain ⟨q5, q6, q7, q8, q9⟩ := five8 hS9.2
            clear hS9
            go_simp
          try simp only [Act.put, List.setIfInBounds_toArray, List.set_cons_zero, List.set_cons_succ]
          refine wpAnyN_take (i := 1) (oi := { dst := some 72, op := Go.Op.load 26 (Go.Operand.tmp 3), type := 26, pos := "law.go:100", after := #[], guard := none }) (v := (.agg #[.int .i64 g, .int .i64 b, .int .u64 sd, .slice al ll cl, .slice ap pl cp])) rfl (by decide) (by kernel_rfl) (by kernel_rfl) (by kernel_rfl) (fun _ _ _ h => h) (Or.inl ⟨by rfl, ?_⟩) ⟨hS0.1, hS0.2.1⟩ ?_
          · intro W9 hS9
            obtain ⟨q0, q1, q2, q3, q4⟩ := five8 hS9.1
            obtain ⟨q5, q6, q7, q8, q9⟩ := five8 hS9.2
            clear hS9
            go_simp
          try simp only [Act.put, List.setIfInBounds_toArray, List.set_cons_zero, List.set_cons_succ]
          refine wpAnyX_one (i := 2) (o := { dst := some 73, op := Go.Op.call { callee := Go.Callee.value (Go.Operand.func 10), args := #[Go.Operand.tmp 72], argTypes := #[26] }, type := 26, pos := "law.go:100", after := #[{ on := 1, ground := Go.Ground.data }], guard := none }) (by kernel_rfl) rfl (fun K hK => ?_)
          refine step_call_g (by rfl) 10 _ _ rfl (fun _ _ => by kernel_rfl) #[(.agg #[.int .i64 g, .int .i64 b, .int .u64 sd, .slice al ll cl, .slice ap pl cp])] (by simp [go_sem]) _ (HOWN.out Wd (hS0).2.2.2) ?_
          rintro e wx ⟨vx, rfl, hSx, hBx⟩
          refine ⟨_, rfl, ?_⟩
          obtain ⟨al8, cl8, ap8, cp8, rfl, hxa, hxb⟩ := hSx
          have hSx : ScrAt wx (.agg #[.int .i64 so.goers, .int .i64 so.slabs, .int .u64 so.seed, .slice al8 so.lists.length cl8, .slice ap8 so.picks.length cp8]) so := ⟨_, _, _, _, rfl, hxa, hxb⟩
          clear hxa hxb
          have hE := hD.trans (hBx.mono hD.size)
          have hS1 := HC8.out wx hE
          refine hK.out _ _ (fun _ => ⟨hS1.1, hS1.2.1⟩) ?_
          clear hK K
          try simp only [Act.put, List.setIfInBounds_toArray, List.set_cons_zero, List.set_cons_succ]
          refine wpAnyX_one (i := 3) (o := { dst := some 74, op := Go.Op.call { callee := Go.Callee.value (Go.Operand.func 16), args := #[Go.Operand.tmp 71, Go.Operand.tmp 73], argTypes := #[26, 26] }, type := 4, pos := "law.go:100", after := #[{ on := 0, ground := Go.Ground.data }, { on := 2, ground := Go.Ground.data }, { on := 2, ground := Go.Ground.chain }], guard := none }) (by kernel_rfl) rfl (fun K hK => ?_)
          refine step_call_g (by rfl) 16 _ _ rfl (fun _ _ => by kernel_rfl) #[(.agg #[.int .i64 so.goers, .int .i64 so.slabs, .int .u64 so.seed, .slice al2 so.lists.length cl2, .slice ap2 so.picks.length cp2]), (.agg #[.int .i64 so.goers, .int .i64 so.slabs, .int .u64 so.seed, .slice al8 so.lists.length cl8, .slice ap8 so.picks.length cp8])] (by simp [go_sem]) _ (Try.refSame_any _ _ _ _ HOK.out HOK.out wx (hS1.2.2.1) hSx) ?_
          rintro e wz ⟨rfl, hBz⟩
          rw [decide_eq_true rfl]
          refine ⟨_, rfl, ?_⟩
          have hI := hE.trans (hBz.mono hE.size)
          have hS3 := HC8.out wz hI
          refine hK.out _ _ (fun _ => ⟨hS3.1, hS3.2.1⟩) ?_
          clear hK K
          try simp only [Act.put, List.setIfInBounds_toArray, List.set_cons_zero, List.set_cons_succ]
          refine wpAnyX_one (i := 4) (o := { dst := some 6, op := Go.Op.assign (Go.Operand.tmp 74), type := 4, pos := "law.go:100", after := #[{ on := 3, ground := Go.Ground.data }, { on := 3, ground := Go.Ground.chain }, { on := 0, ground := Go.Ground.phase }, { on := 1, ground := Go.Ground.phase }, { on := 2, ground := Go.Ground.phase }, { on := 3, ground := Go.Ground.phase }], guard := none }) (by kernel_rfl) rfl (fun K hK => ?_)
          refine step_value_g (by rfl) (.bool true) (w' := wz) (by go_simp) ?_
          refine hK.out _ _ (fun _ => ⟨hS3.1, hS3.2.1⟩) ?_
          clear hK K
          try simp only [Act.put, List.setIfInBounds_toArray, List.set_cons_zero, List.set_cons_succ]
          refine wpAnyX_end (by kernel_rfl) ?_
          have HI := Lib.hid hS3.2.2.2
          clear hD hS0 hSx hBx hE hS1 hBz hI hS3
          go_wp2_with fail
          go_ret
          first | exact ⟨rfl, HI.out⟩ | exact ⟨trivial, HI.out⟩ | (simp; exact HI.out)
theorem walk (v0 : Value) (s0 : Scr) (i1 : Int) (a2 : Option Addr) (len2 cap2 : Nat) (z2 : List Int) (w : World) (h0 : ScrAt w v0 s0) (n2 : len2 = z2.length) (h2 : IntsAt w (.slice a2 len2 cap2) z2) :
    Calls Try.prog 5 #[v0, .int .i64 i1, .slice a2 len2 cap2] w fun e w' => e = .returned (.bool true) ∧ Below w.heap.size w w' := walkAt v0 s0 i1 a2 len2 cap2 z2 w h0 n2 h2
theorem laidOut : laidOutB Try.prog = true := by kernel_rfl
theorem lifted (os : Os) (started : os.Started) (H : Type) (enc : TypeId × Value → H) :
    ReturnsInHanded {} Try.checked os 5 .any (Rows.scriptCutsSpec.pre6 enc Try.prog Try.f5 Rows.scriptCutsRow.domain false) (Rows.scriptCutsSpec.post enc Try.prog Try.f5 false true false false) := by
  refine returnsInHanded_of_change (C := Try.checked) own started (by kernel_rfl) Try.func5
    (ChangeSpec.witness6 (enc := enc) (C := Try.checked) false ⟨#[], #[.agg #[.int .i64 0, .int .i64 0, .int .u64 0, .slice none 0 0, .slice none 0 0], .int .i64 0, .slice none 0 0], []⟩ 8 (by kernel_rfl) (by kernel_rfl) (by kernel_rfl) (by kernel_rfl)) ?_
  intro W base args ds gs before hval0 hW hcnd _
  have hval : ∀ (j : Nat) t v, Try.f5.params[j]? = some t → args[j]? = some v → Value.okWide Try.prog W .any base t v := hval0
  have hW' := hW
  obtain ⟨p, q, hA0, hV, rfl, hfz, hnd⟩ := hW
  have hA : DataW.TrodAll enc Try.prog W 0 (fun _ => true) true Try.f5.params.toList args.toList ds p := hA0
  rw [Try.params5] at hA hval
  obtain ⟨v0, vs0, d0, ds0, p0, q0, hargs, rfl, rfl, h0, r0⟩ := trodAll_cons hA
  obtain ⟨v1, vs1, d1, ds1, p1, q1, rfl, rfl, rfl, h1, r1⟩ := trodAll_cons r0
  obtain ⟨v2, vs2, d2, ds2, p2, q2, rfl, rfl, rfl, h2, r2⟩ := trodAll_cons r1
  obtain ⟨rfl, rfl, rfl⟩ := trodAll_nil r2
  obtain rfl : args = #[v0, v1, v2] := by cases args; simp_all
  obtain ⟨rfl, rfl⟩ := trodVars_none hV
  obtain ⟨s0, e0, wf0⟩ := open_scr (hval 0 26 v0 rfl rfl) h0
  have k0 := h0
  have lt0 : ∀ x ∈ p0, x.block < W.heap.size := by obtain ⟨m, hm⟩ := k0; exact DataW.trod_lt m _ _ _ hm
  obtain ⟨i1, rfl, rfl, rfl, w1⟩ := open_int Try.underlying3 (hval 1 3 v1 rfl rfl) h1
  have hv2 := hval 2 27 v2 rfl rfl
  obtain ⟨a2, len2, cap2, rfl⟩ := okWide_slice Try.underlying27 hv2
  have k2 := h2
  have lt2 : ∀ x ∈ p2, x.block < W.heap.size := by obtain ⟨m, hm⟩ := k2; exact DataW.trod_lt m _ _ _ hm
  obtain ⟨z2, n2, e2⟩ : ∃ l : List Int, len2 = l.length ∧ IntsAt W (.slice a2 len2 cap2) l := by
    obtain ⟨fuel, hf⟩ := h2
    exact open_intRow hf
  clear hA0 hval0
  refine (walk v0 s0 i1 a2 len2 cap2 z2 W e0 n2 e2).mono fun e W' ⟨he, bel⟩ => ?_
  subst he
  exact ⟨_, rfl, _, _, _, [], _, [], hW', trodAll_mk1 (shut_bool Try.underlying4 _), (trodAll_cons_mk (Below.trod laidOut (by kernel_rfl) (of_decide_eq_true (by kernel_rfl)) k0 bel lt0) (trodAll_cons_mk (shut_int Try.underlying3 w1) (trodAll_cons_mk (Below.trod laidOut (by kernel_rfl) (of_decide_eq_true (by kernel_rfl)) k2 bel lt2) trodAll_mk0))), rfl, bel.frame _, fun h => by cases h⟩

theorem over : Rows.scriptCutsRow.holds Try.pinned (OpenSpec.ofChange Rows.scriptCutsSpec) :=
  OpenClaim.holds_of_wide 5 Try.f5 rfl rfl rfl rfl rfl rfl rfl ⟨rfl, rfl, rfl, rfl, rfl⟩ rfl rfl rfl rfl rfl (by kernel_rfl) Try.func5 (by kernel_rfl)
    (of_decide_eq_true (by kernel_rfl)) (by unfold Func.isWrapper; first | (rw [if_pos (by decide +kernel)]; kernel_rfl) | (rw [if_neg (by decide +kernel)]; exact ⟨rfl, rfl⟩))
    (fun os started H enc _ => lifted os started H enc)

theorem proved : Rows.ScriptCutsSaid := over
end Go.Proofs.Ytfboppjedgfacaa.scriptCuts
