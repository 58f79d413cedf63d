/- Proved: for every two groups and row of slots, honeycomblaw10.GroupTells returns true, and its arguments read as they did; no condition. -/
import Derived.Test.YtccbgekibllfpaaZVf
import Derived.Deep.Cut
import Derived.ShutString
import Derived.ChangeOld
import Derived.Below
namespace Go.Proofs
set_option maxRecDepth 100000
open Go.RowKit Go.Shelf
attribute [local go_sem] Oper.semAt_some

structure Tt (w : World) (x y : Gr) (W : World) : Prop where
  x : Rows8 W w.heap.size 25 (gc x)
  y : Rows8 W (w.heap.size + 1) 25 (gc y)
  b : Below w.heap.size w W
theorem Tt.below {w W W' : World} {x y : Gr} (p : Tt w x y W) (q : Below W.heap.size W W') : Tt w x y W' := ⟨p.x.below q p.x.lt, p.y.below q p.y.lt, p.b.trans (q.mono p.b.size)⟩
theorem wpList_neqV {P : Program} {ops : Array Oper} {rest : List Oper} {o : Oper} {a : Act} {w : World} {Q : Exit → Act → World → Prop} (hw : Region.wanted o (yielded ops a.tmps) = true) (t : TypeId) (x y : Operand) (ho : o.op = .binOp .neq t x y t) (xs ys : Array Value) (hx : a.eval x = .agg xs) (hy : a.eval y = .agg ys)
    (hm : P.eqGuardType P.depth t = false) (b : Bool) (hb : (Op.equalIn 10000 t (.agg xs) (.agg ys)).run P w = .ok b w) (h : wpList P ops Q rest (a.put o.dst (.bool (!b))) w) : wpList P ops Q (o :: rest) a w := by
  unfold wpList
  rw [if_pos hw]
  refine .inl ?_
  unfold Oper.wp
  rw [exec_neq t x y ho xs ys hx hy hm b hb]
  exact h
set_option maxHeartbeats 100000000 in
theorem Try.tells_any (x y : Gr) (hcx : x.c < 18446744073709551616) (hcy : y.c < 18446744073709551616) (a : Option Addr) (n c : Nat) (ls : List Sl) (hn : n = ls.length) (w : World) (hrow : RowAt w (.slice a n c) n 3 (slotVals ls)) :
    Calls Try.prog 3 #[.agg (gc x), .agg (gc y), .slice a n c] w fun e w' => e = .returned (.bool true) ∧ Below w.heap.size w w' := by
  have HWk := fun W => Lib.hid (Try.wakes_any W)
  have HCX := Lib.hid hcx
  have HN := Lib.hid hn
  have HR := Lib.hid hrow
  have HRt := fun W => Lib.hid (Try.rgRight_any x hcx W)
  have HRy := fun W => Lib.hid (Try.rgRight_any y hcy W)
  have HCk := fun W => Lib.hid (Try.gCheck_any x W)
  have HSm := fun W => Lib.hid (Try.gSame_any x y W)
  have HSr := fun W => Lib.hid (Try.rgSame_any x y hcx W)
  have HGF := fun W => Lib.hid (Try.gFree_any x W)
  have HGL := fun W => Lib.hid (Try.gLive_any x W)
  have HNw := fun W => Lib.hid (Try.gNew_any W)
  have HNr := fun W => Lib.hid (Try.rgNew_any W)
  generalize (ofB fun _ => 128) = nc at *
  obtain ⟨nw, hnw⟩ : ∃ nw : Gr, (⟨nc, fun _ => 0, fun _ => 0⟩ : Gr) = nw := ⟨_, rfl⟩
  rw [hnw] at HNw HNr
  generalize sameV x y = sm at *
  have T00a : Tt w x y ((w.alloc (.cells (gc x) 25)).alloc (.cells (gc y) 25)) := ⟨(Rows8.new w _ _).alloc _, by
    have h1 := Rows8.new (w.alloc (.cells (gc x) 25)) 25 (gc y)
    rw [World.size_alloc] at h1
    exact h1, ((Below.refl _ w).alloc (Nat.le_refl _) _).alloc (by simp) _⟩
  have T00 := Lib.hid T00a
  clear hcx hcy hn hrow T00a hnw
  go_enter Try.func3, Try.ntmps3
  cases hrx : rightG x
  · have hck : (if rightG x then (0 : Int) else 200) = 200 := by rw [hrx]; rfl
    rw [hck] at HCk
    rw [hrx] at HRt
    have HRX := Lib.hid hrx
    have hl1 : freeN x 1 = 0 := by unfold freeN; rw [hrx]; rfl
    have hl2 : freeN x 2 = 0 := by unfold freeN; rw [hrx]; rfl
    have hgl : gliveL x = [] := by unfold gliveL; rw [hrx]; rfl
    rw [hl1, hl2] at HGF
    rw [hgl] at HGL
    clear hck hrx hl1 hl2 hgl
    go_upto_region 7 with (first | (go_at_call 7; refine (HWk _).out.mono ?_; rintro e w0 ⟨rfl, hB⟩; have T0a := T00.out.below hB; have hldw0 := Try.load_group T0a.x; have T0 := Lib.hid T0a; clear hB T0a) | (refine wpList_loadW (by rfl) _ _ rfl ⟨w.heap.size, 0, none⟩ _ rfl hldw0 ?_) | (go_at_call 8; refine (HRt _).out.mono ?_; rintro e w1 ⟨rfl, hB⟩; have T1a := T0.out.below hB; have hldw1 := Try.load_group T1a.x; have T1 := Lib.hid T1a; clear hB T1a) | (refine wpList_loadW (by rfl) _ _ rfl ⟨w.heap.size, 0, none⟩ _ rfl hldw1 ?_) | (go_at_call 9; refine (HCk _).out.mono ?_; rintro e w2 ⟨rfl, hB⟩; have T2 := Lib.hid (T1.out.below hB); clear hB) | (go_at_call 10; refine (HNw _).out.mono ?_; rintro e w3 ⟨rfl, hB⟩; have T3 := Lib.hid (T2.out.below hB); clear hB) | (go_at_call 11; refine (HNr _).out.mono ?_; rintro e w4 ⟨rfl, hB⟩; have T4 := Lib.hid (T3.out.below hB); clear hB) | (refine wpList_neqV (by rfl) 25 _ _ rfl (gc nw) (gc nw) rfl rfl (by kernel_rfl) true (Try.eqGroup nw _) ?_))
    refine wp_region_X (fun W' => Rows8 W' w.heap.size 25 (gc x) ∧ Rows8 W' (w.heap.size + 1) 25 (gc y)) 14 (by kernel_rfl) ?_
    have hS0 : Rows8 w4.drew w.heap.size 25 (gc x) ∧ Rows8 w4.drew (w.heap.size + 1) 25 (gc y) := ⟨T4.out.x.drew, T4.out.y.drew⟩
    have hB0 := T4.out.b.drew
    generalize w4.drew = Wd at *
    refine wpAnyN_take (i := 0) (oi := { dst := some 49, op := Go.Op.move (Go.Operand.tmp 7), type := 4, pos := "law.go:34", after := #[], guard := none }) (v := .bool false) rfl (by decide) (by kernel_rfl) (by kernel_rfl) (by kernel_rfl) (fun _ _ _ h => h) (Or.inl ⟨by rfl, ?_⟩) hS0 ?_
    · intro W9 hS9
      obtain ⟨q0, q1⟩ := hS9
      clear q0 q1
      go_simp
    try simp only [Act.put, List.setIfInBounds_toArray, List.set_cons_zero, List.set_cons_succ]
    refine wpAnyN_take (i := 1) (oi := { dst := some 50, op := Go.Op.move (Go.Operand.tmp 49), type := 4, pos := "law.go:34", after := #[{ on := 0, ground := Go.Ground.data }], guard := none }) (v := .bool false) rfl (by decide) (by kernel_rfl) (by kernel_rfl) (by kernel_rfl) (fun _ _ _ h => h) (Or.inl ⟨by rfl, ?_⟩) hS0 ?_
    · intro W9 hS9
      obtain ⟨q0, q1⟩ := hS9
      clear q0 q1
      go_simp
    try simp only [Act.put, List.setIfInBounds_toArray, List.set_cons_zero, List.set_cons_succ]
    refine wpAnyN_take (i := 2) (oi := { dst := some 51, op := Go.Op.load 25 (Go.Operand.tmp 4), type := 25, pos := "law.go:34", after := #[{ on := 1, ground := Go.Ground.guard }], guard := some (1, true) }) (v := undef) rfl (by decide) (by kernel_rfl) (by kernel_rfl) (by kernel_rfl) (fun _ _ _ h => h) (Or.inr ⟨by rfl, rfl⟩) hS0 ?_
    try simp only [Act.put, List.setIfInBounds_toArray, List.set_cons_zero, List.set_cons_succ]
    refine wpAnyN_take (i := 3) (oi := { dst := some 52, op := Go.Op.call { callee := Go.Callee.value (Go.Operand.func 8), args := #[Go.Operand.tmp 51], argTypes := #[25] }, type := 4, pos := "law.go:34", after := #[{ on := 2, ground := Go.Ground.data }, { on := 1, ground := Go.Ground.chain }, { on := 1, ground := Go.Ground.guard }], guard := some (1, true) }) (v := undef) rfl (by decide) (by kernel_rfl) (by kernel_rfl) (by kernel_rfl) (fun _ _ _ h => h) (Or.inr ⟨by rfl, rfl⟩) hS0 ?_
    try simp only [Act.put, List.setIfInBounds_toArray, List.set_cons_zero, List.set_cons_succ]
    refine wpAnyN_take (i := 4) (oi := { dst := some 53, op := Go.Op.pick (Go.Operand.tmp 50) (Go.Operand.tmp 52) (Go.Operand.const (Go.Value.bool false)), type := 4, pos := "law.go:34", after := #[{ on := 1, ground := Go.Ground.data }, { on := 3, ground := Go.Ground.data }], guard := none }) (v := .bool false) rfl (by decide) (by kernel_rfl) (by kernel_rfl) (by kernel_rfl) (fun _ _ _ h => h) (Or.inl ⟨by rfl, ?_⟩) hS0 ?_
    · intro W9 hS9
      obtain ⟨q0, q1⟩ := hS9
      clear q0 q1
      go_simp
    try simp only [Act.put, List.setIfInBounds_toArray, List.set_cons_zero, List.set_cons_succ]
    refine wpAnyN_take (i := 5) (oi := { dst := some 54, op := Go.Op.move (Go.Operand.tmp 53), type := 4, pos := "law.go:34", after := #[{ on := 4, ground := Go.Ground.data }, { on := 3, ground := Go.Ground.chain }], guard := none }) (v := .bool false) rfl (by decide) (by kernel_rfl) (by kernel_rfl) (by kernel_rfl) (fun _ _ _ h => h) (Or.inl ⟨by rfl, ?_⟩) hS0 ?_
    · intro W9 hS9
      obtain ⟨q0, q1⟩ := hS9
      clear q0 q1
      go_simp
    try simp only [Act.put, List.setIfInBounds_toArray, List.set_cons_zero, List.set_cons_succ]
    refine wpAnyN_take (i := 6) (oi := { dst := some 55, op := Go.Op.load 25 (Go.Operand.tmp 3), type := 25, pos := "law.go:34", after := #[{ on := 5, ground := Go.Ground.guard }], guard := some (5, true) }) (v := undef) rfl (by decide) (by kernel_rfl) (by kernel_rfl) (by kernel_rfl) (fun _ _ _ h => h) (Or.inr ⟨by rfl, rfl⟩) hS0 ?_
    try simp only [Act.put, List.setIfInBounds_toArray, List.set_cons_zero, List.set_cons_succ]
    refine wpAnyN_take (i := 7) (oi := { dst := some 56, op := Go.Op.load 25 (Go.Operand.tmp 4), type := 25, pos := "law.go:34", after := #[{ on := 5, ground := Go.Ground.guard }], guard := some (5, true) }) (v := undef) rfl (by decide) (by kernel_rfl) (by kernel_rfl) (by kernel_rfl) (fun _ _ _ h => h) (Or.inr ⟨by rfl, rfl⟩) hS0 ?_
    try simp only [Act.put, List.setIfInBounds_toArray, List.set_cons_zero, List.set_cons_succ]
    refine wpAnyN_take (i := 8) (oi := { dst := some 57, op := Go.Op.call { callee := Go.Callee.value (Go.Operand.func 12), args := #[Go.Operand.tmp 55, Go.Operand.tmp 56], argTypes := #[25, 25] }, type := 4, pos := "law.go:34", after := #[{ on := 6, ground := Go.Ground.data }, { on := 7, ground := Go.Ground.data }, { on := 5, ground := Go.Ground.chain }, { on := 5, ground := Go.Ground.guard }], guard := some (5, true) }) (v := undef) rfl (by decide) (by kernel_rfl) (by kernel_rfl) (by kernel_rfl) (fun _ _ _ h => h) (Or.inr ⟨by rfl, rfl⟩) hS0 ?_
    try simp only [Act.put, List.setIfInBounds_toArray, List.set_cons_zero, List.set_cons_succ]
    refine wpAnyN_take (i := 9) (oi := { dst := some 58, op := Go.Op.load 25 (Go.Operand.tmp 3), type := 25, pos := "law.go:34", after := #[{ on := 5, ground := Go.Ground.guard }], guard := some (5, true) }) (v := undef) rfl (by decide) (by kernel_rfl) (by kernel_rfl) (by kernel_rfl) (fun _ _ _ h => h) (Or.inr ⟨by rfl, rfl⟩) hS0 ?_
    try simp only [Act.put, List.setIfInBounds_toArray, List.set_cons_zero, List.set_cons_succ]
    refine wpAnyN_take (i := 10) (oi := { dst := some 59, op := Go.Op.load 25 (Go.Operand.tmp 4), type := 25, pos := "law.go:34", after := #[{ on := 5, ground := Go.Ground.guard }], guard := some (5, true) }) (v := undef) rfl (by decide) (by kernel_rfl) (by kernel_rfl) (by kernel_rfl) (fun _ _ _ h => h) (Or.inr ⟨by rfl, rfl⟩) hS0 ?_
    try simp only [Act.put, List.setIfInBounds_toArray, List.set_cons_zero, List.set_cons_succ]
    refine wpAnyN_take (i := 11) (oi := { dst := some 60, op := Go.Op.call { callee := Go.Callee.value (Go.Operand.func 13), args := #[Go.Operand.tmp 58, Go.Operand.tmp 59], argTypes := #[25, 25] }, type := 4, pos := "law.go:34", after := #[{ on := 9, ground := Go.Ground.data }, { on := 10, ground := Go.Ground.data }, { on := 8, ground := Go.Ground.chain }, { on := 5, ground := Go.Ground.guard }], guard := some (5, true) }) (v := undef) rfl (by decide) (by kernel_rfl) (by kernel_rfl) (by kernel_rfl) (fun _ _ _ h => h) (Or.inr ⟨by rfl, rfl⟩) hS0 ?_
    try simp only [Act.put, List.setIfInBounds_toArray, List.set_cons_zero, List.set_cons_succ]
    refine wpAnyN_take (i := 12) (oi := { dst := some 61, op := Go.Op.binOp Go.BinOp.neq 4 (Go.Operand.tmp 57) (Go.Operand.tmp 60) 4, type := 4, pos := "law.go:34", after := #[{ on := 8, ground := Go.Ground.data }, { on := 11, ground := Go.Ground.data }, { on := 5, ground := Go.Ground.guard }], guard := some (5, true) }) (v := undef) rfl (by decide) (by kernel_rfl) (by kernel_rfl) (by kernel_rfl) (fun _ _ _ h => h) (Or.inr ⟨by rfl, rfl⟩) hS0 ?_
    try simp only [Act.put, List.setIfInBounds_toArray, List.set_cons_zero, List.set_cons_succ]
    refine wpAnyN_take (i := 13) (oi := { dst := some 62, op := Go.Op.pick (Go.Operand.tmp 54) (Go.Operand.tmp 61) (Go.Operand.const (Go.Value.bool false)), type := 4, pos := "law.go:34", after := #[{ on := 5, ground := Go.Ground.data }, { on := 12, ground := Go.Ground.data }], guard := none }) (v := .bool false) rfl (by decide) (by kernel_rfl) (by kernel_rfl) (by kernel_rfl) (fun _ _ _ h => h) (Or.inl ⟨by rfl, ?_⟩) hS0 ?_
    · intro W9 hS9
      obtain ⟨q0, q1⟩ := hS9
      clear q0 q1
      go_simp
    try simp only [Act.put, List.setIfInBounds_toArray, List.set_cons_zero, List.set_cons_succ]
    refine wpAnyX_end (by kernel_rfl) ?_
    have T5a : Tt w x y Wd := ⟨hS0.1, hS0.2, hB0⟩
    have hld5 := Try.load_group T5a.x
    have T5 := Lib.hid T5a
    clear hS0 hB0 T5a
    go_upto_region 15 with (first | (refine wpList_loadW (by rfl) _ _ rfl ⟨w.heap.size, 0, none⟩ _ rfl hld5 ?_) | (go_at_call 16; refine (HGF _).out.mono ?_; rintro e w8 ⟨rfl, hB⟩; have T8a := T5.out.below hB; have hldw8 := Try.load_group T8a.x; have T8 := Lib.hid T8a; clear hB T8a))
    go_wp2_with (first | (refine wpList_loadW (by rfl) _ _ rfl ⟨w.heap.size, 0, none⟩ _ rfl hldw8 ?_))
    refine (HGL _).out.mono ?_
    rintro e w8b ⟨pv, rfl, hO9, hnil, hB⟩
    clear hnil
    have T8b := Lib.hid (T8.out.below hB)
    obtain ⟨a1, c1, rfl⟩ : ∃ a c, pv = .slice a 0 c := by
      obtain ⟨_, a, cap, h, _⟩ := rowAt_own hO9
      exact ⟨a, cap, h⟩
    have hE := Try.equalSlots_any a1 none 0 0 c1 0 [] [] rfl rfl (by decide) (by decide) w8b (rowAt_own hO9) (rowAt_own (World.ownsRow_nil _ 0 38 3))
    rw [decide_eq_true (rfl : ([] : List Sl) = [])] at hE
    have HE := Lib.hid hE
    clear hB hO9 hE
    go_wp2_with (first | (go_at_call 17; refine HE.out.mono ?_; rintro e w9 ⟨rfl, hB⟩; have T9 := Lib.hid (T8b.out.below hB); clear hB))
    go_loopw [93] (fun i wr => ∃ k : Nat, k ≤ n ∧ k ≤ 10 ∧ i = .int .i64 k ∧ Hid (Tt w x y wr)) (fun i _ => n - (intOf i).toNat)
    case atStart => exact ⟨0, Nat.zero_le _, Nat.zero_le _, rfl, T9⟩
    case round =>
      obtain ⟨k, hk, hk10, rfl, T⟩ := hrel
      by_cases hlt : k < n
      · have hki : (k : Int) < (n : Int) := by omega
        have hkl : k < ls.length := by rw [← HN.out]; exact hlt
        obtain ⟨b, off, rfl, hb, q0, q1, q2⟩ := slotsAt_get (by have h1 := HR.out; exact h1) k hkl
        have q0 := (T.out.b.cell (p := ⟨b, off + k * 3, none⟩) hb).trans q0
        have q1 := (T.out.b.cell (p := ⟨b, off + k * 3 + 1, none⟩) hb).trans q1
        have q2 := (T.out.b.cell (p := ⟨b, off + k * 3 + 2, none⟩) hb).trans q2
        generalize ls[k] = s at *
        have TAa := T.out.below ((Below.refl wr.heap.size wr).alloc (Nat.le_refl _) (.cells #[.int .u64 (s.key : Nat), .int .u64 (s.val : Nat), .int .u8 (s.h2 : Nat)] 38))
        by_cases h10 : k = 10
        · subst h10
          have hlt10 : (10 : Int) < (n : Int) := hki
          have HF := Lib.hid TAa.b
          clear TAa
          go_wp2_with fail
          go_ret
          exact ⟨rfl, HF.out⟩
        · have h10b : ((k : Int) == 10) = false := by simp; omega
          have hlda := Try.load_group TAa.x
          have hsa : Rows8 (wr.alloc (.cells #[.int .u64 (s.key : Nat), .int .u64 (s.val : Nat), .int .u8 (s.h2 : Nat)] 38)) wr.heap.size 38 (sc s) := Rows8.new _ _ _
          have k2 : (wr.alloc (.cells #[.int .u64 (s.key : Nat), .int .u64 (s.val : Nat), .int .u8 (s.h2 : Nat)] 38)).cell? ⟨wr.heap.size, 2, none⟩ = some (.int .u8 (s.h2 : Nat)) := hsa.cell 2
          have TA := Lib.hid TAa
          have HSA := Lib.hid hsa
          have HLk := fun W => Lib.hid (Try.gLooks_any x s.h2 W)
          have HFd := fun W => Lib.hid (Try.gFind_any x s.key s.h2 W)
          clear TAa hsa
          have hlk : looksE x s.h2 = 200 := by unfold looksE; rw [HRX.out]; rfl
          have hll : looksL x s.h2 = [] := by unfold looksL; rw [hlk]; rfl
          have hfv : gfindV x s.key s.h2 = .tuple #[.int .i64 0, .int .i64 0, .int .i64 200] := by unfold gfindV; rw [HRX.out]; rfl
          unfold LooksQ at HLk
          rw [hlk, hll] at HLk
          rw [hfv] at HFd
          clear hlk hll hfv
          go_upto_region 33 with (first | (refine wpList_loadW (by rfl) _ _ rfl ⟨w.heap.size, 0, none⟩ _ rfl hlda ?_) | (go_at_call 19; refine (HLk _).out.mono ?_; rintro e v1 ⟨lv, rfl, hO1, hB⟩; have TBa := TA.out.below hB; have hsv1 := HSA.out.below hB HSA.out.lt; have k0v1 : v1.cell? ⟨wr.heap.size, 0, none⟩ = some (.int .u64 (s.key : Nat)) := hsv1.cell 0; have k2v1 : v1.cell? ⟨wr.heap.size, 2, none⟩ = some (.int .u8 (s.h2 : Nat)) := hsv1.cell 2; have HSv1 := Lib.hid hsv1; clear hsv1; have hldv1 := Try.load_group TBa.x; have TB := Lib.hid TBa; have HO1 := Lib.hid hO1; clear hB TBa hO1) | (refine wpList_loadW (by rfl) _ _ rfl ⟨w.heap.size, 0, none⟩ _ rfl hldv1 ?_) | (go_at_call 20; refine (HFd _).out.mono ?_; rintro e v2 ⟨rfl, hB⟩; have TCa := TB.out.below hB; have HO2 := Lib.hid (ownsRow_below HO1.out.1 hB (Nat.le_refl _)); have hsv2 := HSv1.out.below hB HSv1.out.lt; have k0v2 : v2.cell? ⟨wr.heap.size, 0, none⟩ = some (.int .u64 (s.key : Nat)) := hsv2.cell 0; have k2v2 : v2.cell? ⟨wr.heap.size, 2, none⟩ = some (.int .u8 (s.h2 : Nat)) := hsv2.cell 2; have HSv2 := Lib.hid hsv2; clear hsv2; have hldv2 := Try.load_group TCa.x; have hpHP2 : OwnsLanes _ [] lv v2 := ⟨HO2.out, HO1.out.2⟩; have HP2 := Lib.hid hpHP2; clear hpHP2; have TC := Lib.hid TCa; clear hB TCa))
          obtain ⟨⟨aa, ca, rfl⟩, hI1⟩ := owns_intsAt HP2.out
          have HEq := Lib.hid (Try.equalInts_any aa none 0 ca 0 [] rfl (by decide) v2 hI1 (owns_intsAt (owns_none 0 v2)).2)
          clear hI1
          go_wp2_with (first | (go_at_call 23; refine HEq.out.mono ?_; rintro e v9 ⟨rfl, hB⟩; have T9 := Lib.hid (TC.out.below hB); clear hB))
          go_roundw
          case rel => exact ⟨k + 1, by omega, by omega, by go_num, T9⟩
          case measure => simp [intOf] <;> omega
      · obtain rfl : k = n := by omega
        have hki : ¬ (k : Int) < (k : Int) := by omega
        go_wp2_with fail
        go_ret
        exact ⟨rfl, T.out.b⟩
  · have hck : (if rightG x then (0 : Int) else 200) = 0 := by rw [hrx]; rfl
    rw [hck] at HCk
    rw [hrx] at HRt
    have HRX := Lib.hid hrx
    have hl1 : freeN x 1 = (lanesTo (setK x.c 1) 8).length := if_pos hrx
    have hl2 : freeN x 2 = (lanesTo (setK x.c 2) 8).length := if_pos hrx
    have hgl : gliveL x = liveG x := if_pos hrx
    rw [hl1, hl2] at HGF
    rw [hgl] at HGL
    have HRF := fun W => Lib.hid (Try.rgFree_any x HCX.out W)
    have HRL := fun W => Lib.hid (Try.rgLive_any x HCX.out W)
    have HLL : Hid ((liveG x).length ≤ 10000) := Lib.hid (by
      have : (fl x).length ≤ 8 := lanes_le _
      simp only [liveG, List.length_map]
      omega)
    generalize (lanesTo (setK x.c 1) 8).length = f1 at *
    generalize (lanesTo (setK x.c 2) 8).length = f2 at *
    clear hck hrx hl1 hl2 hgl
    go_upto_region 7 with (first | (go_at_call 7; refine (HWk _).out.mono ?_; rintro e w0 ⟨rfl, hB⟩; have T0a := T00.out.below hB; have hldw0 := Try.load_group T0a.x; have T0 := Lib.hid T0a; clear hB T0a) | (refine wpList_loadW (by rfl) _ _ rfl ⟨w.heap.size, 0, none⟩ _ rfl hldw0 ?_) | (go_at_call 8; refine (HRt _).out.mono ?_; rintro e w1 ⟨rfl, hB⟩; have T1a := T0.out.below hB; have hldw1 := Try.load_group T1a.x; have T1 := Lib.hid T1a; clear hB T1a) | (refine wpList_loadW (by rfl) _ _ rfl ⟨w.heap.size, 0, none⟩ _ rfl hldw1 ?_) | (go_at_call 9; refine (HCk _).out.mono ?_; rintro e w2 ⟨rfl, hB⟩; have T2 := Lib.hid (T1.out.below hB); clear hB) | (go_at_call 10; refine (HNw _).out.mono ?_; rintro e w3 ⟨rfl, hB⟩; have T3 := Lib.hid (T2.out.below hB); clear hB) | (go_at_call 11; refine (HNr _).out.mono ?_; rintro e w4 ⟨rfl, hB⟩; have T4 := Lib.hid (T3.out.below hB); clear hB) | (refine wpList_neqV (by rfl) 25 _ _ rfl (gc nw) (gc nw) rfl rfl (by kernel_rfl) true (Try.eqGroup nw _) ?_))
    go_cut [62] from 49 (fun s62 wc => s62 = .bool false ∧ Hid (Tt w x y wc))
    case first =>
      cases hry : rightG y
      · rw [hry] at HRy
        clear hry
        refine wp_region_X (fun W' => Rows8 W' w.heap.size 25 (gc x) ∧ Rows8 W' (w.heap.size + 1) 25 (gc y)) 14 (by kernel_rfl) ?_
        have hS0 : Rows8 w4.drew w.heap.size 25 (gc x) ∧ Rows8 w4.drew (w.heap.size + 1) 25 (gc y) := ⟨T4.out.x.drew, T4.out.y.drew⟩
        have hB0 := T4.out.b.drew
        generalize w4.drew = Wd at *
        refine wpAnyN_take (i := 0) (oi := { dst := some 49, op := Go.Op.move (Go.Operand.tmp 7), type := 4, pos := "law.go:34", after := #[], guard := none }) (v := .bool true) rfl (by decide) (by kernel_rfl) (by kernel_rfl) (by kernel_rfl) (fun _ _ _ h => h) (Or.inl ⟨by rfl, ?_⟩) hS0 ?_
        · intro W9 hS9
          obtain ⟨q0, q1⟩ := hS9
          clear q0 q1
          go_simp
        try simp only [Act.put, List.setIfInBounds_toArray, List.set_cons_zero, List.set_cons_succ]
        refine wpAnyN_take (i := 1) (oi := { dst := some 50, op := Go.Op.move (Go.Operand.tmp 49), type := 4, pos := "law.go:34", after := #[{ on := 0, ground := Go.Ground.data }], guard := none }) (v := .bool true) rfl (by decide) (by kernel_rfl) (by kernel_rfl) (by kernel_rfl) (fun _ _ _ h => h) (Or.inl ⟨by rfl, ?_⟩) hS0 ?_
        · intro W9 hS9
          obtain ⟨q0, q1⟩ := hS9
          clear q0 q1
          go_simp
        try simp only [Act.put, List.setIfInBounds_toArray, List.set_cons_zero, List.set_cons_succ]
        refine wpAnyN_take (i := 2) (oi := { dst := some 51, op := Go.Op.load 25 (Go.Operand.tmp 4), type := 25, pos := "law.go:34", after := #[{ on := 1, ground := Go.Ground.guard }], guard := some (1, true) }) (v := .agg (gc y)) rfl (by decide) (by kernel_rfl) (by kernel_rfl) (by kernel_rfl) (fun _ _ _ h => h) (Or.inl ⟨by rfl, ?_⟩) hS0 ?_
        · intro W9 hS9
          obtain ⟨q0, q1⟩ := hS9
          exact exec_load 25 _ rfl ⟨w.heap.size + 1, 0, none⟩ _ (by simp [go_sem]) (Try.load_group q1)
        try simp only [Act.put, List.setIfInBounds_toArray, List.set_cons_zero, List.set_cons_succ]
        refine wpAnyX_one (i := 3) (o := { dst := some 52, op := Go.Op.call { callee := Go.Callee.value (Go.Operand.func 8), args := #[Go.Operand.tmp 51], argTypes := #[25] }, type := 4, pos := "law.go:34", after := #[{ on := 2, ground := Go.Ground.data }, { on := 1, ground := Go.Ground.chain }, { on := 1, ground := Go.Ground.guard }], guard := some (1, true) }) (by kernel_rfl) rfl (fun K hK => ?_)
        refine step_call_g (by rfl) 8 _ _ rfl (fun _ _ => by kernel_rfl) #[.agg (gc y)] (by simp [go_sem]) _ (HRy Wd).out ?_
        rintro e W1 ⟨rfl, hC1⟩
        refine ⟨_, rfl, ?_⟩
        have hS1 : Rows8 W1 w.heap.size 25 (gc x) ∧ Rows8 W1 (w.heap.size + 1) 25 (gc y) := ⟨hS0.1.below hC1 hS0.1.lt, hS0.2.below hC1 hS0.2.lt⟩
        have hB1 := hB0.trans (hC1.mono hB0.size)
        refine hK.out _ _ (fun _ => hS1) ?_
        clear hK K
        try simp only [Act.put, List.setIfInBounds_toArray, List.set_cons_zero, List.set_cons_succ]
        refine wpAnyN_take (i := 4) (oi := { dst := some 53, op := Go.Op.pick (Go.Operand.tmp 50) (Go.Operand.tmp 52) (Go.Operand.const (Go.Value.bool false)), type := 4, pos := "law.go:34", after := #[{ on := 1, ground := Go.Ground.data }, { on := 3, ground := Go.Ground.data }], guard := none }) (v := .bool false) rfl (by decide) (by kernel_rfl) (by kernel_rfl) (by kernel_rfl) (fun _ _ _ h => h) (Or.inl ⟨by rfl, ?_⟩) hS1 ?_
        · intro W9 hS9
          obtain ⟨q0, q1⟩ := hS9
          clear q0 q1
          go_simp
        try simp only [Act.put, List.setIfInBounds_toArray, List.set_cons_zero, List.set_cons_succ]
        refine wpAnyN_take (i := 5) (oi := { dst := some 54, op := Go.Op.move (Go.Operand.tmp 53), type := 4, pos := "law.go:34", after := #[{ on := 4, ground := Go.Ground.data }, { on := 3, ground := Go.Ground.chain }], guard := none }) (v := .bool false) rfl (by decide) (by kernel_rfl) (by kernel_rfl) (by kernel_rfl) (fun _ _ _ h => h) (Or.inl ⟨by rfl, ?_⟩) hS1 ?_
        · intro W9 hS9
          obtain ⟨q0, q1⟩ := hS9
          clear q0 q1
          go_simp
        try simp only [Act.put, List.setIfInBounds_toArray, List.set_cons_zero, List.set_cons_succ]
        refine wpAnyN_take (i := 6) (oi := { dst := some 55, op := Go.Op.load 25 (Go.Operand.tmp 3), type := 25, pos := "law.go:34", after := #[{ on := 5, ground := Go.Ground.guard }], guard := some (5, true) }) (v := undef) rfl (by decide) (by kernel_rfl) (by kernel_rfl) (by kernel_rfl) (fun _ _ _ h => h) (Or.inr ⟨by rfl, rfl⟩) hS1 ?_
        try simp only [Act.put, List.setIfInBounds_toArray, List.set_cons_zero, List.set_cons_succ]
        refine wpAnyN_take (i := 7) (oi := { dst := some 56, op := Go.Op.load 25 (Go.Operand.tmp 4), type := 25, pos := "law.go:34", after := #[{ on := 5, ground := Go.Ground.guard }], guard := some (5, true) }) (v := undef) rfl (by decide) (by kernel_rfl) (by kernel_rfl) (by kernel_rfl) (fun _ _ _ h => h) (Or.inr ⟨by rfl, rfl⟩) hS1 ?_
        try simp only [Act.put, List.setIfInBounds_toArray, List.set_cons_zero, List.set_cons_succ]
        refine wpAnyN_take (i := 8) (oi := { dst := some 57, op := Go.Op.call { callee := Go.Callee.value (Go.Operand.func 12), args := #[Go.Operand.tmp 55, Go.Operand.tmp 56], argTypes := #[25, 25] }, type := 4, pos := "law.go:34", after := #[{ on := 6, ground := Go.Ground.data }, { on := 7, ground := Go.Ground.data }, { on := 5, ground := Go.Ground.chain }, { on := 5, ground := Go.Ground.guard }], guard := some (5, true) }) (v := undef) rfl (by decide) (by kernel_rfl) (by kernel_rfl) (by kernel_rfl) (fun _ _ _ h => h) (Or.inr ⟨by rfl, rfl⟩) hS1 ?_
        try simp only [Act.put, List.setIfInBounds_toArray, List.set_cons_zero, List.set_cons_succ]
        refine wpAnyN_take (i := 9) (oi := { dst := some 58, op := Go.Op.load 25 (Go.Operand.tmp 3), type := 25, pos := "law.go:34", after := #[{ on := 5, ground := Go.Ground.guard }], guard := some (5, true) }) (v := undef) rfl (by decide) (by kernel_rfl) (by kernel_rfl) (by kernel_rfl) (fun _ _ _ h => h) (Or.inr ⟨by rfl, rfl⟩) hS1 ?_
        try simp only [Act.put, List.setIfInBounds_toArray, List.set_cons_zero, List.set_cons_succ]
        refine wpAnyN_take (i := 10) (oi := { dst := some 59, op := Go.Op.load 25 (Go.Operand.tmp 4), type := 25, pos := "law.go:34", after := #[{ on := 5, ground := Go.Ground.guard }], guard := some (5, true) }) (v := undef) rfl (by decide) (by kernel_rfl) (by kernel_rfl) (by kernel_rfl) (fun _ _ _ h => h) (Or.inr ⟨by rfl, rfl⟩) hS1 ?_
        try simp only [Act.put, List.setIfInBounds_toArray, List.set_cons_zero, List.set_cons_succ]
        refine wpAnyN_take (i := 11) (oi := { dst := some 60, op := Go.Op.call { callee := Go.Callee.value (Go.Operand.func 13), args := #[Go.Operand.tmp 58, Go.Operand.tmp 59], argTypes := #[25, 25] }, type := 4, pos := "law.go:34", after := #[{ on := 9, ground := Go.Ground.data }, { on := 10, ground := Go.Ground.data }, { on := 8, ground := Go.Ground.chain }, { on := 5, ground := Go.Ground.guard }], guard := some (5, true) }) (v := undef) rfl (by decide) (by kernel_rfl) (by kernel_rfl) (by kernel_rfl) (fun _ _ _ h => h) (Or.inr ⟨by rfl, rfl⟩) hS1 ?_
        try simp only [Act.put, List.setIfInBounds_toArray, List.set_cons_zero, List.set_cons_succ]
        refine wpAnyN_take (i := 12) (oi := { dst := some 61, op := Go.Op.binOp Go.BinOp.neq 4 (Go.Operand.tmp 57) (Go.Operand.tmp 60) 4, type := 4, pos := "law.go:34", after := #[{ on := 8, ground := Go.Ground.data }, { on := 11, ground := Go.Ground.data }, { on := 5, ground := Go.Ground.guard }], guard := some (5, true) }) (v := undef) rfl (by decide) (by kernel_rfl) (by kernel_rfl) (by kernel_rfl) (fun _ _ _ h => h) (Or.inr ⟨by rfl, rfl⟩) hS1 ?_
        try simp only [Act.put, List.setIfInBounds_toArray, List.set_cons_zero, List.set_cons_succ]
        refine wpAnyN_take (i := 13) (oi := { dst := some 62, op := Go.Op.pick (Go.Operand.tmp 54) (Go.Operand.tmp 61) (Go.Operand.const (Go.Value.bool false)), type := 4, pos := "law.go:34", after := #[{ on := 5, ground := Go.Ground.data }, { on := 12, ground := Go.Ground.data }], guard := none }) (v := .bool false) rfl (by decide) (by kernel_rfl) (by kernel_rfl) (by kernel_rfl) (fun _ _ _ h => h) (Or.inl ⟨by rfl, ?_⟩) hS1 ?_
        · intro W9 hS9
          obtain ⟨q0, q1⟩ := hS9
          clear q0 q1
          go_simp
        try simp only [Act.put, List.setIfInBounds_toArray, List.set_cons_zero, List.set_cons_succ]
        refine wpAnyX_end (by kernel_rfl) ?_
        have T5a : Tt w x y W1 := ⟨hS1.1, hS1.2, hB1⟩
        have hld5 := Try.load_group T5a.x
        have T5 := Lib.hid T5a
        clear hS0 hB0 T5a
        go_wp2_with fail
        go_meet
        exact ⟨rfl, T5⟩
      · rw [hry] at HRy
        clear hry
        refine wp_region_X (fun W' => Rows8 W' w.heap.size 25 (gc x) ∧ Rows8 W' (w.heap.size + 1) 25 (gc y)) 14 (by kernel_rfl) ?_
        have hS0 : Rows8 w4.drew w.heap.size 25 (gc x) ∧ Rows8 w4.drew (w.heap.size + 1) 25 (gc y) := ⟨T4.out.x.drew, T4.out.y.drew⟩
        have hB0 := T4.out.b.drew
        generalize w4.drew = Wd at *
        refine wpAnyN_take (i := 0) (oi := { dst := some 49, op := Go.Op.move (Go.Operand.tmp 7), type := 4, pos := "law.go:34", after := #[], guard := none }) (v := .bool true) rfl (by decide) (by kernel_rfl) (by kernel_rfl) (by kernel_rfl) (fun _ _ _ h => h) (Or.inl ⟨by rfl, ?_⟩) hS0 ?_
        · intro W9 hS9
          obtain ⟨q0, q1⟩ := hS9
          clear q0 q1
          go_simp
        try simp only [Act.put, List.setIfInBounds_toArray, List.set_cons_zero, List.set_cons_succ]
        refine wpAnyN_take (i := 1) (oi := { dst := some 50, op := Go.Op.move (Go.Operand.tmp 49), type := 4, pos := "law.go:34", after := #[{ on := 0, ground := Go.Ground.data }], guard := none }) (v := .bool true) rfl (by decide) (by kernel_rfl) (by kernel_rfl) (by kernel_rfl) (fun _ _ _ h => h) (Or.inl ⟨by rfl, ?_⟩) hS0 ?_
        · intro W9 hS9
          obtain ⟨q0, q1⟩ := hS9
          clear q0 q1
          go_simp
        try simp only [Act.put, List.setIfInBounds_toArray, List.set_cons_zero, List.set_cons_succ]
        refine wpAnyN_take (i := 2) (oi := { dst := some 51, op := Go.Op.load 25 (Go.Operand.tmp 4), type := 25, pos := "law.go:34", after := #[{ on := 1, ground := Go.Ground.guard }], guard := some (1, true) }) (v := .agg (gc y)) rfl (by decide) (by kernel_rfl) (by kernel_rfl) (by kernel_rfl) (fun _ _ _ h => h) (Or.inl ⟨by rfl, ?_⟩) hS0 ?_
        · intro W9 hS9
          obtain ⟨q0, q1⟩ := hS9
          exact exec_load 25 _ rfl ⟨w.heap.size + 1, 0, none⟩ _ (by simp [go_sem]) (Try.load_group q1)
        try simp only [Act.put, List.setIfInBounds_toArray, List.set_cons_zero, List.set_cons_succ]
        refine wpAnyX_one (i := 3) (o := { dst := some 52, op := Go.Op.call { callee := Go.Callee.value (Go.Operand.func 8), args := #[Go.Operand.tmp 51], argTypes := #[25] }, type := 4, pos := "law.go:34", after := #[{ on := 2, ground := Go.Ground.data }, { on := 1, ground := Go.Ground.chain }, { on := 1, ground := Go.Ground.guard }], guard := some (1, true) }) (by kernel_rfl) rfl (fun K hK => ?_)
        refine step_call_g (by rfl) 8 _ _ rfl (fun _ _ => by kernel_rfl) #[.agg (gc y)] (by simp [go_sem]) _ (HRy Wd).out ?_
        rintro e W1 ⟨rfl, hC1⟩
        refine ⟨_, rfl, ?_⟩
        have hS1 : Rows8 W1 w.heap.size 25 (gc x) ∧ Rows8 W1 (w.heap.size + 1) 25 (gc y) := ⟨hS0.1.below hC1 hS0.1.lt, hS0.2.below hC1 hS0.2.lt⟩
        have hB1 := hB0.trans (hC1.mono hB0.size)
        refine hK.out _ _ (fun _ => hS1) ?_
        clear hK K
        try simp only [Act.put, List.setIfInBounds_toArray, List.set_cons_zero, List.set_cons_succ]
        refine wpAnyN_take (i := 4) (oi := { dst := some 53, op := Go.Op.pick (Go.Operand.tmp 50) (Go.Operand.tmp 52) (Go.Operand.const (Go.Value.bool false)), type := 4, pos := "law.go:34", after := #[{ on := 1, ground := Go.Ground.data }, { on := 3, ground := Go.Ground.data }], guard := none }) (v := .bool true) rfl (by decide) (by kernel_rfl) (by kernel_rfl) (by kernel_rfl) (fun _ _ _ h => h) (Or.inl ⟨by rfl, ?_⟩) hS1 ?_
        · intro W9 hS9
          obtain ⟨q0, q1⟩ := hS9
          clear q0 q1
          go_simp
        try simp only [Act.put, List.setIfInBounds_toArray, List.set_cons_zero, List.set_cons_succ]
        refine wpAnyN_take (i := 5) (oi := { dst := some 54, op := Go.Op.move (Go.Operand.tmp 53), type := 4, pos := "law.go:34", after := #[{ on := 4, ground := Go.Ground.data }, { on := 3, ground := Go.Ground.chain }], guard := none }) (v := .bool true) rfl (by decide) (by kernel_rfl) (by kernel_rfl) (by kernel_rfl) (fun _ _ _ h => h) (Or.inl ⟨by rfl, ?_⟩) hS1 ?_
        · intro W9 hS9
          obtain ⟨q0, q1⟩ := hS9
          clear q0 q1
          go_simp
        try simp only [Act.put, List.setIfInBounds_toArray, List.set_cons_zero, List.set_cons_succ]
        refine wpAnyN_take (i := 6) (oi := { dst := some 55, op := Go.Op.load 25 (Go.Operand.tmp 3), type := 25, pos := "law.go:34", after := #[{ on := 5, ground := Go.Ground.guard }], guard := some (5, true) }) (v := .agg (gc x)) rfl (by decide) (by kernel_rfl) (by kernel_rfl) (by kernel_rfl) (fun _ _ _ h => h) (Or.inl ⟨by rfl, ?_⟩) hS1 ?_
        · intro W9 hS9
          obtain ⟨q0, q1⟩ := hS9
          exact exec_load 25 _ rfl ⟨w.heap.size, 0, none⟩ _ (by simp [go_sem]) (Try.load_group q0)
        try simp only [Act.put, List.setIfInBounds_toArray, List.set_cons_zero, List.set_cons_succ]
        refine wpAnyN_take (i := 7) (oi := { dst := some 56, op := Go.Op.load 25 (Go.Operand.tmp 4), type := 25, pos := "law.go:34", after := #[{ on := 5, ground := Go.Ground.guard }], guard := some (5, true) }) (v := .agg (gc y)) rfl (by decide) (by kernel_rfl) (by kernel_rfl) (by kernel_rfl) (fun _ _ _ h => h) (Or.inl ⟨by rfl, ?_⟩) hS1 ?_
        · intro W9 hS9
          obtain ⟨q0, q1⟩ := hS9
          exact exec_load 25 _ rfl ⟨w.heap.size + 1, 0, none⟩ _ (by simp [go_sem]) (Try.load_group q1)
        try simp only [Act.put, List.setIfInBounds_toArray, List.set_cons_zero, List.set_cons_succ]
        refine wpAnyN_take (i := 9) (oi := { dst := some 58, op := Go.Op.load 25 (Go.Operand.tmp 3), type := 25, pos := "law.go:34", after := #[{ on := 5, ground := Go.Ground.guard }], guard := some (5, true) }) (v := .agg (gc x)) rfl (by decide) (by kernel_rfl) (by kernel_rfl) (by kernel_rfl) (fun _ _ _ h => h) (Or.inl ⟨by rfl, ?_⟩) hS1 ?_
        · intro W9 hS9
          obtain ⟨q0, q1⟩ := hS9
          exact exec_load 25 _ rfl ⟨w.heap.size, 0, none⟩ _ (by simp [go_sem]) (Try.load_group q0)
        try simp only [Act.put, List.setIfInBounds_toArray, List.set_cons_zero, List.set_cons_succ]
        refine wpAnyN_take (i := 10) (oi := { dst := some 59, op := Go.Op.load 25 (Go.Operand.tmp 4), type := 25, pos := "law.go:34", after := #[{ on := 5, ground := Go.Ground.guard }], guard := some (5, true) }) (v := .agg (gc y)) rfl (by decide) (by kernel_rfl) (by kernel_rfl) (by kernel_rfl) (fun _ _ _ h => h) (Or.inl ⟨by rfl, ?_⟩) hS1 ?_
        · intro W9 hS9
          obtain ⟨q0, q1⟩ := hS9
          exact exec_load 25 _ rfl ⟨w.heap.size + 1, 0, none⟩ _ (by simp [go_sem]) (Try.load_group q1)
        try simp only [Act.put, List.setIfInBounds_toArray, List.set_cons_zero, List.set_cons_succ]
        refine wpAnyX_one (i := 8) (o := { dst := some 57, op := Go.Op.call { callee := Go.Callee.value (Go.Operand.func 12), args := #[Go.Operand.tmp 55, Go.Operand.tmp 56], argTypes := #[25, 25] }, type := 4, pos := "law.go:34", after := #[{ on := 6, ground := Go.Ground.data }, { on := 7, ground := Go.Ground.data }, { on := 5, ground := Go.Ground.chain }, { on := 5, ground := Go.Ground.guard }], guard := some (5, true) }) (by kernel_rfl) rfl (fun K hK => ?_)
        refine step_call_g (by rfl) 12 _ _ rfl (fun _ _ => by kernel_rfl) #[.agg (gc x), .agg (gc y)] (by simp [go_sem]) _ (HSm W1).out ?_
        rintro e W2 ⟨rfl, hC2⟩
        refine ⟨_, rfl, ?_⟩
        have hS2 : Rows8 W2 w.heap.size 25 (gc x) ∧ Rows8 W2 (w.heap.size + 1) 25 (gc y) := ⟨hS1.1.below hC2 hS1.1.lt, hS1.2.below hC2 hS1.2.lt⟩
        have hB2 := hB1.trans (hC2.mono hB1.size)
        refine hK.out _ _ (fun _ => hS2) ?_
        clear hK K
        try simp only [Act.put, List.setIfInBounds_toArray, List.set_cons_zero, List.set_cons_succ]
        refine wpAnyX_one (i := 11) (o := { dst := some 60, op := Go.Op.call { callee := Go.Callee.value (Go.Operand.func 13), args := #[Go.Operand.tmp 58, Go.Operand.tmp 59], argTypes := #[25, 25] }, type := 4, pos := "law.go:34", after := #[{ on := 9, ground := Go.Ground.data }, { on := 10, ground := Go.Ground.data }, { on := 8, ground := Go.Ground.chain }, { on := 5, ground := Go.Ground.guard }], guard := some (5, true) }) (by kernel_rfl) rfl (fun K hK => ?_)
        refine step_call_g (by rfl) 13 _ _ rfl (fun _ _ => by kernel_rfl) #[.agg (gc x), .agg (gc y)] (by simp [go_sem]) _ (HSr W2).out ?_
        rintro e W3 ⟨rfl, hC3⟩
        refine ⟨_, rfl, ?_⟩
        have hS3 : Rows8 W3 w.heap.size 25 (gc x) ∧ Rows8 W3 (w.heap.size + 1) 25 (gc y) := ⟨hS2.1.below hC3 hS2.1.lt, hS2.2.below hC3 hS2.2.lt⟩
        have hB3 := hB2.trans (hC3.mono hB2.size)
        refine hK.out _ _ (fun _ => hS3) ?_
        clear hK K
        try simp only [Act.put, List.setIfInBounds_toArray, List.set_cons_zero, List.set_cons_succ]
        refine wpAnyN_take (i := 12) (oi := { dst := some 61, op := Go.Op.binOp Go.BinOp.neq 4 (Go.Operand.tmp 57) (Go.Operand.tmp 60) 4, type := 4, pos := "law.go:34", after := #[{ on := 8, ground := Go.Ground.data }, { on := 11, ground := Go.Ground.data }, { on := 5, ground := Go.Ground.guard }], guard := some (5, true) }) (v := .bool false) rfl (by decide) (by kernel_rfl) (by kernel_rfl) (by kernel_rfl) (fun _ _ _ h => h) (Or.inl ⟨by rfl, ?_⟩) hS3 ?_
        · intro W9 hS9
          obtain ⟨q0, q1⟩ := hS9
          clear q0 q1
          go_simp
        try simp only [Act.put, List.setIfInBounds_toArray, List.set_cons_zero, List.set_cons_succ]
        refine wpAnyN_take (i := 13) (oi := { dst := some 62, op := Go.Op.pick (Go.Operand.tmp 54) (Go.Operand.tmp 61) (Go.Operand.const (Go.Value.bool false)), type := 4, pos := "law.go:34", after := #[{ on := 5, ground := Go.Ground.data }, { on := 12, ground := Go.Ground.data }], guard := none }) (v := .bool false) rfl (by decide) (by kernel_rfl) (by kernel_rfl) (by kernel_rfl) (fun _ _ _ h => h) (Or.inl ⟨by rfl, ?_⟩) hS3 ?_
        · intro W9 hS9
          obtain ⟨q0, q1⟩ := hS9
          clear q0 q1
          go_simp
        try simp only [Act.put, List.setIfInBounds_toArray, List.set_cons_zero, List.set_cons_succ]
        refine wpAnyX_end (by kernel_rfl) ?_
        have T5a : Tt w x y W3 := ⟨hS3.1, hS3.2, hB3⟩
        have hld5 := Try.load_group T5a.x
        have T5 := Lib.hid T5a
        clear hS0 hB0 T5a
        go_wp2_with fail
        go_meet
        exact ⟨rfl, T5⟩
    case rest =>
      obtain ⟨rfl, T5⟩ := hcut
      have hld5 := Try.load_group T5.out.x
      go_upto_region 15 with (first | (refine wpList_loadW (by rfl) _ _ rfl ⟨w.heap.size, 0, none⟩ _ rfl hld5 ?_) | (go_at_call 14; refine (HRL _).out.mono ?_; rintro e w6 ⟨rv, rfl, hO, hB⟩; have T6a := T5.out.below hB; have HO6 := Lib.hid hO; have hldw6 := Try.load_group T6a.x; have T6 := Lib.hid T6a; clear hB T6a hO) | (refine wpList_loadW (by rfl) _ _ rfl ⟨w.heap.size, 0, none⟩ _ rfl hldw6 ?_) | (go_at_call 15; refine (HRF _).out.mono ?_; rintro e w7 ⟨rfl, hB⟩; have T7a := T6.out.below hB; have HO7 := Lib.hid (ownsRow_below HO6.out hB (Nat.le_refl _)); have hldw7 := Try.load_group T7a.x; have T7 := Lib.hid T7a; clear hB T7a) | (refine wpList_loadW (by rfl) _ _ rfl ⟨w.heap.size, 0, none⟩ _ rfl hldw7 ?_) | (go_at_call 16; refine (HGF _).out.mono ?_; rintro e w8 ⟨rfl, hB⟩; have T8a := T7.out.below hB; have HO8 := Lib.hid (ownsRow_below HO7.out hB (Nat.le_refl _)); have hldw8 := Try.load_group T8a.x; have T8 := Lib.hid T8a; clear hB T8a))
      go_wp2_with (first | (refine wpList_loadW (by rfl) _ _ rfl ⟨w.heap.size, 0, none⟩ _ rfl hldw8 ?_))
      refine (HGL _).out.mono ?_
      rintro e w8b ⟨pv, rfl, hO9, hnil, hB⟩
      clear hnil
      have T8b := Lib.hid (T8.out.below hB)
      have hO9r := ownsRow_below HO8.out hB (Nat.le_refl _)
      obtain ⟨a1, c1, rfl⟩ : ∃ a c, pv = .slice a (liveG x).length c := by
        obtain ⟨_, a, cap, h, _⟩ := rowAt_own hO9
        exact ⟨a, cap, h⟩
      obtain ⟨a2, c2, rfl⟩ : ∃ a c, rv = .slice a (liveG x).length c := by
        obtain ⟨_, a, cap, h, _⟩ := rowAt_own hO9r
        exact ⟨a, cap, h⟩
      have hE := Try.equalSlots_any a1 a2 _ _ c1 c2 (liveG x) (liveG x) rfl rfl HLL.out HLL.out w8b (rowAt_own hO9) (rowAt_own hO9r)
      rw [decide_eq_true (rfl : liveG x = liveG x)] at hE
      have HE := Lib.hid hE
      clear hB hO9 hO9r hE
      go_wp2_with (first | (go_at_call 17; refine HE.out.mono ?_; rintro e w9 ⟨rfl, hB⟩; have T9 := Lib.hid (T8b.out.below hB); clear hB))
      go_loopw [93] (fun i wr => ∃ k : Nat, k ≤ n ∧ k ≤ 10 ∧ i = .int .i64 k ∧ Hid (Tt w x y wr)) (fun i _ => n - (intOf i).toNat)
      case atStart => exact ⟨0, Nat.zero_le _, Nat.zero_le _, rfl, T9⟩
      case round =>
        obtain ⟨k, hk, hk10, rfl, T⟩ := hrel
        by_cases hlt : k < n
        · have hki : (k : Int) < (n : Int) := by omega
          have hkl : k < ls.length := by rw [← HN.out]; exact hlt
          obtain ⟨b, off, rfl, hb, q0, q1, q2⟩ := slotsAt_get (by have h1 := HR.out; exact h1) k hkl
          have q0 := (T.out.b.cell (p := ⟨b, off + k * 3, none⟩) hb).trans q0
          have q1 := (T.out.b.cell (p := ⟨b, off + k * 3 + 1, none⟩) hb).trans q1
          have q2 := (T.out.b.cell (p := ⟨b, off + k * 3 + 2, none⟩) hb).trans q2
          generalize ls[k] = s at *
          have TAa := T.out.below ((Below.refl wr.heap.size wr).alloc (Nat.le_refl _) (.cells #[.int .u64 (s.key : Nat), .int .u64 (s.val : Nat), .int .u8 (s.h2 : Nat)] 38))
          by_cases h10 : k = 10
          · subst h10
            have hlt10 : (10 : Int) < (n : Int) := hki
            have HF := Lib.hid TAa.b
            clear TAa
            go_wp2_with fail
            go_ret
            exact ⟨rfl, HF.out⟩
          · have h10b : ((k : Int) == 10) = false := by simp; omega
            have hlda := Try.load_group TAa.x
            have hsa : Rows8 (wr.alloc (.cells #[.int .u64 (s.key : Nat), .int .u64 (s.val : Nat), .int .u8 (s.h2 : Nat)] 38)) wr.heap.size 38 (sc s) := Rows8.new _ _ _
            have k2 : (wr.alloc (.cells #[.int .u64 (s.key : Nat), .int .u64 (s.val : Nat), .int .u8 (s.h2 : Nat)] 38)).cell? ⟨wr.heap.size, 2, none⟩ = some (.int .u8 (s.h2 : Nat)) := hsa.cell 2
            have TA := Lib.hid TAa
            have HSA := Lib.hid hsa
            have HLk := fun W => Lib.hid (Try.gLooks_any x s.h2 W)
            have HFd := fun W => Lib.hid (Try.gFind_any x s.key s.h2 W)
            clear TAa hsa
            by_cases h127 : 127 < s.h2
            · have hlk : looksE x s.h2 = 2 := by unfold looksE; rw [HRX.out, if_pos rfl, if_pos h127]
              have hll : looksL x s.h2 = [] := by unfold looksL; rw [hlk]; rfl
              have hfv : gfindV x s.key s.h2 = .tuple #[.int .i64 0, .int .i64 0, .int .i64 2] := by unfold gfindV findV findL findN findE; rw [HRX.out, if_pos rfl, if_pos h127, if_pos h127, if_pos h127]; rfl
              have hle : ¬ ((s.h2 : Nat) : Int) ≤ 127 := by omega
              unfold LooksQ at HLk
              rw [hlk, hll] at HLk
              rw [hfv] at HFd
              clear hlk hll hfv
              go_upto_region 33 with (first | (refine wpList_loadW (by rfl) _ _ rfl ⟨w.heap.size, 0, none⟩ _ rfl hlda ?_) | (go_at_call 19; refine (HLk _).out.mono ?_; rintro e v1 ⟨lv, rfl, hO1, hB⟩; have TBa := TA.out.below hB; have hsv1 := HSA.out.below hB HSA.out.lt; have k0v1 : v1.cell? ⟨wr.heap.size, 0, none⟩ = some (.int .u64 (s.key : Nat)) := hsv1.cell 0; have k2v1 : v1.cell? ⟨wr.heap.size, 2, none⟩ = some (.int .u8 (s.h2 : Nat)) := hsv1.cell 2; have HSv1 := Lib.hid hsv1; clear hsv1; have hldv1 := Try.load_group TBa.x; have TB := Lib.hid TBa; have HO1 := Lib.hid hO1; clear hB TBa hO1) | (refine wpList_loadW (by rfl) _ _ rfl ⟨w.heap.size, 0, none⟩ _ rfl hldv1 ?_) | (go_at_call 20; refine (HFd _).out.mono ?_; rintro e v2 ⟨rfl, hB⟩; have TCa := TB.out.below hB; have HO2 := Lib.hid (ownsRow_below HO1.out.1 hB (Nat.le_refl _)); have hsv2 := HSv1.out.below hB HSv1.out.lt; have k0v2 : v2.cell? ⟨wr.heap.size, 0, none⟩ = some (.int .u64 (s.key : Nat)) := hsv2.cell 0; have k2v2 : v2.cell? ⟨wr.heap.size, 2, none⟩ = some (.int .u8 (s.h2 : Nat)) := hsv2.cell 2; have HSv2 := Lib.hid hsv2; clear hsv2; have hldv2 := Try.load_group TCa.x; have hpHP2 : OwnsLanes _ [] lv v2 := ⟨HO2.out, HO1.out.2⟩; have HP2 := Lib.hid hpHP2; clear hpHP2; have TC := Lib.hid TCa; clear hB TCa))
              obtain ⟨⟨aa, ca, rfl⟩, hI1⟩ := owns_intsAt HP2.out
              have HEq := Lib.hid (Try.equalInts_any aa none 0 ca 0 [] rfl (by decide) v2 hI1 (owns_intsAt (owns_none 0 v2)).2)
              clear hI1
              go_wp2_with (first | (go_at_call 23; refine HEq.out.mono ?_; rintro e v9 ⟨rfl, hB⟩; have T9 := Lib.hid (TC.out.below hB); clear hB))
              go_roundw
              case rel => exact ⟨k + 1, by omega, by omega, by go_num, T9⟩
              case measure => simp [intOf] <;> omega
            · cases hfo : findO x s.key s.h2 with
              | none =>
                have hlk : looksE x s.h2 = 0 := by unfold looksE; rw [HRX.out, if_pos rfl, if_neg h127]
                have hll : looksL x s.h2 = hl x s.h2 := by unfold looksL; rw [hlk]; rfl
                have hle : ((s.h2 : Nat) : Int) ≤ 127 := by omega
                have hfv : gfindV x s.key s.h2 = .tuple #[.int .i64 0, .int .i64 0, .int .i64 4] := by unfold gfindV findV findL findN findE; rw [HRX.out, if_pos rfl, if_neg h127, if_neg h127, if_neg h127, hfo]; rfl
                have hL : rfL x s.key s.h2 = -1 := by unfold rfL; rw [hfo]
                have hNn : rfN x s.key s.h2 = 0 := by unfold rfN; rw [hfo]
                have HRl := fun W => Lib.hid (Try.rgLooks_any x HCX.out s.h2 W)
                have HRf := fun W => Lib.hid (Try.rgFind_any x HCX.out s.key s.h2 W)
                rw [hL, hNn] at HRf
                unfold LooksQ at HLk
                rw [hlk, hll] at HLk
                rw [hfv] at HFd
                clear hlk hll hfv
                clear hL hNn hfo
                go_upto_region 33 with (first | (refine wpList_loadW (by rfl) _ _ rfl ⟨w.heap.size, 0, none⟩ _ rfl hlda ?_) | (go_at_call 19; refine (HLk _).out.mono ?_; rintro e v1 ⟨lv, rfl, hO1, hB⟩; have TBa := TA.out.below hB; have hsv1 := HSA.out.below hB HSA.out.lt; have k0v1 : v1.cell? ⟨wr.heap.size, 0, none⟩ = some (.int .u64 (s.key : Nat)) := hsv1.cell 0; have k2v1 : v1.cell? ⟨wr.heap.size, 2, none⟩ = some (.int .u8 (s.h2 : Nat)) := hsv1.cell 2; have HSv1 := Lib.hid hsv1; clear hsv1; have hldv1 := Try.load_group TBa.x; have TB := Lib.hid TBa; have HO1 := Lib.hid hO1; clear hB TBa hO1) | (refine wpList_loadW (by rfl) _ _ rfl ⟨w.heap.size, 0, none⟩ _ rfl hldv1 ?_) | (go_at_call 20; refine (HFd _).out.mono ?_; rintro e v2 ⟨rfl, hB⟩; have TCa := TB.out.below hB; have HO2 := Lib.hid (ownsRow_below HO1.out.1 hB (Nat.le_refl _)); have hsv2 := HSv1.out.below hB HSv1.out.lt; have k0v2 : v2.cell? ⟨wr.heap.size, 0, none⟩ = some (.int .u64 (s.key : Nat)) := hsv2.cell 0; have k2v2 : v2.cell? ⟨wr.heap.size, 2, none⟩ = some (.int .u8 (s.h2 : Nat)) := hsv2.cell 2; have HSv2 := Lib.hid hsv2; clear hsv2; have hldv2 := Try.load_group TCa.x; have hpHP2 : OwnsLanes _ (hl x s.h2) lv v2 := ⟨HO2.out, HO1.out.2⟩; have HP2 := Lib.hid hpHP2; clear hpHP2; have TC := Lib.hid TCa; clear hB TCa) | (refine wpList_loadW (by rfl) _ _ rfl ⟨w.heap.size, 0, none⟩ _ rfl hldv2 ?_) | (go_at_call 21; refine (HRl _).out.mono ?_; rintro e v3 ⟨rv, rfl, hO3, hB⟩; have TDa := TC.out.below hB; have hpHP3 : OwnsLanes _ (hl x s.h2) lv v3 := ⟨ownsRow_below HP2.out.1 hB (Nat.le_refl _), HP2.out.2⟩; have HP3 := Lib.hid hpHP3; clear hpHP3; have hsv3 := HSv2.out.below hB HSv2.out.lt; have k0v3 : v3.cell? ⟨wr.heap.size, 0, none⟩ = some (.int .u64 (s.key : Nat)) := hsv3.cell 0; have k2v3 : v3.cell? ⟨wr.heap.size, 2, none⟩ = some (.int .u8 (s.h2 : Nat)) := hsv3.cell 2; have HSv3 := Lib.hid hsv3; clear hsv3; have hldv3 := Try.load_group TDa.x; have TD := Lib.hid TDa; have HO3 := Lib.hid hO3; clear hB TDa hO3) | (refine wpList_loadW (by rfl) _ _ rfl ⟨w.heap.size, 0, none⟩ _ rfl hldv3 ?_) | (go_at_call 22; refine (HRf _).out.mono ?_; rintro e v4 ⟨rfl, hB⟩; have TEa := TD.out.below hB; have hpHP4 : OwnsLanes _ (hl x s.h2) lv v4 := ⟨ownsRow_below HP3.out.1 hB (Nat.le_refl _), HP3.out.2⟩; have HP4 := Lib.hid hpHP4; clear hpHP4; have hpHQ4 : OwnsLanes _ (hl x s.h2) rv v4 := ⟨ownsRow_below HO3.out.1 hB (Nat.le_refl _), HO3.out.2⟩; have HQ4 := Lib.hid hpHQ4; clear hpHQ4; have TE := Lib.hid TEa; clear hB TEa))
                obtain ⟨⟨aa, ca, rfl⟩, hI1⟩ := owns_intsAt HP4.out
                obtain ⟨⟨ab, cb, rfl⟩, hI2⟩ := owns_intsAt HQ4.out
                have hl8 : (hl x s.h2).length ≤ 8 := lanes_le _
                have HEq := Lib.hid (Try.equalInts_any aa ab (hl x s.h2).length ca cb (lanesInt (hl x s.h2)) (by simp [lanesInt]) (by omega) v4 hI1 hI2)
                clear hI1 hI2
                go_wp2_with (first | (go_at_call 23; refine HEq.out.mono ?_; rintro e v9 ⟨rfl, hB⟩; have T9 := Lib.hid (TE.out.below hB); clear hB))
                go_roundw
                case rel => exact ⟨k + 1, by omega, by omega, by go_num, T9⟩
                case measure => simp [intOf] <;> omega
              | some p =>
                obtain ⟨A, M⟩ := p
                have hlk : looksE x s.h2 = 0 := by unfold looksE; rw [HRX.out, if_pos rfl, if_neg h127]
                have hll : looksL x s.h2 = hl x s.h2 := by unfold looksL; rw [hlk]; rfl
                have hle : ((s.h2 : Nat) : Int) ≤ 127 := by omega
                have hfv : gfindV x s.key s.h2 = .tuple #[.int .i64 (A : Nat), .int .i64 (M : Nat), .int .i64 0] := by unfold gfindV findV findL findN findE; rw [HRX.out, if_pos rfl, if_neg h127, if_neg h127, if_neg h127, hfo]; rfl
                have hL : rfL x s.key s.h2 = (A : Nat) := by unfold rfL; rw [hfo]
                have hNn : rfN x s.key s.h2 = (M : Nat) := by unfold rfN; rw [hfo]
                have hA0 : (0 : Int) ≤ ((A : Nat) : Int) := by omega
                have HRl := fun W => Lib.hid (Try.rgLooks_any x HCX.out s.h2 W)
                have HRf := fun W => Lib.hid (Try.rgFind_any x HCX.out s.key s.h2 W)
                rw [hL, hNn] at HRf
                unfold LooksQ at HLk
                rw [hlk, hll] at HLk
                rw [hfv] at HFd
                clear hlk hll hfv
                clear hL hNn hfo
                go_upto_region 33 with (first | (refine wpList_loadW (by rfl) _ _ rfl ⟨w.heap.size, 0, none⟩ _ rfl hlda ?_) | (go_at_call 19; refine (HLk _).out.mono ?_; rintro e v1 ⟨lv, rfl, hO1, hB⟩; have TBa := TA.out.below hB; have hsv1 := HSA.out.below hB HSA.out.lt; have k0v1 : v1.cell? ⟨wr.heap.size, 0, none⟩ = some (.int .u64 (s.key : Nat)) := hsv1.cell 0; have k2v1 : v1.cell? ⟨wr.heap.size, 2, none⟩ = some (.int .u8 (s.h2 : Nat)) := hsv1.cell 2; have HSv1 := Lib.hid hsv1; clear hsv1; have hldv1 := Try.load_group TBa.x; have TB := Lib.hid TBa; have HO1 := Lib.hid hO1; clear hB TBa hO1) | (refine wpList_loadW (by rfl) _ _ rfl ⟨w.heap.size, 0, none⟩ _ rfl hldv1 ?_) | (go_at_call 20; refine (HFd _).out.mono ?_; rintro e v2 ⟨rfl, hB⟩; have TCa := TB.out.below hB; have HO2 := Lib.hid (ownsRow_below HO1.out.1 hB (Nat.le_refl _)); have hsv2 := HSv1.out.below hB HSv1.out.lt; have k0v2 : v2.cell? ⟨wr.heap.size, 0, none⟩ = some (.int .u64 (s.key : Nat)) := hsv2.cell 0; have k2v2 : v2.cell? ⟨wr.heap.size, 2, none⟩ = some (.int .u8 (s.h2 : Nat)) := hsv2.cell 2; have HSv2 := Lib.hid hsv2; clear hsv2; have hldv2 := Try.load_group TCa.x; have hpHP2 : OwnsLanes _ (hl x s.h2) lv v2 := ⟨HO2.out, HO1.out.2⟩; have HP2 := Lib.hid hpHP2; clear hpHP2; have TC := Lib.hid TCa; clear hB TCa) | (refine wpList_loadW (by rfl) _ _ rfl ⟨w.heap.size, 0, none⟩ _ rfl hldv2 ?_) | (go_at_call 21; refine (HRl _).out.mono ?_; rintro e v3 ⟨rv, rfl, hO3, hB⟩; have TDa := TC.out.below hB; have hpHP3 : OwnsLanes _ (hl x s.h2) lv v3 := ⟨ownsRow_below HP2.out.1 hB (Nat.le_refl _), HP2.out.2⟩; have HP3 := Lib.hid hpHP3; clear hpHP3; have hsv3 := HSv2.out.below hB HSv2.out.lt; have k0v3 : v3.cell? ⟨wr.heap.size, 0, none⟩ = some (.int .u64 (s.key : Nat)) := hsv3.cell 0; have k2v3 : v3.cell? ⟨wr.heap.size, 2, none⟩ = some (.int .u8 (s.h2 : Nat)) := hsv3.cell 2; have HSv3 := Lib.hid hsv3; clear hsv3; have hldv3 := Try.load_group TDa.x; have TD := Lib.hid TDa; have HO3 := Lib.hid hO3; clear hB TDa hO3) | (refine wpList_loadW (by rfl) _ _ rfl ⟨w.heap.size, 0, none⟩ _ rfl hldv3 ?_) | (go_at_call 22; refine (HRf _).out.mono ?_; rintro e v4 ⟨rfl, hB⟩; have TEa := TD.out.below hB; have hpHP4 : OwnsLanes _ (hl x s.h2) lv v4 := ⟨ownsRow_below HP3.out.1 hB (Nat.le_refl _), HP3.out.2⟩; have HP4 := Lib.hid hpHP4; clear hpHP4; have hpHQ4 : OwnsLanes _ (hl x s.h2) rv v4 := ⟨ownsRow_below HO3.out.1 hB (Nat.le_refl _), HO3.out.2⟩; have HQ4 := Lib.hid hpHQ4; clear hpHQ4; have TE := Lib.hid TEa; clear hB TEa))
                obtain ⟨⟨aa, ca, rfl⟩, hI1⟩ := owns_intsAt HP4.out
                obtain ⟨⟨ab, cb, rfl⟩, hI2⟩ := owns_intsAt HQ4.out
                have hl8 : (hl x s.h2).length ≤ 8 := lanes_le _
                have HEq := Lib.hid (Try.equalInts_any aa ab (hl x s.h2).length ca cb (lanesInt (hl x s.h2)) (by simp [lanesInt]) (by omega) v4 hI1 hI2)
                clear hI1 hI2
                go_wp2_with (first | (go_at_call 23; refine HEq.out.mono ?_; rintro e v9 ⟨rfl, hB⟩; have T9 := Lib.hid (TE.out.below hB); clear hB))
                go_roundw
                case rel => exact ⟨k + 1, by omega, by omega, by go_num, T9⟩
                case measure => simp [intOf] <;> omega
        · obtain rfl : k = n := by omega
          have hki : ¬ (k : Int) < (k : Int) := by omega
          go_wp2_with fail
          go_ret
          exact ⟨rfl, T.out.b⟩
end Go.Proofs
namespace Go.Proofs.Ytccbgekibllfpaa.groupTells
open Go.ChangeShapes Go.WideShapes Go.ChangeAt Go.RowKit Go.Shelf

theorem own : ownKnob Try.prog.godebug = none := by kernel_rfl
theorem walk (x y : Gr) (a2 : Option Addr) (len2 cap2 : Nat) (z2 : List Sl) (w : World) (hx : x.c < 18446744073709551616) (hy : y.c < 18446744073709551616) (n2 : len2 = z2.length) (w2 : SlotsK w (.slice a2 len2 cap2) z2) :
    Calls Try.prog 3 #[.agg (gc x), .agg (gc y), .slice a2 len2 cap2] w fun e w' => e = .returned (.bool true) ∧ Below w.heap.size w w' := Try.tells_any x y hx hy a2 len2 cap2 z2 n2 w (by have h := w2.1; rw [← n2] at h; exact h)
theorem laidOut : laidOutB Try.prog = true := by kernel_rfl
set_option maxRecDepth 100000 in
theorem lifted (os : Os) (started : os.Started) (H : Type) (enc : TypeId × Value → H) :
    ReturnsInHanded {} Try.checked os 3 .any (Rows.groupTellsSpec.pre6 enc Try.prog Try.f3 Rows.groupTellsRow.domain false) (Rows.groupTellsSpec.post enc Try.prog Try.f3 false true false false) := by
  refine returnsInHanded_of_change (C := Try.checked) own started (by kernel_rfl) Try.func3
    (ChangeSpec.witness6 (enc := enc) (C := Try.checked) false ⟨#[], #[.agg #[.int .u64 0, .int .u64 0, .int .u64 0, .int .u64 0, .int .u64 0, .int .u64 0, .int .u64 0, .int .u64 0, .int .u64 0, .int .u64 0, .int .u64 0, .int .u64 0, .int .u64 0, .int .u64 0, .int .u64 0, .int .u64 0, .int .u64 0], .agg #[.int .u64 0, .int .u64 0, .int .u64 0, .int .u64 0, .int .u64 0, .int .u64 0, .int .u64 0, .int .u64 0, .int .u64 0, .int .u64 0, .int .u64 0, .int .u64 0, .int .u64 0, .int .u64 0, .int .u64 0, .int .u64 0, .int .u64 0], .slice none 0 0], []⟩ 8 (by kernel_rfl) (by kernel_rfl) (by kernel_rfl) (by kernel_rfl)) ?_
  intro W base args ds gs before hval0 hW hcnd _
  have hval : ∀ (j : Nat) t v, Try.f3.params[j]? = some t → args[j]? = some v → Value.okWide Try.prog W .any base t v := hval0
  have hW' := hW
  obtain ⟨p, q, hA0, hV, rfl, hfz, hnd⟩ := hW
  have hA : DataW.TrodAll enc Try.prog W 0 (fun _ => true) true Try.f3.params.toList args.toList ds p := hA0
  rw [Try.params3] at hA hval
  obtain ⟨v0, vs0, d0, ds0, p0, q0, hargs, rfl, rfl, h0, r0⟩ := trodAll_cons hA
  obtain ⟨v1, vs1, d1, ds1, p1, q1, rfl, rfl, rfl, h1, r1⟩ := trodAll_cons r0
  obtain ⟨v2, vs2, d2, ds2, p2, q2, rfl, rfl, rfl, h2, r2⟩ := trodAll_cons r1
  obtain ⟨rfl, rfl, rfl⟩ := trodAll_nil r2
  obtain rfl : args = #[v0, v1, v2] := by cases args; simp_all
  obtain ⟨rfl, rfl⟩ := trodVars_none hV
  have k0 := h0
  have lt0 : ∀ x ∈ p0, x.block < W.heap.size := by obtain ⟨m, hm⟩ := k0; exact DataW.trod_lt m _ _ _ hm
  obtain ⟨g0, rfl, w0⟩ := open_group (hval 0 25 v0 rfl rfl) h0
  have k1 := h1
  have lt1 : ∀ x ∈ p1, x.block < W.heap.size := by obtain ⟨m, hm⟩ := k1; exact DataW.trod_lt m _ _ _ hm
  obtain ⟨g1, rfl, w1⟩ := open_group (hval 1 25 v1 rfl rfl) h1
  obtain ⟨a2, len2, cap2, rfl⟩ := okWide_slice Try.underlying26 (hval 2 26 v2 rfl rfl)
  have k2 := h2
  have lt2 : ∀ x ∈ p2, x.block < W.heap.size := by obtain ⟨m, hm⟩ := k2; exact DataW.trod_lt m _ _ _ hm
  obtain ⟨z2, n2, w2⟩ : ∃ zs, len2 = zs.length ∧ SlotsK W (.slice a2 len2 cap2) zs := by
    obtain ⟨fuel, hf⟩ := h2
    exact open_slots hf
  clear hA0 hval0
  refine (walk g0 g1 a2 len2 cap2 z2 W w0 w1 n2 w2).mono fun e W' ⟨he, bel⟩ => ?_
  subst he
  exact ⟨_, rfl, _, _, _, [], _, [], hW', trodAll_mk1 (shut_bool Try.underlying4 _), (trodAll_cons_mk (Below.trod laidOut (by kernel_rfl) (of_decide_eq_true (by kernel_rfl)) k0 bel lt0) (trodAll_cons_mk (Below.trod laidOut (by kernel_rfl) (of_decide_eq_true (by kernel_rfl)) k1 bel lt1) (trodAll_cons_mk (Below.trod laidOut (by kernel_rfl) (of_decide_eq_true (by kernel_rfl)) k2 bel lt2) trodAll_mk0))), rfl, bel.frame _, fun h => by cases h⟩

theorem over : Rows.groupTellsRow.holds Try.pinned (OpenSpec.ofChange Rows.groupTellsSpec) :=
  OpenClaim.holds_of_wide 3 Try.f3 rfl rfl rfl rfl rfl rfl rfl ⟨rfl, rfl, rfl, rfl, rfl⟩ rfl rfl rfl rfl rfl (by kernel_rfl) Try.func3 (by kernel_rfl)
    (of_decide_eq_true (by kernel_rfl)) (by unfold Func.isWrapper; first | (rw [if_pos (by decide +kernel)]; kernel_rfl) | (rw [if_neg (by decide +kernel)]; exact ⟨rfl, rfl⟩))
    (fun os started H enc _ => lifted os started H enc)

theorem proved : Rows.GroupTellsSaid := over
end Go.Proofs.Ytccbgekibllfpaa.groupTells
