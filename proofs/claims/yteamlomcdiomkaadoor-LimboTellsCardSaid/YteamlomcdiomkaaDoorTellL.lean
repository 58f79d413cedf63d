/- Proved: for every two limbos and row of numbers, honeycomblaw14.LimboTells returns true, and its arguments read as they did; the listed variable reads as the program's text lays it. -/
import Derived.Test.YteamlomcdiomkaaDoorLta
import Derived.Deep.CutBlock
import Derived.SevenTiedAt
import Derived.Stop.Joined
import Derived.Test.YteamlomcdiomkaaDoorCards
import Derived.Test.YteamlomcdiomkaaDoorTie
namespace Go.Proofs.YteamlomcdiomkaaDoor.limboTells
open Go.ChangeShapes Go.WideShapes Go.ChangeAt Go.RowKit Go.Shelf
attribute [local go_sem] Oper.semAt_some

theorem of_ready {E : Nat} {r : Rw3} (h : rightL E r = true) : ofL E r 2 = readyL E r := by
  obtain ⟨⟨_, h1, h2⟩, _⟩ := rightL_iff.1 h
  unfold ofL readyL
  rcases two_more E with rfl | rfl | ⟨F, rfl⟩
  · rw [if_pos (by omega), h1 (by omega)]
  · rw [if_pos (by omega)]; exact (h2 (by omega)).symm
  · rw [if_neg (by omega), show F + 2 - 2 = F by omega, show (F + 2 + 1) % 3 = F % 3 by omega]
theorem own_low {n₀ : Nat} {l : List Pr} {v : Value} {W : World} (h : OwnsP tE n₀ l v W) {B : Nat} (hB : B < n₀) (o : Nat) (x : Value) : OwnsP tE n₀ l v (W.setCell ⟨B, o, none⟩ x) := by
  refine ⟨h.1, ?_⟩
  rcases h.2 with h2 | ⟨g, cap, cur, e, hg, hh, h3⟩
  · exact .inl h2
  · exact .inr ⟨g, cap, cur, e, hg, (Below.heap_setCell W ⟨B, o, none⟩ x g (by show g ≠ B; omega)).trans hh, h3⟩
/-- What stands all along: the two, of their own, in their boxes; the first as it came in. -/
structure TlI (w : World) (b1 b4 b5 E F : Nat) (s sa sb : Ls) (r q : Rw3) (W : World) : Prop where
  k1 : Rows8 W b1 26 #[.int .u64 (E : Nat), .slice (s.a 0) (s.n 0) (s.c 0), .slice (s.a 1) (s.n 1) (s.c 1), .slice (s.a 2) (s.n 2) (s.c 2)]
  a4 : Rows8 W b4 26 #[.int .u64 (E : Nat), .slice (sa.a 0) (sa.n 0) (sa.c 0), .slice (sa.a 1) (sa.n 1) (sa.c 1), .slice (sa.a 2) (sa.n 2) (sa.c 2)]
  a5 : Rows8 W b5 26 #[.int .u64 (F : Nat), .slice (sb.a 0) (sb.n 0) (sb.c 0), .slice (sb.a 1) (sb.n 1) (sb.c 1), .slice (sb.a 2) (sb.n 2) (sb.c 2)]
  hx : LAt W s r
  ha : LAt W sa (ownR r)
  hb : LAt W sb (ownR q)
  bl : Below w.heap.size w W
theorem TlI.below {w : World} {b1 b4 b5 E F : Nat} {s sa sb : Ls} {r q : Rw3} {W W' : World} (h : TlI w b1 b4 b5 E F s sa sb r q W) (hB : Below W.heap.size W W') : TlI w b1 b4 b5 E F s sa sb r q W' :=
  ⟨h.k1.below hB h.k1.lt, h.a4.below hB h.a4.lt, h.a5.below hB h.a5.lt, h.hx.below hB, h.ha.below hB, h.hb.below hB, h.bl.trans (hB.mono h.bl.size)⟩
theorem TlI.drew {w : World} {b1 b4 b5 E F : Nat} {s sa sb : Ls} {r q : Rw3} {W : World} (h : TlI w b1 b4 b5 E F s sa sb r q W) : TlI w b1 b4 b5 E F s sa sb r q W.drew :=
  ⟨h.k1.drewA, h.a4.drewA, h.a5.drewA, fun k hk => h.hx k hk, fun k hk => h.ha k hk, fun k hk => h.hb k hk, h.bl.drew⟩
theorem own_n {W : World} {s : Ls} {r : Rw3} (h : LAt W s (ownR r)) (k : Nat) (hk : k < 3) : s.n k ≤ 12 := by
  rw [(h.len k hk).1]
  exact ownR_len r k hk
set_option maxRecDepth 100000 in
set_option maxHeartbeats 64000000 in
theorem walk (E : Nat) (s : Ls) (r : Rw3) (F : Nat) (u : Ls) (q : Rw3) (a : Option Addr) (n c : Nat) (zs : List Int) (w : World) (hT : OnAt w) (hI : LAt w s r) (hE : E < 18446744073709551616) (_ : r 3 = []) (hQ : LAt w u q) (hF : F < 18446744073709551616) (_ : q 3 = []) (hn : n = zs.length) (hZ : IntsAt w (.slice a n c) zs) :
    Calls Tryd.prog 3 #[.agg #[.int .u64 (E : Nat), .slice (s.a 0) (s.n 0) (s.c 0), .slice (s.a 1) (s.n 1) (s.c 1), .slice (s.a 2) (s.n 2) (s.c 2)], .agg #[.int .u64 (F : Nat), .slice (u.a 0) (u.n 0) (u.c 0), .slice (u.a 1) (u.n 1) (u.c 1), .slice (u.a 2) (u.n 2) (u.c 2)], .slice a n c] w fun e w' => e = .returned (.bool true) ∧ Below w.heap.size w w' := by
  obtain ⟨W0, hW0⟩ : ∃ W, W = (w.alloc (.cells #[.int .u64 (E : Nat), .slice (s.a 0) (s.n 0) (s.c 0), .slice (s.a 1) (s.n 1) (s.c 1), .slice (s.a 2) (s.n 2) (s.c 2)] 26)).alloc (.cells #[.int .u64 (F : Nat), .slice (u.a 0) (u.n 0) (u.c 0), .slice (u.a 1) (u.n 1) (u.c 1), .slice (u.a 2) (u.n 2) (u.c 2)] 26) := ⟨_, rfl⟩
  have hB0 : Below w.heap.size w W0 := by rw [hW0]; exact (Rows8.newB).alloc (by simp) _
  have K1 : Hid (Rows8 W0 w.heap.size 26 #[.int .u64 (E : Nat), .slice (s.a 0) (s.n 0) (s.c 0), .slice (s.a 1) (s.n 1) (s.c 1), .slice (s.a 2) (s.n 2) (s.c 2)]) := Lib.hid (by rw [hW0]; exact (Rows8.new _ _ _).alloc _)
  have K2 : Hid (Rows8 W0 (w.heap.size + 1) 26 #[.int .u64 (F : Nat), .slice (u.a 0) (u.n 0) (u.c 0), .slice (u.a 1) (u.n 1) (u.c 1), .slice (u.a 2) (u.n 2) (u.c 2)]) := Lib.hid (by rw [hW0]; exact rows_new2 _ _ _ _)
  have HW := Lib.hid (Tryd.wakes_any W0 (hT.below hB0))
  have HI := Lib.hid (hI.below hB0)
  have HQ := Lib.hid (hQ.below hB0)
  have HB := Lib.hid hB0
  have HE := Lib.hid hE
  have HF := Lib.hid hF
  have HZ := Lib.hid hZ
  have HN := Lib.hid hn
  clear hT hI hQ hB0 hE hF hZ hn
  go_enter Tryd.func3, Tryd.ntmps3
  go_wp2_with fail
  rw [← hW0]
  clear hW0
  refine HW.out.mono ?_
  rintro e W1 ⟨rfl, hB1⟩
  have K1 := Lib.hid (K1.out.below hB1 K1.out.lt)
  have K2 := Lib.hid (K2.out.below hB1 K2.out.lt)
  have HI := Lib.hid (HI.out.below hB1)
  have HQ := Lib.hid (HQ.out.below hB1)
  have HB := Lib.hid (HB.out.trans (hB1.mono HB.out.size))
  clear hB1 HW
  go_upto_region 3 with fail
  refine Tryd.tl_r3 W1.heap.size W1 w.heap.size E F s u r q _ (Lib.hid (Nat.le_refl _)) K1 K2 HI HQ (Lib.hid ?_) (fun c d v a w h => by cases d <;> exact h)
  intro b4 b5 sa sb z25 z26 z27 z28 W2 h4 h5 hne hr4 hr5 ho1 ho2 hB2
  have HT : Hid (TlI w w.heap.size b4 b5 E F s sa sb r q W2) := Lib.hid ⟨K1.out.below hB2 K1.out.lt, hr4, hr5, HI.out.below hB2, ho1.at, ho2.at, HB.out.trans (hB2.mono HB.out.size)⟩
  generalize w.heap.size = b1 at HT ⊢
  have hl : ∀ k, k < 3 → (ownR r k).length ≤ 1000 := fun k hk => Nat.le_trans (ownR_len r k hk) (by decide)
  have HRt := Lib.hid (Tryd.refRight_any E sa (ownR r) W2 HT.out.ha HE.out hl)
  have a4 := HT.out.a4
  have c0 : W2.cell? ⟨b4, 0, none⟩ = some (.int .u64 (E : Nat)) := a4.cell 0
  have c1 : W2.cell? ⟨b4, 1, none⟩ = some (.slice (sa.a 0) (sa.n 0) (sa.c 0)) := a4.cell 1
  have c2 : W2.cell? ⟨b4, 2, none⟩ = some (.slice (sa.a 1) (sa.n 1) (sa.c 1)) := a4.cell 2
  have c3 : W2.cell? ⟨b4, 3, none⟩ = some (.slice (sa.a 2) (sa.n 2) (sa.c 2)) := a4.cell 3
  have lt4 := a4.lt
  clear K1 K2 HI HQ HB h4 h5 hne hr4 hr5 ho1 ho2 hB2 hl a4
  go_wp2_with fail
  refine HRt.out.mono ?_
  rintro e W3 ⟨rfl, hB3⟩
  have HT := Lib.hid (HT.out.below hB3)
  have HCk := Lib.hid (Tryd.Check_any E sa (ownR r) W3 HT.out.ha HE.out)
  have a4 := HT.out.a4
  clear c0 c1 c2 c3 lt4 hB3 HRt
  have c0 : W3.cell? ⟨b4, 0, none⟩ = some (.int .u64 (E : Nat)) := a4.cell 0
  have c1 : W3.cell? ⟨b4, 1, none⟩ = some (.slice (sa.a 0) (sa.n 0) (sa.c 0)) := a4.cell 1
  have c2 : W3.cell? ⟨b4, 2, none⟩ = some (.slice (sa.a 1) (sa.n 1) (sa.c 1)) := a4.cell 2
  have c3 : W3.cell? ⟨b4, 3, none⟩ = some (.slice (sa.a 2) (sa.n 2) (sa.c 2)) := a4.cell 3
  have lt4 := a4.lt
  clear a4
  go_wp2_with fail
  refine HCk.out.mono ?_
  rintro e W4 ⟨rfl, hB4⟩
  have HT := Lib.hid (HT.out.below hB4)
  clear c0 c1 c2 c3 lt4 hB4 HCk
  cases hR : rightL E (ownR r) with
  | true =>
    have HR := Lib.hid hR
    clear hR
    go_upto_region 6 with fail
    refine wp_region_L (fun W' => TlI w b1 b4 b5 E F s sa sb r q W') 28 (by kernel_rfl) ?_
    have hS0 : Hid (TlI w b1 b4 b5 E F s sa sb r q W4.drew) := Lib.hid HT.out.drew
    clear HT
    generalize W4.drew = Wd at *
    refine wpAnyL_takeT (i := 0) (oi := { dst := some 33, op := Go.Op.move (Go.Operand.tmp 10), type := 31, pos := "law.go:52", after := #[], guard := none }) (v := .int .i64 0) [1, 3, 4, 5, 6, 7, 8, 9, 10, 11, 12, 13, 14, 15, 16, 17, 18, 19, 20, 21, 22, 23, 24, 25, 26, 27] rfl (by kernel_rfl) (by kernel_rfl) (by kernel_rfl) (by kernel_rfl) (fun _ _ _ h => h) (Or.inl ⟨by rfl, ?_⟩) hS0.out ?_
    · intro W9 hS9
      clear hS9
      go_simp
    try simp only [Act.put, List.setIfInBounds_toArray, List.set_cons_zero, List.set_cons_succ]
    refine wpAnyL_takeT (i := 1) (oi := { dst := some 34, op := Go.Op.binOp Go.BinOp.eql 31 (Go.Operand.tmp 33) (Go.Operand.const (Go.Value.int Go.IntKind.i64 0)) 31, type := 4, pos := "law.go:52", after := #[{ on := 0, ground := Go.Ground.data }], guard := none }) (v := .bool true) [3, 4, 5, 6, 7, 8, 9, 10, 11, 12, 13, 14, 15, 16, 17, 18, 19, 20, 21, 22, 23, 24, 25, 26, 27] rfl (by kernel_rfl) (by kernel_rfl) (by kernel_rfl) (by kernel_rfl) (fun _ _ _ h => h) (Or.inl ⟨by rfl, ?_⟩) hS0.out ?_
    · intro W9 hS9
      clear hS9
      go_simp
    try simp only [Act.put, List.setIfInBounds_toArray, List.set_cons_zero, List.set_cons_succ]
    refine wpAnyL_takeT (i := 2) (oi := { dst := some 35, op := Go.Op.move (Go.Operand.tmp 9), type := 4, pos := "law.go:52", after := #[], guard := none }) (v := .bool true) [3, 4, 5, 6, 7, 8, 9, 10, 11, 12, 13, 14, 15, 16, 17, 18, 19, 20, 21, 22, 23, 24, 25, 26, 27] rfl (by kernel_rfl) (by kernel_rfl) (by kernel_rfl) (by kernel_rfl) (fun _ _ _ h => h) (Or.inl ⟨by rfl, ?_⟩) hS0.out ?_
    · intro W9 hS9
      clear hS9
      go_simp
    try simp only [Act.put, List.setIfInBounds_toArray, List.set_cons_zero, List.set_cons_succ]
    refine wpAnyL_takeT (i := 3) (oi := { dst := some 36, op := Go.Op.binOp Go.BinOp.neq 4 (Go.Operand.tmp 34) (Go.Operand.tmp 35) 4, type := 4, pos := "law.go:52", after := #[{ on := 1, ground := Go.Ground.data }, { on := 2, ground := Go.Ground.data }], guard := none }) (v := .bool false) [4, 5, 6, 7, 8, 9, 10, 11, 12, 13, 14, 15, 16, 17, 18, 19, 20, 21, 22, 23, 24, 25, 26, 27] rfl (by kernel_rfl) (by kernel_rfl) (by kernel_rfl) (by kernel_rfl) (fun _ _ _ h => h) (Or.inl ⟨by rfl, ?_⟩) hS0.out ?_
    · intro W9 hS9
      clear hS9
      go_simp
    try simp only [Act.put, List.setIfInBounds_toArray, List.set_cons_zero, List.set_cons_succ]
    refine wpAnyL_takeT (i := 4) (oi := { dst := some 37, op := Go.Op.move (Go.Operand.tmp 36), type := 4, pos := "law.go:52", after := #[{ on := 3, ground := Go.Ground.data }], guard := none }) (v := .bool false) [5, 6, 7, 8, 9, 10, 11, 12, 13, 14, 15, 16, 17, 18, 19, 20, 21, 22, 23, 24, 25, 26, 27] rfl (by kernel_rfl) (by kernel_rfl) (by kernel_rfl) (by kernel_rfl) (fun _ _ _ h => h) (Or.inl ⟨by rfl, ?_⟩) hS0.out ?_
    · intro W9 hS9
      clear hS9
      go_simp
    try simp only [Act.put, List.setIfInBounds_toArray, List.set_cons_zero, List.set_cons_succ]
    refine wpAnyL_takeT (i := 5) (oi := { dst := some 38, op := Go.Op.move (Go.Operand.tmp 10), type := 31, pos := "law.go:52", after := #[{ on := 4, ground := Go.Ground.guard }], guard := some (4, false) }) (v := .int .i64 0) [6, 7, 8, 9, 10, 11, 12, 13, 14, 15, 16, 17, 18, 19, 20, 21, 22, 23, 24, 25, 26, 27] rfl (by kernel_rfl) (by kernel_rfl) (by kernel_rfl) (by kernel_rfl) (fun _ _ _ h => h) (Or.inl ⟨by rfl, ?_⟩) hS0.out ?_
    · intro W9 hS9
      clear hS9
      go_simp
    try simp only [Act.put, List.setIfInBounds_toArray, List.set_cons_zero, List.set_cons_succ]
    refine wpAnyL_takeT (i := 6) (oi := { dst := some 39, op := Go.Op.binOp Go.BinOp.neq 31 (Go.Operand.tmp 38) (Go.Operand.const (Go.Value.int Go.IntKind.i64 0)) 31, type := 4, pos := "law.go:52", after := #[{ on := 5, ground := Go.Ground.data }, { on := 4, ground := Go.Ground.guard }], guard := some (4, false) }) (v := .bool false) [7, 8, 9, 10, 11, 12, 13, 14, 15, 16, 17, 18, 19, 20, 21, 22, 23, 24, 25, 26, 27] rfl (by kernel_rfl) (by kernel_rfl) (by kernel_rfl) (by kernel_rfl) (fun _ _ _ h => h) (Or.inl ⟨by rfl, ?_⟩) hS0.out ?_
    · intro W9 hS9
      clear hS9
      go_simp
    try simp only [Act.put, List.setIfInBounds_toArray, List.set_cons_zero, List.set_cons_succ]
    refine wpAnyL_takeT (i := 7) (oi := { dst := some 40, op := Go.Op.move (Go.Operand.tmp 39), type := 4, pos := "law.go:52", after := #[{ on := 6, ground := Go.Ground.data }, { on := 4, ground := Go.Ground.chain }, { on := 4, ground := Go.Ground.guard }], guard := some (4, false) }) (v := .bool false) [8, 9, 10, 11, 12, 13, 14, 15, 16, 17, 18, 19, 20, 21, 22, 23, 24, 25, 26, 27] rfl (by kernel_rfl) (by kernel_rfl) (by kernel_rfl) (by kernel_rfl) (fun _ _ _ h => h) (Or.inl ⟨by rfl, ?_⟩) hS0.out ?_
    · intro W9 hS9
      clear hS9
      go_simp
    try simp only [Act.put, List.setIfInBounds_toArray, List.set_cons_zero, List.set_cons_succ]
    refine wpAnyL_takeT (i := 8) (oi := { dst := some 41, op := Go.Op.move (Go.Operand.tmp 10), type := 31, pos := "law.go:52", after := #[{ on := 7, ground := Go.Ground.guard }], guard := some (7, true) }) (v := undef) [9, 10, 11, 12, 13, 14, 15, 16, 17, 18, 19, 20, 21, 22, 23, 24, 25, 26, 27] rfl (by kernel_rfl) (by kernel_rfl) (by kernel_rfl) (by kernel_rfl) (fun _ _ _ h => h) (Or.inr ⟨by rfl, rfl⟩) hS0.out ?_
    try simp only [Act.put, List.setIfInBounds_toArray, List.set_cons_zero, List.set_cons_succ]
    refine wpAnyL_takeT (i := 9) (oi := { dst := some 42, op := Go.Op.binOp Go.BinOp.neq 31 (Go.Operand.tmp 41) (Go.Operand.const (Go.Value.int Go.IntKind.i64 240)) 31, type := 4, pos := "law.go:52", after := #[{ on := 8, ground := Go.Ground.data }, { on := 7, ground := Go.Ground.guard }], guard := some (7, true) }) (v := undef) [10, 11, 12, 13, 14, 15, 16, 17, 18, 19, 20, 21, 22, 23, 24, 25, 26, 27] rfl (by kernel_rfl) (by kernel_rfl) (by kernel_rfl) (by kernel_rfl) (fun _ _ _ h => h) (Or.inr ⟨by rfl, rfl⟩) hS0.out ?_
    try simp only [Act.put, List.setIfInBounds_toArray, List.set_cons_zero, List.set_cons_succ]
    refine wpAnyL_takeT (i := 10) (oi := { dst := some 43, op := Go.Op.pick (Go.Operand.tmp 40) (Go.Operand.tmp 42) (Go.Operand.const (Go.Value.bool false)), type := 4, pos := "law.go:52", after := #[{ on := 7, ground := Go.Ground.data }, { on := 9, ground := Go.Ground.data }, { on := 4, ground := Go.Ground.guard }], guard := some (4, false) }) (v := .bool false) [11, 12, 13, 14, 15, 16, 17, 18, 19, 20, 21, 22, 23, 24, 25, 26, 27] rfl (by kernel_rfl) (by kernel_rfl) (by kernel_rfl) (by kernel_rfl) (fun _ _ _ h => h) (Or.inl ⟨by rfl, ?_⟩) hS0.out ?_
    · intro W9 hS9
      clear hS9
      go_simp
    try simp only [Act.put, List.setIfInBounds_toArray, List.set_cons_zero, List.set_cons_succ]
    refine wpAnyL_takeT (i := 11) (oi := { dst := some 44, op := Go.Op.pick (Go.Operand.tmp 37) (Go.Operand.const (Go.Value.bool true)) (Go.Operand.tmp 43), type := 4, pos := "law.go:52", after := #[{ on := 4, ground := Go.Ground.data }, { on := 10, ground := Go.Ground.data }], guard := none }) (v := .bool false) [12, 13, 14, 15, 16, 17, 18, 19, 20, 21, 22, 23, 24, 25, 26, 27] rfl (by kernel_rfl) (by kernel_rfl) (by kernel_rfl) (by kernel_rfl) (fun _ _ _ h => h) (Or.inl ⟨by rfl, ?_⟩) hS0.out ?_
    · intro W9 hS9
      clear hS9
      go_simp
    try simp only [Act.put, List.setIfInBounds_toArray, List.set_cons_zero, List.set_cons_succ]
    refine wpAnyL_takeT (i := 12) (oi := { dst := some 45, op := Go.Op.move (Go.Operand.tmp 44), type := 4, pos := "law.go:52", after := #[{ on := 11, ground := Go.Ground.data }, { on := 7, ground := Go.Ground.chain }], guard := none }) (v := .bool false) [13, 14, 15, 16, 17, 18, 19, 20, 21, 22, 23, 24, 25, 26, 27] rfl (by kernel_rfl) (by kernel_rfl) (by kernel_rfl) (by kernel_rfl) (fun _ _ _ h => h) (Or.inl ⟨by rfl, ?_⟩) hS0.out ?_
    · intro W9 hS9
      clear hS9
      go_simp
    try simp only [Act.put, List.setIfInBounds_toArray, List.set_cons_zero, List.set_cons_succ]
    refine wpAnyL_takeT (i := 13) (oi := { dst := some 46, op := Go.Op.load 26 (Go.Operand.tmp 7), type := 26, pos := "law.go:52", after := #[{ on := 12, ground := Go.Ground.guard }], guard := some (12, false) }) (v := .agg #[.int .u64 (E : Nat), .slice (sa.a 0) (sa.n 0) (sa.c 0), .slice (sa.a 1) (sa.n 1) (sa.c 1), .slice (sa.a 2) (sa.n 2) (sa.c 2)]) [15, 18, 19, 20, 21, 22, 23, 24, 25, 26, 27] rfl (by kernel_rfl) (by kernel_rfl) (by kernel_rfl) (by kernel_rfl) (fun _ _ _ h => h) (Or.inl ⟨by rfl, ?_⟩) hS0.out ?_
    · intro W9 hS9
      have c0 : W9.cell? ⟨b4, 0, none⟩ = some (.int .u64 (E : Nat)) := hS9.a4.cell 0
      have c1 : W9.cell? ⟨b4, 1, none⟩ = some (.slice (sa.a 0) (sa.n 0) (sa.c 0)) := hS9.a4.cell 1
      have c2 : W9.cell? ⟨b4, 2, none⟩ = some (.slice (sa.a 1) (sa.n 1) (sa.c 1)) := hS9.a4.cell 2
      have c3 : W9.cell? ⟨b4, 3, none⟩ = some (.slice (sa.a 2) (sa.n 2) (sa.c 2)) := hS9.a4.cell 3
      clear hS9
      go_simp
    try simp only [Act.put, List.setIfInBounds_toArray, List.set_cons_zero, List.set_cons_succ]
    refine wpAnyL_takeT (i := 14) (oi := { dst := some 47, op := Go.Op.load 26 (Go.Operand.tmp 8), type := 26, pos := "law.go:52", after := #[{ on := 12, ground := Go.Ground.guard }], guard := some (12, false) }) (v := .agg #[.int .u64 (F : Nat), .slice (sb.a 0) (sb.n 0) (sb.c 0), .slice (sb.a 1) (sb.n 1) (sb.c 1), .slice (sb.a 2) (sb.n 2) (sb.c 2)]) [15, 18, 19, 20, 21, 22, 23, 24, 25, 26, 27] rfl (by kernel_rfl) (by kernel_rfl) (by kernel_rfl) (by kernel_rfl) (fun _ _ _ h => h) (Or.inl ⟨by rfl, ?_⟩) hS0.out ?_
    · intro W9 hS9
      have c0 : W9.cell? ⟨b5, 0, none⟩ = some (.int .u64 (F : Nat)) := hS9.a5.cell 0
      have c1 : W9.cell? ⟨b5, 1, none⟩ = some (.slice (sb.a 0) (sb.n 0) (sb.c 0)) := hS9.a5.cell 1
      have c2 : W9.cell? ⟨b5, 2, none⟩ = some (.slice (sb.a 1) (sb.n 1) (sb.c 1)) := hS9.a5.cell 2
      have c3 : W9.cell? ⟨b5, 3, none⟩ = some (.slice (sb.a 2) (sb.n 2) (sb.c 2)) := hS9.a5.cell 3
      clear hS9
      go_simp
    try simp only [Act.put, List.setIfInBounds_toArray, List.set_cons_zero, List.set_cons_succ]
    refine wpAnyL_takeT (i := 16) (oi := { dst := some 49, op := Go.Op.load 26 (Go.Operand.tmp 7), type := 26, pos := "law.go:52", after := #[{ on := 12, ground := Go.Ground.guard }], guard := some (12, false) }) (v := .agg #[.int .u64 (E : Nat), .slice (sa.a 0) (sa.n 0) (sa.c 0), .slice (sa.a 1) (sa.n 1) (sa.c 1), .slice (sa.a 2) (sa.n 2) (sa.c 2)]) [18, 19, 20, 21, 22, 23, 24, 25, 26, 27] rfl (by kernel_rfl) (by kernel_rfl) (by kernel_rfl) (by kernel_rfl) (fun _ _ _ h => h) (Or.inl ⟨by rfl, ?_⟩) hS0.out ?_
    · intro W9 hS9
      have c0 : W9.cell? ⟨b4, 0, none⟩ = some (.int .u64 (E : Nat)) := hS9.a4.cell 0
      have c1 : W9.cell? ⟨b4, 1, none⟩ = some (.slice (sa.a 0) (sa.n 0) (sa.c 0)) := hS9.a4.cell 1
      have c2 : W9.cell? ⟨b4, 2, none⟩ = some (.slice (sa.a 1) (sa.n 1) (sa.c 1)) := hS9.a4.cell 2
      have c3 : W9.cell? ⟨b4, 3, none⟩ = some (.slice (sa.a 2) (sa.n 2) (sa.c 2)) := hS9.a4.cell 3
      clear hS9
      go_simp
    try simp only [Act.put, List.setIfInBounds_toArray, List.set_cons_zero, List.set_cons_succ]
    refine wpAnyL_takeT (i := 17) (oi := { dst := some 50, op := Go.Op.load 26 (Go.Operand.tmp 8), type := 26, pos := "law.go:52", after := #[{ on := 12, ground := Go.Ground.guard }], guard := some (12, false) }) (v := .agg #[.int .u64 (F : Nat), .slice (sb.a 0) (sb.n 0) (sb.c 0), .slice (sb.a 1) (sb.n 1) (sb.c 1), .slice (sb.a 2) (sb.n 2) (sb.c 2)]) [18, 19, 20, 21, 22, 23, 24, 25, 26, 27] rfl (by kernel_rfl) (by kernel_rfl) (by kernel_rfl) (by kernel_rfl) (fun _ _ _ h => h) (Or.inl ⟨by rfl, ?_⟩) hS0.out ?_
    · intro W9 hS9
      have c0 : W9.cell? ⟨b5, 0, none⟩ = some (.int .u64 (F : Nat)) := hS9.a5.cell 0
      have c1 : W9.cell? ⟨b5, 1, none⟩ = some (.slice (sb.a 0) (sb.n 0) (sb.c 0)) := hS9.a5.cell 1
      have c2 : W9.cell? ⟨b5, 2, none⟩ = some (.slice (sb.a 1) (sb.n 1) (sb.c 1)) := hS9.a5.cell 2
      have c3 : W9.cell? ⟨b5, 3, none⟩ = some (.slice (sb.a 2) (sb.n 2) (sb.c 2)) := hS9.a5.cell 3
      clear hS9
      go_simp
    try simp only [Act.put, List.setIfInBounds_toArray, List.set_cons_zero, List.set_cons_succ]
    obtain ⟨v9, hv9⟩ : ∃ v, v = sameB E (ownR r) F (ownR q) := ⟨_, rfl⟩
    have hvv : (v9 != v9) = false := by cases v9 <;> rfl
    refine wpAnyL_one (i := 15) (o := { dst := some 48, op := Go.Op.call { callee := Go.Callee.value (Go.Operand.func 11), args := #[Go.Operand.tmp 46, Go.Operand.tmp 47], argTypes := #[26, 26] }, type := 4, pos := "law.go:52", after := #[{ on := 13, ground := Go.Ground.data }, { on := 14, ground := Go.Ground.data }, { on := 12, ground := Go.Ground.chain }, { on := 12, ground := Go.Ground.guard }], guard := some (12, false) }) (by kernel_rfl) rfl (fun K hK => ?_)
    refine step_call_g (by rfl) 11 _ _ rfl (fun _ _ => by kernel_rfl) #[.agg #[.int .u64 (E : Nat), .slice (sa.a 0) (sa.n 0) (sa.c 0), .slice (sa.a 1) (sa.n 1) (sa.c 1), .slice (sa.a 2) (sa.n 2) (sa.c 2)], .agg #[.int .u64 (F : Nat), .slice (sb.a 0) (sb.n 0) (sb.c 0), .slice (sb.a 1) (sb.n 1) (sb.c 1), .slice (sb.a 2) (sb.n 2) (sb.c 2)]] (by simp [go_sem]) _ (Tryd.Same_any E F sa sb (ownR r) (ownR q) Wd hS0.out.ha hS0.out.hb (fun k hk => ⟨Nat.le_trans (own_n hS0.out.ha k hk) (by decide), Nat.le_trans (own_n hS0.out.hb k hk) (by decide)⟩)) ?_
    rintro e V1 ⟨rfl, hC⟩
    have hS0 := Lib.hid (hS0.out.below hC)
    rw [← hv9]
    clear hC
    refine ⟨_, rfl, ?_⟩
    refine hK.out _ _ (fun _ => hS0.out) ?_
    clear hK K
    try simp only [Act.put, List.setIfInBounds_toArray, List.set_cons_zero, List.set_cons_succ]
    refine wpAnyL_one (i := 18) (o := { dst := some 51, op := Go.Op.call { callee := Go.Callee.value (Go.Operand.func 12), args := #[Go.Operand.tmp 49, Go.Operand.tmp 50], argTypes := #[26, 26] }, type := 4, pos := "law.go:52", after := #[{ on := 16, ground := Go.Ground.data }, { on := 17, ground := Go.Ground.data }, { on := 15, ground := Go.Ground.chain }, { on := 12, ground := Go.Ground.guard }], guard := some (12, false) }) (by kernel_rfl) rfl (fun K hK => ?_)
    refine step_call_g (by rfl) 12 _ _ rfl (fun _ _ => by kernel_rfl) #[.agg #[.int .u64 (E : Nat), .slice (sa.a 0) (sa.n 0) (sa.c 0), .slice (sa.a 1) (sa.n 1) (sa.c 1), .slice (sa.a 2) (sa.n 2) (sa.c 2)], .agg #[.int .u64 (F : Nat), .slice (sb.a 0) (sb.n 0) (sb.c 0), .slice (sb.a 1) (sb.n 1) (sb.c 1), .slice (sb.a 2) (sb.n 2) (sb.c 2)]] (by simp [go_sem]) _ (Tryd.refSame_any E F sa sb (ownR r) (ownR q) V1 hS0.out.ha hS0.out.hb (fun k hk => ⟨Nat.le_trans (own_n hS0.out.ha k hk) (by decide), Nat.le_trans (own_n hS0.out.hb k hk) (by decide)⟩)) ?_
    rintro e V2 ⟨rfl, hC⟩
    have hS0 := Lib.hid (hS0.out.below hC)
    rw [← hv9]
    clear hC
    refine ⟨_, rfl, ?_⟩
    refine hK.out _ _ (fun _ => hS0.out) ?_
    clear hK K
    try simp only [Act.put, List.setIfInBounds_toArray, List.set_cons_zero, List.set_cons_succ]
    refine wpAnyL_takeT (i := 19) (oi := { dst := some 52, op := Go.Op.binOp Go.BinOp.neq 4 (Go.Operand.tmp 48) (Go.Operand.tmp 51) 4, type := 4, pos := "law.go:52", after := #[{ on := 15, ground := Go.Ground.data }, { on := 18, ground := Go.Ground.data }, { on := 12, ground := Go.Ground.guard }], guard := some (12, false) }) (v := .bool false) [20, 21, 22, 23, 24, 25, 26, 27] rfl (by kernel_rfl) (by kernel_rfl) (by kernel_rfl) (by kernel_rfl) (fun _ _ _ h => h) (Or.inl ⟨by rfl, ?_⟩) hS0.out ?_
    · intro W9 hS9
      clear hS9
      go_simp
    try simp only [Act.put, List.setIfInBounds_toArray, List.set_cons_zero, List.set_cons_succ]
    refine wpAnyL_takeT (i := 20) (oi := { dst := some 53, op := Go.Op.pick (Go.Operand.tmp 45) (Go.Operand.const (Go.Value.bool true)) (Go.Operand.tmp 52), type := 4, pos := "law.go:52", after := #[{ on := 12, ground := Go.Ground.data }, { on := 19, ground := Go.Ground.data }], guard := none }) (v := .bool false) [21, 22, 23, 24, 25, 26, 27] rfl (by kernel_rfl) (by kernel_rfl) (by kernel_rfl) (by kernel_rfl) (fun _ _ _ h => h) (Or.inl ⟨by rfl, ?_⟩) hS0.out ?_
    · intro W9 hS9
      clear hS9
      go_simp
    try simp only [Act.put, List.setIfInBounds_toArray, List.set_cons_zero, List.set_cons_succ]
    refine wpAnyL_takeT (i := 21) (oi := { dst := some 54, op := Go.Op.move (Go.Operand.tmp 53), type := 4, pos := "law.go:52", after := #[{ on := 20, ground := Go.Ground.data }, { on := 18, ground := Go.Ground.chain }], guard := none }) (v := .bool false) [22, 23, 24, 25, 26, 27] rfl (by kernel_rfl) (by kernel_rfl) (by kernel_rfl) (by kernel_rfl) (fun _ _ _ h => h) (Or.inl ⟨by rfl, ?_⟩) hS0.out ?_
    · intro W9 hS9
      clear hS9
      go_simp
    try simp only [Act.put, List.setIfInBounds_toArray, List.set_cons_zero, List.set_cons_succ]
    refine wpAnyL_takeT (i := 22) (oi := { dst := some 55, op := Go.Op.load 26 (Go.Operand.tmp 7), type := 26, pos := "law.go:52", after := #[{ on := 21, ground := Go.Ground.guard }], guard := some (21, false) }) (v := .agg #[.int .u64 (E : Nat), .slice (sa.a 0) (sa.n 0) (sa.c 0), .slice (sa.a 1) (sa.n 1) (sa.c 1), .slice (sa.a 2) (sa.n 2) (sa.c 2)]) [25, 26, 27] rfl (by kernel_rfl) (by kernel_rfl) (by kernel_rfl) (by kernel_rfl) (fun _ _ _ h => h) (Or.inl ⟨by rfl, ?_⟩) hS0.out ?_
    · intro W9 hS9
      have c0 : W9.cell? ⟨b4, 0, none⟩ = some (.int .u64 (E : Nat)) := hS9.a4.cell 0
      have c1 : W9.cell? ⟨b4, 1, none⟩ = some (.slice (sa.a 0) (sa.n 0) (sa.c 0)) := hS9.a4.cell 1
      have c2 : W9.cell? ⟨b4, 2, none⟩ = some (.slice (sa.a 1) (sa.n 1) (sa.c 1)) := hS9.a4.cell 2
      have c3 : W9.cell? ⟨b4, 3, none⟩ = some (.slice (sa.a 2) (sa.n 2) (sa.c 2)) := hS9.a4.cell 3
      clear hS9
      go_simp
    try simp only [Act.put, List.setIfInBounds_toArray, List.set_cons_zero, List.set_cons_succ]
    refine wpAnyL_takeT (i := 23) (oi := { dst := some 56, op := Go.Op.load 26 (Go.Operand.tmp 3), type := 26, pos := "law.go:52", after := #[{ on := 21, ground := Go.Ground.guard }], guard := some (21, false) }) (v := .agg #[.int .u64 (E : Nat), .slice (s.a 0) (s.n 0) (s.c 0), .slice (s.a 1) (s.n 1) (s.c 1), .slice (s.a 2) (s.n 2) (s.c 2)]) [24, 25, 26, 27] rfl (by kernel_rfl) (by kernel_rfl) (by kernel_rfl) (by kernel_rfl) (fun _ _ _ h => h) (Or.inl ⟨by rfl, ?_⟩) hS0.out ?_
    · intro W9 hS9
      have c0 : W9.cell? ⟨b1, 0, none⟩ = some (.int .u64 (E : Nat)) := hS9.k1.cell 0
      have c1 : W9.cell? ⟨b1, 1, none⟩ = some (.slice (s.a 0) (s.n 0) (s.c 0)) := hS9.k1.cell 1
      have c2 : W9.cell? ⟨b1, 2, none⟩ = some (.slice (s.a 1) (s.n 1) (s.c 1)) := hS9.k1.cell 2
      have c3 : W9.cell? ⟨b1, 3, none⟩ = some (.slice (s.a 2) (s.n 2) (s.c 2)) := hS9.k1.cell 3
      clear hS9
      go_simp
    try simp only [Act.put, List.setIfInBounds_toArray, List.set_cons_zero, List.set_cons_succ]
    refine wpAnyL_one (i := 24) (o := { dst := some 57, op := Go.Op.call { callee := Go.Callee.value (Go.Operand.func 8), args := #[Go.Operand.tmp 56], argTypes := #[26] }, type := 26, pos := "law.go:52", after := #[{ on := 23, ground := Go.Ground.data }, { on := 21, ground := Go.Ground.chain }, { on := 21, ground := Go.Ground.guard }], guard := some (21, false) }) (by kernel_rfl) rfl (fun K hK => ?_)
    refine step_call_g (by rfl) 8 _ _ rfl (fun _ _ => by kernel_rfl) #[.agg #[.int .u64 (E : Nat), .slice (s.a 0) (s.n 0) (s.c 0), .slice (s.a 1) (s.n 1) (s.c 1), .slice (s.a 2) (s.n 2) (s.c 2)]] (by simp [go_sem]) _ (Tryd.own_any E s r V2 hS0.out.hx) ?_
    rintro e V3 ⟨s7, rfl, hO, hC⟩
    have hS0 := Lib.hid (hS0.out.below hC)
    have HO7 := Lib.hid hO
    clear hO
    clear hC
    refine ⟨_, rfl, ?_⟩
    refine hK.out _ _ (fun _ => hS0.out) ?_
    clear hK K
    try simp only [Act.put, List.setIfInBounds_toArray, List.set_cons_zero, List.set_cons_succ]
    refine wpAnyL_one (i := 25) (o := { dst := some 58, op := Go.Op.call { callee := Go.Callee.value (Go.Operand.func 11), args := #[Go.Operand.tmp 55, Go.Operand.tmp 57], argTypes := #[26, 26] }, type := 4, pos := "law.go:52", after := #[{ on := 22, ground := Go.Ground.data }, { on := 24, ground := Go.Ground.data }, { on := 24, ground := Go.Ground.chain }, { on := 21, ground := Go.Ground.guard }], guard := some (21, false) }) (by kernel_rfl) rfl (fun K hK => ?_)
    refine step_call_g (by rfl) 11 _ _ rfl (fun _ _ => by kernel_rfl) #[.agg #[.int .u64 (E : Nat), .slice (sa.a 0) (sa.n 0) (sa.c 0), .slice (sa.a 1) (sa.n 1) (sa.c 1), .slice (sa.a 2) (sa.n 2) (sa.c 2)], .agg #[.int .u64 (E : Nat), .slice (s7.a 0) (s7.n 0) (s7.c 0), .slice (s7.a 1) (s7.n 1) (s7.c 1), .slice (s7.a 2) (s7.n 2) (s7.c 2)]] (by simp [go_sem]) _ (Tryd.Same_any E E sa s7 (ownR r) (ownR r) V3 hS0.out.ha HO7.out.at (fun k hk => ⟨Nat.le_trans (own_n hS0.out.ha k hk) (by decide), Nat.le_trans (own_n HO7.out.at k hk) (by decide)⟩)) ?_
    rintro e V4 ⟨rfl, hC⟩
    have hS0 := Lib.hid (hS0.out.below hC)
    rw [show sameB E (ownR r) E (ownR r) = true from sameB_iff.2 ⟨rfl, rfl, rfl, rfl⟩]
    clear hC
    refine ⟨_, rfl, ?_⟩
    refine hK.out _ _ (fun _ => hS0.out) ?_
    clear hK K
    try simp only [Act.put, List.setIfInBounds_toArray, List.set_cons_zero, List.set_cons_succ]
    refine wpAnyL_one (i := 26) (o := { dst := some 59, op := Go.Op.unOp Go.UnOp.not 4 (Go.Operand.tmp 58), type := 4, pos := "law.go:52", after := #[{ on := 25, ground := Go.Ground.data }, { on := 21, ground := Go.Ground.guard }], guard := some (21, false) }) (by kernel_rfl) rfl (fun K hK => ?_)
    refine step_value_g (by rfl) (.bool false) (w' := V4) (by go_simp) ?_
    refine hK.out _ _ (fun _ => hS0.out) ?_
    clear hK K
    try simp only [Act.put, List.setIfInBounds_toArray, List.set_cons_zero, List.set_cons_succ]
    refine wpAnyL_one (i := 27) (o := { dst := some 60, op := Go.Op.pick (Go.Operand.tmp 54) (Go.Operand.const (Go.Value.bool true)) (Go.Operand.tmp 59), type := 4, pos := "law.go:52", after := #[{ on := 21, ground := Go.Ground.data }, { on := 26, ground := Go.Ground.data }], guard := none }) (by kernel_rfl) rfl (fun K hK => ?_)
    refine step_value_g (by rfl) (.bool false) (w' := V4) (by go_simp) ?_
    refine hK.out _ _ (fun _ => hS0.out) ?_
    clear hK K
    try simp only [Act.put, List.setIfInBounds_toArray, List.set_cons_zero, List.set_cons_succ]
    refine wpAnyL_end (by kernel_rfl) ?_
    clear hvv hv9 HO7
    go_upto_region 10 with fail
    refine wp_region_L (fun W' => TlI w b1 b4 b5 E F s sa sb r q W') 6 (by kernel_rfl) ?_
    have hS1 : Hid (TlI w b1 b4 b5 E F s sa sb r q V4.drew) := Lib.hid hS0.out.drew
    clear hS0
    have hS0 := hS1
    clear hS1
    generalize V4.drew = U0 at *
    obtain ⟨ar, nr, cr, hof⟩ := ofV_form E 2 sa
    have hl : ∀ k, k < 3 → (ownR r k).length ≤ 1000 := fun k hk => Nat.le_trans (ownR_len r k hk) (by decide)
    have HOf := Tryd.refOf_any E sa 2 U0 HE.out (by decide)
    rw [hof] at HOf
    refine wpAnyL_takeT (i := 0) (oi := { dst := some 62, op := Go.Op.load 26 (Go.Operand.tmp 7), type := 26, pos := "law.go:57", after := #[], guard := none }) (v := .agg #[.int .u64 (E : Nat), .slice (sa.a 0) (sa.n 0) (sa.c 0), .slice (sa.a 1) (sa.n 1) (sa.c 1), .slice (sa.a 2) (sa.n 2) (sa.c 2)]) [1, 3, 4, 5] rfl (by kernel_rfl) (by kernel_rfl) (by kernel_rfl) (by kernel_rfl) (fun _ _ _ h => h) (Or.inl ⟨by rfl, ?_⟩) hS0.out ?_
    · intro W9 hS9
      have c0 : W9.cell? ⟨b4, 0, none⟩ = some (.int .u64 (E : Nat)) := hS9.a4.cell 0
      have c1 : W9.cell? ⟨b4, 1, none⟩ = some (.slice (sa.a 0) (sa.n 0) (sa.c 0)) := hS9.a4.cell 1
      have c2 : W9.cell? ⟨b4, 2, none⟩ = some (.slice (sa.a 1) (sa.n 1) (sa.c 1)) := hS9.a4.cell 2
      have c3 : W9.cell? ⟨b4, 3, none⟩ = some (.slice (sa.a 2) (sa.n 2) (sa.c 2)) := hS9.a4.cell 3
      clear hS9
      go_simp
    try simp only [Act.put, List.setIfInBounds_toArray, List.set_cons_zero, List.set_cons_succ]
    refine wpAnyL_takeT (i := 2) (oi := { dst := some 64, op := Go.Op.load 26 (Go.Operand.tmp 7), type := 26, pos := "law.go:57", after := #[], guard := none }) (v := .agg #[.int .u64 (E : Nat), .slice (sa.a 0) (sa.n 0) (sa.c 0), .slice (sa.a 1) (sa.n 1) (sa.c 1), .slice (sa.a 2) (sa.n 2) (sa.c 2)]) [3, 4, 5] rfl (by kernel_rfl) (by kernel_rfl) (by kernel_rfl) (by kernel_rfl) (fun _ _ _ h => h) (Or.inl ⟨by rfl, ?_⟩) hS0.out ?_
    · intro W9 hS9
      have c0 : W9.cell? ⟨b4, 0, none⟩ = some (.int .u64 (E : Nat)) := hS9.a4.cell 0
      have c1 : W9.cell? ⟨b4, 1, none⟩ = some (.slice (sa.a 0) (sa.n 0) (sa.c 0)) := hS9.a4.cell 1
      have c2 : W9.cell? ⟨b4, 2, none⟩ = some (.slice (sa.a 1) (sa.n 1) (sa.c 1)) := hS9.a4.cell 2
      have c3 : W9.cell? ⟨b4, 3, none⟩ = some (.slice (sa.a 2) (sa.n 2) (sa.c 2)) := hS9.a4.cell 3
      clear hS9
      go_simp
    try simp only [Act.put, List.setIfInBounds_toArray, List.set_cons_zero, List.set_cons_succ]
    refine wpAnyL_one (i := 1) (o := { dst := some 63, op := Go.Op.call { callee := Go.Callee.value (Go.Operand.func 13), args := #[Go.Operand.tmp 62, Go.Operand.const (Go.Value.int Go.IntKind.u64 2)], argTypes := #[26, 22] }, type := 23, pos := "law.go:57", after := #[{ on := 0, ground := Go.Ground.data }], guard := none }) (by kernel_rfl) rfl (fun K hK => ?_)
    refine step_call_g (by rfl) 13 _ _ rfl (fun _ _ => by kernel_rfl) #[.agg #[.int .u64 (E : Nat), .slice (sa.a 0) (sa.n 0) (sa.c 0), .slice (sa.a 1) (sa.n 1) (sa.c 1), .slice (sa.a 2) (sa.n 2) (sa.c 2)], .int .u64 2] (by simp [go_sem]) _ (show Calls Tryd.prog 13 #[.agg #[.int .u64 (E : Nat), .slice (sa.a 0) (sa.n 0) (sa.c 0), .slice (sa.a 1) (sa.n 1) (sa.c 1), .slice (sa.a 2) (sa.n 2) (sa.c 2)], .int .u64 2] U0 _ from HOf) ?_
    rintro e U1 ⟨rfl, hC⟩
    have hS0 := Lib.hid (hS0.out.below hC)
    clear HOf
    clear hC
    refine ⟨_, rfl, ?_⟩
    refine hK.out _ _ (fun _ => hS0.out) ?_
    clear hK K
    try simp only [Act.put, List.setIfInBounds_toArray, List.set_cons_zero, List.set_cons_succ]
    refine wpAnyL_one (i := 3) (o := { dst := some 65, op := Go.Op.call { callee := Go.Callee.value (Go.Operand.func 14), args := #[Go.Operand.tmp 64], argTypes := #[26] }, type := 23, pos := "law.go:57", after := #[{ on := 2, ground := Go.Ground.data }, { on := 1, ground := Go.Ground.chain }], guard := none }) (by kernel_rfl) rfl (fun K hK => ?_)
    refine step_call_g (by rfl) 14 _ _ rfl (fun _ _ => by kernel_rfl) #[.agg #[.int .u64 (E : Nat), .slice (sa.a 0) (sa.n 0) (sa.c 0), .slice (sa.a 1) (sa.n 1) (sa.c 1), .slice (sa.a 2) (sa.n 2) (sa.c 2)]] (by simp [go_sem]) _ (Tryd.refHeld_any E sa (ownR r) U1 hS0.out.ha HE.out hl) ?_
    rintro e U2 ⟨vh, rfl, hvh, hC⟩
    have hS0 := Lib.hid (hS0.out.below hC)
    obtain ⟨ah, ch, rfl⟩ := hvh.form
    have VH := Lib.hid (OwnsP.at hvh)
    clear hvh
    clear hC
    refine ⟨_, rfl, ?_⟩
    refine hK.out _ _ (fun _ => hS0.out) ?_
    clear hK K
    try simp only [Act.put, List.setIfInBounds_toArray, List.set_cons_zero, List.set_cons_succ]
    refine wpAnyL_one (i := 4) (o := { dst := some 11, op := Go.Op.assign (Go.Operand.tmp 63), type := 23, pos := "law.go:57", after := #[{ on := 1, ground := Go.Ground.data }, { on := 3, ground := Go.Ground.chain }, { on := 0, ground := Go.Ground.phase }, { on := 1, ground := Go.Ground.phase }, { on := 2, ground := Go.Ground.textOnly Go.Departure.lateStores }, { on := 3, ground := Go.Ground.textOnly Go.Departure.lateStoresUnsure }], guard := none }) (by kernel_rfl) rfl (fun K hK => ?_)
    refine step_value_g (by rfl) (.slice ar nr cr) (w' := U2) (by go_simp) ?_
    refine hK.out _ _ (fun _ => hS0.out) ?_
    clear hK K
    try simp only [Act.put, List.setIfInBounds_toArray, List.set_cons_zero, List.set_cons_succ]
    refine wpAnyL_one (i := 5) (o := { dst := some 12, op := Go.Op.assign (Go.Operand.tmp 65), type := 23, pos := "law.go:57", after := #[{ on := 3, ground := Go.Ground.data }, { on := 4, ground := Go.Ground.chain }, { on := 0, ground := Go.Ground.phase }, { on := 1, ground := Go.Ground.phase }, { on := 2, ground := Go.Ground.phase }, { on := 3, ground := Go.Ground.phase }, { on := 4, ground := Go.Ground.phase }], guard := none }) (by kernel_rfl) rfl (fun K hK => ?_)
    refine step_value_g (by rfl) (.slice ah (heldL E (ownR r)).length ch) (w' := U2) (by go_simp) ?_
    refine hK.out _ _ (fun _ => hS0.out) ?_
    clear hK K
    try simp only [Act.put, List.setIfInBounds_toArray, List.set_cons_zero, List.set_cons_succ]
    refine wpAnyL_end (by kernel_rfl) ?_
    obtain ⟨Lr, hLr0⟩ : ∃ L, L = readyL E (ownR r) := ⟨_, rfl⟩
    obtain ⟨Lh, hLh0⟩ : ∃ L, L = heldL E (ownR r) := ⟨_, rfl⟩
    have VO : Hid (PAt U2 (.slice ar nr cr) Lr) := Lib.hid (by rw [hLr0]; have h9 := ofV_at hS0.out.ha E 2; rw [hof, of_ready HR.out] at h9; exact h9)
    have hLr : Hid ((if rightL E (ownR r) then readyL E (ownR r) else []) = Lr) := Lib.hid (by rw [HR.out, hLr0]; rfl)
    have hLh : Hid ((if rightL E (ownR r) then heldL E (ownR r) else []) = Lh) := Lib.hid (by rw [HR.out, hLh0]; rfl)
    have hLn : Hid (Lr.length ≤ 128 ∧ Lh.length ≤ 128) := Lib.hid ⟨by rw [hLr0]; exact Nat.le_trans (ownR_len r _ (Nat.mod_lt _ (by decide))) (by decide), by rw [hLh0]; exact ends_len HR.out⟩
    rw [← hLh0] at VH
    rw [← hLh0]
    clear hof hl hLr0 hLh0
    obtain ⟨nh, hnh⟩ : ∃ m, m = Lh.length := ⟨_, rfl⟩
    rw [← hnh] at VH
    rw [← hnh]
    clear hnh
    go_upto_region 11 with fail
    refine wp_region_L (fun W' => TlI w b1 b4 b5 E F s sa sb r q W') 6 (by kernel_rfl) ?_
    have hS1 : Hid (TlI w b1 b4 b5 E F s sa sb r q U2.drew) := Lib.hid hS0.out.drew
    have VO1 : Hid (PAt U2.drew (.slice ar nr cr) Lr) := Lib.hid VO.out
    have VH1 : Hid (PAt U2.drew (.slice ah nh ch) Lh) := Lib.hid VH.out
    clear hS0 VO VH
    have hS0 := hS1
    generalize U2.drew = Wb at *
    have HBb : Hid (Below Wb.heap.size Wb Wb) := Lib.hid (Below.refl _ _)
    refine wpAnyL_takeT (i := 0) (oi := { dst := some 66, op := Go.Op.load 26 (Go.Operand.tmp 7), type := 26, pos := "law.go:59", after := #[], guard := none }) (v := .agg #[.int .u64 (E : Nat), .slice (sa.a 0) (sa.n 0) (sa.c 0), .slice (sa.a 1) (sa.n 1) (sa.c 1), .slice (sa.a 2) (sa.n 2) (sa.c 2)]) [1, 3, 4, 5] rfl (by kernel_rfl) (by kernel_rfl) (by kernel_rfl) (by kernel_rfl) (fun _ _ _ h => h) (Or.inl ⟨by rfl, ?_⟩) hS0.out ?_
    · intro W9 hS9
      have c0 : W9.cell? ⟨b4, 0, none⟩ = some (.int .u64 (E : Nat)) := hS9.a4.cell 0
      have c1 : W9.cell? ⟨b4, 1, none⟩ = some (.slice (sa.a 0) (sa.n 0) (sa.c 0)) := hS9.a4.cell 1
      have c2 : W9.cell? ⟨b4, 2, none⟩ = some (.slice (sa.a 1) (sa.n 1) (sa.c 1)) := hS9.a4.cell 2
      have c3 : W9.cell? ⟨b4, 3, none⟩ = some (.slice (sa.a 2) (sa.n 2) (sa.c 2)) := hS9.a4.cell 3
      clear hS9
      go_simp
    try simp only [Act.put, List.setIfInBounds_toArray, List.set_cons_zero, List.set_cons_succ]
    refine wpAnyL_takeT (i := 2) (oi := { dst := some 68, op := Go.Op.load 26 (Go.Operand.tmp 7), type := 26, pos := "law.go:59", after := #[], guard := none }) (v := .agg #[.int .u64 (E : Nat), .slice (sa.a 0) (sa.n 0) (sa.c 0), .slice (sa.a 1) (sa.n 1) (sa.c 1), .slice (sa.a 2) (sa.n 2) (sa.c 2)]) [3, 4, 5] rfl (by kernel_rfl) (by kernel_rfl) (by kernel_rfl) (by kernel_rfl) (fun _ _ _ h => h) (Or.inl ⟨by rfl, ?_⟩) hS0.out ?_
    · intro W9 hS9
      have c0 : W9.cell? ⟨b4, 0, none⟩ = some (.int .u64 (E : Nat)) := hS9.a4.cell 0
      have c1 : W9.cell? ⟨b4, 1, none⟩ = some (.slice (sa.a 0) (sa.n 0) (sa.c 0)) := hS9.a4.cell 1
      have c2 : W9.cell? ⟨b4, 2, none⟩ = some (.slice (sa.a 1) (sa.n 1) (sa.c 1)) := hS9.a4.cell 2
      have c3 : W9.cell? ⟨b4, 3, none⟩ = some (.slice (sa.a 2) (sa.n 2) (sa.c 2)) := hS9.a4.cell 3
      clear hS9
      go_simp
    try simp only [Act.put, List.setIfInBounds_toArray, List.set_cons_zero, List.set_cons_succ]
    have HRd := Tryd.Ready_any E sa (ownR r) Wb hS0.out.ha HE.out
    rw [hLr.out] at HRd
    refine wpAnyL_one (i := 1) (o := { dst := some 67, op := Go.Op.call { callee := Go.Callee.value (Go.Operand.func 15), args := #[Go.Operand.tmp 66], argTypes := #[26] }, type := 23, pos := "law.go:59", after := #[{ on := 0, ground := Go.Ground.data }], guard := none }) (by kernel_rfl) rfl (fun K hK => ?_)
    refine step_call_g (by rfl) 15 _ _ rfl (fun _ _ => by kernel_rfl) #[.agg #[.int .u64 (E : Nat), .slice (sa.a 0) (sa.n 0) (sa.c 0), .slice (sa.a 1) (sa.n 1) (sa.c 1), .slice (sa.a 2) (sa.n 2) (sa.c 2)]] (by simp [go_sem]) _ (HRd) ?_
    rintro e U3 ⟨vg, rfl, hvg, hC⟩
    have hS0 := Lib.hid (hS0.out.below hC)
    obtain ⟨ag, cg, rfl⟩ := hvg.form
    have HBb := Lib.hid (HBb.out.trans (hC.mono HBb.out.size))
    have HG := Lib.hid hvg
    have HGL := Lib.hid (fun j (ej : (Value.slice ag Lr.length cg).ownBlock = some j) => (World.ownsRow.lt hvg j ej).2)
    have HN3 := Lib.hid hC.size
    clear hvg HRd
    clear hC
    refine ⟨_, rfl, ?_⟩
    refine hK.out _ _ (fun _ => hS0.out) ?_
    clear hK K
    try simp only [Act.put, List.setIfInBounds_toArray, List.set_cons_zero, List.set_cons_succ]
    have HHd := Tryd.Held_any E sa (ownR r) U3 hS0.out.ha HE.out
    rw [hLh.out] at HHd
    refine wpAnyL_one (i := 3) (o := { dst := some 69, op := Go.Op.call { callee := Go.Callee.value (Go.Operand.func 16), args := #[Go.Operand.tmp 68], argTypes := #[26] }, type := 23, pos := "law.go:59", after := #[{ on := 2, ground := Go.Ground.data }, { on := 1, ground := Go.Ground.chain }], guard := none }) (by kernel_rfl) rfl (fun K hK => ?_)
    refine step_call_g (by rfl) 16 _ _ rfl (fun _ _ => by kernel_rfl) #[.agg #[.int .u64 (E : Nat), .slice (sa.a 0) (sa.n 0) (sa.c 0), .slice (sa.a 1) (sa.n 1) (sa.c 1), .slice (sa.a 2) (sa.n 2) (sa.c 2)]] (by simp [go_sem]) _ (HHd) ?_
    rintro e U4 ⟨va, rfl, hva, hC⟩
    have hS0 := Lib.hid (hS0.out.below hC)
    obtain ⟨aa, ca, rfl⟩ := hva.form
    have HBb := Lib.hid (HBb.out.trans (hC.mono HBb.out.size))
    have HG := Lib.hid (HG.out.below hC (Nat.le_refl _))
    have HA := Lib.hid hva
    clear hva HHd
    clear hC
    refine ⟨_, rfl, ?_⟩
    refine hK.out _ _ (fun _ => hS0.out) ?_
    clear hK K
    try simp only [Act.put, List.setIfInBounds_toArray, List.set_cons_zero, List.set_cons_succ]
    refine wpAnyL_one (i := 4) (o := { dst := some 13, op := Go.Op.assign (Go.Operand.tmp 67), type := 23, pos := "law.go:59", after := #[{ on := 1, ground := Go.Ground.data }, { on := 3, ground := Go.Ground.chain }, { on := 0, ground := Go.Ground.phase }, { on := 1, ground := Go.Ground.phase }, { on := 2, ground := Go.Ground.textOnly Go.Departure.lateStores }, { on := 3, ground := Go.Ground.textOnly Go.Departure.lateStoresUnsure }], guard := none }) (by kernel_rfl) rfl (fun K hK => ?_)
    refine step_value_g (by rfl) (.slice ag Lr.length cg) (w' := U4) (by go_simp) ?_
    refine hK.out _ _ (fun _ => hS0.out) ?_
    clear hK K
    try simp only [Act.put, List.setIfInBounds_toArray, List.set_cons_zero, List.set_cons_succ]
    refine wpAnyL_one (i := 5) (o := { dst := some 14, op := Go.Op.assign (Go.Operand.tmp 69), type := 23, pos := "law.go:59", after := #[{ on := 3, ground := Go.Ground.data }, { on := 4, ground := Go.Ground.chain }, { on := 0, ground := Go.Ground.phase }, { on := 1, ground := Go.Ground.phase }, { on := 2, ground := Go.Ground.phase }, { on := 3, ground := Go.Ground.phase }, { on := 4, ground := Go.Ground.phase }], guard := none }) (by kernel_rfl) rfl (fun K hK => ?_)
    refine step_value_g (by rfl) (.slice aa Lh.length ca) (w' := U4) (by go_simp) ?_
    refine hK.out _ _ (fun _ => hS0.out) ?_
    clear hK K
    try simp only [Act.put, List.setIfInBounds_toArray, List.set_cons_zero, List.set_cons_succ]
    refine wpAnyL_end (by kernel_rfl) ?_
    obtain ⟨ng, hng⟩ : ∃ m, m = Lr.length := ⟨_, rfl⟩
    obtain ⟨na, hna⟩ : ∃ m, m = Lh.length := ⟨_, rfl⟩
    rw [← hng] at HG HGL ⊢
    rw [← hna] at HA ⊢
    have HQ1 := Lib.hid (Tryd.equalEntry_any ag ar ng nr cg cr Lr Lr U4 (OwnsP.at HG.out) (VO1.out.below HBb.out) (by have := hLn.out.1; omega) (by have := hLn.out.1; have := (pAt_len VO1.out).1; omega))
    rw [decide_eq_true (rfl : Lr = Lr)] at HQ1
    have HNG := Lib.hid hng
    have HNA := Lib.hid hna
    clear hng hna hS0
    go_wp2_with fail
    refine HQ1.out.mono ?_
    rintro e U5 ⟨rfl, hC⟩
    have HBb := Lib.hid (HBb.out.trans (hC.mono HBb.out.size))
    have HG := Lib.hid (HG.out.below hC (Nat.le_refl _))
    have HA := Lib.hid (HA.out.below hC (Nat.le_refl _))
    have HQ2 := Lib.hid (Tryd.equalEntry_any aa ah na nh ca ch Lh Lh U5 (OwnsP.at HA.out) (VH1.out.below HBb.out) (by have := hLn.out.2; have := HNA.out; omega) (by have := hLn.out.2; have := (pAt_len VH1.out).1; omega))
    rw [decide_eq_true (rfl : Lh = Lh)] at HQ2
    clear hC HQ1
    go_wp2_with fail
    refine HQ2.out.mono ?_
    rintro e U6 ⟨rfl, hC⟩
    have HBb := Lib.hid (HBb.out.trans (hC.mono HBb.out.size))
    have HG := Lib.hid (HG.out.below hC (Nat.le_refl _))
    have HA := Lib.hid (HA.out.below hC (Nat.le_refl _))
    have hg128 : ng ≤ 128 := by rw [HNG.out]; exact hLn.out.1
    have ha128 : na ≤ 128 := by rw [HNA.out]; exact hLn.out.2
    have HG' : Hid (∃ l : List Pr, l.length = ng ∧ OwnsP tE Wb.heap.size l (.slice ag ng cg) U6) := Lib.hid ⟨_, HNG.out.symm, HG.out⟩
    have HA' : Hid (∃ l : List Pr, l.length = na ∧ OwnsP tE U3.heap.size l (.slice aa na ca) U6) := Lib.hid ⟨_, HNA.out.symm, HA.out⟩
    clear hC HQ2 HG HA HNG HNA VO1 VH1 hLn hLr hLh
    go_wp2_with fail
    go_loopw [82] (fun j wr => ∃ k : Nat, k ≤ ng ∧ j = .int .i64 k ∧ Hid (∃ l : List Pr, l.length = ng ∧ OwnsP tE Wb.heap.size l (.slice ag ng cg) wr) ∧ Hid (∃ l : List Pr, l.length = na ∧ OwnsP tE U3.heap.size l (.slice aa na ca) wr) ∧ Hid (Below Wb.heap.size Wb wr)) (fun j _ => ng - (intOf j).toNat)
    case atStart => exact ⟨0, Nat.zero_le _, rfl, HG', HA', HBb⟩
    case round =>
      clear HG' HA' HBb
      obtain ⟨k, hk, rfl, hG, hA, hB⟩ := hrel
      by_cases hlt : k < ng
      · obtain ⟨l, hl, hO⟩ := hG.out
        have hkl : k < l.length := by omega
        have hki : (k : Int) < (ng : Int) := by omega
        have hki0 : (0 : Int) ≤ (k : Int) := by omega
        obtain ⟨g, cs, rfl, hg0, hn9, hR9, z0, z1⟩ := hO.block k hkl
        have f9 := hR9.frozen (k * 2 + 1)
        have l9 := hR9.lt
        obtain ⟨x, hx⟩ : ∃ x, x = (l[k]).2 := ⟨_, rfl⟩
        rw [← hx] at z1
        obtain ⟨y, hy⟩ : ∃ y, y = (x + 1) % 18446744073709551616 := ⟨_, rfl⟩
        have hw : IntKind.u64.wrap (((x : Nat) : Int) + 1) = ((y : Nat) : Int) := by rw [IntKind.wrap_u64]; omega
        have HG2 : Hid (∃ l : List Pr, l.length = ng ∧ OwnsP tE Wb.heap.size l (.slice (some ⟨g, 0, none⟩) ng cg) (wr.setCell ⟨g, k * 2 + 1, none⟩ (.int .u64 (y : Nat)))) := Lib.hid ⟨_, by rw [List.length_set]; exact hl, hO.set1 hn9 k hkl y⟩
        have HA2 : Hid (∃ l : List Pr, l.length = na ∧ OwnsP tE U3.heap.size l (.slice aa na ca) (wr.setCell ⟨g, k * 2 + 1, none⟩ (.int .u64 (y : Nat)))) := Lib.hid (by obtain ⟨l2, h1, h2⟩ := hA.out; exact ⟨l2, h1, own_low h2 (HGL.out g rfl) _ _⟩)
        have HB2 := Lib.hid (hB.out.setCell (p := ⟨g, k * 2 + 1, none⟩) hg0 (.int .u64 (y : Nat)))
        clear hG hA hB hl hO hx hy hR9 hn9
        go_wp2_with fail
        exact ⟨⟨k + 1, by omega, by go_num, HG2, HA2, HB2⟩, by simp [intOf]; omega⟩
      · obtain rfl : k = ng := by omega
        have hki : ¬ (k : Int) < (k : Int) := by omega
        have HA' := hA
        have HBb := hB
        clear hG hA hB HGL
        go_wp2_with fail
        go_loopw [96] (fun j wr => ∃ k : Nat, k ≤ na ∧ j = .int .i64 k ∧ Hid (∃ l : List Pr, l.length = na ∧ OwnsP tE U3.heap.size l (.slice aa na ca) wr) ∧ Hid (Below Wb.heap.size Wb wr)) (fun j _ => na - (intOf j).toNat)
        case atStart => exact ⟨0, Nat.zero_le _, rfl, HA', HBb⟩
        case round =>
          clear HA' HBb
          obtain ⟨i, hi, rfl, hA, hB⟩ := hrel
          by_cases hlt2 : i < na
          · obtain ⟨l, hl, hO⟩ := hA.out
            have hkl : i < l.length := by omega
            have hki2 : (i : Int) < (na : Int) := by omega
            have hki0 : (0 : Int) ≤ (i : Int) := by omega
            obtain ⟨g, cs, rfl, hg0, hn9, hR9, z0, z1⟩ := hO.block i hkl
            have f9 := hR9.frozen (i * 2 + 1)
            have l9 := hR9.lt
            obtain ⟨x, hx⟩ : ∃ x, x = (l[i]).2 := ⟨_, rfl⟩
            rw [← hx] at z1
            obtain ⟨y, hy⟩ : ∃ y, y = (x + 1) % 18446744073709551616 := ⟨_, rfl⟩
            have hw : IntKind.u64.wrap (((x : Nat) : Int) + 1) = ((y : Nat) : Int) := by rw [IntKind.wrap_u64]; omega
            have HA2 : Hid (∃ l : List Pr, l.length = na ∧ OwnsP tE U3.heap.size l (.slice (some ⟨g, 0, none⟩) na ca) (wr.setCell ⟨g, i * 2 + 1, none⟩ (.int .u64 (y : Nat)))) := Lib.hid ⟨_, by rw [List.length_set]; exact hl, hO.set1 hn9 i hkl y⟩
            have HB2 := Lib.hid (hB.out.setCell (p := ⟨g, i * 2 + 1, none⟩) (Nat.le_trans HN3.out hg0) (.int .u64 (y : Nat)))
            clear hA hB hl hO hx hy hR9 hn9
            go_wp2_with fail
            exact ⟨⟨i + 1, by omega, by go_num, HA2, HB2⟩, by simp [intOf]; omega⟩
          · obtain rfl : i = na := by omega
            have hki2 : ¬ (i : Int) < (i : Int) := by omega
            have HT := Lib.hid (hS1.out.below hB.out)
            clear hA hB hS1 HN3
            go_upto_block 4 with fail
            go_cut [17] from 17 to 138 (fun s17 wc => Hid (TlI w b1 b4 b5 E F s sa sb r q wc))
            case first =>
              as_aux_lemma =>
                go_wp2_with fail
                go_loopw [110] (fun j wr => ∃ k : Nat, k ≤ n ∧ k ≤ 10 ∧ j = .int .i64 k ∧ Hid (TlI w b1 b4 b5 E F s sa sb r q wr)) (fun j _ => n - (intOf j).toNat)
                case atStart => exact ⟨0, by omega, by omega, rfl, HT⟩
                case round =>
                  clear HT
                  obtain ⟨k3, hk3, hk10, rfl, hX⟩ := hrel
                  by_cases hlt3 : k3 < n
                  · have hkl : k3 < zs.length := by rw [← HN.out]; exact hlt3
                    have hki3 : (k3 : Int) < (n : Int) := by omega
                    have hki0 : (0 : Int) ≤ (k3 : Int) := by omega
                    obtain ⟨bz, oz, rfl, hbz, z0⟩ := intsAt_get (RowAt.below HZ.out hX.out.bl) k3 hkl
                    obtain ⟨z, hz⟩ : ∃ z, z = zs[k3]?.getD 0 := ⟨_, rfl⟩
                    rw [← hz] at z0
                    clear hz hkl
                    by_cases h10 : k3 = 10
                    · subst h10
                      go_wp2_with fail
                      go_meet
                      exact hX
                    · have d10 : ((k3 : Int) == 10) = false := by simp; omega
                      have HWn := Tryd.When_any E sa (ownR r) z wr hX.out.ha HE.out
                      rw [HR.out, if_pos rfl] at HWn
                      obtain ⟨o1, ho1⟩ : ∃ x, x = (optV (whenL E (ownR r) z)).1 := ⟨_, rfl⟩
                      obtain ⟨o2, ho2⟩ : ∃ x, x = (optV (whenL E (ownR r) z)).2 := ⟨_, rfl⟩
                      rw [← ho1, ← ho2] at HWn
                      have HWn := Lib.hid HWn
                      have a4 := hX.out.a4
                      have c0 : wr.cell? ⟨b4, 0, none⟩ = some (.int .u64 (E : Nat)) := a4.cell 0
                      have c1 : wr.cell? ⟨b4, 1, none⟩ = some (.slice (sa.a 0) (sa.n 0) (sa.c 0)) := a4.cell 1
                      have c2 : wr.cell? ⟨b4, 2, none⟩ = some (.slice (sa.a 1) (sa.n 1) (sa.c 1)) := a4.cell 2
                      have c3 : wr.cell? ⟨b4, 3, none⟩ = some (.slice (sa.a 2) (sa.n 2) (sa.c 2)) := a4.cell 3
                      have lt4 := a4.lt
                      clear a4
                      go_wp2_with fail
                      refine HWn.out.mono ?_
                      rintro e U7 ⟨rfl, hC⟩
                      have hX := Lib.hid (hX.out.below hC)
                      clear hC HWn c0 c1 c2 c3 lt4 z0 hbz
                      have a4 := hX.out.a4
                      have c0 : U7.cell? ⟨b4, 0, none⟩ = some (.int .u64 (E : Nat)) := a4.cell 0
                      have c1 : U7.cell? ⟨b4, 1, none⟩ = some (.slice (sa.a 0) (sa.n 0) (sa.c 0)) := a4.cell 1
                      have c2 : U7.cell? ⟨b4, 2, none⟩ = some (.slice (sa.a 1) (sa.n 1) (sa.c 1)) := a4.cell 2
                      have c3 : U7.cell? ⟨b4, 3, none⟩ = some (.slice (sa.a 2) (sa.n 2) (sa.c 2)) := a4.cell 3
                      have lt4 := a4.lt
                      have HRf := Tryd.refWhen_any E sa (ownR r) z U7 hX.out.ha HE.out (fun k hk => Nat.le_trans (ownR_len r k hk) (by decide))
                      rw [rw_when HR.out, ← ho1, ← ho2] at HRf
                      have HRf := Lib.hid HRf
                      have hoo : (o2 != o2) = false := by cases o2 <;> rfl
                      have hoi : (o1 != o1) = false := by simp
                      clear a4 ho1 ho2
                      go_wp2_with fail
                      refine HRf.out.mono ?_
                      rintro e U8 ⟨rfl, hC⟩
                      have hX := Lib.hid (hX.out.below hC)
                      clear hC HRf c0 c1 c2 c3 lt4
                      go_wp2_with fail
                      exact ⟨⟨k3 + 1, by omega, by omega, by go_num, hX⟩, by simp [intOf]; omega⟩
                  · have hki3 : ¬ (k3 : Int) < (n : Int) := by omega
                    go_wp2_with fail
                    go_meet
                    exact hX
            case rest =>
              as_aux_lemma =>
                go_upto_region 35 with fail
                refine wp_region_L (fun W' => TlI w b1 b4 b5 E F s sa sb r q W') 10 (by kernel_rfl) ?_
                have hS0 : Hid (TlI w b1 b4 b5 E F s sa sb r q wc.drew) := Lib.hid hcut.out.drew
                clear hcut
                generalize wc.drew = X0 at *
                refine wpAnyL_takeT (i := 0) (oi := { dst := some 139, op := Go.Op.load 26 (Go.Operand.tmp 7), type := 26, pos := "law.go:82", after := #[], guard := none }) (v := .agg #[.int .u64 (E : Nat), .slice (sa.a 0) (sa.n 0) (sa.c 0), .slice (sa.a 1) (sa.n 1) (sa.c 1), .slice (sa.a 2) (sa.n 2) (sa.c 2)]) [3, 4, 5, 6, 7, 8, 9] rfl (by kernel_rfl) (by kernel_rfl) (by kernel_rfl) (by kernel_rfl) (fun _ _ _ h => h) (Or.inl ⟨by rfl, ?_⟩) hS0.out ?_
                · intro W9 hS9
                  have c0 : W9.cell? ⟨b4, 0, none⟩ = some (.int .u64 (E : Nat)) := hS9.a4.cell 0
                  have c1 : W9.cell? ⟨b4, 1, none⟩ = some (.slice (sa.a 0) (sa.n 0) (sa.c 0)) := hS9.a4.cell 1
                  have c2 : W9.cell? ⟨b4, 2, none⟩ = some (.slice (sa.a 1) (sa.n 1) (sa.c 1)) := hS9.a4.cell 2
                  have c3 : W9.cell? ⟨b4, 3, none⟩ = some (.slice (sa.a 2) (sa.n 2) (sa.c 2)) := hS9.a4.cell 3
                  clear hS9
                  go_simp
                try simp only [Act.put, List.setIfInBounds_toArray, List.set_cons_zero, List.set_cons_succ]
                refine wpAnyL_takeT (i := 1) (oi := { dst := some 140, op := Go.Op.load 26 (Go.Operand.tmp 3), type := 26, pos := "law.go:82", after := #[], guard := none }) (v := .agg #[.int .u64 (E : Nat), .slice (s.a 0) (s.n 0) (s.c 0), .slice (s.a 1) (s.n 1) (s.c 1), .slice (s.a 2) (s.n 2) (s.c 2)]) [2, 3, 4, 5, 6, 7, 8, 9] rfl (by kernel_rfl) (by kernel_rfl) (by kernel_rfl) (by kernel_rfl) (fun _ _ _ h => h) (Or.inl ⟨by rfl, ?_⟩) hS0.out ?_
                · intro W9 hS9
                  have c0 : W9.cell? ⟨b1, 0, none⟩ = some (.int .u64 (E : Nat)) := hS9.k1.cell 0
                  have c1 : W9.cell? ⟨b1, 1, none⟩ = some (.slice (s.a 0) (s.n 0) (s.c 0)) := hS9.k1.cell 1
                  have c2 : W9.cell? ⟨b1, 2, none⟩ = some (.slice (s.a 1) (s.n 1) (s.c 1)) := hS9.k1.cell 2
                  have c3 : W9.cell? ⟨b1, 3, none⟩ = some (.slice (s.a 2) (s.n 2) (s.c 2)) := hS9.k1.cell 3
                  clear hS9
                  go_simp
                try simp only [Act.put, List.setIfInBounds_toArray, List.set_cons_zero, List.set_cons_succ]
                refine wpAnyL_one (i := 2) (o := { dst := some 141, op := Go.Op.call { callee := Go.Callee.value (Go.Operand.func 8), args := #[Go.Operand.tmp 140], argTypes := #[26] }, type := 26, pos := "law.go:82", after := #[{ on := 1, ground := Go.Ground.data }], guard := none }) (by kernel_rfl) rfl (fun K hK => ?_)
                refine step_call_g (by rfl) 8 _ _ rfl (fun _ _ => by kernel_rfl) #[.agg #[.int .u64 (E : Nat), .slice (s.a 0) (s.n 0) (s.c 0), .slice (s.a 1) (s.n 1) (s.c 1), .slice (s.a 2) (s.n 2) (s.c 2)]] (by simp [go_sem]) _ (Tryd.own_any E s r X0 hS0.out.hx) ?_
                rintro e X1 ⟨s8, rfl, hO, hC⟩
                have hS0 := Lib.hid (hS0.out.below hC)
                have HO8 := Lib.hid hO
                clear hO
                clear hC
                refine ⟨_, rfl, ?_⟩
                refine hK.out _ _ (fun _ => hS0.out) ?_
                clear hK K
                try simp only [Act.put, List.setIfInBounds_toArray, List.set_cons_zero, List.set_cons_succ]
                refine wpAnyL_one (i := 3) (o := { dst := some 142, op := Go.Op.call { callee := Go.Callee.value (Go.Operand.func 12), args := #[Go.Operand.tmp 139, Go.Operand.tmp 141], argTypes := #[26, 26] }, type := 4, pos := "law.go:82", after := #[{ on := 0, ground := Go.Ground.data }, { on := 2, ground := Go.Ground.data }, { on := 2, ground := Go.Ground.chain }], guard := none }) (by kernel_rfl) rfl (fun K hK => ?_)
                refine step_call_g (by rfl) 12 _ _ rfl (fun _ _ => by kernel_rfl) #[.agg #[.int .u64 (E : Nat), .slice (sa.a 0) (sa.n 0) (sa.c 0), .slice (sa.a 1) (sa.n 1) (sa.c 1), .slice (sa.a 2) (sa.n 2) (sa.c 2)], .agg #[.int .u64 (E : Nat), .slice (s8.a 0) (s8.n 0) (s8.c 0), .slice (s8.a 1) (s8.n 1) (s8.c 1), .slice (s8.a 2) (s8.n 2) (s8.c 2)]] (by simp [go_sem]) _ (Tryd.refSame_any E E sa s8 (ownR r) (ownR r) X1 hS0.out.ha HO8.out.at (fun k hk => ⟨Nat.le_trans (own_n hS0.out.ha k hk) (by decide), Nat.le_trans (own_n HO8.out.at k hk) (by decide)⟩)) ?_
                rintro e X2 ⟨rfl, hC⟩
                have hS0 := Lib.hid (hS0.out.below hC)
                rw [show sameB E (ownR r) E (ownR r) = true from sameB_iff.2 ⟨rfl, rfl, rfl, rfl⟩]
                clear hC
                refine ⟨_, rfl, ?_⟩
                refine hK.out _ _ (fun _ => hS0.out) ?_
                clear hK K
                try simp only [Act.put, List.setIfInBounds_toArray, List.set_cons_zero, List.set_cons_succ]
                refine wpAnyL_one (i := 4) (o := { dst := some 143, op := Go.Op.move (Go.Operand.tmp 142), type := 4, pos := "law.go:82", after := #[{ on := 3, ground := Go.Ground.data }, { on := 3, ground := Go.Ground.chain }], guard := none }) (by kernel_rfl) rfl (fun K hK => ?_)
                refine step_value_g (by rfl) (.bool true) (w' := X2) (by go_simp) ?_
                refine hK.out _ _ (fun _ => hS0.out) ?_
                clear hK K
                try simp only [Act.put, List.setIfInBounds_toArray, List.set_cons_zero, List.set_cons_succ]
                refine wpAnyL_takeT (i := 6) (oi := { dst := some 145, op := Go.Op.build 26 #[], type := 26, pos := "law.go:82", after := #[{ on := 4, ground := Go.Ground.guard }], guard := some (4, true) }) (v := .agg #[.int .u64 0, .slice none 0 0, .slice none 0 0, .slice none 0 0]) [7, 8, 9] rfl (by kernel_rfl) (by kernel_rfl) (by kernel_rfl) (by kernel_rfl) (fun _ _ _ h => h) (Or.inl ⟨by rfl, ?_⟩) hS0.out ?_
                · intro W9 hS9
                  clear hS9
                  go_simp
                try simp only [Act.put, List.setIfInBounds_toArray, List.set_cons_zero, List.set_cons_succ]
                refine wpAnyL_one (i := 5) (o := { dst := some 144, op := Go.Op.call { callee := Go.Callee.value (Go.Operand.func 20), args := #[], argTypes := #[] }, type := 26, pos := "law.go:82", after := #[{ on := 4, ground := Go.Ground.chain }, { on := 4, ground := Go.Ground.guard }], guard := some (4, true) }) (by kernel_rfl) rfl (fun K hK => ?_)
                refine step_call_g (by rfl) 20 _ _ rfl (fun _ _ => by kernel_rfl) #[] (by simp [go_sem]) _ (Tryd.New_any X2) ?_
                rintro e X3 ⟨rfl, hC⟩
                have hS0 := Lib.hid (hS0.out.below hC)
                clear hC
                refine ⟨_, rfl, ?_⟩
                refine hK.out _ _ (fun _ => hS0.out) ?_
                clear hK K
                try simp only [Act.put, List.setIfInBounds_toArray, List.set_cons_zero, List.set_cons_succ]
                refine wpAnyL_one (i := 7) (o := { dst := some 146, op := Go.Op.call { callee := Go.Callee.value (Go.Operand.func 12), args := #[Go.Operand.tmp 144, Go.Operand.tmp 145], argTypes := #[26, 26] }, type := 4, pos := "law.go:82", after := #[{ on := 5, ground := Go.Ground.data }, { on := 6, ground := Go.Ground.data }, { on := 5, ground := Go.Ground.chain }, { on := 4, ground := Go.Ground.guard }], guard := some (4, true) }) (by kernel_rfl) rfl (fun K hK => ?_)
                refine step_call_g (by rfl) 12 _ _ rfl (fun _ _ => by kernel_rfl) #[.agg #[.int .u64 0, .slice none 0 0, .slice none 0 0, .slice none 0 0], .agg #[.int .u64 0, .slice none 0 0, .slice none 0 0, .slice none 0 0]] (by simp [go_sem]) _ (show Calls Tryd.prog 12 #[.agg #[.int .u64 0, .slice none 0 0, .slice none 0 0, .slice none 0 0], .agg #[.int .u64 0, .slice none 0 0, .slice none 0 0, .slice none 0 0]] X3 _ from Tryd.refSame_any 0 0 zLs zLs z3 z3 X3 (z3_at _) (z3_at _) (fun k hk => ⟨Nat.zero_le _, Nat.zero_le _⟩)) ?_
                rintro e X4 ⟨rfl, hC⟩
                have hS0 := Lib.hid (hS0.out.below hC)
                rw [show sameB 0 z3 0 z3 = true from sameB_iff.2 ⟨rfl, rfl, rfl, rfl⟩]
                clear hC
                refine ⟨_, rfl, ?_⟩
                refine hK.out _ _ (fun _ => hS0.out) ?_
                clear hK K
                try simp only [Act.put, List.setIfInBounds_toArray, List.set_cons_zero, List.set_cons_succ]
                refine wpAnyL_one (i := 8) (o := { dst := some 147, op := Go.Op.pick (Go.Operand.tmp 143) (Go.Operand.tmp 146) (Go.Operand.const (Go.Value.bool false)), type := 4, pos := "law.go:82", after := #[{ on := 4, ground := Go.Ground.data }, { on := 7, ground := Go.Ground.data }], guard := none }) (by kernel_rfl) rfl (fun K hK => ?_)
                refine step_value_g (by rfl) (.bool true) (w' := X4) (by go_simp) ?_
                refine hK.out _ _ (fun _ => hS0.out) ?_
                clear hK K
                try simp only [Act.put, List.setIfInBounds_toArray, List.set_cons_zero, List.set_cons_succ]
                refine wpAnyL_one (i := 9) (o := { dst := some 6, op := Go.Op.assign (Go.Operand.tmp 147), type := 4, pos := "law.go:82", after := #[{ on := 8, ground := Go.Ground.data }, { on := 7, ground := Go.Ground.chain }, { on := 0, ground := Go.Ground.phase }, { on := 1, ground := Go.Ground.phase }, { on := 2, ground := Go.Ground.phase }, { on := 3, ground := Go.Ground.phase }, { on := 4, ground := Go.Ground.phase }, { on := 5, ground := Go.Ground.phase }, { on := 6, ground := Go.Ground.phase }, { on := 7, ground := Go.Ground.phase }, { on := 8, ground := Go.Ground.phase }], guard := none }) (by kernel_rfl) rfl (fun K hK => ?_)
                refine step_value_g (by rfl) (.bool true) (w' := X4) (by go_simp) ?_
                refine hK.out _ _ (fun _ => hS0.out) ?_
                clear hK K
                try simp only [Act.put, List.setIfInBounds_toArray, List.set_cons_zero, List.set_cons_succ]
                refine wpAnyL_end (by kernel_rfl) ?_
                go_wp2_with fail
                go_ret
                exact ⟨rfl, hS0.out.bl⟩
  | false =>
    have HR := Lib.hid hR
    clear hR
    go_upto_region 6 with fail
    refine wp_region_L (fun W' => TlI w b1 b4 b5 E F s sa sb r q W') 28 (by kernel_rfl) ?_
    have hS0 : Hid (TlI w b1 b4 b5 E F s sa sb r q W4.drew) := Lib.hid HT.out.drew
    clear HT
    generalize W4.drew = Wd at *
    refine wpAnyL_takeT (i := 0) (oi := { dst := some 33, op := Go.Op.move (Go.Operand.tmp 10), type := 31, pos := "law.go:52", after := #[], guard := none }) (v := .int .i64 240) [1, 3, 4, 5, 6, 7, 8, 9, 10, 11, 12, 13, 14, 15, 16, 17, 18, 19, 20, 21, 22, 23, 24, 25, 26, 27] rfl (by kernel_rfl) (by kernel_rfl) (by kernel_rfl) (by kernel_rfl) (fun _ _ _ h => h) (Or.inl ⟨by rfl, ?_⟩) hS0.out ?_
    · intro W9 hS9
      clear hS9
      go_simp
    try simp only [Act.put, List.setIfInBounds_toArray, List.set_cons_zero, List.set_cons_succ]
    refine wpAnyL_takeT (i := 1) (oi := { dst := some 34, op := Go.Op.binOp Go.BinOp.eql 31 (Go.Operand.tmp 33) (Go.Operand.const (Go.Value.int Go.IntKind.i64 0)) 31, type := 4, pos := "law.go:52", after := #[{ on := 0, ground := Go.Ground.data }], guard := none }) (v := .bool false) [3, 4, 5, 6, 7, 8, 9, 10, 11, 12, 13, 14, 15, 16, 17, 18, 19, 20, 21, 22, 23, 24, 25, 26, 27] rfl (by kernel_rfl) (by kernel_rfl) (by kernel_rfl) (by kernel_rfl) (fun _ _ _ h => h) (Or.inl ⟨by rfl, ?_⟩) hS0.out ?_
    · intro W9 hS9
      clear hS9
      go_simp
    try simp only [Act.put, List.setIfInBounds_toArray, List.set_cons_zero, List.set_cons_succ]
    refine wpAnyL_takeT (i := 2) (oi := { dst := some 35, op := Go.Op.move (Go.Operand.tmp 9), type := 4, pos := "law.go:52", after := #[], guard := none }) (v := .bool false) [3, 4, 5, 6, 7, 8, 9, 10, 11, 12, 13, 14, 15, 16, 17, 18, 19, 20, 21, 22, 23, 24, 25, 26, 27] rfl (by kernel_rfl) (by kernel_rfl) (by kernel_rfl) (by kernel_rfl) (fun _ _ _ h => h) (Or.inl ⟨by rfl, ?_⟩) hS0.out ?_
    · intro W9 hS9
      clear hS9
      go_simp
    try simp only [Act.put, List.setIfInBounds_toArray, List.set_cons_zero, List.set_cons_succ]
    refine wpAnyL_takeT (i := 3) (oi := { dst := some 36, op := Go.Op.binOp Go.BinOp.neq 4 (Go.Operand.tmp 34) (Go.Operand.tmp 35) 4, type := 4, pos := "law.go:52", after := #[{ on := 1, ground := Go.Ground.data }, { on := 2, ground := Go.Ground.data }], guard := none }) (v := .bool false) [4, 5, 6, 7, 8, 9, 10, 11, 12, 13, 14, 15, 16, 17, 18, 19, 20, 21, 22, 23, 24, 25, 26, 27] rfl (by kernel_rfl) (by kernel_rfl) (by kernel_rfl) (by kernel_rfl) (fun _ _ _ h => h) (Or.inl ⟨by rfl, ?_⟩) hS0.out ?_
    · intro W9 hS9
      clear hS9
      go_simp
    try simp only [Act.put, List.setIfInBounds_toArray, List.set_cons_zero, List.set_cons_succ]
    refine wpAnyL_takeT (i := 4) (oi := { dst := some 37, op := Go.Op.move (Go.Operand.tmp 36), type := 4, pos := "law.go:52", after := #[{ on := 3, ground := Go.Ground.data }], guard := none }) (v := .bool false) [5, 6, 7, 8, 9, 10, 11, 12, 13, 14, 15, 16, 17, 18, 19, 20, 21, 22, 23, 24, 25, 26, 27] rfl (by kernel_rfl) (by kernel_rfl) (by kernel_rfl) (by kernel_rfl) (fun _ _ _ h => h) (Or.inl ⟨by rfl, ?_⟩) hS0.out ?_
    · intro W9 hS9
      clear hS9
      go_simp
    try simp only [Act.put, List.setIfInBounds_toArray, List.set_cons_zero, List.set_cons_succ]
    refine wpAnyL_takeT (i := 5) (oi := { dst := some 38, op := Go.Op.move (Go.Operand.tmp 10), type := 31, pos := "law.go:52", after := #[{ on := 4, ground := Go.Ground.guard }], guard := some (4, false) }) (v := .int .i64 240) [6, 7, 8, 9, 10, 11, 12, 13, 14, 15, 16, 17, 18, 19, 20, 21, 22, 23, 24, 25, 26, 27] rfl (by kernel_rfl) (by kernel_rfl) (by kernel_rfl) (by kernel_rfl) (fun _ _ _ h => h) (Or.inl ⟨by rfl, ?_⟩) hS0.out ?_
    · intro W9 hS9
      clear hS9
      go_simp
    try simp only [Act.put, List.setIfInBounds_toArray, List.set_cons_zero, List.set_cons_succ]
    refine wpAnyL_takeT (i := 6) (oi := { dst := some 39, op := Go.Op.binOp Go.BinOp.neq 31 (Go.Operand.tmp 38) (Go.Operand.const (Go.Value.int Go.IntKind.i64 0)) 31, type := 4, pos := "law.go:52", after := #[{ on := 5, ground := Go.Ground.data }, { on := 4, ground := Go.Ground.guard }], guard := some (4, false) }) (v := .bool true) [7, 8, 9, 10, 11, 12, 13, 14, 15, 16, 17, 18, 19, 20, 21, 22, 23, 24, 25, 26, 27] rfl (by kernel_rfl) (by kernel_rfl) (by kernel_rfl) (by kernel_rfl) (fun _ _ _ h => h) (Or.inl ⟨by rfl, ?_⟩) hS0.out ?_
    · intro W9 hS9
      clear hS9
      go_simp
    try simp only [Act.put, List.setIfInBounds_toArray, List.set_cons_zero, List.set_cons_succ]
    refine wpAnyL_takeT (i := 7) (oi := { dst := some 40, op := Go.Op.move (Go.Operand.tmp 39), type := 4, pos := "law.go:52", after := #[{ on := 6, ground := Go.Ground.data }, { on := 4, ground := Go.Ground.chain }, { on := 4, ground := Go.Ground.guard }], guard := some (4, false) }) (v := .bool true) [8, 9, 10, 11, 12, 13, 14, 15, 16, 17, 18, 19, 20, 21, 22, 23, 24, 25, 26, 27] rfl (by kernel_rfl) (by kernel_rfl) (by kernel_rfl) (by kernel_rfl) (fun _ _ _ h => h) (Or.inl ⟨by rfl, ?_⟩) hS0.out ?_
    · intro W9 hS9
      clear hS9
      go_simp
    try simp only [Act.put, List.setIfInBounds_toArray, List.set_cons_zero, List.set_cons_succ]
    refine wpAnyL_takeT (i := 8) (oi := { dst := some 41, op := Go.Op.move (Go.Operand.tmp 10), type := 31, pos := "law.go:52", after := #[{ on := 7, ground := Go.Ground.guard }], guard := some (7, true) }) (v := .int .i64 240) [9, 10, 11, 12, 13, 14, 15, 16, 17, 18, 19, 20, 21, 22, 23, 24, 25, 26, 27] rfl (by kernel_rfl) (by kernel_rfl) (by kernel_rfl) (by kernel_rfl) (fun _ _ _ h => h) (Or.inl ⟨by rfl, ?_⟩) hS0.out ?_
    · intro W9 hS9
      clear hS9
      go_simp
    try simp only [Act.put, List.setIfInBounds_toArray, List.set_cons_zero, List.set_cons_succ]
    refine wpAnyL_takeT (i := 9) (oi := { dst := some 42, op := Go.Op.binOp Go.BinOp.neq 31 (Go.Operand.tmp 41) (Go.Operand.const (Go.Value.int Go.IntKind.i64 240)) 31, type := 4, pos := "law.go:52", after := #[{ on := 8, ground := Go.Ground.data }, { on := 7, ground := Go.Ground.guard }], guard := some (7, true) }) (v := .bool false) [10, 11, 12, 13, 14, 15, 16, 17, 18, 19, 20, 21, 22, 23, 24, 25, 26, 27] rfl (by kernel_rfl) (by kernel_rfl) (by kernel_rfl) (by kernel_rfl) (fun _ _ _ h => h) (Or.inl ⟨by rfl, ?_⟩) hS0.out ?_
    · intro W9 hS9
      clear hS9
      go_simp
    try simp only [Act.put, List.setIfInBounds_toArray, List.set_cons_zero, List.set_cons_succ]
    refine wpAnyL_takeT (i := 10) (oi := { dst := some 43, op := Go.Op.pick (Go.Operand.tmp 40) (Go.Operand.tmp 42) (Go.Operand.const (Go.Value.bool false)), type := 4, pos := "law.go:52", after := #[{ on := 7, ground := Go.Ground.data }, { on := 9, ground := Go.Ground.data }, { on := 4, ground := Go.Ground.guard }], guard := some (4, false) }) (v := .bool false) [11, 12, 13, 14, 15, 16, 17, 18, 19, 20, 21, 22, 23, 24, 25, 26, 27] rfl (by kernel_rfl) (by kernel_rfl) (by kernel_rfl) (by kernel_rfl) (fun _ _ _ h => h) (Or.inl ⟨by rfl, ?_⟩) hS0.out ?_
    · intro W9 hS9
      clear hS9
      go_simp
    try simp only [Act.put, List.setIfInBounds_toArray, List.set_cons_zero, List.set_cons_succ]
    refine wpAnyL_takeT (i := 11) (oi := { dst := some 44, op := Go.Op.pick (Go.Operand.tmp 37) (Go.Operand.const (Go.Value.bool true)) (Go.Operand.tmp 43), type := 4, pos := "law.go:52", after := #[{ on := 4, ground := Go.Ground.data }, { on := 10, ground := Go.Ground.data }], guard := none }) (v := .bool false) [12, 13, 14, 15, 16, 17, 18, 19, 20, 21, 22, 23, 24, 25, 26, 27] rfl (by kernel_rfl) (by kernel_rfl) (by kernel_rfl) (by kernel_rfl) (fun _ _ _ h => h) (Or.inl ⟨by rfl, ?_⟩) hS0.out ?_
    · intro W9 hS9
      clear hS9
      go_simp
    try simp only [Act.put, List.setIfInBounds_toArray, List.set_cons_zero, List.set_cons_succ]
    refine wpAnyL_takeT (i := 12) (oi := { dst := some 45, op := Go.Op.move (Go.Operand.tmp 44), type := 4, pos := "law.go:52", after := #[{ on := 11, ground := Go.Ground.data }, { on := 7, ground := Go.Ground.chain }], guard := none }) (v := .bool false) [13, 14, 15, 16, 17, 18, 19, 20, 21, 22, 23, 24, 25, 26, 27] rfl (by kernel_rfl) (by kernel_rfl) (by kernel_rfl) (by kernel_rfl) (fun _ _ _ h => h) (Or.inl ⟨by rfl, ?_⟩) hS0.out ?_
    · intro W9 hS9
      clear hS9
      go_simp
    try simp only [Act.put, List.setIfInBounds_toArray, List.set_cons_zero, List.set_cons_succ]
    refine wpAnyL_takeT (i := 13) (oi := { dst := some 46, op := Go.Op.load 26 (Go.Operand.tmp 7), type := 26, pos := "law.go:52", after := #[{ on := 12, ground := Go.Ground.guard }], guard := some (12, false) }) (v := .agg #[.int .u64 (E : Nat), .slice (sa.a 0) (sa.n 0) (sa.c 0), .slice (sa.a 1) (sa.n 1) (sa.c 1), .slice (sa.a 2) (sa.n 2) (sa.c 2)]) [15, 18, 19, 20, 21, 22, 23, 24, 25, 26, 27] rfl (by kernel_rfl) (by kernel_rfl) (by kernel_rfl) (by kernel_rfl) (fun _ _ _ h => h) (Or.inl ⟨by rfl, ?_⟩) hS0.out ?_
    · intro W9 hS9
      have c0 : W9.cell? ⟨b4, 0, none⟩ = some (.int .u64 (E : Nat)) := hS9.a4.cell 0
      have c1 : W9.cell? ⟨b4, 1, none⟩ = some (.slice (sa.a 0) (sa.n 0) (sa.c 0)) := hS9.a4.cell 1
      have c2 : W9.cell? ⟨b4, 2, none⟩ = some (.slice (sa.a 1) (sa.n 1) (sa.c 1)) := hS9.a4.cell 2
      have c3 : W9.cell? ⟨b4, 3, none⟩ = some (.slice (sa.a 2) (sa.n 2) (sa.c 2)) := hS9.a4.cell 3
      clear hS9
      go_simp
    try simp only [Act.put, List.setIfInBounds_toArray, List.set_cons_zero, List.set_cons_succ]
    refine wpAnyL_takeT (i := 14) (oi := { dst := some 47, op := Go.Op.load 26 (Go.Operand.tmp 8), type := 26, pos := "law.go:52", after := #[{ on := 12, ground := Go.Ground.guard }], guard := some (12, false) }) (v := .agg #[.int .u64 (F : Nat), .slice (sb.a 0) (sb.n 0) (sb.c 0), .slice (sb.a 1) (sb.n 1) (sb.c 1), .slice (sb.a 2) (sb.n 2) (sb.c 2)]) [15, 18, 19, 20, 21, 22, 23, 24, 25, 26, 27] rfl (by kernel_rfl) (by kernel_rfl) (by kernel_rfl) (by kernel_rfl) (fun _ _ _ h => h) (Or.inl ⟨by rfl, ?_⟩) hS0.out ?_
    · intro W9 hS9
      have c0 : W9.cell? ⟨b5, 0, none⟩ = some (.int .u64 (F : Nat)) := hS9.a5.cell 0
      have c1 : W9.cell? ⟨b5, 1, none⟩ = some (.slice (sb.a 0) (sb.n 0) (sb.c 0)) := hS9.a5.cell 1
      have c2 : W9.cell? ⟨b5, 2, none⟩ = some (.slice (sb.a 1) (sb.n 1) (sb.c 1)) := hS9.a5.cell 2
      have c3 : W9.cell? ⟨b5, 3, none⟩ = some (.slice (sb.a 2) (sb.n 2) (sb.c 2)) := hS9.a5.cell 3
      clear hS9
      go_simp
    try simp only [Act.put, List.setIfInBounds_toArray, List.set_cons_zero, List.set_cons_succ]
    refine wpAnyL_takeT (i := 16) (oi := { dst := some 49, op := Go.Op.load 26 (Go.Operand.tmp 7), type := 26, pos := "law.go:52", after := #[{ on := 12, ground := Go.Ground.guard }], guard := some (12, false) }) (v := .agg #[.int .u64 (E : Nat), .slice (sa.a 0) (sa.n 0) (sa.c 0), .slice (sa.a 1) (sa.n 1) (sa.c 1), .slice (sa.a 2) (sa.n 2) (sa.c 2)]) [18, 19, 20, 21, 22, 23, 24, 25, 26, 27] rfl (by kernel_rfl) (by kernel_rfl) (by kernel_rfl) (by kernel_rfl) (fun _ _ _ h => h) (Or.inl ⟨by rfl, ?_⟩) hS0.out ?_
    · intro W9 hS9
      have c0 : W9.cell? ⟨b4, 0, none⟩ = some (.int .u64 (E : Nat)) := hS9.a4.cell 0
      have c1 : W9.cell? ⟨b4, 1, none⟩ = some (.slice (sa.a 0) (sa.n 0) (sa.c 0)) := hS9.a4.cell 1
      have c2 : W9.cell? ⟨b4, 2, none⟩ = some (.slice (sa.a 1) (sa.n 1) (sa.c 1)) := hS9.a4.cell 2
      have c3 : W9.cell? ⟨b4, 3, none⟩ = some (.slice (sa.a 2) (sa.n 2) (sa.c 2)) := hS9.a4.cell 3
      clear hS9
      go_simp
    try simp only [Act.put, List.setIfInBounds_toArray, List.set_cons_zero, List.set_cons_succ]
    refine wpAnyL_takeT (i := 17) (oi := { dst := some 50, op := Go.Op.load 26 (Go.Operand.tmp 8), type := 26, pos := "law.go:52", after := #[{ on := 12, ground := Go.Ground.guard }], guard := some (12, false) }) (v := .agg #[.int .u64 (F : Nat), .slice (sb.a 0) (sb.n 0) (sb.c 0), .slice (sb.a 1) (sb.n 1) (sb.c 1), .slice (sb.a 2) (sb.n 2) (sb.c 2)]) [18, 19, 20, 21, 22, 23, 24, 25, 26, 27] rfl (by kernel_rfl) (by kernel_rfl) (by kernel_rfl) (by kernel_rfl) (fun _ _ _ h => h) (Or.inl ⟨by rfl, ?_⟩) hS0.out ?_
    · intro W9 hS9
      have c0 : W9.cell? ⟨b5, 0, none⟩ = some (.int .u64 (F : Nat)) := hS9.a5.cell 0
      have c1 : W9.cell? ⟨b5, 1, none⟩ = some (.slice (sb.a 0) (sb.n 0) (sb.c 0)) := hS9.a5.cell 1
      have c2 : W9.cell? ⟨b5, 2, none⟩ = some (.slice (sb.a 1) (sb.n 1) (sb.c 1)) := hS9.a5.cell 2
      have c3 : W9.cell? ⟨b5, 3, none⟩ = some (.slice (sb.a 2) (sb.n 2) (sb.c 2)) := hS9.a5.cell 3
      clear hS9
      go_simp
    try simp only [Act.put, List.setIfInBounds_toArray, List.set_cons_zero, List.set_cons_succ]
    obtain ⟨v9, hv9⟩ : ∃ v, v = sameB E (ownR r) F (ownR q) := ⟨_, rfl⟩
    have hvv : (v9 != v9) = false := by cases v9 <;> rfl
    refine wpAnyL_one (i := 15) (o := { dst := some 48, op := Go.Op.call { callee := Go.Callee.value (Go.Operand.func 11), args := #[Go.Operand.tmp 46, Go.Operand.tmp 47], argTypes := #[26, 26] }, type := 4, pos := "law.go:52", after := #[{ on := 13, ground := Go.Ground.data }, { on := 14, ground := Go.Ground.data }, { on := 12, ground := Go.Ground.chain }, { on := 12, ground := Go.Ground.guard }], guard := some (12, false) }) (by kernel_rfl) rfl (fun K hK => ?_)
    refine step_call_g (by rfl) 11 _ _ rfl (fun _ _ => by kernel_rfl) #[.agg #[.int .u64 (E : Nat), .slice (sa.a 0) (sa.n 0) (sa.c 0), .slice (sa.a 1) (sa.n 1) (sa.c 1), .slice (sa.a 2) (sa.n 2) (sa.c 2)], .agg #[.int .u64 (F : Nat), .slice (sb.a 0) (sb.n 0) (sb.c 0), .slice (sb.a 1) (sb.n 1) (sb.c 1), .slice (sb.a 2) (sb.n 2) (sb.c 2)]] (by simp [go_sem]) _ (Tryd.Same_any E F sa sb (ownR r) (ownR q) Wd hS0.out.ha hS0.out.hb (fun k hk => ⟨Nat.le_trans (own_n hS0.out.ha k hk) (by decide), Nat.le_trans (own_n hS0.out.hb k hk) (by decide)⟩)) ?_
    rintro e V1 ⟨rfl, hC⟩
    have hS0 := Lib.hid (hS0.out.below hC)
    rw [← hv9]
    clear hC
    refine ⟨_, rfl, ?_⟩
    refine hK.out _ _ (fun _ => hS0.out) ?_
    clear hK K
    try simp only [Act.put, List.setIfInBounds_toArray, List.set_cons_zero, List.set_cons_succ]
    refine wpAnyL_one (i := 18) (o := { dst := some 51, op := Go.Op.call { callee := Go.Callee.value (Go.Operand.func 12), args := #[Go.Operand.tmp 49, Go.Operand.tmp 50], argTypes := #[26, 26] }, type := 4, pos := "law.go:52", after := #[{ on := 16, ground := Go.Ground.data }, { on := 17, ground := Go.Ground.data }, { on := 15, ground := Go.Ground.chain }, { on := 12, ground := Go.Ground.guard }], guard := some (12, false) }) (by kernel_rfl) rfl (fun K hK => ?_)
    refine step_call_g (by rfl) 12 _ _ rfl (fun _ _ => by kernel_rfl) #[.agg #[.int .u64 (E : Nat), .slice (sa.a 0) (sa.n 0) (sa.c 0), .slice (sa.a 1) (sa.n 1) (sa.c 1), .slice (sa.a 2) (sa.n 2) (sa.c 2)], .agg #[.int .u64 (F : Nat), .slice (sb.a 0) (sb.n 0) (sb.c 0), .slice (sb.a 1) (sb.n 1) (sb.c 1), .slice (sb.a 2) (sb.n 2) (sb.c 2)]] (by simp [go_sem]) _ (Tryd.refSame_any E F sa sb (ownR r) (ownR q) V1 hS0.out.ha hS0.out.hb (fun k hk => ⟨Nat.le_trans (own_n hS0.out.ha k hk) (by decide), Nat.le_trans (own_n hS0.out.hb k hk) (by decide)⟩)) ?_
    rintro e V2 ⟨rfl, hC⟩
    have hS0 := Lib.hid (hS0.out.below hC)
    rw [← hv9]
    clear hC
    refine ⟨_, rfl, ?_⟩
    refine hK.out _ _ (fun _ => hS0.out) ?_
    clear hK K
    try simp only [Act.put, List.setIfInBounds_toArray, List.set_cons_zero, List.set_cons_succ]
    refine wpAnyL_takeT (i := 19) (oi := { dst := some 52, op := Go.Op.binOp Go.BinOp.neq 4 (Go.Operand.tmp 48) (Go.Operand.tmp 51) 4, type := 4, pos := "law.go:52", after := #[{ on := 15, ground := Go.Ground.data }, { on := 18, ground := Go.Ground.data }, { on := 12, ground := Go.Ground.guard }], guard := some (12, false) }) (v := .bool false) [20, 21, 22, 23, 24, 25, 26, 27] rfl (by kernel_rfl) (by kernel_rfl) (by kernel_rfl) (by kernel_rfl) (fun _ _ _ h => h) (Or.inl ⟨by rfl, ?_⟩) hS0.out ?_
    · intro W9 hS9
      clear hS9
      go_simp
    try simp only [Act.put, List.setIfInBounds_toArray, List.set_cons_zero, List.set_cons_succ]
    refine wpAnyL_takeT (i := 20) (oi := { dst := some 53, op := Go.Op.pick (Go.Operand.tmp 45) (Go.Operand.const (Go.Value.bool true)) (Go.Operand.tmp 52), type := 4, pos := "law.go:52", after := #[{ on := 12, ground := Go.Ground.data }, { on := 19, ground := Go.Ground.data }], guard := none }) (v := .bool false) [21, 22, 23, 24, 25, 26, 27] rfl (by kernel_rfl) (by kernel_rfl) (by kernel_rfl) (by kernel_rfl) (fun _ _ _ h => h) (Or.inl ⟨by rfl, ?_⟩) hS0.out ?_
    · intro W9 hS9
      clear hS9
      go_simp
    try simp only [Act.put, List.setIfInBounds_toArray, List.set_cons_zero, List.set_cons_succ]
    refine wpAnyL_takeT (i := 21) (oi := { dst := some 54, op := Go.Op.move (Go.Operand.tmp 53), type := 4, pos := "law.go:52", after := #[{ on := 20, ground := Go.Ground.data }, { on := 18, ground := Go.Ground.chain }], guard := none }) (v := .bool false) [22, 23, 24, 25, 26, 27] rfl (by kernel_rfl) (by kernel_rfl) (by kernel_rfl) (by kernel_rfl) (fun _ _ _ h => h) (Or.inl ⟨by rfl, ?_⟩) hS0.out ?_
    · intro W9 hS9
      clear hS9
      go_simp
    try simp only [Act.put, List.setIfInBounds_toArray, List.set_cons_zero, List.set_cons_succ]
    refine wpAnyL_takeT (i := 22) (oi := { dst := some 55, op := Go.Op.load 26 (Go.Operand.tmp 7), type := 26, pos := "law.go:52", after := #[{ on := 21, ground := Go.Ground.guard }], guard := some (21, false) }) (v := .agg #[.int .u64 (E : Nat), .slice (sa.a 0) (sa.n 0) (sa.c 0), .slice (sa.a 1) (sa.n 1) (sa.c 1), .slice (sa.a 2) (sa.n 2) (sa.c 2)]) [25, 26, 27] rfl (by kernel_rfl) (by kernel_rfl) (by kernel_rfl) (by kernel_rfl) (fun _ _ _ h => h) (Or.inl ⟨by rfl, ?_⟩) hS0.out ?_
    · intro W9 hS9
      have c0 : W9.cell? ⟨b4, 0, none⟩ = some (.int .u64 (E : Nat)) := hS9.a4.cell 0
      have c1 : W9.cell? ⟨b4, 1, none⟩ = some (.slice (sa.a 0) (sa.n 0) (sa.c 0)) := hS9.a4.cell 1
      have c2 : W9.cell? ⟨b4, 2, none⟩ = some (.slice (sa.a 1) (sa.n 1) (sa.c 1)) := hS9.a4.cell 2
      have c3 : W9.cell? ⟨b4, 3, none⟩ = some (.slice (sa.a 2) (sa.n 2) (sa.c 2)) := hS9.a4.cell 3
      clear hS9
      go_simp
    try simp only [Act.put, List.setIfInBounds_toArray, List.set_cons_zero, List.set_cons_succ]
    refine wpAnyL_takeT (i := 23) (oi := { dst := some 56, op := Go.Op.load 26 (Go.Operand.tmp 3), type := 26, pos := "law.go:52", after := #[{ on := 21, ground := Go.Ground.guard }], guard := some (21, false) }) (v := .agg #[.int .u64 (E : Nat), .slice (s.a 0) (s.n 0) (s.c 0), .slice (s.a 1) (s.n 1) (s.c 1), .slice (s.a 2) (s.n 2) (s.c 2)]) [24, 25, 26, 27] rfl (by kernel_rfl) (by kernel_rfl) (by kernel_rfl) (by kernel_rfl) (fun _ _ _ h => h) (Or.inl ⟨by rfl, ?_⟩) hS0.out ?_
    · intro W9 hS9
      have c0 : W9.cell? ⟨b1, 0, none⟩ = some (.int .u64 (E : Nat)) := hS9.k1.cell 0
      have c1 : W9.cell? ⟨b1, 1, none⟩ = some (.slice (s.a 0) (s.n 0) (s.c 0)) := hS9.k1.cell 1
      have c2 : W9.cell? ⟨b1, 2, none⟩ = some (.slice (s.a 1) (s.n 1) (s.c 1)) := hS9.k1.cell 2
      have c3 : W9.cell? ⟨b1, 3, none⟩ = some (.slice (s.a 2) (s.n 2) (s.c 2)) := hS9.k1.cell 3
      clear hS9
      go_simp
    try simp only [Act.put, List.setIfInBounds_toArray, List.set_cons_zero, List.set_cons_succ]
    refine wpAnyL_one (i := 24) (o := { dst := some 57, op := Go.Op.call { callee := Go.Callee.value (Go.Operand.func 8), args := #[Go.Operand.tmp 56], argTypes := #[26] }, type := 26, pos := "law.go:52", after := #[{ on := 23, ground := Go.Ground.data }, { on := 21, ground := Go.Ground.chain }, { on := 21, ground := Go.Ground.guard }], guard := some (21, false) }) (by kernel_rfl) rfl (fun K hK => ?_)
    refine step_call_g (by rfl) 8 _ _ rfl (fun _ _ => by kernel_rfl) #[.agg #[.int .u64 (E : Nat), .slice (s.a 0) (s.n 0) (s.c 0), .slice (s.a 1) (s.n 1) (s.c 1), .slice (s.a 2) (s.n 2) (s.c 2)]] (by simp [go_sem]) _ (Tryd.own_any E s r V2 hS0.out.hx) ?_
    rintro e V3 ⟨s7, rfl, hO, hC⟩
    have hS0 := Lib.hid (hS0.out.below hC)
    have HO7 := Lib.hid hO
    clear hO
    clear hC
    refine ⟨_, rfl, ?_⟩
    refine hK.out _ _ (fun _ => hS0.out) ?_
    clear hK K
    try simp only [Act.put, List.setIfInBounds_toArray, List.set_cons_zero, List.set_cons_succ]
    refine wpAnyL_one (i := 25) (o := { dst := some 58, op := Go.Op.call { callee := Go.Callee.value (Go.Operand.func 11), args := #[Go.Operand.tmp 55, Go.Operand.tmp 57], argTypes := #[26, 26] }, type := 4, pos := "law.go:52", after := #[{ on := 22, ground := Go.Ground.data }, { on := 24, ground := Go.Ground.data }, { on := 24, ground := Go.Ground.chain }, { on := 21, ground := Go.Ground.guard }], guard := some (21, false) }) (by kernel_rfl) rfl (fun K hK => ?_)
    refine step_call_g (by rfl) 11 _ _ rfl (fun _ _ => by kernel_rfl) #[.agg #[.int .u64 (E : Nat), .slice (sa.a 0) (sa.n 0) (sa.c 0), .slice (sa.a 1) (sa.n 1) (sa.c 1), .slice (sa.a 2) (sa.n 2) (sa.c 2)], .agg #[.int .u64 (E : Nat), .slice (s7.a 0) (s7.n 0) (s7.c 0), .slice (s7.a 1) (s7.n 1) (s7.c 1), .slice (s7.a 2) (s7.n 2) (s7.c 2)]] (by simp [go_sem]) _ (Tryd.Same_any E E sa s7 (ownR r) (ownR r) V3 hS0.out.ha HO7.out.at (fun k hk => ⟨Nat.le_trans (own_n hS0.out.ha k hk) (by decide), Nat.le_trans (own_n HO7.out.at k hk) (by decide)⟩)) ?_
    rintro e V4 ⟨rfl, hC⟩
    have hS0 := Lib.hid (hS0.out.below hC)
    rw [show sameB E (ownR r) E (ownR r) = true from sameB_iff.2 ⟨rfl, rfl, rfl, rfl⟩]
    clear hC
    refine ⟨_, rfl, ?_⟩
    refine hK.out _ _ (fun _ => hS0.out) ?_
    clear hK K
    try simp only [Act.put, List.setIfInBounds_toArray, List.set_cons_zero, List.set_cons_succ]
    refine wpAnyL_one (i := 26) (o := { dst := some 59, op := Go.Op.unOp Go.UnOp.not 4 (Go.Operand.tmp 58), type := 4, pos := "law.go:52", after := #[{ on := 25, ground := Go.Ground.data }, { on := 21, ground := Go.Ground.guard }], guard := some (21, false) }) (by kernel_rfl) rfl (fun K hK => ?_)
    refine step_value_g (by rfl) (.bool false) (w' := V4) (by go_simp) ?_
    refine hK.out _ _ (fun _ => hS0.out) ?_
    clear hK K
    try simp only [Act.put, List.setIfInBounds_toArray, List.set_cons_zero, List.set_cons_succ]
    refine wpAnyL_one (i := 27) (o := { dst := some 60, op := Go.Op.pick (Go.Operand.tmp 54) (Go.Operand.const (Go.Value.bool true)) (Go.Operand.tmp 59), type := 4, pos := "law.go:52", after := #[{ on := 21, ground := Go.Ground.data }, { on := 26, ground := Go.Ground.data }], guard := none }) (by kernel_rfl) rfl (fun K hK => ?_)
    refine step_value_g (by rfl) (.bool false) (w' := V4) (by go_simp) ?_
    refine hK.out _ _ (fun _ => hS0.out) ?_
    clear hK K
    try simp only [Act.put, List.setIfInBounds_toArray, List.set_cons_zero, List.set_cons_succ]
    refine wpAnyL_end (by kernel_rfl) ?_
    clear hvv hv9 HO7
    obtain ⟨Lr, hLr0⟩ : ∃ L : List Pr, L = [] := ⟨_, rfl⟩
    obtain ⟨Lh, hLh0⟩ : ∃ L : List Pr, L = [] := ⟨_, rfl⟩
    have VO : Hid (PAt V4 (.slice none 0 0) Lr) := Lib.hid (by rw [hLr0]; exact pAt_none _)
    have VH : Hid (PAt V4 (.slice none 0 0) Lh) := Lib.hid (by rw [hLh0]; exact pAt_none _)
    have hLr : Hid ((if rightL E (ownR r) then readyL E (ownR r) else []) = Lr) := Lib.hid (by rw [HR.out, hLr0]; rfl)
    have hLh : Hid ((if rightL E (ownR r) then heldL E (ownR r) else []) = Lh) := Lib.hid (by rw [HR.out, hLh0]; rfl)
    have hLn : Hid (Lr.length ≤ 128 ∧ Lh.length ≤ 128) := Lib.hid (by rw [hLr0, hLh0]; simp)
    clear hLr0 hLh0
    go_upto_region 11 with fail
    refine wp_region_L (fun W' => TlI w b1 b4 b5 E F s sa sb r q W') 6 (by kernel_rfl) ?_
    have hS1 : Hid (TlI w b1 b4 b5 E F s sa sb r q V4.drew) := Lib.hid hS0.out.drew
    have VO1 : Hid (PAt V4.drew (.slice none 0 0) Lr) := Lib.hid VO.out
    have VH1 : Hid (PAt V4.drew (.slice none 0 0) Lh) := Lib.hid VH.out
    clear hS0 VO VH
    have hS0 := hS1
    generalize V4.drew = Wb at *
    have HBb : Hid (Below Wb.heap.size Wb Wb) := Lib.hid (Below.refl _ _)
    refine wpAnyL_takeT (i := 0) (oi := { dst := some 66, op := Go.Op.load 26 (Go.Operand.tmp 7), type := 26, pos := "law.go:59", after := #[], guard := none }) (v := .agg #[.int .u64 (E : Nat), .slice (sa.a 0) (sa.n 0) (sa.c 0), .slice (sa.a 1) (sa.n 1) (sa.c 1), .slice (sa.a 2) (sa.n 2) (sa.c 2)]) [1, 3, 4, 5] rfl (by kernel_rfl) (by kernel_rfl) (by kernel_rfl) (by kernel_rfl) (fun _ _ _ h => h) (Or.inl ⟨by rfl, ?_⟩) hS0.out ?_
    · intro W9 hS9
      have c0 : W9.cell? ⟨b4, 0, none⟩ = some (.int .u64 (E : Nat)) := hS9.a4.cell 0
      have c1 : W9.cell? ⟨b4, 1, none⟩ = some (.slice (sa.a 0) (sa.n 0) (sa.c 0)) := hS9.a4.cell 1
      have c2 : W9.cell? ⟨b4, 2, none⟩ = some (.slice (sa.a 1) (sa.n 1) (sa.c 1)) := hS9.a4.cell 2
      have c3 : W9.cell? ⟨b4, 3, none⟩ = some (.slice (sa.a 2) (sa.n 2) (sa.c 2)) := hS9.a4.cell 3
      clear hS9
      go_simp
    try simp only [Act.put, List.setIfInBounds_toArray, List.set_cons_zero, List.set_cons_succ]
    refine wpAnyL_takeT (i := 2) (oi := { dst := some 68, op := Go.Op.load 26 (Go.Operand.tmp 7), type := 26, pos := "law.go:59", after := #[], guard := none }) (v := .agg #[.int .u64 (E : Nat), .slice (sa.a 0) (sa.n 0) (sa.c 0), .slice (sa.a 1) (sa.n 1) (sa.c 1), .slice (sa.a 2) (sa.n 2) (sa.c 2)]) [3, 4, 5] rfl (by kernel_rfl) (by kernel_rfl) (by kernel_rfl) (by kernel_rfl) (fun _ _ _ h => h) (Or.inl ⟨by rfl, ?_⟩) hS0.out ?_
    · intro W9 hS9
      have c0 : W9.cell? ⟨b4, 0, none⟩ = some (.int .u64 (E : Nat)) := hS9.a4.cell 0
      have c1 : W9.cell? ⟨b4, 1, none⟩ = some (.slice (sa.a 0) (sa.n 0) (sa.c 0)) := hS9.a4.cell 1
      have c2 : W9.cell? ⟨b4, 2, none⟩ = some (.slice (sa.a 1) (sa.n 1) (sa.c 1)) := hS9.a4.cell 2
      have c3 : W9.cell? ⟨b4, 3, none⟩ = some (.slice (sa.a 2) (sa.n 2) (sa.c 2)) := hS9.a4.cell 3
      clear hS9
      go_simp
    try simp only [Act.put, List.setIfInBounds_toArray, List.set_cons_zero, List.set_cons_succ]
    have HRd := Tryd.Ready_any E sa (ownR r) Wb hS0.out.ha HE.out
    rw [hLr.out] at HRd
    refine wpAnyL_one (i := 1) (o := { dst := some 67, op := Go.Op.call { callee := Go.Callee.value (Go.Operand.func 15), args := #[Go.Operand.tmp 66], argTypes := #[26] }, type := 23, pos := "law.go:59", after := #[{ on := 0, ground := Go.Ground.data }], guard := none }) (by kernel_rfl) rfl (fun K hK => ?_)
    refine step_call_g (by rfl) 15 _ _ rfl (fun _ _ => by kernel_rfl) #[.agg #[.int .u64 (E : Nat), .slice (sa.a 0) (sa.n 0) (sa.c 0), .slice (sa.a 1) (sa.n 1) (sa.c 1), .slice (sa.a 2) (sa.n 2) (sa.c 2)]] (by simp [go_sem]) _ (HRd) ?_
    rintro e U3 ⟨vg, rfl, hvg, hC⟩
    have hS0 := Lib.hid (hS0.out.below hC)
    obtain ⟨ag, cg, rfl⟩ := hvg.form
    have HBb := Lib.hid (HBb.out.trans (hC.mono HBb.out.size))
    have HG := Lib.hid hvg
    have HGL := Lib.hid (fun j (ej : (Value.slice ag Lr.length cg).ownBlock = some j) => (World.ownsRow.lt hvg j ej).2)
    have HN3 := Lib.hid hC.size
    clear hvg HRd
    clear hC
    refine ⟨_, rfl, ?_⟩
    refine hK.out _ _ (fun _ => hS0.out) ?_
    clear hK K
    try simp only [Act.put, List.setIfInBounds_toArray, List.set_cons_zero, List.set_cons_succ]
    have HHd := Tryd.Held_any E sa (ownR r) U3 hS0.out.ha HE.out
    rw [hLh.out] at HHd
    refine wpAnyL_one (i := 3) (o := { dst := some 69, op := Go.Op.call { callee := Go.Callee.value (Go.Operand.func 16), args := #[Go.Operand.tmp 68], argTypes := #[26] }, type := 23, pos := "law.go:59", after := #[{ on := 2, ground := Go.Ground.data }, { on := 1, ground := Go.Ground.chain }], guard := none }) (by kernel_rfl) rfl (fun K hK => ?_)
    refine step_call_g (by rfl) 16 _ _ rfl (fun _ _ => by kernel_rfl) #[.agg #[.int .u64 (E : Nat), .slice (sa.a 0) (sa.n 0) (sa.c 0), .slice (sa.a 1) (sa.n 1) (sa.c 1), .slice (sa.a 2) (sa.n 2) (sa.c 2)]] (by simp [go_sem]) _ (HHd) ?_
    rintro e U4 ⟨va, rfl, hva, hC⟩
    have hS0 := Lib.hid (hS0.out.below hC)
    obtain ⟨aa, ca, rfl⟩ := hva.form
    have HBb := Lib.hid (HBb.out.trans (hC.mono HBb.out.size))
    have HG := Lib.hid (HG.out.below hC (Nat.le_refl _))
    have HA := Lib.hid hva
    clear hva HHd
    clear hC
    refine ⟨_, rfl, ?_⟩
    refine hK.out _ _ (fun _ => hS0.out) ?_
    clear hK K
    try simp only [Act.put, List.setIfInBounds_toArray, List.set_cons_zero, List.set_cons_succ]
    refine wpAnyL_one (i := 4) (o := { dst := some 13, op := Go.Op.assign (Go.Operand.tmp 67), type := 23, pos := "law.go:59", after := #[{ on := 1, ground := Go.Ground.data }, { on := 3, ground := Go.Ground.chain }, { on := 0, ground := Go.Ground.phase }, { on := 1, ground := Go.Ground.phase }, { on := 2, ground := Go.Ground.textOnly Go.Departure.lateStores }, { on := 3, ground := Go.Ground.textOnly Go.Departure.lateStoresUnsure }], guard := none }) (by kernel_rfl) rfl (fun K hK => ?_)
    refine step_value_g (by rfl) (.slice ag Lr.length cg) (w' := U4) (by go_simp) ?_
    refine hK.out _ _ (fun _ => hS0.out) ?_
    clear hK K
    try simp only [Act.put, List.setIfInBounds_toArray, List.set_cons_zero, List.set_cons_succ]
    refine wpAnyL_one (i := 5) (o := { dst := some 14, op := Go.Op.assign (Go.Operand.tmp 69), type := 23, pos := "law.go:59", after := #[{ on := 3, ground := Go.Ground.data }, { on := 4, ground := Go.Ground.chain }, { on := 0, ground := Go.Ground.phase }, { on := 1, ground := Go.Ground.phase }, { on := 2, ground := Go.Ground.phase }, { on := 3, ground := Go.Ground.phase }, { on := 4, ground := Go.Ground.phase }], guard := none }) (by kernel_rfl) rfl (fun K hK => ?_)
    refine step_value_g (by rfl) (.slice aa Lh.length ca) (w' := U4) (by go_simp) ?_
    refine hK.out _ _ (fun _ => hS0.out) ?_
    clear hK K
    try simp only [Act.put, List.setIfInBounds_toArray, List.set_cons_zero, List.set_cons_succ]
    refine wpAnyL_end (by kernel_rfl) ?_
    obtain ⟨ng, hng⟩ : ∃ m, m = Lr.length := ⟨_, rfl⟩
    obtain ⟨na, hna⟩ : ∃ m, m = Lh.length := ⟨_, rfl⟩
    rw [← hng] at HG HGL ⊢
    rw [← hna] at HA ⊢
    have HQ1 := Lib.hid (Tryd.equalEntry_any ag none ng 0 cg 0 Lr Lr U4 (OwnsP.at HG.out) (VO1.out.below HBb.out) (by have := hLn.out.1; omega) (by have := hLn.out.1; have := (pAt_len VO1.out).1; omega))
    rw [decide_eq_true (rfl : Lr = Lr)] at HQ1
    have HNG := Lib.hid hng
    have HNA := Lib.hid hna
    clear hng hna hS0
    go_wp2_with fail
    refine HQ1.out.mono ?_
    rintro e U5 ⟨rfl, hC⟩
    have HBb := Lib.hid (HBb.out.trans (hC.mono HBb.out.size))
    have HG := Lib.hid (HG.out.below hC (Nat.le_refl _))
    have HA := Lib.hid (HA.out.below hC (Nat.le_refl _))
    have HQ2 := Lib.hid (Tryd.equalEntry_any aa none na 0 ca 0 Lh Lh U5 (OwnsP.at HA.out) (VH1.out.below HBb.out) (by have := hLn.out.2; have := HNA.out; omega) (by have := hLn.out.2; have := (pAt_len VH1.out).1; omega))
    rw [decide_eq_true (rfl : Lh = Lh)] at HQ2
    clear hC HQ1
    go_wp2_with fail
    refine HQ2.out.mono ?_
    rintro e U6 ⟨rfl, hC⟩
    have HBb := Lib.hid (HBb.out.trans (hC.mono HBb.out.size))
    have HG := Lib.hid (HG.out.below hC (Nat.le_refl _))
    have HA := Lib.hid (HA.out.below hC (Nat.le_refl _))
    have hg128 : ng ≤ 128 := by rw [HNG.out]; exact hLn.out.1
    have ha128 : na ≤ 128 := by rw [HNA.out]; exact hLn.out.2
    have HG' : Hid (∃ l : List Pr, l.length = ng ∧ OwnsP tE Wb.heap.size l (.slice ag ng cg) U6) := Lib.hid ⟨_, HNG.out.symm, HG.out⟩
    have HA' : Hid (∃ l : List Pr, l.length = na ∧ OwnsP tE U3.heap.size l (.slice aa na ca) U6) := Lib.hid ⟨_, HNA.out.symm, HA.out⟩
    clear hC HQ2 HG HA HNG HNA VO1 VH1 hLn hLr hLh
    go_wp2_with fail
    go_loopw [82] (fun j wr => ∃ k : Nat, k ≤ ng ∧ j = .int .i64 k ∧ Hid (∃ l : List Pr, l.length = ng ∧ OwnsP tE Wb.heap.size l (.slice ag ng cg) wr) ∧ Hid (∃ l : List Pr, l.length = na ∧ OwnsP tE U3.heap.size l (.slice aa na ca) wr) ∧ Hid (Below Wb.heap.size Wb wr)) (fun j _ => ng - (intOf j).toNat)
    case atStart => exact ⟨0, Nat.zero_le _, rfl, HG', HA', HBb⟩
    case round =>
      clear HG' HA' HBb
      obtain ⟨k, hk, rfl, hG, hA, hB⟩ := hrel
      by_cases hlt : k < ng
      · obtain ⟨l, hl, hO⟩ := hG.out
        have hkl : k < l.length := by omega
        have hki : (k : Int) < (ng : Int) := by omega
        have hki0 : (0 : Int) ≤ (k : Int) := by omega
        obtain ⟨g, cs, rfl, hg0, hn9, hR9, z0, z1⟩ := hO.block k hkl
        have f9 := hR9.frozen (k * 2 + 1)
        have l9 := hR9.lt
        obtain ⟨x, hx⟩ : ∃ x, x = (l[k]).2 := ⟨_, rfl⟩
        rw [← hx] at z1
        obtain ⟨y, hy⟩ : ∃ y, y = (x + 1) % 18446744073709551616 := ⟨_, rfl⟩
        have hw : IntKind.u64.wrap (((x : Nat) : Int) + 1) = ((y : Nat) : Int) := by rw [IntKind.wrap_u64]; omega
        have HG2 : Hid (∃ l : List Pr, l.length = ng ∧ OwnsP tE Wb.heap.size l (.slice (some ⟨g, 0, none⟩) ng cg) (wr.setCell ⟨g, k * 2 + 1, none⟩ (.int .u64 (y : Nat)))) := Lib.hid ⟨_, by rw [List.length_set]; exact hl, hO.set1 hn9 k hkl y⟩
        have HA2 : Hid (∃ l : List Pr, l.length = na ∧ OwnsP tE U3.heap.size l (.slice aa na ca) (wr.setCell ⟨g, k * 2 + 1, none⟩ (.int .u64 (y : Nat)))) := Lib.hid (by obtain ⟨l2, h1, h2⟩ := hA.out; exact ⟨l2, h1, own_low h2 (HGL.out g rfl) _ _⟩)
        have HB2 := Lib.hid (hB.out.setCell (p := ⟨g, k * 2 + 1, none⟩) hg0 (.int .u64 (y : Nat)))
        clear hG hA hB hl hO hx hy hR9 hn9
        go_wp2_with fail
        exact ⟨⟨k + 1, by omega, by go_num, HG2, HA2, HB2⟩, by simp [intOf]; omega⟩
      · obtain rfl : k = ng := by omega
        have hki : ¬ (k : Int) < (k : Int) := by omega
        have HA' := hA
        have HBb := hB
        clear hG hA hB HGL
        go_wp2_with fail
        go_loopw [96] (fun j wr => ∃ k : Nat, k ≤ na ∧ j = .int .i64 k ∧ Hid (∃ l : List Pr, l.length = na ∧ OwnsP tE U3.heap.size l (.slice aa na ca) wr) ∧ Hid (Below Wb.heap.size Wb wr)) (fun j _ => na - (intOf j).toNat)
        case atStart => exact ⟨0, Nat.zero_le _, rfl, HA', HBb⟩
        case round =>
          clear HA' HBb
          obtain ⟨i, hi, rfl, hA, hB⟩ := hrel
          by_cases hlt2 : i < na
          · obtain ⟨l, hl, hO⟩ := hA.out
            have hkl : i < l.length := by omega
            have hki2 : (i : Int) < (na : Int) := by omega
            have hki0 : (0 : Int) ≤ (i : Int) := by omega
            obtain ⟨g, cs, rfl, hg0, hn9, hR9, z0, z1⟩ := hO.block i hkl
            have f9 := hR9.frozen (i * 2 + 1)
            have l9 := hR9.lt
            obtain ⟨x, hx⟩ : ∃ x, x = (l[i]).2 := ⟨_, rfl⟩
            rw [← hx] at z1
            obtain ⟨y, hy⟩ : ∃ y, y = (x + 1) % 18446744073709551616 := ⟨_, rfl⟩
            have hw : IntKind.u64.wrap (((x : Nat) : Int) + 1) = ((y : Nat) : Int) := by rw [IntKind.wrap_u64]; omega
            have HA2 : Hid (∃ l : List Pr, l.length = na ∧ OwnsP tE U3.heap.size l (.slice (some ⟨g, 0, none⟩) na ca) (wr.setCell ⟨g, i * 2 + 1, none⟩ (.int .u64 (y : Nat)))) := Lib.hid ⟨_, by rw [List.length_set]; exact hl, hO.set1 hn9 i hkl y⟩
            have HB2 := Lib.hid (hB.out.setCell (p := ⟨g, i * 2 + 1, none⟩) (Nat.le_trans HN3.out hg0) (.int .u64 (y : Nat)))
            clear hA hB hl hO hx hy hR9 hn9
            go_wp2_with fail
            exact ⟨⟨i + 1, by omega, by go_num, HA2, HB2⟩, by simp [intOf]; omega⟩
          · obtain rfl : i = na := by omega
            have hki2 : ¬ (i : Int) < (i : Int) := by omega
            have HT := Lib.hid (hS1.out.below hB.out)
            clear hA hB hS1 HN3
            go_upto_block 4 with fail
            go_cut [17] from 17 to 138 (fun s17 wc => Hid (TlI w b1 b4 b5 E F s sa sb r q wc))
            case first =>
              as_aux_lemma =>
                go_wp2_with fail
                go_loopw [110] (fun j wr => ∃ k : Nat, k ≤ n ∧ k ≤ 10 ∧ j = .int .i64 k ∧ Hid (TlI w b1 b4 b5 E F s sa sb r q wr)) (fun j _ => n - (intOf j).toNat)
                case atStart => exact ⟨0, by omega, by omega, rfl, HT⟩
                case round =>
                  clear HT
                  obtain ⟨k3, hk3, hk10, rfl, hX⟩ := hrel
                  by_cases hlt3 : k3 < n
                  · have hkl : k3 < zs.length := by rw [← HN.out]; exact hlt3
                    have hki3 : (k3 : Int) < (n : Int) := by omega
                    have hki0 : (0 : Int) ≤ (k3 : Int) := by omega
                    obtain ⟨bz, oz, rfl, hbz, z0⟩ := intsAt_get (RowAt.below HZ.out hX.out.bl) k3 hkl
                    obtain ⟨z, hz⟩ : ∃ z, z = zs[k3]?.getD 0 := ⟨_, rfl⟩
                    rw [← hz] at z0
                    clear hz hkl
                    by_cases h10 : k3 = 10
                    · subst h10
                      go_wp2_with fail
                      go_meet
                      exact hX
                    · have d10 : ((k3 : Int) == 10) = false := by simp; omega
                      have HWn := Tryd.When_any E sa (ownR r) z wr hX.out.ha HE.out
                      rw [HR.out, if_neg (by decide)] at HWn
                      have HWn : Calls Tryd.prog 18 #[.agg #[.int .u64 (E : Nat), .slice (sa.a 0) (sa.n 0) (sa.c 0), .slice (sa.a 1) (sa.n 1) (sa.c 1), .slice (sa.a 2) (sa.n 2) (sa.c 2)], .int .i64 z] wr fun e w' => e = .returned (.tuple #[.int .u64 0, .bool false]) ∧ Below wr.heap.size wr w' := HWn
                      have HWn := Lib.hid HWn
                      have a4 := hX.out.a4
                      have c0 : wr.cell? ⟨b4, 0, none⟩ = some (.int .u64 (E : Nat)) := a4.cell 0
                      have c1 : wr.cell? ⟨b4, 1, none⟩ = some (.slice (sa.a 0) (sa.n 0) (sa.c 0)) := a4.cell 1
                      have c2 : wr.cell? ⟨b4, 2, none⟩ = some (.slice (sa.a 1) (sa.n 1) (sa.c 1)) := a4.cell 2
                      have c3 : wr.cell? ⟨b4, 3, none⟩ = some (.slice (sa.a 2) (sa.n 2) (sa.c 2)) := a4.cell 3
                      have lt4 := a4.lt
                      clear a4
                      go_wp2_with fail
                      refine HWn.out.mono ?_
                      rintro e U7 ⟨rfl, hC⟩
                      have hX := Lib.hid (hX.out.below hC)
                      clear hC HWn c0 c1 c2 c3 lt4 z0 hbz
                      go_wp2_with fail
                      exact ⟨⟨k3 + 1, by omega, by omega, by go_num, hX⟩, by simp [intOf]; omega⟩
                  · have hki3 : ¬ (k3 : Int) < (n : Int) := by omega
                    go_wp2_with fail
                    go_meet
                    exact hX
            case rest =>
              as_aux_lemma =>
                go_upto_region 35 with fail
                refine wp_region_L (fun W' => TlI w b1 b4 b5 E F s sa sb r q W') 10 (by kernel_rfl) ?_
                have hS0 : Hid (TlI w b1 b4 b5 E F s sa sb r q wc.drew) := Lib.hid hcut.out.drew
                clear hcut
                generalize wc.drew = X0 at *
                refine wpAnyL_takeT (i := 0) (oi := { dst := some 139, op := Go.Op.load 26 (Go.Operand.tmp 7), type := 26, pos := "law.go:82", after := #[], guard := none }) (v := .agg #[.int .u64 (E : Nat), .slice (sa.a 0) (sa.n 0) (sa.c 0), .slice (sa.a 1) (sa.n 1) (sa.c 1), .slice (sa.a 2) (sa.n 2) (sa.c 2)]) [3, 4, 5, 6, 7, 8, 9] rfl (by kernel_rfl) (by kernel_rfl) (by kernel_rfl) (by kernel_rfl) (fun _ _ _ h => h) (Or.inl ⟨by rfl, ?_⟩) hS0.out ?_
                · intro W9 hS9
                  have c0 : W9.cell? ⟨b4, 0, none⟩ = some (.int .u64 (E : Nat)) := hS9.a4.cell 0
                  have c1 : W9.cell? ⟨b4, 1, none⟩ = some (.slice (sa.a 0) (sa.n 0) (sa.c 0)) := hS9.a4.cell 1
                  have c2 : W9.cell? ⟨b4, 2, none⟩ = some (.slice (sa.a 1) (sa.n 1) (sa.c 1)) := hS9.a4.cell 2
                  have c3 : W9.cell? ⟨b4, 3, none⟩ = some (.slice (sa.a 2) (sa.n 2) (sa.c 2)) := hS9.a4.cell 3
                  clear hS9
                  go_simp
                try simp only [Act.put, List.setIfInBounds_toArray, List.set_cons_zero, List.set_cons_succ]
                refine wpAnyL_takeT (i := 1) (oi := { dst := some 140, op := Go.Op.load 26 (Go.Operand.tmp 3), type := 26, pos := "law.go:82", after := #[], guard := none }) (v := .agg #[.int .u64 (E : Nat), .slice (s.a 0) (s.n 0) (s.c 0), .slice (s.a 1) (s.n 1) (s.c 1), .slice (s.a 2) (s.n 2) (s.c 2)]) [2, 3, 4, 5, 6, 7, 8, 9] rfl (by kernel_rfl) (by kernel_rfl) (by kernel_rfl) (by kernel_rfl) (fun _ _ _ h => h) (Or.inl ⟨by rfl, ?_⟩) hS0.out ?_
                · intro W9 hS9
                  have c0 : W9.cell? ⟨b1, 0, none⟩ = some (.int .u64 (E : Nat)) := hS9.k1.cell 0
                  have c1 : W9.cell? ⟨b1, 1, none⟩ = some (.slice (s.a 0) (s.n 0) (s.c 0)) := hS9.k1.cell 1
                  have c2 : W9.cell? ⟨b1, 2, none⟩ = some (.slice (s.a 1) (s.n 1) (s.c 1)) := hS9.k1.cell 2
                  have c3 : W9.cell? ⟨b1, 3, none⟩ = some (.slice (s.a 2) (s.n 2) (s.c 2)) := hS9.k1.cell 3
                  clear hS9
                  go_simp
                try simp only [Act.put, List.setIfInBounds_toArray, List.set_cons_zero, List.set_cons_succ]
                refine wpAnyL_one (i := 2) (o := { dst := some 141, op := Go.Op.call { callee := Go.Callee.value (Go.Operand.func 8), args := #[Go.Operand.tmp 140], argTypes := #[26] }, type := 26, pos := "law.go:82", after := #[{ on := 1, ground := Go.Ground.data }], guard := none }) (by kernel_rfl) rfl (fun K hK => ?_)
                refine step_call_g (by rfl) 8 _ _ rfl (fun _ _ => by kernel_rfl) #[.agg #[.int .u64 (E : Nat), .slice (s.a 0) (s.n 0) (s.c 0), .slice (s.a 1) (s.n 1) (s.c 1), .slice (s.a 2) (s.n 2) (s.c 2)]] (by simp [go_sem]) _ (Tryd.own_any E s r X0 hS0.out.hx) ?_
                rintro e X1 ⟨s8, rfl, hO, hC⟩
                have hS0 := Lib.hid (hS0.out.below hC)
                have HO8 := Lib.hid hO
                clear hO
                clear hC
                refine ⟨_, rfl, ?_⟩
                refine hK.out _ _ (fun _ => hS0.out) ?_
                clear hK K
                try simp only [Act.put, List.setIfInBounds_toArray, List.set_cons_zero, List.set_cons_succ]
                refine wpAnyL_one (i := 3) (o := { dst := some 142, op := Go.Op.call { callee := Go.Callee.value (Go.Operand.func 12), args := #[Go.Operand.tmp 139, Go.Operand.tmp 141], argTypes := #[26, 26] }, type := 4, pos := "law.go:82", after := #[{ on := 0, ground := Go.Ground.data }, { on := 2, ground := Go.Ground.data }, { on := 2, ground := Go.Ground.chain }], guard := none }) (by kernel_rfl) rfl (fun K hK => ?_)
                refine step_call_g (by rfl) 12 _ _ rfl (fun _ _ => by kernel_rfl) #[.agg #[.int .u64 (E : Nat), .slice (sa.a 0) (sa.n 0) (sa.c 0), .slice (sa.a 1) (sa.n 1) (sa.c 1), .slice (sa.a 2) (sa.n 2) (sa.c 2)], .agg #[.int .u64 (E : Nat), .slice (s8.a 0) (s8.n 0) (s8.c 0), .slice (s8.a 1) (s8.n 1) (s8.c 1), .slice (s8.a 2) (s8.n 2) (s8.c 2)]] (by simp [go_sem]) _ (Tryd.refSame_any E E sa s8 (ownR r) (ownR r) X1 hS0.out.ha HO8.out.at (fun k hk => ⟨Nat.le_trans (own_n hS0.out.ha k hk) (by decide), Nat.le_trans (own_n HO8.out.at k hk) (by decide)⟩)) ?_
                rintro e X2 ⟨rfl, hC⟩
                have hS0 := Lib.hid (hS0.out.below hC)
                rw [show sameB E (ownR r) E (ownR r) = true from sameB_iff.2 ⟨rfl, rfl, rfl, rfl⟩]
                clear hC
                refine ⟨_, rfl, ?_⟩
                refine hK.out _ _ (fun _ => hS0.out) ?_
                clear hK K
                try simp only [Act.put, List.setIfInBounds_toArray, List.set_cons_zero, List.set_cons_succ]
                refine wpAnyL_one (i := 4) (o := { dst := some 143, op := Go.Op.move (Go.Operand.tmp 142), type := 4, pos := "law.go:82", after := #[{ on := 3, ground := Go.Ground.data }, { on := 3, ground := Go.Ground.chain }], guard := none }) (by kernel_rfl) rfl (fun K hK => ?_)
                refine step_value_g (by rfl) (.bool true) (w' := X2) (by go_simp) ?_
                refine hK.out _ _ (fun _ => hS0.out) ?_
                clear hK K
                try simp only [Act.put, List.setIfInBounds_toArray, List.set_cons_zero, List.set_cons_succ]
                refine wpAnyL_takeT (i := 6) (oi := { dst := some 145, op := Go.Op.build 26 #[], type := 26, pos := "law.go:82", after := #[{ on := 4, ground := Go.Ground.guard }], guard := some (4, true) }) (v := .agg #[.int .u64 0, .slice none 0 0, .slice none 0 0, .slice none 0 0]) [7, 8, 9] rfl (by kernel_rfl) (by kernel_rfl) (by kernel_rfl) (by kernel_rfl) (fun _ _ _ h => h) (Or.inl ⟨by rfl, ?_⟩) hS0.out ?_
                · intro W9 hS9
                  clear hS9
                  go_simp
                try simp only [Act.put, List.setIfInBounds_toArray, List.set_cons_zero, List.set_cons_succ]
                refine wpAnyL_one (i := 5) (o := { dst := some 144, op := Go.Op.call { callee := Go.Callee.value (Go.Operand.func 20), args := #[], argTypes := #[] }, type := 26, pos := "law.go:82", after := #[{ on := 4, ground := Go.Ground.chain }, { on := 4, ground := Go.Ground.guard }], guard := some (4, true) }) (by kernel_rfl) rfl (fun K hK => ?_)
                refine step_call_g (by rfl) 20 _ _ rfl (fun _ _ => by kernel_rfl) #[] (by simp [go_sem]) _ (Tryd.New_any X2) ?_
                rintro e X3 ⟨rfl, hC⟩
                have hS0 := Lib.hid (hS0.out.below hC)
                clear hC
                refine ⟨_, rfl, ?_⟩
                refine hK.out _ _ (fun _ => hS0.out) ?_
                clear hK K
                try simp only [Act.put, List.setIfInBounds_toArray, List.set_cons_zero, List.set_cons_succ]
                refine wpAnyL_one (i := 7) (o := { dst := some 146, op := Go.Op.call { callee := Go.Callee.value (Go.Operand.func 12), args := #[Go.Operand.tmp 144, Go.Operand.tmp 145], argTypes := #[26, 26] }, type := 4, pos := "law.go:82", after := #[{ on := 5, ground := Go.Ground.data }, { on := 6, ground := Go.Ground.data }, { on := 5, ground := Go.Ground.chain }, { on := 4, ground := Go.Ground.guard }], guard := some (4, true) }) (by kernel_rfl) rfl (fun K hK => ?_)
                refine step_call_g (by rfl) 12 _ _ rfl (fun _ _ => by kernel_rfl) #[.agg #[.int .u64 0, .slice none 0 0, .slice none 0 0, .slice none 0 0], .agg #[.int .u64 0, .slice none 0 0, .slice none 0 0, .slice none 0 0]] (by simp [go_sem]) _ (show Calls Tryd.prog 12 #[.agg #[.int .u64 0, .slice none 0 0, .slice none 0 0, .slice none 0 0], .agg #[.int .u64 0, .slice none 0 0, .slice none 0 0, .slice none 0 0]] X3 _ from Tryd.refSame_any 0 0 zLs zLs z3 z3 X3 (z3_at _) (z3_at _) (fun k hk => ⟨Nat.zero_le _, Nat.zero_le _⟩)) ?_
                rintro e X4 ⟨rfl, hC⟩
                have hS0 := Lib.hid (hS0.out.below hC)
                rw [show sameB 0 z3 0 z3 = true from sameB_iff.2 ⟨rfl, rfl, rfl, rfl⟩]
                clear hC
                refine ⟨_, rfl, ?_⟩
                refine hK.out _ _ (fun _ => hS0.out) ?_
                clear hK K
                try simp only [Act.put, List.setIfInBounds_toArray, List.set_cons_zero, List.set_cons_succ]
                refine wpAnyL_one (i := 8) (o := { dst := some 147, op := Go.Op.pick (Go.Operand.tmp 143) (Go.Operand.tmp 146) (Go.Operand.const (Go.Value.bool false)), type := 4, pos := "law.go:82", after := #[{ on := 4, ground := Go.Ground.data }, { on := 7, ground := Go.Ground.data }], guard := none }) (by kernel_rfl) rfl (fun K hK => ?_)
                refine step_value_g (by rfl) (.bool true) (w' := X4) (by go_simp) ?_
                refine hK.out _ _ (fun _ => hS0.out) ?_
                clear hK K
                try simp only [Act.put, List.setIfInBounds_toArray, List.set_cons_zero, List.set_cons_succ]
                refine wpAnyL_one (i := 9) (o := { dst := some 6, op := Go.Op.assign (Go.Operand.tmp 147), type := 4, pos := "law.go:82", after := #[{ on := 8, ground := Go.Ground.data }, { on := 7, ground := Go.Ground.chain }, { on := 0, ground := Go.Ground.phase }, { on := 1, ground := Go.Ground.phase }, { on := 2, ground := Go.Ground.phase }, { on := 3, ground := Go.Ground.phase }, { on := 4, ground := Go.Ground.phase }, { on := 5, ground := Go.Ground.phase }, { on := 6, ground := Go.Ground.phase }, { on := 7, ground := Go.Ground.phase }, { on := 8, ground := Go.Ground.phase }], guard := none }) (by kernel_rfl) rfl (fun K hK => ?_)
                refine step_value_g (by rfl) (.bool true) (w' := X4) (by go_simp) ?_
                refine hK.out _ _ (fun _ => hS0.out) ?_
                clear hK K
                try simp only [Act.put, List.setIfInBounds_toArray, List.set_cons_zero, List.set_cons_succ]
                refine wpAnyL_end (by kernel_rfl) ?_
                go_wp2_with fail
                go_ret
                exact ⟨rfl, hS0.out.bl⟩
theorem own : ownKnob Tryd.prog.godebug = none := by kernel_rfl
theorem laidOut : laidOutB Tryd.prog = true := by kernel_rfl
set_option maxRecDepth 100000 in
theorem lifted (os : Os) (started : os.Started) (H : Type) (enc : TypeId × Value → H) :
    ReturnsInHanded {} Tryd.checked os 3 .any (fun w args => (Rows.limboTellsSpec.pre enc Tryd.prog Tryd.f3 [] false w args ∧ laidMetH Tryd.prog [("honeycomb/honeycomblaw14.on", Rows.laid_honeycomb_honeycomblaw14_on)] w) ∧ sizedMet enc Tryd.prog Tryd.f3 (OpenSpec.ofChange Rows.limboTellsSpec) false w args)
      (Rows.limboTellsSpec.post enc Tryd.prog Tryd.f3 false true false false) := by
  refine returnsInHanded_of_change_and (C := Tryd.checked) (X := fun w _ => laidMetH Tryd.prog [("honeycomb/honeycomblaw14.on", Rows.laid_honeycomb_honeycomblaw14_on)] w) (fun _ _ _ hh h => h.of_heap hh) own started (by kernel_rfl) Tryd.func3
    (ChangeSpec.witness_shaped (enc := enc) (C := Tryd.checked) (os := os) (X := fun w _ => laidMetH Tryd.prog [("honeycomb/honeycomblaw14.on", Rows.laid_honeycomb_honeycomblaw14_on)] w) false (World.laidAll Tryd.prog os [("honeycomb/honeycomblaw14.on", Rows.laid_honeycomb_honeycomblaw14_on)]) #[.agg #[.int .u64 0, .slice none 0 0, .slice none 0 0, .slice none 0 0], .agg #[.int .u64 0, .slice none 0 0, .slice none 0 0, .slice none 0 0], .slice none 0 0] 8 (World.laidAll_os _ _ _)
      (World.shaped_of_ZipB (by kernel_rfl) (by kernel_rfl)) (by kernel_rfl) (by kernel_rfl) (by kernel_rfl)
      (by rw [MakeChecks.laidMetH_plain _ _ _ (by kernel_rfl)]; exact laidMet_laidAll _ (by kernel_rfl) (by kernel_rfl))) ?_
  intro W base args ds gs before hval0 hW _ _ hL _
  have hval : ∀ (j : Nat) t v, Tryd.f3.params[j]? = some t → args[j]? = some v → Value.okWide Tryd.prog W .any base t v := hval0
  have hW' := hW
  obtain ⟨p, q, hA0, hV, rfl, _, _⟩ := hW
  have hA : DataW.TrodAll enc Tryd.prog W 0 (fun _ => true) true Tryd.f3.params.toList args.toList ds p := hA0
  rw [Tryd.params3] at hA hval
  have hT := of_laid hL
  obtain ⟨v0, vs0, d0, ds0, p0, q0, hargs, rfl, rfl, h0, r0⟩ := trodAll_cons hA
  obtain ⟨v1, vs1, d1, ds1, p1, q1, rfl, rfl, rfl, h1, r1⟩ := trodAll_cons r0
  obtain ⟨v2, vs2, d2, ds2, p2, q2, rfl, rfl, rfl, h2, r2⟩ := trodAll_cons r1
  obtain ⟨rfl, rfl, rfl⟩ := trodAll_nil r2
  obtain rfl : args = #[v0, v1, v2] := by cases args; simp_all
  obtain ⟨rfl, rfl⟩ := trodVars_none hV
  have k0 := h0
  have lt0 : ∀ x ∈ p0, x.block < W.heap.size := by obtain ⟨m, hm⟩ := k0; exact DataW.trod_lt m _ _ _ hm
  obtain ⟨a0, rfl, w0, u0, t0⟩ := open_limbo (hval 0 26 v0 rfl rfl) h0
  have k1 := h1
  have lt1 : ∀ x ∈ p1, x.block < W.heap.size := by obtain ⟨m, hm⟩ := k1; exact DataW.trod_lt m _ _ _ hm
  obtain ⟨a1, rfl, w1, u1, t1⟩ := open_limbo (hval 1 26 v1 rfl rfl) h1
  obtain ⟨a2, len2, cap2, rfl⟩ := okWide_slice Tryd.underlying27 (hval 2 27 v2 rfl rfl)
  have k2 := h2
  have lt2 : ∀ x ∈ p2, x.block < W.heap.size := by obtain ⟨m, hm⟩ := k2; exact DataW.trod_lt m _ _ _ hm
  obtain ⟨z2, n2, w2⟩ : ∃ zs, len2 = zs.length ∧ IntsAt W (.slice a2 len2 cap2) zs := by
    obtain ⟨fuel, hf⟩ := h2
    exact open_intRow hf
  clear hA0 hval0
  refine (walk a0.e a0.s a0.r a1.e a1.s a1.r a2 len2 cap2 z2 W hT w0 u0 t0 w1 u1 t1 n2 w2).mono fun e W' ⟨he, bel⟩ => ?_
  subst he
  exact ⟨_, rfl, _, _, _, [], _, [], hW', trodAll_mk1 (shut_bool Tryd.underlying4 _), (trodAll_cons_mk (Below.trod laidOut (by kernel_rfl) (of_decide_eq_true (by kernel_rfl)) k0 bel lt0) (trodAll_cons_mk (Below.trod laidOut (by kernel_rfl) (of_decide_eq_true (by kernel_rfl)) k1 bel lt1) (trodAll_cons_mk (Below.trod laidOut (by kernel_rfl) (of_decide_eq_true (by kernel_rfl)) k2 bel lt2) trodAll_mk0))), rfl, bel.frame _, fun h => by cases h⟩
theorem said : Rows.LimboTellsSaid :=
  OpenClaim.holds_of_wide 3 Tryd.f3 rfl rfl rfl rfl rfl rfl rfl ⟨rfl, rfl, rfl, rfl, rfl⟩ rfl rfl rfl rfl rfl (by kernel_rfl) Tryd.func3 (by kernel_rfl)
    (of_decide_eq_true (by kernel_rfl)) (by unfold Func.isWrapper; first | (rw [if_pos (by decide +kernel)]; kernel_rfl) | (rw [if_neg (by decide +kernel)]; exact ⟨rfl, rfl⟩))
    (fun os started H enc _ => lifted os started H enc)
theorem proved : Rows.LimboTellsCardSaid :=
  Claim7.holds_tied_plain_at .later [] [.data] true _ true said (fun _ h => by cases h) (by kernel_rfl) (fun _ h => by cases h) limboTells_row_tie rfl ⟨rfl, rfl⟩ (by kernel_rfl) rfl
    (fun f fn hf hfn => by
      obtain rfl : f = 3 := Option.some.inj ((show Tryd.prog.funcNamed "honeycomb/honeycomblaw14.LimboTells" = some 3 by kernel_rfl).symm.trans hf) |>.symm
      obtain rfl : fn = Tryd.f3 := (Option.some.inj (Tryd.func3.symm.trans hfn)).symm
      exact ⟨by kernel_rfl, fun j t ht => by
        rw [Tryd.params3] at ht
        have hm : t ∈ [26, 26, 27] := by simpa using Array.mem_of_getElem? ht
        have hall : ([26, 26, 27].all fun u => !Tryd.prog.wantsStandIn u) = true := by kernel_rfl
        exact (show Tryd.prog.wantsStandIn t = false by simpa using List.all_eq_true.1 hall t hm)⟩)
    (by kernel_rfl)
end Go.Proofs.YteamlomcdiomkaaDoor.limboTells
