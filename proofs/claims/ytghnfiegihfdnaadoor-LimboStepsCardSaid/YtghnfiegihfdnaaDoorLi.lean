/- Limbo: Same, New. -/
import Derived.Test.YtghnfiegihfdnaaDoorLh
namespace Go.Proofs
set_option maxRecDepth 100000
open Go.RowKit Go.Shelf
attribute [local go_sem] Oper.semAt_some

def sameB (E : Nat) (r : Rw3) (F : Nat) (u : Rw3) : Bool := decide (E = F) && (decide (r 0 = u 0) && (decide (r 1 = u 1) && decide (r 2 = u 2)))
theorem sameB_iff {E F : Nat} {r u : Rw3} : sameB E r F u = true ↔ E = F ∧ r 0 = u 0 ∧ r 1 = u 1 ∧ r 2 = u 2 := by simp [sameB]
def rowsB (r u : Rw3) : Bool := decide (r 0 = u 0) && (decide (r 1 = u 1) && decide (r 2 = u 2))
theorem rowsB_no {r u : Rw3} {k : Nat} (hk : k < 3) (h : r k ≠ u k) : rowsB r u = false := by
  unfold rowsB
  rcases three hk with rfl | rfl | rfl <;> simp [h]
theorem rowsB_yes {r u : Rw3} (h : ∀ k, k < 3 → r k = u k) : rowsB r u = true := by
  unfold rowsB
  simp [h 0 (by omega), h 1 (by omega), h 2 (by omega)]
set_option maxHeartbeats 4000000 in
theorem Tryd.eqFunc_any (B C : Nat) (E F : Value) (s u : Ls) (r q : Rw3) (w : World) (hB : Rows8 w B 26 #[E, .slice (s.a 0) (s.n 0) (s.c 0), .slice (s.a 1) (s.n 1) (s.c 1), .slice (s.a 2) (s.n 2) (s.c 2)]) (hC : Rows8 w C 26 #[F, .slice (u.a 0) (u.n 0) (u.c 0), .slice (u.a 1) (u.n 1) (u.c 1), .slice (u.a 2) (u.n 2) (u.c 2)]) (h1 : LAt w s r) (h2 : LAt w u q) (hl : ∀ k, k < 3 → s.n k ≤ 10000 ∧ u.n k ≤ 10000) :
    Calls Tryd.prog 34 #[.slice (some ⟨B, 1, none⟩) 3 3, .slice (some ⟨C, 1, none⟩) 3 3, .func (.func 17) #[] #[]] w fun e w' => e = .returned (.bool (rowsB r q)) ∧ Below w.heap.size w w' := by
  obtain ⟨z, hz⟩ : ∃ z, z = rowsB r q := ⟨_, rfl⟩
  rw [← hz]
  have HZ := Lib.hid hz
  have HB := Lib.hid hB
  have HC := Lib.hid hC
  have H1 := Lib.hid h1
  have H2 := Lib.hid h2
  have HL := Lib.hid hl
  clear hz hB hC h1 h2 hl
  go_enter Tryd.func34, Tryd.ntmps34
  go_wp2_with fail
  go_loopw [7, 8, 9, 17] (fun _ _ _ j wr => ∃ k : Nat, k ≤ 3 ∧ j = .int .i64 k ∧ Hid (∀ i, i < k → r i = q i) ∧ Hid (Below w.heap.size w wr)) (fun _ _ _ j _ => 3 - (intOf j).toNat)
  case atStart => exact ⟨0, Nat.zero_le _, rfl, Lib.hid (fun i h => absurd h (Nat.not_lt_zero _)), Lib.hid (Below.refl _ _)⟩
  case round =>
    obtain ⟨k, hk, rfl, hx, hb⟩ := hrel
    by_cases hlt : k < 3
    · have hki : (k : Int) < 3 := by omega
      have hki0 : (0 : Int) ≤ (k : Int) := by omega
      have rB := HB.out.below hb.out HB.out.lt
      have rC := HC.out.below hb.out HC.out.lt
      have cB := cellK rB k hlt
      have cC := cellK rC k hlt
      have lB := rB.lt
      have lC := rC.lt
      have hls := HL.out k hlt
      have HE := Lib.hid (Tryd.equalEntry_any (s.a k) (u.a k) (s.n k) (u.n k) (s.c k) (u.c k) (r k) (q k) wr ((H1.out k hlt).below hb.out) ((H2.out k hlt).below hb.out) hls.1 hls.2)
      have HNO := Lib.hid (fun h => rowsB_no (r := r) (u := q) hlt h)
      obtain ⟨y, hy⟩ : ∃ y, y = decide (r k = q k) := ⟨_, rfl⟩
      rw [← hy] at HE
      have HY := Lib.hid hy
      clear rB rC hls hy
      go_wp2_with fail
      refine HE.out.mono ?_
      rintro e w' ⟨rfl, hB2⟩
      have HB2 := Lib.hid (hb.out.trans (hB2.mono hb.out.size))
      clear hB2
      cases y with
      | true =>
        have hE := of_decide_eq_true HY.out.symm
        have HE2 := Lib.hid (fun i (h : i < k + 1) => show r i = q i by rcases (by omega : i < k ∨ i = k) with h | rfl; exact hx.out i h; exact hE)
        clear hE
        go_wp2_with fail
        exact ⟨⟨k + 1, by omega, by go_num, HE2, HB2⟩, by simp [intOf]; omega⟩
      | false =>
        have h9 : Hid (z = false) := Lib.hid (by rw [HZ.out]; exact HNO.out (of_decide_eq_false HY.out.symm))
        go_wp2_with fail
        go_ret
        exact ⟨by rw [h9.out]; rfl, HB2.out⟩
    · obtain rfl : k = 3 := by omega
      have h9 : Hid (z = true) := Lib.hid (by rw [HZ.out]; exact rowsB_yes hx.out)
      clear hx
      go_wp2_with fail
      go_ret
      exact ⟨by rw [h9.out]; rfl, hb.out⟩
set_option maxHeartbeats 4000000 in
theorem Tryd.Same_any (E F : Nat) (s u : Ls) (r q : Rw3) (w : World) (h1 : LAt w s r) (h2 : LAt w u q) (hl : ∀ k, k < 3 → s.n k ≤ 10000 ∧ u.n k ≤ 10000) :
    Calls Tryd.prog 11 #[.agg #[.int .u64 (E : Nat), .slice (s.a 0) (s.n 0) (s.c 0), .slice (s.a 1) (s.n 1) (s.c 1), .slice (s.a 2) (s.n 2) (s.c 2)], .agg #[.int .u64 (F : Nat), .slice (u.a 0) (u.n 0) (u.c 0), .slice (u.a 1) (u.n 1) (u.c 1), .slice (u.a 2) (u.n 2) (u.c 2)]] w fun e w' => e = .returned (.bool (sameB E r F q)) ∧ Below w.heap.size w w' := by
  obtain ⟨W0, hW⟩ : ∃ W, W = (w.alloc (.cells #[.int .u64 (E : Nat), .slice (s.a 0) (s.n 0) (s.c 0), .slice (s.a 1) (s.n 1) (s.c 1), .slice (s.a 2) (s.n 2) (s.c 2)] 26)).alloc (.cells #[.int .u64 (F : Nat), .slice (u.a 0) (u.n 0) (u.c 0), .slice (u.a 1) (u.n 1) (u.c 1), .slice (u.a 2) (u.n 2) (u.c 2)] 26) := ⟨_, rfl⟩
  have hB0 : Below w.heap.size w W0 := by rw [hW]; exact (Rows8.newB).alloc (by simp) _
  have r0 : Rows8 W0 w.heap.size 26 #[.int .u64 (E : Nat), .slice (s.a 0) (s.n 0) (s.c 0), .slice (s.a 1) (s.n 1) (s.c 1), .slice (s.a 2) (s.n 2) (s.c 2)] := by rw [hW]; exact (Rows8.new _ _ _).alloc _
  have r1 : Rows8 W0 (w.heap.size + 1) 26 #[.int .u64 (F : Nat), .slice (u.a 0) (u.n 0) (u.c 0), .slice (u.a 1) (u.n 1) (u.c 1), .slice (u.a 2) (u.n 2) (u.c 2)] := by rw [hW]; exact rows_new2 _ _ _ _
  have HEQ := fun W hB hC hI hJ => Lib.hid (Tryd.eqFunc_any w.heap.size (w.heap.size + 1) (.int .u64 (E : Nat)) (.int .u64 (F : Nat)) s u r q W hB hC hI hJ hl)
  have hzz : sameB E r F q = (decide (E = F) && rowsB r q) := rfl
  rw [hzz]
  clear hzz
  generalize rowsB r q = z at *
  have HS := Lib.hid (And.intro r0 r1)
  have HI1 := Lib.hid (h1.below hB0)
  have HJ1 := Lib.hid (h2.below hB0)
  have HB1 := Lib.hid hB0
  clear h1 h2 hB0 r0 r1 hl
  go_enter Tryd.func11, Tryd.ntmps11
  go_wp2_with fail
  rw [← hW]
  clear hW
  by_cases hE : E = F
  · have HE := Lib.hid hE
    have hd : ((E : Int) == (F : Int)) = true := by simp [hE]
    clear hE
    refine wp_region_X (fun W' => Rows8 W' w.heap.size 26 #[.int .u64 (E : Nat), .slice (s.a 0) (s.n 0) (s.c 0), .slice (s.a 1) (s.n 1) (s.c 1), .slice (s.a 2) (s.n 2) (s.c 2)] ∧ Rows8 W' (w.heap.size + 1) 26 #[.int .u64 (F : Nat), .slice (u.a 0) (u.n 0) (u.c 0), .slice (u.a 1) (u.n 1) (u.c 1), .slice (u.a 2) (u.n 2) (u.c 2)]) 13 (by kernel_rfl) ?_
    have hS0 : Rows8 W0.drew w.heap.size 26 #[.int .u64 (E : Nat), .slice (s.a 0) (s.n 0) (s.c 0), .slice (s.a 1) (s.n 1) (s.c 1), .slice (s.a 2) (s.n 2) (s.c 2)] ∧ Rows8 W0.drew (w.heap.size + 1) 26 #[.int .u64 (F : Nat), .slice (u.a 0) (u.n 0) (u.c 0), .slice (u.a 1) (u.n 1) (u.c 1), .slice (u.a 2) (u.n 2) (u.c 2)] := HS.out
    have HI0 := Lib.hid (show LAt W0.drew s r from HI1.out)
    have HJ0 := Lib.hid (show LAt W0.drew u q from HJ1.out)
    have HB0 := Lib.hid HB1.out.drew
    clear HS HI1 HJ1 HB1
    generalize W0.drew = Wd at *
    refine wpAnyN_take (i := 0) (oi := { dst := some 5, op := Go.Op.fieldAddr 26 (Go.Operand.tmp 2) 0, type := 0, pos := "limbo.go:23", after := #[], guard := none }) (v := .pointer (some ⟨w.heap.size, 0, none⟩)) rfl (by decide) (by kernel_rfl) (by kernel_rfl) (by kernel_rfl) (fun _ _ _ h => h) (Or.inl ⟨by rfl, ?_⟩) hS0 ?_
    · intro W9 hS9
      obtain ⟨q0, q1⟩ := hS9
      clear q0 q1
      go_simp
    try simp only [Act.put, List.setIfInBounds_toArray, List.set_cons_zero, List.set_cons_succ]
    refine wpAnyN_take (i := 1) (oi := { dst := some 6, op := Go.Op.load 22 (Go.Operand.tmp 5), type := 22, pos := "limbo.go:23", after := #[{ on := 0, ground := Go.Ground.data }], guard := none }) (v := .int .u64 (E : Nat)) rfl (by decide) (by kernel_rfl) (by kernel_rfl) (by kernel_rfl) (fun _ _ _ h => h) (Or.inl ⟨by rfl, ?_⟩) hS0 ?_
    · intro W9 hS9
      obtain ⟨q0, q1⟩ := hS9
      have s0 : W9.cell? ⟨w.heap.size, 0, none⟩ = some (.int .u64 (E : Nat)) := q0.cell 0
      clear q0 q1
      go_simp
    try simp only [Act.put, List.setIfInBounds_toArray, List.set_cons_zero, List.set_cons_succ]
    refine wpAnyN_take (i := 2) (oi := { dst := some 7, op := Go.Op.fieldAddr 26 (Go.Operand.tmp 3) 0, type := 0, pos := "limbo.go:23", after := #[], guard := none }) (v := .pointer (some ⟨w.heap.size + 1, 0, none⟩)) rfl (by decide) (by kernel_rfl) (by kernel_rfl) (by kernel_rfl) (fun _ _ _ h => h) (Or.inl ⟨by rfl, ?_⟩) hS0 ?_
    · intro W9 hS9
      obtain ⟨q0, q1⟩ := hS9
      clear q0 q1
      go_simp
    try simp only [Act.put, List.setIfInBounds_toArray, List.set_cons_zero, List.set_cons_succ]
    refine wpAnyN_take (i := 3) (oi := { dst := some 8, op := Go.Op.load 22 (Go.Operand.tmp 7), type := 22, pos := "limbo.go:23", after := #[{ on := 2, ground := Go.Ground.data }], guard := none }) (v := .int .u64 (F : Nat)) rfl (by decide) (by kernel_rfl) (by kernel_rfl) (by kernel_rfl) (fun _ _ _ h => h) (Or.inl ⟨by rfl, ?_⟩) hS0 ?_
    · intro W9 hS9
      obtain ⟨q0, q1⟩ := hS9
      have s0 : W9.cell? ⟨w.heap.size + 1, 0, none⟩ = some (.int .u64 (F : Nat)) := q1.cell 0
      clear q0 q1
      go_simp
    try simp only [Act.put, List.setIfInBounds_toArray, List.set_cons_zero, List.set_cons_succ]
    refine wpAnyN_take (i := 4) (oi := { dst := some 9, op := Go.Op.binOp Go.BinOp.eql 22 (Go.Operand.tmp 6) (Go.Operand.tmp 8) 22, type := 4, pos := "limbo.go:23", after := #[{ on := 1, ground := Go.Ground.data }, { on := 3, ground := Go.Ground.data }], guard := none }) (v := .bool true) rfl (by decide) (by kernel_rfl) (by kernel_rfl) (by kernel_rfl) (fun _ _ _ h => h) (Or.inl ⟨by rfl, ?_⟩) hS0 ?_
    · intro W9 hS9
      obtain ⟨q0, q1⟩ := hS9
      clear q0 q1
      go_simp
    try simp only [Act.put, List.setIfInBounds_toArray, List.set_cons_zero, List.set_cons_succ]
    refine wpAnyN_take (i := 5) (oi := { dst := some 10, op := Go.Op.move (Go.Operand.tmp 9), type := 4, pos := "limbo.go:23", after := #[{ on := 4, ground := Go.Ground.data }], guard := none }) (v := .bool true) rfl (by decide) (by kernel_rfl) (by kernel_rfl) (by kernel_rfl) (fun _ _ _ h => h) (Or.inl ⟨by rfl, ?_⟩) hS0 ?_
    · intro W9 hS9
      obtain ⟨q0, q1⟩ := hS9
      clear q0 q1
      go_simp
    try simp only [Act.put, List.setIfInBounds_toArray, List.set_cons_zero, List.set_cons_succ]
    refine wpAnyN_take (i := 6) (oi := { dst := some 11, op := Go.Op.fieldAddr 26 (Go.Operand.tmp 2) 1, type := 0, pos := "limbo.go:23", after := #[{ on := 5, ground := Go.Ground.guard }], guard := some (5, true) }) (v := .pointer (some ⟨w.heap.size, 1, none⟩)) rfl (by decide) (by kernel_rfl) (by kernel_rfl) (by kernel_rfl) (fun _ _ _ h => h) (Or.inl ⟨by rfl, ?_⟩) hS0 ?_
    · intro W9 hS9
      obtain ⟨q0, q1⟩ := hS9
      clear q0 q1
      go_simp
    try simp only [Act.put, List.setIfInBounds_toArray, List.set_cons_zero, List.set_cons_succ]
    refine wpAnyN_take (i := 7) (oi := { dst := some 12, op := Go.Op.slice 24 (Go.Operand.tmp 11) none none none, type := 59, pos := "limbo.go:23", after := #[{ on := 6, ground := Go.Ground.data }, { on := 5, ground := Go.Ground.guard }], guard := some (5, true) }) (v := .slice (some ⟨w.heap.size, 1, none⟩) 3 3) rfl (by decide) (by kernel_rfl) (by kernel_rfl) (by kernel_rfl) (fun _ _ _ h => h) (Or.inl ⟨by rfl, ?_⟩) hS0 ?_
    · intro W9 hS9
      obtain ⟨q0, q1⟩ := hS9
      clear q0 q1
      first | (go_simp; done) | kernel_rfl
    try simp only [Act.put, List.setIfInBounds_toArray, List.set_cons_zero, List.set_cons_succ]
    refine wpAnyN_take (i := 8) (oi := { dst := some 13, op := Go.Op.fieldAddr 26 (Go.Operand.tmp 3) 1, type := 0, pos := "limbo.go:23", after := #[{ on := 5, ground := Go.Ground.guard }], guard := some (5, true) }) (v := .pointer (some ⟨w.heap.size + 1, 1, none⟩)) rfl (by decide) (by kernel_rfl) (by kernel_rfl) (by kernel_rfl) (fun _ _ _ h => h) (Or.inl ⟨by rfl, ?_⟩) hS0 ?_
    · intro W9 hS9
      obtain ⟨q0, q1⟩ := hS9
      clear q0 q1
      go_simp
    try simp only [Act.put, List.setIfInBounds_toArray, List.set_cons_zero, List.set_cons_succ]
    refine wpAnyN_take (i := 9) (oi := { dst := some 14, op := Go.Op.slice 24 (Go.Operand.tmp 13) none none none, type := 59, pos := "limbo.go:23", after := #[{ on := 8, ground := Go.Ground.data }, { on := 5, ground := Go.Ground.guard }], guard := some (5, true) }) (v := .slice (some ⟨w.heap.size + 1, 1, none⟩) 3 3) rfl (by decide) (by kernel_rfl) (by kernel_rfl) (by kernel_rfl) (fun _ _ _ h => h) (Or.inl ⟨by rfl, ?_⟩) hS0 ?_
    · intro W9 hS9
      obtain ⟨q0, q1⟩ := hS9
      clear q0 q1
      first | (go_simp; done) | kernel_rfl
    try simp only [Act.put, List.setIfInBounds_toArray, List.set_cons_zero, List.set_cons_succ]
    refine wpAnyX_one (i := 10) (o := { dst := some 15, op := Go.Op.call { callee := Go.Callee.value (Go.Operand.func 34), args := #[Go.Operand.tmp 12, Go.Operand.tmp 14, Go.Operand.func 17], argTypes := #[59, 59, 36] }, type := 4, pos := "limbo.go:23", after := #[{ on := 7, ground := Go.Ground.data }, { on := 9, ground := Go.Ground.data }, { on := 5, ground := Go.Ground.chain }, { on := 5, ground := Go.Ground.guard }], guard := some (5, true) }) (by kernel_rfl) rfl (fun K hK => ?_)
    refine step_call_g (by rfl) 34 _ _ rfl (fun _ _ => by kernel_rfl) #[.slice (some ⟨w.heap.size, 1, none⟩) 3 3, .slice (some ⟨w.heap.size + 1, 1, none⟩) 3 3, .func (.func 17) #[] #[]] (by simp [go_sem]) _ (HEQ Wd hS0.1 hS0.2 HI0.out HJ0.out).out ?_
    rintro e w1 ⟨rfl, hC⟩
    refine ⟨_, rfl, ?_⟩
    have hS1 : Rows8 w1 w.heap.size 26 #[.int .u64 (E : Nat), .slice (s.a 0) (s.n 0) (s.c 0), .slice (s.a 1) (s.n 1) (s.c 1), .slice (s.a 2) (s.n 2) (s.c 2)] ∧ Rows8 w1 (w.heap.size + 1) 26 #[.int .u64 (F : Nat), .slice (u.a 0) (u.n 0) (u.c 0), .slice (u.a 1) (u.n 1) (u.c 1), .slice (u.a 2) (u.n 2) (u.c 2)] := ⟨hS0.1.below hC hS0.1.lt, hS0.2.below hC hS0.2.lt⟩
    have HB2 := Lib.hid (HB0.out.trans (hC.mono HB0.out.size))
    clear hC
    refine hK.out _ _ (fun _ => hS1) ?_
    clear hK K
    try simp only [Act.put, List.setIfInBounds_toArray, List.set_cons_zero, List.set_cons_succ]
    refine wpAnyN_take (i := 11) (oi := { dst := some 16, op := Go.Op.pick (Go.Operand.tmp 10) (Go.Operand.tmp 15) (Go.Operand.const (Go.Value.bool false)), type := 4, pos := "limbo.go:23", after := #[{ on := 5, ground := Go.Ground.data }, { on := 10, ground := Go.Ground.data }], guard := none }) (v := .bool z) rfl (by decide) (by kernel_rfl) (by kernel_rfl) (by kernel_rfl) (fun _ _ _ h => h) (Or.inl ⟨by rfl, ?_⟩) hS1 ?_
    · intro W9 hS9
      obtain ⟨q0, q1⟩ := hS9
      clear q0 q1
      go_simp
    try simp only [Act.put, List.setIfInBounds_toArray, List.set_cons_zero, List.set_cons_succ]
    refine wpAnyN_take (i := 12) (oi := { dst := some 4, op := Go.Op.assign (Go.Operand.tmp 16), type := 4, pos := "limbo.go:23", after := #[{ on := 11, ground := Go.Ground.data }, { on := 10, ground := Go.Ground.chain }, { on := 0, ground := Go.Ground.phase }, { on := 1, ground := Go.Ground.phase }, { on := 2, ground := Go.Ground.phase }, { on := 3, ground := Go.Ground.phase }, { on := 4, ground := Go.Ground.phase }, { on := 5, ground := Go.Ground.phase }, { on := 6, ground := Go.Ground.phase }, { on := 7, ground := Go.Ground.phase }, { on := 8, ground := Go.Ground.phase }, { on := 9, ground := Go.Ground.phase }, { on := 10, ground := Go.Ground.phase }, { on := 11, ground := Go.Ground.phase }], guard := none }) (v := .bool z) rfl (by decide) (by kernel_rfl) (by kernel_rfl) (by kernel_rfl) (fun _ _ _ h => h) (Or.inl ⟨by rfl, ?_⟩) hS1 ?_
    · intro W9 hS9
      obtain ⟨q0, q1⟩ := hS9
      clear q0 q1
      go_simp
    try simp only [Act.put, List.setIfInBounds_toArray, List.set_cons_zero, List.set_cons_succ]
    refine wpAnyX_end (by kernel_rfl) ?_
    go_wp2_with fail
    go_ret
    exact ⟨by rw [decide_eq_true HE.out]; rfl, HB2.out⟩
  · have HE := Lib.hid hE
    have hd : ((E : Int) == (F : Int)) = false := by simp; omega
    clear hE
    refine wp_region_X (fun W' => Rows8 W' w.heap.size 26 #[.int .u64 (E : Nat), .slice (s.a 0) (s.n 0) (s.c 0), .slice (s.a 1) (s.n 1) (s.c 1), .slice (s.a 2) (s.n 2) (s.c 2)] ∧ Rows8 W' (w.heap.size + 1) 26 #[.int .u64 (F : Nat), .slice (u.a 0) (u.n 0) (u.c 0), .slice (u.a 1) (u.n 1) (u.c 1), .slice (u.a 2) (u.n 2) (u.c 2)]) 13 (by kernel_rfl) ?_
    have hS0 : Rows8 W0.drew w.heap.size 26 #[.int .u64 (E : Nat), .slice (s.a 0) (s.n 0) (s.c 0), .slice (s.a 1) (s.n 1) (s.c 1), .slice (s.a 2) (s.n 2) (s.c 2)] ∧ Rows8 W0.drew (w.heap.size + 1) 26 #[.int .u64 (F : Nat), .slice (u.a 0) (u.n 0) (u.c 0), .slice (u.a 1) (u.n 1) (u.c 1), .slice (u.a 2) (u.n 2) (u.c 2)] := HS.out
    have HI0 := Lib.hid (show LAt W0.drew s r from HI1.out)
    have HJ0 := Lib.hid (show LAt W0.drew u q from HJ1.out)
    have HB0 := Lib.hid HB1.out.drew
    clear HS HI1 HJ1 HB1
    generalize W0.drew = Wd at *
    refine wpAnyN_take (i := 0) (oi := { dst := some 5, op := Go.Op.fieldAddr 26 (Go.Operand.tmp 2) 0, type := 0, pos := "limbo.go:23", after := #[], guard := none }) (v := .pointer (some ⟨w.heap.size, 0, none⟩)) rfl (by decide) (by kernel_rfl) (by kernel_rfl) (by kernel_rfl) (fun _ _ _ h => h) (Or.inl ⟨by rfl, ?_⟩) hS0 ?_
    · intro W9 hS9
      obtain ⟨q0, q1⟩ := hS9
      clear q0 q1
      go_simp
    try simp only [Act.put, List.setIfInBounds_toArray, List.set_cons_zero, List.set_cons_succ]
    refine wpAnyN_take (i := 1) (oi := { dst := some 6, op := Go.Op.load 22 (Go.Operand.tmp 5), type := 22, pos := "limbo.go:23", after := #[{ on := 0, ground := Go.Ground.data }], guard := none }) (v := .int .u64 (E : Nat)) rfl (by decide) (by kernel_rfl) (by kernel_rfl) (by kernel_rfl) (fun _ _ _ h => h) (Or.inl ⟨by rfl, ?_⟩) hS0 ?_
    · intro W9 hS9
      obtain ⟨q0, q1⟩ := hS9
      have s0 : W9.cell? ⟨w.heap.size, 0, none⟩ = some (.int .u64 (E : Nat)) := q0.cell 0
      clear q0 q1
      go_simp
    try simp only [Act.put, List.setIfInBounds_toArray, List.set_cons_zero, List.set_cons_succ]
    refine wpAnyN_take (i := 2) (oi := { dst := some 7, op := Go.Op.fieldAddr 26 (Go.Operand.tmp 3) 0, type := 0, pos := "limbo.go:23", after := #[], guard := none }) (v := .pointer (some ⟨w.heap.size + 1, 0, none⟩)) rfl (by decide) (by kernel_rfl) (by kernel_rfl) (by kernel_rfl) (fun _ _ _ h => h) (Or.inl ⟨by rfl, ?_⟩) hS0 ?_
    · intro W9 hS9
      obtain ⟨q0, q1⟩ := hS9
      clear q0 q1
      go_simp
    try simp only [Act.put, List.setIfInBounds_toArray, List.set_cons_zero, List.set_cons_succ]
    refine wpAnyN_take (i := 3) (oi := { dst := some 8, op := Go.Op.load 22 (Go.Operand.tmp 7), type := 22, pos := "limbo.go:23", after := #[{ on := 2, ground := Go.Ground.data }], guard := none }) (v := .int .u64 (F : Nat)) rfl (by decide) (by kernel_rfl) (by kernel_rfl) (by kernel_rfl) (fun _ _ _ h => h) (Or.inl ⟨by rfl, ?_⟩) hS0 ?_
    · intro W9 hS9
      obtain ⟨q0, q1⟩ := hS9
      have s0 : W9.cell? ⟨w.heap.size + 1, 0, none⟩ = some (.int .u64 (F : Nat)) := q1.cell 0
      clear q0 q1
      go_simp
    try simp only [Act.put, List.setIfInBounds_toArray, List.set_cons_zero, List.set_cons_succ]
    refine wpAnyN_take (i := 4) (oi := { dst := some 9, op := Go.Op.binOp Go.BinOp.eql 22 (Go.Operand.tmp 6) (Go.Operand.tmp 8) 22, type := 4, pos := "limbo.go:23", after := #[{ on := 1, ground := Go.Ground.data }, { on := 3, ground := Go.Ground.data }], guard := none }) (v := .bool false) rfl (by decide) (by kernel_rfl) (by kernel_rfl) (by kernel_rfl) (fun _ _ _ h => h) (Or.inl ⟨by rfl, ?_⟩) hS0 ?_
    · intro W9 hS9
      obtain ⟨q0, q1⟩ := hS9
      clear q0 q1
      go_simp
    try simp only [Act.put, List.setIfInBounds_toArray, List.set_cons_zero, List.set_cons_succ]
    refine wpAnyN_take (i := 5) (oi := { dst := some 10, op := Go.Op.move (Go.Operand.tmp 9), type := 4, pos := "limbo.go:23", after := #[{ on := 4, ground := Go.Ground.data }], guard := none }) (v := .bool false) rfl (by decide) (by kernel_rfl) (by kernel_rfl) (by kernel_rfl) (fun _ _ _ h => h) (Or.inl ⟨by rfl, ?_⟩) hS0 ?_
    · intro W9 hS9
      obtain ⟨q0, q1⟩ := hS9
      clear q0 q1
      go_simp
    try simp only [Act.put, List.setIfInBounds_toArray, List.set_cons_zero, List.set_cons_succ]
    refine wpAnyN_take (i := 6) (oi := { dst := some 11, op := Go.Op.fieldAddr 26 (Go.Operand.tmp 2) 1, type := 0, pos := "limbo.go:23", after := #[{ on := 5, ground := Go.Ground.guard }], guard := some (5, true) }) (v := undef) rfl (by decide) (by kernel_rfl) (by kernel_rfl) (by kernel_rfl) (fun _ _ _ h => h) (Or.inr ⟨by rfl, rfl⟩) hS0 ?_
    try simp only [Act.put, List.setIfInBounds_toArray, List.set_cons_zero, List.set_cons_succ]
    refine wpAnyN_take (i := 7) (oi := { dst := some 12, op := Go.Op.slice 24 (Go.Operand.tmp 11) none none none, type := 59, pos := "limbo.go:23", after := #[{ on := 6, ground := Go.Ground.data }, { on := 5, ground := Go.Ground.guard }], guard := some (5, true) }) (v := undef) rfl (by decide) (by kernel_rfl) (by kernel_rfl) (by kernel_rfl) (fun _ _ _ h => h) (Or.inr ⟨by rfl, rfl⟩) hS0 ?_
    try simp only [Act.put, List.setIfInBounds_toArray, List.set_cons_zero, List.set_cons_succ]
    refine wpAnyN_take (i := 8) (oi := { dst := some 13, op := Go.Op.fieldAddr 26 (Go.Operand.tmp 3) 1, type := 0, pos := "limbo.go:23", after := #[{ on := 5, ground := Go.Ground.guard }], guard := some (5, true) }) (v := undef) rfl (by decide) (by kernel_rfl) (by kernel_rfl) (by kernel_rfl) (fun _ _ _ h => h) (Or.inr ⟨by rfl, rfl⟩) hS0 ?_
    try simp only [Act.put, List.setIfInBounds_toArray, List.set_cons_zero, List.set_cons_succ]
    refine wpAnyN_take (i := 9) (oi := { dst := some 14, op := Go.Op.slice 24 (Go.Operand.tmp 13) none none none, type := 59, pos := "limbo.go:23", after := #[{ on := 8, ground := Go.Ground.data }, { on := 5, ground := Go.Ground.guard }], guard := some (5, true) }) (v := undef) rfl (by decide) (by kernel_rfl) (by kernel_rfl) (by kernel_rfl) (fun _ _ _ h => h) (Or.inr ⟨by rfl, rfl⟩) hS0 ?_
    try simp only [Act.put, List.setIfInBounds_toArray, List.set_cons_zero, List.set_cons_succ]
    refine wpAnyN_take (i := 10) (oi := { dst := some 15, op := Go.Op.call { callee := Go.Callee.value (Go.Operand.func 34), args := #[Go.Operand.tmp 12, Go.Operand.tmp 14, Go.Operand.func 17], argTypes := #[59, 59, 36] }, type := 4, pos := "limbo.go:23", after := #[{ on := 7, ground := Go.Ground.data }, { on := 9, ground := Go.Ground.data }, { on := 5, ground := Go.Ground.chain }, { on := 5, ground := Go.Ground.guard }], guard := some (5, true) }) (v := undef) rfl (by decide) (by kernel_rfl) (by kernel_rfl) (by kernel_rfl) (fun _ _ _ h => h) (Or.inr ⟨by rfl, rfl⟩) hS0 ?_
    try simp only [Act.put, List.setIfInBounds_toArray, List.set_cons_zero, List.set_cons_succ]
    refine wpAnyN_take (i := 11) (oi := { dst := some 16, op := Go.Op.pick (Go.Operand.tmp 10) (Go.Operand.tmp 15) (Go.Operand.const (Go.Value.bool false)), type := 4, pos := "limbo.go:23", after := #[{ on := 5, ground := Go.Ground.data }, { on := 10, ground := Go.Ground.data }], guard := none }) (v := .bool false) rfl (by decide) (by kernel_rfl) (by kernel_rfl) (by kernel_rfl) (fun _ _ _ h => h) (Or.inl ⟨by rfl, ?_⟩) hS0 ?_
    · intro W9 hS9
      obtain ⟨q0, q1⟩ := hS9
      clear q0 q1
      go_simp
    try simp only [Act.put, List.setIfInBounds_toArray, List.set_cons_zero, List.set_cons_succ]
    refine wpAnyN_take (i := 12) (oi := { dst := some 4, op := Go.Op.assign (Go.Operand.tmp 16), type := 4, pos := "limbo.go:23", after := #[{ on := 11, ground := Go.Ground.data }, { on := 10, ground := Go.Ground.chain }, { on := 0, ground := Go.Ground.phase }, { on := 1, ground := Go.Ground.phase }, { on := 2, ground := Go.Ground.phase }, { on := 3, ground := Go.Ground.phase }, { on := 4, ground := Go.Ground.phase }, { on := 5, ground := Go.Ground.phase }, { on := 6, ground := Go.Ground.phase }, { on := 7, ground := Go.Ground.phase }, { on := 8, ground := Go.Ground.phase }, { on := 9, ground := Go.Ground.phase }, { on := 10, ground := Go.Ground.phase }, { on := 11, ground := Go.Ground.phase }], guard := none }) (v := .bool false) rfl (by decide) (by kernel_rfl) (by kernel_rfl) (by kernel_rfl) (fun _ _ _ h => h) (Or.inl ⟨by rfl, ?_⟩) hS0 ?_
    · intro W9 hS9
      obtain ⟨q0, q1⟩ := hS9
      clear q0 q1
      go_simp
    try simp only [Act.put, List.setIfInBounds_toArray, List.set_cons_zero, List.set_cons_succ]
    refine wpAnyX_end (by kernel_rfl) ?_
    go_wp2_with fail
    go_ret
    exact ⟨by rw [decide_eq_false HE.out]; rfl, HB0.out⟩
theorem Tryd.New_any (w : World) : Calls Tryd.prog 20 #[] w fun e w' => e = .returned (.agg #[.int .u64 0, .slice none 0 0, .slice none 0 0, .slice none 0 0]) ∧ Below w.heap.size w w' := by
  have r0 := Rows8.new w 26 #[.int .u64 0, .slice none 0 0, .slice none 0 0, .slice none 0 0]
  have hB0 : Below w.heap.size w (w.alloc (.cells #[.int .u64 0, .slice none 0 0, .slice none 0 0, .slice none 0 0] 26)) := Rows8.newB
  have HR := Lib.hid r0
  have HB := Lib.hid hB0
  clear r0 hB0
  go_enter Tryd.func20, Tryd.ntmps20
  go_wp2_with fail
  refine bodyPost_ret (results_c1 rfl _ _ w.heap.size _ rfl (load_row HR.out Tryd.underlying26 rfl (by kernel_rfl))) rfl ?_
  exact ⟨rfl, HB.out⟩
end Go.Proofs
