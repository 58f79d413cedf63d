/- PinsMay: which pins may be, are the same, who holds the epoch back, and what is safe, is what the reference tells, for every two, and row of epochs. -/
import Derived.Test.YtdkpenfgeohddaaPv
namespace Go.Proofs
set_option maxRecDepth 100000
open Go.RowKit Go.Shelf
attribute [local go_sem] Oper.semAt_some

theorem intsAt_len {W : World} {a : Option Addr} {n c : Nat} {l : List Int} (h : IntsAt W (.slice a n c) l) : n = l.length ∧ n ≤ c := by
  obtain ⟨_, a', c', e, h1, _⟩ := h
  cases e
  exact ⟨rfl, h1⟩
theorem ints_none (W : World) : IntsAt W (.slice none 0 0) [] :=
  ⟨rfl, none, 0, rfl, Nat.le_refl _, by unfold maxLen; omega, (fun _ => rfl), fun j hj => absurd hj (Nat.not_lt_zero _)⟩
set_option maxHeartbeats 32000000 in
theorem Try.mayP_any (Ex Ey : Int) (ax : Option Addr) (nx cx : Nat) (xl : List Int) (ay : Option Addr) (ny cy : Nat) (yl : List Int) (al : Option Addr) (nl cl : Nat) (l : List Int) (w : World) (hI : WordsAt w (.slice ax nx cx) xl) (hJ : WordsAt w (.slice ay ny cy) yl) (hnl : nl = l.length) (hL : WordsK w (.slice al nl cl) l) (hE : 0 ≤ Ex ∧ Ex < 18446744073709551616) (hS : okW xl) :
    Calls Try.prog 3 #[.agg #[.int .u64 Ex, .slice ax nx cx], .agg #[.int .u64 Ey, .slice ay ny cy], .slice al nl cl] w fun e w' => e = .returned (.bool true) ∧ Below w.heap.size w w' := by
  obtain ⟨U, hU⟩ : ∃ U, U = xl.take 10 := ⟨_, rfl⟩
  obtain ⟨V, hV⟩ : ∃ V, V = yl.take 10 := ⟨_, rfl⟩
  have hUk : okW U := by rw [hU]; exact okW_take hS 10
  have hk : Okp Ex U := ⟨hE, hUk⟩
  have hU10 : U.take 10 = U := by rw [hU, List.take_take]; rfl
  have hUl : U.length ≤ 10 := by rw [hU, List.length_take]; omega
  have hVl : V.length ≤ 10 := by rw [hV, List.length_take]; omega
  obtain ⟨r, hr⟩ : ∃ r, r = rightN Ex U := ⟨_, rfl⟩
  obtain ⟨s, hs⟩ : ∃ s, s = (decide (Ex = Ey) && decide (U = V)) := ⟨_, rfl⟩
  have HR := Lib.hid hr
  have HWk := fun W => Lib.hid (Try.wakes_any W)
  have HOx := fun (W : World) (h : WordsAt W (.slice ax nx cx) xl) => Lib.hid (Try.own_any Ex ax nx cx xl W h)
  have HOy := fun (W : World) (h : WordsAt W (.slice ay ny cy) yl) => Lib.hid (Try.own_any Ey ay ny cy yl W h)
  rw [← hU] at HOx
  rw [← hV] at HOy
  have HRI := fun (W : World) (a : Option Addr) (n c : Nat) (h : WordsAt W (.slice a n c) U) => Lib.hid (show Calls _ 10 #[.agg #[.int .u64 Ex, .slice a n c]] W (fun e w' => e = .returned (.bool r) ∧ Below W.heap.size W w') from by have h1 := Try.refRight_any Ex hE a n c U hUk W h; rw [← hr] at h1; exact h1)
  have HCK := fun (W : World) (a : Option Addr) (n c : Nat) (h : WordsAt W (.slice a n c) U) => Lib.hid (show Calls _ 11 #[.agg #[.int .u64 Ex, .slice a n c]] W (fun e w' => e = .returned (.int .i64 (if r then 0 else 230)) ∧ Below W.heap.size W w') from by have h1 := Try.Check_any Ex hE.1 a n c U W h; rw [← hr] at h1; exact h1)
  have HSM := fun (W : World) (a b : Option Addr) (n c m d : Nat) (h : WordsAt W (.slice a n c) U) (h2 : WordsAt W (.slice b m d) V) => Lib.hid (show Calls _ 12 #[.agg #[.int .u64 Ex, .slice a n c], .agg #[.int .u64 Ey, .slice b m d]] W (fun e w' => e = .returned (.bool s) ∧ Below W.heap.size W w') from by have h3 := Try.Same_any Ex Ey a b n m c d U V W h h2 (by have := (wordsAt_len h).1; omega) (by have := (wordsAt_len h2).1; omega); rw [← hs] at h3; exact h3)
  have HSR := fun (W : World) (a b : Option Addr) (n c m d : Nat) (h : WordsAt W (.slice a n c) U) (h2 : WordsAt W (.slice b m d) V) => Lib.hid (show Calls _ 13 #[.agg #[.int .u64 Ex, .slice a n c], .agg #[.int .u64 Ey, .slice b m d]] W (fun e w' => e = .returned (.bool s) ∧ Below W.heap.size W w') from by have h3 := Try.refSame_any Ex Ey a b n m c d U V W h h2; rw [← hs] at h3; exact h3)
  have HSU := fun (W : World) (a b : Option Addr) (n c m d : Nat) (h : WordsAt W (.slice a n c) U) (h2 : WordsAt W (.slice b m d) U) => Lib.hid (show Calls _ 12 #[.agg #[.int .u64 Ex, .slice a n c], .agg #[.int .u64 Ex, .slice b m d]] W (fun e w' => e = .returned (.bool true) ∧ Below W.heap.size W w') from by have h3 := Try.Same_any Ex Ex a b n m c d U U W h h2 (by have := (wordsAt_len h).1; omega) (by have := (wordsAt_len h2).1; omega); rw [decide_eq_true (rfl : Ex = Ex), decide_eq_true (rfl : U = U)] at h3; exact h3)
  have HSA := fun (G : Int) (X : List Int) (W : World) (a1 a2 : Option Addr) (n1 n2 c1 c2 : Nat) (h1 : WordsAt W (.slice a1 n1 c1) X) (h2 : WordsAt W (.slice a2 n2 c2) X) => Lib.hid (show Calls _ 13 #[.agg #[.int .u64 G, .slice a1 n1 c1], .agg #[.int .u64 G, .slice a2 n2 c2]] W (fun e w' => e = .returned (.bool true) ∧ Below W.heap.size W w') from by have h3 := Try.refSame_any G G a1 a2 n1 n2 c1 c2 X X W h1 h2; rw [decide_eq_true (rfl : G = G), decide_eq_true (rfl : X = X)] at h3; exact h3)
  obtain ⟨o1, o2, ho⟩ : ∃ o1 o2, oldN U = (o1, o2) := ⟨_, _, rfl⟩
  have HO1 := fun (W : World) (a : Option Addr) (n c : Nat) (h : WordsAt W (.slice a n c) U) => Lib.hid (show Calls _ 15 #[.agg #[.int .u64 Ex, .slice a n c]] W (fun e w' => e = .returned (.tuple #[.int .u64 o1, .bool o2]) ∧ Below W.heap.size W w') from by have h1 := Try.refOldest_any Ex a n c U hUk W h; rw [ho] at h1; exact h1)
  have HO2 := fun (W : World) (a : Option Addr) (n c : Nat) (h : WordsAt W (.slice a n c) U) => Lib.hid (show Calls _ 16 #[.agg #[.int .u64 Ex, .slice a n c]] W (fun e w' => e = .returned (.tuple #[.int .u64 (if r then o1 else 0), .bool (if r then o2 else false)]) ∧ Below W.heap.size W w') from by have h1 := Try.OldestP_any Ex hE.1 a n c U hUk W h; unfold oldP at h1; rw [← hr, ho] at h1; cases r <;> exact h1)
  obtain ⟨bk, hbk⟩ : ∃ bk, bk = backN Ex U := ⟨_, rfl⟩
  have hbl : bk.length ≤ 8 := by rw [hbk]; unfold backN; exact trues_len _ 8
  have HB1 := fun (hr1 : r = true) (W : World) (a : Option Addr) (n c : Nat) (h : WordsAt W (.slice a n c) U) => Lib.hid (show Calls _ 14 #[.agg #[.int .u64 Ex, .slice a n c]] W (IntsQ bk W) from by have h1 := Try.refBack_any Ex a n c U hk (by rw [← hr]; exact hr1) W h; rw [← hbk] at h1; exact h1)
  have HB2 := fun (W : World) (a : Option Addr) (n c : Nat) (h : WordsAt W (.slice a n c) U) => Lib.hid (show Calls _ 18 #[.agg #[.int .u64 Ex, .slice a n c]] W (IntsQ (if r then bk else []) W) from by have h1 := Try.BackP_any Ex hE.1 a n c U hUk W h; unfold backP at h1; rw [← hr, ← hbk] at h1; exact h1)
  have HEQ := fun (X : List Int) (hX : X.length ≤ 8) (W : World) (a1 a2 : Option Addr) (n1 n2 c1 c2 : Nat) (h1 : IntsAt W (.slice a1 n1 c1) X) (h2 : IntsAt W (.slice a2 n2 c2) X) => Lib.hid (show Calls _ 17 #[.slice a1 n1 c1, .slice a2 n2 c2] W (fun e w' => e = .returned (.bool true) ∧ Below W.heap.size W w') from by have l1 := intsAt_len h1; have l2 := intsAt_len h2; have h3 := Try.equalInts_any a1 a2 n1 n2 c1 c2 X X l1.1 l2.1 (by omega) (by omega) W h1 h2; rw [decide_eq_true (rfl : X = X)] at h3; exact h3)
  have HSF := fun (z : Int) (hz : 0 ≤ z) (W : World) (a : Option Addr) (n c : Nat) (h : WordsAt W (.slice a n c) U) => Lib.hid (show Calls _ 19 #[.agg #[.int .u64 Ex, .slice a n c], .int .u64 z] W (fun e w' => e = .returned (.bool (if r then safeN Ex z else false)) ∧ Below W.heap.size W w') from by have h1 := Try.SafeP_any Ex z hE hz a n c U W h; rw [← hr] at h1; cases r <;> exact h1)
  have HSG := fun (z : Int) (hz : 0 ≤ z) (W : World) (v : Value) => Lib.hid (Try.refSafe_any Ex z hE hz v W)
  have HNW := fun (g : Int) (W : World) => Lib.hid (Try.NewP_any g W)
  have hB0 : Below w.heap.size w ((w.alloc (.cells #[.int .u64 Ex, .slice ax nx cx] 25)).alloc (.cells #[.int .u64 Ey, .slice ay ny cy] 25)) := (Rows8.newB).alloc (by simp) _
  have r0 := (Rows8.new w 25 #[.int .u64 Ex, .slice ax nx cx]).alloc (.cells #[.int .u64 Ey, .slice ay ny cy] 25)
  have r1 := Rows8.new (w.alloc (.cells #[.int .u64 Ex, .slice ax nx cx] 25)) 25 #[.int .u64 Ey, .slice ay ny cy]
  rw [World.size_alloc] at r1
  have hreach : nl ≤ 9223372036854775807 := by have := (wordsAt_len hL.1).2; unfold maxLen at this; omega
  have HI := Lib.hid hI
  have HJ := Lib.hid hJ
  have HL := Lib.hid hL
  have HBL := Lib.hid hbl
  have HNL := Lib.hid hnl
  have RX := Lib.hid r0
  have RY := Lib.hid r1
  have B0 := Lib.hid hB0
  clear hI hJ hL r0 r1 hB0 hS hE hUk hk hU10 hUl hVl hr hs ho hbk hbl hU hV hnl
  go_enter Try.func3, Try.ntmps3
  go_wp2_with fail
  generalize ((w.alloc (.cells #[.int .u64 Ex, .slice ax nx cx] 25)).alloc (.cells #[.int .u64 Ey, .slice ay ny cy] 25)) = u0 at *
  refine (HWk _).out.mono ?_
  rintro e u2 ⟨rfl, hB⟩
  have RX := Lib.hid (RX.out.below hB RX.out.lt)
  have RY := Lib.hid (RY.out.below hB RY.out.lt)
  have B0 := Lib.hid (B0.out.trans (hB.mono B0.out.size))
  clear hB HWk
  go_upto_region 3 with fail
  refine wp_region_X (fun W' => Rows8 W' w.heap.size 25 #[.int .u64 Ex, .slice ax nx cx] ∧ Rows8 W' (w.heap.size + 1) 25 #[.int .u64 Ey, .slice ay ny cy]) 8 (by kernel_rfl) ?_
  have hS0 : Rows8 u2.drew w.heap.size 25 #[.int .u64 Ex, .slice ax nx cx] ∧ Rows8 u2.drew (w.heap.size + 1) 25 #[.int .u64 Ey, .slice ay ny cy] := ⟨RX.out.drewA, RY.out.drewA⟩
  have hB0 := B0.out.drew
  clear RX RY B0
  generalize u2.drew = Wd at *
  refine Try.may_r3 Ex Ey ax nx cx xl ay ny cy yl al nl cl U V w Wd _ HI HJ HOx HOy hS0 hB0 ?_ (Lib.hid ?_)
  · intro c d v a w h; cases d <;> exact h
  intro bA bB a7 n7 c7 a8 n8 c8 v hA hB hX hRA hRB hPA hPB hBv
  have X9 := Lib.hid hX
  have P1 := Lib.hid hRA
  have P2 := Lib.hid hRB
  have I1 : Hid (WordsAt v (.slice a7 n7 c7) U) := Lib.hid (rowAt_own hPA)
  have I2 : Hid (WordsAt v (.slice a8 n8 c8) V) := Lib.hid (rowAt_own hPB)
  have B := Lib.hid hBv
  clear hS0 hB0 hX hRA hRB hPA hPB hBv HOy hA hB HJ
  have c10 : v.cell? ⟨bA, 0, none⟩ = some (.int .u64 Ex) := P1.out.cell 0
  have c11 : v.cell? ⟨bA, 1, none⟩ = some (.slice a7 n7 c7) := P1.out.cell 1
  have HCl := HRI v _ _ _ I1.out
  clear HRI
  go_wp2_with fail
  refine HCl.out.mono ?_
  rintro e w1 ⟨rfl, hB⟩
  clear c10 c11
  have X9 := Lib.hid (X9.out.below hB X9.out.lt)
  have P1 := Lib.hid (P1.out.below hB P1.out.lt)
  have I1 : Hid (WordsAt w1 (.slice a7 n7 c7) U) := Lib.hid (RowAt.below I1.out hB)
  have P2 := Lib.hid (P2.out.below hB P2.out.lt)
  have I2 : Hid (WordsAt w1 (.slice a8 n8 c8) V) := Lib.hid (RowAt.below I2.out hB)
  have B := Lib.hid (B.out.trans (hB.mono B.out.size))
  clear hB HCl
  obtain ⟨i0, hi, hz0, hz1, hz2⟩ := info_parts Try.infoWord
  cases r with
  | false =>
    as_aux_lemma =>
      have c10 : w1.cell? ⟨bA, 0, none⟩ = some (.int .u64 Ex) := P1.out.cell 0
      have c11 : w1.cell? ⟨bA, 1, none⟩ = some (.slice a7 n7 c7) := P1.out.cell 1
      have HCl := Lib.hid (show Calls _ 11 #[.agg #[.int .u64 Ex, .slice a7 n7 c7]] w1 (fun e w' => e = .returned (.int .i64 230) ∧ Below w1.heap.size w1 w') from (HCK w1 _ _ _ I1.out).out)
      clear HCK
      go_wp2_with fail
      refine HCl.out.mono ?_
      rintro e w2 ⟨rfl, hB⟩
      clear c10 c11
      have X9 := Lib.hid (X9.out.below hB X9.out.lt)
      have P1 := Lib.hid (P1.out.below hB P1.out.lt)
      have I1 : Hid (WordsAt w2 (.slice a7 n7 c7) U) := Lib.hid (RowAt.below I1.out hB)
      have P2 := Lib.hid (P2.out.below hB P2.out.lt)
      have I2 : Hid (WordsAt w2 (.slice a8 n8 c8) V) := Lib.hid (RowAt.below I2.out hB)
      have B := Lib.hid (B.out.trans (hB.mono B.out.size))
      clear hB HCl
      go_wp2_with fail
      refine wp_region_X (fun W' => Rows8 W' w.heap.size 25 #[.int .u64 Ex, .slice ax nx cx] ∧ Rows8 W' bA 25 #[.int .u64 Ex, .slice a7 n7 c7] ∧ Rows8 W' bB 25 #[.int .u64 Ey, .slice a8 n8 c8]) 28 (by kernel_rfl) ?_
      have hS0 : Rows8 w2.drew w.heap.size 25 #[.int .u64 Ex, .slice ax nx cx] ∧ Rows8 w2.drew bA 25 #[.int .u64 Ex, .slice a7 n7 c7] ∧ Rows8 w2.drew bB 25 #[.int .u64 Ey, .slice a8 n8 c8] := ⟨X9.out.drewA, P1.out.drewA, P2.out.drewA⟩
      have I1 : Hid (WordsAt w2.drew (.slice a7 n7 c7) U) := Lib.hid I1.out
      have I2 : Hid (WordsAt w2.drew (.slice a8 n8 c8) V) := Lib.hid I2.out
      have B := Lib.hid B.out.drew
      clear X9 P1 P2
      generalize w2.drew = Wd at *
      refine wpAnyN_take (i := 0) (oi := { dst := some 32, op := Go.Op.move (Go.Operand.tmp 10), type := 29, pos := "law.go:41", after := #[], guard := none }) (v := .int .i64 230) rfl (by decide) (by kernel_rfl) (by kernel_rfl) (by kernel_rfl) (fun _ _ _ h => h) (Or.inl ⟨by rfl, ?_⟩) hS0 ?_
      · intro W9 hS9
        obtain ⟨q0, q1, q2⟩ := hS9
        clear q0 q1 q2
        go_simp
      try simp only [Act.put, List.setIfInBounds_toArray, List.set_cons_zero, List.set_cons_succ]
      refine wpAnyN_take (i := 1) (oi := { dst := some 33, op := Go.Op.binOp Go.BinOp.eql 29 (Go.Operand.tmp 32) (Go.Operand.const (Go.Value.int Go.IntKind.i64 0)) 29, type := 4, pos := "law.go:41", after := #[{ on := 0, ground := Go.Ground.data }], guard := none }) (v := .bool false) rfl (by decide) (by kernel_rfl) (by kernel_rfl) (by kernel_rfl) (fun _ _ _ h => h) (Or.inl ⟨by rfl, ?_⟩) hS0 ?_
      · intro W9 hS9
        obtain ⟨q0, q1, q2⟩ := hS9
        clear q0 q1 q2
        go_simp
      try simp only [Act.put, List.setIfInBounds_toArray, List.set_cons_zero, List.set_cons_succ]
      refine wpAnyN_take (i := 2) (oi := { dst := some 34, op := Go.Op.move (Go.Operand.tmp 9), type := 4, pos := "law.go:41", after := #[], guard := none }) (v := .bool false) rfl (by decide) (by kernel_rfl) (by kernel_rfl) (by kernel_rfl) (fun _ _ _ h => h) (Or.inl ⟨by rfl, ?_⟩) hS0 ?_
      · intro W9 hS9
        obtain ⟨q0, q1, q2⟩ := hS9
        clear q0 q1 q2
        go_simp
      try simp only [Act.put, List.setIfInBounds_toArray, List.set_cons_zero, List.set_cons_succ]
      refine wpAnyN_take (i := 3) (oi := { dst := some 35, op := Go.Op.binOp Go.BinOp.neq 4 (Go.Operand.tmp 33) (Go.Operand.tmp 34) 4, type := 4, pos := "law.go:41", after := #[{ on := 1, ground := Go.Ground.data }, { on := 2, ground := Go.Ground.data }], guard := none }) (v := .bool false) rfl (by decide) (by kernel_rfl) (by kernel_rfl) (by kernel_rfl) (fun _ _ _ h => h) (Or.inl ⟨by rfl, ?_⟩) hS0 ?_
      · intro W9 hS9
        obtain ⟨q0, q1, q2⟩ := hS9
        clear q0 q1 q2
        go_simp
      try simp only [Act.put, List.setIfInBounds_toArray, List.set_cons_zero, List.set_cons_succ]
      refine wpAnyN_take (i := 4) (oi := { dst := some 36, op := Go.Op.move (Go.Operand.tmp 35), type := 4, pos := "law.go:41", after := #[{ on := 3, ground := Go.Ground.data }], guard := none }) (v := .bool false) rfl (by decide) (by kernel_rfl) (by kernel_rfl) (by kernel_rfl) (fun _ _ _ h => h) (Or.inl ⟨by rfl, ?_⟩) hS0 ?_
      · intro W9 hS9
        obtain ⟨q0, q1, q2⟩ := hS9
        clear q0 q1 q2
        go_simp
      try simp only [Act.put, List.setIfInBounds_toArray, List.set_cons_zero, List.set_cons_succ]
      refine wpAnyN_take (i := 5) (oi := { dst := some 37, op := Go.Op.move (Go.Operand.tmp 10), type := 29, pos := "law.go:41", after := #[{ on := 4, ground := Go.Ground.guard }], guard := some (4, false) }) (v := .int .i64 230) rfl (by decide) (by kernel_rfl) (by kernel_rfl) (by kernel_rfl) (fun _ _ _ h => h) (Or.inl ⟨by rfl, ?_⟩) hS0 ?_
      · intro W9 hS9
        obtain ⟨q0, q1, q2⟩ := hS9
        clear q0 q1 q2
        go_simp
      try simp only [Act.put, List.setIfInBounds_toArray, List.set_cons_zero, List.set_cons_succ]
      refine wpAnyN_take (i := 6) (oi := { dst := some 38, op := Go.Op.binOp Go.BinOp.neq 29 (Go.Operand.tmp 37) (Go.Operand.const (Go.Value.int Go.IntKind.i64 0)) 29, type := 4, pos := "law.go:41", after := #[{ on := 5, ground := Go.Ground.data }, { on := 4, ground := Go.Ground.guard }], guard := some (4, false) }) (v := .bool true) rfl (by decide) (by kernel_rfl) (by kernel_rfl) (by kernel_rfl) (fun _ _ _ h => h) (Or.inl ⟨by rfl, ?_⟩) hS0 ?_
      · intro W9 hS9
        obtain ⟨q0, q1, q2⟩ := hS9
        clear q0 q1 q2
        go_simp
      try simp only [Act.put, List.setIfInBounds_toArray, List.set_cons_zero, List.set_cons_succ]
      refine wpAnyN_take (i := 7) (oi := { dst := some 39, op := Go.Op.move (Go.Operand.tmp 38), type := 4, pos := "law.go:41", after := #[{ on := 6, ground := Go.Ground.data }, { on := 4, ground := Go.Ground.chain }, { on := 4, ground := Go.Ground.guard }], guard := some (4, false) }) (v := .bool true) rfl (by decide) (by kernel_rfl) (by kernel_rfl) (by kernel_rfl) (fun _ _ _ h => h) (Or.inl ⟨by rfl, ?_⟩) hS0 ?_
      · intro W9 hS9
        obtain ⟨q0, q1, q2⟩ := hS9
        clear q0 q1 q2
        go_simp
      try simp only [Act.put, List.setIfInBounds_toArray, List.set_cons_zero, List.set_cons_succ]
      refine wpAnyN_take (i := 8) (oi := { dst := some 40, op := Go.Op.move (Go.Operand.tmp 10), type := 29, pos := "law.go:41", after := #[{ on := 7, ground := Go.Ground.guard }], guard := some (7, true) }) (v := .int .i64 230) rfl (by decide) (by kernel_rfl) (by kernel_rfl) (by kernel_rfl) (fun _ _ _ h => h) (Or.inl ⟨by rfl, ?_⟩) hS0 ?_
      · intro W9 hS9
        obtain ⟨q0, q1, q2⟩ := hS9
        clear q0 q1 q2
        go_simp
      try simp only [Act.put, List.setIfInBounds_toArray, List.set_cons_zero, List.set_cons_succ]
      refine wpAnyN_take (i := 9) (oi := { dst := some 41, op := Go.Op.binOp Go.BinOp.neq 29 (Go.Operand.tmp 40) (Go.Operand.const (Go.Value.int Go.IntKind.i64 230)) 29, type := 4, pos := "law.go:41", after := #[{ on := 8, ground := Go.Ground.data }, { on := 7, ground := Go.Ground.guard }], guard := some (7, true) }) (v := .bool false) rfl (by decide) (by kernel_rfl) (by kernel_rfl) (by kernel_rfl) (fun _ _ _ h => h) (Or.inl ⟨by rfl, ?_⟩) hS0 ?_
      · intro W9 hS9
        obtain ⟨q0, q1, q2⟩ := hS9
        clear q0 q1 q2
        go_simp
      try simp only [Act.put, List.setIfInBounds_toArray, List.set_cons_zero, List.set_cons_succ]
      refine wpAnyN_take (i := 10) (oi := { dst := some 42, op := Go.Op.pick (Go.Operand.tmp 39) (Go.Operand.tmp 41) (Go.Operand.const (Go.Value.bool false)), type := 4, pos := "law.go:41", after := #[{ on := 7, ground := Go.Ground.data }, { on := 9, ground := Go.Ground.data }, { on := 4, ground := Go.Ground.guard }], guard := some (4, false) }) (v := .bool false) rfl (by decide) (by kernel_rfl) (by kernel_rfl) (by kernel_rfl) (fun _ _ _ h => h) (Or.inl ⟨by rfl, ?_⟩) hS0 ?_
      · intro W9 hS9
        obtain ⟨q0, q1, q2⟩ := hS9
        clear q0 q1 q2
        go_simp
      try simp only [Act.put, List.setIfInBounds_toArray, List.set_cons_zero, List.set_cons_succ]
      refine wpAnyN_take (i := 11) (oi := { dst := some 43, op := Go.Op.pick (Go.Operand.tmp 36) (Go.Operand.const (Go.Value.bool true)) (Go.Operand.tmp 42), type := 4, pos := "law.go:41", after := #[{ on := 4, ground := Go.Ground.data }, { on := 10, ground := Go.Ground.data }], guard := none }) (v := .bool false) rfl (by decide) (by kernel_rfl) (by kernel_rfl) (by kernel_rfl) (fun _ _ _ h => h) (Or.inl ⟨by rfl, ?_⟩) hS0 ?_
      · intro W9 hS9
        obtain ⟨q0, q1, q2⟩ := hS9
        clear q0 q1 q2
        go_simp
      try simp only [Act.put, List.setIfInBounds_toArray, List.set_cons_zero, List.set_cons_succ]
      refine wpAnyN_take (i := 12) (oi := { dst := some 44, op := Go.Op.move (Go.Operand.tmp 43), type := 4, pos := "law.go:41", after := #[{ on := 11, ground := Go.Ground.data }, { on := 7, ground := Go.Ground.chain }], guard := none }) (v := .bool false) rfl (by decide) (by kernel_rfl) (by kernel_rfl) (by kernel_rfl) (fun _ _ _ h => h) (Or.inl ⟨by rfl, ?_⟩) hS0 ?_
      · intro W9 hS9
        obtain ⟨q0, q1, q2⟩ := hS9
        clear q0 q1 q2
        go_simp
      try simp only [Act.put, List.setIfInBounds_toArray, List.set_cons_zero, List.set_cons_succ]
      refine wpAnyN_take (i := 13) (oi := { dst := some 45, op := Go.Op.load 25 (Go.Operand.tmp 7), type := 25, pos := "law.go:41", after := #[{ on := 12, ground := Go.Ground.guard }], guard := some (12, false) }) (v := .agg #[.int .u64 Ex, .slice a7 n7 c7]) rfl (by decide) (by kernel_rfl) (by kernel_rfl) (by kernel_rfl) (fun _ _ _ h => h) (Or.inl ⟨by rfl, ?_⟩) hS0 ?_
      · intro W9 hS9
        obtain ⟨q0, q1, q2⟩ := hS9
        have s0 : W9.cell? ⟨bA, 0, none⟩ = some (.int .u64 Ex) := q1.cell 0
        have s1 : W9.cell? ⟨bA, 1, none⟩ = some (.slice a7 n7 c7) := q1.cell 1
        clear q0 q1 q2
        go_simp
      try simp only [Act.put, List.setIfInBounds_toArray, List.set_cons_zero, List.set_cons_succ]
      refine wpAnyN_take (i := 14) (oi := { dst := some 46, op := Go.Op.load 25 (Go.Operand.tmp 8), type := 25, pos := "law.go:41", after := #[{ on := 12, ground := Go.Ground.guard }], guard := some (12, false) }) (v := .agg #[.int .u64 Ey, .slice a8 n8 c8]) rfl (by decide) (by kernel_rfl) (by kernel_rfl) (by kernel_rfl) (fun _ _ _ h => h) (Or.inl ⟨by rfl, ?_⟩) hS0 ?_
      · intro W9 hS9
        obtain ⟨q0, q1, q2⟩ := hS9
        have s0 : W9.cell? ⟨bB, 0, none⟩ = some (.int .u64 Ey) := q2.cell 0
        have s1 : W9.cell? ⟨bB, 1, none⟩ = some (.slice a8 n8 c8) := q2.cell 1
        clear q0 q1 q2
        go_simp
      try simp only [Act.put, List.setIfInBounds_toArray, List.set_cons_zero, List.set_cons_succ]
      refine wpAnyN_take (i := 16) (oi := { dst := some 48, op := Go.Op.load 25 (Go.Operand.tmp 7), type := 25, pos := "law.go:41", after := #[{ on := 12, ground := Go.Ground.guard }], guard := some (12, false) }) (v := .agg #[.int .u64 Ex, .slice a7 n7 c7]) rfl (by decide) (by kernel_rfl) (by kernel_rfl) (by kernel_rfl) (fun _ _ _ h => h) (Or.inl ⟨by rfl, ?_⟩) hS0 ?_
      · intro W9 hS9
        obtain ⟨q0, q1, q2⟩ := hS9
        have s0 : W9.cell? ⟨bA, 0, none⟩ = some (.int .u64 Ex) := q1.cell 0
        have s1 : W9.cell? ⟨bA, 1, none⟩ = some (.slice a7 n7 c7) := q1.cell 1
        clear q0 q1 q2
        go_simp
      try simp only [Act.put, List.setIfInBounds_toArray, List.set_cons_zero, List.set_cons_succ]
      refine wpAnyN_take (i := 17) (oi := { dst := some 49, op := Go.Op.load 25 (Go.Operand.tmp 8), type := 25, pos := "law.go:41", after := #[{ on := 12, ground := Go.Ground.guard }], guard := some (12, false) }) (v := .agg #[.int .u64 Ey, .slice a8 n8 c8]) rfl (by decide) (by kernel_rfl) (by kernel_rfl) (by kernel_rfl) (fun _ _ _ h => h) (Or.inl ⟨by rfl, ?_⟩) hS0 ?_
      · intro W9 hS9
        obtain ⟨q0, q1, q2⟩ := hS9
        have s0 : W9.cell? ⟨bB, 0, none⟩ = some (.int .u64 Ey) := q2.cell 0
        have s1 : W9.cell? ⟨bB, 1, none⟩ = some (.slice a8 n8 c8) := q2.cell 1
        clear q0 q1 q2
        go_simp
      try simp only [Act.put, List.setIfInBounds_toArray, List.set_cons_zero, List.set_cons_succ]
      refine wpAnyX_one (i := 15) (o := { dst := some 47, op := Go.Op.call { callee := Go.Callee.value (Go.Operand.func 12), args := #[Go.Operand.tmp 45, Go.Operand.tmp 46], argTypes := #[25, 25] }, type := 4, pos := "law.go:41", after := #[{ on := 13, ground := Go.Ground.data }, { on := 14, ground := Go.Ground.data }, { on := 12, ground := Go.Ground.chain }, { on := 12, ground := Go.Ground.guard }], guard := some (12, false) }) (by kernel_rfl) rfl (fun K hK => ?_)
      refine step_call_g (by rfl) 12 _ _ rfl (fun _ _ => by kernel_rfl) #[.agg #[.int .u64 Ex, .slice a7 n7 c7], .agg #[.int .u64 Ey, .slice a8 n8 c8]] (by simp [go_sem]) _ (HSM Wd _ _ _ _ _ _ I1.out I2.out).out ?_
      rintro e y1 ⟨rfl, hC⟩
      refine ⟨_, rfl, ?_⟩
      have hS1 : Rows8 y1 w.heap.size 25 #[.int .u64 Ex, .slice ax nx cx] ∧ Rows8 y1 bA 25 #[.int .u64 Ex, .slice a7 n7 c7] ∧ Rows8 y1 bB 25 #[.int .u64 Ey, .slice a8 n8 c8] := ⟨hS0.1.below hC hS0.1.lt, hS0.2.1.below hC hS0.2.1.lt, hS0.2.2.below hC hS0.2.2.lt⟩
      have I1 : Hid (WordsAt y1 (.slice a7 n7 c7) U) := Lib.hid (RowAt.below I1.out hC)
      have I2 : Hid (WordsAt y1 (.slice a8 n8 c8) V) := Lib.hid (RowAt.below I2.out hC)
      have B := Lib.hid (B.out.trans (hC.mono B.out.size))
      clear hC
      refine hK.out _ _ (fun _ => hS1) ?_
      clear hK K
      try simp only [Act.put, List.setIfInBounds_toArray, List.set_cons_zero, List.set_cons_succ]
      refine wpAnyX_one (i := 18) (o := { dst := some 50, op := Go.Op.call { callee := Go.Callee.value (Go.Operand.func 13), args := #[Go.Operand.tmp 48, Go.Operand.tmp 49], argTypes := #[25, 25] }, type := 4, pos := "law.go:41", after := #[{ on := 16, ground := Go.Ground.data }, { on := 17, ground := Go.Ground.data }, { on := 15, ground := Go.Ground.chain }, { on := 12, ground := Go.Ground.guard }], guard := some (12, false) }) (by kernel_rfl) rfl (fun K hK => ?_)
      refine step_call_g (by rfl) 13 _ _ rfl (fun _ _ => by kernel_rfl) #[.agg #[.int .u64 Ex, .slice a7 n7 c7], .agg #[.int .u64 Ey, .slice a8 n8 c8]] (by simp [go_sem]) _ (HSR y1 _ _ _ _ _ _ I1.out I2.out).out ?_
      rintro e y2 ⟨rfl, hC⟩
      refine ⟨_, rfl, ?_⟩
      have hS2 : Rows8 y2 w.heap.size 25 #[.int .u64 Ex, .slice ax nx cx] ∧ Rows8 y2 bA 25 #[.int .u64 Ex, .slice a7 n7 c7] ∧ Rows8 y2 bB 25 #[.int .u64 Ey, .slice a8 n8 c8] := ⟨hS1.1.below hC hS1.1.lt, hS1.2.1.below hC hS1.2.1.lt, hS1.2.2.below hC hS1.2.2.lt⟩
      have I1 : Hid (WordsAt y2 (.slice a7 n7 c7) U) := Lib.hid (RowAt.below I1.out hC)
      have I2 : Hid (WordsAt y2 (.slice a8 n8 c8) V) := Lib.hid (RowAt.below I2.out hC)
      have B := Lib.hid (B.out.trans (hC.mono B.out.size))
      clear hC
      refine hK.out _ _ (fun _ => hS2) ?_
      clear hK K
      try simp only [Act.put, List.setIfInBounds_toArray, List.set_cons_zero, List.set_cons_succ]
      refine wpAnyN_take (i := 19) (oi := { dst := some 51, op := Go.Op.binOp Go.BinOp.neq 4 (Go.Operand.tmp 47) (Go.Operand.tmp 50) 4, type := 4, pos := "law.go:41", after := #[{ on := 15, ground := Go.Ground.data }, { on := 18, ground := Go.Ground.data }, { on := 12, ground := Go.Ground.guard }], guard := some (12, false) }) (v := .bool false) rfl (by decide) (by kernel_rfl) (by kernel_rfl) (by kernel_rfl) (fun _ _ _ h => h) (Or.inl ⟨by rfl, ?_⟩) hS2 ?_
      · intro W9 hS9
        obtain ⟨q0, q1, q2⟩ := hS9
        clear q0 q1 q2
        go_simp
      try simp only [Act.put, List.setIfInBounds_toArray, List.set_cons_zero, List.set_cons_succ]
      refine wpAnyN_take (i := 20) (oi := { dst := some 52, op := Go.Op.pick (Go.Operand.tmp 44) (Go.Operand.const (Go.Value.bool true)) (Go.Operand.tmp 51), type := 4, pos := "law.go:41", after := #[{ on := 12, ground := Go.Ground.data }, { on := 19, ground := Go.Ground.data }], guard := none }) (v := .bool false) rfl (by decide) (by kernel_rfl) (by kernel_rfl) (by kernel_rfl) (fun _ _ _ h => h) (Or.inl ⟨by rfl, ?_⟩) hS2 ?_
      · intro W9 hS9
        obtain ⟨q0, q1, q2⟩ := hS9
        clear q0 q1 q2
        go_simp
      try simp only [Act.put, List.setIfInBounds_toArray, List.set_cons_zero, List.set_cons_succ]
      refine wpAnyN_take (i := 21) (oi := { dst := some 53, op := Go.Op.move (Go.Operand.tmp 52), type := 4, pos := "law.go:41", after := #[{ on := 20, ground := Go.Ground.data }, { on := 18, ground := Go.Ground.chain }], guard := none }) (v := .bool false) rfl (by decide) (by kernel_rfl) (by kernel_rfl) (by kernel_rfl) (fun _ _ _ h => h) (Or.inl ⟨by rfl, ?_⟩) hS2 ?_
      · intro W9 hS9
        obtain ⟨q0, q1, q2⟩ := hS9
        clear q0 q1 q2
        go_simp
      try simp only [Act.put, List.setIfInBounds_toArray, List.set_cons_zero, List.set_cons_succ]
      refine wpAnyN_take (i := 22) (oi := { dst := some 54, op := Go.Op.load 25 (Go.Operand.tmp 7), type := 25, pos := "law.go:41", after := #[{ on := 21, ground := Go.Ground.guard }], guard := some (21, false) }) (v := .agg #[.int .u64 Ex, .slice a7 n7 c7]) rfl (by decide) (by kernel_rfl) (by kernel_rfl) (by kernel_rfl) (fun _ _ _ h => h) (Or.inl ⟨by rfl, ?_⟩) hS2 ?_
      · intro W9 hS9
        obtain ⟨q0, q1, q2⟩ := hS9
        have s0 : W9.cell? ⟨bA, 0, none⟩ = some (.int .u64 Ex) := q1.cell 0
        have s1 : W9.cell? ⟨bA, 1, none⟩ = some (.slice a7 n7 c7) := q1.cell 1
        clear q0 q1 q2
        go_simp
      try simp only [Act.put, List.setIfInBounds_toArray, List.set_cons_zero, List.set_cons_succ]
      refine wpAnyN_take (i := 23) (oi := { dst := some 55, op := Go.Op.load 25 (Go.Operand.tmp 3), type := 25, pos := "law.go:41", after := #[{ on := 21, ground := Go.Ground.guard }], guard := some (21, false) }) (v := .agg #[.int .u64 Ex, .slice ax nx cx]) rfl (by decide) (by kernel_rfl) (by kernel_rfl) (by kernel_rfl) (fun _ _ _ h => h) (Or.inl ⟨by rfl, ?_⟩) hS2 ?_
      · intro W9 hS9
        obtain ⟨q0, q1, q2⟩ := hS9
        have s0 : W9.cell? ⟨w.heap.size, 0, none⟩ = some (.int .u64 Ex) := q0.cell 0
        have s1 : W9.cell? ⟨w.heap.size, 1, none⟩ = some (.slice ax nx cx) := q0.cell 1
        clear q0 q1 q2
        go_simp
      try simp only [Act.put, List.setIfInBounds_toArray, List.set_cons_zero, List.set_cons_succ]
      refine wpAnyX_one (i := 24) (o := { dst := some 56, op := Go.Op.call { callee := Go.Callee.value (Go.Operand.func 9), args := #[Go.Operand.tmp 55], argTypes := #[25] }, type := 25, pos := "law.go:41", after := #[{ on := 23, ground := Go.Ground.data }, { on := 21, ground := Go.Ground.chain }, { on := 21, ground := Go.Ground.guard }], guard := some (21, false) }) (by kernel_rfl) rfl (fun K hK => ?_)
      refine step_call_g (by rfl) 9 _ _ rfl (fun _ _ => by kernel_rfl) #[.agg #[.int .u64 Ex, .slice ax nx cx]] (by simp [go_sem]) _ (HOx y2 (RowAt.below HI.out B.out)).out ?_
      rintro e y3 ⟨⟨ao, no, do_, rfl, -, hO⟩, hC⟩
      refine ⟨_, rfl, ?_⟩
      have hS3 : Rows8 y3 w.heap.size 25 #[.int .u64 Ex, .slice ax nx cx] ∧ Rows8 y3 bA 25 #[.int .u64 Ex, .slice a7 n7 c7] ∧ Rows8 y3 bB 25 #[.int .u64 Ey, .slice a8 n8 c8] := ⟨hS2.1.below hC hS2.1.lt, hS2.2.1.below hC hS2.2.1.lt, hS2.2.2.below hC hS2.2.2.lt⟩
      have I1 : Hid (WordsAt y3 (.slice a7 n7 c7) U) := Lib.hid (RowAt.below I1.out hC)
      have I2 : Hid (WordsAt y3 (.slice a8 n8 c8) V) := Lib.hid (RowAt.below I2.out hC)
      have IO := Lib.hid (show WordsAt y3 (.slice ao no do_) U from rowAt_own hO)
      clear hO
      have B := Lib.hid (B.out.trans (hC.mono B.out.size))
      clear hC
      refine hK.out _ _ (fun _ => hS3) ?_
      clear hK K
      try simp only [Act.put, List.setIfInBounds_toArray, List.set_cons_zero, List.set_cons_succ]
      refine wpAnyX_one (i := 25) (o := { dst := some 57, op := Go.Op.call { callee := Go.Callee.value (Go.Operand.func 12), args := #[Go.Operand.tmp 54, Go.Operand.tmp 56], argTypes := #[25, 25] }, type := 4, pos := "law.go:41", after := #[{ on := 22, ground := Go.Ground.data }, { on := 24, ground := Go.Ground.data }, { on := 24, ground := Go.Ground.chain }, { on := 21, ground := Go.Ground.guard }], guard := some (21, false) }) (by kernel_rfl) rfl (fun K hK => ?_)
      refine step_call_g (by rfl) 12 _ _ rfl (fun _ _ => by kernel_rfl) #[.agg #[.int .u64 Ex, .slice a7 n7 c7], .agg #[.int .u64 Ex, .slice ao no do_]] (by simp [go_sem]) _ (HSU y3 _ _ _ _ _ _ I1.out IO.out).out ?_
      rintro e y4 ⟨rfl, hC⟩
      refine ⟨_, rfl, ?_⟩
      have hS4 : Rows8 y4 w.heap.size 25 #[.int .u64 Ex, .slice ax nx cx] ∧ Rows8 y4 bA 25 #[.int .u64 Ex, .slice a7 n7 c7] ∧ Rows8 y4 bB 25 #[.int .u64 Ey, .slice a8 n8 c8] := ⟨hS3.1.below hC hS3.1.lt, hS3.2.1.below hC hS3.2.1.lt, hS3.2.2.below hC hS3.2.2.lt⟩
      have I1 : Hid (WordsAt y4 (.slice a7 n7 c7) U) := Lib.hid (RowAt.below I1.out hC)
      have I2 : Hid (WordsAt y4 (.slice a8 n8 c8) V) := Lib.hid (RowAt.below I2.out hC)
      have B := Lib.hid (B.out.trans (hC.mono B.out.size))
      clear hC
      refine hK.out _ _ (fun _ => hS4) ?_
      clear hK K
      try simp only [Act.put, List.setIfInBounds_toArray, List.set_cons_zero, List.set_cons_succ]
      refine wpAnyN_take (i := 26) (oi := { dst := some 58, op := Go.Op.unOp Go.UnOp.not 4 (Go.Operand.tmp 57), type := 4, pos := "law.go:41", after := #[{ on := 25, ground := Go.Ground.data }, { on := 21, ground := Go.Ground.guard }], guard := some (21, false) }) (v := .bool false) rfl (by decide) (by kernel_rfl) (by kernel_rfl) (by kernel_rfl) (fun _ _ _ h => h) (Or.inl ⟨by rfl, ?_⟩) hS4 ?_
      · intro W9 hS9
        obtain ⟨q0, q1, q2⟩ := hS9
        clear q0 q1 q2
        go_simp
      try simp only [Act.put, List.setIfInBounds_toArray, List.set_cons_zero, List.set_cons_succ]
      refine wpAnyN_take (i := 27) (oi := { dst := some 59, op := Go.Op.pick (Go.Operand.tmp 53) (Go.Operand.const (Go.Value.bool true)) (Go.Operand.tmp 58), type := 4, pos := "law.go:41", after := #[{ on := 21, ground := Go.Ground.data }, { on := 26, ground := Go.Ground.data }], guard := none }) (v := .bool false) rfl (by decide) (by kernel_rfl) (by kernel_rfl) (by kernel_rfl) (fun _ _ _ h => h) (Or.inl ⟨by rfl, ?_⟩) hS4 ?_
      · intro W9 hS9
        obtain ⟨q0, q1, q2⟩ := hS9
        clear q0 q1 q2
        go_simp
      try simp only [Act.put, List.setIfInBounds_toArray, List.set_cons_zero, List.set_cons_succ]
      refine wpAnyX_end (by kernel_rfl) ?_
      have X9 := Lib.hid hS4.1
      have P1 := Lib.hid hS4.2.1
      have P2 := Lib.hid hS4.2.2
      clear hS0 hS1 hS2 hS3 hS4 IO HSM HSR HSU
      clear P2 I2
      have c10 : y4.cell? ⟨bA, 0, none⟩ = some (.int .u64 Ex) := P1.out.cell 0
      have c11 : y4.cell? ⟨bA, 1, none⟩ = some (.slice a7 n7 c7) := P1.out.cell 1
      clear HB1 HO1
      have IB : Hid (IntsAt y4 (.slice none 0 0) []) := Lib.hid (ints_none y4)
      have HCl := Lib.hid (show Calls _ 16 #[.agg #[.int .u64 Ex, .slice a7 n7 c7]] y4 (fun e w' => e = .returned (.tuple #[.int .u64 0, .bool false]) ∧ Below y4.heap.size y4 w') from (HO2 y4 _ _ _ I1.out).out)
      clear HO2
      go_wp2_with fail
      refine HCl.out.mono ?_
      rintro e w5 ⟨rfl, hB⟩
      have IB : Hid (IntsAt w5 (.slice none 0 0) ([] : List Int)) := Lib.hid (RowAt.below IB.out hB)
      clear c10 c11
      have X9 := Lib.hid (X9.out.below hB X9.out.lt)
      have P1 := Lib.hid (P1.out.below hB P1.out.lt)
      have I1 : Hid (WordsAt w5 (.slice a7 n7 c7) U) := Lib.hid (RowAt.below I1.out hB)
      have B := Lib.hid (B.out.trans (hB.mono B.out.size))
      clear hB HCl
      have c10 : w5.cell? ⟨bA, 0, none⟩ = some (.int .u64 Ex) := P1.out.cell 0
      have c11 : w5.cell? ⟨bA, 1, none⟩ = some (.slice a7 n7 c7) := P1.out.cell 1
      have HCl := Lib.hid (show Calls _ 18 #[.agg #[.int .u64 Ex, .slice a7 n7 c7]] w5 (IntsQ ([] : List Int) w5) from (HB2 w5 _ _ _ I1.out).out)
      clear HB2
      have hne1 : ∀ z : Int, (z != z) = false := fun z => by simp
      go_wp2_with fail
      refine HCl.out.mono ?_
      rintro e w6 ⟨v6, rfl, hO, hB⟩
      obtain ⟨a6, d6, hv⟩ := hO.form
      subst hv
      have I6 : Hid (IntsAt w6 (.slice a6 ([] : List Int).length d6) ([] : List Int)) := Lib.hid (rowAt_own hO)
      have IB : Hid (IntsAt w6 (.slice none 0 0) ([] : List Int)) := Lib.hid (RowAt.below IB.out hB)
      clear c10 c11
      have X9 := Lib.hid (X9.out.below hB X9.out.lt)
      have P1 := Lib.hid (P1.out.below hB P1.out.lt)
      have I1 : Hid (WordsAt w6 (.slice a7 n7 c7) U) := Lib.hid (RowAt.below I1.out hB)
      have B := Lib.hid (B.out.trans (hB.mono B.out.size))
      clear hB HCl hO
      have HCl := HEQ ([] : List Int) (by simp) w6 _ _ _ _ _ _ I6.out IB.out
      clear HEQ I6 IB
      go_wp2_with fail
      refine HCl.out.mono ?_
      rintro e w7 ⟨rfl, hB⟩
      have X9 := Lib.hid (X9.out.below hB X9.out.lt)
      have P1 := Lib.hid (P1.out.below hB P1.out.lt)
      have I1 : Hid (WordsAt w7 (.slice a7 n7 c7) U) := Lib.hid (RowAt.below I1.out hB)
      have B := Lib.hid (B.out.trans (hB.mono B.out.size))
      clear hB HCl
      go_wp2_with fail
      go_loopw [90] (fun j wr => ∃ k : Nat, k ≤ nl ∧ j = .int .i64 k ∧ Hid (Rows8 wr w.heap.size 25 #[.int .u64 Ex, .slice ax nx cx]) ∧ Hid (Rows8 wr bA 25 #[.int .u64 Ex, .slice a7 n7 c7]) ∧ Hid (WordsAt wr (.slice a7 n7 c7) U) ∧ Hid (Below w.heap.size w wr)) (fun j _ => nl - (intOf j).toNat)
      case atStart => exact ⟨0, Nat.zero_le _, rfl, X9, P1, I1, B⟩
      case round =>
        obtain ⟨k, hk, rfl, hX, hP, hI, hBB⟩ := hrel
        clear X9 P1 I1 B
        have X9 := hX
        have P1 := hP
        have I1 := hI
        have B := hBB
        clear hX hP hI hBB
        by_cases hlt : k < nl
        · have hki : (k : Int) < (nl : Int) := by omega
          have hki0 : (0 : Int) ≤ (k : Int) := by omega
          have hkl : k < l.length := by rw [← HNL.out]; exact hlt
          obtain ⟨b, off, rfl, hb3, z0⟩ := wordsAt_get (RowAt.below HL.out.1 B.out) k hkl
          have hz := okW_get HL.out.2 k hkl
          generalize l[k]?.getD 0 = z at *
          clear hb3 hkl
          by_cases h8 : k = 8
          · have d8 : ((k : Int) == 8) = true := by simp; omega
            clear h8 HSF HSG HNW
            as_aux_lemma =>
              go_wp2_with fail
              refine wp_region_X (fun W' => Rows8 W' w.heap.size 25 #[.int .u64 Ex, .slice ax nx cx] ∧ Rows8 W' bA 25 #[.int .u64 Ex, .slice a7 n7 c7]) 5 (by kernel_rfl) ?_
              have hS0 : Rows8 wr.drew w.heap.size 25 #[.int .u64 Ex, .slice ax nx cx] ∧ Rows8 wr.drew bA 25 #[.int .u64 Ex, .slice a7 n7 c7] := ⟨X9.out.drewA, P1.out.drewA⟩
              have I1 : Hid (WordsAt wr.drew (.slice a7 n7 c7) U) := Lib.hid I1.out
              have B := Lib.hid B.out.drew
              clear X9 P1
              generalize wr.drew = Wd at *
              refine wpAnyN_take (i := 0) (oi := { dst := some 152, op := Go.Op.load 25 (Go.Operand.tmp 7), type := 25, pos := "law.go:67", after := #[], guard := none }) (v := .agg #[.int .u64 Ex, .slice a7 n7 c7]) rfl (by decide) (by kernel_rfl) (by kernel_rfl) (by kernel_rfl) (fun _ _ _ h => h) (Or.inl ⟨by rfl, ?_⟩) hS0 ?_
              · intro W9 hS9
                obtain ⟨q0, q1⟩ := hS9
                have s0 : W9.cell? ⟨bA, 0, none⟩ = some (.int .u64 Ex) := q1.cell 0
                have s1 : W9.cell? ⟨bA, 1, none⟩ = some (.slice a7 n7 c7) := q1.cell 1
                clear q0 q1
                go_simp
              try simp only [Act.put, List.setIfInBounds_toArray, List.set_cons_zero, List.set_cons_succ]
              refine wpAnyN_take (i := 1) (oi := { dst := some 153, op := Go.Op.load 25 (Go.Operand.tmp 3), type := 25, pos := "law.go:67", after := #[], guard := none }) (v := .agg #[.int .u64 Ex, .slice ax nx cx]) rfl (by decide) (by kernel_rfl) (by kernel_rfl) (by kernel_rfl) (fun _ _ _ h => h) (Or.inl ⟨by rfl, ?_⟩) hS0 ?_
              · intro W9 hS9
                obtain ⟨q0, q1⟩ := hS9
                have s0 : W9.cell? ⟨w.heap.size, 0, none⟩ = some (.int .u64 Ex) := q0.cell 0
                have s1 : W9.cell? ⟨w.heap.size, 1, none⟩ = some (.slice ax nx cx) := q0.cell 1
                clear q0 q1
                go_simp
              try simp only [Act.put, List.setIfInBounds_toArray, List.set_cons_zero, List.set_cons_succ]
              refine wpAnyX_one (i := 2) (o := { dst := some 154, op := Go.Op.call { callee := Go.Callee.value (Go.Operand.func 9), args := #[Go.Operand.tmp 153], argTypes := #[25] }, type := 25, pos := "law.go:67", after := #[{ on := 1, ground := Go.Ground.data }], guard := none }) (by kernel_rfl) rfl (fun K hK => ?_)
              refine step_call_g (by rfl) 9 _ _ rfl (fun _ _ => by kernel_rfl) #[.agg #[.int .u64 Ex, .slice ax nx cx]] (by simp [go_sem]) _ (HOx Wd (RowAt.below HI.out B.out)).out ?_
              rintro e y3 ⟨⟨ao, no, do_, rfl, -, hO⟩, hC⟩
              refine ⟨_, rfl, ?_⟩
              have hS1 : Rows8 y3 w.heap.size 25 #[.int .u64 Ex, .slice ax nx cx] ∧ Rows8 y3 bA 25 #[.int .u64 Ex, .slice a7 n7 c7] := ⟨hS0.1.below hC hS0.1.lt, hS0.2.below hC hS0.2.lt⟩
              have I1 : Hid (WordsAt y3 (.slice a7 n7 c7) U) := Lib.hid (RowAt.below I1.out hC)
              have IO := Lib.hid (show WordsAt y3 (.slice ao no do_) U from rowAt_own hO)
              clear hO
              have B := Lib.hid (B.out.trans (hC.mono B.out.size))
              clear hC
              refine hK.out _ _ (fun _ => hS1) ?_
              clear hK K
              try simp only [Act.put, List.setIfInBounds_toArray, List.set_cons_zero, List.set_cons_succ]
              refine wpAnyX_one (i := 3) (o := { dst := some 155, op := Go.Op.call { callee := Go.Callee.value (Go.Operand.func 13), args := #[Go.Operand.tmp 152, Go.Operand.tmp 154], argTypes := #[25, 25] }, type := 4, pos := "law.go:67", after := #[{ on := 0, ground := Go.Ground.data }, { on := 2, ground := Go.Ground.data }, { on := 2, ground := Go.Ground.chain }], guard := none }) (by kernel_rfl) rfl (fun K hK => ?_)
              refine step_call_g (by rfl) 13 _ _ rfl (fun _ _ => by kernel_rfl) #[.agg #[.int .u64 Ex, .slice a7 n7 c7], .agg #[.int .u64 Ex, .slice ao no do_]] (by simp [go_sem]) _ (HSA Ex U y3 _ _ _ _ _ _ I1.out IO.out).out ?_
              rintro e y4 ⟨rfl, hC⟩
              refine ⟨_, rfl, ?_⟩
              have hS2 : Rows8 y4 w.heap.size 25 #[.int .u64 Ex, .slice ax nx cx] ∧ Rows8 y4 bA 25 #[.int .u64 Ex, .slice a7 n7 c7] := ⟨hS1.1.below hC hS1.1.lt, hS1.2.below hC hS1.2.lt⟩
              have I1 : Hid (WordsAt y4 (.slice a7 n7 c7) U) := Lib.hid (RowAt.below I1.out hC)
              have B := Lib.hid (B.out.trans (hC.mono B.out.size))
              clear hC
              refine hK.out _ _ (fun _ => hS2) ?_
              clear hK K
              try simp only [Act.put, List.setIfInBounds_toArray, List.set_cons_zero, List.set_cons_succ]
              refine wpAnyN_take (i := 4) (oi := { dst := some 6, op := Go.Op.assign (Go.Operand.tmp 155), type := 4, pos := "law.go:67", after := #[{ on := 3, ground := Go.Ground.data }, { on := 3, ground := Go.Ground.chain }, { on := 0, ground := Go.Ground.phase }, { on := 1, ground := Go.Ground.phase }, { on := 2, ground := Go.Ground.phase }, { on := 3, ground := Go.Ground.phase }], guard := none }) (v := .bool true) rfl (by decide) (by kernel_rfl) (by kernel_rfl) (by kernel_rfl) (fun _ _ _ h => h) (Or.inl ⟨by rfl, ?_⟩) hS2 ?_
              · intro W9 hS9
                obtain ⟨q0, q1⟩ := hS9
                clear q0 q1
                go_simp
              try simp only [Act.put, List.setIfInBounds_toArray, List.set_cons_zero, List.set_cons_succ]
              refine wpAnyX_end (by kernel_rfl) ?_
              go_wp2_with fail
              go_ret
              exact ⟨rfl, B.out⟩
          · have d8 : ((k : Int) == 8) = false := by simp; omega
            clear h8
            have hz0 := hz.1
            have c10 : wr.cell? ⟨bA, 0, none⟩ = some (.int .u64 Ex) := P1.out.cell 0
            have c11 : wr.cell? ⟨bA, 1, none⟩ = some (.slice a7 n7 c7) := P1.out.cell 1
            obtain ⟨sf, hsf⟩ : ∃ sf, sf = safeN Ex z := ⟨_, rfl⟩
            have HCl := Lib.hid (show Calls _ 19 #[.agg #[.int .u64 Ex, .slice a7 n7 c7], .int .u64 z] wr (fun e w' => e = .returned (.bool false) ∧ Below wr.heap.size wr w') from by have h := (HSF z hz.1 wr _ _ _ I1.out).out; exact h)
            have HCg := fun W v => Lib.hid (show Calls _ 20 #[.agg #[.int .u64 Ex, v], .int .u64 z] W (fun e w' => e = .returned (.bool sf) ∧ Below W.heap.size W w') from by have h := (HSG z hz.1 W v).out; rw [← hsf] at h; exact h)
            clear HSF HSG hsf
            have hneb : ∀ z : Bool, (z != z) = false := fun z => by simp
            go_wp2_with fail
            refine HCl.out.mono ?_
            rintro e w8 ⟨rfl, hB⟩
            clear HCl
            clear c10 c11
            have X9 := Lib.hid (X9.out.below hB X9.out.lt)
            have P1 := Lib.hid (P1.out.below hB P1.out.lt)
            have I1 : Hid (WordsAt w8 (.slice a7 n7 c7) U) := Lib.hid (RowAt.below I1.out hB)
            have B := Lib.hid (B.out.trans (hB.mono B.out.size))
            clear hB
            clear HCg
            obtain ⟨q, hq⟩ : ∃ q, z.tmod 12 = q := ⟨_, rfl⟩
            have hq0 : 0 ≤ q ∧ q < 12 := by rw [← hq, Int.tmod_eq_emod_of_nonneg hz.1]; omega
            have hqw : IntKind.u64.wrap q = q := wrap_u _ (by omega) (by omega)
            have hqi : IntKind.i64.wrap q = q := by rw [IntKind.wrap_i64]; omega
            obtain ⟨g, hg⟩ : ∃ g, IntKind.i64.wrap (q - 1) = g := ⟨_, rfl⟩
            have hg2 : g = q - 1 := by rw [← hg, IntKind.wrap_i64]; omega
            have hgw : IntKind.i64.wrap g = g := by rw [IntKind.wrap_i64]; omega
            clear hg2
            have HCl := HNW g w8
            clear HNW hz hz0
            go_wp2_with fail
            refine HCl.out.mono ?_
            rintro e wn ⟨⟨vp, rfl, hv⟩, hB⟩
            clear HCl
            by_cases hm : 1 ≤ g ∧ g ≤ 8
            · obtain ⟨m, rfl⟩ : ∃ m : Nat, g = m := ⟨g.toNat, by omega⟩
              have hN : newN (m : Int) = (0, 0, List.replicate m 0) := by unfold newN manyN; rw [decide_eq_true hm]; rfl
              rw [hN] at hv ⊢
              have hd1 : (1 : Int) ≤ (m : Int) := hm.1
              have hd2 : (m : Int) ≤ 8 := hm.2
              have hd3 : 1 ≤ m := by omega
              have hd4 : m ≤ 8 := by omega
              have hd5 : 0 < m := by omega
              obtain ⟨ap, dp, hvp⟩ := OwnsWords.form hv
              rw [List.length_replicate] at hvp
              subst hvp
              have hal : Below wn.heap.size wn (wn.alloc (.cells #[.int .u64 0, .slice ap m dp] 25)) := Rows8.newB
              have hBw := hB.trans (hal.mono hB.size)
              have PP := Lib.hid (Rows8.new wn 25 #[.int .u64 0, .slice ap m dp])
              have IP : Hid (WordsAt (wn.alloc (.cells #[.int .u64 0, .slice ap m dp] 25)) (.slice ap m dp) (List.replicate m 0)) := Lib.hid (RowAt.below (rowAt_own hv) hal)
              have X9 := Lib.hid (X9.out.below hBw X9.out.lt)
              have P1 := Lib.hid (P1.out.below hBw P1.out.lt)
              have I1 : Hid (WordsAt (wn.alloc (.cells #[.int .u64 0, .slice ap m dp] 25)) (.slice a7 n7 c7) U) := Lib.hid (RowAt.below I1.out hBw)
              have B := Lib.hid (B.out.trans (hBw.mono B.out.size))
              clear hB hBw hal hv hN hm hq hq0 hqw hqi
              as_aux_lemma =>
                go_upto_region 25 with fail
                generalize (wn.alloc (.cells #[.int .u64 0, .slice ap m dp] 25)) = w10 at *
                obtain ⟨bp, hbp⟩ : ∃ b, b = wn.heap.size := ⟨_, rfl⟩
                rw [← hbp] at PP ⊢
                clear hbp
                refine wp_region_X (fun W' => Rows8 W' w.heap.size 25 #[.int .u64 Ex, .slice ax nx cx] ∧ Rows8 W' bA 25 #[.int .u64 Ex, .slice a7 n7 c7] ∧ Rows8 W' bp 25 #[.int .u64 0, .slice ap m dp]) 29 (by kernel_rfl) ?_
                have hS0 : Rows8 w10.drew w.heap.size 25 #[.int .u64 Ex, .slice ax nx cx] ∧ Rows8 w10.drew bA 25 #[.int .u64 Ex, .slice a7 n7 c7] ∧ Rows8 w10.drew bp 25 #[.int .u64 0, .slice ap m dp] := ⟨X9.out.drewA, P1.out.drewA, PP.out.drewA⟩
                have I1 : Hid (WordsAt w10.drew (.slice a7 n7 c7) U) := Lib.hid I1.out
                have IP : Hid (WordsAt w10.drew (.slice ap m dp) (List.replicate m 0)) := Lib.hid IP.out
                have B := Lib.hid B.out.drew
                clear X9 P1 PP
                generalize w10.drew = Wd at *
                refine wpAnyN_take (i := 0) (oi := { dst := some 122, op := Go.Op.move (Go.Operand.tmp 20), type := 29, pos := "law.go:63", after := #[], guard := none }) (v := .int .i64 0) rfl (by decide) (by kernel_rfl) (by kernel_rfl) (by kernel_rfl) (fun _ _ _ h => h) (Or.inl ⟨by rfl, ?_⟩) hS0 ?_
                · intro W9 hS9
                  obtain ⟨q0, q1, q2⟩ := hS9
                  clear q0 q1 q2
                  go_simp
                try simp only [Act.put, List.setIfInBounds_toArray, List.set_cons_zero, List.set_cons_succ]
                refine wpAnyN_take (i := 1) (oi := { dst := some 123, op := Go.Op.binOp Go.BinOp.eql 29 (Go.Operand.tmp 122) (Go.Operand.const (Go.Value.int Go.IntKind.i64 0)) 29, type := 4, pos := "law.go:63", after := #[{ on := 0, ground := Go.Ground.data }], guard := none }) (v := .bool true) rfl (by decide) (by kernel_rfl) (by kernel_rfl) (by kernel_rfl) (fun _ _ _ h => h) (Or.inl ⟨by rfl, ?_⟩) hS0 ?_
                · intro W9 hS9
                  obtain ⟨q0, q1, q2⟩ := hS9
                  clear q0 q1 q2
                  go_simp
                try simp only [Act.put, List.setIfInBounds_toArray, List.set_cons_zero, List.set_cons_succ]
                refine wpAnyN_take (i := 2) (oi := { dst := some 124, op := Go.Op.move (Go.Operand.tmp 21), type := 4, pos := "law.go:63", after := #[], guard := none }) (v := .bool true) rfl (by decide) (by kernel_rfl) (by kernel_rfl) (by kernel_rfl) (fun _ _ _ h => h) (Or.inl ⟨by rfl, ?_⟩) hS0 ?_
                · intro W9 hS9
                  obtain ⟨q0, q1, q2⟩ := hS9
                  clear q0 q1 q2
                  go_simp
                try simp only [Act.put, List.setIfInBounds_toArray, List.set_cons_zero, List.set_cons_succ]
                refine wpAnyN_take (i := 3) (oi := { dst := some 125, op := Go.Op.binOp Go.BinOp.neq 4 (Go.Operand.tmp 123) (Go.Operand.tmp 124) 4, type := 4, pos := "law.go:63", after := #[{ on := 1, ground := Go.Ground.data }, { on := 2, ground := Go.Ground.data }], guard := none }) (v := .bool false) rfl (by decide) (by kernel_rfl) (by kernel_rfl) (by kernel_rfl) (fun _ _ _ h => h) (Or.inl ⟨by rfl, ?_⟩) hS0 ?_
                · intro W9 hS9
                  obtain ⟨q0, q1, q2⟩ := hS9
                  clear q0 q1 q2
                  go_simp
                try simp only [Act.put, List.setIfInBounds_toArray, List.set_cons_zero, List.set_cons_succ]
                refine wpAnyN_take (i := 4) (oi := { dst := some 126, op := Go.Op.move (Go.Operand.tmp 125), type := 4, pos := "law.go:63", after := #[{ on := 3, ground := Go.Ground.data }], guard := none }) (v := .bool false) rfl (by decide) (by kernel_rfl) (by kernel_rfl) (by kernel_rfl) (fun _ _ _ h => h) (Or.inl ⟨by rfl, ?_⟩) hS0 ?_
                · intro W9 hS9
                  obtain ⟨q0, q1, q2⟩ := hS9
                  clear q0 q1 q2
                  go_simp
                try simp only [Act.put, List.setIfInBounds_toArray, List.set_cons_zero, List.set_cons_succ]
                refine wpAnyN_take (i := 5) (oi := { dst := some 127, op := Go.Op.move (Go.Operand.tmp 21), type := 4, pos := "law.go:63", after := #[{ on := 4, ground := Go.Ground.guard }], guard := some (4, false) }) (v := .bool true) rfl (by decide) (by kernel_rfl) (by kernel_rfl) (by kernel_rfl) (fun _ _ _ h => h) (Or.inl ⟨by rfl, ?_⟩) hS0 ?_
                · intro W9 hS9
                  obtain ⟨q0, q1, q2⟩ := hS9
                  clear q0 q1 q2
                  go_simp
                try simp only [Act.put, List.setIfInBounds_toArray, List.set_cons_zero, List.set_cons_succ]
                refine wpAnyN_take (i := 6) (oi := { dst := some 128, op := Go.Op.unOp Go.UnOp.not 4 (Go.Operand.tmp 127), type := 4, pos := "law.go:63", after := #[{ on := 5, ground := Go.Ground.data }, { on := 4, ground := Go.Ground.guard }], guard := some (4, false) }) (v := .bool false) rfl (by decide) (by kernel_rfl) (by kernel_rfl) (by kernel_rfl) (fun _ _ _ h => h) (Or.inl ⟨by rfl, ?_⟩) hS0 ?_
                · intro W9 hS9
                  obtain ⟨q0, q1, q2⟩ := hS9
                  clear q0 q1 q2
                  go_simp
                try simp only [Act.put, List.setIfInBounds_toArray, List.set_cons_zero, List.set_cons_succ]
                refine wpAnyN_take (i := 7) (oi := { dst := some 129, op := Go.Op.move (Go.Operand.tmp 128), type := 4, pos := "law.go:63", after := #[{ on := 6, ground := Go.Ground.data }, { on := 4, ground := Go.Ground.chain }, { on := 4, ground := Go.Ground.guard }], guard := some (4, false) }) (v := .bool false) rfl (by decide) (by kernel_rfl) (by kernel_rfl) (by kernel_rfl) (fun _ _ _ h => h) (Or.inl ⟨by rfl, ?_⟩) hS0 ?_
                · intro W9 hS9
                  obtain ⟨q0, q1, q2⟩ := hS9
                  clear q0 q1 q2
                  go_simp
                try simp only [Act.put, List.setIfInBounds_toArray, List.set_cons_zero, List.set_cons_succ]
                refine wpAnyN_take (i := 8) (oi := { dst := some 130, op := Go.Op.move (Go.Operand.tmp 20), type := 29, pos := "law.go:63", after := #[{ on := 7, ground := Go.Ground.guard }], guard := some (7, true) }) (v := undef) rfl (by decide) (by kernel_rfl) (by kernel_rfl) (by kernel_rfl) (fun _ _ _ h => h) (Or.inr ⟨by rfl, rfl⟩) hS0 ?_
                try simp only [Act.put, List.setIfInBounds_toArray, List.set_cons_zero, List.set_cons_succ]
                refine wpAnyN_take (i := 9) (oi := { dst := some 131, op := Go.Op.binOp Go.BinOp.neq 29 (Go.Operand.tmp 130) (Go.Operand.const (Go.Value.int Go.IntKind.i64 2)) 29, type := 4, pos := "law.go:63", after := #[{ on := 8, ground := Go.Ground.data }, { on := 7, ground := Go.Ground.guard }], guard := some (7, true) }) (v := undef) rfl (by decide) (by kernel_rfl) (by kernel_rfl) (by kernel_rfl) (fun _ _ _ h => h) (Or.inr ⟨by rfl, rfl⟩) hS0 ?_
                try simp only [Act.put, List.setIfInBounds_toArray, List.set_cons_zero, List.set_cons_succ]
                refine wpAnyN_take (i := 10) (oi := { dst := some 132, op := Go.Op.move (Go.Operand.tmp 131), type := 4, pos := "law.go:63", after := #[{ on := 9, ground := Go.Ground.data }, { on := 7, ground := Go.Ground.chain }, { on := 7, ground := Go.Ground.guard }], guard := some (7, true) }) (v := undef) rfl (by decide) (by kernel_rfl) (by kernel_rfl) (by kernel_rfl) (fun _ _ _ h => h) (Or.inr ⟨by rfl, rfl⟩) hS0 ?_
                try simp only [Act.put, List.setIfInBounds_toArray, List.set_cons_zero, List.set_cons_succ]
                refine wpAnyN_take (i := 11) (oi := { dst := some 133, op := Go.Op.fieldAddr 25 (Go.Operand.tmp 19) 1, type := 0, pos := "law.go:63", after := #[{ on := 10, ground := Go.Ground.guard }], guard := some (10, false) }) (v := undef) rfl (by decide) (by kernel_rfl) (by kernel_rfl) (by kernel_rfl) (fun _ _ _ h => h) (Or.inr ⟨by rfl, rfl⟩) hS0 ?_
                try simp only [Act.put, List.setIfInBounds_toArray, List.set_cons_zero, List.set_cons_succ]
                refine wpAnyN_take (i := 12) (oi := { dst := some 134, op := Go.Op.load 23 (Go.Operand.tmp 133), type := 23, pos := "law.go:63", after := #[{ on := 11, ground := Go.Ground.data }, { on := 10, ground := Go.Ground.guard }], guard := some (10, false) }) (v := undef) rfl (by decide) (by kernel_rfl) (by kernel_rfl) (by kernel_rfl) (fun _ _ _ h => h) (Or.inr ⟨by rfl, rfl⟩) hS0 ?_
                try simp only [Act.put, List.setIfInBounds_toArray, List.set_cons_zero, List.set_cons_succ]
                refine wpAnyN_take (i := 13) (oi := { dst := some 135, op := Go.Op.call { callee := Go.Callee.builtin Go.Builtin.len, args := #[Go.Operand.tmp 134], argTypes := #[23] }, type := 3, pos := "law.go:63", after := #[{ on := 12, ground := Go.Ground.data }, { on := 10, ground := Go.Ground.guard }], guard := some (10, false) }) (v := undef) rfl (by decide) (by kernel_rfl) (by kernel_rfl) (by kernel_rfl) (fun _ _ _ h => h) (Or.inr ⟨by rfl, rfl⟩) hS0 ?_
                try simp only [Act.put, List.setIfInBounds_toArray, List.set_cons_zero, List.set_cons_succ]
                refine wpAnyN_take (i := 14) (oi := { dst := some 136, op := Go.Op.binOp Go.BinOp.gtr 3 (Go.Operand.tmp 135) (Go.Operand.const (Go.Value.int Go.IntKind.i64 0)) 3, type := 4, pos := "law.go:63", after := #[{ on := 13, ground := Go.Ground.data }, { on := 10, ground := Go.Ground.guard }], guard := some (10, false) }) (v := undef) rfl (by decide) (by kernel_rfl) (by kernel_rfl) (by kernel_rfl) (fun _ _ _ h => h) (Or.inr ⟨by rfl, rfl⟩) hS0 ?_
                try simp only [Act.put, List.setIfInBounds_toArray, List.set_cons_zero, List.set_cons_succ]
                refine wpAnyN_take (i := 15) (oi := { dst := some 137, op := Go.Op.pick (Go.Operand.tmp 132) (Go.Operand.const (Go.Value.bool true)) (Go.Operand.tmp 136), type := 4, pos := "law.go:63", after := #[{ on := 10, ground := Go.Ground.data }, { on := 14, ground := Go.Ground.data }, { on := 7, ground := Go.Ground.guard }], guard := some (7, true) }) (v := undef) rfl (by decide) (by kernel_rfl) (by kernel_rfl) (by kernel_rfl) (fun _ _ _ h => h) (Or.inr ⟨by rfl, rfl⟩) hS0 ?_
                try simp only [Act.put, List.setIfInBounds_toArray, List.set_cons_zero, List.set_cons_succ]
                refine wpAnyN_take (i := 16) (oi := { dst := some 138, op := Go.Op.pick (Go.Operand.tmp 129) (Go.Operand.tmp 137) (Go.Operand.const (Go.Value.bool false)), type := 4, pos := "law.go:63", after := #[{ on := 7, ground := Go.Ground.data }, { on := 15, ground := Go.Ground.data }, { on := 4, ground := Go.Ground.guard }], guard := some (4, false) }) (v := .bool false) rfl (by decide) (by kernel_rfl) (by kernel_rfl) (by kernel_rfl) (fun _ _ _ h => h) (Or.inl ⟨by rfl, ?_⟩) hS0 ?_
                · intro W9 hS9
                  obtain ⟨q0, q1, q2⟩ := hS9
                  clear q0 q1 q2
                  go_simp
                try simp only [Act.put, List.setIfInBounds_toArray, List.set_cons_zero, List.set_cons_succ]
                refine wpAnyN_take (i := 17) (oi := { dst := some 139, op := Go.Op.pick (Go.Operand.tmp 126) (Go.Operand.const (Go.Value.bool true)) (Go.Operand.tmp 138), type := 4, pos := "law.go:63", after := #[{ on := 4, ground := Go.Ground.data }, { on := 16, ground := Go.Ground.data }], guard := none }) (v := .bool false) rfl (by decide) (by kernel_rfl) (by kernel_rfl) (by kernel_rfl) (fun _ _ _ h => h) (Or.inl ⟨by rfl, ?_⟩) hS0 ?_
                · intro W9 hS9
                  obtain ⟨q0, q1, q2⟩ := hS9
                  clear q0 q1 q2
                  go_simp
                try simp only [Act.put, List.setIfInBounds_toArray, List.set_cons_zero, List.set_cons_succ]
                refine wpAnyN_take (i := 18) (oi := { dst := some 140, op := Go.Op.move (Go.Operand.tmp 139), type := 4, pos := "law.go:63", after := #[{ on := 17, ground := Go.Ground.data }, { on := 10, ground := Go.Ground.chain }], guard := none }) (v := .bool false) rfl (by decide) (by kernel_rfl) (by kernel_rfl) (by kernel_rfl) (fun _ _ _ h => h) (Or.inl ⟨by rfl, ?_⟩) hS0 ?_
                · intro W9 hS9
                  obtain ⟨q0, q1, q2⟩ := hS9
                  clear q0 q1 q2
                  go_simp
                try simp only [Act.put, List.setIfInBounds_toArray, List.set_cons_zero, List.set_cons_succ]
                refine wpAnyN_take (i := 19) (oi := { dst := some 141, op := Go.Op.move (Go.Operand.tmp 21), type := 4, pos := "law.go:63", after := #[{ on := 18, ground := Go.Ground.guard }], guard := some (18, false) }) (v := .bool true) rfl (by decide) (by kernel_rfl) (by kernel_rfl) (by kernel_rfl) (fun _ _ _ h => h) (Or.inl ⟨by rfl, ?_⟩) hS0 ?_
                · intro W9 hS9
                  obtain ⟨q0, q1, q2⟩ := hS9
                  clear q0 q1 q2
                  go_simp
                try simp only [Act.put, List.setIfInBounds_toArray, List.set_cons_zero, List.set_cons_succ]
                refine wpAnyN_take (i := 20) (oi := { dst := some 142, op := Go.Op.move (Go.Operand.tmp 141), type := 4, pos := "law.go:63", after := #[{ on := 19, ground := Go.Ground.data }, { on := 18, ground := Go.Ground.chain }, { on := 18, ground := Go.Ground.guard }], guard := some (18, false) }) (v := .bool true) rfl (by decide) (by kernel_rfl) (by kernel_rfl) (by kernel_rfl) (fun _ _ _ h => h) (Or.inl ⟨by rfl, ?_⟩) hS0 ?_
                · intro W9 hS9
                  obtain ⟨q0, q1, q2⟩ := hS9
                  clear q0 q1 q2
                  go_simp
                try simp only [Act.put, List.setIfInBounds_toArray, List.set_cons_zero, List.set_cons_succ]
                refine wpAnyN_take (i := 21) (oi := { dst := some 143, op := Go.Op.load 25 (Go.Operand.tmp 19), type := 25, pos := "law.go:63", after := #[{ on := 20, ground := Go.Ground.guard }], guard := some (20, true) }) (v := .agg #[.int .u64 0, .slice ap m dp]) rfl (by decide) (by kernel_rfl) (by kernel_rfl) (by kernel_rfl) (fun _ _ _ h => h) (Or.inl ⟨by rfl, ?_⟩) hS0 ?_
                · intro W9 hS9
                  obtain ⟨q0, q1, q2⟩ := hS9
                  have s0 : W9.cell? ⟨bp, 0, none⟩ = some (.int .u64 0) := q2.cell 0
                  have s1 : W9.cell? ⟨bp, 1, none⟩ = some (.slice ap m dp) := q2.cell 1
                  clear q0 q1 q2
                  go_simp
                try simp only [Act.put, List.setIfInBounds_toArray, List.set_cons_zero, List.set_cons_succ]
                refine wpAnyN_take (i := 22) (oi := { dst := some 144, op := Go.Op.move (Go.Operand.tmp 18), type := 3, pos := "law.go:63", after := #[{ on := 20, ground := Go.Ground.guard }], guard := some (20, true) }) (v := .int .i64 m) rfl (by decide) (by kernel_rfl) (by kernel_rfl) (by kernel_rfl) (fun _ _ _ h => h) (Or.inl ⟨by rfl, ?_⟩) hS0 ?_
                · intro W9 hS9
                  obtain ⟨q0, q1, q2⟩ := hS9
                  clear q0 q1 q2
                  go_simp
                try simp only [Act.put, List.setIfInBounds_toArray, List.set_cons_zero, List.set_cons_succ]
                refine wpAnyX_one (i := 23) (o := { dst := some 145, op := Go.Op.makeSlice 23 (Go.Operand.tmp 144) (Go.Operand.tmp 144), type := 23, pos := "law.go:63", after := #[{ on := 22, ground := Go.Ground.data }, { on := 22, ground := Go.Ground.data }, { on := 20, ground := Go.Ground.guard }], guard := some (20, true) }) (by kernel_rfl) rfl (fun K hK => ?_)
                obtain ⟨W2_, hrun, hown, hgr⟩ := run_make_full (P := Try.prog) Wd Wd.heap.size 23 22 i0 (.int .u64 0) 1 Try.underlying23 hi hz0 hz1 .i64 .i64 m (by rw [hz2]; omega) (by unfold maxLen; omega) (Nat.le_refl _)
                have hC : Below Wd.heap.size Wd W2_ := (Below.refl _ Wd).grown hgr (Nat.le_refl _) (fun j ej => by cases ej)
                have hO : OwnsWords Wd.heap.size (List.replicate m 0) (.slice (some ⟨Wd.heap.size, 0, none⟩) m m) W2_ := by
                  unfold OwnsWords
                  rw [List.length_replicate, ← made_words]
                  exact hown
                obtain ⟨qa, hqa⟩ : ∃ q : Option Addr, q = some ⟨Wd.heap.size, 0, none⟩ := ⟨_, rfl⟩
                have IQ : Hid (WordsAt W2_ (.slice qa m m) (List.replicate m 0)) := Lib.hid (by rw [hqa]; exact rowAt_own hO)
                replace hrun : (Instr.makeSlice 23 (.int .i64 m) (.int .i64 m)).run Try.prog Wd = .ok (.slice (some ⟨Wd.heap.size, 0, none⟩) m m) W2_ := hrun
                refine step_value_g (by rfl) (v := .slice qa m m) (w' := W2_) (by rw [hqa]; go_simp) ?_
                have hS1 : Rows8 W2_ w.heap.size 25 #[.int .u64 Ex, .slice ax nx cx] ∧ Rows8 W2_ bA 25 #[.int .u64 Ex, .slice a7 n7 c7] ∧ Rows8 W2_ bp 25 #[.int .u64 0, .slice ap m dp] := ⟨hS0.1.below hC hS0.1.lt, hS0.2.1.below hC hS0.2.1.lt, hS0.2.2.below hC hS0.2.2.lt⟩
                have I1 : Hid (WordsAt W2_ (.slice a7 n7 c7) U) := Lib.hid (RowAt.below I1.out hC)
                have IP : Hid (WordsAt W2_ _ _) := Lib.hid (RowAt.below IP.out hC)
                have B := Lib.hid (B.out.trans (hC.mono B.out.size))
                clear hC hrun hown hgr hqa hO
                refine hK.out _ _ (fun _ => hS1) ?_
                clear hK K
                try simp only [Act.put, List.setIfInBounds_toArray, List.set_cons_zero, List.set_cons_succ]
                refine wpAnyN_take (i := 24) (oi := { dst := some 146, op := Go.Op.build 25 #[(1, Go.Operand.tmp 145)], type := 25, pos := "law.go:63", after := #[{ on := 23, ground := Go.Ground.data }, { on := 20, ground := Go.Ground.guard }], guard := some (20, true) }) (v := .agg #[.int .u64 0, .slice qa m m]) rfl (by decide) (by kernel_rfl) (by kernel_rfl) (by kernel_rfl) (fun _ _ _ h => h) (Or.inl ⟨by rfl, ?_⟩) hS1 ?_
                · intro W9 hS9
                  obtain ⟨q0, q1, q2⟩ := hS9
                  clear q0 q1 q2
                  go_simp
                try simp only [Act.put, List.setIfInBounds_toArray, List.set_cons_zero, List.set_cons_succ]
                refine wpAnyX_one (i := 25) (o := { dst := some 147, op := Go.Op.call { callee := Go.Callee.value (Go.Operand.func 13), args := #[Go.Operand.tmp 143, Go.Operand.tmp 146], argTypes := #[25, 25] }, type := 4, pos := "law.go:63", after := #[{ on := 21, ground := Go.Ground.data }, { on := 24, ground := Go.Ground.data }, { on := 20, ground := Go.Ground.chain }, { on := 20, ground := Go.Ground.guard }], guard := some (20, true) }) (by kernel_rfl) rfl (fun K hK => ?_)
                refine step_call_g (by rfl) 13 _ _ rfl (fun _ _ => by kernel_rfl) #[.agg #[.int .u64 0, .slice ap m dp], .agg #[.int .u64 0, .slice qa m m]] (by simp [go_sem]) _ (HSA 0 (List.replicate m 0) W2_ _ _ _ _ _ _ IP.out IQ.out).out ?_
                rintro e y3 ⟨rfl, hC⟩
                refine ⟨_, rfl, ?_⟩
                have hS2 : Rows8 y3 w.heap.size 25 #[.int .u64 Ex, .slice ax nx cx] ∧ Rows8 y3 bA 25 #[.int .u64 Ex, .slice a7 n7 c7] ∧ Rows8 y3 bp 25 #[.int .u64 0, .slice ap m dp] := ⟨hS1.1.below hC hS1.1.lt, hS1.2.1.below hC hS1.2.1.lt, hS1.2.2.below hC hS1.2.2.lt⟩
                have I1 : Hid (WordsAt y3 (.slice a7 n7 c7) U) := Lib.hid (RowAt.below I1.out hC)
                have IP : Hid (WordsAt y3 _ _) := Lib.hid (RowAt.below IP.out hC)
                have B := Lib.hid (B.out.trans (hC.mono B.out.size))
                clear hC
                refine hK.out _ _ (fun _ => hS2) ?_
                clear hK K
                try simp only [Act.put, List.setIfInBounds_toArray, List.set_cons_zero, List.set_cons_succ]
                refine wpAnyN_take (i := 26) (oi := { dst := some 148, op := Go.Op.unOp Go.UnOp.not 4 (Go.Operand.tmp 147), type := 4, pos := "law.go:63", after := #[{ on := 25, ground := Go.Ground.data }, { on := 20, ground := Go.Ground.guard }], guard := some (20, true) }) (v := .bool false) rfl (by decide) (by kernel_rfl) (by kernel_rfl) (by kernel_rfl) (fun _ _ _ h => h) (Or.inl ⟨by rfl, ?_⟩) hS2 ?_
                · intro W9 hS9
                  obtain ⟨q0, q1, q2⟩ := hS9
                  clear q0 q1 q2
                  go_simp
                try simp only [Act.put, List.setIfInBounds_toArray, List.set_cons_zero, List.set_cons_succ]
                refine wpAnyN_take (i := 27) (oi := { dst := some 149, op := Go.Op.pick (Go.Operand.tmp 142) (Go.Operand.tmp 148) (Go.Operand.const (Go.Value.bool false)), type := 4, pos := "law.go:63", after := #[{ on := 20, ground := Go.Ground.data }, { on := 26, ground := Go.Ground.data }, { on := 18, ground := Go.Ground.guard }], guard := some (18, false) }) (v := .bool false) rfl (by decide) (by kernel_rfl) (by kernel_rfl) (by kernel_rfl) (fun _ _ _ h => h) (Or.inl ⟨by rfl, ?_⟩) hS2 ?_
                · intro W9 hS9
                  obtain ⟨q0, q1, q2⟩ := hS9
                  clear q0 q1 q2
                  go_simp
                try simp only [Act.put, List.setIfInBounds_toArray, List.set_cons_zero, List.set_cons_succ]
                refine wpAnyN_take (i := 28) (oi := { dst := some 150, op := Go.Op.pick (Go.Operand.tmp 140) (Go.Operand.const (Go.Value.bool true)) (Go.Operand.tmp 149), type := 4, pos := "law.go:63", after := #[{ on := 18, ground := Go.Ground.data }, { on := 27, ground := Go.Ground.data }], guard := none }) (v := .bool false) rfl (by decide) (by kernel_rfl) (by kernel_rfl) (by kernel_rfl) (fun _ _ _ h => h) (Or.inl ⟨by rfl, ?_⟩) hS2 ?_
                · intro W9 hS9
                  obtain ⟨q0, q1, q2⟩ := hS9
                  clear q0 q1 q2
                  go_simp
                try simp only [Act.put, List.setIfInBounds_toArray, List.set_cons_zero, List.set_cons_succ]
                refine wpAnyX_end (by kernel_rfl) ?_
                have X9 := Lib.hid hS2.1
                have P1 := Lib.hid hS2.2.1
                clear hS0 hS1 hS2 IP IQ
                go_wp2_with fail
                clear hg hgw hne1 hneb d8
                exact ⟨⟨k + 1, by omega, by go_num, X9, P1, I1, B⟩, by simp [intOf]; omega⟩
            · have hN : newN g = (2, 0, []) := by unfold newN manyN; rw [decide_eq_false hm]; rfl
              rw [hN] at hv ⊢
              obtain ⟨ap, dp, hvp⟩ := OwnsWords.form hv
              replace hvp : vp = .slice ap 0 dp := hvp
              subst hvp
              by_cases hd1 : 1 ≤ g
              · have hd2 : ¬ g ≤ 8 := by omega
                have hal : Below wn.heap.size wn (wn.alloc (.cells #[.int .u64 0, .slice ap 0 dp] 25)) := Rows8.newB
                have hBw := hB.trans (hal.mono hB.size)
                have PP := Lib.hid (Rows8.new wn 25 #[.int .u64 0, .slice ap 0 dp])
                have IP : Hid (WordsAt (wn.alloc (.cells #[.int .u64 0, .slice ap 0 dp] 25)) (.slice ap 0 dp) ([])) := Lib.hid (RowAt.below (rowAt_own hv) hal)
                have X9 := Lib.hid (X9.out.below hBw X9.out.lt)
                have P1 := Lib.hid (P1.out.below hBw P1.out.lt)
                have I1 : Hid (WordsAt (wn.alloc (.cells #[.int .u64 0, .slice ap 0 dp] 25)) (.slice a7 n7 c7) U) := Lib.hid (RowAt.below I1.out hBw)
                have B := Lib.hid (B.out.trans (hBw.mono B.out.size))
                clear hB hBw hal hv hN hm hq hq0 hqw hqi
                as_aux_lemma =>
                  go_upto_region 25 with fail
                  generalize (wn.alloc (.cells #[.int .u64 0, .slice ap 0 dp] 25)) = w10 at *
                  obtain ⟨bp, hbp⟩ : ∃ b, b = wn.heap.size := ⟨_, rfl⟩
                  rw [← hbp] at PP ⊢
                  clear hbp
                  refine wp_region_X (fun W' => Rows8 W' w.heap.size 25 #[.int .u64 Ex, .slice ax nx cx] ∧ Rows8 W' bA 25 #[.int .u64 Ex, .slice a7 n7 c7] ∧ Rows8 W' bp 25 #[.int .u64 0, .slice ap 0 dp]) 29 (by kernel_rfl) ?_
                  have hS0 : Rows8 w10.drew w.heap.size 25 #[.int .u64 Ex, .slice ax nx cx] ∧ Rows8 w10.drew bA 25 #[.int .u64 Ex, .slice a7 n7 c7] ∧ Rows8 w10.drew bp 25 #[.int .u64 0, .slice ap 0 dp] := ⟨X9.out.drewA, P1.out.drewA, PP.out.drewA⟩
                  have I1 : Hid (WordsAt w10.drew (.slice a7 n7 c7) U) := Lib.hid I1.out
                  have IP : Hid (WordsAt w10.drew (.slice ap 0 dp) ([])) := Lib.hid IP.out
                  have B := Lib.hid B.out.drew
                  clear X9 P1 PP
                  generalize w10.drew = Wd at *
                  refine wpAnyN_take (i := 0) (oi := { dst := some 122, op := Go.Op.move (Go.Operand.tmp 20), type := 29, pos := "law.go:63", after := #[], guard := none }) (v := .int .i64 2) rfl (by decide) (by kernel_rfl) (by kernel_rfl) (by kernel_rfl) (fun _ _ _ h => h) (Or.inl ⟨by rfl, ?_⟩) hS0 ?_
                  · intro W9 hS9
                    obtain ⟨q0, q1, q2⟩ := hS9
                    clear q0 q1 q2
                    go_simp
                  try simp only [Act.put, List.setIfInBounds_toArray, List.set_cons_zero, List.set_cons_succ]
                  refine wpAnyN_take (i := 1) (oi := { dst := some 123, op := Go.Op.binOp Go.BinOp.eql 29 (Go.Operand.tmp 122) (Go.Operand.const (Go.Value.int Go.IntKind.i64 0)) 29, type := 4, pos := "law.go:63", after := #[{ on := 0, ground := Go.Ground.data }], guard := none }) (v := .bool false) rfl (by decide) (by kernel_rfl) (by kernel_rfl) (by kernel_rfl) (fun _ _ _ h => h) (Or.inl ⟨by rfl, ?_⟩) hS0 ?_
                  · intro W9 hS9
                    obtain ⟨q0, q1, q2⟩ := hS9
                    clear q0 q1 q2
                    go_simp
                  try simp only [Act.put, List.setIfInBounds_toArray, List.set_cons_zero, List.set_cons_succ]
                  refine wpAnyN_take (i := 2) (oi := { dst := some 124, op := Go.Op.move (Go.Operand.tmp 21), type := 4, pos := "law.go:63", after := #[], guard := none }) (v := .bool false) rfl (by decide) (by kernel_rfl) (by kernel_rfl) (by kernel_rfl) (fun _ _ _ h => h) (Or.inl ⟨by rfl, ?_⟩) hS0 ?_
                  · intro W9 hS9
                    obtain ⟨q0, q1, q2⟩ := hS9
                    clear q0 q1 q2
                    go_simp
                  try simp only [Act.put, List.setIfInBounds_toArray, List.set_cons_zero, List.set_cons_succ]
                  refine wpAnyN_take (i := 3) (oi := { dst := some 125, op := Go.Op.binOp Go.BinOp.neq 4 (Go.Operand.tmp 123) (Go.Operand.tmp 124) 4, type := 4, pos := "law.go:63", after := #[{ on := 1, ground := Go.Ground.data }, { on := 2, ground := Go.Ground.data }], guard := none }) (v := .bool false) rfl (by decide) (by kernel_rfl) (by kernel_rfl) (by kernel_rfl) (fun _ _ _ h => h) (Or.inl ⟨by rfl, ?_⟩) hS0 ?_
                  · intro W9 hS9
                    obtain ⟨q0, q1, q2⟩ := hS9
                    clear q0 q1 q2
                    go_simp
                  try simp only [Act.put, List.setIfInBounds_toArray, List.set_cons_zero, List.set_cons_succ]
                  refine wpAnyN_take (i := 4) (oi := { dst := some 126, op := Go.Op.move (Go.Operand.tmp 125), type := 4, pos := "law.go:63", after := #[{ on := 3, ground := Go.Ground.data }], guard := none }) (v := .bool false) rfl (by decide) (by kernel_rfl) (by kernel_rfl) (by kernel_rfl) (fun _ _ _ h => h) (Or.inl ⟨by rfl, ?_⟩) hS0 ?_
                  · intro W9 hS9
                    obtain ⟨q0, q1, q2⟩ := hS9
                    clear q0 q1 q2
                    go_simp
                  try simp only [Act.put, List.setIfInBounds_toArray, List.set_cons_zero, List.set_cons_succ]
                  refine wpAnyN_take (i := 5) (oi := { dst := some 127, op := Go.Op.move (Go.Operand.tmp 21), type := 4, pos := "law.go:63", after := #[{ on := 4, ground := Go.Ground.guard }], guard := some (4, false) }) (v := .bool false) rfl (by decide) (by kernel_rfl) (by kernel_rfl) (by kernel_rfl) (fun _ _ _ h => h) (Or.inl ⟨by rfl, ?_⟩) hS0 ?_
                  · intro W9 hS9
                    obtain ⟨q0, q1, q2⟩ := hS9
                    clear q0 q1 q2
                    go_simp
                  try simp only [Act.put, List.setIfInBounds_toArray, List.set_cons_zero, List.set_cons_succ]
                  refine wpAnyN_take (i := 6) (oi := { dst := some 128, op := Go.Op.unOp Go.UnOp.not 4 (Go.Operand.tmp 127), type := 4, pos := "law.go:63", after := #[{ on := 5, ground := Go.Ground.data }, { on := 4, ground := Go.Ground.guard }], guard := some (4, false) }) (v := .bool true) rfl (by decide) (by kernel_rfl) (by kernel_rfl) (by kernel_rfl) (fun _ _ _ h => h) (Or.inl ⟨by rfl, ?_⟩) hS0 ?_
                  · intro W9 hS9
                    obtain ⟨q0, q1, q2⟩ := hS9
                    clear q0 q1 q2
                    go_simp
                  try simp only [Act.put, List.setIfInBounds_toArray, List.set_cons_zero, List.set_cons_succ]
                  refine wpAnyN_take (i := 7) (oi := { dst := some 129, op := Go.Op.move (Go.Operand.tmp 128), type := 4, pos := "law.go:63", after := #[{ on := 6, ground := Go.Ground.data }, { on := 4, ground := Go.Ground.chain }, { on := 4, ground := Go.Ground.guard }], guard := some (4, false) }) (v := .bool true) rfl (by decide) (by kernel_rfl) (by kernel_rfl) (by kernel_rfl) (fun _ _ _ h => h) (Or.inl ⟨by rfl, ?_⟩) hS0 ?_
                  · intro W9 hS9
                    obtain ⟨q0, q1, q2⟩ := hS9
                    clear q0 q1 q2
                    go_simp
                  try simp only [Act.put, List.setIfInBounds_toArray, List.set_cons_zero, List.set_cons_succ]
                  refine wpAnyN_take (i := 8) (oi := { dst := some 130, op := Go.Op.move (Go.Operand.tmp 20), type := 29, pos := "law.go:63", after := #[{ on := 7, ground := Go.Ground.guard }], guard := some (7, true) }) (v := .int .i64 2) rfl (by decide) (by kernel_rfl) (by kernel_rfl) (by kernel_rfl) (fun _ _ _ h => h) (Or.inl ⟨by rfl, ?_⟩) hS0 ?_
                  · intro W9 hS9
                    obtain ⟨q0, q1, q2⟩ := hS9
                    clear q0 q1 q2
                    go_simp
                  try simp only [Act.put, List.setIfInBounds_toArray, List.set_cons_zero, List.set_cons_succ]
                  refine wpAnyN_take (i := 9) (oi := { dst := some 131, op := Go.Op.binOp Go.BinOp.neq 29 (Go.Operand.tmp 130) (Go.Operand.const (Go.Value.int Go.IntKind.i64 2)) 29, type := 4, pos := "law.go:63", after := #[{ on := 8, ground := Go.Ground.data }, { on := 7, ground := Go.Ground.guard }], guard := some (7, true) }) (v := .bool false) rfl (by decide) (by kernel_rfl) (by kernel_rfl) (by kernel_rfl) (fun _ _ _ h => h) (Or.inl ⟨by rfl, ?_⟩) hS0 ?_
                  · intro W9 hS9
                    obtain ⟨q0, q1, q2⟩ := hS9
                    clear q0 q1 q2
                    go_simp
                  try simp only [Act.put, List.setIfInBounds_toArray, List.set_cons_zero, List.set_cons_succ]
                  refine wpAnyN_take (i := 10) (oi := { dst := some 132, op := Go.Op.move (Go.Operand.tmp 131), type := 4, pos := "law.go:63", after := #[{ on := 9, ground := Go.Ground.data }, { on := 7, ground := Go.Ground.chain }, { on := 7, ground := Go.Ground.guard }], guard := some (7, true) }) (v := .bool false) rfl (by decide) (by kernel_rfl) (by kernel_rfl) (by kernel_rfl) (fun _ _ _ h => h) (Or.inl ⟨by rfl, ?_⟩) hS0 ?_
                  · intro W9 hS9
                    obtain ⟨q0, q1, q2⟩ := hS9
                    clear q0 q1 q2
                    go_simp
                  try simp only [Act.put, List.setIfInBounds_toArray, List.set_cons_zero, List.set_cons_succ]
                  refine wpAnyN_take (i := 11) (oi := { dst := some 133, op := Go.Op.fieldAddr 25 (Go.Operand.tmp 19) 1, type := 0, pos := "law.go:63", after := #[{ on := 10, ground := Go.Ground.guard }], guard := some (10, false) }) (v := .pointer (some ⟨bp, 1, none⟩)) rfl (by decide) (by kernel_rfl) (by kernel_rfl) (by kernel_rfl) (fun _ _ _ h => h) (Or.inl ⟨by rfl, ?_⟩) hS0 ?_
                  · intro W9 hS9
                    obtain ⟨q0, q1, q2⟩ := hS9
                    clear q0 q1 q2
                    go_simp
                  try simp only [Act.put, List.setIfInBounds_toArray, List.set_cons_zero, List.set_cons_succ]
                  refine wpAnyN_take (i := 12) (oi := { dst := some 134, op := Go.Op.load 23 (Go.Operand.tmp 133), type := 23, pos := "law.go:63", after := #[{ on := 11, ground := Go.Ground.data }, { on := 10, ground := Go.Ground.guard }], guard := some (10, false) }) (v := .slice ap 0 dp) rfl (by decide) (by kernel_rfl) (by kernel_rfl) (by kernel_rfl) (fun _ _ _ h => h) (Or.inl ⟨by rfl, ?_⟩) hS0 ?_
                  · intro W9 hS9
                    obtain ⟨q0, q1, q2⟩ := hS9
                    have s0 : W9.cell? ⟨bp, 0, none⟩ = some (.int .u64 0) := q2.cell 0
                    have s1 : W9.cell? ⟨bp, 1, none⟩ = some (.slice ap 0 dp) := q2.cell 1
                    clear q0 q1 q2
                    go_simp
                  try simp only [Act.put, List.setIfInBounds_toArray, List.set_cons_zero, List.set_cons_succ]
                  refine wpAnyN_take (i := 13) (oi := { dst := some 135, op := Go.Op.call { callee := Go.Callee.builtin Go.Builtin.len, args := #[Go.Operand.tmp 134], argTypes := #[23] }, type := 3, pos := "law.go:63", after := #[{ on := 12, ground := Go.Ground.data }, { on := 10, ground := Go.Ground.guard }], guard := some (10, false) }) (v := .int .i64 0) rfl (by decide) (by kernel_rfl) (by kernel_rfl) (by kernel_rfl) (fun _ _ _ h => h) (Or.inl ⟨by rfl, ?_⟩) hS0 ?_
                  · intro W9 hS9
                    obtain ⟨q0, q1, q2⟩ := hS9
                    clear q0 q1 q2
                    go_simp
                  try simp only [Act.put, List.setIfInBounds_toArray, List.set_cons_zero, List.set_cons_succ]
                  refine wpAnyN_take (i := 14) (oi := { dst := some 136, op := Go.Op.binOp Go.BinOp.gtr 3 (Go.Operand.tmp 135) (Go.Operand.const (Go.Value.int Go.IntKind.i64 0)) 3, type := 4, pos := "law.go:63", after := #[{ on := 13, ground := Go.Ground.data }, { on := 10, ground := Go.Ground.guard }], guard := some (10, false) }) (v := .bool false) rfl (by decide) (by kernel_rfl) (by kernel_rfl) (by kernel_rfl) (fun _ _ _ h => h) (Or.inl ⟨by rfl, ?_⟩) hS0 ?_
                  · intro W9 hS9
                    obtain ⟨q0, q1, q2⟩ := hS9
                    clear q0 q1 q2
                    go_simp
                  try simp only [Act.put, List.setIfInBounds_toArray, List.set_cons_zero, List.set_cons_succ]
                  refine wpAnyN_take (i := 15) (oi := { dst := some 137, op := Go.Op.pick (Go.Operand.tmp 132) (Go.Operand.const (Go.Value.bool true)) (Go.Operand.tmp 136), type := 4, pos := "law.go:63", after := #[{ on := 10, ground := Go.Ground.data }, { on := 14, ground := Go.Ground.data }, { on := 7, ground := Go.Ground.guard }], guard := some (7, true) }) (v := .bool false) rfl (by decide) (by kernel_rfl) (by kernel_rfl) (by kernel_rfl) (fun _ _ _ h => h) (Or.inl ⟨by rfl, ?_⟩) hS0 ?_
                  · intro W9 hS9
                    obtain ⟨q0, q1, q2⟩ := hS9
                    clear q0 q1 q2
                    go_simp
                  try simp only [Act.put, List.setIfInBounds_toArray, List.set_cons_zero, List.set_cons_succ]
                  refine wpAnyN_take (i := 16) (oi := { dst := some 138, op := Go.Op.pick (Go.Operand.tmp 129) (Go.Operand.tmp 137) (Go.Operand.const (Go.Value.bool false)), type := 4, pos := "law.go:63", after := #[{ on := 7, ground := Go.Ground.data }, { on := 15, ground := Go.Ground.data }, { on := 4, ground := Go.Ground.guard }], guard := some (4, false) }) (v := .bool false) rfl (by decide) (by kernel_rfl) (by kernel_rfl) (by kernel_rfl) (fun _ _ _ h => h) (Or.inl ⟨by rfl, ?_⟩) hS0 ?_
                  · intro W9 hS9
                    obtain ⟨q0, q1, q2⟩ := hS9
                    clear q0 q1 q2
                    go_simp
                  try simp only [Act.put, List.setIfInBounds_toArray, List.set_cons_zero, List.set_cons_succ]
                  refine wpAnyN_take (i := 17) (oi := { dst := some 139, op := Go.Op.pick (Go.Operand.tmp 126) (Go.Operand.const (Go.Value.bool true)) (Go.Operand.tmp 138), type := 4, pos := "law.go:63", after := #[{ on := 4, ground := Go.Ground.data }, { on := 16, ground := Go.Ground.data }], guard := none }) (v := .bool false) rfl (by decide) (by kernel_rfl) (by kernel_rfl) (by kernel_rfl) (fun _ _ _ h => h) (Or.inl ⟨by rfl, ?_⟩) hS0 ?_
                  · intro W9 hS9
                    obtain ⟨q0, q1, q2⟩ := hS9
                    clear q0 q1 q2
                    go_simp
                  try simp only [Act.put, List.setIfInBounds_toArray, List.set_cons_zero, List.set_cons_succ]
                  refine wpAnyN_take (i := 18) (oi := { dst := some 140, op := Go.Op.move (Go.Operand.tmp 139), type := 4, pos := "law.go:63", after := #[{ on := 17, ground := Go.Ground.data }, { on := 10, ground := Go.Ground.chain }], guard := none }) (v := .bool false) rfl (by decide) (by kernel_rfl) (by kernel_rfl) (by kernel_rfl) (fun _ _ _ h => h) (Or.inl ⟨by rfl, ?_⟩) hS0 ?_
                  · intro W9 hS9
                    obtain ⟨q0, q1, q2⟩ := hS9
                    clear q0 q1 q2
                    go_simp
                  try simp only [Act.put, List.setIfInBounds_toArray, List.set_cons_zero, List.set_cons_succ]
                  refine wpAnyN_take (i := 19) (oi := { dst := some 141, op := Go.Op.move (Go.Operand.tmp 21), type := 4, pos := "law.go:63", after := #[{ on := 18, ground := Go.Ground.guard }], guard := some (18, false) }) (v := .bool false) rfl (by decide) (by kernel_rfl) (by kernel_rfl) (by kernel_rfl) (fun _ _ _ h => h) (Or.inl ⟨by rfl, ?_⟩) hS0 ?_
                  · intro W9 hS9
                    obtain ⟨q0, q1, q2⟩ := hS9
                    clear q0 q1 q2
                    go_simp
                  try simp only [Act.put, List.setIfInBounds_toArray, List.set_cons_zero, List.set_cons_succ]
                  refine wpAnyN_take (i := 20) (oi := { dst := some 142, op := Go.Op.move (Go.Operand.tmp 141), type := 4, pos := "law.go:63", after := #[{ on := 19, ground := Go.Ground.data }, { on := 18, ground := Go.Ground.chain }, { on := 18, ground := Go.Ground.guard }], guard := some (18, false) }) (v := .bool false) rfl (by decide) (by kernel_rfl) (by kernel_rfl) (by kernel_rfl) (fun _ _ _ h => h) (Or.inl ⟨by rfl, ?_⟩) hS0 ?_
                  · intro W9 hS9
                    obtain ⟨q0, q1, q2⟩ := hS9
                    clear q0 q1 q2
                    go_simp
                  try simp only [Act.put, List.setIfInBounds_toArray, List.set_cons_zero, List.set_cons_succ]
                  refine wpAnyN_take (i := 21) (oi := { dst := some 143, op := Go.Op.load 25 (Go.Operand.tmp 19), type := 25, pos := "law.go:63", after := #[{ on := 20, ground := Go.Ground.guard }], guard := some (20, true) }) (v := undef) rfl (by decide) (by kernel_rfl) (by kernel_rfl) (by kernel_rfl) (fun _ _ _ h => h) (Or.inr ⟨by rfl, rfl⟩) hS0 ?_
                  try simp only [Act.put, List.setIfInBounds_toArray, List.set_cons_zero, List.set_cons_succ]
                  refine wpAnyN_take (i := 22) (oi := { dst := some 144, op := Go.Op.move (Go.Operand.tmp 18), type := 3, pos := "law.go:63", after := #[{ on := 20, ground := Go.Ground.guard }], guard := some (20, true) }) (v := undef) rfl (by decide) (by kernel_rfl) (by kernel_rfl) (by kernel_rfl) (fun _ _ _ h => h) (Or.inr ⟨by rfl, rfl⟩) hS0 ?_
                  try simp only [Act.put, List.setIfInBounds_toArray, List.set_cons_zero, List.set_cons_succ]
                  refine wpAnyN_take (i := 23) (oi := { dst := some 145, op := Go.Op.makeSlice 23 (Go.Operand.tmp 144) (Go.Operand.tmp 144), type := 23, pos := "law.go:63", after := #[{ on := 22, ground := Go.Ground.data }, { on := 22, ground := Go.Ground.data }, { on := 20, ground := Go.Ground.guard }], guard := some (20, true) }) (v := undef) rfl (by decide) (by kernel_rfl) (by kernel_rfl) (by kernel_rfl) (fun _ _ _ h => h) (Or.inr ⟨by rfl, rfl⟩) hS0 ?_
                  try simp only [Act.put, List.setIfInBounds_toArray, List.set_cons_zero, List.set_cons_succ]
                  refine wpAnyN_take (i := 24) (oi := { dst := some 146, op := Go.Op.build 25 #[(1, Go.Operand.tmp 145)], type := 25, pos := "law.go:63", after := #[{ on := 23, ground := Go.Ground.data }, { on := 20, ground := Go.Ground.guard }], guard := some (20, true) }) (v := undef) rfl (by decide) (by kernel_rfl) (by kernel_rfl) (by kernel_rfl) (fun _ _ _ h => h) (Or.inr ⟨by rfl, rfl⟩) hS0 ?_
                  try simp only [Act.put, List.setIfInBounds_toArray, List.set_cons_zero, List.set_cons_succ]
                  refine wpAnyN_take (i := 25) (oi := { dst := some 147, op := Go.Op.call { callee := Go.Callee.value (Go.Operand.func 13), args := #[Go.Operand.tmp 143, Go.Operand.tmp 146], argTypes := #[25, 25] }, type := 4, pos := "law.go:63", after := #[{ on := 21, ground := Go.Ground.data }, { on := 24, ground := Go.Ground.data }, { on := 20, ground := Go.Ground.chain }, { on := 20, ground := Go.Ground.guard }], guard := some (20, true) }) (v := undef) rfl (by decide) (by kernel_rfl) (by kernel_rfl) (by kernel_rfl) (fun _ _ _ h => h) (Or.inr ⟨by rfl, rfl⟩) hS0 ?_
                  try simp only [Act.put, List.setIfInBounds_toArray, List.set_cons_zero, List.set_cons_succ]
                  refine wpAnyN_take (i := 26) (oi := { dst := some 148, op := Go.Op.unOp Go.UnOp.not 4 (Go.Operand.tmp 147), type := 4, pos := "law.go:63", after := #[{ on := 25, ground := Go.Ground.data }, { on := 20, ground := Go.Ground.guard }], guard := some (20, true) }) (v := undef) rfl (by decide) (by kernel_rfl) (by kernel_rfl) (by kernel_rfl) (fun _ _ _ h => h) (Or.inr ⟨by rfl, rfl⟩) hS0 ?_
                  try simp only [Act.put, List.setIfInBounds_toArray, List.set_cons_zero, List.set_cons_succ]
                  refine wpAnyN_take (i := 27) (oi := { dst := some 149, op := Go.Op.pick (Go.Operand.tmp 142) (Go.Operand.tmp 148) (Go.Operand.const (Go.Value.bool false)), type := 4, pos := "law.go:63", after := #[{ on := 20, ground := Go.Ground.data }, { on := 26, ground := Go.Ground.data }, { on := 18, ground := Go.Ground.guard }], guard := some (18, false) }) (v := .bool false) rfl (by decide) (by kernel_rfl) (by kernel_rfl) (by kernel_rfl) (fun _ _ _ h => h) (Or.inl ⟨by rfl, ?_⟩) hS0 ?_
                  · intro W9 hS9
                    obtain ⟨q0, q1, q2⟩ := hS9
                    clear q0 q1 q2
                    go_simp
                  try simp only [Act.put, List.setIfInBounds_toArray, List.set_cons_zero, List.set_cons_succ]
                  refine wpAnyN_take (i := 28) (oi := { dst := some 150, op := Go.Op.pick (Go.Operand.tmp 140) (Go.Operand.const (Go.Value.bool true)) (Go.Operand.tmp 149), type := 4, pos := "law.go:63", after := #[{ on := 18, ground := Go.Ground.data }, { on := 27, ground := Go.Ground.data }], guard := none }) (v := .bool false) rfl (by decide) (by kernel_rfl) (by kernel_rfl) (by kernel_rfl) (fun _ _ _ h => h) (Or.inl ⟨by rfl, ?_⟩) hS0 ?_
                  · intro W9 hS9
                    obtain ⟨q0, q1, q2⟩ := hS9
                    clear q0 q1 q2
                    go_simp
                  try simp only [Act.put, List.setIfInBounds_toArray, List.set_cons_zero, List.set_cons_succ]
                  refine wpAnyX_end (by kernel_rfl) ?_
                  have X9 := Lib.hid hS0.1
                  have P1 := Lib.hid hS0.2.1
                  clear hS0 IP 
                  go_wp2_with fail
                  clear hg hgw hne1 hneb d8
                  exact ⟨⟨k + 1, by omega, by go_num, X9, P1, I1, B⟩, by simp [intOf]; omega⟩
              · skip
                have hal : Below wn.heap.size wn (wn.alloc (.cells #[.int .u64 0, .slice ap 0 dp] 25)) := Rows8.newB
                have hBw := hB.trans (hal.mono hB.size)
                have PP := Lib.hid (Rows8.new wn 25 #[.int .u64 0, .slice ap 0 dp])
                have IP : Hid (WordsAt (wn.alloc (.cells #[.int .u64 0, .slice ap 0 dp] 25)) (.slice ap 0 dp) ([])) := Lib.hid (RowAt.below (rowAt_own hv) hal)
                have X9 := Lib.hid (X9.out.below hBw X9.out.lt)
                have P1 := Lib.hid (P1.out.below hBw P1.out.lt)
                have I1 : Hid (WordsAt (wn.alloc (.cells #[.int .u64 0, .slice ap 0 dp] 25)) (.slice a7 n7 c7) U) := Lib.hid (RowAt.below I1.out hBw)
                have B := Lib.hid (B.out.trans (hBw.mono B.out.size))
                clear hB hBw hal hv hN hm hq hq0 hqw hqi
                as_aux_lemma =>
                  go_upto_region 25 with fail
                  generalize (wn.alloc (.cells #[.int .u64 0, .slice ap 0 dp] 25)) = w10 at *
                  obtain ⟨bp, hbp⟩ : ∃ b, b = wn.heap.size := ⟨_, rfl⟩
                  rw [← hbp] at PP ⊢
                  clear hbp
                  refine wp_region_X (fun W' => Rows8 W' w.heap.size 25 #[.int .u64 Ex, .slice ax nx cx] ∧ Rows8 W' bA 25 #[.int .u64 Ex, .slice a7 n7 c7] ∧ Rows8 W' bp 25 #[.int .u64 0, .slice ap 0 dp]) 29 (by kernel_rfl) ?_
                  have hS0 : Rows8 w10.drew w.heap.size 25 #[.int .u64 Ex, .slice ax nx cx] ∧ Rows8 w10.drew bA 25 #[.int .u64 Ex, .slice a7 n7 c7] ∧ Rows8 w10.drew bp 25 #[.int .u64 0, .slice ap 0 dp] := ⟨X9.out.drewA, P1.out.drewA, PP.out.drewA⟩
                  have I1 : Hid (WordsAt w10.drew (.slice a7 n7 c7) U) := Lib.hid I1.out
                  have IP : Hid (WordsAt w10.drew (.slice ap 0 dp) ([])) := Lib.hid IP.out
                  have B := Lib.hid B.out.drew
                  clear X9 P1 PP
                  generalize w10.drew = Wd at *
                  refine wpAnyN_take (i := 0) (oi := { dst := some 122, op := Go.Op.move (Go.Operand.tmp 20), type := 29, pos := "law.go:63", after := #[], guard := none }) (v := .int .i64 2) rfl (by decide) (by kernel_rfl) (by kernel_rfl) (by kernel_rfl) (fun _ _ _ h => h) (Or.inl ⟨by rfl, ?_⟩) hS0 ?_
                  · intro W9 hS9
                    obtain ⟨q0, q1, q2⟩ := hS9
                    clear q0 q1 q2
                    go_simp
                  try simp only [Act.put, List.setIfInBounds_toArray, List.set_cons_zero, List.set_cons_succ]
                  refine wpAnyN_take (i := 1) (oi := { dst := some 123, op := Go.Op.binOp Go.BinOp.eql 29 (Go.Operand.tmp 122) (Go.Operand.const (Go.Value.int Go.IntKind.i64 0)) 29, type := 4, pos := "law.go:63", after := #[{ on := 0, ground := Go.Ground.data }], guard := none }) (v := .bool false) rfl (by decide) (by kernel_rfl) (by kernel_rfl) (by kernel_rfl) (fun _ _ _ h => h) (Or.inl ⟨by rfl, ?_⟩) hS0 ?_
                  · intro W9 hS9
                    obtain ⟨q0, q1, q2⟩ := hS9
                    clear q0 q1 q2
                    go_simp
                  try simp only [Act.put, List.setIfInBounds_toArray, List.set_cons_zero, List.set_cons_succ]
                  refine wpAnyN_take (i := 2) (oi := { dst := some 124, op := Go.Op.move (Go.Operand.tmp 21), type := 4, pos := "law.go:63", after := #[], guard := none }) (v := .bool false) rfl (by decide) (by kernel_rfl) (by kernel_rfl) (by kernel_rfl) (fun _ _ _ h => h) (Or.inl ⟨by rfl, ?_⟩) hS0 ?_
                  · intro W9 hS9
                    obtain ⟨q0, q1, q2⟩ := hS9
                    clear q0 q1 q2
                    go_simp
                  try simp only [Act.put, List.setIfInBounds_toArray, List.set_cons_zero, List.set_cons_succ]
                  refine wpAnyN_take (i := 3) (oi := { dst := some 125, op := Go.Op.binOp Go.BinOp.neq 4 (Go.Operand.tmp 123) (Go.Operand.tmp 124) 4, type := 4, pos := "law.go:63", after := #[{ on := 1, ground := Go.Ground.data }, { on := 2, ground := Go.Ground.data }], guard := none }) (v := .bool false) rfl (by decide) (by kernel_rfl) (by kernel_rfl) (by kernel_rfl) (fun _ _ _ h => h) (Or.inl ⟨by rfl, ?_⟩) hS0 ?_
                  · intro W9 hS9
                    obtain ⟨q0, q1, q2⟩ := hS9
                    clear q0 q1 q2
                    go_simp
                  try simp only [Act.put, List.setIfInBounds_toArray, List.set_cons_zero, List.set_cons_succ]
                  refine wpAnyN_take (i := 4) (oi := { dst := some 126, op := Go.Op.move (Go.Operand.tmp 125), type := 4, pos := "law.go:63", after := #[{ on := 3, ground := Go.Ground.data }], guard := none }) (v := .bool false) rfl (by decide) (by kernel_rfl) (by kernel_rfl) (by kernel_rfl) (fun _ _ _ h => h) (Or.inl ⟨by rfl, ?_⟩) hS0 ?_
                  · intro W9 hS9
                    obtain ⟨q0, q1, q2⟩ := hS9
                    clear q0 q1 q2
                    go_simp
                  try simp only [Act.put, List.setIfInBounds_toArray, List.set_cons_zero, List.set_cons_succ]
                  refine wpAnyN_take (i := 5) (oi := { dst := some 127, op := Go.Op.move (Go.Operand.tmp 21), type := 4, pos := "law.go:63", after := #[{ on := 4, ground := Go.Ground.guard }], guard := some (4, false) }) (v := .bool false) rfl (by decide) (by kernel_rfl) (by kernel_rfl) (by kernel_rfl) (fun _ _ _ h => h) (Or.inl ⟨by rfl, ?_⟩) hS0 ?_
                  · intro W9 hS9
                    obtain ⟨q0, q1, q2⟩ := hS9
                    clear q0 q1 q2
                    go_simp
                  try simp only [Act.put, List.setIfInBounds_toArray, List.set_cons_zero, List.set_cons_succ]
                  refine wpAnyN_take (i := 6) (oi := { dst := some 128, op := Go.Op.unOp Go.UnOp.not 4 (Go.Operand.tmp 127), type := 4, pos := "law.go:63", after := #[{ on := 5, ground := Go.Ground.data }, { on := 4, ground := Go.Ground.guard }], guard := some (4, false) }) (v := .bool true) rfl (by decide) (by kernel_rfl) (by kernel_rfl) (by kernel_rfl) (fun _ _ _ h => h) (Or.inl ⟨by rfl, ?_⟩) hS0 ?_
                  · intro W9 hS9
                    obtain ⟨q0, q1, q2⟩ := hS9
                    clear q0 q1 q2
                    go_simp
                  try simp only [Act.put, List.setIfInBounds_toArray, List.set_cons_zero, List.set_cons_succ]
                  refine wpAnyN_take (i := 7) (oi := { dst := some 129, op := Go.Op.move (Go.Operand.tmp 128), type := 4, pos := "law.go:63", after := #[{ on := 6, ground := Go.Ground.data }, { on := 4, ground := Go.Ground.chain }, { on := 4, ground := Go.Ground.guard }], guard := some (4, false) }) (v := .bool true) rfl (by decide) (by kernel_rfl) (by kernel_rfl) (by kernel_rfl) (fun _ _ _ h => h) (Or.inl ⟨by rfl, ?_⟩) hS0 ?_
                  · intro W9 hS9
                    obtain ⟨q0, q1, q2⟩ := hS9
                    clear q0 q1 q2
                    go_simp
                  try simp only [Act.put, List.setIfInBounds_toArray, List.set_cons_zero, List.set_cons_succ]
                  refine wpAnyN_take (i := 8) (oi := { dst := some 130, op := Go.Op.move (Go.Operand.tmp 20), type := 29, pos := "law.go:63", after := #[{ on := 7, ground := Go.Ground.guard }], guard := some (7, true) }) (v := .int .i64 2) rfl (by decide) (by kernel_rfl) (by kernel_rfl) (by kernel_rfl) (fun _ _ _ h => h) (Or.inl ⟨by rfl, ?_⟩) hS0 ?_
                  · intro W9 hS9
                    obtain ⟨q0, q1, q2⟩ := hS9
                    clear q0 q1 q2
                    go_simp
                  try simp only [Act.put, List.setIfInBounds_toArray, List.set_cons_zero, List.set_cons_succ]
                  refine wpAnyN_take (i := 9) (oi := { dst := some 131, op := Go.Op.binOp Go.BinOp.neq 29 (Go.Operand.tmp 130) (Go.Operand.const (Go.Value.int Go.IntKind.i64 2)) 29, type := 4, pos := "law.go:63", after := #[{ on := 8, ground := Go.Ground.data }, { on := 7, ground := Go.Ground.guard }], guard := some (7, true) }) (v := .bool false) rfl (by decide) (by kernel_rfl) (by kernel_rfl) (by kernel_rfl) (fun _ _ _ h => h) (Or.inl ⟨by rfl, ?_⟩) hS0 ?_
                  · intro W9 hS9
                    obtain ⟨q0, q1, q2⟩ := hS9
                    clear q0 q1 q2
                    go_simp
                  try simp only [Act.put, List.setIfInBounds_toArray, List.set_cons_zero, List.set_cons_succ]
                  refine wpAnyN_take (i := 10) (oi := { dst := some 132, op := Go.Op.move (Go.Operand.tmp 131), type := 4, pos := "law.go:63", after := #[{ on := 9, ground := Go.Ground.data }, { on := 7, ground := Go.Ground.chain }, { on := 7, ground := Go.Ground.guard }], guard := some (7, true) }) (v := .bool false) rfl (by decide) (by kernel_rfl) (by kernel_rfl) (by kernel_rfl) (fun _ _ _ h => h) (Or.inl ⟨by rfl, ?_⟩) hS0 ?_
                  · intro W9 hS9
                    obtain ⟨q0, q1, q2⟩ := hS9
                    clear q0 q1 q2
                    go_simp
                  try simp only [Act.put, List.setIfInBounds_toArray, List.set_cons_zero, List.set_cons_succ]
                  refine wpAnyN_take (i := 11) (oi := { dst := some 133, op := Go.Op.fieldAddr 25 (Go.Operand.tmp 19) 1, type := 0, pos := "law.go:63", after := #[{ on := 10, ground := Go.Ground.guard }], guard := some (10, false) }) (v := .pointer (some ⟨bp, 1, none⟩)) rfl (by decide) (by kernel_rfl) (by kernel_rfl) (by kernel_rfl) (fun _ _ _ h => h) (Or.inl ⟨by rfl, ?_⟩) hS0 ?_
                  · intro W9 hS9
                    obtain ⟨q0, q1, q2⟩ := hS9
                    clear q0 q1 q2
                    go_simp
                  try simp only [Act.put, List.setIfInBounds_toArray, List.set_cons_zero, List.set_cons_succ]
                  refine wpAnyN_take (i := 12) (oi := { dst := some 134, op := Go.Op.load 23 (Go.Operand.tmp 133), type := 23, pos := "law.go:63", after := #[{ on := 11, ground := Go.Ground.data }, { on := 10, ground := Go.Ground.guard }], guard := some (10, false) }) (v := .slice ap 0 dp) rfl (by decide) (by kernel_rfl) (by kernel_rfl) (by kernel_rfl) (fun _ _ _ h => h) (Or.inl ⟨by rfl, ?_⟩) hS0 ?_
                  · intro W9 hS9
                    obtain ⟨q0, q1, q2⟩ := hS9
                    have s0 : W9.cell? ⟨bp, 0, none⟩ = some (.int .u64 0) := q2.cell 0
                    have s1 : W9.cell? ⟨bp, 1, none⟩ = some (.slice ap 0 dp) := q2.cell 1
                    clear q0 q1 q2
                    go_simp
                  try simp only [Act.put, List.setIfInBounds_toArray, List.set_cons_zero, List.set_cons_succ]
                  refine wpAnyN_take (i := 13) (oi := { dst := some 135, op := Go.Op.call { callee := Go.Callee.builtin Go.Builtin.len, args := #[Go.Operand.tmp 134], argTypes := #[23] }, type := 3, pos := "law.go:63", after := #[{ on := 12, ground := Go.Ground.data }, { on := 10, ground := Go.Ground.guard }], guard := some (10, false) }) (v := .int .i64 0) rfl (by decide) (by kernel_rfl) (by kernel_rfl) (by kernel_rfl) (fun _ _ _ h => h) (Or.inl ⟨by rfl, ?_⟩) hS0 ?_
                  · intro W9 hS9
                    obtain ⟨q0, q1, q2⟩ := hS9
                    clear q0 q1 q2
                    go_simp
                  try simp only [Act.put, List.setIfInBounds_toArray, List.set_cons_zero, List.set_cons_succ]
                  refine wpAnyN_take (i := 14) (oi := { dst := some 136, op := Go.Op.binOp Go.BinOp.gtr 3 (Go.Operand.tmp 135) (Go.Operand.const (Go.Value.int Go.IntKind.i64 0)) 3, type := 4, pos := "law.go:63", after := #[{ on := 13, ground := Go.Ground.data }, { on := 10, ground := Go.Ground.guard }], guard := some (10, false) }) (v := .bool false) rfl (by decide) (by kernel_rfl) (by kernel_rfl) (by kernel_rfl) (fun _ _ _ h => h) (Or.inl ⟨by rfl, ?_⟩) hS0 ?_
                  · intro W9 hS9
                    obtain ⟨q0, q1, q2⟩ := hS9
                    clear q0 q1 q2
                    go_simp
                  try simp only [Act.put, List.setIfInBounds_toArray, List.set_cons_zero, List.set_cons_succ]
                  refine wpAnyN_take (i := 15) (oi := { dst := some 137, op := Go.Op.pick (Go.Operand.tmp 132) (Go.Operand.const (Go.Value.bool true)) (Go.Operand.tmp 136), type := 4, pos := "law.go:63", after := #[{ on := 10, ground := Go.Ground.data }, { on := 14, ground := Go.Ground.data }, { on := 7, ground := Go.Ground.guard }], guard := some (7, true) }) (v := .bool false) rfl (by decide) (by kernel_rfl) (by kernel_rfl) (by kernel_rfl) (fun _ _ _ h => h) (Or.inl ⟨by rfl, ?_⟩) hS0 ?_
                  · intro W9 hS9
                    obtain ⟨q0, q1, q2⟩ := hS9
                    clear q0 q1 q2
                    go_simp
                  try simp only [Act.put, List.setIfInBounds_toArray, List.set_cons_zero, List.set_cons_succ]
                  refine wpAnyN_take (i := 16) (oi := { dst := some 138, op := Go.Op.pick (Go.Operand.tmp 129) (Go.Operand.tmp 137) (Go.Operand.const (Go.Value.bool false)), type := 4, pos := "law.go:63", after := #[{ on := 7, ground := Go.Ground.data }, { on := 15, ground := Go.Ground.data }, { on := 4, ground := Go.Ground.guard }], guard := some (4, false) }) (v := .bool false) rfl (by decide) (by kernel_rfl) (by kernel_rfl) (by kernel_rfl) (fun _ _ _ h => h) (Or.inl ⟨by rfl, ?_⟩) hS0 ?_
                  · intro W9 hS9
                    obtain ⟨q0, q1, q2⟩ := hS9
                    clear q0 q1 q2
                    go_simp
                  try simp only [Act.put, List.setIfInBounds_toArray, List.set_cons_zero, List.set_cons_succ]
                  refine wpAnyN_take (i := 17) (oi := { dst := some 139, op := Go.Op.pick (Go.Operand.tmp 126) (Go.Operand.const (Go.Value.bool true)) (Go.Operand.tmp 138), type := 4, pos := "law.go:63", after := #[{ on := 4, ground := Go.Ground.data }, { on := 16, ground := Go.Ground.data }], guard := none }) (v := .bool false) rfl (by decide) (by kernel_rfl) (by kernel_rfl) (by kernel_rfl) (fun _ _ _ h => h) (Or.inl ⟨by rfl, ?_⟩) hS0 ?_
                  · intro W9 hS9
                    obtain ⟨q0, q1, q2⟩ := hS9
                    clear q0 q1 q2
                    go_simp
                  try simp only [Act.put, List.setIfInBounds_toArray, List.set_cons_zero, List.set_cons_succ]
                  refine wpAnyN_take (i := 18) (oi := { dst := some 140, op := Go.Op.move (Go.Operand.tmp 139), type := 4, pos := "law.go:63", after := #[{ on := 17, ground := Go.Ground.data }, { on := 10, ground := Go.Ground.chain }], guard := none }) (v := .bool false) rfl (by decide) (by kernel_rfl) (by kernel_rfl) (by kernel_rfl) (fun _ _ _ h => h) (Or.inl ⟨by rfl, ?_⟩) hS0 ?_
                  · intro W9 hS9
                    obtain ⟨q0, q1, q2⟩ := hS9
                    clear q0 q1 q2
                    go_simp
                  try simp only [Act.put, List.setIfInBounds_toArray, List.set_cons_zero, List.set_cons_succ]
                  refine wpAnyN_take (i := 19) (oi := { dst := some 141, op := Go.Op.move (Go.Operand.tmp 21), type := 4, pos := "law.go:63", after := #[{ on := 18, ground := Go.Ground.guard }], guard := some (18, false) }) (v := .bool false) rfl (by decide) (by kernel_rfl) (by kernel_rfl) (by kernel_rfl) (fun _ _ _ h => h) (Or.inl ⟨by rfl, ?_⟩) hS0 ?_
                  · intro W9 hS9
                    obtain ⟨q0, q1, q2⟩ := hS9
                    clear q0 q1 q2
                    go_simp
                  try simp only [Act.put, List.setIfInBounds_toArray, List.set_cons_zero, List.set_cons_succ]
                  refine wpAnyN_take (i := 20) (oi := { dst := some 142, op := Go.Op.move (Go.Operand.tmp 141), type := 4, pos := "law.go:63", after := #[{ on := 19, ground := Go.Ground.data }, { on := 18, ground := Go.Ground.chain }, { on := 18, ground := Go.Ground.guard }], guard := some (18, false) }) (v := .bool false) rfl (by decide) (by kernel_rfl) (by kernel_rfl) (by kernel_rfl) (fun _ _ _ h => h) (Or.inl ⟨by rfl, ?_⟩) hS0 ?_
                  · intro W9 hS9
                    obtain ⟨q0, q1, q2⟩ := hS9
                    clear q0 q1 q2
                    go_simp
                  try simp only [Act.put, List.setIfInBounds_toArray, List.set_cons_zero, List.set_cons_succ]
                  refine wpAnyN_take (i := 21) (oi := { dst := some 143, op := Go.Op.load 25 (Go.Operand.tmp 19), type := 25, pos := "law.go:63", after := #[{ on := 20, ground := Go.Ground.guard }], guard := some (20, true) }) (v := undef) rfl (by decide) (by kernel_rfl) (by kernel_rfl) (by kernel_rfl) (fun _ _ _ h => h) (Or.inr ⟨by rfl, rfl⟩) hS0 ?_
                  try simp only [Act.put, List.setIfInBounds_toArray, List.set_cons_zero, List.set_cons_succ]
                  refine wpAnyN_take (i := 22) (oi := { dst := some 144, op := Go.Op.move (Go.Operand.tmp 18), type := 3, pos := "law.go:63", after := #[{ on := 20, ground := Go.Ground.guard }], guard := some (20, true) }) (v := undef) rfl (by decide) (by kernel_rfl) (by kernel_rfl) (by kernel_rfl) (fun _ _ _ h => h) (Or.inr ⟨by rfl, rfl⟩) hS0 ?_
                  try simp only [Act.put, List.setIfInBounds_toArray, List.set_cons_zero, List.set_cons_succ]
                  refine wpAnyN_take (i := 23) (oi := { dst := some 145, op := Go.Op.makeSlice 23 (Go.Operand.tmp 144) (Go.Operand.tmp 144), type := 23, pos := "law.go:63", after := #[{ on := 22, ground := Go.Ground.data }, { on := 22, ground := Go.Ground.data }, { on := 20, ground := Go.Ground.guard }], guard := some (20, true) }) (v := undef) rfl (by decide) (by kernel_rfl) (by kernel_rfl) (by kernel_rfl) (fun _ _ _ h => h) (Or.inr ⟨by rfl, rfl⟩) hS0 ?_
                  try simp only [Act.put, List.setIfInBounds_toArray, List.set_cons_zero, List.set_cons_succ]
                  refine wpAnyN_take (i := 24) (oi := { dst := some 146, op := Go.Op.build 25 #[(1, Go.Operand.tmp 145)], type := 25, pos := "law.go:63", after := #[{ on := 23, ground := Go.Ground.data }, { on := 20, ground := Go.Ground.guard }], guard := some (20, true) }) (v := undef) rfl (by decide) (by kernel_rfl) (by kernel_rfl) (by kernel_rfl) (fun _ _ _ h => h) (Or.inr ⟨by rfl, rfl⟩) hS0 ?_
                  try simp only [Act.put, List.setIfInBounds_toArray, List.set_cons_zero, List.set_cons_succ]
                  refine wpAnyN_take (i := 25) (oi := { dst := some 147, op := Go.Op.call { callee := Go.Callee.value (Go.Operand.func 13), args := #[Go.Operand.tmp 143, Go.Operand.tmp 146], argTypes := #[25, 25] }, type := 4, pos := "law.go:63", after := #[{ on := 21, ground := Go.Ground.data }, { on := 24, ground := Go.Ground.data }, { on := 20, ground := Go.Ground.chain }, { on := 20, ground := Go.Ground.guard }], guard := some (20, true) }) (v := undef) rfl (by decide) (by kernel_rfl) (by kernel_rfl) (by kernel_rfl) (fun _ _ _ h => h) (Or.inr ⟨by rfl, rfl⟩) hS0 ?_
                  try simp only [Act.put, List.setIfInBounds_toArray, List.set_cons_zero, List.set_cons_succ]
                  refine wpAnyN_take (i := 26) (oi := { dst := some 148, op := Go.Op.unOp Go.UnOp.not 4 (Go.Operand.tmp 147), type := 4, pos := "law.go:63", after := #[{ on := 25, ground := Go.Ground.data }, { on := 20, ground := Go.Ground.guard }], guard := some (20, true) }) (v := undef) rfl (by decide) (by kernel_rfl) (by kernel_rfl) (by kernel_rfl) (fun _ _ _ h => h) (Or.inr ⟨by rfl, rfl⟩) hS0 ?_
                  try simp only [Act.put, List.setIfInBounds_toArray, List.set_cons_zero, List.set_cons_succ]
                  refine wpAnyN_take (i := 27) (oi := { dst := some 149, op := Go.Op.pick (Go.Operand.tmp 142) (Go.Operand.tmp 148) (Go.Operand.const (Go.Value.bool false)), type := 4, pos := "law.go:63", after := #[{ on := 20, ground := Go.Ground.data }, { on := 26, ground := Go.Ground.data }, { on := 18, ground := Go.Ground.guard }], guard := some (18, false) }) (v := .bool false) rfl (by decide) (by kernel_rfl) (by kernel_rfl) (by kernel_rfl) (fun _ _ _ h => h) (Or.inl ⟨by rfl, ?_⟩) hS0 ?_
                  · intro W9 hS9
                    obtain ⟨q0, q1, q2⟩ := hS9
                    clear q0 q1 q2
                    go_simp
                  try simp only [Act.put, List.setIfInBounds_toArray, List.set_cons_zero, List.set_cons_succ]
                  refine wpAnyN_take (i := 28) (oi := { dst := some 150, op := Go.Op.pick (Go.Operand.tmp 140) (Go.Operand.const (Go.Value.bool true)) (Go.Operand.tmp 149), type := 4, pos := "law.go:63", after := #[{ on := 18, ground := Go.Ground.data }, { on := 27, ground := Go.Ground.data }], guard := none }) (v := .bool false) rfl (by decide) (by kernel_rfl) (by kernel_rfl) (by kernel_rfl) (fun _ _ _ h => h) (Or.inl ⟨by rfl, ?_⟩) hS0 ?_
                  · intro W9 hS9
                    obtain ⟨q0, q1, q2⟩ := hS9
                    clear q0 q1 q2
                    go_simp
                  try simp only [Act.put, List.setIfInBounds_toArray, List.set_cons_zero, List.set_cons_succ]
                  refine wpAnyX_end (by kernel_rfl) ?_
                  have X9 := Lib.hid hS0.1
                  have P1 := Lib.hid hS0.2.1
                  clear hS0 IP 
                  go_wp2_with fail
                  clear hg hgw hne1 hneb d8
                  exact ⟨⟨k + 1, by omega, by go_num, X9, P1, I1, B⟩, by simp [intOf]; omega⟩
        · obtain rfl : k = nl := by omega
          have hki : ¬ (k : Int) < (k : Int) := by omega
          clear HSF HSG HNW
          go_wp2_with fail
          refine wp_region_X (fun W' => Rows8 W' w.heap.size 25 #[.int .u64 Ex, .slice ax nx cx] ∧ Rows8 W' bA 25 #[.int .u64 Ex, .slice a7 n7 c7]) 5 (by kernel_rfl) ?_
          have hS0 : Rows8 wr.drew w.heap.size 25 #[.int .u64 Ex, .slice ax nx cx] ∧ Rows8 wr.drew bA 25 #[.int .u64 Ex, .slice a7 n7 c7] := ⟨X9.out.drewA, P1.out.drewA⟩
          have I1 : Hid (WordsAt wr.drew (.slice a7 n7 c7) U) := Lib.hid I1.out
          have B := Lib.hid B.out.drew
          clear X9 P1
          generalize wr.drew = Wd at *
          refine wpAnyN_take (i := 0) (oi := { dst := some 152, op := Go.Op.load 25 (Go.Operand.tmp 7), type := 25, pos := "law.go:67", after := #[], guard := none }) (v := .agg #[.int .u64 Ex, .slice a7 n7 c7]) rfl (by decide) (by kernel_rfl) (by kernel_rfl) (by kernel_rfl) (fun _ _ _ h => h) (Or.inl ⟨by rfl, ?_⟩) hS0 ?_
          · intro W9 hS9
            obtain ⟨q0, q1⟩ := hS9
            have s0 : W9.cell? ⟨bA, 0, none⟩ = some (.int .u64 Ex) := q1.cell 0
            have s1 : W9.cell? ⟨bA, 1, none⟩ = some (.slice a7 n7 c7) := q1.cell 1
            clear q0 q1
            go_simp
          try simp only [Act.put, List.setIfInBounds_toArray, List.set_cons_zero, List.set_cons_succ]
          refine wpAnyN_take (i := 1) (oi := { dst := some 153, op := Go.Op.load 25 (Go.Operand.tmp 3), type := 25, pos := "law.go:67", after := #[], guard := none }) (v := .agg #[.int .u64 Ex, .slice ax nx cx]) rfl (by decide) (by kernel_rfl) (by kernel_rfl) (by kernel_rfl) (fun _ _ _ h => h) (Or.inl ⟨by rfl, ?_⟩) hS0 ?_
          · intro W9 hS9
            obtain ⟨q0, q1⟩ := hS9
            have s0 : W9.cell? ⟨w.heap.size, 0, none⟩ = some (.int .u64 Ex) := q0.cell 0
            have s1 : W9.cell? ⟨w.heap.size, 1, none⟩ = some (.slice ax nx cx) := q0.cell 1
            clear q0 q1
            go_simp
          try simp only [Act.put, List.setIfInBounds_toArray, List.set_cons_zero, List.set_cons_succ]
          refine wpAnyX_one (i := 2) (o := { dst := some 154, op := Go.Op.call { callee := Go.Callee.value (Go.Operand.func 9), args := #[Go.Operand.tmp 153], argTypes := #[25] }, type := 25, pos := "law.go:67", after := #[{ on := 1, ground := Go.Ground.data }], guard := none }) (by kernel_rfl) rfl (fun K hK => ?_)
          refine step_call_g (by rfl) 9 _ _ rfl (fun _ _ => by kernel_rfl) #[.agg #[.int .u64 Ex, .slice ax nx cx]] (by simp [go_sem]) _ (HOx Wd (RowAt.below HI.out B.out)).out ?_
          rintro e y3 ⟨⟨ao, no, do_, rfl, -, hO⟩, hC⟩
          refine ⟨_, rfl, ?_⟩
          have hS1 : Rows8 y3 w.heap.size 25 #[.int .u64 Ex, .slice ax nx cx] ∧ Rows8 y3 bA 25 #[.int .u64 Ex, .slice a7 n7 c7] := ⟨hS0.1.below hC hS0.1.lt, hS0.2.below hC hS0.2.lt⟩
          have I1 : Hid (WordsAt y3 (.slice a7 n7 c7) U) := Lib.hid (RowAt.below I1.out hC)
          have IO := Lib.hid (show WordsAt y3 (.slice ao no do_) U from rowAt_own hO)
          clear hO
          have B := Lib.hid (B.out.trans (hC.mono B.out.size))
          clear hC
          refine hK.out _ _ (fun _ => hS1) ?_
          clear hK K
          try simp only [Act.put, List.setIfInBounds_toArray, List.set_cons_zero, List.set_cons_succ]
          refine wpAnyX_one (i := 3) (o := { dst := some 155, op := Go.Op.call { callee := Go.Callee.value (Go.Operand.func 13), args := #[Go.Operand.tmp 152, Go.Operand.tmp 154], argTypes := #[25, 25] }, type := 4, pos := "law.go:67", after := #[{ on := 0, ground := Go.Ground.data }, { on := 2, ground := Go.Ground.data }, { on := 2, ground := Go.Ground.chain }], guard := none }) (by kernel_rfl) rfl (fun K hK => ?_)
          refine step_call_g (by rfl) 13 _ _ rfl (fun _ _ => by kernel_rfl) #[.agg #[.int .u64 Ex, .slice a7 n7 c7], .agg #[.int .u64 Ex, .slice ao no do_]] (by simp [go_sem]) _ (HSA Ex U y3 _ _ _ _ _ _ I1.out IO.out).out ?_
          rintro e y4 ⟨rfl, hC⟩
          refine ⟨_, rfl, ?_⟩
          have hS2 : Rows8 y4 w.heap.size 25 #[.int .u64 Ex, .slice ax nx cx] ∧ Rows8 y4 bA 25 #[.int .u64 Ex, .slice a7 n7 c7] := ⟨hS1.1.below hC hS1.1.lt, hS1.2.below hC hS1.2.lt⟩
          have I1 : Hid (WordsAt y4 (.slice a7 n7 c7) U) := Lib.hid (RowAt.below I1.out hC)
          have B := Lib.hid (B.out.trans (hC.mono B.out.size))
          clear hC
          refine hK.out _ _ (fun _ => hS2) ?_
          clear hK K
          try simp only [Act.put, List.setIfInBounds_toArray, List.set_cons_zero, List.set_cons_succ]
          refine wpAnyN_take (i := 4) (oi := { dst := some 6, op := Go.Op.assign (Go.Operand.tmp 155), type := 4, pos := "law.go:67", after := #[{ on := 3, ground := Go.Ground.data }, { on := 3, ground := Go.Ground.chain }, { on := 0, ground := Go.Ground.phase }, { on := 1, ground := Go.Ground.phase }, { on := 2, ground := Go.Ground.phase }, { on := 3, ground := Go.Ground.phase }], guard := none }) (v := .bool true) rfl (by decide) (by kernel_rfl) (by kernel_rfl) (by kernel_rfl) (fun _ _ _ h => h) (Or.inl ⟨by rfl, ?_⟩) hS2 ?_
          · intro W9 hS9
            obtain ⟨q0, q1⟩ := hS9
            clear q0 q1
            go_simp
          try simp only [Act.put, List.setIfInBounds_toArray, List.set_cons_zero, List.set_cons_succ]
          refine wpAnyX_end (by kernel_rfl) ?_
          go_wp2_with fail
          go_ret
          exact ⟨rfl, B.out⟩
  | true =>
    as_aux_lemma =>
      have c10 : w1.cell? ⟨bA, 0, none⟩ = some (.int .u64 Ex) := P1.out.cell 0
      have c11 : w1.cell? ⟨bA, 1, none⟩ = some (.slice a7 n7 c7) := P1.out.cell 1
      have HCl := Lib.hid (show Calls _ 11 #[.agg #[.int .u64 Ex, .slice a7 n7 c7]] w1 (fun e w' => e = .returned (.int .i64 0) ∧ Below w1.heap.size w1 w') from (HCK w1 _ _ _ I1.out).out)
      clear HCK
      go_wp2_with fail
      refine HCl.out.mono ?_
      rintro e w2 ⟨rfl, hB⟩
      clear c10 c11
      have X9 := Lib.hid (X9.out.below hB X9.out.lt)
      have P1 := Lib.hid (P1.out.below hB P1.out.lt)
      have I1 : Hid (WordsAt w2 (.slice a7 n7 c7) U) := Lib.hid (RowAt.below I1.out hB)
      have P2 := Lib.hid (P2.out.below hB P2.out.lt)
      have I2 : Hid (WordsAt w2 (.slice a8 n8 c8) V) := Lib.hid (RowAt.below I2.out hB)
      have B := Lib.hid (B.out.trans (hB.mono B.out.size))
      clear hB HCl
      go_wp2_with fail
      refine wp_region_X (fun W' => Rows8 W' w.heap.size 25 #[.int .u64 Ex, .slice ax nx cx] ∧ Rows8 W' bA 25 #[.int .u64 Ex, .slice a7 n7 c7] ∧ Rows8 W' bB 25 #[.int .u64 Ey, .slice a8 n8 c8]) 28 (by kernel_rfl) ?_
      have hS0 : Rows8 w2.drew w.heap.size 25 #[.int .u64 Ex, .slice ax nx cx] ∧ Rows8 w2.drew bA 25 #[.int .u64 Ex, .slice a7 n7 c7] ∧ Rows8 w2.drew bB 25 #[.int .u64 Ey, .slice a8 n8 c8] := ⟨X9.out.drewA, P1.out.drewA, P2.out.drewA⟩
      have I1 : Hid (WordsAt w2.drew (.slice a7 n7 c7) U) := Lib.hid I1.out
      have I2 : Hid (WordsAt w2.drew (.slice a8 n8 c8) V) := Lib.hid I2.out
      have B := Lib.hid B.out.drew
      clear X9 P1 P2
      generalize w2.drew = Wd at *
      refine wpAnyN_take (i := 0) (oi := { dst := some 32, op := Go.Op.move (Go.Operand.tmp 10), type := 29, pos := "law.go:41", after := #[], guard := none }) (v := .int .i64 0) rfl (by decide) (by kernel_rfl) (by kernel_rfl) (by kernel_rfl) (fun _ _ _ h => h) (Or.inl ⟨by rfl, ?_⟩) hS0 ?_
      · intro W9 hS9
        obtain ⟨q0, q1, q2⟩ := hS9
        clear q0 q1 q2
        go_simp
      try simp only [Act.put, List.setIfInBounds_toArray, List.set_cons_zero, List.set_cons_succ]
      refine wpAnyN_take (i := 1) (oi := { dst := some 33, op := Go.Op.binOp Go.BinOp.eql 29 (Go.Operand.tmp 32) (Go.Operand.const (Go.Value.int Go.IntKind.i64 0)) 29, type := 4, pos := "law.go:41", after := #[{ on := 0, ground := Go.Ground.data }], guard := none }) (v := .bool true) rfl (by decide) (by kernel_rfl) (by kernel_rfl) (by kernel_rfl) (fun _ _ _ h => h) (Or.inl ⟨by rfl, ?_⟩) hS0 ?_
      · intro W9 hS9
        obtain ⟨q0, q1, q2⟩ := hS9
        clear q0 q1 q2
        go_simp
      try simp only [Act.put, List.setIfInBounds_toArray, List.set_cons_zero, List.set_cons_succ]
      refine wpAnyN_take (i := 2) (oi := { dst := some 34, op := Go.Op.move (Go.Operand.tmp 9), type := 4, pos := "law.go:41", after := #[], guard := none }) (v := .bool true) rfl (by decide) (by kernel_rfl) (by kernel_rfl) (by kernel_rfl) (fun _ _ _ h => h) (Or.inl ⟨by rfl, ?_⟩) hS0 ?_
      · intro W9 hS9
        obtain ⟨q0, q1, q2⟩ := hS9
        clear q0 q1 q2
        go_simp
      try simp only [Act.put, List.setIfInBounds_toArray, List.set_cons_zero, List.set_cons_succ]
      refine wpAnyN_take (i := 3) (oi := { dst := some 35, op := Go.Op.binOp Go.BinOp.neq 4 (Go.Operand.tmp 33) (Go.Operand.tmp 34) 4, type := 4, pos := "law.go:41", after := #[{ on := 1, ground := Go.Ground.data }, { on := 2, ground := Go.Ground.data }], guard := none }) (v := .bool false) rfl (by decide) (by kernel_rfl) (by kernel_rfl) (by kernel_rfl) (fun _ _ _ h => h) (Or.inl ⟨by rfl, ?_⟩) hS0 ?_
      · intro W9 hS9
        obtain ⟨q0, q1, q2⟩ := hS9
        clear q0 q1 q2
        go_simp
      try simp only [Act.put, List.setIfInBounds_toArray, List.set_cons_zero, List.set_cons_succ]
      refine wpAnyN_take (i := 4) (oi := { dst := some 36, op := Go.Op.move (Go.Operand.tmp 35), type := 4, pos := "law.go:41", after := #[{ on := 3, ground := Go.Ground.data }], guard := none }) (v := .bool false) rfl (by decide) (by kernel_rfl) (by kernel_rfl) (by kernel_rfl) (fun _ _ _ h => h) (Or.inl ⟨by rfl, ?_⟩) hS0 ?_
      · intro W9 hS9
        obtain ⟨q0, q1, q2⟩ := hS9
        clear q0 q1 q2
        go_simp
      try simp only [Act.put, List.setIfInBounds_toArray, List.set_cons_zero, List.set_cons_succ]
      refine wpAnyN_take (i := 5) (oi := { dst := some 37, op := Go.Op.move (Go.Operand.tmp 10), type := 29, pos := "law.go:41", after := #[{ on := 4, ground := Go.Ground.guard }], guard := some (4, false) }) (v := .int .i64 0) rfl (by decide) (by kernel_rfl) (by kernel_rfl) (by kernel_rfl) (fun _ _ _ h => h) (Or.inl ⟨by rfl, ?_⟩) hS0 ?_
      · intro W9 hS9
        obtain ⟨q0, q1, q2⟩ := hS9
        clear q0 q1 q2
        go_simp
      try simp only [Act.put, List.setIfInBounds_toArray, List.set_cons_zero, List.set_cons_succ]
      refine wpAnyN_take (i := 6) (oi := { dst := some 38, op := Go.Op.binOp Go.BinOp.neq 29 (Go.Operand.tmp 37) (Go.Operand.const (Go.Value.int Go.IntKind.i64 0)) 29, type := 4, pos := "law.go:41", after := #[{ on := 5, ground := Go.Ground.data }, { on := 4, ground := Go.Ground.guard }], guard := some (4, false) }) (v := .bool false) rfl (by decide) (by kernel_rfl) (by kernel_rfl) (by kernel_rfl) (fun _ _ _ h => h) (Or.inl ⟨by rfl, ?_⟩) hS0 ?_
      · intro W9 hS9
        obtain ⟨q0, q1, q2⟩ := hS9
        clear q0 q1 q2
        go_simp
      try simp only [Act.put, List.setIfInBounds_toArray, List.set_cons_zero, List.set_cons_succ]
      refine wpAnyN_take (i := 7) (oi := { dst := some 39, op := Go.Op.move (Go.Operand.tmp 38), type := 4, pos := "law.go:41", after := #[{ on := 6, ground := Go.Ground.data }, { on := 4, ground := Go.Ground.chain }, { on := 4, ground := Go.Ground.guard }], guard := some (4, false) }) (v := .bool false) rfl (by decide) (by kernel_rfl) (by kernel_rfl) (by kernel_rfl) (fun _ _ _ h => h) (Or.inl ⟨by rfl, ?_⟩) hS0 ?_
      · intro W9 hS9
        obtain ⟨q0, q1, q2⟩ := hS9
        clear q0 q1 q2
        go_simp
      try simp only [Act.put, List.setIfInBounds_toArray, List.set_cons_zero, List.set_cons_succ]
      refine wpAnyN_take (i := 8) (oi := { dst := some 40, op := Go.Op.move (Go.Operand.tmp 10), type := 29, pos := "law.go:41", after := #[{ on := 7, ground := Go.Ground.guard }], guard := some (7, true) }) (v := undef) rfl (by decide) (by kernel_rfl) (by kernel_rfl) (by kernel_rfl) (fun _ _ _ h => h) (Or.inr ⟨by rfl, rfl⟩) hS0 ?_
      try simp only [Act.put, List.setIfInBounds_toArray, List.set_cons_zero, List.set_cons_succ]
      refine wpAnyN_take (i := 9) (oi := { dst := some 41, op := Go.Op.binOp Go.BinOp.neq 29 (Go.Operand.tmp 40) (Go.Operand.const (Go.Value.int Go.IntKind.i64 230)) 29, type := 4, pos := "law.go:41", after := #[{ on := 8, ground := Go.Ground.data }, { on := 7, ground := Go.Ground.guard }], guard := some (7, true) }) (v := undef) rfl (by decide) (by kernel_rfl) (by kernel_rfl) (by kernel_rfl) (fun _ _ _ h => h) (Or.inr ⟨by rfl, rfl⟩) hS0 ?_
      try simp only [Act.put, List.setIfInBounds_toArray, List.set_cons_zero, List.set_cons_succ]
      refine wpAnyN_take (i := 10) (oi := { dst := some 42, op := Go.Op.pick (Go.Operand.tmp 39) (Go.Operand.tmp 41) (Go.Operand.const (Go.Value.bool false)), type := 4, pos := "law.go:41", after := #[{ on := 7, ground := Go.Ground.data }, { on := 9, ground := Go.Ground.data }, { on := 4, ground := Go.Ground.guard }], guard := some (4, false) }) (v := .bool false) rfl (by decide) (by kernel_rfl) (by kernel_rfl) (by kernel_rfl) (fun _ _ _ h => h) (Or.inl ⟨by rfl, ?_⟩) hS0 ?_
      · intro W9 hS9
        obtain ⟨q0, q1, q2⟩ := hS9
        clear q0 q1 q2
        go_simp
      try simp only [Act.put, List.setIfInBounds_toArray, List.set_cons_zero, List.set_cons_succ]
      refine wpAnyN_take (i := 11) (oi := { dst := some 43, op := Go.Op.pick (Go.Operand.tmp 36) (Go.Operand.const (Go.Value.bool true)) (Go.Operand.tmp 42), type := 4, pos := "law.go:41", after := #[{ on := 4, ground := Go.Ground.data }, { on := 10, ground := Go.Ground.data }], guard := none }) (v := .bool false) rfl (by decide) (by kernel_rfl) (by kernel_rfl) (by kernel_rfl) (fun _ _ _ h => h) (Or.inl ⟨by rfl, ?_⟩) hS0 ?_
      · intro W9 hS9
        obtain ⟨q0, q1, q2⟩ := hS9
        clear q0 q1 q2
        go_simp
      try simp only [Act.put, List.setIfInBounds_toArray, List.set_cons_zero, List.set_cons_succ]
      refine wpAnyN_take (i := 12) (oi := { dst := some 44, op := Go.Op.move (Go.Operand.tmp 43), type := 4, pos := "law.go:41", after := #[{ on := 11, ground := Go.Ground.data }, { on := 7, ground := Go.Ground.chain }], guard := none }) (v := .bool false) rfl (by decide) (by kernel_rfl) (by kernel_rfl) (by kernel_rfl) (fun _ _ _ h => h) (Or.inl ⟨by rfl, ?_⟩) hS0 ?_
      · intro W9 hS9
        obtain ⟨q0, q1, q2⟩ := hS9
        clear q0 q1 q2
        go_simp
      try simp only [Act.put, List.setIfInBounds_toArray, List.set_cons_zero, List.set_cons_succ]
      refine wpAnyN_take (i := 13) (oi := { dst := some 45, op := Go.Op.load 25 (Go.Operand.tmp 7), type := 25, pos := "law.go:41", after := #[{ on := 12, ground := Go.Ground.guard }], guard := some (12, false) }) (v := .agg #[.int .u64 Ex, .slice a7 n7 c7]) rfl (by decide) (by kernel_rfl) (by kernel_rfl) (by kernel_rfl) (fun _ _ _ h => h) (Or.inl ⟨by rfl, ?_⟩) hS0 ?_
      · intro W9 hS9
        obtain ⟨q0, q1, q2⟩ := hS9
        have s0 : W9.cell? ⟨bA, 0, none⟩ = some (.int .u64 Ex) := q1.cell 0
        have s1 : W9.cell? ⟨bA, 1, none⟩ = some (.slice a7 n7 c7) := q1.cell 1
        clear q0 q1 q2
        go_simp
      try simp only [Act.put, List.setIfInBounds_toArray, List.set_cons_zero, List.set_cons_succ]
      refine wpAnyN_take (i := 14) (oi := { dst := some 46, op := Go.Op.load 25 (Go.Operand.tmp 8), type := 25, pos := "law.go:41", after := #[{ on := 12, ground := Go.Ground.guard }], guard := some (12, false) }) (v := .agg #[.int .u64 Ey, .slice a8 n8 c8]) rfl (by decide) (by kernel_rfl) (by kernel_rfl) (by kernel_rfl) (fun _ _ _ h => h) (Or.inl ⟨by rfl, ?_⟩) hS0 ?_
      · intro W9 hS9
        obtain ⟨q0, q1, q2⟩ := hS9
        have s0 : W9.cell? ⟨bB, 0, none⟩ = some (.int .u64 Ey) := q2.cell 0
        have s1 : W9.cell? ⟨bB, 1, none⟩ = some (.slice a8 n8 c8) := q2.cell 1
        clear q0 q1 q2
        go_simp
      try simp only [Act.put, List.setIfInBounds_toArray, List.set_cons_zero, List.set_cons_succ]
      refine wpAnyN_take (i := 16) (oi := { dst := some 48, op := Go.Op.load 25 (Go.Operand.tmp 7), type := 25, pos := "law.go:41", after := #[{ on := 12, ground := Go.Ground.guard }], guard := some (12, false) }) (v := .agg #[.int .u64 Ex, .slice a7 n7 c7]) rfl (by decide) (by kernel_rfl) (by kernel_rfl) (by kernel_rfl) (fun _ _ _ h => h) (Or.inl ⟨by rfl, ?_⟩) hS0 ?_
      · intro W9 hS9
        obtain ⟨q0, q1, q2⟩ := hS9
        have s0 : W9.cell? ⟨bA, 0, none⟩ = some (.int .u64 Ex) := q1.cell 0
        have s1 : W9.cell? ⟨bA, 1, none⟩ = some (.slice a7 n7 c7) := q1.cell 1
        clear q0 q1 q2
        go_simp
      try simp only [Act.put, List.setIfInBounds_toArray, List.set_cons_zero, List.set_cons_succ]
      refine wpAnyN_take (i := 17) (oi := { dst := some 49, op := Go.Op.load 25 (Go.Operand.tmp 8), type := 25, pos := "law.go:41", after := #[{ on := 12, ground := Go.Ground.guard }], guard := some (12, false) }) (v := .agg #[.int .u64 Ey, .slice a8 n8 c8]) rfl (by decide) (by kernel_rfl) (by kernel_rfl) (by kernel_rfl) (fun _ _ _ h => h) (Or.inl ⟨by rfl, ?_⟩) hS0 ?_
      · intro W9 hS9
        obtain ⟨q0, q1, q2⟩ := hS9
        have s0 : W9.cell? ⟨bB, 0, none⟩ = some (.int .u64 Ey) := q2.cell 0
        have s1 : W9.cell? ⟨bB, 1, none⟩ = some (.slice a8 n8 c8) := q2.cell 1
        clear q0 q1 q2
        go_simp
      try simp only [Act.put, List.setIfInBounds_toArray, List.set_cons_zero, List.set_cons_succ]
      refine wpAnyX_one (i := 15) (o := { dst := some 47, op := Go.Op.call { callee := Go.Callee.value (Go.Operand.func 12), args := #[Go.Operand.tmp 45, Go.Operand.tmp 46], argTypes := #[25, 25] }, type := 4, pos := "law.go:41", after := #[{ on := 13, ground := Go.Ground.data }, { on := 14, ground := Go.Ground.data }, { on := 12, ground := Go.Ground.chain }, { on := 12, ground := Go.Ground.guard }], guard := some (12, false) }) (by kernel_rfl) rfl (fun K hK => ?_)
      refine step_call_g (by rfl) 12 _ _ rfl (fun _ _ => by kernel_rfl) #[.agg #[.int .u64 Ex, .slice a7 n7 c7], .agg #[.int .u64 Ey, .slice a8 n8 c8]] (by simp [go_sem]) _ (HSM Wd _ _ _ _ _ _ I1.out I2.out).out ?_
      rintro e y1 ⟨rfl, hC⟩
      refine ⟨_, rfl, ?_⟩
      have hS1 : Rows8 y1 w.heap.size 25 #[.int .u64 Ex, .slice ax nx cx] ∧ Rows8 y1 bA 25 #[.int .u64 Ex, .slice a7 n7 c7] ∧ Rows8 y1 bB 25 #[.int .u64 Ey, .slice a8 n8 c8] := ⟨hS0.1.below hC hS0.1.lt, hS0.2.1.below hC hS0.2.1.lt, hS0.2.2.below hC hS0.2.2.lt⟩
      have I1 : Hid (WordsAt y1 (.slice a7 n7 c7) U) := Lib.hid (RowAt.below I1.out hC)
      have I2 : Hid (WordsAt y1 (.slice a8 n8 c8) V) := Lib.hid (RowAt.below I2.out hC)
      have B := Lib.hid (B.out.trans (hC.mono B.out.size))
      clear hC
      refine hK.out _ _ (fun _ => hS1) ?_
      clear hK K
      try simp only [Act.put, List.setIfInBounds_toArray, List.set_cons_zero, List.set_cons_succ]
      refine wpAnyX_one (i := 18) (o := { dst := some 50, op := Go.Op.call { callee := Go.Callee.value (Go.Operand.func 13), args := #[Go.Operand.tmp 48, Go.Operand.tmp 49], argTypes := #[25, 25] }, type := 4, pos := "law.go:41", after := #[{ on := 16, ground := Go.Ground.data }, { on := 17, ground := Go.Ground.data }, { on := 15, ground := Go.Ground.chain }, { on := 12, ground := Go.Ground.guard }], guard := some (12, false) }) (by kernel_rfl) rfl (fun K hK => ?_)
      refine step_call_g (by rfl) 13 _ _ rfl (fun _ _ => by kernel_rfl) #[.agg #[.int .u64 Ex, .slice a7 n7 c7], .agg #[.int .u64 Ey, .slice a8 n8 c8]] (by simp [go_sem]) _ (HSR y1 _ _ _ _ _ _ I1.out I2.out).out ?_
      rintro e y2 ⟨rfl, hC⟩
      refine ⟨_, rfl, ?_⟩
      have hS2 : Rows8 y2 w.heap.size 25 #[.int .u64 Ex, .slice ax nx cx] ∧ Rows8 y2 bA 25 #[.int .u64 Ex, .slice a7 n7 c7] ∧ Rows8 y2 bB 25 #[.int .u64 Ey, .slice a8 n8 c8] := ⟨hS1.1.below hC hS1.1.lt, hS1.2.1.below hC hS1.2.1.lt, hS1.2.2.below hC hS1.2.2.lt⟩
      have I1 : Hid (WordsAt y2 (.slice a7 n7 c7) U) := Lib.hid (RowAt.below I1.out hC)
      have I2 : Hid (WordsAt y2 (.slice a8 n8 c8) V) := Lib.hid (RowAt.below I2.out hC)
      have B := Lib.hid (B.out.trans (hC.mono B.out.size))
      clear hC
      refine hK.out _ _ (fun _ => hS2) ?_
      clear hK K
      try simp only [Act.put, List.setIfInBounds_toArray, List.set_cons_zero, List.set_cons_succ]
      refine wpAnyN_take (i := 19) (oi := { dst := some 51, op := Go.Op.binOp Go.BinOp.neq 4 (Go.Operand.tmp 47) (Go.Operand.tmp 50) 4, type := 4, pos := "law.go:41", after := #[{ on := 15, ground := Go.Ground.data }, { on := 18, ground := Go.Ground.data }, { on := 12, ground := Go.Ground.guard }], guard := some (12, false) }) (v := .bool false) rfl (by decide) (by kernel_rfl) (by kernel_rfl) (by kernel_rfl) (fun _ _ _ h => h) (Or.inl ⟨by rfl, ?_⟩) hS2 ?_
      · intro W9 hS9
        obtain ⟨q0, q1, q2⟩ := hS9
        clear q0 q1 q2
        go_simp
      try simp only [Act.put, List.setIfInBounds_toArray, List.set_cons_zero, List.set_cons_succ]
      refine wpAnyN_take (i := 20) (oi := { dst := some 52, op := Go.Op.pick (Go.Operand.tmp 44) (Go.Operand.const (Go.Value.bool true)) (Go.Operand.tmp 51), type := 4, pos := "law.go:41", after := #[{ on := 12, ground := Go.Ground.data }, { on := 19, ground := Go.Ground.data }], guard := none }) (v := .bool false) rfl (by decide) (by kernel_rfl) (by kernel_rfl) (by kernel_rfl) (fun _ _ _ h => h) (Or.inl ⟨by rfl, ?_⟩) hS2 ?_
      · intro W9 hS9
        obtain ⟨q0, q1, q2⟩ := hS9
        clear q0 q1 q2
        go_simp
      try simp only [Act.put, List.setIfInBounds_toArray, List.set_cons_zero, List.set_cons_succ]
      refine wpAnyN_take (i := 21) (oi := { dst := some 53, op := Go.Op.move (Go.Operand.tmp 52), type := 4, pos := "law.go:41", after := #[{ on := 20, ground := Go.Ground.data }, { on := 18, ground := Go.Ground.chain }], guard := none }) (v := .bool false) rfl (by decide) (by kernel_rfl) (by kernel_rfl) (by kernel_rfl) (fun _ _ _ h => h) (Or.inl ⟨by rfl, ?_⟩) hS2 ?_
      · intro W9 hS9
        obtain ⟨q0, q1, q2⟩ := hS9
        clear q0 q1 q2
        go_simp
      try simp only [Act.put, List.setIfInBounds_toArray, List.set_cons_zero, List.set_cons_succ]
      refine wpAnyN_take (i := 22) (oi := { dst := some 54, op := Go.Op.load 25 (Go.Operand.tmp 7), type := 25, pos := "law.go:41", after := #[{ on := 21, ground := Go.Ground.guard }], guard := some (21, false) }) (v := .agg #[.int .u64 Ex, .slice a7 n7 c7]) rfl (by decide) (by kernel_rfl) (by kernel_rfl) (by kernel_rfl) (fun _ _ _ h => h) (Or.inl ⟨by rfl, ?_⟩) hS2 ?_
      · intro W9 hS9
        obtain ⟨q0, q1, q2⟩ := hS9
        have s0 : W9.cell? ⟨bA, 0, none⟩ = some (.int .u64 Ex) := q1.cell 0
        have s1 : W9.cell? ⟨bA, 1, none⟩ = some (.slice a7 n7 c7) := q1.cell 1
        clear q0 q1 q2
        go_simp
      try simp only [Act.put, List.setIfInBounds_toArray, List.set_cons_zero, List.set_cons_succ]
      refine wpAnyN_take (i := 23) (oi := { dst := some 55, op := Go.Op.load 25 (Go.Operand.tmp 3), type := 25, pos := "law.go:41", after := #[{ on := 21, ground := Go.Ground.guard }], guard := some (21, false) }) (v := .agg #[.int .u64 Ex, .slice ax nx cx]) rfl (by decide) (by kernel_rfl) (by kernel_rfl) (by kernel_rfl) (fun _ _ _ h => h) (Or.inl ⟨by rfl, ?_⟩) hS2 ?_
      · intro W9 hS9
        obtain ⟨q0, q1, q2⟩ := hS9
        have s0 : W9.cell? ⟨w.heap.size, 0, none⟩ = some (.int .u64 Ex) := q0.cell 0
        have s1 : W9.cell? ⟨w.heap.size, 1, none⟩ = some (.slice ax nx cx) := q0.cell 1
        clear q0 q1 q2
        go_simp
      try simp only [Act.put, List.setIfInBounds_toArray, List.set_cons_zero, List.set_cons_succ]
      refine wpAnyX_one (i := 24) (o := { dst := some 56, op := Go.Op.call { callee := Go.Callee.value (Go.Operand.func 9), args := #[Go.Operand.tmp 55], argTypes := #[25] }, type := 25, pos := "law.go:41", after := #[{ on := 23, ground := Go.Ground.data }, { on := 21, ground := Go.Ground.chain }, { on := 21, ground := Go.Ground.guard }], guard := some (21, false) }) (by kernel_rfl) rfl (fun K hK => ?_)
      refine step_call_g (by rfl) 9 _ _ rfl (fun _ _ => by kernel_rfl) #[.agg #[.int .u64 Ex, .slice ax nx cx]] (by simp [go_sem]) _ (HOx y2 (RowAt.below HI.out B.out)).out ?_
      rintro e y3 ⟨⟨ao, no, do_, rfl, -, hO⟩, hC⟩
      refine ⟨_, rfl, ?_⟩
      have hS3 : Rows8 y3 w.heap.size 25 #[.int .u64 Ex, .slice ax nx cx] ∧ Rows8 y3 bA 25 #[.int .u64 Ex, .slice a7 n7 c7] ∧ Rows8 y3 bB 25 #[.int .u64 Ey, .slice a8 n8 c8] := ⟨hS2.1.below hC hS2.1.lt, hS2.2.1.below hC hS2.2.1.lt, hS2.2.2.below hC hS2.2.2.lt⟩
      have I1 : Hid (WordsAt y3 (.slice a7 n7 c7) U) := Lib.hid (RowAt.below I1.out hC)
      have I2 : Hid (WordsAt y3 (.slice a8 n8 c8) V) := Lib.hid (RowAt.below I2.out hC)
      have IO := Lib.hid (show WordsAt y3 (.slice ao no do_) U from rowAt_own hO)
      clear hO
      have B := Lib.hid (B.out.trans (hC.mono B.out.size))
      clear hC
      refine hK.out _ _ (fun _ => hS3) ?_
      clear hK K
      try simp only [Act.put, List.setIfInBounds_toArray, List.set_cons_zero, List.set_cons_succ]
      refine wpAnyX_one (i := 25) (o := { dst := some 57, op := Go.Op.call { callee := Go.Callee.value (Go.Operand.func 12), args := #[Go.Operand.tmp 54, Go.Operand.tmp 56], argTypes := #[25, 25] }, type := 4, pos := "law.go:41", after := #[{ on := 22, ground := Go.Ground.data }, { on := 24, ground := Go.Ground.data }, { on := 24, ground := Go.Ground.chain }, { on := 21, ground := Go.Ground.guard }], guard := some (21, false) }) (by kernel_rfl) rfl (fun K hK => ?_)
      refine step_call_g (by rfl) 12 _ _ rfl (fun _ _ => by kernel_rfl) #[.agg #[.int .u64 Ex, .slice a7 n7 c7], .agg #[.int .u64 Ex, .slice ao no do_]] (by simp [go_sem]) _ (HSU y3 _ _ _ _ _ _ I1.out IO.out).out ?_
      rintro e y4 ⟨rfl, hC⟩
      refine ⟨_, rfl, ?_⟩
      have hS4 : Rows8 y4 w.heap.size 25 #[.int .u64 Ex, .slice ax nx cx] ∧ Rows8 y4 bA 25 #[.int .u64 Ex, .slice a7 n7 c7] ∧ Rows8 y4 bB 25 #[.int .u64 Ey, .slice a8 n8 c8] := ⟨hS3.1.below hC hS3.1.lt, hS3.2.1.below hC hS3.2.1.lt, hS3.2.2.below hC hS3.2.2.lt⟩
      have I1 : Hid (WordsAt y4 (.slice a7 n7 c7) U) := Lib.hid (RowAt.below I1.out hC)
      have I2 : Hid (WordsAt y4 (.slice a8 n8 c8) V) := Lib.hid (RowAt.below I2.out hC)
      have B := Lib.hid (B.out.trans (hC.mono B.out.size))
      clear hC
      refine hK.out _ _ (fun _ => hS4) ?_
      clear hK K
      try simp only [Act.put, List.setIfInBounds_toArray, List.set_cons_zero, List.set_cons_succ]
      refine wpAnyN_take (i := 26) (oi := { dst := some 58, op := Go.Op.unOp Go.UnOp.not 4 (Go.Operand.tmp 57), type := 4, pos := "law.go:41", after := #[{ on := 25, ground := Go.Ground.data }, { on := 21, ground := Go.Ground.guard }], guard := some (21, false) }) (v := .bool false) rfl (by decide) (by kernel_rfl) (by kernel_rfl) (by kernel_rfl) (fun _ _ _ h => h) (Or.inl ⟨by rfl, ?_⟩) hS4 ?_
      · intro W9 hS9
        obtain ⟨q0, q1, q2⟩ := hS9
        clear q0 q1 q2
        go_simp
      try simp only [Act.put, List.setIfInBounds_toArray, List.set_cons_zero, List.set_cons_succ]
      refine wpAnyN_take (i := 27) (oi := { dst := some 59, op := Go.Op.pick (Go.Operand.tmp 53) (Go.Operand.const (Go.Value.bool true)) (Go.Operand.tmp 58), type := 4, pos := "law.go:41", after := #[{ on := 21, ground := Go.Ground.data }, { on := 26, ground := Go.Ground.data }], guard := none }) (v := .bool false) rfl (by decide) (by kernel_rfl) (by kernel_rfl) (by kernel_rfl) (fun _ _ _ h => h) (Or.inl ⟨by rfl, ?_⟩) hS4 ?_
      · intro W9 hS9
        obtain ⟨q0, q1, q2⟩ := hS9
        clear q0 q1 q2
        go_simp
      try simp only [Act.put, List.setIfInBounds_toArray, List.set_cons_zero, List.set_cons_succ]
      refine wpAnyX_end (by kernel_rfl) ?_
      have X9 := Lib.hid hS4.1
      have P1 := Lib.hid hS4.2.1
      have P2 := Lib.hid hS4.2.2
      clear hS0 hS1 hS2 hS3 hS4 IO HSM HSR HSU
      clear P2 I2
      have c10 : y4.cell? ⟨bA, 0, none⟩ = some (.int .u64 Ex) := P1.out.cell 0
      have c11 : y4.cell? ⟨bA, 1, none⟩ = some (.slice a7 n7 c7) := P1.out.cell 1
      have HCl := HB1 trivial y4 _ _ _ I1.out
      clear HB1
      go_wp2_with fail
      refine HCl.out.mono ?_
      rintro e w3 ⟨v3, rfl, hO, hB⟩
      obtain ⟨ab, db, hv⟩ := hO.form
      subst hv
      have IB : Hid (IntsAt w3 (.slice ab bk.length db) bk) := Lib.hid (rowAt_own hO)
      obtain ⟨nb, hnb⟩ : ∃ nb, nb = bk.length := ⟨_, rfl⟩
      rw [← hnb] at IB ⊢
      have HNB := Lib.hid hnb
      clear c10 c11
      have X9 := Lib.hid (X9.out.below hB X9.out.lt)
      have P1 := Lib.hid (P1.out.below hB P1.out.lt)
      have I1 : Hid (WordsAt w3 (.slice a7 n7 c7) U) := Lib.hid (RowAt.below I1.out hB)
      have B := Lib.hid (B.out.trans (hB.mono B.out.size))
      clear hB HCl hO hnb
      have c10 : w3.cell? ⟨bA, 0, none⟩ = some (.int .u64 Ex) := P1.out.cell 0
      have c11 : w3.cell? ⟨bA, 1, none⟩ = some (.slice a7 n7 c7) := P1.out.cell 1
      have HCl := HO1 w3 _ _ _ I1.out
      clear HO1
      go_wp2_with fail
      refine HCl.out.mono ?_
      rintro e w4 ⟨rfl, hB⟩
      have IB : Hid (IntsAt w4 (.slice ab nb db) bk) := Lib.hid (RowAt.below IB.out hB)
      clear c10 c11
      have X9 := Lib.hid (X9.out.below hB X9.out.lt)
      have P1 := Lib.hid (P1.out.below hB P1.out.lt)
      have I1 : Hid (WordsAt w4 (.slice a7 n7 c7) U) := Lib.hid (RowAt.below I1.out hB)
      have B := Lib.hid (B.out.trans (hB.mono B.out.size))
      clear hB HCl
      have c10 : w4.cell? ⟨bA, 0, none⟩ = some (.int .u64 Ex) := P1.out.cell 0
      have c11 : w4.cell? ⟨bA, 1, none⟩ = some (.slice a7 n7 c7) := P1.out.cell 1
      have HCl := Lib.hid (show Calls _ 16 #[.agg #[.int .u64 Ex, .slice a7 n7 c7]] w4 (fun e w' => e = .returned (.tuple #[.int .u64 o1, .bool o2]) ∧ Below w4.heap.size w4 w') from (HO2 w4 _ _ _ I1.out).out)
      clear HO2
      go_wp2_with fail
      refine HCl.out.mono ?_
      rintro e w5 ⟨rfl, hB⟩
      have IB : Hid (IntsAt w5 (.slice ab nb db) bk) := Lib.hid (RowAt.below IB.out hB)
      clear c10 c11
      have X9 := Lib.hid (X9.out.below hB X9.out.lt)
      have P1 := Lib.hid (P1.out.below hB P1.out.lt)
      have I1 : Hid (WordsAt w5 (.slice a7 n7 c7) U) := Lib.hid (RowAt.below I1.out hB)
      have B := Lib.hid (B.out.trans (hB.mono B.out.size))
      clear hB HCl
      have c10 : w5.cell? ⟨bA, 0, none⟩ = some (.int .u64 Ex) := P1.out.cell 0
      have c11 : w5.cell? ⟨bA, 1, none⟩ = some (.slice a7 n7 c7) := P1.out.cell 1
      have HCl := Lib.hid (show Calls _ 18 #[.agg #[.int .u64 Ex, .slice a7 n7 c7]] w5 (IntsQ bk w5) from (HB2 w5 _ _ _ I1.out).out)
      clear HB2
      have hne1 : ∀ z : Int, (z != z) = false := fun z => by simp
      go_wp2_with fail
      refine HCl.out.mono ?_
      rintro e w6 ⟨v6, rfl, hO, hB⟩
      obtain ⟨a6, d6, hv⟩ := hO.form
      subst hv
      have I6 : Hid (IntsAt w6 (.slice a6 bk.length d6) bk) := Lib.hid (rowAt_own hO)
      rw [← HNB.out] at I6 ⊢
      have IB : Hid (IntsAt w6 (.slice ab nb db) bk) := Lib.hid (RowAt.below IB.out hB)
      clear c10 c11
      have X9 := Lib.hid (X9.out.below hB X9.out.lt)
      have P1 := Lib.hid (P1.out.below hB P1.out.lt)
      have I1 : Hid (WordsAt w6 (.slice a7 n7 c7) U) := Lib.hid (RowAt.below I1.out hB)
      have B := Lib.hid (B.out.trans (hB.mono B.out.size))
      clear hB HCl hO
      have HCl := HEQ bk HBL.out w6 _ _ _ _ _ _ I6.out IB.out
      clear HEQ I6 IB
      go_wp2_with fail
      refine HCl.out.mono ?_
      rintro e w7 ⟨rfl, hB⟩
      have X9 := Lib.hid (X9.out.below hB X9.out.lt)
      have P1 := Lib.hid (P1.out.below hB P1.out.lt)
      have I1 : Hid (WordsAt w7 (.slice a7 n7 c7) U) := Lib.hid (RowAt.below I1.out hB)
      have B := Lib.hid (B.out.trans (hB.mono B.out.size))
      clear hB HCl
      go_wp2_with fail
      go_loopw [90] (fun j wr => ∃ k : Nat, k ≤ nl ∧ j = .int .i64 k ∧ Hid (Rows8 wr w.heap.size 25 #[.int .u64 Ex, .slice ax nx cx]) ∧ Hid (Rows8 wr bA 25 #[.int .u64 Ex, .slice a7 n7 c7]) ∧ Hid (WordsAt wr (.slice a7 n7 c7) U) ∧ Hid (Below w.heap.size w wr)) (fun j _ => nl - (intOf j).toNat)
      case atStart => exact ⟨0, Nat.zero_le _, rfl, X9, P1, I1, B⟩
      case round =>
        obtain ⟨k, hk, rfl, hX, hP, hI, hBB⟩ := hrel
        clear X9 P1 I1 B
        have X9 := hX
        have P1 := hP
        have I1 := hI
        have B := hBB
        clear hX hP hI hBB
        by_cases hlt : k < nl
        · have hki : (k : Int) < (nl : Int) := by omega
          have hki0 : (0 : Int) ≤ (k : Int) := by omega
          have hkl : k < l.length := by rw [← HNL.out]; exact hlt
          obtain ⟨b, off, rfl, hb3, z0⟩ := wordsAt_get (RowAt.below HL.out.1 B.out) k hkl
          have hz := okW_get HL.out.2 k hkl
          generalize l[k]?.getD 0 = z at *
          clear hb3 hkl
          by_cases h8 : k = 8
          · have d8 : ((k : Int) == 8) = true := by simp; omega
            clear h8 HSF HSG HNW
            as_aux_lemma =>
              go_wp2_with fail
              refine wp_region_X (fun W' => Rows8 W' w.heap.size 25 #[.int .u64 Ex, .slice ax nx cx] ∧ Rows8 W' bA 25 #[.int .u64 Ex, .slice a7 n7 c7]) 5 (by kernel_rfl) ?_
              have hS0 : Rows8 wr.drew w.heap.size 25 #[.int .u64 Ex, .slice ax nx cx] ∧ Rows8 wr.drew bA 25 #[.int .u64 Ex, .slice a7 n7 c7] := ⟨X9.out.drewA, P1.out.drewA⟩
              have I1 : Hid (WordsAt wr.drew (.slice a7 n7 c7) U) := Lib.hid I1.out
              have B := Lib.hid B.out.drew
              clear X9 P1
              generalize wr.drew = Wd at *
              refine wpAnyN_take (i := 0) (oi := { dst := some 152, op := Go.Op.load 25 (Go.Operand.tmp 7), type := 25, pos := "law.go:67", after := #[], guard := none }) (v := .agg #[.int .u64 Ex, .slice a7 n7 c7]) rfl (by decide) (by kernel_rfl) (by kernel_rfl) (by kernel_rfl) (fun _ _ _ h => h) (Or.inl ⟨by rfl, ?_⟩) hS0 ?_
              · intro W9 hS9
                obtain ⟨q0, q1⟩ := hS9
                have s0 : W9.cell? ⟨bA, 0, none⟩ = some (.int .u64 Ex) := q1.cell 0
                have s1 : W9.cell? ⟨bA, 1, none⟩ = some (.slice a7 n7 c7) := q1.cell 1
                clear q0 q1
                go_simp
              try simp only [Act.put, List.setIfInBounds_toArray, List.set_cons_zero, List.set_cons_succ]
              refine wpAnyN_take (i := 1) (oi := { dst := some 153, op := Go.Op.load 25 (Go.Operand.tmp 3), type := 25, pos := "law.go:67", after := #[], guard := none }) (v := .agg #[.int .u64 Ex, .slice ax nx cx]) rfl (by decide) (by kernel_rfl) (by kernel_rfl) (by kernel_rfl) (fun _ _ _ h => h) (Or.inl ⟨by rfl, ?_⟩) hS0 ?_
              · intro W9 hS9
                obtain ⟨q0, q1⟩ := hS9
                have s0 : W9.cell? ⟨w.heap.size, 0, none⟩ = some (.int .u64 Ex) := q0.cell 0
                have s1 : W9.cell? ⟨w.heap.size, 1, none⟩ = some (.slice ax nx cx) := q0.cell 1
                clear q0 q1
                go_simp
              try simp only [Act.put, List.setIfInBounds_toArray, List.set_cons_zero, List.set_cons_succ]
              refine wpAnyX_one (i := 2) (o := { dst := some 154, op := Go.Op.call { callee := Go.Callee.value (Go.Operand.func 9), args := #[Go.Operand.tmp 153], argTypes := #[25] }, type := 25, pos := "law.go:67", after := #[{ on := 1, ground := Go.Ground.data }], guard := none }) (by kernel_rfl) rfl (fun K hK => ?_)
              refine step_call_g (by rfl) 9 _ _ rfl (fun _ _ => by kernel_rfl) #[.agg #[.int .u64 Ex, .slice ax nx cx]] (by simp [go_sem]) _ (HOx Wd (RowAt.below HI.out B.out)).out ?_
              rintro e y3 ⟨⟨ao, no, do_, rfl, -, hO⟩, hC⟩
              refine ⟨_, rfl, ?_⟩
              have hS1 : Rows8 y3 w.heap.size 25 #[.int .u64 Ex, .slice ax nx cx] ∧ Rows8 y3 bA 25 #[.int .u64 Ex, .slice a7 n7 c7] := ⟨hS0.1.below hC hS0.1.lt, hS0.2.below hC hS0.2.lt⟩
              have I1 : Hid (WordsAt y3 (.slice a7 n7 c7) U) := Lib.hid (RowAt.below I1.out hC)
              have IO := Lib.hid (show WordsAt y3 (.slice ao no do_) U from rowAt_own hO)
              clear hO
              have B := Lib.hid (B.out.trans (hC.mono B.out.size))
              clear hC
              refine hK.out _ _ (fun _ => hS1) ?_
              clear hK K
              try simp only [Act.put, List.setIfInBounds_toArray, List.set_cons_zero, List.set_cons_succ]
              refine wpAnyX_one (i := 3) (o := { dst := some 155, op := Go.Op.call { callee := Go.Callee.value (Go.Operand.func 13), args := #[Go.Operand.tmp 152, Go.Operand.tmp 154], argTypes := #[25, 25] }, type := 4, pos := "law.go:67", after := #[{ on := 0, ground := Go.Ground.data }, { on := 2, ground := Go.Ground.data }, { on := 2, ground := Go.Ground.chain }], guard := none }) (by kernel_rfl) rfl (fun K hK => ?_)
              refine step_call_g (by rfl) 13 _ _ rfl (fun _ _ => by kernel_rfl) #[.agg #[.int .u64 Ex, .slice a7 n7 c7], .agg #[.int .u64 Ex, .slice ao no do_]] (by simp [go_sem]) _ (HSA Ex U y3 _ _ _ _ _ _ I1.out IO.out).out ?_
              rintro e y4 ⟨rfl, hC⟩
              refine ⟨_, rfl, ?_⟩
              have hS2 : Rows8 y4 w.heap.size 25 #[.int .u64 Ex, .slice ax nx cx] ∧ Rows8 y4 bA 25 #[.int .u64 Ex, .slice a7 n7 c7] := ⟨hS1.1.below hC hS1.1.lt, hS1.2.below hC hS1.2.lt⟩
              have I1 : Hid (WordsAt y4 (.slice a7 n7 c7) U) := Lib.hid (RowAt.below I1.out hC)
              have B := Lib.hid (B.out.trans (hC.mono B.out.size))
              clear hC
              refine hK.out _ _ (fun _ => hS2) ?_
              clear hK K
              try simp only [Act.put, List.setIfInBounds_toArray, List.set_cons_zero, List.set_cons_succ]
              refine wpAnyN_take (i := 4) (oi := { dst := some 6, op := Go.Op.assign (Go.Operand.tmp 155), type := 4, pos := "law.go:67", after := #[{ on := 3, ground := Go.Ground.data }, { on := 3, ground := Go.Ground.chain }, { on := 0, ground := Go.Ground.phase }, { on := 1, ground := Go.Ground.phase }, { on := 2, ground := Go.Ground.phase }, { on := 3, ground := Go.Ground.phase }], guard := none }) (v := .bool true) rfl (by decide) (by kernel_rfl) (by kernel_rfl) (by kernel_rfl) (fun _ _ _ h => h) (Or.inl ⟨by rfl, ?_⟩) hS2 ?_
              · intro W9 hS9
                obtain ⟨q0, q1⟩ := hS9
                clear q0 q1
                go_simp
              try simp only [Act.put, List.setIfInBounds_toArray, List.set_cons_zero, List.set_cons_succ]
              refine wpAnyX_end (by kernel_rfl) ?_
              go_wp2_with fail
              go_ret
              exact ⟨rfl, B.out⟩
          · have d8 : ((k : Int) == 8) = false := by simp; omega
            clear h8
            have hz0 := hz.1
            have c10 : wr.cell? ⟨bA, 0, none⟩ = some (.int .u64 Ex) := P1.out.cell 0
            have c11 : wr.cell? ⟨bA, 1, none⟩ = some (.slice a7 n7 c7) := P1.out.cell 1
            obtain ⟨sf, hsf⟩ : ∃ sf, sf = safeN Ex z := ⟨_, rfl⟩
            have HCl := Lib.hid (show Calls _ 19 #[.agg #[.int .u64 Ex, .slice a7 n7 c7], .int .u64 z] wr (fun e w' => e = .returned (.bool sf) ∧ Below wr.heap.size wr w') from by have h := (HSF z hz.1 wr _ _ _ I1.out).out; rw [hsf]; exact h)
            have HCg := fun W v => Lib.hid (show Calls _ 20 #[.agg #[.int .u64 Ex, v], .int .u64 z] W (fun e w' => e = .returned (.bool sf) ∧ Below W.heap.size W w') from by have h := (HSG z hz.1 W v).out; rw [← hsf] at h; exact h)
            clear HSF HSG hsf
            have hneb : ∀ z : Bool, (z != z) = false := fun z => by simp
            go_wp2_with fail
            refine HCl.out.mono ?_
            rintro e w8 ⟨rfl, hB⟩
            clear HCl
            clear c10 c11
            have X9 := Lib.hid (X9.out.below hB X9.out.lt)
            have P1 := Lib.hid (P1.out.below hB P1.out.lt)
            have I1 : Hid (WordsAt w8 (.slice a7 n7 c7) U) := Lib.hid (RowAt.below I1.out hB)
            have B := Lib.hid (B.out.trans (hB.mono B.out.size))
            clear hB
            have c10 : w8.cell? ⟨bA, 0, none⟩ = some (.int .u64 Ex) := P1.out.cell 0
            have c11 : w8.cell? ⟨bA, 1, none⟩ = some (.slice a7 n7 c7) := P1.out.cell 1
            have HCl := HCg w8 (.slice a7 n7 c7)
            clear HCg
            go_wp2_with fail
            refine HCl.out.mono ?_
            rintro e w9 ⟨rfl, hB⟩
            clear HCl
            clear c10 c11
            have X9 := Lib.hid (X9.out.below hB X9.out.lt)
            have P1 := Lib.hid (P1.out.below hB P1.out.lt)
            have I1 : Hid (WordsAt w9 (.slice a7 n7 c7) U) := Lib.hid (RowAt.below I1.out hB)
            have B := Lib.hid (B.out.trans (hB.mono B.out.size))
            clear hB
            obtain ⟨q, hq⟩ : ∃ q, z.tmod 12 = q := ⟨_, rfl⟩
            have hq0 : 0 ≤ q ∧ q < 12 := by rw [← hq, Int.tmod_eq_emod_of_nonneg hz.1]; omega
            have hqw : IntKind.u64.wrap q = q := wrap_u _ (by omega) (by omega)
            have hqi : IntKind.i64.wrap q = q := by rw [IntKind.wrap_i64]; omega
            obtain ⟨g, hg⟩ : ∃ g, IntKind.i64.wrap (q - 1) = g := ⟨_, rfl⟩
            have hg2 : g = q - 1 := by rw [← hg, IntKind.wrap_i64]; omega
            have hgw : IntKind.i64.wrap g = g := by rw [IntKind.wrap_i64]; omega
            clear hg2
            have HCl := HNW g w9
            clear HNW hz hz0
            go_wp2_with fail
            refine HCl.out.mono ?_
            rintro e wn ⟨⟨vp, rfl, hv⟩, hB⟩
            clear HCl
            by_cases hm : 1 ≤ g ∧ g ≤ 8
            · obtain ⟨m, rfl⟩ : ∃ m : Nat, g = m := ⟨g.toNat, by omega⟩
              have hN : newN (m : Int) = (0, 0, List.replicate m 0) := by unfold newN manyN; rw [decide_eq_true hm]; rfl
              rw [hN] at hv ⊢
              have hd1 : (1 : Int) ≤ (m : Int) := hm.1
              have hd2 : (m : Int) ≤ 8 := hm.2
              have hd3 : 1 ≤ m := by omega
              have hd4 : m ≤ 8 := by omega
              have hd5 : 0 < m := by omega
              obtain ⟨ap, dp, hvp⟩ := OwnsWords.form hv
              rw [List.length_replicate] at hvp
              subst hvp
              have hal : Below wn.heap.size wn (wn.alloc (.cells #[.int .u64 0, .slice ap m dp] 25)) := Rows8.newB
              have hBw := hB.trans (hal.mono hB.size)
              have PP := Lib.hid (Rows8.new wn 25 #[.int .u64 0, .slice ap m dp])
              have IP : Hid (WordsAt (wn.alloc (.cells #[.int .u64 0, .slice ap m dp] 25)) (.slice ap m dp) (List.replicate m 0)) := Lib.hid (RowAt.below (rowAt_own hv) hal)
              have X9 := Lib.hid (X9.out.below hBw X9.out.lt)
              have P1 := Lib.hid (P1.out.below hBw P1.out.lt)
              have I1 : Hid (WordsAt (wn.alloc (.cells #[.int .u64 0, .slice ap m dp] 25)) (.slice a7 n7 c7) U) := Lib.hid (RowAt.below I1.out hBw)
              have B := Lib.hid (B.out.trans (hBw.mono B.out.size))
              clear hB hBw hal hv hN hm hq hq0 hqw hqi
              as_aux_lemma =>
                go_upto_region 25 with fail
                generalize (wn.alloc (.cells #[.int .u64 0, .slice ap m dp] 25)) = w10 at *
                obtain ⟨bp, hbp⟩ : ∃ b, b = wn.heap.size := ⟨_, rfl⟩
                rw [← hbp] at PP ⊢
                clear hbp
                refine wp_region_X (fun W' => Rows8 W' w.heap.size 25 #[.int .u64 Ex, .slice ax nx cx] ∧ Rows8 W' bA 25 #[.int .u64 Ex, .slice a7 n7 c7] ∧ Rows8 W' bp 25 #[.int .u64 0, .slice ap m dp]) 29 (by kernel_rfl) ?_
                have hS0 : Rows8 w10.drew w.heap.size 25 #[.int .u64 Ex, .slice ax nx cx] ∧ Rows8 w10.drew bA 25 #[.int .u64 Ex, .slice a7 n7 c7] ∧ Rows8 w10.drew bp 25 #[.int .u64 0, .slice ap m dp] := ⟨X9.out.drewA, P1.out.drewA, PP.out.drewA⟩
                have I1 : Hid (WordsAt w10.drew (.slice a7 n7 c7) U) := Lib.hid I1.out
                have IP : Hid (WordsAt w10.drew (.slice ap m dp) (List.replicate m 0)) := Lib.hid IP.out
                have B := Lib.hid B.out.drew
                clear X9 P1 PP
                generalize w10.drew = Wd at *
                refine wpAnyN_take (i := 0) (oi := { dst := some 122, op := Go.Op.move (Go.Operand.tmp 20), type := 29, pos := "law.go:63", after := #[], guard := none }) (v := .int .i64 0) rfl (by decide) (by kernel_rfl) (by kernel_rfl) (by kernel_rfl) (fun _ _ _ h => h) (Or.inl ⟨by rfl, ?_⟩) hS0 ?_
                · intro W9 hS9
                  obtain ⟨q0, q1, q2⟩ := hS9
                  clear q0 q1 q2
                  go_simp
                try simp only [Act.put, List.setIfInBounds_toArray, List.set_cons_zero, List.set_cons_succ]
                refine wpAnyN_take (i := 1) (oi := { dst := some 123, op := Go.Op.binOp Go.BinOp.eql 29 (Go.Operand.tmp 122) (Go.Operand.const (Go.Value.int Go.IntKind.i64 0)) 29, type := 4, pos := "law.go:63", after := #[{ on := 0, ground := Go.Ground.data }], guard := none }) (v := .bool true) rfl (by decide) (by kernel_rfl) (by kernel_rfl) (by kernel_rfl) (fun _ _ _ h => h) (Or.inl ⟨by rfl, ?_⟩) hS0 ?_
                · intro W9 hS9
                  obtain ⟨q0, q1, q2⟩ := hS9
                  clear q0 q1 q2
                  go_simp
                try simp only [Act.put, List.setIfInBounds_toArray, List.set_cons_zero, List.set_cons_succ]
                refine wpAnyN_take (i := 2) (oi := { dst := some 124, op := Go.Op.move (Go.Operand.tmp 21), type := 4, pos := "law.go:63", after := #[], guard := none }) (v := .bool true) rfl (by decide) (by kernel_rfl) (by kernel_rfl) (by kernel_rfl) (fun _ _ _ h => h) (Or.inl ⟨by rfl, ?_⟩) hS0 ?_
                · intro W9 hS9
                  obtain ⟨q0, q1, q2⟩ := hS9
                  clear q0 q1 q2
                  go_simp
                try simp only [Act.put, List.setIfInBounds_toArray, List.set_cons_zero, List.set_cons_succ]
                refine wpAnyN_take (i := 3) (oi := { dst := some 125, op := Go.Op.binOp Go.BinOp.neq 4 (Go.Operand.tmp 123) (Go.Operand.tmp 124) 4, type := 4, pos := "law.go:63", after := #[{ on := 1, ground := Go.Ground.data }, { on := 2, ground := Go.Ground.data }], guard := none }) (v := .bool false) rfl (by decide) (by kernel_rfl) (by kernel_rfl) (by kernel_rfl) (fun _ _ _ h => h) (Or.inl ⟨by rfl, ?_⟩) hS0 ?_
                · intro W9 hS9
                  obtain ⟨q0, q1, q2⟩ := hS9
                  clear q0 q1 q2
                  go_simp
                try simp only [Act.put, List.setIfInBounds_toArray, List.set_cons_zero, List.set_cons_succ]
                refine wpAnyN_take (i := 4) (oi := { dst := some 126, op := Go.Op.move (Go.Operand.tmp 125), type := 4, pos := "law.go:63", after := #[{ on := 3, ground := Go.Ground.data }], guard := none }) (v := .bool false) rfl (by decide) (by kernel_rfl) (by kernel_rfl) (by kernel_rfl) (fun _ _ _ h => h) (Or.inl ⟨by rfl, ?_⟩) hS0 ?_
                · intro W9 hS9
                  obtain ⟨q0, q1, q2⟩ := hS9
                  clear q0 q1 q2
                  go_simp
                try simp only [Act.put, List.setIfInBounds_toArray, List.set_cons_zero, List.set_cons_succ]
                refine wpAnyN_take (i := 5) (oi := { dst := some 127, op := Go.Op.move (Go.Operand.tmp 21), type := 4, pos := "law.go:63", after := #[{ on := 4, ground := Go.Ground.guard }], guard := some (4, false) }) (v := .bool true) rfl (by decide) (by kernel_rfl) (by kernel_rfl) (by kernel_rfl) (fun _ _ _ h => h) (Or.inl ⟨by rfl, ?_⟩) hS0 ?_
                · intro W9 hS9
                  obtain ⟨q0, q1, q2⟩ := hS9
                  clear q0 q1 q2
                  go_simp
                try simp only [Act.put, List.setIfInBounds_toArray, List.set_cons_zero, List.set_cons_succ]
                refine wpAnyN_take (i := 6) (oi := { dst := some 128, op := Go.Op.unOp Go.UnOp.not 4 (Go.Operand.tmp 127), type := 4, pos := "law.go:63", after := #[{ on := 5, ground := Go.Ground.data }, { on := 4, ground := Go.Ground.guard }], guard := some (4, false) }) (v := .bool false) rfl (by decide) (by kernel_rfl) (by kernel_rfl) (by kernel_rfl) (fun _ _ _ h => h) (Or.inl ⟨by rfl, ?_⟩) hS0 ?_
                · intro W9 hS9
                  obtain ⟨q0, q1, q2⟩ := hS9
                  clear q0 q1 q2
                  go_simp
                try simp only [Act.put, List.setIfInBounds_toArray, List.set_cons_zero, List.set_cons_succ]
                refine wpAnyN_take (i := 7) (oi := { dst := some 129, op := Go.Op.move (Go.Operand.tmp 128), type := 4, pos := "law.go:63", after := #[{ on := 6, ground := Go.Ground.data }, { on := 4, ground := Go.Ground.chain }, { on := 4, ground := Go.Ground.guard }], guard := some (4, false) }) (v := .bool false) rfl (by decide) (by kernel_rfl) (by kernel_rfl) (by kernel_rfl) (fun _ _ _ h => h) (Or.inl ⟨by rfl, ?_⟩) hS0 ?_
                · intro W9 hS9
                  obtain ⟨q0, q1, q2⟩ := hS9
                  clear q0 q1 q2
                  go_simp
                try simp only [Act.put, List.setIfInBounds_toArray, List.set_cons_zero, List.set_cons_succ]
                refine wpAnyN_take (i := 8) (oi := { dst := some 130, op := Go.Op.move (Go.Operand.tmp 20), type := 29, pos := "law.go:63", after := #[{ on := 7, ground := Go.Ground.guard }], guard := some (7, true) }) (v := undef) rfl (by decide) (by kernel_rfl) (by kernel_rfl) (by kernel_rfl) (fun _ _ _ h => h) (Or.inr ⟨by rfl, rfl⟩) hS0 ?_
                try simp only [Act.put, List.setIfInBounds_toArray, List.set_cons_zero, List.set_cons_succ]
                refine wpAnyN_take (i := 9) (oi := { dst := some 131, op := Go.Op.binOp Go.BinOp.neq 29 (Go.Operand.tmp 130) (Go.Operand.const (Go.Value.int Go.IntKind.i64 2)) 29, type := 4, pos := "law.go:63", after := #[{ on := 8, ground := Go.Ground.data }, { on := 7, ground := Go.Ground.guard }], guard := some (7, true) }) (v := undef) rfl (by decide) (by kernel_rfl) (by kernel_rfl) (by kernel_rfl) (fun _ _ _ h => h) (Or.inr ⟨by rfl, rfl⟩) hS0 ?_
                try simp only [Act.put, List.setIfInBounds_toArray, List.set_cons_zero, List.set_cons_succ]
                refine wpAnyN_take (i := 10) (oi := { dst := some 132, op := Go.Op.move (Go.Operand.tmp 131), type := 4, pos := "law.go:63", after := #[{ on := 9, ground := Go.Ground.data }, { on := 7, ground := Go.Ground.chain }, { on := 7, ground := Go.Ground.guard }], guard := some (7, true) }) (v := undef) rfl (by decide) (by kernel_rfl) (by kernel_rfl) (by kernel_rfl) (fun _ _ _ h => h) (Or.inr ⟨by rfl, rfl⟩) hS0 ?_
                try simp only [Act.put, List.setIfInBounds_toArray, List.set_cons_zero, List.set_cons_succ]
                refine wpAnyN_take (i := 11) (oi := { dst := some 133, op := Go.Op.fieldAddr 25 (Go.Operand.tmp 19) 1, type := 0, pos := "law.go:63", after := #[{ on := 10, ground := Go.Ground.guard }], guard := some (10, false) }) (v := undef) rfl (by decide) (by kernel_rfl) (by kernel_rfl) (by kernel_rfl) (fun _ _ _ h => h) (Or.inr ⟨by rfl, rfl⟩) hS0 ?_
                try simp only [Act.put, List.setIfInBounds_toArray, List.set_cons_zero, List.set_cons_succ]
                refine wpAnyN_take (i := 12) (oi := { dst := some 134, op := Go.Op.load 23 (Go.Operand.tmp 133), type := 23, pos := "law.go:63", after := #[{ on := 11, ground := Go.Ground.data }, { on := 10, ground := Go.Ground.guard }], guard := some (10, false) }) (v := undef) rfl (by decide) (by kernel_rfl) (by kernel_rfl) (by kernel_rfl) (fun _ _ _ h => h) (Or.inr ⟨by rfl, rfl⟩) hS0 ?_
                try simp only [Act.put, List.setIfInBounds_toArray, List.set_cons_zero, List.set_cons_succ]
                refine wpAnyN_take (i := 13) (oi := { dst := some 135, op := Go.Op.call { callee := Go.Callee.builtin Go.Builtin.len, args := #[Go.Operand.tmp 134], argTypes := #[23] }, type := 3, pos := "law.go:63", after := #[{ on := 12, ground := Go.Ground.data }, { on := 10, ground := Go.Ground.guard }], guard := some (10, false) }) (v := undef) rfl (by decide) (by kernel_rfl) (by kernel_rfl) (by kernel_rfl) (fun _ _ _ h => h) (Or.inr ⟨by rfl, rfl⟩) hS0 ?_
                try simp only [Act.put, List.setIfInBounds_toArray, List.set_cons_zero, List.set_cons_succ]
                refine wpAnyN_take (i := 14) (oi := { dst := some 136, op := Go.Op.binOp Go.BinOp.gtr 3 (Go.Operand.tmp 135) (Go.Operand.const (Go.Value.int Go.IntKind.i64 0)) 3, type := 4, pos := "law.go:63", after := #[{ on := 13, ground := Go.Ground.data }, { on := 10, ground := Go.Ground.guard }], guard := some (10, false) }) (v := undef) rfl (by decide) (by kernel_rfl) (by kernel_rfl) (by kernel_rfl) (fun _ _ _ h => h) (Or.inr ⟨by rfl, rfl⟩) hS0 ?_
                try simp only [Act.put, List.setIfInBounds_toArray, List.set_cons_zero, List.set_cons_succ]
                refine wpAnyN_take (i := 15) (oi := { dst := some 137, op := Go.Op.pick (Go.Operand.tmp 132) (Go.Operand.const (Go.Value.bool true)) (Go.Operand.tmp 136), type := 4, pos := "law.go:63", after := #[{ on := 10, ground := Go.Ground.data }, { on := 14, ground := Go.Ground.data }, { on := 7, ground := Go.Ground.guard }], guard := some (7, true) }) (v := undef) rfl (by decide) (by kernel_rfl) (by kernel_rfl) (by kernel_rfl) (fun _ _ _ h => h) (Or.inr ⟨by rfl, rfl⟩) hS0 ?_
                try simp only [Act.put, List.setIfInBounds_toArray, List.set_cons_zero, List.set_cons_succ]
                refine wpAnyN_take (i := 16) (oi := { dst := some 138, op := Go.Op.pick (Go.Operand.tmp 129) (Go.Operand.tmp 137) (Go.Operand.const (Go.Value.bool false)), type := 4, pos := "law.go:63", after := #[{ on := 7, ground := Go.Ground.data }, { on := 15, ground := Go.Ground.data }, { on := 4, ground := Go.Ground.guard }], guard := some (4, false) }) (v := .bool false) rfl (by decide) (by kernel_rfl) (by kernel_rfl) (by kernel_rfl) (fun _ _ _ h => h) (Or.inl ⟨by rfl, ?_⟩) hS0 ?_
                · intro W9 hS9
                  obtain ⟨q0, q1, q2⟩ := hS9
                  clear q0 q1 q2
                  go_simp
                try simp only [Act.put, List.setIfInBounds_toArray, List.set_cons_zero, List.set_cons_succ]
                refine wpAnyN_take (i := 17) (oi := { dst := some 139, op := Go.Op.pick (Go.Operand.tmp 126) (Go.Operand.const (Go.Value.bool true)) (Go.Operand.tmp 138), type := 4, pos := "law.go:63", after := #[{ on := 4, ground := Go.Ground.data }, { on := 16, ground := Go.Ground.data }], guard := none }) (v := .bool false) rfl (by decide) (by kernel_rfl) (by kernel_rfl) (by kernel_rfl) (fun _ _ _ h => h) (Or.inl ⟨by rfl, ?_⟩) hS0 ?_
                · intro W9 hS9
                  obtain ⟨q0, q1, q2⟩ := hS9
                  clear q0 q1 q2
                  go_simp
                try simp only [Act.put, List.setIfInBounds_toArray, List.set_cons_zero, List.set_cons_succ]
                refine wpAnyN_take (i := 18) (oi := { dst := some 140, op := Go.Op.move (Go.Operand.tmp 139), type := 4, pos := "law.go:63", after := #[{ on := 17, ground := Go.Ground.data }, { on := 10, ground := Go.Ground.chain }], guard := none }) (v := .bool false) rfl (by decide) (by kernel_rfl) (by kernel_rfl) (by kernel_rfl) (fun _ _ _ h => h) (Or.inl ⟨by rfl, ?_⟩) hS0 ?_
                · intro W9 hS9
                  obtain ⟨q0, q1, q2⟩ := hS9
                  clear q0 q1 q2
                  go_simp
                try simp only [Act.put, List.setIfInBounds_toArray, List.set_cons_zero, List.set_cons_succ]
                refine wpAnyN_take (i := 19) (oi := { dst := some 141, op := Go.Op.move (Go.Operand.tmp 21), type := 4, pos := "law.go:63", after := #[{ on := 18, ground := Go.Ground.guard }], guard := some (18, false) }) (v := .bool true) rfl (by decide) (by kernel_rfl) (by kernel_rfl) (by kernel_rfl) (fun _ _ _ h => h) (Or.inl ⟨by rfl, ?_⟩) hS0 ?_
                · intro W9 hS9
                  obtain ⟨q0, q1, q2⟩ := hS9
                  clear q0 q1 q2
                  go_simp
                try simp only [Act.put, List.setIfInBounds_toArray, List.set_cons_zero, List.set_cons_succ]
                refine wpAnyN_take (i := 20) (oi := { dst := some 142, op := Go.Op.move (Go.Operand.tmp 141), type := 4, pos := "law.go:63", after := #[{ on := 19, ground := Go.Ground.data }, { on := 18, ground := Go.Ground.chain }, { on := 18, ground := Go.Ground.guard }], guard := some (18, false) }) (v := .bool true) rfl (by decide) (by kernel_rfl) (by kernel_rfl) (by kernel_rfl) (fun _ _ _ h => h) (Or.inl ⟨by rfl, ?_⟩) hS0 ?_
                · intro W9 hS9
                  obtain ⟨q0, q1, q2⟩ := hS9
                  clear q0 q1 q2
                  go_simp
                try simp only [Act.put, List.setIfInBounds_toArray, List.set_cons_zero, List.set_cons_succ]
                refine wpAnyN_take (i := 21) (oi := { dst := some 143, op := Go.Op.load 25 (Go.Operand.tmp 19), type := 25, pos := "law.go:63", after := #[{ on := 20, ground := Go.Ground.guard }], guard := some (20, true) }) (v := .agg #[.int .u64 0, .slice ap m dp]) rfl (by decide) (by kernel_rfl) (by kernel_rfl) (by kernel_rfl) (fun _ _ _ h => h) (Or.inl ⟨by rfl, ?_⟩) hS0 ?_
                · intro W9 hS9
                  obtain ⟨q0, q1, q2⟩ := hS9
                  have s0 : W9.cell? ⟨bp, 0, none⟩ = some (.int .u64 0) := q2.cell 0
                  have s1 : W9.cell? ⟨bp, 1, none⟩ = some (.slice ap m dp) := q2.cell 1
                  clear q0 q1 q2
                  go_simp
                try simp only [Act.put, List.setIfInBounds_toArray, List.set_cons_zero, List.set_cons_succ]
                refine wpAnyN_take (i := 22) (oi := { dst := some 144, op := Go.Op.move (Go.Operand.tmp 18), type := 3, pos := "law.go:63", after := #[{ on := 20, ground := Go.Ground.guard }], guard := some (20, true) }) (v := .int .i64 m) rfl (by decide) (by kernel_rfl) (by kernel_rfl) (by kernel_rfl) (fun _ _ _ h => h) (Or.inl ⟨by rfl, ?_⟩) hS0 ?_
                · intro W9 hS9
                  obtain ⟨q0, q1, q2⟩ := hS9
                  clear q0 q1 q2
                  go_simp
                try simp only [Act.put, List.setIfInBounds_toArray, List.set_cons_zero, List.set_cons_succ]
                refine wpAnyX_one (i := 23) (o := { dst := some 145, op := Go.Op.makeSlice 23 (Go.Operand.tmp 144) (Go.Operand.tmp 144), type := 23, pos := "law.go:63", after := #[{ on := 22, ground := Go.Ground.data }, { on := 22, ground := Go.Ground.data }, { on := 20, ground := Go.Ground.guard }], guard := some (20, true) }) (by kernel_rfl) rfl (fun K hK => ?_)
                obtain ⟨W2_, hrun, hown, hgr⟩ := run_make_full (P := Try.prog) Wd Wd.heap.size 23 22 i0 (.int .u64 0) 1 Try.underlying23 hi hz0 hz1 .i64 .i64 m (by rw [hz2]; omega) (by unfold maxLen; omega) (Nat.le_refl _)
                have hC : Below Wd.heap.size Wd W2_ := (Below.refl _ Wd).grown hgr (Nat.le_refl _) (fun j ej => by cases ej)
                have hO : OwnsWords Wd.heap.size (List.replicate m 0) (.slice (some ⟨Wd.heap.size, 0, none⟩) m m) W2_ := by
                  unfold OwnsWords
                  rw [List.length_replicate, ← made_words]
                  exact hown
                obtain ⟨qa, hqa⟩ : ∃ q : Option Addr, q = some ⟨Wd.heap.size, 0, none⟩ := ⟨_, rfl⟩
                have IQ : Hid (WordsAt W2_ (.slice qa m m) (List.replicate m 0)) := Lib.hid (by rw [hqa]; exact rowAt_own hO)
                replace hrun : (Instr.makeSlice 23 (.int .i64 m) (.int .i64 m)).run Try.prog Wd = .ok (.slice (some ⟨Wd.heap.size, 0, none⟩) m m) W2_ := hrun
                refine step_value_g (by rfl) (v := .slice qa m m) (w' := W2_) (by rw [hqa]; go_simp) ?_
                have hS1 : Rows8 W2_ w.heap.size 25 #[.int .u64 Ex, .slice ax nx cx] ∧ Rows8 W2_ bA 25 #[.int .u64 Ex, .slice a7 n7 c7] ∧ Rows8 W2_ bp 25 #[.int .u64 0, .slice ap m dp] := ⟨hS0.1.below hC hS0.1.lt, hS0.2.1.below hC hS0.2.1.lt, hS0.2.2.below hC hS0.2.2.lt⟩
                have I1 : Hid (WordsAt W2_ (.slice a7 n7 c7) U) := Lib.hid (RowAt.below I1.out hC)
                have IP : Hid (WordsAt W2_ _ _) := Lib.hid (RowAt.below IP.out hC)
                have B := Lib.hid (B.out.trans (hC.mono B.out.size))
                clear hC hrun hown hgr hqa hO
                refine hK.out _ _ (fun _ => hS1) ?_
                clear hK K
                try simp only [Act.put, List.setIfInBounds_toArray, List.set_cons_zero, List.set_cons_succ]
                refine wpAnyN_take (i := 24) (oi := { dst := some 146, op := Go.Op.build 25 #[(1, Go.Operand.tmp 145)], type := 25, pos := "law.go:63", after := #[{ on := 23, ground := Go.Ground.data }, { on := 20, ground := Go.Ground.guard }], guard := some (20, true) }) (v := .agg #[.int .u64 0, .slice qa m m]) rfl (by decide) (by kernel_rfl) (by kernel_rfl) (by kernel_rfl) (fun _ _ _ h => h) (Or.inl ⟨by rfl, ?_⟩) hS1 ?_
                · intro W9 hS9
                  obtain ⟨q0, q1, q2⟩ := hS9
                  clear q0 q1 q2
                  go_simp
                try simp only [Act.put, List.setIfInBounds_toArray, List.set_cons_zero, List.set_cons_succ]
                refine wpAnyX_one (i := 25) (o := { dst := some 147, op := Go.Op.call { callee := Go.Callee.value (Go.Operand.func 13), args := #[Go.Operand.tmp 143, Go.Operand.tmp 146], argTypes := #[25, 25] }, type := 4, pos := "law.go:63", after := #[{ on := 21, ground := Go.Ground.data }, { on := 24, ground := Go.Ground.data }, { on := 20, ground := Go.Ground.chain }, { on := 20, ground := Go.Ground.guard }], guard := some (20, true) }) (by kernel_rfl) rfl (fun K hK => ?_)
                refine step_call_g (by rfl) 13 _ _ rfl (fun _ _ => by kernel_rfl) #[.agg #[.int .u64 0, .slice ap m dp], .agg #[.int .u64 0, .slice qa m m]] (by simp [go_sem]) _ (HSA 0 (List.replicate m 0) W2_ _ _ _ _ _ _ IP.out IQ.out).out ?_
                rintro e y3 ⟨rfl, hC⟩
                refine ⟨_, rfl, ?_⟩
                have hS2 : Rows8 y3 w.heap.size 25 #[.int .u64 Ex, .slice ax nx cx] ∧ Rows8 y3 bA 25 #[.int .u64 Ex, .slice a7 n7 c7] ∧ Rows8 y3 bp 25 #[.int .u64 0, .slice ap m dp] := ⟨hS1.1.below hC hS1.1.lt, hS1.2.1.below hC hS1.2.1.lt, hS1.2.2.below hC hS1.2.2.lt⟩
                have I1 : Hid (WordsAt y3 (.slice a7 n7 c7) U) := Lib.hid (RowAt.below I1.out hC)
                have IP : Hid (WordsAt y3 _ _) := Lib.hid (RowAt.below IP.out hC)
                have B := Lib.hid (B.out.trans (hC.mono B.out.size))
                clear hC
                refine hK.out _ _ (fun _ => hS2) ?_
                clear hK K
                try simp only [Act.put, List.setIfInBounds_toArray, List.set_cons_zero, List.set_cons_succ]
                refine wpAnyN_take (i := 26) (oi := { dst := some 148, op := Go.Op.unOp Go.UnOp.not 4 (Go.Operand.tmp 147), type := 4, pos := "law.go:63", after := #[{ on := 25, ground := Go.Ground.data }, { on := 20, ground := Go.Ground.guard }], guard := some (20, true) }) (v := .bool false) rfl (by decide) (by kernel_rfl) (by kernel_rfl) (by kernel_rfl) (fun _ _ _ h => h) (Or.inl ⟨by rfl, ?_⟩) hS2 ?_
                · intro W9 hS9
                  obtain ⟨q0, q1, q2⟩ := hS9
                  clear q0 q1 q2
                  go_simp
                try simp only [Act.put, List.setIfInBounds_toArray, List.set_cons_zero, List.set_cons_succ]
                refine wpAnyN_take (i := 27) (oi := { dst := some 149, op := Go.Op.pick (Go.Operand.tmp 142) (Go.Operand.tmp 148) (Go.Operand.const (Go.Value.bool false)), type := 4, pos := "law.go:63", after := #[{ on := 20, ground := Go.Ground.data }, { on := 26, ground := Go.Ground.data }, { on := 18, ground := Go.Ground.guard }], guard := some (18, false) }) (v := .bool false) rfl (by decide) (by kernel_rfl) (by kernel_rfl) (by kernel_rfl) (fun _ _ _ h => h) (Or.inl ⟨by rfl, ?_⟩) hS2 ?_
                · intro W9 hS9
                  obtain ⟨q0, q1, q2⟩ := hS9
                  clear q0 q1 q2
                  go_simp
                try simp only [Act.put, List.setIfInBounds_toArray, List.set_cons_zero, List.set_cons_succ]
                refine wpAnyN_take (i := 28) (oi := { dst := some 150, op := Go.Op.pick (Go.Operand.tmp 140) (Go.Operand.const (Go.Value.bool true)) (Go.Operand.tmp 149), type := 4, pos := "law.go:63", after := #[{ on := 18, ground := Go.Ground.data }, { on := 27, ground := Go.Ground.data }], guard := none }) (v := .bool false) rfl (by decide) (by kernel_rfl) (by kernel_rfl) (by kernel_rfl) (fun _ _ _ h => h) (Or.inl ⟨by rfl, ?_⟩) hS2 ?_
                · intro W9 hS9
                  obtain ⟨q0, q1, q2⟩ := hS9
                  clear q0 q1 q2
                  go_simp
                try simp only [Act.put, List.setIfInBounds_toArray, List.set_cons_zero, List.set_cons_succ]
                refine wpAnyX_end (by kernel_rfl) ?_
                have X9 := Lib.hid hS2.1
                have P1 := Lib.hid hS2.2.1
                clear hS0 hS1 hS2 IP IQ
                go_wp2_with fail
                clear hg hgw hne1 hneb d8
                exact ⟨⟨k + 1, by omega, by go_num, X9, P1, I1, B⟩, by simp [intOf]; omega⟩
            · have hN : newN g = (2, 0, []) := by unfold newN manyN; rw [decide_eq_false hm]; rfl
              rw [hN] at hv ⊢
              obtain ⟨ap, dp, hvp⟩ := OwnsWords.form hv
              replace hvp : vp = .slice ap 0 dp := hvp
              subst hvp
              by_cases hd1 : 1 ≤ g
              · have hd2 : ¬ g ≤ 8 := by omega
                have hal : Below wn.heap.size wn (wn.alloc (.cells #[.int .u64 0, .slice ap 0 dp] 25)) := Rows8.newB
                have hBw := hB.trans (hal.mono hB.size)
                have PP := Lib.hid (Rows8.new wn 25 #[.int .u64 0, .slice ap 0 dp])
                have IP : Hid (WordsAt (wn.alloc (.cells #[.int .u64 0, .slice ap 0 dp] 25)) (.slice ap 0 dp) ([])) := Lib.hid (RowAt.below (rowAt_own hv) hal)
                have X9 := Lib.hid (X9.out.below hBw X9.out.lt)
                have P1 := Lib.hid (P1.out.below hBw P1.out.lt)
                have I1 : Hid (WordsAt (wn.alloc (.cells #[.int .u64 0, .slice ap 0 dp] 25)) (.slice a7 n7 c7) U) := Lib.hid (RowAt.below I1.out hBw)
                have B := Lib.hid (B.out.trans (hBw.mono B.out.size))
                clear hB hBw hal hv hN hm hq hq0 hqw hqi
                as_aux_lemma =>
                  go_upto_region 25 with fail
                  generalize (wn.alloc (.cells #[.int .u64 0, .slice ap 0 dp] 25)) = w10 at *
                  obtain ⟨bp, hbp⟩ : ∃ b, b = wn.heap.size := ⟨_, rfl⟩
                  rw [← hbp] at PP ⊢
                  clear hbp
                  refine wp_region_X (fun W' => Rows8 W' w.heap.size 25 #[.int .u64 Ex, .slice ax nx cx] ∧ Rows8 W' bA 25 #[.int .u64 Ex, .slice a7 n7 c7] ∧ Rows8 W' bp 25 #[.int .u64 0, .slice ap 0 dp]) 29 (by kernel_rfl) ?_
                  have hS0 : Rows8 w10.drew w.heap.size 25 #[.int .u64 Ex, .slice ax nx cx] ∧ Rows8 w10.drew bA 25 #[.int .u64 Ex, .slice a7 n7 c7] ∧ Rows8 w10.drew bp 25 #[.int .u64 0, .slice ap 0 dp] := ⟨X9.out.drewA, P1.out.drewA, PP.out.drewA⟩
                  have I1 : Hid (WordsAt w10.drew (.slice a7 n7 c7) U) := Lib.hid I1.out
                  have IP : Hid (WordsAt w10.drew (.slice ap 0 dp) ([])) := Lib.hid IP.out
                  have B := Lib.hid B.out.drew
                  clear X9 P1 PP
                  generalize w10.drew = Wd at *
                  refine wpAnyN_take (i := 0) (oi := { dst := some 122, op := Go.Op.move (Go.Operand.tmp 20), type := 29, pos := "law.go:63", after := #[], guard := none }) (v := .int .i64 2) rfl (by decide) (by kernel_rfl) (by kernel_rfl) (by kernel_rfl) (fun _ _ _ h => h) (Or.inl ⟨by rfl, ?_⟩) hS0 ?_
                  · intro W9 hS9
                    obtain ⟨q0, q1, q2⟩ := hS9
                    clear q0 q1 q2
                    go_simp
                  try simp only [Act.put, List.setIfInBounds_toArray, List.set_cons_zero, List.set_cons_succ]
                  refine wpAnyN_take (i := 1) (oi := { dst := some 123, op := Go.Op.binOp Go.BinOp.eql 29 (Go.Operand.tmp 122) (Go.Operand.const (Go.Value.int Go.IntKind.i64 0)) 29, type := 4, pos := "law.go:63", after := #[{ on := 0, ground := Go.Ground.data }], guard := none }) (v := .bool false) rfl (by decide) (by kernel_rfl) (by kernel_rfl) (by kernel_rfl) (fun _ _ _ h => h) (Or.inl ⟨by rfl, ?_⟩) hS0 ?_
                  · intro W9 hS9
                    obtain ⟨q0, q1, q2⟩ := hS9
                    clear q0 q1 q2
                    go_simp
                  try simp only [Act.put, List.setIfInBounds_toArray, List.set_cons_zero, List.set_cons_succ]
                  refine wpAnyN_take (i := 2) (oi := { dst := some 124, op := Go.Op.move (Go.Operand.tmp 21), type := 4, pos := "law.go:63", after := #[], guard := none }) (v := .bool false) rfl (by decide) (by kernel_rfl) (by kernel_rfl) (by kernel_rfl) (fun _ _ _ h => h) (Or.inl ⟨by rfl, ?_⟩) hS0 ?_
                  · intro W9 hS9
                    obtain ⟨q0, q1, q2⟩ := hS9
                    clear q0 q1 q2
                    go_simp
                  try simp only [Act.put, List.setIfInBounds_toArray, List.set_cons_zero, List.set_cons_succ]
                  refine wpAnyN_take (i := 3) (oi := { dst := some 125, op := Go.Op.binOp Go.BinOp.neq 4 (Go.Operand.tmp 123) (Go.Operand.tmp 124) 4, type := 4, pos := "law.go:63", after := #[{ on := 1, ground := Go.Ground.data }, { on := 2, ground := Go.Ground.data }], guard := none }) (v := .bool false) rfl (by decide) (by kernel_rfl) (by kernel_rfl) (by kernel_rfl) (fun _ _ _ h => h) (Or.inl ⟨by rfl, ?_⟩) hS0 ?_
                  · intro W9 hS9
                    obtain ⟨q0, q1, q2⟩ := hS9
                    clear q0 q1 q2
                    go_simp
                  try simp only [Act.put, List.setIfInBounds_toArray, List.set_cons_zero, List.set_cons_succ]
                  refine wpAnyN_take (i := 4) (oi := { dst := some 126, op := Go.Op.move (Go.Operand.tmp 125), type := 4, pos := "law.go:63", after := #[{ on := 3, ground := Go.Ground.data }], guard := none }) (v := .bool false) rfl (by decide) (by kernel_rfl) (by kernel_rfl) (by kernel_rfl) (fun _ _ _ h => h) (Or.inl ⟨by rfl, ?_⟩) hS0 ?_
                  · intro W9 hS9
                    obtain ⟨q0, q1, q2⟩ := hS9
                    clear q0 q1 q2
                    go_simp
                  try simp only [Act.put, List.setIfInBounds_toArray, List.set_cons_zero, List.set_cons_succ]
                  refine wpAnyN_take (i := 5) (oi := { dst := some 127, op := Go.Op.move (Go.Operand.tmp 21), type := 4, pos := "law.go:63", after := #[{ on := 4, ground := Go.Ground.guard }], guard := some (4, false) }) (v := .bool false) rfl (by decide) (by kernel_rfl) (by kernel_rfl) (by kernel_rfl) (fun _ _ _ h => h) (Or.inl ⟨by rfl, ?_⟩) hS0 ?_
                  · intro W9 hS9
                    obtain ⟨q0, q1, q2⟩ := hS9
                    clear q0 q1 q2
                    go_simp
                  try simp only [Act.put, List.setIfInBounds_toArray, List.set_cons_zero, List.set_cons_succ]
                  refine wpAnyN_take (i := 6) (oi := { dst := some 128, op := Go.Op.unOp Go.UnOp.not 4 (Go.Operand.tmp 127), type := 4, pos := "law.go:63", after := #[{ on := 5, ground := Go.Ground.data }, { on := 4, ground := Go.Ground.guard }], guard := some (4, false) }) (v := .bool true) rfl (by decide) (by kernel_rfl) (by kernel_rfl) (by kernel_rfl) (fun _ _ _ h => h) (Or.inl ⟨by rfl, ?_⟩) hS0 ?_
                  · intro W9 hS9
                    obtain ⟨q0, q1, q2⟩ := hS9
                    clear q0 q1 q2
                    go_simp
                  try simp only [Act.put, List.setIfInBounds_toArray, List.set_cons_zero, List.set_cons_succ]
                  refine wpAnyN_take (i := 7) (oi := { dst := some 129, op := Go.Op.move (Go.Operand.tmp 128), type := 4, pos := "law.go:63", after := #[{ on := 6, ground := Go.Ground.data }, { on := 4, ground := Go.Ground.chain }, { on := 4, ground := Go.Ground.guard }], guard := some (4, false) }) (v := .bool true) rfl (by decide) (by kernel_rfl) (by kernel_rfl) (by kernel_rfl) (fun _ _ _ h => h) (Or.inl ⟨by rfl, ?_⟩) hS0 ?_
                  · intro W9 hS9
                    obtain ⟨q0, q1, q2⟩ := hS9
                    clear q0 q1 q2
                    go_simp
                  try simp only [Act.put, List.setIfInBounds_toArray, List.set_cons_zero, List.set_cons_succ]
                  refine wpAnyN_take (i := 8) (oi := { dst := some 130, op := Go.Op.move (Go.Operand.tmp 20), type := 29, pos := "law.go:63", after := #[{ on := 7, ground := Go.Ground.guard }], guard := some (7, true) }) (v := .int .i64 2) rfl (by decide) (by kernel_rfl) (by kernel_rfl) (by kernel_rfl) (fun _ _ _ h => h) (Or.inl ⟨by rfl, ?_⟩) hS0 ?_
                  · intro W9 hS9
                    obtain ⟨q0, q1, q2⟩ := hS9
                    clear q0 q1 q2
                    go_simp
                  try simp only [Act.put, List.setIfInBounds_toArray, List.set_cons_zero, List.set_cons_succ]
                  refine wpAnyN_take (i := 9) (oi := { dst := some 131, op := Go.Op.binOp Go.BinOp.neq 29 (Go.Operand.tmp 130) (Go.Operand.const (Go.Value.int Go.IntKind.i64 2)) 29, type := 4, pos := "law.go:63", after := #[{ on := 8, ground := Go.Ground.data }, { on := 7, ground := Go.Ground.guard }], guard := some (7, true) }) (v := .bool false) rfl (by decide) (by kernel_rfl) (by kernel_rfl) (by kernel_rfl) (fun _ _ _ h => h) (Or.inl ⟨by rfl, ?_⟩) hS0 ?_
                  · intro W9 hS9
                    obtain ⟨q0, q1, q2⟩ := hS9
                    clear q0 q1 q2
                    go_simp
                  try simp only [Act.put, List.setIfInBounds_toArray, List.set_cons_zero, List.set_cons_succ]
                  refine wpAnyN_take (i := 10) (oi := { dst := some 132, op := Go.Op.move (Go.Operand.tmp 131), type := 4, pos := "law.go:63", after := #[{ on := 9, ground := Go.Ground.data }, { on := 7, ground := Go.Ground.chain }, { on := 7, ground := Go.Ground.guard }], guard := some (7, true) }) (v := .bool false) rfl (by decide) (by kernel_rfl) (by kernel_rfl) (by kernel_rfl) (fun _ _ _ h => h) (Or.inl ⟨by rfl, ?_⟩) hS0 ?_
                  · intro W9 hS9
                    obtain ⟨q0, q1, q2⟩ := hS9
                    clear q0 q1 q2
                    go_simp
                  try simp only [Act.put, List.setIfInBounds_toArray, List.set_cons_zero, List.set_cons_succ]
                  refine wpAnyN_take (i := 11) (oi := { dst := some 133, op := Go.Op.fieldAddr 25 (Go.Operand.tmp 19) 1, type := 0, pos := "law.go:63", after := #[{ on := 10, ground := Go.Ground.guard }], guard := some (10, false) }) (v := .pointer (some ⟨bp, 1, none⟩)) rfl (by decide) (by kernel_rfl) (by kernel_rfl) (by kernel_rfl) (fun _ _ _ h => h) (Or.inl ⟨by rfl, ?_⟩) hS0 ?_
                  · intro W9 hS9
                    obtain ⟨q0, q1, q2⟩ := hS9
                    clear q0 q1 q2
                    go_simp
                  try simp only [Act.put, List.setIfInBounds_toArray, List.set_cons_zero, List.set_cons_succ]
                  refine wpAnyN_take (i := 12) (oi := { dst := some 134, op := Go.Op.load 23 (Go.Operand.tmp 133), type := 23, pos := "law.go:63", after := #[{ on := 11, ground := Go.Ground.data }, { on := 10, ground := Go.Ground.guard }], guard := some (10, false) }) (v := .slice ap 0 dp) rfl (by decide) (by kernel_rfl) (by kernel_rfl) (by kernel_rfl) (fun _ _ _ h => h) (Or.inl ⟨by rfl, ?_⟩) hS0 ?_
                  · intro W9 hS9
                    obtain ⟨q0, q1, q2⟩ := hS9
                    have s0 : W9.cell? ⟨bp, 0, none⟩ = some (.int .u64 0) := q2.cell 0
                    have s1 : W9.cell? ⟨bp, 1, none⟩ = some (.slice ap 0 dp) := q2.cell 1
                    clear q0 q1 q2
                    go_simp
                  try simp only [Act.put, List.setIfInBounds_toArray, List.set_cons_zero, List.set_cons_succ]
                  refine wpAnyN_take (i := 13) (oi := { dst := some 135, op := Go.Op.call { callee := Go.Callee.builtin Go.Builtin.len, args := #[Go.Operand.tmp 134], argTypes := #[23] }, type := 3, pos := "law.go:63", after := #[{ on := 12, ground := Go.Ground.data }, { on := 10, ground := Go.Ground.guard }], guard := some (10, false) }) (v := .int .i64 0) rfl (by decide) (by kernel_rfl) (by kernel_rfl) (by kernel_rfl) (fun _ _ _ h => h) (Or.inl ⟨by rfl, ?_⟩) hS0 ?_
                  · intro W9 hS9
                    obtain ⟨q0, q1, q2⟩ := hS9
                    clear q0 q1 q2
                    go_simp
                  try simp only [Act.put, List.setIfInBounds_toArray, List.set_cons_zero, List.set_cons_succ]
                  refine wpAnyN_take (i := 14) (oi := { dst := some 136, op := Go.Op.binOp Go.BinOp.gtr 3 (Go.Operand.tmp 135) (Go.Operand.const (Go.Value.int Go.IntKind.i64 0)) 3, type := 4, pos := "law.go:63", after := #[{ on := 13, ground := Go.Ground.data }, { on := 10, ground := Go.Ground.guard }], guard := some (10, false) }) (v := .bool false) rfl (by decide) (by kernel_rfl) (by kernel_rfl) (by kernel_rfl) (fun _ _ _ h => h) (Or.inl ⟨by rfl, ?_⟩) hS0 ?_
                  · intro W9 hS9
                    obtain ⟨q0, q1, q2⟩ := hS9
                    clear q0 q1 q2
                    go_simp
                  try simp only [Act.put, List.setIfInBounds_toArray, List.set_cons_zero, List.set_cons_succ]
                  refine wpAnyN_take (i := 15) (oi := { dst := some 137, op := Go.Op.pick (Go.Operand.tmp 132) (Go.Operand.const (Go.Value.bool true)) (Go.Operand.tmp 136), type := 4, pos := "law.go:63", after := #[{ on := 10, ground := Go.Ground.data }, { on := 14, ground := Go.Ground.data }, { on := 7, ground := Go.Ground.guard }], guard := some (7, true) }) (v := .bool false) rfl (by decide) (by kernel_rfl) (by kernel_rfl) (by kernel_rfl) (fun _ _ _ h => h) (Or.inl ⟨by rfl, ?_⟩) hS0 ?_
                  · intro W9 hS9
                    obtain ⟨q0, q1, q2⟩ := hS9
                    clear q0 q1 q2
                    go_simp
                  try simp only [Act.put, List.setIfInBounds_toArray, List.set_cons_zero, List.set_cons_succ]
                  refine wpAnyN_take (i := 16) (oi := { dst := some 138, op := Go.Op.pick (Go.Operand.tmp 129) (Go.Operand.tmp 137) (Go.Operand.const (Go.Value.bool false)), type := 4, pos := "law.go:63", after := #[{ on := 7, ground := Go.Ground.data }, { on := 15, ground := Go.Ground.data }, { on := 4, ground := Go.Ground.guard }], guard := some (4, false) }) (v := .bool false) rfl (by decide) (by kernel_rfl) (by kernel_rfl) (by kernel_rfl) (fun _ _ _ h => h) (Or.inl ⟨by rfl, ?_⟩) hS0 ?_
                  · intro W9 hS9
                    obtain ⟨q0, q1, q2⟩ := hS9
                    clear q0 q1 q2
                    go_simp
                  try simp only [Act.put, List.setIfInBounds_toArray, List.set_cons_zero, List.set_cons_succ]
                  refine wpAnyN_take (i := 17) (oi := { dst := some 139, op := Go.Op.pick (Go.Operand.tmp 126) (Go.Operand.const (Go.Value.bool true)) (Go.Operand.tmp 138), type := 4, pos := "law.go:63", after := #[{ on := 4, ground := Go.Ground.data }, { on := 16, ground := Go.Ground.data }], guard := none }) (v := .bool false) rfl (by decide) (by kernel_rfl) (by kernel_rfl) (by kernel_rfl) (fun _ _ _ h => h) (Or.inl ⟨by rfl, ?_⟩) hS0 ?_
                  · intro W9 hS9
                    obtain ⟨q0, q1, q2⟩ := hS9
                    clear q0 q1 q2
                    go_simp
                  try simp only [Act.put, List.setIfInBounds_toArray, List.set_cons_zero, List.set_cons_succ]
                  refine wpAnyN_take (i := 18) (oi := { dst := some 140, op := Go.Op.move (Go.Operand.tmp 139), type := 4, pos := "law.go:63", after := #[{ on := 17, ground := Go.Ground.data }, { on := 10, ground := Go.Ground.chain }], guard := none }) (v := .bool false) rfl (by decide) (by kernel_rfl) (by kernel_rfl) (by kernel_rfl) (fun _ _ _ h => h) (Or.inl ⟨by rfl, ?_⟩) hS0 ?_
                  · intro W9 hS9
                    obtain ⟨q0, q1, q2⟩ := hS9
                    clear q0 q1 q2
                    go_simp
                  try simp only [Act.put, List.setIfInBounds_toArray, List.set_cons_zero, List.set_cons_succ]
                  refine wpAnyN_take (i := 19) (oi := { dst := some 141, op := Go.Op.move (Go.Operand.tmp 21), type := 4, pos := "law.go:63", after := #[{ on := 18, ground := Go.Ground.guard }], guard := some (18, false) }) (v := .bool false) rfl (by decide) (by kernel_rfl) (by kernel_rfl) (by kernel_rfl) (fun _ _ _ h => h) (Or.inl ⟨by rfl, ?_⟩) hS0 ?_
                  · intro W9 hS9
                    obtain ⟨q0, q1, q2⟩ := hS9
                    clear q0 q1 q2
                    go_simp
                  try simp only [Act.put, List.setIfInBounds_toArray, List.set_cons_zero, List.set_cons_succ]
                  refine wpAnyN_take (i := 20) (oi := { dst := some 142, op := Go.Op.move (Go.Operand.tmp 141), type := 4, pos := "law.go:63", after := #[{ on := 19, ground := Go.Ground.data }, { on := 18, ground := Go.Ground.chain }, { on := 18, ground := Go.Ground.guard }], guard := some (18, false) }) (v := .bool false) rfl (by decide) (by kernel_rfl) (by kernel_rfl) (by kernel_rfl) (fun _ _ _ h => h) (Or.inl ⟨by rfl, ?_⟩) hS0 ?_
                  · intro W9 hS9
                    obtain ⟨q0, q1, q2⟩ := hS9
                    clear q0 q1 q2
                    go_simp
                  try simp only [Act.put, List.setIfInBounds_toArray, List.set_cons_zero, List.set_cons_succ]
                  refine wpAnyN_take (i := 21) (oi := { dst := some 143, op := Go.Op.load 25 (Go.Operand.tmp 19), type := 25, pos := "law.go:63", after := #[{ on := 20, ground := Go.Ground.guard }], guard := some (20, true) }) (v := undef) rfl (by decide) (by kernel_rfl) (by kernel_rfl) (by kernel_rfl) (fun _ _ _ h => h) (Or.inr ⟨by rfl, rfl⟩) hS0 ?_
                  try simp only [Act.put, List.setIfInBounds_toArray, List.set_cons_zero, List.set_cons_succ]
                  refine wpAnyN_take (i := 22) (oi := { dst := some 144, op := Go.Op.move (Go.Operand.tmp 18), type := 3, pos := "law.go:63", after := #[{ on := 20, ground := Go.Ground.guard }], guard := some (20, true) }) (v := undef) rfl (by decide) (by kernel_rfl) (by kernel_rfl) (by kernel_rfl) (fun _ _ _ h => h) (Or.inr ⟨by rfl, rfl⟩) hS0 ?_
                  try simp only [Act.put, List.setIfInBounds_toArray, List.set_cons_zero, List.set_cons_succ]
                  refine wpAnyN_take (i := 23) (oi := { dst := some 145, op := Go.Op.makeSlice 23 (Go.Operand.tmp 144) (Go.Operand.tmp 144), type := 23, pos := "law.go:63", after := #[{ on := 22, ground := Go.Ground.data }, { on := 22, ground := Go.Ground.data }, { on := 20, ground := Go.Ground.guard }], guard := some (20, true) }) (v := undef) rfl (by decide) (by kernel_rfl) (by kernel_rfl) (by kernel_rfl) (fun _ _ _ h => h) (Or.inr ⟨by rfl, rfl⟩) hS0 ?_
                  try simp only [Act.put, List.setIfInBounds_toArray, List.set_cons_zero, List.set_cons_succ]
                  refine wpAnyN_take (i := 24) (oi := { dst := some 146, op := Go.Op.build 25 #[(1, Go.Operand.tmp 145)], type := 25, pos := "law.go:63", after := #[{ on := 23, ground := Go.Ground.data }, { on := 20, ground := Go.Ground.guard }], guard := some (20, true) }) (v := undef) rfl (by decide) (by kernel_rfl) (by kernel_rfl) (by kernel_rfl) (fun _ _ _ h => h) (Or.inr ⟨by rfl, rfl⟩) hS0 ?_
                  try simp only [Act.put, List.setIfInBounds_toArray, List.set_cons_zero, List.set_cons_succ]
                  refine wpAnyN_take (i := 25) (oi := { dst := some 147, op := Go.Op.call { callee := Go.Callee.value (Go.Operand.func 13), args := #[Go.Operand.tmp 143, Go.Operand.tmp 146], argTypes := #[25, 25] }, type := 4, pos := "law.go:63", after := #[{ on := 21, ground := Go.Ground.data }, { on := 24, ground := Go.Ground.data }, { on := 20, ground := Go.Ground.chain }, { on := 20, ground := Go.Ground.guard }], guard := some (20, true) }) (v := undef) rfl (by decide) (by kernel_rfl) (by kernel_rfl) (by kernel_rfl) (fun _ _ _ h => h) (Or.inr ⟨by rfl, rfl⟩) hS0 ?_
                  try simp only [Act.put, List.setIfInBounds_toArray, List.set_cons_zero, List.set_cons_succ]
                  refine wpAnyN_take (i := 26) (oi := { dst := some 148, op := Go.Op.unOp Go.UnOp.not 4 (Go.Operand.tmp 147), type := 4, pos := "law.go:63", after := #[{ on := 25, ground := Go.Ground.data }, { on := 20, ground := Go.Ground.guard }], guard := some (20, true) }) (v := undef) rfl (by decide) (by kernel_rfl) (by kernel_rfl) (by kernel_rfl) (fun _ _ _ h => h) (Or.inr ⟨by rfl, rfl⟩) hS0 ?_
                  try simp only [Act.put, List.setIfInBounds_toArray, List.set_cons_zero, List.set_cons_succ]
                  refine wpAnyN_take (i := 27) (oi := { dst := some 149, op := Go.Op.pick (Go.Operand.tmp 142) (Go.Operand.tmp 148) (Go.Operand.const (Go.Value.bool false)), type := 4, pos := "law.go:63", after := #[{ on := 20, ground := Go.Ground.data }, { on := 26, ground := Go.Ground.data }, { on := 18, ground := Go.Ground.guard }], guard := some (18, false) }) (v := .bool false) rfl (by decide) (by kernel_rfl) (by kernel_rfl) (by kernel_rfl) (fun _ _ _ h => h) (Or.inl ⟨by rfl, ?_⟩) hS0 ?_
                  · intro W9 hS9
                    obtain ⟨q0, q1, q2⟩ := hS9
                    clear q0 q1 q2
                    go_simp
                  try simp only [Act.put, List.setIfInBounds_toArray, List.set_cons_zero, List.set_cons_succ]
                  refine wpAnyN_take (i := 28) (oi := { dst := some 150, op := Go.Op.pick (Go.Operand.tmp 140) (Go.Operand.const (Go.Value.bool true)) (Go.Operand.tmp 149), type := 4, pos := "law.go:63", after := #[{ on := 18, ground := Go.Ground.data }, { on := 27, ground := Go.Ground.data }], guard := none }) (v := .bool false) rfl (by decide) (by kernel_rfl) (by kernel_rfl) (by kernel_rfl) (fun _ _ _ h => h) (Or.inl ⟨by rfl, ?_⟩) hS0 ?_
                  · intro W9 hS9
                    obtain ⟨q0, q1, q2⟩ := hS9
                    clear q0 q1 q2
                    go_simp
                  try simp only [Act.put, List.setIfInBounds_toArray, List.set_cons_zero, List.set_cons_succ]
                  refine wpAnyX_end (by kernel_rfl) ?_
                  have X9 := Lib.hid hS0.1
                  have P1 := Lib.hid hS0.2.1
                  clear hS0 IP 
                  go_wp2_with fail
                  clear hg hgw hne1 hneb d8
                  exact ⟨⟨k + 1, by omega, by go_num, X9, P1, I1, B⟩, by simp [intOf]; omega⟩
              · skip
                have hal : Below wn.heap.size wn (wn.alloc (.cells #[.int .u64 0, .slice ap 0 dp] 25)) := Rows8.newB
                have hBw := hB.trans (hal.mono hB.size)
                have PP := Lib.hid (Rows8.new wn 25 #[.int .u64 0, .slice ap 0 dp])
                have IP : Hid (WordsAt (wn.alloc (.cells #[.int .u64 0, .slice ap 0 dp] 25)) (.slice ap 0 dp) ([])) := Lib.hid (RowAt.below (rowAt_own hv) hal)
                have X9 := Lib.hid (X9.out.below hBw X9.out.lt)
                have P1 := Lib.hid (P1.out.below hBw P1.out.lt)
                have I1 : Hid (WordsAt (wn.alloc (.cells #[.int .u64 0, .slice ap 0 dp] 25)) (.slice a7 n7 c7) U) := Lib.hid (RowAt.below I1.out hBw)
                have B := Lib.hid (B.out.trans (hBw.mono B.out.size))
                clear hB hBw hal hv hN hm hq hq0 hqw hqi
                as_aux_lemma =>
                  go_upto_region 25 with fail
                  generalize (wn.alloc (.cells #[.int .u64 0, .slice ap 0 dp] 25)) = w10 at *
                  obtain ⟨bp, hbp⟩ : ∃ b, b = wn.heap.size := ⟨_, rfl⟩
                  rw [← hbp] at PP ⊢
                  clear hbp
                  refine wp_region_X (fun W' => Rows8 W' w.heap.size 25 #[.int .u64 Ex, .slice ax nx cx] ∧ Rows8 W' bA 25 #[.int .u64 Ex, .slice a7 n7 c7] ∧ Rows8 W' bp 25 #[.int .u64 0, .slice ap 0 dp]) 29 (by kernel_rfl) ?_
                  have hS0 : Rows8 w10.drew w.heap.size 25 #[.int .u64 Ex, .slice ax nx cx] ∧ Rows8 w10.drew bA 25 #[.int .u64 Ex, .slice a7 n7 c7] ∧ Rows8 w10.drew bp 25 #[.int .u64 0, .slice ap 0 dp] := ⟨X9.out.drewA, P1.out.drewA, PP.out.drewA⟩
                  have I1 : Hid (WordsAt w10.drew (.slice a7 n7 c7) U) := Lib.hid I1.out
                  have IP : Hid (WordsAt w10.drew (.slice ap 0 dp) ([])) := Lib.hid IP.out
                  have B := Lib.hid B.out.drew
                  clear X9 P1 PP
                  generalize w10.drew = Wd at *
                  refine wpAnyN_take (i := 0) (oi := { dst := some 122, op := Go.Op.move (Go.Operand.tmp 20), type := 29, pos := "law.go:63", after := #[], guard := none }) (v := .int .i64 2) rfl (by decide) (by kernel_rfl) (by kernel_rfl) (by kernel_rfl) (fun _ _ _ h => h) (Or.inl ⟨by rfl, ?_⟩) hS0 ?_
                  · intro W9 hS9
                    obtain ⟨q0, q1, q2⟩ := hS9
                    clear q0 q1 q2
                    go_simp
                  try simp only [Act.put, List.setIfInBounds_toArray, List.set_cons_zero, List.set_cons_succ]
                  refine wpAnyN_take (i := 1) (oi := { dst := some 123, op := Go.Op.binOp Go.BinOp.eql 29 (Go.Operand.tmp 122) (Go.Operand.const (Go.Value.int Go.IntKind.i64 0)) 29, type := 4, pos := "law.go:63", after := #[{ on := 0, ground := Go.Ground.data }], guard := none }) (v := .bool false) rfl (by decide) (by kernel_rfl) (by kernel_rfl) (by kernel_rfl) (fun _ _ _ h => h) (Or.inl ⟨by rfl, ?_⟩) hS0 ?_
                  · intro W9 hS9
                    obtain ⟨q0, q1, q2⟩ := hS9
                    clear q0 q1 q2
                    go_simp
                  try simp only [Act.put, List.setIfInBounds_toArray, List.set_cons_zero, List.set_cons_succ]
                  refine wpAnyN_take (i := 2) (oi := { dst := some 124, op := Go.Op.move (Go.Operand.tmp 21), type := 4, pos := "law.go:63", after := #[], guard := none }) (v := .bool false) rfl (by decide) (by kernel_rfl) (by kernel_rfl) (by kernel_rfl) (fun _ _ _ h => h) (Or.inl ⟨by rfl, ?_⟩) hS0 ?_
                  · intro W9 hS9
                    obtain ⟨q0, q1, q2⟩ := hS9
                    clear q0 q1 q2
                    go_simp
                  try simp only [Act.put, List.setIfInBounds_toArray, List.set_cons_zero, List.set_cons_succ]
                  refine wpAnyN_take (i := 3) (oi := { dst := some 125, op := Go.Op.binOp Go.BinOp.neq 4 (Go.Operand.tmp 123) (Go.Operand.tmp 124) 4, type := 4, pos := "law.go:63", after := #[{ on := 1, ground := Go.Ground.data }, { on := 2, ground := Go.Ground.data }], guard := none }) (v := .bool false) rfl (by decide) (by kernel_rfl) (by kernel_rfl) (by kernel_rfl) (fun _ _ _ h => h) (Or.inl ⟨by rfl, ?_⟩) hS0 ?_
                  · intro W9 hS9
                    obtain ⟨q0, q1, q2⟩ := hS9
                    clear q0 q1 q2
                    go_simp
                  try simp only [Act.put, List.setIfInBounds_toArray, List.set_cons_zero, List.set_cons_succ]
                  refine wpAnyN_take (i := 4) (oi := { dst := some 126, op := Go.Op.move (Go.Operand.tmp 125), type := 4, pos := "law.go:63", after := #[{ on := 3, ground := Go.Ground.data }], guard := none }) (v := .bool false) rfl (by decide) (by kernel_rfl) (by kernel_rfl) (by kernel_rfl) (fun _ _ _ h => h) (Or.inl ⟨by rfl, ?_⟩) hS0 ?_
                  · intro W9 hS9
                    obtain ⟨q0, q1, q2⟩ := hS9
                    clear q0 q1 q2
                    go_simp
                  try simp only [Act.put, List.setIfInBounds_toArray, List.set_cons_zero, List.set_cons_succ]
                  refine wpAnyN_take (i := 5) (oi := { dst := some 127, op := Go.Op.move (Go.Operand.tmp 21), type := 4, pos := "law.go:63", after := #[{ on := 4, ground := Go.Ground.guard }], guard := some (4, false) }) (v := .bool false) rfl (by decide) (by kernel_rfl) (by kernel_rfl) (by kernel_rfl) (fun _ _ _ h => h) (Or.inl ⟨by rfl, ?_⟩) hS0 ?_
                  · intro W9 hS9
                    obtain ⟨q0, q1, q2⟩ := hS9
                    clear q0 q1 q2
                    go_simp
                  try simp only [Act.put, List.setIfInBounds_toArray, List.set_cons_zero, List.set_cons_succ]
                  refine wpAnyN_take (i := 6) (oi := { dst := some 128, op := Go.Op.unOp Go.UnOp.not 4 (Go.Operand.tmp 127), type := 4, pos := "law.go:63", after := #[{ on := 5, ground := Go.Ground.data }, { on := 4, ground := Go.Ground.guard }], guard := some (4, false) }) (v := .bool true) rfl (by decide) (by kernel_rfl) (by kernel_rfl) (by kernel_rfl) (fun _ _ _ h => h) (Or.inl ⟨by rfl, ?_⟩) hS0 ?_
                  · intro W9 hS9
                    obtain ⟨q0, q1, q2⟩ := hS9
                    clear q0 q1 q2
                    go_simp
                  try simp only [Act.put, List.setIfInBounds_toArray, List.set_cons_zero, List.set_cons_succ]
                  refine wpAnyN_take (i := 7) (oi := { dst := some 129, op := Go.Op.move (Go.Operand.tmp 128), type := 4, pos := "law.go:63", after := #[{ on := 6, ground := Go.Ground.data }, { on := 4, ground := Go.Ground.chain }, { on := 4, ground := Go.Ground.guard }], guard := some (4, false) }) (v := .bool true) rfl (by decide) (by kernel_rfl) (by kernel_rfl) (by kernel_rfl) (fun _ _ _ h => h) (Or.inl ⟨by rfl, ?_⟩) hS0 ?_
                  · intro W9 hS9
                    obtain ⟨q0, q1, q2⟩ := hS9
                    clear q0 q1 q2
                    go_simp
                  try simp only [Act.put, List.setIfInBounds_toArray, List.set_cons_zero, List.set_cons_succ]
                  refine wpAnyN_take (i := 8) (oi := { dst := some 130, op := Go.Op.move (Go.Operand.tmp 20), type := 29, pos := "law.go:63", after := #[{ on := 7, ground := Go.Ground.guard }], guard := some (7, true) }) (v := .int .i64 2) rfl (by decide) (by kernel_rfl) (by kernel_rfl) (by kernel_rfl) (fun _ _ _ h => h) (Or.inl ⟨by rfl, ?_⟩) hS0 ?_
                  · intro W9 hS9
                    obtain ⟨q0, q1, q2⟩ := hS9
                    clear q0 q1 q2
                    go_simp
                  try simp only [Act.put, List.setIfInBounds_toArray, List.set_cons_zero, List.set_cons_succ]
                  refine wpAnyN_take (i := 9) (oi := { dst := some 131, op := Go.Op.binOp Go.BinOp.neq 29 (Go.Operand.tmp 130) (Go.Operand.const (Go.Value.int Go.IntKind.i64 2)) 29, type := 4, pos := "law.go:63", after := #[{ on := 8, ground := Go.Ground.data }, { on := 7, ground := Go.Ground.guard }], guard := some (7, true) }) (v := .bool false) rfl (by decide) (by kernel_rfl) (by kernel_rfl) (by kernel_rfl) (fun _ _ _ h => h) (Or.inl ⟨by rfl, ?_⟩) hS0 ?_
                  · intro W9 hS9
                    obtain ⟨q0, q1, q2⟩ := hS9
                    clear q0 q1 q2
                    go_simp
                  try simp only [Act.put, List.setIfInBounds_toArray, List.set_cons_zero, List.set_cons_succ]
                  refine wpAnyN_take (i := 10) (oi := { dst := some 132, op := Go.Op.move (Go.Operand.tmp 131), type := 4, pos := "law.go:63", after := #[{ on := 9, ground := Go.Ground.data }, { on := 7, ground := Go.Ground.chain }, { on := 7, ground := Go.Ground.guard }], guard := some (7, true) }) (v := .bool false) rfl (by decide) (by kernel_rfl) (by kernel_rfl) (by kernel_rfl) (fun _ _ _ h => h) (Or.inl ⟨by rfl, ?_⟩) hS0 ?_
                  · intro W9 hS9
                    obtain ⟨q0, q1, q2⟩ := hS9
                    clear q0 q1 q2
                    go_simp
                  try simp only [Act.put, List.setIfInBounds_toArray, List.set_cons_zero, List.set_cons_succ]
                  refine wpAnyN_take (i := 11) (oi := { dst := some 133, op := Go.Op.fieldAddr 25 (Go.Operand.tmp 19) 1, type := 0, pos := "law.go:63", after := #[{ on := 10, ground := Go.Ground.guard }], guard := some (10, false) }) (v := .pointer (some ⟨bp, 1, none⟩)) rfl (by decide) (by kernel_rfl) (by kernel_rfl) (by kernel_rfl) (fun _ _ _ h => h) (Or.inl ⟨by rfl, ?_⟩) hS0 ?_
                  · intro W9 hS9
                    obtain ⟨q0, q1, q2⟩ := hS9
                    clear q0 q1 q2
                    go_simp
                  try simp only [Act.put, List.setIfInBounds_toArray, List.set_cons_zero, List.set_cons_succ]
                  refine wpAnyN_take (i := 12) (oi := { dst := some 134, op := Go.Op.load 23 (Go.Operand.tmp 133), type := 23, pos := "law.go:63", after := #[{ on := 11, ground := Go.Ground.data }, { on := 10, ground := Go.Ground.guard }], guard := some (10, false) }) (v := .slice ap 0 dp) rfl (by decide) (by kernel_rfl) (by kernel_rfl) (by kernel_rfl) (fun _ _ _ h => h) (Or.inl ⟨by rfl, ?_⟩) hS0 ?_
                  · intro W9 hS9
                    obtain ⟨q0, q1, q2⟩ := hS9
                    have s0 : W9.cell? ⟨bp, 0, none⟩ = some (.int .u64 0) := q2.cell 0
                    have s1 : W9.cell? ⟨bp, 1, none⟩ = some (.slice ap 0 dp) := q2.cell 1
                    clear q0 q1 q2
                    go_simp
                  try simp only [Act.put, List.setIfInBounds_toArray, List.set_cons_zero, List.set_cons_succ]
                  refine wpAnyN_take (i := 13) (oi := { dst := some 135, op := Go.Op.call { callee := Go.Callee.builtin Go.Builtin.len, args := #[Go.Operand.tmp 134], argTypes := #[23] }, type := 3, pos := "law.go:63", after := #[{ on := 12, ground := Go.Ground.data }, { on := 10, ground := Go.Ground.guard }], guard := some (10, false) }) (v := .int .i64 0) rfl (by decide) (by kernel_rfl) (by kernel_rfl) (by kernel_rfl) (fun _ _ _ h => h) (Or.inl ⟨by rfl, ?_⟩) hS0 ?_
                  · intro W9 hS9
                    obtain ⟨q0, q1, q2⟩ := hS9
                    clear q0 q1 q2
                    go_simp
                  try simp only [Act.put, List.setIfInBounds_toArray, List.set_cons_zero, List.set_cons_succ]
                  refine wpAnyN_take (i := 14) (oi := { dst := some 136, op := Go.Op.binOp Go.BinOp.gtr 3 (Go.Operand.tmp 135) (Go.Operand.const (Go.Value.int Go.IntKind.i64 0)) 3, type := 4, pos := "law.go:63", after := #[{ on := 13, ground := Go.Ground.data }, { on := 10, ground := Go.Ground.guard }], guard := some (10, false) }) (v := .bool false) rfl (by decide) (by kernel_rfl) (by kernel_rfl) (by kernel_rfl) (fun _ _ _ h => h) (Or.inl ⟨by rfl, ?_⟩) hS0 ?_
                  · intro W9 hS9
                    obtain ⟨q0, q1, q2⟩ := hS9
                    clear q0 q1 q2
                    go_simp
                  try simp only [Act.put, List.setIfInBounds_toArray, List.set_cons_zero, List.set_cons_succ]
                  refine wpAnyN_take (i := 15) (oi := { dst := some 137, op := Go.Op.pick (Go.Operand.tmp 132) (Go.Operand.const (Go.Value.bool true)) (Go.Operand.tmp 136), type := 4, pos := "law.go:63", after := #[{ on := 10, ground := Go.Ground.data }, { on := 14, ground := Go.Ground.data }, { on := 7, ground := Go.Ground.guard }], guard := some (7, true) }) (v := .bool false) rfl (by decide) (by kernel_rfl) (by kernel_rfl) (by kernel_rfl) (fun _ _ _ h => h) (Or.inl ⟨by rfl, ?_⟩) hS0 ?_
                  · intro W9 hS9
                    obtain ⟨q0, q1, q2⟩ := hS9
                    clear q0 q1 q2
                    go_simp
                  try simp only [Act.put, List.setIfInBounds_toArray, List.set_cons_zero, List.set_cons_succ]
                  refine wpAnyN_take (i := 16) (oi := { dst := some 138, op := Go.Op.pick (Go.Operand.tmp 129) (Go.Operand.tmp 137) (Go.Operand.const (Go.Value.bool false)), type := 4, pos := "law.go:63", after := #[{ on := 7, ground := Go.Ground.data }, { on := 15, ground := Go.Ground.data }, { on := 4, ground := Go.Ground.guard }], guard := some (4, false) }) (v := .bool false) rfl (by decide) (by kernel_rfl) (by kernel_rfl) (by kernel_rfl) (fun _ _ _ h => h) (Or.inl ⟨by rfl, ?_⟩) hS0 ?_
                  · intro W9 hS9
                    obtain ⟨q0, q1, q2⟩ := hS9
                    clear q0 q1 q2
                    go_simp
                  try simp only [Act.put, List.setIfInBounds_toArray, List.set_cons_zero, List.set_cons_succ]
                  refine wpAnyN_take (i := 17) (oi := { dst := some 139, op := Go.Op.pick (Go.Operand.tmp 126) (Go.Operand.const (Go.Value.bool true)) (Go.Operand.tmp 138), type := 4, pos := "law.go:63", after := #[{ on := 4, ground := Go.Ground.data }, { on := 16, ground := Go.Ground.data }], guard := none }) (v := .bool false) rfl (by decide) (by kernel_rfl) (by kernel_rfl) (by kernel_rfl) (fun _ _ _ h => h) (Or.inl ⟨by rfl, ?_⟩) hS0 ?_
                  · intro W9 hS9
                    obtain ⟨q0, q1, q2⟩ := hS9
                    clear q0 q1 q2
                    go_simp
                  try simp only [Act.put, List.setIfInBounds_toArray, List.set_cons_zero, List.set_cons_succ]
                  refine wpAnyN_take (i := 18) (oi := { dst := some 140, op := Go.Op.move (Go.Operand.tmp 139), type := 4, pos := "law.go:63", after := #[{ on := 17, ground := Go.Ground.data }, { on := 10, ground := Go.Ground.chain }], guard := none }) (v := .bool false) rfl (by decide) (by kernel_rfl) (by kernel_rfl) (by kernel_rfl) (fun _ _ _ h => h) (Or.inl ⟨by rfl, ?_⟩) hS0 ?_
                  · intro W9 hS9
                    obtain ⟨q0, q1, q2⟩ := hS9
                    clear q0 q1 q2
                    go_simp
                  try simp only [Act.put, List.setIfInBounds_toArray, List.set_cons_zero, List.set_cons_succ]
                  refine wpAnyN_take (i := 19) (oi := { dst := some 141, op := Go.Op.move (Go.Operand.tmp 21), type := 4, pos := "law.go:63", after := #[{ on := 18, ground := Go.Ground.guard }], guard := some (18, false) }) (v := .bool false) rfl (by decide) (by kernel_rfl) (by kernel_rfl) (by kernel_rfl) (fun _ _ _ h => h) (Or.inl ⟨by rfl, ?_⟩) hS0 ?_
                  · intro W9 hS9
                    obtain ⟨q0, q1, q2⟩ := hS9
                    clear q0 q1 q2
                    go_simp
                  try simp only [Act.put, List.setIfInBounds_toArray, List.set_cons_zero, List.set_cons_succ]
                  refine wpAnyN_take (i := 20) (oi := { dst := some 142, op := Go.Op.move (Go.Operand.tmp 141), type := 4, pos := "law.go:63", after := #[{ on := 19, ground := Go.Ground.data }, { on := 18, ground := Go.Ground.chain }, { on := 18, ground := Go.Ground.guard }], guard := some (18, false) }) (v := .bool false) rfl (by decide) (by kernel_rfl) (by kernel_rfl) (by kernel_rfl) (fun _ _ _ h => h) (Or.inl ⟨by rfl, ?_⟩) hS0 ?_
                  · intro W9 hS9
                    obtain ⟨q0, q1, q2⟩ := hS9
                    clear q0 q1 q2
                    go_simp
                  try simp only [Act.put, List.setIfInBounds_toArray, List.set_cons_zero, List.set_cons_succ]
                  refine wpAnyN_take (i := 21) (oi := { dst := some 143, op := Go.Op.load 25 (Go.Operand.tmp 19), type := 25, pos := "law.go:63", after := #[{ on := 20, ground := Go.Ground.guard }], guard := some (20, true) }) (v := undef) rfl (by decide) (by kernel_rfl) (by kernel_rfl) (by kernel_rfl) (fun _ _ _ h => h) (Or.inr ⟨by rfl, rfl⟩) hS0 ?_
                  try simp only [Act.put, List.setIfInBounds_toArray, List.set_cons_zero, List.set_cons_succ]
                  refine wpAnyN_take (i := 22) (oi := { dst := some 144, op := Go.Op.move (Go.Operand.tmp 18), type := 3, pos := "law.go:63", after := #[{ on := 20, ground := Go.Ground.guard }], guard := some (20, true) }) (v := undef) rfl (by decide) (by kernel_rfl) (by kernel_rfl) (by kernel_rfl) (fun _ _ _ h => h) (Or.inr ⟨by rfl, rfl⟩) hS0 ?_
                  try simp only [Act.put, List.setIfInBounds_toArray, List.set_cons_zero, List.set_cons_succ]
                  refine wpAnyN_take (i := 23) (oi := { dst := some 145, op := Go.Op.makeSlice 23 (Go.Operand.tmp 144) (Go.Operand.tmp 144), type := 23, pos := "law.go:63", after := #[{ on := 22, ground := Go.Ground.data }, { on := 22, ground := Go.Ground.data }, { on := 20, ground := Go.Ground.guard }], guard := some (20, true) }) (v := undef) rfl (by decide) (by kernel_rfl) (by kernel_rfl) (by kernel_rfl) (fun _ _ _ h => h) (Or.inr ⟨by rfl, rfl⟩) hS0 ?_
                  try simp only [Act.put, List.setIfInBounds_toArray, List.set_cons_zero, List.set_cons_succ]
                  refine wpAnyN_take (i := 24) (oi := { dst := some 146, op := Go.Op.build 25 #[(1, Go.Operand.tmp 145)], type := 25, pos := "law.go:63", after := #[{ on := 23, ground := Go.Ground.data }, { on := 20, ground := Go.Ground.guard }], guard := some (20, true) }) (v := undef) rfl (by decide) (by kernel_rfl) (by kernel_rfl) (by kernel_rfl) (fun _ _ _ h => h) (Or.inr ⟨by rfl, rfl⟩) hS0 ?_
                  try simp only [Act.put, List.setIfInBounds_toArray, List.set_cons_zero, List.set_cons_succ]
                  refine wpAnyN_take (i := 25) (oi := { dst := some 147, op := Go.Op.call { callee := Go.Callee.value (Go.Operand.func 13), args := #[Go.Operand.tmp 143, Go.Operand.tmp 146], argTypes := #[25, 25] }, type := 4, pos := "law.go:63", after := #[{ on := 21, ground := Go.Ground.data }, { on := 24, ground := Go.Ground.data }, { on := 20, ground := Go.Ground.chain }, { on := 20, ground := Go.Ground.guard }], guard := some (20, true) }) (v := undef) rfl (by decide) (by kernel_rfl) (by kernel_rfl) (by kernel_rfl) (fun _ _ _ h => h) (Or.inr ⟨by rfl, rfl⟩) hS0 ?_
                  try simp only [Act.put, List.setIfInBounds_toArray, List.set_cons_zero, List.set_cons_succ]
                  refine wpAnyN_take (i := 26) (oi := { dst := some 148, op := Go.Op.unOp Go.UnOp.not 4 (Go.Operand.tmp 147), type := 4, pos := "law.go:63", after := #[{ on := 25, ground := Go.Ground.data }, { on := 20, ground := Go.Ground.guard }], guard := some (20, true) }) (v := undef) rfl (by decide) (by kernel_rfl) (by kernel_rfl) (by kernel_rfl) (fun _ _ _ h => h) (Or.inr ⟨by rfl, rfl⟩) hS0 ?_
                  try simp only [Act.put, List.setIfInBounds_toArray, List.set_cons_zero, List.set_cons_succ]
                  refine wpAnyN_take (i := 27) (oi := { dst := some 149, op := Go.Op.pick (Go.Operand.tmp 142) (Go.Operand.tmp 148) (Go.Operand.const (Go.Value.bool false)), type := 4, pos := "law.go:63", after := #[{ on := 20, ground := Go.Ground.data }, { on := 26, ground := Go.Ground.data }, { on := 18, ground := Go.Ground.guard }], guard := some (18, false) }) (v := .bool false) rfl (by decide) (by kernel_rfl) (by kernel_rfl) (by kernel_rfl) (fun _ _ _ h => h) (Or.inl ⟨by rfl, ?_⟩) hS0 ?_
                  · intro W9 hS9
                    obtain ⟨q0, q1, q2⟩ := hS9
                    clear q0 q1 q2
                    go_simp
                  try simp only [Act.put, List.setIfInBounds_toArray, List.set_cons_zero, List.set_cons_succ]
                  refine wpAnyN_take (i := 28) (oi := { dst := some 150, op := Go.Op.pick (Go.Operand.tmp 140) (Go.Operand.const (Go.Value.bool true)) (Go.Operand.tmp 149), type := 4, pos := "law.go:63", after := #[{ on := 18, ground := Go.Ground.data }, { on := 27, ground := Go.Ground.data }], guard := none }) (v := .bool false) rfl (by decide) (by kernel_rfl) (by kernel_rfl) (by kernel_rfl) (fun _ _ _ h => h) (Or.inl ⟨by rfl, ?_⟩) hS0 ?_
                  · intro W9 hS9
                    obtain ⟨q0, q1, q2⟩ := hS9
                    clear q0 q1 q2
                    go_simp
                  try simp only [Act.put, List.setIfInBounds_toArray, List.set_cons_zero, List.set_cons_succ]
                  refine wpAnyX_end (by kernel_rfl) ?_
                  have X9 := Lib.hid hS0.1
                  have P1 := Lib.hid hS0.2.1
                  clear hS0 IP 
                  go_wp2_with fail
                  clear hg hgw hne1 hneb d8
                  exact ⟨⟨k + 1, by omega, by go_num, X9, P1, I1, B⟩, by simp [intOf]; omega⟩
        · obtain rfl : k = nl := by omega
          have hki : ¬ (k : Int) < (k : Int) := by omega
          clear HSF HSG HNW
          go_wp2_with fail
          refine wp_region_X (fun W' => Rows8 W' w.heap.size 25 #[.int .u64 Ex, .slice ax nx cx] ∧ Rows8 W' bA 25 #[.int .u64 Ex, .slice a7 n7 c7]) 5 (by kernel_rfl) ?_
          have hS0 : Rows8 wr.drew w.heap.size 25 #[.int .u64 Ex, .slice ax nx cx] ∧ Rows8 wr.drew bA 25 #[.int .u64 Ex, .slice a7 n7 c7] := ⟨X9.out.drewA, P1.out.drewA⟩
          have I1 : Hid (WordsAt wr.drew (.slice a7 n7 c7) U) := Lib.hid I1.out
          have B := Lib.hid B.out.drew
          clear X9 P1
          generalize wr.drew = Wd at *
          refine wpAnyN_take (i := 0) (oi := { dst := some 152, op := Go.Op.load 25 (Go.Operand.tmp 7), type := 25, pos := "law.go:67", after := #[], guard := none }) (v := .agg #[.int .u64 Ex, .slice a7 n7 c7]) rfl (by decide) (by kernel_rfl) (by kernel_rfl) (by kernel_rfl) (fun _ _ _ h => h) (Or.inl ⟨by rfl, ?_⟩) hS0 ?_
          · intro W9 hS9
            obtain ⟨q0, q1⟩ := hS9
            have s0 : W9.cell? ⟨bA, 0, none⟩ = some (.int .u64 Ex) := q1.cell 0
            have s1 : W9.cell? ⟨bA, 1, none⟩ = some (.slice a7 n7 c7) := q1.cell 1
            clear q0 q1
            go_simp
          try simp only [Act.put, List.setIfInBounds_toArray, List.set_cons_zero, List.set_cons_succ]
          refine wpAnyN_take (i := 1) (oi := { dst := some 153, op := Go.Op.load 25 (Go.Operand.tmp 3), type := 25, pos := "law.go:67", after := #[], guard := none }) (v := .agg #[.int .u64 Ex, .slice ax nx cx]) rfl (by decide) (by kernel_rfl) (by kernel_rfl) (by kernel_rfl) (fun _ _ _ h => h) (Or.inl ⟨by rfl, ?_⟩) hS0 ?_
          · intro W9 hS9
            obtain ⟨q0, q1⟩ := hS9
            have s0 : W9.cell? ⟨w.heap.size, 0, none⟩ = some (.int .u64 Ex) := q0.cell 0
            have s1 : W9.cell? ⟨w.heap.size, 1, none⟩ = some (.slice ax nx cx) := q0.cell 1
            clear q0 q1
            go_simp
          try simp only [Act.put, List.setIfInBounds_toArray, List.set_cons_zero, List.set_cons_succ]
          refine wpAnyX_one (i := 2) (o := { dst := some 154, op := Go.Op.call { callee := Go.Callee.value (Go.Operand.func 9), args := #[Go.Operand.tmp 153], argTypes := #[25] }, type := 25, pos := "law.go:67", after := #[{ on := 1, ground := Go.Ground.data }], guard := none }) (by kernel_rfl) rfl (fun K hK => ?_)
          refine step_call_g (by rfl) 9 _ _ rfl (fun _ _ => by kernel_rfl) #[.agg #[.int .u64 Ex, .slice ax nx cx]] (by simp [go_sem]) _ (HOx Wd (RowAt.below HI.out B.out)).out ?_
          rintro e y3 ⟨⟨ao, no, do_, rfl, -, hO⟩, hC⟩
          refine ⟨_, rfl, ?_⟩
          have hS1 : Rows8 y3 w.heap.size 25 #[.int .u64 Ex, .slice ax nx cx] ∧ Rows8 y3 bA 25 #[.int .u64 Ex, .slice a7 n7 c7] := ⟨hS0.1.below hC hS0.1.lt, hS0.2.below hC hS0.2.lt⟩
          have I1 : Hid (WordsAt y3 (.slice a7 n7 c7) U) := Lib.hid (RowAt.below I1.out hC)
          have IO := Lib.hid (show WordsAt y3 (.slice ao no do_) U from rowAt_own hO)
          clear hO
          have B := Lib.hid (B.out.trans (hC.mono B.out.size))
          clear hC
          refine hK.out _ _ (fun _ => hS1) ?_
          clear hK K
          try simp only [Act.put, List.setIfInBounds_toArray, List.set_cons_zero, List.set_cons_succ]
          refine wpAnyX_one (i := 3) (o := { dst := some 155, op := Go.Op.call { callee := Go.Callee.value (Go.Operand.func 13), args := #[Go.Operand.tmp 152, Go.Operand.tmp 154], argTypes := #[25, 25] }, type := 4, pos := "law.go:67", after := #[{ on := 0, ground := Go.Ground.data }, { on := 2, ground := Go.Ground.data }, { on := 2, ground := Go.Ground.chain }], guard := none }) (by kernel_rfl) rfl (fun K hK => ?_)
          refine step_call_g (by rfl) 13 _ _ rfl (fun _ _ => by kernel_rfl) #[.agg #[.int .u64 Ex, .slice a7 n7 c7], .agg #[.int .u64 Ex, .slice ao no do_]] (by simp [go_sem]) _ (HSA Ex U y3 _ _ _ _ _ _ I1.out IO.out).out ?_
          rintro e y4 ⟨rfl, hC⟩
          refine ⟨_, rfl, ?_⟩
          have hS2 : Rows8 y4 w.heap.size 25 #[.int .u64 Ex, .slice ax nx cx] ∧ Rows8 y4 bA 25 #[.int .u64 Ex, .slice a7 n7 c7] := ⟨hS1.1.below hC hS1.1.lt, hS1.2.below hC hS1.2.lt⟩
          have I1 : Hid (WordsAt y4 (.slice a7 n7 c7) U) := Lib.hid (RowAt.below I1.out hC)
          have B := Lib.hid (B.out.trans (hC.mono B.out.size))
          clear hC
          refine hK.out _ _ (fun _ => hS2) ?_
          clear hK K
          try simp only [Act.put, List.setIfInBounds_toArray, List.set_cons_zero, List.set_cons_succ]
          refine wpAnyN_take (i := 4) (oi := { dst := some 6, op := Go.Op.assign (Go.Operand.tmp 155), type := 4, pos := "law.go:67", after := #[{ on := 3, ground := Go.Ground.data }, { on := 3, ground := Go.Ground.chain }, { on := 0, ground := Go.Ground.phase }, { on := 1, ground := Go.Ground.phase }, { on := 2, ground := Go.Ground.phase }, { on := 3, ground := Go.Ground.phase }], guard := none }) (v := .bool true) rfl (by decide) (by kernel_rfl) (by kernel_rfl) (by kernel_rfl) (fun _ _ _ h => h) (Or.inl ⟨by rfl, ?_⟩) hS2 ?_
          · intro W9 hS9
            obtain ⟨q0, q1⟩ := hS9
            clear q0 q1
            go_simp
          try simp only [Act.put, List.setIfInBounds_toArray, List.set_cons_zero, List.set_cons_succ]
          refine wpAnyX_end (by kernel_rfl) ?_
          go_wp2_with fail
          go_ret
          exact ⟨rfl, B.out⟩
end Go.Proofs
namespace Go.Proofs.Ytdkpenfgeohddaa.pinsMay
open Go.ChangeShapes Go.WideShapes Go.ChangeAt Go.RowKit Go.Shelf

theorem own : ownKnob Try.prog.godebug = none := by kernel_rfl
theorem walk (g h : Pv) (al : Option Addr) (nl cl : Nat) (l : List Int) (w : World) (hg : PvAt w g) (hh : PvAt w h) (hn : nl = l.length) (hL : WordsK w (.slice al nl cl) l) :
    Calls Try.prog 3 #[.agg #[.int .u64 g.e, .slice g.a g.n g.c], .agg #[.int .u64 h.e, .slice h.a h.n h.c], .slice al nl cl] w fun e w' => e = .returned (.bool true) ∧ Below w.heap.size w w' := Try.mayP_any g.e h.e g.a g.n g.c g.s h.a h.n h.c h.s al nl cl l w hg.2.1 hh.2.1 hn hL hg.1 hg.2.2
theorem laidOut : laidOutB Try.prog = true := by kernel_rfl
set_option maxRecDepth 100000 in
theorem lifted (os : Os) (started : os.Started) (H : Type) (enc : TypeId × Value → H) :
    ReturnsInHanded {} Try.checked os 3 .any (Rows.pinsMaySpec.pre6 enc Try.prog Try.f3 Rows.pinsMayRow.domain false) (Rows.pinsMaySpec.post enc Try.prog Try.f3 false true false false) := by
  refine returnsInHanded_of_change (C := Try.checked) own started (by kernel_rfl) Try.func3
    (ChangeSpec.witness6 (enc := enc) (C := Try.checked) false ⟨#[], #[.agg #[.int .u64 0, .slice none 0 0], .agg #[.int .u64 0, .slice none 0 0], .slice none 0 0], []⟩ 8 (by kernel_rfl) (by kernel_rfl) (by kernel_rfl) (by kernel_rfl)) ?_
  intro W base args ds gs before hval0 hW hcnd _
  have hval : ∀ (j : Nat) t v, Try.f3.params[j]? = some t → args[j]? = some v → Value.okWide Try.prog W .any base t v := hval0
  have hW' := hW
  obtain ⟨p, q, hA0, hV, rfl, hfz, hnd⟩ := hW
  have hA : DataW.TrodAll enc Try.prog W 0 (fun _ => true) true Try.f3.params.toList args.toList ds p := hA0
  rw [Try.params3] at hA hval
  obtain ⟨v0, vs0, d0, ds0, p0, q0, hargs, rfl, rfl, h0, r0⟩ := trodAll_cons hA
  obtain ⟨v1, vs1, d1, ds1, p1, q1, rfl, rfl, rfl, h1, r1⟩ := trodAll_cons r0
  obtain ⟨v2, vs2, d2, ds2, p2, q2, rfl, rfl, rfl, h2, r2⟩ := trodAll_cons r1
  obtain ⟨rfl, rfl, rfl⟩ := trodAll_nil r2
  obtain rfl : args = #[v0, v1, v2] := by cases args; simp_all
  obtain ⟨rfl, rfl⟩ := trodVars_none hV
  have k0 := h0
  have lt0 : ∀ x ∈ p0, x.block < W.heap.size := by obtain ⟨m, hm⟩ := k0; exact DataW.trod_lt m _ _ _ hm
  obtain ⟨g0, rfl, w0⟩ := open_pins (hval 0 25 v0 rfl rfl) h0
  have k1 := h1
  have lt1 : ∀ x ∈ p1, x.block < W.heap.size := by obtain ⟨m, hm⟩ := k1; exact DataW.trod_lt m _ _ _ hm
  obtain ⟨g1, rfl, w1⟩ := open_pins (hval 1 25 v1 rfl rfl) h1
  obtain ⟨a2, len2, cap2, rfl⟩ := okWide_slice Try.underlying23 (hval 2 23 v2 rfl rfl)
  have k2 := h2
  have lt2 : ∀ x ∈ p2, x.block < W.heap.size := by obtain ⟨m, hm⟩ := k2; exact DataW.trod_lt m _ _ _ hm
  obtain ⟨z2, n2, w2⟩ : ∃ zs, len2 = zs.length ∧ WordsK W (.slice a2 len2 cap2) zs := by
    obtain ⟨fuel, hf⟩ := h2
    exact open_wordsK hf
  clear hA0 hval0
  refine (walk g0 g1 a2 len2 cap2 z2 W w0 w1 n2 w2).mono fun e W' ⟨he, bel⟩ => ?_
  subst he
  exact ⟨_, rfl, _, _, _, [], _, [], hW', trodAll_mk1 (shut_bool Try.underlying4 _), (trodAll_cons_mk (Below.trod laidOut (by kernel_rfl) (of_decide_eq_true (by kernel_rfl)) k0 bel lt0) (trodAll_cons_mk (Below.trod laidOut (by kernel_rfl) (of_decide_eq_true (by kernel_rfl)) k1 bel lt1) (trodAll_cons_mk (Below.trod laidOut (by kernel_rfl) (of_decide_eq_true (by kernel_rfl)) k2 bel lt2) trodAll_mk0))), rfl, bel.frame _, fun h => by cases h⟩

theorem over : Rows.pinsMayRow.holds Try.pinned (OpenSpec.ofChange Rows.pinsMaySpec) :=
  OpenClaim.holds_of_wide 3 Try.f3 rfl rfl rfl rfl rfl rfl rfl ⟨rfl, rfl, rfl, rfl, rfl⟩ rfl rfl rfl rfl rfl (by kernel_rfl) Try.func3 (by kernel_rfl)
    (of_decide_eq_true (by kernel_rfl)) (by unfold Func.isWrapper; first | (rw [if_pos (by decide +kernel)]; kernel_rfl) | (rw [if_neg (by decide +kernel)]; exact ⟨rfl, rfl⟩))
    (fun os started H enc _ => lifted os started H enc)

theorem proved : Rows.PinsMaySaid := over
end Go.Proofs.Ytdkpenfgeohddaa.pinsMay
