/- The law ArenaMay: for every two arenas, and row of entries, what may be, is the same, and is told of slabs is what the reference tells. -/
import Derived.Test.YtahcghppmhlebaaBr
namespace Go.Proofs
set_option maxRecDepth 100000
open Go.RowKit Go.Shelf
attribute [local go_sem] Oper.semAt_some
theorem ents_none {l : List Pr} {t : Int} (h : ∀ s ∈ l, s.1 ≠ t) : ents l t = [] := by
  apply List.eq_nil_of_length_eq_zero
  rw [ents_length]
  unfold cnt
  rw [List.countP_eq_zero]
  intro s hs
  rw [decide_eq_true_eq]
  exact h s hs
theorem Try.eqArr3 (a b c : Int) (W : World) : (Op.equalIn 10000 32 (.agg #[.int .i64 a, .int .i64 b, .int .i64 c]) (.agg #[.int .i64 a, .int .i64 b, .int .i64 c])).run Try.prog W = .ok true W := by
  have e1 : ∀ (x : Int), (Op.equalIn 9999 3 (.int .i64 x) (.int .i64 x)).run Try.prog W = .ok true W := fun x => by
    rw [run_equalIn_int W 9998 3 .i64 .i64 _ _ Try.underlying3]; simp
  have hs : (sizeOf 3).run Try.prog W = .ok 1 W := by
    have h : (Try.prog.info? 3).map (·.size) = some 1 := by kernel_rfl
    cases hq : Try.prog.info? 3 with
    | none => simp [hq] at h
    | some i => have : i.size = 1 := by simpa [hq] using h
                simp [sizeOf, typeInfo, hq, this]
  have ha : (isAgg 3).run Try.prog W = .ok false W := by
    unfold isAgg
    rw [Sem.run_bind, run_underlying Try.underlying3 W]
    rfl
  rw [Op.equalIn]
  simp only [Sem.run_bind, run_underlying Try.underlying32 W, Result.andThen_ok, hs]
  simp [Std.Legacy.Range.forIn_eq_forIn_range', Std.Legacy.Range.size, List.range', part, Sem.run_bind, ha, e1]
set_option maxHeartbeats 16000000 in
theorem Try.may_any (ax : Option Addr) (nx cx : Nat) (xl : List Pr) (ay : Option Addr) (ny cy : Nat) (yl : List Pr) (al : Option Addr) (nl cl : Nat) (ls : List Pr) (w : World) (hI : PAt w (.slice ax nx cx) xl) (hJ : PAt w (.slice ay ny cy) yl) (hl : PAt w (.slice al nl cl) ls) :
    Calls Try.prog 3 #[.agg #[.slice ax nx cx], .agg #[.slice ay ny cy], .slice al nl cl] w fun e w' => e = .returned (.bool true) ∧ Below w.heap.size w w' := by
  have HWk := fun W => Lib.hid (Try.wakes_any W)
  have HOx := fun (W : World) (h : PAt W (.slice ax nx cx) xl) => Lib.hid (Try.own_any ax nx cx xl W h)
  have HOy := fun (W : World) (h : PAt W (.slice ay ny cy) yl) => Lib.hid (Try.own_any ay ny cy yl W h)
  obtain ⟨L, hL⟩ : ∃ L, L = xl.take 130 := ⟨_, rfl⟩
  obtain ⟨M, hM⟩ : ∃ M, M = yl.take 130 := ⟨_, rfl⟩
  rw [← hL] at HOx
  rw [← hM] at HOy
  clear hL hM
  have hB0 : Below w.heap.size w ((w.alloc (.cells #[.slice ax nx cx] 24)).alloc (.cells #[.slice ay ny cy] 24)) := (Rows8.newB).alloc (by simp) _
  have r0 := (Rows8.new w 24 #[.slice ax nx cx]).alloc (.cells #[.slice ay ny cy] 24)
  have r1 := Rows8.new (w.alloc (.cells #[.slice ax nx cx] 24)) 24 #[.slice ay ny cy]
  rw [World.size_alloc] at r1
  have HI := Lib.hid hI
  have HJ := Lib.hid hJ
  have HL := Lib.hid hl
  have RX := Lib.hid r0
  have RY := Lib.hid r1
  have B0 := Lib.hid hB0
  clear hI hJ hl r0 r1 hB0
  go_enter Try.func3, Try.ntmps3
  go_wp2_with fail
  generalize ((w.alloc (.cells #[.slice ax nx cx] 24)).alloc (.cells #[.slice ay ny cy] 24)) = u0 at *
  refine (HWk _).out.mono ?_
  rintro e u2 ⟨rfl, hB⟩
  have RX := Lib.hid (RX.out.below hB RX.out.lt)
  have RY := Lib.hid (RY.out.below hB RY.out.lt)
  have B0 := Lib.hid (B0.out.trans (hB.mono B0.out.size))
  clear hB HWk
  go_upto_region 3 with fail
  go_cut [7, 8] from 28 (fun s7 s8 wc => ∃ (bA bB : Nat) (a7 : Option Addr) (n7 c7 : Nat) (a8 : Option Addr) (n8 c8 : Nat), s7 = .pointer (some ⟨bA, 0, none⟩) ∧ s8 = .pointer (some ⟨bB, 0, none⟩) ∧ n7 ≤ 130 ∧ n8 ≤ 130 ∧ Hid (Rows8 wc w.heap.size 24 #[.slice ax nx cx]) ∧ Hid (Rows8 wc bA 24 #[.slice a7 n7 c7]) ∧ Hid (Rows8 wc bB 24 #[.slice a8 n8 c8]) ∧ Hid (PAt wc (.slice a7 n7 c7) L) ∧ Hid (PAt wc (.slice a8 n8 c8) M) ∧ Hid (Below w.heap.size w wc))
  case first =>
    as_aux_lemma =>
      refine wp_region_X (fun W' => Rows8 W' w.heap.size 24 #[.slice ax nx cx] ∧ Rows8 W' (w.heap.size + 1) 24 #[.slice ay ny cy]) 8 (by kernel_rfl) ?_
      have hS0 : Rows8 u2.drew w.heap.size 24 #[.slice ax nx cx] ∧ Rows8 u2.drew (w.heap.size + 1) 24 #[.slice ay ny cy] := ⟨RX.out.drewA, RY.out.drewA⟩
      have hB0 := B0.out.drew
      clear RX RY B0
      generalize u2.drew = Wd at *
      refine Try.may_r3 ax nx cx xl ay ny cy yl al nl cl L M w Wd _ HI HJ HOx HOy hS0 hB0 ?_ (Lib.hid ?_)
      · intro c d v a w h; cases d <;> exact h
      intro bA bB a7 n7 c7 a8 n8 c8 v hA hB hX hRA hRB hPA hPB hBv
      have RX9 := Lib.hid hX
      have RA9 := Lib.hid hRA
      have RB9 := Lib.hid hRB
      have PA9 := Lib.hid hPA
      have PB9 := Lib.hid hPB
      have B9 := Lib.hid hBv
      clear hS0 hB0 hX hRA hRB hPA hPB hBv
      go_wp2_with fail
      go_meet
      exact ⟨_, _, _, _, _, _, _, _, rfl, rfl, hA, hB, RX9, RA9, RB9, PA9, PB9, B9⟩
  case rest =>
    obtain ⟨bA, bB, a7, n7, c7, a8, n8, c8, rfl, rfl, h7, h8, RX, RA, RB, PA, PB, B0⟩ := hcut
    have h7b : n7 ≤ 10000 := by omega
    have h8b : n8 ≤ 10000 := by omega
    obtain ⟨q, hq⟩ : ∃ q, q = rightA L := ⟨_, rfl⟩
    have HRt := fun (W : World) (h : PAt W (.slice a7 n7 c7) L) => Lib.hid (Try.refRight_any a7 n7 c7 L W h h7b)
    have HCk := fun (W : World) (h : PAt W (.slice a7 n7 c7) L) => Lib.hid (Try.Check_any a7 n7 c7 L W h)
    have HTg := fun (W : World) (e : Pr) (h : PAt W (.slice a7 n7 c7) L) => Lib.hid (Try.Tag_any a7 n7 c7 L e W h)
    have HMe := fun (W : World) (e : Pr) (h : PAt W (.slice a7 n7 c7) L) => Lib.hid (Try.refMeant_any a7 n7 c7 L e W h)
    obtain ⟨d, hd⟩ : ∃ d, d = decide (L = M) := ⟨_, rfl⟩
    have HSm := fun (W : World) (h1 : PAt W (.slice a7 n7 c7) L) (h2 : PAt W (.slice a8 n8 c8) M) => Lib.hid (Try.Same_any _ _ _ _ _ _ L M W h1 h2 h7b h8b)
    have HSr := fun (W : World) (h1 : PAt W (.slice a7 n7 c7) L) (h2 : PAt W (.slice a8 n8 c8) M) => Lib.hid (Try.refSame_any _ _ _ _ _ _ L M W h1 h2 h7b h8b)
    rw [← hd] at HSm HSr
    clear hd
    have HSO : ∀ (W : World) (a : Option Addr) (n c : Nat), PAt W (.slice a7 n7 c7) L → PAt W (.slice a n c) L → n ≤ 10000 → Hid (Calls Try.prog 9 #[.agg #[.slice a7 n7 c7], .agg #[.slice a n c]] W fun e w' => e = .returned (.bool true) ∧ Below W.heap.size W w') := fun W a n c h1 h2 h => by
      have hs := Try.Same_any _ _ _ _ _ _ L L W h1 h2 h7b h
      rw [decide_eq_true (rfl : L = L)] at hs
      exact Lib.hid hs
    have HSP : ∀ (W : World) (a : Option Addr) (n c : Nat), PAt W (.slice a7 n7 c7) L → PAt W (.slice a n c) L → n ≤ 10000 → Hid (Calls Try.prog 10 #[.agg #[.slice a7 n7 c7], .agg #[.slice a n c]] W fun e w' => e = .returned (.bool true) ∧ Below W.heap.size W w') := fun W a n c h1 h2 h => by
      have hs := Try.refSame_any _ _ _ _ _ _ L L W h1 h2 h7b h
      rw [decide_eq_true (rfl : L = L)] at hs
      exact Lib.hid hs
    obtain ⟨EL, hEL⟩ : ∃ EL : Int → List Pr, EL = fun t => if rightA L then ents L t else [] := ⟨_, rfl⟩
    have HEn : ∀ (W : World) (t : Int), PAt W (.slice a7 n7 c7) L → Hid (Calls Try.prog 13 #[.agg #[.slice a7 n7 c7], .int .i64 t] W (EntQ (EL t) W)) := fun W t h => Lib.hid (by have h2 := Try.Entries_any a7 n7 c7 L t W h; rw [hEL]; exact h2)
    have HRe : Hid (q = true → ∀ (W : World) (t : Int), PAt W (.slice a7 n7 c7) L → Hid (Calls Try.prog 11 #[.agg #[.slice a7 n7 c7], .int .i64 t] W (EntQ (EL t) W))) := Lib.hid (fun hqt W t h => Lib.hid (by
      have h2 := Try.refEntries_any a7 n7 c7 L t W h h7b
      have hEt : EL t = ents L t := by rw [hEL]; exact if_pos (by rw [← hq]; exact hqt)
      rw [hEt]
      exact h2))
    have hLL : L.length ≤ 130 := by have := (pAt_len PA.out).1; omega
    have HEl : Hid (∀ t, (EL t).length ≤ 130) := Lib.hid (fun t => by
      rw [hEL]
      dsimp only
      split
      · rw [ents_length]; exact Nat.le_trans (cnt_le L t) hLL
      · exact Nat.zero_le _)
    have HEf : Hid (q = false → ∀ t, EL t = []) := Lib.hid (fun hqf t => by rw [hEL]; exact if_neg (by rw [← hq, hqf]; decide))
    have hc : ∀ t, (if rightA L then cnt L t else 0) = (EL t).length := fun t => by
      rw [hEL]
      dsimp only
      split
      · rw [ents_length]
      · rfl
    have HCt := fun (W : World) (h : PAt W (.slice a7 n7 c7) L) => Lib.hid (Try.Counts_any a7 n7 c7 L W h)
    rw [hc 0, hc 1, hc 2] at HCt
    have HEm : Hid (EL (-1) = []) := Lib.hid (by
      rw [hEL]
      dsimp only
      split
      · rename_i hr
        exact ents_none (fun s hs => by have h2 := okS_iff.1 ((rightA_iff.1 hr).2 s hs); omega)
      · rfl)
    have HE3 : Hid (EL 3 = []) := Lib.hid (by
      rw [hEL]
      dsimp only
      split
      · rename_i hr
        exact ents_none (fun s hs => by have h2 := okS_iff.1 ((rightA_iff.1 hr).2 s hs); omega)
      · rfl)
    rw [← hq] at HRt HCk HTg
    have dd : (d != d) = false := by simp
    clear hc hLL hEL hq
    obtain ⟨N0, hN0⟩ : ∃ N, N = (EL 0).length := ⟨_, rfl⟩
    obtain ⟨N1, hN1⟩ : ∃ N, N = (EL 1).length := ⟨_, rfl⟩
    obtain ⟨N2, hN2⟩ : ∃ N, N = (EL 2).length := ⟨_, rfl⟩
    rw [← hN0, ← hN1, ← hN2] at HCt
    have l0 : N0 ≤ 130 := by rw [hN0]; exact HEl.out 0
    have l1 : N1 ≤ 130 := by rw [hN1]; exact HEl.out 1
    have l2 : N2 ≤ 130 := by rw [hN2]; exact HEl.out 2
    have HN0 := Lib.hid hN0
    have HN1 := Lib.hid hN1
    have HN2 := Lib.hid hN2
    clear hN0 hN1 hN2
    cases q with
    | true =>
      as_aux_lemma =>
        have HRf := HRe.out rfl
        clear HRe HEf
        have cb0 : wc.cell? ⟨bA, 0, none⟩ = some (.slice a7 n7 c7) := RA.out.cell 0
        have lb0 := RA.out.lt
        have HCL := HRt wc PA.out
        go_wp2_with fail
        refine HCL.out.mono ?_
        rintro e u4 ⟨rfl, hB⟩
        have RX := Lib.hid (RX.out.below hB RX.out.lt)
        have RA := Lib.hid (RA.out.below hB RA.out.lt)
        have RB := Lib.hid (RB.out.below hB RB.out.lt)
        have PA := Lib.hid (PAt.below PA.out hB)
        have PB := Lib.hid (PAt.below PB.out hB)
        have B0 := Lib.hid (B0.out.trans (hB.mono B0.out.size))
        clear hB HCL
        clear cb0 lb0
        have cb0 : u4.cell? ⟨bA, 0, none⟩ = some (.slice a7 n7 c7) := RA.out.cell 0
        have lb0 := RA.out.lt
        have HCL := HCk u4 PA.out
        go_wp2_with fail
        refine HCL.out.mono ?_
        rintro e u5 ⟨rfl, hB⟩
        have RX := Lib.hid (RX.out.below hB RX.out.lt)
        have RA := Lib.hid (RA.out.below hB RA.out.lt)
        have RB := Lib.hid (RB.out.below hB RB.out.lt)
        have PA := Lib.hid (PAt.below PA.out hB)
        have PB := Lib.hid (PAt.below PB.out hB)
        have B0 := Lib.hid (B0.out.trans (hB.mono B0.out.size))
        clear hB HCL
        clear cb0 lb0
        go_upto_region 6 with fail
        refine wp_region_X (fun W' => Rows8 W' w.heap.size 24 #[.slice ax nx cx] ∧ Rows8 W' bA 24 #[.slice a7 n7 c7] ∧ Rows8 W' bB 24 #[.slice a8 n8 c8]) 28 (by kernel_rfl) ?_
        have hS0 : Rows8 u5.drew w.heap.size 24 #[.slice ax nx cx] ∧ Rows8 u5.drew bA 24 #[.slice a7 n7 c7] ∧ Rows8 u5.drew bB 24 #[.slice a8 n8 c8] := ⟨RX.out.drewA, RA.out.drewA, RB.out.drewA⟩
        have PA : Hid (PAt u5.drew (.slice a7 n7 c7) L) := PA
        have PB : Hid (PAt u5.drew (.slice a8 n8 c8) M) := PB
        have B0 := Lib.hid B0.out.drew
        clear RX RA RB
        generalize u5.drew = Wd at *
        refine wpAnyN_take (i := 0) (oi := { dst := some 36, op := Go.Op.move (Go.Operand.tmp 10), type := 29, pos := "law.go:45", after := #[], guard := none }) (v := .int .i64 0) rfl (by decide) (by kernel_rfl) (by kernel_rfl) (by kernel_rfl) (fun _ _ _ h => h) (Or.inl ⟨by rfl, ?_⟩) hS0 ?_
        · intro W9 hS9
          obtain ⟨q0, q1, q2⟩ := hS9
          clear q0 q1 q2
          go_simp
        try simp only [Act.put, List.setIfInBounds_toArray, List.set_cons_zero, List.set_cons_succ]
        refine wpAnyN_take (i := 1) (oi := { dst := some 37, op := Go.Op.binOp Go.BinOp.eql 29 (Go.Operand.tmp 36) (Go.Operand.const (Go.Value.int Go.IntKind.i64 0)) 29, type := 4, pos := "law.go:45", after := #[{ on := 0, ground := Go.Ground.data }], guard := none }) (v := .bool true) rfl (by decide) (by kernel_rfl) (by kernel_rfl) (by kernel_rfl) (fun _ _ _ h => h) (Or.inl ⟨by rfl, ?_⟩) hS0 ?_
        · intro W9 hS9
          obtain ⟨q0, q1, q2⟩ := hS9
          clear q0 q1 q2
          go_simp
        try simp only [Act.put, List.setIfInBounds_toArray, List.set_cons_zero, List.set_cons_succ]
        refine wpAnyN_take (i := 2) (oi := { dst := some 38, op := Go.Op.move (Go.Operand.tmp 9), type := 4, pos := "law.go:45", after := #[], guard := none }) (v := .bool true) rfl (by decide) (by kernel_rfl) (by kernel_rfl) (by kernel_rfl) (fun _ _ _ h => h) (Or.inl ⟨by rfl, ?_⟩) hS0 ?_
        · intro W9 hS9
          obtain ⟨q0, q1, q2⟩ := hS9
          clear q0 q1 q2
          go_simp
        try simp only [Act.put, List.setIfInBounds_toArray, List.set_cons_zero, List.set_cons_succ]
        refine wpAnyN_take (i := 3) (oi := { dst := some 39, op := Go.Op.binOp Go.BinOp.neq 4 (Go.Operand.tmp 37) (Go.Operand.tmp 38) 4, type := 4, pos := "law.go:45", after := #[{ on := 1, ground := Go.Ground.data }, { on := 2, ground := Go.Ground.data }], guard := none }) (v := .bool false) rfl (by decide) (by kernel_rfl) (by kernel_rfl) (by kernel_rfl) (fun _ _ _ h => h) (Or.inl ⟨by rfl, ?_⟩) hS0 ?_
        · intro W9 hS9
          obtain ⟨q0, q1, q2⟩ := hS9
          clear q0 q1 q2
          go_simp
        try simp only [Act.put, List.setIfInBounds_toArray, List.set_cons_zero, List.set_cons_succ]
        refine wpAnyN_take (i := 4) (oi := { dst := some 40, op := Go.Op.move (Go.Operand.tmp 39), type := 4, pos := "law.go:45", after := #[{ on := 3, ground := Go.Ground.data }], guard := none }) (v := .bool false) rfl (by decide) (by kernel_rfl) (by kernel_rfl) (by kernel_rfl) (fun _ _ _ h => h) (Or.inl ⟨by rfl, ?_⟩) hS0 ?_
        · intro W9 hS9
          obtain ⟨q0, q1, q2⟩ := hS9
          clear q0 q1 q2
          go_simp
        try simp only [Act.put, List.setIfInBounds_toArray, List.set_cons_zero, List.set_cons_succ]
        refine wpAnyN_take (i := 5) (oi := { dst := some 41, op := Go.Op.move (Go.Operand.tmp 10), type := 29, pos := "law.go:45", after := #[{ on := 4, ground := Go.Ground.guard }], guard := some (4, false) }) (v := .int .i64 0) rfl (by decide) (by kernel_rfl) (by kernel_rfl) (by kernel_rfl) (fun _ _ _ h => h) (Or.inl ⟨by rfl, ?_⟩) hS0 ?_
        · intro W9 hS9
          obtain ⟨q0, q1, q2⟩ := hS9
          clear q0 q1 q2
          go_simp
        try simp only [Act.put, List.setIfInBounds_toArray, List.set_cons_zero, List.set_cons_succ]
        refine wpAnyN_take (i := 6) (oi := { dst := some 42, op := Go.Op.binOp Go.BinOp.neq 29 (Go.Operand.tmp 41) (Go.Operand.const (Go.Value.int Go.IntKind.i64 0)) 29, type := 4, pos := "law.go:45", after := #[{ on := 5, ground := Go.Ground.data }, { on := 4, ground := Go.Ground.guard }], guard := some (4, false) }) (v := .bool false) rfl (by decide) (by kernel_rfl) (by kernel_rfl) (by kernel_rfl) (fun _ _ _ h => h) (Or.inl ⟨by rfl, ?_⟩) hS0 ?_
        · intro W9 hS9
          obtain ⟨q0, q1, q2⟩ := hS9
          clear q0 q1 q2
          go_simp
        try simp only [Act.put, List.setIfInBounds_toArray, List.set_cons_zero, List.set_cons_succ]
        refine wpAnyN_take (i := 7) (oi := { dst := some 43, op := Go.Op.move (Go.Operand.tmp 42), type := 4, pos := "law.go:45", after := #[{ on := 6, ground := Go.Ground.data }, { on := 4, ground := Go.Ground.chain }, { on := 4, ground := Go.Ground.guard }], guard := some (4, false) }) (v := .bool false) rfl (by decide) (by kernel_rfl) (by kernel_rfl) (by kernel_rfl) (fun _ _ _ h => h) (Or.inl ⟨by rfl, ?_⟩) hS0 ?_
        · intro W9 hS9
          obtain ⟨q0, q1, q2⟩ := hS9
          clear q0 q1 q2
          go_simp
        try simp only [Act.put, List.setIfInBounds_toArray, List.set_cons_zero, List.set_cons_succ]
        refine wpAnyN_take (i := 8) (oi := { dst := some 44, op := Go.Op.move (Go.Operand.tmp 10), type := 29, pos := "law.go:45", after := #[{ on := 7, ground := Go.Ground.guard }], guard := some (7, true) }) (v := undef) rfl (by decide) (by kernel_rfl) (by kernel_rfl) (by kernel_rfl) (fun _ _ _ h => h) (Or.inr ⟨by rfl, rfl⟩) hS0 ?_
        try simp only [Act.put, List.setIfInBounds_toArray, List.set_cons_zero, List.set_cons_succ]
        refine wpAnyN_take (i := 9) (oi := { dst := some 45, op := Go.Op.binOp Go.BinOp.neq 29 (Go.Operand.tmp 44) (Go.Operand.const (Go.Value.int Go.IntKind.i64 210)) 29, type := 4, pos := "law.go:45", after := #[{ on := 8, ground := Go.Ground.data }, { on := 7, ground := Go.Ground.guard }], guard := some (7, true) }) (v := undef) rfl (by decide) (by kernel_rfl) (by kernel_rfl) (by kernel_rfl) (fun _ _ _ h => h) (Or.inr ⟨by rfl, rfl⟩) hS0 ?_
        try simp only [Act.put, List.setIfInBounds_toArray, List.set_cons_zero, List.set_cons_succ]
        refine wpAnyN_take (i := 10) (oi := { dst := some 46, op := Go.Op.pick (Go.Operand.tmp 43) (Go.Operand.tmp 45) (Go.Operand.const (Go.Value.bool false)), type := 4, pos := "law.go:45", after := #[{ on := 7, ground := Go.Ground.data }, { on := 9, ground := Go.Ground.data }, { on := 4, ground := Go.Ground.guard }], guard := some (4, false) }) (v := .bool false) rfl (by decide) (by kernel_rfl) (by kernel_rfl) (by kernel_rfl) (fun _ _ _ h => h) (Or.inl ⟨by rfl, ?_⟩) hS0 ?_
        · intro W9 hS9
          obtain ⟨q0, q1, q2⟩ := hS9
          clear q0 q1 q2
          go_simp
        try simp only [Act.put, List.setIfInBounds_toArray, List.set_cons_zero, List.set_cons_succ]
        refine wpAnyN_take (i := 11) (oi := { dst := some 47, op := Go.Op.pick (Go.Operand.tmp 40) (Go.Operand.const (Go.Value.bool true)) (Go.Operand.tmp 46), type := 4, pos := "law.go:45", after := #[{ on := 4, ground := Go.Ground.data }, { on := 10, ground := Go.Ground.data }], guard := none }) (v := .bool false) rfl (by decide) (by kernel_rfl) (by kernel_rfl) (by kernel_rfl) (fun _ _ _ h => h) (Or.inl ⟨by rfl, ?_⟩) hS0 ?_
        · intro W9 hS9
          obtain ⟨q0, q1, q2⟩ := hS9
          clear q0 q1 q2
          go_simp
        try simp only [Act.put, List.setIfInBounds_toArray, List.set_cons_zero, List.set_cons_succ]
        refine wpAnyN_take (i := 12) (oi := { dst := some 48, op := Go.Op.move (Go.Operand.tmp 47), type := 4, pos := "law.go:45", after := #[{ on := 11, ground := Go.Ground.data }, { on := 7, ground := Go.Ground.chain }], guard := none }) (v := .bool false) rfl (by decide) (by kernel_rfl) (by kernel_rfl) (by kernel_rfl) (fun _ _ _ h => h) (Or.inl ⟨by rfl, ?_⟩) hS0 ?_
        · intro W9 hS9
          obtain ⟨q0, q1, q2⟩ := hS9
          clear q0 q1 q2
          go_simp
        try simp only [Act.put, List.setIfInBounds_toArray, List.set_cons_zero, List.set_cons_succ]
        refine wpAnyN_take (i := 13) (oi := { dst := some 49, op := Go.Op.load 24 (Go.Operand.tmp 7), type := 24, pos := "law.go:45", after := #[{ on := 12, ground := Go.Ground.guard }], guard := some (12, false) }) (v := .agg #[.slice a7 n7 c7]) rfl (by decide) (by kernel_rfl) (by kernel_rfl) (by kernel_rfl) (fun _ _ _ h => h) (Or.inl ⟨by rfl, ?_⟩) hS0 ?_
        · intro W9 hS9
          obtain ⟨q0, q1, q2⟩ := hS9
          have s0 : W9.cell? ⟨w.heap.size, 0, none⟩ = some (.slice ax nx cx) := q0.cell 0
          have s1 : W9.cell? ⟨bA, 0, none⟩ = some (.slice a7 n7 c7) := q1.cell 0
          have s2 : W9.cell? ⟨bB, 0, none⟩ = some (.slice a8 n8 c8) := q2.cell 0
          clear q0 q1 q2
          go_simp
        try simp only [Act.put, List.setIfInBounds_toArray, List.set_cons_zero, List.set_cons_succ]
        refine wpAnyN_take (i := 14) (oi := { dst := some 50, op := Go.Op.load 24 (Go.Operand.tmp 8), type := 24, pos := "law.go:45", after := #[{ on := 12, ground := Go.Ground.guard }], guard := some (12, false) }) (v := .agg #[.slice a8 n8 c8]) rfl (by decide) (by kernel_rfl) (by kernel_rfl) (by kernel_rfl) (fun _ _ _ h => h) (Or.inl ⟨by rfl, ?_⟩) hS0 ?_
        · intro W9 hS9
          obtain ⟨q0, q1, q2⟩ := hS9
          have s0 : W9.cell? ⟨w.heap.size, 0, none⟩ = some (.slice ax nx cx) := q0.cell 0
          have s1 : W9.cell? ⟨bA, 0, none⟩ = some (.slice a7 n7 c7) := q1.cell 0
          have s2 : W9.cell? ⟨bB, 0, none⟩ = some (.slice a8 n8 c8) := q2.cell 0
          clear q0 q1 q2
          go_simp
        try simp only [Act.put, List.setIfInBounds_toArray, List.set_cons_zero, List.set_cons_succ]
        refine wpAnyN_take (i := 16) (oi := { dst := some 52, op := Go.Op.load 24 (Go.Operand.tmp 7), type := 24, pos := "law.go:45", after := #[{ on := 12, ground := Go.Ground.guard }], guard := some (12, false) }) (v := .agg #[.slice a7 n7 c7]) rfl (by decide) (by kernel_rfl) (by kernel_rfl) (by kernel_rfl) (fun _ _ _ h => h) (Or.inl ⟨by rfl, ?_⟩) hS0 ?_
        · intro W9 hS9
          obtain ⟨q0, q1, q2⟩ := hS9
          have s0 : W9.cell? ⟨w.heap.size, 0, none⟩ = some (.slice ax nx cx) := q0.cell 0
          have s1 : W9.cell? ⟨bA, 0, none⟩ = some (.slice a7 n7 c7) := q1.cell 0
          have s2 : W9.cell? ⟨bB, 0, none⟩ = some (.slice a8 n8 c8) := q2.cell 0
          clear q0 q1 q2
          go_simp
        try simp only [Act.put, List.setIfInBounds_toArray, List.set_cons_zero, List.set_cons_succ]
        refine wpAnyN_take (i := 17) (oi := { dst := some 53, op := Go.Op.load 24 (Go.Operand.tmp 8), type := 24, pos := "law.go:45", after := #[{ on := 12, ground := Go.Ground.guard }], guard := some (12, false) }) (v := .agg #[.slice a8 n8 c8]) rfl (by decide) (by kernel_rfl) (by kernel_rfl) (by kernel_rfl) (fun _ _ _ h => h) (Or.inl ⟨by rfl, ?_⟩) hS0 ?_
        · intro W9 hS9
          obtain ⟨q0, q1, q2⟩ := hS9
          have s0 : W9.cell? ⟨w.heap.size, 0, none⟩ = some (.slice ax nx cx) := q0.cell 0
          have s1 : W9.cell? ⟨bA, 0, none⟩ = some (.slice a7 n7 c7) := q1.cell 0
          have s2 : W9.cell? ⟨bB, 0, none⟩ = some (.slice a8 n8 c8) := q2.cell 0
          clear q0 q1 q2
          go_simp
        try simp only [Act.put, List.setIfInBounds_toArray, List.set_cons_zero, List.set_cons_succ]
        refine wpAnyX_one (i := 15) (o := { dst := some 51, op := Go.Op.call { callee := Go.Callee.value (Go.Operand.func 9), args := #[Go.Operand.tmp 49, Go.Operand.tmp 50], argTypes := #[24, 24] }, type := 4, pos := "law.go:45", after := #[{ on := 13, ground := Go.Ground.data }, { on := 14, ground := Go.Ground.data }, { on := 12, ground := Go.Ground.chain }, { on := 12, ground := Go.Ground.guard }], guard := some (12, false) }) (by kernel_rfl) rfl (fun K hK => ?_)
        refine step_call_g (by rfl) 9 _ _ rfl (fun _ _ => by kernel_rfl) #[.agg #[.slice a7 n7 c7], .agg #[.slice a8 n8 c8]] (by simp [go_sem]) _ (HSm Wd PA.out PB.out).out ?_
        rintro e W1 ⟨rfl, hC⟩
        refine ⟨_, rfl, ?_⟩
        have hS1 : Rows8 W1 w.heap.size 24 #[.slice ax nx cx] ∧ Rows8 W1 bA 24 #[.slice a7 n7 c7] ∧ Rows8 W1 bB 24 #[.slice a8 n8 c8] := ⟨hS0.1.below hC hS0.1.lt, hS0.2.1.below hC hS0.2.1.lt, hS0.2.2.below hC hS0.2.2.lt⟩
        have PA := Lib.hid (PAt.below PA.out hC)
        have PB := Lib.hid (PAt.below PB.out hC)
        have B0 := Lib.hid (B0.out.trans (hC.mono B0.out.size))
        clear hC
        refine hK.out _ _ (fun _ => hS1) ?_
        clear hK K
        try simp only [Act.put, List.setIfInBounds_toArray, List.set_cons_zero, List.set_cons_succ]
        refine wpAnyX_one (i := 18) (o := { dst := some 54, op := Go.Op.call { callee := Go.Callee.value (Go.Operand.func 10), args := #[Go.Operand.tmp 52, Go.Operand.tmp 53], argTypes := #[24, 24] }, type := 4, pos := "law.go:45", after := #[{ on := 16, ground := Go.Ground.data }, { on := 17, ground := Go.Ground.data }, { on := 15, ground := Go.Ground.chain }, { on := 12, ground := Go.Ground.guard }], guard := some (12, false) }) (by kernel_rfl) rfl (fun K hK => ?_)
        refine step_call_g (by rfl) 10 _ _ rfl (fun _ _ => by kernel_rfl) #[.agg #[.slice a7 n7 c7], .agg #[.slice a8 n8 c8]] (by simp [go_sem]) _ (HSr W1 PA.out PB.out).out ?_
        rintro e W2 ⟨rfl, hC⟩
        refine ⟨_, rfl, ?_⟩
        have hS2 : Rows8 W2 w.heap.size 24 #[.slice ax nx cx] ∧ Rows8 W2 bA 24 #[.slice a7 n7 c7] ∧ Rows8 W2 bB 24 #[.slice a8 n8 c8] := ⟨hS1.1.below hC hS1.1.lt, hS1.2.1.below hC hS1.2.1.lt, hS1.2.2.below hC hS1.2.2.lt⟩
        have PA := Lib.hid (PAt.below PA.out hC)
        have PB := Lib.hid (PAt.below PB.out hC)
        have B0 := Lib.hid (B0.out.trans (hC.mono B0.out.size))
        clear hC
        refine hK.out _ _ (fun _ => hS2) ?_
        clear hK K
        try simp only [Act.put, List.setIfInBounds_toArray, List.set_cons_zero, List.set_cons_succ]
        refine wpAnyN_take (i := 19) (oi := { dst := some 55, op := Go.Op.binOp Go.BinOp.neq 4 (Go.Operand.tmp 51) (Go.Operand.tmp 54) 4, type := 4, pos := "law.go:45", after := #[{ on := 15, ground := Go.Ground.data }, { on := 18, ground := Go.Ground.data }, { on := 12, ground := Go.Ground.guard }], guard := some (12, false) }) (v := .bool false) rfl (by decide) (by kernel_rfl) (by kernel_rfl) (by kernel_rfl) (fun _ _ _ h => h) (Or.inl ⟨by rfl, ?_⟩) hS2 ?_
        · intro W9 hS9
          obtain ⟨q0, q1, q2⟩ := hS9
          clear q0 q1 q2
          go_simp
        try simp only [Act.put, List.setIfInBounds_toArray, List.set_cons_zero, List.set_cons_succ]
        refine wpAnyN_take (i := 20) (oi := { dst := some 56, op := Go.Op.pick (Go.Operand.tmp 48) (Go.Operand.const (Go.Value.bool true)) (Go.Operand.tmp 55), type := 4, pos := "law.go:45", after := #[{ on := 12, ground := Go.Ground.data }, { on := 19, ground := Go.Ground.data }], guard := none }) (v := .bool false) rfl (by decide) (by kernel_rfl) (by kernel_rfl) (by kernel_rfl) (fun _ _ _ h => h) (Or.inl ⟨by rfl, ?_⟩) hS2 ?_
        · intro W9 hS9
          obtain ⟨q0, q1, q2⟩ := hS9
          clear q0 q1 q2
          go_simp
        try simp only [Act.put, List.setIfInBounds_toArray, List.set_cons_zero, List.set_cons_succ]
        refine wpAnyN_take (i := 21) (oi := { dst := some 57, op := Go.Op.move (Go.Operand.tmp 56), type := 4, pos := "law.go:45", after := #[{ on := 20, ground := Go.Ground.data }, { on := 18, ground := Go.Ground.chain }], guard := none }) (v := .bool false) rfl (by decide) (by kernel_rfl) (by kernel_rfl) (by kernel_rfl) (fun _ _ _ h => h) (Or.inl ⟨by rfl, ?_⟩) hS2 ?_
        · intro W9 hS9
          obtain ⟨q0, q1, q2⟩ := hS9
          clear q0 q1 q2
          go_simp
        try simp only [Act.put, List.setIfInBounds_toArray, List.set_cons_zero, List.set_cons_succ]
        refine wpAnyN_take (i := 22) (oi := { dst := some 58, op := Go.Op.load 24 (Go.Operand.tmp 7), type := 24, pos := "law.go:45", after := #[{ on := 21, ground := Go.Ground.guard }], guard := some (21, false) }) (v := .agg #[.slice a7 n7 c7]) rfl (by decide) (by kernel_rfl) (by kernel_rfl) (by kernel_rfl) (fun _ _ _ h => h) (Or.inl ⟨by rfl, ?_⟩) hS2 ?_
        · intro W9 hS9
          obtain ⟨q0, q1, q2⟩ := hS9
          have s0 : W9.cell? ⟨w.heap.size, 0, none⟩ = some (.slice ax nx cx) := q0.cell 0
          have s1 : W9.cell? ⟨bA, 0, none⟩ = some (.slice a7 n7 c7) := q1.cell 0
          have s2 : W9.cell? ⟨bB, 0, none⟩ = some (.slice a8 n8 c8) := q2.cell 0
          clear q0 q1 q2
          go_simp
        try simp only [Act.put, List.setIfInBounds_toArray, List.set_cons_zero, List.set_cons_succ]
        refine wpAnyN_take (i := 23) (oi := { dst := some 59, op := Go.Op.load 24 (Go.Operand.tmp 3), type := 24, pos := "law.go:45", after := #[{ on := 21, ground := Go.Ground.guard }], guard := some (21, false) }) (v := .agg #[.slice ax nx cx]) rfl (by decide) (by kernel_rfl) (by kernel_rfl) (by kernel_rfl) (fun _ _ _ h => h) (Or.inl ⟨by rfl, ?_⟩) hS2 ?_
        · intro W9 hS9
          obtain ⟨q0, q1, q2⟩ := hS9
          have s0 : W9.cell? ⟨w.heap.size, 0, none⟩ = some (.slice ax nx cx) := q0.cell 0
          have s1 : W9.cell? ⟨bA, 0, none⟩ = some (.slice a7 n7 c7) := q1.cell 0
          have s2 : W9.cell? ⟨bB, 0, none⟩ = some (.slice a8 n8 c8) := q2.cell 0
          clear q0 q1 q2
          go_simp
        try simp only [Act.put, List.setIfInBounds_toArray, List.set_cons_zero, List.set_cons_succ]
        refine wpAnyX_one (i := 24) (o := { dst := some 60, op := Go.Op.call { callee := Go.Callee.value (Go.Operand.func 6), args := #[Go.Operand.tmp 59], argTypes := #[24] }, type := 24, pos := "law.go:45", after := #[{ on := 23, ground := Go.Ground.data }, { on := 21, ground := Go.Ground.chain }, { on := 21, ground := Go.Ground.guard }], guard := some (21, false) }) (by kernel_rfl) rfl (fun K hK => ?_)
        refine step_call_g (by rfl) 6 _ _ rfl (fun _ _ => by kernel_rfl) #[.agg #[.slice ax nx cx]] (by simp [go_sem]) _ (HOx W2 (PAt.below HI.out B0.out)).out ?_
        rintro e W3 ⟨a9, n9, c9, rfl, h9, hO9, hC⟩
        refine ⟨_, rfl, ?_⟩
        have hS3 : Rows8 W3 w.heap.size 24 #[.slice ax nx cx] ∧ Rows8 W3 bA 24 #[.slice a7 n7 c7] ∧ Rows8 W3 bB 24 #[.slice a8 n8 c8] := ⟨hS2.1.below hC hS2.1.lt, hS2.2.1.below hC hS2.2.1.lt, hS2.2.2.below hC hS2.2.2.lt⟩
        have PA := Lib.hid (PAt.below PA.out hC)
        have PB := Lib.hid (PAt.below PB.out hC)
        have B0 := Lib.hid (B0.out.trans (hC.mono B0.out.size))
        have P9 := Lib.hid hO9.at
        clear hO9
        clear hC
        refine hK.out _ _ (fun _ => hS3) ?_
        clear hK K
        try simp only [Act.put, List.setIfInBounds_toArray, List.set_cons_zero, List.set_cons_succ]
        refine wpAnyX_one (i := 25) (o := { dst := some 61, op := Go.Op.call { callee := Go.Callee.value (Go.Operand.func 9), args := #[Go.Operand.tmp 58, Go.Operand.tmp 60], argTypes := #[24, 24] }, type := 4, pos := "law.go:45", after := #[{ on := 22, ground := Go.Ground.data }, { on := 24, ground := Go.Ground.data }, { on := 24, ground := Go.Ground.chain }, { on := 21, ground := Go.Ground.guard }], guard := some (21, false) }) (by kernel_rfl) rfl (fun K hK => ?_)
        refine step_call_g (by rfl) 9 _ _ rfl (fun _ _ => by kernel_rfl) #[.agg #[.slice a7 n7 c7], .agg #[.slice a9 n9 c9]] (by simp [go_sem]) _ (HSO W3 a9 n9 c9 PA.out P9.out (by omega)).out ?_
        rintro e W4 ⟨rfl, hC⟩
        refine ⟨_, rfl, ?_⟩
        have hS4 : Rows8 W4 w.heap.size 24 #[.slice ax nx cx] ∧ Rows8 W4 bA 24 #[.slice a7 n7 c7] ∧ Rows8 W4 bB 24 #[.slice a8 n8 c8] := ⟨hS3.1.below hC hS3.1.lt, hS3.2.1.below hC hS3.2.1.lt, hS3.2.2.below hC hS3.2.2.lt⟩
        have PA := Lib.hid (PAt.below PA.out hC)
        have PB := Lib.hid (PAt.below PB.out hC)
        have B0 := Lib.hid (B0.out.trans (hC.mono B0.out.size))
        clear hC
        refine hK.out _ _ (fun _ => hS4) ?_
        clear hK K
        try simp only [Act.put, List.setIfInBounds_toArray, List.set_cons_zero, List.set_cons_succ]
        refine wpAnyN_take (i := 26) (oi := { dst := some 62, op := Go.Op.unOp Go.UnOp.not 4 (Go.Operand.tmp 61), type := 4, pos := "law.go:45", after := #[{ on := 25, ground := Go.Ground.data }, { on := 21, ground := Go.Ground.guard }], guard := some (21, false) }) (v := .bool false) rfl (by decide) (by kernel_rfl) (by kernel_rfl) (by kernel_rfl) (fun _ _ _ h => h) (Or.inl ⟨by rfl, ?_⟩) hS4 ?_
        · intro W9 hS9
          obtain ⟨q0, q1, q2⟩ := hS9
          clear q0 q1 q2
          go_simp
        try simp only [Act.put, List.setIfInBounds_toArray, List.set_cons_zero, List.set_cons_succ]
        refine wpAnyN_take (i := 27) (oi := { dst := some 63, op := Go.Op.pick (Go.Operand.tmp 57) (Go.Operand.const (Go.Value.bool true)) (Go.Operand.tmp 62), type := 4, pos := "law.go:45", after := #[{ on := 21, ground := Go.Ground.data }, { on := 26, ground := Go.Ground.data }], guard := none }) (v := .bool false) rfl (by decide) (by kernel_rfl) (by kernel_rfl) (by kernel_rfl) (fun _ _ _ h => h) (Or.inl ⟨by rfl, ?_⟩) hS4 ?_
        · intro W9 hS9
          obtain ⟨q0, q1, q2⟩ := hS9
          clear q0 q1 q2
          go_simp
        try simp only [Act.put, List.setIfInBounds_toArray, List.set_cons_zero, List.set_cons_succ]
        refine wpAnyX_end (by kernel_rfl) ?_
        clear P9
        have RX := Lib.hid hS4.1
        have RA := Lib.hid hS4.2.1
        have RB := Lib.hid hS4.2.2
        clear hS0 hS1 hS2 hS3 hS4
        go_wp2_with fail
        have HB := Lib.hid (Rows8.newB (W := W4) (t := 32) (cs := #[.int .i64 0, .int .i64 0, .int .i64 0]))
        have hR := Lib.hid (Rows8.new W4 32 #[.int .i64 0, .int .i64 0, .int .i64 0])
        generalize (W4.alloc (.cells #[.int .i64 0, .int .i64 0, .int .i64 0] 32)) = u7 at *
        go_loopw [64] (fun i wr => ((i = .int .i64 0 ∧ Hid (Rows8 wr W4.heap.size 32 #[.int .i64 0, .int .i64 0, .int .i64 0])) ∨ (i = .int .i64 1 ∧ Hid (Rows8 wr W4.heap.size 32 #[.int .i64 (N0 : Nat), .int .i64 0, .int .i64 0])) ∨ (i = .int .i64 2 ∧ Hid (Rows8 wr W4.heap.size 32 #[.int .i64 (N0 : Nat), .int .i64 (N1 : Nat), .int .i64 0])) ∨ (i = .int .i64 3 ∧ Hid (Rows8 wr W4.heap.size 32 #[.int .i64 (N0 : Nat), .int .i64 (N1 : Nat), .int .i64 (N2 : Nat)]))) ∧ Hid (Below W4.heap.size W4 wr)) (fun i _ => 3 - (intOf i).toNat)
        case atStart => exact ⟨Or.inl ⟨rfl, hR⟩, HB⟩
        case round =>
          clear hR HB
          obtain ⟨hrel, HB⟩ := hrel
          rcases hrel with ⟨rfl, hR⟩ | ⟨rfl, hR⟩ | ⟨rfl, hR⟩ | ⟨rfl, hR⟩
          · as_aux_lemma =>
              have lN := hR.out.lt
              have PAr := Lib.hid (PAt.below PA.out HB.out)
              have cb0 : wr.cell? ⟨bA, 0, none⟩ = some (.slice a7 n7 c7) := (RA.out.below HB.out RA.out.lt).cell 0
              have lb0 := (RA.out.below HB.out RA.out.lt).lt
              have HCL := HRf wr 0 PAr.out
              go_wp2_with fail
              refine HCL.out.mono ?_
              rintro e y1 ⟨v1, rfl, hO, hB⟩
              obtain ⟨a1, c1, hv⟩ := hO.form
              rw [← HN0.out] at hv
              subst hv
              have hne : ∀ y, a1 = some y → y.block ≠ W4.heap.size := fun y e e2 => by
                have := (World.ownsRow.lt hO y.block (by rw [e]; rfl)).1
                omega
              have P1 := Lib.hid hO.at
              have HNE := Lib.hid hne
              have HB1 := Lib.hid (HB.out.trans (hB.mono HB.out.size))
              have hR1 := Lib.hid (hR.out.below hB hR.out.lt)
              clear hB hO hne HCL
              clear cb0 lb0
              have cN : y1.cell? ⟨W4.heap.size, 0, none⟩ = some (.int .i64 0) := hR1.out.cell 0
              have fN := hR1.out.frozen 0
              have lN1 := hR1.out.lt
              have cb0 : y1.cell? ⟨bA, 0, none⟩ = some (.slice a7 n7 c7) := (RA.out.below HB1.out RA.out.lt).cell 0
              have lb0 := (RA.out.below HB1.out RA.out.lt).lt
              have hR2 := hR1.out.set 0 (.int .i64 (N0 : Nat))
              simp only [List.setIfInBounds_toArray, List.set_cons_zero, List.set_cons_succ] at hR2
              have hB2 := HB1.out.setCell (p := ⟨W4.heap.size, 0, none⟩) (Nat.le_refl _) (.int .i64 (N0 : Nat))
              have hR2 := Lib.hid hR2
              have HB2 := Lib.hid hB2
              clear hB2
              have P2 := Lib.hid (pAt_set P1.out (p := ⟨W4.heap.size, 0, none⟩) HNE.out (.int .i64 (N0 : Nat)))
              clear P1 HNE
              go_upto_region 16 with fail
              generalize y1.setCell ⟨W4.heap.size, 0, none⟩ (.int .i64 (N0 : Nat)) = y2 at *
              clear cN fN lN1 lN hR HB
              clear hR1 HB1
              clear cb0 lb0
              have PA2 := Lib.hid (PAt.below PA.out HB2.out)
              have cb0 : y2.cell? ⟨bA, 0, none⟩ = some (.slice a7 n7 c7) := (RA.out.below HB2.out RA.out.lt).cell 0
              have lb0 := (RA.out.below HB2.out RA.out.lt).lt
              have HCL := HEn y2 0 PA2.out
              go_wp2_with fail
              refine HCL.out.mono ?_
              rintro e y3 ⟨v3, rfl, hO, hB⟩
              obtain ⟨a3, c3, hv⟩ := hO.form
              rw [← HN0.out] at hv
              subst hv
              have heq := Try.equalEntry_any _ _ _ _ _ _ _ _ y3 hO.at (PAt.below P2.out hB) (by omega) (by omega)
              rw [decide_eq_true rfl] at heq
              have HEQ := Lib.hid heq
              have hR3 := Lib.hid (hR2.out.below hB hR2.out.lt)
              have HB3 := Lib.hid (HB2.out.trans (hB.mono HB2.out.size))
              clear heq hO hB HCL hR2 HB2
              clear cb0 lb0
              go_wp2_with fail
              refine HEQ.out.mono ?_
              rintro e y4 ⟨rfl, hB⟩
              have hR4 := Lib.hid (hR3.out.below hB hR3.out.lt)
              have HB4 := Lib.hid (HB3.out.trans (hB.mono HB3.out.size))
              clear hB HEQ hR3 HB3
              go_wp2_with fail
              refine ⟨⟨?_, HB4⟩, by simp [intOf]⟩
              exact Or.inr (Or.inl ⟨by go_num, hR4⟩)
          · as_aux_lemma =>
              have lN := hR.out.lt
              have PAr := Lib.hid (PAt.below PA.out HB.out)
              have cb0 : wr.cell? ⟨bA, 0, none⟩ = some (.slice a7 n7 c7) := (RA.out.below HB.out RA.out.lt).cell 0
              have lb0 := (RA.out.below HB.out RA.out.lt).lt
              have HCL := HRf wr 1 PAr.out
              go_wp2_with fail
              refine HCL.out.mono ?_
              rintro e y1 ⟨v1, rfl, hO, hB⟩
              obtain ⟨a1, c1, hv⟩ := hO.form
              rw [← HN1.out] at hv
              subst hv
              have hne : ∀ y, a1 = some y → y.block ≠ W4.heap.size := fun y e e2 => by
                have := (World.ownsRow.lt hO y.block (by rw [e]; rfl)).1
                omega
              have P1 := Lib.hid hO.at
              have HNE := Lib.hid hne
              have HB1 := Lib.hid (HB.out.trans (hB.mono HB.out.size))
              have hR1 := Lib.hid (hR.out.below hB hR.out.lt)
              clear hB hO hne HCL
              clear cb0 lb0
              have cN : y1.cell? ⟨W4.heap.size, 1, none⟩ = some (.int .i64 0) := hR1.out.cell 1
              have fN := hR1.out.frozen 1
              have lN1 := hR1.out.lt
              have cb0 : y1.cell? ⟨bA, 0, none⟩ = some (.slice a7 n7 c7) := (RA.out.below HB1.out RA.out.lt).cell 0
              have lb0 := (RA.out.below HB1.out RA.out.lt).lt
              have hR2 := hR1.out.set 1 (.int .i64 (N1 : Nat))
              simp only [List.setIfInBounds_toArray, List.set_cons_zero, List.set_cons_succ] at hR2
              have hB2 := HB1.out.setCell (p := ⟨W4.heap.size, 1, none⟩) (Nat.le_refl _) (.int .i64 (N1 : Nat))
              have hR2 := Lib.hid hR2
              have HB2 := Lib.hid hB2
              clear hB2
              have P2 := Lib.hid (pAt_set P1.out (p := ⟨W4.heap.size, 1, none⟩) HNE.out (.int .i64 (N1 : Nat)))
              clear P1 HNE
              go_upto_region 16 with fail
              generalize y1.setCell ⟨W4.heap.size, 1, none⟩ (.int .i64 (N1 : Nat)) = y2 at *
              clear cN fN lN1 lN hR HB
              clear hR1 HB1
              clear cb0 lb0
              have PA2 := Lib.hid (PAt.below PA.out HB2.out)
              have cb0 : y2.cell? ⟨bA, 0, none⟩ = some (.slice a7 n7 c7) := (RA.out.below HB2.out RA.out.lt).cell 0
              have lb0 := (RA.out.below HB2.out RA.out.lt).lt
              have HCL := HEn y2 1 PA2.out
              go_wp2_with fail
              refine HCL.out.mono ?_
              rintro e y3 ⟨v3, rfl, hO, hB⟩
              obtain ⟨a3, c3, hv⟩ := hO.form
              rw [← HN1.out] at hv
              subst hv
              have heq := Try.equalEntry_any _ _ _ _ _ _ _ _ y3 hO.at (PAt.below P2.out hB) (by omega) (by omega)
              rw [decide_eq_true rfl] at heq
              have HEQ := Lib.hid heq
              have hR3 := Lib.hid (hR2.out.below hB hR2.out.lt)
              have HB3 := Lib.hid (HB2.out.trans (hB.mono HB2.out.size))
              clear heq hO hB HCL hR2 HB2
              clear cb0 lb0
              go_wp2_with fail
              refine HEQ.out.mono ?_
              rintro e y4 ⟨rfl, hB⟩
              have hR4 := Lib.hid (hR3.out.below hB hR3.out.lt)
              have HB4 := Lib.hid (HB3.out.trans (hB.mono HB3.out.size))
              clear hB HEQ hR3 HB3
              go_wp2_with fail
              refine ⟨⟨?_, HB4⟩, by simp [intOf]⟩
              exact Or.inr (Or.inr (Or.inl ⟨by go_num, hR4⟩))
          · as_aux_lemma =>
              have lN := hR.out.lt
              have PAr := Lib.hid (PAt.below PA.out HB.out)
              have cb0 : wr.cell? ⟨bA, 0, none⟩ = some (.slice a7 n7 c7) := (RA.out.below HB.out RA.out.lt).cell 0
              have lb0 := (RA.out.below HB.out RA.out.lt).lt
              have HCL := HRf wr 2 PAr.out
              go_wp2_with fail
              refine HCL.out.mono ?_
              rintro e y1 ⟨v1, rfl, hO, hB⟩
              obtain ⟨a1, c1, hv⟩ := hO.form
              rw [← HN2.out] at hv
              subst hv
              have hne : ∀ y, a1 = some y → y.block ≠ W4.heap.size := fun y e e2 => by
                have := (World.ownsRow.lt hO y.block (by rw [e]; rfl)).1
                omega
              have P1 := Lib.hid hO.at
              have HNE := Lib.hid hne
              have HB1 := Lib.hid (HB.out.trans (hB.mono HB.out.size))
              have hR1 := Lib.hid (hR.out.below hB hR.out.lt)
              clear hB hO hne HCL
              clear cb0 lb0
              have cN : y1.cell? ⟨W4.heap.size, 2, none⟩ = some (.int .i64 0) := hR1.out.cell 2
              have fN := hR1.out.frozen 2
              have lN1 := hR1.out.lt
              have cb0 : y1.cell? ⟨bA, 0, none⟩ = some (.slice a7 n7 c7) := (RA.out.below HB1.out RA.out.lt).cell 0
              have lb0 := (RA.out.below HB1.out RA.out.lt).lt
              have hR2 := hR1.out.set 2 (.int .i64 (N2 : Nat))
              simp only [List.setIfInBounds_toArray, List.set_cons_zero, List.set_cons_succ] at hR2
              have hB2 := HB1.out.setCell (p := ⟨W4.heap.size, 2, none⟩) (Nat.le_refl _) (.int .i64 (N2 : Nat))
              have hR2 := Lib.hid hR2
              have HB2 := Lib.hid hB2
              clear hB2
              have P2 := Lib.hid (pAt_set P1.out (p := ⟨W4.heap.size, 2, none⟩) HNE.out (.int .i64 (N2 : Nat)))
              clear P1 HNE
              go_upto_region 16 with fail
              generalize y1.setCell ⟨W4.heap.size, 2, none⟩ (.int .i64 (N2 : Nat)) = y2 at *
              clear cN fN lN1 lN hR HB
              clear hR1 HB1
              clear cb0 lb0
              have PA2 := Lib.hid (PAt.below PA.out HB2.out)
              have cb0 : y2.cell? ⟨bA, 0, none⟩ = some (.slice a7 n7 c7) := (RA.out.below HB2.out RA.out.lt).cell 0
              have lb0 := (RA.out.below HB2.out RA.out.lt).lt
              have HCL := HEn y2 2 PA2.out
              go_wp2_with fail
              refine HCL.out.mono ?_
              rintro e y3 ⟨v3, rfl, hO, hB⟩
              obtain ⟨a3, c3, hv⟩ := hO.form
              rw [← HN2.out] at hv
              subst hv
              have heq := Try.equalEntry_any _ _ _ _ _ _ _ _ y3 hO.at (PAt.below P2.out hB) (by omega) (by omega)
              rw [decide_eq_true rfl] at heq
              have HEQ := Lib.hid heq
              have hR3 := Lib.hid (hR2.out.below hB hR2.out.lt)
              have HB3 := Lib.hid (HB2.out.trans (hB.mono HB2.out.size))
              clear heq hO hB HCL hR2 HB2
              clear cb0 lb0
              go_wp2_with fail
              refine HEQ.out.mono ?_
              rintro e y4 ⟨rfl, hB⟩
              have hR4 := Lib.hid (hR3.out.below hB hR3.out.lt)
              have HB4 := Lib.hid (HB3.out.trans (hB.mono HB3.out.size))
              clear hB HEQ hR3 HB3
              go_wp2_with fail
              refine ⟨⟨?_, HB4⟩, by simp [intOf]⟩
              exact Or.inr (Or.inr (Or.inr (⟨by go_num, hR4⟩)))
          · have PAr := Lib.hid (PAt.below PA.out HB.out)
            have cb0 : wr.cell? ⟨bA, 0, none⟩ = some (.slice a7 n7 c7) := (RA.out.below HB.out RA.out.lt).cell 0
            have lb0 := (RA.out.below HB.out RA.out.lt).lt
            have HCL := HCt wr PAr.out
            go_wp2_with fail
            refine HCL.out.mono ?_
            rintro e z1 ⟨rfl, hB⟩
            have hR1 := Lib.hid (hR.out.below hB hR.out.lt)
            have HB1 := Lib.hid (HB.out.trans (hB.mono HB.out.size))
            clear hB HCL cb0 lb0 PAr hR HB
            go_upto_region 20 with fail
            refine wp_region_X (fun W' => Rows8 W' bA 24 #[.slice a7 n7 c7] ∧ Rows8 W' W4.heap.size 32 #[.int .i64 (N0 : Nat), .int .i64 (N1 : Nat), .int .i64 (N2 : Nat)]) 16 (by kernel_rfl) ?_
            have hS0 : Rows8 z1.drew bA 24 #[.slice a7 n7 c7] ∧ Rows8 z1.drew W4.heap.size 32 #[.int .i64 (N0 : Nat), .int .i64 (N1 : Nat), .int .i64 (N2 : Nat)] := ⟨(RA.out.below HB1.out RA.out.lt).drewA, hR1.out.drewA⟩
            have HB2 := Lib.hid HB1.out.drew
            clear hR1 HB1
            generalize z1.drew = Wd at *
            refine wpAnyN_take (i := 0) (oi := { dst := some 88, op := Go.Op.move (Go.Operand.tmp 14), type := 3, pos := "law.go:59", after := #[], guard := none }) (v := .int .i64 (N0 : Nat)) rfl (by decide) (by kernel_rfl) (by kernel_rfl) (by kernel_rfl) (fun _ _ _ h => h) (Or.inl ⟨by rfl, ?_⟩) hS0 ?_
            · intro W9 hS9
              obtain ⟨q0, q1⟩ := hS9
              clear q0 q1
              go_simp
            try simp only [Act.put, List.setIfInBounds_toArray, List.set_cons_zero, List.set_cons_succ]
            refine wpAnyN_take (i := 1) (oi := { dst := some 89, op := Go.Op.move (Go.Operand.tmp 15), type := 3, pos := "law.go:59", after := #[], guard := none }) (v := .int .i64 (N1 : Nat)) rfl (by decide) (by kernel_rfl) (by kernel_rfl) (by kernel_rfl) (fun _ _ _ h => h) (Or.inl ⟨by rfl, ?_⟩) hS0 ?_
            · intro W9 hS9
              obtain ⟨q0, q1⟩ := hS9
              clear q0 q1
              go_simp
            try simp only [Act.put, List.setIfInBounds_toArray, List.set_cons_zero, List.set_cons_succ]
            refine wpAnyN_take (i := 2) (oi := { dst := some 90, op := Go.Op.move (Go.Operand.tmp 16), type := 3, pos := "law.go:59", after := #[], guard := none }) (v := .int .i64 (N2 : Nat)) rfl (by decide) (by kernel_rfl) (by kernel_rfl) (by kernel_rfl) (fun _ _ _ h => h) (Or.inl ⟨by rfl, ?_⟩) hS0 ?_
            · intro W9 hS9
              obtain ⟨q0, q1⟩ := hS9
              clear q0 q1
              go_simp
            try simp only [Act.put, List.setIfInBounds_toArray, List.set_cons_zero, List.set_cons_succ]
            refine wpAnyN_take (i := 3) (oi := { dst := some 91, op := Go.Op.build 32 #[(0, Go.Operand.tmp 88), (1, Go.Operand.tmp 89), (2, Go.Operand.tmp 90)], type := 32, pos := "law.go:59", after := #[{ on := 0, ground := Go.Ground.data }, { on := 1, ground := Go.Ground.data }, { on := 2, ground := Go.Ground.data }], guard := none }) (v := .agg #[.int .i64 (N0 : Nat), .int .i64 (N1 : Nat), .int .i64 (N2 : Nat)]) rfl (by decide) (by kernel_rfl) (by kernel_rfl) (by kernel_rfl) (fun _ _ _ h => h) (Or.inl ⟨by rfl, ?_⟩) hS0 ?_
            · intro W9 hS9
              obtain ⟨q0, q1⟩ := hS9
              clear q0 q1
              go_simp
            try simp only [Act.put, List.setIfInBounds_toArray, List.set_cons_zero, List.set_cons_succ]
            refine wpAnyN_take (i := 4) (oi := { dst := some 92, op := Go.Op.load 32 (Go.Operand.tmp 11), type := 32, pos := "law.go:59", after := #[], guard := none }) (v := .agg #[.int .i64 (N0 : Nat), .int .i64 (N1 : Nat), .int .i64 (N2 : Nat)]) rfl (by decide) (by kernel_rfl) (by kernel_rfl) (by kernel_rfl) (fun _ _ _ h => h) (Or.inl ⟨by rfl, ?_⟩) hS0 ?_
            · intro W9 hS9
              obtain ⟨q0, q1⟩ := hS9
              have s0 : W9.cell? ⟨W4.heap.size, 0, none⟩ = some (.int .i64 (N0 : Nat)) := q1.cell 0
              have s1 : W9.cell? ⟨W4.heap.size, 1, none⟩ = some (.int .i64 (N1 : Nat)) := q1.cell 1
              have s2 : W9.cell? ⟨W4.heap.size, 2, none⟩ = some (.int .i64 (N2 : Nat)) := q1.cell 2
              clear q0 q1
              go_simp
            try simp only [Act.put, List.setIfInBounds_toArray, List.set_cons_zero, List.set_cons_succ]
            refine wpAnyN_take (i := 5) (oi := { dst := some 93, op := Go.Op.binOp Go.BinOp.neq 32 (Go.Operand.tmp 91) (Go.Operand.tmp 92) 32, type := 4, pos := "law.go:59", after := #[{ on := 3, ground := Go.Ground.data }, { on := 4, ground := Go.Ground.data }], guard := none }) (v := .bool false) rfl (by decide) (by kernel_rfl) (by kernel_rfl) (by kernel_rfl) (fun _ _ _ h => h) (Or.inl ⟨by rfl, ?_⟩) hS0 ?_
            · intro W9 hS9
              obtain ⟨q0, q1⟩ := hS9
              clear q0 q1
              have hE := Try.eqArr3 (N0 : Nat) (N1 : Nat) (N2 : Nat) W9
              go_simp
              try rw [hE]
            try simp only [Act.put, List.setIfInBounds_toArray, List.set_cons_zero, List.set_cons_succ]
            refine wpAnyN_take (i := 6) (oi := { dst := some 94, op := Go.Op.move (Go.Operand.tmp 93), type := 4, pos := "law.go:59", after := #[{ on := 5, ground := Go.Ground.data }], guard := none }) (v := .bool false) rfl (by decide) (by kernel_rfl) (by kernel_rfl) (by kernel_rfl) (fun _ _ _ h => h) (Or.inl ⟨by rfl, ?_⟩) hS0 ?_
            · intro W9 hS9
              obtain ⟨q0, q1⟩ := hS9
              clear q0 q1
              go_simp
            try simp only [Act.put, List.setIfInBounds_toArray, List.set_cons_zero, List.set_cons_succ]
            refine wpAnyN_take (i := 7) (oi := { dst := some 95, op := Go.Op.load 24 (Go.Operand.tmp 7), type := 24, pos := "law.go:59", after := #[{ on := 6, ground := Go.Ground.guard }], guard := some (6, false) }) (v := .agg #[.slice a7 n7 c7]) rfl (by decide) (by kernel_rfl) (by kernel_rfl) (by kernel_rfl) (fun _ _ _ h => h) (Or.inl ⟨by rfl, ?_⟩) hS0 ?_
            · intro W9 hS9
              obtain ⟨q0, q1⟩ := hS9
              have s1 : W9.cell? ⟨bA, 0, none⟩ = some (.slice a7 n7 c7) := q0.cell 0
              clear q0 q1
              go_simp
            try simp only [Act.put, List.setIfInBounds_toArray, List.set_cons_zero, List.set_cons_succ]
            refine wpAnyN_take (i := 10) (oi := { dst := some 98, op := Go.Op.load 24 (Go.Operand.tmp 7), type := 24, pos := "law.go:59", after := #[{ on := 6, ground := Go.Ground.guard }], guard := some (6, false) }) (v := .agg #[.slice a7 n7 c7]) rfl (by decide) (by kernel_rfl) (by kernel_rfl) (by kernel_rfl) (fun _ _ _ h => h) (Or.inl ⟨by rfl, ?_⟩) hS0 ?_
            · intro W9 hS9
              obtain ⟨q0, q1⟩ := hS9
              have s1 : W9.cell? ⟨bA, 0, none⟩ = some (.slice a7 n7 c7) := q0.cell 0
              clear q0 q1
              go_simp
            try simp only [Act.put, List.setIfInBounds_toArray, List.set_cons_zero, List.set_cons_succ]
            refine wpAnyX_one (i := 8) (o := { dst := some 96, op := Go.Op.call { callee := Go.Callee.value (Go.Operand.func 13), args := #[Go.Operand.tmp 95, Go.Operand.const (Go.Value.int Go.IntKind.i64 (-1))], argTypes := #[24, 3] }, type := 25, pos := "law.go:59", after := #[{ on := 7, ground := Go.Ground.data }, { on := 6, ground := Go.Ground.chain }, { on := 6, ground := Go.Ground.guard }], guard := some (6, false) }) (by kernel_rfl) rfl (fun K hK => ?_)
            refine step_call_g (by rfl) 13 _ _ rfl (fun _ _ => by kernel_rfl) #[.agg #[.slice a7 n7 c7], .int .i64 (-1)] (by simp [go_sem]) _ (HEn Wd (-1) (PAt.below PA.out HB2.out)).out ?_
            rintro e z3 ⟨v5, rfl, hO, hC⟩
            refine ⟨_, rfl, ?_⟩
            have hS1 : Rows8 z3 bA 24 #[.slice a7 n7 c7] ∧ Rows8 z3 W4.heap.size 32 #[.int .i64 (N0 : Nat), .int .i64 (N1 : Nat), .int .i64 (N2 : Nat)] := ⟨hS0.1.below hC hS0.1.lt, hS0.2.below hC hS0.2.lt⟩
            have HB3 := Lib.hid (HB2.out.trans (hC.mono HB2.out.size))
            rw [HEm.out] at hO
            obtain ⟨a5, c5, hv⟩ := hO.form
            have hv2 : v5 = .slice a5 0 c5 := hv
            clear hv
            subst hv2
            clear hO
            clear hC
            refine hK.out _ _ (fun _ => hS1) ?_
            clear hK K
            try simp only [Act.put, List.setIfInBounds_toArray, List.set_cons_zero, List.set_cons_succ]
            refine wpAnyN_take (i := 9) (oi := { dst := some 97, op := Go.Op.call { callee := Go.Callee.builtin Go.Builtin.len, args := #[Go.Operand.tmp 96], argTypes := #[25] }, type := 3, pos := "law.go:59", after := #[{ on := 8, ground := Go.Ground.data }, { on := 6, ground := Go.Ground.guard }], guard := some (6, false) }) (v := .int .i64 0) rfl (by decide) (by kernel_rfl) (by kernel_rfl) (by kernel_rfl) (fun _ _ _ h => h) (Or.inl ⟨by rfl, ?_⟩) hS1 ?_
            · intro W9 hS9
              obtain ⟨q0, q1⟩ := hS9
              clear q0 q1
              go_simp
            try simp only [Act.put, List.setIfInBounds_toArray, List.set_cons_zero, List.set_cons_succ]
            refine wpAnyX_one (i := 11) (o := { dst := some 99, op := Go.Op.call { callee := Go.Callee.value (Go.Operand.func 13), args := #[Go.Operand.tmp 98, Go.Operand.const (Go.Value.int Go.IntKind.i64 3)], argTypes := #[24, 3] }, type := 25, pos := "law.go:59", after := #[{ on := 10, ground := Go.Ground.data }, { on := 8, ground := Go.Ground.chain }, { on := 6, ground := Go.Ground.guard }], guard := some (6, false) }) (by kernel_rfl) rfl (fun K hK => ?_)
            refine step_call_g (by rfl) 13 _ _ rfl (fun _ _ => by kernel_rfl) #[.agg #[.slice a7 n7 c7], .int .i64 3] (by simp [go_sem]) _ (HEn z3 3 (PAt.below PA.out HB3.out)).out ?_
            rintro e z4 ⟨v6, rfl, hO, hC⟩
            refine ⟨_, rfl, ?_⟩
            have hS2 : Rows8 z4 bA 24 #[.slice a7 n7 c7] ∧ Rows8 z4 W4.heap.size 32 #[.int .i64 (N0 : Nat), .int .i64 (N1 : Nat), .int .i64 (N2 : Nat)] := ⟨hS1.1.below hC hS1.1.lt, hS1.2.below hC hS1.2.lt⟩
            have HB4 := Lib.hid (HB3.out.trans (hC.mono HB3.out.size))
            rw [HE3.out] at hO
            obtain ⟨a6, c6, hv⟩ := hO.form
            have hv2 : v6 = .slice a6 0 c6 := hv
            clear hv
            subst hv2
            clear hO
            clear hC
            refine hK.out _ _ (fun _ => hS2) ?_
            clear hK K
            try simp only [Act.put, List.setIfInBounds_toArray, List.set_cons_zero, List.set_cons_succ]
            refine wpAnyN_take (i := 12) (oi := { dst := some 100, op := Go.Op.call { callee := Go.Callee.builtin Go.Builtin.len, args := #[Go.Operand.tmp 99], argTypes := #[25] }, type := 3, pos := "law.go:59", after := #[{ on := 11, ground := Go.Ground.data }, { on := 6, ground := Go.Ground.guard }], guard := some (6, false) }) (v := .int .i64 0) rfl (by decide) (by kernel_rfl) (by kernel_rfl) (by kernel_rfl) (fun _ _ _ h => h) (Or.inl ⟨by rfl, ?_⟩) hS2 ?_
            · intro W9 hS9
              obtain ⟨q0, q1⟩ := hS9
              clear q0 q1
              go_simp
            try simp only [Act.put, List.setIfInBounds_toArray, List.set_cons_zero, List.set_cons_succ]
            refine wpAnyN_take (i := 13) (oi := { dst := some 101, op := Go.Op.binOp Go.BinOp.add 3 (Go.Operand.tmp 97) (Go.Operand.tmp 100) 3, type := 3, pos := "law.go:59", after := #[{ on := 9, ground := Go.Ground.data }, { on := 12, ground := Go.Ground.data }, { on := 6, ground := Go.Ground.guard }], guard := some (6, false) }) (v := .int .i64 0) rfl (by decide) (by kernel_rfl) (by kernel_rfl) (by kernel_rfl) (fun _ _ _ h => h) (Or.inl ⟨by rfl, ?_⟩) hS2 ?_
            · intro W9 hS9
              obtain ⟨q0, q1⟩ := hS9
              clear q0 q1
              go_simp
              rfl
            try simp only [Act.put, List.setIfInBounds_toArray, List.set_cons_zero, List.set_cons_succ]
            refine wpAnyN_take (i := 14) (oi := { dst := some 102, op := Go.Op.binOp Go.BinOp.gtr 3 (Go.Operand.tmp 101) (Go.Operand.const (Go.Value.int Go.IntKind.i64 0)) 3, type := 4, pos := "law.go:59", after := #[{ on := 13, ground := Go.Ground.data }, { on := 6, ground := Go.Ground.guard }], guard := some (6, false) }) (v := .bool false) rfl (by decide) (by kernel_rfl) (by kernel_rfl) (by kernel_rfl) (fun _ _ _ h => h) (Or.inl ⟨by rfl, ?_⟩) hS2 ?_
            · intro W9 hS9
              obtain ⟨q0, q1⟩ := hS9
              clear q0 q1
              go_simp
            try simp only [Act.put, List.setIfInBounds_toArray, List.set_cons_zero, List.set_cons_succ]
            refine wpAnyN_take (i := 15) (oi := { dst := some 103, op := Go.Op.pick (Go.Operand.tmp 94) (Go.Operand.const (Go.Value.bool true)) (Go.Operand.tmp 102), type := 4, pos := "law.go:59", after := #[{ on := 6, ground := Go.Ground.data }, { on := 14, ground := Go.Ground.data }], guard := none }) (v := .bool false) rfl (by decide) (by kernel_rfl) (by kernel_rfl) (by kernel_rfl) (fun _ _ _ h => h) (Or.inl ⟨by rfl, ?_⟩) hS2 ?_
            · intro W9 hS9
              obtain ⟨q0, q1⟩ := hS9
              clear q0 q1
              go_simp
            try simp only [Act.put, List.setIfInBounds_toArray, List.set_cons_zero, List.set_cons_succ]
            refine wpAnyX_end (by kernel_rfl) ?_
            clear hS0 hS1 hS2 HB2 HB3
            clear HN0 HN1 HN2 HEm HE3 HEn HCt HEl HRf
            have HBt := HB4
            clear HB4
            have HNl := Lib.hid (pAt_len HL.out).1
            go_wp2_with fail
            go_loopw [106] (fun i wr => ∃ k : Nat, k ≤ nl ∧ k ≤ 8 ∧ i = .int .i64 k ∧ Hid (Below W4.heap.size W4 wr)) (fun i _ => nl - (intOf i).toNat)
            case atStart => exact ⟨0, Nat.zero_le _, Nat.zero_le _, rfl, HBt⟩
            case round =>
              clear HBt
              obtain ⟨k, hk, hk8, rfl, HB⟩ := hrel
              by_cases hlt : k < nl
              · have hki : (k : Int) < (nl : Int) := by omega
                have hkl : k < ls.length := by rw [← HNl.out]; exact hlt
                have PLr := PAt.below HL.out (B0.out.trans (HB.out.mono B0.out.size))
                obtain ⟨b, off, rfl, hb, c0, c1⟩ := pAt_get PLr k hkl
                clear PLr
                generalize ls[k] = el at *
                obtain ⟨ei, eg⟩ := el
                dsimp only at c0 c1
                have hal : Below wr.heap.size wr (wr.alloc (.cells #[.int .i64 ei, .int .u64 (eg : Nat)] 37)) := Rows8.newB
                have RE := Lib.hid (Rows8.new wr 37 #[.int .i64 ei, .int .u64 (eg : Nat)])
                have HBe := Lib.hid (HB.out.trans (hal.mono HB.out.size))
                clear hal HB
                by_cases h8 : k = 8
                · subst h8
                  have h88 : (8 : Int) < (nl : Int) := hki
                  have HB := HBe
                  clear HBe
                  go_upto_region 37 with fail
                  refine wp_region_X (fun W' => Rows8 W' w.heap.size 24 #[.slice ax nx cx] ∧ Rows8 W' bA 24 #[.slice a7 n7 c7]) 5 (by kernel_rfl) ?_
                  have hS0 : Rows8 (wr.alloc (.cells #[.int .i64 ei, .int .u64 (eg : Nat)] 37)).drew w.heap.size 24 #[.slice ax nx cx] ∧ Rows8 (wr.alloc (.cells #[.int .i64 ei, .int .u64 (eg : Nat)] 37)).drew bA 24 #[.slice a7 n7 c7] := ⟨(RX.out.below HB.out RX.out.lt).drewA, (RA.out.below HB.out RA.out.lt).drewA⟩
                  have G0 := Lib.hid HB.out.drew
                  generalize (wr.alloc (.cells #[.int .i64 ei, .int .u64 (eg : Nat)] 37)).drew = Wd at *
                  refine wpAnyN_take (i := 0) (oi := { dst := some 180, op := Go.Op.load 24 (Go.Operand.tmp 7), type := 24, pos := "law.go:79", after := #[], guard := none }) (v := .agg #[.slice a7 n7 c7]) rfl (by decide) (by kernel_rfl) (by kernel_rfl) (by kernel_rfl) (fun _ _ _ h => h) (Or.inl ⟨by rfl, ?_⟩) hS0 ?_
                  · intro W9 hS9
                    obtain ⟨q0, q1⟩ := hS9
                    have s0 : W9.cell? ⟨w.heap.size, 0, none⟩ = some (.slice ax nx cx) := q0.cell 0
                    have s1 : W9.cell? ⟨bA, 0, none⟩ = some (.slice a7 n7 c7) := q1.cell 0
                    clear q0 q1
                    go_simp
                  try simp only [Act.put, List.setIfInBounds_toArray, List.set_cons_zero, List.set_cons_succ]
                  refine wpAnyN_take (i := 1) (oi := { dst := some 181, op := Go.Op.load 24 (Go.Operand.tmp 3), type := 24, pos := "law.go:79", after := #[], guard := none }) (v := .agg #[.slice ax nx cx]) rfl (by decide) (by kernel_rfl) (by kernel_rfl) (by kernel_rfl) (fun _ _ _ h => h) (Or.inl ⟨by rfl, ?_⟩) hS0 ?_
                  · intro W9 hS9
                    obtain ⟨q0, q1⟩ := hS9
                    have s0 : W9.cell? ⟨w.heap.size, 0, none⟩ = some (.slice ax nx cx) := q0.cell 0
                    have s1 : W9.cell? ⟨bA, 0, none⟩ = some (.slice a7 n7 c7) := q1.cell 0
                    clear q0 q1
                    go_simp
                  try simp only [Act.put, List.setIfInBounds_toArray, List.set_cons_zero, List.set_cons_succ]
                  refine wpAnyX_one (i := 2) (o := { dst := some 182, op := Go.Op.call { callee := Go.Callee.value (Go.Operand.func 6), args := #[Go.Operand.tmp 181], argTypes := #[24] }, type := 24, pos := "law.go:79", after := #[{ on := 1, ground := Go.Ground.data }], guard := none }) (by kernel_rfl) rfl (fun K hK => ?_)
                  refine step_call_g (by rfl) 6 _ _ rfl (fun _ _ => by kernel_rfl) #[.agg #[.slice ax nx cx]] (by simp [go_sem]) _ (HOx Wd (PAt.below HI.out (B0.out.trans (G0.out.mono B0.out.size)))).out ?_
                  rintro e g1 ⟨a9, n9, c9, rfl, h9, hO9, hC⟩
                  refine ⟨_, rfl, ?_⟩
                  have hS1 : Rows8 g1 w.heap.size 24 #[.slice ax nx cx] ∧ Rows8 g1 bA 24 #[.slice a7 n7 c7] := ⟨hS0.1.below hC hS0.1.lt, hS0.2.below hC hS0.2.lt⟩
                  have G1 := Lib.hid (G0.out.trans (hC.mono G0.out.size))
                  have P9 := Lib.hid hO9.at
                  clear hO9
                  clear hC
                  refine hK.out _ _ (fun _ => hS1) ?_
                  clear hK K
                  try simp only [Act.put, List.setIfInBounds_toArray, List.set_cons_zero, List.set_cons_succ]
                  refine wpAnyX_one (i := 3) (o := { dst := some 183, op := Go.Op.call { callee := Go.Callee.value (Go.Operand.func 10), args := #[Go.Operand.tmp 180, Go.Operand.tmp 182], argTypes := #[24, 24] }, type := 4, pos := "law.go:79", after := #[{ on := 0, ground := Go.Ground.data }, { on := 2, ground := Go.Ground.data }, { on := 2, ground := Go.Ground.chain }], guard := none }) (by kernel_rfl) rfl (fun K hK => ?_)
                  refine step_call_g (by rfl) 10 _ _ rfl (fun _ _ => by kernel_rfl) #[.agg #[.slice a7 n7 c7], .agg #[.slice a9 n9 c9]] (by simp [go_sem]) _ (HSP g1 a9 n9 c9 (PAt.below PA.out G1.out) P9.out (by omega)).out ?_
                  rintro e g2 ⟨rfl, hC⟩
                  refine ⟨_, rfl, ?_⟩
                  have hS2 : Rows8 g2 w.heap.size 24 #[.slice ax nx cx] ∧ Rows8 g2 bA 24 #[.slice a7 n7 c7] := ⟨hS1.1.below hC hS1.1.lt, hS1.2.below hC hS1.2.lt⟩
                  have G2 := Lib.hid (G1.out.trans (hC.mono G1.out.size))
                  clear hC
                  refine hK.out _ _ (fun _ => hS2) ?_
                  clear hK K
                  try simp only [Act.put, List.setIfInBounds_toArray, List.set_cons_zero, List.set_cons_succ]
                  refine wpAnyN_take (i := 4) (oi := { dst := some 6, op := Go.Op.assign (Go.Operand.tmp 183), type := 4, pos := "law.go:79", after := #[{ on := 3, ground := Go.Ground.data }, { on := 3, ground := Go.Ground.chain }, { on := 0, ground := Go.Ground.phase }, { on := 1, ground := Go.Ground.phase }, { on := 2, ground := Go.Ground.phase }, { on := 3, ground := Go.Ground.phase }], guard := none }) (v := .bool true) rfl (by decide) (by kernel_rfl) (by kernel_rfl) (by kernel_rfl) (fun _ _ _ h => h) (Or.inl ⟨by rfl, ?_⟩) hS2 ?_
                  · intro W9 hS9
                    obtain ⟨q0, q1⟩ := hS9
                    clear q0 q1
                    go_simp
                  try simp only [Act.put, List.setIfInBounds_toArray, List.set_cons_zero, List.set_cons_succ]
                  refine wpAnyX_end (by kernel_rfl) ?_
                  clear hS0 hS1 hS2
                  go_wp2_with fail
                  go_ret
                  exact ⟨rfl, B0.out.trans (G2.out.mono B0.out.size)⟩
                · have h8b : ((k : Int) == 8) = false := by simp; omega
                  go_upto_region 26 with fail
                  generalize hu : (wr.alloc (.cells #[.int .i64 ei, .int .u64 (eg : Nat)] 37)) = e0 at *
                  clear hu c0 c1
                  generalize wr.heap.size = bE at *
                  have HTq : ∀ (W : World) (e : Pr), PAt W (.slice a7 n7 c7) L → Hid (Calls Try.prog 15 #[.agg #[.slice a7 n7 c7], .agg #[.int .i64 e.1, .int .u64 (e.2 : Nat)]] W fun r w' => r = .returned (.tuple #[.int .i64 (tagA L e), .bool (tagB L e)]) ∧ Below W.heap.size W w') := fun W e h => Lib.hid (by
                    have h2 := (HTg W e h).out
                    first
                      | exact h2
                      | (rw [if_pos rfl, Bool.true_and] at h2; exact h2))
                  clear HTg
                  cases hm : manyA ei with
                  | true =>
                    have hmm : 2 ≤ ei ∧ ei ≤ 128 := by unfold manyA at hm; exact of_decide_eq_true hm
                    obtain ⟨N, hNe⟩ : ∃ N : Nat, ei = (N : Int) := ⟨ei.toNat, by omega⟩
                    subst ei
                    have hN128 : N ≤ 10000 := by omega
                    clear hmm
                    cases hb : tagB L (((N : Nat) : Int), eg) with
                    | true =>
                      as_aux_lemma =>
                        obtain ⟨j, h0, h1, h2⟩ := tagB_iff.1 hb
                        have ht := (tagA_at h0 h1 h2).2
                        dsimp only at h0
                        have hjN : N = j := by omega
                        subst N
                        obtain ⟨b7, o7, h7e, hb7, p0, p1⟩ := pAt_get PA.out j h1
                        subst h7e
                        rw [← ht] at p0
                        have hj0 : (0 : Int) ≤ (j : Nat) := by omega
                        have hjn : ((j : Nat) : Int) < (n7 : Nat) := by have := (pAt_len PA.out).1; omega
                        have HT1 := fun (W : World) (h : PAt W (.slice (some ⟨b7, o7, none⟩) n7 c7) L) => HTq W ((j : Nat), eg) h
                        have HM1 := fun (W : World) (h : PAt W (.slice (some ⟨b7, o7, none⟩) n7 c7) L) => HMe W ((j : Nat), eg) h
                        rw [hb] at HT1 HM1
                        dsimp only at HT1 HM1
                        generalize tagA L (((j : Nat) : Int), eg) = T at *
                        clear ht p1 h2 h1 hb
                        have cb0 : e0.cell? ⟨bA, 0, none⟩ = some (.slice (some ⟨b7, o7, none⟩) n7 c7) := (RA.out.below HBe.out RA.out.lt).cell 0
                        have lb0 := (RA.out.below HBe.out RA.out.lt).lt
                        have ce0 : e0.cell? ⟨bE, 0, none⟩ = some (.int .i64 (j : Nat)) := RE.out.cell 0
                        have ce1 : e0.cell? ⟨bE, 1, none⟩ = some (.int .u64 (eg : Nat)) := RE.out.cell 1
                        have le := RE.out.lt
                        have HCL := HT1 e0 (PAt.below PA.out HBe.out)
                        go_wp2_with fail
                        refine HCL.out.mono ?_
                        rintro e y1 ⟨rfl, hB⟩
                        have RE1 := Lib.hid (RE.out.below hB RE.out.lt)
                        have HB1 := Lib.hid (HBe.out.trans (hB.mono HBe.out.size))
                        clear hB HCL cb0 lb0 ce0 ce1 le RE HBe
                        have cb0 : y1.cell? ⟨bA, 0, none⟩ = some (.slice (some ⟨b7, o7, none⟩) n7 c7) := (RA.out.below HB1.out RA.out.lt).cell 0
                        have lb0 := (RA.out.below HB1.out RA.out.lt).lt
                        have ce0 : y1.cell? ⟨bE, 0, none⟩ = some (.int .i64 (j : Nat)) := RE1.out.cell 0
                        have ce1 : y1.cell? ⟨bE, 1, none⟩ = some (.int .u64 (eg : Nat)) := RE1.out.cell 1
                        have le := RE1.out.lt
                        have HCL := HM1 y1 (PAt.below PA.out HB1.out)
                        go_wp2_with fail
                        refine HCL.out.mono ?_
                        rintro e y2 ⟨rfl, hB⟩
                        have RE2 := Lib.hid (RE1.out.below hB RE1.out.lt)
                        have HB2 := Lib.hid (HB1.out.trans (hB.mono HB1.out.size))
                        clear hB HCL cb0 lb0 ce0 ce1 le RE1 HB1
                        have p0u := (HB2.out.cell (p := ⟨b7, o7 + j * 2, none⟩) hb7).trans p0
                        have hNw := Try.New_any (j : Nat) y2
                        rw [hm] at hNw
                        rw [if_pos rfl] at hNw
                        have cb0 : y2.cell? ⟨bA, 0, none⟩ = some (.slice (some ⟨b7, o7, none⟩) n7 c7) := (RA.out.below HB2.out RA.out.lt).cell 0
                        have lb0 := (RA.out.below HB2.out RA.out.lt).lt
                        have ce0 : y2.cell? ⟨bE, 0, none⟩ = some (.int .i64 (j : Nat)) := RE2.out.cell 0
                        have ce1 : y2.cell? ⟨bE, 1, none⟩ = some (.int .u64 (eg : Nat)) := RE2.out.cell 1
                        have le := RE2.out.lt
                        have HCL := Lib.hid hNw
                        clear hNw
                        go_wp2_with fail
                        refine HCL.out.mono ?_
                        rintro e y3 ⟨⟨v9, rfl, hO⟩, hB⟩
                        have RE3 := Lib.hid (RE2.out.below hB RE2.out.lt)
                        have HB3 := Lib.hid (HB2.out.trans (hB.mono HB2.out.size))
                        rw [if_pos rfl] at hO
                        unfold newL at hO
                        rw [Int.toNat_natCast] at hO
                        obtain ⟨a9, c9, hv⟩ := hO.form
                        rw [List.length_replicate] at hv
                        subst hv
                        have PM := Lib.hid hO.at
                        clear hO
                        clear hB HCL cb0 lb0 ce0 ce1 le RE2 HB2
                        clear p0u
                        have hal : Below y3.heap.size y3 (y3.alloc (.cells #[.slice a9 j c9] 24)) := Rows8.newB
                        have RM4 := Lib.hid (Rows8.new y3 24 #[.slice a9 j c9])
                        have RE4 := Lib.hid (RE3.out.below hal RE3.out.lt)
                        have HB4 := Lib.hid (HB3.out.trans (hal.mono HB3.out.size))
                        have PM4 := Lib.hid (PAt.below PM.out hal)
                        clear hal RE3 HB3
                        go_upto_region 33 with fail
                        generalize hu4 : (y3.alloc (.cells #[.slice a9 j c9] 24)) = y4 at *
                        clear hu4
                        generalize y3.heap.size = bM at *
                        have hMy := Try.refMany_any (j : Nat) y4
                        rw [hm] at hMy
                        have HCL := Lib.hid hMy
                        clear hMy
                        have ce0 : y4.cell? ⟨bE, 0, none⟩ = some (.int .i64 (j : Nat)) := RE4.out.cell 0
                        have ce1 : y4.cell? ⟨bE, 1, none⟩ = some (.int .u64 (eg : Nat)) := RE4.out.cell 1
                        have le := RE4.out.lt
                        go_wp2_with fail
                        refine HCL.out.mono ?_
                        rintro e y5 ⟨rfl, hy5⟩
                        subst hy5
                        clear HCL ce0 ce1 le
                        go_upto_region 34 with fail
                        refine wp_region_X (fun W' => Rows8 W' bE 37 #[.int .i64 (j : Nat), .int .u64 (eg : Nat)] ∧ Rows8 W' bM 24 #[.slice a9 j c9]) 29 (by kernel_rfl) ?_
                        have hS0 : Rows8 y5.drew bE 37 #[.int .i64 (j : Nat), .int .u64 (eg : Nat)] ∧ Rows8 y5.drew bM 24 #[.slice a9 j c9] := ⟨RE4.out.drewA, RM4.out.drewA⟩
                        have HB5 := Lib.hid HB4.out.drew
                        have PM5 : Hid (PAt y5.drew (.slice a9 j c9) _) := PM4
                        clear RE4 RM4 HB4
                        generalize y5.drew = Wd at *
                        refine wpAnyN_take (i := 0) (oi := { dst := some 150, op := Go.Op.move (Go.Operand.tmp 24), type := 29, pos := "law.go:75", after := #[], guard := none }) (v := .int .i64 0) rfl (by decide) (by kernel_rfl) (by kernel_rfl) (by kernel_rfl) (fun _ _ _ h => h) (Or.inl ⟨by rfl, ?_⟩) hS0 ?_
                        · intro W9 hS9
                          obtain ⟨q0, q1⟩ := hS9
                          clear q0 q1
                          go_simp
                        try simp only [Act.put, List.setIfInBounds_toArray, List.set_cons_zero, List.set_cons_succ]
                        refine wpAnyN_take (i := 1) (oi := { dst := some 151, op := Go.Op.binOp Go.BinOp.eql 29 (Go.Operand.tmp 150) (Go.Operand.const (Go.Value.int Go.IntKind.i64 0)) 29, type := 4, pos := "law.go:75", after := #[{ on := 0, ground := Go.Ground.data }], guard := none }) (v := .bool true) rfl (by decide) (by kernel_rfl) (by kernel_rfl) (by kernel_rfl) (fun _ _ _ h => h) (Or.inl ⟨by rfl, ?_⟩) hS0 ?_
                        · intro W9 hS9
                          obtain ⟨q0, q1⟩ := hS9
                          clear q0 q1
                          go_simp
                        try simp only [Act.put, List.setIfInBounds_toArray, List.set_cons_zero, List.set_cons_succ]
                        refine wpAnyN_take (i := 2) (oi := { dst := some 152, op := Go.Op.move (Go.Operand.tmp 25), type := 4, pos := "law.go:75", after := #[], guard := none }) (v := .bool true) rfl (by decide) (by kernel_rfl) (by kernel_rfl) (by kernel_rfl) (fun _ _ _ h => h) (Or.inl ⟨by rfl, ?_⟩) hS0 ?_
                        · intro W9 hS9
                          obtain ⟨q0, q1⟩ := hS9
                          clear q0 q1
                          go_simp
                        try simp only [Act.put, List.setIfInBounds_toArray, List.set_cons_zero, List.set_cons_succ]
                        refine wpAnyN_take (i := 3) (oi := { dst := some 153, op := Go.Op.binOp Go.BinOp.neq 4 (Go.Operand.tmp 151) (Go.Operand.tmp 152) 4, type := 4, pos := "law.go:75", after := #[{ on := 1, ground := Go.Ground.data }, { on := 2, ground := Go.Ground.data }], guard := none }) (v := .bool false) rfl (by decide) (by kernel_rfl) (by kernel_rfl) (by kernel_rfl) (fun _ _ _ h => h) (Or.inl ⟨by rfl, ?_⟩) hS0 ?_
                        · intro W9 hS9
                          obtain ⟨q0, q1⟩ := hS9
                          clear q0 q1
                          go_simp
                        try simp only [Act.put, List.setIfInBounds_toArray, List.set_cons_zero, List.set_cons_succ]
                        refine wpAnyN_take (i := 4) (oi := { dst := some 154, op := Go.Op.move (Go.Operand.tmp 153), type := 4, pos := "law.go:75", after := #[{ on := 3, ground := Go.Ground.data }], guard := none }) (v := .bool false) rfl (by decide) (by kernel_rfl) (by kernel_rfl) (by kernel_rfl) (fun _ _ _ h => h) (Or.inl ⟨by rfl, ?_⟩) hS0 ?_
                        · intro W9 hS9
                          obtain ⟨q0, q1⟩ := hS9
                          clear q0 q1
                          go_simp
                        try simp only [Act.put, List.setIfInBounds_toArray, List.set_cons_zero, List.set_cons_succ]
                        refine wpAnyN_take (i := 5) (oi := { dst := some 155, op := Go.Op.move (Go.Operand.tmp 25), type := 4, pos := "law.go:75", after := #[{ on := 4, ground := Go.Ground.guard }], guard := some (4, false) }) (v := .bool true) rfl (by decide) (by kernel_rfl) (by kernel_rfl) (by kernel_rfl) (fun _ _ _ h => h) (Or.inl ⟨by rfl, ?_⟩) hS0 ?_
                        · intro W9 hS9
                          obtain ⟨q0, q1⟩ := hS9
                          clear q0 q1
                          go_simp
                        try simp only [Act.put, List.setIfInBounds_toArray, List.set_cons_zero, List.set_cons_succ]
                        refine wpAnyN_take (i := 6) (oi := { dst := some 156, op := Go.Op.unOp Go.UnOp.not 4 (Go.Operand.tmp 155), type := 4, pos := "law.go:75", after := #[{ on := 5, ground := Go.Ground.data }, { on := 4, ground := Go.Ground.guard }], guard := some (4, false) }) (v := .bool false) rfl (by decide) (by kernel_rfl) (by kernel_rfl) (by kernel_rfl) (fun _ _ _ h => h) (Or.inl ⟨by rfl, ?_⟩) hS0 ?_
                        · intro W9 hS9
                          obtain ⟨q0, q1⟩ := hS9
                          clear q0 q1
                          go_simp
                        try simp only [Act.put, List.setIfInBounds_toArray, List.set_cons_zero, List.set_cons_succ]
                        refine wpAnyN_take (i := 7) (oi := { dst := some 157, op := Go.Op.move (Go.Operand.tmp 156), type := 4, pos := "law.go:75", after := #[{ on := 6, ground := Go.Ground.data }, { on := 4, ground := Go.Ground.chain }, { on := 4, ground := Go.Ground.guard }], guard := some (4, false) }) (v := .bool false) rfl (by decide) (by kernel_rfl) (by kernel_rfl) (by kernel_rfl) (fun _ _ _ h => h) (Or.inl ⟨by rfl, ?_⟩) hS0 ?_
                        · intro W9 hS9
                          obtain ⟨q0, q1⟩ := hS9
                          clear q0 q1
                          go_simp
                        try simp only [Act.put, List.setIfInBounds_toArray, List.set_cons_zero, List.set_cons_succ]
                        refine wpAnyN_take (i := 8) (oi := { dst := some 158, op := Go.Op.move (Go.Operand.tmp 24), type := 29, pos := "law.go:75", after := #[{ on := 7, ground := Go.Ground.guard }], guard := some (7, true) }) (v := undef) rfl (by decide) (by kernel_rfl) (by kernel_rfl) (by kernel_rfl) (fun _ _ _ h => h) (Or.inr ⟨by rfl, rfl⟩) hS0 ?_
                        try simp only [Act.put, List.setIfInBounds_toArray, List.set_cons_zero, List.set_cons_succ]
                        refine wpAnyN_take (i := 9) (oi := { dst := some 159, op := Go.Op.binOp Go.BinOp.neq 29 (Go.Operand.tmp 158) (Go.Operand.const (Go.Value.int Go.IntKind.i64 2)) 29, type := 4, pos := "law.go:75", after := #[{ on := 8, ground := Go.Ground.data }, { on := 7, ground := Go.Ground.guard }], guard := some (7, true) }) (v := undef) rfl (by decide) (by kernel_rfl) (by kernel_rfl) (by kernel_rfl) (fun _ _ _ h => h) (Or.inr ⟨by rfl, rfl⟩) hS0 ?_
                        try simp only [Act.put, List.setIfInBounds_toArray, List.set_cons_zero, List.set_cons_succ]
                        refine wpAnyN_take (i := 10) (oi := { dst := some 160, op := Go.Op.move (Go.Operand.tmp 159), type := 4, pos := "law.go:75", after := #[{ on := 9, ground := Go.Ground.data }, { on := 7, ground := Go.Ground.chain }, { on := 7, ground := Go.Ground.guard }], guard := some (7, true) }) (v := undef) rfl (by decide) (by kernel_rfl) (by kernel_rfl) (by kernel_rfl) (fun _ _ _ h => h) (Or.inr ⟨by rfl, rfl⟩) hS0 ?_
                        try simp only [Act.put, List.setIfInBounds_toArray, List.set_cons_zero, List.set_cons_succ]
                        refine wpAnyN_take (i := 11) (oi := { dst := some 161, op := Go.Op.fieldAddr 24 (Go.Operand.tmp 23) 0, type := 0, pos := "law.go:75", after := #[{ on := 10, ground := Go.Ground.guard }], guard := some (10, false) }) (v := undef) rfl (by decide) (by kernel_rfl) (by kernel_rfl) (by kernel_rfl) (fun _ _ _ h => h) (Or.inr ⟨by rfl, rfl⟩) hS0 ?_
                        try simp only [Act.put, List.setIfInBounds_toArray, List.set_cons_zero, List.set_cons_succ]
                        refine wpAnyN_take (i := 12) (oi := { dst := some 162, op := Go.Op.load 22 (Go.Operand.tmp 161), type := 22, pos := "law.go:75", after := #[{ on := 11, ground := Go.Ground.data }, { on := 10, ground := Go.Ground.guard }], guard := some (10, false) }) (v := undef) rfl (by decide) (by kernel_rfl) (by kernel_rfl) (by kernel_rfl) (fun _ _ _ h => h) (Or.inr ⟨by rfl, rfl⟩) hS0 ?_
                        try simp only [Act.put, List.setIfInBounds_toArray, List.set_cons_zero, List.set_cons_succ]
                        refine wpAnyN_take (i := 13) (oi := { dst := some 163, op := Go.Op.call { callee := Go.Callee.builtin Go.Builtin.len, args := #[Go.Operand.tmp 162], argTypes := #[22] }, type := 3, pos := "law.go:75", after := #[{ on := 12, ground := Go.Ground.data }, { on := 10, ground := Go.Ground.guard }], guard := some (10, false) }) (v := undef) rfl (by decide) (by kernel_rfl) (by kernel_rfl) (by kernel_rfl) (fun _ _ _ h => h) (Or.inr ⟨by rfl, rfl⟩) hS0 ?_
                        try simp only [Act.put, List.setIfInBounds_toArray, List.set_cons_zero, List.set_cons_succ]
                        refine wpAnyN_take (i := 14) (oi := { dst := some 164, op := Go.Op.binOp Go.BinOp.gtr 3 (Go.Operand.tmp 163) (Go.Operand.const (Go.Value.int Go.IntKind.i64 0)) 3, type := 4, pos := "law.go:75", after := #[{ on := 13, ground := Go.Ground.data }, { on := 10, ground := Go.Ground.guard }], guard := some (10, false) }) (v := undef) rfl (by decide) (by kernel_rfl) (by kernel_rfl) (by kernel_rfl) (fun _ _ _ h => h) (Or.inr ⟨by rfl, rfl⟩) hS0 ?_
                        try simp only [Act.put, List.setIfInBounds_toArray, List.set_cons_zero, List.set_cons_succ]
                        refine wpAnyN_take (i := 15) (oi := { dst := some 165, op := Go.Op.pick (Go.Operand.tmp 160) (Go.Operand.const (Go.Value.bool true)) (Go.Operand.tmp 164), type := 4, pos := "law.go:75", after := #[{ on := 10, ground := Go.Ground.data }, { on := 14, ground := Go.Ground.data }, { on := 7, ground := Go.Ground.guard }], guard := some (7, true) }) (v := undef) rfl (by decide) (by kernel_rfl) (by kernel_rfl) (by kernel_rfl) (fun _ _ _ h => h) (Or.inr ⟨by rfl, rfl⟩) hS0 ?_
                        try simp only [Act.put, List.setIfInBounds_toArray, List.set_cons_zero, List.set_cons_succ]
                        refine wpAnyN_take (i := 16) (oi := { dst := some 166, op := Go.Op.pick (Go.Operand.tmp 157) (Go.Operand.tmp 165) (Go.Operand.const (Go.Value.bool false)), type := 4, pos := "law.go:75", after := #[{ on := 7, ground := Go.Ground.data }, { on := 15, ground := Go.Ground.data }, { on := 4, ground := Go.Ground.guard }], guard := some (4, false) }) (v := .bool false) rfl (by decide) (by kernel_rfl) (by kernel_rfl) (by kernel_rfl) (fun _ _ _ h => h) (Or.inl ⟨by rfl, ?_⟩) hS0 ?_
                        · intro W9 hS9
                          obtain ⟨q0, q1⟩ := hS9
                          clear q0 q1
                          go_simp
                        try simp only [Act.put, List.setIfInBounds_toArray, List.set_cons_zero, List.set_cons_succ]
                        refine wpAnyN_take (i := 17) (oi := { dst := some 167, op := Go.Op.pick (Go.Operand.tmp 154) (Go.Operand.const (Go.Value.bool true)) (Go.Operand.tmp 166), type := 4, pos := "law.go:75", after := #[{ on := 4, ground := Go.Ground.data }, { on := 16, ground := Go.Ground.data }], guard := none }) (v := .bool false) rfl (by decide) (by kernel_rfl) (by kernel_rfl) (by kernel_rfl) (fun _ _ _ h => h) (Or.inl ⟨by rfl, ?_⟩) hS0 ?_
                        · intro W9 hS9
                          obtain ⟨q0, q1⟩ := hS9
                          clear q0 q1
                          go_simp
                        try simp only [Act.put, List.setIfInBounds_toArray, List.set_cons_zero, List.set_cons_succ]
                        refine wpAnyN_take (i := 18) (oi := { dst := some 168, op := Go.Op.move (Go.Operand.tmp 167), type := 4, pos := "law.go:75", after := #[{ on := 17, ground := Go.Ground.data }, { on := 10, ground := Go.Ground.chain }], guard := none }) (v := .bool false) rfl (by decide) (by kernel_rfl) (by kernel_rfl) (by kernel_rfl) (fun _ _ _ h => h) (Or.inl ⟨by rfl, ?_⟩) hS0 ?_
                        · intro W9 hS9
                          obtain ⟨q0, q1⟩ := hS9
                          clear q0 q1
                          go_simp
                        try simp only [Act.put, List.setIfInBounds_toArray, List.set_cons_zero, List.set_cons_succ]
                        refine wpAnyN_take (i := 19) (oi := { dst := some 169, op := Go.Op.move (Go.Operand.tmp 25), type := 4, pos := "law.go:75", after := #[{ on := 18, ground := Go.Ground.guard }], guard := some (18, false) }) (v := .bool true) rfl (by decide) (by kernel_rfl) (by kernel_rfl) (by kernel_rfl) (fun _ _ _ h => h) (Or.inl ⟨by rfl, ?_⟩) hS0 ?_
                        · intro W9 hS9
                          obtain ⟨q0, q1⟩ := hS9
                          clear q0 q1
                          go_simp
                        try simp only [Act.put, List.setIfInBounds_toArray, List.set_cons_zero, List.set_cons_succ]
                        refine wpAnyN_take (i := 20) (oi := { dst := some 170, op := Go.Op.move (Go.Operand.tmp 169), type := 4, pos := "law.go:75", after := #[{ on := 19, ground := Go.Ground.data }, { on := 18, ground := Go.Ground.chain }, { on := 18, ground := Go.Ground.guard }], guard := some (18, false) }) (v := .bool true) rfl (by decide) (by kernel_rfl) (by kernel_rfl) (by kernel_rfl) (fun _ _ _ h => h) (Or.inl ⟨by rfl, ?_⟩) hS0 ?_
                        · intro W9 hS9
                          obtain ⟨q0, q1⟩ := hS9
                          clear q0 q1
                          go_simp
                        try simp only [Act.put, List.setIfInBounds_toArray, List.set_cons_zero, List.set_cons_succ]
                        refine wpAnyN_take (i := 21) (oi := { dst := some 171, op := Go.Op.load 24 (Go.Operand.tmp 23), type := 24, pos := "law.go:75", after := #[{ on := 20, ground := Go.Ground.guard }], guard := some (20, true) }) (v := .agg #[.slice a9 j c9]) rfl (by decide) (by kernel_rfl) (by kernel_rfl) (by kernel_rfl) (fun _ _ _ h => h) (Or.inl ⟨by rfl, ?_⟩) hS0 ?_
                        · intro W9 hS9
                          obtain ⟨q0, q1⟩ := hS9
                          have s0 : W9.cell? ⟨bE, 0, none⟩ = some (.int .i64 (j : Nat)) := q0.cell 0
                          have s1 : W9.cell? ⟨bM, 0, none⟩ = some (.slice a9 j c9) := q1.cell 0
                          clear q0 q1
                          go_simp
                        try simp only [Act.put, List.setIfInBounds_toArray, List.set_cons_zero, List.set_cons_succ]
                        refine wpAnyN_take (i := 22) (oi := { dst := some 172, op := Go.Op.fieldAddr 37 (Go.Operand.tmp 18) 0, type := 0, pos := "law.go:75", after := #[{ on := 20, ground := Go.Ground.guard }], guard := some (20, true) }) (v := .pointer (some ⟨bE, 0, none⟩)) rfl (by decide) (by kernel_rfl) (by kernel_rfl) (by kernel_rfl) (fun _ _ _ h => h) (Or.inl ⟨by rfl, ?_⟩) hS0 ?_
                        · intro W9 hS9
                          obtain ⟨q0, q1⟩ := hS9
                          clear q0 q1
                          go_simp
                        try simp only [Act.put, List.setIfInBounds_toArray, List.set_cons_zero, List.set_cons_succ]
                        refine wpAnyN_take (i := 23) (oi := { dst := some 173, op := Go.Op.load 3 (Go.Operand.tmp 172), type := 3, pos := "law.go:75", after := #[{ on := 22, ground := Go.Ground.data }, { on := 20, ground := Go.Ground.guard }], guard := some (20, true) }) (v := .int .i64 (j : Nat)) rfl (by decide) (by kernel_rfl) (by kernel_rfl) (by kernel_rfl) (fun _ _ _ h => h) (Or.inl ⟨by rfl, ?_⟩) hS0 ?_
                        · intro W9 hS9
                          obtain ⟨q0, q1⟩ := hS9
                          have s0 : W9.cell? ⟨bE, 0, none⟩ = some (.int .i64 (j : Nat)) := q0.cell 0
                          have s1 : W9.cell? ⟨bM, 0, none⟩ = some (.slice a9 j c9) := q1.cell 0
                          clear q0 q1
                          go_simp
                        try simp only [Act.put, List.setIfInBounds_toArray, List.set_cons_zero, List.set_cons_succ]
                        refine wpAnyX_one (i := 24) (o := { dst := some 174, op := Go.Op.call { callee := Go.Callee.value (Go.Operand.func 19), args := #[Go.Operand.tmp 173], argTypes := #[3] }, type := 24, pos := "law.go:75", after := #[{ on := 23, ground := Go.Ground.data }, { on := 20, ground := Go.Ground.chain }, { on := 20, ground := Go.Ground.guard }], guard := some (20, true) }) (by kernel_rfl) rfl (fun K hK => ?_)
                        refine step_call_g (by rfl) 19 _ _ rfl (fun _ _ => by kernel_rfl) #[.int .i64 (j : Nat)] (by simp [go_sem]) _ (Lib.hid (Try.refNew_any j (by omega) Wd)).out ?_
                        rintro e z1 ⟨v10, rfl, hO, hC⟩
                        refine ⟨_, rfl, ?_⟩
                        have hS1 : Rows8 z1 bE 37 #[.int .i64 (j : Nat), .int .u64 (eg : Nat)] ∧ Rows8 z1 bM 24 #[.slice a9 j c9] := ⟨hS0.1.below hC hS0.1.lt, hS0.2.below hC hS0.2.lt⟩
                        have HB6 := Lib.hid (HB5.out.trans (hC.mono HB5.out.size))
                        have PM6 := Lib.hid (PAt.below PM5.out hC)
                        obtain ⟨a10, c10, hv⟩ := hO.form
                        rw [List.length_replicate] at hv
                        subst hv
                        have PN6 := Lib.hid hO.at
                        clear hO
                        have hsm := Try.refSame_any _ _ _ _ _ _ _ _ z1 PM6.out PN6.out (by omega) (by omega)
                        rw [decide_eq_true rfl] at hsm
                        have HSM := Lib.hid hsm
                        clear hsm
                        clear hC
                        refine hK.out _ _ (fun _ => hS1) ?_
                        clear hK K
                        try simp only [Act.put, List.setIfInBounds_toArray, List.set_cons_zero, List.set_cons_succ]
                        refine wpAnyX_one (i := 25) (o := { dst := some 175, op := Go.Op.call { callee := Go.Callee.value (Go.Operand.func 10), args := #[Go.Operand.tmp 171, Go.Operand.tmp 174], argTypes := #[24, 24] }, type := 4, pos := "law.go:75", after := #[{ on := 21, ground := Go.Ground.data }, { on := 24, ground := Go.Ground.data }, { on := 24, ground := Go.Ground.chain }, { on := 20, ground := Go.Ground.guard }], guard := some (20, true) }) (by kernel_rfl) rfl (fun K hK => ?_)
                        refine step_call_g (by rfl) 10 _ _ rfl (fun _ _ => by kernel_rfl) #[.agg #[.slice a9 j c9], .agg #[.slice a10 j c10]] (by simp [go_sem]) _ (HSM).out ?_
                        rintro e z2 ⟨rfl, hC⟩
                        refine ⟨_, rfl, ?_⟩
                        have hS2 : Rows8 z2 bE 37 #[.int .i64 (j : Nat), .int .u64 (eg : Nat)] ∧ Rows8 z2 bM 24 #[.slice a9 j c9] := ⟨hS1.1.below hC hS1.1.lt, hS1.2.below hC hS1.2.lt⟩
                        have HB7 := Lib.hid (HB6.out.trans (hC.mono HB6.out.size))
                        clear hC
                        refine hK.out _ _ (fun _ => hS2) ?_
                        clear hK K
                        try simp only [Act.put, List.setIfInBounds_toArray, List.set_cons_zero, List.set_cons_succ]
                        refine wpAnyN_take (i := 26) (oi := { dst := some 176, op := Go.Op.unOp Go.UnOp.not 4 (Go.Operand.tmp 175), type := 4, pos := "law.go:75", after := #[{ on := 25, ground := Go.Ground.data }, { on := 20, ground := Go.Ground.guard }], guard := some (20, true) }) (v := .bool false) rfl (by decide) (by kernel_rfl) (by kernel_rfl) (by kernel_rfl) (fun _ _ _ h => h) (Or.inl ⟨by rfl, ?_⟩) hS2 ?_
                        · intro W9 hS9
                          obtain ⟨q0, q1⟩ := hS9
                          clear q0 q1
                          go_simp
                        try simp only [Act.put, List.setIfInBounds_toArray, List.set_cons_zero, List.set_cons_succ]
                        refine wpAnyN_take (i := 27) (oi := { dst := some 177, op := Go.Op.pick (Go.Operand.tmp 170) (Go.Operand.tmp 176) (Go.Operand.const (Go.Value.bool false)), type := 4, pos := "law.go:75", after := #[{ on := 20, ground := Go.Ground.data }, { on := 26, ground := Go.Ground.data }, { on := 18, ground := Go.Ground.guard }], guard := some (18, false) }) (v := .bool false) rfl (by decide) (by kernel_rfl) (by kernel_rfl) (by kernel_rfl) (fun _ _ _ h => h) (Or.inl ⟨by rfl, ?_⟩) hS2 ?_
                        · intro W9 hS9
                          obtain ⟨q0, q1⟩ := hS9
                          clear q0 q1
                          go_simp
                        try simp only [Act.put, List.setIfInBounds_toArray, List.set_cons_zero, List.set_cons_succ]
                        refine wpAnyN_take (i := 28) (oi := { dst := some 178, op := Go.Op.pick (Go.Operand.tmp 168) (Go.Operand.const (Go.Value.bool true)) (Go.Operand.tmp 177), type := 4, pos := "law.go:75", after := #[{ on := 18, ground := Go.Ground.data }, { on := 27, ground := Go.Ground.data }], guard := none }) (v := .bool false) rfl (by decide) (by kernel_rfl) (by kernel_rfl) (by kernel_rfl) (fun _ _ _ h => h) (Or.inl ⟨by rfl, ?_⟩) hS2 ?_
                        · intro W9 hS9
                          obtain ⟨q0, q1⟩ := hS9
                          clear q0 q1
                          go_simp
                        try simp only [Act.put, List.setIfInBounds_toArray, List.set_cons_zero, List.set_cons_succ]
                        refine wpAnyX_end (by kernel_rfl) ?_
                        clear hS0 hS1 hS2
                        go_wp2_with fail
                        go_roundw
                        case rel => exact ⟨k + 1, by omega, by omega, by go_num, HB7⟩
                        case measure => simp [intOf] <;> omega
                    | false =>
                      as_aux_lemma =>
                        have HT1 := fun (W : World) (h : PAt W (.slice a7 n7 c7) L) => HTq W ((N : Nat), eg) h
                        have HM1 := fun (W : World) (h : PAt W (.slice a7 n7 c7) L) => HMe W ((N : Nat), eg) h
                        rw [tagA_no hb, hb] at HT1
                        rw [hb] at HM1
                        dsimp only at HT1 HM1
                        clear hb
                        have cb0 : e0.cell? ⟨bA, 0, none⟩ = some (.slice a7 n7 c7) := (RA.out.below HBe.out RA.out.lt).cell 0
                        have lb0 := (RA.out.below HBe.out RA.out.lt).lt
                        have ce0 : e0.cell? ⟨bE, 0, none⟩ = some (.int .i64 (N : Nat)) := RE.out.cell 0
                        have ce1 : e0.cell? ⟨bE, 1, none⟩ = some (.int .u64 (eg : Nat)) := RE.out.cell 1
                        have le := RE.out.lt
                        have HCL := HT1 e0 (PAt.below PA.out HBe.out)
                        go_wp2_with fail
                        refine HCL.out.mono ?_
                        rintro e y1 ⟨rfl, hB⟩
                        have RE1 := Lib.hid (RE.out.below hB RE.out.lt)
                        have HB1 := Lib.hid (HBe.out.trans (hB.mono HBe.out.size))
                        clear hB HCL cb0 lb0 ce0 ce1 le RE HBe
                        have cb0 : y1.cell? ⟨bA, 0, none⟩ = some (.slice a7 n7 c7) := (RA.out.below HB1.out RA.out.lt).cell 0
                        have lb0 := (RA.out.below HB1.out RA.out.lt).lt
                        have ce0 : y1.cell? ⟨bE, 0, none⟩ = some (.int .i64 (N : Nat)) := RE1.out.cell 0
                        have ce1 : y1.cell? ⟨bE, 1, none⟩ = some (.int .u64 (eg : Nat)) := RE1.out.cell 1
                        have le := RE1.out.lt
                        have HCL := HM1 y1 (PAt.below PA.out HB1.out)
                        go_wp2_with fail
                        refine HCL.out.mono ?_
                        rintro e y2 ⟨rfl, hB⟩
                        have RE2 := Lib.hid (RE1.out.below hB RE1.out.lt)
                        have HB2 := Lib.hid (HB1.out.trans (hB.mono HB1.out.size))
                        clear hB HCL cb0 lb0 ce0 ce1 le RE1 HB1
                        have hNw := Try.New_any (N : Nat) y2
                        rw [hm] at hNw
                        rw [if_pos rfl] at hNw
                        have cb0 : y2.cell? ⟨bA, 0, none⟩ = some (.slice a7 n7 c7) := (RA.out.below HB2.out RA.out.lt).cell 0
                        have lb0 := (RA.out.below HB2.out RA.out.lt).lt
                        have ce0 : y2.cell? ⟨bE, 0, none⟩ = some (.int .i64 (N : Nat)) := RE2.out.cell 0
                        have ce1 : y2.cell? ⟨bE, 1, none⟩ = some (.int .u64 (eg : Nat)) := RE2.out.cell 1
                        have le := RE2.out.lt
                        have HCL := Lib.hid hNw
                        clear hNw
                        go_wp2_with fail
                        refine HCL.out.mono ?_
                        rintro e y3 ⟨⟨v9, rfl, hO⟩, hB⟩
                        have RE3 := Lib.hid (RE2.out.below hB RE2.out.lt)
                        have HB3 := Lib.hid (HB2.out.trans (hB.mono HB2.out.size))
                        rw [if_pos rfl] at hO
                        unfold newL at hO
                        rw [Int.toNat_natCast] at hO
                        obtain ⟨a9, c9, hv⟩ := hO.form
                        rw [List.length_replicate] at hv
                        subst hv
                        have PM := Lib.hid hO.at
                        clear hO
                        clear hB HCL cb0 lb0 ce0 ce1 le RE2 HB2
                        have hal : Below y3.heap.size y3 (y3.alloc (.cells #[.slice a9 N c9] 24)) := Rows8.newB
                        have RM4 := Lib.hid (Rows8.new y3 24 #[.slice a9 N c9])
                        have RE4 := Lib.hid (RE3.out.below hal RE3.out.lt)
                        have HB4 := Lib.hid (HB3.out.trans (hal.mono HB3.out.size))
                        have PM4 := Lib.hid (PAt.below PM.out hal)
                        clear hal RE3 HB3
                        go_upto_region 33 with fail
                        generalize hu4 : (y3.alloc (.cells #[.slice a9 N c9] 24)) = y4 at *
                        clear hu4
                        generalize y3.heap.size = bM at *
                        have hMy := Try.refMany_any (N : Nat) y4
                        rw [hm] at hMy
                        have HCL := Lib.hid hMy
                        clear hMy
                        have ce0 : y4.cell? ⟨bE, 0, none⟩ = some (.int .i64 (N : Nat)) := RE4.out.cell 0
                        have ce1 : y4.cell? ⟨bE, 1, none⟩ = some (.int .u64 (eg : Nat)) := RE4.out.cell 1
                        have le := RE4.out.lt
                        go_wp2_with fail
                        refine HCL.out.mono ?_
                        rintro e y5 ⟨rfl, hy5⟩
                        subst hy5
                        clear HCL ce0 ce1 le
                        go_upto_region 34 with fail
                        refine wp_region_X (fun W' => Rows8 W' bE 37 #[.int .i64 (N : Nat), .int .u64 (eg : Nat)] ∧ Rows8 W' bM 24 #[.slice a9 N c9]) 29 (by kernel_rfl) ?_
                        have hS0 : Rows8 y5.drew bE 37 #[.int .i64 (N : Nat), .int .u64 (eg : Nat)] ∧ Rows8 y5.drew bM 24 #[.slice a9 N c9] := ⟨RE4.out.drewA, RM4.out.drewA⟩
                        have HB5 := Lib.hid HB4.out.drew
                        have PM5 : Hid (PAt y5.drew (.slice a9 N c9) _) := PM4
                        clear RE4 RM4 HB4
                        generalize y5.drew = Wd at *
                        refine wpAnyN_take (i := 0) (oi := { dst := some 150, op := Go.Op.move (Go.Operand.tmp 24), type := 29, pos := "law.go:75", after := #[], guard := none }) (v := .int .i64 0) rfl (by decide) (by kernel_rfl) (by kernel_rfl) (by kernel_rfl) (fun _ _ _ h => h) (Or.inl ⟨by rfl, ?_⟩) hS0 ?_
                        · intro W9 hS9
                          obtain ⟨q0, q1⟩ := hS9
                          clear q0 q1
                          go_simp
                        try simp only [Act.put, List.setIfInBounds_toArray, List.set_cons_zero, List.set_cons_succ]
                        refine wpAnyN_take (i := 1) (oi := { dst := some 151, op := Go.Op.binOp Go.BinOp.eql 29 (Go.Operand.tmp 150) (Go.Operand.const (Go.Value.int Go.IntKind.i64 0)) 29, type := 4, pos := "law.go:75", after := #[{ on := 0, ground := Go.Ground.data }], guard := none }) (v := .bool true) rfl (by decide) (by kernel_rfl) (by kernel_rfl) (by kernel_rfl) (fun _ _ _ h => h) (Or.inl ⟨by rfl, ?_⟩) hS0 ?_
                        · intro W9 hS9
                          obtain ⟨q0, q1⟩ := hS9
                          clear q0 q1
                          go_simp
                        try simp only [Act.put, List.setIfInBounds_toArray, List.set_cons_zero, List.set_cons_succ]
                        refine wpAnyN_take (i := 2) (oi := { dst := some 152, op := Go.Op.move (Go.Operand.tmp 25), type := 4, pos := "law.go:75", after := #[], guard := none }) (v := .bool true) rfl (by decide) (by kernel_rfl) (by kernel_rfl) (by kernel_rfl) (fun _ _ _ h => h) (Or.inl ⟨by rfl, ?_⟩) hS0 ?_
                        · intro W9 hS9
                          obtain ⟨q0, q1⟩ := hS9
                          clear q0 q1
                          go_simp
                        try simp only [Act.put, List.setIfInBounds_toArray, List.set_cons_zero, List.set_cons_succ]
                        refine wpAnyN_take (i := 3) (oi := { dst := some 153, op := Go.Op.binOp Go.BinOp.neq 4 (Go.Operand.tmp 151) (Go.Operand.tmp 152) 4, type := 4, pos := "law.go:75", after := #[{ on := 1, ground := Go.Ground.data }, { on := 2, ground := Go.Ground.data }], guard := none }) (v := .bool false) rfl (by decide) (by kernel_rfl) (by kernel_rfl) (by kernel_rfl) (fun _ _ _ h => h) (Or.inl ⟨by rfl, ?_⟩) hS0 ?_
                        · intro W9 hS9
                          obtain ⟨q0, q1⟩ := hS9
                          clear q0 q1
                          go_simp
                        try simp only [Act.put, List.setIfInBounds_toArray, List.set_cons_zero, List.set_cons_succ]
                        refine wpAnyN_take (i := 4) (oi := { dst := some 154, op := Go.Op.move (Go.Operand.tmp 153), type := 4, pos := "law.go:75", after := #[{ on := 3, ground := Go.Ground.data }], guard := none }) (v := .bool false) rfl (by decide) (by kernel_rfl) (by kernel_rfl) (by kernel_rfl) (fun _ _ _ h => h) (Or.inl ⟨by rfl, ?_⟩) hS0 ?_
                        · intro W9 hS9
                          obtain ⟨q0, q1⟩ := hS9
                          clear q0 q1
                          go_simp
                        try simp only [Act.put, List.setIfInBounds_toArray, List.set_cons_zero, List.set_cons_succ]
                        refine wpAnyN_take (i := 5) (oi := { dst := some 155, op := Go.Op.move (Go.Operand.tmp 25), type := 4, pos := "law.go:75", after := #[{ on := 4, ground := Go.Ground.guard }], guard := some (4, false) }) (v := .bool true) rfl (by decide) (by kernel_rfl) (by kernel_rfl) (by kernel_rfl) (fun _ _ _ h => h) (Or.inl ⟨by rfl, ?_⟩) hS0 ?_
                        · intro W9 hS9
                          obtain ⟨q0, q1⟩ := hS9
                          clear q0 q1
                          go_simp
                        try simp only [Act.put, List.setIfInBounds_toArray, List.set_cons_zero, List.set_cons_succ]
                        refine wpAnyN_take (i := 6) (oi := { dst := some 156, op := Go.Op.unOp Go.UnOp.not 4 (Go.Operand.tmp 155), type := 4, pos := "law.go:75", after := #[{ on := 5, ground := Go.Ground.data }, { on := 4, ground := Go.Ground.guard }], guard := some (4, false) }) (v := .bool false) rfl (by decide) (by kernel_rfl) (by kernel_rfl) (by kernel_rfl) (fun _ _ _ h => h) (Or.inl ⟨by rfl, ?_⟩) hS0 ?_
                        · intro W9 hS9
                          obtain ⟨q0, q1⟩ := hS9
                          clear q0 q1
                          go_simp
                        try simp only [Act.put, List.setIfInBounds_toArray, List.set_cons_zero, List.set_cons_succ]
                        refine wpAnyN_take (i := 7) (oi := { dst := some 157, op := Go.Op.move (Go.Operand.tmp 156), type := 4, pos := "law.go:75", after := #[{ on := 6, ground := Go.Ground.data }, { on := 4, ground := Go.Ground.chain }, { on := 4, ground := Go.Ground.guard }], guard := some (4, false) }) (v := .bool false) rfl (by decide) (by kernel_rfl) (by kernel_rfl) (by kernel_rfl) (fun _ _ _ h => h) (Or.inl ⟨by rfl, ?_⟩) hS0 ?_
                        · intro W9 hS9
                          obtain ⟨q0, q1⟩ := hS9
                          clear q0 q1
                          go_simp
                        try simp only [Act.put, List.setIfInBounds_toArray, List.set_cons_zero, List.set_cons_succ]
                        refine wpAnyN_take (i := 8) (oi := { dst := some 158, op := Go.Op.move (Go.Operand.tmp 24), type := 29, pos := "law.go:75", after := #[{ on := 7, ground := Go.Ground.guard }], guard := some (7, true) }) (v := undef) rfl (by decide) (by kernel_rfl) (by kernel_rfl) (by kernel_rfl) (fun _ _ _ h => h) (Or.inr ⟨by rfl, rfl⟩) hS0 ?_
                        try simp only [Act.put, List.setIfInBounds_toArray, List.set_cons_zero, List.set_cons_succ]
                        refine wpAnyN_take (i := 9) (oi := { dst := some 159, op := Go.Op.binOp Go.BinOp.neq 29 (Go.Operand.tmp 158) (Go.Operand.const (Go.Value.int Go.IntKind.i64 2)) 29, type := 4, pos := "law.go:75", after := #[{ on := 8, ground := Go.Ground.data }, { on := 7, ground := Go.Ground.guard }], guard := some (7, true) }) (v := undef) rfl (by decide) (by kernel_rfl) (by kernel_rfl) (by kernel_rfl) (fun _ _ _ h => h) (Or.inr ⟨by rfl, rfl⟩) hS0 ?_
                        try simp only [Act.put, List.setIfInBounds_toArray, List.set_cons_zero, List.set_cons_succ]
                        refine wpAnyN_take (i := 10) (oi := { dst := some 160, op := Go.Op.move (Go.Operand.tmp 159), type := 4, pos := "law.go:75", after := #[{ on := 9, ground := Go.Ground.data }, { on := 7, ground := Go.Ground.chain }, { on := 7, ground := Go.Ground.guard }], guard := some (7, true) }) (v := undef) rfl (by decide) (by kernel_rfl) (by kernel_rfl) (by kernel_rfl) (fun _ _ _ h => h) (Or.inr ⟨by rfl, rfl⟩) hS0 ?_
                        try simp only [Act.put, List.setIfInBounds_toArray, List.set_cons_zero, List.set_cons_succ]
                        refine wpAnyN_take (i := 11) (oi := { dst := some 161, op := Go.Op.fieldAddr 24 (Go.Operand.tmp 23) 0, type := 0, pos := "law.go:75", after := #[{ on := 10, ground := Go.Ground.guard }], guard := some (10, false) }) (v := undef) rfl (by decide) (by kernel_rfl) (by kernel_rfl) (by kernel_rfl) (fun _ _ _ h => h) (Or.inr ⟨by rfl, rfl⟩) hS0 ?_
                        try simp only [Act.put, List.setIfInBounds_toArray, List.set_cons_zero, List.set_cons_succ]
                        refine wpAnyN_take (i := 12) (oi := { dst := some 162, op := Go.Op.load 22 (Go.Operand.tmp 161), type := 22, pos := "law.go:75", after := #[{ on := 11, ground := Go.Ground.data }, { on := 10, ground := Go.Ground.guard }], guard := some (10, false) }) (v := undef) rfl (by decide) (by kernel_rfl) (by kernel_rfl) (by kernel_rfl) (fun _ _ _ h => h) (Or.inr ⟨by rfl, rfl⟩) hS0 ?_
                        try simp only [Act.put, List.setIfInBounds_toArray, List.set_cons_zero, List.set_cons_succ]
                        refine wpAnyN_take (i := 13) (oi := { dst := some 163, op := Go.Op.call { callee := Go.Callee.builtin Go.Builtin.len, args := #[Go.Operand.tmp 162], argTypes := #[22] }, type := 3, pos := "law.go:75", after := #[{ on := 12, ground := Go.Ground.data }, { on := 10, ground := Go.Ground.guard }], guard := some (10, false) }) (v := undef) rfl (by decide) (by kernel_rfl) (by kernel_rfl) (by kernel_rfl) (fun _ _ _ h => h) (Or.inr ⟨by rfl, rfl⟩) hS0 ?_
                        try simp only [Act.put, List.setIfInBounds_toArray, List.set_cons_zero, List.set_cons_succ]
                        refine wpAnyN_take (i := 14) (oi := { dst := some 164, op := Go.Op.binOp Go.BinOp.gtr 3 (Go.Operand.tmp 163) (Go.Operand.const (Go.Value.int Go.IntKind.i64 0)) 3, type := 4, pos := "law.go:75", after := #[{ on := 13, ground := Go.Ground.data }, { on := 10, ground := Go.Ground.guard }], guard := some (10, false) }) (v := undef) rfl (by decide) (by kernel_rfl) (by kernel_rfl) (by kernel_rfl) (fun _ _ _ h => h) (Or.inr ⟨by rfl, rfl⟩) hS0 ?_
                        try simp only [Act.put, List.setIfInBounds_toArray, List.set_cons_zero, List.set_cons_succ]
                        refine wpAnyN_take (i := 15) (oi := { dst := some 165, op := Go.Op.pick (Go.Operand.tmp 160) (Go.Operand.const (Go.Value.bool true)) (Go.Operand.tmp 164), type := 4, pos := "law.go:75", after := #[{ on := 10, ground := Go.Ground.data }, { on := 14, ground := Go.Ground.data }, { on := 7, ground := Go.Ground.guard }], guard := some (7, true) }) (v := undef) rfl (by decide) (by kernel_rfl) (by kernel_rfl) (by kernel_rfl) (fun _ _ _ h => h) (Or.inr ⟨by rfl, rfl⟩) hS0 ?_
                        try simp only [Act.put, List.setIfInBounds_toArray, List.set_cons_zero, List.set_cons_succ]
                        refine wpAnyN_take (i := 16) (oi := { dst := some 166, op := Go.Op.pick (Go.Operand.tmp 157) (Go.Operand.tmp 165) (Go.Operand.const (Go.Value.bool false)), type := 4, pos := "law.go:75", after := #[{ on := 7, ground := Go.Ground.data }, { on := 15, ground := Go.Ground.data }, { on := 4, ground := Go.Ground.guard }], guard := some (4, false) }) (v := .bool false) rfl (by decide) (by kernel_rfl) (by kernel_rfl) (by kernel_rfl) (fun _ _ _ h => h) (Or.inl ⟨by rfl, ?_⟩) hS0 ?_
                        · intro W9 hS9
                          obtain ⟨q0, q1⟩ := hS9
                          clear q0 q1
                          go_simp
                        try simp only [Act.put, List.setIfInBounds_toArray, List.set_cons_zero, List.set_cons_succ]
                        refine wpAnyN_take (i := 17) (oi := { dst := some 167, op := Go.Op.pick (Go.Operand.tmp 154) (Go.Operand.const (Go.Value.bool true)) (Go.Operand.tmp 166), type := 4, pos := "law.go:75", after := #[{ on := 4, ground := Go.Ground.data }, { on := 16, ground := Go.Ground.data }], guard := none }) (v := .bool false) rfl (by decide) (by kernel_rfl) (by kernel_rfl) (by kernel_rfl) (fun _ _ _ h => h) (Or.inl ⟨by rfl, ?_⟩) hS0 ?_
                        · intro W9 hS9
                          obtain ⟨q0, q1⟩ := hS9
                          clear q0 q1
                          go_simp
                        try simp only [Act.put, List.setIfInBounds_toArray, List.set_cons_zero, List.set_cons_succ]
                        refine wpAnyN_take (i := 18) (oi := { dst := some 168, op := Go.Op.move (Go.Operand.tmp 167), type := 4, pos := "law.go:75", after := #[{ on := 17, ground := Go.Ground.data }, { on := 10, ground := Go.Ground.chain }], guard := none }) (v := .bool false) rfl (by decide) (by kernel_rfl) (by kernel_rfl) (by kernel_rfl) (fun _ _ _ h => h) (Or.inl ⟨by rfl, ?_⟩) hS0 ?_
                        · intro W9 hS9
                          obtain ⟨q0, q1⟩ := hS9
                          clear q0 q1
                          go_simp
                        try simp only [Act.put, List.setIfInBounds_toArray, List.set_cons_zero, List.set_cons_succ]
                        refine wpAnyN_take (i := 19) (oi := { dst := some 169, op := Go.Op.move (Go.Operand.tmp 25), type := 4, pos := "law.go:75", after := #[{ on := 18, ground := Go.Ground.guard }], guard := some (18, false) }) (v := .bool true) rfl (by decide) (by kernel_rfl) (by kernel_rfl) (by kernel_rfl) (fun _ _ _ h => h) (Or.inl ⟨by rfl, ?_⟩) hS0 ?_
                        · intro W9 hS9
                          obtain ⟨q0, q1⟩ := hS9
                          clear q0 q1
                          go_simp
                        try simp only [Act.put, List.setIfInBounds_toArray, List.set_cons_zero, List.set_cons_succ]
                        refine wpAnyN_take (i := 20) (oi := { dst := some 170, op := Go.Op.move (Go.Operand.tmp 169), type := 4, pos := "law.go:75", after := #[{ on := 19, ground := Go.Ground.data }, { on := 18, ground := Go.Ground.chain }, { on := 18, ground := Go.Ground.guard }], guard := some (18, false) }) (v := .bool true) rfl (by decide) (by kernel_rfl) (by kernel_rfl) (by kernel_rfl) (fun _ _ _ h => h) (Or.inl ⟨by rfl, ?_⟩) hS0 ?_
                        · intro W9 hS9
                          obtain ⟨q0, q1⟩ := hS9
                          clear q0 q1
                          go_simp
                        try simp only [Act.put, List.setIfInBounds_toArray, List.set_cons_zero, List.set_cons_succ]
                        refine wpAnyN_take (i := 21) (oi := { dst := some 171, op := Go.Op.load 24 (Go.Operand.tmp 23), type := 24, pos := "law.go:75", after := #[{ on := 20, ground := Go.Ground.guard }], guard := some (20, true) }) (v := .agg #[.slice a9 N c9]) rfl (by decide) (by kernel_rfl) (by kernel_rfl) (by kernel_rfl) (fun _ _ _ h => h) (Or.inl ⟨by rfl, ?_⟩) hS0 ?_
                        · intro W9 hS9
                          obtain ⟨q0, q1⟩ := hS9
                          have s0 : W9.cell? ⟨bE, 0, none⟩ = some (.int .i64 (N : Nat)) := q0.cell 0
                          have s1 : W9.cell? ⟨bM, 0, none⟩ = some (.slice a9 N c9) := q1.cell 0
                          clear q0 q1
                          go_simp
                        try simp only [Act.put, List.setIfInBounds_toArray, List.set_cons_zero, List.set_cons_succ]
                        refine wpAnyN_take (i := 22) (oi := { dst := some 172, op := Go.Op.fieldAddr 37 (Go.Operand.tmp 18) 0, type := 0, pos := "law.go:75", after := #[{ on := 20, ground := Go.Ground.guard }], guard := some (20, true) }) (v := .pointer (some ⟨bE, 0, none⟩)) rfl (by decide) (by kernel_rfl) (by kernel_rfl) (by kernel_rfl) (fun _ _ _ h => h) (Or.inl ⟨by rfl, ?_⟩) hS0 ?_
                        · intro W9 hS9
                          obtain ⟨q0, q1⟩ := hS9
                          clear q0 q1
                          go_simp
                        try simp only [Act.put, List.setIfInBounds_toArray, List.set_cons_zero, List.set_cons_succ]
                        refine wpAnyN_take (i := 23) (oi := { dst := some 173, op := Go.Op.load 3 (Go.Operand.tmp 172), type := 3, pos := "law.go:75", after := #[{ on := 22, ground := Go.Ground.data }, { on := 20, ground := Go.Ground.guard }], guard := some (20, true) }) (v := .int .i64 (N : Nat)) rfl (by decide) (by kernel_rfl) (by kernel_rfl) (by kernel_rfl) (fun _ _ _ h => h) (Or.inl ⟨by rfl, ?_⟩) hS0 ?_
                        · intro W9 hS9
                          obtain ⟨q0, q1⟩ := hS9
                          have s0 : W9.cell? ⟨bE, 0, none⟩ = some (.int .i64 (N : Nat)) := q0.cell 0
                          have s1 : W9.cell? ⟨bM, 0, none⟩ = some (.slice a9 N c9) := q1.cell 0
                          clear q0 q1
                          go_simp
                        try simp only [Act.put, List.setIfInBounds_toArray, List.set_cons_zero, List.set_cons_succ]
                        refine wpAnyX_one (i := 24) (o := { dst := some 174, op := Go.Op.call { callee := Go.Callee.value (Go.Operand.func 19), args := #[Go.Operand.tmp 173], argTypes := #[3] }, type := 24, pos := "law.go:75", after := #[{ on := 23, ground := Go.Ground.data }, { on := 20, ground := Go.Ground.chain }, { on := 20, ground := Go.Ground.guard }], guard := some (20, true) }) (by kernel_rfl) rfl (fun K hK => ?_)
                        refine step_call_g (by rfl) 19 _ _ rfl (fun _ _ => by kernel_rfl) #[.int .i64 (N : Nat)] (by simp [go_sem]) _ (Lib.hid (Try.refNew_any N (by omega) Wd)).out ?_
                        rintro e z1 ⟨v10, rfl, hO, hC⟩
                        refine ⟨_, rfl, ?_⟩
                        have hS1 : Rows8 z1 bE 37 #[.int .i64 (N : Nat), .int .u64 (eg : Nat)] ∧ Rows8 z1 bM 24 #[.slice a9 N c9] := ⟨hS0.1.below hC hS0.1.lt, hS0.2.below hC hS0.2.lt⟩
                        have HB6 := Lib.hid (HB5.out.trans (hC.mono HB5.out.size))
                        have PM6 := Lib.hid (PAt.below PM5.out hC)
                        obtain ⟨a10, c10, hv⟩ := hO.form
                        rw [List.length_replicate] at hv
                        subst hv
                        have PN6 := Lib.hid hO.at
                        clear hO
                        have hsm := Try.refSame_any _ _ _ _ _ _ _ _ z1 PM6.out PN6.out (by omega) (by omega)
                        rw [decide_eq_true rfl] at hsm
                        have HSM := Lib.hid hsm
                        clear hsm
                        clear hC
                        refine hK.out _ _ (fun _ => hS1) ?_
                        clear hK K
                        try simp only [Act.put, List.setIfInBounds_toArray, List.set_cons_zero, List.set_cons_succ]
                        refine wpAnyX_one (i := 25) (o := { dst := some 175, op := Go.Op.call { callee := Go.Callee.value (Go.Operand.func 10), args := #[Go.Operand.tmp 171, Go.Operand.tmp 174], argTypes := #[24, 24] }, type := 4, pos := "law.go:75", after := #[{ on := 21, ground := Go.Ground.data }, { on := 24, ground := Go.Ground.data }, { on := 24, ground := Go.Ground.chain }, { on := 20, ground := Go.Ground.guard }], guard := some (20, true) }) (by kernel_rfl) rfl (fun K hK => ?_)
                        refine step_call_g (by rfl) 10 _ _ rfl (fun _ _ => by kernel_rfl) #[.agg #[.slice a9 N c9], .agg #[.slice a10 N c10]] (by simp [go_sem]) _ (HSM).out ?_
                        rintro e z2 ⟨rfl, hC⟩
                        refine ⟨_, rfl, ?_⟩
                        have hS2 : Rows8 z2 bE 37 #[.int .i64 (N : Nat), .int .u64 (eg : Nat)] ∧ Rows8 z2 bM 24 #[.slice a9 N c9] := ⟨hS1.1.below hC hS1.1.lt, hS1.2.below hC hS1.2.lt⟩
                        have HB7 := Lib.hid (HB6.out.trans (hC.mono HB6.out.size))
                        clear hC
                        refine hK.out _ _ (fun _ => hS2) ?_
                        clear hK K
                        try simp only [Act.put, List.setIfInBounds_toArray, List.set_cons_zero, List.set_cons_succ]
                        refine wpAnyN_take (i := 26) (oi := { dst := some 176, op := Go.Op.unOp Go.UnOp.not 4 (Go.Operand.tmp 175), type := 4, pos := "law.go:75", after := #[{ on := 25, ground := Go.Ground.data }, { on := 20, ground := Go.Ground.guard }], guard := some (20, true) }) (v := .bool false) rfl (by decide) (by kernel_rfl) (by kernel_rfl) (by kernel_rfl) (fun _ _ _ h => h) (Or.inl ⟨by rfl, ?_⟩) hS2 ?_
                        · intro W9 hS9
                          obtain ⟨q0, q1⟩ := hS9
                          clear q0 q1
                          go_simp
                        try simp only [Act.put, List.setIfInBounds_toArray, List.set_cons_zero, List.set_cons_succ]
                        refine wpAnyN_take (i := 27) (oi := { dst := some 177, op := Go.Op.pick (Go.Operand.tmp 170) (Go.Operand.tmp 176) (Go.Operand.const (Go.Value.bool false)), type := 4, pos := "law.go:75", after := #[{ on := 20, ground := Go.Ground.data }, { on := 26, ground := Go.Ground.data }, { on := 18, ground := Go.Ground.guard }], guard := some (18, false) }) (v := .bool false) rfl (by decide) (by kernel_rfl) (by kernel_rfl) (by kernel_rfl) (fun _ _ _ h => h) (Or.inl ⟨by rfl, ?_⟩) hS2 ?_
                        · intro W9 hS9
                          obtain ⟨q0, q1⟩ := hS9
                          clear q0 q1
                          go_simp
                        try simp only [Act.put, List.setIfInBounds_toArray, List.set_cons_zero, List.set_cons_succ]
                        refine wpAnyN_take (i := 28) (oi := { dst := some 178, op := Go.Op.pick (Go.Operand.tmp 168) (Go.Operand.const (Go.Value.bool true)) (Go.Operand.tmp 177), type := 4, pos := "law.go:75", after := #[{ on := 18, ground := Go.Ground.data }, { on := 27, ground := Go.Ground.data }], guard := none }) (v := .bool false) rfl (by decide) (by kernel_rfl) (by kernel_rfl) (by kernel_rfl) (fun _ _ _ h => h) (Or.inl ⟨by rfl, ?_⟩) hS2 ?_
                        · intro W9 hS9
                          obtain ⟨q0, q1⟩ := hS9
                          clear q0 q1
                          go_simp
                        try simp only [Act.put, List.setIfInBounds_toArray, List.set_cons_zero, List.set_cons_succ]
                        refine wpAnyX_end (by kernel_rfl) ?_
                        clear hS0 hS1 hS2
                        go_wp2_with fail
                        go_roundw
                        case rel => exact ⟨k + 1, by omega, by omega, by go_num, HB7⟩
                        case measure => simp [intOf] <;> omega
                  | false =>
                    cases hb : tagB L ((ei : Int), eg) with
                    | true =>
                      as_aux_lemma =>
                        obtain ⟨j, h0, h1, h2⟩ := tagB_iff.1 hb
                        have ht := (tagA_at h0 h1 h2).2
                        dsimp only at h0
                        subst ei
                        obtain ⟨b7, o7, h7e, hb7, p0, p1⟩ := pAt_get PA.out j h1
                        subst h7e
                        rw [← ht] at p0
                        have hj0 : (0 : Int) ≤ (j : Nat) := by omega
                        have hjn : ((j : Nat) : Int) < (n7 : Nat) := by have := (pAt_len PA.out).1; omega
                        have HT1 := fun (W : World) (h : PAt W (.slice (some ⟨b7, o7, none⟩) n7 c7) L) => HTq W ((j : Nat), eg) h
                        have HM1 := fun (W : World) (h : PAt W (.slice (some ⟨b7, o7, none⟩) n7 c7) L) => HMe W ((j : Nat), eg) h
                        rw [hb] at HT1 HM1
                        dsimp only at HT1 HM1
                        generalize tagA L (((j : Nat) : Int), eg) = T at *
                        clear ht p1 h2 h1 hb
                        have cb0 : e0.cell? ⟨bA, 0, none⟩ = some (.slice (some ⟨b7, o7, none⟩) n7 c7) := (RA.out.below HBe.out RA.out.lt).cell 0
                        have lb0 := (RA.out.below HBe.out RA.out.lt).lt
                        have ce0 : e0.cell? ⟨bE, 0, none⟩ = some (.int .i64 (j : Nat)) := RE.out.cell 0
                        have ce1 : e0.cell? ⟨bE, 1, none⟩ = some (.int .u64 (eg : Nat)) := RE.out.cell 1
                        have le := RE.out.lt
                        have HCL := HT1 e0 (PAt.below PA.out HBe.out)
                        go_wp2_with fail
                        refine HCL.out.mono ?_
                        rintro e y1 ⟨rfl, hB⟩
                        have RE1 := Lib.hid (RE.out.below hB RE.out.lt)
                        have HB1 := Lib.hid (HBe.out.trans (hB.mono HBe.out.size))
                        clear hB HCL cb0 lb0 ce0 ce1 le RE HBe
                        have cb0 : y1.cell? ⟨bA, 0, none⟩ = some (.slice (some ⟨b7, o7, none⟩) n7 c7) := (RA.out.below HB1.out RA.out.lt).cell 0
                        have lb0 := (RA.out.below HB1.out RA.out.lt).lt
                        have ce0 : y1.cell? ⟨bE, 0, none⟩ = some (.int .i64 (j : Nat)) := RE1.out.cell 0
                        have ce1 : y1.cell? ⟨bE, 1, none⟩ = some (.int .u64 (eg : Nat)) := RE1.out.cell 1
                        have le := RE1.out.lt
                        have HCL := HM1 y1 (PAt.below PA.out HB1.out)
                        go_wp2_with fail
                        refine HCL.out.mono ?_
                        rintro e y2 ⟨rfl, hB⟩
                        have RE2 := Lib.hid (RE1.out.below hB RE1.out.lt)
                        have HB2 := Lib.hid (HB1.out.trans (hB.mono HB1.out.size))
                        clear hB HCL cb0 lb0 ce0 ce1 le RE1 HB1
                        have p0u := (HB2.out.cell (p := ⟨b7, o7 + j * 2, none⟩) hb7).trans p0
                        have hNw := Try.New_any (j : Nat) y2
                        rw [hm] at hNw
                        rw [if_neg (by decide)] at hNw
                        have cb0 : y2.cell? ⟨bA, 0, none⟩ = some (.slice (some ⟨b7, o7, none⟩) n7 c7) := (RA.out.below HB2.out RA.out.lt).cell 0
                        have lb0 := (RA.out.below HB2.out RA.out.lt).lt
                        have ce0 : y2.cell? ⟨bE, 0, none⟩ = some (.int .i64 (j : Nat)) := RE2.out.cell 0
                        have ce1 : y2.cell? ⟨bE, 1, none⟩ = some (.int .u64 (eg : Nat)) := RE2.out.cell 1
                        have le := RE2.out.lt
                        have HCL := Lib.hid hNw
                        clear hNw
                        go_wp2_with fail
                        refine HCL.out.mono ?_
                        rintro e y3 ⟨⟨v9, rfl, hO⟩, hB⟩
                        have RE3 := Lib.hid (RE2.out.below hB RE2.out.lt)
                        have HB3 := Lib.hid (HB2.out.trans (hB.mono HB2.out.size))
                        rw [if_neg (by decide)] at hO
                        obtain ⟨a9, c9, hv⟩ := hO.form
                        subst hv
                        clear hO
                        clear hB HCL cb0 lb0 ce0 ce1 le RE2 HB2
                        clear p0u
                        have hal : Below y3.heap.size y3 (y3.alloc (.cells #[.slice a9 0 c9] 24)) := Rows8.newB
                        have RM4 := Lib.hid (Rows8.new y3 24 #[.slice a9 0 c9])
                        have RE4 := Lib.hid (RE3.out.below hal RE3.out.lt)
                        have HB4 := Lib.hid (HB3.out.trans (hal.mono HB3.out.size))
                        clear hal RE3 HB3
                        go_upto_region 33 with fail
                        generalize hu4 : (y3.alloc (.cells #[.slice a9 0 c9] 24)) = y4 at *
                        clear hu4
                        generalize y3.heap.size = bM at *
                        have hMy := Try.refMany_any (j : Nat) y4
                        rw [hm] at hMy
                        have HCL := Lib.hid hMy
                        clear hMy
                        have ce0 : y4.cell? ⟨bE, 0, none⟩ = some (.int .i64 (j : Nat)) := RE4.out.cell 0
                        have ce1 : y4.cell? ⟨bE, 1, none⟩ = some (.int .u64 (eg : Nat)) := RE4.out.cell 1
                        have le := RE4.out.lt
                        go_wp2_with fail
                        refine HCL.out.mono ?_
                        rintro e y5 ⟨rfl, hy5⟩
                        subst hy5
                        clear HCL ce0 ce1 le
                        go_upto_region 34 with fail
                        refine wp_region_X (fun W' => Rows8 W' bE 37 #[.int .i64 (j : Nat), .int .u64 (eg : Nat)] ∧ Rows8 W' bM 24 #[.slice a9 0 c9]) 29 (by kernel_rfl) ?_
                        have hS0 : Rows8 y5.drew bE 37 #[.int .i64 (j : Nat), .int .u64 (eg : Nat)] ∧ Rows8 y5.drew bM 24 #[.slice a9 0 c9] := ⟨RE4.out.drewA, RM4.out.drewA⟩
                        have HB5 := Lib.hid HB4.out.drew
                        clear RE4 RM4 HB4
                        generalize y5.drew = Wd at *
                        refine wpAnyN_take (i := 0) (oi := { dst := some 150, op := Go.Op.move (Go.Operand.tmp 24), type := 29, pos := "law.go:75", after := #[], guard := none }) (v := .int .i64 2) rfl (by decide) (by kernel_rfl) (by kernel_rfl) (by kernel_rfl) (fun _ _ _ h => h) (Or.inl ⟨by rfl, ?_⟩) hS0 ?_
                        · intro W9 hS9
                          obtain ⟨q0, q1⟩ := hS9
                          clear q0 q1
                          go_simp
                        try simp only [Act.put, List.setIfInBounds_toArray, List.set_cons_zero, List.set_cons_succ]
                        refine wpAnyN_take (i := 1) (oi := { dst := some 151, op := Go.Op.binOp Go.BinOp.eql 29 (Go.Operand.tmp 150) (Go.Operand.const (Go.Value.int Go.IntKind.i64 0)) 29, type := 4, pos := "law.go:75", after := #[{ on := 0, ground := Go.Ground.data }], guard := none }) (v := .bool false) rfl (by decide) (by kernel_rfl) (by kernel_rfl) (by kernel_rfl) (fun _ _ _ h => h) (Or.inl ⟨by rfl, ?_⟩) hS0 ?_
                        · intro W9 hS9
                          obtain ⟨q0, q1⟩ := hS9
                          clear q0 q1
                          go_simp
                        try simp only [Act.put, List.setIfInBounds_toArray, List.set_cons_zero, List.set_cons_succ]
                        refine wpAnyN_take (i := 2) (oi := { dst := some 152, op := Go.Op.move (Go.Operand.tmp 25), type := 4, pos := "law.go:75", after := #[], guard := none }) (v := .bool false) rfl (by decide) (by kernel_rfl) (by kernel_rfl) (by kernel_rfl) (fun _ _ _ h => h) (Or.inl ⟨by rfl, ?_⟩) hS0 ?_
                        · intro W9 hS9
                          obtain ⟨q0, q1⟩ := hS9
                          clear q0 q1
                          go_simp
                        try simp only [Act.put, List.setIfInBounds_toArray, List.set_cons_zero, List.set_cons_succ]
                        refine wpAnyN_take (i := 3) (oi := { dst := some 153, op := Go.Op.binOp Go.BinOp.neq 4 (Go.Operand.tmp 151) (Go.Operand.tmp 152) 4, type := 4, pos := "law.go:75", after := #[{ on := 1, ground := Go.Ground.data }, { on := 2, ground := Go.Ground.data }], guard := none }) (v := .bool false) rfl (by decide) (by kernel_rfl) (by kernel_rfl) (by kernel_rfl) (fun _ _ _ h => h) (Or.inl ⟨by rfl, ?_⟩) hS0 ?_
                        · intro W9 hS9
                          obtain ⟨q0, q1⟩ := hS9
                          clear q0 q1
                          go_simp
                        try simp only [Act.put, List.setIfInBounds_toArray, List.set_cons_zero, List.set_cons_succ]
                        refine wpAnyN_take (i := 4) (oi := { dst := some 154, op := Go.Op.move (Go.Operand.tmp 153), type := 4, pos := "law.go:75", after := #[{ on := 3, ground := Go.Ground.data }], guard := none }) (v := .bool false) rfl (by decide) (by kernel_rfl) (by kernel_rfl) (by kernel_rfl) (fun _ _ _ h => h) (Or.inl ⟨by rfl, ?_⟩) hS0 ?_
                        · intro W9 hS9
                          obtain ⟨q0, q1⟩ := hS9
                          clear q0 q1
                          go_simp
                        try simp only [Act.put, List.setIfInBounds_toArray, List.set_cons_zero, List.set_cons_succ]
                        refine wpAnyN_take (i := 5) (oi := { dst := some 155, op := Go.Op.move (Go.Operand.tmp 25), type := 4, pos := "law.go:75", after := #[{ on := 4, ground := Go.Ground.guard }], guard := some (4, false) }) (v := .bool false) rfl (by decide) (by kernel_rfl) (by kernel_rfl) (by kernel_rfl) (fun _ _ _ h => h) (Or.inl ⟨by rfl, ?_⟩) hS0 ?_
                        · intro W9 hS9
                          obtain ⟨q0, q1⟩ := hS9
                          clear q0 q1
                          go_simp
                        try simp only [Act.put, List.setIfInBounds_toArray, List.set_cons_zero, List.set_cons_succ]
                        refine wpAnyN_take (i := 6) (oi := { dst := some 156, op := Go.Op.unOp Go.UnOp.not 4 (Go.Operand.tmp 155), type := 4, pos := "law.go:75", after := #[{ on := 5, ground := Go.Ground.data }, { on := 4, ground := Go.Ground.guard }], guard := some (4, false) }) (v := .bool true) rfl (by decide) (by kernel_rfl) (by kernel_rfl) (by kernel_rfl) (fun _ _ _ h => h) (Or.inl ⟨by rfl, ?_⟩) hS0 ?_
                        · intro W9 hS9
                          obtain ⟨q0, q1⟩ := hS9
                          clear q0 q1
                          go_simp
                        try simp only [Act.put, List.setIfInBounds_toArray, List.set_cons_zero, List.set_cons_succ]
                        refine wpAnyN_take (i := 7) (oi := { dst := some 157, op := Go.Op.move (Go.Operand.tmp 156), type := 4, pos := "law.go:75", after := #[{ on := 6, ground := Go.Ground.data }, { on := 4, ground := Go.Ground.chain }, { on := 4, ground := Go.Ground.guard }], guard := some (4, false) }) (v := .bool true) rfl (by decide) (by kernel_rfl) (by kernel_rfl) (by kernel_rfl) (fun _ _ _ h => h) (Or.inl ⟨by rfl, ?_⟩) hS0 ?_
                        · intro W9 hS9
                          obtain ⟨q0, q1⟩ := hS9
                          clear q0 q1
                          go_simp
                        try simp only [Act.put, List.setIfInBounds_toArray, List.set_cons_zero, List.set_cons_succ]
                        refine wpAnyN_take (i := 8) (oi := { dst := some 158, op := Go.Op.move (Go.Operand.tmp 24), type := 29, pos := "law.go:75", after := #[{ on := 7, ground := Go.Ground.guard }], guard := some (7, true) }) (v := .int .i64 2) rfl (by decide) (by kernel_rfl) (by kernel_rfl) (by kernel_rfl) (fun _ _ _ h => h) (Or.inl ⟨by rfl, ?_⟩) hS0 ?_
                        · intro W9 hS9
                          obtain ⟨q0, q1⟩ := hS9
                          clear q0 q1
                          go_simp
                        try simp only [Act.put, List.setIfInBounds_toArray, List.set_cons_zero, List.set_cons_succ]
                        refine wpAnyN_take (i := 9) (oi := { dst := some 159, op := Go.Op.binOp Go.BinOp.neq 29 (Go.Operand.tmp 158) (Go.Operand.const (Go.Value.int Go.IntKind.i64 2)) 29, type := 4, pos := "law.go:75", after := #[{ on := 8, ground := Go.Ground.data }, { on := 7, ground := Go.Ground.guard }], guard := some (7, true) }) (v := .bool false) rfl (by decide) (by kernel_rfl) (by kernel_rfl) (by kernel_rfl) (fun _ _ _ h => h) (Or.inl ⟨by rfl, ?_⟩) hS0 ?_
                        · intro W9 hS9
                          obtain ⟨q0, q1⟩ := hS9
                          clear q0 q1
                          go_simp
                        try simp only [Act.put, List.setIfInBounds_toArray, List.set_cons_zero, List.set_cons_succ]
                        refine wpAnyN_take (i := 10) (oi := { dst := some 160, op := Go.Op.move (Go.Operand.tmp 159), type := 4, pos := "law.go:75", after := #[{ on := 9, ground := Go.Ground.data }, { on := 7, ground := Go.Ground.chain }, { on := 7, ground := Go.Ground.guard }], guard := some (7, true) }) (v := .bool false) rfl (by decide) (by kernel_rfl) (by kernel_rfl) (by kernel_rfl) (fun _ _ _ h => h) (Or.inl ⟨by rfl, ?_⟩) hS0 ?_
                        · intro W9 hS9
                          obtain ⟨q0, q1⟩ := hS9
                          clear q0 q1
                          go_simp
                        try simp only [Act.put, List.setIfInBounds_toArray, List.set_cons_zero, List.set_cons_succ]
                        refine wpAnyN_take (i := 11) (oi := { dst := some 161, op := Go.Op.fieldAddr 24 (Go.Operand.tmp 23) 0, type := 0, pos := "law.go:75", after := #[{ on := 10, ground := Go.Ground.guard }], guard := some (10, false) }) (v := .pointer (some ⟨bM, 0, none⟩)) rfl (by decide) (by kernel_rfl) (by kernel_rfl) (by kernel_rfl) (fun _ _ _ h => h) (Or.inl ⟨by rfl, ?_⟩) hS0 ?_
                        · intro W9 hS9
                          obtain ⟨q0, q1⟩ := hS9
                          clear q0 q1
                          go_simp
                        try simp only [Act.put, List.setIfInBounds_toArray, List.set_cons_zero, List.set_cons_succ]
                        refine wpAnyN_take (i := 12) (oi := { dst := some 162, op := Go.Op.load 22 (Go.Operand.tmp 161), type := 22, pos := "law.go:75", after := #[{ on := 11, ground := Go.Ground.data }, { on := 10, ground := Go.Ground.guard }], guard := some (10, false) }) (v := .slice a9 0 c9) rfl (by decide) (by kernel_rfl) (by kernel_rfl) (by kernel_rfl) (fun _ _ _ h => h) (Or.inl ⟨by rfl, ?_⟩) hS0 ?_
                        · intro W9 hS9
                          obtain ⟨q0, q1⟩ := hS9
                          have s0 : W9.cell? ⟨bE, 0, none⟩ = some (.int .i64 (j : Nat)) := q0.cell 0
                          have s1 : W9.cell? ⟨bM, 0, none⟩ = some (.slice a9 0 c9) := q1.cell 0
                          clear q0 q1
                          go_simp
                        try simp only [Act.put, List.setIfInBounds_toArray, List.set_cons_zero, List.set_cons_succ]
                        refine wpAnyN_take (i := 13) (oi := { dst := some 163, op := Go.Op.call { callee := Go.Callee.builtin Go.Builtin.len, args := #[Go.Operand.tmp 162], argTypes := #[22] }, type := 3, pos := "law.go:75", after := #[{ on := 12, ground := Go.Ground.data }, { on := 10, ground := Go.Ground.guard }], guard := some (10, false) }) (v := .int .i64 0) rfl (by decide) (by kernel_rfl) (by kernel_rfl) (by kernel_rfl) (fun _ _ _ h => h) (Or.inl ⟨by rfl, ?_⟩) hS0 ?_
                        · intro W9 hS9
                          obtain ⟨q0, q1⟩ := hS9
                          clear q0 q1
                          go_simp
                        try simp only [Act.put, List.setIfInBounds_toArray, List.set_cons_zero, List.set_cons_succ]
                        refine wpAnyN_take (i := 14) (oi := { dst := some 164, op := Go.Op.binOp Go.BinOp.gtr 3 (Go.Operand.tmp 163) (Go.Operand.const (Go.Value.int Go.IntKind.i64 0)) 3, type := 4, pos := "law.go:75", after := #[{ on := 13, ground := Go.Ground.data }, { on := 10, ground := Go.Ground.guard }], guard := some (10, false) }) (v := .bool false) rfl (by decide) (by kernel_rfl) (by kernel_rfl) (by kernel_rfl) (fun _ _ _ h => h) (Or.inl ⟨by rfl, ?_⟩) hS0 ?_
                        · intro W9 hS9
                          obtain ⟨q0, q1⟩ := hS9
                          clear q0 q1
                          go_simp
                        try simp only [Act.put, List.setIfInBounds_toArray, List.set_cons_zero, List.set_cons_succ]
                        refine wpAnyN_take (i := 15) (oi := { dst := some 165, op := Go.Op.pick (Go.Operand.tmp 160) (Go.Operand.const (Go.Value.bool true)) (Go.Operand.tmp 164), type := 4, pos := "law.go:75", after := #[{ on := 10, ground := Go.Ground.data }, { on := 14, ground := Go.Ground.data }, { on := 7, ground := Go.Ground.guard }], guard := some (7, true) }) (v := .bool false) rfl (by decide) (by kernel_rfl) (by kernel_rfl) (by kernel_rfl) (fun _ _ _ h => h) (Or.inl ⟨by rfl, ?_⟩) hS0 ?_
                        · intro W9 hS9
                          obtain ⟨q0, q1⟩ := hS9
                          clear q0 q1
                          go_simp
                        try simp only [Act.put, List.setIfInBounds_toArray, List.set_cons_zero, List.set_cons_succ]
                        refine wpAnyN_take (i := 16) (oi := { dst := some 166, op := Go.Op.pick (Go.Operand.tmp 157) (Go.Operand.tmp 165) (Go.Operand.const (Go.Value.bool false)), type := 4, pos := "law.go:75", after := #[{ on := 7, ground := Go.Ground.data }, { on := 15, ground := Go.Ground.data }, { on := 4, ground := Go.Ground.guard }], guard := some (4, false) }) (v := .bool false) rfl (by decide) (by kernel_rfl) (by kernel_rfl) (by kernel_rfl) (fun _ _ _ h => h) (Or.inl ⟨by rfl, ?_⟩) hS0 ?_
                        · intro W9 hS9
                          obtain ⟨q0, q1⟩ := hS9
                          clear q0 q1
                          go_simp
                        try simp only [Act.put, List.setIfInBounds_toArray, List.set_cons_zero, List.set_cons_succ]
                        refine wpAnyN_take (i := 17) (oi := { dst := some 167, op := Go.Op.pick (Go.Operand.tmp 154) (Go.Operand.const (Go.Value.bool true)) (Go.Operand.tmp 166), type := 4, pos := "law.go:75", after := #[{ on := 4, ground := Go.Ground.data }, { on := 16, ground := Go.Ground.data }], guard := none }) (v := .bool false) rfl (by decide) (by kernel_rfl) (by kernel_rfl) (by kernel_rfl) (fun _ _ _ h => h) (Or.inl ⟨by rfl, ?_⟩) hS0 ?_
                        · intro W9 hS9
                          obtain ⟨q0, q1⟩ := hS9
                          clear q0 q1
                          go_simp
                        try simp only [Act.put, List.setIfInBounds_toArray, List.set_cons_zero, List.set_cons_succ]
                        refine wpAnyN_take (i := 18) (oi := { dst := some 168, op := Go.Op.move (Go.Operand.tmp 167), type := 4, pos := "law.go:75", after := #[{ on := 17, ground := Go.Ground.data }, { on := 10, ground := Go.Ground.chain }], guard := none }) (v := .bool false) rfl (by decide) (by kernel_rfl) (by kernel_rfl) (by kernel_rfl) (fun _ _ _ h => h) (Or.inl ⟨by rfl, ?_⟩) hS0 ?_
                        · intro W9 hS9
                          obtain ⟨q0, q1⟩ := hS9
                          clear q0 q1
                          go_simp
                        try simp only [Act.put, List.setIfInBounds_toArray, List.set_cons_zero, List.set_cons_succ]
                        refine wpAnyN_take (i := 19) (oi := { dst := some 169, op := Go.Op.move (Go.Operand.tmp 25), type := 4, pos := "law.go:75", after := #[{ on := 18, ground := Go.Ground.guard }], guard := some (18, false) }) (v := .bool false) rfl (by decide) (by kernel_rfl) (by kernel_rfl) (by kernel_rfl) (fun _ _ _ h => h) (Or.inl ⟨by rfl, ?_⟩) hS0 ?_
                        · intro W9 hS9
                          obtain ⟨q0, q1⟩ := hS9
                          clear q0 q1
                          go_simp
                        try simp only [Act.put, List.setIfInBounds_toArray, List.set_cons_zero, List.set_cons_succ]
                        refine wpAnyN_take (i := 20) (oi := { dst := some 170, op := Go.Op.move (Go.Operand.tmp 169), type := 4, pos := "law.go:75", after := #[{ on := 19, ground := Go.Ground.data }, { on := 18, ground := Go.Ground.chain }, { on := 18, ground := Go.Ground.guard }], guard := some (18, false) }) (v := .bool false) rfl (by decide) (by kernel_rfl) (by kernel_rfl) (by kernel_rfl) (fun _ _ _ h => h) (Or.inl ⟨by rfl, ?_⟩) hS0 ?_
                        · intro W9 hS9
                          obtain ⟨q0, q1⟩ := hS9
                          clear q0 q1
                          go_simp
                        try simp only [Act.put, List.setIfInBounds_toArray, List.set_cons_zero, List.set_cons_succ]
                        refine wpAnyN_take (i := 21) (oi := { dst := some 171, op := Go.Op.load 24 (Go.Operand.tmp 23), type := 24, pos := "law.go:75", after := #[{ on := 20, ground := Go.Ground.guard }], guard := some (20, true) }) (v := undef) rfl (by decide) (by kernel_rfl) (by kernel_rfl) (by kernel_rfl) (fun _ _ _ h => h) (Or.inr ⟨by rfl, rfl⟩) hS0 ?_
                        try simp only [Act.put, List.setIfInBounds_toArray, List.set_cons_zero, List.set_cons_succ]
                        refine wpAnyN_take (i := 22) (oi := { dst := some 172, op := Go.Op.fieldAddr 37 (Go.Operand.tmp 18) 0, type := 0, pos := "law.go:75", after := #[{ on := 20, ground := Go.Ground.guard }], guard := some (20, true) }) (v := undef) rfl (by decide) (by kernel_rfl) (by kernel_rfl) (by kernel_rfl) (fun _ _ _ h => h) (Or.inr ⟨by rfl, rfl⟩) hS0 ?_
                        try simp only [Act.put, List.setIfInBounds_toArray, List.set_cons_zero, List.set_cons_succ]
                        refine wpAnyN_take (i := 23) (oi := { dst := some 173, op := Go.Op.load 3 (Go.Operand.tmp 172), type := 3, pos := "law.go:75", after := #[{ on := 22, ground := Go.Ground.data }, { on := 20, ground := Go.Ground.guard }], guard := some (20, true) }) (v := undef) rfl (by decide) (by kernel_rfl) (by kernel_rfl) (by kernel_rfl) (fun _ _ _ h => h) (Or.inr ⟨by rfl, rfl⟩) hS0 ?_
                        try simp only [Act.put, List.setIfInBounds_toArray, List.set_cons_zero, List.set_cons_succ]
                        refine wpAnyN_take (i := 24) (oi := { dst := some 174, op := Go.Op.call { callee := Go.Callee.value (Go.Operand.func 19), args := #[Go.Operand.tmp 173], argTypes := #[3] }, type := 24, pos := "law.go:75", after := #[{ on := 23, ground := Go.Ground.data }, { on := 20, ground := Go.Ground.chain }, { on := 20, ground := Go.Ground.guard }], guard := some (20, true) }) (v := undef) rfl (by decide) (by kernel_rfl) (by kernel_rfl) (by kernel_rfl) (fun _ _ _ h => h) (Or.inr ⟨by rfl, rfl⟩) hS0 ?_
                        try simp only [Act.put, List.setIfInBounds_toArray, List.set_cons_zero, List.set_cons_succ]
                        refine wpAnyN_take (i := 25) (oi := { dst := some 175, op := Go.Op.call { callee := Go.Callee.value (Go.Operand.func 10), args := #[Go.Operand.tmp 171, Go.Operand.tmp 174], argTypes := #[24, 24] }, type := 4, pos := "law.go:75", after := #[{ on := 21, ground := Go.Ground.data }, { on := 24, ground := Go.Ground.data }, { on := 24, ground := Go.Ground.chain }, { on := 20, ground := Go.Ground.guard }], guard := some (20, true) }) (v := undef) rfl (by decide) (by kernel_rfl) (by kernel_rfl) (by kernel_rfl) (fun _ _ _ h => h) (Or.inr ⟨by rfl, rfl⟩) hS0 ?_
                        try simp only [Act.put, List.setIfInBounds_toArray, List.set_cons_zero, List.set_cons_succ]
                        refine wpAnyN_take (i := 26) (oi := { dst := some 176, op := Go.Op.unOp Go.UnOp.not 4 (Go.Operand.tmp 175), type := 4, pos := "law.go:75", after := #[{ on := 25, ground := Go.Ground.data }, { on := 20, ground := Go.Ground.guard }], guard := some (20, true) }) (v := undef) rfl (by decide) (by kernel_rfl) (by kernel_rfl) (by kernel_rfl) (fun _ _ _ h => h) (Or.inr ⟨by rfl, rfl⟩) hS0 ?_
                        try simp only [Act.put, List.setIfInBounds_toArray, List.set_cons_zero, List.set_cons_succ]
                        refine wpAnyN_take (i := 27) (oi := { dst := some 177, op := Go.Op.pick (Go.Operand.tmp 170) (Go.Operand.tmp 176) (Go.Operand.const (Go.Value.bool false)), type := 4, pos := "law.go:75", after := #[{ on := 20, ground := Go.Ground.data }, { on := 26, ground := Go.Ground.data }, { on := 18, ground := Go.Ground.guard }], guard := some (18, false) }) (v := .bool false) rfl (by decide) (by kernel_rfl) (by kernel_rfl) (by kernel_rfl) (fun _ _ _ h => h) (Or.inl ⟨by rfl, ?_⟩) hS0 ?_
                        · intro W9 hS9
                          obtain ⟨q0, q1⟩ := hS9
                          clear q0 q1
                          go_simp
                        try simp only [Act.put, List.setIfInBounds_toArray, List.set_cons_zero, List.set_cons_succ]
                        refine wpAnyN_take (i := 28) (oi := { dst := some 178, op := Go.Op.pick (Go.Operand.tmp 168) (Go.Operand.const (Go.Value.bool true)) (Go.Operand.tmp 177), type := 4, pos := "law.go:75", after := #[{ on := 18, ground := Go.Ground.data }, { on := 27, ground := Go.Ground.data }], guard := none }) (v := .bool false) rfl (by decide) (by kernel_rfl) (by kernel_rfl) (by kernel_rfl) (fun _ _ _ h => h) (Or.inl ⟨by rfl, ?_⟩) hS0 ?_
                        · intro W9 hS9
                          obtain ⟨q0, q1⟩ := hS9
                          clear q0 q1
                          go_simp
                        try simp only [Act.put, List.setIfInBounds_toArray, List.set_cons_zero, List.set_cons_succ]
                        refine wpAnyX_end (by kernel_rfl) ?_
                        clear hS0
                        go_wp2_with fail
                        go_roundw
                        case rel => exact ⟨k + 1, by omega, by omega, by go_num, HB5⟩
                        case measure => simp [intOf] <;> omega
                    | false =>
                      as_aux_lemma =>
                        have HT1 := fun (W : World) (h : PAt W (.slice a7 n7 c7) L) => HTq W (ei, eg) h
                        have HM1 := fun (W : World) (h : PAt W (.slice a7 n7 c7) L) => HMe W (ei, eg) h
                        rw [tagA_no hb, hb] at HT1
                        rw [hb] at HM1
                        dsimp only at HT1 HM1
                        clear hb
                        have cb0 : e0.cell? ⟨bA, 0, none⟩ = some (.slice a7 n7 c7) := (RA.out.below HBe.out RA.out.lt).cell 0
                        have lb0 := (RA.out.below HBe.out RA.out.lt).lt
                        have ce0 : e0.cell? ⟨bE, 0, none⟩ = some (.int .i64 ei) := RE.out.cell 0
                        have ce1 : e0.cell? ⟨bE, 1, none⟩ = some (.int .u64 (eg : Nat)) := RE.out.cell 1
                        have le := RE.out.lt
                        have HCL := HT1 e0 (PAt.below PA.out HBe.out)
                        go_wp2_with fail
                        refine HCL.out.mono ?_
                        rintro e y1 ⟨rfl, hB⟩
                        have RE1 := Lib.hid (RE.out.below hB RE.out.lt)
                        have HB1 := Lib.hid (HBe.out.trans (hB.mono HBe.out.size))
                        clear hB HCL cb0 lb0 ce0 ce1 le RE HBe
                        have cb0 : y1.cell? ⟨bA, 0, none⟩ = some (.slice a7 n7 c7) := (RA.out.below HB1.out RA.out.lt).cell 0
                        have lb0 := (RA.out.below HB1.out RA.out.lt).lt
                        have ce0 : y1.cell? ⟨bE, 0, none⟩ = some (.int .i64 ei) := RE1.out.cell 0
                        have ce1 : y1.cell? ⟨bE, 1, none⟩ = some (.int .u64 (eg : Nat)) := RE1.out.cell 1
                        have le := RE1.out.lt
                        have HCL := HM1 y1 (PAt.below PA.out HB1.out)
                        go_wp2_with fail
                        refine HCL.out.mono ?_
                        rintro e y2 ⟨rfl, hB⟩
                        have RE2 := Lib.hid (RE1.out.below hB RE1.out.lt)
                        have HB2 := Lib.hid (HB1.out.trans (hB.mono HB1.out.size))
                        clear hB HCL cb0 lb0 ce0 ce1 le RE1 HB1
                        have hNw := Try.New_any ei y2
                        rw [hm] at hNw
                        rw [if_neg (by decide)] at hNw
                        have cb0 : y2.cell? ⟨bA, 0, none⟩ = some (.slice a7 n7 c7) := (RA.out.below HB2.out RA.out.lt).cell 0
                        have lb0 := (RA.out.below HB2.out RA.out.lt).lt
                        have ce0 : y2.cell? ⟨bE, 0, none⟩ = some (.int .i64 ei) := RE2.out.cell 0
                        have ce1 : y2.cell? ⟨bE, 1, none⟩ = some (.int .u64 (eg : Nat)) := RE2.out.cell 1
                        have le := RE2.out.lt
                        have HCL := Lib.hid hNw
                        clear hNw
                        go_wp2_with fail
                        refine HCL.out.mono ?_
                        rintro e y3 ⟨⟨v9, rfl, hO⟩, hB⟩
                        have RE3 := Lib.hid (RE2.out.below hB RE2.out.lt)
                        have HB3 := Lib.hid (HB2.out.trans (hB.mono HB2.out.size))
                        rw [if_neg (by decide)] at hO
                        obtain ⟨a9, c9, hv⟩ := hO.form
                        subst hv
                        clear hO
                        clear hB HCL cb0 lb0 ce0 ce1 le RE2 HB2
                        have hal : Below y3.heap.size y3 (y3.alloc (.cells #[.slice a9 0 c9] 24)) := Rows8.newB
                        have RM4 := Lib.hid (Rows8.new y3 24 #[.slice a9 0 c9])
                        have RE4 := Lib.hid (RE3.out.below hal RE3.out.lt)
                        have HB4 := Lib.hid (HB3.out.trans (hal.mono HB3.out.size))
                        clear hal RE3 HB3
                        go_upto_region 33 with fail
                        generalize hu4 : (y3.alloc (.cells #[.slice a9 0 c9] 24)) = y4 at *
                        clear hu4
                        generalize y3.heap.size = bM at *
                        have hMy := Try.refMany_any ei y4
                        rw [hm] at hMy
                        have HCL := Lib.hid hMy
                        clear hMy
                        have ce0 : y4.cell? ⟨bE, 0, none⟩ = some (.int .i64 ei) := RE4.out.cell 0
                        have ce1 : y4.cell? ⟨bE, 1, none⟩ = some (.int .u64 (eg : Nat)) := RE4.out.cell 1
                        have le := RE4.out.lt
                        go_wp2_with fail
                        refine HCL.out.mono ?_
                        rintro e y5 ⟨rfl, hy5⟩
                        subst hy5
                        clear HCL ce0 ce1 le
                        go_upto_region 34 with fail
                        refine wp_region_X (fun W' => Rows8 W' bE 37 #[.int .i64 ei, .int .u64 (eg : Nat)] ∧ Rows8 W' bM 24 #[.slice a9 0 c9]) 29 (by kernel_rfl) ?_
                        have hS0 : Rows8 y5.drew bE 37 #[.int .i64 ei, .int .u64 (eg : Nat)] ∧ Rows8 y5.drew bM 24 #[.slice a9 0 c9] := ⟨RE4.out.drewA, RM4.out.drewA⟩
                        have HB5 := Lib.hid HB4.out.drew
                        clear RE4 RM4 HB4
                        generalize y5.drew = Wd at *
                        refine wpAnyN_take (i := 0) (oi := { dst := some 150, op := Go.Op.move (Go.Operand.tmp 24), type := 29, pos := "law.go:75", after := #[], guard := none }) (v := .int .i64 2) rfl (by decide) (by kernel_rfl) (by kernel_rfl) (by kernel_rfl) (fun _ _ _ h => h) (Or.inl ⟨by rfl, ?_⟩) hS0 ?_
                        · intro W9 hS9
                          obtain ⟨q0, q1⟩ := hS9
                          clear q0 q1
                          go_simp
                        try simp only [Act.put, List.setIfInBounds_toArray, List.set_cons_zero, List.set_cons_succ]
                        refine wpAnyN_take (i := 1) (oi := { dst := some 151, op := Go.Op.binOp Go.BinOp.eql 29 (Go.Operand.tmp 150) (Go.Operand.const (Go.Value.int Go.IntKind.i64 0)) 29, type := 4, pos := "law.go:75", after := #[{ on := 0, ground := Go.Ground.data }], guard := none }) (v := .bool false) rfl (by decide) (by kernel_rfl) (by kernel_rfl) (by kernel_rfl) (fun _ _ _ h => h) (Or.inl ⟨by rfl, ?_⟩) hS0 ?_
                        · intro W9 hS9
                          obtain ⟨q0, q1⟩ := hS9
                          clear q0 q1
                          go_simp
                        try simp only [Act.put, List.setIfInBounds_toArray, List.set_cons_zero, List.set_cons_succ]
                        refine wpAnyN_take (i := 2) (oi := { dst := some 152, op := Go.Op.move (Go.Operand.tmp 25), type := 4, pos := "law.go:75", after := #[], guard := none }) (v := .bool false) rfl (by decide) (by kernel_rfl) (by kernel_rfl) (by kernel_rfl) (fun _ _ _ h => h) (Or.inl ⟨by rfl, ?_⟩) hS0 ?_
                        · intro W9 hS9
                          obtain ⟨q0, q1⟩ := hS9
                          clear q0 q1
                          go_simp
                        try simp only [Act.put, List.setIfInBounds_toArray, List.set_cons_zero, List.set_cons_succ]
                        refine wpAnyN_take (i := 3) (oi := { dst := some 153, op := Go.Op.binOp Go.BinOp.neq 4 (Go.Operand.tmp 151) (Go.Operand.tmp 152) 4, type := 4, pos := "law.go:75", after := #[{ on := 1, ground := Go.Ground.data }, { on := 2, ground := Go.Ground.data }], guard := none }) (v := .bool false) rfl (by decide) (by kernel_rfl) (by kernel_rfl) (by kernel_rfl) (fun _ _ _ h => h) (Or.inl ⟨by rfl, ?_⟩) hS0 ?_
                        · intro W9 hS9
                          obtain ⟨q0, q1⟩ := hS9
                          clear q0 q1
                          go_simp
                        try simp only [Act.put, List.setIfInBounds_toArray, List.set_cons_zero, List.set_cons_succ]
                        refine wpAnyN_take (i := 4) (oi := { dst := some 154, op := Go.Op.move (Go.Operand.tmp 153), type := 4, pos := "law.go:75", after := #[{ on := 3, ground := Go.Ground.data }], guard := none }) (v := .bool false) rfl (by decide) (by kernel_rfl) (by kernel_rfl) (by kernel_rfl) (fun _ _ _ h => h) (Or.inl ⟨by rfl, ?_⟩) hS0 ?_
                        · intro W9 hS9
                          obtain ⟨q0, q1⟩ := hS9
                          clear q0 q1
                          go_simp
                        try simp only [Act.put, List.setIfInBounds_toArray, List.set_cons_zero, List.set_cons_succ]
                        refine wpAnyN_take (i := 5) (oi := { dst := some 155, op := Go.Op.move (Go.Operand.tmp 25), type := 4, pos := "law.go:75", after := #[{ on := 4, ground := Go.Ground.guard }], guard := some (4, false) }) (v := .bool false) rfl (by decide) (by kernel_rfl) (by kernel_rfl) (by kernel_rfl) (fun _ _ _ h => h) (Or.inl ⟨by rfl, ?_⟩) hS0 ?_
                        · intro W9 hS9
                          obtain ⟨q0, q1⟩ := hS9
                          clear q0 q1
                          go_simp
                        try simp only [Act.put, List.setIfInBounds_toArray, List.set_cons_zero, List.set_cons_succ]
                        refine wpAnyN_take (i := 6) (oi := { dst := some 156, op := Go.Op.unOp Go.UnOp.not 4 (Go.Operand.tmp 155), type := 4, pos := "law.go:75", after := #[{ on := 5, ground := Go.Ground.data }, { on := 4, ground := Go.Ground.guard }], guard := some (4, false) }) (v := .bool true) rfl (by decide) (by kernel_rfl) (by kernel_rfl) (by kernel_rfl) (fun _ _ _ h => h) (Or.inl ⟨by rfl, ?_⟩) hS0 ?_
                        · intro W9 hS9
                          obtain ⟨q0, q1⟩ := hS9
                          clear q0 q1
                          go_simp
                        try simp only [Act.put, List.setIfInBounds_toArray, List.set_cons_zero, List.set_cons_succ]
                        refine wpAnyN_take (i := 7) (oi := { dst := some 157, op := Go.Op.move (Go.Operand.tmp 156), type := 4, pos := "law.go:75", after := #[{ on := 6, ground := Go.Ground.data }, { on := 4, ground := Go.Ground.chain }, { on := 4, ground := Go.Ground.guard }], guard := some (4, false) }) (v := .bool true) rfl (by decide) (by kernel_rfl) (by kernel_rfl) (by kernel_rfl) (fun _ _ _ h => h) (Or.inl ⟨by rfl, ?_⟩) hS0 ?_
                        · intro W9 hS9
                          obtain ⟨q0, q1⟩ := hS9
                          clear q0 q1
                          go_simp
                        try simp only [Act.put, List.setIfInBounds_toArray, List.set_cons_zero, List.set_cons_succ]
                        refine wpAnyN_take (i := 8) (oi := { dst := some 158, op := Go.Op.move (Go.Operand.tmp 24), type := 29, pos := "law.go:75", after := #[{ on := 7, ground := Go.Ground.guard }], guard := some (7, true) }) (v := .int .i64 2) rfl (by decide) (by kernel_rfl) (by kernel_rfl) (by kernel_rfl) (fun _ _ _ h => h) (Or.inl ⟨by rfl, ?_⟩) hS0 ?_
                        · intro W9 hS9
                          obtain ⟨q0, q1⟩ := hS9
                          clear q0 q1
                          go_simp
                        try simp only [Act.put, List.setIfInBounds_toArray, List.set_cons_zero, List.set_cons_succ]
                        refine wpAnyN_take (i := 9) (oi := { dst := some 159, op := Go.Op.binOp Go.BinOp.neq 29 (Go.Operand.tmp 158) (Go.Operand.const (Go.Value.int Go.IntKind.i64 2)) 29, type := 4, pos := "law.go:75", after := #[{ on := 8, ground := Go.Ground.data }, { on := 7, ground := Go.Ground.guard }], guard := some (7, true) }) (v := .bool false) rfl (by decide) (by kernel_rfl) (by kernel_rfl) (by kernel_rfl) (fun _ _ _ h => h) (Or.inl ⟨by rfl, ?_⟩) hS0 ?_
                        · intro W9 hS9
                          obtain ⟨q0, q1⟩ := hS9
                          clear q0 q1
                          go_simp
                        try simp only [Act.put, List.setIfInBounds_toArray, List.set_cons_zero, List.set_cons_succ]
                        refine wpAnyN_take (i := 10) (oi := { dst := some 160, op := Go.Op.move (Go.Operand.tmp 159), type := 4, pos := "law.go:75", after := #[{ on := 9, ground := Go.Ground.data }, { on := 7, ground := Go.Ground.chain }, { on := 7, ground := Go.Ground.guard }], guard := some (7, true) }) (v := .bool false) rfl (by decide) (by kernel_rfl) (by kernel_rfl) (by kernel_rfl) (fun _ _ _ h => h) (Or.inl ⟨by rfl, ?_⟩) hS0 ?_
                        · intro W9 hS9
                          obtain ⟨q0, q1⟩ := hS9
                          clear q0 q1
                          go_simp
                        try simp only [Act.put, List.setIfInBounds_toArray, List.set_cons_zero, List.set_cons_succ]
                        refine wpAnyN_take (i := 11) (oi := { dst := some 161, op := Go.Op.fieldAddr 24 (Go.Operand.tmp 23) 0, type := 0, pos := "law.go:75", after := #[{ on := 10, ground := Go.Ground.guard }], guard := some (10, false) }) (v := .pointer (some ⟨bM, 0, none⟩)) rfl (by decide) (by kernel_rfl) (by kernel_rfl) (by kernel_rfl) (fun _ _ _ h => h) (Or.inl ⟨by rfl, ?_⟩) hS0 ?_
                        · intro W9 hS9
                          obtain ⟨q0, q1⟩ := hS9
                          clear q0 q1
                          go_simp
                        try simp only [Act.put, List.setIfInBounds_toArray, List.set_cons_zero, List.set_cons_succ]
                        refine wpAnyN_take (i := 12) (oi := { dst := some 162, op := Go.Op.load 22 (Go.Operand.tmp 161), type := 22, pos := "law.go:75", after := #[{ on := 11, ground := Go.Ground.data }, { on := 10, ground := Go.Ground.guard }], guard := some (10, false) }) (v := .slice a9 0 c9) rfl (by decide) (by kernel_rfl) (by kernel_rfl) (by kernel_rfl) (fun _ _ _ h => h) (Or.inl ⟨by rfl, ?_⟩) hS0 ?_
                        · intro W9 hS9
                          obtain ⟨q0, q1⟩ := hS9
                          have s0 : W9.cell? ⟨bE, 0, none⟩ = some (.int .i64 ei) := q0.cell 0
                          have s1 : W9.cell? ⟨bM, 0, none⟩ = some (.slice a9 0 c9) := q1.cell 0
                          clear q0 q1
                          go_simp
                        try simp only [Act.put, List.setIfInBounds_toArray, List.set_cons_zero, List.set_cons_succ]
                        refine wpAnyN_take (i := 13) (oi := { dst := some 163, op := Go.Op.call { callee := Go.Callee.builtin Go.Builtin.len, args := #[Go.Operand.tmp 162], argTypes := #[22] }, type := 3, pos := "law.go:75", after := #[{ on := 12, ground := Go.Ground.data }, { on := 10, ground := Go.Ground.guard }], guard := some (10, false) }) (v := .int .i64 0) rfl (by decide) (by kernel_rfl) (by kernel_rfl) (by kernel_rfl) (fun _ _ _ h => h) (Or.inl ⟨by rfl, ?_⟩) hS0 ?_
                        · intro W9 hS9
                          obtain ⟨q0, q1⟩ := hS9
                          clear q0 q1
                          go_simp
                        try simp only [Act.put, List.setIfInBounds_toArray, List.set_cons_zero, List.set_cons_succ]
                        refine wpAnyN_take (i := 14) (oi := { dst := some 164, op := Go.Op.binOp Go.BinOp.gtr 3 (Go.Operand.tmp 163) (Go.Operand.const (Go.Value.int Go.IntKind.i64 0)) 3, type := 4, pos := "law.go:75", after := #[{ on := 13, ground := Go.Ground.data }, { on := 10, ground := Go.Ground.guard }], guard := some (10, false) }) (v := .bool false) rfl (by decide) (by kernel_rfl) (by kernel_rfl) (by kernel_rfl) (fun _ _ _ h => h) (Or.inl ⟨by rfl, ?_⟩) hS0 ?_
                        · intro W9 hS9
                          obtain ⟨q0, q1⟩ := hS9
                          clear q0 q1
                          go_simp
                        try simp only [Act.put, List.setIfInBounds_toArray, List.set_cons_zero, List.set_cons_succ]
                        refine wpAnyN_take (i := 15) (oi := { dst := some 165, op := Go.Op.pick (Go.Operand.tmp 160) (Go.Operand.const (Go.Value.bool true)) (Go.Operand.tmp 164), type := 4, pos := "law.go:75", after := #[{ on := 10, ground := Go.Ground.data }, { on := 14, ground := Go.Ground.data }, { on := 7, ground := Go.Ground.guard }], guard := some (7, true) }) (v := .bool false) rfl (by decide) (by kernel_rfl) (by kernel_rfl) (by kernel_rfl) (fun _ _ _ h => h) (Or.inl ⟨by rfl, ?_⟩) hS0 ?_
                        · intro W9 hS9
                          obtain ⟨q0, q1⟩ := hS9
                          clear q0 q1
                          go_simp
                        try simp only [Act.put, List.setIfInBounds_toArray, List.set_cons_zero, List.set_cons_succ]
                        refine wpAnyN_take (i := 16) (oi := { dst := some 166, op := Go.Op.pick (Go.Operand.tmp 157) (Go.Operand.tmp 165) (Go.Operand.const (Go.Value.bool false)), type := 4, pos := "law.go:75", after := #[{ on := 7, ground := Go.Ground.data }, { on := 15, ground := Go.Ground.data }, { on := 4, ground := Go.Ground.guard }], guard := some (4, false) }) (v := .bool false) rfl (by decide) (by kernel_rfl) (by kernel_rfl) (by kernel_rfl) (fun _ _ _ h => h) (Or.inl ⟨by rfl, ?_⟩) hS0 ?_
                        · intro W9 hS9
                          obtain ⟨q0, q1⟩ := hS9
                          clear q0 q1
                          go_simp
                        try simp only [Act.put, List.setIfInBounds_toArray, List.set_cons_zero, List.set_cons_succ]
                        refine wpAnyN_take (i := 17) (oi := { dst := some 167, op := Go.Op.pick (Go.Operand.tmp 154) (Go.Operand.const (Go.Value.bool true)) (Go.Operand.tmp 166), type := 4, pos := "law.go:75", after := #[{ on := 4, ground := Go.Ground.data }, { on := 16, ground := Go.Ground.data }], guard := none }) (v := .bool false) rfl (by decide) (by kernel_rfl) (by kernel_rfl) (by kernel_rfl) (fun _ _ _ h => h) (Or.inl ⟨by rfl, ?_⟩) hS0 ?_
                        · intro W9 hS9
                          obtain ⟨q0, q1⟩ := hS9
                          clear q0 q1
                          go_simp
                        try simp only [Act.put, List.setIfInBounds_toArray, List.set_cons_zero, List.set_cons_succ]
                        refine wpAnyN_take (i := 18) (oi := { dst := some 168, op := Go.Op.move (Go.Operand.tmp 167), type := 4, pos := "law.go:75", after := #[{ on := 17, ground := Go.Ground.data }, { on := 10, ground := Go.Ground.chain }], guard := none }) (v := .bool false) rfl (by decide) (by kernel_rfl) (by kernel_rfl) (by kernel_rfl) (fun _ _ _ h => h) (Or.inl ⟨by rfl, ?_⟩) hS0 ?_
                        · intro W9 hS9
                          obtain ⟨q0, q1⟩ := hS9
                          clear q0 q1
                          go_simp
                        try simp only [Act.put, List.setIfInBounds_toArray, List.set_cons_zero, List.set_cons_succ]
                        refine wpAnyN_take (i := 19) (oi := { dst := some 169, op := Go.Op.move (Go.Operand.tmp 25), type := 4, pos := "law.go:75", after := #[{ on := 18, ground := Go.Ground.guard }], guard := some (18, false) }) (v := .bool false) rfl (by decide) (by kernel_rfl) (by kernel_rfl) (by kernel_rfl) (fun _ _ _ h => h) (Or.inl ⟨by rfl, ?_⟩) hS0 ?_
                        · intro W9 hS9
                          obtain ⟨q0, q1⟩ := hS9
                          clear q0 q1
                          go_simp
                        try simp only [Act.put, List.setIfInBounds_toArray, List.set_cons_zero, List.set_cons_succ]
                        refine wpAnyN_take (i := 20) (oi := { dst := some 170, op := Go.Op.move (Go.Operand.tmp 169), type := 4, pos := "law.go:75", after := #[{ on := 19, ground := Go.Ground.data }, { on := 18, ground := Go.Ground.chain }, { on := 18, ground := Go.Ground.guard }], guard := some (18, false) }) (v := .bool false) rfl (by decide) (by kernel_rfl) (by kernel_rfl) (by kernel_rfl) (fun _ _ _ h => h) (Or.inl ⟨by rfl, ?_⟩) hS0 ?_
                        · intro W9 hS9
                          obtain ⟨q0, q1⟩ := hS9
                          clear q0 q1
                          go_simp
                        try simp only [Act.put, List.setIfInBounds_toArray, List.set_cons_zero, List.set_cons_succ]
                        refine wpAnyN_take (i := 21) (oi := { dst := some 171, op := Go.Op.load 24 (Go.Operand.tmp 23), type := 24, pos := "law.go:75", after := #[{ on := 20, ground := Go.Ground.guard }], guard := some (20, true) }) (v := undef) rfl (by decide) (by kernel_rfl) (by kernel_rfl) (by kernel_rfl) (fun _ _ _ h => h) (Or.inr ⟨by rfl, rfl⟩) hS0 ?_
                        try simp only [Act.put, List.setIfInBounds_toArray, List.set_cons_zero, List.set_cons_succ]
                        refine wpAnyN_take (i := 22) (oi := { dst := some 172, op := Go.Op.fieldAddr 37 (Go.Operand.tmp 18) 0, type := 0, pos := "law.go:75", after := #[{ on := 20, ground := Go.Ground.guard }], guard := some (20, true) }) (v := undef) rfl (by decide) (by kernel_rfl) (by kernel_rfl) (by kernel_rfl) (fun _ _ _ h => h) (Or.inr ⟨by rfl, rfl⟩) hS0 ?_
                        try simp only [Act.put, List.setIfInBounds_toArray, List.set_cons_zero, List.set_cons_succ]
                        refine wpAnyN_take (i := 23) (oi := { dst := some 173, op := Go.Op.load 3 (Go.Operand.tmp 172), type := 3, pos := "law.go:75", after := #[{ on := 22, ground := Go.Ground.data }, { on := 20, ground := Go.Ground.guard }], guard := some (20, true) }) (v := undef) rfl (by decide) (by kernel_rfl) (by kernel_rfl) (by kernel_rfl) (fun _ _ _ h => h) (Or.inr ⟨by rfl, rfl⟩) hS0 ?_
                        try simp only [Act.put, List.setIfInBounds_toArray, List.set_cons_zero, List.set_cons_succ]
                        refine wpAnyN_take (i := 24) (oi := { dst := some 174, op := Go.Op.call { callee := Go.Callee.value (Go.Operand.func 19), args := #[Go.Operand.tmp 173], argTypes := #[3] }, type := 24, pos := "law.go:75", after := #[{ on := 23, ground := Go.Ground.data }, { on := 20, ground := Go.Ground.chain }, { on := 20, ground := Go.Ground.guard }], guard := some (20, true) }) (v := undef) rfl (by decide) (by kernel_rfl) (by kernel_rfl) (by kernel_rfl) (fun _ _ _ h => h) (Or.inr ⟨by rfl, rfl⟩) hS0 ?_
                        try simp only [Act.put, List.setIfInBounds_toArray, List.set_cons_zero, List.set_cons_succ]
                        refine wpAnyN_take (i := 25) (oi := { dst := some 175, op := Go.Op.call { callee := Go.Callee.value (Go.Operand.func 10), args := #[Go.Operand.tmp 171, Go.Operand.tmp 174], argTypes := #[24, 24] }, type := 4, pos := "law.go:75", after := #[{ on := 21, ground := Go.Ground.data }, { on := 24, ground := Go.Ground.data }, { on := 24, ground := Go.Ground.chain }, { on := 20, ground := Go.Ground.guard }], guard := some (20, true) }) (v := undef) rfl (by decide) (by kernel_rfl) (by kernel_rfl) (by kernel_rfl) (fun _ _ _ h => h) (Or.inr ⟨by rfl, rfl⟩) hS0 ?_
                        try simp only [Act.put, List.setIfInBounds_toArray, List.set_cons_zero, List.set_cons_succ]
                        refine wpAnyN_take (i := 26) (oi := { dst := some 176, op := Go.Op.unOp Go.UnOp.not 4 (Go.Operand.tmp 175), type := 4, pos := "law.go:75", after := #[{ on := 25, ground := Go.Ground.data }, { on := 20, ground := Go.Ground.guard }], guard := some (20, true) }) (v := undef) rfl (by decide) (by kernel_rfl) (by kernel_rfl) (by kernel_rfl) (fun _ _ _ h => h) (Or.inr ⟨by rfl, rfl⟩) hS0 ?_
                        try simp only [Act.put, List.setIfInBounds_toArray, List.set_cons_zero, List.set_cons_succ]
                        refine wpAnyN_take (i := 27) (oi := { dst := some 177, op := Go.Op.pick (Go.Operand.tmp 170) (Go.Operand.tmp 176) (Go.Operand.const (Go.Value.bool false)), type := 4, pos := "law.go:75", after := #[{ on := 20, ground := Go.Ground.data }, { on := 26, ground := Go.Ground.data }, { on := 18, ground := Go.Ground.guard }], guard := some (18, false) }) (v := .bool false) rfl (by decide) (by kernel_rfl) (by kernel_rfl) (by kernel_rfl) (fun _ _ _ h => h) (Or.inl ⟨by rfl, ?_⟩) hS0 ?_
                        · intro W9 hS9
                          obtain ⟨q0, q1⟩ := hS9
                          clear q0 q1
                          go_simp
                        try simp only [Act.put, List.setIfInBounds_toArray, List.set_cons_zero, List.set_cons_succ]
                        refine wpAnyN_take (i := 28) (oi := { dst := some 178, op := Go.Op.pick (Go.Operand.tmp 168) (Go.Operand.const (Go.Value.bool true)) (Go.Operand.tmp 177), type := 4, pos := "law.go:75", after := #[{ on := 18, ground := Go.Ground.data }, { on := 27, ground := Go.Ground.data }], guard := none }) (v := .bool false) rfl (by decide) (by kernel_rfl) (by kernel_rfl) (by kernel_rfl) (fun _ _ _ h => h) (Or.inl ⟨by rfl, ?_⟩) hS0 ?_
                        · intro W9 hS9
                          obtain ⟨q0, q1⟩ := hS9
                          clear q0 q1
                          go_simp
                        try simp only [Act.put, List.setIfInBounds_toArray, List.set_cons_zero, List.set_cons_succ]
                        refine wpAnyX_end (by kernel_rfl) ?_
                        clear hS0
                        go_wp2_with fail
                        go_roundw
                        case rel => exact ⟨k + 1, by omega, by omega, by go_num, HB5⟩
                        case measure => simp [intOf] <;> omega
              · obtain rfl : k = nl := by omega
                have hki : ¬ (k : Int) < (k : Int) := by omega
                go_upto_region 37 with fail
                refine wp_region_X (fun W' => Rows8 W' w.heap.size 24 #[.slice ax nx cx] ∧ Rows8 W' bA 24 #[.slice a7 n7 c7]) 5 (by kernel_rfl) ?_
                have hS0 : Rows8 wr.drew w.heap.size 24 #[.slice ax nx cx] ∧ Rows8 wr.drew bA 24 #[.slice a7 n7 c7] := ⟨(RX.out.below HB.out RX.out.lt).drewA, (RA.out.below HB.out RA.out.lt).drewA⟩
                have G0 := Lib.hid HB.out.drew
                generalize wr.drew = Wd at *
                refine wpAnyN_take (i := 0) (oi := { dst := some 180, op := Go.Op.load 24 (Go.Operand.tmp 7), type := 24, pos := "law.go:79", after := #[], guard := none }) (v := .agg #[.slice a7 n7 c7]) rfl (by decide) (by kernel_rfl) (by kernel_rfl) (by kernel_rfl) (fun _ _ _ h => h) (Or.inl ⟨by rfl, ?_⟩) hS0 ?_
                · intro W9 hS9
                  obtain ⟨q0, q1⟩ := hS9
                  have s0 : W9.cell? ⟨w.heap.size, 0, none⟩ = some (.slice ax nx cx) := q0.cell 0
                  have s1 : W9.cell? ⟨bA, 0, none⟩ = some (.slice a7 n7 c7) := q1.cell 0
                  clear q0 q1
                  go_simp
                try simp only [Act.put, List.setIfInBounds_toArray, List.set_cons_zero, List.set_cons_succ]
                refine wpAnyN_take (i := 1) (oi := { dst := some 181, op := Go.Op.load 24 (Go.Operand.tmp 3), type := 24, pos := "law.go:79", after := #[], guard := none }) (v := .agg #[.slice ax nx cx]) rfl (by decide) (by kernel_rfl) (by kernel_rfl) (by kernel_rfl) (fun _ _ _ h => h) (Or.inl ⟨by rfl, ?_⟩) hS0 ?_
                · intro W9 hS9
                  obtain ⟨q0, q1⟩ := hS9
                  have s0 : W9.cell? ⟨w.heap.size, 0, none⟩ = some (.slice ax nx cx) := q0.cell 0
                  have s1 : W9.cell? ⟨bA, 0, none⟩ = some (.slice a7 n7 c7) := q1.cell 0
                  clear q0 q1
                  go_simp
                try simp only [Act.put, List.setIfInBounds_toArray, List.set_cons_zero, List.set_cons_succ]
                refine wpAnyX_one (i := 2) (o := { dst := some 182, op := Go.Op.call { callee := Go.Callee.value (Go.Operand.func 6), args := #[Go.Operand.tmp 181], argTypes := #[24] }, type := 24, pos := "law.go:79", after := #[{ on := 1, ground := Go.Ground.data }], guard := none }) (by kernel_rfl) rfl (fun K hK => ?_)
                refine step_call_g (by rfl) 6 _ _ rfl (fun _ _ => by kernel_rfl) #[.agg #[.slice ax nx cx]] (by simp [go_sem]) _ (HOx Wd (PAt.below HI.out (B0.out.trans (G0.out.mono B0.out.size)))).out ?_
                rintro e g1 ⟨a9, n9, c9, rfl, h9, hO9, hC⟩
                refine ⟨_, rfl, ?_⟩
                have hS1 : Rows8 g1 w.heap.size 24 #[.slice ax nx cx] ∧ Rows8 g1 bA 24 #[.slice a7 n7 c7] := ⟨hS0.1.below hC hS0.1.lt, hS0.2.below hC hS0.2.lt⟩
                have G1 := Lib.hid (G0.out.trans (hC.mono G0.out.size))
                have P9 := Lib.hid hO9.at
                clear hO9
                clear hC
                refine hK.out _ _ (fun _ => hS1) ?_
                clear hK K
                try simp only [Act.put, List.setIfInBounds_toArray, List.set_cons_zero, List.set_cons_succ]
                refine wpAnyX_one (i := 3) (o := { dst := some 183, op := Go.Op.call { callee := Go.Callee.value (Go.Operand.func 10), args := #[Go.Operand.tmp 180, Go.Operand.tmp 182], argTypes := #[24, 24] }, type := 4, pos := "law.go:79", after := #[{ on := 0, ground := Go.Ground.data }, { on := 2, ground := Go.Ground.data }, { on := 2, ground := Go.Ground.chain }], guard := none }) (by kernel_rfl) rfl (fun K hK => ?_)
                refine step_call_g (by rfl) 10 _ _ rfl (fun _ _ => by kernel_rfl) #[.agg #[.slice a7 n7 c7], .agg #[.slice a9 n9 c9]] (by simp [go_sem]) _ (HSP g1 a9 n9 c9 (PAt.below PA.out G1.out) P9.out (by omega)).out ?_
                rintro e g2 ⟨rfl, hC⟩
                refine ⟨_, rfl, ?_⟩
                have hS2 : Rows8 g2 w.heap.size 24 #[.slice ax nx cx] ∧ Rows8 g2 bA 24 #[.slice a7 n7 c7] := ⟨hS1.1.below hC hS1.1.lt, hS1.2.below hC hS1.2.lt⟩
                have G2 := Lib.hid (G1.out.trans (hC.mono G1.out.size))
                clear hC
                refine hK.out _ _ (fun _ => hS2) ?_
                clear hK K
                try simp only [Act.put, List.setIfInBounds_toArray, List.set_cons_zero, List.set_cons_succ]
                refine wpAnyN_take (i := 4) (oi := { dst := some 6, op := Go.Op.assign (Go.Operand.tmp 183), type := 4, pos := "law.go:79", after := #[{ on := 3, ground := Go.Ground.data }, { on := 3, ground := Go.Ground.chain }, { on := 0, ground := Go.Ground.phase }, { on := 1, ground := Go.Ground.phase }, { on := 2, ground := Go.Ground.phase }, { on := 3, ground := Go.Ground.phase }], guard := none }) (v := .bool true) rfl (by decide) (by kernel_rfl) (by kernel_rfl) (by kernel_rfl) (fun _ _ _ h => h) (Or.inl ⟨by rfl, ?_⟩) hS2 ?_
                · intro W9 hS9
                  obtain ⟨q0, q1⟩ := hS9
                  clear q0 q1
                  go_simp
                try simp only [Act.put, List.setIfInBounds_toArray, List.set_cons_zero, List.set_cons_succ]
                refine wpAnyX_end (by kernel_rfl) ?_
                clear hS0 hS1 hS2
                go_wp2_with fail
                go_ret
                exact ⟨rfl, B0.out.trans (G2.out.mono B0.out.size)⟩
    | false =>
      as_aux_lemma =>
        have HEg := HEf.out rfl
        clear HRe HEf
        obtain rfl : N0 = 0 := by rw [HN0.out, HEg]; rfl
        obtain rfl : N1 = 0 := by rw [HN1.out, HEg]; rfl
        obtain rfl : N2 = 0 := by rw [HN2.out, HEg]; rfl
        have cb0 : wc.cell? ⟨bA, 0, none⟩ = some (.slice a7 n7 c7) := RA.out.cell 0
        have lb0 := RA.out.lt
        have HCL := HRt wc PA.out
        go_wp2_with fail
        refine HCL.out.mono ?_
        rintro e u4 ⟨rfl, hB⟩
        have RX := Lib.hid (RX.out.below hB RX.out.lt)
        have RA := Lib.hid (RA.out.below hB RA.out.lt)
        have RB := Lib.hid (RB.out.below hB RB.out.lt)
        have PA := Lib.hid (PAt.below PA.out hB)
        have PB := Lib.hid (PAt.below PB.out hB)
        have B0 := Lib.hid (B0.out.trans (hB.mono B0.out.size))
        clear hB HCL
        clear cb0 lb0
        have cb0 : u4.cell? ⟨bA, 0, none⟩ = some (.slice a7 n7 c7) := RA.out.cell 0
        have lb0 := RA.out.lt
        have HCL := HCk u4 PA.out
        go_wp2_with fail
        refine HCL.out.mono ?_
        rintro e u5 ⟨rfl, hB⟩
        have RX := Lib.hid (RX.out.below hB RX.out.lt)
        have RA := Lib.hid (RA.out.below hB RA.out.lt)
        have RB := Lib.hid (RB.out.below hB RB.out.lt)
        have PA := Lib.hid (PAt.below PA.out hB)
        have PB := Lib.hid (PAt.below PB.out hB)
        have B0 := Lib.hid (B0.out.trans (hB.mono B0.out.size))
        clear hB HCL
        clear cb0 lb0
        go_upto_region 6 with fail
        refine wp_region_X (fun W' => Rows8 W' w.heap.size 24 #[.slice ax nx cx] ∧ Rows8 W' bA 24 #[.slice a7 n7 c7] ∧ Rows8 W' bB 24 #[.slice a8 n8 c8]) 28 (by kernel_rfl) ?_
        have hS0 : Rows8 u5.drew w.heap.size 24 #[.slice ax nx cx] ∧ Rows8 u5.drew bA 24 #[.slice a7 n7 c7] ∧ Rows8 u5.drew bB 24 #[.slice a8 n8 c8] := ⟨RX.out.drewA, RA.out.drewA, RB.out.drewA⟩
        have PA : Hid (PAt u5.drew (.slice a7 n7 c7) L) := PA
        have PB : Hid (PAt u5.drew (.slice a8 n8 c8) M) := PB
        have B0 := Lib.hid B0.out.drew
        clear RX RA RB
        generalize u5.drew = Wd at *
        refine wpAnyN_take (i := 0) (oi := { dst := some 36, op := Go.Op.move (Go.Operand.tmp 10), type := 29, pos := "law.go:45", after := #[], guard := none }) (v := .int .i64 210) rfl (by decide) (by kernel_rfl) (by kernel_rfl) (by kernel_rfl) (fun _ _ _ h => h) (Or.inl ⟨by rfl, ?_⟩) hS0 ?_
        · intro W9 hS9
          obtain ⟨q0, q1, q2⟩ := hS9
          clear q0 q1 q2
          go_simp
        try simp only [Act.put, List.setIfInBounds_toArray, List.set_cons_zero, List.set_cons_succ]
        refine wpAnyN_take (i := 1) (oi := { dst := some 37, op := Go.Op.binOp Go.BinOp.eql 29 (Go.Operand.tmp 36) (Go.Operand.const (Go.Value.int Go.IntKind.i64 0)) 29, type := 4, pos := "law.go:45", after := #[{ on := 0, ground := Go.Ground.data }], guard := none }) (v := .bool false) rfl (by decide) (by kernel_rfl) (by kernel_rfl) (by kernel_rfl) (fun _ _ _ h => h) (Or.inl ⟨by rfl, ?_⟩) hS0 ?_
        · intro W9 hS9
          obtain ⟨q0, q1, q2⟩ := hS9
          clear q0 q1 q2
          go_simp
        try simp only [Act.put, List.setIfInBounds_toArray, List.set_cons_zero, List.set_cons_succ]
        refine wpAnyN_take (i := 2) (oi := { dst := some 38, op := Go.Op.move (Go.Operand.tmp 9), type := 4, pos := "law.go:45", after := #[], guard := none }) (v := .bool false) rfl (by decide) (by kernel_rfl) (by kernel_rfl) (by kernel_rfl) (fun _ _ _ h => h) (Or.inl ⟨by rfl, ?_⟩) hS0 ?_
        · intro W9 hS9
          obtain ⟨q0, q1, q2⟩ := hS9
          clear q0 q1 q2
          go_simp
        try simp only [Act.put, List.setIfInBounds_toArray, List.set_cons_zero, List.set_cons_succ]
        refine wpAnyN_take (i := 3) (oi := { dst := some 39, op := Go.Op.binOp Go.BinOp.neq 4 (Go.Operand.tmp 37) (Go.Operand.tmp 38) 4, type := 4, pos := "law.go:45", after := #[{ on := 1, ground := Go.Ground.data }, { on := 2, ground := Go.Ground.data }], guard := none }) (v := .bool false) rfl (by decide) (by kernel_rfl) (by kernel_rfl) (by kernel_rfl) (fun _ _ _ h => h) (Or.inl ⟨by rfl, ?_⟩) hS0 ?_
        · intro W9 hS9
          obtain ⟨q0, q1, q2⟩ := hS9
          clear q0 q1 q2
          go_simp
        try simp only [Act.put, List.setIfInBounds_toArray, List.set_cons_zero, List.set_cons_succ]
        refine wpAnyN_take (i := 4) (oi := { dst := some 40, op := Go.Op.move (Go.Operand.tmp 39), type := 4, pos := "law.go:45", after := #[{ on := 3, ground := Go.Ground.data }], guard := none }) (v := .bool false) rfl (by decide) (by kernel_rfl) (by kernel_rfl) (by kernel_rfl) (fun _ _ _ h => h) (Or.inl ⟨by rfl, ?_⟩) hS0 ?_
        · intro W9 hS9
          obtain ⟨q0, q1, q2⟩ := hS9
          clear q0 q1 q2
          go_simp
        try simp only [Act.put, List.setIfInBounds_toArray, List.set_cons_zero, List.set_cons_succ]
        refine wpAnyN_take (i := 5) (oi := { dst := some 41, op := Go.Op.move (Go.Operand.tmp 10), type := 29, pos := "law.go:45", after := #[{ on := 4, ground := Go.Ground.guard }], guard := some (4, false) }) (v := .int .i64 210) rfl (by decide) (by kernel_rfl) (by kernel_rfl) (by kernel_rfl) (fun _ _ _ h => h) (Or.inl ⟨by rfl, ?_⟩) hS0 ?_
        · intro W9 hS9
          obtain ⟨q0, q1, q2⟩ := hS9
          clear q0 q1 q2
          go_simp
        try simp only [Act.put, List.setIfInBounds_toArray, List.set_cons_zero, List.set_cons_succ]
        refine wpAnyN_take (i := 6) (oi := { dst := some 42, op := Go.Op.binOp Go.BinOp.neq 29 (Go.Operand.tmp 41) (Go.Operand.const (Go.Value.int Go.IntKind.i64 0)) 29, type := 4, pos := "law.go:45", after := #[{ on := 5, ground := Go.Ground.data }, { on := 4, ground := Go.Ground.guard }], guard := some (4, false) }) (v := .bool true) rfl (by decide) (by kernel_rfl) (by kernel_rfl) (by kernel_rfl) (fun _ _ _ h => h) (Or.inl ⟨by rfl, ?_⟩) hS0 ?_
        · intro W9 hS9
          obtain ⟨q0, q1, q2⟩ := hS9
          clear q0 q1 q2
          go_simp
        try simp only [Act.put, List.setIfInBounds_toArray, List.set_cons_zero, List.set_cons_succ]
        refine wpAnyN_take (i := 7) (oi := { dst := some 43, op := Go.Op.move (Go.Operand.tmp 42), type := 4, pos := "law.go:45", after := #[{ on := 6, ground := Go.Ground.data }, { on := 4, ground := Go.Ground.chain }, { on := 4, ground := Go.Ground.guard }], guard := some (4, false) }) (v := .bool true) rfl (by decide) (by kernel_rfl) (by kernel_rfl) (by kernel_rfl) (fun _ _ _ h => h) (Or.inl ⟨by rfl, ?_⟩) hS0 ?_
        · intro W9 hS9
          obtain ⟨q0, q1, q2⟩ := hS9
          clear q0 q1 q2
          go_simp
        try simp only [Act.put, List.setIfInBounds_toArray, List.set_cons_zero, List.set_cons_succ]
        refine wpAnyN_take (i := 8) (oi := { dst := some 44, op := Go.Op.move (Go.Operand.tmp 10), type := 29, pos := "law.go:45", after := #[{ on := 7, ground := Go.Ground.guard }], guard := some (7, true) }) (v := .int .i64 210) rfl (by decide) (by kernel_rfl) (by kernel_rfl) (by kernel_rfl) (fun _ _ _ h => h) (Or.inl ⟨by rfl, ?_⟩) hS0 ?_
        · intro W9 hS9
          obtain ⟨q0, q1, q2⟩ := hS9
          clear q0 q1 q2
          go_simp
        try simp only [Act.put, List.setIfInBounds_toArray, List.set_cons_zero, List.set_cons_succ]
        refine wpAnyN_take (i := 9) (oi := { dst := some 45, op := Go.Op.binOp Go.BinOp.neq 29 (Go.Operand.tmp 44) (Go.Operand.const (Go.Value.int Go.IntKind.i64 210)) 29, type := 4, pos := "law.go:45", after := #[{ on := 8, ground := Go.Ground.data }, { on := 7, ground := Go.Ground.guard }], guard := some (7, true) }) (v := .bool false) rfl (by decide) (by kernel_rfl) (by kernel_rfl) (by kernel_rfl) (fun _ _ _ h => h) (Or.inl ⟨by rfl, ?_⟩) hS0 ?_
        · intro W9 hS9
          obtain ⟨q0, q1, q2⟩ := hS9
          clear q0 q1 q2
          go_simp
        try simp only [Act.put, List.setIfInBounds_toArray, List.set_cons_zero, List.set_cons_succ]
        refine wpAnyN_take (i := 10) (oi := { dst := some 46, op := Go.Op.pick (Go.Operand.tmp 43) (Go.Operand.tmp 45) (Go.Operand.const (Go.Value.bool false)), type := 4, pos := "law.go:45", after := #[{ on := 7, ground := Go.Ground.data }, { on := 9, ground := Go.Ground.data }, { on := 4, ground := Go.Ground.guard }], guard := some (4, false) }) (v := .bool false) rfl (by decide) (by kernel_rfl) (by kernel_rfl) (by kernel_rfl) (fun _ _ _ h => h) (Or.inl ⟨by rfl, ?_⟩) hS0 ?_
        · intro W9 hS9
          obtain ⟨q0, q1, q2⟩ := hS9
          clear q0 q1 q2
          go_simp
        try simp only [Act.put, List.setIfInBounds_toArray, List.set_cons_zero, List.set_cons_succ]
        refine wpAnyN_take (i := 11) (oi := { dst := some 47, op := Go.Op.pick (Go.Operand.tmp 40) (Go.Operand.const (Go.Value.bool true)) (Go.Operand.tmp 46), type := 4, pos := "law.go:45", after := #[{ on := 4, ground := Go.Ground.data }, { on := 10, ground := Go.Ground.data }], guard := none }) (v := .bool false) rfl (by decide) (by kernel_rfl) (by kernel_rfl) (by kernel_rfl) (fun _ _ _ h => h) (Or.inl ⟨by rfl, ?_⟩) hS0 ?_
        · intro W9 hS9
          obtain ⟨q0, q1, q2⟩ := hS9
          clear q0 q1 q2
          go_simp
        try simp only [Act.put, List.setIfInBounds_toArray, List.set_cons_zero, List.set_cons_succ]
        refine wpAnyN_take (i := 12) (oi := { dst := some 48, op := Go.Op.move (Go.Operand.tmp 47), type := 4, pos := "law.go:45", after := #[{ on := 11, ground := Go.Ground.data }, { on := 7, ground := Go.Ground.chain }], guard := none }) (v := .bool false) rfl (by decide) (by kernel_rfl) (by kernel_rfl) (by kernel_rfl) (fun _ _ _ h => h) (Or.inl ⟨by rfl, ?_⟩) hS0 ?_
        · intro W9 hS9
          obtain ⟨q0, q1, q2⟩ := hS9
          clear q0 q1 q2
          go_simp
        try simp only [Act.put, List.setIfInBounds_toArray, List.set_cons_zero, List.set_cons_succ]
        refine wpAnyN_take (i := 13) (oi := { dst := some 49, op := Go.Op.load 24 (Go.Operand.tmp 7), type := 24, pos := "law.go:45", after := #[{ on := 12, ground := Go.Ground.guard }], guard := some (12, false) }) (v := .agg #[.slice a7 n7 c7]) rfl (by decide) (by kernel_rfl) (by kernel_rfl) (by kernel_rfl) (fun _ _ _ h => h) (Or.inl ⟨by rfl, ?_⟩) hS0 ?_
        · intro W9 hS9
          obtain ⟨q0, q1, q2⟩ := hS9
          have s0 : W9.cell? ⟨w.heap.size, 0, none⟩ = some (.slice ax nx cx) := q0.cell 0
          have s1 : W9.cell? ⟨bA, 0, none⟩ = some (.slice a7 n7 c7) := q1.cell 0
          have s2 : W9.cell? ⟨bB, 0, none⟩ = some (.slice a8 n8 c8) := q2.cell 0
          clear q0 q1 q2
          go_simp
        try simp only [Act.put, List.setIfInBounds_toArray, List.set_cons_zero, List.set_cons_succ]
        refine wpAnyN_take (i := 14) (oi := { dst := some 50, op := Go.Op.load 24 (Go.Operand.tmp 8), type := 24, pos := "law.go:45", after := #[{ on := 12, ground := Go.Ground.guard }], guard := some (12, false) }) (v := .agg #[.slice a8 n8 c8]) rfl (by decide) (by kernel_rfl) (by kernel_rfl) (by kernel_rfl) (fun _ _ _ h => h) (Or.inl ⟨by rfl, ?_⟩) hS0 ?_
        · intro W9 hS9
          obtain ⟨q0, q1, q2⟩ := hS9
          have s0 : W9.cell? ⟨w.heap.size, 0, none⟩ = some (.slice ax nx cx) := q0.cell 0
          have s1 : W9.cell? ⟨bA, 0, none⟩ = some (.slice a7 n7 c7) := q1.cell 0
          have s2 : W9.cell? ⟨bB, 0, none⟩ = some (.slice a8 n8 c8) := q2.cell 0
          clear q0 q1 q2
          go_simp
        try simp only [Act.put, List.setIfInBounds_toArray, List.set_cons_zero, List.set_cons_succ]
        refine wpAnyN_take (i := 16) (oi := { dst := some 52, op := Go.Op.load 24 (Go.Operand.tmp 7), type := 24, pos := "law.go:45", after := #[{ on := 12, ground := Go.Ground.guard }], guard := some (12, false) }) (v := .agg #[.slice a7 n7 c7]) rfl (by decide) (by kernel_rfl) (by kernel_rfl) (by kernel_rfl) (fun _ _ _ h => h) (Or.inl ⟨by rfl, ?_⟩) hS0 ?_
        · intro W9 hS9
          obtain ⟨q0, q1, q2⟩ := hS9
          have s0 : W9.cell? ⟨w.heap.size, 0, none⟩ = some (.slice ax nx cx) := q0.cell 0
          have s1 : W9.cell? ⟨bA, 0, none⟩ = some (.slice a7 n7 c7) := q1.cell 0
          have s2 : W9.cell? ⟨bB, 0, none⟩ = some (.slice a8 n8 c8) := q2.cell 0
          clear q0 q1 q2
          go_simp
        try simp only [Act.put, List.setIfInBounds_toArray, List.set_cons_zero, List.set_cons_succ]
        refine wpAnyN_take (i := 17) (oi := { dst := some 53, op := Go.Op.load 24 (Go.Operand.tmp 8), type := 24, pos := "law.go:45", after := #[{ on := 12, ground := Go.Ground.guard }], guard := some (12, false) }) (v := .agg #[.slice a8 n8 c8]) rfl (by decide) (by kernel_rfl) (by kernel_rfl) (by kernel_rfl) (fun _ _ _ h => h) (Or.inl ⟨by rfl, ?_⟩) hS0 ?_
        · intro W9 hS9
          obtain ⟨q0, q1, q2⟩ := hS9
          have s0 : W9.cell? ⟨w.heap.size, 0, none⟩ = some (.slice ax nx cx) := q0.cell 0
          have s1 : W9.cell? ⟨bA, 0, none⟩ = some (.slice a7 n7 c7) := q1.cell 0
          have s2 : W9.cell? ⟨bB, 0, none⟩ = some (.slice a8 n8 c8) := q2.cell 0
          clear q0 q1 q2
          go_simp
        try simp only [Act.put, List.setIfInBounds_toArray, List.set_cons_zero, List.set_cons_succ]
        refine wpAnyX_one (i := 15) (o := { dst := some 51, op := Go.Op.call { callee := Go.Callee.value (Go.Operand.func 9), args := #[Go.Operand.tmp 49, Go.Operand.tmp 50], argTypes := #[24, 24] }, type := 4, pos := "law.go:45", after := #[{ on := 13, ground := Go.Ground.data }, { on := 14, ground := Go.Ground.data }, { on := 12, ground := Go.Ground.chain }, { on := 12, ground := Go.Ground.guard }], guard := some (12, false) }) (by kernel_rfl) rfl (fun K hK => ?_)
        refine step_call_g (by rfl) 9 _ _ rfl (fun _ _ => by kernel_rfl) #[.agg #[.slice a7 n7 c7], .agg #[.slice a8 n8 c8]] (by simp [go_sem]) _ (HSm Wd PA.out PB.out).out ?_
        rintro e W1 ⟨rfl, hC⟩
        refine ⟨_, rfl, ?_⟩
        have hS1 : Rows8 W1 w.heap.size 24 #[.slice ax nx cx] ∧ Rows8 W1 bA 24 #[.slice a7 n7 c7] ∧ Rows8 W1 bB 24 #[.slice a8 n8 c8] := ⟨hS0.1.below hC hS0.1.lt, hS0.2.1.below hC hS0.2.1.lt, hS0.2.2.below hC hS0.2.2.lt⟩
        have PA := Lib.hid (PAt.below PA.out hC)
        have PB := Lib.hid (PAt.below PB.out hC)
        have B0 := Lib.hid (B0.out.trans (hC.mono B0.out.size))
        clear hC
        refine hK.out _ _ (fun _ => hS1) ?_
        clear hK K
        try simp only [Act.put, List.setIfInBounds_toArray, List.set_cons_zero, List.set_cons_succ]
        refine wpAnyX_one (i := 18) (o := { dst := some 54, op := Go.Op.call { callee := Go.Callee.value (Go.Operand.func 10), args := #[Go.Operand.tmp 52, Go.Operand.tmp 53], argTypes := #[24, 24] }, type := 4, pos := "law.go:45", after := #[{ on := 16, ground := Go.Ground.data }, { on := 17, ground := Go.Ground.data }, { on := 15, ground := Go.Ground.chain }, { on := 12, ground := Go.Ground.guard }], guard := some (12, false) }) (by kernel_rfl) rfl (fun K hK => ?_)
        refine step_call_g (by rfl) 10 _ _ rfl (fun _ _ => by kernel_rfl) #[.agg #[.slice a7 n7 c7], .agg #[.slice a8 n8 c8]] (by simp [go_sem]) _ (HSr W1 PA.out PB.out).out ?_
        rintro e W2 ⟨rfl, hC⟩
        refine ⟨_, rfl, ?_⟩
        have hS2 : Rows8 W2 w.heap.size 24 #[.slice ax nx cx] ∧ Rows8 W2 bA 24 #[.slice a7 n7 c7] ∧ Rows8 W2 bB 24 #[.slice a8 n8 c8] := ⟨hS1.1.below hC hS1.1.lt, hS1.2.1.below hC hS1.2.1.lt, hS1.2.2.below hC hS1.2.2.lt⟩
        have PA := Lib.hid (PAt.below PA.out hC)
        have PB := Lib.hid (PAt.below PB.out hC)
        have B0 := Lib.hid (B0.out.trans (hC.mono B0.out.size))
        clear hC
        refine hK.out _ _ (fun _ => hS2) ?_
        clear hK K
        try simp only [Act.put, List.setIfInBounds_toArray, List.set_cons_zero, List.set_cons_succ]
        refine wpAnyN_take (i := 19) (oi := { dst := some 55, op := Go.Op.binOp Go.BinOp.neq 4 (Go.Operand.tmp 51) (Go.Operand.tmp 54) 4, type := 4, pos := "law.go:45", after := #[{ on := 15, ground := Go.Ground.data }, { on := 18, ground := Go.Ground.data }, { on := 12, ground := Go.Ground.guard }], guard := some (12, false) }) (v := .bool false) rfl (by decide) (by kernel_rfl) (by kernel_rfl) (by kernel_rfl) (fun _ _ _ h => h) (Or.inl ⟨by rfl, ?_⟩) hS2 ?_
        · intro W9 hS9
          obtain ⟨q0, q1, q2⟩ := hS9
          clear q0 q1 q2
          go_simp
        try simp only [Act.put, List.setIfInBounds_toArray, List.set_cons_zero, List.set_cons_succ]
        refine wpAnyN_take (i := 20) (oi := { dst := some 56, op := Go.Op.pick (Go.Operand.tmp 48) (Go.Operand.const (Go.Value.bool true)) (Go.Operand.tmp 55), type := 4, pos := "law.go:45", after := #[{ on := 12, ground := Go.Ground.data }, { on := 19, ground := Go.Ground.data }], guard := none }) (v := .bool false) rfl (by decide) (by kernel_rfl) (by kernel_rfl) (by kernel_rfl) (fun _ _ _ h => h) (Or.inl ⟨by rfl, ?_⟩) hS2 ?_
        · intro W9 hS9
          obtain ⟨q0, q1, q2⟩ := hS9
          clear q0 q1 q2
          go_simp
        try simp only [Act.put, List.setIfInBounds_toArray, List.set_cons_zero, List.set_cons_succ]
        refine wpAnyN_take (i := 21) (oi := { dst := some 57, op := Go.Op.move (Go.Operand.tmp 56), type := 4, pos := "law.go:45", after := #[{ on := 20, ground := Go.Ground.data }, { on := 18, ground := Go.Ground.chain }], guard := none }) (v := .bool false) rfl (by decide) (by kernel_rfl) (by kernel_rfl) (by kernel_rfl) (fun _ _ _ h => h) (Or.inl ⟨by rfl, ?_⟩) hS2 ?_
        · intro W9 hS9
          obtain ⟨q0, q1, q2⟩ := hS9
          clear q0 q1 q2
          go_simp
        try simp only [Act.put, List.setIfInBounds_toArray, List.set_cons_zero, List.set_cons_succ]
        refine wpAnyN_take (i := 22) (oi := { dst := some 58, op := Go.Op.load 24 (Go.Operand.tmp 7), type := 24, pos := "law.go:45", after := #[{ on := 21, ground := Go.Ground.guard }], guard := some (21, false) }) (v := .agg #[.slice a7 n7 c7]) rfl (by decide) (by kernel_rfl) (by kernel_rfl) (by kernel_rfl) (fun _ _ _ h => h) (Or.inl ⟨by rfl, ?_⟩) hS2 ?_
        · intro W9 hS9
          obtain ⟨q0, q1, q2⟩ := hS9
          have s0 : W9.cell? ⟨w.heap.size, 0, none⟩ = some (.slice ax nx cx) := q0.cell 0
          have s1 : W9.cell? ⟨bA, 0, none⟩ = some (.slice a7 n7 c7) := q1.cell 0
          have s2 : W9.cell? ⟨bB, 0, none⟩ = some (.slice a8 n8 c8) := q2.cell 0
          clear q0 q1 q2
          go_simp
        try simp only [Act.put, List.setIfInBounds_toArray, List.set_cons_zero, List.set_cons_succ]
        refine wpAnyN_take (i := 23) (oi := { dst := some 59, op := Go.Op.load 24 (Go.Operand.tmp 3), type := 24, pos := "law.go:45", after := #[{ on := 21, ground := Go.Ground.guard }], guard := some (21, false) }) (v := .agg #[.slice ax nx cx]) rfl (by decide) (by kernel_rfl) (by kernel_rfl) (by kernel_rfl) (fun _ _ _ h => h) (Or.inl ⟨by rfl, ?_⟩) hS2 ?_
        · intro W9 hS9
          obtain ⟨q0, q1, q2⟩ := hS9
          have s0 : W9.cell? ⟨w.heap.size, 0, none⟩ = some (.slice ax nx cx) := q0.cell 0
          have s1 : W9.cell? ⟨bA, 0, none⟩ = some (.slice a7 n7 c7) := q1.cell 0
          have s2 : W9.cell? ⟨bB, 0, none⟩ = some (.slice a8 n8 c8) := q2.cell 0
          clear q0 q1 q2
          go_simp
        try simp only [Act.put, List.setIfInBounds_toArray, List.set_cons_zero, List.set_cons_succ]
        refine wpAnyX_one (i := 24) (o := { dst := some 60, op := Go.Op.call { callee := Go.Callee.value (Go.Operand.func 6), args := #[Go.Operand.tmp 59], argTypes := #[24] }, type := 24, pos := "law.go:45", after := #[{ on := 23, ground := Go.Ground.data }, { on := 21, ground := Go.Ground.chain }, { on := 21, ground := Go.Ground.guard }], guard := some (21, false) }) (by kernel_rfl) rfl (fun K hK => ?_)
        refine step_call_g (by rfl) 6 _ _ rfl (fun _ _ => by kernel_rfl) #[.agg #[.slice ax nx cx]] (by simp [go_sem]) _ (HOx W2 (PAt.below HI.out B0.out)).out ?_
        rintro e W3 ⟨a9, n9, c9, rfl, h9, hO9, hC⟩
        refine ⟨_, rfl, ?_⟩
        have hS3 : Rows8 W3 w.heap.size 24 #[.slice ax nx cx] ∧ Rows8 W3 bA 24 #[.slice a7 n7 c7] ∧ Rows8 W3 bB 24 #[.slice a8 n8 c8] := ⟨hS2.1.below hC hS2.1.lt, hS2.2.1.below hC hS2.2.1.lt, hS2.2.2.below hC hS2.2.2.lt⟩
        have PA := Lib.hid (PAt.below PA.out hC)
        have PB := Lib.hid (PAt.below PB.out hC)
        have B0 := Lib.hid (B0.out.trans (hC.mono B0.out.size))
        have P9 := Lib.hid hO9.at
        clear hO9
        clear hC
        refine hK.out _ _ (fun _ => hS3) ?_
        clear hK K
        try simp only [Act.put, List.setIfInBounds_toArray, List.set_cons_zero, List.set_cons_succ]
        refine wpAnyX_one (i := 25) (o := { dst := some 61, op := Go.Op.call { callee := Go.Callee.value (Go.Operand.func 9), args := #[Go.Operand.tmp 58, Go.Operand.tmp 60], argTypes := #[24, 24] }, type := 4, pos := "law.go:45", after := #[{ on := 22, ground := Go.Ground.data }, { on := 24, ground := Go.Ground.data }, { on := 24, ground := Go.Ground.chain }, { on := 21, ground := Go.Ground.guard }], guard := some (21, false) }) (by kernel_rfl) rfl (fun K hK => ?_)
        refine step_call_g (by rfl) 9 _ _ rfl (fun _ _ => by kernel_rfl) #[.agg #[.slice a7 n7 c7], .agg #[.slice a9 n9 c9]] (by simp [go_sem]) _ (HSO W3 a9 n9 c9 PA.out P9.out (by omega)).out ?_
        rintro e W4 ⟨rfl, hC⟩
        refine ⟨_, rfl, ?_⟩
        have hS4 : Rows8 W4 w.heap.size 24 #[.slice ax nx cx] ∧ Rows8 W4 bA 24 #[.slice a7 n7 c7] ∧ Rows8 W4 bB 24 #[.slice a8 n8 c8] := ⟨hS3.1.below hC hS3.1.lt, hS3.2.1.below hC hS3.2.1.lt, hS3.2.2.below hC hS3.2.2.lt⟩
        have PA := Lib.hid (PAt.below PA.out hC)
        have PB := Lib.hid (PAt.below PB.out hC)
        have B0 := Lib.hid (B0.out.trans (hC.mono B0.out.size))
        clear hC
        refine hK.out _ _ (fun _ => hS4) ?_
        clear hK K
        try simp only [Act.put, List.setIfInBounds_toArray, List.set_cons_zero, List.set_cons_succ]
        refine wpAnyN_take (i := 26) (oi := { dst := some 62, op := Go.Op.unOp Go.UnOp.not 4 (Go.Operand.tmp 61), type := 4, pos := "law.go:45", after := #[{ on := 25, ground := Go.Ground.data }, { on := 21, ground := Go.Ground.guard }], guard := some (21, false) }) (v := .bool false) rfl (by decide) (by kernel_rfl) (by kernel_rfl) (by kernel_rfl) (fun _ _ _ h => h) (Or.inl ⟨by rfl, ?_⟩) hS4 ?_
        · intro W9 hS9
          obtain ⟨q0, q1, q2⟩ := hS9
          clear q0 q1 q2
          go_simp
        try simp only [Act.put, List.setIfInBounds_toArray, List.set_cons_zero, List.set_cons_succ]
        refine wpAnyN_take (i := 27) (oi := { dst := some 63, op := Go.Op.pick (Go.Operand.tmp 57) (Go.Operand.const (Go.Value.bool true)) (Go.Operand.tmp 62), type := 4, pos := "law.go:45", after := #[{ on := 21, ground := Go.Ground.data }, { on := 26, ground := Go.Ground.data }], guard := none }) (v := .bool false) rfl (by decide) (by kernel_rfl) (by kernel_rfl) (by kernel_rfl) (fun _ _ _ h => h) (Or.inl ⟨by rfl, ?_⟩) hS4 ?_
        · intro W9 hS9
          obtain ⟨q0, q1, q2⟩ := hS9
          clear q0 q1 q2
          go_simp
        try simp only [Act.put, List.setIfInBounds_toArray, List.set_cons_zero, List.set_cons_succ]
        refine wpAnyX_end (by kernel_rfl) ?_
        clear P9
        have RX := Lib.hid hS4.1
        have RA := Lib.hid hS4.2.1
        have RB := Lib.hid hS4.2.2
        clear hS0 hS1 hS2 hS3 hS4
        go_wp2_with fail
        have HB := Lib.hid (Rows8.newB (W := W4) (t := 32) (cs := #[.int .i64 0, .int .i64 0, .int .i64 0]))
        have hR := Lib.hid (Rows8.new W4 32 #[.int .i64 0, .int .i64 0, .int .i64 0])
        generalize (W4.alloc (.cells #[.int .i64 0, .int .i64 0, .int .i64 0] 32)) = u7 at *
        go_loopw [64] (fun i wr => ((i = .int .i64 0 ∧ Hid (Rows8 wr W4.heap.size 32 #[.int .i64 0, .int .i64 0, .int .i64 0])) ∨ (i = .int .i64 1 ∧ Hid (Rows8 wr W4.heap.size 32 #[.int .i64 0, .int .i64 0, .int .i64 0])) ∨ (i = .int .i64 2 ∧ Hid (Rows8 wr W4.heap.size 32 #[.int .i64 0, .int .i64 0, .int .i64 0])) ∨ (i = .int .i64 3 ∧ Hid (Rows8 wr W4.heap.size 32 #[.int .i64 0, .int .i64 0, .int .i64 0]))) ∧ Hid (Below W4.heap.size W4 wr)) (fun i _ => 3 - (intOf i).toNat)
        case atStart => exact ⟨Or.inl ⟨rfl, hR⟩, HB⟩
        case round =>
          clear hR HB
          obtain ⟨hrel, HB⟩ := hrel
          rcases hrel with ⟨rfl, hR⟩ | ⟨rfl, hR⟩ | ⟨rfl, hR⟩ | ⟨rfl, hR⟩
          · as_aux_lemma =>
              have lN := hR.out.lt
              have PAr := Lib.hid (PAt.below PA.out HB.out)
              have cN : wr.cell? ⟨W4.heap.size, 0, none⟩ = some (.int .i64 0) := hR.out.cell 0
              have fN := hR.out.frozen 0
              have lN1 := hR.out.lt
              have cb0 : wr.cell? ⟨bA, 0, none⟩ = some (.slice a7 n7 c7) := (RA.out.below HB.out RA.out.lt).cell 0
              have lb0 := (RA.out.below HB.out RA.out.lt).lt
              have hR2 := hR.out.set 0 (.int .i64 0)
              simp only [List.setIfInBounds_toArray, List.set_cons_zero, List.set_cons_succ] at hR2
              have hB2 := HB.out.setCell (p := ⟨W4.heap.size, 0, none⟩) (Nat.le_refl _) (.int .i64 0)
              have hR2 := Lib.hid hR2
              have HB2 := Lib.hid hB2
              clear hB2
              go_upto_region 16 with fail
              generalize wr.setCell ⟨W4.heap.size, 0, none⟩ (.int .i64 0) = y2 at *
              clear cN fN lN1 lN hR HB
              clear cb0 lb0
              have PA2 := Lib.hid (PAt.below PA.out HB2.out)
              have cb0 : y2.cell? ⟨bA, 0, none⟩ = some (.slice a7 n7 c7) := (RA.out.below HB2.out RA.out.lt).cell 0
              have lb0 := (RA.out.below HB2.out RA.out.lt).lt
              have HCL := HEn y2 0 PA2.out
              go_wp2_with fail
              refine HCL.out.mono ?_
              rintro e y3 ⟨v3, rfl, hO, hB⟩
              rw [HEg 0] at hO
              obtain ⟨a3, c3, hv⟩ := hO.form
              subst hv
              have heq := Try.equalEntry_any _ _ _ _ _ _ [] [] y3 hO.at (pAt_none y3) (by decide) (by decide)
              rw [decide_eq_true rfl] at heq
              have HEQ := Lib.hid heq
              have hR3 := Lib.hid (hR2.out.below hB hR2.out.lt)
              have HB3 := Lib.hid (HB2.out.trans (hB.mono HB2.out.size))
              clear heq hO hB HCL hR2 HB2
              clear cb0 lb0
              go_wp2_with fail
              refine HEQ.out.mono ?_
              rintro e y4 ⟨rfl, hB⟩
              have hR4 := Lib.hid (hR3.out.below hB hR3.out.lt)
              have HB4 := Lib.hid (HB3.out.trans (hB.mono HB3.out.size))
              clear hB HEQ hR3 HB3
              go_wp2_with fail
              refine ⟨⟨?_, HB4⟩, by simp [intOf]⟩
              exact Or.inr (Or.inl ⟨by go_num, hR4⟩)
          · as_aux_lemma =>
              have lN := hR.out.lt
              have PAr := Lib.hid (PAt.below PA.out HB.out)
              have cN : wr.cell? ⟨W4.heap.size, 1, none⟩ = some (.int .i64 0) := hR.out.cell 1
              have fN := hR.out.frozen 1
              have lN1 := hR.out.lt
              have cb0 : wr.cell? ⟨bA, 0, none⟩ = some (.slice a7 n7 c7) := (RA.out.below HB.out RA.out.lt).cell 0
              have lb0 := (RA.out.below HB.out RA.out.lt).lt
              have hR2 := hR.out.set 1 (.int .i64 0)
              simp only [List.setIfInBounds_toArray, List.set_cons_zero, List.set_cons_succ] at hR2
              have hB2 := HB.out.setCell (p := ⟨W4.heap.size, 1, none⟩) (Nat.le_refl _) (.int .i64 0)
              have hR2 := Lib.hid hR2
              have HB2 := Lib.hid hB2
              clear hB2
              go_upto_region 16 with fail
              generalize wr.setCell ⟨W4.heap.size, 1, none⟩ (.int .i64 0) = y2 at *
              clear cN fN lN1 lN hR HB
              clear cb0 lb0
              have PA2 := Lib.hid (PAt.below PA.out HB2.out)
              have cb0 : y2.cell? ⟨bA, 0, none⟩ = some (.slice a7 n7 c7) := (RA.out.below HB2.out RA.out.lt).cell 0
              have lb0 := (RA.out.below HB2.out RA.out.lt).lt
              have HCL := HEn y2 1 PA2.out
              go_wp2_with fail
              refine HCL.out.mono ?_
              rintro e y3 ⟨v3, rfl, hO, hB⟩
              rw [HEg 1] at hO
              obtain ⟨a3, c3, hv⟩ := hO.form
              subst hv
              have heq := Try.equalEntry_any _ _ _ _ _ _ [] [] y3 hO.at (pAt_none y3) (by decide) (by decide)
              rw [decide_eq_true rfl] at heq
              have HEQ := Lib.hid heq
              have hR3 := Lib.hid (hR2.out.below hB hR2.out.lt)
              have HB3 := Lib.hid (HB2.out.trans (hB.mono HB2.out.size))
              clear heq hO hB HCL hR2 HB2
              clear cb0 lb0
              go_wp2_with fail
              refine HEQ.out.mono ?_
              rintro e y4 ⟨rfl, hB⟩
              have hR4 := Lib.hid (hR3.out.below hB hR3.out.lt)
              have HB4 := Lib.hid (HB3.out.trans (hB.mono HB3.out.size))
              clear hB HEQ hR3 HB3
              go_wp2_with fail
              refine ⟨⟨?_, HB4⟩, by simp [intOf]⟩
              exact Or.inr (Or.inr (Or.inl ⟨by go_num, hR4⟩))
          · as_aux_lemma =>
              have lN := hR.out.lt
              have PAr := Lib.hid (PAt.below PA.out HB.out)
              have cN : wr.cell? ⟨W4.heap.size, 2, none⟩ = some (.int .i64 0) := hR.out.cell 2
              have fN := hR.out.frozen 2
              have lN1 := hR.out.lt
              have cb0 : wr.cell? ⟨bA, 0, none⟩ = some (.slice a7 n7 c7) := (RA.out.below HB.out RA.out.lt).cell 0
              have lb0 := (RA.out.below HB.out RA.out.lt).lt
              have hR2 := hR.out.set 2 (.int .i64 0)
              simp only [List.setIfInBounds_toArray, List.set_cons_zero, List.set_cons_succ] at hR2
              have hB2 := HB.out.setCell (p := ⟨W4.heap.size, 2, none⟩) (Nat.le_refl _) (.int .i64 0)
              have hR2 := Lib.hid hR2
              have HB2 := Lib.hid hB2
              clear hB2
              go_upto_region 16 with fail
              generalize wr.setCell ⟨W4.heap.size, 2, none⟩ (.int .i64 0) = y2 at *
              clear cN fN lN1 lN hR HB
              clear cb0 lb0
              have PA2 := Lib.hid (PAt.below PA.out HB2.out)
              have cb0 : y2.cell? ⟨bA, 0, none⟩ = some (.slice a7 n7 c7) := (RA.out.below HB2.out RA.out.lt).cell 0
              have lb0 := (RA.out.below HB2.out RA.out.lt).lt
              have HCL := HEn y2 2 PA2.out
              go_wp2_with fail
              refine HCL.out.mono ?_
              rintro e y3 ⟨v3, rfl, hO, hB⟩
              rw [HEg 2] at hO
              obtain ⟨a3, c3, hv⟩ := hO.form
              subst hv
              have heq := Try.equalEntry_any _ _ _ _ _ _ [] [] y3 hO.at (pAt_none y3) (by decide) (by decide)
              rw [decide_eq_true rfl] at heq
              have HEQ := Lib.hid heq
              have hR3 := Lib.hid (hR2.out.below hB hR2.out.lt)
              have HB3 := Lib.hid (HB2.out.trans (hB.mono HB2.out.size))
              clear heq hO hB HCL hR2 HB2
              clear cb0 lb0
              go_wp2_with fail
              refine HEQ.out.mono ?_
              rintro e y4 ⟨rfl, hB⟩
              have hR4 := Lib.hid (hR3.out.below hB hR3.out.lt)
              have HB4 := Lib.hid (HB3.out.trans (hB.mono HB3.out.size))
              clear hB HEQ hR3 HB3
              go_wp2_with fail
              refine ⟨⟨?_, HB4⟩, by simp [intOf]⟩
              exact Or.inr (Or.inr (Or.inr (⟨by go_num, hR4⟩)))
          · have PAr := Lib.hid (PAt.below PA.out HB.out)
            have cb0 : wr.cell? ⟨bA, 0, none⟩ = some (.slice a7 n7 c7) := (RA.out.below HB.out RA.out.lt).cell 0
            have lb0 := (RA.out.below HB.out RA.out.lt).lt
            have HCL := HCt wr PAr.out
            go_wp2_with fail
            refine HCL.out.mono ?_
            rintro e z1 ⟨rfl, hB⟩
            have hR1 := Lib.hid (hR.out.below hB hR.out.lt)
            have HB1 := Lib.hid (HB.out.trans (hB.mono HB.out.size))
            clear hB HCL cb0 lb0 PAr hR HB
            go_upto_region 20 with fail
            refine wp_region_X (fun W' => Rows8 W' bA 24 #[.slice a7 n7 c7] ∧ Rows8 W' W4.heap.size 32 #[.int .i64 0, .int .i64 0, .int .i64 0]) 16 (by kernel_rfl) ?_
            have hS0 : Rows8 z1.drew bA 24 #[.slice a7 n7 c7] ∧ Rows8 z1.drew W4.heap.size 32 #[.int .i64 0, .int .i64 0, .int .i64 0] := ⟨(RA.out.below HB1.out RA.out.lt).drewA, hR1.out.drewA⟩
            have HB2 := Lib.hid HB1.out.drew
            clear hR1 HB1
            generalize z1.drew = Wd at *
            refine wpAnyN_take (i := 0) (oi := { dst := some 88, op := Go.Op.move (Go.Operand.tmp 14), type := 3, pos := "law.go:59", after := #[], guard := none }) (v := .int .i64 0) rfl (by decide) (by kernel_rfl) (by kernel_rfl) (by kernel_rfl) (fun _ _ _ h => h) (Or.inl ⟨by rfl, ?_⟩) hS0 ?_
            · intro W9 hS9
              obtain ⟨q0, q1⟩ := hS9
              clear q0 q1
              go_simp
            try simp only [Act.put, List.setIfInBounds_toArray, List.set_cons_zero, List.set_cons_succ]
            refine wpAnyN_take (i := 1) (oi := { dst := some 89, op := Go.Op.move (Go.Operand.tmp 15), type := 3, pos := "law.go:59", after := #[], guard := none }) (v := .int .i64 0) rfl (by decide) (by kernel_rfl) (by kernel_rfl) (by kernel_rfl) (fun _ _ _ h => h) (Or.inl ⟨by rfl, ?_⟩) hS0 ?_
            · intro W9 hS9
              obtain ⟨q0, q1⟩ := hS9
              clear q0 q1
              go_simp
            try simp only [Act.put, List.setIfInBounds_toArray, List.set_cons_zero, List.set_cons_succ]
            refine wpAnyN_take (i := 2) (oi := { dst := some 90, op := Go.Op.move (Go.Operand.tmp 16), type := 3, pos := "law.go:59", after := #[], guard := none }) (v := .int .i64 0) rfl (by decide) (by kernel_rfl) (by kernel_rfl) (by kernel_rfl) (fun _ _ _ h => h) (Or.inl ⟨by rfl, ?_⟩) hS0 ?_
            · intro W9 hS9
              obtain ⟨q0, q1⟩ := hS9
              clear q0 q1
              go_simp
            try simp only [Act.put, List.setIfInBounds_toArray, List.set_cons_zero, List.set_cons_succ]
            refine wpAnyN_take (i := 3) (oi := { dst := some 91, op := Go.Op.build 32 #[(0, Go.Operand.tmp 88), (1, Go.Operand.tmp 89), (2, Go.Operand.tmp 90)], type := 32, pos := "law.go:59", after := #[{ on := 0, ground := Go.Ground.data }, { on := 1, ground := Go.Ground.data }, { on := 2, ground := Go.Ground.data }], guard := none }) (v := .agg #[.int .i64 0, .int .i64 0, .int .i64 0]) rfl (by decide) (by kernel_rfl) (by kernel_rfl) (by kernel_rfl) (fun _ _ _ h => h) (Or.inl ⟨by rfl, ?_⟩) hS0 ?_
            · intro W9 hS9
              obtain ⟨q0, q1⟩ := hS9
              clear q0 q1
              go_simp
            try simp only [Act.put, List.setIfInBounds_toArray, List.set_cons_zero, List.set_cons_succ]
            refine wpAnyN_take (i := 4) (oi := { dst := some 92, op := Go.Op.load 32 (Go.Operand.tmp 11), type := 32, pos := "law.go:59", after := #[], guard := none }) (v := .agg #[.int .i64 0, .int .i64 0, .int .i64 0]) rfl (by decide) (by kernel_rfl) (by kernel_rfl) (by kernel_rfl) (fun _ _ _ h => h) (Or.inl ⟨by rfl, ?_⟩) hS0 ?_
            · intro W9 hS9
              obtain ⟨q0, q1⟩ := hS9
              have s0 : W9.cell? ⟨W4.heap.size, 0, none⟩ = some (.int .i64 0) := q1.cell 0
              have s1 : W9.cell? ⟨W4.heap.size, 1, none⟩ = some (.int .i64 0) := q1.cell 1
              have s2 : W9.cell? ⟨W4.heap.size, 2, none⟩ = some (.int .i64 0) := q1.cell 2
              clear q0 q1
              go_simp
            try simp only [Act.put, List.setIfInBounds_toArray, List.set_cons_zero, List.set_cons_succ]
            refine wpAnyN_take (i := 5) (oi := { dst := some 93, op := Go.Op.binOp Go.BinOp.neq 32 (Go.Operand.tmp 91) (Go.Operand.tmp 92) 32, type := 4, pos := "law.go:59", after := #[{ on := 3, ground := Go.Ground.data }, { on := 4, ground := Go.Ground.data }], guard := none }) (v := .bool false) rfl (by decide) (by kernel_rfl) (by kernel_rfl) (by kernel_rfl) (fun _ _ _ h => h) (Or.inl ⟨by rfl, ?_⟩) hS0 ?_
            · intro W9 hS9
              obtain ⟨q0, q1⟩ := hS9
              clear q0 q1
              have hE := Try.eqArr3 0 0 0 W9
              go_simp
              try rw [hE]
            try simp only [Act.put, List.setIfInBounds_toArray, List.set_cons_zero, List.set_cons_succ]
            refine wpAnyN_take (i := 6) (oi := { dst := some 94, op := Go.Op.move (Go.Operand.tmp 93), type := 4, pos := "law.go:59", after := #[{ on := 5, ground := Go.Ground.data }], guard := none }) (v := .bool false) rfl (by decide) (by kernel_rfl) (by kernel_rfl) (by kernel_rfl) (fun _ _ _ h => h) (Or.inl ⟨by rfl, ?_⟩) hS0 ?_
            · intro W9 hS9
              obtain ⟨q0, q1⟩ := hS9
              clear q0 q1
              go_simp
            try simp only [Act.put, List.setIfInBounds_toArray, List.set_cons_zero, List.set_cons_succ]
            refine wpAnyN_take (i := 7) (oi := { dst := some 95, op := Go.Op.load 24 (Go.Operand.tmp 7), type := 24, pos := "law.go:59", after := #[{ on := 6, ground := Go.Ground.guard }], guard := some (6, false) }) (v := .agg #[.slice a7 n7 c7]) rfl (by decide) (by kernel_rfl) (by kernel_rfl) (by kernel_rfl) (fun _ _ _ h => h) (Or.inl ⟨by rfl, ?_⟩) hS0 ?_
            · intro W9 hS9
              obtain ⟨q0, q1⟩ := hS9
              have s1 : W9.cell? ⟨bA, 0, none⟩ = some (.slice a7 n7 c7) := q0.cell 0
              clear q0 q1
              go_simp
            try simp only [Act.put, List.setIfInBounds_toArray, List.set_cons_zero, List.set_cons_succ]
            refine wpAnyN_take (i := 10) (oi := { dst := some 98, op := Go.Op.load 24 (Go.Operand.tmp 7), type := 24, pos := "law.go:59", after := #[{ on := 6, ground := Go.Ground.guard }], guard := some (6, false) }) (v := .agg #[.slice a7 n7 c7]) rfl (by decide) (by kernel_rfl) (by kernel_rfl) (by kernel_rfl) (fun _ _ _ h => h) (Or.inl ⟨by rfl, ?_⟩) hS0 ?_
            · intro W9 hS9
              obtain ⟨q0, q1⟩ := hS9
              have s1 : W9.cell? ⟨bA, 0, none⟩ = some (.slice a7 n7 c7) := q0.cell 0
              clear q0 q1
              go_simp
            try simp only [Act.put, List.setIfInBounds_toArray, List.set_cons_zero, List.set_cons_succ]
            refine wpAnyX_one (i := 8) (o := { dst := some 96, op := Go.Op.call { callee := Go.Callee.value (Go.Operand.func 13), args := #[Go.Operand.tmp 95, Go.Operand.const (Go.Value.int Go.IntKind.i64 (-1))], argTypes := #[24, 3] }, type := 25, pos := "law.go:59", after := #[{ on := 7, ground := Go.Ground.data }, { on := 6, ground := Go.Ground.chain }, { on := 6, ground := Go.Ground.guard }], guard := some (6, false) }) (by kernel_rfl) rfl (fun K hK => ?_)
            refine step_call_g (by rfl) 13 _ _ rfl (fun _ _ => by kernel_rfl) #[.agg #[.slice a7 n7 c7], .int .i64 (-1)] (by simp [go_sem]) _ (HEn Wd (-1) (PAt.below PA.out HB2.out)).out ?_
            rintro e z3 ⟨v5, rfl, hO, hC⟩
            refine ⟨_, rfl, ?_⟩
            have hS1 : Rows8 z3 bA 24 #[.slice a7 n7 c7] ∧ Rows8 z3 W4.heap.size 32 #[.int .i64 0, .int .i64 0, .int .i64 0] := ⟨hS0.1.below hC hS0.1.lt, hS0.2.below hC hS0.2.lt⟩
            have HB3 := Lib.hid (HB2.out.trans (hC.mono HB2.out.size))
            rw [HEm.out] at hO
            obtain ⟨a5, c5, hv⟩ := hO.form
            have hv2 : v5 = .slice a5 0 c5 := hv
            clear hv
            subst hv2
            clear hO
            clear hC
            refine hK.out _ _ (fun _ => hS1) ?_
            clear hK K
            try simp only [Act.put, List.setIfInBounds_toArray, List.set_cons_zero, List.set_cons_succ]
            refine wpAnyN_take (i := 9) (oi := { dst := some 97, op := Go.Op.call { callee := Go.Callee.builtin Go.Builtin.len, args := #[Go.Operand.tmp 96], argTypes := #[25] }, type := 3, pos := "law.go:59", after := #[{ on := 8, ground := Go.Ground.data }, { on := 6, ground := Go.Ground.guard }], guard := some (6, false) }) (v := .int .i64 0) rfl (by decide) (by kernel_rfl) (by kernel_rfl) (by kernel_rfl) (fun _ _ _ h => h) (Or.inl ⟨by rfl, ?_⟩) hS1 ?_
            · intro W9 hS9
              obtain ⟨q0, q1⟩ := hS9
              clear q0 q1
              go_simp
            try simp only [Act.put, List.setIfInBounds_toArray, List.set_cons_zero, List.set_cons_succ]
            refine wpAnyX_one (i := 11) (o := { dst := some 99, op := Go.Op.call { callee := Go.Callee.value (Go.Operand.func 13), args := #[Go.Operand.tmp 98, Go.Operand.const (Go.Value.int Go.IntKind.i64 3)], argTypes := #[24, 3] }, type := 25, pos := "law.go:59", after := #[{ on := 10, ground := Go.Ground.data }, { on := 8, ground := Go.Ground.chain }, { on := 6, ground := Go.Ground.guard }], guard := some (6, false) }) (by kernel_rfl) rfl (fun K hK => ?_)
            refine step_call_g (by rfl) 13 _ _ rfl (fun _ _ => by kernel_rfl) #[.agg #[.slice a7 n7 c7], .int .i64 3] (by simp [go_sem]) _ (HEn z3 3 (PAt.below PA.out HB3.out)).out ?_
            rintro e z4 ⟨v6, rfl, hO, hC⟩
            refine ⟨_, rfl, ?_⟩
            have hS2 : Rows8 z4 bA 24 #[.slice a7 n7 c7] ∧ Rows8 z4 W4.heap.size 32 #[.int .i64 0, .int .i64 0, .int .i64 0] := ⟨hS1.1.below hC hS1.1.lt, hS1.2.below hC hS1.2.lt⟩
            have HB4 := Lib.hid (HB3.out.trans (hC.mono HB3.out.size))
            rw [HE3.out] at hO
            obtain ⟨a6, c6, hv⟩ := hO.form
            have hv2 : v6 = .slice a6 0 c6 := hv
            clear hv
            subst hv2
            clear hO
            clear hC
            refine hK.out _ _ (fun _ => hS2) ?_
            clear hK K
            try simp only [Act.put, List.setIfInBounds_toArray, List.set_cons_zero, List.set_cons_succ]
            refine wpAnyN_take (i := 12) (oi := { dst := some 100, op := Go.Op.call { callee := Go.Callee.builtin Go.Builtin.len, args := #[Go.Operand.tmp 99], argTypes := #[25] }, type := 3, pos := "law.go:59", after := #[{ on := 11, ground := Go.Ground.data }, { on := 6, ground := Go.Ground.guard }], guard := some (6, false) }) (v := .int .i64 0) rfl (by decide) (by kernel_rfl) (by kernel_rfl) (by kernel_rfl) (fun _ _ _ h => h) (Or.inl ⟨by rfl, ?_⟩) hS2 ?_
            · intro W9 hS9
              obtain ⟨q0, q1⟩ := hS9
              clear q0 q1
              go_simp
            try simp only [Act.put, List.setIfInBounds_toArray, List.set_cons_zero, List.set_cons_succ]
            refine wpAnyN_take (i := 13) (oi := { dst := some 101, op := Go.Op.binOp Go.BinOp.add 3 (Go.Operand.tmp 97) (Go.Operand.tmp 100) 3, type := 3, pos := "law.go:59", after := #[{ on := 9, ground := Go.Ground.data }, { on := 12, ground := Go.Ground.data }, { on := 6, ground := Go.Ground.guard }], guard := some (6, false) }) (v := .int .i64 0) rfl (by decide) (by kernel_rfl) (by kernel_rfl) (by kernel_rfl) (fun _ _ _ h => h) (Or.inl ⟨by rfl, ?_⟩) hS2 ?_
            · intro W9 hS9
              obtain ⟨q0, q1⟩ := hS9
              clear q0 q1
              go_simp
              rfl
            try simp only [Act.put, List.setIfInBounds_toArray, List.set_cons_zero, List.set_cons_succ]
            refine wpAnyN_take (i := 14) (oi := { dst := some 102, op := Go.Op.binOp Go.BinOp.gtr 3 (Go.Operand.tmp 101) (Go.Operand.const (Go.Value.int Go.IntKind.i64 0)) 3, type := 4, pos := "law.go:59", after := #[{ on := 13, ground := Go.Ground.data }, { on := 6, ground := Go.Ground.guard }], guard := some (6, false) }) (v := .bool false) rfl (by decide) (by kernel_rfl) (by kernel_rfl) (by kernel_rfl) (fun _ _ _ h => h) (Or.inl ⟨by rfl, ?_⟩) hS2 ?_
            · intro W9 hS9
              obtain ⟨q0, q1⟩ := hS9
              clear q0 q1
              go_simp
            try simp only [Act.put, List.setIfInBounds_toArray, List.set_cons_zero, List.set_cons_succ]
            refine wpAnyN_take (i := 15) (oi := { dst := some 103, op := Go.Op.pick (Go.Operand.tmp 94) (Go.Operand.const (Go.Value.bool true)) (Go.Operand.tmp 102), type := 4, pos := "law.go:59", after := #[{ on := 6, ground := Go.Ground.data }, { on := 14, ground := Go.Ground.data }], guard := none }) (v := .bool false) rfl (by decide) (by kernel_rfl) (by kernel_rfl) (by kernel_rfl) (fun _ _ _ h => h) (Or.inl ⟨by rfl, ?_⟩) hS2 ?_
            · intro W9 hS9
              obtain ⟨q0, q1⟩ := hS9
              clear q0 q1
              go_simp
            try simp only [Act.put, List.setIfInBounds_toArray, List.set_cons_zero, List.set_cons_succ]
            refine wpAnyX_end (by kernel_rfl) ?_
            clear hS0 hS1 hS2 HB2 HB3
            clear HN0 HN1 HN2 HEm HE3 HEn HCt HEl HEg
            have HBt := HB4
            clear HB4
            have HNl := Lib.hid (pAt_len HL.out).1
            go_wp2_with fail
            go_loopw [106] (fun i wr => ∃ k : Nat, k ≤ nl ∧ k ≤ 8 ∧ i = .int .i64 k ∧ Hid (Below W4.heap.size W4 wr)) (fun i _ => nl - (intOf i).toNat)
            case atStart => exact ⟨0, Nat.zero_le _, Nat.zero_le _, rfl, HBt⟩
            case round =>
              clear HBt
              obtain ⟨k, hk, hk8, rfl, HB⟩ := hrel
              by_cases hlt : k < nl
              · have hki : (k : Int) < (nl : Int) := by omega
                have hkl : k < ls.length := by rw [← HNl.out]; exact hlt
                have PLr := PAt.below HL.out (B0.out.trans (HB.out.mono B0.out.size))
                obtain ⟨b, off, rfl, hb, c0, c1⟩ := pAt_get PLr k hkl
                clear PLr
                generalize ls[k] = el at *
                obtain ⟨ei, eg⟩ := el
                dsimp only at c0 c1
                have hal : Below wr.heap.size wr (wr.alloc (.cells #[.int .i64 ei, .int .u64 (eg : Nat)] 37)) := Rows8.newB
                have RE := Lib.hid (Rows8.new wr 37 #[.int .i64 ei, .int .u64 (eg : Nat)])
                have HBe := Lib.hid (HB.out.trans (hal.mono HB.out.size))
                clear hal HB
                by_cases h8 : k = 8
                · subst h8
                  have h88 : (8 : Int) < (nl : Int) := hki
                  have HB := HBe
                  clear HBe
                  go_upto_region 37 with fail
                  refine wp_region_X (fun W' => Rows8 W' w.heap.size 24 #[.slice ax nx cx] ∧ Rows8 W' bA 24 #[.slice a7 n7 c7]) 5 (by kernel_rfl) ?_
                  have hS0 : Rows8 (wr.alloc (.cells #[.int .i64 ei, .int .u64 (eg : Nat)] 37)).drew w.heap.size 24 #[.slice ax nx cx] ∧ Rows8 (wr.alloc (.cells #[.int .i64 ei, .int .u64 (eg : Nat)] 37)).drew bA 24 #[.slice a7 n7 c7] := ⟨(RX.out.below HB.out RX.out.lt).drewA, (RA.out.below HB.out RA.out.lt).drewA⟩
                  have G0 := Lib.hid HB.out.drew
                  generalize (wr.alloc (.cells #[.int .i64 ei, .int .u64 (eg : Nat)] 37)).drew = Wd at *
                  refine wpAnyN_take (i := 0) (oi := { dst := some 180, op := Go.Op.load 24 (Go.Operand.tmp 7), type := 24, pos := "law.go:79", after := #[], guard := none }) (v := .agg #[.slice a7 n7 c7]) rfl (by decide) (by kernel_rfl) (by kernel_rfl) (by kernel_rfl) (fun _ _ _ h => h) (Or.inl ⟨by rfl, ?_⟩) hS0 ?_
                  · intro W9 hS9
                    obtain ⟨q0, q1⟩ := hS9
                    have s0 : W9.cell? ⟨w.heap.size, 0, none⟩ = some (.slice ax nx cx) := q0.cell 0
                    have s1 : W9.cell? ⟨bA, 0, none⟩ = some (.slice a7 n7 c7) := q1.cell 0
                    clear q0 q1
                    go_simp
                  try simp only [Act.put, List.setIfInBounds_toArray, List.set_cons_zero, List.set_cons_succ]
                  refine wpAnyN_take (i := 1) (oi := { dst := some 181, op := Go.Op.load 24 (Go.Operand.tmp 3), type := 24, pos := "law.go:79", after := #[], guard := none }) (v := .agg #[.slice ax nx cx]) rfl (by decide) (by kernel_rfl) (by kernel_rfl) (by kernel_rfl) (fun _ _ _ h => h) (Or.inl ⟨by rfl, ?_⟩) hS0 ?_
                  · intro W9 hS9
                    obtain ⟨q0, q1⟩ := hS9
                    have s0 : W9.cell? ⟨w.heap.size, 0, none⟩ = some (.slice ax nx cx) := q0.cell 0
                    have s1 : W9.cell? ⟨bA, 0, none⟩ = some (.slice a7 n7 c7) := q1.cell 0
                    clear q0 q1
                    go_simp
                  try simp only [Act.put, List.setIfInBounds_toArray, List.set_cons_zero, List.set_cons_succ]
                  refine wpAnyX_one (i := 2) (o := { dst := some 182, op := Go.Op.call { callee := Go.Callee.value (Go.Operand.func 6), args := #[Go.Operand.tmp 181], argTypes := #[24] }, type := 24, pos := "law.go:79", after := #[{ on := 1, ground := Go.Ground.data }], guard := none }) (by kernel_rfl) rfl (fun K hK => ?_)
                  refine step_call_g (by rfl) 6 _ _ rfl (fun _ _ => by kernel_rfl) #[.agg #[.slice ax nx cx]] (by simp [go_sem]) _ (HOx Wd (PAt.below HI.out (B0.out.trans (G0.out.mono B0.out.size)))).out ?_
                  rintro e g1 ⟨a9, n9, c9, rfl, h9, hO9, hC⟩
                  refine ⟨_, rfl, ?_⟩
                  have hS1 : Rows8 g1 w.heap.size 24 #[.slice ax nx cx] ∧ Rows8 g1 bA 24 #[.slice a7 n7 c7] := ⟨hS0.1.below hC hS0.1.lt, hS0.2.below hC hS0.2.lt⟩
                  have G1 := Lib.hid (G0.out.trans (hC.mono G0.out.size))
                  have P9 := Lib.hid hO9.at
                  clear hO9
                  clear hC
                  refine hK.out _ _ (fun _ => hS1) ?_
                  clear hK K
                  try simp only [Act.put, List.setIfInBounds_toArray, List.set_cons_zero, List.set_cons_succ]
                  refine wpAnyX_one (i := 3) (o := { dst := some 183, op := Go.Op.call { callee := Go.Callee.value (Go.Operand.func 10), args := #[Go.Operand.tmp 180, Go.Operand.tmp 182], argTypes := #[24, 24] }, type := 4, pos := "law.go:79", after := #[{ on := 0, ground := Go.Ground.data }, { on := 2, ground := Go.Ground.data }, { on := 2, ground := Go.Ground.chain }], guard := none }) (by kernel_rfl) rfl (fun K hK => ?_)
                  refine step_call_g (by rfl) 10 _ _ rfl (fun _ _ => by kernel_rfl) #[.agg #[.slice a7 n7 c7], .agg #[.slice a9 n9 c9]] (by simp [go_sem]) _ (HSP g1 a9 n9 c9 (PAt.below PA.out G1.out) P9.out (by omega)).out ?_
                  rintro e g2 ⟨rfl, hC⟩
                  refine ⟨_, rfl, ?_⟩
                  have hS2 : Rows8 g2 w.heap.size 24 #[.slice ax nx cx] ∧ Rows8 g2 bA 24 #[.slice a7 n7 c7] := ⟨hS1.1.below hC hS1.1.lt, hS1.2.below hC hS1.2.lt⟩
                  have G2 := Lib.hid (G1.out.trans (hC.mono G1.out.size))
                  clear hC
                  refine hK.out _ _ (fun _ => hS2) ?_
                  clear hK K
                  try simp only [Act.put, List.setIfInBounds_toArray, List.set_cons_zero, List.set_cons_succ]
                  refine wpAnyN_take (i := 4) (oi := { dst := some 6, op := Go.Op.assign (Go.Operand.tmp 183), type := 4, pos := "law.go:79", after := #[{ on := 3, ground := Go.Ground.data }, { on := 3, ground := Go.Ground.chain }, { on := 0, ground := Go.Ground.phase }, { on := 1, ground := Go.Ground.phase }, { on := 2, ground := Go.Ground.phase }, { on := 3, ground := Go.Ground.phase }], guard := none }) (v := .bool true) rfl (by decide) (by kernel_rfl) (by kernel_rfl) (by kernel_rfl) (fun _ _ _ h => h) (Or.inl ⟨by rfl, ?_⟩) hS2 ?_
                  · intro W9 hS9
                    obtain ⟨q0, q1⟩ := hS9
                    clear q0 q1
                    go_simp
                  try simp only [Act.put, List.setIfInBounds_toArray, List.set_cons_zero, List.set_cons_succ]
                  refine wpAnyX_end (by kernel_rfl) ?_
                  clear hS0 hS1 hS2
                  go_wp2_with fail
                  go_ret
                  exact ⟨rfl, B0.out.trans (G2.out.mono B0.out.size)⟩
                · have h8b : ((k : Int) == 8) = false := by simp; omega
                  go_upto_region 26 with fail
                  generalize hu : (wr.alloc (.cells #[.int .i64 ei, .int .u64 (eg : Nat)] 37)) = e0 at *
                  clear hu c0 c1
                  generalize wr.heap.size = bE at *
                  have HTq : ∀ (W : World) (e : Pr), PAt W (.slice a7 n7 c7) L → Hid (Calls Try.prog 15 #[.agg #[.slice a7 n7 c7], .agg #[.int .i64 e.1, .int .u64 (e.2 : Nat)]] W fun r w' => r = .returned (.tuple #[.int .i64 0, .bool false]) ∧ Below W.heap.size W w') := fun W e h => Lib.hid (by
                    have h2 := (HTg W e h).out
                    first
                      | exact h2
                      | (rw [if_neg (by decide), Bool.false_and] at h2; exact h2))
                  clear HTg HMe
                  cases hm : manyA ei with
                  | true =>
                    have hmm : 2 ≤ ei ∧ ei ≤ 128 := by unfold manyA at hm; exact of_decide_eq_true hm
                    obtain ⟨N, hNe⟩ : ∃ N : Nat, ei = (N : Int) := ⟨ei.toNat, by omega⟩
                    subst ei
                    have hN128 : N ≤ 10000 := by omega
                    clear hmm
                    as_aux_lemma =>
                      have HT1 := fun (W : World) (h : PAt W (.slice a7 n7 c7) L) => HTq W ((N : Nat), eg) h
                      dsimp only at HT1
                      have cb0 : e0.cell? ⟨bA, 0, none⟩ = some (.slice a7 n7 c7) := (RA.out.below HBe.out RA.out.lt).cell 0
                      have lb0 := (RA.out.below HBe.out RA.out.lt).lt
                      have ce0 : e0.cell? ⟨bE, 0, none⟩ = some (.int .i64 (N : Nat)) := RE.out.cell 0
                      have ce1 : e0.cell? ⟨bE, 1, none⟩ = some (.int .u64 (eg : Nat)) := RE.out.cell 1
                      have le := RE.out.lt
                      have HCL := HT1 e0 (PAt.below PA.out HBe.out)
                      go_wp2_with fail
                      refine HCL.out.mono ?_
                      rintro e y1 ⟨rfl, hB⟩
                      have RE1 := Lib.hid (RE.out.below hB RE.out.lt)
                      have HB1 := Lib.hid (HBe.out.trans (hB.mono HBe.out.size))
                      clear hB HCL cb0 lb0 ce0 ce1 le RE HBe
                      have hNw := Try.New_any (N : Nat) y1
                      rw [hm] at hNw
                      rw [if_pos rfl] at hNw
                      have cb0 : y1.cell? ⟨bA, 0, none⟩ = some (.slice a7 n7 c7) := (RA.out.below HB1.out RA.out.lt).cell 0
                      have lb0 := (RA.out.below HB1.out RA.out.lt).lt
                      have ce0 : y1.cell? ⟨bE, 0, none⟩ = some (.int .i64 (N : Nat)) := RE1.out.cell 0
                      have ce1 : y1.cell? ⟨bE, 1, none⟩ = some (.int .u64 (eg : Nat)) := RE1.out.cell 1
                      have le := RE1.out.lt
                      have HCL := Lib.hid hNw
                      clear hNw
                      go_wp2_with fail
                      refine HCL.out.mono ?_
                      rintro e y3 ⟨⟨v9, rfl, hO⟩, hB⟩
                      have RE3 := Lib.hid (RE1.out.below hB RE1.out.lt)
                      have HB3 := Lib.hid (HB1.out.trans (hB.mono HB1.out.size))
                      rw [if_pos rfl] at hO
                      unfold newL at hO
                      rw [Int.toNat_natCast] at hO
                      obtain ⟨a9, c9, hv⟩ := hO.form
                      rw [List.length_replicate] at hv
                      subst hv
                      have PM := Lib.hid hO.at
                      clear hO
                      clear hB HCL cb0 lb0 ce0 ce1 le RE1 HB1
                      have hal : Below y3.heap.size y3 (y3.alloc (.cells #[.slice a9 N c9] 24)) := Rows8.newB
                      have RM4 := Lib.hid (Rows8.new y3 24 #[.slice a9 N c9])
                      have RE4 := Lib.hid (RE3.out.below hal RE3.out.lt)
                      have HB4 := Lib.hid (HB3.out.trans (hal.mono HB3.out.size))
                      have PM4 := Lib.hid (PAt.below PM.out hal)
                      clear hal RE3 HB3
                      go_upto_region 33 with fail
                      generalize hu4 : (y3.alloc (.cells #[.slice a9 N c9] 24)) = y4 at *
                      clear hu4
                      generalize y3.heap.size = bM at *
                      have hMy := Try.refMany_any (N : Nat) y4
                      rw [hm] at hMy
                      have HCL := Lib.hid hMy
                      clear hMy
                      have ce0 : y4.cell? ⟨bE, 0, none⟩ = some (.int .i64 (N : Nat)) := RE4.out.cell 0
                      have ce1 : y4.cell? ⟨bE, 1, none⟩ = some (.int .u64 (eg : Nat)) := RE4.out.cell 1
                      have le := RE4.out.lt
                      go_wp2_with fail
                      refine HCL.out.mono ?_
                      rintro e y5 ⟨rfl, hy5⟩
                      subst hy5
                      clear HCL ce0 ce1 le
                      go_upto_region 34 with fail
                      refine wp_region_X (fun W' => Rows8 W' bE 37 #[.int .i64 (N : Nat), .int .u64 (eg : Nat)] ∧ Rows8 W' bM 24 #[.slice a9 N c9]) 29 (by kernel_rfl) ?_
                      have hS0 : Rows8 y5.drew bE 37 #[.int .i64 (N : Nat), .int .u64 (eg : Nat)] ∧ Rows8 y5.drew bM 24 #[.slice a9 N c9] := ⟨RE4.out.drewA, RM4.out.drewA⟩
                      have HB5 := Lib.hid HB4.out.drew
                      have PM5 : Hid (PAt y5.drew (.slice a9 N c9) _) := PM4
                      clear RE4 RM4 HB4
                      generalize y5.drew = Wd at *
                      refine wpAnyN_take (i := 0) (oi := { dst := some 150, op := Go.Op.move (Go.Operand.tmp 24), type := 29, pos := "law.go:75", after := #[], guard := none }) (v := .int .i64 0) rfl (by decide) (by kernel_rfl) (by kernel_rfl) (by kernel_rfl) (fun _ _ _ h => h) (Or.inl ⟨by rfl, ?_⟩) hS0 ?_
                      · intro W9 hS9
                        obtain ⟨q0, q1⟩ := hS9
                        clear q0 q1
                        go_simp
                      try simp only [Act.put, List.setIfInBounds_toArray, List.set_cons_zero, List.set_cons_succ]
                      refine wpAnyN_take (i := 1) (oi := { dst := some 151, op := Go.Op.binOp Go.BinOp.eql 29 (Go.Operand.tmp 150) (Go.Operand.const (Go.Value.int Go.IntKind.i64 0)) 29, type := 4, pos := "law.go:75", after := #[{ on := 0, ground := Go.Ground.data }], guard := none }) (v := .bool true) rfl (by decide) (by kernel_rfl) (by kernel_rfl) (by kernel_rfl) (fun _ _ _ h => h) (Or.inl ⟨by rfl, ?_⟩) hS0 ?_
                      · intro W9 hS9
                        obtain ⟨q0, q1⟩ := hS9
                        clear q0 q1
                        go_simp
                      try simp only [Act.put, List.setIfInBounds_toArray, List.set_cons_zero, List.set_cons_succ]
                      refine wpAnyN_take (i := 2) (oi := { dst := some 152, op := Go.Op.move (Go.Operand.tmp 25), type := 4, pos := "law.go:75", after := #[], guard := none }) (v := .bool true) rfl (by decide) (by kernel_rfl) (by kernel_rfl) (by kernel_rfl) (fun _ _ _ h => h) (Or.inl ⟨by rfl, ?_⟩) hS0 ?_
                      · intro W9 hS9
                        obtain ⟨q0, q1⟩ := hS9
                        clear q0 q1
                        go_simp
                      try simp only [Act.put, List.setIfInBounds_toArray, List.set_cons_zero, List.set_cons_succ]
                      refine wpAnyN_take (i := 3) (oi := { dst := some 153, op := Go.Op.binOp Go.BinOp.neq 4 (Go.Operand.tmp 151) (Go.Operand.tmp 152) 4, type := 4, pos := "law.go:75", after := #[{ on := 1, ground := Go.Ground.data }, { on := 2, ground := Go.Ground.data }], guard := none }) (v := .bool false) rfl (by decide) (by kernel_rfl) (by kernel_rfl) (by kernel_rfl) (fun _ _ _ h => h) (Or.inl ⟨by rfl, ?_⟩) hS0 ?_
                      · intro W9 hS9
                        obtain ⟨q0, q1⟩ := hS9
                        clear q0 q1
                        go_simp
                      try simp only [Act.put, List.setIfInBounds_toArray, List.set_cons_zero, List.set_cons_succ]
                      refine wpAnyN_take (i := 4) (oi := { dst := some 154, op := Go.Op.move (Go.Operand.tmp 153), type := 4, pos := "law.go:75", after := #[{ on := 3, ground := Go.Ground.data }], guard := none }) (v := .bool false) rfl (by decide) (by kernel_rfl) (by kernel_rfl) (by kernel_rfl) (fun _ _ _ h => h) (Or.inl ⟨by rfl, ?_⟩) hS0 ?_
                      · intro W9 hS9
                        obtain ⟨q0, q1⟩ := hS9
                        clear q0 q1
                        go_simp
                      try simp only [Act.put, List.setIfInBounds_toArray, List.set_cons_zero, List.set_cons_succ]
                      refine wpAnyN_take (i := 5) (oi := { dst := some 155, op := Go.Op.move (Go.Operand.tmp 25), type := 4, pos := "law.go:75", after := #[{ on := 4, ground := Go.Ground.guard }], guard := some (4, false) }) (v := .bool true) rfl (by decide) (by kernel_rfl) (by kernel_rfl) (by kernel_rfl) (fun _ _ _ h => h) (Or.inl ⟨by rfl, ?_⟩) hS0 ?_
                      · intro W9 hS9
                        obtain ⟨q0, q1⟩ := hS9
                        clear q0 q1
                        go_simp
                      try simp only [Act.put, List.setIfInBounds_toArray, List.set_cons_zero, List.set_cons_succ]
                      refine wpAnyN_take (i := 6) (oi := { dst := some 156, op := Go.Op.unOp Go.UnOp.not 4 (Go.Operand.tmp 155), type := 4, pos := "law.go:75", after := #[{ on := 5, ground := Go.Ground.data }, { on := 4, ground := Go.Ground.guard }], guard := some (4, false) }) (v := .bool false) rfl (by decide) (by kernel_rfl) (by kernel_rfl) (by kernel_rfl) (fun _ _ _ h => h) (Or.inl ⟨by rfl, ?_⟩) hS0 ?_
                      · intro W9 hS9
                        obtain ⟨q0, q1⟩ := hS9
                        clear q0 q1
                        go_simp
                      try simp only [Act.put, List.setIfInBounds_toArray, List.set_cons_zero, List.set_cons_succ]
                      refine wpAnyN_take (i := 7) (oi := { dst := some 157, op := Go.Op.move (Go.Operand.tmp 156), type := 4, pos := "law.go:75", after := #[{ on := 6, ground := Go.Ground.data }, { on := 4, ground := Go.Ground.chain }, { on := 4, ground := Go.Ground.guard }], guard := some (4, false) }) (v := .bool false) rfl (by decide) (by kernel_rfl) (by kernel_rfl) (by kernel_rfl) (fun _ _ _ h => h) (Or.inl ⟨by rfl, ?_⟩) hS0 ?_
                      · intro W9 hS9
                        obtain ⟨q0, q1⟩ := hS9
                        clear q0 q1
                        go_simp
                      try simp only [Act.put, List.setIfInBounds_toArray, List.set_cons_zero, List.set_cons_succ]
                      refine wpAnyN_take (i := 8) (oi := { dst := some 158, op := Go.Op.move (Go.Operand.tmp 24), type := 29, pos := "law.go:75", after := #[{ on := 7, ground := Go.Ground.guard }], guard := some (7, true) }) (v := undef) rfl (by decide) (by kernel_rfl) (by kernel_rfl) (by kernel_rfl) (fun _ _ _ h => h) (Or.inr ⟨by rfl, rfl⟩) hS0 ?_
                      try simp only [Act.put, List.setIfInBounds_toArray, List.set_cons_zero, List.set_cons_succ]
                      refine wpAnyN_take (i := 9) (oi := { dst := some 159, op := Go.Op.binOp Go.BinOp.neq 29 (Go.Operand.tmp 158) (Go.Operand.const (Go.Value.int Go.IntKind.i64 2)) 29, type := 4, pos := "law.go:75", after := #[{ on := 8, ground := Go.Ground.data }, { on := 7, ground := Go.Ground.guard }], guard := some (7, true) }) (v := undef) rfl (by decide) (by kernel_rfl) (by kernel_rfl) (by kernel_rfl) (fun _ _ _ h => h) (Or.inr ⟨by rfl, rfl⟩) hS0 ?_
                      try simp only [Act.put, List.setIfInBounds_toArray, List.set_cons_zero, List.set_cons_succ]
                      refine wpAnyN_take (i := 10) (oi := { dst := some 160, op := Go.Op.move (Go.Operand.tmp 159), type := 4, pos := "law.go:75", after := #[{ on := 9, ground := Go.Ground.data }, { on := 7, ground := Go.Ground.chain }, { on := 7, ground := Go.Ground.guard }], guard := some (7, true) }) (v := undef) rfl (by decide) (by kernel_rfl) (by kernel_rfl) (by kernel_rfl) (fun _ _ _ h => h) (Or.inr ⟨by rfl, rfl⟩) hS0 ?_
                      try simp only [Act.put, List.setIfInBounds_toArray, List.set_cons_zero, List.set_cons_succ]
                      refine wpAnyN_take (i := 11) (oi := { dst := some 161, op := Go.Op.fieldAddr 24 (Go.Operand.tmp 23) 0, type := 0, pos := "law.go:75", after := #[{ on := 10, ground := Go.Ground.guard }], guard := some (10, false) }) (v := undef) rfl (by decide) (by kernel_rfl) (by kernel_rfl) (by kernel_rfl) (fun _ _ _ h => h) (Or.inr ⟨by rfl, rfl⟩) hS0 ?_
                      try simp only [Act.put, List.setIfInBounds_toArray, List.set_cons_zero, List.set_cons_succ]
                      refine wpAnyN_take (i := 12) (oi := { dst := some 162, op := Go.Op.load 22 (Go.Operand.tmp 161), type := 22, pos := "law.go:75", after := #[{ on := 11, ground := Go.Ground.data }, { on := 10, ground := Go.Ground.guard }], guard := some (10, false) }) (v := undef) rfl (by decide) (by kernel_rfl) (by kernel_rfl) (by kernel_rfl) (fun _ _ _ h => h) (Or.inr ⟨by rfl, rfl⟩) hS0 ?_
                      try simp only [Act.put, List.setIfInBounds_toArray, List.set_cons_zero, List.set_cons_succ]
                      refine wpAnyN_take (i := 13) (oi := { dst := some 163, op := Go.Op.call { callee := Go.Callee.builtin Go.Builtin.len, args := #[Go.Operand.tmp 162], argTypes := #[22] }, type := 3, pos := "law.go:75", after := #[{ on := 12, ground := Go.Ground.data }, { on := 10, ground := Go.Ground.guard }], guard := some (10, false) }) (v := undef) rfl (by decide) (by kernel_rfl) (by kernel_rfl) (by kernel_rfl) (fun _ _ _ h => h) (Or.inr ⟨by rfl, rfl⟩) hS0 ?_
                      try simp only [Act.put, List.setIfInBounds_toArray, List.set_cons_zero, List.set_cons_succ]
                      refine wpAnyN_take (i := 14) (oi := { dst := some 164, op := Go.Op.binOp Go.BinOp.gtr 3 (Go.Operand.tmp 163) (Go.Operand.const (Go.Value.int Go.IntKind.i64 0)) 3, type := 4, pos := "law.go:75", after := #[{ on := 13, ground := Go.Ground.data }, { on := 10, ground := Go.Ground.guard }], guard := some (10, false) }) (v := undef) rfl (by decide) (by kernel_rfl) (by kernel_rfl) (by kernel_rfl) (fun _ _ _ h => h) (Or.inr ⟨by rfl, rfl⟩) hS0 ?_
                      try simp only [Act.put, List.setIfInBounds_toArray, List.set_cons_zero, List.set_cons_succ]
                      refine wpAnyN_take (i := 15) (oi := { dst := some 165, op := Go.Op.pick (Go.Operand.tmp 160) (Go.Operand.const (Go.Value.bool true)) (Go.Operand.tmp 164), type := 4, pos := "law.go:75", after := #[{ on := 10, ground := Go.Ground.data }, { on := 14, ground := Go.Ground.data }, { on := 7, ground := Go.Ground.guard }], guard := some (7, true) }) (v := undef) rfl (by decide) (by kernel_rfl) (by kernel_rfl) (by kernel_rfl) (fun _ _ _ h => h) (Or.inr ⟨by rfl, rfl⟩) hS0 ?_
                      try simp only [Act.put, List.setIfInBounds_toArray, List.set_cons_zero, List.set_cons_succ]
                      refine wpAnyN_take (i := 16) (oi := { dst := some 166, op := Go.Op.pick (Go.Operand.tmp 157) (Go.Operand.tmp 165) (Go.Operand.const (Go.Value.bool false)), type := 4, pos := "law.go:75", after := #[{ on := 7, ground := Go.Ground.data }, { on := 15, ground := Go.Ground.data }, { on := 4, ground := Go.Ground.guard }], guard := some (4, false) }) (v := .bool false) rfl (by decide) (by kernel_rfl) (by kernel_rfl) (by kernel_rfl) (fun _ _ _ h => h) (Or.inl ⟨by rfl, ?_⟩) hS0 ?_
                      · intro W9 hS9
                        obtain ⟨q0, q1⟩ := hS9
                        clear q0 q1
                        go_simp
                      try simp only [Act.put, List.setIfInBounds_toArray, List.set_cons_zero, List.set_cons_succ]
                      refine wpAnyN_take (i := 17) (oi := { dst := some 167, op := Go.Op.pick (Go.Operand.tmp 154) (Go.Operand.const (Go.Value.bool true)) (Go.Operand.tmp 166), type := 4, pos := "law.go:75", after := #[{ on := 4, ground := Go.Ground.data }, { on := 16, ground := Go.Ground.data }], guard := none }) (v := .bool false) rfl (by decide) (by kernel_rfl) (by kernel_rfl) (by kernel_rfl) (fun _ _ _ h => h) (Or.inl ⟨by rfl, ?_⟩) hS0 ?_
                      · intro W9 hS9
                        obtain ⟨q0, q1⟩ := hS9
                        clear q0 q1
                        go_simp
                      try simp only [Act.put, List.setIfInBounds_toArray, List.set_cons_zero, List.set_cons_succ]
                      refine wpAnyN_take (i := 18) (oi := { dst := some 168, op := Go.Op.move (Go.Operand.tmp 167), type := 4, pos := "law.go:75", after := #[{ on := 17, ground := Go.Ground.data }, { on := 10, ground := Go.Ground.chain }], guard := none }) (v := .bool false) rfl (by decide) (by kernel_rfl) (by kernel_rfl) (by kernel_rfl) (fun _ _ _ h => h) (Or.inl ⟨by rfl, ?_⟩) hS0 ?_
                      · intro W9 hS9
                        obtain ⟨q0, q1⟩ := hS9
                        clear q0 q1
                        go_simp
                      try simp only [Act.put, List.setIfInBounds_toArray, List.set_cons_zero, List.set_cons_succ]
                      refine wpAnyN_take (i := 19) (oi := { dst := some 169, op := Go.Op.move (Go.Operand.tmp 25), type := 4, pos := "law.go:75", after := #[{ on := 18, ground := Go.Ground.guard }], guard := some (18, false) }) (v := .bool true) rfl (by decide) (by kernel_rfl) (by kernel_rfl) (by kernel_rfl) (fun _ _ _ h => h) (Or.inl ⟨by rfl, ?_⟩) hS0 ?_
                      · intro W9 hS9
                        obtain ⟨q0, q1⟩ := hS9
                        clear q0 q1
                        go_simp
                      try simp only [Act.put, List.setIfInBounds_toArray, List.set_cons_zero, List.set_cons_succ]
                      refine wpAnyN_take (i := 20) (oi := { dst := some 170, op := Go.Op.move (Go.Operand.tmp 169), type := 4, pos := "law.go:75", after := #[{ on := 19, ground := Go.Ground.data }, { on := 18, ground := Go.Ground.chain }, { on := 18, ground := Go.Ground.guard }], guard := some (18, false) }) (v := .bool true) rfl (by decide) (by kernel_rfl) (by kernel_rfl) (by kernel_rfl) (fun _ _ _ h => h) (Or.inl ⟨by rfl, ?_⟩) hS0 ?_
                      · intro W9 hS9
                        obtain ⟨q0, q1⟩ := hS9
                        clear q0 q1
                        go_simp
                      try simp only [Act.put, List.setIfInBounds_toArray, List.set_cons_zero, List.set_cons_succ]
                      refine wpAnyN_take (i := 21) (oi := { dst := some 171, op := Go.Op.load 24 (Go.Operand.tmp 23), type := 24, pos := "law.go:75", after := #[{ on := 20, ground := Go.Ground.guard }], guard := some (20, true) }) (v := .agg #[.slice a9 N c9]) rfl (by decide) (by kernel_rfl) (by kernel_rfl) (by kernel_rfl) (fun _ _ _ h => h) (Or.inl ⟨by rfl, ?_⟩) hS0 ?_
                      · intro W9 hS9
                        obtain ⟨q0, q1⟩ := hS9
                        have s0 : W9.cell? ⟨bE, 0, none⟩ = some (.int .i64 (N : Nat)) := q0.cell 0
                        have s1 : W9.cell? ⟨bM, 0, none⟩ = some (.slice a9 N c9) := q1.cell 0
                        clear q0 q1
                        go_simp
                      try simp only [Act.put, List.setIfInBounds_toArray, List.set_cons_zero, List.set_cons_succ]
                      refine wpAnyN_take (i := 22) (oi := { dst := some 172, op := Go.Op.fieldAddr 37 (Go.Operand.tmp 18) 0, type := 0, pos := "law.go:75", after := #[{ on := 20, ground := Go.Ground.guard }], guard := some (20, true) }) (v := .pointer (some ⟨bE, 0, none⟩)) rfl (by decide) (by kernel_rfl) (by kernel_rfl) (by kernel_rfl) (fun _ _ _ h => h) (Or.inl ⟨by rfl, ?_⟩) hS0 ?_
                      · intro W9 hS9
                        obtain ⟨q0, q1⟩ := hS9
                        clear q0 q1
                        go_simp
                      try simp only [Act.put, List.setIfInBounds_toArray, List.set_cons_zero, List.set_cons_succ]
                      refine wpAnyN_take (i := 23) (oi := { dst := some 173, op := Go.Op.load 3 (Go.Operand.tmp 172), type := 3, pos := "law.go:75", after := #[{ on := 22, ground := Go.Ground.data }, { on := 20, ground := Go.Ground.guard }], guard := some (20, true) }) (v := .int .i64 (N : Nat)) rfl (by decide) (by kernel_rfl) (by kernel_rfl) (by kernel_rfl) (fun _ _ _ h => h) (Or.inl ⟨by rfl, ?_⟩) hS0 ?_
                      · intro W9 hS9
                        obtain ⟨q0, q1⟩ := hS9
                        have s0 : W9.cell? ⟨bE, 0, none⟩ = some (.int .i64 (N : Nat)) := q0.cell 0
                        have s1 : W9.cell? ⟨bM, 0, none⟩ = some (.slice a9 N c9) := q1.cell 0
                        clear q0 q1
                        go_simp
                      try simp only [Act.put, List.setIfInBounds_toArray, List.set_cons_zero, List.set_cons_succ]
                      refine wpAnyX_one (i := 24) (o := { dst := some 174, op := Go.Op.call { callee := Go.Callee.value (Go.Operand.func 19), args := #[Go.Operand.tmp 173], argTypes := #[3] }, type := 24, pos := "law.go:75", after := #[{ on := 23, ground := Go.Ground.data }, { on := 20, ground := Go.Ground.chain }, { on := 20, ground := Go.Ground.guard }], guard := some (20, true) }) (by kernel_rfl) rfl (fun K hK => ?_)
                      refine step_call_g (by rfl) 19 _ _ rfl (fun _ _ => by kernel_rfl) #[.int .i64 (N : Nat)] (by simp [go_sem]) _ (Lib.hid (Try.refNew_any N (by omega) Wd)).out ?_
                      rintro e z1 ⟨v10, rfl, hO, hC⟩
                      refine ⟨_, rfl, ?_⟩
                      have hS1 : Rows8 z1 bE 37 #[.int .i64 (N : Nat), .int .u64 (eg : Nat)] ∧ Rows8 z1 bM 24 #[.slice a9 N c9] := ⟨hS0.1.below hC hS0.1.lt, hS0.2.below hC hS0.2.lt⟩
                      have HB6 := Lib.hid (HB5.out.trans (hC.mono HB5.out.size))
                      have PM6 := Lib.hid (PAt.below PM5.out hC)
                      obtain ⟨a10, c10, hv⟩ := hO.form
                      rw [List.length_replicate] at hv
                      subst hv
                      have PN6 := Lib.hid hO.at
                      clear hO
                      have hsm := Try.refSame_any _ _ _ _ _ _ _ _ z1 PM6.out PN6.out (by omega) (by omega)
                      rw [decide_eq_true rfl] at hsm
                      have HSM := Lib.hid hsm
                      clear hsm
                      clear hC
                      refine hK.out _ _ (fun _ => hS1) ?_
                      clear hK K
                      try simp only [Act.put, List.setIfInBounds_toArray, List.set_cons_zero, List.set_cons_succ]
                      refine wpAnyX_one (i := 25) (o := { dst := some 175, op := Go.Op.call { callee := Go.Callee.value (Go.Operand.func 10), args := #[Go.Operand.tmp 171, Go.Operand.tmp 174], argTypes := #[24, 24] }, type := 4, pos := "law.go:75", after := #[{ on := 21, ground := Go.Ground.data }, { on := 24, ground := Go.Ground.data }, { on := 24, ground := Go.Ground.chain }, { on := 20, ground := Go.Ground.guard }], guard := some (20, true) }) (by kernel_rfl) rfl (fun K hK => ?_)
                      refine step_call_g (by rfl) 10 _ _ rfl (fun _ _ => by kernel_rfl) #[.agg #[.slice a9 N c9], .agg #[.slice a10 N c10]] (by simp [go_sem]) _ (HSM).out ?_
                      rintro e z2 ⟨rfl, hC⟩
                      refine ⟨_, rfl, ?_⟩
                      have hS2 : Rows8 z2 bE 37 #[.int .i64 (N : Nat), .int .u64 (eg : Nat)] ∧ Rows8 z2 bM 24 #[.slice a9 N c9] := ⟨hS1.1.below hC hS1.1.lt, hS1.2.below hC hS1.2.lt⟩
                      have HB7 := Lib.hid (HB6.out.trans (hC.mono HB6.out.size))
                      clear hC
                      refine hK.out _ _ (fun _ => hS2) ?_
                      clear hK K
                      try simp only [Act.put, List.setIfInBounds_toArray, List.set_cons_zero, List.set_cons_succ]
                      refine wpAnyN_take (i := 26) (oi := { dst := some 176, op := Go.Op.unOp Go.UnOp.not 4 (Go.Operand.tmp 175), type := 4, pos := "law.go:75", after := #[{ on := 25, ground := Go.Ground.data }, { on := 20, ground := Go.Ground.guard }], guard := some (20, true) }) (v := .bool false) rfl (by decide) (by kernel_rfl) (by kernel_rfl) (by kernel_rfl) (fun _ _ _ h => h) (Or.inl ⟨by rfl, ?_⟩) hS2 ?_
                      · intro W9 hS9
                        obtain ⟨q0, q1⟩ := hS9
                        clear q0 q1
                        go_simp
                      try simp only [Act.put, List.setIfInBounds_toArray, List.set_cons_zero, List.set_cons_succ]
                      refine wpAnyN_take (i := 27) (oi := { dst := some 177, op := Go.Op.pick (Go.Operand.tmp 170) (Go.Operand.tmp 176) (Go.Operand.const (Go.Value.bool false)), type := 4, pos := "law.go:75", after := #[{ on := 20, ground := Go.Ground.data }, { on := 26, ground := Go.Ground.data }, { on := 18, ground := Go.Ground.guard }], guard := some (18, false) }) (v := .bool false) rfl (by decide) (by kernel_rfl) (by kernel_rfl) (by kernel_rfl) (fun _ _ _ h => h) (Or.inl ⟨by rfl, ?_⟩) hS2 ?_
                      · intro W9 hS9
                        obtain ⟨q0, q1⟩ := hS9
                        clear q0 q1
                        go_simp
                      try simp only [Act.put, List.setIfInBounds_toArray, List.set_cons_zero, List.set_cons_succ]
                      refine wpAnyN_take (i := 28) (oi := { dst := some 178, op := Go.Op.pick (Go.Operand.tmp 168) (Go.Operand.const (Go.Value.bool true)) (Go.Operand.tmp 177), type := 4, pos := "law.go:75", after := #[{ on := 18, ground := Go.Ground.data }, { on := 27, ground := Go.Ground.data }], guard := none }) (v := .bool false) rfl (by decide) (by kernel_rfl) (by kernel_rfl) (by kernel_rfl) (fun _ _ _ h => h) (Or.inl ⟨by rfl, ?_⟩) hS2 ?_
                      · intro W9 hS9
                        obtain ⟨q0, q1⟩ := hS9
                        clear q0 q1
                        go_simp
                      try simp only [Act.put, List.setIfInBounds_toArray, List.set_cons_zero, List.set_cons_succ]
                      refine wpAnyX_end (by kernel_rfl) ?_
                      clear hS0 hS1 hS2
                      go_wp2_with fail
                      go_roundw
                      case rel => exact ⟨k + 1, by omega, by omega, by go_num, HB7⟩
                      case measure => simp [intOf] <;> omega
                  | false =>
                    as_aux_lemma =>
                      have HT1 := fun (W : World) (h : PAt W (.slice a7 n7 c7) L) => HTq W (ei, eg) h
                      dsimp only at HT1
                      have cb0 : e0.cell? ⟨bA, 0, none⟩ = some (.slice a7 n7 c7) := (RA.out.below HBe.out RA.out.lt).cell 0
                      have lb0 := (RA.out.below HBe.out RA.out.lt).lt
                      have ce0 : e0.cell? ⟨bE, 0, none⟩ = some (.int .i64 ei) := RE.out.cell 0
                      have ce1 : e0.cell? ⟨bE, 1, none⟩ = some (.int .u64 (eg : Nat)) := RE.out.cell 1
                      have le := RE.out.lt
                      have HCL := HT1 e0 (PAt.below PA.out HBe.out)
                      go_wp2_with fail
                      refine HCL.out.mono ?_
                      rintro e y1 ⟨rfl, hB⟩
                      have RE1 := Lib.hid (RE.out.below hB RE.out.lt)
                      have HB1 := Lib.hid (HBe.out.trans (hB.mono HBe.out.size))
                      clear hB HCL cb0 lb0 ce0 ce1 le RE HBe
                      have hNw := Try.New_any ei y1
                      rw [hm] at hNw
                      rw [if_neg (by decide)] at hNw
                      have cb0 : y1.cell? ⟨bA, 0, none⟩ = some (.slice a7 n7 c7) := (RA.out.below HB1.out RA.out.lt).cell 0
                      have lb0 := (RA.out.below HB1.out RA.out.lt).lt
                      have ce0 : y1.cell? ⟨bE, 0, none⟩ = some (.int .i64 ei) := RE1.out.cell 0
                      have ce1 : y1.cell? ⟨bE, 1, none⟩ = some (.int .u64 (eg : Nat)) := RE1.out.cell 1
                      have le := RE1.out.lt
                      have HCL := Lib.hid hNw
                      clear hNw
                      go_wp2_with fail
                      refine HCL.out.mono ?_
                      rintro e y3 ⟨⟨v9, rfl, hO⟩, hB⟩
                      have RE3 := Lib.hid (RE1.out.below hB RE1.out.lt)
                      have HB3 := Lib.hid (HB1.out.trans (hB.mono HB1.out.size))
                      rw [if_neg (by decide)] at hO
                      obtain ⟨a9, c9, hv⟩ := hO.form
                      subst hv
                      clear hO
                      clear hB HCL cb0 lb0 ce0 ce1 le RE1 HB1
                      have hal : Below y3.heap.size y3 (y3.alloc (.cells #[.slice a9 0 c9] 24)) := Rows8.newB
                      have RM4 := Lib.hid (Rows8.new y3 24 #[.slice a9 0 c9])
                      have RE4 := Lib.hid (RE3.out.below hal RE3.out.lt)
                      have HB4 := Lib.hid (HB3.out.trans (hal.mono HB3.out.size))
                      clear hal RE3 HB3
                      go_upto_region 33 with fail
                      generalize hu4 : (y3.alloc (.cells #[.slice a9 0 c9] 24)) = y4 at *
                      clear hu4
                      generalize y3.heap.size = bM at *
                      have hMy := Try.refMany_any ei y4
                      rw [hm] at hMy
                      have HCL := Lib.hid hMy
                      clear hMy
                      have ce0 : y4.cell? ⟨bE, 0, none⟩ = some (.int .i64 ei) := RE4.out.cell 0
                      have ce1 : y4.cell? ⟨bE, 1, none⟩ = some (.int .u64 (eg : Nat)) := RE4.out.cell 1
                      have le := RE4.out.lt
                      go_wp2_with fail
                      refine HCL.out.mono ?_
                      rintro e y5 ⟨rfl, hy5⟩
                      subst hy5
                      clear HCL ce0 ce1 le
                      go_upto_region 34 with fail
                      refine wp_region_X (fun W' => Rows8 W' bE 37 #[.int .i64 ei, .int .u64 (eg : Nat)] ∧ Rows8 W' bM 24 #[.slice a9 0 c9]) 29 (by kernel_rfl) ?_
                      have hS0 : Rows8 y5.drew bE 37 #[.int .i64 ei, .int .u64 (eg : Nat)] ∧ Rows8 y5.drew bM 24 #[.slice a9 0 c9] := ⟨RE4.out.drewA, RM4.out.drewA⟩
                      have HB5 := Lib.hid HB4.out.drew
                      clear RE4 RM4 HB4
                      generalize y5.drew = Wd at *
                      refine wpAnyN_take (i := 0) (oi := { dst := some 150, op := Go.Op.move (Go.Operand.tmp 24), type := 29, pos := "law.go:75", after := #[], guard := none }) (v := .int .i64 2) rfl (by decide) (by kernel_rfl) (by kernel_rfl) (by kernel_rfl) (fun _ _ _ h => h) (Or.inl ⟨by rfl, ?_⟩) hS0 ?_
                      · intro W9 hS9
                        obtain ⟨q0, q1⟩ := hS9
                        clear q0 q1
                        go_simp
                      try simp only [Act.put, List.setIfInBounds_toArray, List.set_cons_zero, List.set_cons_succ]
                      refine wpAnyN_take (i := 1) (oi := { dst := some 151, op := Go.Op.binOp Go.BinOp.eql 29 (Go.Operand.tmp 150) (Go.Operand.const (Go.Value.int Go.IntKind.i64 0)) 29, type := 4, pos := "law.go:75", after := #[{ on := 0, ground := Go.Ground.data }], guard := none }) (v := .bool false) rfl (by decide) (by kernel_rfl) (by kernel_rfl) (by kernel_rfl) (fun _ _ _ h => h) (Or.inl ⟨by rfl, ?_⟩) hS0 ?_
                      · intro W9 hS9
                        obtain ⟨q0, q1⟩ := hS9
                        clear q0 q1
                        go_simp
                      try simp only [Act.put, List.setIfInBounds_toArray, List.set_cons_zero, List.set_cons_succ]
                      refine wpAnyN_take (i := 2) (oi := { dst := some 152, op := Go.Op.move (Go.Operand.tmp 25), type := 4, pos := "law.go:75", after := #[], guard := none }) (v := .bool false) rfl (by decide) (by kernel_rfl) (by kernel_rfl) (by kernel_rfl) (fun _ _ _ h => h) (Or.inl ⟨by rfl, ?_⟩) hS0 ?_
                      · intro W9 hS9
                        obtain ⟨q0, q1⟩ := hS9
                        clear q0 q1
                        go_simp
                      try simp only [Act.put, List.setIfInBounds_toArray, List.set_cons_zero, List.set_cons_succ]
                      refine wpAnyN_take (i := 3) (oi := { dst := some 153, op := Go.Op.binOp Go.BinOp.neq 4 (Go.Operand.tmp 151) (Go.Operand.tmp 152) 4, type := 4, pos := "law.go:75", after := #[{ on := 1, ground := Go.Ground.data }, { on := 2, ground := Go.Ground.data }], guard := none }) (v := .bool false) rfl (by decide) (by kernel_rfl) (by kernel_rfl) (by kernel_rfl) (fun _ _ _ h => h) (Or.inl ⟨by rfl, ?_⟩) hS0 ?_
                      · intro W9 hS9
                        obtain ⟨q0, q1⟩ := hS9
                        clear q0 q1
                        go_simp
                      try simp only [Act.put, List.setIfInBounds_toArray, List.set_cons_zero, List.set_cons_succ]
                      refine wpAnyN_take (i := 4) (oi := { dst := some 154, op := Go.Op.move (Go.Operand.tmp 153), type := 4, pos := "law.go:75", after := #[{ on := 3, ground := Go.Ground.data }], guard := none }) (v := .bool false) rfl (by decide) (by kernel_rfl) (by kernel_rfl) (by kernel_rfl) (fun _ _ _ h => h) (Or.inl ⟨by rfl, ?_⟩) hS0 ?_
                      · intro W9 hS9
                        obtain ⟨q0, q1⟩ := hS9
                        clear q0 q1
                        go_simp
                      try simp only [Act.put, List.setIfInBounds_toArray, List.set_cons_zero, List.set_cons_succ]
                      refine wpAnyN_take (i := 5) (oi := { dst := some 155, op := Go.Op.move (Go.Operand.tmp 25), type := 4, pos := "law.go:75", after := #[{ on := 4, ground := Go.Ground.guard }], guard := some (4, false) }) (v := .bool false) rfl (by decide) (by kernel_rfl) (by kernel_rfl) (by kernel_rfl) (fun _ _ _ h => h) (Or.inl ⟨by rfl, ?_⟩) hS0 ?_
                      · intro W9 hS9
                        obtain ⟨q0, q1⟩ := hS9
                        clear q0 q1
                        go_simp
                      try simp only [Act.put, List.setIfInBounds_toArray, List.set_cons_zero, List.set_cons_succ]
                      refine wpAnyN_take (i := 6) (oi := { dst := some 156, op := Go.Op.unOp Go.UnOp.not 4 (Go.Operand.tmp 155), type := 4, pos := "law.go:75", after := #[{ on := 5, ground := Go.Ground.data }, { on := 4, ground := Go.Ground.guard }], guard := some (4, false) }) (v := .bool true) rfl (by decide) (by kernel_rfl) (by kernel_rfl) (by kernel_rfl) (fun _ _ _ h => h) (Or.inl ⟨by rfl, ?_⟩) hS0 ?_
                      · intro W9 hS9
                        obtain ⟨q0, q1⟩ := hS9
                        clear q0 q1
                        go_simp
                      try simp only [Act.put, List.setIfInBounds_toArray, List.set_cons_zero, List.set_cons_succ]
                      refine wpAnyN_take (i := 7) (oi := { dst := some 157, op := Go.Op.move (Go.Operand.tmp 156), type := 4, pos := "law.go:75", after := #[{ on := 6, ground := Go.Ground.data }, { on := 4, ground := Go.Ground.chain }, { on := 4, ground := Go.Ground.guard }], guard := some (4, false) }) (v := .bool true) rfl (by decide) (by kernel_rfl) (by kernel_rfl) (by kernel_rfl) (fun _ _ _ h => h) (Or.inl ⟨by rfl, ?_⟩) hS0 ?_
                      · intro W9 hS9
                        obtain ⟨q0, q1⟩ := hS9
                        clear q0 q1
                        go_simp
                      try simp only [Act.put, List.setIfInBounds_toArray, List.set_cons_zero, List.set_cons_succ]
                      refine wpAnyN_take (i := 8) (oi := { dst := some 158, op := Go.Op.move (Go.Operand.tmp 24), type := 29, pos := "law.go:75", after := #[{ on := 7, ground := Go.Ground.guard }], guard := some (7, true) }) (v := .int .i64 2) rfl (by decide) (by kernel_rfl) (by kernel_rfl) (by kernel_rfl) (fun _ _ _ h => h) (Or.inl ⟨by rfl, ?_⟩) hS0 ?_
                      · intro W9 hS9
                        obtain ⟨q0, q1⟩ := hS9
                        clear q0 q1
                        go_simp
                      try simp only [Act.put, List.setIfInBounds_toArray, List.set_cons_zero, List.set_cons_succ]
                      refine wpAnyN_take (i := 9) (oi := { dst := some 159, op := Go.Op.binOp Go.BinOp.neq 29 (Go.Operand.tmp 158) (Go.Operand.const (Go.Value.int Go.IntKind.i64 2)) 29, type := 4, pos := "law.go:75", after := #[{ on := 8, ground := Go.Ground.data }, { on := 7, ground := Go.Ground.guard }], guard := some (7, true) }) (v := .bool false) rfl (by decide) (by kernel_rfl) (by kernel_rfl) (by kernel_rfl) (fun _ _ _ h => h) (Or.inl ⟨by rfl, ?_⟩) hS0 ?_
                      · intro W9 hS9
                        obtain ⟨q0, q1⟩ := hS9
                        clear q0 q1
                        go_simp
                      try simp only [Act.put, List.setIfInBounds_toArray, List.set_cons_zero, List.set_cons_succ]
                      refine wpAnyN_take (i := 10) (oi := { dst := some 160, op := Go.Op.move (Go.Operand.tmp 159), type := 4, pos := "law.go:75", after := #[{ on := 9, ground := Go.Ground.data }, { on := 7, ground := Go.Ground.chain }, { on := 7, ground := Go.Ground.guard }], guard := some (7, true) }) (v := .bool false) rfl (by decide) (by kernel_rfl) (by kernel_rfl) (by kernel_rfl) (fun _ _ _ h => h) (Or.inl ⟨by rfl, ?_⟩) hS0 ?_
                      · intro W9 hS9
                        obtain ⟨q0, q1⟩ := hS9
                        clear q0 q1
                        go_simp
                      try simp only [Act.put, List.setIfInBounds_toArray, List.set_cons_zero, List.set_cons_succ]
                      refine wpAnyN_take (i := 11) (oi := { dst := some 161, op := Go.Op.fieldAddr 24 (Go.Operand.tmp 23) 0, type := 0, pos := "law.go:75", after := #[{ on := 10, ground := Go.Ground.guard }], guard := some (10, false) }) (v := .pointer (some ⟨bM, 0, none⟩)) rfl (by decide) (by kernel_rfl) (by kernel_rfl) (by kernel_rfl) (fun _ _ _ h => h) (Or.inl ⟨by rfl, ?_⟩) hS0 ?_
                      · intro W9 hS9
                        obtain ⟨q0, q1⟩ := hS9
                        clear q0 q1
                        go_simp
                      try simp only [Act.put, List.setIfInBounds_toArray, List.set_cons_zero, List.set_cons_succ]
                      refine wpAnyN_take (i := 12) (oi := { dst := some 162, op := Go.Op.load 22 (Go.Operand.tmp 161), type := 22, pos := "law.go:75", after := #[{ on := 11, ground := Go.Ground.data }, { on := 10, ground := Go.Ground.guard }], guard := some (10, false) }) (v := .slice a9 0 c9) rfl (by decide) (by kernel_rfl) (by kernel_rfl) (by kernel_rfl) (fun _ _ _ h => h) (Or.inl ⟨by rfl, ?_⟩) hS0 ?_
                      · intro W9 hS9
                        obtain ⟨q0, q1⟩ := hS9
                        have s0 : W9.cell? ⟨bE, 0, none⟩ = some (.int .i64 ei) := q0.cell 0
                        have s1 : W9.cell? ⟨bM, 0, none⟩ = some (.slice a9 0 c9) := q1.cell 0
                        clear q0 q1
                        go_simp
                      try simp only [Act.put, List.setIfInBounds_toArray, List.set_cons_zero, List.set_cons_succ]
                      refine wpAnyN_take (i := 13) (oi := { dst := some 163, op := Go.Op.call { callee := Go.Callee.builtin Go.Builtin.len, args := #[Go.Operand.tmp 162], argTypes := #[22] }, type := 3, pos := "law.go:75", after := #[{ on := 12, ground := Go.Ground.data }, { on := 10, ground := Go.Ground.guard }], guard := some (10, false) }) (v := .int .i64 0) rfl (by decide) (by kernel_rfl) (by kernel_rfl) (by kernel_rfl) (fun _ _ _ h => h) (Or.inl ⟨by rfl, ?_⟩) hS0 ?_
                      · intro W9 hS9
                        obtain ⟨q0, q1⟩ := hS9
                        clear q0 q1
                        go_simp
                      try simp only [Act.put, List.setIfInBounds_toArray, List.set_cons_zero, List.set_cons_succ]
                      refine wpAnyN_take (i := 14) (oi := { dst := some 164, op := Go.Op.binOp Go.BinOp.gtr 3 (Go.Operand.tmp 163) (Go.Operand.const (Go.Value.int Go.IntKind.i64 0)) 3, type := 4, pos := "law.go:75", after := #[{ on := 13, ground := Go.Ground.data }, { on := 10, ground := Go.Ground.guard }], guard := some (10, false) }) (v := .bool false) rfl (by decide) (by kernel_rfl) (by kernel_rfl) (by kernel_rfl) (fun _ _ _ h => h) (Or.inl ⟨by rfl, ?_⟩) hS0 ?_
                      · intro W9 hS9
                        obtain ⟨q0, q1⟩ := hS9
                        clear q0 q1
                        go_simp
                      try simp only [Act.put, List.setIfInBounds_toArray, List.set_cons_zero, List.set_cons_succ]
                      refine wpAnyN_take (i := 15) (oi := { dst := some 165, op := Go.Op.pick (Go.Operand.tmp 160) (Go.Operand.const (Go.Value.bool true)) (Go.Operand.tmp 164), type := 4, pos := "law.go:75", after := #[{ on := 10, ground := Go.Ground.data }, { on := 14, ground := Go.Ground.data }, { on := 7, ground := Go.Ground.guard }], guard := some (7, true) }) (v := .bool false) rfl (by decide) (by kernel_rfl) (by kernel_rfl) (by kernel_rfl) (fun _ _ _ h => h) (Or.inl ⟨by rfl, ?_⟩) hS0 ?_
                      · intro W9 hS9
                        obtain ⟨q0, q1⟩ := hS9
                        clear q0 q1
                        go_simp
                      try simp only [Act.put, List.setIfInBounds_toArray, List.set_cons_zero, List.set_cons_succ]
                      refine wpAnyN_take (i := 16) (oi := { dst := some 166, op := Go.Op.pick (Go.Operand.tmp 157) (Go.Operand.tmp 165) (Go.Operand.const (Go.Value.bool false)), type := 4, pos := "law.go:75", after := #[{ on := 7, ground := Go.Ground.data }, { on := 15, ground := Go.Ground.data }, { on := 4, ground := Go.Ground.guard }], guard := some (4, false) }) (v := .bool false) rfl (by decide) (by kernel_rfl) (by kernel_rfl) (by kernel_rfl) (fun _ _ _ h => h) (Or.inl ⟨by rfl, ?_⟩) hS0 ?_
                      · intro W9 hS9
                        obtain ⟨q0, q1⟩ := hS9
                        clear q0 q1
                        go_simp
                      try simp only [Act.put, List.setIfInBounds_toArray, List.set_cons_zero, List.set_cons_succ]
                      refine wpAnyN_take (i := 17) (oi := { dst := some 167, op := Go.Op.pick (Go.Operand.tmp 154) (Go.Operand.const (Go.Value.bool true)) (Go.Operand.tmp 166), type := 4, pos := "law.go:75", after := #[{ on := 4, ground := Go.Ground.data }, { on := 16, ground := Go.Ground.data }], guard := none }) (v := .bool false) rfl (by decide) (by kernel_rfl) (by kernel_rfl) (by kernel_rfl) (fun _ _ _ h => h) (Or.inl ⟨by rfl, ?_⟩) hS0 ?_
                      · intro W9 hS9
                        obtain ⟨q0, q1⟩ := hS9
                        clear q0 q1
                        go_simp
                      try simp only [Act.put, List.setIfInBounds_toArray, List.set_cons_zero, List.set_cons_succ]
                      refine wpAnyN_take (i := 18) (oi := { dst := some 168, op := Go.Op.move (Go.Operand.tmp 167), type := 4, pos := "law.go:75", after := #[{ on := 17, ground := Go.Ground.data }, { on := 10, ground := Go.Ground.chain }], guard := none }) (v := .bool false) rfl (by decide) (by kernel_rfl) (by kernel_rfl) (by kernel_rfl) (fun _ _ _ h => h) (Or.inl ⟨by rfl, ?_⟩) hS0 ?_
                      · intro W9 hS9
                        obtain ⟨q0, q1⟩ := hS9
                        clear q0 q1
                        go_simp
                      try simp only [Act.put, List.setIfInBounds_toArray, List.set_cons_zero, List.set_cons_succ]
                      refine wpAnyN_take (i := 19) (oi := { dst := some 169, op := Go.Op.move (Go.Operand.tmp 25), type := 4, pos := "law.go:75", after := #[{ on := 18, ground := Go.Ground.guard }], guard := some (18, false) }) (v := .bool false) rfl (by decide) (by kernel_rfl) (by kernel_rfl) (by kernel_rfl) (fun _ _ _ h => h) (Or.inl ⟨by rfl, ?_⟩) hS0 ?_
                      · intro W9 hS9
                        obtain ⟨q0, q1⟩ := hS9
                        clear q0 q1
                        go_simp
                      try simp only [Act.put, List.setIfInBounds_toArray, List.set_cons_zero, List.set_cons_succ]
                      refine wpAnyN_take (i := 20) (oi := { dst := some 170, op := Go.Op.move (Go.Operand.tmp 169), type := 4, pos := "law.go:75", after := #[{ on := 19, ground := Go.Ground.data }, { on := 18, ground := Go.Ground.chain }, { on := 18, ground := Go.Ground.guard }], guard := some (18, false) }) (v := .bool false) rfl (by decide) (by kernel_rfl) (by kernel_rfl) (by kernel_rfl) (fun _ _ _ h => h) (Or.inl ⟨by rfl, ?_⟩) hS0 ?_
                      · intro W9 hS9
                        obtain ⟨q0, q1⟩ := hS9
                        clear q0 q1
                        go_simp
                      try simp only [Act.put, List.setIfInBounds_toArray, List.set_cons_zero, List.set_cons_succ]
                      refine wpAnyN_take (i := 21) (oi := { dst := some 171, op := Go.Op.load 24 (Go.Operand.tmp 23), type := 24, pos := "law.go:75", after := #[{ on := 20, ground := Go.Ground.guard }], guard := some (20, true) }) (v := undef) rfl (by decide) (by kernel_rfl) (by kernel_rfl) (by kernel_rfl) (fun _ _ _ h => h) (Or.inr ⟨by rfl, rfl⟩) hS0 ?_
                      try simp only [Act.put, List.setIfInBounds_toArray, List.set_cons_zero, List.set_cons_succ]
                      refine wpAnyN_take (i := 22) (oi := { dst := some 172, op := Go.Op.fieldAddr 37 (Go.Operand.tmp 18) 0, type := 0, pos := "law.go:75", after := #[{ on := 20, ground := Go.Ground.guard }], guard := some (20, true) }) (v := undef) rfl (by decide) (by kernel_rfl) (by kernel_rfl) (by kernel_rfl) (fun _ _ _ h => h) (Or.inr ⟨by rfl, rfl⟩) hS0 ?_
                      try simp only [Act.put, List.setIfInBounds_toArray, List.set_cons_zero, List.set_cons_succ]
                      refine wpAnyN_take (i := 23) (oi := { dst := some 173, op := Go.Op.load 3 (Go.Operand.tmp 172), type := 3, pos := "law.go:75", after := #[{ on := 22, ground := Go.Ground.data }, { on := 20, ground := Go.Ground.guard }], guard := some (20, true) }) (v := undef) rfl (by decide) (by kernel_rfl) (by kernel_rfl) (by kernel_rfl) (fun _ _ _ h => h) (Or.inr ⟨by rfl, rfl⟩) hS0 ?_
                      try simp only [Act.put, List.setIfInBounds_toArray, List.set_cons_zero, List.set_cons_succ]
                      refine wpAnyN_take (i := 24) (oi := { dst := some 174, op := Go.Op.call { callee := Go.Callee.value (Go.Operand.func 19), args := #[Go.Operand.tmp 173], argTypes := #[3] }, type := 24, pos := "law.go:75", after := #[{ on := 23, ground := Go.Ground.data }, { on := 20, ground := Go.Ground.chain }, { on := 20, ground := Go.Ground.guard }], guard := some (20, true) }) (v := undef) rfl (by decide) (by kernel_rfl) (by kernel_rfl) (by kernel_rfl) (fun _ _ _ h => h) (Or.inr ⟨by rfl, rfl⟩) hS0 ?_
                      try simp only [Act.put, List.setIfInBounds_toArray, List.set_cons_zero, List.set_cons_succ]
                      refine wpAnyN_take (i := 25) (oi := { dst := some 175, op := Go.Op.call { callee := Go.Callee.value (Go.Operand.func 10), args := #[Go.Operand.tmp 171, Go.Operand.tmp 174], argTypes := #[24, 24] }, type := 4, pos := "law.go:75", after := #[{ on := 21, ground := Go.Ground.data }, { on := 24, ground := Go.Ground.data }, { on := 24, ground := Go.Ground.chain }, { on := 20, ground := Go.Ground.guard }], guard := some (20, true) }) (v := undef) rfl (by decide) (by kernel_rfl) (by kernel_rfl) (by kernel_rfl) (fun _ _ _ h => h) (Or.inr ⟨by rfl, rfl⟩) hS0 ?_
                      try simp only [Act.put, List.setIfInBounds_toArray, List.set_cons_zero, List.set_cons_succ]
                      refine wpAnyN_take (i := 26) (oi := { dst := some 176, op := Go.Op.unOp Go.UnOp.not 4 (Go.Operand.tmp 175), type := 4, pos := "law.go:75", after := #[{ on := 25, ground := Go.Ground.data }, { on := 20, ground := Go.Ground.guard }], guard := some (20, true) }) (v := undef) rfl (by decide) (by kernel_rfl) (by kernel_rfl) (by kernel_rfl) (fun _ _ _ h => h) (Or.inr ⟨by rfl, rfl⟩) hS0 ?_
                      try simp only [Act.put, List.setIfInBounds_toArray, List.set_cons_zero, List.set_cons_succ]
                      refine wpAnyN_take (i := 27) (oi := { dst := some 177, op := Go.Op.pick (Go.Operand.tmp 170) (Go.Operand.tmp 176) (Go.Operand.const (Go.Value.bool false)), type := 4, pos := "law.go:75", after := #[{ on := 20, ground := Go.Ground.data }, { on := 26, ground := Go.Ground.data }, { on := 18, ground := Go.Ground.guard }], guard := some (18, false) }) (v := .bool false) rfl (by decide) (by kernel_rfl) (by kernel_rfl) (by kernel_rfl) (fun _ _ _ h => h) (Or.inl ⟨by rfl, ?_⟩) hS0 ?_
                      · intro W9 hS9
                        obtain ⟨q0, q1⟩ := hS9
                        clear q0 q1
                        go_simp
                      try simp only [Act.put, List.setIfInBounds_toArray, List.set_cons_zero, List.set_cons_succ]
                      refine wpAnyN_take (i := 28) (oi := { dst := some 178, op := Go.Op.pick (Go.Operand.tmp 168) (Go.Operand.const (Go.Value.bool true)) (Go.Operand.tmp 177), type := 4, pos := "law.go:75", after := #[{ on := 18, ground := Go.Ground.data }, { on := 27, ground := Go.Ground.data }], guard := none }) (v := .bool false) rfl (by decide) (by kernel_rfl) (by kernel_rfl) (by kernel_rfl) (fun _ _ _ h => h) (Or.inl ⟨by rfl, ?_⟩) hS0 ?_
                      · intro W9 hS9
                        obtain ⟨q0, q1⟩ := hS9
                        clear q0 q1
                        go_simp
                      try simp only [Act.put, List.setIfInBounds_toArray, List.set_cons_zero, List.set_cons_succ]
                      refine wpAnyX_end (by kernel_rfl) ?_
                      clear hS0
                      go_wp2_with fail
                      go_roundw
                      case rel => exact ⟨k + 1, by omega, by omega, by go_num, HB5⟩
                      case measure => simp [intOf] <;> omega
              · obtain rfl : k = nl := by omega
                have hki : ¬ (k : Int) < (k : Int) := by omega
                go_upto_region 37 with fail
                refine wp_region_X (fun W' => Rows8 W' w.heap.size 24 #[.slice ax nx cx] ∧ Rows8 W' bA 24 #[.slice a7 n7 c7]) 5 (by kernel_rfl) ?_
                have hS0 : Rows8 wr.drew w.heap.size 24 #[.slice ax nx cx] ∧ Rows8 wr.drew bA 24 #[.slice a7 n7 c7] := ⟨(RX.out.below HB.out RX.out.lt).drewA, (RA.out.below HB.out RA.out.lt).drewA⟩
                have G0 := Lib.hid HB.out.drew
                generalize wr.drew = Wd at *
                refine wpAnyN_take (i := 0) (oi := { dst := some 180, op := Go.Op.load 24 (Go.Operand.tmp 7), type := 24, pos := "law.go:79", after := #[], guard := none }) (v := .agg #[.slice a7 n7 c7]) rfl (by decide) (by kernel_rfl) (by kernel_rfl) (by kernel_rfl) (fun _ _ _ h => h) (Or.inl ⟨by rfl, ?_⟩) hS0 ?_
                · intro W9 hS9
                  obtain ⟨q0, q1⟩ := hS9
                  have s0 : W9.cell? ⟨w.heap.size, 0, none⟩ = some (.slice ax nx cx) := q0.cell 0
                  have s1 : W9.cell? ⟨bA, 0, none⟩ = some (.slice a7 n7 c7) := q1.cell 0
                  clear q0 q1
                  go_simp
                try simp only [Act.put, List.setIfInBounds_toArray, List.set_cons_zero, List.set_cons_succ]
                refine wpAnyN_take (i := 1) (oi := { dst := some 181, op := Go.Op.load 24 (Go.Operand.tmp 3), type := 24, pos := "law.go:79", after := #[], guard := none }) (v := .agg #[.slice ax nx cx]) rfl (by decide) (by kernel_rfl) (by kernel_rfl) (by kernel_rfl) (fun _ _ _ h => h) (Or.inl ⟨by rfl, ?_⟩) hS0 ?_
                · intro W9 hS9
                  obtain ⟨q0, q1⟩ := hS9
                  have s0 : W9.cell? ⟨w.heap.size, 0, none⟩ = some (.slice ax nx cx) := q0.cell 0
                  have s1 : W9.cell? ⟨bA, 0, none⟩ = some (.slice a7 n7 c7) := q1.cell 0
                  clear q0 q1
                  go_simp
                try simp only [Act.put, List.setIfInBounds_toArray, List.set_cons_zero, List.set_cons_succ]
                refine wpAnyX_one (i := 2) (o := { dst := some 182, op := Go.Op.call { callee := Go.Callee.value (Go.Operand.func 6), args := #[Go.Operand.tmp 181], argTypes := #[24] }, type := 24, pos := "law.go:79", after := #[{ on := 1, ground := Go.Ground.data }], guard := none }) (by kernel_rfl) rfl (fun K hK => ?_)
                refine step_call_g (by rfl) 6 _ _ rfl (fun _ _ => by kernel_rfl) #[.agg #[.slice ax nx cx]] (by simp [go_sem]) _ (HOx Wd (PAt.below HI.out (B0.out.trans (G0.out.mono B0.out.size)))).out ?_
                rintro e g1 ⟨a9, n9, c9, rfl, h9, hO9, hC⟩
                refine ⟨_, rfl, ?_⟩
                have hS1 : Rows8 g1 w.heap.size 24 #[.slice ax nx cx] ∧ Rows8 g1 bA 24 #[.slice a7 n7 c7] := ⟨hS0.1.below hC hS0.1.lt, hS0.2.below hC hS0.2.lt⟩
                have G1 := Lib.hid (G0.out.trans (hC.mono G0.out.size))
                have P9 := Lib.hid hO9.at
                clear hO9
                clear hC
                refine hK.out _ _ (fun _ => hS1) ?_
                clear hK K
                try simp only [Act.put, List.setIfInBounds_toArray, List.set_cons_zero, List.set_cons_succ]
                refine wpAnyX_one (i := 3) (o := { dst := some 183, op := Go.Op.call { callee := Go.Callee.value (Go.Operand.func 10), args := #[Go.Operand.tmp 180, Go.Operand.tmp 182], argTypes := #[24, 24] }, type := 4, pos := "law.go:79", after := #[{ on := 0, ground := Go.Ground.data }, { on := 2, ground := Go.Ground.data }, { on := 2, ground := Go.Ground.chain }], guard := none }) (by kernel_rfl) rfl (fun K hK => ?_)
                refine step_call_g (by rfl) 10 _ _ rfl (fun _ _ => by kernel_rfl) #[.agg #[.slice a7 n7 c7], .agg #[.slice a9 n9 c9]] (by simp [go_sem]) _ (HSP g1 a9 n9 c9 (PAt.below PA.out G1.out) P9.out (by omega)).out ?_
                rintro e g2 ⟨rfl, hC⟩
                refine ⟨_, rfl, ?_⟩
                have hS2 : Rows8 g2 w.heap.size 24 #[.slice ax nx cx] ∧ Rows8 g2 bA 24 #[.slice a7 n7 c7] := ⟨hS1.1.below hC hS1.1.lt, hS1.2.below hC hS1.2.lt⟩
                have G2 := Lib.hid (G1.out.trans (hC.mono G1.out.size))
                clear hC
                refine hK.out _ _ (fun _ => hS2) ?_
                clear hK K
                try simp only [Act.put, List.setIfInBounds_toArray, List.set_cons_zero, List.set_cons_succ]
                refine wpAnyN_take (i := 4) (oi := { dst := some 6, op := Go.Op.assign (Go.Operand.tmp 183), type := 4, pos := "law.go:79", after := #[{ on := 3, ground := Go.Ground.data }, { on := 3, ground := Go.Ground.chain }, { on := 0, ground := Go.Ground.phase }, { on := 1, ground := Go.Ground.phase }, { on := 2, ground := Go.Ground.phase }, { on := 3, ground := Go.Ground.phase }], guard := none }) (v := .bool true) rfl (by decide) (by kernel_rfl) (by kernel_rfl) (by kernel_rfl) (fun _ _ _ h => h) (Or.inl ⟨by rfl, ?_⟩) hS2 ?_
                · intro W9 hS9
                  obtain ⟨q0, q1⟩ := hS9
                  clear q0 q1
                  go_simp
                try simp only [Act.put, List.setIfInBounds_toArray, List.set_cons_zero, List.set_cons_succ]
                refine wpAnyX_end (by kernel_rfl) ?_
                clear hS0 hS1 hS2
                go_wp2_with fail
                go_ret
                exact ⟨rfl, B0.out.trans (G2.out.mono B0.out.size)⟩
end Go.Proofs
namespace Go.Proofs.Ytahcghppmhlebaa.arenaMay
open Go.ChangeShapes Go.WideShapes Go.ChangeAt Go.RowKit Go.Shelf

theorem own : ownKnob Try.prog.godebug = none := by kernel_rfl
theorem walk (g h : Arv) (a2 : Option Addr) (len2 cap2 : Nat) (z2 : List Pr) (w : World) (hg : PAt w (.slice g.a g.n g.c) g.l) (hh : PAt w (.slice h.a h.n h.c) h.l) (_ : len2 = z2.length) (w2 : PAt w (.slice a2 len2 cap2) z2) :
    Calls Try.prog 3 #[.agg #[.slice g.a g.n g.c], .agg #[.slice h.a h.n h.c], .slice a2 len2 cap2] w fun e w' => e = .returned (.bool true) ∧ Below w.heap.size w w' := Try.may_any g.a g.n g.c g.l h.a h.n h.c h.l a2 len2 cap2 z2 w hg hh w2
theorem laidOut : laidOutB Try.prog = true := by kernel_rfl
set_option maxRecDepth 100000 in
theorem lifted (os : Os) (started : os.Started) (H : Type) (enc : TypeId × Value → H) :
    ReturnsInHanded {} Try.checked os 3 .any (Rows.arenaMaySpec.pre6 enc Try.prog Try.f3 Rows.arenaMayRow.domain false) (Rows.arenaMaySpec.post enc Try.prog Try.f3 false true false false) := by
  refine returnsInHanded_of_change (C := Try.checked) own started (by kernel_rfl) Try.func3
    (ChangeSpec.witness6 (enc := enc) (C := Try.checked) false ⟨#[], #[.agg #[.slice none 0 0], .agg #[.slice none 0 0], .slice none 0 0], []⟩ 8 (by kernel_rfl) (by kernel_rfl) (by kernel_rfl) (by kernel_rfl)) ?_
  intro W base args ds gs before hval0 hW hcnd _
  have hval : ∀ (j : Nat) t v, Try.f3.params[j]? = some t → args[j]? = some v → Value.okWide Try.prog W .any base t v := hval0
  have hW' := hW
  obtain ⟨p, q, hA0, hV, rfl, hfz, hnd⟩ := hW
  have hA : DataW.TrodAll enc Try.prog W 0 (fun _ => true) true Try.f3.params.toList args.toList ds p := hA0
  rw [Try.params3] at hA hval
  obtain ⟨v0, vs0, d0, ds0, p0, q0, hargs, rfl, rfl, h0, r0⟩ := trodAll_cons hA
  obtain ⟨v1, vs1, d1, ds1, p1, q1, rfl, rfl, rfl, h1, r1⟩ := trodAll_cons r0
  obtain ⟨v2, vs2, d2, ds2, p2, q2, rfl, rfl, rfl, h2, r2⟩ := trodAll_cons r1
  obtain ⟨rfl, rfl, rfl⟩ := trodAll_nil r2
  obtain rfl : args = #[v0, v1, v2] := by cases args; simp_all
  obtain ⟨rfl, rfl⟩ := trodVars_none hV
  have k0 := h0
  have lt0 : ∀ x ∈ p0, x.block < W.heap.size := by obtain ⟨m, hm⟩ := k0; exact DataW.trod_lt m _ _ _ hm
  obtain ⟨g0, rfl, w0⟩ := open_arena (hval 0 24 v0 rfl rfl) h0
  have k1 := h1
  have lt1 : ∀ x ∈ p1, x.block < W.heap.size := by obtain ⟨m, hm⟩ := k1; exact DataW.trod_lt m _ _ _ hm
  obtain ⟨g1, rfl, w1⟩ := open_arena (hval 1 24 v1 rfl rfl) h1
  obtain ⟨a2, len2, cap2, rfl⟩ := okWide_slice Try.underlying25 (hval 2 25 v2 rfl rfl)
  have k2 := h2
  have lt2 : ∀ x ∈ p2, x.block < W.heap.size := by obtain ⟨m, hm⟩ := k2; exact DataW.trod_lt m _ _ _ hm
  obtain ⟨z2, n2, w2⟩ : ∃ zs, len2 = zs.length ∧ PAt W (.slice a2 len2 cap2) zs := by
    obtain ⟨fuel, hf⟩ := h2
    exact open_ents hf
  clear hA0 hval0
  refine (walk g0 g1 a2 len2 cap2 z2 W w0 w1 n2 w2).mono fun e W' ⟨he, bel⟩ => ?_
  subst he
  exact ⟨_, rfl, _, _, _, [], _, [], hW', trodAll_mk1 (shut_bool Try.underlying4 _), (trodAll_cons_mk (Below.trod laidOut (by kernel_rfl) (of_decide_eq_true (by kernel_rfl)) k0 bel lt0) (trodAll_cons_mk (Below.trod laidOut (by kernel_rfl) (of_decide_eq_true (by kernel_rfl)) k1 bel lt1) (trodAll_cons_mk (Below.trod laidOut (by kernel_rfl) (of_decide_eq_true (by kernel_rfl)) k2 bel lt2) trodAll_mk0))), rfl, bel.frame _, fun h => by cases h⟩

theorem over : Rows.arenaMayRow.holds Try.pinned (OpenSpec.ofChange Rows.arenaMaySpec) :=
  OpenClaim.holds_of_wide 3 Try.f3 rfl rfl rfl rfl rfl rfl rfl ⟨rfl, rfl, rfl, rfl, rfl⟩ rfl rfl rfl rfl rfl (by kernel_rfl) Try.func3 (by kernel_rfl)
    (of_decide_eq_true (by kernel_rfl)) (by unfold Func.isWrapper; first | (rw [if_pos (by decide +kernel)]; kernel_rfl) | (rw [if_neg (by decide +kernel)]; exact ⟨rfl, rfl⟩))
    (fun os started H enc _ => lifted os started H enc)

theorem proved : Rows.ArenaMaySaid := over
end Go.Proofs.Ytahcghppmhlebaa.arenaMay
