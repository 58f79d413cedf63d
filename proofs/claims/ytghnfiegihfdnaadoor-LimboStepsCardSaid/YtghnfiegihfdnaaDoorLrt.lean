/- Limbo: the reference: Right. -/
import Derived.Test.YtghnfiegihfdnaaDoorLz
namespace Go.Proofs
set_option maxRecDepth 100000
open Go.RowKit Go.Shelf
attribute [local go_sem] Oper.semAt_some

theorem right_eq (E : Nat) (r : Rw3) : rightL E r = (goodL (heldL E r) && (decide (E ≤ 4611686018427387904) && decide ((heldL E r).length = (r 0).length + (r 1).length + (r 2).length))) := by
  rw [Bool.eq_iff_iff]
  simp only [Bool.and_eq_true, decide_eq_true_eq]
  constructor
  · intro h
    obtain ⟨⟨hE, h1, h2⟩, _⟩ := rightL_iff.1 h
    refine ⟨rightL_held h, hE, ?_⟩
    rw [(heldL_perm h1 h2).length_eq]
    simp [allL, Nat.add_assoc]
  · rintro ⟨hg, hE, hl⟩
    rcases two_more E with rfl | rfl | ⟨F, rfl⟩
    · rw [heldL_0] at hl
      exact held_right hE (fun _ => List.eq_nil_of_length_eq_zero (by omega)) (fun _ => List.eq_nil_of_length_eq_zero (by omega)) hg
    · rw [heldL_1, List.length_append] at hl
      exact held_right hE (fun h => absurd h (by omega)) (fun _ => List.eq_nil_of_length_eq_zero (by omega)) hg
    · exact held_right hE (fun h => absurd h (by omega)) (fun h => absurd h (by omega)) hg
theorem right_no {E : Nat} {r : Rw3} (h : goodL (heldL E r) = false) : rightL E r = false := by rw [right_eq, h]; rfl
set_option maxHeartbeats 16000000 in
theorem Tryd.refRight_any (E : Nat) (s : Ls) (r : Rw3) (w : World) (hI : LAt w s r) (hE : E < 18446744073709551616) (hl : ∀ k, k < 3 → (r k).length ≤ 1000) :
    Calls Tryd.prog 9 #[.agg #[.int .u64 (E : Nat), .slice (s.a 0) (s.n 0) (s.c 0), .slice (s.a 1) (s.n 1) (s.c 1), .slice (s.a 2) (s.n 2) (s.c 2)]] w fun e w' => e = .returned (.bool (rightL E r)) ∧ Below w.heap.size w w' := by
  obtain ⟨W0, hW0⟩ : ∃ W, W = w.alloc (.cells #[.int .u64 (E : Nat), .slice (s.a 0) (s.n 0) (s.c 0), .slice (s.a 1) (s.n 1) (s.c 1), .slice (s.a 2) (s.n 2) (s.c 2)] 26) := ⟨_, rfl⟩
  have hB0 : Below w.heap.size w W0 := by rw [hW0]; exact Rows8.newB
  have hk0 : Rows8 W0 w.heap.size 26 #[.int .u64 (E : Nat), .slice (s.a 0) (s.n 0) (s.c 0), .slice (s.a 1) (s.n 1) (s.c 1), .slice (s.a 2) (s.n 2) (s.c 2)] := by rw [hW0]; exact Rows8.new _ _ _
  have HHe := Lib.hid (Tryd.refHeld_any E s r W0 (hI.below hB0) hE hl)
  have HLn := Lib.hid (show s.n 0 = (r 0).length ∧ s.n 1 = (r 1).length ∧ s.n 2 = (r 2).length from ⟨(hI.len 0 (by decide)).1, (hI.len 1 (by decide)).1, (hI.len 2 (by decide)).1⟩)
  have hn4 : Hid ((heldL E r).length ≤ 3000) := Lib.hid (by
    have h0 := hl 0 (by decide); have h1 := hl 1 (by decide); have h2 := hl 2 (by decide)
    rcases two_more E with rfl | rfl | ⟨F, rfl⟩
    · rw [heldL_0]; omega
    · rw [heldL_1, List.length_append]; omega
    · rw [heldL_2, List.length_append, List.length_append]
      have a := hl (F % 3) (Nat.mod_lt _ (by decide)); have b := hl ((F + 1) % 3) (Nat.mod_lt _ (by decide)); have c := hl ((F + 2) % 3) (Nat.mod_lt _ (by decide))
      omega)
  have HL := Lib.hid hl
  have hS1 := Lib.hid hB0.size
  have HB := Lib.hid hB0
  have HK := Lib.hid hk0
  have c0 : W0.cell? ⟨w.heap.size, 0, none⟩ = some (.int .u64 (E : Nat)) := hk0.cell 0
  have c1 : W0.cell? ⟨w.heap.size, 1, none⟩ = some (.slice (s.a 0) (s.n 0) (s.c 0)) := hk0.cell 1
  have c2 : W0.cell? ⟨w.heap.size, 2, none⟩ = some (.slice (s.a 1) (s.n 1) (s.c 1)) := hk0.cell 2
  have c3 : W0.cell? ⟨w.heap.size, 3, none⟩ = some (.slice (s.a 2) (s.n 2) (s.c 2)) := hk0.cell 3
  have lt0 := hk0.lt
  have HE := Lib.hid hE
  clear hI hB0 hk0 hl hE
  go_enter Tryd.func9, Tryd.ntmps9
  go_wp2_with fail
  rw [← hW0]
  clear hW0
  refine HHe.out.mono ?_
  rintro e W1 ⟨v, rfl, hv, hB1⟩
  obtain ⟨a, c, rfl⟩ := hv.form
  obtain ⟨n, hn⟩ : ∃ n, n = (heldL E r).length := ⟨_, rfl⟩
  rw [← hn] at hv hn4 ⊢
  have hcap := (pAt_len (OwnsP.at hv)).2
  have HN := Lib.hid hn
  have HK := Lib.hid (HK.out.below hB1 HK.out.lt)
  have HO := Lib.hid (hv.mono hS1.out)
  have HB := Lib.hid (HB.out.trans (hB1.mono HB.out.size))
  have HCP := Lib.hid hcap
  clear hv hB1 HHe hn hcap c0 c1 c2 c3 lt0 hS1
  go_wp2_with fail
  go_loopw [10] (fun j wr => ∃ k : Nat, k ≤ n ∧ j = .int .i64 k ∧ Hid (goodL ((heldL E r).take k) = true) ∧ Hid (Rows8 wr w.heap.size 26 #[.int .u64 (E : Nat), .slice (s.a 0) (s.n 0) (s.c 0), .slice (s.a 1) (s.n 1) (s.c 1), .slice (s.a 2) (s.n 2) (s.c 2)]) ∧ Hid (OwnsP tE w.heap.size (heldL E r) (.slice a n c) wr) ∧ Hid (Below w.heap.size w wr)) (fun j _ => n - (intOf j).toNat)
  case atStart => exact ⟨0, Nat.zero_le _, rfl, Lib.hid (by rw [List.take_zero]; rfl), HK, HO, HB⟩
  case round =>
    clear HK HO HB
    obtain ⟨k, hk, rfl, hg, hK, hO, hB⟩ := hrel
    by_cases hlt : k < n
    · have hkl : k < (heldL E r).length := by rw [← HN.out]; exact hlt
      have hki : (k : Int) < (n : Int) := by omega
      have hki0 : (0 : Int) ≤ (k : Int) := by omega
      have hkc := Lib.hid (show k ≤ c by have := HCP.out.1; omega)
      obtain ⟨b, off, rfl, hb, p0, p1⟩ := pAt_get (OwnsP.at hO.out) k hkl
      have htk0 := List.take_append_getElem hkl
      have htd := List.take_append_drop (k + 1) (heldL E r)
      obtain ⟨p, hp⟩ : ∃ p, p = (heldL E r)[k] := ⟨_, rfl⟩
      rw [← hp] at p0 p1 htk0
      have hNX : Hid (goodL ((heldL E r).take (k + 1)) = (okE p && !hasS ((heldL E r).take k) p.1)) := Lib.hid (by rw [← htk0, goodL_snoc, hg.out, Bool.true_and])
      have htk := Lib.hid htd
      clear htk0 htd hp hkl hg hb
      go_upto_region 5 with fail
      as_aux_lemma =>
        refine wp_region_L (fun W' => Rows8 W' wr.heap.size 38 #[.int .i64 p.1, .int .u64 (p.2 : Nat)]) 11 (by kernel_rfl) ?_
        have hS0 : Rows8 (wr.alloc (.cells #[.int .i64 p.1, .int .u64 (p.2 : Nat)] 38)).drew wr.heap.size 38 #[.int .i64 p.1, .int .u64 (p.2 : Nat)] := (Rows8.new wr 38 #[.int .i64 p.1, .int .u64 (p.2 : Nat)]).drewA
        have hBd : Below wr.heap.size wr (wr.alloc (.cells #[.int .i64 p.1, .int .u64 (p.2 : Nat)] 38)).drew := (Rows8.newB (W := wr) (t := 38) (cs := #[.int .i64 p.1, .int .u64 (p.2 : Nat)])).drew
        have HK := Lib.hid (hK.out.below hBd hK.out.lt)
        have HO := Lib.hid (hO.out.below hBd (Nat.le_refl _))
        have HB := Lib.hid (hB.out.trans (hBd.mono hB.out.size))
        clear hBd hK hO hB p0 p1
        generalize (wr.alloc (.cells #[.int .i64 p.1, .int .u64 (p.2 : Nat)] 38)).drew = Wd at *
        refine wpAnyL_takeT (i := 0) (oi := { dst := some 15, op := Go.Op.load 38 (Go.Operand.tmp 5), type := 38, pos := "ref.go:39", after := #[], guard := none }) (v := .agg #[.int .i64 p.1, .int .u64 (p.2 : Nat)]) [1, 2, 3, 4, 5, 6, 7, 8, 9, 10] rfl (by kernel_rfl) (by kernel_rfl) (by kernel_rfl) (by kernel_rfl) (fun _ _ _ h => h) (Or.inl ⟨by rfl, ?_⟩) hS0 ?_
        · intro W9 hS9
          have s0 : W9.cell? ⟨wr.heap.size, 0, none⟩ = some (.int .i64 p.1) := hS9.cell 0
          have s1 : W9.cell? ⟨wr.heap.size, 1, none⟩ = some (.int .u64 (p.2 : Nat)) := hS9.cell 1
          clear hS9
          go_simp
        try simp only [Act.put, List.setIfInBounds_toArray, List.set_cons_zero, List.set_cons_succ]
        refine wpAnyL_one (i := 1) (o := { dst := some 16, op := Go.Op.call { callee := Go.Callee.value (Go.Operand.func 31), args := #[Go.Operand.tmp 15], argTypes := #[38] }, type := 4, pos := "ref.go:39", after := #[{ on := 0, ground := Go.Ground.data }], guard := none }) (by kernel_rfl) rfl (fun K hK => ?_)
        refine step_call_g (by rfl) 31 _ _ rfl (fun _ _ => by kernel_rfl) #[.agg #[.int .i64 p.1, .int .u64 (p.2 : Nat)]] (by simp [go_sem]) _ (Tryd.refEntry_any p Wd) ?_
        rintro e We ⟨rfl, hC⟩
        have HK := Lib.hid (HK.out.below hC HK.out.lt)
        have HO := Lib.hid (HO.out.below hC (Nat.le_refl _))
        have HB := Lib.hid (HB.out.trans (hC.mono HB.out.size))
        have hS0 := hS0.below hC hS0.lt
        clear hC
        refine ⟨_, rfl, ?_⟩
        refine hK.out _ _ (fun _ => hS0) ?_
        clear hK K
        try simp only [Act.put, List.setIfInBounds_toArray, List.set_cons_zero, List.set_cons_succ]
        cases ho : okE p with
        | false =>
          have HNO := Lib.hid (show rightL E r = false from right_no (by cases hg : goodL (heldL E r) with | false => rfl | true => (have h9 := hNX.out; rw [ho] at h9; have h8 := htk.out; rw [← h8] at hg; rw [goodL_left hg] at h9; simp at h9)))
          clear hNX htk ho
          refine wpAnyL_one (i := 2) (o := { dst := some 17, op := Go.Op.unOp Go.UnOp.not 4 (Go.Operand.tmp 16), type := 4, pos := "ref.go:39", after := #[{ on := 1, ground := Go.Ground.data }], guard := none }) (by kernel_rfl) rfl (fun K hK => ?_)
          refine step_value_g (by rfl) (.bool true) (w' := We) (by go_simp) ?_
          refine hK.out _ _ (fun _ => hS0) ?_
          clear hK K
          try simp only [Act.put, List.setIfInBounds_toArray, List.set_cons_zero, List.set_cons_succ]
          refine wpAnyL_one (i := 3) (o := { dst := some 18, op := Go.Op.move (Go.Operand.tmp 17), type := 4, pos := "ref.go:39", after := #[{ on := 2, ground := Go.Ground.data }, { on := 1, ground := Go.Ground.chain }], guard := none }) (by kernel_rfl) rfl (fun K hK => ?_)
          refine step_value_g (by rfl) (.bool true) (w' := We) (by go_simp) ?_
          refine hK.out _ _ (fun _ => hS0) ?_
          clear hK K
          try simp only [Act.put, List.setIfInBounds_toArray, List.set_cons_zero, List.set_cons_succ]
          refine wpAnyL_takeT (i := 4) (oi := { dst := some 19, op := Go.Op.move (Go.Operand.tmp 3), type := 23, pos := "ref.go:39", after := #[{ on := 3, ground := Go.Ground.guard }], guard := some (3, false) }) (v := undef) [6, 9, 10] rfl (by kernel_rfl) (by kernel_rfl) (by kernel_rfl) (by kernel_rfl) (fun _ _ _ h => h) (Or.inr ⟨by rfl, rfl⟩) hS0 ?_
          try simp only [Act.put, List.setIfInBounds_toArray, List.set_cons_zero, List.set_cons_succ]
          refine wpAnyL_takeT (i := 5) (oi := { dst := some 20, op := Go.Op.move (Go.Operand.tmp 4), type := 3, pos := "ref.go:39", after := #[{ on := 3, ground := Go.Ground.guard }], guard := some (3, false) }) (v := undef) [6, 9, 10] rfl (by kernel_rfl) (by kernel_rfl) (by kernel_rfl) (by kernel_rfl) (fun _ _ _ h => h) (Or.inr ⟨by rfl, rfl⟩) hS0 ?_
          try simp only [Act.put, List.setIfInBounds_toArray, List.set_cons_zero, List.set_cons_succ]
          refine wpAnyL_takeT (i := 6) (oi := { dst := some 21, op := Go.Op.slice 23 (Go.Operand.tmp 19) none (some (Go.Operand.tmp 20)) none, type := 23, pos := "ref.go:39", after := #[{ on := 4, ground := Go.Ground.data }, { on := 5, ground := Go.Ground.data }, { on := 3, ground := Go.Ground.guard }], guard := some (3, false) }) (v := undef) [9, 10] rfl (by kernel_rfl) (by kernel_rfl) (by kernel_rfl) (by kernel_rfl) (fun _ _ _ h => h) (Or.inr ⟨by rfl, rfl⟩) hS0 ?_
          try simp only [Act.put, List.setIfInBounds_toArray, List.set_cons_zero, List.set_cons_succ]
          refine wpAnyL_takeT (i := 7) (oi := { dst := some 22, op := Go.Op.fieldAddr 38 (Go.Operand.tmp 5) 0, type := 0, pos := "ref.go:39", after := #[{ on := 3, ground := Go.Ground.guard }], guard := some (3, false) }) (v := undef) [8, 9, 10] rfl (by kernel_rfl) (by kernel_rfl) (by kernel_rfl) (by kernel_rfl) (fun _ _ _ h => h) (Or.inr ⟨by rfl, rfl⟩) hS0 ?_
          try simp only [Act.put, List.setIfInBounds_toArray, List.set_cons_zero, List.set_cons_succ]
          refine wpAnyL_takeT (i := 8) (oi := { dst := some 23, op := Go.Op.load 3 (Go.Operand.tmp 22), type := 3, pos := "ref.go:39", after := #[{ on := 7, ground := Go.Ground.data }, { on := 3, ground := Go.Ground.guard }], guard := some (3, false) }) (v := undef) [9, 10] rfl (by kernel_rfl) (by kernel_rfl) (by kernel_rfl) (by kernel_rfl) (fun _ _ _ h => h) (Or.inr ⟨by rfl, rfl⟩) hS0 ?_
          try simp only [Act.put, List.setIfInBounds_toArray, List.set_cons_zero, List.set_cons_succ]
          refine wpAnyL_takeT (i := 9) (oi := { dst := some 24, op := Go.Op.call { callee := Go.Callee.value (Go.Operand.func 32), args := #[Go.Operand.tmp 21, Go.Operand.tmp 23], argTypes := #[23, 3] }, type := 4, pos := "ref.go:39", after := #[{ on := 6, ground := Go.Ground.data }, { on := 8, ground := Go.Ground.data }, { on := 3, ground := Go.Ground.chain }, { on := 3, ground := Go.Ground.guard }], guard := some (3, false) }) (v := undef) [10] rfl (by kernel_rfl) (by kernel_rfl) (by kernel_rfl) (by kernel_rfl) (fun _ _ _ h => h) (Or.inr ⟨by rfl, rfl⟩) hS0 ?_
          try simp only [Act.put, List.setIfInBounds_toArray, List.set_cons_zero, List.set_cons_succ]
          refine wpAnyL_one (i := 10) (o := { dst := some 25, op := Go.Op.pick (Go.Operand.tmp 18) (Go.Operand.const (Go.Value.bool true)) (Go.Operand.tmp 24), type := 4, pos := "ref.go:39", after := #[{ on := 3, ground := Go.Ground.data }, { on := 9, ground := Go.Ground.data }], guard := none }) (by kernel_rfl) rfl (fun K hK => ?_)
          refine step_value_g (by rfl) (.bool true) (w' := We) (by go_simp) ?_
          refine hK.out _ _ (fun _ => hS0) ?_
          clear hK K
          try simp only [Act.put, List.setIfInBounds_toArray, List.set_cons_zero, List.set_cons_succ]
          refine wpAnyL_end (by kernel_rfl) ?_
          go_wp2_with fail
          go_ret
          exact ⟨by rw [HNO.out]; rfl, HB.out⟩
        | true =>
          refine wpAnyL_one (i := 2) (o := { dst := some 17, op := Go.Op.unOp Go.UnOp.not 4 (Go.Operand.tmp 16), type := 4, pos := "ref.go:39", after := #[{ on := 1, ground := Go.Ground.data }], guard := none }) (by kernel_rfl) rfl (fun K hK => ?_)
          refine step_value_g (by rfl) (.bool false) (w' := We) (by go_simp) ?_
          refine hK.out _ _ (fun _ => hS0) ?_
          clear hK K
          try simp only [Act.put, List.setIfInBounds_toArray, List.set_cons_zero, List.set_cons_succ]
          refine wpAnyL_one (i := 3) (o := { dst := some 18, op := Go.Op.move (Go.Operand.tmp 17), type := 4, pos := "ref.go:39", after := #[{ on := 2, ground := Go.Ground.data }, { on := 1, ground := Go.Ground.chain }], guard := none }) (by kernel_rfl) rfl (fun K hK => ?_)
          refine step_value_g (by rfl) (.bool false) (w' := We) (by go_simp) ?_
          refine hK.out _ _ (fun _ => hS0) ?_
          clear hK K
          try simp only [Act.put, List.setIfInBounds_toArray, List.set_cons_zero, List.set_cons_succ]
          refine wpAnyL_takeT (i := 4) (oi := { dst := some 19, op := Go.Op.move (Go.Operand.tmp 3), type := 23, pos := "ref.go:39", after := #[{ on := 3, ground := Go.Ground.guard }], guard := some (3, false) }) (v := .slice (some ⟨b, off, none⟩) n c) [6, 9, 10] rfl (by kernel_rfl) (by kernel_rfl) (by kernel_rfl) (by kernel_rfl) (fun _ _ _ h => h) (Or.inl ⟨by rfl, ?_⟩) hS0 ?_
          · intro W9 hS9
            clear hS9
            go_simp
          try simp only [Act.put, List.setIfInBounds_toArray, List.set_cons_zero, List.set_cons_succ]
          refine wpAnyL_takeT (i := 5) (oi := { dst := some 20, op := Go.Op.move (Go.Operand.tmp 4), type := 3, pos := "ref.go:39", after := #[{ on := 3, ground := Go.Ground.guard }], guard := some (3, false) }) (v := .int .i64 (k : Nat)) [6, 9, 10] rfl (by kernel_rfl) (by kernel_rfl) (by kernel_rfl) (by kernel_rfl) (fun _ _ _ h => h) (Or.inl ⟨by rfl, ?_⟩) hS0 ?_
          · intro W9 hS9
            clear hS9
            go_simp
          try simp only [Act.put, List.setIfInBounds_toArray, List.set_cons_zero, List.set_cons_succ]
          refine wpAnyL_takeT (i := 6) (oi := { dst := some 21, op := Go.Op.slice 23 (Go.Operand.tmp 19) none (some (Go.Operand.tmp 20)) none, type := 23, pos := "ref.go:39", after := #[{ on := 4, ground := Go.Ground.data }, { on := 5, ground := Go.Ground.data }, { on := 3, ground := Go.Ground.guard }], guard := some (3, false) }) (v := .slice (some ⟨b, off, none⟩) k c) [9, 10] rfl (by kernel_rfl) (by kernel_rfl) (by kernel_rfl) (by kernel_rfl) (fun _ _ _ h => h) (Or.inl ⟨by rfl, ?_⟩) hS0 ?_
          · intro W9 hS9
            clear hS9
            have h9 : (k : Int) ≤ (c : Int) := by have := hkc.out; omega
            have h8 : (0 : Int) ≤ (k : Int) := by omega
            go_simp
          try simp only [Act.put, List.setIfInBounds_toArray, List.set_cons_zero, List.set_cons_succ]
          refine wpAnyL_takeT (i := 7) (oi := { dst := some 22, op := Go.Op.fieldAddr 38 (Go.Operand.tmp 5) 0, type := 0, pos := "ref.go:39", after := #[{ on := 3, ground := Go.Ground.guard }], guard := some (3, false) }) (v := .pointer (some ⟨wr.heap.size, 0, none⟩)) [8, 9, 10] rfl (by kernel_rfl) (by kernel_rfl) (by kernel_rfl) (by kernel_rfl) (fun _ _ _ h => h) (Or.inl ⟨by rfl, ?_⟩) hS0 ?_
          · intro W9 hS9
            clear hS9
            go_simp
          try simp only [Act.put, List.setIfInBounds_toArray, List.set_cons_zero, List.set_cons_succ]
          refine wpAnyL_takeT (i := 8) (oi := { dst := some 23, op := Go.Op.load 3 (Go.Operand.tmp 22), type := 3, pos := "ref.go:39", after := #[{ on := 7, ground := Go.Ground.data }, { on := 3, ground := Go.Ground.guard }], guard := some (3, false) }) (v := .int .i64 p.1) [9, 10] rfl (by kernel_rfl) (by kernel_rfl) (by kernel_rfl) (by kernel_rfl) (fun _ _ _ h => h) (Or.inl ⟨by rfl, ?_⟩) hS0 ?_
          · intro W9 hS9
            have s0 : W9.cell? ⟨wr.heap.size, 0, none⟩ = some (.int .i64 p.1) := hS9.cell 0
            clear hS9
            go_simp
          try simp only [Act.put, List.setIfInBounds_toArray, List.set_cons_zero, List.set_cons_succ]
          refine wpAnyL_one (i := 9) (o := { dst := some 24, op := Go.Op.call { callee := Go.Callee.value (Go.Operand.func 32), args := #[Go.Operand.tmp 21, Go.Operand.tmp 23], argTypes := #[23, 3] }, type := 4, pos := "ref.go:39", after := #[{ on := 6, ground := Go.Ground.data }, { on := 8, ground := Go.Ground.data }, { on := 3, ground := Go.Ground.chain }, { on := 3, ground := Go.Ground.guard }], guard := some (3, false) }) (by kernel_rfl) rfl (fun K hK => ?_)
          have hcut : PAt We (.slice (some ⟨b, off, none⟩) k c) ((heldL E r).take k) := pAt_cut (OwnsP.at HO.out) k hk
          refine step_call_g (by rfl) 32 _ _ rfl (fun _ _ => by kernel_rfl) #[.slice (some ⟨b, off, none⟩) k c, .int .i64 p.1] (by simp [go_sem]) _ (Tryd.has_any (some ⟨b, off, none⟩) k c _ p.1 We hcut (by have := hn4.out; omega)) ?_
          rintro e Wf ⟨rfl, hC⟩
          have HK := Lib.hid (HK.out.below hC HK.out.lt)
          have HO := Lib.hid (HO.out.below hC (Nat.le_refl _))
          have HB := Lib.hid (HB.out.trans (hC.mono HB.out.size))
          have hS0 := hS0.below hC hS0.lt
          clear hC hcut
          refine ⟨_, rfl, ?_⟩
          refine hK.out _ _ (fun _ => hS0) ?_
          clear hK K
          try simp only [Act.put, List.setIfInBounds_toArray, List.set_cons_zero, List.set_cons_succ]
          cases hh : hasS ((heldL E r).take k) p.1 with
          | true =>
            have HNO := Lib.hid (show rightL E r = false from right_no (by cases hg : goodL (heldL E r) with | false => rfl | true => (have h9 := hNX.out; rw [ho, hh] at h9; have h8 := htk.out; rw [← h8] at hg; rw [goodL_left hg] at h9; simp at h9)))
            clear hNX htk ho hh
            refine wpAnyL_one (i := 10) (o := { dst := some 25, op := Go.Op.pick (Go.Operand.tmp 18) (Go.Operand.const (Go.Value.bool true)) (Go.Operand.tmp 24), type := 4, pos := "ref.go:39", after := #[{ on := 3, ground := Go.Ground.data }, { on := 9, ground := Go.Ground.data }], guard := none }) (by kernel_rfl) rfl (fun K hK => ?_)
            refine step_value_g (by rfl) (.bool true) (w' := Wf) (by go_simp) ?_
            refine hK.out _ _ (fun _ => hS0) ?_
            clear hK K
            try simp only [Act.put, List.setIfInBounds_toArray, List.set_cons_zero, List.set_cons_succ]
            refine wpAnyL_end (by kernel_rfl) ?_
            go_wp2_with fail
            go_ret
            exact ⟨by rw [HNO.out]; rfl, HB.out⟩
          | false =>
            have HGN := Lib.hid (show goodL ((heldL E r).take (k + 1)) = true by have h9 := hNX.out; rw [ho, hh] at h9; exact h9)
            clear hNX htk ho hh
            refine wpAnyL_one (i := 10) (o := { dst := some 25, op := Go.Op.pick (Go.Operand.tmp 18) (Go.Operand.const (Go.Value.bool true)) (Go.Operand.tmp 24), type := 4, pos := "ref.go:39", after := #[{ on := 3, ground := Go.Ground.data }, { on := 9, ground := Go.Ground.data }], guard := none }) (by kernel_rfl) rfl (fun K hK => ?_)
            refine step_value_g (by rfl) (.bool false) (w' := Wf) (by go_simp) ?_
            refine hK.out _ _ (fun _ => hS0) ?_
            clear hK K
            try simp only [Act.put, List.setIfInBounds_toArray, List.set_cons_zero, List.set_cons_succ]
            refine wpAnyL_end (by kernel_rfl) ?_
            have hn9 := hn4.out
            go_wp2_with fail
            exact ⟨⟨k + 1, by omega, by go_num, HGN, HK, HO, HB⟩, by simp [intOf]; omega⟩

    · obtain rfl : k = n := by omega
      have hki : ¬ (k : Int) < (k : Int) := by omega
      have HG : Hid (goodL (heldL E r) = true) := Lib.hid (by have h := hg.out; rw [HN.out, List.take_length] at h; exact h)
      have hbx := hK.out
      have c0 : wr.cell? ⟨w.heap.size, 0, none⟩ = some (.int .u64 (E : Nat)) := hbx.cell 0
      have c1 : wr.cell? ⟨w.heap.size, 1, none⟩ = some (.slice (s.a 0) (s.n 0) (s.c 0)) := hbx.cell 1
      have c2 : wr.cell? ⟨w.heap.size, 2, none⟩ = some (.slice (s.a 1) (s.n 1) (s.c 1)) := hbx.cell 2
      have c3 : wr.cell? ⟨w.heap.size, 3, none⟩ = some (.slice (s.a 2) (s.n 2) (s.c 2)) := hbx.cell 3
      have lt0 := hbx.lt
      obtain ⟨n0, hn0⟩ : ∃ n0, n0 = s.n 0 := ⟨_, rfl⟩
      obtain ⟨n1, hn1⟩ : ∃ n1, n1 = s.n 1 := ⟨_, rfl⟩
      obtain ⟨n2, hn2⟩ : ∃ n2, n2 = s.n 2 := ⟨_, rfl⟩
      rw [← hn0] at c1
      rw [← hn1] at c2
      rw [← hn2] at c3
      have hb0 : n0 ≤ 1000 := by rw [hn0, HLn.out.1]; exact HL.out 0 (by decide)
      have hb1 : n1 ≤ 1000 := by rw [hn1, HLn.out.2.1]; exact HL.out 1 (by decide)
      have hb2 : n2 ≤ 1000 := by rw [hn2, HLn.out.2.2]; exact HL.out 2 (by decide)
      have hw1 : IntKind.i64.wrap (((n0 : Nat) : Int) + ((n1 : Nat) : Int)) = ((n0 : Nat) : Int) + ((n1 : Nat) : Int) := wrap_i _ (by omega) (by omega)
      have hw2 : IntKind.i64.wrap (((n0 : Nat) : Int) + ((n1 : Nat) : Int) + ((n2 : Nat) : Int)) = ((n0 : Nat) : Int) + ((n1 : Nat) : Int) + ((n2 : Nat) : Int) := wrap_i _ (by omega) (by omega)
      have HRE := Lib.hid (show rightL E r = (decide (E ≤ 4611686018427387904) && decide (k = n0 + n1 + n2)) by rw [right_eq, HG.out, Bool.true_and, ← HN.out, hn0, hn1, hn2, HLn.out.1, HLn.out.2.1, HLn.out.2.2])
      clear hbx hn0 hn1 hn2 HG hg
      by_cases hM : E ≤ 4611686018427387904
      · have hM2 : ((E : Nat) : Int) ≤ 4611686018427387904 := by omega
        by_cases hq : k = n0 + n1 + n2
        · have hq2 : (((k : Nat) : Int) == ((n0 : Nat) : Int) + ((n1 : Nat) : Int) + ((n2 : Nat) : Int)) = true := beq_iff_eq.2 (by omega)
          have HR := Lib.hid (show rightL E r = true by rw [HRE.out, decide_eq_true hM, decide_eq_true hq]; rfl)
          clear hq HRE
          go_wp2_with fail
          go_ret
          exact ⟨by rw [HR.out]; rfl, hB.out⟩
        · have hq2 : (((k : Nat) : Int) == ((n0 : Nat) : Int) + ((n1 : Nat) : Int) + ((n2 : Nat) : Int)) = false := beq_eq_false_iff_ne.2 (by omega)
          have HR := Lib.hid (show rightL E r = false by rw [HRE.out, decide_eq_true hM, decide_eq_false hq]; rfl)
          clear hq HRE
          go_wp2_with fail
          go_ret
          exact ⟨by rw [HR.out]; rfl, hB.out⟩
      · have hM2 : ¬ ((E : Nat) : Int) ≤ 4611686018427387904 := by omega
        have HR := Lib.hid (show rightL E r = false by rw [HRE.out, decide_eq_false hM]; rfl)
        clear HRE
        go_wp2_with fail
        go_ret
        exact ⟨by rw [HR.out]; rfl, hB.out⟩
end Go.Proofs
