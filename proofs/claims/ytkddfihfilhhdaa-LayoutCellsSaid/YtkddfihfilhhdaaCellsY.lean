/- Proved: for every row of pairs, of entries, and of words, honeycomblaw16.LayoutCells returns true, and its arguments read as they did; no condition. -/
import Derived.Test.YtkddfihfilhhdaaWq
import Derived.BigQuiet
import Derived.Deep.CutBlock
namespace Go.Proofs.Ytkddfihfilhhdaa.layoutCells
set_option maxRecDepth 100000
open Go.ChangeShapes Go.WideShapes Go.ChangeAt Go.RowKit Go.Shelf
attribute [local go_sem] Oper.semAt_some

theorem own : ownKnob Try.prog.godebug = none := by kernel_rfl
theorem both {a b : Bool} (h : (a && b) = true) : a = true ∧ b = true := by simpa using h
theorem next_i {k n : Nat} (h : k < n) (hn : n ≤ maxLen) : wrap64 ((k : Int) + 1) = ((k + 1 : Nat) : Int) := by
  unfold maxLen at hn
  rw [IntWalk.wrap64_in _ ⟨by omega, by omega⟩]
  omega
set_option maxHeartbeats 16000000 in
theorem walk (ap : Option Addr) (np cp : Nat) (lp : List (Int × Int)) (ae : Option Addr) (ne ce : Nat) (le : List Pr) (aw : Option Addr) (nw cw : Nat) (lw : List Int) (w : World) (hn1 : np = lp.length) (h1 : Q2K w (.slice ap np cp) lp) (hn2 : ne = le.length) (h2 : EntsK w (.slice ae ne ce) le) (hn3 : nw = lw.length) (h3 : WordsK w (.slice aw nw cw) lw) :
    Calls Try.prog 3 #[.slice ap np cp, .slice ae ne ce, .slice aw nw cw] w fun e w' => e = .returned (.bool true) ∧ Below w.heap.size w w' := by
  have HN1 : Hid (np = lp.length ∧ np ≤ maxLen) := Lib.hid ⟨hn1, Nat.le_trans (q2At_len h1.1).2.1 (q2At_len h1.1).2.2⟩
  have HN2 : Hid (ne = le.length ∧ ne ≤ maxLen) := Lib.hid ⟨hn2, Nat.le_trans (pAt_len h2.1).2.1 (pAt_len h2.1).2.2⟩
  have HN3 : Hid (nw = lw.length ∧ nw ≤ maxLen) := Lib.hid ⟨hn3, by
    obtain ⟨_, a, c, e, h4, h5, _⟩ := h3.1
    cases e
    omega⟩
  have H1 := Lib.hid h1
  have H2 := Lib.hid h2
  have H3 := Lib.hid h3
  have HQ := Lib.hid (Try.wakes_any w)
  clear hn1 h1 hn2 h2 hn3 h3
  go_enter Try.func3, Try.ntmps3
  go_wp2_with fail
  refine HQ.out.mono ?_
  rintro e Z0 ⟨rfl, hC⟩
  have HB := Lib.hid hC
  clear hC HQ
  go_upto_block 0 with fail
  go_cut [] from 7 to 114 (fun wc => Hid (Below w.heap.size w wc))
  case first =>
    go_wp2_with fail
    go_loopw [7, 8, 9, 10, 11, 12, 13, 14, 15, 16, 17, 18, 35] (fun _ _ _ _ _ _ _ _ _ _ _ _ j wr => ∃ k : Nat, k ≤ np ∧ j = .int .i64 k ∧ Hid (Below w.heap.size w wr)) (fun _ _ _ _ _ _ _ _ _ _ _ _ j _ => np - (intOf j).toNat)
    case atStart => exact ⟨0, Nat.zero_le _, rfl, HB⟩
    case round =>
      clear HB
      obtain ⟨k, hk, rfl, HB⟩ := hrel
      by_cases hlt : k < np
      · have hkl : k < lp.length := by rw [← HN1.out.1]; exact hlt
        obtain ⟨b, off, rfl, hb2, e0, e1⟩ := q2At_get (RowAt.below H1.out.1 HB.out) k hkl
        have hr9 := H1.out.2 lp[k] (List.getElem_mem hkl)
        have HWK := Lib.hid (next_i hlt HN1.out.2)
        generalize lp[k] = p at *
        obtain ⟨x, y⟩ := p
        have HX := Lib.hid hr9.1
        have HY := Lib.hid hr9.2
        obtain ⟨W1, hW1⟩ : ∃ W, W = wr.alloc (.cells #[.int .i64 x, .int .i64 y] 26) := ⟨_, rfl⟩
        have HR : Hid (Rows8 W1 wr.heap.size 26 #[.int .i64 x, .int .i64 y]) := Lib.hid (by rw [hW1]; exact Rows8.new _ _ _)
        have hC : Below wr.heap.size wr W1 := by rw [hW1]; exact Rows8.newB
        have HB := Lib.hid (HB.out.trans (hC.mono HB.out.size))
        have hki : (k : Int) < (np : Int) := by omega
        clear hC hr9 hkl
        go_upto_region 6 with fail
        rw [← hW1]
        clear hW1 e0 e1 hb2
        by_cases h12 : k = 12
        · have hb12 : ((k : Int) == 12) = true := by simp; omega
          go_wp2_with fail
          go_meet
          exact HB
        · have hb12 : ((k : Int) == 12) = false := by simp; omega
          clear h12
          cases hsb : slabB x with
          | false =>
            have HSB := Lib.hid hsb
            have HA : Hid ((slabB x && wordB y) = false) := Lib.hid (by rw [hsb]; rfl)
            clear hsb
            have HQ := Lib.hid (Try.Cell_any x y HX.out HY.out W1)
            have c0 : W1.cell? ⟨wr.heap.size, 0, none⟩ = some (.int .i64 x) := HR.out.cell 0
            have c1 : W1.cell? ⟨wr.heap.size, 1, none⟩ = some (.int .i64 y) := HR.out.cell 1
            go_upto_region 7 with fail
            go_wp2_with fail
            refine HQ.out.mono ?_
            rintro e U1 ⟨HQ9, hC⟩
            rcases HQ9 with ⟨h9, _⟩ | ⟨_, rfl⟩
            · rw [HA.out] at h9
              cases h9
            have HR := Lib.hid (HR.out.below hC HR.out.lt)
            have HB := Lib.hid (HB.out.trans (hC.mono HB.out.size))
            clear hC HQ c0 c1
            have HS := Lib.hid (Try.refSlab_any x U1)
            rw [HSB.out] at HS
            have c0 : U1.cell? ⟨wr.heap.size, 0, none⟩ = some (.int .i64 x) := HR.out.cell 0
            have c1 : U1.cell? ⟨wr.heap.size, 1, none⟩ = some (.int .i64 y) := HR.out.cell 1
            go_wp2_with fail
            refine HS.out.mono ?_
            rintro e U2 ⟨rfl, hw2⟩
            subst U2
            clear HS
            have HQ := Lib.hid (Try.Of_any x HX.out U1)
            have c0 : U1.cell? ⟨wr.heap.size, 0, none⟩ = some (.int .i64 x) := HR.out.cell 0
            have c1 : U1.cell? ⟨wr.heap.size, 1, none⟩ = some (.int .i64 y) := HR.out.cell 1
            go_wp2_with fail
            refine HQ.out.mono ?_
            rintro e V1 ⟨⟨h, rfl⟩ | ⟨h, rfl⟩, hC⟩
            · have g1 : 16 ≤ x ∧ x ≤ 5135 := by simpa [cellB] using h
              have HR := Lib.hid (HR.out.below hC HR.out.lt)
              have HB := Lib.hid (HB.out.trans (hC.mono HB.out.size))
              clear hC HQ c0 c1 h
              have g2 : 16 ≤ x := g1.1
              have g3 : x < 5136 := by omega
              have c0 : V1.cell? ⟨wr.heap.size, 0, none⟩ = some (.int .i64 x) := HR.out.cell 0
              have c1 : V1.cell? ⟨wr.heap.size, 1, none⟩ = some (.int .i64 y) := HR.out.cell 1
              go_upto_region 14 with fail
              clear c0 c1
              have a1 : IntKind.i64.wrap (x - 16) = x - 16 := IntWalk.i64_in _ (by omega)
              have a2 : (x - 16).tdiv 40 = (x - 16) / 40 := Int.tdiv_eq_ediv_of_nonneg (by omega)
              have a3 : (x - 16).tmod 40 = (x - 16) % 40 := Int.tmod_eq_emod_of_nonneg (by omega)
              have a4 : IntKind.i64.wrap ((x - 16) / 40) = (x - 16) / 40 := IntWalk.i64_in _ (by omega)
              have a5 : IntKind.i64.wrap ((x - 16) % 40) = (x - 16) % 40 := IntWalk.i64_in _ (by omega)
              clear g1 g2 g3
              refine wp_region_X (fun W' => Rows8 W' wr.heap.size 26 #[.int .i64 x, .int .i64 y]) 11 (by kernel_rfl) ?_
              have hC0 : Below V1.heap.size V1 V1.drew := (Below.refl _ _).drew
              have HR := Lib.hid (HR.out.below hC0 HR.out.lt)
              have HB := Lib.hid (HB.out.trans (hC0.mono HB.out.size))
              clear hC0
              generalize V1.drew = V2 at *
              refine wpAnyN_take (i := 0) (oi := { dst := some 83, op := Go.Op.indexAddr 26 (Go.Operand.tmp 8) (Go.Operand.const (Go.Value.int Go.IntKind.i64 0)), type := 0, pos := "law.go:41", after := #[], guard := none }) (v := .pointer (some ⟨wr.heap.size, 0, none⟩)) rfl (by decide) (by kernel_rfl) (by kernel_rfl) (by kernel_rfl) (fun _ _ _ h => h) (Or.inl ⟨by rfl, ?_⟩) HR.out ?_
              · intro W9 hS9
                go_simp
              try simp only [Act.put, List.setIfInBounds_toArray, List.set_cons_zero, List.set_cons_succ]
              refine wpAnyN_take (i := 1) (oi := { dst := some 84, op := Go.Op.load 3 (Go.Operand.tmp 83), type := 3, pos := "law.go:41", after := #[{ on := 0, ground := Go.Ground.data }], guard := none }) (v := .int .i64 x) rfl (by decide) (by kernel_rfl) (by kernel_rfl) (by kernel_rfl) (fun _ _ _ h => h) (Or.inl ⟨by rfl, ?_⟩) HR.out ?_
              · intro W9 hS9
                have s0 : W9.cell? ⟨wr.heap.size, 0, none⟩ = some (.int .i64 x) := hS9.cell 0
                clear hS9
                go_simp
              try simp only [Act.put, List.setIfInBounds_toArray, List.set_cons_zero, List.set_cons_succ]
              refine wpAnyN_take (i := 2) (oi := { dst := some 85, op := Go.Op.binOp Go.BinOp.sub 3 (Go.Operand.tmp 84) (Go.Operand.const (Go.Value.int Go.IntKind.i64 16)) 3, type := 3, pos := "law.go:41", after := #[{ on := 1, ground := Go.Ground.data }], guard := none }) (v := .int .i64 (x - 16)) rfl (by decide) (by kernel_rfl) (by kernel_rfl) (by kernel_rfl) (fun _ _ _ h => h) (Or.inl ⟨by rfl, ?_⟩) HR.out ?_
              · intro W9 hS9
                go_simp
              try simp only [Act.put, List.setIfInBounds_toArray, List.set_cons_zero, List.set_cons_succ]
              refine wpAnyN_take (i := 3) (oi := { dst := some 86, op := Go.Op.binOp Go.BinOp.quo 3 (Go.Operand.tmp 85) (Go.Operand.const (Go.Value.int Go.IntKind.i64 40)) 3, type := 3, pos := "law.go:41", after := #[{ on := 2, ground := Go.Ground.data }], guard := none }) (v := .int .i64 ((x - 16) / 40)) rfl (by decide) (by kernel_rfl) (by kernel_rfl) (by kernel_rfl) (fun _ _ _ h => h) (Or.inl ⟨by rfl, ?_⟩) HR.out ?_
              · intro W9 hS9
                go_simp
              try simp only [Act.put, List.setIfInBounds_toArray, List.set_cons_zero, List.set_cons_succ]
              refine wpAnyN_take (i := 4) (oi := { dst := some 87, op := Go.Op.indexAddr 26 (Go.Operand.tmp 8) (Go.Operand.const (Go.Value.int Go.IntKind.i64 0)), type := 0, pos := "law.go:41", after := #[{ on := 8, ground := Go.Ground.gcOnly Go.Departure.lateStores }], guard := none }) (v := .pointer (some ⟨wr.heap.size, 0, none⟩)) rfl (by decide) (by kernel_rfl) (by kernel_rfl) (by kernel_rfl) (fun _ _ _ h => h) (Or.inl ⟨by rfl, ?_⟩) HR.out ?_
              · intro W9 hS9
                go_simp
              try simp only [Act.put, List.setIfInBounds_toArray, List.set_cons_zero, List.set_cons_succ]
              refine wpAnyN_take (i := 5) (oi := { dst := some 88, op := Go.Op.load 3 (Go.Operand.tmp 87), type := 3, pos := "law.go:41", after := #[{ on := 4, ground := Go.Ground.data }, { on := 8, ground := Go.Ground.gcOnly Go.Departure.lateStores }], guard := none }) (v := .int .i64 x) rfl (by decide) (by kernel_rfl) (by kernel_rfl) (by kernel_rfl) (fun _ _ _ h => h) (Or.inl ⟨by rfl, ?_⟩) HR.out ?_
              · intro W9 hS9
                have s0 : W9.cell? ⟨wr.heap.size, 0, none⟩ = some (.int .i64 x) := hS9.cell 0
                clear hS9
                go_simp
              try simp only [Act.put, List.setIfInBounds_toArray, List.set_cons_zero, List.set_cons_succ]
              refine wpAnyN_take (i := 6) (oi := { dst := some 89, op := Go.Op.binOp Go.BinOp.sub 3 (Go.Operand.tmp 88) (Go.Operand.const (Go.Value.int Go.IntKind.i64 16)) 3, type := 3, pos := "law.go:41", after := #[{ on := 5, ground := Go.Ground.data }, { on := 8, ground := Go.Ground.gcOnly Go.Departure.lateStores }], guard := none }) (v := .int .i64 (x - 16)) rfl (by decide) (by kernel_rfl) (by kernel_rfl) (by kernel_rfl) (fun _ _ _ h => h) (Or.inl ⟨by rfl, ?_⟩) HR.out ?_
              · intro W9 hS9
                go_simp
              try simp only [Act.put, List.setIfInBounds_toArray, List.set_cons_zero, List.set_cons_succ]
              refine wpAnyN_take (i := 7) (oi := { dst := some 90, op := Go.Op.binOp Go.BinOp.rem 3 (Go.Operand.tmp 89) (Go.Operand.const (Go.Value.int Go.IntKind.i64 40)) 3, type := 3, pos := "law.go:41", after := #[{ on := 6, ground := Go.Ground.data }, { on := 8, ground := Go.Ground.gcOnly Go.Departure.lateStores }], guard := none }) (v := .int .i64 ((x - 16) % 40)) rfl (by decide) (by kernel_rfl) (by kernel_rfl) (by kernel_rfl) (fun _ _ _ h => h) (Or.inl ⟨by rfl, ?_⟩) HR.out ?_
              · intro W9 hS9
                go_simp
              try simp only [Act.put, List.setIfInBounds_toArray, List.set_cons_zero, List.set_cons_succ]
              clear a1 a2 a3 a4 a5
              refine wpAnyN_take (i := 8) (oi := { dst := some 16, op := Go.Op.assign (Go.Operand.tmp 86), type := 3, pos := "law.go:41", after := #[{ on := 3, ground := Go.Ground.data }, { on := 0, ground := Go.Ground.phase }, { on := 1, ground := Go.Ground.phase }, { on := 2, ground := Go.Ground.phase }, { on := 3, ground := Go.Ground.phase }, { on := 4, ground := Go.Ground.textOnly Go.Departure.lateStores }, { on := 5, ground := Go.Ground.textOnly Go.Departure.lateStores }, { on := 6, ground := Go.Ground.textOnly Go.Departure.lateStores }, { on := 7, ground := Go.Ground.textOnly Go.Departure.lateStores }], guard := none }) (v := .int .i64 ((x - 16) / 40)) rfl (by decide) (by kernel_rfl) (by kernel_rfl) (by kernel_rfl) (fun _ _ _ h => h) (Or.inl ⟨by rfl, ?_⟩) HR.out ?_
              · intro W9 hS9
                go_simp
              try simp only [Act.put, List.setIfInBounds_toArray, List.set_cons_zero, List.set_cons_succ]
              refine wpAnyN_take (i := 9) (oi := { dst := some 17, op := Go.Op.assign (Go.Operand.tmp 90), type := 3, pos := "law.go:41", after := #[{ on := 7, ground := Go.Ground.data }, { on := 8, ground := Go.Ground.chain }, { on := 0, ground := Go.Ground.phase }, { on := 1, ground := Go.Ground.phase }, { on := 2, ground := Go.Ground.phase }, { on := 3, ground := Go.Ground.phase }, { on := 4, ground := Go.Ground.phase }, { on := 5, ground := Go.Ground.phase }, { on := 6, ground := Go.Ground.phase }, { on := 7, ground := Go.Ground.phase }, { on := 8, ground := Go.Ground.phase }], guard := none }) (v := .int .i64 ((x - 16) % 40)) rfl (by decide) (by kernel_rfl) (by kernel_rfl) (by kernel_rfl) (fun _ _ _ h => h) (Or.inl ⟨by rfl, ?_⟩) HR.out ?_
              · intro W9 hS9
                go_simp
              try simp only [Act.put, List.setIfInBounds_toArray, List.set_cons_zero, List.set_cons_succ]
              refine wpAnyN_take (i := 10) (oi := { dst := some 18, op := Go.Op.assign (Go.Operand.const (Go.Value.int Go.IntKind.i64 0)), type := 27, pos := "law.go:41", after := #[{ on := 9, ground := Go.Ground.chain }, { on := 0, ground := Go.Ground.phase }, { on := 1, ground := Go.Ground.phase }, { on := 2, ground := Go.Ground.phase }, { on := 3, ground := Go.Ground.phase }, { on := 4, ground := Go.Ground.phase }, { on := 5, ground := Go.Ground.phase }, { on := 6, ground := Go.Ground.phase }, { on := 7, ground := Go.Ground.phase }, { on := 8, ground := Go.Ground.phase }, { on := 9, ground := Go.Ground.phase }], guard := none }) (v := .int .i64 0) rfl (by decide) (by kernel_rfl) (by kernel_rfl) (by kernel_rfl) (fun _ _ _ h => h) (Or.inl ⟨by rfl, ?_⟩) HR.out ?_
              · intro W9 hS9
                go_simp
              try simp only [Act.put, List.setIfInBounds_toArray, List.set_cons_zero, List.set_cons_succ]
              refine wpAnyX_end (by kernel_rfl) ?_
              go_wp2_with fail
              exact ⟨⟨k + 1, by omega, by first | rw [HWK.out] | rfl, HB⟩, by (try rw [HWK.out]); simp [intOf]; omega⟩
            · have HR := Lib.hid (HR.out.below hC HR.out.lt)
              have HB := Lib.hid (HB.out.trans (hC.mono HB.out.size))
              clear hC HQ c0 c1
              have c0 : V1.cell? ⟨wr.heap.size, 0, none⟩ = some (.int .i64 x) := HR.out.cell 0
              have c1 : V1.cell? ⟨wr.heap.size, 1, none⟩ = some (.int .i64 y) := HR.out.cell 1
              by_cases g2 : 16 ≤ x
              · have g3 : ¬ x < 5136 := by
                  intro h9
                  have : cellB x = true := by simp [cellB]; omega
                  rw [this] at h
                  cases h
                clear h
                go_wp2_with fail
                exact ⟨⟨k + 1, by omega, by first | rw [HWK.out] | rfl, HB⟩, by (try rw [HWK.out]); simp [intOf]; omega⟩
              · clear h
                go_wp2_with fail
                exact ⟨⟨k + 1, by omega, by first | rw [HWK.out] | rfl, HB⟩, by (try rw [HWK.out]); simp [intOf]; omega⟩
          | true =>
            have HSB := Lib.hid hsb
            by_cases hy0 : 0 ≤ y
            · by_cases hy1 : y < 40
              · have HA : Hid ((slabB x && wordB y) = true) := Lib.hid (by rw [hsb]; simp [wordB, hy0, hy1])
                clear hsb
                have HQ := Lib.hid (Try.Cell_any x y HX.out HY.out W1)
                have c0 : W1.cell? ⟨wr.heap.size, 0, none⟩ = some (.int .i64 x) := HR.out.cell 0
                have c1 : W1.cell? ⟨wr.heap.size, 1, none⟩ = some (.int .i64 y) := HR.out.cell 1
                go_upto_region 7 with fail
                go_wp2_with fail
                refine HQ.out.mono ?_
                rintro e U1 ⟨HQ9, hC⟩
                rcases HQ9 with ⟨_, rfl⟩ | ⟨h9, _⟩
                rotate_left
                · rw [HA.out] at h9
                  cases h9
                have HR := Lib.hid (HR.out.below hC HR.out.lt)
                have HB := Lib.hid (HB.out.trans (hC.mono HB.out.size))
                clear hC HQ c0 c1
                have g1 := slabB_yes (both HA.out).1
                have g2 := wordB_yes (both HA.out).2
                have g3 : 0 ≤ y := g2.1
                have g4 : y < 40 := g2.2
                have HS := Lib.hid (Try.refSlab_any x U1)
                rw [(both HA.out).1] at HS
                have c0 : U1.cell? ⟨wr.heap.size, 0, none⟩ = some (.int .i64 x) := HR.out.cell 0
                have c1 : U1.cell? ⟨wr.heap.size, 1, none⟩ = some (.int .i64 y) := HR.out.cell 1
                go_wp2_with fail
                refine HS.out.mono ?_
                rintro e U2 ⟨rfl, hw2⟩
                subst U2
                have HS2 := Lib.hid (Try.refCell_any x y HA.out U1)
                clear HS g1 g2
                go_wp2_with fail
                refine HS2.out.mono ?_
                rintro e U2 ⟨rfl, hw2⟩
                subst U2
                clear HS2 g3 g4 c0 c1
                have HQ := Lib.hid (Try.Of_any x HX.out U1)
                have c0 : U1.cell? ⟨wr.heap.size, 0, none⟩ = some (.int .i64 x) := HR.out.cell 0
                have c1 : U1.cell? ⟨wr.heap.size, 1, none⟩ = some (.int .i64 y) := HR.out.cell 1
                go_wp2_with fail
                refine HQ.out.mono ?_
                rintro e V1 ⟨⟨h, rfl⟩ | ⟨h, rfl⟩, hC⟩
                · have g1 : 16 ≤ x ∧ x ≤ 5135 := by simpa [cellB] using h
                  have HR := Lib.hid (HR.out.below hC HR.out.lt)
                  have HB := Lib.hid (HB.out.trans (hC.mono HB.out.size))
                  clear hC HQ c0 c1 h
                  have g2 : 16 ≤ x := g1.1
                  have g3 : x < 5136 := by omega
                  have c0 : V1.cell? ⟨wr.heap.size, 0, none⟩ = some (.int .i64 x) := HR.out.cell 0
                  have c1 : V1.cell? ⟨wr.heap.size, 1, none⟩ = some (.int .i64 y) := HR.out.cell 1
                  go_upto_region 14 with fail
                  clear c0 c1
                  have a1 : IntKind.i64.wrap (x - 16) = x - 16 := IntWalk.i64_in _ (by omega)
                  have a2 : (x - 16).tdiv 40 = (x - 16) / 40 := Int.tdiv_eq_ediv_of_nonneg (by omega)
                  have a3 : (x - 16).tmod 40 = (x - 16) % 40 := Int.tmod_eq_emod_of_nonneg (by omega)
                  have a4 : IntKind.i64.wrap ((x - 16) / 40) = (x - 16) / 40 := IntWalk.i64_in _ (by omega)
                  have a5 : IntKind.i64.wrap ((x - 16) % 40) = (x - 16) % 40 := IntWalk.i64_in _ (by omega)
                  clear g1 g2 g3
                  refine wp_region_X (fun W' => Rows8 W' wr.heap.size 26 #[.int .i64 x, .int .i64 y]) 11 (by kernel_rfl) ?_
                  have hC0 : Below V1.heap.size V1 V1.drew := (Below.refl _ _).drew
                  have HR := Lib.hid (HR.out.below hC0 HR.out.lt)
                  have HB := Lib.hid (HB.out.trans (hC0.mono HB.out.size))
                  clear hC0
                  generalize V1.drew = V2 at *
                  refine wpAnyN_take (i := 0) (oi := { dst := some 83, op := Go.Op.indexAddr 26 (Go.Operand.tmp 8) (Go.Operand.const (Go.Value.int Go.IntKind.i64 0)), type := 0, pos := "law.go:41", after := #[], guard := none }) (v := .pointer (some ⟨wr.heap.size, 0, none⟩)) rfl (by decide) (by kernel_rfl) (by kernel_rfl) (by kernel_rfl) (fun _ _ _ h => h) (Or.inl ⟨by rfl, ?_⟩) HR.out ?_
                  · intro W9 hS9
                    go_simp
                  try simp only [Act.put, List.setIfInBounds_toArray, List.set_cons_zero, List.set_cons_succ]
                  refine wpAnyN_take (i := 1) (oi := { dst := some 84, op := Go.Op.load 3 (Go.Operand.tmp 83), type := 3, pos := "law.go:41", after := #[{ on := 0, ground := Go.Ground.data }], guard := none }) (v := .int .i64 x) rfl (by decide) (by kernel_rfl) (by kernel_rfl) (by kernel_rfl) (fun _ _ _ h => h) (Or.inl ⟨by rfl, ?_⟩) HR.out ?_
                  · intro W9 hS9
                    have s0 : W9.cell? ⟨wr.heap.size, 0, none⟩ = some (.int .i64 x) := hS9.cell 0
                    clear hS9
                    go_simp
                  try simp only [Act.put, List.setIfInBounds_toArray, List.set_cons_zero, List.set_cons_succ]
                  refine wpAnyN_take (i := 2) (oi := { dst := some 85, op := Go.Op.binOp Go.BinOp.sub 3 (Go.Operand.tmp 84) (Go.Operand.const (Go.Value.int Go.IntKind.i64 16)) 3, type := 3, pos := "law.go:41", after := #[{ on := 1, ground := Go.Ground.data }], guard := none }) (v := .int .i64 (x - 16)) rfl (by decide) (by kernel_rfl) (by kernel_rfl) (by kernel_rfl) (fun _ _ _ h => h) (Or.inl ⟨by rfl, ?_⟩) HR.out ?_
                  · intro W9 hS9
                    go_simp
                  try simp only [Act.put, List.setIfInBounds_toArray, List.set_cons_zero, List.set_cons_succ]
                  refine wpAnyN_take (i := 3) (oi := { dst := some 86, op := Go.Op.binOp Go.BinOp.quo 3 (Go.Operand.tmp 85) (Go.Operand.const (Go.Value.int Go.IntKind.i64 40)) 3, type := 3, pos := "law.go:41", after := #[{ on := 2, ground := Go.Ground.data }], guard := none }) (v := .int .i64 ((x - 16) / 40)) rfl (by decide) (by kernel_rfl) (by kernel_rfl) (by kernel_rfl) (fun _ _ _ h => h) (Or.inl ⟨by rfl, ?_⟩) HR.out ?_
                  · intro W9 hS9
                    go_simp
                  try simp only [Act.put, List.setIfInBounds_toArray, List.set_cons_zero, List.set_cons_succ]
                  refine wpAnyN_take (i := 4) (oi := { dst := some 87, op := Go.Op.indexAddr 26 (Go.Operand.tmp 8) (Go.Operand.const (Go.Value.int Go.IntKind.i64 0)), type := 0, pos := "law.go:41", after := #[{ on := 8, ground := Go.Ground.gcOnly Go.Departure.lateStores }], guard := none }) (v := .pointer (some ⟨wr.heap.size, 0, none⟩)) rfl (by decide) (by kernel_rfl) (by kernel_rfl) (by kernel_rfl) (fun _ _ _ h => h) (Or.inl ⟨by rfl, ?_⟩) HR.out ?_
                  · intro W9 hS9
                    go_simp
                  try simp only [Act.put, List.setIfInBounds_toArray, List.set_cons_zero, List.set_cons_succ]
                  refine wpAnyN_take (i := 5) (oi := { dst := some 88, op := Go.Op.load 3 (Go.Operand.tmp 87), type := 3, pos := "law.go:41", after := #[{ on := 4, ground := Go.Ground.data }, { on := 8, ground := Go.Ground.gcOnly Go.Departure.lateStores }], guard := none }) (v := .int .i64 x) rfl (by decide) (by kernel_rfl) (by kernel_rfl) (by kernel_rfl) (fun _ _ _ h => h) (Or.inl ⟨by rfl, ?_⟩) HR.out ?_
                  · intro W9 hS9
                    have s0 : W9.cell? ⟨wr.heap.size, 0, none⟩ = some (.int .i64 x) := hS9.cell 0
                    clear hS9
                    go_simp
                  try simp only [Act.put, List.setIfInBounds_toArray, List.set_cons_zero, List.set_cons_succ]
                  refine wpAnyN_take (i := 6) (oi := { dst := some 89, op := Go.Op.binOp Go.BinOp.sub 3 (Go.Operand.tmp 88) (Go.Operand.const (Go.Value.int Go.IntKind.i64 16)) 3, type := 3, pos := "law.go:41", after := #[{ on := 5, ground := Go.Ground.data }, { on := 8, ground := Go.Ground.gcOnly Go.Departure.lateStores }], guard := none }) (v := .int .i64 (x - 16)) rfl (by decide) (by kernel_rfl) (by kernel_rfl) (by kernel_rfl) (fun _ _ _ h => h) (Or.inl ⟨by rfl, ?_⟩) HR.out ?_
                  · intro W9 hS9
                    go_simp
                  try simp only [Act.put, List.setIfInBounds_toArray, List.set_cons_zero, List.set_cons_succ]
                  refine wpAnyN_take (i := 7) (oi := { dst := some 90, op := Go.Op.binOp Go.BinOp.rem 3 (Go.Operand.tmp 89) (Go.Operand.const (Go.Value.int Go.IntKind.i64 40)) 3, type := 3, pos := "law.go:41", after := #[{ on := 6, ground := Go.Ground.data }, { on := 8, ground := Go.Ground.gcOnly Go.Departure.lateStores }], guard := none }) (v := .int .i64 ((x - 16) % 40)) rfl (by decide) (by kernel_rfl) (by kernel_rfl) (by kernel_rfl) (fun _ _ _ h => h) (Or.inl ⟨by rfl, ?_⟩) HR.out ?_
                  · intro W9 hS9
                    go_simp
                  try simp only [Act.put, List.setIfInBounds_toArray, List.set_cons_zero, List.set_cons_succ]
                  clear a1 a2 a3 a4 a5
                  refine wpAnyN_take (i := 8) (oi := { dst := some 16, op := Go.Op.assign (Go.Operand.tmp 86), type := 3, pos := "law.go:41", after := #[{ on := 3, ground := Go.Ground.data }, { on := 0, ground := Go.Ground.phase }, { on := 1, ground := Go.Ground.phase }, { on := 2, ground := Go.Ground.phase }, { on := 3, ground := Go.Ground.phase }, { on := 4, ground := Go.Ground.textOnly Go.Departure.lateStores }, { on := 5, ground := Go.Ground.textOnly Go.Departure.lateStores }, { on := 6, ground := Go.Ground.textOnly Go.Departure.lateStores }, { on := 7, ground := Go.Ground.textOnly Go.Departure.lateStores }], guard := none }) (v := .int .i64 ((x - 16) / 40)) rfl (by decide) (by kernel_rfl) (by kernel_rfl) (by kernel_rfl) (fun _ _ _ h => h) (Or.inl ⟨by rfl, ?_⟩) HR.out ?_
                  · intro W9 hS9
                    go_simp
                  try simp only [Act.put, List.setIfInBounds_toArray, List.set_cons_zero, List.set_cons_succ]
                  refine wpAnyN_take (i := 9) (oi := { dst := some 17, op := Go.Op.assign (Go.Operand.tmp 90), type := 3, pos := "law.go:41", after := #[{ on := 7, ground := Go.Ground.data }, { on := 8, ground := Go.Ground.chain }, { on := 0, ground := Go.Ground.phase }, { on := 1, ground := Go.Ground.phase }, { on := 2, ground := Go.Ground.phase }, { on := 3, ground := Go.Ground.phase }, { on := 4, ground := Go.Ground.phase }, { on := 5, ground := Go.Ground.phase }, { on := 6, ground := Go.Ground.phase }, { on := 7, ground := Go.Ground.phase }, { on := 8, ground := Go.Ground.phase }], guard := none }) (v := .int .i64 ((x - 16) % 40)) rfl (by decide) (by kernel_rfl) (by kernel_rfl) (by kernel_rfl) (fun _ _ _ h => h) (Or.inl ⟨by rfl, ?_⟩) HR.out ?_
                  · intro W9 hS9
                    go_simp
                  try simp only [Act.put, List.setIfInBounds_toArray, List.set_cons_zero, List.set_cons_succ]
                  refine wpAnyN_take (i := 10) (oi := { dst := some 18, op := Go.Op.assign (Go.Operand.const (Go.Value.int Go.IntKind.i64 0)), type := 27, pos := "law.go:41", after := #[{ on := 9, ground := Go.Ground.chain }, { on := 0, ground := Go.Ground.phase }, { on := 1, ground := Go.Ground.phase }, { on := 2, ground := Go.Ground.phase }, { on := 3, ground := Go.Ground.phase }, { on := 4, ground := Go.Ground.phase }, { on := 5, ground := Go.Ground.phase }, { on := 6, ground := Go.Ground.phase }, { on := 7, ground := Go.Ground.phase }, { on := 8, ground := Go.Ground.phase }, { on := 9, ground := Go.Ground.phase }], guard := none }) (v := .int .i64 0) rfl (by decide) (by kernel_rfl) (by kernel_rfl) (by kernel_rfl) (fun _ _ _ h => h) (Or.inl ⟨by rfl, ?_⟩) HR.out ?_
                  · intro W9 hS9
                    go_simp
                  try simp only [Act.put, List.setIfInBounds_toArray, List.set_cons_zero, List.set_cons_succ]
                  refine wpAnyX_end (by kernel_rfl) ?_
                  go_wp2_with fail
                  exact ⟨⟨k + 1, by omega, by first | rw [HWK.out] | rfl, HB⟩, by (try rw [HWK.out]); simp [intOf]; omega⟩
                · have HR := Lib.hid (HR.out.below hC HR.out.lt)
                  have HB := Lib.hid (HB.out.trans (hC.mono HB.out.size))
                  clear hC HQ c0 c1
                  have c0 : V1.cell? ⟨wr.heap.size, 0, none⟩ = some (.int .i64 x) := HR.out.cell 0
                  have c1 : V1.cell? ⟨wr.heap.size, 1, none⟩ = some (.int .i64 y) := HR.out.cell 1
                  by_cases g2 : 16 ≤ x
                  · have g3 : ¬ x < 5136 := by
                      intro h9
                      have : cellB x = true := by simp [cellB]; omega
                      rw [this] at h
                      cases h
                    clear h
                    go_wp2_with fail
                    exact ⟨⟨k + 1, by omega, by first | rw [HWK.out] | rfl, HB⟩, by (try rw [HWK.out]); simp [intOf]; omega⟩
                  · clear h
                    go_wp2_with fail
                    exact ⟨⟨k + 1, by omega, by first | rw [HWK.out] | rfl, HB⟩, by (try rw [HWK.out]); simp [intOf]; omega⟩
              · have HA : Hid ((slabB x && wordB y) = false) := Lib.hid (by rw [hsb]; simp [wordB, hy1])
                clear hsb
                have HQ := Lib.hid (Try.Cell_any x y HX.out HY.out W1)
                have c0 : W1.cell? ⟨wr.heap.size, 0, none⟩ = some (.int .i64 x) := HR.out.cell 0
                have c1 : W1.cell? ⟨wr.heap.size, 1, none⟩ = some (.int .i64 y) := HR.out.cell 1
                go_upto_region 7 with fail
                go_wp2_with fail
                refine HQ.out.mono ?_
                rintro e U1 ⟨HQ9, hC⟩
                rcases HQ9 with ⟨h9, _⟩ | ⟨_, rfl⟩
                · rw [HA.out] at h9
                  cases h9
                have HR := Lib.hid (HR.out.below hC HR.out.lt)
                have HB := Lib.hid (HB.out.trans (hC.mono HB.out.size))
                clear hC HQ c0 c1
                have HS := Lib.hid (Try.refSlab_any x U1)
                rw [HSB.out] at HS
                have c0 : U1.cell? ⟨wr.heap.size, 0, none⟩ = some (.int .i64 x) := HR.out.cell 0
                have c1 : U1.cell? ⟨wr.heap.size, 1, none⟩ = some (.int .i64 y) := HR.out.cell 1
                go_wp2_with fail
                refine HS.out.mono ?_
                rintro e U2 ⟨rfl, hw2⟩
                subst U2
                clear HS
                have HQ := Lib.hid (Try.Of_any x HX.out U1)
                have c0 : U1.cell? ⟨wr.heap.size, 0, none⟩ = some (.int .i64 x) := HR.out.cell 0
                have c1 : U1.cell? ⟨wr.heap.size, 1, none⟩ = some (.int .i64 y) := HR.out.cell 1
                go_wp2_with fail
                refine HQ.out.mono ?_
                rintro e V1 ⟨⟨h, rfl⟩ | ⟨h, rfl⟩, hC⟩
                · have g1 : 16 ≤ x ∧ x ≤ 5135 := by simpa [cellB] using h
                  have HR := Lib.hid (HR.out.below hC HR.out.lt)
                  have HB := Lib.hid (HB.out.trans (hC.mono HB.out.size))
                  clear hC HQ c0 c1 h
                  have g2 : 16 ≤ x := g1.1
                  have g3 : x < 5136 := by omega
                  have c0 : V1.cell? ⟨wr.heap.size, 0, none⟩ = some (.int .i64 x) := HR.out.cell 0
                  have c1 : V1.cell? ⟨wr.heap.size, 1, none⟩ = some (.int .i64 y) := HR.out.cell 1
                  go_upto_region 14 with fail
                  clear c0 c1
                  have a1 : IntKind.i64.wrap (x - 16) = x - 16 := IntWalk.i64_in _ (by omega)
                  have a2 : (x - 16).tdiv 40 = (x - 16) / 40 := Int.tdiv_eq_ediv_of_nonneg (by omega)
                  have a3 : (x - 16).tmod 40 = (x - 16) % 40 := Int.tmod_eq_emod_of_nonneg (by omega)
                  have a4 : IntKind.i64.wrap ((x - 16) / 40) = (x - 16) / 40 := IntWalk.i64_in _ (by omega)
                  have a5 : IntKind.i64.wrap ((x - 16) % 40) = (x - 16) % 40 := IntWalk.i64_in _ (by omega)
                  clear g1 g2 g3
                  refine wp_region_X (fun W' => Rows8 W' wr.heap.size 26 #[.int .i64 x, .int .i64 y]) 11 (by kernel_rfl) ?_
                  have hC0 : Below V1.heap.size V1 V1.drew := (Below.refl _ _).drew
                  have HR := Lib.hid (HR.out.below hC0 HR.out.lt)
                  have HB := Lib.hid (HB.out.trans (hC0.mono HB.out.size))
                  clear hC0
                  generalize V1.drew = V2 at *
                  refine wpAnyN_take (i := 0) (oi := { dst := some 83, op := Go.Op.indexAddr 26 (Go.Operand.tmp 8) (Go.Operand.const (Go.Value.int Go.IntKind.i64 0)), type := 0, pos := "law.go:41", after := #[], guard := none }) (v := .pointer (some ⟨wr.heap.size, 0, none⟩)) rfl (by decide) (by kernel_rfl) (by kernel_rfl) (by kernel_rfl) (fun _ _ _ h => h) (Or.inl ⟨by rfl, ?_⟩) HR.out ?_
                  · intro W9 hS9
                    go_simp
                  try simp only [Act.put, List.setIfInBounds_toArray, List.set_cons_zero, List.set_cons_succ]
                  refine wpAnyN_take (i := 1) (oi := { dst := some 84, op := Go.Op.load 3 (Go.Operand.tmp 83), type := 3, pos := "law.go:41", after := #[{ on := 0, ground := Go.Ground.data }], guard := none }) (v := .int .i64 x) rfl (by decide) (by kernel_rfl) (by kernel_rfl) (by kernel_rfl) (fun _ _ _ h => h) (Or.inl ⟨by rfl, ?_⟩) HR.out ?_
                  · intro W9 hS9
                    have s0 : W9.cell? ⟨wr.heap.size, 0, none⟩ = some (.int .i64 x) := hS9.cell 0
                    clear hS9
                    go_simp
                  try simp only [Act.put, List.setIfInBounds_toArray, List.set_cons_zero, List.set_cons_succ]
                  refine wpAnyN_take (i := 2) (oi := { dst := some 85, op := Go.Op.binOp Go.BinOp.sub 3 (Go.Operand.tmp 84) (Go.Operand.const (Go.Value.int Go.IntKind.i64 16)) 3, type := 3, pos := "law.go:41", after := #[{ on := 1, ground := Go.Ground.data }], guard := none }) (v := .int .i64 (x - 16)) rfl (by decide) (by kernel_rfl) (by kernel_rfl) (by kernel_rfl) (fun _ _ _ h => h) (Or.inl ⟨by rfl, ?_⟩) HR.out ?_
                  · intro W9 hS9
                    go_simp
                  try simp only [Act.put, List.setIfInBounds_toArray, List.set_cons_zero, List.set_cons_succ]
                  refine wpAnyN_take (i := 3) (oi := { dst := some 86, op := Go.Op.binOp Go.BinOp.quo 3 (Go.Operand.tmp 85) (Go.Operand.const (Go.Value.int Go.IntKind.i64 40)) 3, type := 3, pos := "law.go:41", after := #[{ on := 2, ground := Go.Ground.data }], guard := none }) (v := .int .i64 ((x - 16) / 40)) rfl (by decide) (by kernel_rfl) (by kernel_rfl) (by kernel_rfl) (fun _ _ _ h => h) (Or.inl ⟨by rfl, ?_⟩) HR.out ?_
                  · intro W9 hS9
                    go_simp
                  try simp only [Act.put, List.setIfInBounds_toArray, List.set_cons_zero, List.set_cons_succ]
                  refine wpAnyN_take (i := 4) (oi := { dst := some 87, op := Go.Op.indexAddr 26 (Go.Operand.tmp 8) (Go.Operand.const (Go.Value.int Go.IntKind.i64 0)), type := 0, pos := "law.go:41", after := #[{ on := 8, ground := Go.Ground.gcOnly Go.Departure.lateStores }], guard := none }) (v := .pointer (some ⟨wr.heap.size, 0, none⟩)) rfl (by decide) (by kernel_rfl) (by kernel_rfl) (by kernel_rfl) (fun _ _ _ h => h) (Or.inl ⟨by rfl, ?_⟩) HR.out ?_
                  · intro W9 hS9
                    go_simp
                  try simp only [Act.put, List.setIfInBounds_toArray, List.set_cons_zero, List.set_cons_succ]
                  refine wpAnyN_take (i := 5) (oi := { dst := some 88, op := Go.Op.load 3 (Go.Operand.tmp 87), type := 3, pos := "law.go:41", after := #[{ on := 4, ground := Go.Ground.data }, { on := 8, ground := Go.Ground.gcOnly Go.Departure.lateStores }], guard := none }) (v := .int .i64 x) rfl (by decide) (by kernel_rfl) (by kernel_rfl) (by kernel_rfl) (fun _ _ _ h => h) (Or.inl ⟨by rfl, ?_⟩) HR.out ?_
                  · intro W9 hS9
                    have s0 : W9.cell? ⟨wr.heap.size, 0, none⟩ = some (.int .i64 x) := hS9.cell 0
                    clear hS9
                    go_simp
                  try simp only [Act.put, List.setIfInBounds_toArray, List.set_cons_zero, List.set_cons_succ]
                  refine wpAnyN_take (i := 6) (oi := { dst := some 89, op := Go.Op.binOp Go.BinOp.sub 3 (Go.Operand.tmp 88) (Go.Operand.const (Go.Value.int Go.IntKind.i64 16)) 3, type := 3, pos := "law.go:41", after := #[{ on := 5, ground := Go.Ground.data }, { on := 8, ground := Go.Ground.gcOnly Go.Departure.lateStores }], guard := none }) (v := .int .i64 (x - 16)) rfl (by decide) (by kernel_rfl) (by kernel_rfl) (by kernel_rfl) (fun _ _ _ h => h) (Or.inl ⟨by rfl, ?_⟩) HR.out ?_
                  · intro W9 hS9
                    go_simp
                  try simp only [Act.put, List.setIfInBounds_toArray, List.set_cons_zero, List.set_cons_succ]
                  refine wpAnyN_take (i := 7) (oi := { dst := some 90, op := Go.Op.binOp Go.BinOp.rem 3 (Go.Operand.tmp 89) (Go.Operand.const (Go.Value.int Go.IntKind.i64 40)) 3, type := 3, pos := "law.go:41", after := #[{ on := 6, ground := Go.Ground.data }, { on := 8, ground := Go.Ground.gcOnly Go.Departure.lateStores }], guard := none }) (v := .int .i64 ((x - 16) % 40)) rfl (by decide) (by kernel_rfl) (by kernel_rfl) (by kernel_rfl) (fun _ _ _ h => h) (Or.inl ⟨by rfl, ?_⟩) HR.out ?_
                  · intro W9 hS9
                    go_simp
                  try simp only [Act.put, List.setIfInBounds_toArray, List.set_cons_zero, List.set_cons_succ]
                  clear a1 a2 a3 a4 a5
                  refine wpAnyN_take (i := 8) (oi := { dst := some 16, op := Go.Op.assign (Go.Operand.tmp 86), type := 3, pos := "law.go:41", after := #[{ on := 3, ground := Go.Ground.data }, { on := 0, ground := Go.Ground.phase }, { on := 1, ground := Go.Ground.phase }, { on := 2, ground := Go.Ground.phase }, { on := 3, ground := Go.Ground.phase }, { on := 4, ground := Go.Ground.textOnly Go.Departure.lateStores }, { on := 5, ground := Go.Ground.textOnly Go.Departure.lateStores }, { on := 6, ground := Go.Ground.textOnly Go.Departure.lateStores }, { on := 7, ground := Go.Ground.textOnly Go.Departure.lateStores }], guard := none }) (v := .int .i64 ((x - 16) / 40)) rfl (by decide) (by kernel_rfl) (by kernel_rfl) (by kernel_rfl) (fun _ _ _ h => h) (Or.inl ⟨by rfl, ?_⟩) HR.out ?_
                  · intro W9 hS9
                    go_simp
                  try simp only [Act.put, List.setIfInBounds_toArray, List.set_cons_zero, List.set_cons_succ]
                  refine wpAnyN_take (i := 9) (oi := { dst := some 17, op := Go.Op.assign (Go.Operand.tmp 90), type := 3, pos := "law.go:41", after := #[{ on := 7, ground := Go.Ground.data }, { on := 8, ground := Go.Ground.chain }, { on := 0, ground := Go.Ground.phase }, { on := 1, ground := Go.Ground.phase }, { on := 2, ground := Go.Ground.phase }, { on := 3, ground := Go.Ground.phase }, { on := 4, ground := Go.Ground.phase }, { on := 5, ground := Go.Ground.phase }, { on := 6, ground := Go.Ground.phase }, { on := 7, ground := Go.Ground.phase }, { on := 8, ground := Go.Ground.phase }], guard := none }) (v := .int .i64 ((x - 16) % 40)) rfl (by decide) (by kernel_rfl) (by kernel_rfl) (by kernel_rfl) (fun _ _ _ h => h) (Or.inl ⟨by rfl, ?_⟩) HR.out ?_
                  · intro W9 hS9
                    go_simp
                  try simp only [Act.put, List.setIfInBounds_toArray, List.set_cons_zero, List.set_cons_succ]
                  refine wpAnyN_take (i := 10) (oi := { dst := some 18, op := Go.Op.assign (Go.Operand.const (Go.Value.int Go.IntKind.i64 0)), type := 27, pos := "law.go:41", after := #[{ on := 9, ground := Go.Ground.chain }, { on := 0, ground := Go.Ground.phase }, { on := 1, ground := Go.Ground.phase }, { on := 2, ground := Go.Ground.phase }, { on := 3, ground := Go.Ground.phase }, { on := 4, ground := Go.Ground.phase }, { on := 5, ground := Go.Ground.phase }, { on := 6, ground := Go.Ground.phase }, { on := 7, ground := Go.Ground.phase }, { on := 8, ground := Go.Ground.phase }, { on := 9, ground := Go.Ground.phase }], guard := none }) (v := .int .i64 0) rfl (by decide) (by kernel_rfl) (by kernel_rfl) (by kernel_rfl) (fun _ _ _ h => h) (Or.inl ⟨by rfl, ?_⟩) HR.out ?_
                  · intro W9 hS9
                    go_simp
                  try simp only [Act.put, List.setIfInBounds_toArray, List.set_cons_zero, List.set_cons_succ]
                  refine wpAnyX_end (by kernel_rfl) ?_
                  go_wp2_with fail
                  exact ⟨⟨k + 1, by omega, by first | rw [HWK.out] | rfl, HB⟩, by (try rw [HWK.out]); simp [intOf]; omega⟩
                · have HR := Lib.hid (HR.out.below hC HR.out.lt)
                  have HB := Lib.hid (HB.out.trans (hC.mono HB.out.size))
                  clear hC HQ c0 c1
                  have c0 : V1.cell? ⟨wr.heap.size, 0, none⟩ = some (.int .i64 x) := HR.out.cell 0
                  have c1 : V1.cell? ⟨wr.heap.size, 1, none⟩ = some (.int .i64 y) := HR.out.cell 1
                  by_cases g2 : 16 ≤ x
                  · have g3 : ¬ x < 5136 := by
                      intro h9
                      have : cellB x = true := by simp [cellB]; omega
                      rw [this] at h
                      cases h
                    clear h
                    go_wp2_with fail
                    exact ⟨⟨k + 1, by omega, by first | rw [HWK.out] | rfl, HB⟩, by (try rw [HWK.out]); simp [intOf]; omega⟩
                  · clear h
                    go_wp2_with fail
                    exact ⟨⟨k + 1, by omega, by first | rw [HWK.out] | rfl, HB⟩, by (try rw [HWK.out]); simp [intOf]; omega⟩
            · have HA : Hid ((slabB x && wordB y) = false) := Lib.hid (by rw [hsb]; simp [wordB, hy0])
              clear hsb
              have HQ := Lib.hid (Try.Cell_any x y HX.out HY.out W1)
              have c0 : W1.cell? ⟨wr.heap.size, 0, none⟩ = some (.int .i64 x) := HR.out.cell 0
              have c1 : W1.cell? ⟨wr.heap.size, 1, none⟩ = some (.int .i64 y) := HR.out.cell 1
              go_upto_region 7 with fail
              go_wp2_with fail
              refine HQ.out.mono ?_
              rintro e U1 ⟨HQ9, hC⟩
              rcases HQ9 with ⟨h9, _⟩ | ⟨_, rfl⟩
              · rw [HA.out] at h9
                cases h9
              have HR := Lib.hid (HR.out.below hC HR.out.lt)
              have HB := Lib.hid (HB.out.trans (hC.mono HB.out.size))
              clear hC HQ c0 c1
              have HS := Lib.hid (Try.refSlab_any x U1)
              rw [HSB.out] at HS
              have c0 : U1.cell? ⟨wr.heap.size, 0, none⟩ = some (.int .i64 x) := HR.out.cell 0
              have c1 : U1.cell? ⟨wr.heap.size, 1, none⟩ = some (.int .i64 y) := HR.out.cell 1
              go_wp2_with fail
              refine HS.out.mono ?_
              rintro e U2 ⟨rfl, hw2⟩
              subst U2
              clear HS
              have HQ := Lib.hid (Try.Of_any x HX.out U1)
              have c0 : U1.cell? ⟨wr.heap.size, 0, none⟩ = some (.int .i64 x) := HR.out.cell 0
              have c1 : U1.cell? ⟨wr.heap.size, 1, none⟩ = some (.int .i64 y) := HR.out.cell 1
              go_wp2_with fail
              refine HQ.out.mono ?_
              rintro e V1 ⟨⟨h, rfl⟩ | ⟨h, rfl⟩, hC⟩
              · have g1 : 16 ≤ x ∧ x ≤ 5135 := by simpa [cellB] using h
                have HR := Lib.hid (HR.out.below hC HR.out.lt)
                have HB := Lib.hid (HB.out.trans (hC.mono HB.out.size))
                clear hC HQ c0 c1 h
                have g2 : 16 ≤ x := g1.1
                have g3 : x < 5136 := by omega
                have c0 : V1.cell? ⟨wr.heap.size, 0, none⟩ = some (.int .i64 x) := HR.out.cell 0
                have c1 : V1.cell? ⟨wr.heap.size, 1, none⟩ = some (.int .i64 y) := HR.out.cell 1
                go_upto_region 14 with fail
                clear c0 c1
                have a1 : IntKind.i64.wrap (x - 16) = x - 16 := IntWalk.i64_in _ (by omega)
                have a2 : (x - 16).tdiv 40 = (x - 16) / 40 := Int.tdiv_eq_ediv_of_nonneg (by omega)
                have a3 : (x - 16).tmod 40 = (x - 16) % 40 := Int.tmod_eq_emod_of_nonneg (by omega)
                have a4 : IntKind.i64.wrap ((x - 16) / 40) = (x - 16) / 40 := IntWalk.i64_in _ (by omega)
                have a5 : IntKind.i64.wrap ((x - 16) % 40) = (x - 16) % 40 := IntWalk.i64_in _ (by omega)
                clear g1 g2 g3
                refine wp_region_X (fun W' => Rows8 W' wr.heap.size 26 #[.int .i64 x, .int .i64 y]) 11 (by kernel_rfl) ?_
                have hC0 : Below V1.heap.size V1 V1.drew := (Below.refl _ _).drew
                have HR := Lib.hid (HR.out.below hC0 HR.out.lt)
                have HB := Lib.hid (HB.out.trans (hC0.mono HB.out.size))
                clear hC0
                generalize V1.drew = V2 at *
                refine wpAnyN_take (i := 0) (oi := { dst := some 83, op := Go.Op.indexAddr 26 (Go.Operand.tmp 8) (Go.Operand.const (Go.Value.int Go.IntKind.i64 0)), type := 0, pos := "law.go:41", after := #[], guard := none }) (v := .pointer (some ⟨wr.heap.size, 0, none⟩)) rfl (by decide) (by kernel_rfl) (by kernel_rfl) (by kernel_rfl) (fun _ _ _ h => h) (Or.inl ⟨by rfl, ?_⟩) HR.out ?_
                · intro W9 hS9
                  go_simp
                try simp only [Act.put, List.setIfInBounds_toArray, List.set_cons_zero, List.set_cons_succ]
                refine wpAnyN_take (i := 1) (oi := { dst := some 84, op := Go.Op.load 3 (Go.Operand.tmp 83), type := 3, pos := "law.go:41", after := #[{ on := 0, ground := Go.Ground.data }], guard := none }) (v := .int .i64 x) rfl (by decide) (by kernel_rfl) (by kernel_rfl) (by kernel_rfl) (fun _ _ _ h => h) (Or.inl ⟨by rfl, ?_⟩) HR.out ?_
                · intro W9 hS9
                  have s0 : W9.cell? ⟨wr.heap.size, 0, none⟩ = some (.int .i64 x) := hS9.cell 0
                  clear hS9
                  go_simp
                try simp only [Act.put, List.setIfInBounds_toArray, List.set_cons_zero, List.set_cons_succ]
                refine wpAnyN_take (i := 2) (oi := { dst := some 85, op := Go.Op.binOp Go.BinOp.sub 3 (Go.Operand.tmp 84) (Go.Operand.const (Go.Value.int Go.IntKind.i64 16)) 3, type := 3, pos := "law.go:41", after := #[{ on := 1, ground := Go.Ground.data }], guard := none }) (v := .int .i64 (x - 16)) rfl (by decide) (by kernel_rfl) (by kernel_rfl) (by kernel_rfl) (fun _ _ _ h => h) (Or.inl ⟨by rfl, ?_⟩) HR.out ?_
                · intro W9 hS9
                  go_simp
                try simp only [Act.put, List.setIfInBounds_toArray, List.set_cons_zero, List.set_cons_succ]
                refine wpAnyN_take (i := 3) (oi := { dst := some 86, op := Go.Op.binOp Go.BinOp.quo 3 (Go.Operand.tmp 85) (Go.Operand.const (Go.Value.int Go.IntKind.i64 40)) 3, type := 3, pos := "law.go:41", after := #[{ on := 2, ground := Go.Ground.data }], guard := none }) (v := .int .i64 ((x - 16) / 40)) rfl (by decide) (by kernel_rfl) (by kernel_rfl) (by kernel_rfl) (fun _ _ _ h => h) (Or.inl ⟨by rfl, ?_⟩) HR.out ?_
                · intro W9 hS9
                  go_simp
                try simp only [Act.put, List.setIfInBounds_toArray, List.set_cons_zero, List.set_cons_succ]
                refine wpAnyN_take (i := 4) (oi := { dst := some 87, op := Go.Op.indexAddr 26 (Go.Operand.tmp 8) (Go.Operand.const (Go.Value.int Go.IntKind.i64 0)), type := 0, pos := "law.go:41", after := #[{ on := 8, ground := Go.Ground.gcOnly Go.Departure.lateStores }], guard := none }) (v := .pointer (some ⟨wr.heap.size, 0, none⟩)) rfl (by decide) (by kernel_rfl) (by kernel_rfl) (by kernel_rfl) (fun _ _ _ h => h) (Or.inl ⟨by rfl, ?_⟩) HR.out ?_
                · intro W9 hS9
                  go_simp
                try simp only [Act.put, List.setIfInBounds_toArray, List.set_cons_zero, List.set_cons_succ]
                refine wpAnyN_take (i := 5) (oi := { dst := some 88, op := Go.Op.load 3 (Go.Operand.tmp 87), type := 3, pos := "law.go:41", after := #[{ on := 4, ground := Go.Ground.data }, { on := 8, ground := Go.Ground.gcOnly Go.Departure.lateStores }], guard := none }) (v := .int .i64 x) rfl (by decide) (by kernel_rfl) (by kernel_rfl) (by kernel_rfl) (fun _ _ _ h => h) (Or.inl ⟨by rfl, ?_⟩) HR.out ?_
                · intro W9 hS9
                  have s0 : W9.cell? ⟨wr.heap.size, 0, none⟩ = some (.int .i64 x) := hS9.cell 0
                  clear hS9
                  go_simp
                try simp only [Act.put, List.setIfInBounds_toArray, List.set_cons_zero, List.set_cons_succ]
                refine wpAnyN_take (i := 6) (oi := { dst := some 89, op := Go.Op.binOp Go.BinOp.sub 3 (Go.Operand.tmp 88) (Go.Operand.const (Go.Value.int Go.IntKind.i64 16)) 3, type := 3, pos := "law.go:41", after := #[{ on := 5, ground := Go.Ground.data }, { on := 8, ground := Go.Ground.gcOnly Go.Departure.lateStores }], guard := none }) (v := .int .i64 (x - 16)) rfl (by decide) (by kernel_rfl) (by kernel_rfl) (by kernel_rfl) (fun _ _ _ h => h) (Or.inl ⟨by rfl, ?_⟩) HR.out ?_
                · intro W9 hS9
                  go_simp
                try simp only [Act.put, List.setIfInBounds_toArray, List.set_cons_zero, List.set_cons_succ]
                refine wpAnyN_take (i := 7) (oi := { dst := some 90, op := Go.Op.binOp Go.BinOp.rem 3 (Go.Operand.tmp 89) (Go.Operand.const (Go.Value.int Go.IntKind.i64 40)) 3, type := 3, pos := "law.go:41", after := #[{ on := 6, ground := Go.Ground.data }, { on := 8, ground := Go.Ground.gcOnly Go.Departure.lateStores }], guard := none }) (v := .int .i64 ((x - 16) % 40)) rfl (by decide) (by kernel_rfl) (by kernel_rfl) (by kernel_rfl) (fun _ _ _ h => h) (Or.inl ⟨by rfl, ?_⟩) HR.out ?_
                · intro W9 hS9
                  go_simp
                try simp only [Act.put, List.setIfInBounds_toArray, List.set_cons_zero, List.set_cons_succ]
                clear a1 a2 a3 a4 a5
                refine wpAnyN_take (i := 8) (oi := { dst := some 16, op := Go.Op.assign (Go.Operand.tmp 86), type := 3, pos := "law.go:41", after := #[{ on := 3, ground := Go.Ground.data }, { on := 0, ground := Go.Ground.phase }, { on := 1, ground := Go.Ground.phase }, { on := 2, ground := Go.Ground.phase }, { on := 3, ground := Go.Ground.phase }, { on := 4, ground := Go.Ground.textOnly Go.Departure.lateStores }, { on := 5, ground := Go.Ground.textOnly Go.Departure.lateStores }, { on := 6, ground := Go.Ground.textOnly Go.Departure.lateStores }, { on := 7, ground := Go.Ground.textOnly Go.Departure.lateStores }], guard := none }) (v := .int .i64 ((x - 16) / 40)) rfl (by decide) (by kernel_rfl) (by kernel_rfl) (by kernel_rfl) (fun _ _ _ h => h) (Or.inl ⟨by rfl, ?_⟩) HR.out ?_
                · intro W9 hS9
                  go_simp
                try simp only [Act.put, List.setIfInBounds_toArray, List.set_cons_zero, List.set_cons_succ]
                refine wpAnyN_take (i := 9) (oi := { dst := some 17, op := Go.Op.assign (Go.Operand.tmp 90), type := 3, pos := "law.go:41", after := #[{ on := 7, ground := Go.Ground.data }, { on := 8, ground := Go.Ground.chain }, { on := 0, ground := Go.Ground.phase }, { on := 1, ground := Go.Ground.phase }, { on := 2, ground := Go.Ground.phase }, { on := 3, ground := Go.Ground.phase }, { on := 4, ground := Go.Ground.phase }, { on := 5, ground := Go.Ground.phase }, { on := 6, ground := Go.Ground.phase }, { on := 7, ground := Go.Ground.phase }, { on := 8, ground := Go.Ground.phase }], guard := none }) (v := .int .i64 ((x - 16) % 40)) rfl (by decide) (by kernel_rfl) (by kernel_rfl) (by kernel_rfl) (fun _ _ _ h => h) (Or.inl ⟨by rfl, ?_⟩) HR.out ?_
                · intro W9 hS9
                  go_simp
                try simp only [Act.put, List.setIfInBounds_toArray, List.set_cons_zero, List.set_cons_succ]
                refine wpAnyN_take (i := 10) (oi := { dst := some 18, op := Go.Op.assign (Go.Operand.const (Go.Value.int Go.IntKind.i64 0)), type := 27, pos := "law.go:41", after := #[{ on := 9, ground := Go.Ground.chain }, { on := 0, ground := Go.Ground.phase }, { on := 1, ground := Go.Ground.phase }, { on := 2, ground := Go.Ground.phase }, { on := 3, ground := Go.Ground.phase }, { on := 4, ground := Go.Ground.phase }, { on := 5, ground := Go.Ground.phase }, { on := 6, ground := Go.Ground.phase }, { on := 7, ground := Go.Ground.phase }, { on := 8, ground := Go.Ground.phase }, { on := 9, ground := Go.Ground.phase }], guard := none }) (v := .int .i64 0) rfl (by decide) (by kernel_rfl) (by kernel_rfl) (by kernel_rfl) (fun _ _ _ h => h) (Or.inl ⟨by rfl, ?_⟩) HR.out ?_
                · intro W9 hS9
                  go_simp
                try simp only [Act.put, List.setIfInBounds_toArray, List.set_cons_zero, List.set_cons_succ]
                refine wpAnyX_end (by kernel_rfl) ?_
                go_wp2_with fail
                exact ⟨⟨k + 1, by omega, by first | rw [HWK.out] | rfl, HB⟩, by (try rw [HWK.out]); simp [intOf]; omega⟩
              · have HR := Lib.hid (HR.out.below hC HR.out.lt)
                have HB := Lib.hid (HB.out.trans (hC.mono HB.out.size))
                clear hC HQ c0 c1
                have c0 : V1.cell? ⟨wr.heap.size, 0, none⟩ = some (.int .i64 x) := HR.out.cell 0
                have c1 : V1.cell? ⟨wr.heap.size, 1, none⟩ = some (.int .i64 y) := HR.out.cell 1
                by_cases g2 : 16 ≤ x
                · have g3 : ¬ x < 5136 := by
                    intro h9
                    have : cellB x = true := by simp [cellB]; omega
                    rw [this] at h
                    cases h
                  clear h
                  go_wp2_with fail
                  exact ⟨⟨k + 1, by omega, by first | rw [HWK.out] | rfl, HB⟩, by (try rw [HWK.out]); simp [intOf]; omega⟩
                · clear h
                  go_wp2_with fail
                  exact ⟨⟨k + 1, by omega, by first | rw [HWK.out] | rfl, HB⟩, by (try rw [HWK.out]); simp [intOf]; omega⟩
      · obtain rfl : k = np := by omega
        go_wp2_with fail
        go_meet
        exact HB
  case rest =>
    clear HB
    rename_i wc2 hcut
    have HB := hcut
    clear hcut
    go_upto_block 2 with fail
    go_cut [] from 19 to 141 (fun wc => Hid (Below w.heap.size w wc))
    case first =>
      go_wp2_with fail
      go_loopw [19, 20, 21, 22, 23, 24, 117] (fun _ _ _ _ _ _ j wr => ∃ k : Nat, k ≤ ne ∧ j = .int .i64 k ∧ Hid (Below w.heap.size w wr)) (fun _ _ _ _ _ _ j _ => ne - (intOf j).toNat)
      case atStart => exact ⟨0, Nat.zero_le _, rfl, HB⟩
      case round =>
        clear HB
        obtain ⟨k, hk, rfl, HB⟩ := hrel
        by_cases hlt : k < ne
        · have hkl : k < le.length := by rw [← HN2.out.1]; exact hlt
          obtain ⟨b, off, rfl, hb2, e0, e1⟩ := pAt_get (PAt.below H2.out.1 HB.out) k hkl
          have hr9 := H2.out.2 le[k] (List.getElem_mem hkl)
          have HWK := Lib.hid (next_i hlt HN2.out.2)
          generalize le[k] = p at *
          obtain ⟨x, y⟩ := p
          have HX := Lib.hid hr9.1
          obtain ⟨W1, hW1⟩ : ∃ W, W = wr.alloc (.cells #[.int .i64 x, .int .u64 (y : Nat)] 36) := ⟨_, rfl⟩
          have HR : Hid (Rows8 W1 wr.heap.size 36 #[.int .i64 x, .int .u64 (y : Nat)]) := Lib.hid (by rw [hW1]; exact Rows8.new _ _ _)
          have hC : Below wr.heap.size wr W1 := by rw [hW1]; exact Rows8.newB
          have HB := Lib.hid (HB.out.trans (hC.mono HB.out.size))
          have hki : (k : Int) < (ne : Int) := by omega
          clear hC hr9 hkl
          go_upto_region 21 with fail
          rw [← hW1]
          clear hW1 e0 e1 hb2
          by_cases h12 : k = 12
          · have hb12 : ((k : Int) == 12) = true := by simp; omega
            go_wp2_with fail
            go_meet
            exact HB
          · have hb12 : ((k : Int) == 12) = false := by simp; omega
            clear h12
            have HQ := Lib.hid (Try.Pack_any x y HX.out W1)
            have c0 : W1.cell? ⟨wr.heap.size, 0, none⟩ = some (.int .i64 x) := HR.out.cell 0
            have c1 : W1.cell? ⟨wr.heap.size, 1, none⟩ = some (.int .u64 (y : Nat)) := HR.out.cell 1
            go_wp2_with fail
            refine HQ.out.mono ?_
            rintro e U1 ⟨HQ9, hC⟩
            cases ha : entB x y with
            | true =>
              have HA := Lib.hid ha
              clear ha
              rcases HQ9 with ⟨_, rfl⟩ | ⟨h9, _⟩
              rotate_left
              · rw [HA.out] at h9
                cases h9
              have HR := Lib.hid (HR.out.below hC HR.out.lt)
              have HB := Lib.hid (HB.out.trans (hC.mono HB.out.size))
              clear hC HQ c0 c1
              have HS := Lib.hid (Try.refEntry_any x y U1)
              rw [HA.out] at HS
              have c0 : U1.cell? ⟨wr.heap.size, 0, none⟩ = some (.int .i64 x) := HR.out.cell 0
              have c1 : U1.cell? ⟨wr.heap.size, 1, none⟩ = some (.int .u64 (y : Nat)) := HR.out.cell 1
              go_wp2_with fail
              refine HS.out.mono ?_
              rintro e U2 ⟨rfl, hC⟩
              have HR := Lib.hid (HR.out.below hC HR.out.lt)
              have HB := Lib.hid (HB.out.trans (hC.mono HB.out.size))
              clear hC HS c0 c1
              have HS := Lib.hid (Try.refPack_any x y HA.out U2)
              have c0 : U2.cell? ⟨wr.heap.size, 0, none⟩ = some (.int .i64 x) := HR.out.cell 0
              have c1 : U2.cell? ⟨wr.heap.size, 1, none⟩ = some (.int .u64 (y : Nat)) := HR.out.cell 1
              go_wp2_with fail
              refine HS.out.mono ?_
              rintro e U3 ⟨rfl, hC⟩
              have HR := Lib.hid (HR.out.below hC HR.out.lt)
              have HB := Lib.hid (HB.out.trans (hC.mono HB.out.size))
              clear hC HS c0 c1
              obtain ⟨pv, hpv⟩ : ∃ p, p = packV x y := ⟨_, rfl⟩
              rw [← hpv]
              clear hpv
              go_wp2_with fail
              exact ⟨⟨k + 1, by omega, by first | rw [HWK.out] | rfl, HB⟩, by (try rw [HWK.out]); simp [intOf]; omega⟩
            | false =>
              have HA := Lib.hid ha
              clear ha
              rcases HQ9 with ⟨h9, _⟩ | ⟨_, rfl⟩
              · rw [HA.out] at h9
                cases h9
              have HR := Lib.hid (HR.out.below hC HR.out.lt)
              have HB := Lib.hid (HB.out.trans (hC.mono HB.out.size))
              clear hC HQ c0 c1
              have HS := Lib.hid (Try.refEntry_any x y U1)
              rw [HA.out] at HS
              have c0 : U1.cell? ⟨wr.heap.size, 0, none⟩ = some (.int .i64 x) := HR.out.cell 0
              have c1 : U1.cell? ⟨wr.heap.size, 1, none⟩ = some (.int .u64 (y : Nat)) := HR.out.cell 1
              go_wp2_with fail
              refine HS.out.mono ?_
              rintro e U2 ⟨rfl, hC⟩
              have HR := Lib.hid (HR.out.below hC HR.out.lt)
              have HB := Lib.hid (HB.out.trans (hC.mono HB.out.size))
              clear hC HS c0 c1
              go_wp2_with fail
              exact ⟨⟨k + 1, by omega, by first | rw [HWK.out] | rfl, HB⟩, by (try rw [HWK.out]); simp [intOf]; omega⟩
        · obtain rfl : k = ne := by omega
          go_wp2_with fail
          go_meet
          exact HB
    case rest =>
      clear HB
      rename_i wc3 hcut
      have HB := hcut
      clear hcut
      go_wp2_with fail
      go_loopw [25, 26, 27, 28, 29, 30, 144] (fun _ _ _ _ _ _ j wr => ∃ k : Nat, k ≤ nw ∧ j = .int .i64 k ∧ Hid (Below w.heap.size w wr)) (fun _ _ _ _ _ _ j _ => nw - (intOf j).toNat)
      case atStart => exact ⟨0, Nat.zero_le _, rfl, HB⟩
      case round =>
        clear HB
        obtain ⟨k, hk, rfl, HB⟩ := hrel
        by_cases hlt : k < nw
        · have hkl : k < lw.length := by rw [← HN3.out.1]; exact hlt
          obtain ⟨b, off, rfl, hb2, c0⟩ := wordsAt_get (RowAt.below H3.out.1 HB.out) k hkl
          have hr9 := H3.out.2 lw[k] (List.getElem_mem hkl)
          rw [List.getElem?_eq_getElem hkl, Option.getD_some] at c0
          have HWK := Lib.hid (next_i hlt HN3.out.2)
          generalize lw[k] = zi at *
          obtain ⟨z, rfl⟩ := Int.eq_ofNat_of_zero_le hr9.1
          have hz : z < 18446744073709551616 := by omega
          have hq := fun W => Try.Unpack_any z hz W
          have hu := fun W => Try.refUnpack_any z hz W
          obtain ⟨mm, hmm⟩ : ∃ m, m = ((z % 65536 : Nat) : Int) - 1 := ⟨_, rfl⟩
          obtain ⟨gg, hgg⟩ : ∃ m, m = ((z / 65536 : Nat) : Int) := ⟨_, rfl⟩
          rw [← hmm, ← hgg] at hq hu
          have HQ := Lib.hid (hq wr)
          have HU := Lib.hid hu
          have hki : (k : Int) < (nw : Int) := by omega
          clear hr9 hkl hmm hgg hz hq hu
          go_upto_region 32 with fail
          clear c0 hb2
          by_cases h12 : k = 12
          · have hb12 : ((k : Int) == 12) = true := by simp; omega
            go_wp2_with fail
            go_ret
            exact ⟨rfl, HB.out⟩
          · have hb12 : ((k : Int) == 12) = false := by simp; omega
            clear h12
            go_wp2_with fail
            refine HQ.out.mono ?_
            rintro e U1 ⟨HQ9, hC⟩
            cases ha : okU z with
            | true =>
              have HA := Lib.hid ha
              rw [ha] at HU
              clear ha
              rcases HQ9 with ⟨_, rfl⟩ | ⟨h9, _⟩
              rotate_left
              · rw [HA.out] at h9
                cases h9
              have HB := Lib.hid (HB.out.trans (hC.mono HB.out.size))
              clear hC HQ
              obtain ⟨U2, hU2⟩ : ∃ W, W = U1.alloc (.cells #[.int .i64 mm, .int .u64 gg] 36) := ⟨_, rfl⟩
              obtain ⟨bx, hbx⟩ : ∃ b, b = U1.heap.size := ⟨_, rfl⟩
              have HR : Hid (Rows8 U2 bx 36 #[.int .i64 mm, .int .u64 gg]) := Lib.hid (by rw [hU2, hbx]; exact Rows8.new _ _ _)
              have hC : Below U1.heap.size U1 U2 := by rw [hU2]; exact Rows8.newB
              have HB := Lib.hid (HB.out.trans (hC.mono HB.out.size))
              clear hC
              have HS := Lib.hid (HU.out U2)
              go_upto_region 34 with fail
              rw [← hbx, ← hU2]
              clear hbx hU2
              go_wp2_with fail
              refine HS.out.mono ?_
              rintro e U3 ⟨rfl, hC⟩
              have HR := Lib.hid (HR.out.below hC HR.out.lt)
              have HB := Lib.hid (HB.out.trans (hC.mono HB.out.size))
              clear hC HS
              obtain ⟨U4, hU4⟩ : ∃ W, W = U3.alloc (.cells #[.int .i64 mm, .int .u64 gg] 36) := ⟨_, rfl⟩
              obtain ⟨bw, hbw⟩ : ∃ b, b = U3.heap.size := ⟨_, rfl⟩
              have HW : Hid (Rows8 U4 bw 36 #[.int .i64 mm, .int .u64 gg]) := Lib.hid (by rw [hU4, hbw]; exact Rows8.new _ _ _)
              have hC : Below U3.heap.size U3 U4 := by rw [hU4]; exact Rows8.newB
              have HWL : Hid (w.heap.size ≤ bw ∧ bx < bw) := Lib.hid ⟨by rw [hbw]; exact HB.out.size, by rw [hbw]; exact HR.out.lt⟩
              have HR := Lib.hid (HR.out.below hC HR.out.lt)
              have HB := Lib.hid (HB.out.trans (hC.mono HB.out.size))
              clear hC
              go_upto_region 35 with fail
              rw [← hbw, ← hU4]
              clear hbw hU4
              have c0 : U4.cell? ⟨bx, 0, none⟩ = some (.int .i64 mm) := HR.out.cell 0
              have c1 : U4.cell? ⟨bx, 1, none⟩ = some (.int .u64 gg) := HR.out.cell 1
              have d0 : U4.cell? ⟨bw, 0, none⟩ = some (.int .i64 mm) := HW.out.cell 0
              have d1 : U4.cell? ⟨bw, 1, none⟩ = some (.int .u64 gg) := HW.out.cell 1
              go_wp2_with fail
              exact ⟨⟨k + 1, by omega, by first | rw [HWK.out] | rfl, HB⟩, by (try rw [HWK.out]); simp [intOf]; omega⟩
            | false =>
              have HA := Lib.hid ha
              rw [ha] at HU
              clear ha
              rcases HQ9 with ⟨h9, _⟩ | ⟨_, rfl⟩
              · rw [HA.out] at h9
                cases h9
              have HB := Lib.hid (HB.out.trans (hC.mono HB.out.size))
              clear hC HQ
              obtain ⟨U2, hU2⟩ : ∃ W, W = U1.alloc (.cells #[.int .i64 0, .int .u64 0] 36) := ⟨_, rfl⟩
              obtain ⟨bx, hbx⟩ : ∃ b, b = U1.heap.size := ⟨_, rfl⟩
              have HR : Hid (Rows8 U2 bx 36 #[.int .i64 0, .int .u64 0]) := Lib.hid (by rw [hU2, hbx]; exact Rows8.new _ _ _)
              have hC : Below U1.heap.size U1 U2 := by rw [hU2]; exact Rows8.newB
              have HB := Lib.hid (HB.out.trans (hC.mono HB.out.size))
              clear hC
              have HS := Lib.hid (HU.out U2)
              go_upto_region 34 with fail
              rw [← hbx, ← hU2]
              clear hbx hU2
              go_wp2_with fail
              refine HS.out.mono ?_
              rintro e U3 ⟨rfl, hC⟩
              have HR := Lib.hid (HR.out.below hC HR.out.lt)
              have HB := Lib.hid (HB.out.trans (hC.mono HB.out.size))
              clear hC HS
              obtain ⟨U4, hU4⟩ : ∃ W, W = U3.alloc (.cells #[.int .i64 mm, .int .u64 gg] 36) := ⟨_, rfl⟩
              obtain ⟨bw, hbw⟩ : ∃ b, b = U3.heap.size := ⟨_, rfl⟩
              have HW : Hid (Rows8 U4 bw 36 #[.int .i64 mm, .int .u64 gg]) := Lib.hid (by rw [hU4, hbw]; exact Rows8.new _ _ _)
              have hC : Below U3.heap.size U3 U4 := by rw [hU4]; exact Rows8.newB
              have HWL : Hid (w.heap.size ≤ bw ∧ bx < bw) := Lib.hid ⟨by rw [hbw]; exact HB.out.size, by rw [hbw]; exact HR.out.lt⟩
              have HR := Lib.hid (HR.out.below hC HR.out.lt)
              have HB := Lib.hid (HB.out.trans (hC.mono HB.out.size))
              clear hC
              go_upto_region 35 with fail
              rw [← hbw, ← hU4]
              clear hbw hU4
              have d0 : U4.cell? ⟨bw, 0, none⟩ = some (.int .i64 mm) := HW.out.cell 0
              have d1 : U4.cell? ⟨bw, 1, none⟩ = some (.int .u64 gg) := HW.out.cell 1
              have f0 := HW.out.frozen 0
              have f1 := HW.out.frozen 1
              have l0 := HW.out.lt
              obtain ⟨U5, hU5⟩ : ∃ W, W = (U4.setCell ⟨bw, 0, none⟩ (.int .i64 0)).setCell ⟨bw, 1, none⟩ (.int .u64 0) := ⟨_, rfl⟩
              have HW5 : Hid (Rows8 U5 bw 36 #[.int .i64 0, .int .u64 0]) := Lib.hid (by rw [hU5]; exact HW.out.set2 _ _)
              have HR5 : Hid (Rows8 U5 bx 36 #[.int .i64 0, .int .u64 0]) := Lib.hid (by rw [hU5]; exact (HR.out.setOther (a := ⟨bw, 0, none⟩) (by have := HWL.out.2; show bw ≠ _; omega) _).setOther (a := ⟨bw, 1, none⟩) (by have := HWL.out.2; show bw ≠ _; omega) _)
              have HB : Hid (Below w.heap.size w U5) := Lib.hid (by rw [hU5]; exact (HB.out.setCell (p := ⟨bw, 0, none⟩) HWL.out.1 _).setCell (p := ⟨bw, 1, none⟩) HWL.out.1 _)
              go_upto_region 37 with fail
              rw [← hU5]
              clear hU5 d0 d1 f0 f1 l0
              have c0 : U5.cell? ⟨bx, 0, none⟩ = some (.int .i64 0) := HR5.out.cell 0
              have c1 : U5.cell? ⟨bx, 1, none⟩ = some (.int .u64 0) := HR5.out.cell 1
              have d0 : U5.cell? ⟨bw, 0, none⟩ = some (.int .i64 0) := HW5.out.cell 0
              have d1 : U5.cell? ⟨bw, 1, none⟩ = some (.int .u64 0) := HW5.out.cell 1
              go_wp2_with fail
              exact ⟨⟨k + 1, by omega, by first | rw [HWK.out] | rfl, HB⟩, by (try rw [HWK.out]); simp [intOf]; omega⟩
        · obtain rfl : k = nw := by omega
          go_wp2_with fail
          go_ret
          exact ⟨rfl, HB.out⟩
theorem laidOut : laidOutB Try.prog = true := by kernel_rfl
set_option maxRecDepth 100000 in
theorem lifted (os : Os) (started : os.Started) (H : Type) (enc : TypeId × Value → H) :
    ReturnsInHanded {} Try.checked os 3 .any (Rows.layoutCellsSpec.pre6 enc Try.prog Try.f3 Rows.layoutCellsRow.domain false) (Rows.layoutCellsSpec.post enc Try.prog Try.f3 false true false false) := by
  refine returnsInHanded_of_change (C := Try.checked) own started (by kernel_rfl) Try.func3
    (ChangeSpec.witness6 (enc := enc) (C := Try.checked) false ⟨#[], #[.slice none 0 0, .slice none 0 0, .slice none 0 0], []⟩ 8 (by kernel_rfl) (by kernel_rfl) (by kernel_rfl) (by kernel_rfl)) ?_
  intro W base args ds gs before hval0 hW hcnd _
  have hval : ∀ (j : Nat) t v, Try.f3.params[j]? = some t → args[j]? = some v → Value.okWide Try.prog W .any base t v := hval0
  have hW' := hW
  obtain ⟨p, q, hA0, hV, rfl, hfz, hnd⟩ := hW
  have hA : DataW.TrodAll enc Try.prog W 0 (fun _ => true) true Try.f3.params.toList args.toList ds p := hA0
  rw [Try.params3] at hA hval
  obtain ⟨v0, vs0, d0, ds0, p0, q0, hargs, rfl, rfl, h0, r0⟩ := trodAll_cons hA
  obtain ⟨v1, vs1, d1, ds1, p1, q1, rfl, rfl, rfl, h1, r1⟩ := trodAll_cons r0
  obtain ⟨v2, vs2, d2, ds2, p2, q2, rfl, rfl, rfl, h2, r2⟩ := trodAll_cons r1
  obtain ⟨rfl, rfl, rfl⟩ := trodAll_nil r2
  obtain rfl : args = #[v0, v1, v2] := by cases args; simp_all
  obtain ⟨rfl, rfl⟩ := trodVars_none hV
  obtain ⟨a0, len0, cap0, rfl⟩ := okWide_slice Try.underlying22 (hval 0 22 v0 rfl rfl)
  have k0 := h0
  have lt0 : ∀ x ∈ p0, x.block < W.heap.size := by obtain ⟨m, hm⟩ := k0; exact DataW.trod_lt m _ _ _ hm
  obtain ⟨z0, n0, w0⟩ : ∃ zs, len0 = zs.length ∧ Q2K W (.slice a0 len0 cap0) zs := by
    obtain ⟨fuel, hf⟩ := h0
    exact open_q2k hf
  obtain ⟨a1, len1, cap1, rfl⟩ := okWide_slice Try.underlying23 (hval 1 23 v1 rfl rfl)
  have k1 := h1
  have lt1 : ∀ x ∈ p1, x.block < W.heap.size := by obtain ⟨m, hm⟩ := k1; exact DataW.trod_lt m _ _ _ hm
  obtain ⟨z1, n1, w1⟩ : ∃ zs, len1 = zs.length ∧ EntsK W (.slice a1 len1 cap1) zs := by
    obtain ⟨fuel, hf⟩ := h1
    exact open_entsk hf
  obtain ⟨a2, len2, cap2, rfl⟩ := okWide_slice Try.underlying24 (hval 2 24 v2 rfl rfl)
  have k2 := h2
  have lt2 : ∀ x ∈ p2, x.block < W.heap.size := by obtain ⟨m, hm⟩ := k2; exact DataW.trod_lt m _ _ _ hm
  obtain ⟨z2, n2, w2⟩ : ∃ zs, len2 = zs.length ∧ WordsK W (.slice a2 len2 cap2) zs := by
    obtain ⟨fuel, hf⟩ := h2
    exact open_wordsK hf
  clear hA0 hval0
  refine (walk a0 len0 cap0 z0 a1 len1 cap1 z1 a2 len2 cap2 z2 W n0 w0 n1 w1 n2 w2).mono fun e W' ⟨he, bel⟩ => ?_
  subst he
  exact ⟨_, rfl, _, _, _, [], _, [], hW', trodAll_mk1 (shut_bool Try.underlying4 _), (trodAll_cons_mk (Below.trod laidOut (by kernel_rfl) (of_decide_eq_true (by kernel_rfl)) k0 bel lt0) (trodAll_cons_mk (Below.trod laidOut (by kernel_rfl) (of_decide_eq_true (by kernel_rfl)) k1 bel lt1) (trodAll_cons_mk (Below.trod laidOut (by kernel_rfl) (of_decide_eq_true (by kernel_rfl)) k2 bel lt2) trodAll_mk0))), rfl, bel.frame _, fun h => by cases h⟩

theorem over : Rows.layoutCellsRow.holds Try.pinned (OpenSpec.ofChange Rows.layoutCellsSpec) :=
  OpenClaim.holds_of_wide 3 Try.f3 rfl rfl rfl rfl rfl rfl rfl ⟨rfl, rfl, rfl, rfl, rfl⟩ rfl rfl rfl rfl rfl (by kernel_rfl) Try.func3 (by kernel_rfl)
    (of_decide_eq_true (by kernel_rfl)) (by unfold Func.isWrapper; first | (rw [if_pos (by decide +kernel)]; kernel_rfl) | (rw [if_neg (by decide +kernel)]; exact ⟨rfl, rfl⟩))
    (fun os started H enc _ => lifted os started H enc)

theorem proved : Rows.LayoutCellsSaid := over
end Go.Proofs.Ytkddfihfilhhdaa.layoutCells
