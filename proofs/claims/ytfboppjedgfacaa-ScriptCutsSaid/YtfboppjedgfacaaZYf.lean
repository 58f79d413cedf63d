/- Script: own. -/
import Derived.Test.YtfboppjedgfacaaZYe
import Derived.Test.YtfboppjedgfacaaZGx
namespace Go.Proofs
set_option maxRecDepth 100000
open Go.RowKit Go.Shelf
attribute [local go_sem] Oper.semAt_some

theorem step_store_g {P : Program} {ops : Array Oper} {Q : Exit → Act → World → Prop} {o : Oper} {a : Act} {w w' : World} {K : Act → World → Prop} {E : Prop} (hw : Region.wanted o (yielded ops a.tmps) = true) (ty : TypeId) (x y : Operand) (ho : o.op = .store ty x y)
    (p : Addr) (v : Value) (hx : a.eval x = .pointer (some p)) (hy : a.eval y = v) (hl : (storeVar ty p v).run P w = .ok () w') (h : K (a.put o.dst undef) w') : if Region.wanted o (yielded ops a.tmps) = true then Oper.wp P o a w K Q else E := by
  rw [if_pos hw]
  unfold Oper.wp
  simp only [execOp, ho, hx, hy, Instr.storeAt, Instr.sureAddr, Sem.run_bind, Sem.run_pure, Result.andThen_ok, hl]
  exact h
theorem step_skip_g {P : Program} {ops : Array Oper} {Q : Exit → Act → World → Prop} {o : Oper} {a : Act} {w w' : World} {K : Act → World → Prop} {E : Prop} (hw : Region.wanted o (yielded ops a.tmps) = true)
    (hx : (execOp a.eval o).run P w = .ok .skip w') (h : K (a.put o.dst undef) w') : if Region.wanted o (yielded ops a.tmps) = true then Oper.wp P o a w K Q else E := by
  rw [if_pos hw]
  unfold Oper.wp
  rw [hx]
  exact h
theorem OwnsL.set {n₀ : Nat} {ls : List (List Cl4)} {v : Value} {W : World} (o : OwnsL n₀ ls v W) {a : Addr} {cs : Array Value} (r : Rows8 W a.block 26 cs) (u : Value) : OwnsL n₀ ls v (W.setCell a u) := by
  obtain ⟨vs, h1, h2⟩ := o
  refine ⟨vs, owns_set h1 r (by decide) u, fun i hi => ?_⟩
  obtain ⟨b, c, e, ho⟩ := h2 i hi
  exact ⟨b, c, e, owns_set ho r (by decide) u⟩
/-- A script that is being made, in block Bo. -/
structure OwnF (w : World) (Bo : Nat) (g b sd : Int) (lsr : List (List Cl4)) (v vp : Value) (cut : List Int) (W : World) : Prop where
  lo : w.heap.size + 2 ≤ Bo
  box : Rows8 W Bo 26 #[.int .i64 g, .int .i64 b, .int .u64 sd, v, vp]
  named : Rows8 W (w.heap.size + 1) 26 #[.int .i64 0, .int .i64 0, .int .u64 0, .slice none 0 0, .slice none 0 0]
  lists : OwnsL w.heap.size lsr v W
  picks : OwnsWords w.heap.size cut vp W
  bel : Below w.heap.size w W
theorem OwnF.keep {w : World} {Bo : Nat} {g b sd : Int} {lsr : List (List Cl4)} {v vp : Value} {cut : List Int} {W W' : World} (p : OwnF w Bo g b sd lsr v vp cut W) (q : Below W.heap.size W W') : OwnF w Bo g b sd lsr v vp cut W' :=
  ⟨p.lo, p.box.below q p.box.lt, p.named.below q p.named.lt, p.lists.keep q (Nat.le_refl _), owns_keep p.picks q (Nat.le_refl _), p.bel.trans (q.mono p.bel.size)⟩
theorem OwnF.grown {w : World} {Bo : Nat} {g b sd : Int} {lsr : List (List Cl4)} {v vp : Value} {cut : List Int} {W W' : World} {vs : List Value} {l : List Cl4} {a : Option Addr} {c : Nat} {v' : Value} {m : Nat} (p : OwnF w Bo g b sd lsr v vp cut W) (hro : W.ownsRow w.heap.size 53 1 v lsr.length vs) (hri : RowsInC w.heap.size lsr vs W)
    (hm : m = l.length) (hnew : OwnsCalls w.heap.size l (.slice a m c) W) (ho : W'.ownsRow w.heap.size 53 1 v' (lsr.length + 1) (vs ++ [.slice a m c])) (hg : W.grownBy W' v.ownBlock) :
    Rows8 W' Bo 26 #[.int .i64 g, .int .i64 b, .int .u64 sd, v, vp] ∧ OwnF w Bo g b sd (lsr ++ [l]) v' vp cut (W'.setCell ⟨Bo, 3, none⟩ v') := by
  subst hm
  have r1 := rows_grown hro (by decide) hg p.box
  have r2 := rows_grown hro (by decide) hg p.named
  have hL := ownsL_snoc hro hri hnew ho hg
  have hP : OwnsWords w.heap.size cut vp W' := grown_ne p.picks hro (by decide) hg
  have hB : Below w.heap.size w W' := p.bel.grown hg p.bel.size (fun j ej => (World.ownsRow.lt hro j ej).1)
  have hlo := p.lo
  exact ⟨r1, hlo, r1.set 3 _, r2.setOther (by show Bo ≠ w.heap.size + 1; omega) _, hL.set (a := ⟨Bo, 3, none⟩) r1 _, owns_set hP (a := ⟨Bo, 3, none⟩) r1 (by decide) _, hB.setCell (by show w.heap.size ≤ Bo; omega) _⟩
theorem OwnF.start {w : World} {Bo : Nat} {g b sd : Int} {vp : Value} {cut : List Int} {W : World} {cs : Array Value} (hlo : w.heap.size + 2 ≤ Bo) (hb : Below w.heap.size w W) (h3 : Rows8 W Bo 26 cs)
    (hN : Rows8 W (w.heap.size + 1) 26 #[.int .i64 0, .int .i64 0, .int .u64 0, .slice none 0 0, .slice none 0 0]) (hp : OwnsWords w.heap.size cut vp W) :
    OwnF w Bo g b sd [] (.slice none 0 0) vp cut (W.setRow Bo #[.int .i64 g, .int .i64 b, .int .u64 sd, .slice none 0 0, vp]) := by
  refine ⟨hlo, setRow_heap _ _ _ _ _ _ h3, (setRow_other _ _ _ _ (by omega)).trans hN, ownsL_nil _ _, ?_, below_setRow hb (by omega) _⟩
  rcases hp with ⟨hl, ⟨h1, h2⟩ | ⟨x, cap, cur, h1, h2, h4, h5⟩⟩
  · exact ⟨hl, .inl ⟨h1, h2⟩⟩
  · refine ⟨hl, .inr ⟨x, cap, cur, h1, h2, (setRow_other _ _ _ _ fun ee => ?_).trans h4, h5⟩⟩
    subst ee
    rw [show W.heap[x]? = _ from h3] at h4
    cases h4
theorem OwnF.back {w : World} {Bo : Nat} {g b sd : Int} {lsr : List (List Cl4)} {v vp : Value} {cut : List Int} {W W' : World} (p : OwnF w Bo g b sd lsr v vp cut W)
    (e : W' = ((((W.setCell ⟨w.heap.size + 1, 0, none⟩ (.int .i64 g)).setCell ⟨w.heap.size + 1, 1, none⟩ (.int .i64 b)).setCell ⟨w.heap.size + 1, 2, none⟩ (.int .u64 sd)).setCell ⟨w.heap.size + 1, 3, none⟩ v).setCell ⟨w.heap.size + 1, 4, none⟩ vp) :
    Rows8 W' (w.heap.size + 1) 26 #[.int .i64 g, .int .i64 b, .int .u64 sd, v, vp] ∧ ListsAt W' v lsr ∧ WordsAt W' vp cut ∧ Below w.heap.size w W' := by
  have n0 := p.named
  have n1 := n0.set 0 (.int .i64 g)
  have n2 := n1.set 1 (.int .i64 b)
  have n3 := n2.set 2 (.int .u64 sd)
  have n4 := n3.set 3 v
  have n5 := n4.set 4 vp
  simp only [List.setIfInBounds_toArray, List.set_cons_zero, List.set_cons_succ] at n5
  have hL := ((((p.lists.set (a := ⟨w.heap.size + 1, 0, none⟩) n0 (.int .i64 g)).set (a := ⟨w.heap.size + 1, 1, none⟩) n1 (.int .i64 b)).set (a := ⟨w.heap.size + 1, 2, none⟩) n2 (.int .u64 sd)).set (a := ⟨w.heap.size + 1, 3, none⟩) n3 v).set (a := ⟨w.heap.size + 1, 4, none⟩) n4 vp
  have hP := owns_set (owns_set (owns_set (owns_set (owns_set p.picks (a := ⟨w.heap.size + 1, 0, none⟩) n0 (by decide) (.int .i64 g)) (a := ⟨w.heap.size + 1, 1, none⟩) n1 (by decide) (.int .i64 b)) (a := ⟨w.heap.size + 1, 2, none⟩) n2 (by decide) (.int .u64 sd)) (a := ⟨w.heap.size + 1, 3, none⟩) n3 (by decide) v) (a := ⟨w.heap.size + 1, 4, none⟩) n4 (by decide) vp
  have hB := (((((p.bel.setCell (p := ⟨w.heap.size + 1, 0, none⟩) (Nat.le_succ _) (.int .i64 g)).setCell (p := ⟨w.heap.size + 1, 1, none⟩) (Nat.le_succ _) (.int .i64 b)).setCell (p := ⟨w.heap.size + 1, 2, none⟩) (Nat.le_succ _) (.int .u64 sd)).setCell (p := ⟨w.heap.size + 1, 3, none⟩) (Nat.le_succ _) v).setCell (p := ⟨w.heap.size + 1, 4, none⟩) (Nat.le_succ _) vp)
  subst e
  exact ⟨n5, hL.at, rowAt_own hP, hB⟩
theorem OwnF.drew {w : World} {Bo : Nat} {g b sd : Int} {lsr : List (List Cl4)} {v vp : Value} {cut : List Int} {W : World} (p : OwnF w Bo g b sd lsr v vp cut W) : OwnF w Bo g b sd lsr v vp cut W.drew := ⟨p.lo, p.box, p.named, p.lists, p.picks, p.bel.drew⟩
def lsr (ls : List (List Cl4)) (i : Nat) : List (List Cl4) := (ls.take (min i 10)).map (·.take 66)
theorem lsr_snoc {ls : List (List Cl4)} {i : Nat} (h : i < ls.length) (h10 : i < 10) : lsr ls (i + 1) = lsr ls i ++ [ls[i].take 66] := by
  unfold lsr
  rw [show min (i + 1) 10 = i + 1 by omega, show min i 10 = i by omega]
  exact own_snoc h
theorem lsr_same {ls : List (List Cl4)} {i : Nat} (h10 : ¬ i < 10) : lsr ls (i + 1) = lsr ls i := by
  unfold lsr
  rw [show min (i + 1) 10 = 10 by omega, show min i 10 = 10 by omega]
theorem lsr_all (ls : List (List Cl4)) : lsr ls ls.length = (ls.take 10).map (·.take 66) := by
  unfold lsr
  by_cases h : ls.length ≤ 10
  · rw [Nat.min_eq_left h, List.take_length, List.take_of_length_le h]
  · rw [Nat.min_eq_right (by omega)]
theorem lsr_len (ls : List (List Cl4)) (i : Nat) : (lsr ls i).length ≤ 10 := by
  unfold lsr
  rw [List.length_map, List.length_take]
  omega
def OwnQ (s : Scr) (w : World) (e : Ending) (w' : World) : Prop := ∃ v, e = .returned v ∧ ScrAt w' v s ∧ Below w.heap.size w w'
set_option maxHeartbeats 16000000 in
theorem Try.own_any (v : Value) (s : Scr) (w : World) (h : ScrAt w v s) :
    Calls Try.prog 10 #[v] w (OwnQ (ownB s) w) := by
  obtain ⟨i0, hi, hz0, hz1, hz2⟩ := info_parts Try.infoRowC
  obtain ⟨al, cl, ap, cp, rfl, hl1, hp1⟩ := h
  obtain ⟨g, b, sd, ls, ps⟩ := s
  dsimp only at hl1 hp1 ⊢
  have hpc : ps.length ≤ cp := by
    obtain ⟨_, _, _, e, h1, h2, _⟩ := hp1
    cases e
    exact h1
  obtain ⟨m, hm⟩ : ∃ m, m = min ps.length 4100 := ⟨_, rfl⟩
  have hcut : WordsAt w (.slice ap m cp) (ps.take 4100) := by
    have h0 := RowAt.cut hp1 m (by omega)
    have e1 : (wordVals ps).take (m * 1) = wordVals (ps.take 4100) := by
      unfold wordVals
      rw [List.map_take, Nat.mul_one]
      by_cases h : ps.length ≤ 4100
      · rw [hm, Nat.min_eq_left h, List.take_of_length_le (by simp), List.take_of_length_le (by simpa using h)]
      · rw [hm, Nat.min_eq_right (by omega)]
    rw [e1] at h0
    unfold WordsAt
    rw [show (ps.take 4100).length = m by rw [List.length_take]; omega]
    exact h0
  have hcl : m = (ps.take 4100).length := by rw [List.length_take]; omega
  have hob : ownB ⟨g, b, sd, ls, ps⟩ = ⟨g, b, sd, (ls.take 10).map (·.take 66), ps.take 4100⟩ := rfl
  rw [hob]
  clear hob
  generalize ps.take 4100 = cut at *
  obtain ⟨lss, hls⟩ : ∃ x, x = (ls.take 10).map (·.take 66) := ⟨_, rfl⟩
  rw [← hls]
  have HLS := Lib.hid hls
  clear hls
  obtain ⟨pl, hpl⟩ : ∃ pl, ps.length = pl := ⟨_, rfl⟩
  rw [hpl] at hpc hm ⊢
  have g5 : min (pl : Int) 4100 = (m : Int) := by omega
  have g6 : (if (4100 : Int) < (pl : Int) then (4100 : Int) else (pl : Int)) = (m : Int) := by split <;> omega
  have g7 : (if (pl : Int) < 4100 then (pl : Int) else (4100 : Int)) = (m : Int) := by split <;> omega
  have g8 : (m : Int) ≤ (cp : Int) := by omega
  have g9 : (0 : Int) ≤ (m : Int) := by omega
  have HCL : Hid (∀ W, Below w.heap.size w W → Calls Try.prog 35 #[.slice ap m cp] W fun e w' => ∃ ax cx, e = .returned (.slice ax m cx) ∧ OwnsWords W.heap.size cut (.slice ax m cx) w' ∧ Below W.heap.size W w') := Lib.hid fun W hb =>
    (Try.cloneWords_any ap m cp cut hcl (by omega) W (RowAt.below hcut hb)).mono fun e w' ⟨u, he, ho, hb2⟩ => by
      have ho2 := ho
      obtain ⟨_, ax, cx, rfl, _⟩ := rowAt_own ho
      rw [← hcl] at he ho2
      exact ⟨ax, cx, he, ho2, hb2⟩
  have HCL2 := Lib.hid hcl
  have H1 := Lib.hid hl1
  clear hp1 hcut hl1 hcl hm hpc hpl
  obtain ⟨n, hn⟩ : ∃ n, ls.length = n := ⟨_, rfl⟩
  rw [hn] at H1 ⊢
  have HN := Lib.hid hn
  clear hn
  go_enter Try.func10, Try.ntmps10
  go_wp2_with fail
  have r0 := (Rows8.new w 26 #[.int .i64 g, .int .i64 b, .int .u64 sd, .slice al n cl, .slice ap pl cp]).alloc (.cells #[.int .i64 0, .int .i64 0, .int .u64 0, .slice none 0 0, .slice none 0 0] 26)
  have r1 := rows_new2 w (.cells #[.int .i64 g, .int .i64 b, .int .u64 sd, .slice al n cl, .slice ap pl cp] 26) 26 #[.int .i64 0, .int .i64 0, .int .u64 0, .slice none 0 0, .slice none 0 0]
  have hB1 : Below w.heap.size w ((w.alloc (.cells #[.int .i64 g, .int .i64 b, .int .u64 sd, .slice al n cl, .slice ap pl cp] 26)).alloc (.cells #[.int .i64 0, .int .i64 0, .int .u64 0, .slice none 0 0, .slice none 0 0] 26)) := ((Below.refl w.heap.size w).alloc (Nat.le_refl _) _).alloc (by simp) _
  have hz : ((w.alloc (.cells #[.int .i64 g, .int .i64 b, .int .u64 sd, .slice al n cl, .slice ap pl cp] 26)).alloc (.cells #[.int .i64 0, .int .i64 0, .int .u64 0, .slice none 0 0, .slice none 0 0] 26)).heap.size = w.heap.size + 2 := by simp
  generalize (w.alloc (.cells #[.int .i64 g, .int .i64 b, .int .u64 sd, .slice al n cl, .slice ap pl cp] 26)).alloc (.cells #[.int .i64 0, .int .i64 0, .int .u64 0, .slice none 0 0, .slice none 0 0] 26) = W1 at *
  have HKS : Hid (∀ W, Below w.heap.size w W → Rows8 W w.heap.size 26 #[.int .i64 g, .int .i64 b, .int .u64 sd, .slice al n cl, .slice ap pl cp] → W.cell? ⟨w.heap.size, 0, none⟩ = some (.int .i64 g) ∧ W.cell? ⟨w.heap.size, 1, none⟩ = some (.int .i64 b) ∧ W.cell? ⟨w.heap.size, 2, none⟩ = some (.int .u64 sd) ∧ W.cell? ⟨w.heap.size, 4, none⟩ = some (.slice ap pl cp)) := Lib.hid fun W _ r => ⟨r.cell 0, r.cell 1, r.cell 2, r.cell 4⟩
  have hBd : Below w.heap.size w W1.drew := hB1.drew
  have hSd : Rows8 W1.drew w.heap.size 26 #[.int .i64 g, .int .i64 b, .int .u64 sd, .slice al n cl, .slice ap pl cp] := r0
  have hNd : Rows8 W1.drew (w.heap.size + 1) 26 #[.int .i64 0, .int .i64 0, .int .u64 0, .slice none 0 0, .slice none 0 0] := r1
  have hzd : W1.drew.heap.size = w.heap.size + 2 := hz
  clear r0 r1 hB1 hz
  refine wp_region_X (fun W' => W'.cell? ⟨w.heap.size, 0, none⟩ = some (.int .i64 g) ∧ W'.cell? ⟨w.heap.size, 1, none⟩ = some (.int .i64 b) ∧ W'.cell? ⟨w.heap.size, 2, none⟩ = some (.int .u64 sd) ∧ W'.cell? ⟨w.heap.size, 4, none⟩ = some (.slice ap pl cp)) 16 (by kernel_rfl) ?_
  generalize W1.drew = Wd at *
  refine wpAnyX_take (i := 0) (oi := { dst := some 6, op := Go.Op.fieldAddr 26 (Go.Operand.tmp 1) 0, type := 0, pos := "law.go:28", after := #[], guard := none }) (oX := { dst := none, op := Go.Op.store 26 (Go.Operand.tmp 3) (Go.Operand.tmp 20), type := 0, pos := "law.go:28", after := #[{ on := 15, ground := Go.Ground.data }, { on := 14, ground := Go.Ground.data }, { on := 13, ground := Go.Ground.chain }, { on := 0, ground := Go.Ground.phase }, { on := 1, ground := Go.Ground.phase }, { on := 2, ground := Go.Ground.phase }, { on := 3, ground := Go.Ground.phase }, { on := 4, ground := Go.Ground.phase }, { on := 5, ground := Go.Ground.phase }, { on := 6, ground := Go.Ground.phase }, { on := 7, ground := Go.Ground.phase }, { on := 8, ground := Go.Ground.phase }, { on := 9, ground := Go.Ground.phase }, { on := 10, ground := Go.Ground.phase }, { on := 11, ground := Go.Ground.phase }, { on := 12, ground := Go.Ground.phase }, { on := 13, ground := Go.Ground.phase }, { on := 14, ground := Go.Ground.phase }, { on := 15, ground := Go.Ground.phase }], guard := none }) (v := .pointer (some ⟨w.heap.size, 0, none⟩)) rfl rfl (by kernel_rfl) (by kernel_rfl) (by kernel_rfl) (by kernel_rfl) (fun _ _ _ h => h) (Or.inl ⟨by rfl, ?_⟩) (HKS.out Wd hBd hSd) ?_
  · intro W9 hS9
    obtain ⟨q0, q1, q2, q3⟩ := hS9
    go_simp
  try simp only [Act.put, List.setIfInBounds_toArray, List.set_cons_zero, List.set_cons_succ]
  refine wpAnyX_take (i := 1) (oi := { dst := some 7, op := Go.Op.load 3 (Go.Operand.tmp 6), type := 3, pos := "law.go:28", after := #[{ on := 0, ground := Go.Ground.data }], guard := none }) (oX := { dst := none, op := Go.Op.store 26 (Go.Operand.tmp 3) (Go.Operand.tmp 20), type := 0, pos := "law.go:28", after := #[{ on := 15, ground := Go.Ground.data }, { on := 14, ground := Go.Ground.data }, { on := 13, ground := Go.Ground.chain }, { on := 0, ground := Go.Ground.phase }, { on := 1, ground := Go.Ground.phase }, { on := 2, ground := Go.Ground.phase }, { on := 3, ground := Go.Ground.phase }, { on := 4, ground := Go.Ground.phase }, { on := 5, ground := Go.Ground.phase }, { on := 6, ground := Go.Ground.phase }, { on := 7, ground := Go.Ground.phase }, { on := 8, ground := Go.Ground.phase }, { on := 9, ground := Go.Ground.phase }, { on := 10, ground := Go.Ground.phase }, { on := 11, ground := Go.Ground.phase }, { on := 12, ground := Go.Ground.phase }, { on := 13, ground := Go.Ground.phase }, { on := 14, ground := Go.Ground.phase }, { on := 15, ground := Go.Ground.phase }], guard := none }) (v := .int .i64 g) rfl rfl (by kernel_rfl) (by kernel_rfl) (by kernel_rfl) (by kernel_rfl) (fun _ _ _ h => h) (Or.inl ⟨by rfl, ?_⟩) (HKS.out Wd hBd hSd) ?_
  · intro W9 hS9
    obtain ⟨q0, q1, q2, q3⟩ := hS9
    go_simp
  try simp only [Act.put, List.setIfInBounds_toArray, List.set_cons_zero, List.set_cons_succ]
  refine wpAnyX_take (i := 2) (oi := { dst := some 8, op := Go.Op.fieldAddr 26 (Go.Operand.tmp 1) 1, type := 0, pos := "law.go:28", after := #[], guard := none }) (oX := { dst := none, op := Go.Op.store 26 (Go.Operand.tmp 3) (Go.Operand.tmp 20), type := 0, pos := "law.go:28", after := #[{ on := 15, ground := Go.Ground.data }, { on := 14, ground := Go.Ground.data }, { on := 13, ground := Go.Ground.chain }, { on := 0, ground := Go.Ground.phase }, { on := 1, ground := Go.Ground.phase }, { on := 2, ground := Go.Ground.phase }, { on := 3, ground := Go.Ground.phase }, { on := 4, ground := Go.Ground.phase }, { on := 5, ground := Go.Ground.phase }, { on := 6, ground := Go.Ground.phase }, { on := 7, ground := Go.Ground.phase }, { on := 8, ground := Go.Ground.phase }, { on := 9, ground := Go.Ground.phase }, { on := 10, ground := Go.Ground.phase }, { on := 11, ground := Go.Ground.phase }, { on := 12, ground := Go.Ground.phase }, { on := 13, ground := Go.Ground.phase }, { on := 14, ground := Go.Ground.phase }, { on := 15, ground := Go.Ground.phase }], guard := none }) (v := .pointer (some ⟨w.heap.size, 1, none⟩)) rfl rfl (by kernel_rfl) (by kernel_rfl) (by kernel_rfl) (by kernel_rfl) (fun _ _ _ h => h) (Or.inl ⟨by rfl, ?_⟩) (HKS.out Wd hBd hSd) ?_
  · intro W9 hS9
    obtain ⟨q0, q1, q2, q3⟩ := hS9
    go_simp
  try simp only [Act.put, List.setIfInBounds_toArray, List.set_cons_zero, List.set_cons_succ]
  refine wpAnyX_take (i := 3) (oi := { dst := some 9, op := Go.Op.load 3 (Go.Operand.tmp 8), type := 3, pos := "law.go:28", after := #[{ on := 2, ground := Go.Ground.data }], guard := none }) (oX := { dst := none, op := Go.Op.store 26 (Go.Operand.tmp 3) (Go.Operand.tmp 20), type := 0, pos := "law.go:28", after := #[{ on := 15, ground := Go.Ground.data }, { on := 14, ground := Go.Ground.data }, { on := 13, ground := Go.Ground.chain }, { on := 0, ground := Go.Ground.phase }, { on := 1, ground := Go.Ground.phase }, { on := 2, ground := Go.Ground.phase }, { on := 3, ground := Go.Ground.phase }, { on := 4, ground := Go.Ground.phase }, { on := 5, ground := Go.Ground.phase }, { on := 6, ground := Go.Ground.phase }, { on := 7, ground := Go.Ground.phase }, { on := 8, ground := Go.Ground.phase }, { on := 9, ground := Go.Ground.phase }, { on := 10, ground := Go.Ground.phase }, { on := 11, ground := Go.Ground.phase }, { on := 12, ground := Go.Ground.phase }, { on := 13, ground := Go.Ground.phase }, { on := 14, ground := Go.Ground.phase }, { on := 15, ground := Go.Ground.phase }], guard := none }) (v := .int .i64 b) rfl rfl (by kernel_rfl) (by kernel_rfl) (by kernel_rfl) (by kernel_rfl) (fun _ _ _ h => h) (Or.inl ⟨by rfl, ?_⟩) (HKS.out Wd hBd hSd) ?_
  · intro W9 hS9
    obtain ⟨q0, q1, q2, q3⟩ := hS9
    go_simp
  try simp only [Act.put, List.setIfInBounds_toArray, List.set_cons_zero, List.set_cons_succ]
  refine wpAnyX_take (i := 4) (oi := { dst := some 10, op := Go.Op.fieldAddr 26 (Go.Operand.tmp 1) 2, type := 0, pos := "law.go:28", after := #[], guard := none }) (oX := { dst := none, op := Go.Op.store 26 (Go.Operand.tmp 3) (Go.Operand.tmp 20), type := 0, pos := "law.go:28", after := #[{ on := 15, ground := Go.Ground.data }, { on := 14, ground := Go.Ground.data }, { on := 13, ground := Go.Ground.chain }, { on := 0, ground := Go.Ground.phase }, { on := 1, ground := Go.Ground.phase }, { on := 2, ground := Go.Ground.phase }, { on := 3, ground := Go.Ground.phase }, { on := 4, ground := Go.Ground.phase }, { on := 5, ground := Go.Ground.phase }, { on := 6, ground := Go.Ground.phase }, { on := 7, ground := Go.Ground.phase }, { on := 8, ground := Go.Ground.phase }, { on := 9, ground := Go.Ground.phase }, { on := 10, ground := Go.Ground.phase }, { on := 11, ground := Go.Ground.phase }, { on := 12, ground := Go.Ground.phase }, { on := 13, ground := Go.Ground.phase }, { on := 14, ground := Go.Ground.phase }, { on := 15, ground := Go.Ground.phase }], guard := none }) (v := .pointer (some ⟨w.heap.size, 2, none⟩)) rfl rfl (by kernel_rfl) (by kernel_rfl) (by kernel_rfl) (by kernel_rfl) (fun _ _ _ h => h) (Or.inl ⟨by rfl, ?_⟩) (HKS.out Wd hBd hSd) ?_
  · intro W9 hS9
    obtain ⟨q0, q1, q2, q3⟩ := hS9
    go_simp
  try simp only [Act.put, List.setIfInBounds_toArray, List.set_cons_zero, List.set_cons_succ]
  refine wpAnyX_take (i := 5) (oi := { dst := some 11, op := Go.Op.load 22 (Go.Operand.tmp 10), type := 22, pos := "law.go:28", after := #[{ on := 4, ground := Go.Ground.data }], guard := none }) (oX := { dst := none, op := Go.Op.store 26 (Go.Operand.tmp 3) (Go.Operand.tmp 20), type := 0, pos := "law.go:28", after := #[{ on := 15, ground := Go.Ground.data }, { on := 14, ground := Go.Ground.data }, { on := 13, ground := Go.Ground.chain }, { on := 0, ground := Go.Ground.phase }, { on := 1, ground := Go.Ground.phase }, { on := 2, ground := Go.Ground.phase }, { on := 3, ground := Go.Ground.phase }, { on := 4, ground := Go.Ground.phase }, { on := 5, ground := Go.Ground.phase }, { on := 6, ground := Go.Ground.phase }, { on := 7, ground := Go.Ground.phase }, { on := 8, ground := Go.Ground.phase }, { on := 9, ground := Go.Ground.phase }, { on := 10, ground := Go.Ground.phase }, { on := 11, ground := Go.Ground.phase }, { on := 12, ground := Go.Ground.phase }, { on := 13, ground := Go.Ground.phase }, { on := 14, ground := Go.Ground.phase }, { on := 15, ground := Go.Ground.phase }], guard := none }) (v := .int .u64 sd) rfl rfl (by kernel_rfl) (by kernel_rfl) (by kernel_rfl) (by kernel_rfl) (fun _ _ _ h => h) (Or.inl ⟨by rfl, ?_⟩) (HKS.out Wd hBd hSd) ?_
  · intro W9 hS9
    obtain ⟨q0, q1, q2, q3⟩ := hS9
    go_simp
  try simp only [Act.put, List.setIfInBounds_toArray, List.set_cons_zero, List.set_cons_succ]
  refine wpAnyX_take (i := 6) (oi := { dst := some 12, op := Go.Op.fieldAddr 26 (Go.Operand.tmp 1) 4, type := 0, pos := "law.go:28", after := #[], guard := none }) (oX := { dst := none, op := Go.Op.store 26 (Go.Operand.tmp 3) (Go.Operand.tmp 20), type := 0, pos := "law.go:28", after := #[{ on := 15, ground := Go.Ground.data }, { on := 14, ground := Go.Ground.data }, { on := 13, ground := Go.Ground.chain }, { on := 0, ground := Go.Ground.phase }, { on := 1, ground := Go.Ground.phase }, { on := 2, ground := Go.Ground.phase }, { on := 3, ground := Go.Ground.phase }, { on := 4, ground := Go.Ground.phase }, { on := 5, ground := Go.Ground.phase }, { on := 6, ground := Go.Ground.phase }, { on := 7, ground := Go.Ground.phase }, { on := 8, ground := Go.Ground.phase }, { on := 9, ground := Go.Ground.phase }, { on := 10, ground := Go.Ground.phase }, { on := 11, ground := Go.Ground.phase }, { on := 12, ground := Go.Ground.phase }, { on := 13, ground := Go.Ground.phase }, { on := 14, ground := Go.Ground.phase }, { on := 15, ground := Go.Ground.phase }], guard := none }) (v := .pointer (some ⟨w.heap.size, 4, none⟩)) rfl rfl (by kernel_rfl) (by kernel_rfl) (by kernel_rfl) (by kernel_rfl) (fun _ _ _ h => h) (Or.inl ⟨by rfl, ?_⟩) (HKS.out Wd hBd hSd) ?_
  · intro W9 hS9
    obtain ⟨q0, q1, q2, q3⟩ := hS9
    go_simp
  try simp only [Act.put, List.setIfInBounds_toArray, List.set_cons_zero, List.set_cons_succ]
  refine wpAnyX_take (i := 7) (oi := { dst := some 13, op := Go.Op.load 24 (Go.Operand.tmp 12), type := 24, pos := "law.go:28", after := #[{ on := 6, ground := Go.Ground.data }], guard := none }) (oX := { dst := none, op := Go.Op.store 26 (Go.Operand.tmp 3) (Go.Operand.tmp 20), type := 0, pos := "law.go:28", after := #[{ on := 15, ground := Go.Ground.data }, { on := 14, ground := Go.Ground.data }, { on := 13, ground := Go.Ground.chain }, { on := 0, ground := Go.Ground.phase }, { on := 1, ground := Go.Ground.phase }, { on := 2, ground := Go.Ground.phase }, { on := 3, ground := Go.Ground.phase }, { on := 4, ground := Go.Ground.phase }, { on := 5, ground := Go.Ground.phase }, { on := 6, ground := Go.Ground.phase }, { on := 7, ground := Go.Ground.phase }, { on := 8, ground := Go.Ground.phase }, { on := 9, ground := Go.Ground.phase }, { on := 10, ground := Go.Ground.phase }, { on := 11, ground := Go.Ground.phase }, { on := 12, ground := Go.Ground.phase }, { on := 13, ground := Go.Ground.phase }, { on := 14, ground := Go.Ground.phase }, { on := 15, ground := Go.Ground.phase }], guard := none }) (v := .slice ap pl cp) rfl rfl (by kernel_rfl) (by kernel_rfl) (by kernel_rfl) (by kernel_rfl) (fun _ _ _ h => h) (Or.inl ⟨by rfl, ?_⟩) (HKS.out Wd hBd hSd) ?_
  · intro W9 hS9
    obtain ⟨q0, q1, q2, q3⟩ := hS9
    go_simp
  try simp only [Act.put, List.setIfInBounds_toArray, List.set_cons_zero, List.set_cons_succ]
  refine wpAnyX_take (i := 8) (oi := { dst := some 14, op := Go.Op.fieldAddr 26 (Go.Operand.tmp 1) 4, type := 0, pos := "law.go:28", after := #[], guard := none }) (oX := { dst := none, op := Go.Op.store 26 (Go.Operand.tmp 3) (Go.Operand.tmp 20), type := 0, pos := "law.go:28", after := #[{ on := 15, ground := Go.Ground.data }, { on := 14, ground := Go.Ground.data }, { on := 13, ground := Go.Ground.chain }, { on := 0, ground := Go.Ground.phase }, { on := 1, ground := Go.Ground.phase }, { on := 2, ground := Go.Ground.phase }, { on := 3, ground := Go.Ground.phase }, { on := 4, ground := Go.Ground.phase }, { on := 5, ground := Go.Ground.phase }, { on := 6, ground := Go.Ground.phase }, { on := 7, ground := Go.Ground.phase }, { on := 8, ground := Go.Ground.phase }, { on := 9, ground := Go.Ground.phase }, { on := 10, ground := Go.Ground.phase }, { on := 11, ground := Go.Ground.phase }, { on := 12, ground := Go.Ground.phase }, { on := 13, ground := Go.Ground.phase }, { on := 14, ground := Go.Ground.phase }, { on := 15, ground := Go.Ground.phase }], guard := none }) (v := .pointer (some ⟨w.heap.size, 4, none⟩)) rfl rfl (by kernel_rfl) (by kernel_rfl) (by kernel_rfl) (by kernel_rfl) (fun _ _ _ h => h) (Or.inl ⟨by rfl, ?_⟩) (HKS.out Wd hBd hSd) ?_
  · intro W9 hS9
    obtain ⟨q0, q1, q2, q3⟩ := hS9
    go_simp
  try simp only [Act.put, List.setIfInBounds_toArray, List.set_cons_zero, List.set_cons_succ]
  refine wpAnyX_take (i := 9) (oi := { dst := some 15, op := Go.Op.load 24 (Go.Operand.tmp 14), type := 24, pos := "law.go:28", after := #[{ on := 8, ground := Go.Ground.data }], guard := none }) (oX := { dst := none, op := Go.Op.store 26 (Go.Operand.tmp 3) (Go.Operand.tmp 20), type := 0, pos := "law.go:28", after := #[{ on := 15, ground := Go.Ground.data }, { on := 14, ground := Go.Ground.data }, { on := 13, ground := Go.Ground.chain }, { on := 0, ground := Go.Ground.phase }, { on := 1, ground := Go.Ground.phase }, { on := 2, ground := Go.Ground.phase }, { on := 3, ground := Go.Ground.phase }, { on := 4, ground := Go.Ground.phase }, { on := 5, ground := Go.Ground.phase }, { on := 6, ground := Go.Ground.phase }, { on := 7, ground := Go.Ground.phase }, { on := 8, ground := Go.Ground.phase }, { on := 9, ground := Go.Ground.phase }, { on := 10, ground := Go.Ground.phase }, { on := 11, ground := Go.Ground.phase }, { on := 12, ground := Go.Ground.phase }, { on := 13, ground := Go.Ground.phase }, { on := 14, ground := Go.Ground.phase }, { on := 15, ground := Go.Ground.phase }], guard := none }) (v := .slice ap pl cp) rfl rfl (by kernel_rfl) (by kernel_rfl) (by kernel_rfl) (by kernel_rfl) (fun _ _ _ h => h) (Or.inl ⟨by rfl, ?_⟩) (HKS.out Wd hBd hSd) ?_
  · intro W9 hS9
    obtain ⟨q0, q1, q2, q3⟩ := hS9
    go_simp
  try simp only [Act.put, List.setIfInBounds_toArray, List.set_cons_zero, List.set_cons_succ]
  refine wpAnyX_take (i := 10) (oi := { dst := some 16, op := Go.Op.call { callee := Go.Callee.builtin Go.Builtin.len, args := #[Go.Operand.tmp 15], argTypes := #[24] }, type := 3, pos := "law.go:28", after := #[{ on := 9, ground := Go.Ground.data }], guard := none }) (oX := { dst := none, op := Go.Op.store 26 (Go.Operand.tmp 3) (Go.Operand.tmp 20), type := 0, pos := "law.go:28", after := #[{ on := 15, ground := Go.Ground.data }, { on := 14, ground := Go.Ground.data }, { on := 13, ground := Go.Ground.chain }, { on := 0, ground := Go.Ground.phase }, { on := 1, ground := Go.Ground.phase }, { on := 2, ground := Go.Ground.phase }, { on := 3, ground := Go.Ground.phase }, { on := 4, ground := Go.Ground.phase }, { on := 5, ground := Go.Ground.phase }, { on := 6, ground := Go.Ground.phase }, { on := 7, ground := Go.Ground.phase }, { on := 8, ground := Go.Ground.phase }, { on := 9, ground := Go.Ground.phase }, { on := 10, ground := Go.Ground.phase }, { on := 11, ground := Go.Ground.phase }, { on := 12, ground := Go.Ground.phase }, { on := 13, ground := Go.Ground.phase }, { on := 14, ground := Go.Ground.phase }, { on := 15, ground := Go.Ground.phase }], guard := none }) (v := .int .i64 (pl : Nat)) rfl rfl (by kernel_rfl) (by kernel_rfl) (by kernel_rfl) (by kernel_rfl) (fun _ _ _ h => h) (Or.inl ⟨by rfl, ?_⟩) (HKS.out Wd hBd hSd) ?_
  · intro W9 hS9
    obtain ⟨q0, q1, q2, q3⟩ := hS9
    go_simp
  try simp only [Act.put, List.setIfInBounds_toArray, List.set_cons_zero, List.set_cons_succ]
  refine wpAnyX_take (i := 11) (oi := { dst := some 17, op := Go.Op.call { callee := Go.Callee.builtin Go.Builtin.min, args := #[Go.Operand.tmp 16, Go.Operand.const (Go.Value.int Go.IntKind.i64 4100)], argTypes := #[3, 3] }, type := 3, pos := "law.go:28", after := #[{ on := 10, ground := Go.Ground.data }], guard := none }) (oX := { dst := none, op := Go.Op.store 26 (Go.Operand.tmp 3) (Go.Operand.tmp 20), type := 0, pos := "law.go:28", after := #[{ on := 15, ground := Go.Ground.data }, { on := 14, ground := Go.Ground.data }, { on := 13, ground := Go.Ground.chain }, { on := 0, ground := Go.Ground.phase }, { on := 1, ground := Go.Ground.phase }, { on := 2, ground := Go.Ground.phase }, { on := 3, ground := Go.Ground.phase }, { on := 4, ground := Go.Ground.phase }, { on := 5, ground := Go.Ground.phase }, { on := 6, ground := Go.Ground.phase }, { on := 7, ground := Go.Ground.phase }, { on := 8, ground := Go.Ground.phase }, { on := 9, ground := Go.Ground.phase }, { on := 10, ground := Go.Ground.phase }, { on := 11, ground := Go.Ground.phase }, { on := 12, ground := Go.Ground.phase }, { on := 13, ground := Go.Ground.phase }, { on := 14, ground := Go.Ground.phase }, { on := 15, ground := Go.Ground.phase }], guard := none }) (v := .int .i64 (m : Nat)) rfl rfl (by kernel_rfl) (by kernel_rfl) (by kernel_rfl) (by kernel_rfl) (fun _ _ _ h => h) (Or.inl ⟨by rfl, ?_⟩) (HKS.out Wd hBd hSd) ?_
  · intro W9 hS9
    obtain ⟨q0, q1, q2, q3⟩ := hS9
    go_simp
  try simp only [Act.put, List.setIfInBounds_toArray, List.set_cons_zero, List.set_cons_succ]
  refine wpAnyX_take (i := 12) (oi := { dst := some 18, op := Go.Op.slice 24 (Go.Operand.tmp 13) none (some (Go.Operand.tmp 17)) none, type := 24, pos := "law.go:28", after := #[{ on := 7, ground := Go.Ground.data }, { on := 11, ground := Go.Ground.data }], guard := none }) (oX := { dst := none, op := Go.Op.store 26 (Go.Operand.tmp 3) (Go.Operand.tmp 20), type := 0, pos := "law.go:28", after := #[{ on := 15, ground := Go.Ground.data }, { on := 14, ground := Go.Ground.data }, { on := 13, ground := Go.Ground.chain }, { on := 0, ground := Go.Ground.phase }, { on := 1, ground := Go.Ground.phase }, { on := 2, ground := Go.Ground.phase }, { on := 3, ground := Go.Ground.phase }, { on := 4, ground := Go.Ground.phase }, { on := 5, ground := Go.Ground.phase }, { on := 6, ground := Go.Ground.phase }, { on := 7, ground := Go.Ground.phase }, { on := 8, ground := Go.Ground.phase }, { on := 9, ground := Go.Ground.phase }, { on := 10, ground := Go.Ground.phase }, { on := 11, ground := Go.Ground.phase }, { on := 12, ground := Go.Ground.phase }, { on := 13, ground := Go.Ground.phase }, { on := 14, ground := Go.Ground.phase }, { on := 15, ground := Go.Ground.phase }], guard := none }) (v := .slice ap m cp) rfl rfl (by kernel_rfl) (by kernel_rfl) (by kernel_rfl) (by kernel_rfl) (fun _ _ _ h => h) (Or.inl ⟨by rfl, ?_⟩) (HKS.out Wd hBd hSd) ?_
  · intro W9 hS9
    obtain ⟨q0, q1, q2, q3⟩ := hS9
    go_simp
  try simp only [Act.put, List.setIfInBounds_toArray, List.set_cons_zero, List.set_cons_succ]
  refine wpAnyX_two (i := 13) (j := 15) (oi := { dst := some 19, op := Go.Op.call { callee := Go.Callee.value (Go.Operand.func 35), args := #[Go.Operand.tmp 18], argTypes := #[24] }, type := 24, pos := "law.go:28", after := #[{ on := 12, ground := Go.Ground.data }], guard := none }) (oj := { dst := some 3, op := Go.Op.alloc 26, type := 0, pos := "law.go:28", after := #[], guard := none }) (by kernel_rfl) rfl rfl (fun K hK => ?_) (fun K hK => ?_)
  · refine step_call_g (by rfl) 35 _ _ rfl (fun _ _ => by kernel_rfl) #[.slice ap m cp] (by simp [go_sem]) _ (HCL.out Wd hBd) ?_
    rintro e W2 ⟨ax, cx, rfl, hox, hBx⟩
    refine ⟨_, rfl, ?_⟩
    have hb2 := hBd.trans (hBx.mono hBd.size)
    have hs2 := Rows8.below hSd hBx hSd.lt
    refine hK.out _ _ (fun _ => HKS.out W2 hb2 hs2) ?_
    clear hK K
    try simp only [Act.put, List.setIfInBounds_toArray, List.set_cons_zero, List.set_cons_succ]
    refine wpAnyX_take (i := 14) (oi := { dst := some 20, op := Go.Op.build 26 #[(0, Go.Operand.tmp 7), (1, Go.Operand.tmp 9), (2, Go.Operand.tmp 11), (4, Go.Operand.tmp 19)], type := 26, pos := "law.go:28", after := #[{ on := 1, ground := Go.Ground.data }, { on := 3, ground := Go.Ground.data }, { on := 5, ground := Go.Ground.data }, { on := 13, ground := Go.Ground.data }], guard := none }) (oX := { dst := none, op := Go.Op.store 26 (Go.Operand.tmp 3) (Go.Operand.tmp 20), type := 0, pos := "law.go:28", after := #[{ on := 15, ground := Go.Ground.data }, { on := 14, ground := Go.Ground.data }, { on := 13, ground := Go.Ground.chain }, { on := 0, ground := Go.Ground.phase }, { on := 1, ground := Go.Ground.phase }, { on := 2, ground := Go.Ground.phase }, { on := 3, ground := Go.Ground.phase }, { on := 4, ground := Go.Ground.phase }, { on := 5, ground := Go.Ground.phase }, { on := 6, ground := Go.Ground.phase }, { on := 7, ground := Go.Ground.phase }, { on := 8, ground := Go.Ground.phase }, { on := 9, ground := Go.Ground.phase }, { on := 10, ground := Go.Ground.phase }, { on := 11, ground := Go.Ground.phase }, { on := 12, ground := Go.Ground.phase }, { on := 13, ground := Go.Ground.phase }, { on := 14, ground := Go.Ground.phase }, { on := 15, ground := Go.Ground.phase }], guard := none }) (v := .agg #[.int .i64 g, .int .i64 b, .int .u64 sd, .slice none 0 0, .slice ax m cx]) rfl rfl (by kernel_rfl) (by kernel_rfl) (by kernel_rfl) (by kernel_rfl) (fun _ _ _ h => h) (Or.inl ⟨by rfl, ?_⟩) (HKS.out W2 hb2 hs2) ?_
    · intro W9 hS9
      obtain ⟨q0, q1, q2, q3⟩ := hS9
      go_simp
    try simp only [Act.put, List.setIfInBounds_toArray, List.set_cons_zero, List.set_cons_succ]
    refine wpAnyX_one (i := 15) (o := { dst := some 3, op := Go.Op.alloc 26, type := 0, pos := "law.go:28", after := #[], guard := none }) (by kernel_rfl) rfl (fun K hK => ?_)
    refine step_value_g (by rfl) (.pointer (some ⟨W2.heap.size, 0, none⟩)) (w' := W2.alloc (.cells #[.int .i64 0, .int .i64 0, .int .u64 0, .slice none 0 0, .slice none 0 0] 26)) (by go_simp) ?_
    have hs3 := hs2.alloc (.cells #[.int .i64 0, .int .i64 0, .int .u64 0, .slice none 0 0, .slice none 0 0] 26)
    have hb3 := hb2.alloc hb2.size (.cells #[.int .i64 0, .int .i64 0, .int .u64 0, .slice none 0 0, .slice none 0 0] 26)
    have h3 := Rows8.new W2 26 #[.int .i64 0, .int .i64 0, .int .u64 0, .slice none 0 0, .slice none 0 0]
    have ho3 := owns_keep hox ((Below.refl W2.heap.size W2).alloc (Nat.le_refl _) (.cells #[.int .i64 0, .int .i64 0, .int .u64 0, .slice none 0 0, .slice none 0 0] 26)) (Nat.le_refl _)
    have hn3 := (Rows8.below hNd hBx hNd.lt).alloc (.cells #[.int .i64 0, .int .i64 0, .int .u64 0, .slice none 0 0, .slice none 0 0] 26)
    refine hK.out _ _ (fun _ => HKS.out _ hb3 hs3) ?_
    clear hK K
    try simp only [Act.put, List.setIfInBounds_toArray, List.set_cons_zero, List.set_cons_succ]
    generalize hBo : W2.heap.size = Bo at *
    have hBo2 : w.heap.size + 2 ≤ Bo := by have := hBx.size; omega
    have hWo : Wd.heap.size ≤ Bo := by have := hBx.size; omega
    generalize W2.alloc (.cells #[.int .i64 0, .int .i64 0, .int .u64 0, .slice none 0 0, .slice none 0 0] 26) = W3 at *
    refine wpAnyX_one (i := 16) (o := { dst := none, op := Go.Op.store 26 (Go.Operand.tmp 3) (Go.Operand.tmp 20), type := 0, pos := "law.go:28", after := #[{ on := 15, ground := Go.Ground.data }, { on := 14, ground := Go.Ground.data }, { on := 13, ground := Go.Ground.chain }, { on := 0, ground := Go.Ground.phase }, { on := 1, ground := Go.Ground.phase }, { on := 2, ground := Go.Ground.phase }, { on := 3, ground := Go.Ground.phase }, { on := 4, ground := Go.Ground.phase }, { on := 5, ground := Go.Ground.phase }, { on := 6, ground := Go.Ground.phase }, { on := 7, ground := Go.Ground.phase }, { on := 8, ground := Go.Ground.phase }, { on := 9, ground := Go.Ground.phase }, { on := 10, ground := Go.Ground.phase }, { on := 11, ground := Go.Ground.phase }, { on := 12, ground := Go.Ground.phase }, { on := 13, ground := Go.Ground.phase }, { on := 14, ground := Go.Ground.phase }, { on := 15, ground := Go.Ground.phase }], guard := none }) (by kernel_rfl) rfl (fun K hK => ?_)
    refine step_store_g (by rfl) 26 _ _ rfl ⟨Bo, 0, none⟩ (.agg #[.int .i64 g, .int .i64 b, .int .u64 sd, .slice none 0 0, .slice ax m cx]) (by simp [go_sem]) (by simp [go_sem]) (run_storeVar_row (P := Try.prog) W3 Bo 26 26 _ _ h3 (by kernel_rfl) rfl (by simp [Value.oneCell'])) ?_
    refine hK.out _ _ (fun h => absurd rfl h) ?_
    clear hK K
    try simp only [Act.put, List.setIfInBounds_toArray, List.set_cons_zero, List.set_cons_succ]
    refine wpAnyX_end (by kernel_rfl) ?_
    have o3 : Rows8 (World.setRow W3 Bo #[.int .i64 g, .int .i64 b, .int .u64 sd, .slice none 0 0, .slice ax m cx]) Bo 26 #[.int .i64 g, .int .i64 b, .int .u64 sd, .slice none 0 0, .slice ax m cx] := setRow_heap _ _ _ _ _ _ h3
    have e3 : ∀ j, j ≠ Bo → (World.setRow W3 Bo #[.int .i64 g, .int .i64 b, .int .u64 sd, .slice none 0 0, .slice ax m cx]).heap[j]? = (W3).heap[j]? := fun j hj => setRow_other _ _ _ _ hj
    have z3 : (W3).heap.size = (World.setRow W3 Bo #[.int .i64 g, .int .i64 b, .int .u64 sd, .slice none 0 0, .slice ax m cx]).heap.size := by simp [World.setRow]
    have HF0 : Hid (OwnF w Bo g b sd (lsr ls 0) (.slice none 0 0) (.slice ax m cx) cut (World.setRow W3 Bo #[.int .i64 g, .int .i64 b, .int .u64 sd, .slice none 0 0, .slice ax m cx])) := Lib.hid (OwnF.start hBo2 hb3 h3 (hn3) (owns_mono ho3 (by omega)))
    have c0 : (World.setRow W3 Bo #[.int .i64 g, .int .i64 b, .int .u64 sd, .slice none 0 0, .slice ax m cx]).cell? ⟨w.heap.size, 3, none⟩ = some (.slice al n cl) := (cell_setRow_other _ _ _ _ (by show w.heap.size ≠ Bo; omega)).trans (hs3.cell 3)
    generalize World.setRow W3 Bo #[.int .i64 g, .int .i64 b, .int .u64 sd, .slice none 0 0, .slice ax m cx] = W4 at *
    have hBo3 := Lib.hid hBo2
    have hn63 : n ≤ 9223372036854775807 := by
      obtain ⟨_, ⟨_, _, _, e, h1, h2, _⟩, _⟩ := H1.out
      cases e
      have h3 := HN.out
      unfold maxLen at h2
      omega
    try clear hWo
    try clear o3
    try clear e3
    try clear z3
    try clear h3
    try clear h3a
    try clear hs3
    try clear hb3
    try clear ho3
    try clear hn3
    try clear hna
    try clear hza
    try clear hs2
    try clear hb2
    try clear hox
    try clear hBx
    try clear hba
    try clear hsa
    try clear HKS
    try clear HCL
    try clear hBd
    try clear hSd
    try clear hNd
    try clear hzd
    try clear hBo
    try clear hBo2
    go_wp2_with fail
    go_loopw [24] (fun j wr => ∃ i : Nat, i ≤ n ∧ j = .int .i64 i ∧ ∃ v, Hid (OwnF w Bo g b sd (lsr ls i) v (.slice ax m cx) cut wr)) (fun j _ => n - (intOf j).toNat)
    case atStart => exact ⟨0, Nat.zero_le _, rfl, _, HF0⟩
    case round =>
      obtain ⟨i, hin, rfl, v, HF⟩ := hrel
      by_cases hlt : i < n
      · have hil : i < ls.length := by rw [HN.out]; exact hlt
        obtain ⟨bl, off, d1, c1, rfl, hbl, hc, hcs⟩ := listsAt_get H1.out i hil
        have hc2 : wr.cell? ⟨bl, off + i, none⟩ = some (.slice d1 ls[i].length c1) := (HF.out.bel.cell (p := ⟨bl, off + i, none⟩) hbl).trans hc
        clear hc
        obtain ⟨_, alo, clo, rfl, _⟩ := rowAt_own HF.out.lists.choose_spec.1
        obtain ⟨k, hk⟩ : ∃ k, (lsr ls i).length = k := ⟨_, rfl⟩
        have hk10 : k ≤ 10 := hk ▸ lsr_len ls i
        rw [hk] at HF
        have HKL := Lib.hid hk
        have HK10 := Lib.hid hk10
        have hi24 : (i : Int) < (n : Int) := by omega
        by_cases h10 : i < 10
        · have hi10 : (i : Int) < 10 := by omega
          have hsn := lsr_snoc hil h10
          obtain ⟨ll, hll⟩ : ∃ ll, ls[i].length = ll := ⟨_, rfl⟩
          obtain ⟨m2, hm2⟩ : ∃ m2, m2 = min ll 66 := ⟨_, rfl⟩
          rw [hll] at hc2 hcs
          have HM2 : Hid (m2 = (ls[i].take 66).length) := Lib.hid (by rw [List.length_take, hll, hm2]; exact Nat.min_comm _ _)
          have hcap : ll ≤ c1 := by
            obtain ⟨_, _, _, e, h1, _⟩ := hcs
            cases e
            exact h1
          have HCC : Hid (∀ W : World, Below w.heap.size w W → Calls Try.prog 36 #[.slice d1 m2 c1] W fun e w' => ∃ av cv, e = .returned (.slice av m2 cv) ∧ OwnsCalls w.heap.size (ls[i].take 66) (.slice av m2 cv) w' ∧ Below W.heap.size W w') := Lib.hid fun W hb => by
            have hcut : CallsAt w (.slice d1 m2 c1) (ls[i].take 66) := by
              have h0 := calls_cut hll.symm hcs m2 (by omega)
              have e1 : ls[i].take m2 = ls[i].take 66 := by
                by_cases h : ll ≤ 66
                · rw [hm2, Nat.min_eq_left h, List.take_of_length_le (by omega), List.take_of_length_le (by omega)]
                · rw [hm2, Nat.min_eq_right (by omega)]
              rw [e1] at h0
              exact h0
            refine (Try.cloneCalls_any d1 m2 c1 (ls[i].take 66) HM2.out (by omega) W (RowAt.below hcut hb)).mono ?_
            rintro e w' ⟨u, he, ho, hb2⟩
            have ho2 := ho
            obtain ⟨_, av, cv, rfl, _⟩ := rowAt_own ho
            rw [← HM2.out] at he ho2
            exact ⟨av, cv, he, owns_mono ho2 hb.size, hb2⟩
          have g5 : min (ll : Int) 66 = (m2 : Int) := by omega
          have g6 : (if (66 : Int) < (ll : Int) then (66 : Int) else (ll : Int)) = (m2 : Int) := by split <;> omega
          have g7 : (if (ll : Int) < 66 then (ll : Int) else (66 : Int)) = (m2 : Int) := by split <;> omega
          have g8 : (m2 : Int) ≤ (c1 : Int) := by omega
          have g9 : (0 : Int) ≤ (m2 : Int) := by omega
          have HSN := Lib.hid hsn
          clear hsn hcs hm2 hll hcap hk hk10 c0 hbl
          generalize ls[i].take 66 = l at *
          have c3 : wr.cell? ⟨Bo, 3, none⟩ = some (.slice alo k clo) := HF.out.box.cell 3
          go_wp2_with fail
          --S1
          refine wp_region_X (fun W' => W'.cell? ⟨Bo, 3, none⟩ = some (.slice alo k clo)) 11 (by kernel_rfl) ?_
          have hFd := HF.out.drew
          clear c3
          have c3 : wr.drew.cell? ⟨Bo, 3, none⟩ = some (.slice alo k clo) := hFd.box.cell 3
          have HFD := Lib.hid hFd
          clear hFd
          generalize wr.drew = Wd at *
          refine wpAnyX_take (i := 0) (oi := { dst := some 31, op := Go.Op.fieldAddr 26 (Go.Operand.tmp 3) 3, type := 0, pos := "law.go:31", after := #[], guard := none }) (oX := { dst := none, op := Go.Op.store 23 (Go.Operand.tmp 41) (Go.Operand.tmp 40), type := 0, pos := "law.go:31", after := #[{ on := 10, ground := Go.Ground.data }, { on := 9, ground := Go.Ground.data }, { on := 9, ground := Go.Ground.chain }, { on := 0, ground := Go.Ground.phase }, { on := 1, ground := Go.Ground.phase }, { on := 2, ground := Go.Ground.phase }, { on := 3, ground := Go.Ground.phase }, { on := 4, ground := Go.Ground.phase }, { on := 5, ground := Go.Ground.phase }, { on := 6, ground := Go.Ground.phase }, { on := 7, ground := Go.Ground.phase }, { on := 8, ground := Go.Ground.phase }, { on := 9, ground := Go.Ground.phase }], guard := none }) (v := .pointer (some ⟨Bo, 3, none⟩)) rfl rfl (by kernel_rfl) (by kernel_rfl) (by kernel_rfl) (by kernel_rfl) (fun _ _ _ h => h) (Or.inl ⟨by rfl, ?_⟩) c3 ?_
          · intro W9 hS9
            go_simp
          try simp only [Act.put, List.setIfInBounds_toArray, List.set_cons_zero, List.set_cons_succ]
          refine wpAnyX_take (i := 1) (oi := { dst := some 32, op := Go.Op.load 23 (Go.Operand.tmp 31), type := 23, pos := "law.go:31", after := #[{ on := 0, ground := Go.Ground.data }], guard := none }) (oX := { dst := none, op := Go.Op.store 23 (Go.Operand.tmp 41) (Go.Operand.tmp 40), type := 0, pos := "law.go:31", after := #[{ on := 10, ground := Go.Ground.data }, { on := 9, ground := Go.Ground.data }, { on := 9, ground := Go.Ground.chain }, { on := 0, ground := Go.Ground.phase }, { on := 1, ground := Go.Ground.phase }, { on := 2, ground := Go.Ground.phase }, { on := 3, ground := Go.Ground.phase }, { on := 4, ground := Go.Ground.phase }, { on := 5, ground := Go.Ground.phase }, { on := 6, ground := Go.Ground.phase }, { on := 7, ground := Go.Ground.phase }, { on := 8, ground := Go.Ground.phase }, { on := 9, ground := Go.Ground.phase }], guard := none }) (v := .slice alo k clo) rfl rfl (by kernel_rfl) (by kernel_rfl) (by kernel_rfl) (by kernel_rfl) (fun _ _ _ h => h) (Or.inl ⟨by rfl, ?_⟩) c3 ?_
          · intro W9 hS9
            go_simp
          try simp only [Act.put, List.setIfInBounds_toArray, List.set_cons_zero, List.set_cons_succ]
          refine wpAnyX_take (i := 2) (oi := { dst := some 33, op := Go.Op.move (Go.Operand.tmp 5), type := 53, pos := "law.go:31", after := #[], guard := none }) (oX := { dst := none, op := Go.Op.store 23 (Go.Operand.tmp 41) (Go.Operand.tmp 40), type := 0, pos := "law.go:31", after := #[{ on := 10, ground := Go.Ground.data }, { on := 9, ground := Go.Ground.data }, { on := 9, ground := Go.Ground.chain }, { on := 0, ground := Go.Ground.phase }, { on := 1, ground := Go.Ground.phase }, { on := 2, ground := Go.Ground.phase }, { on := 3, ground := Go.Ground.phase }, { on := 4, ground := Go.Ground.phase }, { on := 5, ground := Go.Ground.phase }, { on := 6, ground := Go.Ground.phase }, { on := 7, ground := Go.Ground.phase }, { on := 8, ground := Go.Ground.phase }, { on := 9, ground := Go.Ground.phase }], guard := none }) (v := .slice d1 ll c1) rfl rfl (by kernel_rfl) (by kernel_rfl) (by kernel_rfl) (by kernel_rfl) (fun _ _ _ h => h) (Or.inl ⟨by rfl, ?_⟩) c3 ?_
          · intro W9 hS9
            go_simp
          try simp only [Act.put, List.setIfInBounds_toArray, List.set_cons_zero, List.set_cons_succ]
          refine wpAnyX_take (i := 3) (oi := { dst := some 34, op := Go.Op.move (Go.Operand.tmp 5), type := 53, pos := "law.go:31", after := #[], guard := none }) (oX := { dst := none, op := Go.Op.store 23 (Go.Operand.tmp 41) (Go.Operand.tmp 40), type := 0, pos := "law.go:31", after := #[{ on := 10, ground := Go.Ground.data }, { on := 9, ground := Go.Ground.data }, { on := 9, ground := Go.Ground.chain }, { on := 0, ground := Go.Ground.phase }, { on := 1, ground := Go.Ground.phase }, { on := 2, ground := Go.Ground.phase }, { on := 3, ground := Go.Ground.phase }, { on := 4, ground := Go.Ground.phase }, { on := 5, ground := Go.Ground.phase }, { on := 6, ground := Go.Ground.phase }, { on := 7, ground := Go.Ground.phase }, { on := 8, ground := Go.Ground.phase }, { on := 9, ground := Go.Ground.phase }], guard := none }) (v := .slice d1 ll c1) rfl rfl (by kernel_rfl) (by kernel_rfl) (by kernel_rfl) (by kernel_rfl) (fun _ _ _ h => h) (Or.inl ⟨by rfl, ?_⟩) c3 ?_
          · intro W9 hS9
            go_simp
          try simp only [Act.put, List.setIfInBounds_toArray, List.set_cons_zero, List.set_cons_succ]
          refine wpAnyX_take (i := 4) (oi := { dst := some 35, op := Go.Op.call { callee := Go.Callee.builtin Go.Builtin.len, args := #[Go.Operand.tmp 34], argTypes := #[53] }, type := 3, pos := "law.go:31", after := #[{ on := 3, ground := Go.Ground.data }], guard := none }) (oX := { dst := none, op := Go.Op.store 23 (Go.Operand.tmp 41) (Go.Operand.tmp 40), type := 0, pos := "law.go:31", after := #[{ on := 10, ground := Go.Ground.data }, { on := 9, ground := Go.Ground.data }, { on := 9, ground := Go.Ground.chain }, { on := 0, ground := Go.Ground.phase }, { on := 1, ground := Go.Ground.phase }, { on := 2, ground := Go.Ground.phase }, { on := 3, ground := Go.Ground.phase }, { on := 4, ground := Go.Ground.phase }, { on := 5, ground := Go.Ground.phase }, { on := 6, ground := Go.Ground.phase }, { on := 7, ground := Go.Ground.phase }, { on := 8, ground := Go.Ground.phase }, { on := 9, ground := Go.Ground.phase }], guard := none }) (v := .int .i64 (ll : Nat)) rfl rfl (by kernel_rfl) (by kernel_rfl) (by kernel_rfl) (by kernel_rfl) (fun _ _ _ h => h) (Or.inl ⟨by rfl, ?_⟩) c3 ?_
          · intro W9 hS9
            go_simp
          try simp only [Act.put, List.setIfInBounds_toArray, List.set_cons_zero, List.set_cons_succ]
          refine wpAnyX_take (i := 5) (oi := { dst := some 36, op := Go.Op.call { callee := Go.Callee.builtin Go.Builtin.min, args := #[Go.Operand.tmp 35, Go.Operand.const (Go.Value.int Go.IntKind.i64 66)], argTypes := #[3, 3] }, type := 3, pos := "law.go:31", after := #[{ on := 4, ground := Go.Ground.data }], guard := none }) (oX := { dst := none, op := Go.Op.store 23 (Go.Operand.tmp 41) (Go.Operand.tmp 40), type := 0, pos := "law.go:31", after := #[{ on := 10, ground := Go.Ground.data }, { on := 9, ground := Go.Ground.data }, { on := 9, ground := Go.Ground.chain }, { on := 0, ground := Go.Ground.phase }, { on := 1, ground := Go.Ground.phase }, { on := 2, ground := Go.Ground.phase }, { on := 3, ground := Go.Ground.phase }, { on := 4, ground := Go.Ground.phase }, { on := 5, ground := Go.Ground.phase }, { on := 6, ground := Go.Ground.phase }, { on := 7, ground := Go.Ground.phase }, { on := 8, ground := Go.Ground.phase }, { on := 9, ground := Go.Ground.phase }], guard := none }) (v := .int .i64 (m2 : Nat)) rfl rfl (by kernel_rfl) (by kernel_rfl) (by kernel_rfl) (by kernel_rfl) (fun _ _ _ h => h) (Or.inl ⟨by rfl, ?_⟩) c3 ?_
          · intro W9 hS9
            go_simp
          try simp only [Act.put, List.setIfInBounds_toArray, List.set_cons_zero, List.set_cons_succ]
          refine wpAnyX_take (i := 6) (oi := { dst := some 37, op := Go.Op.slice 53 (Go.Operand.tmp 33) none (some (Go.Operand.tmp 36)) none, type := 53, pos := "law.go:31", after := #[{ on := 2, ground := Go.Ground.data }, { on := 5, ground := Go.Ground.data }], guard := none }) (oX := { dst := none, op := Go.Op.store 23 (Go.Operand.tmp 41) (Go.Operand.tmp 40), type := 0, pos := "law.go:31", after := #[{ on := 10, ground := Go.Ground.data }, { on := 9, ground := Go.Ground.data }, { on := 9, ground := Go.Ground.chain }, { on := 0, ground := Go.Ground.phase }, { on := 1, ground := Go.Ground.phase }, { on := 2, ground := Go.Ground.phase }, { on := 3, ground := Go.Ground.phase }, { on := 4, ground := Go.Ground.phase }, { on := 5, ground := Go.Ground.phase }, { on := 6, ground := Go.Ground.phase }, { on := 7, ground := Go.Ground.phase }, { on := 8, ground := Go.Ground.phase }, { on := 9, ground := Go.Ground.phase }], guard := none }) (v := .slice d1 m2 c1) rfl rfl (by kernel_rfl) (by kernel_rfl) (by kernel_rfl) (by kernel_rfl) (fun _ _ _ h => h) (Or.inl ⟨by rfl, ?_⟩) c3 ?_
          · intro W9 hS9
            go_simp
          try simp only [Act.put, List.setIfInBounds_toArray, List.set_cons_zero, List.set_cons_succ]
          --S2
          refine wpAnyX_one (i := 7) (o := { dst := some 38, op := Go.Op.call { callee := Go.Callee.value (Go.Operand.func 36), args := #[Go.Operand.tmp 37], argTypes := #[53] }, type := 53, pos := "law.go:31", after := #[{ on := 6, ground := Go.Ground.data }], guard := none }) (by kernel_rfl) rfl (fun K hK => ?_)
          refine step_call_g (by rfl) 36 _ _ rfl (fun _ _ => by kernel_rfl) #[.slice d1 m2 c1] (by simp [go_sem]) _ (HCC.out Wd HFD.out.bel) ?_
          rintro e W2 ⟨av, cv, rfl, hov, hBv⟩
          refine ⟨_, rfl, ?_⟩
          have hF2 := HFD.out.keep hBv
          have c3' : W2.cell? ⟨Bo, 3, none⟩ = some (.slice alo k clo) := hF2.box.cell 3
          refine hK.out _ _ (fun _ => c3') ?_
          clear hK K
          try simp only [Act.put, List.setIfInBounds_toArray, List.set_cons_zero, List.set_cons_succ]
          --S3
          refine wpAnyX_one (i := 8) (o := { dst := some 39, op := Go.Op.buildSlice 23 1 #[(0, Go.Operand.tmp 38)], type := 23, pos := "law.go:31", after := #[{ on := 7, ground := Go.Ground.data }], guard := none }) (by kernel_rfl) rfl (fun K hK => ?_)
          refine step_value_g (by rfl) (.slice (some ⟨W2.heap.size, 0, none⟩) 1 1) (w' := W2.alloc (.cells #[.slice av m2 cv] 53)) (by go_simp) ?_
          have hF3 := hF2.keep ((Below.refl W2.heap.size W2).alloc (Nat.le_refl _) (.cells #[.slice av m2 cv] 53))
          have hov3 := owns_keep hov ((Below.refl W2.heap.size W2).alloc (Nat.le_refl _) (.cells #[.slice av m2 cv] 53)) (Nat.le_refl _)
          have c3'' : (W2.alloc (.cells #[.slice av m2 cv] 53)).cell? ⟨Bo, 3, none⟩ = some (.slice alo k clo) := hF3.box.cell 3
          have hnr := rowAt_own (own1 (n₀ := 0) (Rows8.new W2 53 #[.slice av m2 cv]) (Nat.zero_le _) rfl)
          have hwsz : Wd.heap.size ≤ W2.heap.size := hBv.size
          refine hK.out _ _ (fun _ => c3'') ?_
          clear hK K
          try simp only [Act.put, List.setIfInBounds_toArray, List.set_cons_zero, List.set_cons_succ]
          have HF3 := Lib.hid hF3
          have HOV := Lib.hid hov3
          have HNR := Lib.hid hnr
          clear c3 c3' hF2 hF3 hov hov3 hnr
          have hz3 : (W2.alloc (.cells #[.slice av m2 cv] 53)).heap.size = W2.heap.size + 1 := by simp
          generalize W2.alloc (.cells #[.slice av m2 cv] 53) = W3 at *
          obtain ⟨vs, hro, hri⟩ := HF3.out.lists
          have hro' := hro
          rw [HKL.out] at hro'
          have hk10 := HK10.out
          have hwz := HF3.out.bel.size
          --S4
          refine wpAnyX_one (i := 9) (o := { dst := some 40, op := Go.Op.call { callee := Go.Callee.builtin Go.Builtin.append, args := #[Go.Operand.tmp 32, Go.Operand.tmp 39], argTypes := #[23, 23] }, type := 23, pos := "law.go:31", after := #[{ on := 1, ground := Go.Ground.data }, { on := 8, ground := Go.Ground.data }, { on := 7, ground := Go.Ground.chain }], guard := none }) (by kernel_rfl) rfl (fun K hK => ?_)
          refine step_append_row W3 rfl _ _ 23 rfl w.heap.size 53 i0 (.slice none 0 0) 1 24 Try.underlying23 hi hz0 hz1 hz2 rfl (by decide) (.slice alo k clo) k vs (by simp [go_sem]) hro' _ 1 [.slice av m2 cv] (by simp [go_sem]) HNR.out (by simp [Value.oneCell']) (by unfold maxLen; omega) (by omega) hwz ?_
          intro v5 W5 ho5 hg5 hv5
          obtain ⟨_, a5, c5, rfl, _⟩ := rowAt_own ho5
          rw [← HKL.out] at ho5
          have hF5 := HF3.out.grown hro hri HM2.out HOV.out ho5 hg5
          rw [HKL.out] at hF5
          have c5' : W5.cell? ⟨Bo, 3, none⟩ = some (.slice alo k clo) := hF5.1.cell 3
          refine hK.out _ _ (fun _ => c5') ?_
          clear hK K
          try simp only [Act.put, List.setIfInBounds_toArray, List.set_cons_zero, List.set_cons_succ]
          refine wpAnyX_one (i := 10) (o := { dst := some 41, op := Go.Op.fieldAddr 26 (Go.Operand.tmp 3) 3, type := 0, pos := "law.go:31", after := #[{ on := 0, ground := Go.Ground.phase }, { on := 1, ground := Go.Ground.phase }, { on := 2, ground := Go.Ground.phase }, { on := 3, ground := Go.Ground.phase }, { on := 4, ground := Go.Ground.phase }, { on := 5, ground := Go.Ground.phase }, { on := 6, ground := Go.Ground.phase }, { on := 7, ground := Go.Ground.phase }, { on := 8, ground := Go.Ground.phase }, { on := 9, ground := Go.Ground.phase }], guard := none }) (by kernel_rfl) rfl (fun K hK => ?_)
          refine step_value_g (by rfl) (.pointer (some ⟨Bo, 3, none⟩)) (w' := W5) (by go_simp) ?_
          refine hK.out _ _ (fun _ => c5') ?_
          clear hK K
          try simp only [Act.put, List.setIfInBounds_toArray, List.set_cons_zero, List.set_cons_succ]
          --S5
          refine wpAnyX_one (i := 11) (o := { dst := none, op := Go.Op.store 23 (Go.Operand.tmp 41) (Go.Operand.tmp 40), type := 0, pos := "law.go:31", after := #[{ on := 10, ground := Go.Ground.data }, { on := 9, ground := Go.Ground.data }, { on := 9, ground := Go.Ground.chain }, { on := 0, ground := Go.Ground.phase }, { on := 1, ground := Go.Ground.phase }, { on := 2, ground := Go.Ground.phase }, { on := 3, ground := Go.Ground.phase }, { on := 4, ground := Go.Ground.phase }, { on := 5, ground := Go.Ground.phase }, { on := 6, ground := Go.Ground.phase }, { on := 7, ground := Go.Ground.phase }, { on := 8, ground := Go.Ground.phase }, { on := 9, ground := Go.Ground.phase }], guard := none }) (by kernel_rfl) rfl (fun K hK => ?_)
          have f5 : W5.frozen? ⟨Bo, 3, none⟩ = false := hF5.1.frozen 3
          refine step_skip_g (by rfl) (w' := W5.setCell ⟨Bo, 3, none⟩ (.slice a5 (k + 1) c5)) (by go_simp) ?_
          refine hK.out _ _ (fun h => absurd rfl h) ?_
          clear hK K
          try simp only [Act.put, List.setIfInBounds_toArray, List.set_cons_zero, List.set_cons_succ]
          refine wpAnyX_end (by kernel_rfl) ?_
          have HF5 := Lib.hid hF5.2
          clear hF5 ho5 hg5 hv5 f5 c5' hro hro' hri hwz hk10
          --S6
          go_wp2_with fail
          exact ⟨⟨i + 1, by omega, by go_num, _, by rw [HSN.out]; exact HF5⟩, by simp [intOf]; omega⟩
        --S7
        · have hi10 : ¬ (i : Int) < 10 := by omega
          have hsn := lsr_same (ls := ls) h10
          have HSN := Lib.hid hsn
          clear hsn hcs hk hk10 c0 hbl
          go_wp2_with fail
          exact ⟨⟨i + 1, by omega, by go_num, _, by rw [HSN.out]; exact HF⟩, by simp [intOf]; omega⟩
      --S8
      · obtain rfl : i = n := by omega
        obtain ⟨_, alo, clo, rfl, _⟩ := rowAt_own HF.out.lists.choose_spec.1
        have hll : lsr ls i = lss := by rw [← HN.out]; exact (lsr_all ls).trans HLS.out.symm
        rw [hll] at HF
        clear hll
        obtain ⟨d0, d1, d2, d3, d4⟩ : wr.cell? ⟨Bo, 0, none⟩ = some (.int .i64 g) ∧ wr.cell? ⟨Bo, 1, none⟩ = some (.int .i64 b) ∧ wr.cell? ⟨Bo, 2, none⟩ = some (.int .u64 sd) ∧ wr.cell? ⟨Bo, 3, none⟩ = some (.slice alo lss.length clo) ∧ wr.cell? ⟨Bo, 4, none⟩ = some (.slice ax m cx) := ⟨HF.out.box.cell 0, HF.out.box.cell 1, HF.out.box.cell 2, HF.out.box.cell 3, HF.out.box.cell 4⟩
        obtain ⟨e0, e1, e2, e3, e4⟩ : wr.cell? ⟨w.heap.size + 1, 0, none⟩ = some (.int .i64 0) ∧ wr.cell? ⟨w.heap.size + 1, 1, none⟩ = some (.int .i64 0) ∧ wr.cell? ⟨w.heap.size + 1, 2, none⟩ = some (.int .u64 0) ∧ wr.cell? ⟨w.heap.size + 1, 3, none⟩ = some (.slice none 0 0) ∧ wr.cell? ⟨w.heap.size + 1, 4, none⟩ = some (.slice none 0 0) := ⟨HF.out.named.cell 0, HF.out.named.cell 1, HF.out.named.cell 2, HF.out.named.cell 3, HF.out.named.cell 4⟩
        obtain ⟨f0, f1, f2, f3, f4⟩ : wr.frozen? ⟨w.heap.size + 1, 0, none⟩ = false ∧ wr.frozen? ⟨w.heap.size + 1, 1, none⟩ = false ∧ wr.frozen? ⟨w.heap.size + 1, 2, none⟩ = false ∧ wr.frozen? ⟨w.heap.size + 1, 3, none⟩ = false ∧ wr.frozen? ⟨w.heap.size + 1, 4, none⟩ = false := ⟨HF.out.named.frozen 0, HF.out.named.frozen 1, HF.out.named.frozen 2, HF.out.named.frozen 3, HF.out.named.frozen 4⟩
        clear c0
        --S9
        go_wp2_with fail
        --SA
        obtain ⟨q1, q2, q3, q4⟩ := HF.out.back rfl
        refine bodyPost_ret (results_c rfl _ _ (w.heap.size + 1) 26 _ (0, 0) _ rfl q1 Try.underlying26 rfl (by kernel_rfl)) rfl ?_
        have hHN := HCL2.out
        refine ⟨_, rfl, ⟨alo, clo, ax, cx, by rw [← hHN], q2, by rw [← hHN]; exact q3⟩, q4⟩
  · refine step_value_g (by rfl) (.pointer (some ⟨Wd.heap.size, 0, none⟩)) (w' := Wd.alloc (.cells #[.int .i64 0, .int .i64 0, .int .u64 0, .slice none 0 0, .slice none 0 0] 26)) (by go_simp) ?_
    have hsa := hSd.alloc (.cells #[.int .i64 0, .int .i64 0, .int .u64 0, .slice none 0 0, .slice none 0 0] 26)
    have hba := hBd.alloc hBd.size (.cells #[.int .i64 0, .int .i64 0, .int .u64 0, .slice none 0 0, .slice none 0 0] 26)
    have h3a := Rows8.new Wd 26 #[.int .i64 0, .int .i64 0, .int .u64 0, .slice none 0 0, .slice none 0 0]
    have hza : (Wd.alloc (.cells #[.int .i64 0, .int .i64 0, .int .u64 0, .slice none 0 0, .slice none 0 0] 26)).heap.size = Wd.heap.size + 1 := by simp
    have hna := hNd.alloc (.cells #[.int .i64 0, .int .i64 0, .int .u64 0, .slice none 0 0, .slice none 0 0] 26)
    refine hK.out _ _ (fun _ => HKS.out _ hba hsa) ?_
    clear hK K
    try simp only [Act.put, List.setIfInBounds_toArray, List.set_cons_zero, List.set_cons_succ]
    generalize Wd.alloc (.cells #[.int .i64 0, .int .i64 0, .int .u64 0, .slice none 0 0, .slice none 0 0] 26) = Wa at *
    refine wpAnyX_one (i := 13) (o := { dst := some 19, op := Go.Op.call { callee := Go.Callee.value (Go.Operand.func 35), args := #[Go.Operand.tmp 18], argTypes := #[24] }, type := 24, pos := "law.go:28", after := #[{ on := 12, ground := Go.Ground.data }], guard := none }) (by kernel_rfl) rfl (fun K hK => ?_)
    refine step_call_g (by rfl) 35 _ _ rfl (fun _ _ => by kernel_rfl) #[.slice ap m cp] (by simp [go_sem]) _ (HCL.out Wa hba) ?_
    rintro e W2 ⟨ax, cx, rfl, hox, hBx⟩
    refine ⟨_, rfl, ?_⟩
    have hb2 := hba.trans (hBx.mono hba.size)
    have hs2 := Rows8.below hsa hBx hsa.lt
    refine hK.out _ _ (fun _ => HKS.out W2 hb2 hs2) ?_
    clear hK K
    try simp only [Act.put, List.setIfInBounds_toArray, List.set_cons_zero, List.set_cons_succ]
    refine wpAnyX_take (i := 14) (oi := { dst := some 20, op := Go.Op.build 26 #[(0, Go.Operand.tmp 7), (1, Go.Operand.tmp 9), (2, Go.Operand.tmp 11), (4, Go.Operand.tmp 19)], type := 26, pos := "law.go:28", after := #[{ on := 1, ground := Go.Ground.data }, { on := 3, ground := Go.Ground.data }, { on := 5, ground := Go.Ground.data }, { on := 13, ground := Go.Ground.data }], guard := none }) (oX := { dst := none, op := Go.Op.store 26 (Go.Operand.tmp 3) (Go.Operand.tmp 20), type := 0, pos := "law.go:28", after := #[{ on := 15, ground := Go.Ground.data }, { on := 14, ground := Go.Ground.data }, { on := 13, ground := Go.Ground.chain }, { on := 0, ground := Go.Ground.phase }, { on := 1, ground := Go.Ground.phase }, { on := 2, ground := Go.Ground.phase }, { on := 3, ground := Go.Ground.phase }, { on := 4, ground := Go.Ground.phase }, { on := 5, ground := Go.Ground.phase }, { on := 6, ground := Go.Ground.phase }, { on := 7, ground := Go.Ground.phase }, { on := 8, ground := Go.Ground.phase }, { on := 9, ground := Go.Ground.phase }, { on := 10, ground := Go.Ground.phase }, { on := 11, ground := Go.Ground.phase }, { on := 12, ground := Go.Ground.phase }, { on := 13, ground := Go.Ground.phase }, { on := 14, ground := Go.Ground.phase }, { on := 15, ground := Go.Ground.phase }], guard := none }) (v := .agg #[.int .i64 g, .int .i64 b, .int .u64 sd, .slice none 0 0, .slice ax m cx]) rfl rfl (by kernel_rfl) (by kernel_rfl) (by kernel_rfl) (by kernel_rfl) (fun _ _ _ h => h) (Or.inl ⟨by rfl, ?_⟩) (HKS.out W2 hb2 hs2) ?_
    · intro W9 hS9
      obtain ⟨q0, q1, q2, q3⟩ := hS9
      go_simp
    try simp only [Act.put, List.setIfInBounds_toArray, List.set_cons_zero, List.set_cons_succ]
    have h3 := Rows8.below h3a hBx h3a.lt
    have hs3 := hs2
    have hb3 := hb2
    have hn3 := Rows8.below hna hBx hna.lt
    have ho3 := owns_mono hox (show Wd.heap.size ≤ Wa.heap.size by omega)
    generalize hBo : Wd.heap.size = Bo at *
    have hBo2 : w.heap.size + 2 ≤ Bo := by omega
    have hWo : Bo ≤ Bo := Nat.le_refl _
    clear hba hsa
    refine wpAnyX_one (i := 16) (o := { dst := none, op := Go.Op.store 26 (Go.Operand.tmp 3) (Go.Operand.tmp 20), type := 0, pos := "law.go:28", after := #[{ on := 15, ground := Go.Ground.data }, { on := 14, ground := Go.Ground.data }, { on := 13, ground := Go.Ground.chain }, { on := 0, ground := Go.Ground.phase }, { on := 1, ground := Go.Ground.phase }, { on := 2, ground := Go.Ground.phase }, { on := 3, ground := Go.Ground.phase }, { on := 4, ground := Go.Ground.phase }, { on := 5, ground := Go.Ground.phase }, { on := 6, ground := Go.Ground.phase }, { on := 7, ground := Go.Ground.phase }, { on := 8, ground := Go.Ground.phase }, { on := 9, ground := Go.Ground.phase }, { on := 10, ground := Go.Ground.phase }, { on := 11, ground := Go.Ground.phase }, { on := 12, ground := Go.Ground.phase }, { on := 13, ground := Go.Ground.phase }, { on := 14, ground := Go.Ground.phase }, { on := 15, ground := Go.Ground.phase }], guard := none }) (by kernel_rfl) rfl (fun K hK => ?_)
    refine step_store_g (by rfl) 26 _ _ rfl ⟨Bo, 0, none⟩ (.agg #[.int .i64 g, .int .i64 b, .int .u64 sd, .slice none 0 0, .slice ax m cx]) (by simp [go_sem]) (by simp [go_sem]) (run_storeVar_row (P := Try.prog) W2 Bo 26 26 _ _ h3 (by kernel_rfl) rfl (by simp [Value.oneCell'])) ?_
    refine hK.out _ _ (fun h => absurd rfl h) ?_
    clear hK K
    try simp only [Act.put, List.setIfInBounds_toArray, List.set_cons_zero, List.set_cons_succ]
    refine wpAnyX_end (by kernel_rfl) ?_
    have o3 : Rows8 (World.setRow W2 Bo #[.int .i64 g, .int .i64 b, .int .u64 sd, .slice none 0 0, .slice ax m cx]) Bo 26 #[.int .i64 g, .int .i64 b, .int .u64 sd, .slice none 0 0, .slice ax m cx] := setRow_heap _ _ _ _ _ _ h3
    have e3 : ∀ j, j ≠ Bo → (World.setRow W2 Bo #[.int .i64 g, .int .i64 b, .int .u64 sd, .slice none 0 0, .slice ax m cx]).heap[j]? = (W2).heap[j]? := fun j hj => setRow_other _ _ _ _ hj
    have z3 : (W2).heap.size = (World.setRow W2 Bo #[.int .i64 g, .int .i64 b, .int .u64 sd, .slice none 0 0, .slice ax m cx]).heap.size := by simp [World.setRow]
    obtain ⟨W3, rfl⟩ : ∃ x, x = W2 := ⟨_, rfl⟩
    have HF0 : Hid (OwnF w Bo g b sd (lsr ls 0) (.slice none 0 0) (.slice ax m cx) cut (World.setRow W3 Bo #[.int .i64 g, .int .i64 b, .int .u64 sd, .slice none 0 0, .slice ax m cx])) := Lib.hid (OwnF.start hBo2 hb3 h3 (hn3) (owns_mono ho3 (by omega)))
    have c0 : (World.setRow W3 Bo #[.int .i64 g, .int .i64 b, .int .u64 sd, .slice none 0 0, .slice ax m cx]).cell? ⟨w.heap.size, 3, none⟩ = some (.slice al n cl) := (cell_setRow_other _ _ _ _ (by show w.heap.size ≠ Bo; omega)).trans (hs3.cell 3)
    generalize World.setRow W3 Bo #[.int .i64 g, .int .i64 b, .int .u64 sd, .slice none 0 0, .slice ax m cx] = W4 at *
    have hBo3 := Lib.hid hBo2
    have hn63 : n ≤ 9223372036854775807 := by
      obtain ⟨_, ⟨_, _, _, e, h1, h2, _⟩, _⟩ := H1.out
      cases e
      have h3 := HN.out
      unfold maxLen at h2
      omega
    try clear hWo
    try clear o3
    try clear e3
    try clear z3
    try clear h3
    try clear h3a
    try clear hs3
    try clear hb3
    try clear ho3
    try clear hn3
    try clear hna
    try clear hza
    try clear hs2
    try clear hb2
    try clear hox
    try clear hBx
    try clear hba
    try clear hsa
    try clear HKS
    try clear HCL
    try clear hBd
    try clear hSd
    try clear hNd
    try clear hzd
    try clear hBo
    try clear hBo2
    go_wp2_with fail
    go_loopw [24] (fun j wr => ∃ i : Nat, i ≤ n ∧ j = .int .i64 i ∧ ∃ v, Hid (OwnF w Bo g b sd (lsr ls i) v (.slice ax m cx) cut wr)) (fun j _ => n - (intOf j).toNat)
    case atStart => exact ⟨0, Nat.zero_le _, rfl, _, HF0⟩
    case round =>
      obtain ⟨i, hin, rfl, v, HF⟩ := hrel
      by_cases hlt : i < n
      · have hil : i < ls.length := by rw [HN.out]; exact hlt
        obtain ⟨bl, off, d1, c1, rfl, hbl, hc, hcs⟩ := listsAt_get H1.out i hil
        have hc2 : wr.cell? ⟨bl, off + i, none⟩ = some (.slice d1 ls[i].length c1) := (HF.out.bel.cell (p := ⟨bl, off + i, none⟩) hbl).trans hc
        clear hc
        obtain ⟨_, alo, clo, rfl, _⟩ := rowAt_own HF.out.lists.choose_spec.1
        obtain ⟨k, hk⟩ : ∃ k, (lsr ls i).length = k := ⟨_, rfl⟩
        have hk10 : k ≤ 10 := hk ▸ lsr_len ls i
        rw [hk] at HF
        have HKL := Lib.hid hk
        have HK10 := Lib.hid hk10
        have hi24 : (i : Int) < (n : Int) := by omega
        by_cases h10 : i < 10
        · have hi10 : (i : Int) < 10 := by omega
          have hsn := lsr_snoc hil h10
          obtain ⟨ll, hll⟩ : ∃ ll, ls[i].length = ll := ⟨_, rfl⟩
          obtain ⟨m2, hm2⟩ : ∃ m2, m2 = min ll 66 := ⟨_, rfl⟩
          rw [hll] at hc2 hcs
          have HM2 : Hid (m2 = (ls[i].take 66).length) := Lib.hid (by rw [List.length_take, hll, hm2]; exact Nat.min_comm _ _)
          have hcap : ll ≤ c1 := by
            obtain ⟨_, _, _, e, h1, _⟩ := hcs
            cases e
            exact h1
          have HCC : Hid (∀ W : World, Below w.heap.size w W → Calls Try.prog 36 #[.slice d1 m2 c1] W fun e w' => ∃ av cv, e = .returned (.slice av m2 cv) ∧ OwnsCalls w.heap.size (ls[i].take 66) (.slice av m2 cv) w' ∧ Below W.heap.size W w') := Lib.hid fun W hb => by
            have hcut : CallsAt w (.slice d1 m2 c1) (ls[i].take 66) := by
              have h0 := calls_cut hll.symm hcs m2 (by omega)
              have e1 : ls[i].take m2 = ls[i].take 66 := by
                by_cases h : ll ≤ 66
                · rw [hm2, Nat.min_eq_left h, List.take_of_length_le (by omega), List.take_of_length_le (by omega)]
                · rw [hm2, Nat.min_eq_right (by omega)]
              rw [e1] at h0
              exact h0
            refine (Try.cloneCalls_any d1 m2 c1 (ls[i].take 66) HM2.out (by omega) W (RowAt.below hcut hb)).mono ?_
            rintro e w' ⟨u, he, ho, hb2⟩
            have ho2 := ho
            obtain ⟨_, av, cv, rfl, _⟩ := rowAt_own ho
            rw [← HM2.out] at he ho2
            exact ⟨av, cv, he, owns_mono ho2 hb.size, hb2⟩
          have g5 : min (ll : Int) 66 = (m2 : Int) := by omega
          have g6 : (if (66 : Int) < (ll : Int) then (66 : Int) else (ll : Int)) = (m2 : Int) := by split <;> omega
          have g7 : (if (ll : Int) < 66 then (ll : Int) else (66 : Int)) = (m2 : Int) := by split <;> omega
          have g8 : (m2 : Int) ≤ (c1 : Int) := by omega
          have g9 : (0 : Int) ≤ (m2 : Int) := by omega
          have HSN := Lib.hid hsn
          clear hsn hcs hm2 hll hcap hk hk10 c0 hbl
          generalize ls[i].take 66 = l at *
          have c3 : wr.cell? ⟨Bo, 3, none⟩ = some (.slice alo k clo) := HF.out.box.cell 3
          go_wp2_with fail
          --S1
          refine wp_region_X (fun W' => W'.cell? ⟨Bo, 3, none⟩ = some (.slice alo k clo)) 11 (by kernel_rfl) ?_
          have hFd := HF.out.drew
          clear c3
          have c3 : wr.drew.cell? ⟨Bo, 3, none⟩ = some (.slice alo k clo) := hFd.box.cell 3
          have HFD := Lib.hid hFd
          clear hFd
          generalize wr.drew = Wd at *
          refine wpAnyX_take (i := 0) (oi := { dst := some 31, op := Go.Op.fieldAddr 26 (Go.Operand.tmp 3) 3, type := 0, pos := "law.go:31", after := #[], guard := none }) (oX := { dst := none, op := Go.Op.store 23 (Go.Operand.tmp 41) (Go.Operand.tmp 40), type := 0, pos := "law.go:31", after := #[{ on := 10, ground := Go.Ground.data }, { on := 9, ground := Go.Ground.data }, { on := 9, ground := Go.Ground.chain }, { on := 0, ground := Go.Ground.phase }, { on := 1, ground := Go.Ground.phase }, { on := 2, ground := Go.Ground.phase }, { on := 3, ground := Go.Ground.phase }, { on := 4, ground := Go.Ground.phase }, { on := 5, ground := Go.Ground.phase }, { on := 6, ground := Go.Ground.phase }, { on := 7, ground := Go.Ground.phase }, { on := 8, ground := Go.Ground.phase }, { on := 9, ground := Go.Ground.phase }], guard := none }) (v := .pointer (some ⟨Bo, 3, none⟩)) rfl rfl (by kernel_rfl) (by kernel_rfl) (by kernel_rfl) (by kernel_rfl) (fun _ _ _ h => h) (Or.inl ⟨by rfl, ?_⟩) c3 ?_
          · intro W9 hS9
            go_simp
          try simp only [Act.put, List.setIfInBounds_toArray, List.set_cons_zero, List.set_cons_succ]
          refine wpAnyX_take (i := 1) (oi := { dst := some 32, op := Go.Op.load 23 (Go.Operand.tmp 31), type := 23, pos := "law.go:31", after := #[{ on := 0, ground := Go.Ground.data }], guard := none }) (oX := { dst := none, op := Go.Op.store 23 (Go.Operand.tmp 41) (Go.Operand.tmp 40), type := 0, pos := "law.go:31", after := #[{ on := 10, ground := Go.Ground.data }, { on := 9, ground := Go.Ground.data }, { on := 9, ground := Go.Ground.chain }, { on := 0, ground := Go.Ground.phase }, { on := 1, ground := Go.Ground.phase }, { on := 2, ground := Go.Ground.phase }, { on := 3, ground := Go.Ground.phase }, { on := 4, ground := Go.Ground.phase }, { on := 5, ground := Go.Ground.phase }, { on := 6, ground := Go.Ground.phase }, { on := 7, ground := Go.Ground.phase }, { on := 8, ground := Go.Ground.phase }, { on := 9, ground := Go.Ground.phase }], guard := none }) (v := .slice alo k clo) rfl rfl (by kernel_rfl) (by kernel_rfl) (by kernel_rfl) (by kernel_rfl) (fun _ _ _ h => h) (Or.inl ⟨by rfl, ?_⟩) c3 ?_
          · intro W9 hS9
            go_simp
          try simp only [Act.put, List.setIfInBounds_toArray, List.set_cons_zero, List.set_cons_succ]
          refine wpAnyX_take (i := 2) (oi := { dst := some 33, op := Go.Op.move (Go.Operand.tmp 5), type := 53, pos := "law.go:31", after := #[], guard := none }) (oX := { dst := none, op := Go.Op.store 23 (Go.Operand.tmp 41) (Go.Operand.tmp 40), type := 0, pos := "law.go:31", after := #[{ on := 10, ground := Go.Ground.data }, { on := 9, ground := Go.Ground.data }, { on := 9, ground := Go.Ground.chain }, { on := 0, ground := Go.Ground.phase }, { on := 1, ground := Go.Ground.phase }, { on := 2, ground := Go.Ground.phase }, { on := 3, ground := Go.Ground.phase }, { on := 4, ground := Go.Ground.phase }, { on := 5, ground := Go.Ground.phase }, { on := 6, ground := Go.Ground.phase }, { on := 7, ground := Go.Ground.phase }, { on := 8, ground := Go.Ground.phase }, { on := 9, ground := Go.Ground.phase }], guard := none }) (v := .slice d1 ll c1) rfl rfl (by kernel_rfl) (by kernel_rfl) (by kernel_rfl) (by kernel_rfl) (fun _ _ _ h => h) (Or.inl ⟨by rfl, ?_⟩) c3 ?_
          · intro W9 hS9
            go_simp
          try simp only [Act.put, List.setIfInBounds_toArray, List.set_cons_zero, List.set_cons_succ]
          refine wpAnyX_take (i := 3) (oi := { dst := some 34, op := Go.Op.move (Go.Operand.tmp 5), type := 53, pos := "law.go:31", after := #[], guard := none }) (oX := { dst := none, op := Go.Op.store 23 (Go.Operand.tmp 41) (Go.Operand.tmp 40), type := 0, pos := "law.go:31", after := #[{ on := 10, ground := Go.Ground.data }, { on := 9, ground := Go.Ground.data }, { on := 9, ground := Go.Ground.chain }, { on := 0, ground := Go.Ground.phase }, { on := 1, ground := Go.Ground.phase }, { on := 2, ground := Go.Ground.phase }, { on := 3, ground := Go.Ground.phase }, { on := 4, ground := Go.Ground.phase }, { on := 5, ground := Go.Ground.phase }, { on := 6, ground := Go.Ground.phase }, { on := 7, ground := Go.Ground.phase }, { on := 8, ground := Go.Ground.phase }, { on := 9, ground := Go.Ground.phase }], guard := none }) (v := .slice d1 ll c1) rfl rfl (by kernel_rfl) (by kernel_rfl) (by kernel_rfl) (by kernel_rfl) (fun _ _ _ h => h) (Or.inl ⟨by rfl, ?_⟩) c3 ?_
          · intro W9 hS9
            go_simp
          try simp only [Act.put, List.setIfInBounds_toArray, List.set_cons_zero, List.set_cons_succ]
          refine wpAnyX_take (i := 4) (oi := { dst := some 35, op := Go.Op.call { callee := Go.Callee.builtin Go.Builtin.len, args := #[Go.Operand.tmp 34], argTypes := #[53] }, type := 3, pos := "law.go:31", after := #[{ on := 3, ground := Go.Ground.data }], guard := none }) (oX := { dst := none, op := Go.Op.store 23 (Go.Operand.tmp 41) (Go.Operand.tmp 40), type := 0, pos := "law.go:31", after := #[{ on := 10, ground := Go.Ground.data }, { on := 9, ground := Go.Ground.data }, { on := 9, ground := Go.Ground.chain }, { on := 0, ground := Go.Ground.phase }, { on := 1, ground := Go.Ground.phase }, { on := 2, ground := Go.Ground.phase }, { on := 3, ground := Go.Ground.phase }, { on := 4, ground := Go.Ground.phase }, { on := 5, ground := Go.Ground.phase }, { on := 6, ground := Go.Ground.phase }, { on := 7, ground := Go.Ground.phase }, { on := 8, ground := Go.Ground.phase }, { on := 9, ground := Go.Ground.phase }], guard := none }) (v := .int .i64 (ll : Nat)) rfl rfl (by kernel_rfl) (by kernel_rfl) (by kernel_rfl) (by kernel_rfl) (fun _ _ _ h => h) (Or.inl ⟨by rfl, ?_⟩) c3 ?_
          · intro W9 hS9
            go_simp
          try simp only [Act.put, List.setIfInBounds_toArray, List.set_cons_zero, List.set_cons_succ]
          refine wpAnyX_take (i := 5) (oi := { dst := some 36, op := Go.Op.call { callee := Go.Callee.builtin Go.Builtin.min, args := #[Go.Operand.tmp 35, Go.Operand.const (Go.Value.int Go.IntKind.i64 66)], argTypes := #[3, 3] }, type := 3, pos := "law.go:31", after := #[{ on := 4, ground := Go.Ground.data }], guard := none }) (oX := { dst := none, op := Go.Op.store 23 (Go.Operand.tmp 41) (Go.Operand.tmp 40), type := 0, pos := "law.go:31", after := #[{ on := 10, ground := Go.Ground.data }, { on := 9, ground := Go.Ground.data }, { on := 9, ground := Go.Ground.chain }, { on := 0, ground := Go.Ground.phase }, { on := 1, ground := Go.Ground.phase }, { on := 2, ground := Go.Ground.phase }, { on := 3, ground := Go.Ground.phase }, { on := 4, ground := Go.Ground.phase }, { on := 5, ground := Go.Ground.phase }, { on := 6, ground := Go.Ground.phase }, { on := 7, ground := Go.Ground.phase }, { on := 8, ground := Go.Ground.phase }, { on := 9, ground := Go.Ground.phase }], guard := none }) (v := .int .i64 (m2 : Nat)) rfl rfl (by kernel_rfl) (by kernel_rfl) (by kernel_rfl) (by kernel_rfl) (fun _ _ _ h => h) (Or.inl ⟨by rfl, ?_⟩) c3 ?_
          · intro W9 hS9
            go_simp
          try simp only [Act.put, List.setIfInBounds_toArray, List.set_cons_zero, List.set_cons_succ]
          refine wpAnyX_take (i := 6) (oi := { dst := some 37, op := Go.Op.slice 53 (Go.Operand.tmp 33) none (some (Go.Operand.tmp 36)) none, type := 53, pos := "law.go:31", after := #[{ on := 2, ground := Go.Ground.data }, { on := 5, ground := Go.Ground.data }], guard := none }) (oX := { dst := none, op := Go.Op.store 23 (Go.Operand.tmp 41) (Go.Operand.tmp 40), type := 0, pos := "law.go:31", after := #[{ on := 10, ground := Go.Ground.data }, { on := 9, ground := Go.Ground.data }, { on := 9, ground := Go.Ground.chain }, { on := 0, ground := Go.Ground.phase }, { on := 1, ground := Go.Ground.phase }, { on := 2, ground := Go.Ground.phase }, { on := 3, ground := Go.Ground.phase }, { on := 4, ground := Go.Ground.phase }, { on := 5, ground := Go.Ground.phase }, { on := 6, ground := Go.Ground.phase }, { on := 7, ground := Go.Ground.phase }, { on := 8, ground := Go.Ground.phase }, { on := 9, ground := Go.Ground.phase }], guard := none }) (v := .slice d1 m2 c1) rfl rfl (by kernel_rfl) (by kernel_rfl) (by kernel_rfl) (by kernel_rfl) (fun _ _ _ h => h) (Or.inl ⟨by rfl, ?_⟩) c3 ?_
          · intro W9 hS9
            go_simp
          try simp only [Act.put, List.setIfInBounds_toArray, List.set_cons_zero, List.set_cons_succ]
          --S2
          refine wpAnyX_one (i := 7) (o := { dst := some 38, op := Go.Op.call { callee := Go.Callee.value (Go.Operand.func 36), args := #[Go.Operand.tmp 37], argTypes := #[53] }, type := 53, pos := "law.go:31", after := #[{ on := 6, ground := Go.Ground.data }], guard := none }) (by kernel_rfl) rfl (fun K hK => ?_)
          refine step_call_g (by rfl) 36 _ _ rfl (fun _ _ => by kernel_rfl) #[.slice d1 m2 c1] (by simp [go_sem]) _ (HCC.out Wd HFD.out.bel) ?_
          rintro e W2 ⟨av, cv, rfl, hov, hBv⟩
          refine ⟨_, rfl, ?_⟩
          have hF2 := HFD.out.keep hBv
          have c3' : W2.cell? ⟨Bo, 3, none⟩ = some (.slice alo k clo) := hF2.box.cell 3
          refine hK.out _ _ (fun _ => c3') ?_
          clear hK K
          try simp only [Act.put, List.setIfInBounds_toArray, List.set_cons_zero, List.set_cons_succ]
          --S3
          refine wpAnyX_one (i := 8) (o := { dst := some 39, op := Go.Op.buildSlice 23 1 #[(0, Go.Operand.tmp 38)], type := 23, pos := "law.go:31", after := #[{ on := 7, ground := Go.Ground.data }], guard := none }) (by kernel_rfl) rfl (fun K hK => ?_)
          refine step_value_g (by rfl) (.slice (some ⟨W2.heap.size, 0, none⟩) 1 1) (w' := W2.alloc (.cells #[.slice av m2 cv] 53)) (by go_simp) ?_
          have hF3 := hF2.keep ((Below.refl W2.heap.size W2).alloc (Nat.le_refl _) (.cells #[.slice av m2 cv] 53))
          have hov3 := owns_keep hov ((Below.refl W2.heap.size W2).alloc (Nat.le_refl _) (.cells #[.slice av m2 cv] 53)) (Nat.le_refl _)
          have c3'' : (W2.alloc (.cells #[.slice av m2 cv] 53)).cell? ⟨Bo, 3, none⟩ = some (.slice alo k clo) := hF3.box.cell 3
          have hnr := rowAt_own (own1 (n₀ := 0) (Rows8.new W2 53 #[.slice av m2 cv]) (Nat.zero_le _) rfl)
          have hwsz : Wd.heap.size ≤ W2.heap.size := hBv.size
          refine hK.out _ _ (fun _ => c3'') ?_
          clear hK K
          try simp only [Act.put, List.setIfInBounds_toArray, List.set_cons_zero, List.set_cons_succ]
          have HF3 := Lib.hid hF3
          have HOV := Lib.hid hov3
          have HNR := Lib.hid hnr
          clear c3 c3' hF2 hF3 hov hov3 hnr
          have hz3 : (W2.alloc (.cells #[.slice av m2 cv] 53)).heap.size = W2.heap.size + 1 := by simp
          generalize W2.alloc (.cells #[.slice av m2 cv] 53) = W3 at *
          obtain ⟨vs, hro, hri⟩ := HF3.out.lists
          have hro' := hro
          rw [HKL.out] at hro'
          have hk10 := HK10.out
          have hwz := HF3.out.bel.size
          --S4
          refine wpAnyX_one (i := 9) (o := { dst := some 40, op := Go.Op.call { callee := Go.Callee.builtin Go.Builtin.append, args := #[Go.Operand.tmp 32, Go.Operand.tmp 39], argTypes := #[23, 23] }, type := 23, pos := "law.go:31", after := #[{ on := 1, ground := Go.Ground.data }, { on := 8, ground := Go.Ground.data }, { on := 7, ground := Go.Ground.chain }], guard := none }) (by kernel_rfl) rfl (fun K hK => ?_)
          refine step_append_row W3 rfl _ _ 23 rfl w.heap.size 53 i0 (.slice none 0 0) 1 24 Try.underlying23 hi hz0 hz1 hz2 rfl (by decide) (.slice alo k clo) k vs (by simp [go_sem]) hro' _ 1 [.slice av m2 cv] (by simp [go_sem]) HNR.out (by simp [Value.oneCell']) (by unfold maxLen; omega) (by omega) hwz ?_
          intro v5 W5 ho5 hg5 hv5
          obtain ⟨_, a5, c5, rfl, _⟩ := rowAt_own ho5
          rw [← HKL.out] at ho5
          have hF5 := HF3.out.grown hro hri HM2.out HOV.out ho5 hg5
          rw [HKL.out] at hF5
          have c5' : W5.cell? ⟨Bo, 3, none⟩ = some (.slice alo k clo) := hF5.1.cell 3
          refine hK.out _ _ (fun _ => c5') ?_
          clear hK K
          try simp only [Act.put, List.setIfInBounds_toArray, List.set_cons_zero, List.set_cons_succ]
          refine wpAnyX_one (i := 10) (o := { dst := some 41, op := Go.Op.fieldAddr 26 (Go.Operand.tmp 3) 3, type := 0, pos := "law.go:31", after := #[{ on := 0, ground := Go.Ground.phase }, { on := 1, ground := Go.Ground.phase }, { on := 2, ground := Go.Ground.phase }, { on := 3, ground := Go.Ground.phase }, { on := 4, ground := Go.Ground.phase }, { on := 5, ground := Go.Ground.phase }, { on := 6, ground := Go.Ground.phase }, { on := 7, ground := Go.Ground.phase }, { on := 8, ground := Go.Ground.phase }, { on := 9, ground := Go.Ground.phase }], guard := none }) (by kernel_rfl) rfl (fun K hK => ?_)
          refine step_value_g (by rfl) (.pointer (some ⟨Bo, 3, none⟩)) (w' := W5) (by go_simp) ?_
          refine hK.out _ _ (fun _ => c5') ?_
          clear hK K
          try simp only [Act.put, List.setIfInBounds_toArray, List.set_cons_zero, List.set_cons_succ]
          --S5
          refine wpAnyX_one (i := 11) (o := { dst := none, op := Go.Op.store 23 (Go.Operand.tmp 41) (Go.Operand.tmp 40), type := 0, pos := "law.go:31", after := #[{ on := 10, ground := Go.Ground.data }, { on := 9, ground := Go.Ground.data }, { on := 9, ground := Go.Ground.chain }, { on := 0, ground := Go.Ground.phase }, { on := 1, ground := Go.Ground.phase }, { on := 2, ground := Go.Ground.phase }, { on := 3, ground := Go.Ground.phase }, { on := 4, ground := Go.Ground.phase }, { on := 5, ground := Go.Ground.phase }, { on := 6, ground := Go.Ground.phase }, { on := 7, ground := Go.Ground.phase }, { on := 8, ground := Go.Ground.phase }, { on := 9, ground := Go.Ground.phase }], guard := none }) (by kernel_rfl) rfl (fun K hK => ?_)
          have f5 : W5.frozen? ⟨Bo, 3, none⟩ = false := hF5.1.frozen 3
          refine step_skip_g (by rfl) (w' := W5.setCell ⟨Bo, 3, none⟩ (.slice a5 (k + 1) c5)) (by go_simp) ?_
          refine hK.out _ _ (fun h => absurd rfl h) ?_
          clear hK K
          try simp only [Act.put, List.setIfInBounds_toArray, List.set_cons_zero, List.set_cons_succ]
          refine wpAnyX_end (by kernel_rfl) ?_
          have HF5 := Lib.hid hF5.2
          clear hF5 ho5 hg5 hv5 f5 c5' hro hro' hri hwz hk10
          --S6
          go_wp2_with fail
          exact ⟨⟨i + 1, by omega, by go_num, _, by rw [HSN.out]; exact HF5⟩, by simp [intOf]; omega⟩
        --S7
        · have hi10 : ¬ (i : Int) < 10 := by omega
          have hsn := lsr_same (ls := ls) h10
          have HSN := Lib.hid hsn
          clear hsn hcs hk hk10 c0 hbl
          go_wp2_with fail
          exact ⟨⟨i + 1, by omega, by go_num, _, by rw [HSN.out]; exact HF⟩, by simp [intOf]; omega⟩
      --S8
      · obtain rfl : i = n := by omega
        obtain ⟨_, alo, clo, rfl, _⟩ := rowAt_own HF.out.lists.choose_spec.1
        have hll : lsr ls i = lss := by rw [← HN.out]; exact (lsr_all ls).trans HLS.out.symm
        rw [hll] at HF
        clear hll
        obtain ⟨d0, d1, d2, d3, d4⟩ : wr.cell? ⟨Bo, 0, none⟩ = some (.int .i64 g) ∧ wr.cell? ⟨Bo, 1, none⟩ = some (.int .i64 b) ∧ wr.cell? ⟨Bo, 2, none⟩ = some (.int .u64 sd) ∧ wr.cell? ⟨Bo, 3, none⟩ = some (.slice alo lss.length clo) ∧ wr.cell? ⟨Bo, 4, none⟩ = some (.slice ax m cx) := ⟨HF.out.box.cell 0, HF.out.box.cell 1, HF.out.box.cell 2, HF.out.box.cell 3, HF.out.box.cell 4⟩
        obtain ⟨e0, e1, e2, e3, e4⟩ : wr.cell? ⟨w.heap.size + 1, 0, none⟩ = some (.int .i64 0) ∧ wr.cell? ⟨w.heap.size + 1, 1, none⟩ = some (.int .i64 0) ∧ wr.cell? ⟨w.heap.size + 1, 2, none⟩ = some (.int .u64 0) ∧ wr.cell? ⟨w.heap.size + 1, 3, none⟩ = some (.slice none 0 0) ∧ wr.cell? ⟨w.heap.size + 1, 4, none⟩ = some (.slice none 0 0) := ⟨HF.out.named.cell 0, HF.out.named.cell 1, HF.out.named.cell 2, HF.out.named.cell 3, HF.out.named.cell 4⟩
        obtain ⟨f0, f1, f2, f3, f4⟩ : wr.frozen? ⟨w.heap.size + 1, 0, none⟩ = false ∧ wr.frozen? ⟨w.heap.size + 1, 1, none⟩ = false ∧ wr.frozen? ⟨w.heap.size + 1, 2, none⟩ = false ∧ wr.frozen? ⟨w.heap.size + 1, 3, none⟩ = false ∧ wr.frozen? ⟨w.heap.size + 1, 4, none⟩ = false := ⟨HF.out.named.frozen 0, HF.out.named.frozen 1, HF.out.named.frozen 2, HF.out.named.frozen 3, HF.out.named.frozen 4⟩
        clear c0
        --S9
        go_wp2_with fail
        --SA
        obtain ⟨q1, q2, q3, q4⟩ := HF.out.back rfl
        refine bodyPost_ret (results_c rfl _ _ (w.heap.size + 1) 26 _ (0, 0) _ rfl q1 Try.underlying26 rfl (by kernel_rfl)) rfl ?_
        have hHN := HCL2.out
        refine ⟨_, rfl, ⟨alo, clo, ax, cx, by rw [← hHN], q2, by rw [← hHN]; exact q3⟩, q4⟩
end Go.Proofs
