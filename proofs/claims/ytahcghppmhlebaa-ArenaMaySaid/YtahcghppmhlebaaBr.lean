/- The law ArenaMay: region 3 (two copies of its own, two boxes), in all of its orders. -/
import Derived.Test.YtahcghppmhlebaaAy
namespace Go.Proofs
set_option maxRecDepth 100000
open Go.RowKit Go.Shelf
attribute [local go_sem] Oper.semAt_some

theorem pAt_sepR {W : World} {v : Value} {l : List Pr} (h : PAt W v l) {B : Nat} {t : TypeId} {x : Option Addr} {n c : Nat} (r : Rows8 W B t #[.slice x n c]) (cs : Array Value) : PAt (W.setRow B cs) v l := by
  obtain ⟨h0, a, cap, e, h1, h2, h3, h4⟩ := h
  refine ⟨h0, _, _, e, h1, h2, h3, fun j hj => ?_⟩
  obtain ⟨b, off, e, hb, hc⟩ := h4 j hj
  refine ⟨b, off, e, by simpa [World.setRow] using hb, ?_⟩
  rw [cell_setRow_other W B cs ⟨b, off + j, none⟩ (fun hbB => ?_)]
  · exact hc
  · have hbB' : b = B := hbB
    subst hbB'
    rw [r.cell (off + j), List.getElem?_eq_getElem hj] at hc
    have hm : (pVals l)[j] ∈ pVals l := List.getElem_mem hj
    generalize (pVals l)[j] = z at *
    cases hk : off + j with
    | zero =>
      rw [hk] at hc
      simp at hc
      subst hc
      simp only [pVals, List.mem_flatMap] at hm
      obtain ⟨d, _, hm⟩ := hm
      simp [pCells] at hm
    | succ k => rw [hk] at hc; simp at hc
section
variable {P : Program} {md : Region.Mode} {ops : Array Oper} {Q : Exit → Act → World → Prop} {S : World → Prop} {X : Nat}
/-- The three that come up next, in any order. -/
theorem wpAnyX_three {i j k : Nat} {oi oj ok : Oper} {fuel : Nat} {listed : Array Bool} {a : Act} {w : World} (hr : Region.ready md ops listed = [i, j, k]) (hoi : ops[i]? = some oi) (hoj : ops[j]? = some oj) (hok : ops[k]? = some ok)
    (hi : ∀ K' : Act → World → Prop, Hid (∀ a w, (i ≠ X → S w) → wpAnyX P md ops Q S X fuel (listed.setIfInBounds i true) a w → K' a w) → if Region.wanted oi (yielded ops a.tmps) = true then Oper.wp P oi a w K' Q else K' (a.put oi.dst undef) w)
    (hj : ∀ K' : Act → World → Prop, Hid (∀ a w, (j ≠ X → S w) → wpAnyX P md ops Q S X fuel (listed.setIfInBounds j true) a w → K' a w) → if Region.wanted oj (yielded ops a.tmps) = true then Oper.wp P oj a w K' Q else K' (a.put oj.dst undef) w)
    (hk : ∀ K' : Act → World → Prop, Hid (∀ a w, (k ≠ X → S w) → wpAnyX P md ops Q S X fuel (listed.setIfInBounds k true) a w → K' a w) → if Region.wanted ok (yielded ops a.tmps) = true then Oper.wp P ok a w K' Q else K' (a.put ok.dst undef) w) :
    wpAnyX P md ops Q S X (fuel + 1) listed a w := by
  refine ⟨fun h0 => (by rw [hr] at h0; cases h0), fun m hm => ?_⟩
  rw [hr] at hm
  rcases List.mem_cons.1 hm with rfl | hm
  · exact wpOp_step hoi (fun K' hK => hi K' (Lib.hid fun a w hS hW => hK a w ⟨hS, hW⟩))
  · rcases List.mem_cons.1 hm with rfl | hm
    · exact wpOp_step hoj (fun K' hK => hj K' (Lib.hid fun a w hS hW => hK a w ⟨hS, hW⟩))
    · obtain rfl := List.mem_singleton.1 hm
      exact wpOp_step hok (fun K' hK => hk K' (Lib.hid fun a w hS hW => hK a w ⟨hS, hW⟩))
end
set_option maxHeartbeats 16000000 in
theorem Try.may_r3 (ax : Option Addr) (nx cx : Nat) (xl : List Pr) (ay : Option Addr) (ny cy : Nat) (yl : List Pr) (al : Option Addr) (nl cl : Nat) (L M : List Pr) (w Wd : World) (Q : Exit → Act → World → Prop)
    (HI : Hid (PAt w (.slice ax nx cx) xl)) (HJ : Hid (PAt w (.slice ay ny cy) yl))
    (HOx : ∀ (W : World), PAt W (.slice ax nx cx) xl → Hid (Calls Try.prog 6 #[.agg #[.slice ax nx cx]] W fun e w' => ∃ b m c, e = .returned (.agg #[.slice b m c]) ∧ m ≤ 130 ∧ OwnsP 44 W.heap.size L (.slice b m c) w' ∧ Below W.heap.size W w'))
    (HOy : ∀ (W : World), PAt W (.slice ay ny cy) yl → Hid (Calls Try.prog 6 #[.agg #[.slice ay ny cy]] W fun e w' => ∃ b m c, e = .returned (.agg #[.slice b m c]) ∧ m ≤ 130 ∧ OwnsP 44 W.heap.size M (.slice b m c) w' ∧ Below W.heap.size W w'))
    (hS0 : Rows8 Wd w.heap.size 24 #[.slice ax nx cx] ∧ Rows8 Wd (w.heap.size + 1) 24 #[.slice ay ny cy]) (hB0 : Below w.heap.size w Wd)
    (hQp : ∀ c d v a w, Q (.panic c) (Act.put a d v) w → Q (.panic c) a w)
    (HK : Hid (∀ (bA bB : Nat) (a7 : Option Addr) (n7 c7 : Nat) (a8 : Option Addr) (n8 c8 : Nat) (v : World), n7 ≤ 130 → n8 ≤ 130 → Rows8 v w.heap.size 24 #[.slice ax nx cx] → Rows8 v bA 24 #[.slice a7 n7 c7] → Rows8 v bB 24 #[.slice a8 n8 c8] → PAt v (.slice a7 n7 c7) L → PAt v (.slice a8 n8 c8) M → Below w.heap.size w v →
      Q .normal ⟨(.agg #[.slice ax nx cx] :: .agg #[.slice ay ny cy] :: .slice al nl cl :: .pointer (some ⟨w.heap.size, 0, none⟩) :: .pointer (some ⟨w.heap.size + 1, 0, none⟩) :: undef :: .bool false :: .pointer (some ⟨bA, 0, none⟩) :: .pointer (some ⟨bB, 0, none⟩) :: undef :: undef :: undef :: undef :: undef :: undef :: undef :: undef :: undef :: undef :: undef :: undef :: undef :: undef :: undef :: undef :: undef :: .bool true :: .bool false :: .agg #[.slice ax nx cx] :: .agg #[.slice a7 n7 c7] :: .agg #[.slice ay ny cy] :: .agg #[.slice a8 n8 c8] :: undef :: undef :: undef :: undef :: undef :: undef :: undef :: undef :: undef :: undef :: undef :: undef :: undef :: undef :: undef :: undef :: undef :: undef :: undef :: undef :: undef :: undef :: undef :: undef :: undef :: undef :: undef :: undef :: undef :: undef :: undef :: undef :: undef :: undef :: undef :: undef :: undef :: undef :: undef :: undef :: undef :: undef :: undef :: undef :: undef :: undef :: undef :: undef :: undef :: undef :: undef :: undef :: undef :: undef :: undef :: undef :: undef :: undef :: undef :: undef :: undef :: undef :: undef :: undef :: undef :: undef :: undef :: undef :: undef :: undef :: undef :: undef :: undef :: undef :: undef :: undef :: undef :: undef :: undef :: undef :: undef :: undef :: undef :: undef :: undef :: undef :: undef :: undef :: undef :: undef :: undef :: undef :: undef :: undef :: undef :: undef :: undef :: undef :: undef :: undef :: undef :: undef :: undef :: undef :: undef :: undef :: undef :: undef :: undef :: undef :: undef :: undef :: undef :: undef :: undef :: undef :: undef :: undef :: undef :: undef :: undef :: undef :: undef :: undef :: undef :: undef :: undef :: undef :: undef :: undef :: undef :: undef :: undef :: undef :: undef :: undef :: undef :: undef :: undef :: undef :: undef :: undef :: undef :: undef :: undef :: undef :: undef :: undef :: undef :: undef :: undef :: undef :: []).toArray, []⟩ v)) :
    wpAnyX Try.prog .any #[{ dst := some 28, op := Go.Op.load 24 (Go.Operand.tmp 3), type := 24, pos := "law.go:43", after := #[], guard := none }, { dst := some 29, op := Go.Op.call { callee := Go.Callee.value (Go.Operand.func 6), args := #[Go.Operand.tmp 28], argTypes := #[24] }, type := 24, pos := "law.go:43", after := #[{ on := 0, ground := Go.Ground.data }], guard := none }, { dst := some 30, op := Go.Op.load 24 (Go.Operand.tmp 4), type := 24, pos := "law.go:43", after := #[], guard := none }, { dst := some 31, op := Go.Op.call { callee := Go.Callee.value (Go.Operand.func 6), args := #[Go.Operand.tmp 30], argTypes := #[24] }, type := 24, pos := "law.go:43", after := #[{ on := 2, ground := Go.Ground.data }, { on := 1, ground := Go.Ground.chain }], guard := none }, { dst := some 7, op := Go.Op.alloc 24, type := 0, pos := "law.go:43", after := #[], guard := none }, { dst := some 8, op := Go.Op.alloc 24, type := 0, pos := "law.go:43", after := #[], guard := none }, { dst := none, op := Go.Op.store 24 (Go.Operand.tmp 7) (Go.Operand.tmp 29), type := 0, pos := "law.go:43", after := #[{ on := 4, ground := Go.Ground.data }, { on := 1, ground := Go.Ground.data }, { on := 3, ground := Go.Ground.chain }, { on := 0, ground := Go.Ground.phase }, { on := 1, ground := Go.Ground.phase }, { on := 2, ground := Go.Ground.textOnly Go.Departure.lateStores }, { on := 3, ground := Go.Ground.textOnly Go.Departure.lateStoresUnsure }, { on := 4, ground := Go.Ground.phase }, { on := 5, ground := Go.Ground.phase }], guard := none }, { dst := none, op := Go.Op.store 24 (Go.Operand.tmp 8) (Go.Operand.tmp 31), type := 0, pos := "law.go:43", after := #[{ on := 5, ground := Go.Ground.data }, { on := 3, ground := Go.Ground.data }, { on := 6, ground := Go.Ground.chain }, { on := 0, ground := Go.Ground.phase }, { on := 1, ground := Go.Ground.phase }, { on := 2, ground := Go.Ground.phase }, { on := 3, ground := Go.Ground.phase }, { on := 4, ground := Go.Ground.phase }, { on := 5, ground := Go.Ground.phase }, { on := 6, ground := Go.Ground.phase }], guard := none }] Q (fun W' => Rows8 W' w.heap.size 24 #[.slice ax nx cx] ∧ Rows8 W' (w.heap.size + 1) 24 #[.slice ay ny cy]) 8 8 #[false, false, false, false, false, false, false, false] ⟨(.agg #[.slice ax nx cx] :: .agg #[.slice ay ny cy] :: .slice al nl cl :: .pointer (some ⟨w.heap.size, 0, none⟩) :: .pointer (some ⟨w.heap.size + 1, 0, none⟩) :: undef :: .bool false :: undef :: undef :: undef :: undef :: undef :: undef :: undef :: undef :: undef :: undef :: undef :: undef :: undef :: undef :: undef :: undef :: undef :: undef :: undef :: .bool true :: .bool false :: undef :: undef :: undef :: undef :: undef :: undef :: undef :: undef :: undef :: undef :: undef :: undef :: undef :: undef :: undef :: undef :: undef :: undef :: undef :: undef :: undef :: undef :: undef :: undef :: undef :: undef :: undef :: undef :: undef :: undef :: undef :: undef :: undef :: undef :: undef :: undef :: undef :: undef :: undef :: undef :: undef :: undef :: undef :: undef :: undef :: undef :: undef :: undef :: undef :: undef :: undef :: undef :: undef :: undef :: undef :: undef :: undef :: undef :: undef :: undef :: undef :: undef :: undef :: undef :: undef :: undef :: undef :: undef :: undef :: undef :: undef :: undef :: undef :: undef :: undef :: undef :: undef :: undef :: undef :: undef :: undef :: undef :: undef :: undef :: undef :: undef :: undef :: undef :: undef :: undef :: undef :: undef :: undef :: undef :: undef :: undef :: undef :: undef :: undef :: undef :: undef :: undef :: undef :: undef :: undef :: undef :: undef :: undef :: undef :: undef :: undef :: undef :: undef :: undef :: undef :: undef :: undef :: undef :: undef :: undef :: undef :: undef :: undef :: undef :: undef :: undef :: undef :: undef :: undef :: undef :: undef :: undef :: undef :: undef :: undef :: undef :: undef :: undef :: undef :: undef :: undef :: undef :: undef :: undef :: undef :: undef :: undef :: undef :: undef :: undef :: undef :: undef :: undef :: undef :: undef :: undef :: []).toArray, []⟩ Wd := by
  refine wpAnyN_take (i := 0) (oi := { dst := some 28, op := Go.Op.load 24 (Go.Operand.tmp 3), type := 24, pos := "law.go:43", after := #[], guard := none }) (v := .agg #[.slice ax nx cx]) rfl (by decide) (by kernel_rfl) (by kernel_rfl) (by kernel_rfl) (fun _ _ _ h => hQp _ _ _ _ _ h) (Or.inl ⟨by rfl, ?_⟩) hS0 ?_
  · intro W9 hS9
    obtain ⟨q0, q1⟩ := hS9
    have s0 : W9.cell? ⟨w.heap.size, 0, none⟩ = some (.slice ax nx cx) := q0.cell 0
    clear q0 q1
    go_simp
  try simp only [Act.put, List.setIfInBounds_toArray, List.set_cons_zero, List.set_cons_succ]
  refine wpAnyN_take (i := 2) (oi := { dst := some 30, op := Go.Op.load 24 (Go.Operand.tmp 4), type := 24, pos := "law.go:43", after := #[], guard := none }) (v := .agg #[.slice ay ny cy]) rfl (by decide) (by kernel_rfl) (by kernel_rfl) (by kernel_rfl) (fun _ _ _ h => hQp _ _ _ _ _ h) (Or.inl ⟨by rfl, ?_⟩) hS0 ?_
  · intro W9 hS9
    obtain ⟨q0, q1⟩ := hS9
    have s0 : W9.cell? ⟨w.heap.size + 1, 0, none⟩ = some (.slice ay ny cy) := q1.cell 0
    clear q0 q1
    go_simp
  try simp only [Act.put, List.setIfInBounds_toArray, List.set_cons_zero, List.set_cons_succ]
  refine wpAnyX_three (i := 1) (j := 4) (k := 5) (oi := { dst := some 29, op := Go.Op.call { callee := Go.Callee.value (Go.Operand.func 6), args := #[Go.Operand.tmp 28], argTypes := #[24] }, type := 24, pos := "law.go:43", after := #[{ on := 0, ground := Go.Ground.data }], guard := none }) (oj := { dst := some 7, op := Go.Op.alloc 24, type := 0, pos := "law.go:43", after := #[], guard := none }) (ok := { dst := some 8, op := Go.Op.alloc 24, type := 0, pos := "law.go:43", after := #[], guard := none }) (by kernel_rfl) rfl rfl rfl (fun K hK => ?_) (fun K hK => ?_) (fun K hK => ?_)
  · refine step_call_g (by rfl) 6 _ _ rfl (fun _ _ => by kernel_rfl) #[.agg #[.slice ax nx cx]] (by simp [go_sem]) _ (HOx Wd (PAt.below HI.out hB0)).out ?_
    rintro e v1 ⟨a7, n7, c7, rfl, hA, hOA, hC⟩
    refine ⟨_, rfl, ?_⟩
    have hS1 : Rows8 v1 w.heap.size 24 #[.slice ax nx cx] ∧ Rows8 v1 (w.heap.size + 1) 24 #[.slice ay ny cy] := ⟨hS0.1.below hC hS0.1.lt, hS0.2.below hC hS0.2.lt⟩
    have hB1 := hB0.trans (hC.mono hB0.size)
    have hPA := hOA.at
    clear hC hOA
    refine hK.out _ _ (fun _ => hS1) ?_
    clear hK K
    try simp only [Act.put, List.setIfInBounds_toArray, List.set_cons_zero, List.set_cons_succ]
    refine wpAnyX_three (i := 3) (j := 4) (k := 5) (oi := { dst := some 31, op := Go.Op.call { callee := Go.Callee.value (Go.Operand.func 6), args := #[Go.Operand.tmp 30], argTypes := #[24] }, type := 24, pos := "law.go:43", after := #[{ on := 2, ground := Go.Ground.data }, { on := 1, ground := Go.Ground.chain }], guard := none }) (oj := { dst := some 7, op := Go.Op.alloc 24, type := 0, pos := "law.go:43", after := #[], guard := none }) (ok := { dst := some 8, op := Go.Op.alloc 24, type := 0, pos := "law.go:43", after := #[], guard := none }) (by kernel_rfl) rfl rfl rfl (fun K hK => ?_) (fun K hK => ?_) (fun K hK => ?_)
    · refine step_call_g (by rfl) 6 _ _ rfl (fun _ _ => by kernel_rfl) #[.agg #[.slice ay ny cy]] (by simp [go_sem]) _ (HOy v1 (PAt.below HJ.out hB1)).out ?_
      rintro e v2 ⟨a8, n8, c8, rfl, hB, hOB, hC⟩
      refine ⟨_, rfl, ?_⟩
      have hS2 : Rows8 v2 w.heap.size 24 #[.slice ax nx cx] ∧ Rows8 v2 (w.heap.size + 1) 24 #[.slice ay ny cy] := ⟨hS1.1.below hC hS1.1.lt, hS1.2.below hC hS1.2.lt⟩
      have hB2 := hB1.trans (hC.mono hB1.size)
      have hPB := hOB.at
      have hPAn := PAt.below hPA hC
      clear hPA
      have hPA := hPAn
      clear hPAn
      clear hC hOB
      refine hK.out _ _ (fun _ => hS2) ?_
      clear hK K
      try simp only [Act.put, List.setIfInBounds_toArray, List.set_cons_zero, List.set_cons_succ]
      refine wpAnyX_two (i := 4) (j := 5) (oi := { dst := some 7, op := Go.Op.alloc 24, type := 0, pos := "law.go:43", after := #[], guard := none }) (oj := { dst := some 8, op := Go.Op.alloc 24, type := 0, pos := "law.go:43", after := #[], guard := none }) (by kernel_rfl) rfl rfl (fun K hK => ?_) (fun K hK => ?_)
      · refine step_value_g (by rfl) (.pointer (some ⟨v2.heap.size, 0, none⟩)) (w' := v2.alloc (.cells #[.slice none 0 0] 24)) (by go_simp) ?_
        have hB3 := hB2.alloc hB2.size (.cells #[.slice none 0 0] 24)
        have hS3 : Rows8 (v2.alloc (.cells #[.slice none 0 0] 24)) w.heap.size 24 #[.slice ax nx cx] ∧ Rows8 (v2.alloc (.cells #[.slice none 0 0] 24)) (w.heap.size + 1) 24 #[.slice ay ny cy] := ⟨hS2.1.alloc _, hS2.2.alloc _⟩
        have hRA := Rows8.new v2 24 #[.slice none 0 0]
        have hzA : w.heap.size + 1 < v2.heap.size := hS2.2.lt
        have hPAn : PAt (v2.alloc (.cells #[.slice none 0 0] 24)) _ _ := PAt.below hPA Rows8.newB
        clear hPA
        have hPA := hPAn
        clear hPAn
        have hPBn : PAt (v2.alloc (.cells #[.slice none 0 0] 24)) _ _ := PAt.below hPB Rows8.newB
        clear hPB
        have hPB := hPBn
        clear hPBn
        refine hK.out _ _ (fun _ => hS3) ?_
        clear hK K
        try simp only [Act.put, List.setIfInBounds_toArray, List.set_cons_zero, List.set_cons_succ]
        generalize v2.heap.size = bA at *
        generalize v2.alloc (.cells #[.slice none 0 0] 24) = v3 at *
        refine wpAnyX_one (i := 5) (o := { dst := some 8, op := Go.Op.alloc 24, type := 0, pos := "law.go:43", after := #[], guard := none }) (by kernel_rfl) rfl (fun K hK => ?_)
        refine step_value_g (by rfl) (.pointer (some ⟨v3.heap.size, 0, none⟩)) (w' := v3.alloc (.cells #[.slice none 0 0] 24)) (by go_simp) ?_
        have hB4 := hB3.alloc hB3.size (.cells #[.slice none 0 0] 24)
        have hS4 : Rows8 (v3.alloc (.cells #[.slice none 0 0] 24)) w.heap.size 24 #[.slice ax nx cx] ∧ Rows8 (v3.alloc (.cells #[.slice none 0 0] 24)) (w.heap.size + 1) 24 #[.slice ay ny cy] := ⟨hS3.1.alloc _, hS3.2.alloc _⟩
        have hRB := Rows8.new v3 24 #[.slice none 0 0]
        have hzB : w.heap.size + 1 < v3.heap.size := hS3.2.lt
        have hPAn : PAt (v3.alloc (.cells #[.slice none 0 0] 24)) _ _ := PAt.below hPA Rows8.newB
        clear hPA
        have hPA := hPAn
        clear hPAn
        have hPBn : PAt (v3.alloc (.cells #[.slice none 0 0] 24)) _ _ := PAt.below hPB Rows8.newB
        clear hPB
        have hPB := hPBn
        clear hPBn
        have hNE : bA < v3.heap.size := hRA.lt
        have hRAn := hRA.alloc (.cells #[.slice none 0 0] 24)
        clear hRA
        have hRA := hRAn
        clear hRAn
        refine hK.out _ _ (fun _ => hS4) ?_
        clear hK K
        try simp only [Act.put, List.setIfInBounds_toArray, List.set_cons_zero, List.set_cons_succ]
        generalize v3.heap.size = bB at *
        generalize v3.alloc (.cells #[.slice none 0 0] 24) = v4 at *
        refine wpAnyX_one (i := 6) (o := { dst := none, op := Go.Op.store 24 (Go.Operand.tmp 7) (Go.Operand.tmp 29), type := 0, pos := "law.go:43", after := #[{ on := 4, ground := Go.Ground.data }, { on := 1, ground := Go.Ground.data }, { on := 3, ground := Go.Ground.chain }, { on := 0, ground := Go.Ground.phase }, { on := 1, ground := Go.Ground.phase }, { on := 2, ground := Go.Ground.textOnly Go.Departure.lateStores }, { on := 3, ground := Go.Ground.textOnly Go.Departure.lateStoresUnsure }, { on := 4, ground := Go.Ground.phase }, { on := 5, ground := Go.Ground.phase }], guard := none }) (by kernel_rfl) rfl (fun K hK => ?_)
        refine step_store_g (by rfl) 24 _ _ rfl ⟨bA, 0, none⟩ (.agg #[.slice a7 n7 c7]) (by simp [go_sem]) (by simp [go_sem]) (run_storeVar_row (P := Try.prog) v4 bA 24 24 _ #[.slice a7 n7 c7] hRA (by kernel_rfl) rfl (by simp [Value.oneCell'])) ?_
        have hB5 := below_setRow hB4 (show w.heap.size ≤ bA by omega) #[.slice a7 n7 c7]
        have hS5 : Rows8 (v4.setRow bA #[.slice a7 n7 c7]) w.heap.size 24 #[.slice ax nx cx] ∧ Rows8 (v4.setRow bA #[.slice a7 n7 c7]) (w.heap.size + 1) 24 #[.slice ay ny cy] := ⟨(setRow_other _ _ _ _ (by omega)).trans hS4.1, (setRow_other _ _ _ _ (by omega)).trans hS4.2⟩
        have hPAn := pAt_sepR hPA hRA #[.slice a7 n7 c7]
        have hPBn := pAt_sepR hPB hRA #[.slice a7 n7 c7]
        have hRBn : Rows8 (v4.setRow bA #[.slice a7 n7 c7]) bB 24 _ := (setRow_other _ _ _ _ (by omega)).trans hRB
        have hRAn : Rows8 (v4.setRow bA #[.slice a7 n7 c7]) bA 24 #[.slice a7 n7 c7] := setRow_heap _ _ _ _ _ _ hRA
        clear hPA hPB hRA hRB
        have hPA := hPAn
        have hPB := hPBn
        have hRA := hRAn
        have hRB := hRBn
        clear hPAn hPBn hRAn hRBn
        refine hK.out _ _ (fun _ => hS5) ?_
        clear hK K
        try simp only [Act.put, List.setIfInBounds_toArray, List.set_cons_zero, List.set_cons_succ]
        generalize (v4.setRow bA #[.slice a7 n7 c7]) = v5 at *
        refine wpAnyX_one (i := 7) (o := { dst := none, op := Go.Op.store 24 (Go.Operand.tmp 8) (Go.Operand.tmp 31), type := 0, pos := "law.go:43", after := #[{ on := 5, ground := Go.Ground.data }, { on := 3, ground := Go.Ground.data }, { on := 6, ground := Go.Ground.chain }, { on := 0, ground := Go.Ground.phase }, { on := 1, ground := Go.Ground.phase }, { on := 2, ground := Go.Ground.phase }, { on := 3, ground := Go.Ground.phase }, { on := 4, ground := Go.Ground.phase }, { on := 5, ground := Go.Ground.phase }, { on := 6, ground := Go.Ground.phase }], guard := none }) (by kernel_rfl) rfl (fun K hK => ?_)
        refine step_store_g (by rfl) 24 _ _ rfl ⟨bB, 0, none⟩ (.agg #[.slice a8 n8 c8]) (by simp [go_sem]) (by simp [go_sem]) (run_storeVar_row (P := Try.prog) v5 bB 24 24 _ #[.slice a8 n8 c8] hRB (by kernel_rfl) rfl (by simp [Value.oneCell'])) ?_
        have hB6 := below_setRow hB5 (show w.heap.size ≤ bB by omega) #[.slice a8 n8 c8]
        have hS6 : Rows8 (v5.setRow bB #[.slice a8 n8 c8]) w.heap.size 24 #[.slice ax nx cx] ∧ Rows8 (v5.setRow bB #[.slice a8 n8 c8]) (w.heap.size + 1) 24 #[.slice ay ny cy] := ⟨(setRow_other _ _ _ _ (by omega)).trans hS5.1, (setRow_other _ _ _ _ (by omega)).trans hS5.2⟩
        have hPAn := pAt_sepR hPA hRB #[.slice a8 n8 c8]
        have hPBn := pAt_sepR hPB hRB #[.slice a8 n8 c8]
        have hRAn : Rows8 (v5.setRow bB #[.slice a8 n8 c8]) bA 24 _ := (setRow_other _ _ _ _ (by omega)).trans hRA
        have hRBn : Rows8 (v5.setRow bB #[.slice a8 n8 c8]) bB 24 #[.slice a8 n8 c8] := setRow_heap _ _ _ _ _ _ hRB
        clear hPA hPB hRA hRB
        have hPA := hPAn
        have hPB := hPBn
        have hRA := hRAn
        have hRB := hRBn
        clear hPAn hPBn hRAn hRBn
        refine hK.out _ _ (fun _ => hS6) ?_
        clear hK K
        try simp only [Act.put, List.setIfInBounds_toArray, List.set_cons_zero, List.set_cons_succ]
        generalize (v5.setRow bB #[.slice a8 n8 c8]) = v6 at *
        refine wpAnyX_end (by kernel_rfl) ?_
        exact HK.out _ _ _ _ _ _ _ _ _ hA hB hS6.1 hRA hRB hPA hPB hB6
      · refine step_value_g (by rfl) (.pointer (some ⟨v2.heap.size, 0, none⟩)) (w' := v2.alloc (.cells #[.slice none 0 0] 24)) (by go_simp) ?_
        have hB3 := hB2.alloc hB2.size (.cells #[.slice none 0 0] 24)
        have hS3 : Rows8 (v2.alloc (.cells #[.slice none 0 0] 24)) w.heap.size 24 #[.slice ax nx cx] ∧ Rows8 (v2.alloc (.cells #[.slice none 0 0] 24)) (w.heap.size + 1) 24 #[.slice ay ny cy] := ⟨hS2.1.alloc _, hS2.2.alloc _⟩
        have hRB := Rows8.new v2 24 #[.slice none 0 0]
        have hzB : w.heap.size + 1 < v2.heap.size := hS2.2.lt
        have hPAn : PAt (v2.alloc (.cells #[.slice none 0 0] 24)) _ _ := PAt.below hPA Rows8.newB
        clear hPA
        have hPA := hPAn
        clear hPAn
        have hPBn : PAt (v2.alloc (.cells #[.slice none 0 0] 24)) _ _ := PAt.below hPB Rows8.newB
        clear hPB
        have hPB := hPBn
        clear hPBn
        refine hK.out _ _ (fun _ => hS3) ?_
        clear hK K
        try simp only [Act.put, List.setIfInBounds_toArray, List.set_cons_zero, List.set_cons_succ]
        generalize v2.heap.size = bB at *
        generalize v2.alloc (.cells #[.slice none 0 0] 24) = v3 at *
        refine wpAnyX_one (i := 4) (o := { dst := some 7, op := Go.Op.alloc 24, type := 0, pos := "law.go:43", after := #[], guard := none }) (by kernel_rfl) rfl (fun K hK => ?_)
        refine step_value_g (by rfl) (.pointer (some ⟨v3.heap.size, 0, none⟩)) (w' := v3.alloc (.cells #[.slice none 0 0] 24)) (by go_simp) ?_
        have hB4 := hB3.alloc hB3.size (.cells #[.slice none 0 0] 24)
        have hS4 : Rows8 (v3.alloc (.cells #[.slice none 0 0] 24)) w.heap.size 24 #[.slice ax nx cx] ∧ Rows8 (v3.alloc (.cells #[.slice none 0 0] 24)) (w.heap.size + 1) 24 #[.slice ay ny cy] := ⟨hS3.1.alloc _, hS3.2.alloc _⟩
        have hRA := Rows8.new v3 24 #[.slice none 0 0]
        have hzA : w.heap.size + 1 < v3.heap.size := hS3.2.lt
        have hPAn : PAt (v3.alloc (.cells #[.slice none 0 0] 24)) _ _ := PAt.below hPA Rows8.newB
        clear hPA
        have hPA := hPAn
        clear hPAn
        have hPBn : PAt (v3.alloc (.cells #[.slice none 0 0] 24)) _ _ := PAt.below hPB Rows8.newB
        clear hPB
        have hPB := hPBn
        clear hPBn
        have hNE : bB < v3.heap.size := hRB.lt
        have hRBn := hRB.alloc (.cells #[.slice none 0 0] 24)
        clear hRB
        have hRB := hRBn
        clear hRBn
        refine hK.out _ _ (fun _ => hS4) ?_
        clear hK K
        try simp only [Act.put, List.setIfInBounds_toArray, List.set_cons_zero, List.set_cons_succ]
        generalize v3.heap.size = bA at *
        generalize v3.alloc (.cells #[.slice none 0 0] 24) = v4 at *
        refine wpAnyX_one (i := 6) (o := { dst := none, op := Go.Op.store 24 (Go.Operand.tmp 7) (Go.Operand.tmp 29), type := 0, pos := "law.go:43", after := #[{ on := 4, ground := Go.Ground.data }, { on := 1, ground := Go.Ground.data }, { on := 3, ground := Go.Ground.chain }, { on := 0, ground := Go.Ground.phase }, { on := 1, ground := Go.Ground.phase }, { on := 2, ground := Go.Ground.textOnly Go.Departure.lateStores }, { on := 3, ground := Go.Ground.textOnly Go.Departure.lateStoresUnsure }, { on := 4, ground := Go.Ground.phase }, { on := 5, ground := Go.Ground.phase }], guard := none }) (by kernel_rfl) rfl (fun K hK => ?_)
        refine step_store_g (by rfl) 24 _ _ rfl ⟨bA, 0, none⟩ (.agg #[.slice a7 n7 c7]) (by simp [go_sem]) (by simp [go_sem]) (run_storeVar_row (P := Try.prog) v4 bA 24 24 _ #[.slice a7 n7 c7] hRA (by kernel_rfl) rfl (by simp [Value.oneCell'])) ?_
        have hB5 := below_setRow hB4 (show w.heap.size ≤ bA by omega) #[.slice a7 n7 c7]
        have hS5 : Rows8 (v4.setRow bA #[.slice a7 n7 c7]) w.heap.size 24 #[.slice ax nx cx] ∧ Rows8 (v4.setRow bA #[.slice a7 n7 c7]) (w.heap.size + 1) 24 #[.slice ay ny cy] := ⟨(setRow_other _ _ _ _ (by omega)).trans hS4.1, (setRow_other _ _ _ _ (by omega)).trans hS4.2⟩
        have hPAn := pAt_sepR hPA hRA #[.slice a7 n7 c7]
        have hPBn := pAt_sepR hPB hRA #[.slice a7 n7 c7]
        have hRBn : Rows8 (v4.setRow bA #[.slice a7 n7 c7]) bB 24 _ := (setRow_other _ _ _ _ (by omega)).trans hRB
        have hRAn : Rows8 (v4.setRow bA #[.slice a7 n7 c7]) bA 24 #[.slice a7 n7 c7] := setRow_heap _ _ _ _ _ _ hRA
        clear hPA hPB hRA hRB
        have hPA := hPAn
        have hPB := hPBn
        have hRA := hRAn
        have hRB := hRBn
        clear hPAn hPBn hRAn hRBn
        refine hK.out _ _ (fun _ => hS5) ?_
        clear hK K
        try simp only [Act.put, List.setIfInBounds_toArray, List.set_cons_zero, List.set_cons_succ]
        generalize (v4.setRow bA #[.slice a7 n7 c7]) = v5 at *
        refine wpAnyX_one (i := 7) (o := { dst := none, op := Go.Op.store 24 (Go.Operand.tmp 8) (Go.Operand.tmp 31), type := 0, pos := "law.go:43", after := #[{ on := 5, ground := Go.Ground.data }, { on := 3, ground := Go.Ground.data }, { on := 6, ground := Go.Ground.chain }, { on := 0, ground := Go.Ground.phase }, { on := 1, ground := Go.Ground.phase }, { on := 2, ground := Go.Ground.phase }, { on := 3, ground := Go.Ground.phase }, { on := 4, ground := Go.Ground.phase }, { on := 5, ground := Go.Ground.phase }, { on := 6, ground := Go.Ground.phase }], guard := none }) (by kernel_rfl) rfl (fun K hK => ?_)
        refine step_store_g (by rfl) 24 _ _ rfl ⟨bB, 0, none⟩ (.agg #[.slice a8 n8 c8]) (by simp [go_sem]) (by simp [go_sem]) (run_storeVar_row (P := Try.prog) v5 bB 24 24 _ #[.slice a8 n8 c8] hRB (by kernel_rfl) rfl (by simp [Value.oneCell'])) ?_
        have hB6 := below_setRow hB5 (show w.heap.size ≤ bB by omega) #[.slice a8 n8 c8]
        have hS6 : Rows8 (v5.setRow bB #[.slice a8 n8 c8]) w.heap.size 24 #[.slice ax nx cx] ∧ Rows8 (v5.setRow bB #[.slice a8 n8 c8]) (w.heap.size + 1) 24 #[.slice ay ny cy] := ⟨(setRow_other _ _ _ _ (by omega)).trans hS5.1, (setRow_other _ _ _ _ (by omega)).trans hS5.2⟩
        have hPAn := pAt_sepR hPA hRB #[.slice a8 n8 c8]
        have hPBn := pAt_sepR hPB hRB #[.slice a8 n8 c8]
        have hRAn : Rows8 (v5.setRow bB #[.slice a8 n8 c8]) bA 24 _ := (setRow_other _ _ _ _ (by omega)).trans hRA
        have hRBn : Rows8 (v5.setRow bB #[.slice a8 n8 c8]) bB 24 #[.slice a8 n8 c8] := setRow_heap _ _ _ _ _ _ hRB
        clear hPA hPB hRA hRB
        have hPA := hPAn
        have hPB := hPBn
        have hRA := hRAn
        have hRB := hRBn
        clear hPAn hPBn hRAn hRBn
        refine hK.out _ _ (fun _ => hS6) ?_
        clear hK K
        try simp only [Act.put, List.setIfInBounds_toArray, List.set_cons_zero, List.set_cons_succ]
        generalize (v5.setRow bB #[.slice a8 n8 c8]) = v6 at *
        refine wpAnyX_end (by kernel_rfl) ?_
        exact HK.out _ _ _ _ _ _ _ _ _ hA hB hS6.1 hRA hRB hPA hPB hB6
    · refine step_value_g (by rfl) (.pointer (some ⟨v1.heap.size, 0, none⟩)) (w' := v1.alloc (.cells #[.slice none 0 0] 24)) (by go_simp) ?_
      have hB2 := hB1.alloc hB1.size (.cells #[.slice none 0 0] 24)
      have hS2 : Rows8 (v1.alloc (.cells #[.slice none 0 0] 24)) w.heap.size 24 #[.slice ax nx cx] ∧ Rows8 (v1.alloc (.cells #[.slice none 0 0] 24)) (w.heap.size + 1) 24 #[.slice ay ny cy] := ⟨hS1.1.alloc _, hS1.2.alloc _⟩
      have hRA := Rows8.new v1 24 #[.slice none 0 0]
      have hzA : w.heap.size + 1 < v1.heap.size := hS1.2.lt
      have hPAn : PAt (v1.alloc (.cells #[.slice none 0 0] 24)) _ _ := PAt.below hPA Rows8.newB
      clear hPA
      have hPA := hPAn
      clear hPAn
      refine hK.out _ _ (fun _ => hS2) ?_
      clear hK K
      try simp only [Act.put, List.setIfInBounds_toArray, List.set_cons_zero, List.set_cons_succ]
      generalize v1.heap.size = bA at *
      generalize v1.alloc (.cells #[.slice none 0 0] 24) = v2 at *
      refine wpAnyX_two (i := 3) (j := 5) (oi := { dst := some 31, op := Go.Op.call { callee := Go.Callee.value (Go.Operand.func 6), args := #[Go.Operand.tmp 30], argTypes := #[24] }, type := 24, pos := "law.go:43", after := #[{ on := 2, ground := Go.Ground.data }, { on := 1, ground := Go.Ground.chain }], guard := none }) (oj := { dst := some 8, op := Go.Op.alloc 24, type := 0, pos := "law.go:43", after := #[], guard := none }) (by kernel_rfl) rfl rfl (fun K hK => ?_) (fun K hK => ?_)
      · refine step_call_g (by rfl) 6 _ _ rfl (fun _ _ => by kernel_rfl) #[.agg #[.slice ay ny cy]] (by simp [go_sem]) _ (HOy v2 (PAt.below HJ.out hB2)).out ?_
        rintro e v3 ⟨a8, n8, c8, rfl, hB, hOB, hC⟩
        refine ⟨_, rfl, ?_⟩
        have hS3 : Rows8 v3 w.heap.size 24 #[.slice ax nx cx] ∧ Rows8 v3 (w.heap.size + 1) 24 #[.slice ay ny cy] := ⟨hS2.1.below hC hS2.1.lt, hS2.2.below hC hS2.2.lt⟩
        have hB3 := hB2.trans (hC.mono hB2.size)
        have hPB := hOB.at
        have hPAn := PAt.below hPA hC
        clear hPA
        have hPA := hPAn
        clear hPAn
        have hRAn := hRA.below hC hRA.lt
        clear hRA
        have hRA := hRAn
        clear hRAn
        clear hC hOB
        refine hK.out _ _ (fun _ => hS3) ?_
        clear hK K
        try simp only [Act.put, List.setIfInBounds_toArray, List.set_cons_zero, List.set_cons_succ]
        refine wpAnyX_one (i := 5) (o := { dst := some 8, op := Go.Op.alloc 24, type := 0, pos := "law.go:43", after := #[], guard := none }) (by kernel_rfl) rfl (fun K hK => ?_)
        refine step_value_g (by rfl) (.pointer (some ⟨v3.heap.size, 0, none⟩)) (w' := v3.alloc (.cells #[.slice none 0 0] 24)) (by go_simp) ?_
        have hB4 := hB3.alloc hB3.size (.cells #[.slice none 0 0] 24)
        have hS4 : Rows8 (v3.alloc (.cells #[.slice none 0 0] 24)) w.heap.size 24 #[.slice ax nx cx] ∧ Rows8 (v3.alloc (.cells #[.slice none 0 0] 24)) (w.heap.size + 1) 24 #[.slice ay ny cy] := ⟨hS3.1.alloc _, hS3.2.alloc _⟩
        have hRB := Rows8.new v3 24 #[.slice none 0 0]
        have hzB : w.heap.size + 1 < v3.heap.size := hS3.2.lt
        have hPAn : PAt (v3.alloc (.cells #[.slice none 0 0] 24)) _ _ := PAt.below hPA Rows8.newB
        clear hPA
        have hPA := hPAn
        clear hPAn
        have hPBn : PAt (v3.alloc (.cells #[.slice none 0 0] 24)) _ _ := PAt.below hPB Rows8.newB
        clear hPB
        have hPB := hPBn
        clear hPBn
        have hNE : bA < v3.heap.size := hRA.lt
        have hRAn := hRA.alloc (.cells #[.slice none 0 0] 24)
        clear hRA
        have hRA := hRAn
        clear hRAn
        refine hK.out _ _ (fun _ => hS4) ?_
        clear hK K
        try simp only [Act.put, List.setIfInBounds_toArray, List.set_cons_zero, List.set_cons_succ]
        generalize v3.heap.size = bB at *
        generalize v3.alloc (.cells #[.slice none 0 0] 24) = v4 at *
        refine wpAnyX_one (i := 6) (o := { dst := none, op := Go.Op.store 24 (Go.Operand.tmp 7) (Go.Operand.tmp 29), type := 0, pos := "law.go:43", after := #[{ on := 4, ground := Go.Ground.data }, { on := 1, ground := Go.Ground.data }, { on := 3, ground := Go.Ground.chain }, { on := 0, ground := Go.Ground.phase }, { on := 1, ground := Go.Ground.phase }, { on := 2, ground := Go.Ground.textOnly Go.Departure.lateStores }, { on := 3, ground := Go.Ground.textOnly Go.Departure.lateStoresUnsure }, { on := 4, ground := Go.Ground.phase }, { on := 5, ground := Go.Ground.phase }], guard := none }) (by kernel_rfl) rfl (fun K hK => ?_)
        refine step_store_g (by rfl) 24 _ _ rfl ⟨bA, 0, none⟩ (.agg #[.slice a7 n7 c7]) (by simp [go_sem]) (by simp [go_sem]) (run_storeVar_row (P := Try.prog) v4 bA 24 24 _ #[.slice a7 n7 c7] hRA (by kernel_rfl) rfl (by simp [Value.oneCell'])) ?_
        have hB5 := below_setRow hB4 (show w.heap.size ≤ bA by omega) #[.slice a7 n7 c7]
        have hS5 : Rows8 (v4.setRow bA #[.slice a7 n7 c7]) w.heap.size 24 #[.slice ax nx cx] ∧ Rows8 (v4.setRow bA #[.slice a7 n7 c7]) (w.heap.size + 1) 24 #[.slice ay ny cy] := ⟨(setRow_other _ _ _ _ (by omega)).trans hS4.1, (setRow_other _ _ _ _ (by omega)).trans hS4.2⟩
        have hPAn := pAt_sepR hPA hRA #[.slice a7 n7 c7]
        have hPBn := pAt_sepR hPB hRA #[.slice a7 n7 c7]
        have hRBn : Rows8 (v4.setRow bA #[.slice a7 n7 c7]) bB 24 _ := (setRow_other _ _ _ _ (by omega)).trans hRB
        have hRAn : Rows8 (v4.setRow bA #[.slice a7 n7 c7]) bA 24 #[.slice a7 n7 c7] := setRow_heap _ _ _ _ _ _ hRA
        clear hPA hPB hRA hRB
        have hPA := hPAn
        have hPB := hPBn
        have hRA := hRAn
        have hRB := hRBn
        clear hPAn hPBn hRAn hRBn
        refine hK.out _ _ (fun _ => hS5) ?_
        clear hK K
        try simp only [Act.put, List.setIfInBounds_toArray, List.set_cons_zero, List.set_cons_succ]
        generalize (v4.setRow bA #[.slice a7 n7 c7]) = v5 at *
        refine wpAnyX_one (i := 7) (o := { dst := none, op := Go.Op.store 24 (Go.Operand.tmp 8) (Go.Operand.tmp 31), type := 0, pos := "law.go:43", after := #[{ on := 5, ground := Go.Ground.data }, { on := 3, ground := Go.Ground.data }, { on := 6, ground := Go.Ground.chain }, { on := 0, ground := Go.Ground.phase }, { on := 1, ground := Go.Ground.phase }, { on := 2, ground := Go.Ground.phase }, { on := 3, ground := Go.Ground.phase }, { on := 4, ground := Go.Ground.phase }, { on := 5, ground := Go.Ground.phase }, { on := 6, ground := Go.Ground.phase }], guard := none }) (by kernel_rfl) rfl (fun K hK => ?_)
        refine step_store_g (by rfl) 24 _ _ rfl ⟨bB, 0, none⟩ (.agg #[.slice a8 n8 c8]) (by simp [go_sem]) (by simp [go_sem]) (run_storeVar_row (P := Try.prog) v5 bB 24 24 _ #[.slice a8 n8 c8] hRB (by kernel_rfl) rfl (by simp [Value.oneCell'])) ?_
        have hB6 := below_setRow hB5 (show w.heap.size ≤ bB by omega) #[.slice a8 n8 c8]
        have hS6 : Rows8 (v5.setRow bB #[.slice a8 n8 c8]) w.heap.size 24 #[.slice ax nx cx] ∧ Rows8 (v5.setRow bB #[.slice a8 n8 c8]) (w.heap.size + 1) 24 #[.slice ay ny cy] := ⟨(setRow_other _ _ _ _ (by omega)).trans hS5.1, (setRow_other _ _ _ _ (by omega)).trans hS5.2⟩
        have hPAn := pAt_sepR hPA hRB #[.slice a8 n8 c8]
        have hPBn := pAt_sepR hPB hRB #[.slice a8 n8 c8]
        have hRAn : Rows8 (v5.setRow bB #[.slice a8 n8 c8]) bA 24 _ := (setRow_other _ _ _ _ (by omega)).trans hRA
        have hRBn : Rows8 (v5.setRow bB #[.slice a8 n8 c8]) bB 24 #[.slice a8 n8 c8] := setRow_heap _ _ _ _ _ _ hRB
        clear hPA hPB hRA hRB
        have hPA := hPAn
        have hPB := hPBn
        have hRA := hRAn
        have hRB := hRBn
        clear hPAn hPBn hRAn hRBn
        refine hK.out _ _ (fun _ => hS6) ?_
        clear hK K
        try simp only [Act.put, List.setIfInBounds_toArray, List.set_cons_zero, List.set_cons_succ]
        generalize (v5.setRow bB #[.slice a8 n8 c8]) = v6 at *
        refine wpAnyX_end (by kernel_rfl) ?_
        exact HK.out _ _ _ _ _ _ _ _ _ hA hB hS6.1 hRA hRB hPA hPB hB6
      · refine step_value_g (by rfl) (.pointer (some ⟨v2.heap.size, 0, none⟩)) (w' := v2.alloc (.cells #[.slice none 0 0] 24)) (by go_simp) ?_
        have hB3 := hB2.alloc hB2.size (.cells #[.slice none 0 0] 24)
        have hS3 : Rows8 (v2.alloc (.cells #[.slice none 0 0] 24)) w.heap.size 24 #[.slice ax nx cx] ∧ Rows8 (v2.alloc (.cells #[.slice none 0 0] 24)) (w.heap.size + 1) 24 #[.slice ay ny cy] := ⟨hS2.1.alloc _, hS2.2.alloc _⟩
        have hRB := Rows8.new v2 24 #[.slice none 0 0]
        have hzB : w.heap.size + 1 < v2.heap.size := hS2.2.lt
        have hPAn : PAt (v2.alloc (.cells #[.slice none 0 0] 24)) _ _ := PAt.below hPA Rows8.newB
        clear hPA
        have hPA := hPAn
        clear hPAn
        have hNE : bA < v2.heap.size := hRA.lt
        have hRAn := hRA.alloc (.cells #[.slice none 0 0] 24)
        clear hRA
        have hRA := hRAn
        clear hRAn
        refine hK.out _ _ (fun _ => hS3) ?_
        clear hK K
        try simp only [Act.put, List.setIfInBounds_toArray, List.set_cons_zero, List.set_cons_succ]
        generalize v2.heap.size = bB at *
        generalize v2.alloc (.cells #[.slice none 0 0] 24) = v3 at *
        refine wpAnyX_one (i := 3) (o := { dst := some 31, op := Go.Op.call { callee := Go.Callee.value (Go.Operand.func 6), args := #[Go.Operand.tmp 30], argTypes := #[24] }, type := 24, pos := "law.go:43", after := #[{ on := 2, ground := Go.Ground.data }, { on := 1, ground := Go.Ground.chain }], guard := none }) (by kernel_rfl) rfl (fun K hK => ?_)
        refine step_call_g (by rfl) 6 _ _ rfl (fun _ _ => by kernel_rfl) #[.agg #[.slice ay ny cy]] (by simp [go_sem]) _ (HOy v3 (PAt.below HJ.out hB3)).out ?_
        rintro e v4 ⟨a8, n8, c8, rfl, hB, hOB, hC⟩
        refine ⟨_, rfl, ?_⟩
        have hS4 : Rows8 v4 w.heap.size 24 #[.slice ax nx cx] ∧ Rows8 v4 (w.heap.size + 1) 24 #[.slice ay ny cy] := ⟨hS3.1.below hC hS3.1.lt, hS3.2.below hC hS3.2.lt⟩
        have hB4 := hB3.trans (hC.mono hB3.size)
        have hPB := hOB.at
        have hPAn := PAt.below hPA hC
        clear hPA
        have hPA := hPAn
        clear hPAn
        have hRAn := hRA.below hC hRA.lt
        clear hRA
        have hRA := hRAn
        clear hRAn
        have hRBn := hRB.below hC hRB.lt
        clear hRB
        have hRB := hRBn
        clear hRBn
        clear hC hOB
        refine hK.out _ _ (fun _ => hS4) ?_
        clear hK K
        try simp only [Act.put, List.setIfInBounds_toArray, List.set_cons_zero, List.set_cons_succ]
        refine wpAnyX_one (i := 6) (o := { dst := none, op := Go.Op.store 24 (Go.Operand.tmp 7) (Go.Operand.tmp 29), type := 0, pos := "law.go:43", after := #[{ on := 4, ground := Go.Ground.data }, { on := 1, ground := Go.Ground.data }, { on := 3, ground := Go.Ground.chain }, { on := 0, ground := Go.Ground.phase }, { on := 1, ground := Go.Ground.phase }, { on := 2, ground := Go.Ground.textOnly Go.Departure.lateStores }, { on := 3, ground := Go.Ground.textOnly Go.Departure.lateStoresUnsure }, { on := 4, ground := Go.Ground.phase }, { on := 5, ground := Go.Ground.phase }], guard := none }) (by kernel_rfl) rfl (fun K hK => ?_)
        refine step_store_g (by rfl) 24 _ _ rfl ⟨bA, 0, none⟩ (.agg #[.slice a7 n7 c7]) (by simp [go_sem]) (by simp [go_sem]) (run_storeVar_row (P := Try.prog) v4 bA 24 24 _ #[.slice a7 n7 c7] hRA (by kernel_rfl) rfl (by simp [Value.oneCell'])) ?_
        have hB5 := below_setRow hB4 (show w.heap.size ≤ bA by omega) #[.slice a7 n7 c7]
        have hS5 : Rows8 (v4.setRow bA #[.slice a7 n7 c7]) w.heap.size 24 #[.slice ax nx cx] ∧ Rows8 (v4.setRow bA #[.slice a7 n7 c7]) (w.heap.size + 1) 24 #[.slice ay ny cy] := ⟨(setRow_other _ _ _ _ (by omega)).trans hS4.1, (setRow_other _ _ _ _ (by omega)).trans hS4.2⟩
        have hPAn := pAt_sepR hPA hRA #[.slice a7 n7 c7]
        have hPBn := pAt_sepR hPB hRA #[.slice a7 n7 c7]
        have hRBn : Rows8 (v4.setRow bA #[.slice a7 n7 c7]) bB 24 _ := (setRow_other _ _ _ _ (by omega)).trans hRB
        have hRAn : Rows8 (v4.setRow bA #[.slice a7 n7 c7]) bA 24 #[.slice a7 n7 c7] := setRow_heap _ _ _ _ _ _ hRA
        clear hPA hPB hRA hRB
        have hPA := hPAn
        have hPB := hPBn
        have hRA := hRAn
        have hRB := hRBn
        clear hPAn hPBn hRAn hRBn
        refine hK.out _ _ (fun _ => hS5) ?_
        clear hK K
        try simp only [Act.put, List.setIfInBounds_toArray, List.set_cons_zero, List.set_cons_succ]
        generalize (v4.setRow bA #[.slice a7 n7 c7]) = v5 at *
        refine wpAnyX_one (i := 7) (o := { dst := none, op := Go.Op.store 24 (Go.Operand.tmp 8) (Go.Operand.tmp 31), type := 0, pos := "law.go:43", after := #[{ on := 5, ground := Go.Ground.data }, { on := 3, ground := Go.Ground.data }, { on := 6, ground := Go.Ground.chain }, { on := 0, ground := Go.Ground.phase }, { on := 1, ground := Go.Ground.phase }, { on := 2, ground := Go.Ground.phase }, { on := 3, ground := Go.Ground.phase }, { on := 4, ground := Go.Ground.phase }, { on := 5, ground := Go.Ground.phase }, { on := 6, ground := Go.Ground.phase }], guard := none }) (by kernel_rfl) rfl (fun K hK => ?_)
        refine step_store_g (by rfl) 24 _ _ rfl ⟨bB, 0, none⟩ (.agg #[.slice a8 n8 c8]) (by simp [go_sem]) (by simp [go_sem]) (run_storeVar_row (P := Try.prog) v5 bB 24 24 _ #[.slice a8 n8 c8] hRB (by kernel_rfl) rfl (by simp [Value.oneCell'])) ?_
        have hB6 := below_setRow hB5 (show w.heap.size ≤ bB by omega) #[.slice a8 n8 c8]
        have hS6 : Rows8 (v5.setRow bB #[.slice a8 n8 c8]) w.heap.size 24 #[.slice ax nx cx] ∧ Rows8 (v5.setRow bB #[.slice a8 n8 c8]) (w.heap.size + 1) 24 #[.slice ay ny cy] := ⟨(setRow_other _ _ _ _ (by omega)).trans hS5.1, (setRow_other _ _ _ _ (by omega)).trans hS5.2⟩
        have hPAn := pAt_sepR hPA hRB #[.slice a8 n8 c8]
        have hPBn := pAt_sepR hPB hRB #[.slice a8 n8 c8]
        have hRAn : Rows8 (v5.setRow bB #[.slice a8 n8 c8]) bA 24 _ := (setRow_other _ _ _ _ (by omega)).trans hRA
        have hRBn : Rows8 (v5.setRow bB #[.slice a8 n8 c8]) bB 24 #[.slice a8 n8 c8] := setRow_heap _ _ _ _ _ _ hRB
        clear hPA hPB hRA hRB
        have hPA := hPAn
        have hPB := hPBn
        have hRA := hRAn
        have hRB := hRBn
        clear hPAn hPBn hRAn hRBn
        refine hK.out _ _ (fun _ => hS6) ?_
        clear hK K
        try simp only [Act.put, List.setIfInBounds_toArray, List.set_cons_zero, List.set_cons_succ]
        generalize (v5.setRow bB #[.slice a8 n8 c8]) = v6 at *
        refine wpAnyX_end (by kernel_rfl) ?_
        exact HK.out _ _ _ _ _ _ _ _ _ hA hB hS6.1 hRA hRB hPA hPB hB6
    · refine step_value_g (by rfl) (.pointer (some ⟨v1.heap.size, 0, none⟩)) (w' := v1.alloc (.cells #[.slice none 0 0] 24)) (by go_simp) ?_
      have hB2 := hB1.alloc hB1.size (.cells #[.slice none 0 0] 24)
      have hS2 : Rows8 (v1.alloc (.cells #[.slice none 0 0] 24)) w.heap.size 24 #[.slice ax nx cx] ∧ Rows8 (v1.alloc (.cells #[.slice none 0 0] 24)) (w.heap.size + 1) 24 #[.slice ay ny cy] := ⟨hS1.1.alloc _, hS1.2.alloc _⟩
      have hRB := Rows8.new v1 24 #[.slice none 0 0]
      have hzB : w.heap.size + 1 < v1.heap.size := hS1.2.lt
      have hPAn : PAt (v1.alloc (.cells #[.slice none 0 0] 24)) _ _ := PAt.below hPA Rows8.newB
      clear hPA
      have hPA := hPAn
      clear hPAn
      refine hK.out _ _ (fun _ => hS2) ?_
      clear hK K
      try simp only [Act.put, List.setIfInBounds_toArray, List.set_cons_zero, List.set_cons_succ]
      generalize v1.heap.size = bB at *
      generalize v1.alloc (.cells #[.slice none 0 0] 24) = v2 at *
      refine wpAnyX_two (i := 3) (j := 4) (oi := { dst := some 31, op := Go.Op.call { callee := Go.Callee.value (Go.Operand.func 6), args := #[Go.Operand.tmp 30], argTypes := #[24] }, type := 24, pos := "law.go:43", after := #[{ on := 2, ground := Go.Ground.data }, { on := 1, ground := Go.Ground.chain }], guard := none }) (oj := { dst := some 7, op := Go.Op.alloc 24, type := 0, pos := "law.go:43", after := #[], guard := none }) (by kernel_rfl) rfl rfl (fun K hK => ?_) (fun K hK => ?_)
      · refine step_call_g (by rfl) 6 _ _ rfl (fun _ _ => by kernel_rfl) #[.agg #[.slice ay ny cy]] (by simp [go_sem]) _ (HOy v2 (PAt.below HJ.out hB2)).out ?_
        rintro e v3 ⟨a8, n8, c8, rfl, hB, hOB, hC⟩
        refine ⟨_, rfl, ?_⟩
        have hS3 : Rows8 v3 w.heap.size 24 #[.slice ax nx cx] ∧ Rows8 v3 (w.heap.size + 1) 24 #[.slice ay ny cy] := ⟨hS2.1.below hC hS2.1.lt, hS2.2.below hC hS2.2.lt⟩
        have hB3 := hB2.trans (hC.mono hB2.size)
        have hPB := hOB.at
        have hPAn := PAt.below hPA hC
        clear hPA
        have hPA := hPAn
        clear hPAn
        have hRBn := hRB.below hC hRB.lt
        clear hRB
        have hRB := hRBn
        clear hRBn
        clear hC hOB
        refine hK.out _ _ (fun _ => hS3) ?_
        clear hK K
        try simp only [Act.put, List.setIfInBounds_toArray, List.set_cons_zero, List.set_cons_succ]
        refine wpAnyX_one (i := 4) (o := { dst := some 7, op := Go.Op.alloc 24, type := 0, pos := "law.go:43", after := #[], guard := none }) (by kernel_rfl) rfl (fun K hK => ?_)
        refine step_value_g (by rfl) (.pointer (some ⟨v3.heap.size, 0, none⟩)) (w' := v3.alloc (.cells #[.slice none 0 0] 24)) (by go_simp) ?_
        have hB4 := hB3.alloc hB3.size (.cells #[.slice none 0 0] 24)
        have hS4 : Rows8 (v3.alloc (.cells #[.slice none 0 0] 24)) w.heap.size 24 #[.slice ax nx cx] ∧ Rows8 (v3.alloc (.cells #[.slice none 0 0] 24)) (w.heap.size + 1) 24 #[.slice ay ny cy] := ⟨hS3.1.alloc _, hS3.2.alloc _⟩
        have hRA := Rows8.new v3 24 #[.slice none 0 0]
        have hzA : w.heap.size + 1 < v3.heap.size := hS3.2.lt
        have hPAn : PAt (v3.alloc (.cells #[.slice none 0 0] 24)) _ _ := PAt.below hPA Rows8.newB
        clear hPA
        have hPA := hPAn
        clear hPAn
        have hPBn : PAt (v3.alloc (.cells #[.slice none 0 0] 24)) _ _ := PAt.below hPB Rows8.newB
        clear hPB
        have hPB := hPBn
        clear hPBn
        have hNE : bB < v3.heap.size := hRB.lt
        have hRBn := hRB.alloc (.cells #[.slice none 0 0] 24)
        clear hRB
        have hRB := hRBn
        clear hRBn
        refine hK.out _ _ (fun _ => hS4) ?_
        clear hK K
        try simp only [Act.put, List.setIfInBounds_toArray, List.set_cons_zero, List.set_cons_succ]
        generalize v3.heap.size = bA at *
        generalize v3.alloc (.cells #[.slice none 0 0] 24) = v4 at *
        refine wpAnyX_one (i := 6) (o := { dst := none, op := Go.Op.store 24 (Go.Operand.tmp 7) (Go.Operand.tmp 29), type := 0, pos := "law.go:43", after := #[{ on := 4, ground := Go.Ground.data }, { on := 1, ground := Go.Ground.data }, { on := 3, ground := Go.Ground.chain }, { on := 0, ground := Go.Ground.phase }, { on := 1, ground := Go.Ground.phase }, { on := 2, ground := Go.Ground.textOnly Go.Departure.lateStores }, { on := 3, ground := Go.Ground.textOnly Go.Departure.lateStoresUnsure }, { on := 4, ground := Go.Ground.phase }, { on := 5, ground := Go.Ground.phase }], guard := none }) (by kernel_rfl) rfl (fun K hK => ?_)
        refine step_store_g (by rfl) 24 _ _ rfl ⟨bA, 0, none⟩ (.agg #[.slice a7 n7 c7]) (by simp [go_sem]) (by simp [go_sem]) (run_storeVar_row (P := Try.prog) v4 bA 24 24 _ #[.slice a7 n7 c7] hRA (by kernel_rfl) rfl (by simp [Value.oneCell'])) ?_
        have hB5 := below_setRow hB4 (show w.heap.size ≤ bA by omega) #[.slice a7 n7 c7]
        have hS5 : Rows8 (v4.setRow bA #[.slice a7 n7 c7]) w.heap.size 24 #[.slice ax nx cx] ∧ Rows8 (v4.setRow bA #[.slice a7 n7 c7]) (w.heap.size + 1) 24 #[.slice ay ny cy] := ⟨(setRow_other _ _ _ _ (by omega)).trans hS4.1, (setRow_other _ _ _ _ (by omega)).trans hS4.2⟩
        have hPAn := pAt_sepR hPA hRA #[.slice a7 n7 c7]
        have hPBn := pAt_sepR hPB hRA #[.slice a7 n7 c7]
        have hRBn : Rows8 (v4.setRow bA #[.slice a7 n7 c7]) bB 24 _ := (setRow_other _ _ _ _ (by omega)).trans hRB
        have hRAn : Rows8 (v4.setRow bA #[.slice a7 n7 c7]) bA 24 #[.slice a7 n7 c7] := setRow_heap _ _ _ _ _ _ hRA
        clear hPA hPB hRA hRB
        have hPA := hPAn
        have hPB := hPBn
        have hRA := hRAn
        have hRB := hRBn
        clear hPAn hPBn hRAn hRBn
        refine hK.out _ _ (fun _ => hS5) ?_
        clear hK K
        try simp only [Act.put, List.setIfInBounds_toArray, List.set_cons_zero, List.set_cons_succ]
        generalize (v4.setRow bA #[.slice a7 n7 c7]) = v5 at *
        refine wpAnyX_one (i := 7) (o := { dst := none, op := Go.Op.store 24 (Go.Operand.tmp 8) (Go.Operand.tmp 31), type := 0, pos := "law.go:43", after := #[{ on := 5, ground := Go.Ground.data }, { on := 3, ground := Go.Ground.data }, { on := 6, ground := Go.Ground.chain }, { on := 0, ground := Go.Ground.phase }, { on := 1, ground := Go.Ground.phase }, { on := 2, ground := Go.Ground.phase }, { on := 3, ground := Go.Ground.phase }, { on := 4, ground := Go.Ground.phase }, { on := 5, ground := Go.Ground.phase }, { on := 6, ground := Go.Ground.phase }], guard := none }) (by kernel_rfl) rfl (fun K hK => ?_)
        refine step_store_g (by rfl) 24 _ _ rfl ⟨bB, 0, none⟩ (.agg #[.slice a8 n8 c8]) (by simp [go_sem]) (by simp [go_sem]) (run_storeVar_row (P := Try.prog) v5 bB 24 24 _ #[.slice a8 n8 c8] hRB (by kernel_rfl) rfl (by simp [Value.oneCell'])) ?_
        have hB6 := below_setRow hB5 (show w.heap.size ≤ bB by omega) #[.slice a8 n8 c8]
        have hS6 : Rows8 (v5.setRow bB #[.slice a8 n8 c8]) w.heap.size 24 #[.slice ax nx cx] ∧ Rows8 (v5.setRow bB #[.slice a8 n8 c8]) (w.heap.size + 1) 24 #[.slice ay ny cy] := ⟨(setRow_other _ _ _ _ (by omega)).trans hS5.1, (setRow_other _ _ _ _ (by omega)).trans hS5.2⟩
        have hPAn := pAt_sepR hPA hRB #[.slice a8 n8 c8]
        have hPBn := pAt_sepR hPB hRB #[.slice a8 n8 c8]
        have hRAn : Rows8 (v5.setRow bB #[.slice a8 n8 c8]) bA 24 _ := (setRow_other _ _ _ _ (by omega)).trans hRA
        have hRBn : Rows8 (v5.setRow bB #[.slice a8 n8 c8]) bB 24 #[.slice a8 n8 c8] := setRow_heap _ _ _ _ _ _ hRB
        clear hPA hPB hRA hRB
        have hPA := hPAn
        have hPB := hPBn
        have hRA := hRAn
        have hRB := hRBn
        clear hPAn hPBn hRAn hRBn
        refine hK.out _ _ (fun _ => hS6) ?_
        clear hK K
        try simp only [Act.put, List.setIfInBounds_toArray, List.set_cons_zero, List.set_cons_succ]
        generalize (v5.setRow bB #[.slice a8 n8 c8]) = v6 at *
        refine wpAnyX_end (by kernel_rfl) ?_
        exact HK.out _ _ _ _ _ _ _ _ _ hA hB hS6.1 hRA hRB hPA hPB hB6
      · refine step_value_g (by rfl) (.pointer (some ⟨v2.heap.size, 0, none⟩)) (w' := v2.alloc (.cells #[.slice none 0 0] 24)) (by go_simp) ?_
        have hB3 := hB2.alloc hB2.size (.cells #[.slice none 0 0] 24)
        have hS3 : Rows8 (v2.alloc (.cells #[.slice none 0 0] 24)) w.heap.size 24 #[.slice ax nx cx] ∧ Rows8 (v2.alloc (.cells #[.slice none 0 0] 24)) (w.heap.size + 1) 24 #[.slice ay ny cy] := ⟨hS2.1.alloc _, hS2.2.alloc _⟩
        have hRA := Rows8.new v2 24 #[.slice none 0 0]
        have hzA : w.heap.size + 1 < v2.heap.size := hS2.2.lt
        have hPAn : PAt (v2.alloc (.cells #[.slice none 0 0] 24)) _ _ := PAt.below hPA Rows8.newB
        clear hPA
        have hPA := hPAn
        clear hPAn
        have hNE : bB < v2.heap.size := hRB.lt
        have hRBn := hRB.alloc (.cells #[.slice none 0 0] 24)
        clear hRB
        have hRB := hRBn
        clear hRBn
        refine hK.out _ _ (fun _ => hS3) ?_
        clear hK K
        try simp only [Act.put, List.setIfInBounds_toArray, List.set_cons_zero, List.set_cons_succ]
        generalize v2.heap.size = bA at *
        generalize v2.alloc (.cells #[.slice none 0 0] 24) = v3 at *
        refine wpAnyX_one (i := 3) (o := { dst := some 31, op := Go.Op.call { callee := Go.Callee.value (Go.Operand.func 6), args := #[Go.Operand.tmp 30], argTypes := #[24] }, type := 24, pos := "law.go:43", after := #[{ on := 2, ground := Go.Ground.data }, { on := 1, ground := Go.Ground.chain }], guard := none }) (by kernel_rfl) rfl (fun K hK => ?_)
        refine step_call_g (by rfl) 6 _ _ rfl (fun _ _ => by kernel_rfl) #[.agg #[.slice ay ny cy]] (by simp [go_sem]) _ (HOy v3 (PAt.below HJ.out hB3)).out ?_
        rintro e v4 ⟨a8, n8, c8, rfl, hB, hOB, hC⟩
        refine ⟨_, rfl, ?_⟩
        have hS4 : Rows8 v4 w.heap.size 24 #[.slice ax nx cx] ∧ Rows8 v4 (w.heap.size + 1) 24 #[.slice ay ny cy] := ⟨hS3.1.below hC hS3.1.lt, hS3.2.below hC hS3.2.lt⟩
        have hB4 := hB3.trans (hC.mono hB3.size)
        have hPB := hOB.at
        have hPAn := PAt.below hPA hC
        clear hPA
        have hPA := hPAn
        clear hPAn
        have hRAn := hRA.below hC hRA.lt
        clear hRA
        have hRA := hRAn
        clear hRAn
        have hRBn := hRB.below hC hRB.lt
        clear hRB
        have hRB := hRBn
        clear hRBn
        clear hC hOB
        refine hK.out _ _ (fun _ => hS4) ?_
        clear hK K
        try simp only [Act.put, List.setIfInBounds_toArray, List.set_cons_zero, List.set_cons_succ]
        refine wpAnyX_one (i := 6) (o := { dst := none, op := Go.Op.store 24 (Go.Operand.tmp 7) (Go.Operand.tmp 29), type := 0, pos := "law.go:43", after := #[{ on := 4, ground := Go.Ground.data }, { on := 1, ground := Go.Ground.data }, { on := 3, ground := Go.Ground.chain }, { on := 0, ground := Go.Ground.phase }, { on := 1, ground := Go.Ground.phase }, { on := 2, ground := Go.Ground.textOnly Go.Departure.lateStores }, { on := 3, ground := Go.Ground.textOnly Go.Departure.lateStoresUnsure }, { on := 4, ground := Go.Ground.phase }, { on := 5, ground := Go.Ground.phase }], guard := none }) (by kernel_rfl) rfl (fun K hK => ?_)
        refine step_store_g (by rfl) 24 _ _ rfl ⟨bA, 0, none⟩ (.agg #[.slice a7 n7 c7]) (by simp [go_sem]) (by simp [go_sem]) (run_storeVar_row (P := Try.prog) v4 bA 24 24 _ #[.slice a7 n7 c7] hRA (by kernel_rfl) rfl (by simp [Value.oneCell'])) ?_
        have hB5 := below_setRow hB4 (show w.heap.size ≤ bA by omega) #[.slice a7 n7 c7]
        have hS5 : Rows8 (v4.setRow bA #[.slice a7 n7 c7]) w.heap.size 24 #[.slice ax nx cx] ∧ Rows8 (v4.setRow bA #[.slice a7 n7 c7]) (w.heap.size + 1) 24 #[.slice ay ny cy] := ⟨(setRow_other _ _ _ _ (by omega)).trans hS4.1, (setRow_other _ _ _ _ (by omega)).trans hS4.2⟩
        have hPAn := pAt_sepR hPA hRA #[.slice a7 n7 c7]
        have hPBn := pAt_sepR hPB hRA #[.slice a7 n7 c7]
        have hRBn : Rows8 (v4.setRow bA #[.slice a7 n7 c7]) bB 24 _ := (setRow_other _ _ _ _ (by omega)).trans hRB
        have hRAn : Rows8 (v4.setRow bA #[.slice a7 n7 c7]) bA 24 #[.slice a7 n7 c7] := setRow_heap _ _ _ _ _ _ hRA
        clear hPA hPB hRA hRB
        have hPA := hPAn
        have hPB := hPBn
        have hRA := hRAn
        have hRB := hRBn
        clear hPAn hPBn hRAn hRBn
        refine hK.out _ _ (fun _ => hS5) ?_
        clear hK K
        try simp only [Act.put, List.setIfInBounds_toArray, List.set_cons_zero, List.set_cons_succ]
        generalize (v4.setRow bA #[.slice a7 n7 c7]) = v5 at *
        refine wpAnyX_one (i := 7) (o := { dst := none, op := Go.Op.store 24 (Go.Operand.tmp 8) (Go.Operand.tmp 31), type := 0, pos := "law.go:43", after := #[{ on := 5, ground := Go.Ground.data }, { on := 3, ground := Go.Ground.data }, { on := 6, ground := Go.Ground.chain }, { on := 0, ground := Go.Ground.phase }, { on := 1, ground := Go.Ground.phase }, { on := 2, ground := Go.Ground.phase }, { on := 3, ground := Go.Ground.phase }, { on := 4, ground := Go.Ground.phase }, { on := 5, ground := Go.Ground.phase }, { on := 6, ground := Go.Ground.phase }], guard := none }) (by kernel_rfl) rfl (fun K hK => ?_)
        refine step_store_g (by rfl) 24 _ _ rfl ⟨bB, 0, none⟩ (.agg #[.slice a8 n8 c8]) (by simp [go_sem]) (by simp [go_sem]) (run_storeVar_row (P := Try.prog) v5 bB 24 24 _ #[.slice a8 n8 c8] hRB (by kernel_rfl) rfl (by simp [Value.oneCell'])) ?_
        have hB6 := below_setRow hB5 (show w.heap.size ≤ bB by omega) #[.slice a8 n8 c8]
        have hS6 : Rows8 (v5.setRow bB #[.slice a8 n8 c8]) w.heap.size 24 #[.slice ax nx cx] ∧ Rows8 (v5.setRow bB #[.slice a8 n8 c8]) (w.heap.size + 1) 24 #[.slice ay ny cy] := ⟨(setRow_other _ _ _ _ (by omega)).trans hS5.1, (setRow_other _ _ _ _ (by omega)).trans hS5.2⟩
        have hPAn := pAt_sepR hPA hRB #[.slice a8 n8 c8]
        have hPBn := pAt_sepR hPB hRB #[.slice a8 n8 c8]
        have hRAn : Rows8 (v5.setRow bB #[.slice a8 n8 c8]) bA 24 _ := (setRow_other _ _ _ _ (by omega)).trans hRA
        have hRBn : Rows8 (v5.setRow bB #[.slice a8 n8 c8]) bB 24 #[.slice a8 n8 c8] := setRow_heap _ _ _ _ _ _ hRB
        clear hPA hPB hRA hRB
        have hPA := hPAn
        have hPB := hPBn
        have hRA := hRAn
        have hRB := hRBn
        clear hPAn hPBn hRAn hRBn
        refine hK.out _ _ (fun _ => hS6) ?_
        clear hK K
        try simp only [Act.put, List.setIfInBounds_toArray, List.set_cons_zero, List.set_cons_succ]
        generalize (v5.setRow bB #[.slice a8 n8 c8]) = v6 at *
        refine wpAnyX_end (by kernel_rfl) ?_
        exact HK.out _ _ _ _ _ _ _ _ _ hA hB hS6.1 hRA hRB hPA hPB hB6
  · refine step_value_g (by rfl) (.pointer (some ⟨Wd.heap.size, 0, none⟩)) (w' := Wd.alloc (.cells #[.slice none 0 0] 24)) (by go_simp) ?_
    have hB1 := hB0.alloc hB0.size (.cells #[.slice none 0 0] 24)
    have hS1 : Rows8 (Wd.alloc (.cells #[.slice none 0 0] 24)) w.heap.size 24 #[.slice ax nx cx] ∧ Rows8 (Wd.alloc (.cells #[.slice none 0 0] 24)) (w.heap.size + 1) 24 #[.slice ay ny cy] := ⟨hS0.1.alloc _, hS0.2.alloc _⟩
    have hRA := Rows8.new Wd 24 #[.slice none 0 0]
    have hzA : w.heap.size + 1 < Wd.heap.size := hS0.2.lt
    refine hK.out _ _ (fun _ => hS1) ?_
    clear hK K
    try simp only [Act.put, List.setIfInBounds_toArray, List.set_cons_zero, List.set_cons_succ]
    generalize Wd.heap.size = bA at *
    generalize Wd.alloc (.cells #[.slice none 0 0] 24) = v1 at *
    refine wpAnyX_two (i := 1) (j := 5) (oi := { dst := some 29, op := Go.Op.call { callee := Go.Callee.value (Go.Operand.func 6), args := #[Go.Operand.tmp 28], argTypes := #[24] }, type := 24, pos := "law.go:43", after := #[{ on := 0, ground := Go.Ground.data }], guard := none }) (oj := { dst := some 8, op := Go.Op.alloc 24, type := 0, pos := "law.go:43", after := #[], guard := none }) (by kernel_rfl) rfl rfl (fun K hK => ?_) (fun K hK => ?_)
    · refine step_call_g (by rfl) 6 _ _ rfl (fun _ _ => by kernel_rfl) #[.agg #[.slice ax nx cx]] (by simp [go_sem]) _ (HOx v1 (PAt.below HI.out hB1)).out ?_
      rintro e v2 ⟨a7, n7, c7, rfl, hA, hOA, hC⟩
      refine ⟨_, rfl, ?_⟩
      have hS2 : Rows8 v2 w.heap.size 24 #[.slice ax nx cx] ∧ Rows8 v2 (w.heap.size + 1) 24 #[.slice ay ny cy] := ⟨hS1.1.below hC hS1.1.lt, hS1.2.below hC hS1.2.lt⟩
      have hB2 := hB1.trans (hC.mono hB1.size)
      have hPA := hOA.at
      have hRAn := hRA.below hC hRA.lt
      clear hRA
      have hRA := hRAn
      clear hRAn
      clear hC hOA
      refine hK.out _ _ (fun _ => hS2) ?_
      clear hK K
      try simp only [Act.put, List.setIfInBounds_toArray, List.set_cons_zero, List.set_cons_succ]
      refine wpAnyX_two (i := 3) (j := 5) (oi := { dst := some 31, op := Go.Op.call { callee := Go.Callee.value (Go.Operand.func 6), args := #[Go.Operand.tmp 30], argTypes := #[24] }, type := 24, pos := "law.go:43", after := #[{ on := 2, ground := Go.Ground.data }, { on := 1, ground := Go.Ground.chain }], guard := none }) (oj := { dst := some 8, op := Go.Op.alloc 24, type := 0, pos := "law.go:43", after := #[], guard := none }) (by kernel_rfl) rfl rfl (fun K hK => ?_) (fun K hK => ?_)
      · refine step_call_g (by rfl) 6 _ _ rfl (fun _ _ => by kernel_rfl) #[.agg #[.slice ay ny cy]] (by simp [go_sem]) _ (HOy v2 (PAt.below HJ.out hB2)).out ?_
        rintro e v3 ⟨a8, n8, c8, rfl, hB, hOB, hC⟩
        refine ⟨_, rfl, ?_⟩
        have hS3 : Rows8 v3 w.heap.size 24 #[.slice ax nx cx] ∧ Rows8 v3 (w.heap.size + 1) 24 #[.slice ay ny cy] := ⟨hS2.1.below hC hS2.1.lt, hS2.2.below hC hS2.2.lt⟩
        have hB3 := hB2.trans (hC.mono hB2.size)
        have hPB := hOB.at
        have hPAn := PAt.below hPA hC
        clear hPA
        have hPA := hPAn
        clear hPAn
        have hRAn := hRA.below hC hRA.lt
        clear hRA
        have hRA := hRAn
        clear hRAn
        clear hC hOB
        refine hK.out _ _ (fun _ => hS3) ?_
        clear hK K
        try simp only [Act.put, List.setIfInBounds_toArray, List.set_cons_zero, List.set_cons_succ]
        refine wpAnyX_one (i := 5) (o := { dst := some 8, op := Go.Op.alloc 24, type := 0, pos := "law.go:43", after := #[], guard := none }) (by kernel_rfl) rfl (fun K hK => ?_)
        refine step_value_g (by rfl) (.pointer (some ⟨v3.heap.size, 0, none⟩)) (w' := v3.alloc (.cells #[.slice none 0 0] 24)) (by go_simp) ?_
        have hB4 := hB3.alloc hB3.size (.cells #[.slice none 0 0] 24)
        have hS4 : Rows8 (v3.alloc (.cells #[.slice none 0 0] 24)) w.heap.size 24 #[.slice ax nx cx] ∧ Rows8 (v3.alloc (.cells #[.slice none 0 0] 24)) (w.heap.size + 1) 24 #[.slice ay ny cy] := ⟨hS3.1.alloc _, hS3.2.alloc _⟩
        have hRB := Rows8.new v3 24 #[.slice none 0 0]
        have hzB : w.heap.size + 1 < v3.heap.size := hS3.2.lt
        have hPAn : PAt (v3.alloc (.cells #[.slice none 0 0] 24)) _ _ := PAt.below hPA Rows8.newB
        clear hPA
        have hPA := hPAn
        clear hPAn
        have hPBn : PAt (v3.alloc (.cells #[.slice none 0 0] 24)) _ _ := PAt.below hPB Rows8.newB
        clear hPB
        have hPB := hPBn
        clear hPBn
        have hNE : bA < v3.heap.size := hRA.lt
        have hRAn := hRA.alloc (.cells #[.slice none 0 0] 24)
        clear hRA
        have hRA := hRAn
        clear hRAn
        refine hK.out _ _ (fun _ => hS4) ?_
        clear hK K
        try simp only [Act.put, List.setIfInBounds_toArray, List.set_cons_zero, List.set_cons_succ]
        generalize v3.heap.size = bB at *
        generalize v3.alloc (.cells #[.slice none 0 0] 24) = v4 at *
        refine wpAnyX_one (i := 6) (o := { dst := none, op := Go.Op.store 24 (Go.Operand.tmp 7) (Go.Operand.tmp 29), type := 0, pos := "law.go:43", after := #[{ on := 4, ground := Go.Ground.data }, { on := 1, ground := Go.Ground.data }, { on := 3, ground := Go.Ground.chain }, { on := 0, ground := Go.Ground.phase }, { on := 1, ground := Go.Ground.phase }, { on := 2, ground := Go.Ground.textOnly Go.Departure.lateStores }, { on := 3, ground := Go.Ground.textOnly Go.Departure.lateStoresUnsure }, { on := 4, ground := Go.Ground.phase }, { on := 5, ground := Go.Ground.phase }], guard := none }) (by kernel_rfl) rfl (fun K hK => ?_)
        refine step_store_g (by rfl) 24 _ _ rfl ⟨bA, 0, none⟩ (.agg #[.slice a7 n7 c7]) (by simp [go_sem]) (by simp [go_sem]) (run_storeVar_row (P := Try.prog) v4 bA 24 24 _ #[.slice a7 n7 c7] hRA (by kernel_rfl) rfl (by simp [Value.oneCell'])) ?_
        have hB5 := below_setRow hB4 (show w.heap.size ≤ bA by omega) #[.slice a7 n7 c7]
        have hS5 : Rows8 (v4.setRow bA #[.slice a7 n7 c7]) w.heap.size 24 #[.slice ax nx cx] ∧ Rows8 (v4.setRow bA #[.slice a7 n7 c7]) (w.heap.size + 1) 24 #[.slice ay ny cy] := ⟨(setRow_other _ _ _ _ (by omega)).trans hS4.1, (setRow_other _ _ _ _ (by omega)).trans hS4.2⟩
        have hPAn := pAt_sepR hPA hRA #[.slice a7 n7 c7]
        have hPBn := pAt_sepR hPB hRA #[.slice a7 n7 c7]
        have hRBn : Rows8 (v4.setRow bA #[.slice a7 n7 c7]) bB 24 _ := (setRow_other _ _ _ _ (by omega)).trans hRB
        have hRAn : Rows8 (v4.setRow bA #[.slice a7 n7 c7]) bA 24 #[.slice a7 n7 c7] := setRow_heap _ _ _ _ _ _ hRA
        clear hPA hPB hRA hRB
        have hPA := hPAn
        have hPB := hPBn
        have hRA := hRAn
        have hRB := hRBn
        clear hPAn hPBn hRAn hRBn
        refine hK.out _ _ (fun _ => hS5) ?_
        clear hK K
        try simp only [Act.put, List.setIfInBounds_toArray, List.set_cons_zero, List.set_cons_succ]
        generalize (v4.setRow bA #[.slice a7 n7 c7]) = v5 at *
        refine wpAnyX_one (i := 7) (o := { dst := none, op := Go.Op.store 24 (Go.Operand.tmp 8) (Go.Operand.tmp 31), type := 0, pos := "law.go:43", after := #[{ on := 5, ground := Go.Ground.data }, { on := 3, ground := Go.Ground.data }, { on := 6, ground := Go.Ground.chain }, { on := 0, ground := Go.Ground.phase }, { on := 1, ground := Go.Ground.phase }, { on := 2, ground := Go.Ground.phase }, { on := 3, ground := Go.Ground.phase }, { on := 4, ground := Go.Ground.phase }, { on := 5, ground := Go.Ground.phase }, { on := 6, ground := Go.Ground.phase }], guard := none }) (by kernel_rfl) rfl (fun K hK => ?_)
        refine step_store_g (by rfl) 24 _ _ rfl ⟨bB, 0, none⟩ (.agg #[.slice a8 n8 c8]) (by simp [go_sem]) (by simp [go_sem]) (run_storeVar_row (P := Try.prog) v5 bB 24 24 _ #[.slice a8 n8 c8] hRB (by kernel_rfl) rfl (by simp [Value.oneCell'])) ?_
        have hB6 := below_setRow hB5 (show w.heap.size ≤ bB by omega) #[.slice a8 n8 c8]
        have hS6 : Rows8 (v5.setRow bB #[.slice a8 n8 c8]) w.heap.size 24 #[.slice ax nx cx] ∧ Rows8 (v5.setRow bB #[.slice a8 n8 c8]) (w.heap.size + 1) 24 #[.slice ay ny cy] := ⟨(setRow_other _ _ _ _ (by omega)).trans hS5.1, (setRow_other _ _ _ _ (by omega)).trans hS5.2⟩
        have hPAn := pAt_sepR hPA hRB #[.slice a8 n8 c8]
        have hPBn := pAt_sepR hPB hRB #[.slice a8 n8 c8]
        have hRAn : Rows8 (v5.setRow bB #[.slice a8 n8 c8]) bA 24 _ := (setRow_other _ _ _ _ (by omega)).trans hRA
        have hRBn : Rows8 (v5.setRow bB #[.slice a8 n8 c8]) bB 24 #[.slice a8 n8 c8] := setRow_heap _ _ _ _ _ _ hRB
        clear hPA hPB hRA hRB
        have hPA := hPAn
        have hPB := hPBn
        have hRA := hRAn
        have hRB := hRBn
        clear hPAn hPBn hRAn hRBn
        refine hK.out _ _ (fun _ => hS6) ?_
        clear hK K
        try simp only [Act.put, List.setIfInBounds_toArray, List.set_cons_zero, List.set_cons_succ]
        generalize (v5.setRow bB #[.slice a8 n8 c8]) = v6 at *
        refine wpAnyX_end (by kernel_rfl) ?_
        exact HK.out _ _ _ _ _ _ _ _ _ hA hB hS6.1 hRA hRB hPA hPB hB6
      · refine step_value_g (by rfl) (.pointer (some ⟨v2.heap.size, 0, none⟩)) (w' := v2.alloc (.cells #[.slice none 0 0] 24)) (by go_simp) ?_
        have hB3 := hB2.alloc hB2.size (.cells #[.slice none 0 0] 24)
        have hS3 : Rows8 (v2.alloc (.cells #[.slice none 0 0] 24)) w.heap.size 24 #[.slice ax nx cx] ∧ Rows8 (v2.alloc (.cells #[.slice none 0 0] 24)) (w.heap.size + 1) 24 #[.slice ay ny cy] := ⟨hS2.1.alloc _, hS2.2.alloc _⟩
        have hRB := Rows8.new v2 24 #[.slice none 0 0]
        have hzB : w.heap.size + 1 < v2.heap.size := hS2.2.lt
        have hPAn : PAt (v2.alloc (.cells #[.slice none 0 0] 24)) _ _ := PAt.below hPA Rows8.newB
        clear hPA
        have hPA := hPAn
        clear hPAn
        have hNE : bA < v2.heap.size := hRA.lt
        have hRAn := hRA.alloc (.cells #[.slice none 0 0] 24)
        clear hRA
        have hRA := hRAn
        clear hRAn
        refine hK.out _ _ (fun _ => hS3) ?_
        clear hK K
        try simp only [Act.put, List.setIfInBounds_toArray, List.set_cons_zero, List.set_cons_succ]
        generalize v2.heap.size = bB at *
        generalize v2.alloc (.cells #[.slice none 0 0] 24) = v3 at *
        refine wpAnyX_one (i := 3) (o := { dst := some 31, op := Go.Op.call { callee := Go.Callee.value (Go.Operand.func 6), args := #[Go.Operand.tmp 30], argTypes := #[24] }, type := 24, pos := "law.go:43", after := #[{ on := 2, ground := Go.Ground.data }, { on := 1, ground := Go.Ground.chain }], guard := none }) (by kernel_rfl) rfl (fun K hK => ?_)
        refine step_call_g (by rfl) 6 _ _ rfl (fun _ _ => by kernel_rfl) #[.agg #[.slice ay ny cy]] (by simp [go_sem]) _ (HOy v3 (PAt.below HJ.out hB3)).out ?_
        rintro e v4 ⟨a8, n8, c8, rfl, hB, hOB, hC⟩
        refine ⟨_, rfl, ?_⟩
        have hS4 : Rows8 v4 w.heap.size 24 #[.slice ax nx cx] ∧ Rows8 v4 (w.heap.size + 1) 24 #[.slice ay ny cy] := ⟨hS3.1.below hC hS3.1.lt, hS3.2.below hC hS3.2.lt⟩
        have hB4 := hB3.trans (hC.mono hB3.size)
        have hPB := hOB.at
        have hPAn := PAt.below hPA hC
        clear hPA
        have hPA := hPAn
        clear hPAn
        have hRAn := hRA.below hC hRA.lt
        clear hRA
        have hRA := hRAn
        clear hRAn
        have hRBn := hRB.below hC hRB.lt
        clear hRB
        have hRB := hRBn
        clear hRBn
        clear hC hOB
        refine hK.out _ _ (fun _ => hS4) ?_
        clear hK K
        try simp only [Act.put, List.setIfInBounds_toArray, List.set_cons_zero, List.set_cons_succ]
        refine wpAnyX_one (i := 6) (o := { dst := none, op := Go.Op.store 24 (Go.Operand.tmp 7) (Go.Operand.tmp 29), type := 0, pos := "law.go:43", after := #[{ on := 4, ground := Go.Ground.data }, { on := 1, ground := Go.Ground.data }, { on := 3, ground := Go.Ground.chain }, { on := 0, ground := Go.Ground.phase }, { on := 1, ground := Go.Ground.phase }, { on := 2, ground := Go.Ground.textOnly Go.Departure.lateStores }, { on := 3, ground := Go.Ground.textOnly Go.Departure.lateStoresUnsure }, { on := 4, ground := Go.Ground.phase }, { on := 5, ground := Go.Ground.phase }], guard := none }) (by kernel_rfl) rfl (fun K hK => ?_)
        refine step_store_g (by rfl) 24 _ _ rfl ⟨bA, 0, none⟩ (.agg #[.slice a7 n7 c7]) (by simp [go_sem]) (by simp [go_sem]) (run_storeVar_row (P := Try.prog) v4 bA 24 24 _ #[.slice a7 n7 c7] hRA (by kernel_rfl) rfl (by simp [Value.oneCell'])) ?_
        have hB5 := below_setRow hB4 (show w.heap.size ≤ bA by omega) #[.slice a7 n7 c7]
        have hS5 : Rows8 (v4.setRow bA #[.slice a7 n7 c7]) w.heap.size 24 #[.slice ax nx cx] ∧ Rows8 (v4.setRow bA #[.slice a7 n7 c7]) (w.heap.size + 1) 24 #[.slice ay ny cy] := ⟨(setRow_other _ _ _ _ (by omega)).trans hS4.1, (setRow_other _ _ _ _ (by omega)).trans hS4.2⟩
        have hPAn := pAt_sepR hPA hRA #[.slice a7 n7 c7]
        have hPBn := pAt_sepR hPB hRA #[.slice a7 n7 c7]
        have hRBn : Rows8 (v4.setRow bA #[.slice a7 n7 c7]) bB 24 _ := (setRow_other _ _ _ _ (by omega)).trans hRB
        have hRAn : Rows8 (v4.setRow bA #[.slice a7 n7 c7]) bA 24 #[.slice a7 n7 c7] := setRow_heap _ _ _ _ _ _ hRA
        clear hPA hPB hRA hRB
        have hPA := hPAn
        have hPB := hPBn
        have hRA := hRAn
        have hRB := hRBn
        clear hPAn hPBn hRAn hRBn
        refine hK.out _ _ (fun _ => hS5) ?_
        clear hK K
        try simp only [Act.put, List.setIfInBounds_toArray, List.set_cons_zero, List.set_cons_succ]
        generalize (v4.setRow bA #[.slice a7 n7 c7]) = v5 at *
        refine wpAnyX_one (i := 7) (o := { dst := none, op := Go.Op.store 24 (Go.Operand.tmp 8) (Go.Operand.tmp 31), type := 0, pos := "law.go:43", after := #[{ on := 5, ground := Go.Ground.data }, { on := 3, ground := Go.Ground.data }, { on := 6, ground := Go.Ground.chain }, { on := 0, ground := Go.Ground.phase }, { on := 1, ground := Go.Ground.phase }, { on := 2, ground := Go.Ground.phase }, { on := 3, ground := Go.Ground.phase }, { on := 4, ground := Go.Ground.phase }, { on := 5, ground := Go.Ground.phase }, { on := 6, ground := Go.Ground.phase }], guard := none }) (by kernel_rfl) rfl (fun K hK => ?_)
        refine step_store_g (by rfl) 24 _ _ rfl ⟨bB, 0, none⟩ (.agg #[.slice a8 n8 c8]) (by simp [go_sem]) (by simp [go_sem]) (run_storeVar_row (P := Try.prog) v5 bB 24 24 _ #[.slice a8 n8 c8] hRB (by kernel_rfl) rfl (by simp [Value.oneCell'])) ?_
        have hB6 := below_setRow hB5 (show w.heap.size ≤ bB by omega) #[.slice a8 n8 c8]
        have hS6 : Rows8 (v5.setRow bB #[.slice a8 n8 c8]) w.heap.size 24 #[.slice ax nx cx] ∧ Rows8 (v5.setRow bB #[.slice a8 n8 c8]) (w.heap.size + 1) 24 #[.slice ay ny cy] := ⟨(setRow_other _ _ _ _ (by omega)).trans hS5.1, (setRow_other _ _ _ _ (by omega)).trans hS5.2⟩
        have hPAn := pAt_sepR hPA hRB #[.slice a8 n8 c8]
        have hPBn := pAt_sepR hPB hRB #[.slice a8 n8 c8]
        have hRAn : Rows8 (v5.setRow bB #[.slice a8 n8 c8]) bA 24 _ := (setRow_other _ _ _ _ (by omega)).trans hRA
        have hRBn : Rows8 (v5.setRow bB #[.slice a8 n8 c8]) bB 24 #[.slice a8 n8 c8] := setRow_heap _ _ _ _ _ _ hRB
        clear hPA hPB hRA hRB
        have hPA := hPAn
        have hPB := hPBn
        have hRA := hRAn
        have hRB := hRBn
        clear hPAn hPBn hRAn hRBn
        refine hK.out _ _ (fun _ => hS6) ?_
        clear hK K
        try simp only [Act.put, List.setIfInBounds_toArray, List.set_cons_zero, List.set_cons_succ]
        generalize (v5.setRow bB #[.slice a8 n8 c8]) = v6 at *
        refine wpAnyX_end (by kernel_rfl) ?_
        exact HK.out _ _ _ _ _ _ _ _ _ hA hB hS6.1 hRA hRB hPA hPB hB6
    · refine step_value_g (by rfl) (.pointer (some ⟨v1.heap.size, 0, none⟩)) (w' := v1.alloc (.cells #[.slice none 0 0] 24)) (by go_simp) ?_
      have hB2 := hB1.alloc hB1.size (.cells #[.slice none 0 0] 24)
      have hS2 : Rows8 (v1.alloc (.cells #[.slice none 0 0] 24)) w.heap.size 24 #[.slice ax nx cx] ∧ Rows8 (v1.alloc (.cells #[.slice none 0 0] 24)) (w.heap.size + 1) 24 #[.slice ay ny cy] := ⟨hS1.1.alloc _, hS1.2.alloc _⟩
      have hRB := Rows8.new v1 24 #[.slice none 0 0]
      have hzB : w.heap.size + 1 < v1.heap.size := hS1.2.lt
      have hNE : bA < v1.heap.size := hRA.lt
      have hRAn := hRA.alloc (.cells #[.slice none 0 0] 24)
      clear hRA
      have hRA := hRAn
      clear hRAn
      refine hK.out _ _ (fun _ => hS2) ?_
      clear hK K
      try simp only [Act.put, List.setIfInBounds_toArray, List.set_cons_zero, List.set_cons_succ]
      generalize v1.heap.size = bB at *
      generalize v1.alloc (.cells #[.slice none 0 0] 24) = v2 at *
      refine wpAnyX_one (i := 1) (o := { dst := some 29, op := Go.Op.call { callee := Go.Callee.value (Go.Operand.func 6), args := #[Go.Operand.tmp 28], argTypes := #[24] }, type := 24, pos := "law.go:43", after := #[{ on := 0, ground := Go.Ground.data }], guard := none }) (by kernel_rfl) rfl (fun K hK => ?_)
      refine step_call_g (by rfl) 6 _ _ rfl (fun _ _ => by kernel_rfl) #[.agg #[.slice ax nx cx]] (by simp [go_sem]) _ (HOx v2 (PAt.below HI.out hB2)).out ?_
      rintro e v3 ⟨a7, n7, c7, rfl, hA, hOA, hC⟩
      refine ⟨_, rfl, ?_⟩
      have hS3 : Rows8 v3 w.heap.size 24 #[.slice ax nx cx] ∧ Rows8 v3 (w.heap.size + 1) 24 #[.slice ay ny cy] := ⟨hS2.1.below hC hS2.1.lt, hS2.2.below hC hS2.2.lt⟩
      have hB3 := hB2.trans (hC.mono hB2.size)
      have hPA := hOA.at
      have hRAn := hRA.below hC hRA.lt
      clear hRA
      have hRA := hRAn
      clear hRAn
      have hRBn := hRB.below hC hRB.lt
      clear hRB
      have hRB := hRBn
      clear hRBn
      clear hC hOA
      refine hK.out _ _ (fun _ => hS3) ?_
      clear hK K
      try simp only [Act.put, List.setIfInBounds_toArray, List.set_cons_zero, List.set_cons_succ]
      refine wpAnyX_one (i := 3) (o := { dst := some 31, op := Go.Op.call { callee := Go.Callee.value (Go.Operand.func 6), args := #[Go.Operand.tmp 30], argTypes := #[24] }, type := 24, pos := "law.go:43", after := #[{ on := 2, ground := Go.Ground.data }, { on := 1, ground := Go.Ground.chain }], guard := none }) (by kernel_rfl) rfl (fun K hK => ?_)
      refine step_call_g (by rfl) 6 _ _ rfl (fun _ _ => by kernel_rfl) #[.agg #[.slice ay ny cy]] (by simp [go_sem]) _ (HOy v3 (PAt.below HJ.out hB3)).out ?_
      rintro e v4 ⟨a8, n8, c8, rfl, hB, hOB, hC⟩
      refine ⟨_, rfl, ?_⟩
      have hS4 : Rows8 v4 w.heap.size 24 #[.slice ax nx cx] ∧ Rows8 v4 (w.heap.size + 1) 24 #[.slice ay ny cy] := ⟨hS3.1.below hC hS3.1.lt, hS3.2.below hC hS3.2.lt⟩
      have hB4 := hB3.trans (hC.mono hB3.size)
      have hPB := hOB.at
      have hPAn := PAt.below hPA hC
      clear hPA
      have hPA := hPAn
      clear hPAn
      have hRAn := hRA.below hC hRA.lt
      clear hRA
      have hRA := hRAn
      clear hRAn
      have hRBn := hRB.below hC hRB.lt
      clear hRB
      have hRB := hRBn
      clear hRBn
      clear hC hOB
      refine hK.out _ _ (fun _ => hS4) ?_
      clear hK K
      try simp only [Act.put, List.setIfInBounds_toArray, List.set_cons_zero, List.set_cons_succ]
      refine wpAnyX_one (i := 6) (o := { dst := none, op := Go.Op.store 24 (Go.Operand.tmp 7) (Go.Operand.tmp 29), type := 0, pos := "law.go:43", after := #[{ on := 4, ground := Go.Ground.data }, { on := 1, ground := Go.Ground.data }, { on := 3, ground := Go.Ground.chain }, { on := 0, ground := Go.Ground.phase }, { on := 1, ground := Go.Ground.phase }, { on := 2, ground := Go.Ground.textOnly Go.Departure.lateStores }, { on := 3, ground := Go.Ground.textOnly Go.Departure.lateStoresUnsure }, { on := 4, ground := Go.Ground.phase }, { on := 5, ground := Go.Ground.phase }], guard := none }) (by kernel_rfl) rfl (fun K hK => ?_)
      refine step_store_g (by rfl) 24 _ _ rfl ⟨bA, 0, none⟩ (.agg #[.slice a7 n7 c7]) (by simp [go_sem]) (by simp [go_sem]) (run_storeVar_row (P := Try.prog) v4 bA 24 24 _ #[.slice a7 n7 c7] hRA (by kernel_rfl) rfl (by simp [Value.oneCell'])) ?_
      have hB5 := below_setRow hB4 (show w.heap.size ≤ bA by omega) #[.slice a7 n7 c7]
      have hS5 : Rows8 (v4.setRow bA #[.slice a7 n7 c7]) w.heap.size 24 #[.slice ax nx cx] ∧ Rows8 (v4.setRow bA #[.slice a7 n7 c7]) (w.heap.size + 1) 24 #[.slice ay ny cy] := ⟨(setRow_other _ _ _ _ (by omega)).trans hS4.1, (setRow_other _ _ _ _ (by omega)).trans hS4.2⟩
      have hPAn := pAt_sepR hPA hRA #[.slice a7 n7 c7]
      have hPBn := pAt_sepR hPB hRA #[.slice a7 n7 c7]
      have hRBn : Rows8 (v4.setRow bA #[.slice a7 n7 c7]) bB 24 _ := (setRow_other _ _ _ _ (by omega)).trans hRB
      have hRAn : Rows8 (v4.setRow bA #[.slice a7 n7 c7]) bA 24 #[.slice a7 n7 c7] := setRow_heap _ _ _ _ _ _ hRA
      clear hPA hPB hRA hRB
      have hPA := hPAn
      have hPB := hPBn
      have hRA := hRAn
      have hRB := hRBn
      clear hPAn hPBn hRAn hRBn
      refine hK.out _ _ (fun _ => hS5) ?_
      clear hK K
      try simp only [Act.put, List.setIfInBounds_toArray, List.set_cons_zero, List.set_cons_succ]
      generalize (v4.setRow bA #[.slice a7 n7 c7]) = v5 at *
      refine wpAnyX_one (i := 7) (o := { dst := none, op := Go.Op.store 24 (Go.Operand.tmp 8) (Go.Operand.tmp 31), type := 0, pos := "law.go:43", after := #[{ on := 5, ground := Go.Ground.data }, { on := 3, ground := Go.Ground.data }, { on := 6, ground := Go.Ground.chain }, { on := 0, ground := Go.Ground.phase }, { on := 1, ground := Go.Ground.phase }, { on := 2, ground := Go.Ground.phase }, { on := 3, ground := Go.Ground.phase }, { on := 4, ground := Go.Ground.phase }, { on := 5, ground := Go.Ground.phase }, { on := 6, ground := Go.Ground.phase }], guard := none }) (by kernel_rfl) rfl (fun K hK => ?_)
      refine step_store_g (by rfl) 24 _ _ rfl ⟨bB, 0, none⟩ (.agg #[.slice a8 n8 c8]) (by simp [go_sem]) (by simp [go_sem]) (run_storeVar_row (P := Try.prog) v5 bB 24 24 _ #[.slice a8 n8 c8] hRB (by kernel_rfl) rfl (by simp [Value.oneCell'])) ?_
      have hB6 := below_setRow hB5 (show w.heap.size ≤ bB by omega) #[.slice a8 n8 c8]
      have hS6 : Rows8 (v5.setRow bB #[.slice a8 n8 c8]) w.heap.size 24 #[.slice ax nx cx] ∧ Rows8 (v5.setRow bB #[.slice a8 n8 c8]) (w.heap.size + 1) 24 #[.slice ay ny cy] := ⟨(setRow_other _ _ _ _ (by omega)).trans hS5.1, (setRow_other _ _ _ _ (by omega)).trans hS5.2⟩
      have hPAn := pAt_sepR hPA hRB #[.slice a8 n8 c8]
      have hPBn := pAt_sepR hPB hRB #[.slice a8 n8 c8]
      have hRAn : Rows8 (v5.setRow bB #[.slice a8 n8 c8]) bA 24 _ := (setRow_other _ _ _ _ (by omega)).trans hRA
      have hRBn : Rows8 (v5.setRow bB #[.slice a8 n8 c8]) bB 24 #[.slice a8 n8 c8] := setRow_heap _ _ _ _ _ _ hRB
      clear hPA hPB hRA hRB
      have hPA := hPAn
      have hPB := hPBn
      have hRA := hRAn
      have hRB := hRBn
      clear hPAn hPBn hRAn hRBn
      refine hK.out _ _ (fun _ => hS6) ?_
      clear hK K
      try simp only [Act.put, List.setIfInBounds_toArray, List.set_cons_zero, List.set_cons_succ]
      generalize (v5.setRow bB #[.slice a8 n8 c8]) = v6 at *
      refine wpAnyX_end (by kernel_rfl) ?_
      exact HK.out _ _ _ _ _ _ _ _ _ hA hB hS6.1 hRA hRB hPA hPB hB6
  · refine step_value_g (by rfl) (.pointer (some ⟨Wd.heap.size, 0, none⟩)) (w' := Wd.alloc (.cells #[.slice none 0 0] 24)) (by go_simp) ?_
    have hB1 := hB0.alloc hB0.size (.cells #[.slice none 0 0] 24)
    have hS1 : Rows8 (Wd.alloc (.cells #[.slice none 0 0] 24)) w.heap.size 24 #[.slice ax nx cx] ∧ Rows8 (Wd.alloc (.cells #[.slice none 0 0] 24)) (w.heap.size + 1) 24 #[.slice ay ny cy] := ⟨hS0.1.alloc _, hS0.2.alloc _⟩
    have hRB := Rows8.new Wd 24 #[.slice none 0 0]
    have hzB : w.heap.size + 1 < Wd.heap.size := hS0.2.lt
    refine hK.out _ _ (fun _ => hS1) ?_
    clear hK K
    try simp only [Act.put, List.setIfInBounds_toArray, List.set_cons_zero, List.set_cons_succ]
    generalize Wd.heap.size = bB at *
    generalize Wd.alloc (.cells #[.slice none 0 0] 24) = v1 at *
    refine wpAnyX_two (i := 1) (j := 4) (oi := { dst := some 29, op := Go.Op.call { callee := Go.Callee.value (Go.Operand.func 6), args := #[Go.Operand.tmp 28], argTypes := #[24] }, type := 24, pos := "law.go:43", after := #[{ on := 0, ground := Go.Ground.data }], guard := none }) (oj := { dst := some 7, op := Go.Op.alloc 24, type := 0, pos := "law.go:43", after := #[], guard := none }) (by kernel_rfl) rfl rfl (fun K hK => ?_) (fun K hK => ?_)
    · refine step_call_g (by rfl) 6 _ _ rfl (fun _ _ => by kernel_rfl) #[.agg #[.slice ax nx cx]] (by simp [go_sem]) _ (HOx v1 (PAt.below HI.out hB1)).out ?_
      rintro e v2 ⟨a7, n7, c7, rfl, hA, hOA, hC⟩
      refine ⟨_, rfl, ?_⟩
      have hS2 : Rows8 v2 w.heap.size 24 #[.slice ax nx cx] ∧ Rows8 v2 (w.heap.size + 1) 24 #[.slice ay ny cy] := ⟨hS1.1.below hC hS1.1.lt, hS1.2.below hC hS1.2.lt⟩
      have hB2 := hB1.trans (hC.mono hB1.size)
      have hPA := hOA.at
      have hRBn := hRB.below hC hRB.lt
      clear hRB
      have hRB := hRBn
      clear hRBn
      clear hC hOA
      refine hK.out _ _ (fun _ => hS2) ?_
      clear hK K
      try simp only [Act.put, List.setIfInBounds_toArray, List.set_cons_zero, List.set_cons_succ]
      refine wpAnyX_two (i := 3) (j := 4) (oi := { dst := some 31, op := Go.Op.call { callee := Go.Callee.value (Go.Operand.func 6), args := #[Go.Operand.tmp 30], argTypes := #[24] }, type := 24, pos := "law.go:43", after := #[{ on := 2, ground := Go.Ground.data }, { on := 1, ground := Go.Ground.chain }], guard := none }) (oj := { dst := some 7, op := Go.Op.alloc 24, type := 0, pos := "law.go:43", after := #[], guard := none }) (by kernel_rfl) rfl rfl (fun K hK => ?_) (fun K hK => ?_)
      · refine step_call_g (by rfl) 6 _ _ rfl (fun _ _ => by kernel_rfl) #[.agg #[.slice ay ny cy]] (by simp [go_sem]) _ (HOy v2 (PAt.below HJ.out hB2)).out ?_
        rintro e v3 ⟨a8, n8, c8, rfl, hB, hOB, hC⟩
        refine ⟨_, rfl, ?_⟩
        have hS3 : Rows8 v3 w.heap.size 24 #[.slice ax nx cx] ∧ Rows8 v3 (w.heap.size + 1) 24 #[.slice ay ny cy] := ⟨hS2.1.below hC hS2.1.lt, hS2.2.below hC hS2.2.lt⟩
        have hB3 := hB2.trans (hC.mono hB2.size)
        have hPB := hOB.at
        have hPAn := PAt.below hPA hC
        clear hPA
        have hPA := hPAn
        clear hPAn
        have hRBn := hRB.below hC hRB.lt
        clear hRB
        have hRB := hRBn
        clear hRBn
        clear hC hOB
        refine hK.out _ _ (fun _ => hS3) ?_
        clear hK K
        try simp only [Act.put, List.setIfInBounds_toArray, List.set_cons_zero, List.set_cons_succ]
        refine wpAnyX_one (i := 4) (o := { dst := some 7, op := Go.Op.alloc 24, type := 0, pos := "law.go:43", after := #[], guard := none }) (by kernel_rfl) rfl (fun K hK => ?_)
        refine step_value_g (by rfl) (.pointer (some ⟨v3.heap.size, 0, none⟩)) (w' := v3.alloc (.cells #[.slice none 0 0] 24)) (by go_simp) ?_
        have hB4 := hB3.alloc hB3.size (.cells #[.slice none 0 0] 24)
        have hS4 : Rows8 (v3.alloc (.cells #[.slice none 0 0] 24)) w.heap.size 24 #[.slice ax nx cx] ∧ Rows8 (v3.alloc (.cells #[.slice none 0 0] 24)) (w.heap.size + 1) 24 #[.slice ay ny cy] := ⟨hS3.1.alloc _, hS3.2.alloc _⟩
        have hRA := Rows8.new v3 24 #[.slice none 0 0]
        have hzA : w.heap.size + 1 < v3.heap.size := hS3.2.lt
        have hPAn : PAt (v3.alloc (.cells #[.slice none 0 0] 24)) _ _ := PAt.below hPA Rows8.newB
        clear hPA
        have hPA := hPAn
        clear hPAn
        have hPBn : PAt (v3.alloc (.cells #[.slice none 0 0] 24)) _ _ := PAt.below hPB Rows8.newB
        clear hPB
        have hPB := hPBn
        clear hPBn
        have hNE : bB < v3.heap.size := hRB.lt
        have hRBn := hRB.alloc (.cells #[.slice none 0 0] 24)
        clear hRB
        have hRB := hRBn
        clear hRBn
        refine hK.out _ _ (fun _ => hS4) ?_
        clear hK K
        try simp only [Act.put, List.setIfInBounds_toArray, List.set_cons_zero, List.set_cons_succ]
        generalize v3.heap.size = bA at *
        generalize v3.alloc (.cells #[.slice none 0 0] 24) = v4 at *
        refine wpAnyX_one (i := 6) (o := { dst := none, op := Go.Op.store 24 (Go.Operand.tmp 7) (Go.Operand.tmp 29), type := 0, pos := "law.go:43", after := #[{ on := 4, ground := Go.Ground.data }, { on := 1, ground := Go.Ground.data }, { on := 3, ground := Go.Ground.chain }, { on := 0, ground := Go.Ground.phase }, { on := 1, ground := Go.Ground.phase }, { on := 2, ground := Go.Ground.textOnly Go.Departure.lateStores }, { on := 3, ground := Go.Ground.textOnly Go.Departure.lateStoresUnsure }, { on := 4, ground := Go.Ground.phase }, { on := 5, ground := Go.Ground.phase }], guard := none }) (by kernel_rfl) rfl (fun K hK => ?_)
        refine step_store_g (by rfl) 24 _ _ rfl ⟨bA, 0, none⟩ (.agg #[.slice a7 n7 c7]) (by simp [go_sem]) (by simp [go_sem]) (run_storeVar_row (P := Try.prog) v4 bA 24 24 _ #[.slice a7 n7 c7] hRA (by kernel_rfl) rfl (by simp [Value.oneCell'])) ?_
        have hB5 := below_setRow hB4 (show w.heap.size ≤ bA by omega) #[.slice a7 n7 c7]
        have hS5 : Rows8 (v4.setRow bA #[.slice a7 n7 c7]) w.heap.size 24 #[.slice ax nx cx] ∧ Rows8 (v4.setRow bA #[.slice a7 n7 c7]) (w.heap.size + 1) 24 #[.slice ay ny cy] := ⟨(setRow_other _ _ _ _ (by omega)).trans hS4.1, (setRow_other _ _ _ _ (by omega)).trans hS4.2⟩
        have hPAn := pAt_sepR hPA hRA #[.slice a7 n7 c7]
        have hPBn := pAt_sepR hPB hRA #[.slice a7 n7 c7]
        have hRBn : Rows8 (v4.setRow bA #[.slice a7 n7 c7]) bB 24 _ := (setRow_other _ _ _ _ (by omega)).trans hRB
        have hRAn : Rows8 (v4.setRow bA #[.slice a7 n7 c7]) bA 24 #[.slice a7 n7 c7] := setRow_heap _ _ _ _ _ _ hRA
        clear hPA hPB hRA hRB
        have hPA := hPAn
        have hPB := hPBn
        have hRA := hRAn
        have hRB := hRBn
        clear hPAn hPBn hRAn hRBn
        refine hK.out _ _ (fun _ => hS5) ?_
        clear hK K
        try simp only [Act.put, List.setIfInBounds_toArray, List.set_cons_zero, List.set_cons_succ]
        generalize (v4.setRow bA #[.slice a7 n7 c7]) = v5 at *
        refine wpAnyX_one (i := 7) (o := { dst := none, op := Go.Op.store 24 (Go.Operand.tmp 8) (Go.Operand.tmp 31), type := 0, pos := "law.go:43", after := #[{ on := 5, ground := Go.Ground.data }, { on := 3, ground := Go.Ground.data }, { on := 6, ground := Go.Ground.chain }, { on := 0, ground := Go.Ground.phase }, { on := 1, ground := Go.Ground.phase }, { on := 2, ground := Go.Ground.phase }, { on := 3, ground := Go.Ground.phase }, { on := 4, ground := Go.Ground.phase }, { on := 5, ground := Go.Ground.phase }, { on := 6, ground := Go.Ground.phase }], guard := none }) (by kernel_rfl) rfl (fun K hK => ?_)
        refine step_store_g (by rfl) 24 _ _ rfl ⟨bB, 0, none⟩ (.agg #[.slice a8 n8 c8]) (by simp [go_sem]) (by simp [go_sem]) (run_storeVar_row (P := Try.prog) v5 bB 24 24 _ #[.slice a8 n8 c8] hRB (by kernel_rfl) rfl (by simp [Value.oneCell'])) ?_
        have hB6 := below_setRow hB5 (show w.heap.size ≤ bB by omega) #[.slice a8 n8 c8]
        have hS6 : Rows8 (v5.setRow bB #[.slice a8 n8 c8]) w.heap.size 24 #[.slice ax nx cx] ∧ Rows8 (v5.setRow bB #[.slice a8 n8 c8]) (w.heap.size + 1) 24 #[.slice ay ny cy] := ⟨(setRow_other _ _ _ _ (by omega)).trans hS5.1, (setRow_other _ _ _ _ (by omega)).trans hS5.2⟩
        have hPAn := pAt_sepR hPA hRB #[.slice a8 n8 c8]
        have hPBn := pAt_sepR hPB hRB #[.slice a8 n8 c8]
        have hRAn : Rows8 (v5.setRow bB #[.slice a8 n8 c8]) bA 24 _ := (setRow_other _ _ _ _ (by omega)).trans hRA
        have hRBn : Rows8 (v5.setRow bB #[.slice a8 n8 c8]) bB 24 #[.slice a8 n8 c8] := setRow_heap _ _ _ _ _ _ hRB
        clear hPA hPB hRA hRB
        have hPA := hPAn
        have hPB := hPBn
        have hRA := hRAn
        have hRB := hRBn
        clear hPAn hPBn hRAn hRBn
        refine hK.out _ _ (fun _ => hS6) ?_
        clear hK K
        try simp only [Act.put, List.setIfInBounds_toArray, List.set_cons_zero, List.set_cons_succ]
        generalize (v5.setRow bB #[.slice a8 n8 c8]) = v6 at *
        refine wpAnyX_end (by kernel_rfl) ?_
        exact HK.out _ _ _ _ _ _ _ _ _ hA hB hS6.1 hRA hRB hPA hPB hB6
      · refine step_value_g (by rfl) (.pointer (some ⟨v2.heap.size, 0, none⟩)) (w' := v2.alloc (.cells #[.slice none 0 0] 24)) (by go_simp) ?_
        have hB3 := hB2.alloc hB2.size (.cells #[.slice none 0 0] 24)
        have hS3 : Rows8 (v2.alloc (.cells #[.slice none 0 0] 24)) w.heap.size 24 #[.slice ax nx cx] ∧ Rows8 (v2.alloc (.cells #[.slice none 0 0] 24)) (w.heap.size + 1) 24 #[.slice ay ny cy] := ⟨hS2.1.alloc _, hS2.2.alloc _⟩
        have hRA := Rows8.new v2 24 #[.slice none 0 0]
        have hzA : w.heap.size + 1 < v2.heap.size := hS2.2.lt
        have hPAn : PAt (v2.alloc (.cells #[.slice none 0 0] 24)) _ _ := PAt.below hPA Rows8.newB
        clear hPA
        have hPA := hPAn
        clear hPAn
        have hNE : bB < v2.heap.size := hRB.lt
        have hRBn := hRB.alloc (.cells #[.slice none 0 0] 24)
        clear hRB
        have hRB := hRBn
        clear hRBn
        refine hK.out _ _ (fun _ => hS3) ?_
        clear hK K
        try simp only [Act.put, List.setIfInBounds_toArray, List.set_cons_zero, List.set_cons_succ]
        generalize v2.heap.size = bA at *
        generalize v2.alloc (.cells #[.slice none 0 0] 24) = v3 at *
        refine wpAnyX_one (i := 3) (o := { dst := some 31, op := Go.Op.call { callee := Go.Callee.value (Go.Operand.func 6), args := #[Go.Operand.tmp 30], argTypes := #[24] }, type := 24, pos := "law.go:43", after := #[{ on := 2, ground := Go.Ground.data }, { on := 1, ground := Go.Ground.chain }], guard := none }) (by kernel_rfl) rfl (fun K hK => ?_)
        refine step_call_g (by rfl) 6 _ _ rfl (fun _ _ => by kernel_rfl) #[.agg #[.slice ay ny cy]] (by simp [go_sem]) _ (HOy v3 (PAt.below HJ.out hB3)).out ?_
        rintro e v4 ⟨a8, n8, c8, rfl, hB, hOB, hC⟩
        refine ⟨_, rfl, ?_⟩
        have hS4 : Rows8 v4 w.heap.size 24 #[.slice ax nx cx] ∧ Rows8 v4 (w.heap.size + 1) 24 #[.slice ay ny cy] := ⟨hS3.1.below hC hS3.1.lt, hS3.2.below hC hS3.2.lt⟩
        have hB4 := hB3.trans (hC.mono hB3.size)
        have hPB := hOB.at
        have hPAn := PAt.below hPA hC
        clear hPA
        have hPA := hPAn
        clear hPAn
        have hRAn := hRA.below hC hRA.lt
        clear hRA
        have hRA := hRAn
        clear hRAn
        have hRBn := hRB.below hC hRB.lt
        clear hRB
        have hRB := hRBn
        clear hRBn
        clear hC hOB
        refine hK.out _ _ (fun _ => hS4) ?_
        clear hK K
        try simp only [Act.put, List.setIfInBounds_toArray, List.set_cons_zero, List.set_cons_succ]
        refine wpAnyX_one (i := 6) (o := { dst := none, op := Go.Op.store 24 (Go.Operand.tmp 7) (Go.Operand.tmp 29), type := 0, pos := "law.go:43", after := #[{ on := 4, ground := Go.Ground.data }, { on := 1, ground := Go.Ground.data }, { on := 3, ground := Go.Ground.chain }, { on := 0, ground := Go.Ground.phase }, { on := 1, ground := Go.Ground.phase }, { on := 2, ground := Go.Ground.textOnly Go.Departure.lateStores }, { on := 3, ground := Go.Ground.textOnly Go.Departure.lateStoresUnsure }, { on := 4, ground := Go.Ground.phase }, { on := 5, ground := Go.Ground.phase }], guard := none }) (by kernel_rfl) rfl (fun K hK => ?_)
        refine step_store_g (by rfl) 24 _ _ rfl ⟨bA, 0, none⟩ (.agg #[.slice a7 n7 c7]) (by simp [go_sem]) (by simp [go_sem]) (run_storeVar_row (P := Try.prog) v4 bA 24 24 _ #[.slice a7 n7 c7] hRA (by kernel_rfl) rfl (by simp [Value.oneCell'])) ?_
        have hB5 := below_setRow hB4 (show w.heap.size ≤ bA by omega) #[.slice a7 n7 c7]
        have hS5 : Rows8 (v4.setRow bA #[.slice a7 n7 c7]) w.heap.size 24 #[.slice ax nx cx] ∧ Rows8 (v4.setRow bA #[.slice a7 n7 c7]) (w.heap.size + 1) 24 #[.slice ay ny cy] := ⟨(setRow_other _ _ _ _ (by omega)).trans hS4.1, (setRow_other _ _ _ _ (by omega)).trans hS4.2⟩
        have hPAn := pAt_sepR hPA hRA #[.slice a7 n7 c7]
        have hPBn := pAt_sepR hPB hRA #[.slice a7 n7 c7]
        have hRBn : Rows8 (v4.setRow bA #[.slice a7 n7 c7]) bB 24 _ := (setRow_other _ _ _ _ (by omega)).trans hRB
        have hRAn : Rows8 (v4.setRow bA #[.slice a7 n7 c7]) bA 24 #[.slice a7 n7 c7] := setRow_heap _ _ _ _ _ _ hRA
        clear hPA hPB hRA hRB
        have hPA := hPAn
        have hPB := hPBn
        have hRA := hRAn
        have hRB := hRBn
        clear hPAn hPBn hRAn hRBn
        refine hK.out _ _ (fun _ => hS5) ?_
        clear hK K
        try simp only [Act.put, List.setIfInBounds_toArray, List.set_cons_zero, List.set_cons_succ]
        generalize (v4.setRow bA #[.slice a7 n7 c7]) = v5 at *
        refine wpAnyX_one (i := 7) (o := { dst := none, op := Go.Op.store 24 (Go.Operand.tmp 8) (Go.Operand.tmp 31), type := 0, pos := "law.go:43", after := #[{ on := 5, ground := Go.Ground.data }, { on := 3, ground := Go.Ground.data }, { on := 6, ground := Go.Ground.chain }, { on := 0, ground := Go.Ground.phase }, { on := 1, ground := Go.Ground.phase }, { on := 2, ground := Go.Ground.phase }, { on := 3, ground := Go.Ground.phase }, { on := 4, ground := Go.Ground.phase }, { on := 5, ground := Go.Ground.phase }, { on := 6, ground := Go.Ground.phase }], guard := none }) (by kernel_rfl) rfl (fun K hK => ?_)
        refine step_store_g (by rfl) 24 _ _ rfl ⟨bB, 0, none⟩ (.agg #[.slice a8 n8 c8]) (by simp [go_sem]) (by simp [go_sem]) (run_storeVar_row (P := Try.prog) v5 bB 24 24 _ #[.slice a8 n8 c8] hRB (by kernel_rfl) rfl (by simp [Value.oneCell'])) ?_
        have hB6 := below_setRow hB5 (show w.heap.size ≤ bB by omega) #[.slice a8 n8 c8]
        have hS6 : Rows8 (v5.setRow bB #[.slice a8 n8 c8]) w.heap.size 24 #[.slice ax nx cx] ∧ Rows8 (v5.setRow bB #[.slice a8 n8 c8]) (w.heap.size + 1) 24 #[.slice ay ny cy] := ⟨(setRow_other _ _ _ _ (by omega)).trans hS5.1, (setRow_other _ _ _ _ (by omega)).trans hS5.2⟩
        have hPAn := pAt_sepR hPA hRB #[.slice a8 n8 c8]
        have hPBn := pAt_sepR hPB hRB #[.slice a8 n8 c8]
        have hRAn : Rows8 (v5.setRow bB #[.slice a8 n8 c8]) bA 24 _ := (setRow_other _ _ _ _ (by omega)).trans hRA
        have hRBn : Rows8 (v5.setRow bB #[.slice a8 n8 c8]) bB 24 #[.slice a8 n8 c8] := setRow_heap _ _ _ _ _ _ hRB
        clear hPA hPB hRA hRB
        have hPA := hPAn
        have hPB := hPBn
        have hRA := hRAn
        have hRB := hRBn
        clear hPAn hPBn hRAn hRBn
        refine hK.out _ _ (fun _ => hS6) ?_
        clear hK K
        try simp only [Act.put, List.setIfInBounds_toArray, List.set_cons_zero, List.set_cons_succ]
        generalize (v5.setRow bB #[.slice a8 n8 c8]) = v6 at *
        refine wpAnyX_end (by kernel_rfl) ?_
        exact HK.out _ _ _ _ _ _ _ _ _ hA hB hS6.1 hRA hRB hPA hPB hB6
    · refine step_value_g (by rfl) (.pointer (some ⟨v1.heap.size, 0, none⟩)) (w' := v1.alloc (.cells #[.slice none 0 0] 24)) (by go_simp) ?_
      have hB2 := hB1.alloc hB1.size (.cells #[.slice none 0 0] 24)
      have hS2 : Rows8 (v1.alloc (.cells #[.slice none 0 0] 24)) w.heap.size 24 #[.slice ax nx cx] ∧ Rows8 (v1.alloc (.cells #[.slice none 0 0] 24)) (w.heap.size + 1) 24 #[.slice ay ny cy] := ⟨hS1.1.alloc _, hS1.2.alloc _⟩
      have hRA := Rows8.new v1 24 #[.slice none 0 0]
      have hzA : w.heap.size + 1 < v1.heap.size := hS1.2.lt
      have hNE : bB < v1.heap.size := hRB.lt
      have hRBn := hRB.alloc (.cells #[.slice none 0 0] 24)
      clear hRB
      have hRB := hRBn
      clear hRBn
      refine hK.out _ _ (fun _ => hS2) ?_
      clear hK K
      try simp only [Act.put, List.setIfInBounds_toArray, List.set_cons_zero, List.set_cons_succ]
      generalize v1.heap.size = bA at *
      generalize v1.alloc (.cells #[.slice none 0 0] 24) = v2 at *
      refine wpAnyX_one (i := 1) (o := { dst := some 29, op := Go.Op.call { callee := Go.Callee.value (Go.Operand.func 6), args := #[Go.Operand.tmp 28], argTypes := #[24] }, type := 24, pos := "law.go:43", after := #[{ on := 0, ground := Go.Ground.data }], guard := none }) (by kernel_rfl) rfl (fun K hK => ?_)
      refine step_call_g (by rfl) 6 _ _ rfl (fun _ _ => by kernel_rfl) #[.agg #[.slice ax nx cx]] (by simp [go_sem]) _ (HOx v2 (PAt.below HI.out hB2)).out ?_
      rintro e v3 ⟨a7, n7, c7, rfl, hA, hOA, hC⟩
      refine ⟨_, rfl, ?_⟩
      have hS3 : Rows8 v3 w.heap.size 24 #[.slice ax nx cx] ∧ Rows8 v3 (w.heap.size + 1) 24 #[.slice ay ny cy] := ⟨hS2.1.below hC hS2.1.lt, hS2.2.below hC hS2.2.lt⟩
      have hB3 := hB2.trans (hC.mono hB2.size)
      have hPA := hOA.at
      have hRAn := hRA.below hC hRA.lt
      clear hRA
      have hRA := hRAn
      clear hRAn
      have hRBn := hRB.below hC hRB.lt
      clear hRB
      have hRB := hRBn
      clear hRBn
      clear hC hOA
      refine hK.out _ _ (fun _ => hS3) ?_
      clear hK K
      try simp only [Act.put, List.setIfInBounds_toArray, List.set_cons_zero, List.set_cons_succ]
      refine wpAnyX_one (i := 3) (o := { dst := some 31, op := Go.Op.call { callee := Go.Callee.value (Go.Operand.func 6), args := #[Go.Operand.tmp 30], argTypes := #[24] }, type := 24, pos := "law.go:43", after := #[{ on := 2, ground := Go.Ground.data }, { on := 1, ground := Go.Ground.chain }], guard := none }) (by kernel_rfl) rfl (fun K hK => ?_)
      refine step_call_g (by rfl) 6 _ _ rfl (fun _ _ => by kernel_rfl) #[.agg #[.slice ay ny cy]] (by simp [go_sem]) _ (HOy v3 (PAt.below HJ.out hB3)).out ?_
      rintro e v4 ⟨a8, n8, c8, rfl, hB, hOB, hC⟩
      refine ⟨_, rfl, ?_⟩
      have hS4 : Rows8 v4 w.heap.size 24 #[.slice ax nx cx] ∧ Rows8 v4 (w.heap.size + 1) 24 #[.slice ay ny cy] := ⟨hS3.1.below hC hS3.1.lt, hS3.2.below hC hS3.2.lt⟩
      have hB4 := hB3.trans (hC.mono hB3.size)
      have hPB := hOB.at
      have hPAn := PAt.below hPA hC
      clear hPA
      have hPA := hPAn
      clear hPAn
      have hRAn := hRA.below hC hRA.lt
      clear hRA
      have hRA := hRAn
      clear hRAn
      have hRBn := hRB.below hC hRB.lt
      clear hRB
      have hRB := hRBn
      clear hRBn
      clear hC hOB
      refine hK.out _ _ (fun _ => hS4) ?_
      clear hK K
      try simp only [Act.put, List.setIfInBounds_toArray, List.set_cons_zero, List.set_cons_succ]
      refine wpAnyX_one (i := 6) (o := { dst := none, op := Go.Op.store 24 (Go.Operand.tmp 7) (Go.Operand.tmp 29), type := 0, pos := "law.go:43", after := #[{ on := 4, ground := Go.Ground.data }, { on := 1, ground := Go.Ground.data }, { on := 3, ground := Go.Ground.chain }, { on := 0, ground := Go.Ground.phase }, { on := 1, ground := Go.Ground.phase }, { on := 2, ground := Go.Ground.textOnly Go.Departure.lateStores }, { on := 3, ground := Go.Ground.textOnly Go.Departure.lateStoresUnsure }, { on := 4, ground := Go.Ground.phase }, { on := 5, ground := Go.Ground.phase }], guard := none }) (by kernel_rfl) rfl (fun K hK => ?_)
      refine step_store_g (by rfl) 24 _ _ rfl ⟨bA, 0, none⟩ (.agg #[.slice a7 n7 c7]) (by simp [go_sem]) (by simp [go_sem]) (run_storeVar_row (P := Try.prog) v4 bA 24 24 _ #[.slice a7 n7 c7] hRA (by kernel_rfl) rfl (by simp [Value.oneCell'])) ?_
      have hB5 := below_setRow hB4 (show w.heap.size ≤ bA by omega) #[.slice a7 n7 c7]
      have hS5 : Rows8 (v4.setRow bA #[.slice a7 n7 c7]) w.heap.size 24 #[.slice ax nx cx] ∧ Rows8 (v4.setRow bA #[.slice a7 n7 c7]) (w.heap.size + 1) 24 #[.slice ay ny cy] := ⟨(setRow_other _ _ _ _ (by omega)).trans hS4.1, (setRow_other _ _ _ _ (by omega)).trans hS4.2⟩
      have hPAn := pAt_sepR hPA hRA #[.slice a7 n7 c7]
      have hPBn := pAt_sepR hPB hRA #[.slice a7 n7 c7]
      have hRBn : Rows8 (v4.setRow bA #[.slice a7 n7 c7]) bB 24 _ := (setRow_other _ _ _ _ (by omega)).trans hRB
      have hRAn : Rows8 (v4.setRow bA #[.slice a7 n7 c7]) bA 24 #[.slice a7 n7 c7] := setRow_heap _ _ _ _ _ _ hRA
      clear hPA hPB hRA hRB
      have hPA := hPAn
      have hPB := hPBn
      have hRA := hRAn
      have hRB := hRBn
      clear hPAn hPBn hRAn hRBn
      refine hK.out _ _ (fun _ => hS5) ?_
      clear hK K
      try simp only [Act.put, List.setIfInBounds_toArray, List.set_cons_zero, List.set_cons_succ]
      generalize (v4.setRow bA #[.slice a7 n7 c7]) = v5 at *
      refine wpAnyX_one (i := 7) (o := { dst := none, op := Go.Op.store 24 (Go.Operand.tmp 8) (Go.Operand.tmp 31), type := 0, pos := "law.go:43", after := #[{ on := 5, ground := Go.Ground.data }, { on := 3, ground := Go.Ground.data }, { on := 6, ground := Go.Ground.chain }, { on := 0, ground := Go.Ground.phase }, { on := 1, ground := Go.Ground.phase }, { on := 2, ground := Go.Ground.phase }, { on := 3, ground := Go.Ground.phase }, { on := 4, ground := Go.Ground.phase }, { on := 5, ground := Go.Ground.phase }, { on := 6, ground := Go.Ground.phase }], guard := none }) (by kernel_rfl) rfl (fun K hK => ?_)
      refine step_store_g (by rfl) 24 _ _ rfl ⟨bB, 0, none⟩ (.agg #[.slice a8 n8 c8]) (by simp [go_sem]) (by simp [go_sem]) (run_storeVar_row (P := Try.prog) v5 bB 24 24 _ #[.slice a8 n8 c8] hRB (by kernel_rfl) rfl (by simp [Value.oneCell'])) ?_
      have hB6 := below_setRow hB5 (show w.heap.size ≤ bB by omega) #[.slice a8 n8 c8]
      have hS6 : Rows8 (v5.setRow bB #[.slice a8 n8 c8]) w.heap.size 24 #[.slice ax nx cx] ∧ Rows8 (v5.setRow bB #[.slice a8 n8 c8]) (w.heap.size + 1) 24 #[.slice ay ny cy] := ⟨(setRow_other _ _ _ _ (by omega)).trans hS5.1, (setRow_other _ _ _ _ (by omega)).trans hS5.2⟩
      have hPAn := pAt_sepR hPA hRB #[.slice a8 n8 c8]
      have hPBn := pAt_sepR hPB hRB #[.slice a8 n8 c8]
      have hRAn : Rows8 (v5.setRow bB #[.slice a8 n8 c8]) bA 24 _ := (setRow_other _ _ _ _ (by omega)).trans hRA
      have hRBn : Rows8 (v5.setRow bB #[.slice a8 n8 c8]) bB 24 #[.slice a8 n8 c8] := setRow_heap _ _ _ _ _ _ hRB
      clear hPA hPB hRA hRB
      have hPA := hPAn
      have hPB := hPBn
      have hRA := hRAn
      have hRB := hRBn
      clear hPAn hPBn hRAn hRBn
      refine hK.out _ _ (fun _ => hS6) ?_
      clear hK K
      try simp only [Act.put, List.setIfInBounds_toArray, List.set_cons_zero, List.set_cons_succ]
      generalize (v5.setRow bB #[.slice a8 n8 c8]) = v6 at *
      refine wpAnyX_end (by kernel_rfl) ?_
      exact HK.out _ _ _ _ _ _ _ _ _ hA hB hS6.1 hRA hRB hPA hPB hB6
end Go.Proofs
