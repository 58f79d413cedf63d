/- Pins: region 3 of PinsMay (two copies of its own, two boxes), in all of its orders. -/
import Derived.Test.YtdkpenfgeohddaaPu
namespace Go.Proofs
set_option maxRecDepth 100000
open Go.RowKit Go.Shelf
attribute [local go_sem] Oper.semAt_some

theorem owns_setRow {W : World} {n₀ k n : Nat} {e t : TypeId} {v : Value} {xs : List Value} (o : W.ownsRow n₀ e k v n xs) {B : Nat} {cs : Array Value} (r : Rows8 W B t cs) (hne : e ≠ t) (ds : Array Value) : (W.setRow B ds).ownsRow n₀ e k v n xs := by
  rcases o with ⟨hl, ⟨h1, h2⟩ | ⟨g, cap, cur, h1, h2, h3, h4⟩⟩
  · exact ⟨hl, .inl ⟨h1, h2⟩⟩
  · refine ⟨hl, .inr ⟨g, cap, cur, h1, h2, ?_, h4⟩⟩
    refine (setRow_other _ _ _ _ fun ee => ?_).trans h3
    subst ee
    rw [show W.heap[g]? = _ from r] at h3
    cases h3
    exact hne rfl
section
variable {P : Program} {md : Region.Mode} {ops : Array Oper} {Q : Exit → Act → World → Prop} {S : World → Prop} {X : Nat}
/-- The three that come up next, in any order. -/
theorem wpAnyX_three {i j k : Nat} {oi oj ok : Oper} {fuel : Nat} {listed : Array Bool} {a : Act} {w : World} (hr : Region.ready md ops listed = [i, j, k]) (hoi : ops[i]? = some oi) (hoj : ops[j]? = some oj) (hok : ops[k]? = some ok)
    (hi : ∀ K' : Act → World → Prop, Hid (∀ a w, (i ≠ X → S w) → wpAnyX P md ops Q S X fuel (listed.setIfInBounds i true) a w → K' a w) → if Region.wanted oi (yielded ops a.tmps) = true then Oper.wp P oi a w K' Q else K' (a.put oi.dst undef) w)
    (hj : ∀ K' : Act → World → Prop, Hid (∀ a w, (j ≠ X → S w) → wpAnyX P md ops Q S X fuel (listed.setIfInBounds j true) a w → K' a w) → if Region.wanted oj (yielded ops a.tmps) = true then Oper.wp P oj a w K' Q else K' (a.put oj.dst undef) w)
    (hk : ∀ K' : Act → World → Prop, Hid (∀ a w, (k ≠ X → S w) → wpAnyX P md ops Q S X fuel (listed.setIfInBounds k true) a w → K' a w) → if Region.wanted ok (yielded ops a.tmps) = true then Oper.wp P ok a w K' Q else K' (a.put ok.dst undef) w) :
    wpAnyX P md ops Q S X (fuel + 1) listed a w := by
  refine ⟨fun h0 => (by rw [hr] at h0; cases h0), fun m hm => ?_⟩
  rw [hr] at hm
  rcases List.mem_cons.1 hm with rfl | hm
  · exact wpOp_step hoi (fun K' hK => hi K' (Lib.hid fun a w hS hW => hK a w ⟨hS, hW⟩))
  · rcases List.mem_cons.1 hm with rfl | hm
    · exact wpOp_step hoj (fun K' hK => hj K' (Lib.hid fun a w hS hW => hK a w ⟨hS, hW⟩))
    · obtain rfl := List.mem_singleton.1 hm
      exact wpOp_step hok (fun K' hK => hk K' (Lib.hid fun a w hS hW => hK a w ⟨hS, hW⟩))
end
set_option maxHeartbeats 16000000 in
theorem Try.may_r3 (Ex Ey : Int) (ax : Option Addr) (nx cx : Nat) (xl : List Int) (ay : Option Addr) (ny cy : Nat) (yl : List Int) (al : Option Addr) (nl cl : Nat) (L M : List Int) (w Wd : World) (Q : Exit → Act → World → Prop)
    (HI : Hid (WordsAt w (.slice ax nx cx) xl)) (HJ : Hid (WordsAt w (.slice ay ny cy) yl))
    (HOx : ∀ (W : World), WordsAt W (.slice ax nx cx) xl → Hid (Calls Try.prog 9 #[.agg #[.int .u64 Ex, .slice ax nx cx]] W fun e w' => (∃ b m d, e = .returned (.agg #[.int .u64 Ex, .slice b m d]) ∧ m ≤ 10 ∧ OwnsWords W.heap.size L (.slice b m d) w') ∧ Below W.heap.size W w'))
    (HOy : ∀ (W : World), WordsAt W (.slice ay ny cy) yl → Hid (Calls Try.prog 9 #[.agg #[.int .u64 Ey, .slice ay ny cy]] W fun e w' => (∃ b m d, e = .returned (.agg #[.int .u64 Ey, .slice b m d]) ∧ m ≤ 10 ∧ OwnsWords W.heap.size M (.slice b m d) w') ∧ Below W.heap.size W w'))
    (hS0 : Rows8 Wd w.heap.size 25 #[.int .u64 Ex, .slice ax nx cx] ∧ Rows8 Wd (w.heap.size + 1) 25 #[.int .u64 Ey, .slice ay ny cy]) (hB0 : Below w.heap.size w Wd)
    (hQp : ∀ c d v a w, Q (.panic c) (Act.put a d v) w → Q (.panic c) a w)
    (HK : Hid (∀ (bA bB : Nat) (a7 : Option Addr) (n7 c7 : Nat) (a8 : Option Addr) (n8 c8 : Nat) (v : World), n7 ≤ 10 → n8 ≤ 10 → Rows8 v w.heap.size 25 #[.int .u64 Ex, .slice ax nx cx] → Rows8 v bA 25 #[.int .u64 Ex, .slice a7 n7 c7] → Rows8 v bB 25 #[.int .u64 Ey, .slice a8 n8 c8] → OwnsWords w.heap.size L (.slice a7 n7 c7) v → OwnsWords w.heap.size M (.slice a8 n8 c8) v → Below w.heap.size w v →
      Q .normal ⟨(.agg #[.int .u64 Ex, .slice ax nx cx] :: .agg #[.int .u64 Ey, .slice ay ny cy] :: .slice al nl cl :: .pointer (some ⟨w.heap.size, 0, none⟩) :: .pointer (some ⟨w.heap.size + 1, 0, none⟩) :: undef :: .bool false :: .pointer (some ⟨bA, 0, none⟩) :: .pointer (some ⟨bB, 0, none⟩) :: undef :: undef :: undef :: undef :: undef :: undef :: undef :: undef :: undef :: undef :: undef :: undef :: undef :: .bool true :: .bool false :: .agg #[.int .u64 Ex, .slice ax nx cx] :: .agg #[.int .u64 Ex, .slice a7 n7 c7] :: .agg #[.int .u64 Ey, .slice ay ny cy] :: .agg #[.int .u64 Ey, .slice a8 n8 c8] :: undef :: undef :: undef :: undef :: undef :: undef :: undef :: undef :: undef :: undef :: undef :: undef :: undef :: undef :: undef :: undef :: undef :: undef :: undef :: undef :: undef :: undef :: undef :: undef :: undef :: undef :: undef :: undef :: undef :: undef :: undef :: undef :: undef :: undef :: undef :: undef :: undef :: undef :: undef :: undef :: undef :: undef :: undef :: undef :: undef :: undef :: undef :: undef :: undef :: undef :: undef :: undef :: undef :: undef :: undef :: undef :: undef :: undef :: undef :: undef :: undef :: undef :: undef :: undef :: undef :: undef :: undef :: undef :: undef :: undef :: undef :: undef :: undef :: undef :: undef :: undef :: undef :: undef :: undef :: undef :: undef :: undef :: undef :: undef :: undef :: undef :: undef :: undef :: undef :: undef :: undef :: undef :: undef :: undef :: undef :: undef :: undef :: undef :: undef :: undef :: undef :: undef :: undef :: undef :: undef :: undef :: undef :: undef :: undef :: undef :: undef :: undef :: undef :: undef :: undef :: undef :: undef :: undef :: undef :: undef :: undef :: undef :: undef :: undef :: undef :: undef :: undef :: undef :: []).toArray, []⟩ v)) :
    wpAnyX Try.prog .any #[{ dst := some 24, op := Go.Op.load 25 (Go.Operand.tmp 3), type := 25, pos := "law.go:39", after := #[], guard := none }, { dst := some 25, op := Go.Op.call { callee := Go.Callee.value (Go.Operand.func 9), args := #[Go.Operand.tmp 24], argTypes := #[25] }, type := 25, pos := "law.go:39", after := #[{ on := 0, ground := Go.Ground.data }], guard := none }, { dst := some 26, op := Go.Op.load 25 (Go.Operand.tmp 4), type := 25, pos := "law.go:39", after := #[], guard := none }, { dst := some 27, op := Go.Op.call { callee := Go.Callee.value (Go.Operand.func 9), args := #[Go.Operand.tmp 26], argTypes := #[25] }, type := 25, pos := "law.go:39", after := #[{ on := 2, ground := Go.Ground.data }, { on := 1, ground := Go.Ground.chain }], guard := none }, { dst := some 7, op := Go.Op.alloc 25, type := 0, pos := "law.go:39", after := #[], guard := none }, { dst := some 8, op := Go.Op.alloc 25, type := 0, pos := "law.go:39", after := #[], guard := none }, { dst := none, op := Go.Op.store 25 (Go.Operand.tmp 7) (Go.Operand.tmp 25), type := 0, pos := "law.go:39", after := #[{ on := 4, ground := Go.Ground.data }, { on := 1, ground := Go.Ground.data }, { on := 3, ground := Go.Ground.chain }, { on := 0, ground := Go.Ground.phase }, { on := 1, ground := Go.Ground.phase }, { on := 2, ground := Go.Ground.textOnly Go.Departure.lateStores }, { on := 3, ground := Go.Ground.textOnly Go.Departure.lateStoresUnsure }, { on := 4, ground := Go.Ground.phase }, { on := 5, ground := Go.Ground.phase }], guard := none }, { dst := none, op := Go.Op.store 25 (Go.Operand.tmp 8) (Go.Operand.tmp 27), type := 0, pos := "law.go:39", after := #[{ on := 5, ground := Go.Ground.data }, { on := 3, ground := Go.Ground.data }, { on := 6, ground := Go.Ground.chain }, { on := 0, ground := Go.Ground.phase }, { on := 1, ground := Go.Ground.phase }, { on := 2, ground := Go.Ground.phase }, { on := 3, ground := Go.Ground.phase }, { on := 4, ground := Go.Ground.phase }, { on := 5, ground := Go.Ground.phase }, { on := 6, ground := Go.Ground.phase }], guard := none }] Q (fun W' => Rows8 W' w.heap.size 25 #[.int .u64 Ex, .slice ax nx cx] ∧ Rows8 W' (w.heap.size + 1) 25 #[.int .u64 Ey, .slice ay ny cy]) 8 8 #[false, false, false, false, false, false, false, false] ⟨(.agg #[.int .u64 Ex, .slice ax nx cx] :: .agg #[.int .u64 Ey, .slice ay ny cy] :: .slice al nl cl :: .pointer (some ⟨w.heap.size, 0, none⟩) :: .pointer (some ⟨w.heap.size + 1, 0, none⟩) :: undef :: .bool false :: undef :: undef :: undef :: undef :: undef :: undef :: undef :: undef :: undef :: undef :: undef :: undef :: undef :: undef :: undef :: .bool true :: .bool false :: undef :: undef :: undef :: undef :: undef :: undef :: undef :: undef :: undef :: undef :: undef :: undef :: undef :: undef :: undef :: undef :: undef :: undef :: undef :: undef :: undef :: undef :: undef :: undef :: undef :: undef :: undef :: undef :: undef :: undef :: undef :: undef :: undef :: undef :: undef :: undef :: undef :: undef :: undef :: undef :: undef :: undef :: undef :: undef :: undef :: undef :: undef :: undef :: undef :: undef :: undef :: undef :: undef :: undef :: undef :: undef :: undef :: undef :: undef :: undef :: undef :: undef :: undef :: undef :: undef :: undef :: undef :: undef :: undef :: undef :: undef :: undef :: undef :: undef :: undef :: undef :: undef :: undef :: undef :: undef :: undef :: undef :: undef :: undef :: undef :: undef :: undef :: undef :: undef :: undef :: undef :: undef :: undef :: undef :: undef :: undef :: undef :: undef :: undef :: undef :: undef :: undef :: undef :: undef :: undef :: undef :: undef :: undef :: undef :: undef :: undef :: undef :: undef :: undef :: undef :: undef :: undef :: undef :: undef :: undef :: undef :: undef :: undef :: undef :: undef :: undef :: undef :: undef :: undef :: undef :: undef :: undef :: []).toArray, []⟩ Wd := by
  refine wpAnyN_take (i := 0) (oi := { dst := some 24, op := Go.Op.load 25 (Go.Operand.tmp 3), type := 25, pos := "law.go:39", after := #[], guard := none }) (v := .agg #[.int .u64 Ex, .slice ax nx cx]) rfl (by decide) (by kernel_rfl) (by kernel_rfl) (by kernel_rfl) (fun _ _ _ h => hQp _ _ _ _ _ h) (Or.inl ⟨by rfl, ?_⟩) hS0 ?_
  · intro W9 hS9
    obtain ⟨q0, q1⟩ := hS9
    have s0 : W9.cell? ⟨w.heap.size, 0, none⟩ = some (.int .u64 Ex) := q0.cell 0
    have s1 : W9.cell? ⟨w.heap.size, 1, none⟩ = some (.slice ax nx cx) := q0.cell 1
    clear q0 q1
    go_simp
  try simp only [Act.put, List.setIfInBounds_toArray, List.set_cons_zero, List.set_cons_succ]
  refine wpAnyN_take (i := 2) (oi := { dst := some 26, op := Go.Op.load 25 (Go.Operand.tmp 4), type := 25, pos := "law.go:39", after := #[], guard := none }) (v := .agg #[.int .u64 Ey, .slice ay ny cy]) rfl (by decide) (by kernel_rfl) (by kernel_rfl) (by kernel_rfl) (fun _ _ _ h => hQp _ _ _ _ _ h) (Or.inl ⟨by rfl, ?_⟩) hS0 ?_
  · intro W9 hS9
    obtain ⟨q0, q1⟩ := hS9
    have s0 : W9.cell? ⟨w.heap.size + 1, 0, none⟩ = some (.int .u64 Ey) := q1.cell 0
    have s1 : W9.cell? ⟨w.heap.size + 1, 1, none⟩ = some (.slice ay ny cy) := q1.cell 1
    clear q0 q1
    go_simp
  try simp only [Act.put, List.setIfInBounds_toArray, List.set_cons_zero, List.set_cons_succ]
  refine wpAnyX_three (i := 1) (j := 4) (k := 5) (oi := { dst := some 25, op := Go.Op.call { callee := Go.Callee.value (Go.Operand.func 9), args := #[Go.Operand.tmp 24], argTypes := #[25] }, type := 25, pos := "law.go:39", after := #[{ on := 0, ground := Go.Ground.data }], guard := none }) (oj := { dst := some 7, op := Go.Op.alloc 25, type := 0, pos := "law.go:39", after := #[], guard := none }) (ok := { dst := some 8, op := Go.Op.alloc 25, type := 0, pos := "law.go:39", after := #[], guard := none }) (by kernel_rfl) rfl rfl rfl (fun K hK => ?_) (fun K hK => ?_) (fun K hK => ?_)
  · refine step_call_g (by rfl) 9 _ _ rfl (fun _ _ => by kernel_rfl) #[.agg #[.int .u64 Ex, .slice ax nx cx]] (by simp [go_sem]) _ (HOx Wd (RowAt.below HI.out hB0)).out ?_
    rintro e v1 ⟨⟨a7, n7, c7, rfl, hA, hOA⟩, hC⟩
    refine ⟨_, rfl, ?_⟩
    have hS1 : Rows8 v1 w.heap.size 25 #[.int .u64 Ex, .slice ax nx cx] ∧ Rows8 v1 (w.heap.size + 1) 25 #[.int .u64 Ey, .slice ay ny cy] := ⟨hS0.1.below hC hS0.1.lt, hS0.2.below hC hS0.2.lt⟩
    have hB1 := hB0.trans (hC.mono hB0.size)
    have hPA : OwnsWords w.heap.size L (.slice a7 n7 c7) v1 := owns_mono hOA hB0.size
    clear hC hOA
    refine hK.out _ _ (fun _ => hS1) ?_
    clear hK K
    try simp only [Act.put, List.setIfInBounds_toArray, List.set_cons_zero, List.set_cons_succ]
    refine wpAnyX_three (i := 3) (j := 4) (k := 5) (oi := { dst := some 27, op := Go.Op.call { callee := Go.Callee.value (Go.Operand.func 9), args := #[Go.Operand.tmp 26], argTypes := #[25] }, type := 25, pos := "law.go:39", after := #[{ on := 2, ground := Go.Ground.data }, { on := 1, ground := Go.Ground.chain }], guard := none }) (oj := { dst := some 7, op := Go.Op.alloc 25, type := 0, pos := "law.go:39", after := #[], guard := none }) (ok := { dst := some 8, op := Go.Op.alloc 25, type := 0, pos := "law.go:39", after := #[], guard := none }) (by kernel_rfl) rfl rfl rfl (fun K hK => ?_) (fun K hK => ?_) (fun K hK => ?_)
    · refine step_call_g (by rfl) 9 _ _ rfl (fun _ _ => by kernel_rfl) #[.agg #[.int .u64 Ey, .slice ay ny cy]] (by simp [go_sem]) _ (HOy v1 (RowAt.below HJ.out hB1)).out ?_
      rintro e v2 ⟨⟨a8, n8, c8, rfl, hB, hOB⟩, hC⟩
      refine ⟨_, rfl, ?_⟩
      have hS2 : Rows8 v2 w.heap.size 25 #[.int .u64 Ex, .slice ax nx cx] ∧ Rows8 v2 (w.heap.size + 1) 25 #[.int .u64 Ey, .slice ay ny cy] := ⟨hS1.1.below hC hS1.1.lt, hS1.2.below hC hS1.2.lt⟩
      have hB2 := hB1.trans (hC.mono hB1.size)
      have hPB : OwnsWords w.heap.size M (.slice a8 n8 c8) v2 := owns_mono hOB hB1.size
      have hPAn : OwnsWords w.heap.size L (.slice a7 n7 c7) v2 := owns_keep hPA hC (Nat.le_refl _)
      clear hPA
      have hPA := hPAn
      clear hPAn
      clear hC hOB
      refine hK.out _ _ (fun _ => hS2) ?_
      clear hK K
      try simp only [Act.put, List.setIfInBounds_toArray, List.set_cons_zero, List.set_cons_succ]
      refine wpAnyX_two (i := 4) (j := 5) (oi := { dst := some 7, op := Go.Op.alloc 25, type := 0, pos := "law.go:39", after := #[], guard := none }) (oj := { dst := some 8, op := Go.Op.alloc 25, type := 0, pos := "law.go:39", after := #[], guard := none }) (by kernel_rfl) rfl rfl (fun K hK => ?_) (fun K hK => ?_)
      · refine step_value_g (by rfl) (.pointer (some ⟨v2.heap.size, 0, none⟩)) (w' := v2.alloc (.cells #[.int .u64 0, .slice none 0 0] 25)) (by go_simp) ?_
        have hB3 := hB2.alloc hB2.size (.cells #[.int .u64 0, .slice none 0 0] 25)
        have hS3 : Rows8 (v2.alloc (.cells #[.int .u64 0, .slice none 0 0] 25)) w.heap.size 25 #[.int .u64 Ex, .slice ax nx cx] ∧ Rows8 (v2.alloc (.cells #[.int .u64 0, .slice none 0 0] 25)) (w.heap.size + 1) 25 #[.int .u64 Ey, .slice ay ny cy] := ⟨hS2.1.alloc _, hS2.2.alloc _⟩
        have hRA := Rows8.new v2 25 #[.int .u64 0, .slice none 0 0]
        have hzA : w.heap.size + 1 < v2.heap.size := hS2.2.lt
        have hPAn : OwnsWords w.heap.size L (.slice a7 n7 c7) (v2.alloc (.cells #[.int .u64 0, .slice none 0 0] 25)) := owns_keep hPA Rows8.newB (Nat.le_refl _)
        clear hPA
        have hPA := hPAn
        clear hPAn
        have hPBn : OwnsWords w.heap.size M (.slice a8 n8 c8) (v2.alloc (.cells #[.int .u64 0, .slice none 0 0] 25)) := owns_keep hPB Rows8.newB (Nat.le_refl _)
        clear hPB
        have hPB := hPBn
        clear hPBn
        refine hK.out _ _ (fun _ => hS3) ?_
        clear hK K
        try simp only [Act.put, List.setIfInBounds_toArray, List.set_cons_zero, List.set_cons_succ]
        generalize v2.heap.size = bA at *
        generalize v2.alloc (.cells #[.int .u64 0, .slice none 0 0] 25) = v3 at *
        refine wpAnyX_one (i := 5) (o := { dst := some 8, op := Go.Op.alloc 25, type := 0, pos := "law.go:39", after := #[], guard := none }) (by kernel_rfl) rfl (fun K hK => ?_)
        refine step_value_g (by rfl) (.pointer (some ⟨v3.heap.size, 0, none⟩)) (w' := v3.alloc (.cells #[.int .u64 0, .slice none 0 0] 25)) (by go_simp) ?_
        have hB4 := hB3.alloc hB3.size (.cells #[.int .u64 0, .slice none 0 0] 25)
        have hS4 : Rows8 (v3.alloc (.cells #[.int .u64 0, .slice none 0 0] 25)) w.heap.size 25 #[.int .u64 Ex, .slice ax nx cx] ∧ Rows8 (v3.alloc (.cells #[.int .u64 0, .slice none 0 0] 25)) (w.heap.size + 1) 25 #[.int .u64 Ey, .slice ay ny cy] := ⟨hS3.1.alloc _, hS3.2.alloc _⟩
        have hRB := Rows8.new v3 25 #[.int .u64 0, .slice none 0 0]
        have hzB : w.heap.size + 1 < v3.heap.size := hS3.2.lt
        have hPAn : OwnsWords w.heap.size L (.slice a7 n7 c7) (v3.alloc (.cells #[.int .u64 0, .slice none 0 0] 25)) := owns_keep hPA Rows8.newB (Nat.le_refl _)
        clear hPA
        have hPA := hPAn
        clear hPAn
        have hPBn : OwnsWords w.heap.size M (.slice a8 n8 c8) (v3.alloc (.cells #[.int .u64 0, .slice none 0 0] 25)) := owns_keep hPB Rows8.newB (Nat.le_refl _)
        clear hPB
        have hPB := hPBn
        clear hPBn
        have hNE : bA < v3.heap.size := hRA.lt
        have hRAn := hRA.alloc (.cells #[.int .u64 0, .slice none 0 0] 25)
        clear hRA
        have hRA := hRAn
        clear hRAn
        refine hK.out _ _ (fun _ => hS4) ?_
        clear hK K
        try simp only [Act.put, List.setIfInBounds_toArray, List.set_cons_zero, List.set_cons_succ]
        generalize v3.heap.size = bB at *
        generalize v3.alloc (.cells #[.int .u64 0, .slice none 0 0] 25) = v4 at *
        refine wpAnyX_one (i := 6) (o := { dst := none, op := Go.Op.store 25 (Go.Operand.tmp 7) (Go.Operand.tmp 25), type := 0, pos := "law.go:39", after := #[{ on := 4, ground := Go.Ground.data }, { on := 1, ground := Go.Ground.data }, { on := 3, ground := Go.Ground.chain }, { on := 0, ground := Go.Ground.phase }, { on := 1, ground := Go.Ground.phase }, { on := 2, ground := Go.Ground.textOnly Go.Departure.lateStores }, { on := 3, ground := Go.Ground.textOnly Go.Departure.lateStoresUnsure }, { on := 4, ground := Go.Ground.phase }, { on := 5, ground := Go.Ground.phase }], guard := none }) (by kernel_rfl) rfl (fun K hK => ?_)
        refine step_store_g (by rfl) 25 _ _ rfl ⟨bA, 0, none⟩ (.agg #[.int .u64 Ex, .slice a7 n7 c7]) (by simp [go_sem]) (by simp [go_sem]) (run_storeVar_row (P := Try.prog) v4 bA 25 25 _ #[.int .u64 Ex, .slice a7 n7 c7] hRA (by kernel_rfl) rfl (by simp [Value.oneCell'])) ?_
        have hB5 := below_setRow hB4 (show w.heap.size ≤ bA by omega) #[.int .u64 Ex, .slice a7 n7 c7]
        have hS5 : Rows8 (v4.setRow bA #[.int .u64 Ex, .slice a7 n7 c7]) w.heap.size 25 #[.int .u64 Ex, .slice ax nx cx] ∧ Rows8 (v4.setRow bA #[.int .u64 Ex, .slice a7 n7 c7]) (w.heap.size + 1) 25 #[.int .u64 Ey, .slice ay ny cy] := ⟨(setRow_other _ _ _ _ (by omega)).trans hS4.1, (setRow_other _ _ _ _ (by omega)).trans hS4.2⟩
        have hPAn : OwnsWords w.heap.size L (.slice a7 n7 c7) (v4.setRow bA #[.int .u64 Ex, .slice a7 n7 c7]) := owns_setRow hPA hRA (by decide) #[.int .u64 Ex, .slice a7 n7 c7]
        have hPBn : OwnsWords w.heap.size M (.slice a8 n8 c8) (v4.setRow bA #[.int .u64 Ex, .slice a7 n7 c7]) := owns_setRow hPB hRA (by decide) #[.int .u64 Ex, .slice a7 n7 c7]
        have hRBn : Rows8 (v4.setRow bA #[.int .u64 Ex, .slice a7 n7 c7]) bB 25 _ := (setRow_other _ _ _ _ (by omega)).trans hRB
        have hRAn : Rows8 (v4.setRow bA #[.int .u64 Ex, .slice a7 n7 c7]) bA 25 #[.int .u64 Ex, .slice a7 n7 c7] := setRow_heap _ _ _ _ _ _ hRA
        clear hPA hPB hRA hRB
        have hPA := hPAn
        have hPB := hPBn
        have hRA := hRAn
        have hRB := hRBn
        clear hPAn hPBn hRAn hRBn
        refine hK.out _ _ (fun _ => hS5) ?_
        clear hK K
        try simp only [Act.put, List.setIfInBounds_toArray, List.set_cons_zero, List.set_cons_succ]
        generalize (v4.setRow bA #[.int .u64 Ex, .slice a7 n7 c7]) = v5 at *
        refine wpAnyX_one (i := 7) (o := { dst := none, op := Go.Op.store 25 (Go.Operand.tmp 8) (Go.Operand.tmp 27), type := 0, pos := "law.go:39", after := #[{ on := 5, ground := Go.Ground.data }, { on := 3, ground := Go.Ground.data }, { on := 6, ground := Go.Ground.chain }, { on := 0, ground := Go.Ground.phase }, { on := 1, ground := Go.Ground.phase }, { on := 2, ground := Go.Ground.phase }, { on := 3, ground := Go.Ground.phase }, { on := 4, ground := Go.Ground.phase }, { on := 5, ground := Go.Ground.phase }, { on := 6, ground := Go.Ground.phase }], guard := none }) (by kernel_rfl) rfl (fun K hK => ?_)
        refine step_store_g (by rfl) 25 _ _ rfl ⟨bB, 0, none⟩ (.agg #[.int .u64 Ey, .slice a8 n8 c8]) (by simp [go_sem]) (by simp [go_sem]) (run_storeVar_row (P := Try.prog) v5 bB 25 25 _ #[.int .u64 Ey, .slice a8 n8 c8] hRB (by kernel_rfl) rfl (by simp [Value.oneCell'])) ?_
        have hB6 := below_setRow hB5 (show w.heap.size ≤ bB by omega) #[.int .u64 Ey, .slice a8 n8 c8]
        have hS6 : Rows8 (v5.setRow bB #[.int .u64 Ey, .slice a8 n8 c8]) w.heap.size 25 #[.int .u64 Ex, .slice ax nx cx] ∧ Rows8 (v5.setRow bB #[.int .u64 Ey, .slice a8 n8 c8]) (w.heap.size + 1) 25 #[.int .u64 Ey, .slice ay ny cy] := ⟨(setRow_other _ _ _ _ (by omega)).trans hS5.1, (setRow_other _ _ _ _ (by omega)).trans hS5.2⟩
        have hPAn : OwnsWords w.heap.size L (.slice a7 n7 c7) (v5.setRow bB #[.int .u64 Ey, .slice a8 n8 c8]) := owns_setRow hPA hRB (by decide) #[.int .u64 Ey, .slice a8 n8 c8]
        have hPBn : OwnsWords w.heap.size M (.slice a8 n8 c8) (v5.setRow bB #[.int .u64 Ey, .slice a8 n8 c8]) := owns_setRow hPB hRB (by decide) #[.int .u64 Ey, .slice a8 n8 c8]
        have hRAn : Rows8 (v5.setRow bB #[.int .u64 Ey, .slice a8 n8 c8]) bA 25 _ := (setRow_other _ _ _ _ (by omega)).trans hRA
        have hRBn : Rows8 (v5.setRow bB #[.int .u64 Ey, .slice a8 n8 c8]) bB 25 #[.int .u64 Ey, .slice a8 n8 c8] := setRow_heap _ _ _ _ _ _ hRB
        clear hPA hPB hRA hRB
        have hPA := hPAn
        have hPB := hPBn
        have hRA := hRAn
        have hRB := hRBn
        clear hPAn hPBn hRAn hRBn
        refine hK.out _ _ (fun _ => hS6) ?_
        clear hK K
        try simp only [Act.put, List.setIfInBounds_toArray, List.set_cons_zero, List.set_cons_succ]
        generalize (v5.setRow bB #[.int .u64 Ey, .slice a8 n8 c8]) = v6 at *
        refine wpAnyX_end (by kernel_rfl) ?_
        exact HK.out _ _ _ _ _ _ _ _ _ hA hB hS6.1 hRA hRB hPA hPB hB6
      · refine step_value_g (by rfl) (.pointer (some ⟨v2.heap.size, 0, none⟩)) (w' := v2.alloc (.cells #[.int .u64 0, .slice none 0 0] 25)) (by go_simp) ?_
        have hB3 := hB2.alloc hB2.size (.cells #[.int .u64 0, .slice none 0 0] 25)
        have hS3 : Rows8 (v2.alloc (.cells #[.int .u64 0, .slice none 0 0] 25)) w.heap.size 25 #[.int .u64 Ex, .slice ax nx cx] ∧ Rows8 (v2.alloc (.cells #[.int .u64 0, .slice none 0 0] 25)) (w.heap.size + 1) 25 #[.int .u64 Ey, .slice ay ny cy] := ⟨hS2.1.alloc _, hS2.2.alloc _⟩
        have hRB := Rows8.new v2 25 #[.int .u64 0, .slice none 0 0]
        have hzB : w.heap.size + 1 < v2.heap.size := hS2.2.lt
        have hPAn : OwnsWords w.heap.size L (.slice a7 n7 c7) (v2.alloc (.cells #[.int .u64 0, .slice none 0 0] 25)) := owns_keep hPA Rows8.newB (Nat.le_refl _)
        clear hPA
        have hPA := hPAn
        clear hPAn
        have hPBn : OwnsWords w.heap.size M (.slice a8 n8 c8) (v2.alloc (.cells #[.int .u64 0, .slice none 0 0] 25)) := owns_keep hPB Rows8.newB (Nat.le_refl _)
        clear hPB
        have hPB := hPBn
        clear hPBn
        refine hK.out _ _ (fun _ => hS3) ?_
        clear hK K
        try simp only [Act.put, List.setIfInBounds_toArray, List.set_cons_zero, List.set_cons_succ]
        generalize v2.heap.size = bB at *
        generalize v2.alloc (.cells #[.int .u64 0, .slice none 0 0] 25) = v3 at *
        refine wpAnyX_one (i := 4) (o := { dst := some 7, op := Go.Op.alloc 25, type := 0, pos := "law.go:39", after := #[], guard := none }) (by kernel_rfl) rfl (fun K hK => ?_)
        refine step_value_g (by rfl) (.pointer (some ⟨v3.heap.size, 0, none⟩)) (w' := v3.alloc (.cells #[.int .u64 0, .slice none 0 0] 25)) (by go_simp) ?_
        have hB4 := hB3.alloc hB3.size (.cells #[.int .u64 0, .slice none 0 0] 25)
        have hS4 : Rows8 (v3.alloc (.cells #[.int .u64 0, .slice none 0 0] 25)) w.heap.size 25 #[.int .u64 Ex, .slice ax nx cx] ∧ Rows8 (v3.alloc (.cells #[.int .u64 0, .slice none 0 0] 25)) (w.heap.size + 1) 25 #[.int .u64 Ey, .slice ay ny cy] := ⟨hS3.1.alloc _, hS3.2.alloc _⟩
        have hRA := Rows8.new v3 25 #[.int .u64 0, .slice none 0 0]
        have hzA : w.heap.size + 1 < v3.heap.size := hS3.2.lt
        have hPAn : OwnsWords w.heap.size L (.slice a7 n7 c7) (v3.alloc (.cells #[.int .u64 0, .slice none 0 0] 25)) := owns_keep hPA Rows8.newB (Nat.le_refl _)
        clear hPA
        have hPA := hPAn
        clear hPAn
        have hPBn : OwnsWords w.heap.size M (.slice a8 n8 c8) (v3.alloc (.cells #[.int .u64 0, .slice none 0 0] 25)) := owns_keep hPB Rows8.newB (Nat.le_refl _)
        clear hPB
        have hPB := hPBn
        clear hPBn
        have hNE : bB < v3.heap.size := hRB.lt
        have hRBn := hRB.alloc (.cells #[.int .u64 0, .slice none 0 0] 25)
        clear hRB
        have hRB := hRBn
        clear hRBn
        refine hK.out _ _ (fun _ => hS4) ?_
        clear hK K
        try simp only [Act.put, List.setIfInBounds_toArray, List.set_cons_zero, List.set_cons_succ]
        generalize v3.heap.size = bA at *
        generalize v3.alloc (.cells #[.int .u64 0, .slice none 0 0] 25) = v4 at *
        refine wpAnyX_one (i := 6) (o := { dst := none, op := Go.Op.store 25 (Go.Operand.tmp 7) (Go.Operand.tmp 25), type := 0, pos := "law.go:39", after := #[{ on := 4, ground := Go.Ground.data }, { on := 1, ground := Go.Ground.data }, { on := 3, ground := Go.Ground.chain }, { on := 0, ground := Go.Ground.phase }, { on := 1, ground := Go.Ground.phase }, { on := 2, ground := Go.Ground.textOnly Go.Departure.lateStores }, { on := 3, ground := Go.Ground.textOnly Go.Departure.lateStoresUnsure }, { on := 4, ground := Go.Ground.phase }, { on := 5, ground := Go.Ground.phase }], guard := none }) (by kernel_rfl) rfl (fun K hK => ?_)
        refine step_store_g (by rfl) 25 _ _ rfl ⟨bA, 0, none⟩ (.agg #[.int .u64 Ex, .slice a7 n7 c7]) (by simp [go_sem]) (by simp [go_sem]) (run_storeVar_row (P := Try.prog) v4 bA 25 25 _ #[.int .u64 Ex, .slice a7 n7 c7] hRA (by kernel_rfl) rfl (by simp [Value.oneCell'])) ?_
        have hB5 := below_setRow hB4 (show w.heap.size ≤ bA by omega) #[.int .u64 Ex, .slice a7 n7 c7]
        have hS5 : Rows8 (v4.setRow bA #[.int .u64 Ex, .slice a7 n7 c7]) w.heap.size 25 #[.int .u64 Ex, .slice ax nx cx] ∧ Rows8 (v4.setRow bA #[.int .u64 Ex, .slice a7 n7 c7]) (w.heap.size + 1) 25 #[.int .u64 Ey, .slice ay ny cy] := ⟨(setRow_other _ _ _ _ (by omega)).trans hS4.1, (setRow_other _ _ _ _ (by omega)).trans hS4.2⟩
        have hPAn : OwnsWords w.heap.size L (.slice a7 n7 c7) (v4.setRow bA #[.int .u64 Ex, .slice a7 n7 c7]) := owns_setRow hPA hRA (by decide) #[.int .u64 Ex, .slice a7 n7 c7]
        have hPBn : OwnsWords w.heap.size M (.slice a8 n8 c8) (v4.setRow bA #[.int .u64 Ex, .slice a7 n7 c7]) := owns_setRow hPB hRA (by decide) #[.int .u64 Ex, .slice a7 n7 c7]
        have hRBn : Rows8 (v4.setRow bA #[.int .u64 Ex, .slice a7 n7 c7]) bB 25 _ := (setRow_other _ _ _ _ (by omega)).trans hRB
        have hRAn : Rows8 (v4.setRow bA #[.int .u64 Ex, .slice a7 n7 c7]) bA 25 #[.int .u64 Ex, .slice a7 n7 c7] := setRow_heap _ _ _ _ _ _ hRA
        clear hPA hPB hRA hRB
        have hPA := hPAn
        have hPB := hPBn
        have hRA := hRAn
        have hRB := hRBn
        clear hPAn hPBn hRAn hRBn
        refine hK.out _ _ (fun _ => hS5) ?_
        clear hK K
        try simp only [Act.put, List.setIfInBounds_toArray, List.set_cons_zero, List.set_cons_succ]
        generalize (v4.setRow bA #[.int .u64 Ex, .slice a7 n7 c7]) = v5 at *
        refine wpAnyX_one (i := 7) (o := { dst := none, op := Go.Op.store 25 (Go.Operand.tmp 8) (Go.Operand.tmp 27), type := 0, pos := "law.go:39", after := #[{ on := 5, ground := Go.Ground.data }, { on := 3, ground := Go.Ground.data }, { on := 6, ground := Go.Ground.chain }, { on := 0, ground := Go.Ground.phase }, { on := 1, ground := Go.Ground.phase }, { on := 2, ground := Go.Ground.phase }, { on := 3, ground := Go.Ground.phase }, { on := 4, ground := Go.Ground.phase }, { on := 5, ground := Go.Ground.phase }, { on := 6, ground := Go.Ground.phase }], guard := none }) (by kernel_rfl) rfl (fun K hK => ?_)
        refine step_store_g (by rfl) 25 _ _ rfl ⟨bB, 0, none⟩ (.agg #[.int .u64 Ey, .slice a8 n8 c8]) (by simp [go_sem]) (by simp [go_sem]) (run_storeVar_row (P := Try.prog) v5 bB 25 25 _ #[.int .u64 Ey, .slice a8 n8 c8] hRB (by kernel_rfl) rfl (by simp [Value.oneCell'])) ?_
        have hB6 := below_setRow hB5 (show w.heap.size ≤ bB by omega) #[.int .u64 Ey, .slice a8 n8 c8]
        have hS6 : Rows8 (v5.setRow bB #[.int .u64 Ey, .slice a8 n8 c8]) w.heap.size 25 #[.int .u64 Ex, .slice ax nx cx] ∧ Rows8 (v5.setRow bB #[.int .u64 Ey, .slice a8 n8 c8]) (w.heap.size + 1) 25 #[.int .u64 Ey, .slice ay ny cy] := ⟨(setRow_other _ _ _ _ (by omega)).trans hS5.1, (setRow_other _ _ _ _ (by omega)).trans hS5.2⟩
        have hPAn : OwnsWords w.heap.size L (.slice a7 n7 c7) (v5.setRow bB #[.int .u64 Ey, .slice a8 n8 c8]) := owns_setRow hPA hRB (by decide) #[.int .u64 Ey, .slice a8 n8 c8]
        have hPBn : OwnsWords w.heap.size M (.slice a8 n8 c8) (v5.setRow bB #[.int .u64 Ey, .slice a8 n8 c8]) := owns_setRow hPB hRB (by decide) #[.int .u64 Ey, .slice a8 n8 c8]
        have hRAn : Rows8 (v5.setRow bB #[.int .u64 Ey, .slice a8 n8 c8]) bA 25 _ := (setRow_other _ _ _ _ (by omega)).trans hRA
        have hRBn : Rows8 (v5.setRow bB #[.int .u64 Ey, .slice a8 n8 c8]) bB 25 #[.int .u64 Ey, .slice a8 n8 c8] := setRow_heap _ _ _ _ _ _ hRB
        clear hPA hPB hRA hRB
        have hPA := hPAn
        have hPB := hPBn
        have hRA := hRAn
        have hRB := hRBn
        clear hPAn hPBn hRAn hRBn
        refine hK.out _ _ (fun _ => hS6) ?_
        clear hK K
        try simp only [Act.put, List.setIfInBounds_toArray, List.set_cons_zero, List.set_cons_succ]
        generalize (v5.setRow bB #[.int .u64 Ey, .slice a8 n8 c8]) = v6 at *
        refine wpAnyX_end (by kernel_rfl) ?_
        exact HK.out _ _ _ _ _ _ _ _ _ hA hB hS6.1 hRA hRB hPA hPB hB6
    · refine step_value_g (by rfl) (.pointer (some ⟨v1.heap.size, 0, none⟩)) (w' := v1.alloc (.cells #[.int .u64 0, .slice none 0 0] 25)) (by go_simp) ?_
      have hB2 := hB1.alloc hB1.size (.cells #[.int .u64 0, .slice none 0 0] 25)
      have hS2 : Rows8 (v1.alloc (.cells #[.int .u64 0, .slice none 0 0] 25)) w.heap.size 25 #[.int .u64 Ex, .slice ax nx cx] ∧ Rows8 (v1.alloc (.cells #[.int .u64 0, .slice none 0 0] 25)) (w.heap.size + 1) 25 #[.int .u64 Ey, .slice ay ny cy] := ⟨hS1.1.alloc _, hS1.2.alloc _⟩
      have hRA := Rows8.new v1 25 #[.int .u64 0, .slice none 0 0]
      have hzA : w.heap.size + 1 < v1.heap.size := hS1.2.lt
      have hPAn : OwnsWords w.heap.size L (.slice a7 n7 c7) (v1.alloc (.cells #[.int .u64 0, .slice none 0 0] 25)) := owns_keep hPA Rows8.newB (Nat.le_refl _)
      clear hPA
      have hPA := hPAn
      clear hPAn
      refine hK.out _ _ (fun _ => hS2) ?_
      clear hK K
      try simp only [Act.put, List.setIfInBounds_toArray, List.set_cons_zero, List.set_cons_succ]
      generalize v1.heap.size = bA at *
      generalize v1.alloc (.cells #[.int .u64 0, .slice none 0 0] 25) = v2 at *
      refine wpAnyX_two (i := 3) (j := 5) (oi := { dst := some 27, op := Go.Op.call { callee := Go.Callee.value (Go.Operand.func 9), args := #[Go.Operand.tmp 26], argTypes := #[25] }, type := 25, pos := "law.go:39", after := #[{ on := 2, ground := Go.Ground.data }, { on := 1, ground := Go.Ground.chain }], guard := none }) (oj := { dst := some 8, op := Go.Op.alloc 25, type := 0, pos := "law.go:39", after := #[], guard := none }) (by kernel_rfl) rfl rfl (fun K hK => ?_) (fun K hK => ?_)
      · refine step_call_g (by rfl) 9 _ _ rfl (fun _ _ => by kernel_rfl) #[.agg #[.int .u64 Ey, .slice ay ny cy]] (by simp [go_sem]) _ (HOy v2 (RowAt.below HJ.out hB2)).out ?_
        rintro e v3 ⟨⟨a8, n8, c8, rfl, hB, hOB⟩, hC⟩
        refine ⟨_, rfl, ?_⟩
        have hS3 : Rows8 v3 w.heap.size 25 #[.int .u64 Ex, .slice ax nx cx] ∧ Rows8 v3 (w.heap.size + 1) 25 #[.int .u64 Ey, .slice ay ny cy] := ⟨hS2.1.below hC hS2.1.lt, hS2.2.below hC hS2.2.lt⟩
        have hB3 := hB2.trans (hC.mono hB2.size)
        have hPB : OwnsWords w.heap.size M (.slice a8 n8 c8) v3 := owns_mono hOB hB2.size
        have hPAn : OwnsWords w.heap.size L (.slice a7 n7 c7) v3 := owns_keep hPA hC (Nat.le_refl _)
        clear hPA
        have hPA := hPAn
        clear hPAn
        have hRAn := hRA.below hC hRA.lt
        clear hRA
        have hRA := hRAn
        clear hRAn
        clear hC hOB
        refine hK.out _ _ (fun _ => hS3) ?_
        clear hK K
        try simp only [Act.put, List.setIfInBounds_toArray, List.set_cons_zero, List.set_cons_succ]
        refine wpAnyX_one (i := 5) (o := { dst := some 8, op := Go.Op.alloc 25, type := 0, pos := "law.go:39", after := #[], guard := none }) (by kernel_rfl) rfl (fun K hK => ?_)
        refine step_value_g (by rfl) (.pointer (some ⟨v3.heap.size, 0, none⟩)) (w' := v3.alloc (.cells #[.int .u64 0, .slice none 0 0] 25)) (by go_simp) ?_
        have hB4 := hB3.alloc hB3.size (.cells #[.int .u64 0, .slice none 0 0] 25)
        have hS4 : Rows8 (v3.alloc (.cells #[.int .u64 0, .slice none 0 0] 25)) w.heap.size 25 #[.int .u64 Ex, .slice ax nx cx] ∧ Rows8 (v3.alloc (.cells #[.int .u64 0, .slice none 0 0] 25)) (w.heap.size + 1) 25 #[.int .u64 Ey, .slice ay ny cy] := ⟨hS3.1.alloc _, hS3.2.alloc _⟩
        have hRB := Rows8.new v3 25 #[.int .u64 0, .slice none 0 0]
        have hzB : w.heap.size + 1 < v3.heap.size := hS3.2.lt
        have hPAn : OwnsWords w.heap.size L (.slice a7 n7 c7) (v3.alloc (.cells #[.int .u64 0, .slice none 0 0] 25)) := owns_keep hPA Rows8.newB (Nat.le_refl _)
        clear hPA
        have hPA := hPAn
        clear hPAn
        have hPBn : OwnsWords w.heap.size M (.slice a8 n8 c8) (v3.alloc (.cells #[.int .u64 0, .slice none 0 0] 25)) := owns_keep hPB Rows8.newB (Nat.le_refl _)
        clear hPB
        have hPB := hPBn
        clear hPBn
        have hNE : bA < v3.heap.size := hRA.lt
        have hRAn := hRA.alloc (.cells #[.int .u64 0, .slice none 0 0] 25)
        clear hRA
        have hRA := hRAn
        clear hRAn
        refine hK.out _ _ (fun _ => hS4) ?_
        clear hK K
        try simp only [Act.put, List.setIfInBounds_toArray, List.set_cons_zero, List.set_cons_succ]
        generalize v3.heap.size = bB at *
        generalize v3.alloc (.cells #[.int .u64 0, .slice none 0 0] 25) = v4 at *
        refine wpAnyX_one (i := 6) (o := { dst := none, op := Go.Op.store 25 (Go.Operand.tmp 7) (Go.Operand.tmp 25), type := 0, pos := "law.go:39", after := #[{ on := 4, ground := Go.Ground.data }, { on := 1, ground := Go.Ground.data }, { on := 3, ground := Go.Ground.chain }, { on := 0, ground := Go.Ground.phase }, { on := 1, ground := Go.Ground.phase }, { on := 2, ground := Go.Ground.textOnly Go.Departure.lateStores }, { on := 3, ground := Go.Ground.textOnly Go.Departure.lateStoresUnsure }, { on := 4, ground := Go.Ground.phase }, { on := 5, ground := Go.Ground.phase }], guard := none }) (by kernel_rfl) rfl (fun K hK => ?_)
        refine step_store_g (by rfl) 25 _ _ rfl ⟨bA, 0, none⟩ (.agg #[.int .u64 Ex, .slice a7 n7 c7]) (by simp [go_sem]) (by simp [go_sem]) (run_storeVar_row (P := Try.prog) v4 bA 25 25 _ #[.int .u64 Ex, .slice a7 n7 c7] hRA (by kernel_rfl) rfl (by simp [Value.oneCell'])) ?_
        have hB5 := below_setRow hB4 (show w.heap.size ≤ bA by omega) #[.int .u64 Ex, .slice a7 n7 c7]
        have hS5 : Rows8 (v4.setRow bA #[.int .u64 Ex, .slice a7 n7 c7]) w.heap.size 25 #[.int .u64 Ex, .slice ax nx cx] ∧ Rows8 (v4.setRow bA #[.int .u64 Ex, .slice a7 n7 c7]) (w.heap.size + 1) 25 #[.int .u64 Ey, .slice ay ny cy] := ⟨(setRow_other _ _ _ _ (by omega)).trans hS4.1, (setRow_other _ _ _ _ (by omega)).trans hS4.2⟩
        have hPAn : OwnsWords w.heap.size L (.slice a7 n7 c7) (v4.setRow bA #[.int .u64 Ex, .slice a7 n7 c7]) := owns_setRow hPA hRA (by decide) #[.int .u64 Ex, .slice a7 n7 c7]
        have hPBn : OwnsWords w.heap.size M (.slice a8 n8 c8) (v4.setRow bA #[.int .u64 Ex, .slice a7 n7 c7]) := owns_setRow hPB hRA (by decide) #[.int .u64 Ex, .slice a7 n7 c7]
        have hRBn : Rows8 (v4.setRow bA #[.int .u64 Ex, .slice a7 n7 c7]) bB 25 _ := (setRow_other _ _ _ _ (by omega)).trans hRB
        have hRAn : Rows8 (v4.setRow bA #[.int .u64 Ex, .slice a7 n7 c7]) bA 25 #[.int .u64 Ex, .slice a7 n7 c7] := setRow_heap _ _ _ _ _ _ hRA
        clear hPA hPB hRA hRB
        have hPA := hPAn
        have hPB := hPBn
        have hRA := hRAn
        have hRB := hRBn
        clear hPAn hPBn hRAn hRBn
        refine hK.out _ _ (fun _ => hS5) ?_
        clear hK K
        try simp only [Act.put, List.setIfInBounds_toArray, List.set_cons_zero, List.set_cons_succ]
        generalize (v4.setRow bA #[.int .u64 Ex, .slice a7 n7 c7]) = v5 at *
        refine wpAnyX_one (i := 7) (o := { dst := none, op := Go.Op.store 25 (Go.Operand.tmp 8) (Go.Operand.tmp 27), type := 0, pos := "law.go:39", after := #[{ on := 5, ground := Go.Ground.data }, { on := 3, ground := Go.Ground.data }, { on := 6, ground := Go.Ground.chain }, { on := 0, ground := Go.Ground.phase }, { on := 1, ground := Go.Ground.phase }, { on := 2, ground := Go.Ground.phase }, { on := 3, ground := Go.Ground.phase }, { on := 4, ground := Go.Ground.phase }, { on := 5, ground := Go.Ground.phase }, { on := 6, ground := Go.Ground.phase }], guard := none }) (by kernel_rfl) rfl (fun K hK => ?_)
        refine step_store_g (by rfl) 25 _ _ rfl ⟨bB, 0, none⟩ (.agg #[.int .u64 Ey, .slice a8 n8 c8]) (by simp [go_sem]) (by simp [go_sem]) (run_storeVar_row (P := Try.prog) v5 bB 25 25 _ #[.int .u64 Ey, .slice a8 n8 c8] hRB (by kernel_rfl) rfl (by simp [Value.oneCell'])) ?_
        have hB6 := below_setRow hB5 (show w.heap.size ≤ bB by omega) #[.int .u64 Ey, .slice a8 n8 c8]
        have hS6 : Rows8 (v5.setRow bB #[.int .u64 Ey, .slice a8 n8 c8]) w.heap.size 25 #[.int .u64 Ex, .slice ax nx cx] ∧ Rows8 (v5.setRow bB #[.int .u64 Ey, .slice a8 n8 c8]) (w.heap.size + 1) 25 #[.int .u64 Ey, .slice ay ny cy] := ⟨(setRow_other _ _ _ _ (by omega)).trans hS5.1, (setRow_other _ _ _ _ (by omega)).trans hS5.2⟩
        have hPAn : OwnsWords w.heap.size L (.slice a7 n7 c7) (v5.setRow bB #[.int .u64 Ey, .slice a8 n8 c8]) := owns_setRow hPA hRB (by decide) #[.int .u64 Ey, .slice a8 n8 c8]
        have hPBn : OwnsWords w.heap.size M (.slice a8 n8 c8) (v5.setRow bB #[.int .u64 Ey, .slice a8 n8 c8]) := owns_setRow hPB hRB (by decide) #[.int .u64 Ey, .slice a8 n8 c8]
        have hRAn : Rows8 (v5.setRow bB #[.int .u64 Ey, .slice a8 n8 c8]) bA 25 _ := (setRow_other _ _ _ _ (by omega)).trans hRA
        have hRBn : Rows8 (v5.setRow bB #[.int .u64 Ey, .slice a8 n8 c8]) bB 25 #[.int .u64 Ey, .slice a8 n8 c8] := setRow_heap _ _ _ _ _ _ hRB
        clear hPA hPB hRA hRB
        have hPA := hPAn
        have hPB := hPBn
        have hRA := hRAn
        have hRB := hRBn
        clear hPAn hPBn hRAn hRBn
        refine hK.out _ _ (fun _ => hS6) ?_
        clear hK K
        try simp only [Act.put, List.setIfInBounds_toArray, List.set_cons_zero, List.set_cons_succ]
        generalize (v5.setRow bB #[.int .u64 Ey, .slice a8 n8 c8]) = v6 at *
        refine wpAnyX_end (by kernel_rfl) ?_
        exact HK.out _ _ _ _ _ _ _ _ _ hA hB hS6.1 hRA hRB hPA hPB hB6
      · refine step_value_g (by rfl) (.pointer (some ⟨v2.heap.size, 0, none⟩)) (w' := v2.alloc (.cells #[.int .u64 0, .slice none 0 0] 25)) (by go_simp) ?_
        have hB3 := hB2.alloc hB2.size (.cells #[.int .u64 0, .slice none 0 0] 25)
        have hS3 : Rows8 (v2.alloc (.cells #[.int .u64 0, .slice none 0 0] 25)) w.heap.size 25 #[.int .u64 Ex, .slice ax nx cx] ∧ Rows8 (v2.alloc (.cells #[.int .u64 0, .slice none 0 0] 25)) (w.heap.size + 1) 25 #[.int .u64 Ey, .slice ay ny cy] := ⟨hS2.1.alloc _, hS2.2.alloc _⟩
        have hRB := Rows8.new v2 25 #[.int .u64 0, .slice none 0 0]
        have hzB : w.heap.size + 1 < v2.heap.size := hS2.2.lt
        have hPAn : OwnsWords w.heap.size L (.slice a7 n7 c7) (v2.alloc (.cells #[.int .u64 0, .slice none 0 0] 25)) := owns_keep hPA Rows8.newB (Nat.le_refl _)
        clear hPA
        have hPA := hPAn
        clear hPAn
        have hNE : bA < v2.heap.size := hRA.lt
        have hRAn := hRA.alloc (.cells #[.int .u64 0, .slice none 0 0] 25)
        clear hRA
        have hRA := hRAn
        clear hRAn
        refine hK.out _ _ (fun _ => hS3) ?_
        clear hK K
        try simp only [Act.put, List.setIfInBounds_toArray, List.set_cons_zero, List.set_cons_succ]
        generalize v2.heap.size = bB at *
        generalize v2.alloc (.cells #[.int .u64 0, .slice none 0 0] 25) = v3 at *
        refine wpAnyX_one (i := 3) (o := { dst := some 27, op := Go.Op.call { callee := Go.Callee.value (Go.Operand.func 9), args := #[Go.Operand.tmp 26], argTypes := #[25] }, type := 25, pos := "law.go:39", after := #[{ on := 2, ground := Go.Ground.data }, { on := 1, ground := Go.Ground.chain }], guard := none }) (by kernel_rfl) rfl (fun K hK => ?_)
        refine step_call_g (by rfl) 9 _ _ rfl (fun _ _ => by kernel_rfl) #[.agg #[.int .u64 Ey, .slice ay ny cy]] (by simp [go_sem]) _ (HOy v3 (RowAt.below HJ.out hB3)).out ?_
        rintro e v4 ⟨⟨a8, n8, c8, rfl, hB, hOB⟩, hC⟩
        refine ⟨_, rfl, ?_⟩
        have hS4 : Rows8 v4 w.heap.size 25 #[.int .u64 Ex, .slice ax nx cx] ∧ Rows8 v4 (w.heap.size + 1) 25 #[.int .u64 Ey, .slice ay ny cy] := ⟨hS3.1.below hC hS3.1.lt, hS3.2.below hC hS3.2.lt⟩
        have hB4 := hB3.trans (hC.mono hB3.size)
        have hPB : OwnsWords w.heap.size M (.slice a8 n8 c8) v4 := owns_mono hOB hB3.size
        have hPAn : OwnsWords w.heap.size L (.slice a7 n7 c7) v4 := owns_keep hPA hC (Nat.le_refl _)
        clear hPA
        have hPA := hPAn
        clear hPAn
        have hRAn := hRA.below hC hRA.lt
        clear hRA
        have hRA := hRAn
        clear hRAn
        have hRBn := hRB.below hC hRB.lt
        clear hRB
        have hRB := hRBn
        clear hRBn
        clear hC hOB
        refine hK.out _ _ (fun _ => hS4) ?_
        clear hK K
        try simp only [Act.put, List.setIfInBounds_toArray, List.set_cons_zero, List.set_cons_succ]
        refine wpAnyX_one (i := 6) (o := { dst := none, op := Go.Op.store 25 (Go.Operand.tmp 7) (Go.Operand.tmp 25), type := 0, pos := "law.go:39", after := #[{ on := 4, ground := Go.Ground.data }, { on := 1, ground := Go.Ground.data }, { on := 3, ground := Go.Ground.chain }, { on := 0, ground := Go.Ground.phase }, { on := 1, ground := Go.Ground.phase }, { on := 2, ground := Go.Ground.textOnly Go.Departure.lateStores }, { on := 3, ground := Go.Ground.textOnly Go.Departure.lateStoresUnsure }, { on := 4, ground := Go.Ground.phase }, { on := 5, ground := Go.Ground.phase }], guard := none }) (by kernel_rfl) rfl (fun K hK => ?_)
        refine step_store_g (by rfl) 25 _ _ rfl ⟨bA, 0, none⟩ (.agg #[.int .u64 Ex, .slice a7 n7 c7]) (by simp [go_sem]) (by simp [go_sem]) (run_storeVar_row (P := Try.prog) v4 bA 25 25 _ #[.int .u64 Ex, .slice a7 n7 c7] hRA (by kernel_rfl) rfl (by simp [Value.oneCell'])) ?_
        have hB5 := below_setRow hB4 (show w.heap.size ≤ bA by omega) #[.int .u64 Ex, .slice a7 n7 c7]
        have hS5 : Rows8 (v4.setRow bA #[.int .u64 Ex, .slice a7 n7 c7]) w.heap.size 25 #[.int .u64 Ex, .slice ax nx cx] ∧ Rows8 (v4.setRow bA #[.int .u64 Ex, .slice a7 n7 c7]) (w.heap.size + 1) 25 #[.int .u64 Ey, .slice ay ny cy] := ⟨(setRow_other _ _ _ _ (by omega)).trans hS4.1, (setRow_other _ _ _ _ (by omega)).trans hS4.2⟩
        have hPAn : OwnsWords w.heap.size L (.slice a7 n7 c7) (v4.setRow bA #[.int .u64 Ex, .slice a7 n7 c7]) := owns_setRow hPA hRA (by decide) #[.int .u64 Ex, .slice a7 n7 c7]
        have hPBn : OwnsWords w.heap.size M (.slice a8 n8 c8) (v4.setRow bA #[.int .u64 Ex, .slice a7 n7 c7]) := owns_setRow hPB hRA (by decide) #[.int .u64 Ex, .slice a7 n7 c7]
        have hRBn : Rows8 (v4.setRow bA #[.int .u64 Ex, .slice a7 n7 c7]) bB 25 _ := (setRow_other _ _ _ _ (by omega)).trans hRB
        have hRAn : Rows8 (v4.setRow bA #[.int .u64 Ex, .slice a7 n7 c7]) bA 25 #[.int .u64 Ex, .slice a7 n7 c7] := setRow_heap _ _ _ _ _ _ hRA
        clear hPA hPB hRA hRB
        have hPA := hPAn
        have hPB := hPBn
        have hRA := hRAn
        have hRB := hRBn
        clear hPAn hPBn hRAn hRBn
        refine hK.out _ _ (fun _ => hS5) ?_
        clear hK K
        try simp only [Act.put, List.setIfInBounds_toArray, List.set_cons_zero, List.set_cons_succ]
        generalize (v4.setRow bA #[.int .u64 Ex, .slice a7 n7 c7]) = v5 at *
        refine wpAnyX_one (i := 7) (o := { dst := none, op := Go.Op.store 25 (Go.Operand.tmp 8) (Go.Operand.tmp 27), type := 0, pos := "law.go:39", after := #[{ on := 5, ground := Go.Ground.data }, { on := 3, ground := Go.Ground.data }, { on := 6, ground := Go.Ground.chain }, { on := 0, ground := Go.Ground.phase }, { on := 1, ground := Go.Ground.phase }, { on := 2, ground := Go.Ground.phase }, { on := 3, ground := Go.Ground.phase }, { on := 4, ground := Go.Ground.phase }, { on := 5, ground := Go.Ground.phase }, { on := 6, ground := Go.Ground.phase }], guard := none }) (by kernel_rfl) rfl (fun K hK => ?_)
        refine step_store_g (by rfl) 25 _ _ rfl ⟨bB, 0, none⟩ (.agg #[.int .u64 Ey, .slice a8 n8 c8]) (by simp [go_sem]) (by simp [go_sem]) (run_storeVar_row (P := Try.prog) v5 bB 25 25 _ #[.int .u64 Ey, .slice a8 n8 c8] hRB (by kernel_rfl) rfl (by simp [Value.oneCell'])) ?_
        have hB6 := below_setRow hB5 (show w.heap.size ≤ bB by omega) #[.int .u64 Ey, .slice a8 n8 c8]
        have hS6 : Rows8 (v5.setRow bB #[.int .u64 Ey, .slice a8 n8 c8]) w.heap.size 25 #[.int .u64 Ex, .slice ax nx cx] ∧ Rows8 (v5.setRow bB #[.int .u64 Ey, .slice a8 n8 c8]) (w.heap.size + 1) 25 #[.int .u64 Ey, .slice ay ny cy] := ⟨(setRow_other _ _ _ _ (by omega)).trans hS5.1, (setRow_other _ _ _ _ (by omega)).trans hS5.2⟩
        have hPAn : OwnsWords w.heap.size L (.slice a7 n7 c7) (v5.setRow bB #[.int .u64 Ey, .slice a8 n8 c8]) := owns_setRow hPA hRB (by decide) #[.int .u64 Ey, .slice a8 n8 c8]
        have hPBn : OwnsWords w.heap.size M (.slice a8 n8 c8) (v5.setRow bB #[.int .u64 Ey, .slice a8 n8 c8]) := owns_setRow hPB hRB (by decide) #[.int .u64 Ey, .slice a8 n8 c8]
        have hRAn : Rows8 (v5.setRow bB #[.int .u64 Ey, .slice a8 n8 c8]) bA 25 _ := (setRow_other _ _ _ _ (by omega)).trans hRA
        have hRBn : Rows8 (v5.setRow bB #[.int .u64 Ey, .slice a8 n8 c8]) bB 25 #[.int .u64 Ey, .slice a8 n8 c8] := setRow_heap _ _ _ _ _ _ hRB
        clear hPA hPB hRA hRB
        have hPA := hPAn
        have hPB := hPBn
        have hRA := hRAn
        have hRB := hRBn
        clear hPAn hPBn hRAn hRBn
        refine hK.out _ _ (fun _ => hS6) ?_
        clear hK K
        try simp only [Act.put, List.setIfInBounds_toArray, List.set_cons_zero, List.set_cons_succ]
        generalize (v5.setRow bB #[.int .u64 Ey, .slice a8 n8 c8]) = v6 at *
        refine wpAnyX_end (by kernel_rfl) ?_
        exact HK.out _ _ _ _ _ _ _ _ _ hA hB hS6.1 hRA hRB hPA hPB hB6
    · refine step_value_g (by rfl) (.pointer (some ⟨v1.heap.size, 0, none⟩)) (w' := v1.alloc (.cells #[.int .u64 0, .slice none 0 0] 25)) (by go_simp) ?_
      have hB2 := hB1.alloc hB1.size (.cells #[.int .u64 0, .slice none 0 0] 25)
      have hS2 : Rows8 (v1.alloc (.cells #[.int .u64 0, .slice none 0 0] 25)) w.heap.size 25 #[.int .u64 Ex, .slice ax nx cx] ∧ Rows8 (v1.alloc (.cells #[.int .u64 0, .slice none 0 0] 25)) (w.heap.size + 1) 25 #[.int .u64 Ey, .slice ay ny cy] := ⟨hS1.1.alloc _, hS1.2.alloc _⟩
      have hRB := Rows8.new v1 25 #[.int .u64 0, .slice none 0 0]
      have hzB : w.heap.size + 1 < v1.heap.size := hS1.2.lt
      have hPAn : OwnsWords w.heap.size L (.slice a7 n7 c7) (v1.alloc (.cells #[.int .u64 0, .slice none 0 0] 25)) := owns_keep hPA Rows8.newB (Nat.le_refl _)
      clear hPA
      have hPA := hPAn
      clear hPAn
      refine hK.out _ _ (fun _ => hS2) ?_
      clear hK K
      try simp only [Act.put, List.setIfInBounds_toArray, List.set_cons_zero, List.set_cons_succ]
      generalize v1.heap.size = bB at *
      generalize v1.alloc (.cells #[.int .u64 0, .slice none 0 0] 25) = v2 at *
      refine wpAnyX_two (i := 3) (j := 4) (oi := { dst := some 27, op := Go.Op.call { callee := Go.Callee.value (Go.Operand.func 9), args := #[Go.Operand.tmp 26], argTypes := #[25] }, type := 25, pos := "law.go:39", after := #[{ on := 2, ground := Go.Ground.data }, { on := 1, ground := Go.Ground.chain }], guard := none }) (oj := { dst := some 7, op := Go.Op.alloc 25, type := 0, pos := "law.go:39", after := #[], guard := none }) (by kernel_rfl) rfl rfl (fun K hK => ?_) (fun K hK => ?_)
      · refine step_call_g (by rfl) 9 _ _ rfl (fun _ _ => by kernel_rfl) #[.agg #[.int .u64 Ey, .slice ay ny cy]] (by simp [go_sem]) _ (HOy v2 (RowAt.below HJ.out hB2)).out ?_
        rintro e v3 ⟨⟨a8, n8, c8, rfl, hB, hOB⟩, hC⟩
        refine ⟨_, rfl, ?_⟩
        have hS3 : Rows8 v3 w.heap.size 25 #[.int .u64 Ex, .slice ax nx cx] ∧ Rows8 v3 (w.heap.size + 1) 25 #[.int .u64 Ey, .slice ay ny cy] := ⟨hS2.1.below hC hS2.1.lt, hS2.2.below hC hS2.2.lt⟩
        have hB3 := hB2.trans (hC.mono hB2.size)
        have hPB : OwnsWords w.heap.size M (.slice a8 n8 c8) v3 := owns_mono hOB hB2.size
        have hPAn : OwnsWords w.heap.size L (.slice a7 n7 c7) v3 := owns_keep hPA hC (Nat.le_refl _)
        clear hPA
        have hPA := hPAn
        clear hPAn
        have hRBn := hRB.below hC hRB.lt
        clear hRB
        have hRB := hRBn
        clear hRBn
        clear hC hOB
        refine hK.out _ _ (fun _ => hS3) ?_
        clear hK K
        try simp only [Act.put, List.setIfInBounds_toArray, List.set_cons_zero, List.set_cons_succ]
        refine wpAnyX_one (i := 4) (o := { dst := some 7, op := Go.Op.alloc 25, type := 0, pos := "law.go:39", after := #[], guard := none }) (by kernel_rfl) rfl (fun K hK => ?_)
        refine step_value_g (by rfl) (.pointer (some ⟨v3.heap.size, 0, none⟩)) (w' := v3.alloc (.cells #[.int .u64 0, .slice none 0 0] 25)) (by go_simp) ?_
        have hB4 := hB3.alloc hB3.size (.cells #[.int .u64 0, .slice none 0 0] 25)
        have hS4 : Rows8 (v3.alloc (.cells #[.int .u64 0, .slice none 0 0] 25)) w.heap.size 25 #[.int .u64 Ex, .slice ax nx cx] ∧ Rows8 (v3.alloc (.cells #[.int .u64 0, .slice none 0 0] 25)) (w.heap.size + 1) 25 #[.int .u64 Ey, .slice ay ny cy] := ⟨hS3.1.alloc _, hS3.2.alloc _⟩
        have hRA := Rows8.new v3 25 #[.int .u64 0, .slice none 0 0]
        have hzA : w.heap.size + 1 < v3.heap.size := hS3.2.lt
        have hPAn : OwnsWords w.heap.size L (.slice a7 n7 c7) (v3.alloc (.cells #[.int .u64 0, .slice none 0 0] 25)) := owns_keep hPA Rows8.newB (Nat.le_refl _)
        clear hPA
        have hPA := hPAn
        clear hPAn
        have hPBn : OwnsWords w.heap.size M (.slice a8 n8 c8) (v3.alloc (.cells #[.int .u64 0, .slice none 0 0] 25)) := owns_keep hPB Rows8.newB (Nat.le_refl _)
        clear hPB
        have hPB := hPBn
        clear hPBn
        have hNE : bB < v3.heap.size := hRB.lt
        have hRBn := hRB.alloc (.cells #[.int .u64 0, .slice none 0 0] 25)
        clear hRB
        have hRB := hRBn
        clear hRBn
        refine hK.out _ _ (fun _ => hS4) ?_
        clear hK K
        try simp only [Act.put, List.setIfInBounds_toArray, List.set_cons_zero, List.set_cons_succ]
        generalize v3.heap.size = bA at *
        generalize v3.alloc (.cells #[.int .u64 0, .slice none 0 0] 25) = v4 at *
        refine wpAnyX_one (i := 6) (o := { dst := none, op := Go.Op.store 25 (Go.Operand.tmp 7) (Go.Operand.tmp 25), type := 0, pos := "law.go:39", after := #[{ on := 4, ground := Go.Ground.data }, { on := 1, ground := Go.Ground.data }, { on := 3, ground := Go.Ground.chain }, { on := 0, ground := Go.Ground.phase }, { on := 1, ground := Go.Ground.phase }, { on := 2, ground := Go.Ground.textOnly Go.Departure.lateStores }, { on := 3, ground := Go.Ground.textOnly Go.Departure.lateStoresUnsure }, { on := 4, ground := Go.Ground.phase }, { on := 5, ground := Go.Ground.phase }], guard := none }) (by kernel_rfl) rfl (fun K hK => ?_)
        refine step_store_g (by rfl) 25 _ _ rfl ⟨bA, 0, none⟩ (.agg #[.int .u64 Ex, .slice a7 n7 c7]) (by simp [go_sem]) (by simp [go_sem]) (run_storeVar_row (P := Try.prog) v4 bA 25 25 _ #[.int .u64 Ex, .slice a7 n7 c7] hRA (by kernel_rfl) rfl (by simp [Value.oneCell'])) ?_
        have hB5 := below_setRow hB4 (show w.heap.size ≤ bA by omega) #[.int .u64 Ex, .slice a7 n7 c7]
        have hS5 : Rows8 (v4.setRow bA #[.int .u64 Ex, .slice a7 n7 c7]) w.heap.size 25 #[.int .u64 Ex, .slice ax nx cx] ∧ Rows8 (v4.setRow bA #[.int .u64 Ex, .slice a7 n7 c7]) (w.heap.size + 1) 25 #[.int .u64 Ey, .slice ay ny cy] := ⟨(setRow_other _ _ _ _ (by omega)).trans hS4.1, (setRow_other _ _ _ _ (by omega)).trans hS4.2⟩
        have hPAn : OwnsWords w.heap.size L (.slice a7 n7 c7) (v4.setRow bA #[.int .u64 Ex, .slice a7 n7 c7]) := owns_setRow hPA hRA (by decide) #[.int .u64 Ex, .slice a7 n7 c7]
        have hPBn : OwnsWords w.heap.size M (.slice a8 n8 c8) (v4.setRow bA #[.int .u64 Ex, .slice a7 n7 c7]) := owns_setRow hPB hRA (by decide) #[.int .u64 Ex, .slice a7 n7 c7]
        have hRBn : Rows8 (v4.setRow bA #[.int .u64 Ex, .slice a7 n7 c7]) bB 25 _ := (setRow_other _ _ _ _ (by omega)).trans hRB
        have hRAn : Rows8 (v4.setRow bA #[.int .u64 Ex, .slice a7 n7 c7]) bA 25 #[.int .u64 Ex, .slice a7 n7 c7] := setRow_heap _ _ _ _ _ _ hRA
        clear hPA hPB hRA hRB
        have hPA := hPAn
        have hPB := hPBn
        have hRA := hRAn
        have hRB := hRBn
        clear hPAn hPBn hRAn hRBn
        refine hK.out _ _ (fun _ => hS5) ?_
        clear hK K
        try simp only [Act.put, List.setIfInBounds_toArray, List.set_cons_zero, List.set_cons_succ]
        generalize (v4.setRow bA #[.int .u64 Ex, .slice a7 n7 c7]) = v5 at *
        refine wpAnyX_one (i := 7) (o := { dst := none, op := Go.Op.store 25 (Go.Operand.tmp 8) (Go.Operand.tmp 27), type := 0, pos := "law.go:39", after := #[{ on := 5, ground := Go.Ground.data }, { on := 3, ground := Go.Ground.data }, { on := 6, ground := Go.Ground.chain }, { on := 0, ground := Go.Ground.phase }, { on := 1, ground := Go.Ground.phase }, { on := 2, ground := Go.Ground.phase }, { on := 3, ground := Go.Ground.phase }, { on := 4, ground := Go.Ground.phase }, { on := 5, ground := Go.Ground.phase }, { on := 6, ground := Go.Ground.phase }], guard := none }) (by kernel_rfl) rfl (fun K hK => ?_)
        refine step_store_g (by rfl) 25 _ _ rfl ⟨bB, 0, none⟩ (.agg #[.int .u64 Ey, .slice a8 n8 c8]) (by simp [go_sem]) (by simp [go_sem]) (run_storeVar_row (P := Try.prog) v5 bB 25 25 _ #[.int .u64 Ey, .slice a8 n8 c8] hRB (by kernel_rfl) rfl (by simp [Value.oneCell'])) ?_
        have hB6 := below_setRow hB5 (show w.heap.size ≤ bB by omega) #[.int .u64 Ey, .slice a8 n8 c8]
        have hS6 : Rows8 (v5.setRow bB #[.int .u64 Ey, .slice a8 n8 c8]) w.heap.size 25 #[.int .u64 Ex, .slice ax nx cx] ∧ Rows8 (v5.setRow bB #[.int .u64 Ey, .slice a8 n8 c8]) (w.heap.size + 1) 25 #[.int .u64 Ey, .slice ay ny cy] := ⟨(setRow_other _ _ _ _ (by omega)).trans hS5.1, (setRow_other _ _ _ _ (by omega)).trans hS5.2⟩
        have hPAn : OwnsWords w.heap.size L (.slice a7 n7 c7) (v5.setRow bB #[.int .u64 Ey, .slice a8 n8 c8]) := owns_setRow hPA hRB (by decide) #[.int .u64 Ey, .slice a8 n8 c8]
        have hPBn : OwnsWords w.heap.size M (.slice a8 n8 c8) (v5.setRow bB #[.int .u64 Ey, .slice a8 n8 c8]) := owns_setRow hPB hRB (by decide) #[.int .u64 Ey, .slice a8 n8 c8]
        have hRAn : Rows8 (v5.setRow bB #[.int .u64 Ey, .slice a8 n8 c8]) bA 25 _ := (setRow_other _ _ _ _ (by omega)).trans hRA
        have hRBn : Rows8 (v5.setRow bB #[.int .u64 Ey, .slice a8 n8 c8]) bB 25 #[.int .u64 Ey, .slice a8 n8 c8] := setRow_heap _ _ _ _ _ _ hRB
        clear hPA hPB hRA hRB
        have hPA := hPAn
        have hPB := hPBn
        have hRA := hRAn
        have hRB := hRBn
        clear hPAn hPBn hRAn hRBn
        refine hK.out _ _ (fun _ => hS6) ?_
        clear hK K
        try simp only [Act.put, List.setIfInBounds_toArray, List.set_cons_zero, List.set_cons_succ]
        generalize (v5.setRow bB #[.int .u64 Ey, .slice a8 n8 c8]) = v6 at *
        refine wpAnyX_end (by kernel_rfl) ?_
        exact HK.out _ _ _ _ _ _ _ _ _ hA hB hS6.1 hRA hRB hPA hPB hB6
      · refine step_value_g (by rfl) (.pointer (some ⟨v2.heap.size, 0, none⟩)) (w' := v2.alloc (.cells #[.int .u64 0, .slice none 0 0] 25)) (by go_simp) ?_
        have hB3 := hB2.alloc hB2.size (.cells #[.int .u64 0, .slice none 0 0] 25)
        have hS3 : Rows8 (v2.alloc (.cells #[.int .u64 0, .slice none 0 0] 25)) w.heap.size 25 #[.int .u64 Ex, .slice ax nx cx] ∧ Rows8 (v2.alloc (.cells #[.int .u64 0, .slice none 0 0] 25)) (w.heap.size + 1) 25 #[.int .u64 Ey, .slice ay ny cy] := ⟨hS2.1.alloc _, hS2.2.alloc _⟩
        have hRA := Rows8.new v2 25 #[.int .u64 0, .slice none 0 0]
        have hzA : w.heap.size + 1 < v2.heap.size := hS2.2.lt
        have hPAn : OwnsWords w.heap.size L (.slice a7 n7 c7) (v2.alloc (.cells #[.int .u64 0, .slice none 0 0] 25)) := owns_keep hPA Rows8.newB (Nat.le_refl _)
        clear hPA
        have hPA := hPAn
        clear hPAn
        have hNE : bB < v2.heap.size := hRB.lt
        have hRBn := hRB.alloc (.cells #[.int .u64 0, .slice none 0 0] 25)
        clear hRB
        have hRB := hRBn
        clear hRBn
        refine hK.out _ _ (fun _ => hS3) ?_
        clear hK K
        try simp only [Act.put, List.setIfInBounds_toArray, List.set_cons_zero, List.set_cons_succ]
        generalize v2.heap.size = bA at *
        generalize v2.alloc (.cells #[.int .u64 0, .slice none 0 0] 25) = v3 at *
        refine wpAnyX_one (i := 3) (o := { dst := some 27, op := Go.Op.call { callee := Go.Callee.value (Go.Operand.func 9), args := #[Go.Operand.tmp 26], argTypes := #[25] }, type := 25, pos := "law.go:39", after := #[{ on := 2, ground := Go.Ground.data }, { on := 1, ground := Go.Ground.chain }], guard := none }) (by kernel_rfl) rfl (fun K hK => ?_)
        refine step_call_g (by rfl) 9 _ _ rfl (fun _ _ => by kernel_rfl) #[.agg #[.int .u64 Ey, .slice ay ny cy]] (by simp [go_sem]) _ (HOy v3 (RowAt.below HJ.out hB3)).out ?_
        rintro e v4 ⟨⟨a8, n8, c8, rfl, hB, hOB⟩, hC⟩
        refine ⟨_, rfl, ?_⟩
        have hS4 : Rows8 v4 w.heap.size 25 #[.int .u64 Ex, .slice ax nx cx] ∧ Rows8 v4 (w.heap.size + 1) 25 #[.int .u64 Ey, .slice ay ny cy] := ⟨hS3.1.below hC hS3.1.lt, hS3.2.below hC hS3.2.lt⟩
        have hB4 := hB3.trans (hC.mono hB3.size)
        have hPB : OwnsWords w.heap.size M (.slice a8 n8 c8) v4 := owns_mono hOB hB3.size
        have hPAn : OwnsWords w.heap.size L (.slice a7 n7 c7) v4 := owns_keep hPA hC (Nat.le_refl _)
        clear hPA
        have hPA := hPAn
        clear hPAn
        have hRAn := hRA.below hC hRA.lt
        clear hRA
        have hRA := hRAn
        clear hRAn
        have hRBn := hRB.below hC hRB.lt
        clear hRB
        have hRB := hRBn
        clear hRBn
        clear hC hOB
        refine hK.out _ _ (fun _ => hS4) ?_
        clear hK K
        try simp only [Act.put, List.setIfInBounds_toArray, List.set_cons_zero, List.set_cons_succ]
        refine wpAnyX_one (i := 6) (o := { dst := none, op := Go.Op.store 25 (Go.Operand.tmp 7) (Go.Operand.tmp 25), type := 0, pos := "law.go:39", after := #[{ on := 4, ground := Go.Ground.data }, { on := 1, ground := Go.Ground.data }, { on := 3, ground := Go.Ground.chain }, { on := 0, ground := Go.Ground.phase }, { on := 1, ground := Go.Ground.phase }, { on := 2, ground := Go.Ground.textOnly Go.Departure.lateStores }, { on := 3, ground := Go.Ground.textOnly Go.Departure.lateStoresUnsure }, { on := 4, ground := Go.Ground.phase }, { on := 5, ground := Go.Ground.phase }], guard := none }) (by kernel_rfl) rfl (fun K hK => ?_)
        refine step_store_g (by rfl) 25 _ _ rfl ⟨bA, 0, none⟩ (.agg #[.int .u64 Ex, .slice a7 n7 c7]) (by simp [go_sem]) (by simp [go_sem]) (run_storeVar_row (P := Try.prog) v4 bA 25 25 _ #[.int .u64 Ex, .slice a7 n7 c7] hRA (by kernel_rfl) rfl (by simp [Value.oneCell'])) ?_
        have hB5 := below_setRow hB4 (show w.heap.size ≤ bA by omega) #[.int .u64 Ex, .slice a7 n7 c7]
        have hS5 : Rows8 (v4.setRow bA #[.int .u64 Ex, .slice a7 n7 c7]) w.heap.size 25 #[.int .u64 Ex, .slice ax nx cx] ∧ Rows8 (v4.setRow bA #[.int .u64 Ex, .slice a7 n7 c7]) (w.heap.size + 1) 25 #[.int .u64 Ey, .slice ay ny cy] := ⟨(setRow_other _ _ _ _ (by omega)).trans hS4.1, (setRow_other _ _ _ _ (by omega)).trans hS4.2⟩
        have hPAn : OwnsWords w.heap.size L (.slice a7 n7 c7) (v4.setRow bA #[.int .u64 Ex, .slice a7 n7 c7]) := owns_setRow hPA hRA (by decide) #[.int .u64 Ex, .slice a7 n7 c7]
        have hPBn : OwnsWords w.heap.size M (.slice a8 n8 c8) (v4.setRow bA #[.int .u64 Ex, .slice a7 n7 c7]) := owns_setRow hPB hRA (by decide) #[.int .u64 Ex, .slice a7 n7 c7]
        have hRBn : Rows8 (v4.setRow bA #[.int .u64 Ex, .slice a7 n7 c7]) bB 25 _ := (setRow_other _ _ _ _ (by omega)).trans hRB
        have hRAn : Rows8 (v4.setRow bA #[.int .u64 Ex, .slice a7 n7 c7]) bA 25 #[.int .u64 Ex, .slice a7 n7 c7] := setRow_heap _ _ _ _ _ _ hRA
        clear hPA hPB hRA hRB
        have hPA := hPAn
        have hPB := hPBn
        have hRA := hRAn
        have hRB := hRBn
        clear hPAn hPBn hRAn hRBn
        refine hK.out _ _ (fun _ => hS5) ?_
        clear hK K
        try simp only [Act.put, List.setIfInBounds_toArray, List.set_cons_zero, List.set_cons_succ]
        generalize (v4.setRow bA #[.int .u64 Ex, .slice a7 n7 c7]) = v5 at *
        refine wpAnyX_one (i := 7) (o := { dst := none, op := Go.Op.store 25 (Go.Operand.tmp 8) (Go.Operand.tmp 27), type := 0, pos := "law.go:39", after := #[{ on := 5, ground := Go.Ground.data }, { on := 3, ground := Go.Ground.data }, { on := 6, ground := Go.Ground.chain }, { on := 0, ground := Go.Ground.phase }, { on := 1, ground := Go.Ground.phase }, { on := 2, ground := Go.Ground.phase }, { on := 3, ground := Go.Ground.phase }, { on := 4, ground := Go.Ground.phase }, { on := 5, ground := Go.Ground.phase }, { on := 6, ground := Go.Ground.phase }], guard := none }) (by kernel_rfl) rfl (fun K hK => ?_)
        refine step_store_g (by rfl) 25 _ _ rfl ⟨bB, 0, none⟩ (.agg #[.int .u64 Ey, .slice a8 n8 c8]) (by simp [go_sem]) (by simp [go_sem]) (run_storeVar_row (P := Try.prog) v5 bB 25 25 _ #[.int .u64 Ey, .slice a8 n8 c8] hRB (by kernel_rfl) rfl (by simp [Value.oneCell'])) ?_
        have hB6 := below_setRow hB5 (show w.heap.size ≤ bB by omega) #[.int .u64 Ey, .slice a8 n8 c8]
        have hS6 : Rows8 (v5.setRow bB #[.int .u64 Ey, .slice a8 n8 c8]) w.heap.size 25 #[.int .u64 Ex, .slice ax nx cx] ∧ Rows8 (v5.setRow bB #[.int .u64 Ey, .slice a8 n8 c8]) (w.heap.size + 1) 25 #[.int .u64 Ey, .slice ay ny cy] := ⟨(setRow_other _ _ _ _ (by omega)).trans hS5.1, (setRow_other _ _ _ _ (by omega)).trans hS5.2⟩
        have hPAn : OwnsWords w.heap.size L (.slice a7 n7 c7) (v5.setRow bB #[.int .u64 Ey, .slice a8 n8 c8]) := owns_setRow hPA hRB (by decide) #[.int .u64 Ey, .slice a8 n8 c8]
        have hPBn : OwnsWords w.heap.size M (.slice a8 n8 c8) (v5.setRow bB #[.int .u64 Ey, .slice a8 n8 c8]) := owns_setRow hPB hRB (by decide) #[.int .u64 Ey, .slice a8 n8 c8]
        have hRAn : Rows8 (v5.setRow bB #[.int .u64 Ey, .slice a8 n8 c8]) bA 25 _ := (setRow_other _ _ _ _ (by omega)).trans hRA
        have hRBn : Rows8 (v5.setRow bB #[.int .u64 Ey, .slice a8 n8 c8]) bB 25 #[.int .u64 Ey, .slice a8 n8 c8] := setRow_heap _ _ _ _ _ _ hRB
        clear hPA hPB hRA hRB
        have hPA := hPAn
        have hPB := hPBn
        have hRA := hRAn
        have hRB := hRBn
        clear hPAn hPBn hRAn hRBn
        refine hK.out _ _ (fun _ => hS6) ?_
        clear hK K
        try simp only [Act.put, List.setIfInBounds_toArray, List.set_cons_zero, List.set_cons_succ]
        generalize (v5.setRow bB #[.int .u64 Ey, .slice a8 n8 c8]) = v6 at *
        refine wpAnyX_end (by kernel_rfl) ?_
        exact HK.out _ _ _ _ _ _ _ _ _ hA hB hS6.1 hRA hRB hPA hPB hB6
  · refine step_value_g (by rfl) (.pointer (some ⟨Wd.heap.size, 0, none⟩)) (w' := Wd.alloc (.cells #[.int .u64 0, .slice none 0 0] 25)) (by go_simp) ?_
    have hB1 := hB0.alloc hB0.size (.cells #[.int .u64 0, .slice none 0 0] 25)
    have hS1 : Rows8 (Wd.alloc (.cells #[.int .u64 0, .slice none 0 0] 25)) w.heap.size 25 #[.int .u64 Ex, .slice ax nx cx] ∧ Rows8 (Wd.alloc (.cells #[.int .u64 0, .slice none 0 0] 25)) (w.heap.size + 1) 25 #[.int .u64 Ey, .slice ay ny cy] := ⟨hS0.1.alloc _, hS0.2.alloc _⟩
    have hRA := Rows8.new Wd 25 #[.int .u64 0, .slice none 0 0]
    have hzA : w.heap.size + 1 < Wd.heap.size := hS0.2.lt
    refine hK.out _ _ (fun _ => hS1) ?_
    clear hK K
    try simp only [Act.put, List.setIfInBounds_toArray, List.set_cons_zero, List.set_cons_succ]
    generalize Wd.heap.size = bA at *
    generalize Wd.alloc (.cells #[.int .u64 0, .slice none 0 0] 25) = v1 at *
    refine wpAnyX_two (i := 1) (j := 5) (oi := { dst := some 25, op := Go.Op.call { callee := Go.Callee.value (Go.Operand.func 9), args := #[Go.Operand.tmp 24], argTypes := #[25] }, type := 25, pos := "law.go:39", after := #[{ on := 0, ground := Go.Ground.data }], guard := none }) (oj := { dst := some 8, op := Go.Op.alloc 25, type := 0, pos := "law.go:39", after := #[], guard := none }) (by kernel_rfl) rfl rfl (fun K hK => ?_) (fun K hK => ?_)
    · refine step_call_g (by rfl) 9 _ _ rfl (fun _ _ => by kernel_rfl) #[.agg #[.int .u64 Ex, .slice ax nx cx]] (by simp [go_sem]) _ (HOx v1 (RowAt.below HI.out hB1)).out ?_
      rintro e v2 ⟨⟨a7, n7, c7, rfl, hA, hOA⟩, hC⟩
      refine ⟨_, rfl, ?_⟩
      have hS2 : Rows8 v2 w.heap.size 25 #[.int .u64 Ex, .slice ax nx cx] ∧ Rows8 v2 (w.heap.size + 1) 25 #[.int .u64 Ey, .slice ay ny cy] := ⟨hS1.1.below hC hS1.1.lt, hS1.2.below hC hS1.2.lt⟩
      have hB2 := hB1.trans (hC.mono hB1.size)
      have hPA : OwnsWords w.heap.size L (.slice a7 n7 c7) v2 := owns_mono hOA hB1.size
      have hRAn := hRA.below hC hRA.lt
      clear hRA
      have hRA := hRAn
      clear hRAn
      clear hC hOA
      refine hK.out _ _ (fun _ => hS2) ?_
      clear hK K
      try simp only [Act.put, List.setIfInBounds_toArray, List.set_cons_zero, List.set_cons_succ]
      refine wpAnyX_two (i := 3) (j := 5) (oi := { dst := some 27, op := Go.Op.call { callee := Go.Callee.value (Go.Operand.func 9), args := #[Go.Operand.tmp 26], argTypes := #[25] }, type := 25, pos := "law.go:39", after := #[{ on := 2, ground := Go.Ground.data }, { on := 1, ground := Go.Ground.chain }], guard := none }) (oj := { dst := some 8, op := Go.Op.alloc 25, type := 0, pos := "law.go:39", after := #[], guard := none }) (by kernel_rfl) rfl rfl (fun K hK => ?_) (fun K hK => ?_)
      · refine step_call_g (by rfl) 9 _ _ rfl (fun _ _ => by kernel_rfl) #[.agg #[.int .u64 Ey, .slice ay ny cy]] (by simp [go_sem]) _ (HOy v2 (RowAt.below HJ.out hB2)).out ?_
        rintro e v3 ⟨⟨a8, n8, c8, rfl, hB, hOB⟩, hC⟩
        refine ⟨_, rfl, ?_⟩
        have hS3 : Rows8 v3 w.heap.size 25 #[.int .u64 Ex, .slice ax nx cx] ∧ Rows8 v3 (w.heap.size + 1) 25 #[.int .u64 Ey, .slice ay ny cy] := ⟨hS2.1.below hC hS2.1.lt, hS2.2.below hC hS2.2.lt⟩
        have hB3 := hB2.trans (hC.mono hB2.size)
        have hPB : OwnsWords w.heap.size M (.slice a8 n8 c8) v3 := owns_mono hOB hB2.size
        have hPAn : OwnsWords w.heap.size L (.slice a7 n7 c7) v3 := owns_keep hPA hC (Nat.le_refl _)
        clear hPA
        have hPA := hPAn
        clear hPAn
        have hRAn := hRA.below hC hRA.lt
        clear hRA
        have hRA := hRAn
        clear hRAn
        clear hC hOB
        refine hK.out _ _ (fun _ => hS3) ?_
        clear hK K
        try simp only [Act.put, List.setIfInBounds_toArray, List.set_cons_zero, List.set_cons_succ]
        refine wpAnyX_one (i := 5) (o := { dst := some 8, op := Go.Op.alloc 25, type := 0, pos := "law.go:39", after := #[], guard := none }) (by kernel_rfl) rfl (fun K hK => ?_)
        refine step_value_g (by rfl) (.pointer (some ⟨v3.heap.size, 0, none⟩)) (w' := v3.alloc (.cells #[.int .u64 0, .slice none 0 0] 25)) (by go_simp) ?_
        have hB4 := hB3.alloc hB3.size (.cells #[.int .u64 0, .slice none 0 0] 25)
        have hS4 : Rows8 (v3.alloc (.cells #[.int .u64 0, .slice none 0 0] 25)) w.heap.size 25 #[.int .u64 Ex, .slice ax nx cx] ∧ Rows8 (v3.alloc (.cells #[.int .u64 0, .slice none 0 0] 25)) (w.heap.size + 1) 25 #[.int .u64 Ey, .slice ay ny cy] := ⟨hS3.1.alloc _, hS3.2.alloc _⟩
        have hRB := Rows8.new v3 25 #[.int .u64 0, .slice none 0 0]
        have hzB : w.heap.size + 1 < v3.heap.size := hS3.2.lt
        have hPAn : OwnsWords w.heap.size L (.slice a7 n7 c7) (v3.alloc (.cells #[.int .u64 0, .slice none 0 0] 25)) := owns_keep hPA Rows8.newB (Nat.le_refl _)
        clear hPA
        have hPA := hPAn
        clear hPAn
        have hPBn : OwnsWords w.heap.size M (.slice a8 n8 c8) (v3.alloc (.cells #[.int .u64 0, .slice none 0 0] 25)) := owns_keep hPB Rows8.newB (Nat.le_refl _)
        clear hPB
        have hPB := hPBn
        clear hPBn
        have hNE : bA < v3.heap.size := hRA.lt
        have hRAn := hRA.alloc (.cells #[.int .u64 0, .slice none 0 0] 25)
        clear hRA
        have hRA := hRAn
        clear hRAn
        refine hK.out _ _ (fun _ => hS4) ?_
        clear hK K
        try simp only [Act.put, List.setIfInBounds_toArray, List.set_cons_zero, List.set_cons_succ]
        generalize v3.heap.size = bB at *
        generalize v3.alloc (.cells #[.int .u64 0, .slice none 0 0] 25) = v4 at *
        refine wpAnyX_one (i := 6) (o := { dst := none, op := Go.Op.store 25 (Go.Operand.tmp 7) (Go.Operand.tmp 25), type := 0, pos := "law.go:39", after := #[{ on := 4, ground := Go.Ground.data }, { on := 1, ground := Go.Ground.data }, { on := 3, ground := Go.Ground.chain }, { on := 0, ground := Go.Ground.phase }, { on := 1, ground := Go.Ground.phase }, { on := 2, ground := Go.Ground.textOnly Go.Departure.lateStores }, { on := 3, ground := Go.Ground.textOnly Go.Departure.lateStoresUnsure }, { on := 4, ground := Go.Ground.phase }, { on := 5, ground := Go.Ground.phase }], guard := none }) (by kernel_rfl) rfl (fun K hK => ?_)
        refine step_store_g (by rfl) 25 _ _ rfl ⟨bA, 0, none⟩ (.agg #[.int .u64 Ex, .slice a7 n7 c7]) (by simp [go_sem]) (by simp [go_sem]) (run_storeVar_row (P := Try.prog) v4 bA 25 25 _ #[.int .u64 Ex, .slice a7 n7 c7] hRA (by kernel_rfl) rfl (by simp [Value.oneCell'])) ?_
        have hB5 := below_setRow hB4 (show w.heap.size ≤ bA by omega) #[.int .u64 Ex, .slice a7 n7 c7]
        have hS5 : Rows8 (v4.setRow bA #[.int .u64 Ex, .slice a7 n7 c7]) w.heap.size 25 #[.int .u64 Ex, .slice ax nx cx] ∧ Rows8 (v4.setRow bA #[.int .u64 Ex, .slice a7 n7 c7]) (w.heap.size + 1) 25 #[.int .u64 Ey, .slice ay ny cy] := ⟨(setRow_other _ _ _ _ (by omega)).trans hS4.1, (setRow_other _ _ _ _ (by omega)).trans hS4.2⟩
        have hPAn : OwnsWords w.heap.size L (.slice a7 n7 c7) (v4.setRow bA #[.int .u64 Ex, .slice a7 n7 c7]) := owns_setRow hPA hRA (by decide) #[.int .u64 Ex, .slice a7 n7 c7]
        have hPBn : OwnsWords w.heap.size M (.slice a8 n8 c8) (v4.setRow bA #[.int .u64 Ex, .slice a7 n7 c7]) := owns_setRow hPB hRA (by decide) #[.int .u64 Ex, .slice a7 n7 c7]
        have hRBn : Rows8 (v4.setRow bA #[.int .u64 Ex, .slice a7 n7 c7]) bB 25 _ := (setRow_other _ _ _ _ (by omega)).trans hRB
        have hRAn : Rows8 (v4.setRow bA #[.int .u64 Ex, .slice a7 n7 c7]) bA 25 #[.int .u64 Ex, .slice a7 n7 c7] := setRow_heap _ _ _ _ _ _ hRA
        clear hPA hPB hRA hRB
        have hPA := hPAn
        have hPB := hPBn
        have hRA := hRAn
        have hRB := hRBn
        clear hPAn hPBn hRAn hRBn
        refine hK.out _ _ (fun _ => hS5) ?_
        clear hK K
        try simp only [Act.put, List.setIfInBounds_toArray, List.set_cons_zero, List.set_cons_succ]
        generalize (v4.setRow bA #[.int .u64 Ex, .slice a7 n7 c7]) = v5 at *
        refine wpAnyX_one (i := 7) (o := { dst := none, op := Go.Op.store 25 (Go.Operand.tmp 8) (Go.Operand.tmp 27), type := 0, pos := "law.go:39", after := #[{ on := 5, ground := Go.Ground.data }, { on := 3, ground := Go.Ground.data }, { on := 6, ground := Go.Ground.chain }, { on := 0, ground := Go.Ground.phase }, { on := 1, ground := Go.Ground.phase }, { on := 2, ground := Go.Ground.phase }, { on := 3, ground := Go.Ground.phase }, { on := 4, ground := Go.Ground.phase }, { on := 5, ground := Go.Ground.phase }, { on := 6, ground := Go.Ground.phase }], guard := none }) (by kernel_rfl) rfl (fun K hK => ?_)
        refine step_store_g (by rfl) 25 _ _ rfl ⟨bB, 0, none⟩ (.agg #[.int .u64 Ey, .slice a8 n8 c8]) (by simp [go_sem]) (by simp [go_sem]) (run_storeVar_row (P := Try.prog) v5 bB 25 25 _ #[.int .u64 Ey, .slice a8 n8 c8] hRB (by kernel_rfl) rfl (by simp [Value.oneCell'])) ?_
        have hB6 := below_setRow hB5 (show w.heap.size ≤ bB by omega) #[.int .u64 Ey, .slice a8 n8 c8]
        have hS6 : Rows8 (v5.setRow bB #[.int .u64 Ey, .slice a8 n8 c8]) w.heap.size 25 #[.int .u64 Ex, .slice ax nx cx] ∧ Rows8 (v5.setRow bB #[.int .u64 Ey, .slice a8 n8 c8]) (w.heap.size + 1) 25 #[.int .u64 Ey, .slice ay ny cy] := ⟨(setRow_other _ _ _ _ (by omega)).trans hS5.1, (setRow_other _ _ _ _ (by omega)).trans hS5.2⟩
        have hPAn : OwnsWords w.heap.size L (.slice a7 n7 c7) (v5.setRow bB #[.int .u64 Ey, .slice a8 n8 c8]) := owns_setRow hPA hRB (by decide) #[.int .u64 Ey, .slice a8 n8 c8]
        have hPBn : OwnsWords w.heap.size M (.slice a8 n8 c8) (v5.setRow bB #[.int .u64 Ey, .slice a8 n8 c8]) := owns_setRow hPB hRB (by decide) #[.int .u64 Ey, .slice a8 n8 c8]
        have hRAn : Rows8 (v5.setRow bB #[.int .u64 Ey, .slice a8 n8 c8]) bA 25 _ := (setRow_other _ _ _ _ (by omega)).trans hRA
        have hRBn : Rows8 (v5.setRow bB #[.int .u64 Ey, .slice a8 n8 c8]) bB 25 #[.int .u64 Ey, .slice a8 n8 c8] := setRow_heap _ _ _ _ _ _ hRB
        clear hPA hPB hRA hRB
        have hPA := hPAn
        have hPB := hPBn
        have hRA := hRAn
        have hRB := hRBn
        clear hPAn hPBn hRAn hRBn
        refine hK.out _ _ (fun _ => hS6) ?_
        clear hK K
        try simp only [Act.put, List.setIfInBounds_toArray, List.set_cons_zero, List.set_cons_succ]
        generalize (v5.setRow bB #[.int .u64 Ey, .slice a8 n8 c8]) = v6 at *
        refine wpAnyX_end (by kernel_rfl) ?_
        exact HK.out _ _ _ _ _ _ _ _ _ hA hB hS6.1 hRA hRB hPA hPB hB6
      · refine step_value_g (by rfl) (.pointer (some ⟨v2.heap.size, 0, none⟩)) (w' := v2.alloc (.cells #[.int .u64 0, .slice none 0 0] 25)) (by go_simp) ?_
        have hB3 := hB2.alloc hB2.size (.cells #[.int .u64 0, .slice none 0 0] 25)
        have hS3 : Rows8 (v2.alloc (.cells #[.int .u64 0, .slice none 0 0] 25)) w.heap.size 25 #[.int .u64 Ex, .slice ax nx cx] ∧ Rows8 (v2.alloc (.cells #[.int .u64 0, .slice none 0 0] 25)) (w.heap.size + 1) 25 #[.int .u64 Ey, .slice ay ny cy] := ⟨hS2.1.alloc _, hS2.2.alloc _⟩
        have hRB := Rows8.new v2 25 #[.int .u64 0, .slice none 0 0]
        have hzB : w.heap.size + 1 < v2.heap.size := hS2.2.lt
        have hPAn : OwnsWords w.heap.size L (.slice a7 n7 c7) (v2.alloc (.cells #[.int .u64 0, .slice none 0 0] 25)) := owns_keep hPA Rows8.newB (Nat.le_refl _)
        clear hPA
        have hPA := hPAn
        clear hPAn
        have hNE : bA < v2.heap.size := hRA.lt
        have hRAn := hRA.alloc (.cells #[.int .u64 0, .slice none 0 0] 25)
        clear hRA
        have hRA := hRAn
        clear hRAn
        refine hK.out _ _ (fun _ => hS3) ?_
        clear hK K
        try simp only [Act.put, List.setIfInBounds_toArray, List.set_cons_zero, List.set_cons_succ]
        generalize v2.heap.size = bB at *
        generalize v2.alloc (.cells #[.int .u64 0, .slice none 0 0] 25) = v3 at *
        refine wpAnyX_one (i := 3) (o := { dst := some 27, op := Go.Op.call { callee := Go.Callee.value (Go.Operand.func 9), args := #[Go.Operand.tmp 26], argTypes := #[25] }, type := 25, pos := "law.go:39", after := #[{ on := 2, ground := Go.Ground.data }, { on := 1, ground := Go.Ground.chain }], guard := none }) (by kernel_rfl) rfl (fun K hK => ?_)
        refine step_call_g (by rfl) 9 _ _ rfl (fun _ _ => by kernel_rfl) #[.agg #[.int .u64 Ey, .slice ay ny cy]] (by simp [go_sem]) _ (HOy v3 (RowAt.below HJ.out hB3)).out ?_
        rintro e v4 ⟨⟨a8, n8, c8, rfl, hB, hOB⟩, hC⟩
        refine ⟨_, rfl, ?_⟩
        have hS4 : Rows8 v4 w.heap.size 25 #[.int .u64 Ex, .slice ax nx cx] ∧ Rows8 v4 (w.heap.size + 1) 25 #[.int .u64 Ey, .slice ay ny cy] := ⟨hS3.1.below hC hS3.1.lt, hS3.2.below hC hS3.2.lt⟩
        have hB4 := hB3.trans (hC.mono hB3.size)
        have hPB : OwnsWords w.heap.size M (.slice a8 n8 c8) v4 := owns_mono hOB hB3.size
        have hPAn : OwnsWords w.heap.size L (.slice a7 n7 c7) v4 := owns_keep hPA hC (Nat.le_refl _)
        clear hPA
        have hPA := hPAn
        clear hPAn
        have hRAn := hRA.below hC hRA.lt
        clear hRA
        have hRA := hRAn
        clear hRAn
        have hRBn := hRB.below hC hRB.lt
        clear hRB
        have hRB := hRBn
        clear hRBn
        clear hC hOB
        refine hK.out _ _ (fun _ => hS4) ?_
        clear hK K
        try simp only [Act.put, List.setIfInBounds_toArray, List.set_cons_zero, List.set_cons_succ]
        refine wpAnyX_one (i := 6) (o := { dst := none, op := Go.Op.store 25 (Go.Operand.tmp 7) (Go.Operand.tmp 25), type := 0, pos := "law.go:39", after := #[{ on := 4, ground := Go.Ground.data }, { on := 1, ground := Go.Ground.data }, { on := 3, ground := Go.Ground.chain }, { on := 0, ground := Go.Ground.phase }, { on := 1, ground := Go.Ground.phase }, { on := 2, ground := Go.Ground.textOnly Go.Departure.lateStores }, { on := 3, ground := Go.Ground.textOnly Go.Departure.lateStoresUnsure }, { on := 4, ground := Go.Ground.phase }, { on := 5, ground := Go.Ground.phase }], guard := none }) (by kernel_rfl) rfl (fun K hK => ?_)
        refine step_store_g (by rfl) 25 _ _ rfl ⟨bA, 0, none⟩ (.agg #[.int .u64 Ex, .slice a7 n7 c7]) (by simp [go_sem]) (by simp [go_sem]) (run_storeVar_row (P := Try.prog) v4 bA 25 25 _ #[.int .u64 Ex, .slice a7 n7 c7] hRA (by kernel_rfl) rfl (by simp [Value.oneCell'])) ?_
        have hB5 := below_setRow hB4 (show w.heap.size ≤ bA by omega) #[.int .u64 Ex, .slice a7 n7 c7]
        have hS5 : Rows8 (v4.setRow bA #[.int .u64 Ex, .slice a7 n7 c7]) w.heap.size 25 #[.int .u64 Ex, .slice ax nx cx] ∧ Rows8 (v4.setRow bA #[.int .u64 Ex, .slice a7 n7 c7]) (w.heap.size + 1) 25 #[.int .u64 Ey, .slice ay ny cy] := ⟨(setRow_other _ _ _ _ (by omega)).trans hS4.1, (setRow_other _ _ _ _ (by omega)).trans hS4.2⟩
        have hPAn : OwnsWords w.heap.size L (.slice a7 n7 c7) (v4.setRow bA #[.int .u64 Ex, .slice a7 n7 c7]) := owns_setRow hPA hRA (by decide) #[.int .u64 Ex, .slice a7 n7 c7]
        have hPBn : OwnsWords w.heap.size M (.slice a8 n8 c8) (v4.setRow bA #[.int .u64 Ex, .slice a7 n7 c7]) := owns_setRow hPB hRA (by decide) #[.int .u64 Ex, .slice a7 n7 c7]
        have hRBn : Rows8 (v4.setRow bA #[.int .u64 Ex, .slice a7 n7 c7]) bB 25 _ := (setRow_other _ _ _ _ (by omega)).trans hRB
        have hRAn : Rows8 (v4.setRow bA #[.int .u64 Ex, .slice a7 n7 c7]) bA 25 #[.int .u64 Ex, .slice a7 n7 c7] := setRow_heap _ _ _ _ _ _ hRA
        clear hPA hPB hRA hRB
        have hPA := hPAn
        have hPB := hPBn
        have hRA := hRAn
        have hRB := hRBn
        clear hPAn hPBn hRAn hRBn
        refine hK.out _ _ (fun _ => hS5) ?_
        clear hK K
        try simp only [Act.put, List.setIfInBounds_toArray, List.set_cons_zero, List.set_cons_succ]
        generalize (v4.setRow bA #[.int .u64 Ex, .slice a7 n7 c7]) = v5 at *
        refine wpAnyX_one (i := 7) (o := { dst := none, op := Go.Op.store 25 (Go.Operand.tmp 8) (Go.Operand.tmp 27), type := 0, pos := "law.go:39", after := #[{ on := 5, ground := Go.Ground.data }, { on := 3, ground := Go.Ground.data }, { on := 6, ground := Go.Ground.chain }, { on := 0, ground := Go.Ground.phase }, { on := 1, ground := Go.Ground.phase }, { on := 2, ground := Go.Ground.phase }, { on := 3, ground := Go.Ground.phase }, { on := 4, ground := Go.Ground.phase }, { on := 5, ground := Go.Ground.phase }, { on := 6, ground := Go.Ground.phase }], guard := none }) (by kernel_rfl) rfl (fun K hK => ?_)
        refine step_store_g (by rfl) 25 _ _ rfl ⟨bB, 0, none⟩ (.agg #[.int .u64 Ey, .slice a8 n8 c8]) (by simp [go_sem]) (by simp [go_sem]) (run_storeVar_row (P := Try.prog) v5 bB 25 25 _ #[.int .u64 Ey, .slice a8 n8 c8] hRB (by kernel_rfl) rfl (by simp [Value.oneCell'])) ?_
        have hB6 := below_setRow hB5 (show w.heap.size ≤ bB by omega) #[.int .u64 Ey, .slice a8 n8 c8]
        have hS6 : Rows8 (v5.setRow bB #[.int .u64 Ey, .slice a8 n8 c8]) w.heap.size 25 #[.int .u64 Ex, .slice ax nx cx] ∧ Rows8 (v5.setRow bB #[.int .u64 Ey, .slice a8 n8 c8]) (w.heap.size + 1) 25 #[.int .u64 Ey, .slice ay ny cy] := ⟨(setRow_other _ _ _ _ (by omega)).trans hS5.1, (setRow_other _ _ _ _ (by omega)).trans hS5.2⟩
        have hPAn : OwnsWords w.heap.size L (.slice a7 n7 c7) (v5.setRow bB #[.int .u64 Ey, .slice a8 n8 c8]) := owns_setRow hPA hRB (by decide) #[.int .u64 Ey, .slice a8 n8 c8]
        have hPBn : OwnsWords w.heap.size M (.slice a8 n8 c8) (v5.setRow bB #[.int .u64 Ey, .slice a8 n8 c8]) := owns_setRow hPB hRB (by decide) #[.int .u64 Ey, .slice a8 n8 c8]
        have hRAn : Rows8 (v5.setRow bB #[.int .u64 Ey, .slice a8 n8 c8]) bA 25 _ := (setRow_other _ _ _ _ (by omega)).trans hRA
        have hRBn : Rows8 (v5.setRow bB #[.int .u64 Ey, .slice a8 n8 c8]) bB 25 #[.int .u64 Ey, .slice a8 n8 c8] := setRow_heap _ _ _ _ _ _ hRB
        clear hPA hPB hRA hRB
        have hPA := hPAn
        have hPB := hPBn
        have hRA := hRAn
        have hRB := hRBn
        clear hPAn hPBn hRAn hRBn
        refine hK.out _ _ (fun _ => hS6) ?_
        clear hK K
        try simp only [Act.put, List.setIfInBounds_toArray, List.set_cons_zero, List.set_cons_succ]
        generalize (v5.setRow bB #[.int .u64 Ey, .slice a8 n8 c8]) = v6 at *
        refine wpAnyX_end (by kernel_rfl) ?_
        exact HK.out _ _ _ _ _ _ _ _ _ hA hB hS6.1 hRA hRB hPA hPB hB6
    · refine step_value_g (by rfl) (.pointer (some ⟨v1.heap.size, 0, none⟩)) (w' := v1.alloc (.cells #[.int .u64 0, .slice none 0 0] 25)) (by go_simp) ?_
      have hB2 := hB1.alloc hB1.size (.cells #[.int .u64 0, .slice none 0 0] 25)
      have hS2 : Rows8 (v1.alloc (.cells #[.int .u64 0, .slice none 0 0] 25)) w.heap.size 25 #[.int .u64 Ex, .slice ax nx cx] ∧ Rows8 (v1.alloc (.cells #[.int .u64 0, .slice none 0 0] 25)) (w.heap.size + 1) 25 #[.int .u64 Ey, .slice ay ny cy] := ⟨hS1.1.alloc _, hS1.2.alloc _⟩
      have hRB := Rows8.new v1 25 #[.int .u64 0, .slice none 0 0]
      have hzB : w.heap.size + 1 < v1.heap.size := hS1.2.lt
      have hNE : bA < v1.heap.size := hRA.lt
      have hRAn := hRA.alloc (.cells #[.int .u64 0, .slice none 0 0] 25)
      clear hRA
      have hRA := hRAn
      clear hRAn
      refine hK.out _ _ (fun _ => hS2) ?_
      clear hK K
      try simp only [Act.put, List.setIfInBounds_toArray, List.set_cons_zero, List.set_cons_succ]
      generalize v1.heap.size = bB at *
      generalize v1.alloc (.cells #[.int .u64 0, .slice none 0 0] 25) = v2 at *
      refine wpAnyX_one (i := 1) (o := { dst := some 25, op := Go.Op.call { callee := Go.Callee.value (Go.Operand.func 9), args := #[Go.Operand.tmp 24], argTypes := #[25] }, type := 25, pos := "law.go:39", after := #[{ on := 0, ground := Go.Ground.data }], guard := none }) (by kernel_rfl) rfl (fun K hK => ?_)
      refine step_call_g (by rfl) 9 _ _ rfl (fun _ _ => by kernel_rfl) #[.agg #[.int .u64 Ex, .slice ax nx cx]] (by simp [go_sem]) _ (HOx v2 (RowAt.below HI.out hB2)).out ?_
      rintro e v3 ⟨⟨a7, n7, c7, rfl, hA, hOA⟩, hC⟩
      refine ⟨_, rfl, ?_⟩
      have hS3 : Rows8 v3 w.heap.size 25 #[.int .u64 Ex, .slice ax nx cx] ∧ Rows8 v3 (w.heap.size + 1) 25 #[.int .u64 Ey, .slice ay ny cy] := ⟨hS2.1.below hC hS2.1.lt, hS2.2.below hC hS2.2.lt⟩
      have hB3 := hB2.trans (hC.mono hB2.size)
      have hPA : OwnsWords w.heap.size L (.slice a7 n7 c7) v3 := owns_mono hOA hB2.size
      have hRAn := hRA.below hC hRA.lt
      clear hRA
      have hRA := hRAn
      clear hRAn
      have hRBn := hRB.below hC hRB.lt
      clear hRB
      have hRB := hRBn
      clear hRBn
      clear hC hOA
      refine hK.out _ _ (fun _ => hS3) ?_
      clear hK K
      try simp only [Act.put, List.setIfInBounds_toArray, List.set_cons_zero, List.set_cons_succ]
      refine wpAnyX_one (i := 3) (o := { dst := some 27, op := Go.Op.call { callee := Go.Callee.value (Go.Operand.func 9), args := #[Go.Operand.tmp 26], argTypes := #[25] }, type := 25, pos := "law.go:39", after := #[{ on := 2, ground := Go.Ground.data }, { on := 1, ground := Go.Ground.chain }], guard := none }) (by kernel_rfl) rfl (fun K hK => ?_)
      refine step_call_g (by rfl) 9 _ _ rfl (fun _ _ => by kernel_rfl) #[.agg #[.int .u64 Ey, .slice ay ny cy]] (by simp [go_sem]) _ (HOy v3 (RowAt.below HJ.out hB3)).out ?_
      rintro e v4 ⟨⟨a8, n8, c8, rfl, hB, hOB⟩, hC⟩
      refine ⟨_, rfl, ?_⟩
      have hS4 : Rows8 v4 w.heap.size 25 #[.int .u64 Ex, .slice ax nx cx] ∧ Rows8 v4 (w.heap.size + 1) 25 #[.int .u64 Ey, .slice ay ny cy] := ⟨hS3.1.below hC hS3.1.lt, hS3.2.below hC hS3.2.lt⟩
      have hB4 := hB3.trans (hC.mono hB3.size)
      have hPB : OwnsWords w.heap.size M (.slice a8 n8 c8) v4 := owns_mono hOB hB3.size
      have hPAn : OwnsWords w.heap.size L (.slice a7 n7 c7) v4 := owns_keep hPA hC (Nat.le_refl _)
      clear hPA
      have hPA := hPAn
      clear hPAn
      have hRAn := hRA.below hC hRA.lt
      clear hRA
      have hRA := hRAn
      clear hRAn
      have hRBn := hRB.below hC hRB.lt
      clear hRB
      have hRB := hRBn
      clear hRBn
      clear hC hOB
      refine hK.out _ _ (fun _ => hS4) ?_
      clear hK K
      try simp only [Act.put, List.setIfInBounds_toArray, List.set_cons_zero, List.set_cons_succ]
      refine wpAnyX_one (i := 6) (o := { dst := none, op := Go.Op.store 25 (Go.Operand.tmp 7) (Go.Operand.tmp 25), type := 0, pos := "law.go:39", after := #[{ on := 4, ground := Go.Ground.data }, { on := 1, ground := Go.Ground.data }, { on := 3, ground := Go.Ground.chain }, { on := 0, ground := Go.Ground.phase }, { on := 1, ground := Go.Ground.phase }, { on := 2, ground := Go.Ground.textOnly Go.Departure.lateStores }, { on := 3, ground := Go.Ground.textOnly Go.Departure.lateStoresUnsure }, { on := 4, ground := Go.Ground.phase }, { on := 5, ground := Go.Ground.phase }], guard := none }) (by kernel_rfl) rfl (fun K hK => ?_)
      refine step_store_g (by rfl) 25 _ _ rfl ⟨bA, 0, none⟩ (.agg #[.int .u64 Ex, .slice a7 n7 c7]) (by simp [go_sem]) (by simp [go_sem]) (run_storeVar_row (P := Try.prog) v4 bA 25 25 _ #[.int .u64 Ex, .slice a7 n7 c7] hRA (by kernel_rfl) rfl (by simp [Value.oneCell'])) ?_
      have hB5 := below_setRow hB4 (show w.heap.size ≤ bA by omega) #[.int .u64 Ex, .slice a7 n7 c7]
      have hS5 : Rows8 (v4.setRow bA #[.int .u64 Ex, .slice a7 n7 c7]) w.heap.size 25 #[.int .u64 Ex, .slice ax nx cx] ∧ Rows8 (v4.setRow bA #[.int .u64 Ex, .slice a7 n7 c7]) (w.heap.size + 1) 25 #[.int .u64 Ey, .slice ay ny cy] := ⟨(setRow_other _ _ _ _ (by omega)).trans hS4.1, (setRow_other _ _ _ _ (by omega)).trans hS4.2⟩
      have hPAn : OwnsWords w.heap.size L (.slice a7 n7 c7) (v4.setRow bA #[.int .u64 Ex, .slice a7 n7 c7]) := owns_setRow hPA hRA (by decide) #[.int .u64 Ex, .slice a7 n7 c7]
      have hPBn : OwnsWords w.heap.size M (.slice a8 n8 c8) (v4.setRow bA #[.int .u64 Ex, .slice a7 n7 c7]) := owns_setRow hPB hRA (by decide) #[.int .u64 Ex, .slice a7 n7 c7]
      have hRBn : Rows8 (v4.setRow bA #[.int .u64 Ex, .slice a7 n7 c7]) bB 25 _ := (setRow_other _ _ _ _ (by omega)).trans hRB
      have hRAn : Rows8 (v4.setRow bA #[.int .u64 Ex, .slice a7 n7 c7]) bA 25 #[.int .u64 Ex, .slice a7 n7 c7] := setRow_heap _ _ _ _ _ _ hRA
      clear hPA hPB hRA hRB
      have hPA := hPAn
      have hPB := hPBn
      have hRA := hRAn
      have hRB := hRBn
      clear hPAn hPBn hRAn hRBn
      refine hK.out _ _ (fun _ => hS5) ?_
      clear hK K
      try simp only [Act.put, List.setIfInBounds_toArray, List.set_cons_zero, List.set_cons_succ]
      generalize (v4.setRow bA #[.int .u64 Ex, .slice a7 n7 c7]) = v5 at *
      refine wpAnyX_one (i := 7) (o := { dst := none, op := Go.Op.store 25 (Go.Operand.tmp 8) (Go.Operand.tmp 27), type := 0, pos := "law.go:39", after := #[{ on := 5, ground := Go.Ground.data }, { on := 3, ground := Go.Ground.data }, { on := 6, ground := Go.Ground.chain }, { on := 0, ground := Go.Ground.phase }, { on := 1, ground := Go.Ground.phase }, { on := 2, ground := Go.Ground.phase }, { on := 3, ground := Go.Ground.phase }, { on := 4, ground := Go.Ground.phase }, { on := 5, ground := Go.Ground.phase }, { on := 6, ground := Go.Ground.phase }], guard := none }) (by kernel_rfl) rfl (fun K hK => ?_)
      refine step_store_g (by rfl) 25 _ _ rfl ⟨bB, 0, none⟩ (.agg #[.int .u64 Ey, .slice a8 n8 c8]) (by simp [go_sem]) (by simp [go_sem]) (run_storeVar_row (P := Try.prog) v5 bB 25 25 _ #[.int .u64 Ey, .slice a8 n8 c8] hRB (by kernel_rfl) rfl (by simp [Value.oneCell'])) ?_
      have hB6 := below_setRow hB5 (show w.heap.size ≤ bB by omega) #[.int .u64 Ey, .slice a8 n8 c8]
      have hS6 : Rows8 (v5.setRow bB #[.int .u64 Ey, .slice a8 n8 c8]) w.heap.size 25 #[.int .u64 Ex, .slice ax nx cx] ∧ Rows8 (v5.setRow bB #[.int .u64 Ey, .slice a8 n8 c8]) (w.heap.size + 1) 25 #[.int .u64 Ey, .slice ay ny cy] := ⟨(setRow_other _ _ _ _ (by omega)).trans hS5.1, (setRow_other _ _ _ _ (by omega)).trans hS5.2⟩
      have hPAn : OwnsWords w.heap.size L (.slice a7 n7 c7) (v5.setRow bB #[.int .u64 Ey, .slice a8 n8 c8]) := owns_setRow hPA hRB (by decide) #[.int .u64 Ey, .slice a8 n8 c8]
      have hPBn : OwnsWords w.heap.size M (.slice a8 n8 c8) (v5.setRow bB #[.int .u64 Ey, .slice a8 n8 c8]) := owns_setRow hPB hRB (by decide) #[.int .u64 Ey, .slice a8 n8 c8]
      have hRAn : Rows8 (v5.setRow bB #[.int .u64 Ey, .slice a8 n8 c8]) bA 25 _ := (setRow_other _ _ _ _ (by omega)).trans hRA
      have hRBn : Rows8 (v5.setRow bB #[.int .u64 Ey, .slice a8 n8 c8]) bB 25 #[.int .u64 Ey, .slice a8 n8 c8] := setRow_heap _ _ _ _ _ _ hRB
      clear hPA hPB hRA hRB
      have hPA := hPAn
      have hPB := hPBn
      have hRA := hRAn
      have hRB := hRBn
      clear hPAn hPBn hRAn hRBn
      refine hK.out _ _ (fun _ => hS6) ?_
      clear hK K
      try simp only [Act.put, List.setIfInBounds_toArray, List.set_cons_zero, List.set_cons_succ]
      generalize (v5.setRow bB #[.int .u64 Ey, .slice a8 n8 c8]) = v6 at *
      refine wpAnyX_end (by kernel_rfl) ?_
      exact HK.out _ _ _ _ _ _ _ _ _ hA hB hS6.1 hRA hRB hPA hPB hB6
  · refine step_value_g (by rfl) (.pointer (some ⟨Wd.heap.size, 0, none⟩)) (w' := Wd.alloc (.cells #[.int .u64 0, .slice none 0 0] 25)) (by go_simp) ?_
    have hB1 := hB0.alloc hB0.size (.cells #[.int .u64 0, .slice none 0 0] 25)
    have hS1 : Rows8 (Wd.alloc (.cells #[.int .u64 0, .slice none 0 0] 25)) w.heap.size 25 #[.int .u64 Ex, .slice ax nx cx] ∧ Rows8 (Wd.alloc (.cells #[.int .u64 0, .slice none 0 0] 25)) (w.heap.size + 1) 25 #[.int .u64 Ey, .slice ay ny cy] := ⟨hS0.1.alloc _, hS0.2.alloc _⟩
    have hRB := Rows8.new Wd 25 #[.int .u64 0, .slice none 0 0]
    have hzB : w.heap.size + 1 < Wd.heap.size := hS0.2.lt
    refine hK.out _ _ (fun _ => hS1) ?_
    clear hK K
    try simp only [Act.put, List.setIfInBounds_toArray, List.set_cons_zero, List.set_cons_succ]
    generalize Wd.heap.size = bB at *
    generalize Wd.alloc (.cells #[.int .u64 0, .slice none 0 0] 25) = v1 at *
    refine wpAnyX_two (i := 1) (j := 4) (oi := { dst := some 25, op := Go.Op.call { callee := Go.Callee.value (Go.Operand.func 9), args := #[Go.Operand.tmp 24], argTypes := #[25] }, type := 25, pos := "law.go:39", after := #[{ on := 0, ground := Go.Ground.data }], guard := none }) (oj := { dst := some 7, op := Go.Op.alloc 25, type := 0, pos := "law.go:39", after := #[], guard := none }) (by kernel_rfl) rfl rfl (fun K hK => ?_) (fun K hK => ?_)
    · refine step_call_g (by rfl) 9 _ _ rfl (fun _ _ => by kernel_rfl) #[.agg #[.int .u64 Ex, .slice ax nx cx]] (by simp [go_sem]) _ (HOx v1 (RowAt.below HI.out hB1)).out ?_
      rintro e v2 ⟨⟨a7, n7, c7, rfl, hA, hOA⟩, hC⟩
      refine ⟨_, rfl, ?_⟩
      have hS2 : Rows8 v2 w.heap.size 25 #[.int .u64 Ex, .slice ax nx cx] ∧ Rows8 v2 (w.heap.size + 1) 25 #[.int .u64 Ey, .slice ay ny cy] := ⟨hS1.1.below hC hS1.1.lt, hS1.2.below hC hS1.2.lt⟩
      have hB2 := hB1.trans (hC.mono hB1.size)
      have hPA : OwnsWords w.heap.size L (.slice a7 n7 c7) v2 := owns_mono hOA hB1.size
      have hRBn := hRB.below hC hRB.lt
      clear hRB
      have hRB := hRBn
      clear hRBn
      clear hC hOA
      refine hK.out _ _ (fun _ => hS2) ?_
      clear hK K
      try simp only [Act.put, List.setIfInBounds_toArray, List.set_cons_zero, List.set_cons_succ]
      refine wpAnyX_two (i := 3) (j := 4) (oi := { dst := some 27, op := Go.Op.call { callee := Go.Callee.value (Go.Operand.func 9), args := #[Go.Operand.tmp 26], argTypes := #[25] }, type := 25, pos := "law.go:39", after := #[{ on := 2, ground := Go.Ground.data }, { on := 1, ground := Go.Ground.chain }], guard := none }) (oj := { dst := some 7, op := Go.Op.alloc 25, type := 0, pos := "law.go:39", after := #[], guard := none }) (by kernel_rfl) rfl rfl (fun K hK => ?_) (fun K hK => ?_)
      · refine step_call_g (by rfl) 9 _ _ rfl (fun _ _ => by kernel_rfl) #[.agg #[.int .u64 Ey, .slice ay ny cy]] (by simp [go_sem]) _ (HOy v2 (RowAt.below HJ.out hB2)).out ?_
        rintro e v3 ⟨⟨a8, n8, c8, rfl, hB, hOB⟩, hC⟩
        refine ⟨_, rfl, ?_⟩
        have hS3 : Rows8 v3 w.heap.size 25 #[.int .u64 Ex, .slice ax nx cx] ∧ Rows8 v3 (w.heap.size + 1) 25 #[.int .u64 Ey, .slice ay ny cy] := ⟨hS2.1.below hC hS2.1.lt, hS2.2.below hC hS2.2.lt⟩
        have hB3 := hB2.trans (hC.mono hB2.size)
        have hPB : OwnsWords w.heap.size M (.slice a8 n8 c8) v3 := owns_mono hOB hB2.size
        have hPAn : OwnsWords w.heap.size L (.slice a7 n7 c7) v3 := owns_keep hPA hC (Nat.le_refl _)
        clear hPA
        have hPA := hPAn
        clear hPAn
        have hRBn := hRB.below hC hRB.lt
        clear hRB
        have hRB := hRBn
        clear hRBn
        clear hC hOB
        refine hK.out _ _ (fun _ => hS3) ?_
        clear hK K
        try simp only [Act.put, List.setIfInBounds_toArray, List.set_cons_zero, List.set_cons_succ]
        refine wpAnyX_one (i := 4) (o := { dst := some 7, op := Go.Op.alloc 25, type := 0, pos := "law.go:39", after := #[], guard := none }) (by kernel_rfl) rfl (fun K hK => ?_)
        refine step_value_g (by rfl) (.pointer (some ⟨v3.heap.size, 0, none⟩)) (w' := v3.alloc (.cells #[.int .u64 0, .slice none 0 0] 25)) (by go_simp) ?_
        have hB4 := hB3.alloc hB3.size (.cells #[.int .u64 0, .slice none 0 0] 25)
        have hS4 : Rows8 (v3.alloc (.cells #[.int .u64 0, .slice none 0 0] 25)) w.heap.size 25 #[.int .u64 Ex, .slice ax nx cx] ∧ Rows8 (v3.alloc (.cells #[.int .u64 0, .slice none 0 0] 25)) (w.heap.size + 1) 25 #[.int .u64 Ey, .slice ay ny cy] := ⟨hS3.1.alloc _, hS3.2.alloc _⟩
        have hRA := Rows8.new v3 25 #[.int .u64 0, .slice none 0 0]
        have hzA : w.heap.size + 1 < v3.heap.size := hS3.2.lt
        have hPAn : OwnsWords w.heap.size L (.slice a7 n7 c7) (v3.alloc (.cells #[.int .u64 0, .slice none 0 0] 25)) := owns_keep hPA Rows8.newB (Nat.le_refl _)
        clear hPA
        have hPA := hPAn
        clear hPAn
        have hPBn : OwnsWords w.heap.size M (.slice a8 n8 c8) (v3.alloc (.cells #[.int .u64 0, .slice none 0 0] 25)) := owns_keep hPB Rows8.newB (Nat.le_refl _)
        clear hPB
        have hPB := hPBn
        clear hPBn
        have hNE : bB < v3.heap.size := hRB.lt
        have hRBn := hRB.alloc (.cells #[.int .u64 0, .slice none 0 0] 25)
        clear hRB
        have hRB := hRBn
        clear hRBn
        refine hK.out _ _ (fun _ => hS4) ?_
        clear hK K
        try simp only [Act.put, List.setIfInBounds_toArray, List.set_cons_zero, List.set_cons_succ]
        generalize v3.heap.size = bA at *
        generalize v3.alloc (.cells #[.int .u64 0, .slice none 0 0] 25) = v4 at *
        refine wpAnyX_one (i := 6) (o := { dst := none, op := Go.Op.store 25 (Go.Operand.tmp 7) (Go.Operand.tmp 25), type := 0, pos := "law.go:39", after := #[{ on := 4, ground := Go.Ground.data }, { on := 1, ground := Go.Ground.data }, { on := 3, ground := Go.Ground.chain }, { on := 0, ground := Go.Ground.phase }, { on := 1, ground := Go.Ground.phase }, { on := 2, ground := Go.Ground.textOnly Go.Departure.lateStores }, { on := 3, ground := Go.Ground.textOnly Go.Departure.lateStoresUnsure }, { on := 4, ground := Go.Ground.phase }, { on := 5, ground := Go.Ground.phase }], guard := none }) (by kernel_rfl) rfl (fun K hK => ?_)
        refine step_store_g (by rfl) 25 _ _ rfl ⟨bA, 0, none⟩ (.agg #[.int .u64 Ex, .slice a7 n7 c7]) (by simp [go_sem]) (by simp [go_sem]) (run_storeVar_row (P := Try.prog) v4 bA 25 25 _ #[.int .u64 Ex, .slice a7 n7 c7] hRA (by kernel_rfl) rfl (by simp [Value.oneCell'])) ?_
        have hB5 := below_setRow hB4 (show w.heap.size ≤ bA by omega) #[.int .u64 Ex, .slice a7 n7 c7]
        have hS5 : Rows8 (v4.setRow bA #[.int .u64 Ex, .slice a7 n7 c7]) w.heap.size 25 #[.int .u64 Ex, .slice ax nx cx] ∧ Rows8 (v4.setRow bA #[.int .u64 Ex, .slice a7 n7 c7]) (w.heap.size + 1) 25 #[.int .u64 Ey, .slice ay ny cy] := ⟨(setRow_other _ _ _ _ (by omega)).trans hS4.1, (setRow_other _ _ _ _ (by omega)).trans hS4.2⟩
        have hPAn : OwnsWords w.heap.size L (.slice a7 n7 c7) (v4.setRow bA #[.int .u64 Ex, .slice a7 n7 c7]) := owns_setRow hPA hRA (by decide) #[.int .u64 Ex, .slice a7 n7 c7]
        have hPBn : OwnsWords w.heap.size M (.slice a8 n8 c8) (v4.setRow bA #[.int .u64 Ex, .slice a7 n7 c7]) := owns_setRow hPB hRA (by decide) #[.int .u64 Ex, .slice a7 n7 c7]
        have hRBn : Rows8 (v4.setRow bA #[.int .u64 Ex, .slice a7 n7 c7]) bB 25 _ := (setRow_other _ _ _ _ (by omega)).trans hRB
        have hRAn : Rows8 (v4.setRow bA #[.int .u64 Ex, .slice a7 n7 c7]) bA 25 #[.int .u64 Ex, .slice a7 n7 c7] := setRow_heap _ _ _ _ _ _ hRA
        clear hPA hPB hRA hRB
        have hPA := hPAn
        have hPB := hPBn
        have hRA := hRAn
        have hRB := hRBn
        clear hPAn hPBn hRAn hRBn
        refine hK.out _ _ (fun _ => hS5) ?_
        clear hK K
        try simp only [Act.put, List.setIfInBounds_toArray, List.set_cons_zero, List.set_cons_succ]
        generalize (v4.setRow bA #[.int .u64 Ex, .slice a7 n7 c7]) = v5 at *
        refine wpAnyX_one (i := 7) (o := { dst := none, op := Go.Op.store 25 (Go.Operand.tmp 8) (Go.Operand.tmp 27), type := 0, pos := "law.go:39", after := #[{ on := 5, ground := Go.Ground.data }, { on := 3, ground := Go.Ground.data }, { on := 6, ground := Go.Ground.chain }, { on := 0, ground := Go.Ground.phase }, { on := 1, ground := Go.Ground.phase }, { on := 2, ground := Go.Ground.phase }, { on := 3, ground := Go.Ground.phase }, { on := 4, ground := Go.Ground.phase }, { on := 5, ground := Go.Ground.phase }, { on := 6, ground := Go.Ground.phase }], guard := none }) (by kernel_rfl) rfl (fun K hK => ?_)
        refine step_store_g (by rfl) 25 _ _ rfl ⟨bB, 0, none⟩ (.agg #[.int .u64 Ey, .slice a8 n8 c8]) (by simp [go_sem]) (by simp [go_sem]) (run_storeVar_row (P := Try.prog) v5 bB 25 25 _ #[.int .u64 Ey, .slice a8 n8 c8] hRB (by kernel_rfl) rfl (by simp [Value.oneCell'])) ?_
        have hB6 := below_setRow hB5 (show w.heap.size ≤ bB by omega) #[.int .u64 Ey, .slice a8 n8 c8]
        have hS6 : Rows8 (v5.setRow bB #[.int .u64 Ey, .slice a8 n8 c8]) w.heap.size 25 #[.int .u64 Ex, .slice ax nx cx] ∧ Rows8 (v5.setRow bB #[.int .u64 Ey, .slice a8 n8 c8]) (w.heap.size + 1) 25 #[.int .u64 Ey, .slice ay ny cy] := ⟨(setRow_other _ _ _ _ (by omega)).trans hS5.1, (setRow_other _ _ _ _ (by omega)).trans hS5.2⟩
        have hPAn : OwnsWords w.heap.size L (.slice a7 n7 c7) (v5.setRow bB #[.int .u64 Ey, .slice a8 n8 c8]) := owns_setRow hPA hRB (by decide) #[.int .u64 Ey, .slice a8 n8 c8]
        have hPBn : OwnsWords w.heap.size M (.slice a8 n8 c8) (v5.setRow bB #[.int .u64 Ey, .slice a8 n8 c8]) := owns_setRow hPB hRB (by decide) #[.int .u64 Ey, .slice a8 n8 c8]
        have hRAn : Rows8 (v5.setRow bB #[.int .u64 Ey, .slice a8 n8 c8]) bA 25 _ := (setRow_other _ _ _ _ (by omega)).trans hRA
        have hRBn : Rows8 (v5.setRow bB #[.int .u64 Ey, .slice a8 n8 c8]) bB 25 #[.int .u64 Ey, .slice a8 n8 c8] := setRow_heap _ _ _ _ _ _ hRB
        clear hPA hPB hRA hRB
        have hPA := hPAn
        have hPB := hPBn
        have hRA := hRAn
        have hRB := hRBn
        clear hPAn hPBn hRAn hRBn
        refine hK.out _ _ (fun _ => hS6) ?_
        clear hK K
        try simp only [Act.put, List.setIfInBounds_toArray, List.set_cons_zero, List.set_cons_succ]
        generalize (v5.setRow bB #[.int .u64 Ey, .slice a8 n8 c8]) = v6 at *
        refine wpAnyX_end (by kernel_rfl) ?_
        exact HK.out _ _ _ _ _ _ _ _ _ hA hB hS6.1 hRA hRB hPA hPB hB6
      · refine step_value_g (by rfl) (.pointer (some ⟨v2.heap.size, 0, none⟩)) (w' := v2.alloc (.cells #[.int .u64 0, .slice none 0 0] 25)) (by go_simp) ?_
        have hB3 := hB2.alloc hB2.size (.cells #[.int .u64 0, .slice none 0 0] 25)
        have hS3 : Rows8 (v2.alloc (.cells #[.int .u64 0, .slice none 0 0] 25)) w.heap.size 25 #[.int .u64 Ex, .slice ax nx cx] ∧ Rows8 (v2.alloc (.cells #[.int .u64 0, .slice none 0 0] 25)) (w.heap.size + 1) 25 #[.int .u64 Ey, .slice ay ny cy] := ⟨hS2.1.alloc _, hS2.2.alloc _⟩
        have hRA := Rows8.new v2 25 #[.int .u64 0, .slice none 0 0]
        have hzA : w.heap.size + 1 < v2.heap.size := hS2.2.lt
        have hPAn : OwnsWords w.heap.size L (.slice a7 n7 c7) (v2.alloc (.cells #[.int .u64 0, .slice none 0 0] 25)) := owns_keep hPA Rows8.newB (Nat.le_refl _)
        clear hPA
        have hPA := hPAn
        clear hPAn
        have hNE : bB < v2.heap.size := hRB.lt
        have hRBn := hRB.alloc (.cells #[.int .u64 0, .slice none 0 0] 25)
        clear hRB
        have hRB := hRBn
        clear hRBn
        refine hK.out _ _ (fun _ => hS3) ?_
        clear hK K
        try simp only [Act.put, List.setIfInBounds_toArray, List.set_cons_zero, List.set_cons_succ]
        generalize v2.heap.size = bA at *
        generalize v2.alloc (.cells #[.int .u64 0, .slice none 0 0] 25) = v3 at *
        refine wpAnyX_one (i := 3) (o := { dst := some 27, op := Go.Op.call { callee := Go.Callee.value (Go.Operand.func 9), args := #[Go.Operand.tmp 26], argTypes := #[25] }, type := 25, pos := "law.go:39", after := #[{ on := 2, ground := Go.Ground.data }, { on := 1, ground := Go.Ground.chain }], guard := none }) (by kernel_rfl) rfl (fun K hK => ?_)
        refine step_call_g (by rfl) 9 _ _ rfl (fun _ _ => by kernel_rfl) #[.agg #[.int .u64 Ey, .slice ay ny cy]] (by simp [go_sem]) _ (HOy v3 (RowAt.below HJ.out hB3)).out ?_
        rintro e v4 ⟨⟨a8, n8, c8, rfl, hB, hOB⟩, hC⟩
        refine ⟨_, rfl, ?_⟩
        have hS4 : Rows8 v4 w.heap.size 25 #[.int .u64 Ex, .slice ax nx cx] ∧ Rows8 v4 (w.heap.size + 1) 25 #[.int .u64 Ey, .slice ay ny cy] := ⟨hS3.1.below hC hS3.1.lt, hS3.2.below hC hS3.2.lt⟩
        have hB4 := hB3.trans (hC.mono hB3.size)
        have hPB : OwnsWords w.heap.size M (.slice a8 n8 c8) v4 := owns_mono hOB hB3.size
        have hPAn : OwnsWords w.heap.size L (.slice a7 n7 c7) v4 := owns_keep hPA hC (Nat.le_refl _)
        clear hPA
        have hPA := hPAn
        clear hPAn
        have hRAn := hRA.below hC hRA.lt
        clear hRA
        have hRA := hRAn
        clear hRAn
        have hRBn := hRB.below hC hRB.lt
        clear hRB
        have hRB := hRBn
        clear hRBn
        clear hC hOB
        refine hK.out _ _ (fun _ => hS4) ?_
        clear hK K
        try simp only [Act.put, List.setIfInBounds_toArray, List.set_cons_zero, List.set_cons_succ]
        refine wpAnyX_one (i := 6) (o := { dst := none, op := Go.Op.store 25 (Go.Operand.tmp 7) (Go.Operand.tmp 25), type := 0, pos := "law.go:39", after := #[{ on := 4, ground := Go.Ground.data }, { on := 1, ground := Go.Ground.data }, { on := 3, ground := Go.Ground.chain }, { on := 0, ground := Go.Ground.phase }, { on := 1, ground := Go.Ground.phase }, { on := 2, ground := Go.Ground.textOnly Go.Departure.lateStores }, { on := 3, ground := Go.Ground.textOnly Go.Departure.lateStoresUnsure }, { on := 4, ground := Go.Ground.phase }, { on := 5, ground := Go.Ground.phase }], guard := none }) (by kernel_rfl) rfl (fun K hK => ?_)
        refine step_store_g (by rfl) 25 _ _ rfl ⟨bA, 0, none⟩ (.agg #[.int .u64 Ex, .slice a7 n7 c7]) (by simp [go_sem]) (by simp [go_sem]) (run_storeVar_row (P := Try.prog) v4 bA 25 25 _ #[.int .u64 Ex, .slice a7 n7 c7] hRA (by kernel_rfl) rfl (by simp [Value.oneCell'])) ?_
        have hB5 := below_setRow hB4 (show w.heap.size ≤ bA by omega) #[.int .u64 Ex, .slice a7 n7 c7]
        have hS5 : Rows8 (v4.setRow bA #[.int .u64 Ex, .slice a7 n7 c7]) w.heap.size 25 #[.int .u64 Ex, .slice ax nx cx] ∧ Rows8 (v4.setRow bA #[.int .u64 Ex, .slice a7 n7 c7]) (w.heap.size + 1) 25 #[.int .u64 Ey, .slice ay ny cy] := ⟨(setRow_other _ _ _ _ (by omega)).trans hS4.1, (setRow_other _ _ _ _ (by omega)).trans hS4.2⟩
        have hPAn : OwnsWords w.heap.size L (.slice a7 n7 c7) (v4.setRow bA #[.int .u64 Ex, .slice a7 n7 c7]) := owns_setRow hPA hRA (by decide) #[.int .u64 Ex, .slice a7 n7 c7]
        have hPBn : OwnsWords w.heap.size M (.slice a8 n8 c8) (v4.setRow bA #[.int .u64 Ex, .slice a7 n7 c7]) := owns_setRow hPB hRA (by decide) #[.int .u64 Ex, .slice a7 n7 c7]
        have hRBn : Rows8 (v4.setRow bA #[.int .u64 Ex, .slice a7 n7 c7]) bB 25 _ := (setRow_other _ _ _ _ (by omega)).trans hRB
        have hRAn : Rows8 (v4.setRow bA #[.int .u64 Ex, .slice a7 n7 c7]) bA 25 #[.int .u64 Ex, .slice a7 n7 c7] := setRow_heap _ _ _ _ _ _ hRA
        clear hPA hPB hRA hRB
        have hPA := hPAn
        have hPB := hPBn
        have hRA := hRAn
        have hRB := hRBn
        clear hPAn hPBn hRAn hRBn
        refine hK.out _ _ (fun _ => hS5) ?_
        clear hK K
        try simp only [Act.put, List.setIfInBounds_toArray, List.set_cons_zero, List.set_cons_succ]
        generalize (v4.setRow bA #[.int .u64 Ex, .slice a7 n7 c7]) = v5 at *
        refine wpAnyX_one (i := 7) (o := { dst := none, op := Go.Op.store 25 (Go.Operand.tmp 8) (Go.Operand.tmp 27), type := 0, pos := "law.go:39", after := #[{ on := 5, ground := Go.Ground.data }, { on := 3, ground := Go.Ground.data }, { on := 6, ground := Go.Ground.chain }, { on := 0, ground := Go.Ground.phase }, { on := 1, ground := Go.Ground.phase }, { on := 2, ground := Go.Ground.phase }, { on := 3, ground := Go.Ground.phase }, { on := 4, ground := Go.Ground.phase }, { on := 5, ground := Go.Ground.phase }, { on := 6, ground := Go.Ground.phase }], guard := none }) (by kernel_rfl) rfl (fun K hK => ?_)
        refine step_store_g (by rfl) 25 _ _ rfl ⟨bB, 0, none⟩ (.agg #[.int .u64 Ey, .slice a8 n8 c8]) (by simp [go_sem]) (by simp [go_sem]) (run_storeVar_row (P := Try.prog) v5 bB 25 25 _ #[.int .u64 Ey, .slice a8 n8 c8] hRB (by kernel_rfl) rfl (by simp [Value.oneCell'])) ?_
        have hB6 := below_setRow hB5 (show w.heap.size ≤ bB by omega) #[.int .u64 Ey, .slice a8 n8 c8]
        have hS6 : Rows8 (v5.setRow bB #[.int .u64 Ey, .slice a8 n8 c8]) w.heap.size 25 #[.int .u64 Ex, .slice ax nx cx] ∧ Rows8 (v5.setRow bB #[.int .u64 Ey, .slice a8 n8 c8]) (w.heap.size + 1) 25 #[.int .u64 Ey, .slice ay ny cy] := ⟨(setRow_other _ _ _ _ (by omega)).trans hS5.1, (setRow_other _ _ _ _ (by omega)).trans hS5.2⟩
        have hPAn : OwnsWords w.heap.size L (.slice a7 n7 c7) (v5.setRow bB #[.int .u64 Ey, .slice a8 n8 c8]) := owns_setRow hPA hRB (by decide) #[.int .u64 Ey, .slice a8 n8 c8]
        have hPBn : OwnsWords w.heap.size M (.slice a8 n8 c8) (v5.setRow bB #[.int .u64 Ey, .slice a8 n8 c8]) := owns_setRow hPB hRB (by decide) #[.int .u64 Ey, .slice a8 n8 c8]
        have hRAn : Rows8 (v5.setRow bB #[.int .u64 Ey, .slice a8 n8 c8]) bA 25 _ := (setRow_other _ _ _ _ (by omega)).trans hRA
        have hRBn : Rows8 (v5.setRow bB #[.int .u64 Ey, .slice a8 n8 c8]) bB 25 #[.int .u64 Ey, .slice a8 n8 c8] := setRow_heap _ _ _ _ _ _ hRB
        clear hPA hPB hRA hRB
        have hPA := hPAn
        have hPB := hPBn
        have hRA := hRAn
        have hRB := hRBn
        clear hPAn hPBn hRAn hRBn
        refine hK.out _ _ (fun _ => hS6) ?_
        clear hK K
        try simp only [Act.put, List.setIfInBounds_toArray, List.set_cons_zero, List.set_cons_succ]
        generalize (v5.setRow bB #[.int .u64 Ey, .slice a8 n8 c8]) = v6 at *
        refine wpAnyX_end (by kernel_rfl) ?_
        exact HK.out _ _ _ _ _ _ _ _ _ hA hB hS6.1 hRA hRB hPA hPB hB6
    · refine step_value_g (by rfl) (.pointer (some ⟨v1.heap.size, 0, none⟩)) (w' := v1.alloc (.cells #[.int .u64 0, .slice none 0 0] 25)) (by go_simp) ?_
      have hB2 := hB1.alloc hB1.size (.cells #[.int .u64 0, .slice none 0 0] 25)
      have hS2 : Rows8 (v1.alloc (.cells #[.int .u64 0, .slice none 0 0] 25)) w.heap.size 25 #[.int .u64 Ex, .slice ax nx cx] ∧ Rows8 (v1.alloc (.cells #[.int .u64 0, .slice none 0 0] 25)) (w.heap.size + 1) 25 #[.int .u64 Ey, .slice ay ny cy] := ⟨hS1.1.alloc _, hS1.2.alloc _⟩
      have hRA := Rows8.new v1 25 #[.int .u64 0, .slice none 0 0]
      have hzA : w.heap.size + 1 < v1.heap.size := hS1.2.lt
      have hNE : bB < v1.heap.size := hRB.lt
      have hRBn := hRB.alloc (.cells #[.int .u64 0, .slice none 0 0] 25)
      clear hRB
      have hRB := hRBn
      clear hRBn
      refine hK.out _ _ (fun _ => hS2) ?_
      clear hK K
      try simp only [Act.put, List.setIfInBounds_toArray, List.set_cons_zero, List.set_cons_succ]
      generalize v1.heap.size = bA at *
      generalize v1.alloc (.cells #[.int .u64 0, .slice none 0 0] 25) = v2 at *
      refine wpAnyX_one (i := 1) (o := { dst := some 25, op := Go.Op.call { callee := Go.Callee.value (Go.Operand.func 9), args := #[Go.Operand.tmp 24], argTypes := #[25] }, type := 25, pos := "law.go:39", after := #[{ on := 0, ground := Go.Ground.data }], guard := none }) (by kernel_rfl) rfl (fun K hK => ?_)
      refine step_call_g (by rfl) 9 _ _ rfl (fun _ _ => by kernel_rfl) #[.agg #[.int .u64 Ex, .slice ax nx cx]] (by simp [go_sem]) _ (HOx v2 (RowAt.below HI.out hB2)).out ?_
      rintro e v3 ⟨⟨a7, n7, c7, rfl, hA, hOA⟩, hC⟩
      refine ⟨_, rfl, ?_⟩
      have hS3 : Rows8 v3 w.heap.size 25 #[.int .u64 Ex, .slice ax nx cx] ∧ Rows8 v3 (w.heap.size + 1) 25 #[.int .u64 Ey, .slice ay ny cy] := ⟨hS2.1.below hC hS2.1.lt, hS2.2.below hC hS2.2.lt⟩
      have hB3 := hB2.trans (hC.mono hB2.size)
      have hPA : OwnsWords w.heap.size L (.slice a7 n7 c7) v3 := owns_mono hOA hB2.size
      have hRAn := hRA.below hC hRA.lt
      clear hRA
      have hRA := hRAn
      clear hRAn
      have hRBn := hRB.below hC hRB.lt
      clear hRB
      have hRB := hRBn
      clear hRBn
      clear hC hOA
      refine hK.out _ _ (fun _ => hS3) ?_
      clear hK K
      try simp only [Act.put, List.setIfInBounds_toArray, List.set_cons_zero, List.set_cons_succ]
      refine wpAnyX_one (i := 3) (o := { dst := some 27, op := Go.Op.call { callee := Go.Callee.value (Go.Operand.func 9), args := #[Go.Operand.tmp 26], argTypes := #[25] }, type := 25, pos := "law.go:39", after := #[{ on := 2, ground := Go.Ground.data }, { on := 1, ground := Go.Ground.chain }], guard := none }) (by kernel_rfl) rfl (fun K hK => ?_)
      refine step_call_g (by rfl) 9 _ _ rfl (fun _ _ => by kernel_rfl) #[.agg #[.int .u64 Ey, .slice ay ny cy]] (by simp [go_sem]) _ (HOy v3 (RowAt.below HJ.out hB3)).out ?_
      rintro e v4 ⟨⟨a8, n8, c8, rfl, hB, hOB⟩, hC⟩
      refine ⟨_, rfl, ?_⟩
      have hS4 : Rows8 v4 w.heap.size 25 #[.int .u64 Ex, .slice ax nx cx] ∧ Rows8 v4 (w.heap.size + 1) 25 #[.int .u64 Ey, .slice ay ny cy] := ⟨hS3.1.below hC hS3.1.lt, hS3.2.below hC hS3.2.lt⟩
      have hB4 := hB3.trans (hC.mono hB3.size)
      have hPB : OwnsWords w.heap.size M (.slice a8 n8 c8) v4 := owns_mono hOB hB3.size
      have hPAn : OwnsWords w.heap.size L (.slice a7 n7 c7) v4 := owns_keep hPA hC (Nat.le_refl _)
      clear hPA
      have hPA := hPAn
      clear hPAn
      have hRAn := hRA.below hC hRA.lt
      clear hRA
      have hRA := hRAn
      clear hRAn
      have hRBn := hRB.below hC hRB.lt
      clear hRB
      have hRB := hRBn
      clear hRBn
      clear hC hOB
      refine hK.out _ _ (fun _ => hS4) ?_
      clear hK K
      try simp only [Act.put, List.setIfInBounds_toArray, List.set_cons_zero, List.set_cons_succ]
      refine wpAnyX_one (i := 6) (o := { dst := none, op := Go.Op.store 25 (Go.Operand.tmp 7) (Go.Operand.tmp 25), type := 0, pos := "law.go:39", after := #[{ on := 4, ground := Go.Ground.data }, { on := 1, ground := Go.Ground.data }, { on := 3, ground := Go.Ground.chain }, { on := 0, ground := Go.Ground.phase }, { on := 1, ground := Go.Ground.phase }, { on := 2, ground := Go.Ground.textOnly Go.Departure.lateStores }, { on := 3, ground := Go.Ground.textOnly Go.Departure.lateStoresUnsure }, { on := 4, ground := Go.Ground.phase }, { on := 5, ground := Go.Ground.phase }], guard := none }) (by kernel_rfl) rfl (fun K hK => ?_)
      refine step_store_g (by rfl) 25 _ _ rfl ⟨bA, 0, none⟩ (.agg #[.int .u64 Ex, .slice a7 n7 c7]) (by simp [go_sem]) (by simp [go_sem]) (run_storeVar_row (P := Try.prog) v4 bA 25 25 _ #[.int .u64 Ex, .slice a7 n7 c7] hRA (by kernel_rfl) rfl (by simp [Value.oneCell'])) ?_
      have hB5 := below_setRow hB4 (show w.heap.size ≤ bA by omega) #[.int .u64 Ex, .slice a7 n7 c7]
      have hS5 : Rows8 (v4.setRow bA #[.int .u64 Ex, .slice a7 n7 c7]) w.heap.size 25 #[.int .u64 Ex, .slice ax nx cx] ∧ Rows8 (v4.setRow bA #[.int .u64 Ex, .slice a7 n7 c7]) (w.heap.size + 1) 25 #[.int .u64 Ey, .slice ay ny cy] := ⟨(setRow_other _ _ _ _ (by omega)).trans hS4.1, (setRow_other _ _ _ _ (by omega)).trans hS4.2⟩
      have hPAn : OwnsWords w.heap.size L (.slice a7 n7 c7) (v4.setRow bA #[.int .u64 Ex, .slice a7 n7 c7]) := owns_setRow hPA hRA (by decide) #[.int .u64 Ex, .slice a7 n7 c7]
      have hPBn : OwnsWords w.heap.size M (.slice a8 n8 c8) (v4.setRow bA #[.int .u64 Ex, .slice a7 n7 c7]) := owns_setRow hPB hRA (by decide) #[.int .u64 Ex, .slice a7 n7 c7]
      have hRBn : Rows8 (v4.setRow bA #[.int .u64 Ex, .slice a7 n7 c7]) bB 25 _ := (setRow_other _ _ _ _ (by omega)).trans hRB
      have hRAn : Rows8 (v4.setRow bA #[.int .u64 Ex, .slice a7 n7 c7]) bA 25 #[.int .u64 Ex, .slice a7 n7 c7] := setRow_heap _ _ _ _ _ _ hRA
      clear hPA hPB hRA hRB
      have hPA := hPAn
      have hPB := hPBn
      have hRA := hRAn
      have hRB := hRBn
      clear hPAn hPBn hRAn hRBn
      refine hK.out _ _ (fun _ => hS5) ?_
      clear hK K
      try simp only [Act.put, List.setIfInBounds_toArray, List.set_cons_zero, List.set_cons_succ]
      generalize (v4.setRow bA #[.int .u64 Ex, .slice a7 n7 c7]) = v5 at *
      refine wpAnyX_one (i := 7) (o := { dst := none, op := Go.Op.store 25 (Go.Operand.tmp 8) (Go.Operand.tmp 27), type := 0, pos := "law.go:39", after := #[{ on := 5, ground := Go.Ground.data }, { on := 3, ground := Go.Ground.data }, { on := 6, ground := Go.Ground.chain }, { on := 0, ground := Go.Ground.phase }, { on := 1, ground := Go.Ground.phase }, { on := 2, ground := Go.Ground.phase }, { on := 3, ground := Go.Ground.phase }, { on := 4, ground := Go.Ground.phase }, { on := 5, ground := Go.Ground.phase }, { on := 6, ground := Go.Ground.phase }], guard := none }) (by kernel_rfl) rfl (fun K hK => ?_)
      refine step_store_g (by rfl) 25 _ _ rfl ⟨bB, 0, none⟩ (.agg #[.int .u64 Ey, .slice a8 n8 c8]) (by simp [go_sem]) (by simp [go_sem]) (run_storeVar_row (P := Try.prog) v5 bB 25 25 _ #[.int .u64 Ey, .slice a8 n8 c8] hRB (by kernel_rfl) rfl (by simp [Value.oneCell'])) ?_
      have hB6 := below_setRow hB5 (show w.heap.size ≤ bB by omega) #[.int .u64 Ey, .slice a8 n8 c8]
      have hS6 : Rows8 (v5.setRow bB #[.int .u64 Ey, .slice a8 n8 c8]) w.heap.size 25 #[.int .u64 Ex, .slice ax nx cx] ∧ Rows8 (v5.setRow bB #[.int .u64 Ey, .slice a8 n8 c8]) (w.heap.size + 1) 25 #[.int .u64 Ey, .slice ay ny cy] := ⟨(setRow_other _ _ _ _ (by omega)).trans hS5.1, (setRow_other _ _ _ _ (by omega)).trans hS5.2⟩
      have hPAn : OwnsWords w.heap.size L (.slice a7 n7 c7) (v5.setRow bB #[.int .u64 Ey, .slice a8 n8 c8]) := owns_setRow hPA hRB (by decide) #[.int .u64 Ey, .slice a8 n8 c8]
      have hPBn : OwnsWords w.heap.size M (.slice a8 n8 c8) (v5.setRow bB #[.int .u64 Ey, .slice a8 n8 c8]) := owns_setRow hPB hRB (by decide) #[.int .u64 Ey, .slice a8 n8 c8]
      have hRAn : Rows8 (v5.setRow bB #[.int .u64 Ey, .slice a8 n8 c8]) bA 25 _ := (setRow_other _ _ _ _ (by omega)).trans hRA
      have hRBn : Rows8 (v5.setRow bB #[.int .u64 Ey, .slice a8 n8 c8]) bB 25 #[.int .u64 Ey, .slice a8 n8 c8] := setRow_heap _ _ _ _ _ _ hRB
      clear hPA hPB hRA hRB
      have hPA := hPAn
      have hPB := hPBn
      have hRA := hRAn
      have hRB := hRBn
      clear hPAn hPBn hRAn hRBn
      refine hK.out _ _ (fun _ => hS6) ?_
      clear hK K
      try simp only [Act.put, List.setIfInBounds_toArray, List.set_cons_zero, List.set_cons_succ]
      generalize (v5.setRow bB #[.int .u64 Ey, .slice a8 n8 c8]) = v6 at *
      refine wpAnyX_end (by kernel_rfl) ?_
      exact HK.out _ _ _ _ _ _ _ _ _ hA hB hS6.1 hRA hRB hPA hPB hB6
end Go.Proofs
