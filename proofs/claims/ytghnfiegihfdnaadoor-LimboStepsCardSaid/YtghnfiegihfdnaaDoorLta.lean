/- Limbo: LimboTells: the region that makes two of its own. -/
import Derived.Test.YtghnfiegihfdnaaDoorLrt
namespace Go.Proofs
set_option maxRecDepth 100000
open Go.RowKit Go.Shelf
attribute [local go_sem] Oper.semAt_some

section
variable {P : Program} {ops : Array Oper} {Q : Exit → Act → World → Prop} {md : Region.Mode} {S : World → Prop} {X : Nat}
theorem wpAnyL_three {i j k : Nat} {oi oj ok : Oper} {fuel : Nat} {listed : Array Bool} {a : Act} {w : World} (hr : Region.ready md ops listed = [i, j, k]) (hoi : ops[i]? = some oi) (hoj : ops[j]? = some oj) (hok : ops[k]? = some ok)
    (hi : ∀ K' : Act → World → Prop, Hid (∀ a w, (i < X → S w) → wpAnyL P md ops Q S X fuel (listed.setIfInBounds i true) a w → K' a w) → if Region.wanted oi (yielded ops a.tmps) = true then Oper.wp P oi a w K' Q else K' (a.put oi.dst undef) w)
    (hj : ∀ K' : Act → World → Prop, Hid (∀ a w, (j < X → S w) → wpAnyL P md ops Q S X fuel (listed.setIfInBounds j true) a w → K' a w) → if Region.wanted oj (yielded ops a.tmps) = true then Oper.wp P oj a w K' Q else K' (a.put oj.dst undef) w)
    (hk : ∀ K' : Act → World → Prop, Hid (∀ a w, (k < X → S w) → wpAnyL P md ops Q S X fuel (listed.setIfInBounds k true) a w → K' a w) → if Region.wanted ok (yielded ops a.tmps) = true then Oper.wp P ok a w K' Q else K' (a.put ok.dst undef) w) :
    wpAnyL P md ops Q S X (fuel + 1) listed a w := by
  refine ⟨fun h0 => (by rw [hr] at h0; cases h0), fun m hm => ?_⟩
  rw [hr] at hm
  rcases List.mem_cons.1 hm with rfl | hm
  · exact wpOp_step hoi (fun K' hK => hi K' (Lib.hid fun a w hS hW => hK a w ⟨hS, hW⟩))
  · rcases List.mem_cons.1 hm with rfl | hm
    · exact wpOp_step hoj (fun K' hK => hj K' (Lib.hid fun a w hS hW => hK a w ⟨hS, hW⟩))
    · obtain rfl := List.mem_singleton.1 hm
      exact wpOp_step hok (fun K' hK => hk K' (Lib.hid fun a w hS hW => hK a w ⟨hS, hW⟩))
end
theorem lo_drew {n₀ : Nat} {r : Rw3} {s : Ls} {W : World} (h : LO n₀ r s W) : LO n₀ r s W.drew := ⟨fun k hk => (h.1 k hk).drew, h.2⟩
set_option maxHeartbeats 64000000 in
theorem Tryd.tl_r3 {s0 s1 s2 s5 s6 s7 s8 s9 s10 s11 s12 s13 s14 s15 s16 s17 s18 s19 s20 s21 s22 s23 s24 s25 s26 s27 s28 s29 s30 s31 s32 s33 s34 s35 s36 s37 s38 s39 s40 s41 s42 s43 s44 s45 s46 s47 s48 s49 s50 s51 s52 s53 s54 s55 s56 s57 s58 s59 s60 s61 s62 s63 s64 s65 s66 s67 s68 s69 s70 s71 s72 s73 s74 s75 s76 s77 s78 s79 s80 s81 s82 s83 s84 s85 s86 s87 s88 s89 s90 s91 s92 s93 s94 s95 s96 s97 s98 s99 s100 s101 s102 s103 s104 s105 s106 s107 s108 s109 s110 s111 s112 s113 s114 s115 s116 s117 s118 s119 s120 s121 s122 s123 s124 s125 s126 s127 s128 s129 s130 s131 s132 s133 s134 s135 s136 s137 s138 s139 s140 s141 s142 s143 s144 s145 s146 s147 : Value} (N0 : Nat) (W0 : World) (b1 : Nat) (E F : Nat) (s u : Ls) (r q : Rw3) (Q : Exit → Act → World → Prop) (hN : Hid (N0 ≤ W0.heap.size)) (K1 : Hid (Rows8 W0 b1 26 #[.int .u64 (E : Nat), .slice (s.a 0) (s.n 0) (s.c 0), .slice (s.a 1) (s.n 1) (s.c 1), .slice (s.a 2) (s.n 2) (s.c 2)])) (K2 : Hid (Rows8 W0 (b1 + 1) 26 #[.int .u64 (F : Nat), .slice (u.a 0) (u.n 0) (u.c 0), .slice (u.a 1) (u.n 1) (u.c 1), .slice (u.a 2) (u.n 2) (u.c 2)])) (hI : Hid (LAt W0 s r)) (hQ : Hid (LAt W0 u q))
    (HK : Hid (∀ (b4 b5 : Nat) (sa sb : Ls) (z25 z26 z27 z28 : Value) (W : World), W0.heap.size ≤ b4 → W0.heap.size ≤ b5 → b4 ≠ b5 → Rows8 W b4 26 #[.int .u64 (E : Nat), .slice (sa.a 0) (sa.n 0) (sa.c 0), .slice (sa.a 1) (sa.n 1) (sa.c 1), .slice (sa.a 2) (sa.n 2) (sa.c 2)] → Rows8 W b5 26 #[.int .u64 (F : Nat), .slice (sb.a 0) (sb.n 0) (sb.c 0), .slice (sb.a 1) (sb.n 1) (sb.c 1), .slice (sb.a 2) (sb.n 2) (sb.c 2)] → LO N0 (ownR r) sa W → LO N0 (ownR q) sb W → Below W0.heap.size W0 W → Q .normal ⟨(s0 :: s1 :: s2 :: .pointer (some ⟨b1, 0, none⟩) :: .pointer (some ⟨(b1 + 1), 0, none⟩) :: s5 :: s6 :: .pointer (some ⟨b4, 0, none⟩) :: .pointer (some ⟨b5, 0, none⟩) :: s9 :: s10 :: s11 :: s12 :: s13 :: s14 :: s15 :: s16 :: s17 :: s18 :: s19 :: s20 :: s21 :: s22 :: s23 :: s24 :: z25 :: z26 :: z27 :: z28 :: s29 :: s30 :: s31 :: s32 :: s33 :: s34 :: s35 :: s36 :: s37 :: s38 :: s39 :: s40 :: s41 :: s42 :: s43 :: s44 :: s45 :: s46 :: s47 :: s48 :: s49 :: s50 :: s51 :: s52 :: s53 :: s54 :: s55 :: s56 :: s57 :: s58 :: s59 :: s60 :: s61 :: s62 :: s63 :: s64 :: s65 :: s66 :: s67 :: s68 :: s69 :: s70 :: s71 :: s72 :: s73 :: s74 :: s75 :: s76 :: s77 :: s78 :: s79 :: s80 :: s81 :: s82 :: s83 :: s84 :: s85 :: s86 :: s87 :: s88 :: s89 :: s90 :: s91 :: s92 :: s93 :: s94 :: s95 :: s96 :: s97 :: s98 :: s99 :: s100 :: s101 :: s102 :: s103 :: s104 :: s105 :: s106 :: s107 :: s108 :: s109 :: s110 :: s111 :: s112 :: s113 :: s114 :: s115 :: s116 :: s117 :: s118 :: s119 :: s120 :: s121 :: s122 :: s123 :: s124 :: s125 :: s126 :: s127 :: s128 :: s129 :: s130 :: s131 :: s132 :: s133 :: s134 :: s135 :: s136 :: s137 :: s138 :: s139 :: s140 :: s141 :: s142 :: s143 :: s144 :: s145 :: s146 :: s147 :: []).toArray, []⟩ W)) (hQp : ∀ (c : List PanicEntry) (d : Option Tmp) (v : Value) (a : Act) (w : World), Q (.panic c) (a.put d v) w → Q (.panic c) a w) :
    (Code.region 3 #[{ dst := some 25, op := Go.Op.load 26 (Go.Operand.tmp 3), type := 26, pos := "law.go:50", after := #[], guard := none }, { dst := some 26, op := Go.Op.call { callee := Go.Callee.value (Go.Operand.func 8), args := #[Go.Operand.tmp 25], argTypes := #[26] }, type := 26, pos := "law.go:50", after := #[{ on := 0, ground := Go.Ground.data }], guard := none }, { dst := some 27, op := Go.Op.load 26 (Go.Operand.tmp 4), type := 26, pos := "law.go:50", after := #[], guard := none }, { dst := some 28, op := Go.Op.call { callee := Go.Callee.value (Go.Operand.func 8), args := #[Go.Operand.tmp 27], argTypes := #[26] }, type := 26, pos := "law.go:50", after := #[{ on := 2, ground := Go.Ground.data }, { on := 1, ground := Go.Ground.chain }], guard := none }, { dst := some 7, op := Go.Op.alloc 26, type := 0, pos := "law.go:50", after := #[], guard := none }, { dst := some 8, op := Go.Op.alloc 26, type := 0, pos := "law.go:50", after := #[], guard := none }, { dst := none, op := Go.Op.store 26 (Go.Operand.tmp 7) (Go.Operand.tmp 26), type := 0, pos := "law.go:50", after := #[{ on := 4, ground := Go.Ground.data }, { on := 1, ground := Go.Ground.data }, { on := 3, ground := Go.Ground.chain }, { on := 0, ground := Go.Ground.phase }, { on := 1, ground := Go.Ground.phase }, { on := 2, ground := Go.Ground.textOnly Go.Departure.lateStores }, { on := 3, ground := Go.Ground.textOnly Go.Departure.lateStoresUnsure }, { on := 4, ground := Go.Ground.phase }, { on := 5, ground := Go.Ground.phase }], guard := none }, { dst := none, op := Go.Op.store 26 (Go.Operand.tmp 8) (Go.Operand.tmp 28), type := 0, pos := "law.go:50", after := #[{ on := 5, ground := Go.Ground.data }, { on := 3, ground := Go.Ground.data }, { on := 6, ground := Go.Ground.chain }, { on := 0, ground := Go.Ground.phase }, { on := 1, ground := Go.Ground.phase }, { on := 2, ground := Go.Ground.phase }, { on := 3, ground := Go.Ground.phase }, { on := 4, ground := Go.Ground.phase }, { on := 5, ground := Go.Ground.phase }, { on := 6, ground := Go.Ground.phase }], guard := none }] true).wp Tryd.prog Q ⟨(s0 :: s1 :: s2 :: .pointer (some ⟨b1, 0, none⟩) :: .pointer (some ⟨(b1 + 1), 0, none⟩) :: s5 :: s6 :: s7 :: s8 :: s9 :: s10 :: s11 :: s12 :: s13 :: s14 :: s15 :: s16 :: s17 :: s18 :: s19 :: s20 :: s21 :: s22 :: s23 :: s24 :: s25 :: s26 :: s27 :: s28 :: s29 :: s30 :: s31 :: s32 :: s33 :: s34 :: s35 :: s36 :: s37 :: s38 :: s39 :: s40 :: s41 :: s42 :: s43 :: s44 :: s45 :: s46 :: s47 :: s48 :: s49 :: s50 :: s51 :: s52 :: s53 :: s54 :: s55 :: s56 :: s57 :: s58 :: s59 :: s60 :: s61 :: s62 :: s63 :: s64 :: s65 :: s66 :: s67 :: s68 :: s69 :: s70 :: s71 :: s72 :: s73 :: s74 :: s75 :: s76 :: s77 :: s78 :: s79 :: s80 :: s81 :: s82 :: s83 :: s84 :: s85 :: s86 :: s87 :: s88 :: s89 :: s90 :: s91 :: s92 :: s93 :: s94 :: s95 :: s96 :: s97 :: s98 :: s99 :: s100 :: s101 :: s102 :: s103 :: s104 :: s105 :: s106 :: s107 :: s108 :: s109 :: s110 :: s111 :: s112 :: s113 :: s114 :: s115 :: s116 :: s117 :: s118 :: s119 :: s120 :: s121 :: s122 :: s123 :: s124 :: s125 :: s126 :: s127 :: s128 :: s129 :: s130 :: s131 :: s132 :: s133 :: s134 :: s135 :: s136 :: s137 :: s138 :: s139 :: s140 :: s141 :: s142 :: s143 :: s144 :: s145 :: s146 :: s147 :: []).toArray, []⟩ W0 := by
  refine wp_region_L (fun W' => Rows8 W' b1 26 #[.int .u64 (E : Nat), .slice (s.a 0) (s.n 0) (s.c 0), .slice (s.a 1) (s.n 1) (s.c 1), .slice (s.a 2) (s.n 2) (s.c 2)] ∧ Rows8 W' (b1 + 1) 26 #[.int .u64 (F : Nat), .slice (u.a 0) (u.n 0) (u.c 0), .slice (u.a 1) (u.n 1) (u.c 1), .slice (u.a 2) (u.n 2) (u.c 2)]) 6 (by kernel_rfl) ?_
  have hS0 : Rows8 W0.drew b1 26 #[.int .u64 (E : Nat), .slice (s.a 0) (s.n 0) (s.c 0), .slice (s.a 1) (s.n 1) (s.c 1), .slice (s.a 2) (s.n 2) (s.c 2)] ∧ Rows8 W0.drew (b1 + 1) 26 #[.int .u64 (F : Nat), .slice (u.a 0) (u.n 0) (u.c 0), .slice (u.a 1) (u.n 1) (u.c 1), .slice (u.a 2) (u.n 2) (u.c 2)] := ⟨K1.out.drewA, K2.out.drewA⟩
  have HI : Hid (LAt W0.drew s r) := Lib.hid (fun k hk => hI.out k hk)
  have HQ : Hid (LAt W0.drew u q) := Lib.hid (fun k hk => hQ.out k hk)
  have HB : Hid (Below W0.heap.size W0 W0.drew) := Lib.hid (Below.refl _ _).drew
  clear K1 K2 hI hQ
  generalize W0.drew = V0 at *
  refine wpAnyL_takeT (i := 0) (oi := { dst := some 25, op := Go.Op.load 26 (Go.Operand.tmp 3), type := 26, pos := "law.go:50", after := #[], guard := none }) (v := .agg #[.int .u64 (E : Nat), .slice (s.a 0) (s.n 0) (s.c 0), .slice (s.a 1) (s.n 1) (s.c 1), .slice (s.a 2) (s.n 2) (s.c 2)]) [1, 3, 6, 7] rfl (by kernel_rfl) (by kernel_rfl) (by kernel_rfl) (by kernel_rfl) (fun _ _ _ h => hQp _ _ _ _ _ h) (Or.inl ⟨by rfl, ?_⟩) hS0 ?_
  · intro W9 hS9
    obtain ⟨q0, q1⟩ := hS9
    have m0 : W9.cell? ⟨b1, 0, none⟩ = some (.int .u64 (E : Nat)) := q0.cell 0
    have m1 : W9.cell? ⟨b1, 1, none⟩ = some (.slice (s.a 0) (s.n 0) (s.c 0)) := q0.cell 1
    have m2 : W9.cell? ⟨b1, 2, none⟩ = some (.slice (s.a 1) (s.n 1) (s.c 1)) := q0.cell 2
    have m3 : W9.cell? ⟨b1, 3, none⟩ = some (.slice (s.a 2) (s.n 2) (s.c 2)) := q0.cell 3
    clear q0 q1
    go_simp
  try simp only [Act.put, List.setIfInBounds_toArray, List.set_cons_zero, List.set_cons_succ]
  refine wpAnyL_takeT (i := 2) (oi := { dst := some 27, op := Go.Op.load 26 (Go.Operand.tmp 4), type := 26, pos := "law.go:50", after := #[], guard := none }) (v := .agg #[.int .u64 (F : Nat), .slice (u.a 0) (u.n 0) (u.c 0), .slice (u.a 1) (u.n 1) (u.c 1), .slice (u.a 2) (u.n 2) (u.c 2)]) [3, 6, 7] rfl (by kernel_rfl) (by kernel_rfl) (by kernel_rfl) (by kernel_rfl) (fun _ _ _ h => hQp _ _ _ _ _ h) (Or.inl ⟨by rfl, ?_⟩) hS0 ?_
  · intro W9 hS9
    obtain ⟨q0, q1⟩ := hS9
    have m0 : W9.cell? ⟨(b1 + 1), 0, none⟩ = some (.int .u64 (F : Nat)) := q1.cell 0
    have m1 : W9.cell? ⟨(b1 + 1), 1, none⟩ = some (.slice (u.a 0) (u.n 0) (u.c 0)) := q1.cell 1
    have m2 : W9.cell? ⟨(b1 + 1), 2, none⟩ = some (.slice (u.a 1) (u.n 1) (u.c 1)) := q1.cell 2
    have m3 : W9.cell? ⟨(b1 + 1), 3, none⟩ = some (.slice (u.a 2) (u.n 2) (u.c 2)) := q1.cell 3
    clear q0 q1
    go_simp
  try simp only [Act.put, List.setIfInBounds_toArray, List.set_cons_zero, List.set_cons_succ]
  refine wpAnyL_three (i := 1) (j := 4) (k := 5) (oi := { dst := some 26, op := Go.Op.call { callee := Go.Callee.value (Go.Operand.func 8), args := #[Go.Operand.tmp 25], argTypes := #[26] }, type := 26, pos := "law.go:50", after := #[{ on := 0, ground := Go.Ground.data }], guard := none }) (oj := { dst := some 7, op := Go.Op.alloc 26, type := 0, pos := "law.go:50", after := #[], guard := none }) (ok := { dst := some 8, op := Go.Op.alloc 26, type := 0, pos := "law.go:50", after := #[], guard := none }) (by kernel_rfl) rfl rfl rfl (fun K hK => ?_) (fun K hK => ?_) (fun K hK => ?_)
  · refine step_call_g (by rfl) 8 _ _ rfl (fun _ _ => by kernel_rfl) #[.agg #[.int .u64 (E : Nat), .slice (s.a 0) (s.n 0) (s.c 0), .slice (s.a 1) (s.n 1) (s.c 1), .slice (s.a 2) (s.n 2) (s.c 2)]] (by simp [go_sem]) _ (Tryd.own_any E s r V0 HI.out) ?_
    rintro e V1 ⟨sa, rfl, hO, hC⟩
    have O1' := Lib.hid (hO.mono (Nat.le_trans hN.out HB.out.size))
    have HI := Lib.hid (HI.out.below hC)
    have HQ := Lib.hid (HQ.out.below hC)
    have HB := Lib.hid (HB.out.trans (hC.mono HB.out.size))
    have O1 := O1'
    have hS0 : Rows8 V1 b1 26 #[.int .u64 (E : Nat), .slice (s.a 0) (s.n 0) (s.c 0), .slice (s.a 1) (s.n 1) (s.c 1), .slice (s.a 2) (s.n 2) (s.c 2)] ∧ Rows8 V1 (b1 + 1) 26 #[.int .u64 (F : Nat), .slice (u.a 0) (u.n 0) (u.c 0), .slice (u.a 1) (u.n 1) (u.c 1), .slice (u.a 2) (u.n 2) (u.c 2)] := ⟨hS0.1.below hC hS0.1.lt, hS0.2.below hC hS0.2.lt⟩
    clear hO hC O1'
    refine ⟨_, rfl, ?_⟩
    refine hK.out _ _ (fun _ => hS0) ?_
    clear hK K
    try simp only [Act.put, List.setIfInBounds_toArray, List.set_cons_zero, List.set_cons_succ]
    refine wpAnyL_three (i := 3) (j := 4) (k := 5) (oi := { dst := some 28, op := Go.Op.call { callee := Go.Callee.value (Go.Operand.func 8), args := #[Go.Operand.tmp 27], argTypes := #[26] }, type := 26, pos := "law.go:50", after := #[{ on := 2, ground := Go.Ground.data }, { on := 1, ground := Go.Ground.chain }], guard := none }) (oj := { dst := some 7, op := Go.Op.alloc 26, type := 0, pos := "law.go:50", after := #[], guard := none }) (ok := { dst := some 8, op := Go.Op.alloc 26, type := 0, pos := "law.go:50", after := #[], guard := none }) (by kernel_rfl) rfl rfl rfl (fun K hK => ?_) (fun K hK => ?_) (fun K hK => ?_)
    · refine step_call_g (by rfl) 8 _ _ rfl (fun _ _ => by kernel_rfl) #[.agg #[.int .u64 (F : Nat), .slice (u.a 0) (u.n 0) (u.c 0), .slice (u.a 1) (u.n 1) (u.c 1), .slice (u.a 2) (u.n 2) (u.c 2)]] (by simp [go_sem]) _ (Tryd.own_any F u q V1 HQ.out) ?_
      rintro e V2 ⟨sb, rfl, hO, hC⟩
      have O3' := Lib.hid (hO.mono (Nat.le_trans hN.out HB.out.size))
      have HI := Lib.hid (HI.out.below hC)
      have HQ := Lib.hid (HQ.out.below hC)
      have HB := Lib.hid (HB.out.trans (hC.mono HB.out.size))
      have O1 := Lib.hid (O1.out.below hC)
      have O3 := O3'
      have hS0 : Rows8 V2 b1 26 #[.int .u64 (E : Nat), .slice (s.a 0) (s.n 0) (s.c 0), .slice (s.a 1) (s.n 1) (s.c 1), .slice (s.a 2) (s.n 2) (s.c 2)] ∧ Rows8 V2 (b1 + 1) 26 #[.int .u64 (F : Nat), .slice (u.a 0) (u.n 0) (u.c 0), .slice (u.a 1) (u.n 1) (u.c 1), .slice (u.a 2) (u.n 2) (u.c 2)] := ⟨hS0.1.below hC hS0.1.lt, hS0.2.below hC hS0.2.lt⟩
      clear hO hC O3'
      refine ⟨_, rfl, ?_⟩
      refine hK.out _ _ (fun _ => hS0) ?_
      clear hK K
      try simp only [Act.put, List.setIfInBounds_toArray, List.set_cons_zero, List.set_cons_succ]
      refine wpAnyL_two (i := 4) (j := 5) (oi := { dst := some 7, op := Go.Op.alloc 26, type := 0, pos := "law.go:50", after := #[], guard := none }) (oj := { dst := some 8, op := Go.Op.alloc 26, type := 0, pos := "law.go:50", after := #[], guard := none }) (by kernel_rfl) rfl rfl (fun K hK => ?_) (fun K hK => ?_)
      · refine step_value_g (by rfl) (.pointer (some ⟨V2.heap.size, 0, none⟩)) (w' := V2.alloc (.cells #[.int .u64 0, .slice none 0 0, .slice none 0 0, .slice none 0 0] 26)) (by go_simp) ?_
        have hC : Below V2.heap.size V2 (V2.alloc (.cells #[.int .u64 0, .slice none 0 0, .slice none 0 0, .slice none 0 0] 26)) := Rows8.newB
        have A4' : Hid (W0.heap.size ≤ V2.heap.size ∧ Rows8 (V2.alloc (.cells #[.int .u64 0, .slice none 0 0, .slice none 0 0, .slice none 0 0] 26)) V2.heap.size 26 #[.int .u64 0, .slice none 0 0, .slice none 0 0, .slice none 0 0]) := Lib.hid ⟨HB.out.size, Rows8.new _ _ _⟩
        have HI := Lib.hid (HI.out.below hC)
        have HQ := Lib.hid (HQ.out.below hC)
        have HB := Lib.hid (HB.out.trans (hC.mono HB.out.size))
        have O1 := Lib.hid (O1.out.below hC)
        have O3 := Lib.hid (O3.out.below hC)
        have A4 := A4'
        have hS0 : Rows8 (V2.alloc (.cells #[.int .u64 0, .slice none 0 0, .slice none 0 0, .slice none 0 0] 26)) b1 26 #[.int .u64 (E : Nat), .slice (s.a 0) (s.n 0) (s.c 0), .slice (s.a 1) (s.n 1) (s.c 1), .slice (s.a 2) (s.n 2) (s.c 2)] ∧ Rows8 (V2.alloc (.cells #[.int .u64 0, .slice none 0 0, .slice none 0 0, .slice none 0 0] 26)) (b1 + 1) 26 #[.int .u64 (F : Nat), .slice (u.a 0) (u.n 0) (u.c 0), .slice (u.a 1) (u.n 1) (u.c 1), .slice (u.a 2) (u.n 2) (u.c 2)] := ⟨hS0.1.alloc _, hS0.2.alloc _⟩
        clear hC A4'
        generalize V2.alloc (.cells #[.int .u64 0, .slice none 0 0, .slice none 0 0, .slice none 0 0] 26) = V3 at *
        generalize V2.heap.size = b4 at *
        refine hK.out _ _ (fun _ => hS0) ?_
        clear hK K
        try simp only [Act.put, List.setIfInBounds_toArray, List.set_cons_zero, List.set_cons_succ]
        refine wpAnyL_one (i := 5) (o := { dst := some 8, op := Go.Op.alloc 26, type := 0, pos := "law.go:50", after := #[], guard := none }) (by kernel_rfl) rfl (fun K hK => ?_)
        refine step_value_g (by rfl) (.pointer (some ⟨V3.heap.size, 0, none⟩)) (w' := V3.alloc (.cells #[.int .u64 0, .slice none 0 0, .slice none 0 0, .slice none 0 0] 26)) (by go_simp) ?_
        have hC : Below V3.heap.size V3 (V3.alloc (.cells #[.int .u64 0, .slice none 0 0, .slice none 0 0, .slice none 0 0] 26)) := Rows8.newB
        have A5' : Hid (W0.heap.size ≤ V3.heap.size ∧ Rows8 (V3.alloc (.cells #[.int .u64 0, .slice none 0 0, .slice none 0 0, .slice none 0 0] 26)) V3.heap.size 26 #[.int .u64 0, .slice none 0 0, .slice none 0 0, .slice none 0 0]) := Lib.hid ⟨HB.out.size, Rows8.new _ _ _⟩
        have hne : Hid (b4 ≠ V3.heap.size) := Lib.hid (Nat.ne_of_lt A4.out.2.lt)
        have HI := Lib.hid (HI.out.below hC)
        have HQ := Lib.hid (HQ.out.below hC)
        have HB := Lib.hid (HB.out.trans (hC.mono HB.out.size))
        have O1 := Lib.hid (O1.out.below hC)
        have O3 := Lib.hid (O3.out.below hC)
        have A4 := Lib.hid (And.intro A4.out.1 (A4.out.2.below hC A4.out.2.lt))
        have A5 := A5'
        have hS0 : Rows8 (V3.alloc (.cells #[.int .u64 0, .slice none 0 0, .slice none 0 0, .slice none 0 0] 26)) b1 26 #[.int .u64 (E : Nat), .slice (s.a 0) (s.n 0) (s.c 0), .slice (s.a 1) (s.n 1) (s.c 1), .slice (s.a 2) (s.n 2) (s.c 2)] ∧ Rows8 (V3.alloc (.cells #[.int .u64 0, .slice none 0 0, .slice none 0 0, .slice none 0 0] 26)) (b1 + 1) 26 #[.int .u64 (F : Nat), .slice (u.a 0) (u.n 0) (u.c 0), .slice (u.a 1) (u.n 1) (u.c 1), .slice (u.a 2) (u.n 2) (u.c 2)] := ⟨hS0.1.alloc _, hS0.2.alloc _⟩
        clear hC A5'
        generalize V3.alloc (.cells #[.int .u64 0, .slice none 0 0, .slice none 0 0, .slice none 0 0] 26) = V4 at *
        generalize V3.heap.size = b5 at *
        refine hK.out _ _ (fun _ => hS0) ?_
        clear hK K
        try simp only [Act.put, List.setIfInBounds_toArray, List.set_cons_zero, List.set_cons_succ]
        have h45 := hne.out
        have r4 := A4.out.2
        have r5 := A5.out.2
        refine wpAnyL_one (i := 6) (o := { dst := none, op := Go.Op.store 26 (Go.Operand.tmp 7) (Go.Operand.tmp 26), type := 0, pos := "law.go:50", after := #[{ on := 4, ground := Go.Ground.data }, { on := 1, ground := Go.Ground.data }, { on := 3, ground := Go.Ground.chain }, { on := 0, ground := Go.Ground.phase }, { on := 1, ground := Go.Ground.phase }, { on := 2, ground := Go.Ground.textOnly Go.Departure.lateStores }, { on := 3, ground := Go.Ground.textOnly Go.Departure.lateStoresUnsure }, { on := 4, ground := Go.Ground.phase }, { on := 5, ground := Go.Ground.phase }], guard := none }) (by kernel_rfl) rfl (fun K hK => ?_)
        have ck0 : V4.cell? ⟨b4, 0, none⟩ = some (.int .u64 0) := r4.cell 0
        have fk0 := r4.frozen 0
        have ck1 : V4.cell? ⟨b4, 1, none⟩ = some (.slice none 0 0) := r4.cell 1
        have fk1 := r4.frozen 1
        have ck2 : V4.cell? ⟨b4, 2, none⟩ = some (.slice none 0 0) := r4.cell 2
        have fk2 := r4.frozen 2
        have ck3 : V4.cell? ⟨b4, 3, none⟩ = some (.slice none 0 0) := r4.cell 3
        have fk3 := r4.frozen 3
        have lk := r4.lt
        refine step_skip_g (by rfl) (w' := ((((V4.setCell ⟨b4, 0, none⟩ (.int .u64 (E : Nat))).setCell ⟨b4, 1, none⟩ (.slice (sa.a 0) (sa.n 0) (sa.c 0))).setCell ⟨b4, 2, none⟩ (.slice (sa.a 1) (sa.n 1) (sa.c 1))).setCell ⟨b4, 3, none⟩ (.slice (sa.a 2) (sa.n 2) (sa.c 2)))) (by go_simp) ?_
        have r4s := rows4 r4 (.int .u64 (E : Nat)) (.slice (sa.a 0) (sa.n 0) (sa.c 0)) (.slice (sa.a 1) (sa.n 1) (sa.c 1)) (.slice (sa.a 2) (sa.n 2) (sa.c 2))
        have r5s := r5.oth4 h45 (.int .u64 (E : Nat)) (.slice (sa.a 0) (sa.n 0) (sa.c 0)) (.slice (sa.a 1) (sa.n 1) (sa.c 1)) (.slice (sa.a 2) (sa.n 2) (sa.c 2))
        clear ck0 ck1 ck2 ck3 fk0 fk1 fk2 fk3 lk
        refine hK.out _ _ (fun h => absurd h (by decide)) ?_
        clear hK K
        try simp only [Act.put, List.setIfInBounds_toArray, List.set_cons_zero, List.set_cons_succ]
        refine wpAnyL_one (i := 7) (o := { dst := none, op := Go.Op.store 26 (Go.Operand.tmp 8) (Go.Operand.tmp 28), type := 0, pos := "law.go:50", after := #[{ on := 5, ground := Go.Ground.data }, { on := 3, ground := Go.Ground.data }, { on := 6, ground := Go.Ground.chain }, { on := 0, ground := Go.Ground.phase }, { on := 1, ground := Go.Ground.phase }, { on := 2, ground := Go.Ground.phase }, { on := 3, ground := Go.Ground.phase }, { on := 4, ground := Go.Ground.phase }, { on := 5, ground := Go.Ground.phase }, { on := 6, ground := Go.Ground.phase }], guard := none }) (by kernel_rfl) rfl (fun K hK => ?_)
        have ck0 : ((((V4.setCell ⟨b4, 0, none⟩ (.int .u64 (E : Nat))).setCell ⟨b4, 1, none⟩ (.slice (sa.a 0) (sa.n 0) (sa.c 0))).setCell ⟨b4, 2, none⟩ (.slice (sa.a 1) (sa.n 1) (sa.c 1))).setCell ⟨b4, 3, none⟩ (.slice (sa.a 2) (sa.n 2) (sa.c 2))).cell? ⟨b5, 0, none⟩ = some (.int .u64 0) := r5s.cell 0
        have fk0 := r5s.frozen 0
        have ck1 : ((((V4.setCell ⟨b4, 0, none⟩ (.int .u64 (E : Nat))).setCell ⟨b4, 1, none⟩ (.slice (sa.a 0) (sa.n 0) (sa.c 0))).setCell ⟨b4, 2, none⟩ (.slice (sa.a 1) (sa.n 1) (sa.c 1))).setCell ⟨b4, 3, none⟩ (.slice (sa.a 2) (sa.n 2) (sa.c 2))).cell? ⟨b5, 1, none⟩ = some (.slice none 0 0) := r5s.cell 1
        have fk1 := r5s.frozen 1
        have ck2 : ((((V4.setCell ⟨b4, 0, none⟩ (.int .u64 (E : Nat))).setCell ⟨b4, 1, none⟩ (.slice (sa.a 0) (sa.n 0) (sa.c 0))).setCell ⟨b4, 2, none⟩ (.slice (sa.a 1) (sa.n 1) (sa.c 1))).setCell ⟨b4, 3, none⟩ (.slice (sa.a 2) (sa.n 2) (sa.c 2))).cell? ⟨b5, 2, none⟩ = some (.slice none 0 0) := r5s.cell 2
        have fk2 := r5s.frozen 2
        have ck3 : ((((V4.setCell ⟨b4, 0, none⟩ (.int .u64 (E : Nat))).setCell ⟨b4, 1, none⟩ (.slice (sa.a 0) (sa.n 0) (sa.c 0))).setCell ⟨b4, 2, none⟩ (.slice (sa.a 1) (sa.n 1) (sa.c 1))).setCell ⟨b4, 3, none⟩ (.slice (sa.a 2) (sa.n 2) (sa.c 2))).cell? ⟨b5, 3, none⟩ = some (.slice none 0 0) := r5s.cell 3
        have fk3 := r5s.frozen 3
        have lk := r5s.lt
        refine step_skip_g (by rfl) (w' := ((((((((V4.setCell ⟨b4, 0, none⟩ (.int .u64 (E : Nat))).setCell ⟨b4, 1, none⟩ (.slice (sa.a 0) (sa.n 0) (sa.c 0))).setCell ⟨b4, 2, none⟩ (.slice (sa.a 1) (sa.n 1) (sa.c 1))).setCell ⟨b4, 3, none⟩ (.slice (sa.a 2) (sa.n 2) (sa.c 2))).setCell ⟨b5, 0, none⟩ (.int .u64 (F : Nat))).setCell ⟨b5, 1, none⟩ (.slice (sb.a 0) (sb.n 0) (sb.c 0))).setCell ⟨b5, 2, none⟩ (.slice (sb.a 1) (sb.n 1) (sb.c 1))).setCell ⟨b5, 3, none⟩ (.slice (sb.a 2) (sb.n 2) (sb.c 2)))) (by go_simp) ?_
        refine hK.out _ _ (fun h => absurd h (by decide)) ?_
        clear hK K
        try simp only [Act.put, List.setIfInBounds_toArray, List.set_cons_zero, List.set_cons_succ]
        refine wpAnyL_end (by kernel_rfl) ?_
        exact HK.out b4 b5 sa sb _ _ _ _ _ A4.out.1 A5.out.1 h45 (r4s.oth4 (Ne.symm h45) (.int .u64 (F : Nat)) (.slice (sb.a 0) (sb.n 0) (sb.c 0)) (.slice (sb.a 1) (sb.n 1) (sb.c 1)) (.slice (sb.a 2) (sb.n 2) (sb.c 2))) (rows4 r5s (.int .u64 (F : Nat)) (.slice (sb.a 0) (sb.n 0) (sb.c 0)) (.slice (sb.a 1) (sb.n 1) (sb.c 1)) (.slice (sb.a 2) (sb.n 2) (sb.c 2))) (LO.setT (LO.setT O1.out r4 (.int .u64 (E : Nat)) (.slice (sa.a 0) (sa.n 0) (sa.c 0)) (.slice (sa.a 1) (sa.n 1) (sa.c 1)) (.slice (sa.a 2) (sa.n 2) (sa.c 2))) r5s (.int .u64 (F : Nat)) (.slice (sb.a 0) (sb.n 0) (sb.c 0)) (.slice (sb.a 1) (sb.n 1) (sb.c 1)) (.slice (sb.a 2) (sb.n 2) (sb.c 2))) (LO.setT (LO.setT O3.out r4 (.int .u64 (E : Nat)) (.slice (sa.a 0) (sa.n 0) (sa.c 0)) (.slice (sa.a 1) (sa.n 1) (sa.c 1)) (.slice (sa.a 2) (sa.n 2) (sa.c 2))) r5s (.int .u64 (F : Nat)) (.slice (sb.a 0) (sb.n 0) (sb.c 0)) (.slice (sb.a 1) (sb.n 1) (sb.c 1)) (.slice (sb.a 2) (sb.n 2) (sb.c 2))) (below4 (below4 HB.out A4.out.1 (.int .u64 (E : Nat)) (.slice (sa.a 0) (sa.n 0) (sa.c 0)) (.slice (sa.a 1) (sa.n 1) (sa.c 1)) (.slice (sa.a 2) (sa.n 2) (sa.c 2))) A5.out.1 (.int .u64 (F : Nat)) (.slice (sb.a 0) (sb.n 0) (sb.c 0)) (.slice (sb.a 1) (sb.n 1) (sb.c 1)) (.slice (sb.a 2) (sb.n 2) (sb.c 2)))
      · refine step_value_g (by rfl) (.pointer (some ⟨V2.heap.size, 0, none⟩)) (w' := V2.alloc (.cells #[.int .u64 0, .slice none 0 0, .slice none 0 0, .slice none 0 0] 26)) (by go_simp) ?_
        have hC : Below V2.heap.size V2 (V2.alloc (.cells #[.int .u64 0, .slice none 0 0, .slice none 0 0, .slice none 0 0] 26)) := Rows8.newB
        have A5' : Hid (W0.heap.size ≤ V2.heap.size ∧ Rows8 (V2.alloc (.cells #[.int .u64 0, .slice none 0 0, .slice none 0 0, .slice none 0 0] 26)) V2.heap.size 26 #[.int .u64 0, .slice none 0 0, .slice none 0 0, .slice none 0 0]) := Lib.hid ⟨HB.out.size, Rows8.new _ _ _⟩
        have HI := Lib.hid (HI.out.below hC)
        have HQ := Lib.hid (HQ.out.below hC)
        have HB := Lib.hid (HB.out.trans (hC.mono HB.out.size))
        have O1 := Lib.hid (O1.out.below hC)
        have O3 := Lib.hid (O3.out.below hC)
        have A5 := A5'
        have hS0 : Rows8 (V2.alloc (.cells #[.int .u64 0, .slice none 0 0, .slice none 0 0, .slice none 0 0] 26)) b1 26 #[.int .u64 (E : Nat), .slice (s.a 0) (s.n 0) (s.c 0), .slice (s.a 1) (s.n 1) (s.c 1), .slice (s.a 2) (s.n 2) (s.c 2)] ∧ Rows8 (V2.alloc (.cells #[.int .u64 0, .slice none 0 0, .slice none 0 0, .slice none 0 0] 26)) (b1 + 1) 26 #[.int .u64 (F : Nat), .slice (u.a 0) (u.n 0) (u.c 0), .slice (u.a 1) (u.n 1) (u.c 1), .slice (u.a 2) (u.n 2) (u.c 2)] := ⟨hS0.1.alloc _, hS0.2.alloc _⟩
        clear hC A5'
        generalize V2.alloc (.cells #[.int .u64 0, .slice none 0 0, .slice none 0 0, .slice none 0 0] 26) = V3 at *
        generalize V2.heap.size = b5 at *
        refine hK.out _ _ (fun _ => hS0) ?_
        clear hK K
        try simp only [Act.put, List.setIfInBounds_toArray, List.set_cons_zero, List.set_cons_succ]
        refine wpAnyL_one (i := 4) (o := { dst := some 7, op := Go.Op.alloc 26, type := 0, pos := "law.go:50", after := #[], guard := none }) (by kernel_rfl) rfl (fun K hK => ?_)
        refine step_value_g (by rfl) (.pointer (some ⟨V3.heap.size, 0, none⟩)) (w' := V3.alloc (.cells #[.int .u64 0, .slice none 0 0, .slice none 0 0, .slice none 0 0] 26)) (by go_simp) ?_
        have hC : Below V3.heap.size V3 (V3.alloc (.cells #[.int .u64 0, .slice none 0 0, .slice none 0 0, .slice none 0 0] 26)) := Rows8.newB
        have A4' : Hid (W0.heap.size ≤ V3.heap.size ∧ Rows8 (V3.alloc (.cells #[.int .u64 0, .slice none 0 0, .slice none 0 0, .slice none 0 0] 26)) V3.heap.size 26 #[.int .u64 0, .slice none 0 0, .slice none 0 0, .slice none 0 0]) := Lib.hid ⟨HB.out.size, Rows8.new _ _ _⟩
        have hne : Hid (b5 ≠ V3.heap.size) := Lib.hid (Nat.ne_of_lt A5.out.2.lt)
        have HI := Lib.hid (HI.out.below hC)
        have HQ := Lib.hid (HQ.out.below hC)
        have HB := Lib.hid (HB.out.trans (hC.mono HB.out.size))
        have O1 := Lib.hid (O1.out.below hC)
        have O3 := Lib.hid (O3.out.below hC)
        have A5 := Lib.hid (And.intro A5.out.1 (A5.out.2.below hC A5.out.2.lt))
        have A4 := A4'
        have hS0 : Rows8 (V3.alloc (.cells #[.int .u64 0, .slice none 0 0, .slice none 0 0, .slice none 0 0] 26)) b1 26 #[.int .u64 (E : Nat), .slice (s.a 0) (s.n 0) (s.c 0), .slice (s.a 1) (s.n 1) (s.c 1), .slice (s.a 2) (s.n 2) (s.c 2)] ∧ Rows8 (V3.alloc (.cells #[.int .u64 0, .slice none 0 0, .slice none 0 0, .slice none 0 0] 26)) (b1 + 1) 26 #[.int .u64 (F : Nat), .slice (u.a 0) (u.n 0) (u.c 0), .slice (u.a 1) (u.n 1) (u.c 1), .slice (u.a 2) (u.n 2) (u.c 2)] := ⟨hS0.1.alloc _, hS0.2.alloc _⟩
        clear hC A4'
        generalize V3.alloc (.cells #[.int .u64 0, .slice none 0 0, .slice none 0 0, .slice none 0 0] 26) = V4 at *
        generalize V3.heap.size = b4 at *
        refine hK.out _ _ (fun _ => hS0) ?_
        clear hK K
        try simp only [Act.put, List.setIfInBounds_toArray, List.set_cons_zero, List.set_cons_succ]
        have h45 := (Ne.symm hne.out)
        have r4 := A4.out.2
        have r5 := A5.out.2
        refine wpAnyL_one (i := 6) (o := { dst := none, op := Go.Op.store 26 (Go.Operand.tmp 7) (Go.Operand.tmp 26), type := 0, pos := "law.go:50", after := #[{ on := 4, ground := Go.Ground.data }, { on := 1, ground := Go.Ground.data }, { on := 3, ground := Go.Ground.chain }, { on := 0, ground := Go.Ground.phase }, { on := 1, ground := Go.Ground.phase }, { on := 2, ground := Go.Ground.textOnly Go.Departure.lateStores }, { on := 3, ground := Go.Ground.textOnly Go.Departure.lateStoresUnsure }, { on := 4, ground := Go.Ground.phase }, { on := 5, ground := Go.Ground.phase }], guard := none }) (by kernel_rfl) rfl (fun K hK => ?_)
        have ck0 : V4.cell? ⟨b4, 0, none⟩ = some (.int .u64 0) := r4.cell 0
        have fk0 := r4.frozen 0
        have ck1 : V4.cell? ⟨b4, 1, none⟩ = some (.slice none 0 0) := r4.cell 1
        have fk1 := r4.frozen 1
        have ck2 : V4.cell? ⟨b4, 2, none⟩ = some (.slice none 0 0) := r4.cell 2
        have fk2 := r4.frozen 2
        have ck3 : V4.cell? ⟨b4, 3, none⟩ = some (.slice none 0 0) := r4.cell 3
        have fk3 := r4.frozen 3
        have lk := r4.lt
        refine step_skip_g (by rfl) (w' := ((((V4.setCell ⟨b4, 0, none⟩ (.int .u64 (E : Nat))).setCell ⟨b4, 1, none⟩ (.slice (sa.a 0) (sa.n 0) (sa.c 0))).setCell ⟨b4, 2, none⟩ (.slice (sa.a 1) (sa.n 1) (sa.c 1))).setCell ⟨b4, 3, none⟩ (.slice (sa.a 2) (sa.n 2) (sa.c 2)))) (by go_simp) ?_
        have r4s := rows4 r4 (.int .u64 (E : Nat)) (.slice (sa.a 0) (sa.n 0) (sa.c 0)) (.slice (sa.a 1) (sa.n 1) (sa.c 1)) (.slice (sa.a 2) (sa.n 2) (sa.c 2))
        have r5s := r5.oth4 h45 (.int .u64 (E : Nat)) (.slice (sa.a 0) (sa.n 0) (sa.c 0)) (.slice (sa.a 1) (sa.n 1) (sa.c 1)) (.slice (sa.a 2) (sa.n 2) (sa.c 2))
        clear ck0 ck1 ck2 ck3 fk0 fk1 fk2 fk3 lk
        refine hK.out _ _ (fun h => absurd h (by decide)) ?_
        clear hK K
        try simp only [Act.put, List.setIfInBounds_toArray, List.set_cons_zero, List.set_cons_succ]
        refine wpAnyL_one (i := 7) (o := { dst := none, op := Go.Op.store 26 (Go.Operand.tmp 8) (Go.Operand.tmp 28), type := 0, pos := "law.go:50", after := #[{ on := 5, ground := Go.Ground.data }, { on := 3, ground := Go.Ground.data }, { on := 6, ground := Go.Ground.chain }, { on := 0, ground := Go.Ground.phase }, { on := 1, ground := Go.Ground.phase }, { on := 2, ground := Go.Ground.phase }, { on := 3, ground := Go.Ground.phase }, { on := 4, ground := Go.Ground.phase }, { on := 5, ground := Go.Ground.phase }, { on := 6, ground := Go.Ground.phase }], guard := none }) (by kernel_rfl) rfl (fun K hK => ?_)
        have ck0 : ((((V4.setCell ⟨b4, 0, none⟩ (.int .u64 (E : Nat))).setCell ⟨b4, 1, none⟩ (.slice (sa.a 0) (sa.n 0) (sa.c 0))).setCell ⟨b4, 2, none⟩ (.slice (sa.a 1) (sa.n 1) (sa.c 1))).setCell ⟨b4, 3, none⟩ (.slice (sa.a 2) (sa.n 2) (sa.c 2))).cell? ⟨b5, 0, none⟩ = some (.int .u64 0) := r5s.cell 0
        have fk0 := r5s.frozen 0
        have ck1 : ((((V4.setCell ⟨b4, 0, none⟩ (.int .u64 (E : Nat))).setCell ⟨b4, 1, none⟩ (.slice (sa.a 0) (sa.n 0) (sa.c 0))).setCell ⟨b4, 2, none⟩ (.slice (sa.a 1) (sa.n 1) (sa.c 1))).setCell ⟨b4, 3, none⟩ (.slice (sa.a 2) (sa.n 2) (sa.c 2))).cell? ⟨b5, 1, none⟩ = some (.slice none 0 0) := r5s.cell 1
        have fk1 := r5s.frozen 1
        have ck2 : ((((V4.setCell ⟨b4, 0, none⟩ (.int .u64 (E : Nat))).setCell ⟨b4, 1, none⟩ (.slice (sa.a 0) (sa.n 0) (sa.c 0))).setCell ⟨b4, 2, none⟩ (.slice (sa.a 1) (sa.n 1) (sa.c 1))).setCell ⟨b4, 3, none⟩ (.slice (sa.a 2) (sa.n 2) (sa.c 2))).cell? ⟨b5, 2, none⟩ = some (.slice none 0 0) := r5s.cell 2
        have fk2 := r5s.frozen 2
        have ck3 : ((((V4.setCell ⟨b4, 0, none⟩ (.int .u64 (E : Nat))).setCell ⟨b4, 1, none⟩ (.slice (sa.a 0) (sa.n 0) (sa.c 0))).setCell ⟨b4, 2, none⟩ (.slice (sa.a 1) (sa.n 1) (sa.c 1))).setCell ⟨b4, 3, none⟩ (.slice (sa.a 2) (sa.n 2) (sa.c 2))).cell? ⟨b5, 3, none⟩ = some (.slice none 0 0) := r5s.cell 3
        have fk3 := r5s.frozen 3
        have lk := r5s.lt
        refine step_skip_g (by rfl) (w' := ((((((((V4.setCell ⟨b4, 0, none⟩ (.int .u64 (E : Nat))).setCell ⟨b4, 1, none⟩ (.slice (sa.a 0) (sa.n 0) (sa.c 0))).setCell ⟨b4, 2, none⟩ (.slice (sa.a 1) (sa.n 1) (sa.c 1))).setCell ⟨b4, 3, none⟩ (.slice (sa.a 2) (sa.n 2) (sa.c 2))).setCell ⟨b5, 0, none⟩ (.int .u64 (F : Nat))).setCell ⟨b5, 1, none⟩ (.slice (sb.a 0) (sb.n 0) (sb.c 0))).setCell ⟨b5, 2, none⟩ (.slice (sb.a 1) (sb.n 1) (sb.c 1))).setCell ⟨b5, 3, none⟩ (.slice (sb.a 2) (sb.n 2) (sb.c 2)))) (by go_simp) ?_
        refine hK.out _ _ (fun h => absurd h (by decide)) ?_
        clear hK K
        try simp only [Act.put, List.setIfInBounds_toArray, List.set_cons_zero, List.set_cons_succ]
        refine wpAnyL_end (by kernel_rfl) ?_
        exact HK.out b4 b5 sa sb _ _ _ _ _ A4.out.1 A5.out.1 h45 (r4s.oth4 (Ne.symm h45) (.int .u64 (F : Nat)) (.slice (sb.a 0) (sb.n 0) (sb.c 0)) (.slice (sb.a 1) (sb.n 1) (sb.c 1)) (.slice (sb.a 2) (sb.n 2) (sb.c 2))) (rows4 r5s (.int .u64 (F : Nat)) (.slice (sb.a 0) (sb.n 0) (sb.c 0)) (.slice (sb.a 1) (sb.n 1) (sb.c 1)) (.slice (sb.a 2) (sb.n 2) (sb.c 2))) (LO.setT (LO.setT O1.out r4 (.int .u64 (E : Nat)) (.slice (sa.a 0) (sa.n 0) (sa.c 0)) (.slice (sa.a 1) (sa.n 1) (sa.c 1)) (.slice (sa.a 2) (sa.n 2) (sa.c 2))) r5s (.int .u64 (F : Nat)) (.slice (sb.a 0) (sb.n 0) (sb.c 0)) (.slice (sb.a 1) (sb.n 1) (sb.c 1)) (.slice (sb.a 2) (sb.n 2) (sb.c 2))) (LO.setT (LO.setT O3.out r4 (.int .u64 (E : Nat)) (.slice (sa.a 0) (sa.n 0) (sa.c 0)) (.slice (sa.a 1) (sa.n 1) (sa.c 1)) (.slice (sa.a 2) (sa.n 2) (sa.c 2))) r5s (.int .u64 (F : Nat)) (.slice (sb.a 0) (sb.n 0) (sb.c 0)) (.slice (sb.a 1) (sb.n 1) (sb.c 1)) (.slice (sb.a 2) (sb.n 2) (sb.c 2))) (below4 (below4 HB.out A4.out.1 (.int .u64 (E : Nat)) (.slice (sa.a 0) (sa.n 0) (sa.c 0)) (.slice (sa.a 1) (sa.n 1) (sa.c 1)) (.slice (sa.a 2) (sa.n 2) (sa.c 2))) A5.out.1 (.int .u64 (F : Nat)) (.slice (sb.a 0) (sb.n 0) (sb.c 0)) (.slice (sb.a 1) (sb.n 1) (sb.c 1)) (.slice (sb.a 2) (sb.n 2) (sb.c 2)))
    · refine step_value_g (by rfl) (.pointer (some ⟨V1.heap.size, 0, none⟩)) (w' := V1.alloc (.cells #[.int .u64 0, .slice none 0 0, .slice none 0 0, .slice none 0 0] 26)) (by go_simp) ?_
      have hC : Below V1.heap.size V1 (V1.alloc (.cells #[.int .u64 0, .slice none 0 0, .slice none 0 0, .slice none 0 0] 26)) := Rows8.newB
      have A4' : Hid (W0.heap.size ≤ V1.heap.size ∧ Rows8 (V1.alloc (.cells #[.int .u64 0, .slice none 0 0, .slice none 0 0, .slice none 0 0] 26)) V1.heap.size 26 #[.int .u64 0, .slice none 0 0, .slice none 0 0, .slice none 0 0]) := Lib.hid ⟨HB.out.size, Rows8.new _ _ _⟩
      have HI := Lib.hid (HI.out.below hC)
      have HQ := Lib.hid (HQ.out.below hC)
      have HB := Lib.hid (HB.out.trans (hC.mono HB.out.size))
      have O1 := Lib.hid (O1.out.below hC)
      have A4 := A4'
      have hS0 : Rows8 (V1.alloc (.cells #[.int .u64 0, .slice none 0 0, .slice none 0 0, .slice none 0 0] 26)) b1 26 #[.int .u64 (E : Nat), .slice (s.a 0) (s.n 0) (s.c 0), .slice (s.a 1) (s.n 1) (s.c 1), .slice (s.a 2) (s.n 2) (s.c 2)] ∧ Rows8 (V1.alloc (.cells #[.int .u64 0, .slice none 0 0, .slice none 0 0, .slice none 0 0] 26)) (b1 + 1) 26 #[.int .u64 (F : Nat), .slice (u.a 0) (u.n 0) (u.c 0), .slice (u.a 1) (u.n 1) (u.c 1), .slice (u.a 2) (u.n 2) (u.c 2)] := ⟨hS0.1.alloc _, hS0.2.alloc _⟩
      clear hC A4'
      generalize V1.alloc (.cells #[.int .u64 0, .slice none 0 0, .slice none 0 0, .slice none 0 0] 26) = V2 at *
      generalize V1.heap.size = b4 at *
      refine hK.out _ _ (fun _ => hS0) ?_
      clear hK K
      try simp only [Act.put, List.setIfInBounds_toArray, List.set_cons_zero, List.set_cons_succ]
      refine wpAnyL_two (i := 3) (j := 5) (oi := { dst := some 28, op := Go.Op.call { callee := Go.Callee.value (Go.Operand.func 8), args := #[Go.Operand.tmp 27], argTypes := #[26] }, type := 26, pos := "law.go:50", after := #[{ on := 2, ground := Go.Ground.data }, { on := 1, ground := Go.Ground.chain }], guard := none }) (oj := { dst := some 8, op := Go.Op.alloc 26, type := 0, pos := "law.go:50", after := #[], guard := none }) (by kernel_rfl) rfl rfl (fun K hK => ?_) (fun K hK => ?_)
      · refine step_call_g (by rfl) 8 _ _ rfl (fun _ _ => by kernel_rfl) #[.agg #[.int .u64 (F : Nat), .slice (u.a 0) (u.n 0) (u.c 0), .slice (u.a 1) (u.n 1) (u.c 1), .slice (u.a 2) (u.n 2) (u.c 2)]] (by simp [go_sem]) _ (Tryd.own_any F u q V2 HQ.out) ?_
        rintro e V3 ⟨sb, rfl, hO, hC⟩
        have O3' := Lib.hid (hO.mono (Nat.le_trans hN.out HB.out.size))
        have HI := Lib.hid (HI.out.below hC)
        have HQ := Lib.hid (HQ.out.below hC)
        have HB := Lib.hid (HB.out.trans (hC.mono HB.out.size))
        have O1 := Lib.hid (O1.out.below hC)
        have A4 := Lib.hid (And.intro A4.out.1 (A4.out.2.below hC A4.out.2.lt))
        have O3 := O3'
        have hS0 : Rows8 V3 b1 26 #[.int .u64 (E : Nat), .slice (s.a 0) (s.n 0) (s.c 0), .slice (s.a 1) (s.n 1) (s.c 1), .slice (s.a 2) (s.n 2) (s.c 2)] ∧ Rows8 V3 (b1 + 1) 26 #[.int .u64 (F : Nat), .slice (u.a 0) (u.n 0) (u.c 0), .slice (u.a 1) (u.n 1) (u.c 1), .slice (u.a 2) (u.n 2) (u.c 2)] := ⟨hS0.1.below hC hS0.1.lt, hS0.2.below hC hS0.2.lt⟩
        clear hO hC O3'
        refine ⟨_, rfl, ?_⟩
        refine hK.out _ _ (fun _ => hS0) ?_
        clear hK K
        try simp only [Act.put, List.setIfInBounds_toArray, List.set_cons_zero, List.set_cons_succ]
        refine wpAnyL_one (i := 5) (o := { dst := some 8, op := Go.Op.alloc 26, type := 0, pos := "law.go:50", after := #[], guard := none }) (by kernel_rfl) rfl (fun K hK => ?_)
        refine step_value_g (by rfl) (.pointer (some ⟨V3.heap.size, 0, none⟩)) (w' := V3.alloc (.cells #[.int .u64 0, .slice none 0 0, .slice none 0 0, .slice none 0 0] 26)) (by go_simp) ?_
        have hC : Below V3.heap.size V3 (V3.alloc (.cells #[.int .u64 0, .slice none 0 0, .slice none 0 0, .slice none 0 0] 26)) := Rows8.newB
        have A5' : Hid (W0.heap.size ≤ V3.heap.size ∧ Rows8 (V3.alloc (.cells #[.int .u64 0, .slice none 0 0, .slice none 0 0, .slice none 0 0] 26)) V3.heap.size 26 #[.int .u64 0, .slice none 0 0, .slice none 0 0, .slice none 0 0]) := Lib.hid ⟨HB.out.size, Rows8.new _ _ _⟩
        have hne : Hid (b4 ≠ V3.heap.size) := Lib.hid (Nat.ne_of_lt A4.out.2.lt)
        have HI := Lib.hid (HI.out.below hC)
        have HQ := Lib.hid (HQ.out.below hC)
        have HB := Lib.hid (HB.out.trans (hC.mono HB.out.size))
        have O1 := Lib.hid (O1.out.below hC)
        have O3 := Lib.hid (O3.out.below hC)
        have A4 := Lib.hid (And.intro A4.out.1 (A4.out.2.below hC A4.out.2.lt))
        have A5 := A5'
        have hS0 : Rows8 (V3.alloc (.cells #[.int .u64 0, .slice none 0 0, .slice none 0 0, .slice none 0 0] 26)) b1 26 #[.int .u64 (E : Nat), .slice (s.a 0) (s.n 0) (s.c 0), .slice (s.a 1) (s.n 1) (s.c 1), .slice (s.a 2) (s.n 2) (s.c 2)] ∧ Rows8 (V3.alloc (.cells #[.int .u64 0, .slice none 0 0, .slice none 0 0, .slice none 0 0] 26)) (b1 + 1) 26 #[.int .u64 (F : Nat), .slice (u.a 0) (u.n 0) (u.c 0), .slice (u.a 1) (u.n 1) (u.c 1), .slice (u.a 2) (u.n 2) (u.c 2)] := ⟨hS0.1.alloc _, hS0.2.alloc _⟩
        clear hC A5'
        generalize V3.alloc (.cells #[.int .u64 0, .slice none 0 0, .slice none 0 0, .slice none 0 0] 26) = V4 at *
        generalize V3.heap.size = b5 at *
        refine hK.out _ _ (fun _ => hS0) ?_
        clear hK K
        try simp only [Act.put, List.setIfInBounds_toArray, List.set_cons_zero, List.set_cons_succ]
        have h45 := hne.out
        have r4 := A4.out.2
        have r5 := A5.out.2
        refine wpAnyL_one (i := 6) (o := { dst := none, op := Go.Op.store 26 (Go.Operand.tmp 7) (Go.Operand.tmp 26), type := 0, pos := "law.go:50", after := #[{ on := 4, ground := Go.Ground.data }, { on := 1, ground := Go.Ground.data }, { on := 3, ground := Go.Ground.chain }, { on := 0, ground := Go.Ground.phase }, { on := 1, ground := Go.Ground.phase }, { on := 2, ground := Go.Ground.textOnly Go.Departure.lateStores }, { on := 3, ground := Go.Ground.textOnly Go.Departure.lateStoresUnsure }, { on := 4, ground := Go.Ground.phase }, { on := 5, ground := Go.Ground.phase }], guard := none }) (by kernel_rfl) rfl (fun K hK => ?_)
        have ck0 : V4.cell? ⟨b4, 0, none⟩ = some (.int .u64 0) := r4.cell 0
        have fk0 := r4.frozen 0
        have ck1 : V4.cell? ⟨b4, 1, none⟩ = some (.slice none 0 0) := r4.cell 1
        have fk1 := r4.frozen 1
        have ck2 : V4.cell? ⟨b4, 2, none⟩ = some (.slice none 0 0) := r4.cell 2
        have fk2 := r4.frozen 2
        have ck3 : V4.cell? ⟨b4, 3, none⟩ = some (.slice none 0 0) := r4.cell 3
        have fk3 := r4.frozen 3
        have lk := r4.lt
        refine step_skip_g (by rfl) (w' := ((((V4.setCell ⟨b4, 0, none⟩ (.int .u64 (E : Nat))).setCell ⟨b4, 1, none⟩ (.slice (sa.a 0) (sa.n 0) (sa.c 0))).setCell ⟨b4, 2, none⟩ (.slice (sa.a 1) (sa.n 1) (sa.c 1))).setCell ⟨b4, 3, none⟩ (.slice (sa.a 2) (sa.n 2) (sa.c 2)))) (by go_simp) ?_
        have r4s := rows4 r4 (.int .u64 (E : Nat)) (.slice (sa.a 0) (sa.n 0) (sa.c 0)) (.slice (sa.a 1) (sa.n 1) (sa.c 1)) (.slice (sa.a 2) (sa.n 2) (sa.c 2))
        have r5s := r5.oth4 h45 (.int .u64 (E : Nat)) (.slice (sa.a 0) (sa.n 0) (sa.c 0)) (.slice (sa.a 1) (sa.n 1) (sa.c 1)) (.slice (sa.a 2) (sa.n 2) (sa.c 2))
        clear ck0 ck1 ck2 ck3 fk0 fk1 fk2 fk3 lk
        refine hK.out _ _ (fun h => absurd h (by decide)) ?_
        clear hK K
        try simp only [Act.put, List.setIfInBounds_toArray, List.set_cons_zero, List.set_cons_succ]
        refine wpAnyL_one (i := 7) (o := { dst := none, op := Go.Op.store 26 (Go.Operand.tmp 8) (Go.Operand.tmp 28), type := 0, pos := "law.go:50", after := #[{ on := 5, ground := Go.Ground.data }, { on := 3, ground := Go.Ground.data }, { on := 6, ground := Go.Ground.chain }, { on := 0, ground := Go.Ground.phase }, { on := 1, ground := Go.Ground.phase }, { on := 2, ground := Go.Ground.phase }, { on := 3, ground := Go.Ground.phase }, { on := 4, ground := Go.Ground.phase }, { on := 5, ground := Go.Ground.phase }, { on := 6, ground := Go.Ground.phase }], guard := none }) (by kernel_rfl) rfl (fun K hK => ?_)
        have ck0 : ((((V4.setCell ⟨b4, 0, none⟩ (.int .u64 (E : Nat))).setCell ⟨b4, 1, none⟩ (.slice (sa.a 0) (sa.n 0) (sa.c 0))).setCell ⟨b4, 2, none⟩ (.slice (sa.a 1) (sa.n 1) (sa.c 1))).setCell ⟨b4, 3, none⟩ (.slice (sa.a 2) (sa.n 2) (sa.c 2))).cell? ⟨b5, 0, none⟩ = some (.int .u64 0) := r5s.cell 0
        have fk0 := r5s.frozen 0
        have ck1 : ((((V4.setCell ⟨b4, 0, none⟩ (.int .u64 (E : Nat))).setCell ⟨b4, 1, none⟩ (.slice (sa.a 0) (sa.n 0) (sa.c 0))).setCell ⟨b4, 2, none⟩ (.slice (sa.a 1) (sa.n 1) (sa.c 1))).setCell ⟨b4, 3, none⟩ (.slice (sa.a 2) (sa.n 2) (sa.c 2))).cell? ⟨b5, 1, none⟩ = some (.slice none 0 0) := r5s.cell 1
        have fk1 := r5s.frozen 1
        have ck2 : ((((V4.setCell ⟨b4, 0, none⟩ (.int .u64 (E : Nat))).setCell ⟨b4, 1, none⟩ (.slice (sa.a 0) (sa.n 0) (sa.c 0))).setCell ⟨b4, 2, none⟩ (.slice (sa.a 1) (sa.n 1) (sa.c 1))).setCell ⟨b4, 3, none⟩ (.slice (sa.a 2) (sa.n 2) (sa.c 2))).cell? ⟨b5, 2, none⟩ = some (.slice none 0 0) := r5s.cell 2
        have fk2 := r5s.frozen 2
        have ck3 : ((((V4.setCell ⟨b4, 0, none⟩ (.int .u64 (E : Nat))).setCell ⟨b4, 1, none⟩ (.slice (sa.a 0) (sa.n 0) (sa.c 0))).setCell ⟨b4, 2, none⟩ (.slice (sa.a 1) (sa.n 1) (sa.c 1))).setCell ⟨b4, 3, none⟩ (.slice (sa.a 2) (sa.n 2) (sa.c 2))).cell? ⟨b5, 3, none⟩ = some (.slice none 0 0) := r5s.cell 3
        have fk3 := r5s.frozen 3
        have lk := r5s.lt
        refine step_skip_g (by rfl) (w' := ((((((((V4.setCell ⟨b4, 0, none⟩ (.int .u64 (E : Nat))).setCell ⟨b4, 1, none⟩ (.slice (sa.a 0) (sa.n 0) (sa.c 0))).setCell ⟨b4, 2, none⟩ (.slice (sa.a 1) (sa.n 1) (sa.c 1))).setCell ⟨b4, 3, none⟩ (.slice (sa.a 2) (sa.n 2) (sa.c 2))).setCell ⟨b5, 0, none⟩ (.int .u64 (F : Nat))).setCell ⟨b5, 1, none⟩ (.slice (sb.a 0) (sb.n 0) (sb.c 0))).setCell ⟨b5, 2, none⟩ (.slice (sb.a 1) (sb.n 1) (sb.c 1))).setCell ⟨b5, 3, none⟩ (.slice (sb.a 2) (sb.n 2) (sb.c 2)))) (by go_simp) ?_
        refine hK.out _ _ (fun h => absurd h (by decide)) ?_
        clear hK K
        try simp only [Act.put, List.setIfInBounds_toArray, List.set_cons_zero, List.set_cons_succ]
        refine wpAnyL_end (by kernel_rfl) ?_
        exact HK.out b4 b5 sa sb _ _ _ _ _ A4.out.1 A5.out.1 h45 (r4s.oth4 (Ne.symm h45) (.int .u64 (F : Nat)) (.slice (sb.a 0) (sb.n 0) (sb.c 0)) (.slice (sb.a 1) (sb.n 1) (sb.c 1)) (.slice (sb.a 2) (sb.n 2) (sb.c 2))) (rows4 r5s (.int .u64 (F : Nat)) (.slice (sb.a 0) (sb.n 0) (sb.c 0)) (.slice (sb.a 1) (sb.n 1) (sb.c 1)) (.slice (sb.a 2) (sb.n 2) (sb.c 2))) (LO.setT (LO.setT O1.out r4 (.int .u64 (E : Nat)) (.slice (sa.a 0) (sa.n 0) (sa.c 0)) (.slice (sa.a 1) (sa.n 1) (sa.c 1)) (.slice (sa.a 2) (sa.n 2) (sa.c 2))) r5s (.int .u64 (F : Nat)) (.slice (sb.a 0) (sb.n 0) (sb.c 0)) (.slice (sb.a 1) (sb.n 1) (sb.c 1)) (.slice (sb.a 2) (sb.n 2) (sb.c 2))) (LO.setT (LO.setT O3.out r4 (.int .u64 (E : Nat)) (.slice (sa.a 0) (sa.n 0) (sa.c 0)) (.slice (sa.a 1) (sa.n 1) (sa.c 1)) (.slice (sa.a 2) (sa.n 2) (sa.c 2))) r5s (.int .u64 (F : Nat)) (.slice (sb.a 0) (sb.n 0) (sb.c 0)) (.slice (sb.a 1) (sb.n 1) (sb.c 1)) (.slice (sb.a 2) (sb.n 2) (sb.c 2))) (below4 (below4 HB.out A4.out.1 (.int .u64 (E : Nat)) (.slice (sa.a 0) (sa.n 0) (sa.c 0)) (.slice (sa.a 1) (sa.n 1) (sa.c 1)) (.slice (sa.a 2) (sa.n 2) (sa.c 2))) A5.out.1 (.int .u64 (F : Nat)) (.slice (sb.a 0) (sb.n 0) (sb.c 0)) (.slice (sb.a 1) (sb.n 1) (sb.c 1)) (.slice (sb.a 2) (sb.n 2) (sb.c 2)))
      · refine step_value_g (by rfl) (.pointer (some ⟨V2.heap.size, 0, none⟩)) (w' := V2.alloc (.cells #[.int .u64 0, .slice none 0 0, .slice none 0 0, .slice none 0 0] 26)) (by go_simp) ?_
        have hC : Below V2.heap.size V2 (V2.alloc (.cells #[.int .u64 0, .slice none 0 0, .slice none 0 0, .slice none 0 0] 26)) := Rows8.newB
        have A5' : Hid (W0.heap.size ≤ V2.heap.size ∧ Rows8 (V2.alloc (.cells #[.int .u64 0, .slice none 0 0, .slice none 0 0, .slice none 0 0] 26)) V2.heap.size 26 #[.int .u64 0, .slice none 0 0, .slice none 0 0, .slice none 0 0]) := Lib.hid ⟨HB.out.size, Rows8.new _ _ _⟩
        have hne : Hid (b4 ≠ V2.heap.size) := Lib.hid (Nat.ne_of_lt A4.out.2.lt)
        have HI := Lib.hid (HI.out.below hC)
        have HQ := Lib.hid (HQ.out.below hC)
        have HB := Lib.hid (HB.out.trans (hC.mono HB.out.size))
        have O1 := Lib.hid (O1.out.below hC)
        have A4 := Lib.hid (And.intro A4.out.1 (A4.out.2.below hC A4.out.2.lt))
        have A5 := A5'
        have hS0 : Rows8 (V2.alloc (.cells #[.int .u64 0, .slice none 0 0, .slice none 0 0, .slice none 0 0] 26)) b1 26 #[.int .u64 (E : Nat), .slice (s.a 0) (s.n 0) (s.c 0), .slice (s.a 1) (s.n 1) (s.c 1), .slice (s.a 2) (s.n 2) (s.c 2)] ∧ Rows8 (V2.alloc (.cells #[.int .u64 0, .slice none 0 0, .slice none 0 0, .slice none 0 0] 26)) (b1 + 1) 26 #[.int .u64 (F : Nat), .slice (u.a 0) (u.n 0) (u.c 0), .slice (u.a 1) (u.n 1) (u.c 1), .slice (u.a 2) (u.n 2) (u.c 2)] := ⟨hS0.1.alloc _, hS0.2.alloc _⟩
        clear hC A5'
        generalize V2.alloc (.cells #[.int .u64 0, .slice none 0 0, .slice none 0 0, .slice none 0 0] 26) = V3 at *
        generalize V2.heap.size = b5 at *
        refine hK.out _ _ (fun _ => hS0) ?_
        clear hK K
        try simp only [Act.put, List.setIfInBounds_toArray, List.set_cons_zero, List.set_cons_succ]
        refine wpAnyL_one (i := 3) (o := { dst := some 28, op := Go.Op.call { callee := Go.Callee.value (Go.Operand.func 8), args := #[Go.Operand.tmp 27], argTypes := #[26] }, type := 26, pos := "law.go:50", after := #[{ on := 2, ground := Go.Ground.data }, { on := 1, ground := Go.Ground.chain }], guard := none }) (by kernel_rfl) rfl (fun K hK => ?_)
        refine step_call_g (by rfl) 8 _ _ rfl (fun _ _ => by kernel_rfl) #[.agg #[.int .u64 (F : Nat), .slice (u.a 0) (u.n 0) (u.c 0), .slice (u.a 1) (u.n 1) (u.c 1), .slice (u.a 2) (u.n 2) (u.c 2)]] (by simp [go_sem]) _ (Tryd.own_any F u q V3 HQ.out) ?_
        rintro e V4 ⟨sb, rfl, hO, hC⟩
        have O3' := Lib.hid (hO.mono (Nat.le_trans hN.out HB.out.size))
        have HI := Lib.hid (HI.out.below hC)
        have HQ := Lib.hid (HQ.out.below hC)
        have HB := Lib.hid (HB.out.trans (hC.mono HB.out.size))
        have O1 := Lib.hid (O1.out.below hC)
        have A4 := Lib.hid (And.intro A4.out.1 (A4.out.2.below hC A4.out.2.lt))
        have A5 := Lib.hid (And.intro A5.out.1 (A5.out.2.below hC A5.out.2.lt))
        have O3 := O3'
        have hS0 : Rows8 V4 b1 26 #[.int .u64 (E : Nat), .slice (s.a 0) (s.n 0) (s.c 0), .slice (s.a 1) (s.n 1) (s.c 1), .slice (s.a 2) (s.n 2) (s.c 2)] ∧ Rows8 V4 (b1 + 1) 26 #[.int .u64 (F : Nat), .slice (u.a 0) (u.n 0) (u.c 0), .slice (u.a 1) (u.n 1) (u.c 1), .slice (u.a 2) (u.n 2) (u.c 2)] := ⟨hS0.1.below hC hS0.1.lt, hS0.2.below hC hS0.2.lt⟩
        clear hO hC O3'
        refine ⟨_, rfl, ?_⟩
        refine hK.out _ _ (fun _ => hS0) ?_
        clear hK K
        try simp only [Act.put, List.setIfInBounds_toArray, List.set_cons_zero, List.set_cons_succ]
        have h45 := hne.out
        have r4 := A4.out.2
        have r5 := A5.out.2
        refine wpAnyL_one (i := 6) (o := { dst := none, op := Go.Op.store 26 (Go.Operand.tmp 7) (Go.Operand.tmp 26), type := 0, pos := "law.go:50", after := #[{ on := 4, ground := Go.Ground.data }, { on := 1, ground := Go.Ground.data }, { on := 3, ground := Go.Ground.chain }, { on := 0, ground := Go.Ground.phase }, { on := 1, ground := Go.Ground.phase }, { on := 2, ground := Go.Ground.textOnly Go.Departure.lateStores }, { on := 3, ground := Go.Ground.textOnly Go.Departure.lateStoresUnsure }, { on := 4, ground := Go.Ground.phase }, { on := 5, ground := Go.Ground.phase }], guard := none }) (by kernel_rfl) rfl (fun K hK => ?_)
        have ck0 : V4.cell? ⟨b4, 0, none⟩ = some (.int .u64 0) := r4.cell 0
        have fk0 := r4.frozen 0
        have ck1 : V4.cell? ⟨b4, 1, none⟩ = some (.slice none 0 0) := r4.cell 1
        have fk1 := r4.frozen 1
        have ck2 : V4.cell? ⟨b4, 2, none⟩ = some (.slice none 0 0) := r4.cell 2
        have fk2 := r4.frozen 2
        have ck3 : V4.cell? ⟨b4, 3, none⟩ = some (.slice none 0 0) := r4.cell 3
        have fk3 := r4.frozen 3
        have lk := r4.lt
        refine step_skip_g (by rfl) (w' := ((((V4.setCell ⟨b4, 0, none⟩ (.int .u64 (E : Nat))).setCell ⟨b4, 1, none⟩ (.slice (sa.a 0) (sa.n 0) (sa.c 0))).setCell ⟨b4, 2, none⟩ (.slice (sa.a 1) (sa.n 1) (sa.c 1))).setCell ⟨b4, 3, none⟩ (.slice (sa.a 2) (sa.n 2) (sa.c 2)))) (by go_simp) ?_
        have r4s := rows4 r4 (.int .u64 (E : Nat)) (.slice (sa.a 0) (sa.n 0) (sa.c 0)) (.slice (sa.a 1) (sa.n 1) (sa.c 1)) (.slice (sa.a 2) (sa.n 2) (sa.c 2))
        have r5s := r5.oth4 h45 (.int .u64 (E : Nat)) (.slice (sa.a 0) (sa.n 0) (sa.c 0)) (.slice (sa.a 1) (sa.n 1) (sa.c 1)) (.slice (sa.a 2) (sa.n 2) (sa.c 2))
        clear ck0 ck1 ck2 ck3 fk0 fk1 fk2 fk3 lk
        refine hK.out _ _ (fun h => absurd h (by decide)) ?_
        clear hK K
        try simp only [Act.put, List.setIfInBounds_toArray, List.set_cons_zero, List.set_cons_succ]
        refine wpAnyL_one (i := 7) (o := { dst := none, op := Go.Op.store 26 (Go.Operand.tmp 8) (Go.Operand.tmp 28), type := 0, pos := "law.go:50", after := #[{ on := 5, ground := Go.Ground.data }, { on := 3, ground := Go.Ground.data }, { on := 6, ground := Go.Ground.chain }, { on := 0, ground := Go.Ground.phase }, { on := 1, ground := Go.Ground.phase }, { on := 2, ground := Go.Ground.phase }, { on := 3, ground := Go.Ground.phase }, { on := 4, ground := Go.Ground.phase }, { on := 5, ground := Go.Ground.phase }, { on := 6, ground := Go.Ground.phase }], guard := none }) (by kernel_rfl) rfl (fun K hK => ?_)
        have ck0 : ((((V4.setCell ⟨b4, 0, none⟩ (.int .u64 (E : Nat))).setCell ⟨b4, 1, none⟩ (.slice (sa.a 0) (sa.n 0) (sa.c 0))).setCell ⟨b4, 2, none⟩ (.slice (sa.a 1) (sa.n 1) (sa.c 1))).setCell ⟨b4, 3, none⟩ (.slice (sa.a 2) (sa.n 2) (sa.c 2))).cell? ⟨b5, 0, none⟩ = some (.int .u64 0) := r5s.cell 0
        have fk0 := r5s.frozen 0
        have ck1 : ((((V4.setCell ⟨b4, 0, none⟩ (.int .u64 (E : Nat))).setCell ⟨b4, 1, none⟩ (.slice (sa.a 0) (sa.n 0) (sa.c 0))).setCell ⟨b4, 2, none⟩ (.slice (sa.a 1) (sa.n 1) (sa.c 1))).setCell ⟨b4, 3, none⟩ (.slice (sa.a 2) (sa.n 2) (sa.c 2))).cell? ⟨b5, 1, none⟩ = some (.slice none 0 0) := r5s.cell 1
        have fk1 := r5s.frozen 1
        have ck2 : ((((V4.setCell ⟨b4, 0, none⟩ (.int .u64 (E : Nat))).setCell ⟨b4, 1, none⟩ (.slice (sa.a 0) (sa.n 0) (sa.c 0))).setCell ⟨b4, 2, none⟩ (.slice (sa.a 1) (sa.n 1) (sa.c 1))).setCell ⟨b4, 3, none⟩ (.slice (sa.a 2) (sa.n 2) (sa.c 2))).cell? ⟨b5, 2, none⟩ = some (.slice none 0 0) := r5s.cell 2
        have fk2 := r5s.frozen 2
        have ck3 : ((((V4.setCell ⟨b4, 0, none⟩ (.int .u64 (E : Nat))).setCell ⟨b4, 1, none⟩ (.slice (sa.a 0) (sa.n 0) (sa.c 0))).setCell ⟨b4, 2, none⟩ (.slice (sa.a 1) (sa.n 1) (sa.c 1))).setCell ⟨b4, 3, none⟩ (.slice (sa.a 2) (sa.n 2) (sa.c 2))).cell? ⟨b5, 3, none⟩ = some (.slice none 0 0) := r5s.cell 3
        have fk3 := r5s.frozen 3
        have lk := r5s.lt
        refine step_skip_g (by rfl) (w' := ((((((((V4.setCell ⟨b4, 0, none⟩ (.int .u64 (E : Nat))).setCell ⟨b4, 1, none⟩ (.slice (sa.a 0) (sa.n 0) (sa.c 0))).setCell ⟨b4, 2, none⟩ (.slice (sa.a 1) (sa.n 1) (sa.c 1))).setCell ⟨b4, 3, none⟩ (.slice (sa.a 2) (sa.n 2) (sa.c 2))).setCell ⟨b5, 0, none⟩ (.int .u64 (F : Nat))).setCell ⟨b5, 1, none⟩ (.slice (sb.a 0) (sb.n 0) (sb.c 0))).setCell ⟨b5, 2, none⟩ (.slice (sb.a 1) (sb.n 1) (sb.c 1))).setCell ⟨b5, 3, none⟩ (.slice (sb.a 2) (sb.n 2) (sb.c 2)))) (by go_simp) ?_
        refine hK.out _ _ (fun h => absurd h (by decide)) ?_
        clear hK K
        try simp only [Act.put, List.setIfInBounds_toArray, List.set_cons_zero, List.set_cons_succ]
        refine wpAnyL_end (by kernel_rfl) ?_
        exact HK.out b4 b5 sa sb _ _ _ _ _ A4.out.1 A5.out.1 h45 (r4s.oth4 (Ne.symm h45) (.int .u64 (F : Nat)) (.slice (sb.a 0) (sb.n 0) (sb.c 0)) (.slice (sb.a 1) (sb.n 1) (sb.c 1)) (.slice (sb.a 2) (sb.n 2) (sb.c 2))) (rows4 r5s (.int .u64 (F : Nat)) (.slice (sb.a 0) (sb.n 0) (sb.c 0)) (.slice (sb.a 1) (sb.n 1) (sb.c 1)) (.slice (sb.a 2) (sb.n 2) (sb.c 2))) (LO.setT (LO.setT O1.out r4 (.int .u64 (E : Nat)) (.slice (sa.a 0) (sa.n 0) (sa.c 0)) (.slice (sa.a 1) (sa.n 1) (sa.c 1)) (.slice (sa.a 2) (sa.n 2) (sa.c 2))) r5s (.int .u64 (F : Nat)) (.slice (sb.a 0) (sb.n 0) (sb.c 0)) (.slice (sb.a 1) (sb.n 1) (sb.c 1)) (.slice (sb.a 2) (sb.n 2) (sb.c 2))) (LO.setT (LO.setT O3.out r4 (.int .u64 (E : Nat)) (.slice (sa.a 0) (sa.n 0) (sa.c 0)) (.slice (sa.a 1) (sa.n 1) (sa.c 1)) (.slice (sa.a 2) (sa.n 2) (sa.c 2))) r5s (.int .u64 (F : Nat)) (.slice (sb.a 0) (sb.n 0) (sb.c 0)) (.slice (sb.a 1) (sb.n 1) (sb.c 1)) (.slice (sb.a 2) (sb.n 2) (sb.c 2))) (below4 (below4 HB.out A4.out.1 (.int .u64 (E : Nat)) (.slice (sa.a 0) (sa.n 0) (sa.c 0)) (.slice (sa.a 1) (sa.n 1) (sa.c 1)) (.slice (sa.a 2) (sa.n 2) (sa.c 2))) A5.out.1 (.int .u64 (F : Nat)) (.slice (sb.a 0) (sb.n 0) (sb.c 0)) (.slice (sb.a 1) (sb.n 1) (sb.c 1)) (.slice (sb.a 2) (sb.n 2) (sb.c 2)))
    · refine step_value_g (by rfl) (.pointer (some ⟨V1.heap.size, 0, none⟩)) (w' := V1.alloc (.cells #[.int .u64 0, .slice none 0 0, .slice none 0 0, .slice none 0 0] 26)) (by go_simp) ?_
      have hC : Below V1.heap.size V1 (V1.alloc (.cells #[.int .u64 0, .slice none 0 0, .slice none 0 0, .slice none 0 0] 26)) := Rows8.newB
      have A5' : Hid (W0.heap.size ≤ V1.heap.size ∧ Rows8 (V1.alloc (.cells #[.int .u64 0, .slice none 0 0, .slice none 0 0, .slice none 0 0] 26)) V1.heap.size 26 #[.int .u64 0, .slice none 0 0, .slice none 0 0, .slice none 0 0]) := Lib.hid ⟨HB.out.size, Rows8.new _ _ _⟩
      have HI := Lib.hid (HI.out.below hC)
      have HQ := Lib.hid (HQ.out.below hC)
      have HB := Lib.hid (HB.out.trans (hC.mono HB.out.size))
      have O1 := Lib.hid (O1.out.below hC)
      have A5 := A5'
      have hS0 : Rows8 (V1.alloc (.cells #[.int .u64 0, .slice none 0 0, .slice none 0 0, .slice none 0 0] 26)) b1 26 #[.int .u64 (E : Nat), .slice (s.a 0) (s.n 0) (s.c 0), .slice (s.a 1) (s.n 1) (s.c 1), .slice (s.a 2) (s.n 2) (s.c 2)] ∧ Rows8 (V1.alloc (.cells #[.int .u64 0, .slice none 0 0, .slice none 0 0, .slice none 0 0] 26)) (b1 + 1) 26 #[.int .u64 (F : Nat), .slice (u.a 0) (u.n 0) (u.c 0), .slice (u.a 1) (u.n 1) (u.c 1), .slice (u.a 2) (u.n 2) (u.c 2)] := ⟨hS0.1.alloc _, hS0.2.alloc _⟩
      clear hC A5'
      generalize V1.alloc (.cells #[.int .u64 0, .slice none 0 0, .slice none 0 0, .slice none 0 0] 26) = V2 at *
      generalize V1.heap.size = b5 at *
      refine hK.out _ _ (fun _ => hS0) ?_
      clear hK K
      try simp only [Act.put, List.setIfInBounds_toArray, List.set_cons_zero, List.set_cons_succ]
      refine wpAnyL_two (i := 3) (j := 4) (oi := { dst := some 28, op := Go.Op.call { callee := Go.Callee.value (Go.Operand.func 8), args := #[Go.Operand.tmp 27], argTypes := #[26] }, type := 26, pos := "law.go:50", after := #[{ on := 2, ground := Go.Ground.data }, { on := 1, ground := Go.Ground.chain }], guard := none }) (oj := { dst := some 7, op := Go.Op.alloc 26, type := 0, pos := "law.go:50", after := #[], guard := none }) (by kernel_rfl) rfl rfl (fun K hK => ?_) (fun K hK => ?_)
      · refine step_call_g (by rfl) 8 _ _ rfl (fun _ _ => by kernel_rfl) #[.agg #[.int .u64 (F : Nat), .slice (u.a 0) (u.n 0) (u.c 0), .slice (u.a 1) (u.n 1) (u.c 1), .slice (u.a 2) (u.n 2) (u.c 2)]] (by simp [go_sem]) _ (Tryd.own_any F u q V2 HQ.out) ?_
        rintro e V3 ⟨sb, rfl, hO, hC⟩
        have O3' := Lib.hid (hO.mono (Nat.le_trans hN.out HB.out.size))
        have HI := Lib.hid (HI.out.below hC)
        have HQ := Lib.hid (HQ.out.below hC)
        have HB := Lib.hid (HB.out.trans (hC.mono HB.out.size))
        have O1 := Lib.hid (O1.out.below hC)
        have A5 := Lib.hid (And.intro A5.out.1 (A5.out.2.below hC A5.out.2.lt))
        have O3 := O3'
        have hS0 : Rows8 V3 b1 26 #[.int .u64 (E : Nat), .slice (s.a 0) (s.n 0) (s.c 0), .slice (s.a 1) (s.n 1) (s.c 1), .slice (s.a 2) (s.n 2) (s.c 2)] ∧ Rows8 V3 (b1 + 1) 26 #[.int .u64 (F : Nat), .slice (u.a 0) (u.n 0) (u.c 0), .slice (u.a 1) (u.n 1) (u.c 1), .slice (u.a 2) (u.n 2) (u.c 2)] := ⟨hS0.1.below hC hS0.1.lt, hS0.2.below hC hS0.2.lt⟩
        clear hO hC O3'
        refine ⟨_, rfl, ?_⟩
        refine hK.out _ _ (fun _ => hS0) ?_
        clear hK K
        try simp only [Act.put, List.setIfInBounds_toArray, List.set_cons_zero, List.set_cons_succ]
        refine wpAnyL_one (i := 4) (o := { dst := some 7, op := Go.Op.alloc 26, type := 0, pos := "law.go:50", after := #[], guard := none }) (by kernel_rfl) rfl (fun K hK => ?_)
        refine step_value_g (by rfl) (.pointer (some ⟨V3.heap.size, 0, none⟩)) (w' := V3.alloc (.cells #[.int .u64 0, .slice none 0 0, .slice none 0 0, .slice none 0 0] 26)) (by go_simp) ?_
        have hC : Below V3.heap.size V3 (V3.alloc (.cells #[.int .u64 0, .slice none 0 0, .slice none 0 0, .slice none 0 0] 26)) := Rows8.newB
        have A4' : Hid (W0.heap.size ≤ V3.heap.size ∧ Rows8 (V3.alloc (.cells #[.int .u64 0, .slice none 0 0, .slice none 0 0, .slice none 0 0] 26)) V3.heap.size 26 #[.int .u64 0, .slice none 0 0, .slice none 0 0, .slice none 0 0]) := Lib.hid ⟨HB.out.size, Rows8.new _ _ _⟩
        have hne : Hid (b5 ≠ V3.heap.size) := Lib.hid (Nat.ne_of_lt A5.out.2.lt)
        have HI := Lib.hid (HI.out.below hC)
        have HQ := Lib.hid (HQ.out.below hC)
        have HB := Lib.hid (HB.out.trans (hC.mono HB.out.size))
        have O1 := Lib.hid (O1.out.below hC)
        have O3 := Lib.hid (O3.out.below hC)
        have A5 := Lib.hid (And.intro A5.out.1 (A5.out.2.below hC A5.out.2.lt))
        have A4 := A4'
        have hS0 : Rows8 (V3.alloc (.cells #[.int .u64 0, .slice none 0 0, .slice none 0 0, .slice none 0 0] 26)) b1 26 #[.int .u64 (E : Nat), .slice (s.a 0) (s.n 0) (s.c 0), .slice (s.a 1) (s.n 1) (s.c 1), .slice (s.a 2) (s.n 2) (s.c 2)] ∧ Rows8 (V3.alloc (.cells #[.int .u64 0, .slice none 0 0, .slice none 0 0, .slice none 0 0] 26)) (b1 + 1) 26 #[.int .u64 (F : Nat), .slice (u.a 0) (u.n 0) (u.c 0), .slice (u.a 1) (u.n 1) (u.c 1), .slice (u.a 2) (u.n 2) (u.c 2)] := ⟨hS0.1.alloc _, hS0.2.alloc _⟩
        clear hC A4'
        generalize V3.alloc (.cells #[.int .u64 0, .slice none 0 0, .slice none 0 0, .slice none 0 0] 26) = V4 at *
        generalize V3.heap.size = b4 at *
        refine hK.out _ _ (fun _ => hS0) ?_
        clear hK K
        try simp only [Act.put, List.setIfInBounds_toArray, List.set_cons_zero, List.set_cons_succ]
        have h45 := (Ne.symm hne.out)
        have r4 := A4.out.2
        have r5 := A5.out.2
        refine wpAnyL_one (i := 6) (o := { dst := none, op := Go.Op.store 26 (Go.Operand.tmp 7) (Go.Operand.tmp 26), type := 0, pos := "law.go:50", after := #[{ on := 4, ground := Go.Ground.data }, { on := 1, ground := Go.Ground.data }, { on := 3, ground := Go.Ground.chain }, { on := 0, ground := Go.Ground.phase }, { on := 1, ground := Go.Ground.phase }, { on := 2, ground := Go.Ground.textOnly Go.Departure.lateStores }, { on := 3, ground := Go.Ground.textOnly Go.Departure.lateStoresUnsure }, { on := 4, ground := Go.Ground.phase }, { on := 5, ground := Go.Ground.phase }], guard := none }) (by kernel_rfl) rfl (fun K hK => ?_)
        have ck0 : V4.cell? ⟨b4, 0, none⟩ = some (.int .u64 0) := r4.cell 0
        have fk0 := r4.frozen 0
        have ck1 : V4.cell? ⟨b4, 1, none⟩ = some (.slice none 0 0) := r4.cell 1
        have fk1 := r4.frozen 1
        have ck2 : V4.cell? ⟨b4, 2, none⟩ = some (.slice none 0 0) := r4.cell 2
        have fk2 := r4.frozen 2
        have ck3 : V4.cell? ⟨b4, 3, none⟩ = some (.slice none 0 0) := r4.cell 3
        have fk3 := r4.frozen 3
        have lk := r4.lt
        refine step_skip_g (by rfl) (w' := ((((V4.setCell ⟨b4, 0, none⟩ (.int .u64 (E : Nat))).setCell ⟨b4, 1, none⟩ (.slice (sa.a 0) (sa.n 0) (sa.c 0))).setCell ⟨b4, 2, none⟩ (.slice (sa.a 1) (sa.n 1) (sa.c 1))).setCell ⟨b4, 3, none⟩ (.slice (sa.a 2) (sa.n 2) (sa.c 2)))) (by go_simp) ?_
        have r4s := rows4 r4 (.int .u64 (E : Nat)) (.slice (sa.a 0) (sa.n 0) (sa.c 0)) (.slice (sa.a 1) (sa.n 1) (sa.c 1)) (.slice (sa.a 2) (sa.n 2) (sa.c 2))
        have r5s := r5.oth4 h45 (.int .u64 (E : Nat)) (.slice (sa.a 0) (sa.n 0) (sa.c 0)) (.slice (sa.a 1) (sa.n 1) (sa.c 1)) (.slice (sa.a 2) (sa.n 2) (sa.c 2))
        clear ck0 ck1 ck2 ck3 fk0 fk1 fk2 fk3 lk
        refine hK.out _ _ (fun h => absurd h (by decide)) ?_
        clear hK K
        try simp only [Act.put, List.setIfInBounds_toArray, List.set_cons_zero, List.set_cons_succ]
        refine wpAnyL_one (i := 7) (o := { dst := none, op := Go.Op.store 26 (Go.Operand.tmp 8) (Go.Operand.tmp 28), type := 0, pos := "law.go:50", after := #[{ on := 5, ground := Go.Ground.data }, { on := 3, ground := Go.Ground.data }, { on := 6, ground := Go.Ground.chain }, { on := 0, ground := Go.Ground.phase }, { on := 1, ground := Go.Ground.phase }, { on := 2, ground := Go.Ground.phase }, { on := 3, ground := Go.Ground.phase }, { on := 4, ground := Go.Ground.phase }, { on := 5, ground := Go.Ground.phase }, { on := 6, ground := Go.Ground.phase }], guard := none }) (by kernel_rfl) rfl (fun K hK => ?_)
        have ck0 : ((((V4.setCell ⟨b4, 0, none⟩ (.int .u64 (E : Nat))).setCell ⟨b4, 1, none⟩ (.slice (sa.a 0) (sa.n 0) (sa.c 0))).setCell ⟨b4, 2, none⟩ (.slice (sa.a 1) (sa.n 1) (sa.c 1))).setCell ⟨b4, 3, none⟩ (.slice (sa.a 2) (sa.n 2) (sa.c 2))).cell? ⟨b5, 0, none⟩ = some (.int .u64 0) := r5s.cell 0
        have fk0 := r5s.frozen 0
        have ck1 : ((((V4.setCell ⟨b4, 0, none⟩ (.int .u64 (E : Nat))).setCell ⟨b4, 1, none⟩ (.slice (sa.a 0) (sa.n 0) (sa.c 0))).setCell ⟨b4, 2, none⟩ (.slice (sa.a 1) (sa.n 1) (sa.c 1))).setCell ⟨b4, 3, none⟩ (.slice (sa.a 2) (sa.n 2) (sa.c 2))).cell? ⟨b5, 1, none⟩ = some (.slice none 0 0) := r5s.cell 1
        have fk1 := r5s.frozen 1
        have ck2 : ((((V4.setCell ⟨b4, 0, none⟩ (.int .u64 (E : Nat))).setCell ⟨b4, 1, none⟩ (.slice (sa.a 0) (sa.n 0) (sa.c 0))).setCell ⟨b4, 2, none⟩ (.slice (sa.a 1) (sa.n 1) (sa.c 1))).setCell ⟨b4, 3, none⟩ (.slice (sa.a 2) (sa.n 2) (sa.c 2))).cell? ⟨b5, 2, none⟩ = some (.slice none 0 0) := r5s.cell 2
        have fk2 := r5s.frozen 2
        have ck3 : ((((V4.setCell ⟨b4, 0, none⟩ (.int .u64 (E : Nat))).setCell ⟨b4, 1, none⟩ (.slice (sa.a 0) (sa.n 0) (sa.c 0))).setCell ⟨b4, 2, none⟩ (.slice (sa.a 1) (sa.n 1) (sa.c 1))).setCell ⟨b4, 3, none⟩ (.slice (sa.a 2) (sa.n 2) (sa.c 2))).cell? ⟨b5, 3, none⟩ = some (.slice none 0 0) := r5s.cell 3
        have fk3 := r5s.frozen 3
        have lk := r5s.lt
        refine step_skip_g (by rfl) (w' := ((((((((V4.setCell ⟨b4, 0, none⟩ (.int .u64 (E : Nat))).setCell ⟨b4, 1, none⟩ (.slice (sa.a 0) (sa.n 0) (sa.c 0))).setCell ⟨b4, 2, none⟩ (.slice (sa.a 1) (sa.n 1) (sa.c 1))).setCell ⟨b4, 3, none⟩ (.slice (sa.a 2) (sa.n 2) (sa.c 2))).setCell ⟨b5, 0, none⟩ (.int .u64 (F : Nat))).setCell ⟨b5, 1, none⟩ (.slice (sb.a 0) (sb.n 0) (sb.c 0))).setCell ⟨b5, 2, none⟩ (.slice (sb.a 1) (sb.n 1) (sb.c 1))).setCell ⟨b5, 3, none⟩ (.slice (sb.a 2) (sb.n 2) (sb.c 2)))) (by go_simp) ?_
        refine hK.out _ _ (fun h => absurd h (by decide)) ?_
        clear hK K
        try simp only [Act.put, List.setIfInBounds_toArray, List.set_cons_zero, List.set_cons_succ]
        refine wpAnyL_end (by kernel_rfl) ?_
        exact HK.out b4 b5 sa sb _ _ _ _ _ A4.out.1 A5.out.1 h45 (r4s.oth4 (Ne.symm h45) (.int .u64 (F : Nat)) (.slice (sb.a 0) (sb.n 0) (sb.c 0)) (.slice (sb.a 1) (sb.n 1) (sb.c 1)) (.slice (sb.a 2) (sb.n 2) (sb.c 2))) (rows4 r5s (.int .u64 (F : Nat)) (.slice (sb.a 0) (sb.n 0) (sb.c 0)) (.slice (sb.a 1) (sb.n 1) (sb.c 1)) (.slice (sb.a 2) (sb.n 2) (sb.c 2))) (LO.setT (LO.setT O1.out r4 (.int .u64 (E : Nat)) (.slice (sa.a 0) (sa.n 0) (sa.c 0)) (.slice (sa.a 1) (sa.n 1) (sa.c 1)) (.slice (sa.a 2) (sa.n 2) (sa.c 2))) r5s (.int .u64 (F : Nat)) (.slice (sb.a 0) (sb.n 0) (sb.c 0)) (.slice (sb.a 1) (sb.n 1) (sb.c 1)) (.slice (sb.a 2) (sb.n 2) (sb.c 2))) (LO.setT (LO.setT O3.out r4 (.int .u64 (E : Nat)) (.slice (sa.a 0) (sa.n 0) (sa.c 0)) (.slice (sa.a 1) (sa.n 1) (sa.c 1)) (.slice (sa.a 2) (sa.n 2) (sa.c 2))) r5s (.int .u64 (F : Nat)) (.slice (sb.a 0) (sb.n 0) (sb.c 0)) (.slice (sb.a 1) (sb.n 1) (sb.c 1)) (.slice (sb.a 2) (sb.n 2) (sb.c 2))) (below4 (below4 HB.out A4.out.1 (.int .u64 (E : Nat)) (.slice (sa.a 0) (sa.n 0) (sa.c 0)) (.slice (sa.a 1) (sa.n 1) (sa.c 1)) (.slice (sa.a 2) (sa.n 2) (sa.c 2))) A5.out.1 (.int .u64 (F : Nat)) (.slice (sb.a 0) (sb.n 0) (sb.c 0)) (.slice (sb.a 1) (sb.n 1) (sb.c 1)) (.slice (sb.a 2) (sb.n 2) (sb.c 2)))
      · refine step_value_g (by rfl) (.pointer (some ⟨V2.heap.size, 0, none⟩)) (w' := V2.alloc (.cells #[.int .u64 0, .slice none 0 0, .slice none 0 0, .slice none 0 0] 26)) (by go_simp) ?_
        have hC : Below V2.heap.size V2 (V2.alloc (.cells #[.int .u64 0, .slice none 0 0, .slice none 0 0, .slice none 0 0] 26)) := Rows8.newB
        have A4' : Hid (W0.heap.size ≤ V2.heap.size ∧ Rows8 (V2.alloc (.cells #[.int .u64 0, .slice none 0 0, .slice none 0 0, .slice none 0 0] 26)) V2.heap.size 26 #[.int .u64 0, .slice none 0 0, .slice none 0 0, .slice none 0 0]) := Lib.hid ⟨HB.out.size, Rows8.new _ _ _⟩
        have hne : Hid (b5 ≠ V2.heap.size) := Lib.hid (Nat.ne_of_lt A5.out.2.lt)
        have HI := Lib.hid (HI.out.below hC)
        have HQ := Lib.hid (HQ.out.below hC)
        have HB := Lib.hid (HB.out.trans (hC.mono HB.out.size))
        have O1 := Lib.hid (O1.out.below hC)
        have A5 := Lib.hid (And.intro A5.out.1 (A5.out.2.below hC A5.out.2.lt))
        have A4 := A4'
        have hS0 : Rows8 (V2.alloc (.cells #[.int .u64 0, .slice none 0 0, .slice none 0 0, .slice none 0 0] 26)) b1 26 #[.int .u64 (E : Nat), .slice (s.a 0) (s.n 0) (s.c 0), .slice (s.a 1) (s.n 1) (s.c 1), .slice (s.a 2) (s.n 2) (s.c 2)] ∧ Rows8 (V2.alloc (.cells #[.int .u64 0, .slice none 0 0, .slice none 0 0, .slice none 0 0] 26)) (b1 + 1) 26 #[.int .u64 (F : Nat), .slice (u.a 0) (u.n 0) (u.c 0), .slice (u.a 1) (u.n 1) (u.c 1), .slice (u.a 2) (u.n 2) (u.c 2)] := ⟨hS0.1.alloc _, hS0.2.alloc _⟩
        clear hC A4'
        generalize V2.alloc (.cells #[.int .u64 0, .slice none 0 0, .slice none 0 0, .slice none 0 0] 26) = V3 at *
        generalize V2.heap.size = b4 at *
        refine hK.out _ _ (fun _ => hS0) ?_
        clear hK K
        try simp only [Act.put, List.setIfInBounds_toArray, List.set_cons_zero, List.set_cons_succ]
        refine wpAnyL_one (i := 3) (o := { dst := some 28, op := Go.Op.call { callee := Go.Callee.value (Go.Operand.func 8), args := #[Go.Operand.tmp 27], argTypes := #[26] }, type := 26, pos := "law.go:50", after := #[{ on := 2, ground := Go.Ground.data }, { on := 1, ground := Go.Ground.chain }], guard := none }) (by kernel_rfl) rfl (fun K hK => ?_)
        refine step_call_g (by rfl) 8 _ _ rfl (fun _ _ => by kernel_rfl) #[.agg #[.int .u64 (F : Nat), .slice (u.a 0) (u.n 0) (u.c 0), .slice (u.a 1) (u.n 1) (u.c 1), .slice (u.a 2) (u.n 2) (u.c 2)]] (by simp [go_sem]) _ (Tryd.own_any F u q V3 HQ.out) ?_
        rintro e V4 ⟨sb, rfl, hO, hC⟩
        have O3' := Lib.hid (hO.mono (Nat.le_trans hN.out HB.out.size))
        have HI := Lib.hid (HI.out.below hC)
        have HQ := Lib.hid (HQ.out.below hC)
        have HB := Lib.hid (HB.out.trans (hC.mono HB.out.size))
        have O1 := Lib.hid (O1.out.below hC)
        have A4 := Lib.hid (And.intro A4.out.1 (A4.out.2.below hC A4.out.2.lt))
        have A5 := Lib.hid (And.intro A5.out.1 (A5.out.2.below hC A5.out.2.lt))
        have O3 := O3'
        have hS0 : Rows8 V4 b1 26 #[.int .u64 (E : Nat), .slice (s.a 0) (s.n 0) (s.c 0), .slice (s.a 1) (s.n 1) (s.c 1), .slice (s.a 2) (s.n 2) (s.c 2)] ∧ Rows8 V4 (b1 + 1) 26 #[.int .u64 (F : Nat), .slice (u.a 0) (u.n 0) (u.c 0), .slice (u.a 1) (u.n 1) (u.c 1), .slice (u.a 2) (u.n 2) (u.c 2)] := ⟨hS0.1.below hC hS0.1.lt, hS0.2.below hC hS0.2.lt⟩
        clear hO hC O3'
        refine ⟨_, rfl, ?_⟩
        refine hK.out _ _ (fun _ => hS0) ?_
        clear hK K
        try simp only [Act.put, List.setIfInBounds_toArray, List.set_cons_zero, List.set_cons_succ]
        have h45 := (Ne.symm hne.out)
        have r4 := A4.out.2
        have r5 := A5.out.2
        refine wpAnyL_one (i := 6) (o := { dst := none, op := Go.Op.store 26 (Go.Operand.tmp 7) (Go.Operand.tmp 26), type := 0, pos := "law.go:50", after := #[{ on := 4, ground := Go.Ground.data }, { on := 1, ground := Go.Ground.data }, { on := 3, ground := Go.Ground.chain }, { on := 0, ground := Go.Ground.phase }, { on := 1, ground := Go.Ground.phase }, { on := 2, ground := Go.Ground.textOnly Go.Departure.lateStores }, { on := 3, ground := Go.Ground.textOnly Go.Departure.lateStoresUnsure }, { on := 4, ground := Go.Ground.phase }, { on := 5, ground := Go.Ground.phase }], guard := none }) (by kernel_rfl) rfl (fun K hK => ?_)
        have ck0 : V4.cell? ⟨b4, 0, none⟩ = some (.int .u64 0) := r4.cell 0
        have fk0 := r4.frozen 0
        have ck1 : V4.cell? ⟨b4, 1, none⟩ = some (.slice none 0 0) := r4.cell 1
        have fk1 := r4.frozen 1
        have ck2 : V4.cell? ⟨b4, 2, none⟩ = some (.slice none 0 0) := r4.cell 2
        have fk2 := r4.frozen 2
        have ck3 : V4.cell? ⟨b4, 3, none⟩ = some (.slice none 0 0) := r4.cell 3
        have fk3 := r4.frozen 3
        have lk := r4.lt
        refine step_skip_g (by rfl) (w' := ((((V4.setCell ⟨b4, 0, none⟩ (.int .u64 (E : Nat))).setCell ⟨b4, 1, none⟩ (.slice (sa.a 0) (sa.n 0) (sa.c 0))).setCell ⟨b4, 2, none⟩ (.slice (sa.a 1) (sa.n 1) (sa.c 1))).setCell ⟨b4, 3, none⟩ (.slice (sa.a 2) (sa.n 2) (sa.c 2)))) (by go_simp) ?_
        have r4s := rows4 r4 (.int .u64 (E : Nat)) (.slice (sa.a 0) (sa.n 0) (sa.c 0)) (.slice (sa.a 1) (sa.n 1) (sa.c 1)) (.slice (sa.a 2) (sa.n 2) (sa.c 2))
        have r5s := r5.oth4 h45 (.int .u64 (E : Nat)) (.slice (sa.a 0) (sa.n 0) (sa.c 0)) (.slice (sa.a 1) (sa.n 1) (sa.c 1)) (.slice (sa.a 2) (sa.n 2) (sa.c 2))
        clear ck0 ck1 ck2 ck3 fk0 fk1 fk2 fk3 lk
        refine hK.out _ _ (fun h => absurd h (by decide)) ?_
        clear hK K
        try simp only [Act.put, List.setIfInBounds_toArray, List.set_cons_zero, List.set_cons_succ]
        refine wpAnyL_one (i := 7) (o := { dst := none, op := Go.Op.store 26 (Go.Operand.tmp 8) (Go.Operand.tmp 28), type := 0, pos := "law.go:50", after := #[{ on := 5, ground := Go.Ground.data }, { on := 3, ground := Go.Ground.data }, { on := 6, ground := Go.Ground.chain }, { on := 0, ground := Go.Ground.phase }, { on := 1, ground := Go.Ground.phase }, { on := 2, ground := Go.Ground.phase }, { on := 3, ground := Go.Ground.phase }, { on := 4, ground := Go.Ground.phase }, { on := 5, ground := Go.Ground.phase }, { on := 6, ground := Go.Ground.phase }], guard := none }) (by kernel_rfl) rfl (fun K hK => ?_)
        have ck0 : ((((V4.setCell ⟨b4, 0, none⟩ (.int .u64 (E : Nat))).setCell ⟨b4, 1, none⟩ (.slice (sa.a 0) (sa.n 0) (sa.c 0))).setCell ⟨b4, 2, none⟩ (.slice (sa.a 1) (sa.n 1) (sa.c 1))).setCell ⟨b4, 3, none⟩ (.slice (sa.a 2) (sa.n 2) (sa.c 2))).cell? ⟨b5, 0, none⟩ = some (.int .u64 0) := r5s.cell 0
        have fk0 := r5s.frozen 0
        have ck1 : ((((V4.setCell ⟨b4, 0, none⟩ (.int .u64 (E : Nat))).setCell ⟨b4, 1, none⟩ (.slice (sa.a 0) (sa.n 0) (sa.c 0))).setCell ⟨b4, 2, none⟩ (.slice (sa.a 1) (sa.n 1) (sa.c 1))).setCell ⟨b4, 3, none⟩ (.slice (sa.a 2) (sa.n 2) (sa.c 2))).cell? ⟨b5, 1, none⟩ = some (.slice none 0 0) := r5s.cell 1
        have fk1 := r5s.frozen 1
        have ck2 : ((((V4.setCell ⟨b4, 0, none⟩ (.int .u64 (E : Nat))).setCell ⟨b4, 1, none⟩ (.slice (sa.a 0) (sa.n 0) (sa.c 0))).setCell ⟨b4, 2, none⟩ (.slice (sa.a 1) (sa.n 1) (sa.c 1))).setCell ⟨b4, 3, none⟩ (.slice (sa.a 2) (sa.n 2) (sa.c 2))).cell? ⟨b5, 2, none⟩ = some (.slice none 0 0) := r5s.cell 2
        have fk2 := r5s.frozen 2
        have ck3 : ((((V4.setCell ⟨b4, 0, none⟩ (.int .u64 (E : Nat))).setCell ⟨b4, 1, none⟩ (.slice (sa.a 0) (sa.n 0) (sa.c 0))).setCell ⟨b4, 2, none⟩ (.slice (sa.a 1) (sa.n 1) (sa.c 1))).setCell ⟨b4, 3, none⟩ (.slice (sa.a 2) (sa.n 2) (sa.c 2))).cell? ⟨b5, 3, none⟩ = some (.slice none 0 0) := r5s.cell 3
        have fk3 := r5s.frozen 3
        have lk := r5s.lt
        refine step_skip_g (by rfl) (w' := ((((((((V4.setCell ⟨b4, 0, none⟩ (.int .u64 (E : Nat))).setCell ⟨b4, 1, none⟩ (.slice (sa.a 0) (sa.n 0) (sa.c 0))).setCell ⟨b4, 2, none⟩ (.slice (sa.a 1) (sa.n 1) (sa.c 1))).setCell ⟨b4, 3, none⟩ (.slice (sa.a 2) (sa.n 2) (sa.c 2))).setCell ⟨b5, 0, none⟩ (.int .u64 (F : Nat))).setCell ⟨b5, 1, none⟩ (.slice (sb.a 0) (sb.n 0) (sb.c 0))).setCell ⟨b5, 2, none⟩ (.slice (sb.a 1) (sb.n 1) (sb.c 1))).setCell ⟨b5, 3, none⟩ (.slice (sb.a 2) (sb.n 2) (sb.c 2)))) (by go_simp) ?_
        refine hK.out _ _ (fun h => absurd h (by decide)) ?_
        clear hK K
        try simp only [Act.put, List.setIfInBounds_toArray, List.set_cons_zero, List.set_cons_succ]
        refine wpAnyL_end (by kernel_rfl) ?_
        exact HK.out b4 b5 sa sb _ _ _ _ _ A4.out.1 A5.out.1 h45 (r4s.oth4 (Ne.symm h45) (.int .u64 (F : Nat)) (.slice (sb.a 0) (sb.n 0) (sb.c 0)) (.slice (sb.a 1) (sb.n 1) (sb.c 1)) (.slice (sb.a 2) (sb.n 2) (sb.c 2))) (rows4 r5s (.int .u64 (F : Nat)) (.slice (sb.a 0) (sb.n 0) (sb.c 0)) (.slice (sb.a 1) (sb.n 1) (sb.c 1)) (.slice (sb.a 2) (sb.n 2) (sb.c 2))) (LO.setT (LO.setT O1.out r4 (.int .u64 (E : Nat)) (.slice (sa.a 0) (sa.n 0) (sa.c 0)) (.slice (sa.a 1) (sa.n 1) (sa.c 1)) (.slice (sa.a 2) (sa.n 2) (sa.c 2))) r5s (.int .u64 (F : Nat)) (.slice (sb.a 0) (sb.n 0) (sb.c 0)) (.slice (sb.a 1) (sb.n 1) (sb.c 1)) (.slice (sb.a 2) (sb.n 2) (sb.c 2))) (LO.setT (LO.setT O3.out r4 (.int .u64 (E : Nat)) (.slice (sa.a 0) (sa.n 0) (sa.c 0)) (.slice (sa.a 1) (sa.n 1) (sa.c 1)) (.slice (sa.a 2) (sa.n 2) (sa.c 2))) r5s (.int .u64 (F : Nat)) (.slice (sb.a 0) (sb.n 0) (sb.c 0)) (.slice (sb.a 1) (sb.n 1) (sb.c 1)) (.slice (sb.a 2) (sb.n 2) (sb.c 2))) (below4 (below4 HB.out A4.out.1 (.int .u64 (E : Nat)) (.slice (sa.a 0) (sa.n 0) (sa.c 0)) (.slice (sa.a 1) (sa.n 1) (sa.c 1)) (.slice (sa.a 2) (sa.n 2) (sa.c 2))) A5.out.1 (.int .u64 (F : Nat)) (.slice (sb.a 0) (sb.n 0) (sb.c 0)) (.slice (sb.a 1) (sb.n 1) (sb.c 1)) (.slice (sb.a 2) (sb.n 2) (sb.c 2)))
  · refine step_value_g (by rfl) (.pointer (some ⟨V0.heap.size, 0, none⟩)) (w' := V0.alloc (.cells #[.int .u64 0, .slice none 0 0, .slice none 0 0, .slice none 0 0] 26)) (by go_simp) ?_
    have hC : Below V0.heap.size V0 (V0.alloc (.cells #[.int .u64 0, .slice none 0 0, .slice none 0 0, .slice none 0 0] 26)) := Rows8.newB
    have A4' : Hid (W0.heap.size ≤ V0.heap.size ∧ Rows8 (V0.alloc (.cells #[.int .u64 0, .slice none 0 0, .slice none 0 0, .slice none 0 0] 26)) V0.heap.size 26 #[.int .u64 0, .slice none 0 0, .slice none 0 0, .slice none 0 0]) := Lib.hid ⟨HB.out.size, Rows8.new _ _ _⟩
    have HI := Lib.hid (HI.out.below hC)
    have HQ := Lib.hid (HQ.out.below hC)
    have HB := Lib.hid (HB.out.trans (hC.mono HB.out.size))
    have A4 := A4'
    have hS0 : Rows8 (V0.alloc (.cells #[.int .u64 0, .slice none 0 0, .slice none 0 0, .slice none 0 0] 26)) b1 26 #[.int .u64 (E : Nat), .slice (s.a 0) (s.n 0) (s.c 0), .slice (s.a 1) (s.n 1) (s.c 1), .slice (s.a 2) (s.n 2) (s.c 2)] ∧ Rows8 (V0.alloc (.cells #[.int .u64 0, .slice none 0 0, .slice none 0 0, .slice none 0 0] 26)) (b1 + 1) 26 #[.int .u64 (F : Nat), .slice (u.a 0) (u.n 0) (u.c 0), .slice (u.a 1) (u.n 1) (u.c 1), .slice (u.a 2) (u.n 2) (u.c 2)] := ⟨hS0.1.alloc _, hS0.2.alloc _⟩
    clear hC A4'
    generalize V0.alloc (.cells #[.int .u64 0, .slice none 0 0, .slice none 0 0, .slice none 0 0] 26) = V1 at *
    generalize V0.heap.size = b4 at *
    refine hK.out _ _ (fun _ => hS0) ?_
    clear hK K
    try simp only [Act.put, List.setIfInBounds_toArray, List.set_cons_zero, List.set_cons_succ]
    refine wpAnyL_two (i := 1) (j := 5) (oi := { dst := some 26, op := Go.Op.call { callee := Go.Callee.value (Go.Operand.func 8), args := #[Go.Operand.tmp 25], argTypes := #[26] }, type := 26, pos := "law.go:50", after := #[{ on := 0, ground := Go.Ground.data }], guard := none }) (oj := { dst := some 8, op := Go.Op.alloc 26, type := 0, pos := "law.go:50", after := #[], guard := none }) (by kernel_rfl) rfl rfl (fun K hK => ?_) (fun K hK => ?_)
    · refine step_call_g (by rfl) 8 _ _ rfl (fun _ _ => by kernel_rfl) #[.agg #[.int .u64 (E : Nat), .slice (s.a 0) (s.n 0) (s.c 0), .slice (s.a 1) (s.n 1) (s.c 1), .slice (s.a 2) (s.n 2) (s.c 2)]] (by simp [go_sem]) _ (Tryd.own_any E s r V1 HI.out) ?_
      rintro e V2 ⟨sa, rfl, hO, hC⟩
      have O1' := Lib.hid (hO.mono (Nat.le_trans hN.out HB.out.size))
      have HI := Lib.hid (HI.out.below hC)
      have HQ := Lib.hid (HQ.out.below hC)
      have HB := Lib.hid (HB.out.trans (hC.mono HB.out.size))
      have A4 := Lib.hid (And.intro A4.out.1 (A4.out.2.below hC A4.out.2.lt))
      have O1 := O1'
      have hS0 : Rows8 V2 b1 26 #[.int .u64 (E : Nat), .slice (s.a 0) (s.n 0) (s.c 0), .slice (s.a 1) (s.n 1) (s.c 1), .slice (s.a 2) (s.n 2) (s.c 2)] ∧ Rows8 V2 (b1 + 1) 26 #[.int .u64 (F : Nat), .slice (u.a 0) (u.n 0) (u.c 0), .slice (u.a 1) (u.n 1) (u.c 1), .slice (u.a 2) (u.n 2) (u.c 2)] := ⟨hS0.1.below hC hS0.1.lt, hS0.2.below hC hS0.2.lt⟩
      clear hO hC O1'
      refine ⟨_, rfl, ?_⟩
      refine hK.out _ _ (fun _ => hS0) ?_
      clear hK K
      try simp only [Act.put, List.setIfInBounds_toArray, List.set_cons_zero, List.set_cons_succ]
      refine wpAnyL_two (i := 3) (j := 5) (oi := { dst := some 28, op := Go.Op.call { callee := Go.Callee.value (Go.Operand.func 8), args := #[Go.Operand.tmp 27], argTypes := #[26] }, type := 26, pos := "law.go:50", after := #[{ on := 2, ground := Go.Ground.data }, { on := 1, ground := Go.Ground.chain }], guard := none }) (oj := { dst := some 8, op := Go.Op.alloc 26, type := 0, pos := "law.go:50", after := #[], guard := none }) (by kernel_rfl) rfl rfl (fun K hK => ?_) (fun K hK => ?_)
      · refine step_call_g (by rfl) 8 _ _ rfl (fun _ _ => by kernel_rfl) #[.agg #[.int .u64 (F : Nat), .slice (u.a 0) (u.n 0) (u.c 0), .slice (u.a 1) (u.n 1) (u.c 1), .slice (u.a 2) (u.n 2) (u.c 2)]] (by simp [go_sem]) _ (Tryd.own_any F u q V2 HQ.out) ?_
        rintro e V3 ⟨sb, rfl, hO, hC⟩
        have O3' := Lib.hid (hO.mono (Nat.le_trans hN.out HB.out.size))
        have HI := Lib.hid (HI.out.below hC)
        have HQ := Lib.hid (HQ.out.below hC)
        have HB := Lib.hid (HB.out.trans (hC.mono HB.out.size))
        have O1 := Lib.hid (O1.out.below hC)
        have A4 := Lib.hid (And.intro A4.out.1 (A4.out.2.below hC A4.out.2.lt))
        have O3 := O3'
        have hS0 : Rows8 V3 b1 26 #[.int .u64 (E : Nat), .slice (s.a 0) (s.n 0) (s.c 0), .slice (s.a 1) (s.n 1) (s.c 1), .slice (s.a 2) (s.n 2) (s.c 2)] ∧ Rows8 V3 (b1 + 1) 26 #[.int .u64 (F : Nat), .slice (u.a 0) (u.n 0) (u.c 0), .slice (u.a 1) (u.n 1) (u.c 1), .slice (u.a 2) (u.n 2) (u.c 2)] := ⟨hS0.1.below hC hS0.1.lt, hS0.2.below hC hS0.2.lt⟩
        clear hO hC O3'
        refine ⟨_, rfl, ?_⟩
        refine hK.out _ _ (fun _ => hS0) ?_
        clear hK K
        try simp only [Act.put, List.setIfInBounds_toArray, List.set_cons_zero, List.set_cons_succ]
        refine wpAnyL_one (i := 5) (o := { dst := some 8, op := Go.Op.alloc 26, type := 0, pos := "law.go:50", after := #[], guard := none }) (by kernel_rfl) rfl (fun K hK => ?_)
        refine step_value_g (by rfl) (.pointer (some ⟨V3.heap.size, 0, none⟩)) (w' := V3.alloc (.cells #[.int .u64 0, .slice none 0 0, .slice none 0 0, .slice none 0 0] 26)) (by go_simp) ?_
        have hC : Below V3.heap.size V3 (V3.alloc (.cells #[.int .u64 0, .slice none 0 0, .slice none 0 0, .slice none 0 0] 26)) := Rows8.newB
        have A5' : Hid (W0.heap.size ≤ V3.heap.size ∧ Rows8 (V3.alloc (.cells #[.int .u64 0, .slice none 0 0, .slice none 0 0, .slice none 0 0] 26)) V3.heap.size 26 #[.int .u64 0, .slice none 0 0, .slice none 0 0, .slice none 0 0]) := Lib.hid ⟨HB.out.size, Rows8.new _ _ _⟩
        have hne : Hid (b4 ≠ V3.heap.size) := Lib.hid (Nat.ne_of_lt A4.out.2.lt)
        have HI := Lib.hid (HI.out.below hC)
        have HQ := Lib.hid (HQ.out.below hC)
        have HB := Lib.hid (HB.out.trans (hC.mono HB.out.size))
        have O1 := Lib.hid (O1.out.below hC)
        have O3 := Lib.hid (O3.out.below hC)
        have A4 := Lib.hid (And.intro A4.out.1 (A4.out.2.below hC A4.out.2.lt))
        have A5 := A5'
        have hS0 : Rows8 (V3.alloc (.cells #[.int .u64 0, .slice none 0 0, .slice none 0 0, .slice none 0 0] 26)) b1 26 #[.int .u64 (E : Nat), .slice (s.a 0) (s.n 0) (s.c 0), .slice (s.a 1) (s.n 1) (s.c 1), .slice (s.a 2) (s.n 2) (s.c 2)] ∧ Rows8 (V3.alloc (.cells #[.int .u64 0, .slice none 0 0, .slice none 0 0, .slice none 0 0] 26)) (b1 + 1) 26 #[.int .u64 (F : Nat), .slice (u.a 0) (u.n 0) (u.c 0), .slice (u.a 1) (u.n 1) (u.c 1), .slice (u.a 2) (u.n 2) (u.c 2)] := ⟨hS0.1.alloc _, hS0.2.alloc _⟩
        clear hC A5'
        generalize V3.alloc (.cells #[.int .u64 0, .slice none 0 0, .slice none 0 0, .slice none 0 0] 26) = V4 at *
        generalize V3.heap.size = b5 at *
        refine hK.out _ _ (fun _ => hS0) ?_
        clear hK K
        try simp only [Act.put, List.setIfInBounds_toArray, List.set_cons_zero, List.set_cons_succ]
        have h45 := hne.out
        have r4 := A4.out.2
        have r5 := A5.out.2
        refine wpAnyL_one (i := 6) (o := { dst := none, op := Go.Op.store 26 (Go.Operand.tmp 7) (Go.Operand.tmp 26), type := 0, pos := "law.go:50", after := #[{ on := 4, ground := Go.Ground.data }, { on := 1, ground := Go.Ground.data }, { on := 3, ground := Go.Ground.chain }, { on := 0, ground := Go.Ground.phase }, { on := 1, ground := Go.Ground.phase }, { on := 2, ground := Go.Ground.textOnly Go.Departure.lateStores }, { on := 3, ground := Go.Ground.textOnly Go.Departure.lateStoresUnsure }, { on := 4, ground := Go.Ground.phase }, { on := 5, ground := Go.Ground.phase }], guard := none }) (by kernel_rfl) rfl (fun K hK => ?_)
        have ck0 : V4.cell? ⟨b4, 0, none⟩ = some (.int .u64 0) := r4.cell 0
        have fk0 := r4.frozen 0
        have ck1 : V4.cell? ⟨b4, 1, none⟩ = some (.slice none 0 0) := r4.cell 1
        have fk1 := r4.frozen 1
        have ck2 : V4.cell? ⟨b4, 2, none⟩ = some (.slice none 0 0) := r4.cell 2
        have fk2 := r4.frozen 2
        have ck3 : V4.cell? ⟨b4, 3, none⟩ = some (.slice none 0 0) := r4.cell 3
        have fk3 := r4.frozen 3
        have lk := r4.lt
        refine step_skip_g (by rfl) (w' := ((((V4.setCell ⟨b4, 0, none⟩ (.int .u64 (E : Nat))).setCell ⟨b4, 1, none⟩ (.slice (sa.a 0) (sa.n 0) (sa.c 0))).setCell ⟨b4, 2, none⟩ (.slice (sa.a 1) (sa.n 1) (sa.c 1))).setCell ⟨b4, 3, none⟩ (.slice (sa.a 2) (sa.n 2) (sa.c 2)))) (by go_simp) ?_
        have r4s := rows4 r4 (.int .u64 (E : Nat)) (.slice (sa.a 0) (sa.n 0) (sa.c 0)) (.slice (sa.a 1) (sa.n 1) (sa.c 1)) (.slice (sa.a 2) (sa.n 2) (sa.c 2))
        have r5s := r5.oth4 h45 (.int .u64 (E : Nat)) (.slice (sa.a 0) (sa.n 0) (sa.c 0)) (.slice (sa.a 1) (sa.n 1) (sa.c 1)) (.slice (sa.a 2) (sa.n 2) (sa.c 2))
        clear ck0 ck1 ck2 ck3 fk0 fk1 fk2 fk3 lk
        refine hK.out _ _ (fun h => absurd h (by decide)) ?_
        clear hK K
        try simp only [Act.put, List.setIfInBounds_toArray, List.set_cons_zero, List.set_cons_succ]
        refine wpAnyL_one (i := 7) (o := { dst := none, op := Go.Op.store 26 (Go.Operand.tmp 8) (Go.Operand.tmp 28), type := 0, pos := "law.go:50", after := #[{ on := 5, ground := Go.Ground.data }, { on := 3, ground := Go.Ground.data }, { on := 6, ground := Go.Ground.chain }, { on := 0, ground := Go.Ground.phase }, { on := 1, ground := Go.Ground.phase }, { on := 2, ground := Go.Ground.phase }, { on := 3, ground := Go.Ground.phase }, { on := 4, ground := Go.Ground.phase }, { on := 5, ground := Go.Ground.phase }, { on := 6, ground := Go.Ground.phase }], guard := none }) (by kernel_rfl) rfl (fun K hK => ?_)
        have ck0 : ((((V4.setCell ⟨b4, 0, none⟩ (.int .u64 (E : Nat))).setCell ⟨b4, 1, none⟩ (.slice (sa.a 0) (sa.n 0) (sa.c 0))).setCell ⟨b4, 2, none⟩ (.slice (sa.a 1) (sa.n 1) (sa.c 1))).setCell ⟨b4, 3, none⟩ (.slice (sa.a 2) (sa.n 2) (sa.c 2))).cell? ⟨b5, 0, none⟩ = some (.int .u64 0) := r5s.cell 0
        have fk0 := r5s.frozen 0
        have ck1 : ((((V4.setCell ⟨b4, 0, none⟩ (.int .u64 (E : Nat))).setCell ⟨b4, 1, none⟩ (.slice (sa.a 0) (sa.n 0) (sa.c 0))).setCell ⟨b4, 2, none⟩ (.slice (sa.a 1) (sa.n 1) (sa.c 1))).setCell ⟨b4, 3, none⟩ (.slice (sa.a 2) (sa.n 2) (sa.c 2))).cell? ⟨b5, 1, none⟩ = some (.slice none 0 0) := r5s.cell 1
        have fk1 := r5s.frozen 1
        have ck2 : ((((V4.setCell ⟨b4, 0, none⟩ (.int .u64 (E : Nat))).setCell ⟨b4, 1, none⟩ (.slice (sa.a 0) (sa.n 0) (sa.c 0))).setCell ⟨b4, 2, none⟩ (.slice (sa.a 1) (sa.n 1) (sa.c 1))).setCell ⟨b4, 3, none⟩ (.slice (sa.a 2) (sa.n 2) (sa.c 2))).cell? ⟨b5, 2, none⟩ = some (.slice none 0 0) := r5s.cell 2
        have fk2 := r5s.frozen 2
        have ck3 : ((((V4.setCell ⟨b4, 0, none⟩ (.int .u64 (E : Nat))).setCell ⟨b4, 1, none⟩ (.slice (sa.a 0) (sa.n 0) (sa.c 0))).setCell ⟨b4, 2, none⟩ (.slice (sa.a 1) (sa.n 1) (sa.c 1))).setCell ⟨b4, 3, none⟩ (.slice (sa.a 2) (sa.n 2) (sa.c 2))).cell? ⟨b5, 3, none⟩ = some (.slice none 0 0) := r5s.cell 3
        have fk3 := r5s.frozen 3
        have lk := r5s.lt
        refine step_skip_g (by rfl) (w' := ((((((((V4.setCell ⟨b4, 0, none⟩ (.int .u64 (E : Nat))).setCell ⟨b4, 1, none⟩ (.slice (sa.a 0) (sa.n 0) (sa.c 0))).setCell ⟨b4, 2, none⟩ (.slice (sa.a 1) (sa.n 1) (sa.c 1))).setCell ⟨b4, 3, none⟩ (.slice (sa.a 2) (sa.n 2) (sa.c 2))).setCell ⟨b5, 0, none⟩ (.int .u64 (F : Nat))).setCell ⟨b5, 1, none⟩ (.slice (sb.a 0) (sb.n 0) (sb.c 0))).setCell ⟨b5, 2, none⟩ (.slice (sb.a 1) (sb.n 1) (sb.c 1))).setCell ⟨b5, 3, none⟩ (.slice (sb.a 2) (sb.n 2) (sb.c 2)))) (by go_simp) ?_
        refine hK.out _ _ (fun h => absurd h (by decide)) ?_
        clear hK K
        try simp only [Act.put, List.setIfInBounds_toArray, List.set_cons_zero, List.set_cons_succ]
        refine wpAnyL_end (by kernel_rfl) ?_
        exact HK.out b4 b5 sa sb _ _ _ _ _ A4.out.1 A5.out.1 h45 (r4s.oth4 (Ne.symm h45) (.int .u64 (F : Nat)) (.slice (sb.a 0) (sb.n 0) (sb.c 0)) (.slice (sb.a 1) (sb.n 1) (sb.c 1)) (.slice (sb.a 2) (sb.n 2) (sb.c 2))) (rows4 r5s (.int .u64 (F : Nat)) (.slice (sb.a 0) (sb.n 0) (sb.c 0)) (.slice (sb.a 1) (sb.n 1) (sb.c 1)) (.slice (sb.a 2) (sb.n 2) (sb.c 2))) (LO.setT (LO.setT O1.out r4 (.int .u64 (E : Nat)) (.slice (sa.a 0) (sa.n 0) (sa.c 0)) (.slice (sa.a 1) (sa.n 1) (sa.c 1)) (.slice (sa.a 2) (sa.n 2) (sa.c 2))) r5s (.int .u64 (F : Nat)) (.slice (sb.a 0) (sb.n 0) (sb.c 0)) (.slice (sb.a 1) (sb.n 1) (sb.c 1)) (.slice (sb.a 2) (sb.n 2) (sb.c 2))) (LO.setT (LO.setT O3.out r4 (.int .u64 (E : Nat)) (.slice (sa.a 0) (sa.n 0) (sa.c 0)) (.slice (sa.a 1) (sa.n 1) (sa.c 1)) (.slice (sa.a 2) (sa.n 2) (sa.c 2))) r5s (.int .u64 (F : Nat)) (.slice (sb.a 0) (sb.n 0) (sb.c 0)) (.slice (sb.a 1) (sb.n 1) (sb.c 1)) (.slice (sb.a 2) (sb.n 2) (sb.c 2))) (below4 (below4 HB.out A4.out.1 (.int .u64 (E : Nat)) (.slice (sa.a 0) (sa.n 0) (sa.c 0)) (.slice (sa.a 1) (sa.n 1) (sa.c 1)) (.slice (sa.a 2) (sa.n 2) (sa.c 2))) A5.out.1 (.int .u64 (F : Nat)) (.slice (sb.a 0) (sb.n 0) (sb.c 0)) (.slice (sb.a 1) (sb.n 1) (sb.c 1)) (.slice (sb.a 2) (sb.n 2) (sb.c 2)))
      · refine step_value_g (by rfl) (.pointer (some ⟨V2.heap.size, 0, none⟩)) (w' := V2.alloc (.cells #[.int .u64 0, .slice none 0 0, .slice none 0 0, .slice none 0 0] 26)) (by go_simp) ?_
        have hC : Below V2.heap.size V2 (V2.alloc (.cells #[.int .u64 0, .slice none 0 0, .slice none 0 0, .slice none 0 0] 26)) := Rows8.newB
        have A5' : Hid (W0.heap.size ≤ V2.heap.size ∧ Rows8 (V2.alloc (.cells #[.int .u64 0, .slice none 0 0, .slice none 0 0, .slice none 0 0] 26)) V2.heap.size 26 #[.int .u64 0, .slice none 0 0, .slice none 0 0, .slice none 0 0]) := Lib.hid ⟨HB.out.size, Rows8.new _ _ _⟩
        have hne : Hid (b4 ≠ V2.heap.size) := Lib.hid (Nat.ne_of_lt A4.out.2.lt)
        have HI := Lib.hid (HI.out.below hC)
        have HQ := Lib.hid (HQ.out.below hC)
        have HB := Lib.hid (HB.out.trans (hC.mono HB.out.size))
        have O1 := Lib.hid (O1.out.below hC)
        have A4 := Lib.hid (And.intro A4.out.1 (A4.out.2.below hC A4.out.2.lt))
        have A5 := A5'
        have hS0 : Rows8 (V2.alloc (.cells #[.int .u64 0, .slice none 0 0, .slice none 0 0, .slice none 0 0] 26)) b1 26 #[.int .u64 (E : Nat), .slice (s.a 0) (s.n 0) (s.c 0), .slice (s.a 1) (s.n 1) (s.c 1), .slice (s.a 2) (s.n 2) (s.c 2)] ∧ Rows8 (V2.alloc (.cells #[.int .u64 0, .slice none 0 0, .slice none 0 0, .slice none 0 0] 26)) (b1 + 1) 26 #[.int .u64 (F : Nat), .slice (u.a 0) (u.n 0) (u.c 0), .slice (u.a 1) (u.n 1) (u.c 1), .slice (u.a 2) (u.n 2) (u.c 2)] := ⟨hS0.1.alloc _, hS0.2.alloc _⟩
        clear hC A5'
        generalize V2.alloc (.cells #[.int .u64 0, .slice none 0 0, .slice none 0 0, .slice none 0 0] 26) = V3 at *
        generalize V2.heap.size = b5 at *
        refine hK.out _ _ (fun _ => hS0) ?_
        clear hK K
        try simp only [Act.put, List.setIfInBounds_toArray, List.set_cons_zero, List.set_cons_succ]
        refine wpAnyL_one (i := 3) (o := { dst := some 28, op := Go.Op.call { callee := Go.Callee.value (Go.Operand.func 8), args := #[Go.Operand.tmp 27], argTypes := #[26] }, type := 26, pos := "law.go:50", after := #[{ on := 2, ground := Go.Ground.data }, { on := 1, ground := Go.Ground.chain }], guard := none }) (by kernel_rfl) rfl (fun K hK => ?_)
        refine step_call_g (by rfl) 8 _ _ rfl (fun _ _ => by kernel_rfl) #[.agg #[.int .u64 (F : Nat), .slice (u.a 0) (u.n 0) (u.c 0), .slice (u.a 1) (u.n 1) (u.c 1), .slice (u.a 2) (u.n 2) (u.c 2)]] (by simp [go_sem]) _ (Tryd.own_any F u q V3 HQ.out) ?_
        rintro e V4 ⟨sb, rfl, hO, hC⟩
        have O3' := Lib.hid (hO.mono (Nat.le_trans hN.out HB.out.size))
        have HI := Lib.hid (HI.out.below hC)
        have HQ := Lib.hid (HQ.out.below hC)
        have HB := Lib.hid (HB.out.trans (hC.mono HB.out.size))
        have O1 := Lib.hid (O1.out.below hC)
        have A4 := Lib.hid (And.intro A4.out.1 (A4.out.2.below hC A4.out.2.lt))
        have A5 := Lib.hid (And.intro A5.out.1 (A5.out.2.below hC A5.out.2.lt))
        have O3 := O3'
        have hS0 : Rows8 V4 b1 26 #[.int .u64 (E : Nat), .slice (s.a 0) (s.n 0) (s.c 0), .slice (s.a 1) (s.n 1) (s.c 1), .slice (s.a 2) (s.n 2) (s.c 2)] ∧ Rows8 V4 (b1 + 1) 26 #[.int .u64 (F : Nat), .slice (u.a 0) (u.n 0) (u.c 0), .slice (u.a 1) (u.n 1) (u.c 1), .slice (u.a 2) (u.n 2) (u.c 2)] := ⟨hS0.1.below hC hS0.1.lt, hS0.2.below hC hS0.2.lt⟩
        clear hO hC O3'
        refine ⟨_, rfl, ?_⟩
        refine hK.out _ _ (fun _ => hS0) ?_
        clear hK K
        try simp only [Act.put, List.setIfInBounds_toArray, List.set_cons_zero, List.set_cons_succ]
        have h45 := hne.out
        have r4 := A4.out.2
        have r5 := A5.out.2
        refine wpAnyL_one (i := 6) (o := { dst := none, op := Go.Op.store 26 (Go.Operand.tmp 7) (Go.Operand.tmp 26), type := 0, pos := "law.go:50", after := #[{ on := 4, ground := Go.Ground.data }, { on := 1, ground := Go.Ground.data }, { on := 3, ground := Go.Ground.chain }, { on := 0, ground := Go.Ground.phase }, { on := 1, ground := Go.Ground.phase }, { on := 2, ground := Go.Ground.textOnly Go.Departure.lateStores }, { on := 3, ground := Go.Ground.textOnly Go.Departure.lateStoresUnsure }, { on := 4, ground := Go.Ground.phase }, { on := 5, ground := Go.Ground.phase }], guard := none }) (by kernel_rfl) rfl (fun K hK => ?_)
        have ck0 : V4.cell? ⟨b4, 0, none⟩ = some (.int .u64 0) := r4.cell 0
        have fk0 := r4.frozen 0
        have ck1 : V4.cell? ⟨b4, 1, none⟩ = some (.slice none 0 0) := r4.cell 1
        have fk1 := r4.frozen 1
        have ck2 : V4.cell? ⟨b4, 2, none⟩ = some (.slice none 0 0) := r4.cell 2
        have fk2 := r4.frozen 2
        have ck3 : V4.cell? ⟨b4, 3, none⟩ = some (.slice none 0 0) := r4.cell 3
        have fk3 := r4.frozen 3
        have lk := r4.lt
        refine step_skip_g (by rfl) (w' := ((((V4.setCell ⟨b4, 0, none⟩ (.int .u64 (E : Nat))).setCell ⟨b4, 1, none⟩ (.slice (sa.a 0) (sa.n 0) (sa.c 0))).setCell ⟨b4, 2, none⟩ (.slice (sa.a 1) (sa.n 1) (sa.c 1))).setCell ⟨b4, 3, none⟩ (.slice (sa.a 2) (sa.n 2) (sa.c 2)))) (by go_simp) ?_
        have r4s := rows4 r4 (.int .u64 (E : Nat)) (.slice (sa.a 0) (sa.n 0) (sa.c 0)) (.slice (sa.a 1) (sa.n 1) (sa.c 1)) (.slice (sa.a 2) (sa.n 2) (sa.c 2))
        have r5s := r5.oth4 h45 (.int .u64 (E : Nat)) (.slice (sa.a 0) (sa.n 0) (sa.c 0)) (.slice (sa.a 1) (sa.n 1) (sa.c 1)) (.slice (sa.a 2) (sa.n 2) (sa.c 2))
        clear ck0 ck1 ck2 ck3 fk0 fk1 fk2 fk3 lk
        refine hK.out _ _ (fun h => absurd h (by decide)) ?_
        clear hK K
        try simp only [Act.put, List.setIfInBounds_toArray, List.set_cons_zero, List.set_cons_succ]
        refine wpAnyL_one (i := 7) (o := { dst := none, op := Go.Op.store 26 (Go.Operand.tmp 8) (Go.Operand.tmp 28), type := 0, pos := "law.go:50", after := #[{ on := 5, ground := Go.Ground.data }, { on := 3, ground := Go.Ground.data }, { on := 6, ground := Go.Ground.chain }, { on := 0, ground := Go.Ground.phase }, { on := 1, ground := Go.Ground.phase }, { on := 2, ground := Go.Ground.phase }, { on := 3, ground := Go.Ground.phase }, { on := 4, ground := Go.Ground.phase }, { on := 5, ground := Go.Ground.phase }, { on := 6, ground := Go.Ground.phase }], guard := none }) (by kernel_rfl) rfl (fun K hK => ?_)
        have ck0 : ((((V4.setCell ⟨b4, 0, none⟩ (.int .u64 (E : Nat))).setCell ⟨b4, 1, none⟩ (.slice (sa.a 0) (sa.n 0) (sa.c 0))).setCell ⟨b4, 2, none⟩ (.slice (sa.a 1) (sa.n 1) (sa.c 1))).setCell ⟨b4, 3, none⟩ (.slice (sa.a 2) (sa.n 2) (sa.c 2))).cell? ⟨b5, 0, none⟩ = some (.int .u64 0) := r5s.cell 0
        have fk0 := r5s.frozen 0
        have ck1 : ((((V4.setCell ⟨b4, 0, none⟩ (.int .u64 (E : Nat))).setCell ⟨b4, 1, none⟩ (.slice (sa.a 0) (sa.n 0) (sa.c 0))).setCell ⟨b4, 2, none⟩ (.slice (sa.a 1) (sa.n 1) (sa.c 1))).setCell ⟨b4, 3, none⟩ (.slice (sa.a 2) (sa.n 2) (sa.c 2))).cell? ⟨b5, 1, none⟩ = some (.slice none 0 0) := r5s.cell 1
        have fk1 := r5s.frozen 1
        have ck2 : ((((V4.setCell ⟨b4, 0, none⟩ (.int .u64 (E : Nat))).setCell ⟨b4, 1, none⟩ (.slice (sa.a 0) (sa.n 0) (sa.c 0))).setCell ⟨b4, 2, none⟩ (.slice (sa.a 1) (sa.n 1) (sa.c 1))).setCell ⟨b4, 3, none⟩ (.slice (sa.a 2) (sa.n 2) (sa.c 2))).cell? ⟨b5, 2, none⟩ = some (.slice none 0 0) := r5s.cell 2
        have fk2 := r5s.frozen 2
        have ck3 : ((((V4.setCell ⟨b4, 0, none⟩ (.int .u64 (E : Nat))).setCell ⟨b4, 1, none⟩ (.slice (sa.a 0) (sa.n 0) (sa.c 0))).setCell ⟨b4, 2, none⟩ (.slice (sa.a 1) (sa.n 1) (sa.c 1))).setCell ⟨b4, 3, none⟩ (.slice (sa.a 2) (sa.n 2) (sa.c 2))).cell? ⟨b5, 3, none⟩ = some (.slice none 0 0) := r5s.cell 3
        have fk3 := r5s.frozen 3
        have lk := r5s.lt
        refine step_skip_g (by rfl) (w' := ((((((((V4.setCell ⟨b4, 0, none⟩ (.int .u64 (E : Nat))).setCell ⟨b4, 1, none⟩ (.slice (sa.a 0) (sa.n 0) (sa.c 0))).setCell ⟨b4, 2, none⟩ (.slice (sa.a 1) (sa.n 1) (sa.c 1))).setCell ⟨b4, 3, none⟩ (.slice (sa.a 2) (sa.n 2) (sa.c 2))).setCell ⟨b5, 0, none⟩ (.int .u64 (F : Nat))).setCell ⟨b5, 1, none⟩ (.slice (sb.a 0) (sb.n 0) (sb.c 0))).setCell ⟨b5, 2, none⟩ (.slice (sb.a 1) (sb.n 1) (sb.c 1))).setCell ⟨b5, 3, none⟩ (.slice (sb.a 2) (sb.n 2) (sb.c 2)))) (by go_simp) ?_
        refine hK.out _ _ (fun h => absurd h (by decide)) ?_
        clear hK K
        try simp only [Act.put, List.setIfInBounds_toArray, List.set_cons_zero, List.set_cons_succ]
        refine wpAnyL_end (by kernel_rfl) ?_
        exact HK.out b4 b5 sa sb _ _ _ _ _ A4.out.1 A5.out.1 h45 (r4s.oth4 (Ne.symm h45) (.int .u64 (F : Nat)) (.slice (sb.a 0) (sb.n 0) (sb.c 0)) (.slice (sb.a 1) (sb.n 1) (sb.c 1)) (.slice (sb.a 2) (sb.n 2) (sb.c 2))) (rows4 r5s (.int .u64 (F : Nat)) (.slice (sb.a 0) (sb.n 0) (sb.c 0)) (.slice (sb.a 1) (sb.n 1) (sb.c 1)) (.slice (sb.a 2) (sb.n 2) (sb.c 2))) (LO.setT (LO.setT O1.out r4 (.int .u64 (E : Nat)) (.slice (sa.a 0) (sa.n 0) (sa.c 0)) (.slice (sa.a 1) (sa.n 1) (sa.c 1)) (.slice (sa.a 2) (sa.n 2) (sa.c 2))) r5s (.int .u64 (F : Nat)) (.slice (sb.a 0) (sb.n 0) (sb.c 0)) (.slice (sb.a 1) (sb.n 1) (sb.c 1)) (.slice (sb.a 2) (sb.n 2) (sb.c 2))) (LO.setT (LO.setT O3.out r4 (.int .u64 (E : Nat)) (.slice (sa.a 0) (sa.n 0) (sa.c 0)) (.slice (sa.a 1) (sa.n 1) (sa.c 1)) (.slice (sa.a 2) (sa.n 2) (sa.c 2))) r5s (.int .u64 (F : Nat)) (.slice (sb.a 0) (sb.n 0) (sb.c 0)) (.slice (sb.a 1) (sb.n 1) (sb.c 1)) (.slice (sb.a 2) (sb.n 2) (sb.c 2))) (below4 (below4 HB.out A4.out.1 (.int .u64 (E : Nat)) (.slice (sa.a 0) (sa.n 0) (sa.c 0)) (.slice (sa.a 1) (sa.n 1) (sa.c 1)) (.slice (sa.a 2) (sa.n 2) (sa.c 2))) A5.out.1 (.int .u64 (F : Nat)) (.slice (sb.a 0) (sb.n 0) (sb.c 0)) (.slice (sb.a 1) (sb.n 1) (sb.c 1)) (.slice (sb.a 2) (sb.n 2) (sb.c 2)))
    · refine step_value_g (by rfl) (.pointer (some ⟨V1.heap.size, 0, none⟩)) (w' := V1.alloc (.cells #[.int .u64 0, .slice none 0 0, .slice none 0 0, .slice none 0 0] 26)) (by go_simp) ?_
      have hC : Below V1.heap.size V1 (V1.alloc (.cells #[.int .u64 0, .slice none 0 0, .slice none 0 0, .slice none 0 0] 26)) := Rows8.newB
      have A5' : Hid (W0.heap.size ≤ V1.heap.size ∧ Rows8 (V1.alloc (.cells #[.int .u64 0, .slice none 0 0, .slice none 0 0, .slice none 0 0] 26)) V1.heap.size 26 #[.int .u64 0, .slice none 0 0, .slice none 0 0, .slice none 0 0]) := Lib.hid ⟨HB.out.size, Rows8.new _ _ _⟩
      have hne : Hid (b4 ≠ V1.heap.size) := Lib.hid (Nat.ne_of_lt A4.out.2.lt)
      have HI := Lib.hid (HI.out.below hC)
      have HQ := Lib.hid (HQ.out.below hC)
      have HB := Lib.hid (HB.out.trans (hC.mono HB.out.size))
      have A4 := Lib.hid (And.intro A4.out.1 (A4.out.2.below hC A4.out.2.lt))
      have A5 := A5'
      have hS0 : Rows8 (V1.alloc (.cells #[.int .u64 0, .slice none 0 0, .slice none 0 0, .slice none 0 0] 26)) b1 26 #[.int .u64 (E : Nat), .slice (s.a 0) (s.n 0) (s.c 0), .slice (s.a 1) (s.n 1) (s.c 1), .slice (s.a 2) (s.n 2) (s.c 2)] ∧ Rows8 (V1.alloc (.cells #[.int .u64 0, .slice none 0 0, .slice none 0 0, .slice none 0 0] 26)) (b1 + 1) 26 #[.int .u64 (F : Nat), .slice (u.a 0) (u.n 0) (u.c 0), .slice (u.a 1) (u.n 1) (u.c 1), .slice (u.a 2) (u.n 2) (u.c 2)] := ⟨hS0.1.alloc _, hS0.2.alloc _⟩
      clear hC A5'
      generalize V1.alloc (.cells #[.int .u64 0, .slice none 0 0, .slice none 0 0, .slice none 0 0] 26) = V2 at *
      generalize V1.heap.size = b5 at *
      refine hK.out _ _ (fun _ => hS0) ?_
      clear hK K
      try simp only [Act.put, List.setIfInBounds_toArray, List.set_cons_zero, List.set_cons_succ]
      refine wpAnyL_one (i := 1) (o := { dst := some 26, op := Go.Op.call { callee := Go.Callee.value (Go.Operand.func 8), args := #[Go.Operand.tmp 25], argTypes := #[26] }, type := 26, pos := "law.go:50", after := #[{ on := 0, ground := Go.Ground.data }], guard := none }) (by kernel_rfl) rfl (fun K hK => ?_)
      refine step_call_g (by rfl) 8 _ _ rfl (fun _ _ => by kernel_rfl) #[.agg #[.int .u64 (E : Nat), .slice (s.a 0) (s.n 0) (s.c 0), .slice (s.a 1) (s.n 1) (s.c 1), .slice (s.a 2) (s.n 2) (s.c 2)]] (by simp [go_sem]) _ (Tryd.own_any E s r V2 HI.out) ?_
      rintro e V3 ⟨sa, rfl, hO, hC⟩
      have O1' := Lib.hid (hO.mono (Nat.le_trans hN.out HB.out.size))
      have HI := Lib.hid (HI.out.below hC)
      have HQ := Lib.hid (HQ.out.below hC)
      have HB := Lib.hid (HB.out.trans (hC.mono HB.out.size))
      have A4 := Lib.hid (And.intro A4.out.1 (A4.out.2.below hC A4.out.2.lt))
      have A5 := Lib.hid (And.intro A5.out.1 (A5.out.2.below hC A5.out.2.lt))
      have O1 := O1'
      have hS0 : Rows8 V3 b1 26 #[.int .u64 (E : Nat), .slice (s.a 0) (s.n 0) (s.c 0), .slice (s.a 1) (s.n 1) (s.c 1), .slice (s.a 2) (s.n 2) (s.c 2)] ∧ Rows8 V3 (b1 + 1) 26 #[.int .u64 (F : Nat), .slice (u.a 0) (u.n 0) (u.c 0), .slice (u.a 1) (u.n 1) (u.c 1), .slice (u.a 2) (u.n 2) (u.c 2)] := ⟨hS0.1.below hC hS0.1.lt, hS0.2.below hC hS0.2.lt⟩
      clear hO hC O1'
      refine ⟨_, rfl, ?_⟩
      refine hK.out _ _ (fun _ => hS0) ?_
      clear hK K
      try simp only [Act.put, List.setIfInBounds_toArray, List.set_cons_zero, List.set_cons_succ]
      refine wpAnyL_one (i := 3) (o := { dst := some 28, op := Go.Op.call { callee := Go.Callee.value (Go.Operand.func 8), args := #[Go.Operand.tmp 27], argTypes := #[26] }, type := 26, pos := "law.go:50", after := #[{ on := 2, ground := Go.Ground.data }, { on := 1, ground := Go.Ground.chain }], guard := none }) (by kernel_rfl) rfl (fun K hK => ?_)
      refine step_call_g (by rfl) 8 _ _ rfl (fun _ _ => by kernel_rfl) #[.agg #[.int .u64 (F : Nat), .slice (u.a 0) (u.n 0) (u.c 0), .slice (u.a 1) (u.n 1) (u.c 1), .slice (u.a 2) (u.n 2) (u.c 2)]] (by simp [go_sem]) _ (Tryd.own_any F u q V3 HQ.out) ?_
      rintro e V4 ⟨sb, rfl, hO, hC⟩
      have O3' := Lib.hid (hO.mono (Nat.le_trans hN.out HB.out.size))
      have HI := Lib.hid (HI.out.below hC)
      have HQ := Lib.hid (HQ.out.below hC)
      have HB := Lib.hid (HB.out.trans (hC.mono HB.out.size))
      have O1 := Lib.hid (O1.out.below hC)
      have A4 := Lib.hid (And.intro A4.out.1 (A4.out.2.below hC A4.out.2.lt))
      have A5 := Lib.hid (And.intro A5.out.1 (A5.out.2.below hC A5.out.2.lt))
      have O3 := O3'
      have hS0 : Rows8 V4 b1 26 #[.int .u64 (E : Nat), .slice (s.a 0) (s.n 0) (s.c 0), .slice (s.a 1) (s.n 1) (s.c 1), .slice (s.a 2) (s.n 2) (s.c 2)] ∧ Rows8 V4 (b1 + 1) 26 #[.int .u64 (F : Nat), .slice (u.a 0) (u.n 0) (u.c 0), .slice (u.a 1) (u.n 1) (u.c 1), .slice (u.a 2) (u.n 2) (u.c 2)] := ⟨hS0.1.below hC hS0.1.lt, hS0.2.below hC hS0.2.lt⟩
      clear hO hC O3'
      refine ⟨_, rfl, ?_⟩
      refine hK.out _ _ (fun _ => hS0) ?_
      clear hK K
      try simp only [Act.put, List.setIfInBounds_toArray, List.set_cons_zero, List.set_cons_succ]
      have h45 := hne.out
      have r4 := A4.out.2
      have r5 := A5.out.2
      refine wpAnyL_one (i := 6) (o := { dst := none, op := Go.Op.store 26 (Go.Operand.tmp 7) (Go.Operand.tmp 26), type := 0, pos := "law.go:50", after := #[{ on := 4, ground := Go.Ground.data }, { on := 1, ground := Go.Ground.data }, { on := 3, ground := Go.Ground.chain }, { on := 0, ground := Go.Ground.phase }, { on := 1, ground := Go.Ground.phase }, { on := 2, ground := Go.Ground.textOnly Go.Departure.lateStores }, { on := 3, ground := Go.Ground.textOnly Go.Departure.lateStoresUnsure }, { on := 4, ground := Go.Ground.phase }, { on := 5, ground := Go.Ground.phase }], guard := none }) (by kernel_rfl) rfl (fun K hK => ?_)
      have ck0 : V4.cell? ⟨b4, 0, none⟩ = some (.int .u64 0) := r4.cell 0
      have fk0 := r4.frozen 0
      have ck1 : V4.cell? ⟨b4, 1, none⟩ = some (.slice none 0 0) := r4.cell 1
      have fk1 := r4.frozen 1
      have ck2 : V4.cell? ⟨b4, 2, none⟩ = some (.slice none 0 0) := r4.cell 2
      have fk2 := r4.frozen 2
      have ck3 : V4.cell? ⟨b4, 3, none⟩ = some (.slice none 0 0) := r4.cell 3
      have fk3 := r4.frozen 3
      have lk := r4.lt
      refine step_skip_g (by rfl) (w' := ((((V4.setCell ⟨b4, 0, none⟩ (.int .u64 (E : Nat))).setCell ⟨b4, 1, none⟩ (.slice (sa.a 0) (sa.n 0) (sa.c 0))).setCell ⟨b4, 2, none⟩ (.slice (sa.a 1) (sa.n 1) (sa.c 1))).setCell ⟨b4, 3, none⟩ (.slice (sa.a 2) (sa.n 2) (sa.c 2)))) (by go_simp) ?_
      have r4s := rows4 r4 (.int .u64 (E : Nat)) (.slice (sa.a 0) (sa.n 0) (sa.c 0)) (.slice (sa.a 1) (sa.n 1) (sa.c 1)) (.slice (sa.a 2) (sa.n 2) (sa.c 2))
      have r5s := r5.oth4 h45 (.int .u64 (E : Nat)) (.slice (sa.a 0) (sa.n 0) (sa.c 0)) (.slice (sa.a 1) (sa.n 1) (sa.c 1)) (.slice (sa.a 2) (sa.n 2) (sa.c 2))
      clear ck0 ck1 ck2 ck3 fk0 fk1 fk2 fk3 lk
      refine hK.out _ _ (fun h => absurd h (by decide)) ?_
      clear hK K
      try simp only [Act.put, List.setIfInBounds_toArray, List.set_cons_zero, List.set_cons_succ]
      refine wpAnyL_one (i := 7) (o := { dst := none, op := Go.Op.store 26 (Go.Operand.tmp 8) (Go.Operand.tmp 28), type := 0, pos := "law.go:50", after := #[{ on := 5, ground := Go.Ground.data }, { on := 3, ground := Go.Ground.data }, { on := 6, ground := Go.Ground.chain }, { on := 0, ground := Go.Ground.phase }, { on := 1, ground := Go.Ground.phase }, { on := 2, ground := Go.Ground.phase }, { on := 3, ground := Go.Ground.phase }, { on := 4, ground := Go.Ground.phase }, { on := 5, ground := Go.Ground.phase }, { on := 6, ground := Go.Ground.phase }], guard := none }) (by kernel_rfl) rfl (fun K hK => ?_)
      have ck0 : ((((V4.setCell ⟨b4, 0, none⟩ (.int .u64 (E : Nat))).setCell ⟨b4, 1, none⟩ (.slice (sa.a 0) (sa.n 0) (sa.c 0))).setCell ⟨b4, 2, none⟩ (.slice (sa.a 1) (sa.n 1) (sa.c 1))).setCell ⟨b4, 3, none⟩ (.slice (sa.a 2) (sa.n 2) (sa.c 2))).cell? ⟨b5, 0, none⟩ = some (.int .u64 0) := r5s.cell 0
      have fk0 := r5s.frozen 0
      have ck1 : ((((V4.setCell ⟨b4, 0, none⟩ (.int .u64 (E : Nat))).setCell ⟨b4, 1, none⟩ (.slice (sa.a 0) (sa.n 0) (sa.c 0))).setCell ⟨b4, 2, none⟩ (.slice (sa.a 1) (sa.n 1) (sa.c 1))).setCell ⟨b4, 3, none⟩ (.slice (sa.a 2) (sa.n 2) (sa.c 2))).cell? ⟨b5, 1, none⟩ = some (.slice none 0 0) := r5s.cell 1
      have fk1 := r5s.frozen 1
      have ck2 : ((((V4.setCell ⟨b4, 0, none⟩ (.int .u64 (E : Nat))).setCell ⟨b4, 1, none⟩ (.slice (sa.a 0) (sa.n 0) (sa.c 0))).setCell ⟨b4, 2, none⟩ (.slice (sa.a 1) (sa.n 1) (sa.c 1))).setCell ⟨b4, 3, none⟩ (.slice (sa.a 2) (sa.n 2) (sa.c 2))).cell? ⟨b5, 2, none⟩ = some (.slice none 0 0) := r5s.cell 2
      have fk2 := r5s.frozen 2
      have ck3 : ((((V4.setCell ⟨b4, 0, none⟩ (.int .u64 (E : Nat))).setCell ⟨b4, 1, none⟩ (.slice (sa.a 0) (sa.n 0) (sa.c 0))).setCell ⟨b4, 2, none⟩ (.slice (sa.a 1) (sa.n 1) (sa.c 1))).setCell ⟨b4, 3, none⟩ (.slice (sa.a 2) (sa.n 2) (sa.c 2))).cell? ⟨b5, 3, none⟩ = some (.slice none 0 0) := r5s.cell 3
      have fk3 := r5s.frozen 3
      have lk := r5s.lt
      refine step_skip_g (by rfl) (w' := ((((((((V4.setCell ⟨b4, 0, none⟩ (.int .u64 (E : Nat))).setCell ⟨b4, 1, none⟩ (.slice (sa.a 0) (sa.n 0) (sa.c 0))).setCell ⟨b4, 2, none⟩ (.slice (sa.a 1) (sa.n 1) (sa.c 1))).setCell ⟨b4, 3, none⟩ (.slice (sa.a 2) (sa.n 2) (sa.c 2))).setCell ⟨b5, 0, none⟩ (.int .u64 (F : Nat))).setCell ⟨b5, 1, none⟩ (.slice (sb.a 0) (sb.n 0) (sb.c 0))).setCell ⟨b5, 2, none⟩ (.slice (sb.a 1) (sb.n 1) (sb.c 1))).setCell ⟨b5, 3, none⟩ (.slice (sb.a 2) (sb.n 2) (sb.c 2)))) (by go_simp) ?_
      refine hK.out _ _ (fun h => absurd h (by decide)) ?_
      clear hK K
      try simp only [Act.put, List.setIfInBounds_toArray, List.set_cons_zero, List.set_cons_succ]
      refine wpAnyL_end (by kernel_rfl) ?_
      exact HK.out b4 b5 sa sb _ _ _ _ _ A4.out.1 A5.out.1 h45 (r4s.oth4 (Ne.symm h45) (.int .u64 (F : Nat)) (.slice (sb.a 0) (sb.n 0) (sb.c 0)) (.slice (sb.a 1) (sb.n 1) (sb.c 1)) (.slice (sb.a 2) (sb.n 2) (sb.c 2))) (rows4 r5s (.int .u64 (F : Nat)) (.slice (sb.a 0) (sb.n 0) (sb.c 0)) (.slice (sb.a 1) (sb.n 1) (sb.c 1)) (.slice (sb.a 2) (sb.n 2) (sb.c 2))) (LO.setT (LO.setT O1.out r4 (.int .u64 (E : Nat)) (.slice (sa.a 0) (sa.n 0) (sa.c 0)) (.slice (sa.a 1) (sa.n 1) (sa.c 1)) (.slice (sa.a 2) (sa.n 2) (sa.c 2))) r5s (.int .u64 (F : Nat)) (.slice (sb.a 0) (sb.n 0) (sb.c 0)) (.slice (sb.a 1) (sb.n 1) (sb.c 1)) (.slice (sb.a 2) (sb.n 2) (sb.c 2))) (LO.setT (LO.setT O3.out r4 (.int .u64 (E : Nat)) (.slice (sa.a 0) (sa.n 0) (sa.c 0)) (.slice (sa.a 1) (sa.n 1) (sa.c 1)) (.slice (sa.a 2) (sa.n 2) (sa.c 2))) r5s (.int .u64 (F : Nat)) (.slice (sb.a 0) (sb.n 0) (sb.c 0)) (.slice (sb.a 1) (sb.n 1) (sb.c 1)) (.slice (sb.a 2) (sb.n 2) (sb.c 2))) (below4 (below4 HB.out A4.out.1 (.int .u64 (E : Nat)) (.slice (sa.a 0) (sa.n 0) (sa.c 0)) (.slice (sa.a 1) (sa.n 1) (sa.c 1)) (.slice (sa.a 2) (sa.n 2) (sa.c 2))) A5.out.1 (.int .u64 (F : Nat)) (.slice (sb.a 0) (sb.n 0) (sb.c 0)) (.slice (sb.a 1) (sb.n 1) (sb.c 1)) (.slice (sb.a 2) (sb.n 2) (sb.c 2)))
  · refine step_value_g (by rfl) (.pointer (some ⟨V0.heap.size, 0, none⟩)) (w' := V0.alloc (.cells #[.int .u64 0, .slice none 0 0, .slice none 0 0, .slice none 0 0] 26)) (by go_simp) ?_
    have hC : Below V0.heap.size V0 (V0.alloc (.cells #[.int .u64 0, .slice none 0 0, .slice none 0 0, .slice none 0 0] 26)) := Rows8.newB
    have A5' : Hid (W0.heap.size ≤ V0.heap.size ∧ Rows8 (V0.alloc (.cells #[.int .u64 0, .slice none 0 0, .slice none 0 0, .slice none 0 0] 26)) V0.heap.size 26 #[.int .u64 0, .slice none 0 0, .slice none 0 0, .slice none 0 0]) := Lib.hid ⟨HB.out.size, Rows8.new _ _ _⟩
    have HI := Lib.hid (HI.out.below hC)
    have HQ := Lib.hid (HQ.out.below hC)
    have HB := Lib.hid (HB.out.trans (hC.mono HB.out.size))
    have A5 := A5'
    have hS0 : Rows8 (V0.alloc (.cells #[.int .u64 0, .slice none 0 0, .slice none 0 0, .slice none 0 0] 26)) b1 26 #[.int .u64 (E : Nat), .slice (s.a 0) (s.n 0) (s.c 0), .slice (s.a 1) (s.n 1) (s.c 1), .slice (s.a 2) (s.n 2) (s.c 2)] ∧ Rows8 (V0.alloc (.cells #[.int .u64 0, .slice none 0 0, .slice none 0 0, .slice none 0 0] 26)) (b1 + 1) 26 #[.int .u64 (F : Nat), .slice (u.a 0) (u.n 0) (u.c 0), .slice (u.a 1) (u.n 1) (u.c 1), .slice (u.a 2) (u.n 2) (u.c 2)] := ⟨hS0.1.alloc _, hS0.2.alloc _⟩
    clear hC A5'
    generalize V0.alloc (.cells #[.int .u64 0, .slice none 0 0, .slice none 0 0, .slice none 0 0] 26) = V1 at *
    generalize V0.heap.size = b5 at *
    refine hK.out _ _ (fun _ => hS0) ?_
    clear hK K
    try simp only [Act.put, List.setIfInBounds_toArray, List.set_cons_zero, List.set_cons_succ]
    refine wpAnyL_two (i := 1) (j := 4) (oi := { dst := some 26, op := Go.Op.call { callee := Go.Callee.value (Go.Operand.func 8), args := #[Go.Operand.tmp 25], argTypes := #[26] }, type := 26, pos := "law.go:50", after := #[{ on := 0, ground := Go.Ground.data }], guard := none }) (oj := { dst := some 7, op := Go.Op.alloc 26, type := 0, pos := "law.go:50", after := #[], guard := none }) (by kernel_rfl) rfl rfl (fun K hK => ?_) (fun K hK => ?_)
    · refine step_call_g (by rfl) 8 _ _ rfl (fun _ _ => by kernel_rfl) #[.agg #[.int .u64 (E : Nat), .slice (s.a 0) (s.n 0) (s.c 0), .slice (s.a 1) (s.n 1) (s.c 1), .slice (s.a 2) (s.n 2) (s.c 2)]] (by simp [go_sem]) _ (Tryd.own_any E s r V1 HI.out) ?_
      rintro e V2 ⟨sa, rfl, hO, hC⟩
      have O1' := Lib.hid (hO.mono (Nat.le_trans hN.out HB.out.size))
      have HI := Lib.hid (HI.out.below hC)
      have HQ := Lib.hid (HQ.out.below hC)
      have HB := Lib.hid (HB.out.trans (hC.mono HB.out.size))
      have A5 := Lib.hid (And.intro A5.out.1 (A5.out.2.below hC A5.out.2.lt))
      have O1 := O1'
      have hS0 : Rows8 V2 b1 26 #[.int .u64 (E : Nat), .slice (s.a 0) (s.n 0) (s.c 0), .slice (s.a 1) (s.n 1) (s.c 1), .slice (s.a 2) (s.n 2) (s.c 2)] ∧ Rows8 V2 (b1 + 1) 26 #[.int .u64 (F : Nat), .slice (u.a 0) (u.n 0) (u.c 0), .slice (u.a 1) (u.n 1) (u.c 1), .slice (u.a 2) (u.n 2) (u.c 2)] := ⟨hS0.1.below hC hS0.1.lt, hS0.2.below hC hS0.2.lt⟩
      clear hO hC O1'
      refine ⟨_, rfl, ?_⟩
      refine hK.out _ _ (fun _ => hS0) ?_
      clear hK K
      try simp only [Act.put, List.setIfInBounds_toArray, List.set_cons_zero, List.set_cons_succ]
      refine wpAnyL_two (i := 3) (j := 4) (oi := { dst := some 28, op := Go.Op.call { callee := Go.Callee.value (Go.Operand.func 8), args := #[Go.Operand.tmp 27], argTypes := #[26] }, type := 26, pos := "law.go:50", after := #[{ on := 2, ground := Go.Ground.data }, { on := 1, ground := Go.Ground.chain }], guard := none }) (oj := { dst := some 7, op := Go.Op.alloc 26, type := 0, pos := "law.go:50", after := #[], guard := none }) (by kernel_rfl) rfl rfl (fun K hK => ?_) (fun K hK => ?_)
      · refine step_call_g (by rfl) 8 _ _ rfl (fun _ _ => by kernel_rfl) #[.agg #[.int .u64 (F : Nat), .slice (u.a 0) (u.n 0) (u.c 0), .slice (u.a 1) (u.n 1) (u.c 1), .slice (u.a 2) (u.n 2) (u.c 2)]] (by simp [go_sem]) _ (Tryd.own_any F u q V2 HQ.out) ?_
        rintro e V3 ⟨sb, rfl, hO, hC⟩
        have O3' := Lib.hid (hO.mono (Nat.le_trans hN.out HB.out.size))
        have HI := Lib.hid (HI.out.below hC)
        have HQ := Lib.hid (HQ.out.below hC)
        have HB := Lib.hid (HB.out.trans (hC.mono HB.out.size))
        have O1 := Lib.hid (O1.out.below hC)
        have A5 := Lib.hid (And.intro A5.out.1 (A5.out.2.below hC A5.out.2.lt))
        have O3 := O3'
        have hS0 : Rows8 V3 b1 26 #[.int .u64 (E : Nat), .slice (s.a 0) (s.n 0) (s.c 0), .slice (s.a 1) (s.n 1) (s.c 1), .slice (s.a 2) (s.n 2) (s.c 2)] ∧ Rows8 V3 (b1 + 1) 26 #[.int .u64 (F : Nat), .slice (u.a 0) (u.n 0) (u.c 0), .slice (u.a 1) (u.n 1) (u.c 1), .slice (u.a 2) (u.n 2) (u.c 2)] := ⟨hS0.1.below hC hS0.1.lt, hS0.2.below hC hS0.2.lt⟩
        clear hO hC O3'
        refine ⟨_, rfl, ?_⟩
        refine hK.out _ _ (fun _ => hS0) ?_
        clear hK K
        try simp only [Act.put, List.setIfInBounds_toArray, List.set_cons_zero, List.set_cons_succ]
        refine wpAnyL_one (i := 4) (o := { dst := some 7, op := Go.Op.alloc 26, type := 0, pos := "law.go:50", after := #[], guard := none }) (by kernel_rfl) rfl (fun K hK => ?_)
        refine step_value_g (by rfl) (.pointer (some ⟨V3.heap.size, 0, none⟩)) (w' := V3.alloc (.cells #[.int .u64 0, .slice none 0 0, .slice none 0 0, .slice none 0 0] 26)) (by go_simp) ?_
        have hC : Below V3.heap.size V3 (V3.alloc (.cells #[.int .u64 0, .slice none 0 0, .slice none 0 0, .slice none 0 0] 26)) := Rows8.newB
        have A4' : Hid (W0.heap.size ≤ V3.heap.size ∧ Rows8 (V3.alloc (.cells #[.int .u64 0, .slice none 0 0, .slice none 0 0, .slice none 0 0] 26)) V3.heap.size 26 #[.int .u64 0, .slice none 0 0, .slice none 0 0, .slice none 0 0]) := Lib.hid ⟨HB.out.size, Rows8.new _ _ _⟩
        have hne : Hid (b5 ≠ V3.heap.size) := Lib.hid (Nat.ne_of_lt A5.out.2.lt)
        have HI := Lib.hid (HI.out.below hC)
        have HQ := Lib.hid (HQ.out.below hC)
        have HB := Lib.hid (HB.out.trans (hC.mono HB.out.size))
        have O1 := Lib.hid (O1.out.below hC)
        have O3 := Lib.hid (O3.out.below hC)
        have A5 := Lib.hid (And.intro A5.out.1 (A5.out.2.below hC A5.out.2.lt))
        have A4 := A4'
        have hS0 : Rows8 (V3.alloc (.cells #[.int .u64 0, .slice none 0 0, .slice none 0 0, .slice none 0 0] 26)) b1 26 #[.int .u64 (E : Nat), .slice (s.a 0) (s.n 0) (s.c 0), .slice (s.a 1) (s.n 1) (s.c 1), .slice (s.a 2) (s.n 2) (s.c 2)] ∧ Rows8 (V3.alloc (.cells #[.int .u64 0, .slice none 0 0, .slice none 0 0, .slice none 0 0] 26)) (b1 + 1) 26 #[.int .u64 (F : Nat), .slice (u.a 0) (u.n 0) (u.c 0), .slice (u.a 1) (u.n 1) (u.c 1), .slice (u.a 2) (u.n 2) (u.c 2)] := ⟨hS0.1.alloc _, hS0.2.alloc _⟩
        clear hC A4'
        generalize V3.alloc (.cells #[.int .u64 0, .slice none 0 0, .slice none 0 0, .slice none 0 0] 26) = V4 at *
        generalize V3.heap.size = b4 at *
        refine hK.out _ _ (fun _ => hS0) ?_
        clear hK K
        try simp only [Act.put, List.setIfInBounds_toArray, List.set_cons_zero, List.set_cons_succ]
        have h45 := (Ne.symm hne.out)
        have r4 := A4.out.2
        have r5 := A5.out.2
        refine wpAnyL_one (i := 6) (o := { dst := none, op := Go.Op.store 26 (Go.Operand.tmp 7) (Go.Operand.tmp 26), type := 0, pos := "law.go:50", after := #[{ on := 4, ground := Go.Ground.data }, { on := 1, ground := Go.Ground.data }, { on := 3, ground := Go.Ground.chain }, { on := 0, ground := Go.Ground.phase }, { on := 1, ground := Go.Ground.phase }, { on := 2, ground := Go.Ground.textOnly Go.Departure.lateStores }, { on := 3, ground := Go.Ground.textOnly Go.Departure.lateStoresUnsure }, { on := 4, ground := Go.Ground.phase }, { on := 5, ground := Go.Ground.phase }], guard := none }) (by kernel_rfl) rfl (fun K hK => ?_)
        have ck0 : V4.cell? ⟨b4, 0, none⟩ = some (.int .u64 0) := r4.cell 0
        have fk0 := r4.frozen 0
        have ck1 : V4.cell? ⟨b4, 1, none⟩ = some (.slice none 0 0) := r4.cell 1
        have fk1 := r4.frozen 1
        have ck2 : V4.cell? ⟨b4, 2, none⟩ = some (.slice none 0 0) := r4.cell 2
        have fk2 := r4.frozen 2
        have ck3 : V4.cell? ⟨b4, 3, none⟩ = some (.slice none 0 0) := r4.cell 3
        have fk3 := r4.frozen 3
        have lk := r4.lt
        refine step_skip_g (by rfl) (w' := ((((V4.setCell ⟨b4, 0, none⟩ (.int .u64 (E : Nat))).setCell ⟨b4, 1, none⟩ (.slice (sa.a 0) (sa.n 0) (sa.c 0))).setCell ⟨b4, 2, none⟩ (.slice (sa.a 1) (sa.n 1) (sa.c 1))).setCell ⟨b4, 3, none⟩ (.slice (sa.a 2) (sa.n 2) (sa.c 2)))) (by go_simp) ?_
        have r4s := rows4 r4 (.int .u64 (E : Nat)) (.slice (sa.a 0) (sa.n 0) (sa.c 0)) (.slice (sa.a 1) (sa.n 1) (sa.c 1)) (.slice (sa.a 2) (sa.n 2) (sa.c 2))
        have r5s := r5.oth4 h45 (.int .u64 (E : Nat)) (.slice (sa.a 0) (sa.n 0) (sa.c 0)) (.slice (sa.a 1) (sa.n 1) (sa.c 1)) (.slice (sa.a 2) (sa.n 2) (sa.c 2))
        clear ck0 ck1 ck2 ck3 fk0 fk1 fk2 fk3 lk
        refine hK.out _ _ (fun h => absurd h (by decide)) ?_
        clear hK K
        try simp only [Act.put, List.setIfInBounds_toArray, List.set_cons_zero, List.set_cons_succ]
        refine wpAnyL_one (i := 7) (o := { dst := none, op := Go.Op.store 26 (Go.Operand.tmp 8) (Go.Operand.tmp 28), type := 0, pos := "law.go:50", after := #[{ on := 5, ground := Go.Ground.data }, { on := 3, ground := Go.Ground.data }, { on := 6, ground := Go.Ground.chain }, { on := 0, ground := Go.Ground.phase }, { on := 1, ground := Go.Ground.phase }, { on := 2, ground := Go.Ground.phase }, { on := 3, ground := Go.Ground.phase }, { on := 4, ground := Go.Ground.phase }, { on := 5, ground := Go.Ground.phase }, { on := 6, ground := Go.Ground.phase }], guard := none }) (by kernel_rfl) rfl (fun K hK => ?_)
        have ck0 : ((((V4.setCell ⟨b4, 0, none⟩ (.int .u64 (E : Nat))).setCell ⟨b4, 1, none⟩ (.slice (sa.a 0) (sa.n 0) (sa.c 0))).setCell ⟨b4, 2, none⟩ (.slice (sa.a 1) (sa.n 1) (sa.c 1))).setCell ⟨b4, 3, none⟩ (.slice (sa.a 2) (sa.n 2) (sa.c 2))).cell? ⟨b5, 0, none⟩ = some (.int .u64 0) := r5s.cell 0
        have fk0 := r5s.frozen 0
        have ck1 : ((((V4.setCell ⟨b4, 0, none⟩ (.int .u64 (E : Nat))).setCell ⟨b4, 1, none⟩ (.slice (sa.a 0) (sa.n 0) (sa.c 0))).setCell ⟨b4, 2, none⟩ (.slice (sa.a 1) (sa.n 1) (sa.c 1))).setCell ⟨b4, 3, none⟩ (.slice (sa.a 2) (sa.n 2) (sa.c 2))).cell? ⟨b5, 1, none⟩ = some (.slice none 0 0) := r5s.cell 1
        have fk1 := r5s.frozen 1
        have ck2 : ((((V4.setCell ⟨b4, 0, none⟩ (.int .u64 (E : Nat))).setCell ⟨b4, 1, none⟩ (.slice (sa.a 0) (sa.n 0) (sa.c 0))).setCell ⟨b4, 2, none⟩ (.slice (sa.a 1) (sa.n 1) (sa.c 1))).setCell ⟨b4, 3, none⟩ (.slice (sa.a 2) (sa.n 2) (sa.c 2))).cell? ⟨b5, 2, none⟩ = some (.slice none 0 0) := r5s.cell 2
        have fk2 := r5s.frozen 2
        have ck3 : ((((V4.setCell ⟨b4, 0, none⟩ (.int .u64 (E : Nat))).setCell ⟨b4, 1, none⟩ (.slice (sa.a 0) (sa.n 0) (sa.c 0))).setCell ⟨b4, 2, none⟩ (.slice (sa.a 1) (sa.n 1) (sa.c 1))).setCell ⟨b4, 3, none⟩ (.slice (sa.a 2) (sa.n 2) (sa.c 2))).cell? ⟨b5, 3, none⟩ = some (.slice none 0 0) := r5s.cell 3
        have fk3 := r5s.frozen 3
        have lk := r5s.lt
        refine step_skip_g (by rfl) (w' := ((((((((V4.setCell ⟨b4, 0, none⟩ (.int .u64 (E : Nat))).setCell ⟨b4, 1, none⟩ (.slice (sa.a 0) (sa.n 0) (sa.c 0))).setCell ⟨b4, 2, none⟩ (.slice (sa.a 1) (sa.n 1) (sa.c 1))).setCell ⟨b4, 3, none⟩ (.slice (sa.a 2) (sa.n 2) (sa.c 2))).setCell ⟨b5, 0, none⟩ (.int .u64 (F : Nat))).setCell ⟨b5, 1, none⟩ (.slice (sb.a 0) (sb.n 0) (sb.c 0))).setCell ⟨b5, 2, none⟩ (.slice (sb.a 1) (sb.n 1) (sb.c 1))).setCell ⟨b5, 3, none⟩ (.slice (sb.a 2) (sb.n 2) (sb.c 2)))) (by go_simp) ?_
        refine hK.out _ _ (fun h => absurd h (by decide)) ?_
        clear hK K
        try simp only [Act.put, List.setIfInBounds_toArray, List.set_cons_zero, List.set_cons_succ]
        refine wpAnyL_end (by kernel_rfl) ?_
        exact HK.out b4 b5 sa sb _ _ _ _ _ A4.out.1 A5.out.1 h45 (r4s.oth4 (Ne.symm h45) (.int .u64 (F : Nat)) (.slice (sb.a 0) (sb.n 0) (sb.c 0)) (.slice (sb.a 1) (sb.n 1) (sb.c 1)) (.slice (sb.a 2) (sb.n 2) (sb.c 2))) (rows4 r5s (.int .u64 (F : Nat)) (.slice (sb.a 0) (sb.n 0) (sb.c 0)) (.slice (sb.a 1) (sb.n 1) (sb.c 1)) (.slice (sb.a 2) (sb.n 2) (sb.c 2))) (LO.setT (LO.setT O1.out r4 (.int .u64 (E : Nat)) (.slice (sa.a 0) (sa.n 0) (sa.c 0)) (.slice (sa.a 1) (sa.n 1) (sa.c 1)) (.slice (sa.a 2) (sa.n 2) (sa.c 2))) r5s (.int .u64 (F : Nat)) (.slice (sb.a 0) (sb.n 0) (sb.c 0)) (.slice (sb.a 1) (sb.n 1) (sb.c 1)) (.slice (sb.a 2) (sb.n 2) (sb.c 2))) (LO.setT (LO.setT O3.out r4 (.int .u64 (E : Nat)) (.slice (sa.a 0) (sa.n 0) (sa.c 0)) (.slice (sa.a 1) (sa.n 1) (sa.c 1)) (.slice (sa.a 2) (sa.n 2) (sa.c 2))) r5s (.int .u64 (F : Nat)) (.slice (sb.a 0) (sb.n 0) (sb.c 0)) (.slice (sb.a 1) (sb.n 1) (sb.c 1)) (.slice (sb.a 2) (sb.n 2) (sb.c 2))) (below4 (below4 HB.out A4.out.1 (.int .u64 (E : Nat)) (.slice (sa.a 0) (sa.n 0) (sa.c 0)) (.slice (sa.a 1) (sa.n 1) (sa.c 1)) (.slice (sa.a 2) (sa.n 2) (sa.c 2))) A5.out.1 (.int .u64 (F : Nat)) (.slice (sb.a 0) (sb.n 0) (sb.c 0)) (.slice (sb.a 1) (sb.n 1) (sb.c 1)) (.slice (sb.a 2) (sb.n 2) (sb.c 2)))
      · refine step_value_g (by rfl) (.pointer (some ⟨V2.heap.size, 0, none⟩)) (w' := V2.alloc (.cells #[.int .u64 0, .slice none 0 0, .slice none 0 0, .slice none 0 0] 26)) (by go_simp) ?_
        have hC : Below V2.heap.size V2 (V2.alloc (.cells #[.int .u64 0, .slice none 0 0, .slice none 0 0, .slice none 0 0] 26)) := Rows8.newB
        have A4' : Hid (W0.heap.size ≤ V2.heap.size ∧ Rows8 (V2.alloc (.cells #[.int .u64 0, .slice none 0 0, .slice none 0 0, .slice none 0 0] 26)) V2.heap.size 26 #[.int .u64 0, .slice none 0 0, .slice none 0 0, .slice none 0 0]) := Lib.hid ⟨HB.out.size, Rows8.new _ _ _⟩
        have hne : Hid (b5 ≠ V2.heap.size) := Lib.hid (Nat.ne_of_lt A5.out.2.lt)
        have HI := Lib.hid (HI.out.below hC)
        have HQ := Lib.hid (HQ.out.below hC)
        have HB := Lib.hid (HB.out.trans (hC.mono HB.out.size))
        have O1 := Lib.hid (O1.out.below hC)
        have A5 := Lib.hid (And.intro A5.out.1 (A5.out.2.below hC A5.out.2.lt))
        have A4 := A4'
        have hS0 : Rows8 (V2.alloc (.cells #[.int .u64 0, .slice none 0 0, .slice none 0 0, .slice none 0 0] 26)) b1 26 #[.int .u64 (E : Nat), .slice (s.a 0) (s.n 0) (s.c 0), .slice (s.a 1) (s.n 1) (s.c 1), .slice (s.a 2) (s.n 2) (s.c 2)] ∧ Rows8 (V2.alloc (.cells #[.int .u64 0, .slice none 0 0, .slice none 0 0, .slice none 0 0] 26)) (b1 + 1) 26 #[.int .u64 (F : Nat), .slice (u.a 0) (u.n 0) (u.c 0), .slice (u.a 1) (u.n 1) (u.c 1), .slice (u.a 2) (u.n 2) (u.c 2)] := ⟨hS0.1.alloc _, hS0.2.alloc _⟩
        clear hC A4'
        generalize V2.alloc (.cells #[.int .u64 0, .slice none 0 0, .slice none 0 0, .slice none 0 0] 26) = V3 at *
        generalize V2.heap.size = b4 at *
        refine hK.out _ _ (fun _ => hS0) ?_
        clear hK K
        try simp only [Act.put, List.setIfInBounds_toArray, List.set_cons_zero, List.set_cons_succ]
        refine wpAnyL_one (i := 3) (o := { dst := some 28, op := Go.Op.call { callee := Go.Callee.value (Go.Operand.func 8), args := #[Go.Operand.tmp 27], argTypes := #[26] }, type := 26, pos := "law.go:50", after := #[{ on := 2, ground := Go.Ground.data }, { on := 1, ground := Go.Ground.chain }], guard := none }) (by kernel_rfl) rfl (fun K hK => ?_)
        refine step_call_g (by rfl) 8 _ _ rfl (fun _ _ => by kernel_rfl) #[.agg #[.int .u64 (F : Nat), .slice (u.a 0) (u.n 0) (u.c 0), .slice (u.a 1) (u.n 1) (u.c 1), .slice (u.a 2) (u.n 2) (u.c 2)]] (by simp [go_sem]) _ (Tryd.own_any F u q V3 HQ.out) ?_
        rintro e V4 ⟨sb, rfl, hO, hC⟩
        have O3' := Lib.hid (hO.mono (Nat.le_trans hN.out HB.out.size))
        have HI := Lib.hid (HI.out.below hC)
        have HQ := Lib.hid (HQ.out.below hC)
        have HB := Lib.hid (HB.out.trans (hC.mono HB.out.size))
        have O1 := Lib.hid (O1.out.below hC)
        have A4 := Lib.hid (And.intro A4.out.1 (A4.out.2.below hC A4.out.2.lt))
        have A5 := Lib.hid (And.intro A5.out.1 (A5.out.2.below hC A5.out.2.lt))
        have O3 := O3'
        have hS0 : Rows8 V4 b1 26 #[.int .u64 (E : Nat), .slice (s.a 0) (s.n 0) (s.c 0), .slice (s.a 1) (s.n 1) (s.c 1), .slice (s.a 2) (s.n 2) (s.c 2)] ∧ Rows8 V4 (b1 + 1) 26 #[.int .u64 (F : Nat), .slice (u.a 0) (u.n 0) (u.c 0), .slice (u.a 1) (u.n 1) (u.c 1), .slice (u.a 2) (u.n 2) (u.c 2)] := ⟨hS0.1.below hC hS0.1.lt, hS0.2.below hC hS0.2.lt⟩
        clear hO hC O3'
        refine ⟨_, rfl, ?_⟩
        refine hK.out _ _ (fun _ => hS0) ?_
        clear hK K
        try simp only [Act.put, List.setIfInBounds_toArray, List.set_cons_zero, List.set_cons_succ]
        have h45 := (Ne.symm hne.out)
        have r4 := A4.out.2
        have r5 := A5.out.2
        refine wpAnyL_one (i := 6) (o := { dst := none, op := Go.Op.store 26 (Go.Operand.tmp 7) (Go.Operand.tmp 26), type := 0, pos := "law.go:50", after := #[{ on := 4, ground := Go.Ground.data }, { on := 1, ground := Go.Ground.data }, { on := 3, ground := Go.Ground.chain }, { on := 0, ground := Go.Ground.phase }, { on := 1, ground := Go.Ground.phase }, { on := 2, ground := Go.Ground.textOnly Go.Departure.lateStores }, { on := 3, ground := Go.Ground.textOnly Go.Departure.lateStoresUnsure }, { on := 4, ground := Go.Ground.phase }, { on := 5, ground := Go.Ground.phase }], guard := none }) (by kernel_rfl) rfl (fun K hK => ?_)
        have ck0 : V4.cell? ⟨b4, 0, none⟩ = some (.int .u64 0) := r4.cell 0
        have fk0 := r4.frozen 0
        have ck1 : V4.cell? ⟨b4, 1, none⟩ = some (.slice none 0 0) := r4.cell 1
        have fk1 := r4.frozen 1
        have ck2 : V4.cell? ⟨b4, 2, none⟩ = some (.slice none 0 0) := r4.cell 2
        have fk2 := r4.frozen 2
        have ck3 : V4.cell? ⟨b4, 3, none⟩ = some (.slice none 0 0) := r4.cell 3
        have fk3 := r4.frozen 3
        have lk := r4.lt
        refine step_skip_g (by rfl) (w' := ((((V4.setCell ⟨b4, 0, none⟩ (.int .u64 (E : Nat))).setCell ⟨b4, 1, none⟩ (.slice (sa.a 0) (sa.n 0) (sa.c 0))).setCell ⟨b4, 2, none⟩ (.slice (sa.a 1) (sa.n 1) (sa.c 1))).setCell ⟨b4, 3, none⟩ (.slice (sa.a 2) (sa.n 2) (sa.c 2)))) (by go_simp) ?_
        have r4s := rows4 r4 (.int .u64 (E : Nat)) (.slice (sa.a 0) (sa.n 0) (sa.c 0)) (.slice (sa.a 1) (sa.n 1) (sa.c 1)) (.slice (sa.a 2) (sa.n 2) (sa.c 2))
        have r5s := r5.oth4 h45 (.int .u64 (E : Nat)) (.slice (sa.a 0) (sa.n 0) (sa.c 0)) (.slice (sa.a 1) (sa.n 1) (sa.c 1)) (.slice (sa.a 2) (sa.n 2) (sa.c 2))
        clear ck0 ck1 ck2 ck3 fk0 fk1 fk2 fk3 lk
        refine hK.out _ _ (fun h => absurd h (by decide)) ?_
        clear hK K
        try simp only [Act.put, List.setIfInBounds_toArray, List.set_cons_zero, List.set_cons_succ]
        refine wpAnyL_one (i := 7) (o := { dst := none, op := Go.Op.store 26 (Go.Operand.tmp 8) (Go.Operand.tmp 28), type := 0, pos := "law.go:50", after := #[{ on := 5, ground := Go.Ground.data }, { on := 3, ground := Go.Ground.data }, { on := 6, ground := Go.Ground.chain }, { on := 0, ground := Go.Ground.phase }, { on := 1, ground := Go.Ground.phase }, { on := 2, ground := Go.Ground.phase }, { on := 3, ground := Go.Ground.phase }, { on := 4, ground := Go.Ground.phase }, { on := 5, ground := Go.Ground.phase }, { on := 6, ground := Go.Ground.phase }], guard := none }) (by kernel_rfl) rfl (fun K hK => ?_)
        have ck0 : ((((V4.setCell ⟨b4, 0, none⟩ (.int .u64 (E : Nat))).setCell ⟨b4, 1, none⟩ (.slice (sa.a 0) (sa.n 0) (sa.c 0))).setCell ⟨b4, 2, none⟩ (.slice (sa.a 1) (sa.n 1) (sa.c 1))).setCell ⟨b4, 3, none⟩ (.slice (sa.a 2) (sa.n 2) (sa.c 2))).cell? ⟨b5, 0, none⟩ = some (.int .u64 0) := r5s.cell 0
        have fk0 := r5s.frozen 0
        have ck1 : ((((V4.setCell ⟨b4, 0, none⟩ (.int .u64 (E : Nat))).setCell ⟨b4, 1, none⟩ (.slice (sa.a 0) (sa.n 0) (sa.c 0))).setCell ⟨b4, 2, none⟩ (.slice (sa.a 1) (sa.n 1) (sa.c 1))).setCell ⟨b4, 3, none⟩ (.slice (sa.a 2) (sa.n 2) (sa.c 2))).cell? ⟨b5, 1, none⟩ = some (.slice none 0 0) := r5s.cell 1
        have fk1 := r5s.frozen 1
        have ck2 : ((((V4.setCell ⟨b4, 0, none⟩ (.int .u64 (E : Nat))).setCell ⟨b4, 1, none⟩ (.slice (sa.a 0) (sa.n 0) (sa.c 0))).setCell ⟨b4, 2, none⟩ (.slice (sa.a 1) (sa.n 1) (sa.c 1))).setCell ⟨b4, 3, none⟩ (.slice (sa.a 2) (sa.n 2) (sa.c 2))).cell? ⟨b5, 2, none⟩ = some (.slice none 0 0) := r5s.cell 2
        have fk2 := r5s.frozen 2
        have ck3 : ((((V4.setCell ⟨b4, 0, none⟩ (.int .u64 (E : Nat))).setCell ⟨b4, 1, none⟩ (.slice (sa.a 0) (sa.n 0) (sa.c 0))).setCell ⟨b4, 2, none⟩ (.slice (sa.a 1) (sa.n 1) (sa.c 1))).setCell ⟨b4, 3, none⟩ (.slice (sa.a 2) (sa.n 2) (sa.c 2))).cell? ⟨b5, 3, none⟩ = some (.slice none 0 0) := r5s.cell 3
        have fk3 := r5s.frozen 3
        have lk := r5s.lt
        refine step_skip_g (by rfl) (w' := ((((((((V4.setCell ⟨b4, 0, none⟩ (.int .u64 (E : Nat))).setCell ⟨b4, 1, none⟩ (.slice (sa.a 0) (sa.n 0) (sa.c 0))).setCell ⟨b4, 2, none⟩ (.slice (sa.a 1) (sa.n 1) (sa.c 1))).setCell ⟨b4, 3, none⟩ (.slice (sa.a 2) (sa.n 2) (sa.c 2))).setCell ⟨b5, 0, none⟩ (.int .u64 (F : Nat))).setCell ⟨b5, 1, none⟩ (.slice (sb.a 0) (sb.n 0) (sb.c 0))).setCell ⟨b5, 2, none⟩ (.slice (sb.a 1) (sb.n 1) (sb.c 1))).setCell ⟨b5, 3, none⟩ (.slice (sb.a 2) (sb.n 2) (sb.c 2)))) (by go_simp) ?_
        refine hK.out _ _ (fun h => absurd h (by decide)) ?_
        clear hK K
        try simp only [Act.put, List.setIfInBounds_toArray, List.set_cons_zero, List.set_cons_succ]
        refine wpAnyL_end (by kernel_rfl) ?_
        exact HK.out b4 b5 sa sb _ _ _ _ _ A4.out.1 A5.out.1 h45 (r4s.oth4 (Ne.symm h45) (.int .u64 (F : Nat)) (.slice (sb.a 0) (sb.n 0) (sb.c 0)) (.slice (sb.a 1) (sb.n 1) (sb.c 1)) (.slice (sb.a 2) (sb.n 2) (sb.c 2))) (rows4 r5s (.int .u64 (F : Nat)) (.slice (sb.a 0) (sb.n 0) (sb.c 0)) (.slice (sb.a 1) (sb.n 1) (sb.c 1)) (.slice (sb.a 2) (sb.n 2) (sb.c 2))) (LO.setT (LO.setT O1.out r4 (.int .u64 (E : Nat)) (.slice (sa.a 0) (sa.n 0) (sa.c 0)) (.slice (sa.a 1) (sa.n 1) (sa.c 1)) (.slice (sa.a 2) (sa.n 2) (sa.c 2))) r5s (.int .u64 (F : Nat)) (.slice (sb.a 0) (sb.n 0) (sb.c 0)) (.slice (sb.a 1) (sb.n 1) (sb.c 1)) (.slice (sb.a 2) (sb.n 2) (sb.c 2))) (LO.setT (LO.setT O3.out r4 (.int .u64 (E : Nat)) (.slice (sa.a 0) (sa.n 0) (sa.c 0)) (.slice (sa.a 1) (sa.n 1) (sa.c 1)) (.slice (sa.a 2) (sa.n 2) (sa.c 2))) r5s (.int .u64 (F : Nat)) (.slice (sb.a 0) (sb.n 0) (sb.c 0)) (.slice (sb.a 1) (sb.n 1) (sb.c 1)) (.slice (sb.a 2) (sb.n 2) (sb.c 2))) (below4 (below4 HB.out A4.out.1 (.int .u64 (E : Nat)) (.slice (sa.a 0) (sa.n 0) (sa.c 0)) (.slice (sa.a 1) (sa.n 1) (sa.c 1)) (.slice (sa.a 2) (sa.n 2) (sa.c 2))) A5.out.1 (.int .u64 (F : Nat)) (.slice (sb.a 0) (sb.n 0) (sb.c 0)) (.slice (sb.a 1) (sb.n 1) (sb.c 1)) (.slice (sb.a 2) (sb.n 2) (sb.c 2)))
    · refine step_value_g (by rfl) (.pointer (some ⟨V1.heap.size, 0, none⟩)) (w' := V1.alloc (.cells #[.int .u64 0, .slice none 0 0, .slice none 0 0, .slice none 0 0] 26)) (by go_simp) ?_
      have hC : Below V1.heap.size V1 (V1.alloc (.cells #[.int .u64 0, .slice none 0 0, .slice none 0 0, .slice none 0 0] 26)) := Rows8.newB
      have A4' : Hid (W0.heap.size ≤ V1.heap.size ∧ Rows8 (V1.alloc (.cells #[.int .u64 0, .slice none 0 0, .slice none 0 0, .slice none 0 0] 26)) V1.heap.size 26 #[.int .u64 0, .slice none 0 0, .slice none 0 0, .slice none 0 0]) := Lib.hid ⟨HB.out.size, Rows8.new _ _ _⟩
      have hne : Hid (b5 ≠ V1.heap.size) := Lib.hid (Nat.ne_of_lt A5.out.2.lt)
      have HI := Lib.hid (HI.out.below hC)
      have HQ := Lib.hid (HQ.out.below hC)
      have HB := Lib.hid (HB.out.trans (hC.mono HB.out.size))
      have A5 := Lib.hid (And.intro A5.out.1 (A5.out.2.below hC A5.out.2.lt))
      have A4 := A4'
      have hS0 : Rows8 (V1.alloc (.cells #[.int .u64 0, .slice none 0 0, .slice none 0 0, .slice none 0 0] 26)) b1 26 #[.int .u64 (E : Nat), .slice (s.a 0) (s.n 0) (s.c 0), .slice (s.a 1) (s.n 1) (s.c 1), .slice (s.a 2) (s.n 2) (s.c 2)] ∧ Rows8 (V1.alloc (.cells #[.int .u64 0, .slice none 0 0, .slice none 0 0, .slice none 0 0] 26)) (b1 + 1) 26 #[.int .u64 (F : Nat), .slice (u.a 0) (u.n 0) (u.c 0), .slice (u.a 1) (u.n 1) (u.c 1), .slice (u.a 2) (u.n 2) (u.c 2)] := ⟨hS0.1.alloc _, hS0.2.alloc _⟩
      clear hC A4'
      generalize V1.alloc (.cells #[.int .u64 0, .slice none 0 0, .slice none 0 0, .slice none 0 0] 26) = V2 at *
      generalize V1.heap.size = b4 at *
      refine hK.out _ _ (fun _ => hS0) ?_
      clear hK K
      try simp only [Act.put, List.setIfInBounds_toArray, List.set_cons_zero, List.set_cons_succ]
      refine wpAnyL_one (i := 1) (o := { dst := some 26, op := Go.Op.call { callee := Go.Callee.value (Go.Operand.func 8), args := #[Go.Operand.tmp 25], argTypes := #[26] }, type := 26, pos := "law.go:50", after := #[{ on := 0, ground := Go.Ground.data }], guard := none }) (by kernel_rfl) rfl (fun K hK => ?_)
      refine step_call_g (by rfl) 8 _ _ rfl (fun _ _ => by kernel_rfl) #[.agg #[.int .u64 (E : Nat), .slice (s.a 0) (s.n 0) (s.c 0), .slice (s.a 1) (s.n 1) (s.c 1), .slice (s.a 2) (s.n 2) (s.c 2)]] (by simp [go_sem]) _ (Tryd.own_any E s r V2 HI.out) ?_
      rintro e V3 ⟨sa, rfl, hO, hC⟩
      have O1' := Lib.hid (hO.mono (Nat.le_trans hN.out HB.out.size))
      have HI := Lib.hid (HI.out.below hC)
      have HQ := Lib.hid (HQ.out.below hC)
      have HB := Lib.hid (HB.out.trans (hC.mono HB.out.size))
      have A4 := Lib.hid (And.intro A4.out.1 (A4.out.2.below hC A4.out.2.lt))
      have A5 := Lib.hid (And.intro A5.out.1 (A5.out.2.below hC A5.out.2.lt))
      have O1 := O1'
      have hS0 : Rows8 V3 b1 26 #[.int .u64 (E : Nat), .slice (s.a 0) (s.n 0) (s.c 0), .slice (s.a 1) (s.n 1) (s.c 1), .slice (s.a 2) (s.n 2) (s.c 2)] ∧ Rows8 V3 (b1 + 1) 26 #[.int .u64 (F : Nat), .slice (u.a 0) (u.n 0) (u.c 0), .slice (u.a 1) (u.n 1) (u.c 1), .slice (u.a 2) (u.n 2) (u.c 2)] := ⟨hS0.1.below hC hS0.1.lt, hS0.2.below hC hS0.2.lt⟩
      clear hO hC O1'
      refine ⟨_, rfl, ?_⟩
      refine hK.out _ _ (fun _ => hS0) ?_
      clear hK K
      try simp only [Act.put, List.setIfInBounds_toArray, List.set_cons_zero, List.set_cons_succ]
      refine wpAnyL_one (i := 3) (o := { dst := some 28, op := Go.Op.call { callee := Go.Callee.value (Go.Operand.func 8), args := #[Go.Operand.tmp 27], argTypes := #[26] }, type := 26, pos := "law.go:50", after := #[{ on := 2, ground := Go.Ground.data }, { on := 1, ground := Go.Ground.chain }], guard := none }) (by kernel_rfl) rfl (fun K hK => ?_)
      refine step_call_g (by rfl) 8 _ _ rfl (fun _ _ => by kernel_rfl) #[.agg #[.int .u64 (F : Nat), .slice (u.a 0) (u.n 0) (u.c 0), .slice (u.a 1) (u.n 1) (u.c 1), .slice (u.a 2) (u.n 2) (u.c 2)]] (by simp [go_sem]) _ (Tryd.own_any F u q V3 HQ.out) ?_
      rintro e V4 ⟨sb, rfl, hO, hC⟩
      have O3' := Lib.hid (hO.mono (Nat.le_trans hN.out HB.out.size))
      have HI := Lib.hid (HI.out.below hC)
      have HQ := Lib.hid (HQ.out.below hC)
      have HB := Lib.hid (HB.out.trans (hC.mono HB.out.size))
      have O1 := Lib.hid (O1.out.below hC)
      have A4 := Lib.hid (And.intro A4.out.1 (A4.out.2.below hC A4.out.2.lt))
      have A5 := Lib.hid (And.intro A5.out.1 (A5.out.2.below hC A5.out.2.lt))
      have O3 := O3'
      have hS0 : Rows8 V4 b1 26 #[.int .u64 (E : Nat), .slice (s.a 0) (s.n 0) (s.c 0), .slice (s.a 1) (s.n 1) (s.c 1), .slice (s.a 2) (s.n 2) (s.c 2)] ∧ Rows8 V4 (b1 + 1) 26 #[.int .u64 (F : Nat), .slice (u.a 0) (u.n 0) (u.c 0), .slice (u.a 1) (u.n 1) (u.c 1), .slice (u.a 2) (u.n 2) (u.c 2)] := ⟨hS0.1.below hC hS0.1.lt, hS0.2.below hC hS0.2.lt⟩
      clear hO hC O3'
      refine ⟨_, rfl, ?_⟩
      refine hK.out _ _ (fun _ => hS0) ?_
      clear hK K
      try simp only [Act.put, List.setIfInBounds_toArray, List.set_cons_zero, List.set_cons_succ]
      have h45 := (Ne.symm hne.out)
      have r4 := A4.out.2
      have r5 := A5.out.2
      refine wpAnyL_one (i := 6) (o := { dst := none, op := Go.Op.store 26 (Go.Operand.tmp 7) (Go.Operand.tmp 26), type := 0, pos := "law.go:50", after := #[{ on := 4, ground := Go.Ground.data }, { on := 1, ground := Go.Ground.data }, { on := 3, ground := Go.Ground.chain }, { on := 0, ground := Go.Ground.phase }, { on := 1, ground := Go.Ground.phase }, { on := 2, ground := Go.Ground.textOnly Go.Departure.lateStores }, { on := 3, ground := Go.Ground.textOnly Go.Departure.lateStoresUnsure }, { on := 4, ground := Go.Ground.phase }, { on := 5, ground := Go.Ground.phase }], guard := none }) (by kernel_rfl) rfl (fun K hK => ?_)
      have ck0 : V4.cell? ⟨b4, 0, none⟩ = some (.int .u64 0) := r4.cell 0
      have fk0 := r4.frozen 0
      have ck1 : V4.cell? ⟨b4, 1, none⟩ = some (.slice none 0 0) := r4.cell 1
      have fk1 := r4.frozen 1
      have ck2 : V4.cell? ⟨b4, 2, none⟩ = some (.slice none 0 0) := r4.cell 2
      have fk2 := r4.frozen 2
      have ck3 : V4.cell? ⟨b4, 3, none⟩ = some (.slice none 0 0) := r4.cell 3
      have fk3 := r4.frozen 3
      have lk := r4.lt
      refine step_skip_g (by rfl) (w' := ((((V4.setCell ⟨b4, 0, none⟩ (.int .u64 (E : Nat))).setCell ⟨b4, 1, none⟩ (.slice (sa.a 0) (sa.n 0) (sa.c 0))).setCell ⟨b4, 2, none⟩ (.slice (sa.a 1) (sa.n 1) (sa.c 1))).setCell ⟨b4, 3, none⟩ (.slice (sa.a 2) (sa.n 2) (sa.c 2)))) (by go_simp) ?_
      have r4s := rows4 r4 (.int .u64 (E : Nat)) (.slice (sa.a 0) (sa.n 0) (sa.c 0)) (.slice (sa.a 1) (sa.n 1) (sa.c 1)) (.slice (sa.a 2) (sa.n 2) (sa.c 2))
      have r5s := r5.oth4 h45 (.int .u64 (E : Nat)) (.slice (sa.a 0) (sa.n 0) (sa.c 0)) (.slice (sa.a 1) (sa.n 1) (sa.c 1)) (.slice (sa.a 2) (sa.n 2) (sa.c 2))
      clear ck0 ck1 ck2 ck3 fk0 fk1 fk2 fk3 lk
      refine hK.out _ _ (fun h => absurd h (by decide)) ?_
      clear hK K
      try simp only [Act.put, List.setIfInBounds_toArray, List.set_cons_zero, List.set_cons_succ]
      refine wpAnyL_one (i := 7) (o := { dst := none, op := Go.Op.store 26 (Go.Operand.tmp 8) (Go.Operand.tmp 28), type := 0, pos := "law.go:50", after := #[{ on := 5, ground := Go.Ground.data }, { on := 3, ground := Go.Ground.data }, { on := 6, ground := Go.Ground.chain }, { on := 0, ground := Go.Ground.phase }, { on := 1, ground := Go.Ground.phase }, { on := 2, ground := Go.Ground.phase }, { on := 3, ground := Go.Ground.phase }, { on := 4, ground := Go.Ground.phase }, { on := 5, ground := Go.Ground.phase }, { on := 6, ground := Go.Ground.phase }], guard := none }) (by kernel_rfl) rfl (fun K hK => ?_)
      have ck0 : ((((V4.setCell ⟨b4, 0, none⟩ (.int .u64 (E : Nat))).setCell ⟨b4, 1, none⟩ (.slice (sa.a 0) (sa.n 0) (sa.c 0))).setCell ⟨b4, 2, none⟩ (.slice (sa.a 1) (sa.n 1) (sa.c 1))).setCell ⟨b4, 3, none⟩ (.slice (sa.a 2) (sa.n 2) (sa.c 2))).cell? ⟨b5, 0, none⟩ = some (.int .u64 0) := r5s.cell 0
      have fk0 := r5s.frozen 0
      have ck1 : ((((V4.setCell ⟨b4, 0, none⟩ (.int .u64 (E : Nat))).setCell ⟨b4, 1, none⟩ (.slice (sa.a 0) (sa.n 0) (sa.c 0))).setCell ⟨b4, 2, none⟩ (.slice (sa.a 1) (sa.n 1) (sa.c 1))).setCell ⟨b4, 3, none⟩ (.slice (sa.a 2) (sa.n 2) (sa.c 2))).cell? ⟨b5, 1, none⟩ = some (.slice none 0 0) := r5s.cell 1
      have fk1 := r5s.frozen 1
      have ck2 : ((((V4.setCell ⟨b4, 0, none⟩ (.int .u64 (E : Nat))).setCell ⟨b4, 1, none⟩ (.slice (sa.a 0) (sa.n 0) (sa.c 0))).setCell ⟨b4, 2, none⟩ (.slice (sa.a 1) (sa.n 1) (sa.c 1))).setCell ⟨b4, 3, none⟩ (.slice (sa.a 2) (sa.n 2) (sa.c 2))).cell? ⟨b5, 2, none⟩ = some (.slice none 0 0) := r5s.cell 2
      have fk2 := r5s.frozen 2
      have ck3 : ((((V4.setCell ⟨b4, 0, none⟩ (.int .u64 (E : Nat))).setCell ⟨b4, 1, none⟩ (.slice (sa.a 0) (sa.n 0) (sa.c 0))).setCell ⟨b4, 2, none⟩ (.slice (sa.a 1) (sa.n 1) (sa.c 1))).setCell ⟨b4, 3, none⟩ (.slice (sa.a 2) (sa.n 2) (sa.c 2))).cell? ⟨b5, 3, none⟩ = some (.slice none 0 0) := r5s.cell 3
      have fk3 := r5s.frozen 3
      have lk := r5s.lt
      refine step_skip_g (by rfl) (w' := ((((((((V4.setCell ⟨b4, 0, none⟩ (.int .u64 (E : Nat))).setCell ⟨b4, 1, none⟩ (.slice (sa.a 0) (sa.n 0) (sa.c 0))).setCell ⟨b4, 2, none⟩ (.slice (sa.a 1) (sa.n 1) (sa.c 1))).setCell ⟨b4, 3, none⟩ (.slice (sa.a 2) (sa.n 2) (sa.c 2))).setCell ⟨b5, 0, none⟩ (.int .u64 (F : Nat))).setCell ⟨b5, 1, none⟩ (.slice (sb.a 0) (sb.n 0) (sb.c 0))).setCell ⟨b5, 2, none⟩ (.slice (sb.a 1) (sb.n 1) (sb.c 1))).setCell ⟨b5, 3, none⟩ (.slice (sb.a 2) (sb.n 2) (sb.c 2)))) (by go_simp) ?_
      refine hK.out _ _ (fun h => absurd h (by decide)) ?_
      clear hK K
      try simp only [Act.put, List.setIfInBounds_toArray, List.set_cons_zero, List.set_cons_succ]
      refine wpAnyL_end (by kernel_rfl) ?_
      exact HK.out b4 b5 sa sb _ _ _ _ _ A4.out.1 A5.out.1 h45 (r4s.oth4 (Ne.symm h45) (.int .u64 (F : Nat)) (.slice (sb.a 0) (sb.n 0) (sb.c 0)) (.slice (sb.a 1) (sb.n 1) (sb.c 1)) (.slice (sb.a 2) (sb.n 2) (sb.c 2))) (rows4 r5s (.int .u64 (F : Nat)) (.slice (sb.a 0) (sb.n 0) (sb.c 0)) (.slice (sb.a 1) (sb.n 1) (sb.c 1)) (.slice (sb.a 2) (sb.n 2) (sb.c 2))) (LO.setT (LO.setT O1.out r4 (.int .u64 (E : Nat)) (.slice (sa.a 0) (sa.n 0) (sa.c 0)) (.slice (sa.a 1) (sa.n 1) (sa.c 1)) (.slice (sa.a 2) (sa.n 2) (sa.c 2))) r5s (.int .u64 (F : Nat)) (.slice (sb.a 0) (sb.n 0) (sb.c 0)) (.slice (sb.a 1) (sb.n 1) (sb.c 1)) (.slice (sb.a 2) (sb.n 2) (sb.c 2))) (LO.setT (LO.setT O3.out r4 (.int .u64 (E : Nat)) (.slice (sa.a 0) (sa.n 0) (sa.c 0)) (.slice (sa.a 1) (sa.n 1) (sa.c 1)) (.slice (sa.a 2) (sa.n 2) (sa.c 2))) r5s (.int .u64 (F : Nat)) (.slice (sb.a 0) (sb.n 0) (sb.c 0)) (.slice (sb.a 1) (sb.n 1) (sb.c 1)) (.slice (sb.a 2) (sb.n 2) (sb.c 2))) (below4 (below4 HB.out A4.out.1 (.int .u64 (E : Nat)) (.slice (sa.a 0) (sa.n 0) (sa.c 0)) (.slice (sa.a 1) (sa.n 1) (sa.c 1)) (.slice (sa.a 2) (sa.n 2) (sa.c 2))) A5.out.1 (.int .u64 (F : Nat)) (.slice (sb.a 0) (sb.n 0) (sb.c 0)) (.slice (sb.a 1) (sb.n 1) (sb.c 1)) (.slice (sb.a 2) (sb.n 2) (sb.c 2)))
end Go.Proofs
