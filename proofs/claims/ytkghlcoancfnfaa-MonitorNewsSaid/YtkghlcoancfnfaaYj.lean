import Derived.Test.YtkghlcoancfnfaaYb

/- Monitor: regions 5, 6, 7 of wakes. -/
namespace Go.Proofs
set_option maxRecDepth 100000
open Go.RowKit Go.Shelf
attribute [local go_sem] Oper.semAt_some

theorem modify_self {α : Type} {h : Array α} {B : Nat} {f : α → α} {o : α} (hh : h[B]? = some o) (hf : f o = o) : h.modify B f = h := by
  apply Array.ext (by simp)
  intro i h1 h2
  rw [Array.getElem_modify]
  split
  · rename_i e
    subst e
    rw [Array.getElem?_eq_getElem h2] at hh
    rw [Option.some.inj hh]
    exact hf
  · rfl
/-- A cell that is written with what it holds. -/
theorem Rows8.setSelf {W : World} {B : Nat} {t : TypeId} {cs : Array Value} (r : Rows8 W B t cs) (k : Nat) (v : Value) (h : cs[k]? = some v) : W.setCell ⟨B, k, none⟩ v = W := by
  have hh : W.heap[B]? = some (.cells cs t (0, 0)) := r
  have hcs : cs.setIfInBounds k v = cs := by
    apply Array.ext (by simp)
    intro i h1 h2
    rw [Array.getElem_setIfInBounds]
    split
    · rename_i e
      subst e
      rw [Array.getElem?_eq_getElem h2] at h
      exact (Option.some.inj h).symm
    · rfl
  unfold World.setCell
  have e := modify_self hh (f := fun
      | .cells c elem frozen => .cells (if (⟨B, k, none⟩ : Addr).spot.isSome then c else c.setIfInBounds (⟨B, k, none⟩ : Addr).off v) elem frozen
      | o => o) (by simp [hcs])
  cases W
  exact congrArg (fun h => World.mk h _ _ _ _) e
/-- What lies there ahead of such a region, and all along it. -/
structure WkC (k0 BS BX : Nat) (m : Mn) (y : Mv) (vs : List Value) (W0 W : World) : Prop where
  r1 : Rows8 W BX 38 #[.int .i64 0, .int .u64 0]
  r3 : Rows8 W BS 29 #[.slice y.sa y.sn y.sc, .slice y.pa y.pn y.pc, .slice y.ha y.hn y.hc, .slice y.ba y.bn y.bc]
  o : OwnMon k0 y m vs W
  bl : Below W0.heap.size W0 W
theorem WkC.below {k0 BS BX : Nat} {m : Mn} {y : Mv} {vs : List Value} {W0 A B : World} (h : WkC k0 BS BX m y vs W0 A) (hB : Below A.heap.size A B) : WkC k0 BS BX m y vs W0 B :=
  ⟨h.r1.below hB h.r1.lt, h.r3.below hB h.r3.lt, h.o.below hB (Nat.le_refl _), h.bl.trans (hB.mono h.bl.size)⟩
theorem WkC.drew {k0 BS BX : Nat} {m : Mn} {y : Mv} {vs : List Value} {W0 A : World} (h : WkC k0 BS BX m y vs W0 A) : WkC k0 BS BX m y vs W0 A.drew :=
  ⟨h.r1.drewA, h.r3.drewA, h.o.drew, h.bl.drew⟩
/-- What the operations of such a region bring. -/
def wkG (k0 N0 : Nat) (y : Mv) (wa : Value) (m2 : Mn) (er : Int) (j : Nat) (x : Value) (W : World) : Prop :=
  match j with
  | 0 => x = .agg #[.slice y.sa y.sn y.sc, .slice y.pa y.pn y.pc, .slice y.ha y.hn y.hc, .slice y.ba y.bn y.bc]
  | 1 => x = .agg #[.int .i64 0, .int .u64 0]
  | 2 => x = wa
  | 3 => ∃ (y2 : Mv) (vs2 : List Value), x = .tuple #[.agg #[.slice y2.sa y2.sn y2.sc, .slice y2.pa y2.pn y2.pc, .slice y2.ha y2.hn y2.hc, .slice y2.ba y2.bn y2.bc], .agg #[.int .i64 0, .int .u64 0], .int .i64 er] ∧ OwnMon k0 y2 m2 vs2 W
  | 4 => ∃ (y2 : Mv) (vs2 : List Value), x = .tuple #[.agg #[.slice y2.sa y2.sn y2.sc, .slice y2.pa y2.pn y2.pc, .slice y2.ha y2.hn y2.hc, .slice y2.ba y2.bn y2.bc], .agg #[.int .i64 0, .int .u64 0], .int .i64 er] ∧ OwnMon k0 y2 m2 vs2 W
  | 5 => ∃ (y2 : Mv) (vs2 : List Value), x = .agg #[.slice y2.sa y2.sn y2.sc, .slice y2.pa y2.pn y2.pc, .slice y2.ha y2.hn y2.hc, .slice y2.ba y2.bn y2.bc] ∧ OwnMon k0 y2 m2 vs2 W
  | 6 => x = .agg #[.int .i64 0, .int .u64 0]
  | 7 => x = .int .i64 er
  | 8 => ∃ b, x = .pointer (some ⟨b, 0, none⟩) ∧ N0 ≤ b ∧ Rows8 W b 29 #[.slice none 0 0, .slice none 0 0, .slice none 0 0, .slice none 0 0]
  | 9 => ∃ b, x = .pointer (some ⟨b, 0, none⟩) ∧ N0 ≤ b ∧ Rows8 W b 38 #[.int .i64 0, .int .u64 0]
  | _ => True
theorem wkG_st {k0 N0 : Nat} {y : Mv} {wa : Value} {m2 : Mn} {er : Int} {j : Nat} {x : Value} {W W' : World} (h : wkG k0 N0 y wa m2 er j x W) (hR : Below W.heap.size W W') : wkG k0 N0 y wa m2 er j x W' :=
  match j, h with
  | 0, h => h
  | 1, h => h
  | 2, h => h
  | 3, ⟨y2, vs2, e, h1⟩ => ⟨y2, vs2, e, h1.below hR (Nat.le_refl _)⟩
  | 4, ⟨y2, vs2, e, h1⟩ => ⟨y2, vs2, e, h1.below hR (Nat.le_refl _)⟩
  | 5, ⟨y2, vs2, e, h1⟩ => ⟨y2, vs2, e, h1.below hR (Nat.le_refl _)⟩
  | 6, h => h
  | 7, h => h
  | 8, ⟨b, e, h3, h⟩ => ⟨b, e, h3, h.below hR h.lt⟩
  | 9, ⟨b, e, h3, h⟩ => ⟨b, e, h3, h.below hR h.lt⟩
  | _ + 10, _ => trivial
set_option maxHeartbeats 64000000 in
theorem Try.wk_r5 {s0 s2 s4 s5 s6 s7 s8 s9 s13 s14 s15 s16 s17 s18 s19 s20 s21 s22 s23 s24 s25 s26 s27 s28 s29 s30 s31 s32 s33 s34 s35 s36 s37 s38 s39 s40 s41 s42 s43 s44 s45 s46 s47 s48 s49 s50 s51 s52 s53 s54 s63 s64 s65 s66 s67 s68 s69 s70 s71 s72 s73 s74 s75 s76 s77 s78 s79 s80 s81 s82 s83 s84 s85 s86 s87 s88 s89 s90 s91 s92 s93 s94 s95 s96 s97 s98 s99 s100 s101 s102 s103 s104 s105 s106 s107 s108 s109 s110 s111 s112 s113 s114 s115 s116 s117 s118 s119 s120 s121 s122 s123 s124 s125 s126 s127 s128 s129 s130 s131 s132 s133 s134 s135 s136 s137 s138 s139 s140 s141 s142 s143 s144 s145 s146 s147 s148 s149 s150 : Value} (k0 BS BX : Nat) (y : Mv) (vs : List Value) (W0 : World) (Q : Exit → Act → World → Prop)
    (HWA : ∀ (k g : Int) (W : World), Hid (Calls Try.prog 26 #[.int .i64 k, .int .i64 g, .agg #[.int .i64 0, .int .u64 0]] W fun e w' => e = .returned (.agg #[.int .i64 k, .int .i64 g, .int .i64 0, .int .u64 ((0 : Nat) : Int)]) ∧ Below W.heap.size W w'))
    (hk0 : Hid (k0 ≤ W0.heap.size)) (HBS : Hid (WkC k0 BS BX wk1 y vs W0 W0))
    (hQp : ∀ c d v a w, Q (.panic c) (Act.put a d v) w → Q (.panic c) a w)
    (HK : Hid (∀ (BN BE : Nat) (y2 : Mv) (vs2 : List Value) (z : Nat → Value) (W : World), W0.heap.size ≤ BN → Below W0.heap.size W0 W → Rows8 W BN 29 #[.slice y2.sa y2.sn y2.sc, .slice y2.pa y2.pn y2.pc, .slice y2.ha y2.hn y2.hc, .slice y2.ba y2.bn y2.bc] → OwnMon k0 y2 wk3 vs2 W → Q .normal ⟨(s0 :: .pointer (some ⟨BX, 0, none⟩) :: s2 :: .pointer (some ⟨BS, 0, none⟩) :: s4 :: s5 :: s6 :: s7 :: s8 :: s9 :: .pointer (some ⟨BN, 0, none⟩) :: .pointer (some ⟨BE, 0, none⟩) :: .int .i64 0 :: s13 :: s14 :: s15 :: s16 :: s17 :: s18 :: s19 :: s20 :: s21 :: s22 :: s23 :: s24 :: s25 :: s26 :: s27 :: s28 :: s29 :: s30 :: s31 :: s32 :: s33 :: s34 :: s35 :: s36 :: s37 :: s38 :: s39 :: s40 :: s41 :: s42 :: s43 :: s44 :: s45 :: s46 :: s47 :: s48 :: s49 :: s50 :: s51 :: s52 :: s53 :: s54 :: z 4 :: z 0 :: z 1 :: z 2 :: z 3 :: z 5 :: z 6 :: z 7 :: s63 :: s64 :: s65 :: s66 :: s67 :: s68 :: s69 :: s70 :: s71 :: s72 :: s73 :: s74 :: s75 :: s76 :: s77 :: s78 :: s79 :: s80 :: s81 :: s82 :: s83 :: s84 :: s85 :: s86 :: s87 :: s88 :: s89 :: s90 :: s91 :: s92 :: s93 :: s94 :: s95 :: s96 :: s97 :: s98 :: s99 :: s100 :: s101 :: s102 :: s103 :: s104 :: s105 :: s106 :: s107 :: s108 :: s109 :: s110 :: s111 :: s112 :: s113 :: s114 :: s115 :: s116 :: s117 :: s118 :: s119 :: s120 :: s121 :: s122 :: s123 :: s124 :: s125 :: s126 :: s127 :: s128 :: s129 :: s130 :: s131 :: s132 :: s133 :: s134 :: s135 :: s136 :: s137 :: s138 :: s139 :: s140 :: s141 :: s142 :: s143 :: s144 :: s145 :: s146 :: s147 :: s148 :: s149 :: s150 :: []).toArray, []⟩ W)) :
    (Code.region 5 #[{ dst := some 56, op := Go.Op.load 29 (Go.Operand.tmp 3), type := 29, pos := "law.go:24", after := #[], guard := none }, { dst := some 57, op := Go.Op.load 38 (Go.Operand.tmp 1), type := 38, pos := "law.go:24", after := #[], guard := none }, { dst := some 58, op := Go.Op.call { callee := Go.Callee.value (Go.Operand.func 26), args := #[Go.Operand.const (Go.Value.int Go.IntKind.i64 7), Go.Operand.const (Go.Value.int Go.IntKind.i64 0), Go.Operand.tmp 57], argTypes := #[3, 3, 38] }, type := 40, pos := "law.go:24", after := #[{ on := 1, ground := Go.Ground.data }], guard := none }, { dst := some 59, op := Go.Op.call { callee := Go.Callee.value (Go.Operand.func 24), args := #[Go.Operand.tmp 56, Go.Operand.tmp 58], argTypes := #[29, 40] }, type := 59, pos := "law.go:24", after := #[{ on := 0, ground := Go.Ground.data }, { on := 2, ground := Go.Ground.data }, { on := 2, ground := Go.Ground.chain }], guard := none }, { dst := some 55, op := Go.Op.move (Go.Operand.tmp 59), type := 59, pos := "law.go:24", after := #[{ on := 3, ground := Go.Ground.data }], guard := none }, { dst := some 60, op := Go.Op.extract (Go.Operand.tmp 55) 0, type := 29, pos := "law.go:24", after := #[{ on := 4, ground := Go.Ground.data }], guard := none }, { dst := some 61, op := Go.Op.extract (Go.Operand.tmp 55) 1, type := 38, pos := "law.go:24", after := #[{ on := 4, ground := Go.Ground.data }, { on := 10, ground := Go.Ground.gcOnly Go.Departure.lateStores }], guard := none }, { dst := some 62, op := Go.Op.extract (Go.Operand.tmp 55) 2, type := 33, pos := "law.go:24", after := #[{ on := 4, ground := Go.Ground.data }, { on := 11, ground := Go.Ground.gcOnly Go.Departure.lateStores }], guard := none }, { dst := some 10, op := Go.Op.alloc 29, type := 0, pos := "law.go:24", after := #[], guard := none }, { dst := some 11, op := Go.Op.alloc 38, type := 0, pos := "law.go:24", after := #[], guard := none }, { dst := none, op := Go.Op.store 29 (Go.Operand.tmp 10) (Go.Operand.tmp 60), type := 0, pos := "law.go:24", after := #[{ on := 8, ground := Go.Ground.data }, { on := 5, ground := Go.Ground.data }, { on := 3, ground := Go.Ground.chain }, { on := 0, ground := Go.Ground.phase }, { on := 1, ground := Go.Ground.phase }, { on := 2, ground := Go.Ground.phase }, { on := 3, ground := Go.Ground.phase }, { on := 4, ground := Go.Ground.phase }, { on := 5, ground := Go.Ground.phase }, { on := 6, ground := Go.Ground.textOnly Go.Departure.lateStores }, { on := 7, ground := Go.Ground.textOnly Go.Departure.lateStores }, { on := 8, ground := Go.Ground.phase }, { on := 9, ground := Go.Ground.phase }], guard := none }, { dst := none, op := Go.Op.store 38 (Go.Operand.tmp 11) (Go.Operand.tmp 61), type := 0, pos := "law.go:24", after := #[{ on := 9, ground := Go.Ground.data }, { on := 6, ground := Go.Ground.data }, { on := 10, ground := Go.Ground.chain }, { on := 0, ground := Go.Ground.phase }, { on := 1, ground := Go.Ground.phase }, { on := 2, ground := Go.Ground.phase }, { on := 3, ground := Go.Ground.phase }, { on := 4, ground := Go.Ground.phase }, { on := 5, ground := Go.Ground.phase }, { on := 6, ground := Go.Ground.phase }, { on := 7, ground := Go.Ground.textOnly Go.Departure.lateStores }, { on := 8, ground := Go.Ground.phase }, { on := 9, ground := Go.Ground.phase }, { on := 10, ground := Go.Ground.phase }], guard := none }, { dst := some 12, op := Go.Op.assign (Go.Operand.tmp 62), type := 33, pos := "law.go:24", after := #[{ on := 7, ground := Go.Ground.data }, { on := 11, ground := Go.Ground.chain }, { on := 0, ground := Go.Ground.phase }, { on := 1, ground := Go.Ground.phase }, { on := 2, ground := Go.Ground.phase }, { on := 3, ground := Go.Ground.phase }, { on := 4, ground := Go.Ground.phase }, { on := 5, ground := Go.Ground.phase }, { on := 6, ground := Go.Ground.phase }, { on := 7, ground := Go.Ground.phase }, { on := 8, ground := Go.Ground.phase }, { on := 9, ground := Go.Ground.phase }, { on := 10, ground := Go.Ground.phase }, { on := 11, ground := Go.Ground.phase }], guard := none }] true).wp Try.prog Q ⟨(s0 :: .pointer (some ⟨BX, 0, none⟩) :: s2 :: .pointer (some ⟨BS, 0, none⟩) :: s4 :: s5 :: s6 :: s7 :: s8 :: s9 :: undef :: undef :: undef :: s13 :: s14 :: s15 :: s16 :: s17 :: s18 :: s19 :: s20 :: s21 :: s22 :: s23 :: s24 :: s25 :: s26 :: s27 :: s28 :: s29 :: s30 :: s31 :: s32 :: s33 :: s34 :: s35 :: s36 :: s37 :: s38 :: s39 :: s40 :: s41 :: s42 :: s43 :: s44 :: s45 :: s46 :: s47 :: s48 :: s49 :: s50 :: s51 :: s52 :: s53 :: s54 :: undef :: undef :: undef :: undef :: undef :: undef :: undef :: undef :: s63 :: s64 :: s65 :: s66 :: s67 :: s68 :: s69 :: s70 :: s71 :: s72 :: s73 :: s74 :: s75 :: s76 :: s77 :: s78 :: s79 :: s80 :: s81 :: s82 :: s83 :: s84 :: s85 :: s86 :: s87 :: s88 :: s89 :: s90 :: s91 :: s92 :: s93 :: s94 :: s95 :: s96 :: s97 :: s98 :: s99 :: s100 :: s101 :: s102 :: s103 :: s104 :: s105 :: s106 :: s107 :: s108 :: s109 :: s110 :: s111 :: s112 :: s113 :: s114 :: s115 :: s116 :: s117 :: s118 :: s119 :: s120 :: s121 :: s122 :: s123 :: s124 :: s125 :: s126 :: s127 :: s128 :: s129 :: s130 :: s131 :: s132 :: s133 :: s134 :: s135 :: s136 :: s137 :: s138 :: s139 :: s140 :: s141 :: s142 :: s143 :: s144 :: s145 :: s146 :: s147 :: s148 :: s149 :: s150 :: []).toArray, []⟩ W0 := by
  refine wp_region_facts (fun v => ⟨(s0 :: .pointer (some ⟨BX, 0, none⟩) :: s2 :: .pointer (some ⟨BS, 0, none⟩) :: s4 :: s5 :: s6 :: s7 :: s8 :: s9 :: v 8 :: v 9 :: undef :: s13 :: s14 :: s15 :: s16 :: s17 :: s18 :: s19 :: s20 :: s21 :: s22 :: s23 :: s24 :: s25 :: s26 :: s27 :: s28 :: s29 :: s30 :: s31 :: s32 :: s33 :: s34 :: s35 :: s36 :: s37 :: s38 :: s39 :: s40 :: s41 :: s42 :: s43 :: s44 :: s45 :: s46 :: s47 :: s48 :: s49 :: s50 :: s51 :: s52 :: s53 :: s54 :: v 4 :: v 0 :: v 1 :: v 2 :: v 3 :: v 5 :: v 6 :: v 7 :: s63 :: s64 :: s65 :: s66 :: s67 :: s68 :: s69 :: s70 :: s71 :: s72 :: s73 :: s74 :: s75 :: s76 :: s77 :: s78 :: s79 :: s80 :: s81 :: s82 :: s83 :: s84 :: s85 :: s86 :: s87 :: s88 :: s89 :: s90 :: s91 :: s92 :: s93 :: s94 :: s95 :: s96 :: s97 :: s98 :: s99 :: s100 :: s101 :: s102 :: s103 :: s104 :: s105 :: s106 :: s107 :: s108 :: s109 :: s110 :: s111 :: s112 :: s113 :: s114 :: s115 :: s116 :: s117 :: s118 :: s119 :: s120 :: s121 :: s122 :: s123 :: s124 :: s125 :: s126 :: s127 :: s128 :: s129 :: s130 :: s131 :: s132 :: s133 :: s134 :: s135 :: s136 :: s137 :: s138 :: s139 :: s140 :: s141 :: s142 :: s143 :: s144 :: s145 :: s146 :: s147 :: s148 :: s149 :: s150 :: []).toArray, []⟩) (wkG k0 W0.heap.size y (.agg #[.int .i64 7, .int .i64 0, .int .i64 0, .int .u64 0]) wk3 0) (fun W W' => Below W.heap.size W W') (WkC k0 BS BX wk1 y vs W0) (fun j => decide (j ≤ 5 ∨ j = 8 ∨ j = 9)) (fun j => decide (j ≤ 9)) (fun _ => undef) (by kernel_rfl) HBS.out.drew (fun j x W W' h hR => wkG_st h hR) (fun W W' h hR => h.below hR) (by kernel_rfl) ?_ ?_
  · intro j o hA ho v W hB hF K hK a ha
    have hj : j ≤ 9 := of_decide_eq_true hA
    clear hA HBS
    obtain rfl : a = ⟨(s0 :: .pointer (some ⟨BX, 0, none⟩) :: s2 :: .pointer (some ⟨BS, 0, none⟩) :: s4 :: s5 :: s6 :: s7 :: s8 :: s9 :: v 8 :: v 9 :: undef :: s13 :: s14 :: s15 :: s16 :: s17 :: s18 :: s19 :: s20 :: s21 :: s22 :: s23 :: s24 :: s25 :: s26 :: s27 :: s28 :: s29 :: s30 :: s31 :: s32 :: s33 :: s34 :: s35 :: s36 :: s37 :: s38 :: s39 :: s40 :: s41 :: s42 :: s43 :: s44 :: s45 :: s46 :: s47 :: s48 :: s49 :: s50 :: s51 :: s52 :: s53 :: s54 :: v 4 :: v 0 :: v 1 :: v 2 :: v 3 :: v 5 :: v 6 :: v 7 :: s63 :: s64 :: s65 :: s66 :: s67 :: s68 :: s69 :: s70 :: s71 :: s72 :: s73 :: s74 :: s75 :: s76 :: s77 :: s78 :: s79 :: s80 :: s81 :: s82 :: s83 :: s84 :: s85 :: s86 :: s87 :: s88 :: s89 :: s90 :: s91 :: s92 :: s93 :: s94 :: s95 :: s96 :: s97 :: s98 :: s99 :: s100 :: s101 :: s102 :: s103 :: s104 :: s105 :: s106 :: s107 :: s108 :: s109 :: s110 :: s111 :: s112 :: s113 :: s114 :: s115 :: s116 :: s117 :: s118 :: s119 :: s120 :: s121 :: s122 :: s123 :: s124 :: s125 :: s126 :: s127 :: s128 :: s129 :: s130 :: s131 :: s132 :: s133 :: s134 :: s135 :: s136 :: s137 :: s138 :: s139 :: s140 :: s141 :: s142 :: s143 :: s144 :: s145 :: s146 :: s147 :: s148 :: s149 :: s150 :: []).toArray, []⟩ := ha
    obtain rfl | rfl | rfl | rfl | rfl | rfl | rfl | rfl | rfl | rfl : j = 0 ∨ j = 1 ∨ j = 2 ∨ j = 3 ∨ j = 4 ∨ j = 5 ∨ j = 6 ∨ j = 7 ∨ j = 8 ∨ j = 9 := by omega
    · obtain rfl : { dst := some 56, op := Go.Op.load 29 (Go.Operand.tmp 3), type := 29, pos := "law.go:24", after := #[], guard := none } = o := Option.some.inj ((rfl : some _ = _).trans ho)
      clear ho
      have s0 : W.cell? ⟨BS, 0, none⟩ = some (.slice y.sa y.sn y.sc) := hB.r3.cell 0
      have s1 : W.cell? ⟨BS, 1, none⟩ = some (.slice y.pa y.pn y.pc) := hB.r3.cell 1
      have s2 : W.cell? ⟨BS, 2, none⟩ = some (.slice y.ha y.hn y.hc) := hB.r3.cell 2
      have s3 : W.cell? ⟨BS, 3, none⟩ = some (.slice y.ba y.bn y.bc) := hB.r3.cell 3
      refine step_value_g (by rfl) (.agg #[.slice y.sa y.sn y.sc, .slice y.pa y.pn y.pc, .slice y.ha y.hn y.hc, .slice y.ba y.bn y.bc]) (w' := W) (by go_simp) ?_
      try simp only [Act.put, List.setIfInBounds_toArray, List.set_cons_zero, List.set_cons_succ]
      exact hK.out _ W (Below.refl _ W) rfl
    · obtain rfl : { dst := some 57, op := Go.Op.load 38 (Go.Operand.tmp 1), type := 38, pos := "law.go:24", after := #[], guard := none } = o := Option.some.inj ((rfl : some _ = _).trans ho)
      clear ho
      have s0 : W.cell? ⟨BX, 0, none⟩ = some (.int .i64 0) := hB.r1.cell 0
      have s1 : W.cell? ⟨BX, 1, none⟩ = some (.int .u64 0) := hB.r1.cell 1
      refine step_value_g (by rfl) (.agg #[.int .i64 0, .int .u64 0]) (w' := W) (by go_simp) ?_
      try simp only [Act.put, List.setIfInBounds_toArray, List.set_cons_zero, List.set_cons_succ]
      exact hK.out _ W (Below.refl _ W) rfl
    · obtain rfl : { dst := some 58, op := Go.Op.call { callee := Go.Callee.value (Go.Operand.func 26), args := #[Go.Operand.const (Go.Value.int Go.IntKind.i64 7), Go.Operand.const (Go.Value.int Go.IntKind.i64 0), Go.Operand.tmp 57], argTypes := #[3, 3, 38] }, type := 40, pos := "law.go:24", after := #[{ on := 1, ground := Go.Ground.data }], guard := none } = o := Option.some.inj ((rfl : some _ = _).trans ho)
      clear ho
      have e1 : wkG k0 W0.heap.size y (.agg #[.int .i64 7, .int .i64 0, .int .i64 0, .int .u64 0]) wk3 0 1 (v 1) W := hF { on := 1, ground := Go.Ground.data } (by simp) rfl
      have e1 : v 1 = .agg #[.int .i64 0, .int .u64 0] := e1
      refine step_call_g (by rfl) 26 _ _ rfl (fun _ _ => by kernel_rfl) #[.int .i64 7, .int .i64 0, .agg #[.int .i64 0, .int .u64 0]] (by simp [go_sem, e1]) _ (HWA 7 0 W).out ?_
      rintro e W' ⟨rfl, hC⟩
      refine ⟨_, rfl, ?_⟩
      try simp only [Act.put, List.setIfInBounds_toArray, List.set_cons_zero, List.set_cons_succ]
      exact hK.out _ W' hC rfl
    · obtain rfl : { dst := some 59, op := Go.Op.call { callee := Go.Callee.value (Go.Operand.func 24), args := #[Go.Operand.tmp 56, Go.Operand.tmp 58], argTypes := #[29, 40] }, type := 59, pos := "law.go:24", after := #[{ on := 0, ground := Go.Ground.data }, { on := 2, ground := Go.Ground.data }, { on := 2, ground := Go.Ground.chain }], guard := none } = o := Option.some.inj ((rfl : some _ = _).trans ho)
      clear ho
      have e0 : wkG k0 W0.heap.size y (.agg #[.int .i64 7, .int .i64 0, .int .i64 0, .int .u64 0]) wk3 0 0 (v 0) W := hF { on := 0, ground := Go.Ground.data } (by simp) rfl
      have e0 : v 0 = .agg #[.slice y.sa y.sn y.sc, .slice y.pa y.pn y.pc, .slice y.ha y.hn y.hc, .slice y.ba y.bn y.bc] := e0
      have e2 : wkG k0 W0.heap.size y (.agg #[.int .i64 7, .int .i64 0, .int .i64 0, .int .u64 0]) wk3 0 2 (v 2) W := hF { on := 2, ground := Go.Ground.data } (by simp) rfl
      have e2 : v 2 = .agg #[.int .i64 7, .int .i64 0, .int .i64 0, .int .u64 0] := e2
      have HRN := Lib.hid (Try.Do_any y wk1 ⟨7, 0, 0, 0⟩ 10 W (hB.o.at wk1_ok.1) wk1_ok.2 (by decide))
      rw [wk_do3] at HRN
      refine step_call_g (by rfl) 24 _ _ rfl (fun _ _ => by kernel_rfl) #[.agg #[.slice y.sa y.sn y.sc, .slice y.pa y.pn y.pc, .slice y.ha y.hn y.hc, .slice y.ba y.bn y.bc], .agg #[.int .i64 7, .int .i64 0, .int .i64 0, .int .u64 0]] (by simp [go_sem, e0, e2]) _ HRN.out ?_
      rintro e W' ⟨y2, vs2, rfl, hm, hC⟩
      refine ⟨_, rfl, ?_⟩
      try simp only [Act.put, List.setIfInBounds_toArray, List.set_cons_zero, List.set_cons_succ]
      exact hK.out _ W' hC ⟨y2, vs2, rfl, hm.mono (Nat.le_trans hk0.out hB.bl.size)⟩
    · obtain rfl : { dst := some 55, op := Go.Op.move (Go.Operand.tmp 59), type := 59, pos := "law.go:24", after := #[{ on := 3, ground := Go.Ground.data }], guard := none } = o := Option.some.inj ((rfl : some _ = _).trans ho)
      clear ho
      have e0 : wkG k0 W0.heap.size y (.agg #[.int .i64 7, .int .i64 0, .int .i64 0, .int .u64 0]) wk3 0 3 (v 3) W := hF { on := 3, ground := Go.Ground.data } (by simp) rfl
      obtain ⟨y2, vs2, e10, hm⟩ := e0
      refine step_value_g (by rfl) (.tuple #[.agg #[.slice y2.sa y2.sn y2.sc, .slice y2.pa y2.pn y2.pc, .slice y2.ha y2.hn y2.hc, .slice y2.ba y2.bn y2.bc], .agg #[.int .i64 0, .int .u64 0], .int .i64 0]) (w' := W) (by go_simp) ?_
      try simp only [Act.put, List.setIfInBounds_toArray, List.set_cons_zero, List.set_cons_succ]
      exact hK.out _ W (Below.refl _ W) ⟨y2, vs2, rfl, hm⟩
    · obtain rfl : { dst := some 60, op := Go.Op.extract (Go.Operand.tmp 55) 0, type := 29, pos := "law.go:24", after := #[{ on := 4, ground := Go.Ground.data }], guard := none } = o := Option.some.inj ((rfl : some _ = _).trans ho)
      clear ho
      have e0 : wkG k0 W0.heap.size y (.agg #[.int .i64 7, .int .i64 0, .int .i64 0, .int .u64 0]) wk3 0 4 (v 4) W := hF { on := 4, ground := Go.Ground.data } (by simp) rfl
      obtain ⟨y2, vs2, e11, hm⟩ := e0
      refine step_value_g (by rfl) (.agg #[.slice y2.sa y2.sn y2.sc, .slice y2.pa y2.pn y2.pc, .slice y2.ha y2.hn y2.hc, .slice y2.ba y2.bn y2.bc]) (w' := W) (by go_simp) ?_
      try simp only [Act.put, List.setIfInBounds_toArray, List.set_cons_zero, List.set_cons_succ]
      exact hK.out _ W (Below.refl _ W) ⟨y2, vs2, rfl, hm⟩
    · obtain rfl : { dst := some 61, op := Go.Op.extract (Go.Operand.tmp 55) 1, type := 38, pos := "law.go:24", after := #[{ on := 4, ground := Go.Ground.data }, { on := 10, ground := Go.Ground.gcOnly Go.Departure.lateStores }], guard := none } = o := Option.some.inj ((rfl : some _ = _).trans ho)
      clear ho
      have e0 : wkG k0 W0.heap.size y (.agg #[.int .i64 7, .int .i64 0, .int .i64 0, .int .u64 0]) wk3 0 4 (v 4) W := hF { on := 4, ground := Go.Ground.data } (by simp) rfl
      obtain ⟨y2, vs2, e11, hm⟩ := e0
      refine step_value_g (by rfl) (.agg #[.int .i64 0, .int .u64 0]) (w' := W) (by go_simp) ?_
      try simp only [Act.put, List.setIfInBounds_toArray, List.set_cons_zero, List.set_cons_succ]
      exact hK.out _ W (Below.refl _ W) rfl
    · obtain rfl : { dst := some 62, op := Go.Op.extract (Go.Operand.tmp 55) 2, type := 33, pos := "law.go:24", after := #[{ on := 4, ground := Go.Ground.data }, { on := 11, ground := Go.Ground.gcOnly Go.Departure.lateStores }], guard := none } = o := Option.some.inj ((rfl : some _ = _).trans ho)
      clear ho
      have e0 : wkG k0 W0.heap.size y (.agg #[.int .i64 7, .int .i64 0, .int .i64 0, .int .u64 0]) wk3 0 4 (v 4) W := hF { on := 4, ground := Go.Ground.data } (by simp) rfl
      obtain ⟨y2, vs2, e11, hm⟩ := e0
      refine step_value_g (by rfl) (.int .i64 0) (w' := W) (by go_simp) ?_
      try simp only [Act.put, List.setIfInBounds_toArray, List.set_cons_zero, List.set_cons_succ]
      exact hK.out _ W (Below.refl _ W) rfl
    · obtain rfl : { dst := some 10, op := Go.Op.alloc 29, type := 0, pos := "law.go:24", after := #[], guard := none } = o := Option.some.inj ((rfl : some _ = _).trans ho)
      clear ho
      refine step_value_g (by rfl) (.pointer (some ⟨W.heap.size, 0, none⟩)) (w' := W.alloc (.cells #[.slice none 0 0, .slice none 0 0, .slice none 0 0, .slice none 0 0] 29)) (by go_simp) ?_
      try simp only [Act.put, List.setIfInBounds_toArray, List.set_cons_zero, List.set_cons_succ]
      exact hK.out _ _ Rows8.newB ⟨_, rfl, hB.bl.size, Rows8.new _ _ _⟩
    · obtain rfl : { dst := some 11, op := Go.Op.alloc 38, type := 0, pos := "law.go:24", after := #[], guard := none } = o := Option.some.inj ((rfl : some _ = _).trans ho)
      clear ho
      refine step_value_g (by rfl) (.pointer (some ⟨W.heap.size, 0, none⟩)) (w' := W.alloc (.cells #[.int .i64 0, .int .u64 0] 38)) (by go_simp) ?_
      try simp only [Act.put, List.setIfInBounds_toArray, List.set_cons_zero, List.set_cons_succ]
      exact hK.out _ _ Rows8.newB ⟨_, rfl, hB.bl.size, Rows8.new _ _ _⟩
  · intro b v W hB hC hA
    have f4 : wkG k0 W0.heap.size y (.agg #[.int .i64 7, .int .i64 0, .int .i64 0, .int .u64 0]) wk3 0 4 (v 4) W := hC 4 (by show (4 : Nat) < 13; decide) rfl
    obtain ⟨y2, vs2, e5, hm⟩ : wkG k0 W0.heap.size y (.agg #[.int .i64 7, .int .i64 0, .int .i64 0, .int .u64 0]) wk3 0 5 (v 5) W := hC 5 (by show (5 : Nat) < 13; decide) rfl
    obtain ⟨BN, e8, hbn, hr⟩ : wkG k0 W0.heap.size y (.agg #[.int .i64 7, .int .i64 0, .int .i64 0, .int .u64 0]) wk3 0 8 (v 8) W := hC 8 (by show (8 : Nat) < 13; decide) rfl
    obtain ⟨BE, e9, hbe, he⟩ : wkG k0 W0.heap.size y (.agg #[.int .i64 7, .int .i64 0, .int .i64 0, .int .u64 0]) wk3 0 9 (v 9) W := hC 9 (by show (9 : Nat) < 13; decide) rfl
    cases h6 : b 6 with
    | false =>
      cases h7 : b 7 with
      | false =>
        obtain ⟨hl, hs⟩ := lst_agree (n := 13) (C := (fun j => decide (j ≤ 5 ∨ j = 8 ∨ j = 9))) (A := (fun j => decide (j ≤ 9))) (b := b) (b' := fun j => if j = 6 then false else false) (fun j hj hc ha => by
          have h1 := of_decide_eq_false hc
          have h2 := of_decide_eq_true ha
          have h3 : j = 6 ∨ j = 7 := by omega
          rcases h3 with rfl | rfl
          · exact h6
          · exact h7)
        refine (show wpAny _ _ _ _ (leftOf 13 (fun j => decide (j ≤ 5 ∨ j = 8 ∨ j = 9)) (fun j => decide (j ≤ 9)) b) (lstOf 13 (fun j => decide (j ≤ 5 ∨ j = 8 ∨ j = 9)) (fun j => decide (j ≤ 9)) b) ⟨(s0 :: .pointer (some ⟨BX, 0, none⟩) :: s2 :: .pointer (some ⟨BS, 0, none⟩) :: s4 :: s5 :: s6 :: s7 :: s8 :: s9 :: v 8 :: v 9 :: undef :: s13 :: s14 :: s15 :: s16 :: s17 :: s18 :: s19 :: s20 :: s21 :: s22 :: s23 :: s24 :: s25 :: s26 :: s27 :: s28 :: s29 :: s30 :: s31 :: s32 :: s33 :: s34 :: s35 :: s36 :: s37 :: s38 :: s39 :: s40 :: s41 :: s42 :: s43 :: s44 :: s45 :: s46 :: s47 :: s48 :: s49 :: s50 :: s51 :: s52 :: s53 :: s54 :: v 4 :: v 0 :: v 1 :: v 2 :: v 3 :: v 5 :: v 6 :: v 7 :: s63 :: s64 :: s65 :: s66 :: s67 :: s68 :: s69 :: s70 :: s71 :: s72 :: s73 :: s74 :: s75 :: s76 :: s77 :: s78 :: s79 :: s80 :: s81 :: s82 :: s83 :: s84 :: s85 :: s86 :: s87 :: s88 :: s89 :: s90 :: s91 :: s92 :: s93 :: s94 :: s95 :: s96 :: s97 :: s98 :: s99 :: s100 :: s101 :: s102 :: s103 :: s104 :: s105 :: s106 :: s107 :: s108 :: s109 :: s110 :: s111 :: s112 :: s113 :: s114 :: s115 :: s116 :: s117 :: s118 :: s119 :: s120 :: s121 :: s122 :: s123 :: s124 :: s125 :: s126 :: s127 :: s128 :: s129 :: s130 :: s131 :: s132 :: s133 :: s134 :: s135 :: s136 :: s137 :: s138 :: s139 :: s140 :: s141 :: s142 :: s143 :: s144 :: s145 :: s146 :: s147 :: s148 :: s149 :: s150 :: []).toArray, []⟩ W from ?_)
        rw [hl.trans (by kernel_rfl : _ = 5), hs.trans (by kernel_rfl : _ = #[true, true, true, true, true, true, false, false, true, true, false, false, false])]
        refine wpAny_of_L (S := fun _ => True) (X := 0) _ _ _ _ ?_
        obtain ⟨y3, vs3, e4, -⟩ := f4
        clear hl hs hA hC h6 h7
        refine wpAnyL_takeP (i := 6) (oi := { dst := some 61, op := Go.Op.extract (Go.Operand.tmp 55) 1, type := 38, pos := "law.go:24", after := #[{ on := 4, ground := Go.Ground.data }, { on := 10, ground := Go.Ground.gcOnly Go.Departure.lateStores }], guard := none }) (v := .agg #[.int .i64 0, .int .u64 0]) rfl (by kernel_rfl) (by kernel_rfl) (by kernel_rfl) (by kernel_rfl) (fun _ _ _ h => hQp _ _ _ _ _ h) (Or.inl ⟨by rfl, ?_⟩) ?_
        · intro W9 _
          go_simp
        try simp only [Act.put, List.setIfInBounds_toArray, List.set_cons_zero, List.set_cons_succ]
        refine wpAnyL_takeP (i := 7) (oi := { dst := some 62, op := Go.Op.extract (Go.Operand.tmp 55) 2, type := 33, pos := "law.go:24", after := #[{ on := 4, ground := Go.Ground.data }, { on := 11, ground := Go.Ground.gcOnly Go.Departure.lateStores }], guard := none }) (v := .int .i64 0) rfl (by kernel_rfl) (by kernel_rfl) (by kernel_rfl) (by kernel_rfl) (fun _ _ _ h => hQp _ _ _ _ _ h) (Or.inl ⟨by rfl, ?_⟩) ?_
        · intro W9 _
          go_simp
        try simp only [Act.put, List.setIfInBounds_toArray, List.set_cons_zero, List.set_cons_succ]
        refine wpAnyL_one (i := 10) (o := { dst := none, op := Go.Op.store 29 (Go.Operand.tmp 10) (Go.Operand.tmp 60), type := 0, pos := "law.go:24", after := #[{ on := 8, ground := Go.Ground.data }, { on := 5, ground := Go.Ground.data }, { on := 3, ground := Go.Ground.chain }, { on := 0, ground := Go.Ground.phase }, { on := 1, ground := Go.Ground.phase }, { on := 2, ground := Go.Ground.phase }, { on := 3, ground := Go.Ground.phase }, { on := 4, ground := Go.Ground.phase }, { on := 5, ground := Go.Ground.phase }, { on := 6, ground := Go.Ground.textOnly Go.Departure.lateStores }, { on := 7, ground := Go.Ground.textOnly Go.Departure.lateStores }, { on := 8, ground := Go.Ground.phase }, { on := 9, ground := Go.Ground.phase }], guard := none }) (by kernel_rfl) rfl (fun K hK => ?_)
        have ck0 : W.cell? ⟨BN, 0, none⟩ = some (.slice none 0 0) := hr.cell 0
        have fk0 := hr.frozen 0
        have ck1 : W.cell? ⟨BN, 1, none⟩ = some (.slice none 0 0) := hr.cell 1
        have fk1 := hr.frozen 1
        have ck2 : W.cell? ⟨BN, 2, none⟩ = some (.slice none 0 0) := hr.cell 2
        have fk2 := hr.frozen 2
        have ck3 : W.cell? ⟨BN, 3, none⟩ = some (.slice none 0 0) := hr.cell 3
        have fk3 := hr.frozen 3
        have hlt := hr.lt
        refine step_skip_g (by rfl) (w' := ((((W.setCell ⟨BN, 0, none⟩ (.slice y2.sa y2.sn y2.sc)).setCell ⟨BN, 1, none⟩ (.slice y2.pa y2.pn y2.pc)).setCell ⟨BN, 2, none⟩ (.slice y2.ha y2.hn y2.hc)).setCell ⟨BN, 3, none⟩ (.slice y2.ba y2.bn y2.bc))) (by go_simp) ?_
        clear ck0 fk0 ck1 fk1 ck2 fk2 ck3 fk3 hlt
        have a0 := he
        have r0 := hr
        have m0 := hm
        have h0 := hB.bl
        have a1 := a0.setOther (a := ⟨BN, 0, none⟩) (fun e => rows_apart a0 r0 (by decide) e.symm) (.slice y2.sa y2.sn y2.sc)
        have m1 := m0.set r0 (by decide) (by decide) (by decide) (by decide) (by decide) 0 (.slice y2.sa y2.sn y2.sc)
        have h1 := h0.setCell (p := ⟨BN, 0, none⟩) hbn (.slice y2.sa y2.sn y2.sc)
        have r1 := r0.set 0 (.slice y2.sa y2.sn y2.sc)
        simp only [List.setIfInBounds_toArray, List.set_cons_zero] at r1
        have a2 := a1.setOther (a := ⟨BN, 1, none⟩) (fun e => rows_apart a1 r1 (by decide) e.symm) (.slice y2.pa y2.pn y2.pc)
        have m2 := m1.set r1 (by decide) (by decide) (by decide) (by decide) (by decide) 1 (.slice y2.pa y2.pn y2.pc)
        have h2 := h1.setCell (p := ⟨BN, 1, none⟩) hbn (.slice y2.pa y2.pn y2.pc)
        have r2 := r1.set 1 (.slice y2.pa y2.pn y2.pc)
        simp only [List.setIfInBounds_toArray, List.set_cons_zero, List.set_cons_succ] at r2
        have a3 := a2.setOther (a := ⟨BN, 2, none⟩) (fun e => rows_apart a2 r2 (by decide) e.symm) (.slice y2.ha y2.hn y2.hc)
        have m3 := m2.set r2 (by decide) (by decide) (by decide) (by decide) (by decide) 2 (.slice y2.ha y2.hn y2.hc)
        have h3 := h2.setCell (p := ⟨BN, 2, none⟩) hbn (.slice y2.ha y2.hn y2.hc)
        have r3 := r2.set 2 (.slice y2.ha y2.hn y2.hc)
        simp only [List.setIfInBounds_toArray, List.set_cons_zero, List.set_cons_succ] at r3
        have a4 := a3.setOther (a := ⟨BN, 3, none⟩) (fun e => rows_apart a3 r3 (by decide) e.symm) (.slice y2.ba y2.bn y2.bc)
        have m4 := m3.set r3 (by decide) (by decide) (by decide) (by decide) (by decide) 3 (.slice y2.ba y2.bn y2.bc)
        have h4 := h3.setCell (p := ⟨BN, 3, none⟩) hbn (.slice y2.ba y2.bn y2.bc)
        have r4 := r3.set 3 (.slice y2.ba y2.bn y2.bc)
        simp only [List.setIfInBounds_toArray, List.set_cons_zero, List.set_cons_succ] at r4
        have RE := Lib.hid a4
        have RN := Lib.hid r4
        have HM2 := Lib.hid m4
        have HB2 := Lib.hid h4
        clear a0 a1 a2 a3 a4 r0 r1 r2 r3 r4 m0 m1 m2 m3 m4 h0 h1 h2 h3 h4
        refine hK.out _ _ (fun _ => trivial) ?_
        clear hK K
        try simp only [Act.put, List.setIfInBounds_toArray, List.set_cons_zero, List.set_cons_succ]
        generalize ((((W.setCell ⟨BN, 0, none⟩ (.slice y2.sa y2.sn y2.sc)).setCell ⟨BN, 1, none⟩ (.slice y2.pa y2.pn y2.pc)).setCell ⟨BN, 2, none⟩ (.slice y2.ha y2.hn y2.hc)).setCell ⟨BN, 3, none⟩ (.slice y2.ba y2.bn y2.bc)) = W5 at *
        refine wpAnyL_one (i := 11) (o := { dst := none, op := Go.Op.store 38 (Go.Operand.tmp 11) (Go.Operand.tmp 61), type := 0, pos := "law.go:24", after := #[{ on := 9, ground := Go.Ground.data }, { on := 6, ground := Go.Ground.data }, { on := 10, ground := Go.Ground.chain }, { on := 0, ground := Go.Ground.phase }, { on := 1, ground := Go.Ground.phase }, { on := 2, ground := Go.Ground.phase }, { on := 3, ground := Go.Ground.phase }, { on := 4, ground := Go.Ground.phase }, { on := 5, ground := Go.Ground.phase }, { on := 6, ground := Go.Ground.phase }, { on := 7, ground := Go.Ground.textOnly Go.Departure.lateStores }, { on := 8, ground := Go.Ground.phase }, { on := 9, ground := Go.Ground.phase }, { on := 10, ground := Go.Ground.phase }], guard := none }) (by kernel_rfl) rfl (fun K hK => ?_)
        have s0 : W5.cell? ⟨BE, 0, none⟩ = some (.int .i64 0) := RE.out.cell 0
        have s1 : W5.cell? ⟨BE, 1, none⟩ = some (.int .u64 0) := RE.out.cell 1
        have t0 := RE.out.frozen 0
        have t1 := RE.out.frozen 1
        have hlt := RE.out.lt
        refine step_skip_g (by rfl) (w' := (W5.setCell ⟨BE, 0, none⟩ (.int .i64 0)).setCell ⟨BE, 1, none⟩ (.int .u64 0)) (by go_simp) ?_
        rw [RE.out.setSelf 0 (.int .i64 0) rfl, RE.out.setSelf 1 (.int .u64 0) rfl]
        clear s0 s1 t0 t1 hlt
        refine hK.out _ _ (fun _ => trivial) ?_
        clear hK K
        try simp only [Act.put, List.setIfInBounds_toArray, List.set_cons_zero, List.set_cons_succ]
        refine wpAnyL_takeP (i := 12) (oi := { dst := some 12, op := Go.Op.assign (Go.Operand.tmp 62), type := 33, pos := "law.go:24", after := #[{ on := 7, ground := Go.Ground.data }, { on := 11, ground := Go.Ground.chain }, { on := 0, ground := Go.Ground.phase }, { on := 1, ground := Go.Ground.phase }, { on := 2, ground := Go.Ground.phase }, { on := 3, ground := Go.Ground.phase }, { on := 4, ground := Go.Ground.phase }, { on := 5, ground := Go.Ground.phase }, { on := 6, ground := Go.Ground.phase }, { on := 7, ground := Go.Ground.phase }, { on := 8, ground := Go.Ground.phase }, { on := 9, ground := Go.Ground.phase }, { on := 10, ground := Go.Ground.phase }, { on := 11, ground := Go.Ground.phase }], guard := none }) (v := .int .i64 0) rfl (by kernel_rfl) (by kernel_rfl) (by kernel_rfl) (by kernel_rfl) (fun _ _ _ h => hQp _ _ _ _ _ h) (Or.inl ⟨by rfl, ?_⟩) ?_
        · intro W9 _
          go_simp
        try simp only [Act.put, List.setIfInBounds_toArray, List.set_cons_zero, List.set_cons_succ]
        refine wpAnyL_end (by kernel_rfl) ?_
        rw [e8, e9]
        exact HK.out BN BE y2 vs2 (upd (upd v 6 (.agg #[.int .i64 0, .int .u64 0])) 7 (.int .i64 0)) _ hbn HB2.out RN.out HM2.out
      | true =>
        obtain ⟨hl, hs⟩ := lst_agree (n := 13) (C := (fun j => decide (j ≤ 5 ∨ j = 8 ∨ j = 9))) (A := (fun j => decide (j ≤ 9))) (b := b) (b' := fun j => if j = 6 then false else true) (fun j hj hc ha => by
          have h1 := of_decide_eq_false hc
          have h2 := of_decide_eq_true ha
          have h3 : j = 6 ∨ j = 7 := by omega
          rcases h3 with rfl | rfl
          · exact h6
          · exact h7)
        refine (show wpAny _ _ _ _ (leftOf 13 (fun j => decide (j ≤ 5 ∨ j = 8 ∨ j = 9)) (fun j => decide (j ≤ 9)) b) (lstOf 13 (fun j => decide (j ≤ 5 ∨ j = 8 ∨ j = 9)) (fun j => decide (j ≤ 9)) b) ⟨(s0 :: .pointer (some ⟨BX, 0, none⟩) :: s2 :: .pointer (some ⟨BS, 0, none⟩) :: s4 :: s5 :: s6 :: s7 :: s8 :: s9 :: v 8 :: v 9 :: undef :: s13 :: s14 :: s15 :: s16 :: s17 :: s18 :: s19 :: s20 :: s21 :: s22 :: s23 :: s24 :: s25 :: s26 :: s27 :: s28 :: s29 :: s30 :: s31 :: s32 :: s33 :: s34 :: s35 :: s36 :: s37 :: s38 :: s39 :: s40 :: s41 :: s42 :: s43 :: s44 :: s45 :: s46 :: s47 :: s48 :: s49 :: s50 :: s51 :: s52 :: s53 :: s54 :: v 4 :: v 0 :: v 1 :: v 2 :: v 3 :: v 5 :: v 6 :: v 7 :: s63 :: s64 :: s65 :: s66 :: s67 :: s68 :: s69 :: s70 :: s71 :: s72 :: s73 :: s74 :: s75 :: s76 :: s77 :: s78 :: s79 :: s80 :: s81 :: s82 :: s83 :: s84 :: s85 :: s86 :: s87 :: s88 :: s89 :: s90 :: s91 :: s92 :: s93 :: s94 :: s95 :: s96 :: s97 :: s98 :: s99 :: s100 :: s101 :: s102 :: s103 :: s104 :: s105 :: s106 :: s107 :: s108 :: s109 :: s110 :: s111 :: s112 :: s113 :: s114 :: s115 :: s116 :: s117 :: s118 :: s119 :: s120 :: s121 :: s122 :: s123 :: s124 :: s125 :: s126 :: s127 :: s128 :: s129 :: s130 :: s131 :: s132 :: s133 :: s134 :: s135 :: s136 :: s137 :: s138 :: s139 :: s140 :: s141 :: s142 :: s143 :: s144 :: s145 :: s146 :: s147 :: s148 :: s149 :: s150 :: []).toArray, []⟩ W from ?_)
        rw [hl.trans (by kernel_rfl : _ = 4), hs.trans (by kernel_rfl : _ = #[true, true, true, true, true, true, false, true, true, true, false, false, false])]
        refine wpAny_of_L (S := fun _ => True) (X := 0) _ _ _ _ ?_
        have e7 : v 7 = .int .i64 0 := hA 7 (by show (7 : Nat) < 13; decide) rfl h7
        obtain ⟨y3, vs3, e4, -⟩ := f4
        clear hl hs hA hC h6 h7
        refine wpAnyL_takeP (i := 6) (oi := { dst := some 61, op := Go.Op.extract (Go.Operand.tmp 55) 1, type := 38, pos := "law.go:24", after := #[{ on := 4, ground := Go.Ground.data }, { on := 10, ground := Go.Ground.gcOnly Go.Departure.lateStores }], guard := none }) (v := .agg #[.int .i64 0, .int .u64 0]) rfl (by kernel_rfl) (by kernel_rfl) (by kernel_rfl) (by kernel_rfl) (fun _ _ _ h => hQp _ _ _ _ _ h) (Or.inl ⟨by rfl, ?_⟩) ?_
        · intro W9 _
          go_simp
        try simp only [Act.put, List.setIfInBounds_toArray, List.set_cons_zero, List.set_cons_succ]
        refine wpAnyL_one (i := 10) (o := { dst := none, op := Go.Op.store 29 (Go.Operand.tmp 10) (Go.Operand.tmp 60), type := 0, pos := "law.go:24", after := #[{ on := 8, ground := Go.Ground.data }, { on := 5, ground := Go.Ground.data }, { on := 3, ground := Go.Ground.chain }, { on := 0, ground := Go.Ground.phase }, { on := 1, ground := Go.Ground.phase }, { on := 2, ground := Go.Ground.phase }, { on := 3, ground := Go.Ground.phase }, { on := 4, ground := Go.Ground.phase }, { on := 5, ground := Go.Ground.phase }, { on := 6, ground := Go.Ground.textOnly Go.Departure.lateStores }, { on := 7, ground := Go.Ground.textOnly Go.Departure.lateStores }, { on := 8, ground := Go.Ground.phase }, { on := 9, ground := Go.Ground.phase }], guard := none }) (by kernel_rfl) rfl (fun K hK => ?_)
        have ck0 : W.cell? ⟨BN, 0, none⟩ = some (.slice none 0 0) := hr.cell 0
        have fk0 := hr.frozen 0
        have ck1 : W.cell? ⟨BN, 1, none⟩ = some (.slice none 0 0) := hr.cell 1
        have fk1 := hr.frozen 1
        have ck2 : W.cell? ⟨BN, 2, none⟩ = some (.slice none 0 0) := hr.cell 2
        have fk2 := hr.frozen 2
        have ck3 : W.cell? ⟨BN, 3, none⟩ = some (.slice none 0 0) := hr.cell 3
        have fk3 := hr.frozen 3
        have hlt := hr.lt
        refine step_skip_g (by rfl) (w' := ((((W.setCell ⟨BN, 0, none⟩ (.slice y2.sa y2.sn y2.sc)).setCell ⟨BN, 1, none⟩ (.slice y2.pa y2.pn y2.pc)).setCell ⟨BN, 2, none⟩ (.slice y2.ha y2.hn y2.hc)).setCell ⟨BN, 3, none⟩ (.slice y2.ba y2.bn y2.bc))) (by go_simp) ?_
        clear ck0 fk0 ck1 fk1 ck2 fk2 ck3 fk3 hlt
        have a0 := he
        have r0 := hr
        have m0 := hm
        have h0 := hB.bl
        have a1 := a0.setOther (a := ⟨BN, 0, none⟩) (fun e => rows_apart a0 r0 (by decide) e.symm) (.slice y2.sa y2.sn y2.sc)
        have m1 := m0.set r0 (by decide) (by decide) (by decide) (by decide) (by decide) 0 (.slice y2.sa y2.sn y2.sc)
        have h1 := h0.setCell (p := ⟨BN, 0, none⟩) hbn (.slice y2.sa y2.sn y2.sc)
        have r1 := r0.set 0 (.slice y2.sa y2.sn y2.sc)
        simp only [List.setIfInBounds_toArray, List.set_cons_zero] at r1
        have a2 := a1.setOther (a := ⟨BN, 1, none⟩) (fun e => rows_apart a1 r1 (by decide) e.symm) (.slice y2.pa y2.pn y2.pc)
        have m2 := m1.set r1 (by decide) (by decide) (by decide) (by decide) (by decide) 1 (.slice y2.pa y2.pn y2.pc)
        have h2 := h1.setCell (p := ⟨BN, 1, none⟩) hbn (.slice y2.pa y2.pn y2.pc)
        have r2 := r1.set 1 (.slice y2.pa y2.pn y2.pc)
        simp only [List.setIfInBounds_toArray, List.set_cons_zero, List.set_cons_succ] at r2
        have a3 := a2.setOther (a := ⟨BN, 2, none⟩) (fun e => rows_apart a2 r2 (by decide) e.symm) (.slice y2.ha y2.hn y2.hc)
        have m3 := m2.set r2 (by decide) (by decide) (by decide) (by decide) (by decide) 2 (.slice y2.ha y2.hn y2.hc)
        have h3 := h2.setCell (p := ⟨BN, 2, none⟩) hbn (.slice y2.ha y2.hn y2.hc)
        have r3 := r2.set 2 (.slice y2.ha y2.hn y2.hc)
        simp only [List.setIfInBounds_toArray, List.set_cons_zero, List.set_cons_succ] at r3
        have a4 := a3.setOther (a := ⟨BN, 3, none⟩) (fun e => rows_apart a3 r3 (by decide) e.symm) (.slice y2.ba y2.bn y2.bc)
        have m4 := m3.set r3 (by decide) (by decide) (by decide) (by decide) (by decide) 3 (.slice y2.ba y2.bn y2.bc)
        have h4 := h3.setCell (p := ⟨BN, 3, none⟩) hbn (.slice y2.ba y2.bn y2.bc)
        have r4 := r3.set 3 (.slice y2.ba y2.bn y2.bc)
        simp only [List.setIfInBounds_toArray, List.set_cons_zero, List.set_cons_succ] at r4
        have RE := Lib.hid a4
        have RN := Lib.hid r4
        have HM2 := Lib.hid m4
        have HB2 := Lib.hid h4
        clear a0 a1 a2 a3 a4 r0 r1 r2 r3 r4 m0 m1 m2 m3 m4 h0 h1 h2 h3 h4
        refine hK.out _ _ (fun _ => trivial) ?_
        clear hK K
        try simp only [Act.put, List.setIfInBounds_toArray, List.set_cons_zero, List.set_cons_succ]
        generalize ((((W.setCell ⟨BN, 0, none⟩ (.slice y2.sa y2.sn y2.sc)).setCell ⟨BN, 1, none⟩ (.slice y2.pa y2.pn y2.pc)).setCell ⟨BN, 2, none⟩ (.slice y2.ha y2.hn y2.hc)).setCell ⟨BN, 3, none⟩ (.slice y2.ba y2.bn y2.bc)) = W5 at *
        refine wpAnyL_one (i := 11) (o := { dst := none, op := Go.Op.store 38 (Go.Operand.tmp 11) (Go.Operand.tmp 61), type := 0, pos := "law.go:24", after := #[{ on := 9, ground := Go.Ground.data }, { on := 6, ground := Go.Ground.data }, { on := 10, ground := Go.Ground.chain }, { on := 0, ground := Go.Ground.phase }, { on := 1, ground := Go.Ground.phase }, { on := 2, ground := Go.Ground.phase }, { on := 3, ground := Go.Ground.phase }, { on := 4, ground := Go.Ground.phase }, { on := 5, ground := Go.Ground.phase }, { on := 6, ground := Go.Ground.phase }, { on := 7, ground := Go.Ground.textOnly Go.Departure.lateStores }, { on := 8, ground := Go.Ground.phase }, { on := 9, ground := Go.Ground.phase }, { on := 10, ground := Go.Ground.phase }], guard := none }) (by kernel_rfl) rfl (fun K hK => ?_)
        have s0 : W5.cell? ⟨BE, 0, none⟩ = some (.int .i64 0) := RE.out.cell 0
        have s1 : W5.cell? ⟨BE, 1, none⟩ = some (.int .u64 0) := RE.out.cell 1
        have t0 := RE.out.frozen 0
        have t1 := RE.out.frozen 1
        have hlt := RE.out.lt
        refine step_skip_g (by rfl) (w' := (W5.setCell ⟨BE, 0, none⟩ (.int .i64 0)).setCell ⟨BE, 1, none⟩ (.int .u64 0)) (by go_simp) ?_
        rw [RE.out.setSelf 0 (.int .i64 0) rfl, RE.out.setSelf 1 (.int .u64 0) rfl]
        clear s0 s1 t0 t1 hlt
        refine hK.out _ _ (fun _ => trivial) ?_
        clear hK K
        try simp only [Act.put, List.setIfInBounds_toArray, List.set_cons_zero, List.set_cons_succ]
        refine wpAnyL_takeP (i := 12) (oi := { dst := some 12, op := Go.Op.assign (Go.Operand.tmp 62), type := 33, pos := "law.go:24", after := #[{ on := 7, ground := Go.Ground.data }, { on := 11, ground := Go.Ground.chain }, { on := 0, ground := Go.Ground.phase }, { on := 1, ground := Go.Ground.phase }, { on := 2, ground := Go.Ground.phase }, { on := 3, ground := Go.Ground.phase }, { on := 4, ground := Go.Ground.phase }, { on := 5, ground := Go.Ground.phase }, { on := 6, ground := Go.Ground.phase }, { on := 7, ground := Go.Ground.phase }, { on := 8, ground := Go.Ground.phase }, { on := 9, ground := Go.Ground.phase }, { on := 10, ground := Go.Ground.phase }, { on := 11, ground := Go.Ground.phase }], guard := none }) (v := .int .i64 0) rfl (by kernel_rfl) (by kernel_rfl) (by kernel_rfl) (by kernel_rfl) (fun _ _ _ h => hQp _ _ _ _ _ h) (Or.inl ⟨by rfl, ?_⟩) ?_
        · intro W9 _
          go_simp
        try simp only [Act.put, List.setIfInBounds_toArray, List.set_cons_zero, List.set_cons_succ]
        refine wpAnyL_end (by kernel_rfl) ?_
        rw [e8, e9]
        exact HK.out BN BE y2 vs2 (upd v 6 (.agg #[.int .i64 0, .int .u64 0])) _ hbn HB2.out RN.out HM2.out
    | true =>
      cases h7 : b 7 with
      | false =>
        obtain ⟨hl, hs⟩ := lst_agree (n := 13) (C := (fun j => decide (j ≤ 5 ∨ j = 8 ∨ j = 9))) (A := (fun j => decide (j ≤ 9))) (b := b) (b' := fun j => if j = 6 then true else false) (fun j hj hc ha => by
          have h1 := of_decide_eq_false hc
          have h2 := of_decide_eq_true ha
          have h3 : j = 6 ∨ j = 7 := by omega
          rcases h3 with rfl | rfl
          · exact h6
          · exact h7)
        refine (show wpAny _ _ _ _ (leftOf 13 (fun j => decide (j ≤ 5 ∨ j = 8 ∨ j = 9)) (fun j => decide (j ≤ 9)) b) (lstOf 13 (fun j => decide (j ≤ 5 ∨ j = 8 ∨ j = 9)) (fun j => decide (j ≤ 9)) b) ⟨(s0 :: .pointer (some ⟨BX, 0, none⟩) :: s2 :: .pointer (some ⟨BS, 0, none⟩) :: s4 :: s5 :: s6 :: s7 :: s8 :: s9 :: v 8 :: v 9 :: undef :: s13 :: s14 :: s15 :: s16 :: s17 :: s18 :: s19 :: s20 :: s21 :: s22 :: s23 :: s24 :: s25 :: s26 :: s27 :: s28 :: s29 :: s30 :: s31 :: s32 :: s33 :: s34 :: s35 :: s36 :: s37 :: s38 :: s39 :: s40 :: s41 :: s42 :: s43 :: s44 :: s45 :: s46 :: s47 :: s48 :: s49 :: s50 :: s51 :: s52 :: s53 :: s54 :: v 4 :: v 0 :: v 1 :: v 2 :: v 3 :: v 5 :: v 6 :: v 7 :: s63 :: s64 :: s65 :: s66 :: s67 :: s68 :: s69 :: s70 :: s71 :: s72 :: s73 :: s74 :: s75 :: s76 :: s77 :: s78 :: s79 :: s80 :: s81 :: s82 :: s83 :: s84 :: s85 :: s86 :: s87 :: s88 :: s89 :: s90 :: s91 :: s92 :: s93 :: s94 :: s95 :: s96 :: s97 :: s98 :: s99 :: s100 :: s101 :: s102 :: s103 :: s104 :: s105 :: s106 :: s107 :: s108 :: s109 :: s110 :: s111 :: s112 :: s113 :: s114 :: s115 :: s116 :: s117 :: s118 :: s119 :: s120 :: s121 :: s122 :: s123 :: s124 :: s125 :: s126 :: s127 :: s128 :: s129 :: s130 :: s131 :: s132 :: s133 :: s134 :: s135 :: s136 :: s137 :: s138 :: s139 :: s140 :: s141 :: s142 :: s143 :: s144 :: s145 :: s146 :: s147 :: s148 :: s149 :: s150 :: []).toArray, []⟩ W from ?_)
        rw [hl.trans (by kernel_rfl : _ = 4), hs.trans (by kernel_rfl : _ = #[true, true, true, true, true, true, true, false, true, true, false, false, false])]
        refine wpAny_of_L (S := fun _ => True) (X := 0) _ _ _ _ ?_
        have e6 : v 6 = .agg #[.int .i64 0, .int .u64 0] := hA 6 (by show (6 : Nat) < 13; decide) rfl h6
        obtain ⟨y3, vs3, e4, -⟩ := f4
        clear hl hs hA hC h6 h7
        refine wpAnyL_takeP (i := 7) (oi := { dst := some 62, op := Go.Op.extract (Go.Operand.tmp 55) 2, type := 33, pos := "law.go:24", after := #[{ on := 4, ground := Go.Ground.data }, { on := 11, ground := Go.Ground.gcOnly Go.Departure.lateStores }], guard := none }) (v := .int .i64 0) rfl (by kernel_rfl) (by kernel_rfl) (by kernel_rfl) (by kernel_rfl) (fun _ _ _ h => hQp _ _ _ _ _ h) (Or.inl ⟨by rfl, ?_⟩) ?_
        · intro W9 _
          go_simp
        try simp only [Act.put, List.setIfInBounds_toArray, List.set_cons_zero, List.set_cons_succ]
        refine wpAnyL_one (i := 10) (o := { dst := none, op := Go.Op.store 29 (Go.Operand.tmp 10) (Go.Operand.tmp 60), type := 0, pos := "law.go:24", after := #[{ on := 8, ground := Go.Ground.data }, { on := 5, ground := Go.Ground.data }, { on := 3, ground := Go.Ground.chain }, { on := 0, ground := Go.Ground.phase }, { on := 1, ground := Go.Ground.phase }, { on := 2, ground := Go.Ground.phase }, { on := 3, ground := Go.Ground.phase }, { on := 4, ground := Go.Ground.phase }, { on := 5, ground := Go.Ground.phase }, { on := 6, ground := Go.Ground.textOnly Go.Departure.lateStores }, { on := 7, ground := Go.Ground.textOnly Go.Departure.lateStores }, { on := 8, ground := Go.Ground.phase }, { on := 9, ground := Go.Ground.phase }], guard := none }) (by kernel_rfl) rfl (fun K hK => ?_)
        have ck0 : W.cell? ⟨BN, 0, none⟩ = some (.slice none 0 0) := hr.cell 0
        have fk0 := hr.frozen 0
        have ck1 : W.cell? ⟨BN, 1, none⟩ = some (.slice none 0 0) := hr.cell 1
        have fk1 := hr.frozen 1
        have ck2 : W.cell? ⟨BN, 2, none⟩ = some (.slice none 0 0) := hr.cell 2
        have fk2 := hr.frozen 2
        have ck3 : W.cell? ⟨BN, 3, none⟩ = some (.slice none 0 0) := hr.cell 3
        have fk3 := hr.frozen 3
        have hlt := hr.lt
        refine step_skip_g (by rfl) (w' := ((((W.setCell ⟨BN, 0, none⟩ (.slice y2.sa y2.sn y2.sc)).setCell ⟨BN, 1, none⟩ (.slice y2.pa y2.pn y2.pc)).setCell ⟨BN, 2, none⟩ (.slice y2.ha y2.hn y2.hc)).setCell ⟨BN, 3, none⟩ (.slice y2.ba y2.bn y2.bc))) (by go_simp) ?_
        clear ck0 fk0 ck1 fk1 ck2 fk2 ck3 fk3 hlt
        have a0 := he
        have r0 := hr
        have m0 := hm
        have h0 := hB.bl
        have a1 := a0.setOther (a := ⟨BN, 0, none⟩) (fun e => rows_apart a0 r0 (by decide) e.symm) (.slice y2.sa y2.sn y2.sc)
        have m1 := m0.set r0 (by decide) (by decide) (by decide) (by decide) (by decide) 0 (.slice y2.sa y2.sn y2.sc)
        have h1 := h0.setCell (p := ⟨BN, 0, none⟩) hbn (.slice y2.sa y2.sn y2.sc)
        have r1 := r0.set 0 (.slice y2.sa y2.sn y2.sc)
        simp only [List.setIfInBounds_toArray, List.set_cons_zero] at r1
        have a2 := a1.setOther (a := ⟨BN, 1, none⟩) (fun e => rows_apart a1 r1 (by decide) e.symm) (.slice y2.pa y2.pn y2.pc)
        have m2 := m1.set r1 (by decide) (by decide) (by decide) (by decide) (by decide) 1 (.slice y2.pa y2.pn y2.pc)
        have h2 := h1.setCell (p := ⟨BN, 1, none⟩) hbn (.slice y2.pa y2.pn y2.pc)
        have r2 := r1.set 1 (.slice y2.pa y2.pn y2.pc)
        simp only [List.setIfInBounds_toArray, List.set_cons_zero, List.set_cons_succ] at r2
        have a3 := a2.setOther (a := ⟨BN, 2, none⟩) (fun e => rows_apart a2 r2 (by decide) e.symm) (.slice y2.ha y2.hn y2.hc)
        have m3 := m2.set r2 (by decide) (by decide) (by decide) (by decide) (by decide) 2 (.slice y2.ha y2.hn y2.hc)
        have h3 := h2.setCell (p := ⟨BN, 2, none⟩) hbn (.slice y2.ha y2.hn y2.hc)
        have r3 := r2.set 2 (.slice y2.ha y2.hn y2.hc)
        simp only [List.setIfInBounds_toArray, List.set_cons_zero, List.set_cons_succ] at r3
        have a4 := a3.setOther (a := ⟨BN, 3, none⟩) (fun e => rows_apart a3 r3 (by decide) e.symm) (.slice y2.ba y2.bn y2.bc)
        have m4 := m3.set r3 (by decide) (by decide) (by decide) (by decide) (by decide) 3 (.slice y2.ba y2.bn y2.bc)
        have h4 := h3.setCell (p := ⟨BN, 3, none⟩) hbn (.slice y2.ba y2.bn y2.bc)
        have r4 := r3.set 3 (.slice y2.ba y2.bn y2.bc)
        simp only [List.setIfInBounds_toArray, List.set_cons_zero, List.set_cons_succ] at r4
        have RE := Lib.hid a4
        have RN := Lib.hid r4
        have HM2 := Lib.hid m4
        have HB2 := Lib.hid h4
        clear a0 a1 a2 a3 a4 r0 r1 r2 r3 r4 m0 m1 m2 m3 m4 h0 h1 h2 h3 h4
        refine hK.out _ _ (fun _ => trivial) ?_
        clear hK K
        try simp only [Act.put, List.setIfInBounds_toArray, List.set_cons_zero, List.set_cons_succ]
        generalize ((((W.setCell ⟨BN, 0, none⟩ (.slice y2.sa y2.sn y2.sc)).setCell ⟨BN, 1, none⟩ (.slice y2.pa y2.pn y2.pc)).setCell ⟨BN, 2, none⟩ (.slice y2.ha y2.hn y2.hc)).setCell ⟨BN, 3, none⟩ (.slice y2.ba y2.bn y2.bc)) = W5 at *
        refine wpAnyL_one (i := 11) (o := { dst := none, op := Go.Op.store 38 (Go.Operand.tmp 11) (Go.Operand.tmp 61), type := 0, pos := "law.go:24", after := #[{ on := 9, ground := Go.Ground.data }, { on := 6, ground := Go.Ground.data }, { on := 10, ground := Go.Ground.chain }, { on := 0, ground := Go.Ground.phase }, { on := 1, ground := Go.Ground.phase }, { on := 2, ground := Go.Ground.phase }, { on := 3, ground := Go.Ground.phase }, { on := 4, ground := Go.Ground.phase }, { on := 5, ground := Go.Ground.phase }, { on := 6, ground := Go.Ground.phase }, { on := 7, ground := Go.Ground.textOnly Go.Departure.lateStores }, { on := 8, ground := Go.Ground.phase }, { on := 9, ground := Go.Ground.phase }, { on := 10, ground := Go.Ground.phase }], guard := none }) (by kernel_rfl) rfl (fun K hK => ?_)
        have s0 : W5.cell? ⟨BE, 0, none⟩ = some (.int .i64 0) := RE.out.cell 0
        have s1 : W5.cell? ⟨BE, 1, none⟩ = some (.int .u64 0) := RE.out.cell 1
        have t0 := RE.out.frozen 0
        have t1 := RE.out.frozen 1
        have hlt := RE.out.lt
        refine step_skip_g (by rfl) (w' := (W5.setCell ⟨BE, 0, none⟩ (.int .i64 0)).setCell ⟨BE, 1, none⟩ (.int .u64 0)) (by go_simp) ?_
        rw [RE.out.setSelf 0 (.int .i64 0) rfl, RE.out.setSelf 1 (.int .u64 0) rfl]
        clear s0 s1 t0 t1 hlt
        refine hK.out _ _ (fun _ => trivial) ?_
        clear hK K
        try simp only [Act.put, List.setIfInBounds_toArray, List.set_cons_zero, List.set_cons_succ]
        refine wpAnyL_takeP (i := 12) (oi := { dst := some 12, op := Go.Op.assign (Go.Operand.tmp 62), type := 33, pos := "law.go:24", after := #[{ on := 7, ground := Go.Ground.data }, { on := 11, ground := Go.Ground.chain }, { on := 0, ground := Go.Ground.phase }, { on := 1, ground := Go.Ground.phase }, { on := 2, ground := Go.Ground.phase }, { on := 3, ground := Go.Ground.phase }, { on := 4, ground := Go.Ground.phase }, { on := 5, ground := Go.Ground.phase }, { on := 6, ground := Go.Ground.phase }, { on := 7, ground := Go.Ground.phase }, { on := 8, ground := Go.Ground.phase }, { on := 9, ground := Go.Ground.phase }, { on := 10, ground := Go.Ground.phase }, { on := 11, ground := Go.Ground.phase }], guard := none }) (v := .int .i64 0) rfl (by kernel_rfl) (by kernel_rfl) (by kernel_rfl) (by kernel_rfl) (fun _ _ _ h => hQp _ _ _ _ _ h) (Or.inl ⟨by rfl, ?_⟩) ?_
        · intro W9 _
          go_simp
        try simp only [Act.put, List.setIfInBounds_toArray, List.set_cons_zero, List.set_cons_succ]
        refine wpAnyL_end (by kernel_rfl) ?_
        rw [e8, e9]
        exact HK.out BN BE y2 vs2 (upd v 7 (.int .i64 0)) _ hbn HB2.out RN.out HM2.out
      | true =>
        obtain ⟨hl, hs⟩ := lst_agree (n := 13) (C := (fun j => decide (j ≤ 5 ∨ j = 8 ∨ j = 9))) (A := (fun j => decide (j ≤ 9))) (b := b) (b' := fun j => if j = 6 then true else true) (fun j hj hc ha => by
          have h1 := of_decide_eq_false hc
          have h2 := of_decide_eq_true ha
          have h3 : j = 6 ∨ j = 7 := by omega
          rcases h3 with rfl | rfl
          · exact h6
          · exact h7)
        refine (show wpAny _ _ _ _ (leftOf 13 (fun j => decide (j ≤ 5 ∨ j = 8 ∨ j = 9)) (fun j => decide (j ≤ 9)) b) (lstOf 13 (fun j => decide (j ≤ 5 ∨ j = 8 ∨ j = 9)) (fun j => decide (j ≤ 9)) b) ⟨(s0 :: .pointer (some ⟨BX, 0, none⟩) :: s2 :: .pointer (some ⟨BS, 0, none⟩) :: s4 :: s5 :: s6 :: s7 :: s8 :: s9 :: v 8 :: v 9 :: undef :: s13 :: s14 :: s15 :: s16 :: s17 :: s18 :: s19 :: s20 :: s21 :: s22 :: s23 :: s24 :: s25 :: s26 :: s27 :: s28 :: s29 :: s30 :: s31 :: s32 :: s33 :: s34 :: s35 :: s36 :: s37 :: s38 :: s39 :: s40 :: s41 :: s42 :: s43 :: s44 :: s45 :: s46 :: s47 :: s48 :: s49 :: s50 :: s51 :: s52 :: s53 :: s54 :: v 4 :: v 0 :: v 1 :: v 2 :: v 3 :: v 5 :: v 6 :: v 7 :: s63 :: s64 :: s65 :: s66 :: s67 :: s68 :: s69 :: s70 :: s71 :: s72 :: s73 :: s74 :: s75 :: s76 :: s77 :: s78 :: s79 :: s80 :: s81 :: s82 :: s83 :: s84 :: s85 :: s86 :: s87 :: s88 :: s89 :: s90 :: s91 :: s92 :: s93 :: s94 :: s95 :: s96 :: s97 :: s98 :: s99 :: s100 :: s101 :: s102 :: s103 :: s104 :: s105 :: s106 :: s107 :: s108 :: s109 :: s110 :: s111 :: s112 :: s113 :: s114 :: s115 :: s116 :: s117 :: s118 :: s119 :: s120 :: s121 :: s122 :: s123 :: s124 :: s125 :: s126 :: s127 :: s128 :: s129 :: s130 :: s131 :: s132 :: s133 :: s134 :: s135 :: s136 :: s137 :: s138 :: s139 :: s140 :: s141 :: s142 :: s143 :: s144 :: s145 :: s146 :: s147 :: s148 :: s149 :: s150 :: []).toArray, []⟩ W from ?_)
        rw [hl.trans (by kernel_rfl : _ = 3), hs.trans (by kernel_rfl : _ = #[true, true, true, true, true, true, true, true, true, true, false, false, false])]
        refine wpAny_of_L (S := fun _ => True) (X := 0) _ _ _ _ ?_
        have e6 : v 6 = .agg #[.int .i64 0, .int .u64 0] := hA 6 (by show (6 : Nat) < 13; decide) rfl h6
        have e7 : v 7 = .int .i64 0 := hA 7 (by show (7 : Nat) < 13; decide) rfl h7
        clear hl hs hA hC h6 h7
        refine wpAnyL_one (i := 10) (o := { dst := none, op := Go.Op.store 29 (Go.Operand.tmp 10) (Go.Operand.tmp 60), type := 0, pos := "law.go:24", after := #[{ on := 8, ground := Go.Ground.data }, { on := 5, ground := Go.Ground.data }, { on := 3, ground := Go.Ground.chain }, { on := 0, ground := Go.Ground.phase }, { on := 1, ground := Go.Ground.phase }, { on := 2, ground := Go.Ground.phase }, { on := 3, ground := Go.Ground.phase }, { on := 4, ground := Go.Ground.phase }, { on := 5, ground := Go.Ground.phase }, { on := 6, ground := Go.Ground.textOnly Go.Departure.lateStores }, { on := 7, ground := Go.Ground.textOnly Go.Departure.lateStores }, { on := 8, ground := Go.Ground.phase }, { on := 9, ground := Go.Ground.phase }], guard := none }) (by kernel_rfl) rfl (fun K hK => ?_)
        have ck0 : W.cell? ⟨BN, 0, none⟩ = some (.slice none 0 0) := hr.cell 0
        have fk0 := hr.frozen 0
        have ck1 : W.cell? ⟨BN, 1, none⟩ = some (.slice none 0 0) := hr.cell 1
        have fk1 := hr.frozen 1
        have ck2 : W.cell? ⟨BN, 2, none⟩ = some (.slice none 0 0) := hr.cell 2
        have fk2 := hr.frozen 2
        have ck3 : W.cell? ⟨BN, 3, none⟩ = some (.slice none 0 0) := hr.cell 3
        have fk3 := hr.frozen 3
        have hlt := hr.lt
        refine step_skip_g (by rfl) (w' := ((((W.setCell ⟨BN, 0, none⟩ (.slice y2.sa y2.sn y2.sc)).setCell ⟨BN, 1, none⟩ (.slice y2.pa y2.pn y2.pc)).setCell ⟨BN, 2, none⟩ (.slice y2.ha y2.hn y2.hc)).setCell ⟨BN, 3, none⟩ (.slice y2.ba y2.bn y2.bc))) (by go_simp) ?_
        clear ck0 fk0 ck1 fk1 ck2 fk2 ck3 fk3 hlt
        have a0 := he
        have r0 := hr
        have m0 := hm
        have h0 := hB.bl
        have a1 := a0.setOther (a := ⟨BN, 0, none⟩) (fun e => rows_apart a0 r0 (by decide) e.symm) (.slice y2.sa y2.sn y2.sc)
        have m1 := m0.set r0 (by decide) (by decide) (by decide) (by decide) (by decide) 0 (.slice y2.sa y2.sn y2.sc)
        have h1 := h0.setCell (p := ⟨BN, 0, none⟩) hbn (.slice y2.sa y2.sn y2.sc)
        have r1 := r0.set 0 (.slice y2.sa y2.sn y2.sc)
        simp only [List.setIfInBounds_toArray, List.set_cons_zero] at r1
        have a2 := a1.setOther (a := ⟨BN, 1, none⟩) (fun e => rows_apart a1 r1 (by decide) e.symm) (.slice y2.pa y2.pn y2.pc)
        have m2 := m1.set r1 (by decide) (by decide) (by decide) (by decide) (by decide) 1 (.slice y2.pa y2.pn y2.pc)
        have h2 := h1.setCell (p := ⟨BN, 1, none⟩) hbn (.slice y2.pa y2.pn y2.pc)
        have r2 := r1.set 1 (.slice y2.pa y2.pn y2.pc)
        simp only [List.setIfInBounds_toArray, List.set_cons_zero, List.set_cons_succ] at r2
        have a3 := a2.setOther (a := ⟨BN, 2, none⟩) (fun e => rows_apart a2 r2 (by decide) e.symm) (.slice y2.ha y2.hn y2.hc)
        have m3 := m2.set r2 (by decide) (by decide) (by decide) (by decide) (by decide) 2 (.slice y2.ha y2.hn y2.hc)
        have h3 := h2.setCell (p := ⟨BN, 2, none⟩) hbn (.slice y2.ha y2.hn y2.hc)
        have r3 := r2.set 2 (.slice y2.ha y2.hn y2.hc)
        simp only [List.setIfInBounds_toArray, List.set_cons_zero, List.set_cons_succ] at r3
        have a4 := a3.setOther (a := ⟨BN, 3, none⟩) (fun e => rows_apart a3 r3 (by decide) e.symm) (.slice y2.ba y2.bn y2.bc)
        have m4 := m3.set r3 (by decide) (by decide) (by decide) (by decide) (by decide) 3 (.slice y2.ba y2.bn y2.bc)
        have h4 := h3.setCell (p := ⟨BN, 3, none⟩) hbn (.slice y2.ba y2.bn y2.bc)
        have r4 := r3.set 3 (.slice y2.ba y2.bn y2.bc)
        simp only [List.setIfInBounds_toArray, List.set_cons_zero, List.set_cons_succ] at r4
        have RE := Lib.hid a4
        have RN := Lib.hid r4
        have HM2 := Lib.hid m4
        have HB2 := Lib.hid h4
        clear a0 a1 a2 a3 a4 r0 r1 r2 r3 r4 m0 m1 m2 m3 m4 h0 h1 h2 h3 h4
        refine hK.out _ _ (fun _ => trivial) ?_
        clear hK K
        try simp only [Act.put, List.setIfInBounds_toArray, List.set_cons_zero, List.set_cons_succ]
        generalize ((((W.setCell ⟨BN, 0, none⟩ (.slice y2.sa y2.sn y2.sc)).setCell ⟨BN, 1, none⟩ (.slice y2.pa y2.pn y2.pc)).setCell ⟨BN, 2, none⟩ (.slice y2.ha y2.hn y2.hc)).setCell ⟨BN, 3, none⟩ (.slice y2.ba y2.bn y2.bc)) = W5 at *
        refine wpAnyL_one (i := 11) (o := { dst := none, op := Go.Op.store 38 (Go.Operand.tmp 11) (Go.Operand.tmp 61), type := 0, pos := "law.go:24", after := #[{ on := 9, ground := Go.Ground.data }, { on := 6, ground := Go.Ground.data }, { on := 10, ground := Go.Ground.chain }, { on := 0, ground := Go.Ground.phase }, { on := 1, ground := Go.Ground.phase }, { on := 2, ground := Go.Ground.phase }, { on := 3, ground := Go.Ground.phase }, { on := 4, ground := Go.Ground.phase }, { on := 5, ground := Go.Ground.phase }, { on := 6, ground := Go.Ground.phase }, { on := 7, ground := Go.Ground.textOnly Go.Departure.lateStores }, { on := 8, ground := Go.Ground.phase }, { on := 9, ground := Go.Ground.phase }, { on := 10, ground := Go.Ground.phase }], guard := none }) (by kernel_rfl) rfl (fun K hK => ?_)
        have s0 : W5.cell? ⟨BE, 0, none⟩ = some (.int .i64 0) := RE.out.cell 0
        have s1 : W5.cell? ⟨BE, 1, none⟩ = some (.int .u64 0) := RE.out.cell 1
        have t0 := RE.out.frozen 0
        have t1 := RE.out.frozen 1
        have hlt := RE.out.lt
        refine step_skip_g (by rfl) (w' := (W5.setCell ⟨BE, 0, none⟩ (.int .i64 0)).setCell ⟨BE, 1, none⟩ (.int .u64 0)) (by go_simp) ?_
        rw [RE.out.setSelf 0 (.int .i64 0) rfl, RE.out.setSelf 1 (.int .u64 0) rfl]
        clear s0 s1 t0 t1 hlt
        refine hK.out _ _ (fun _ => trivial) ?_
        clear hK K
        try simp only [Act.put, List.setIfInBounds_toArray, List.set_cons_zero, List.set_cons_succ]
        refine wpAnyL_takeP (i := 12) (oi := { dst := some 12, op := Go.Op.assign (Go.Operand.tmp 62), type := 33, pos := "law.go:24", after := #[{ on := 7, ground := Go.Ground.data }, { on := 11, ground := Go.Ground.chain }, { on := 0, ground := Go.Ground.phase }, { on := 1, ground := Go.Ground.phase }, { on := 2, ground := Go.Ground.phase }, { on := 3, ground := Go.Ground.phase }, { on := 4, ground := Go.Ground.phase }, { on := 5, ground := Go.Ground.phase }, { on := 6, ground := Go.Ground.phase }, { on := 7, ground := Go.Ground.phase }, { on := 8, ground := Go.Ground.phase }, { on := 9, ground := Go.Ground.phase }, { on := 10, ground := Go.Ground.phase }, { on := 11, ground := Go.Ground.phase }], guard := none }) (v := .int .i64 0) rfl (by kernel_rfl) (by kernel_rfl) (by kernel_rfl) (by kernel_rfl) (fun _ _ _ h => hQp _ _ _ _ _ h) (Or.inl ⟨by rfl, ?_⟩) ?_
        · intro W9 _
          go_simp
        try simp only [Act.put, List.setIfInBounds_toArray, List.set_cons_zero, List.set_cons_succ]
        refine wpAnyL_end (by kernel_rfl) ?_
        rw [e8, e9]
        exact HK.out BN BE y2 vs2 v _ hbn HB2.out RN.out HM2.out
set_option maxHeartbeats 64000000 in
theorem Try.wk_r6 {s0 s1 s3 s4 s5 s6 s8 s9 s10 s11 s12 s16 s17 s18 s19 s20 s21 s22 s23 s24 s25 s26 s27 s28 s29 s30 s31 s32 s33 s34 s35 s36 s37 s38 s39 s40 s41 s42 s43 s44 s45 s46 s47 s48 s49 s50 s51 s52 s53 s54 s55 s56 s57 s58 s59 s60 s61 s62 s71 s72 s73 s74 s75 s76 s77 s78 s79 s80 s81 s82 s83 s84 s85 s86 s87 s88 s89 s90 s91 s92 s93 s94 s95 s96 s97 s98 s99 s100 s101 s102 s103 s104 s105 s106 s107 s108 s109 s110 s111 s112 s113 s114 s115 s116 s117 s118 s119 s120 s121 s122 s123 s124 s125 s126 s127 s128 s129 s130 s131 s132 s133 s134 s135 s136 s137 s138 s139 s140 s141 s142 s143 s144 s145 s146 s147 s148 s149 s150 : Value} (k0 BS BX : Nat) (y : Mv) (vs : List Value) (W0 : World) (Q : Exit → Act → World → Prop)
    (HWA : ∀ (k g : Int) (W : World), Hid (Calls Try.prog 26 #[.int .i64 k, .int .i64 g, .agg #[.int .i64 0, .int .u64 0]] W fun e w' => e = .returned (.agg #[.int .i64 k, .int .i64 g, .int .i64 0, .int .u64 ((0 : Nat) : Int)]) ∧ Below W.heap.size W w'))
    (hk0 : Hid (k0 ≤ W0.heap.size)) (HBS : Hid (WkC k0 BS BX wk2 y vs W0 W0))
    (hQp : ∀ c d v a w, Q (.panic c) (Act.put a d v) w → Q (.panic c) a w)
    (HK : Hid (∀ (BN BE : Nat) (y2 : Mv) (vs2 : List Value) (z : Nat → Value) (W : World), W0.heap.size ≤ BN → Below W0.heap.size W0 W → Rows8 W BN 29 #[.slice y2.sa y2.sn y2.sc, .slice y2.pa y2.pn y2.pc, .slice y2.ha y2.hn y2.hc, .slice y2.ba y2.bn y2.bc] → OwnMon k0 y2 wk4 vs2 W → Q .normal ⟨(s0 :: s1 :: .pointer (some ⟨BX, 0, none⟩) :: s3 :: s4 :: s5 :: s6 :: .pointer (some ⟨BS, 0, none⟩) :: s8 :: s9 :: s10 :: s11 :: s12 :: .pointer (some ⟨BN, 0, none⟩) :: .pointer (some ⟨BE, 0, none⟩) :: .int .i64 0 :: s16 :: s17 :: s18 :: s19 :: s20 :: s21 :: s22 :: s23 :: s24 :: s25 :: s26 :: s27 :: s28 :: s29 :: s30 :: s31 :: s32 :: s33 :: s34 :: s35 :: s36 :: s37 :: s38 :: s39 :: s40 :: s41 :: s42 :: s43 :: s44 :: s45 :: s46 :: s47 :: s48 :: s49 :: s50 :: s51 :: s52 :: s53 :: s54 :: s55 :: s56 :: s57 :: s58 :: s59 :: s60 :: s61 :: s62 :: z 4 :: z 0 :: z 1 :: z 2 :: z 3 :: z 5 :: z 6 :: z 7 :: s71 :: s72 :: s73 :: s74 :: s75 :: s76 :: s77 :: s78 :: s79 :: s80 :: s81 :: s82 :: s83 :: s84 :: s85 :: s86 :: s87 :: s88 :: s89 :: s90 :: s91 :: s92 :: s93 :: s94 :: s95 :: s96 :: s97 :: s98 :: s99 :: s100 :: s101 :: s102 :: s103 :: s104 :: s105 :: s106 :: s107 :: s108 :: s109 :: s110 :: s111 :: s112 :: s113 :: s114 :: s115 :: s116 :: s117 :: s118 :: s119 :: s120 :: s121 :: s122 :: s123 :: s124 :: s125 :: s126 :: s127 :: s128 :: s129 :: s130 :: s131 :: s132 :: s133 :: s134 :: s135 :: s136 :: s137 :: s138 :: s139 :: s140 :: s141 :: s142 :: s143 :: s144 :: s145 :: s146 :: s147 :: s148 :: s149 :: s150 :: []).toArray, []⟩ W)) :
    (Code.region 6 #[{ dst := some 64, op := Go.Op.load 29 (Go.Operand.tmp 7), type := 29, pos := "law.go:25", after := #[], guard := none }, { dst := some 65, op := Go.Op.load 38 (Go.Operand.tmp 2), type := 38, pos := "law.go:25", after := #[], guard := none }, { dst := some 66, op := Go.Op.call { callee := Go.Callee.value (Go.Operand.func 26), args := #[Go.Operand.const (Go.Value.int Go.IntKind.i64 2), Go.Operand.const (Go.Value.int Go.IntKind.i64 1), Go.Operand.tmp 65], argTypes := #[3, 3, 38] }, type := 40, pos := "law.go:25", after := #[{ on := 1, ground := Go.Ground.data }], guard := none }, { dst := some 67, op := Go.Op.call { callee := Go.Callee.value (Go.Operand.func 24), args := #[Go.Operand.tmp 64, Go.Operand.tmp 66], argTypes := #[29, 40] }, type := 59, pos := "law.go:25", after := #[{ on := 0, ground := Go.Ground.data }, { on := 2, ground := Go.Ground.data }, { on := 2, ground := Go.Ground.chain }], guard := none }, { dst := some 63, op := Go.Op.move (Go.Operand.tmp 67), type := 59, pos := "law.go:25", after := #[{ on := 3, ground := Go.Ground.data }], guard := none }, { dst := some 68, op := Go.Op.extract (Go.Operand.tmp 63) 0, type := 29, pos := "law.go:25", after := #[{ on := 4, ground := Go.Ground.data }], guard := none }, { dst := some 69, op := Go.Op.extract (Go.Operand.tmp 63) 1, type := 38, pos := "law.go:25", after := #[{ on := 4, ground := Go.Ground.data }, { on := 10, ground := Go.Ground.gcOnly Go.Departure.lateStores }], guard := none }, { dst := some 70, op := Go.Op.extract (Go.Operand.tmp 63) 2, type := 33, pos := "law.go:25", after := #[{ on := 4, ground := Go.Ground.data }, { on := 11, ground := Go.Ground.gcOnly Go.Departure.lateStores }], guard := none }, { dst := some 13, op := Go.Op.alloc 29, type := 0, pos := "law.go:25", after := #[], guard := none }, { dst := some 14, op := Go.Op.alloc 38, type := 0, pos := "law.go:25", after := #[], guard := none }, { dst := none, op := Go.Op.store 29 (Go.Operand.tmp 13) (Go.Operand.tmp 68), type := 0, pos := "law.go:25", after := #[{ on := 8, ground := Go.Ground.data }, { on := 5, ground := Go.Ground.data }, { on := 3, ground := Go.Ground.chain }, { on := 0, ground := Go.Ground.phase }, { on := 1, ground := Go.Ground.phase }, { on := 2, ground := Go.Ground.phase }, { on := 3, ground := Go.Ground.phase }, { on := 4, ground := Go.Ground.phase }, { on := 5, ground := Go.Ground.phase }, { on := 6, ground := Go.Ground.textOnly Go.Departure.lateStores }, { on := 7, ground := Go.Ground.textOnly Go.Departure.lateStores }, { on := 8, ground := Go.Ground.phase }, { on := 9, ground := Go.Ground.phase }], guard := none }, { dst := none, op := Go.Op.store 38 (Go.Operand.tmp 14) (Go.Operand.tmp 69), type := 0, pos := "law.go:25", after := #[{ on := 9, ground := Go.Ground.data }, { on := 6, ground := Go.Ground.data }, { on := 10, ground := Go.Ground.chain }, { on := 0, ground := Go.Ground.phase }, { on := 1, ground := Go.Ground.phase }, { on := 2, ground := Go.Ground.phase }, { on := 3, ground := Go.Ground.phase }, { on := 4, ground := Go.Ground.phase }, { on := 5, ground := Go.Ground.phase }, { on := 6, ground := Go.Ground.phase }, { on := 7, ground := Go.Ground.textOnly Go.Departure.lateStores }, { on := 8, ground := Go.Ground.phase }, { on := 9, ground := Go.Ground.phase }, { on := 10, ground := Go.Ground.phase }], guard := none }, { dst := some 15, op := Go.Op.assign (Go.Operand.tmp 70), type := 33, pos := "law.go:25", after := #[{ on := 7, ground := Go.Ground.data }, { on := 11, ground := Go.Ground.chain }, { on := 0, ground := Go.Ground.phase }, { on := 1, ground := Go.Ground.phase }, { on := 2, ground := Go.Ground.phase }, { on := 3, ground := Go.Ground.phase }, { on := 4, ground := Go.Ground.phase }, { on := 5, ground := Go.Ground.phase }, { on := 6, ground := Go.Ground.phase }, { on := 7, ground := Go.Ground.phase }, { on := 8, ground := Go.Ground.phase }, { on := 9, ground := Go.Ground.phase }, { on := 10, ground := Go.Ground.phase }, { on := 11, ground := Go.Ground.phase }], guard := none }] true).wp Try.prog Q ⟨(s0 :: s1 :: .pointer (some ⟨BX, 0, none⟩) :: s3 :: s4 :: s5 :: s6 :: .pointer (some ⟨BS, 0, none⟩) :: s8 :: s9 :: s10 :: s11 :: s12 :: undef :: undef :: undef :: s16 :: s17 :: s18 :: s19 :: s20 :: s21 :: s22 :: s23 :: s24 :: s25 :: s26 :: s27 :: s28 :: s29 :: s30 :: s31 :: s32 :: s33 :: s34 :: s35 :: s36 :: s37 :: s38 :: s39 :: s40 :: s41 :: s42 :: s43 :: s44 :: s45 :: s46 :: s47 :: s48 :: s49 :: s50 :: s51 :: s52 :: s53 :: s54 :: s55 :: s56 :: s57 :: s58 :: s59 :: s60 :: s61 :: s62 :: undef :: undef :: undef :: undef :: undef :: undef :: undef :: undef :: s71 :: s72 :: s73 :: s74 :: s75 :: s76 :: s77 :: s78 :: s79 :: s80 :: s81 :: s82 :: s83 :: s84 :: s85 :: s86 :: s87 :: s88 :: s89 :: s90 :: s91 :: s92 :: s93 :: s94 :: s95 :: s96 :: s97 :: s98 :: s99 :: s100 :: s101 :: s102 :: s103 :: s104 :: s105 :: s106 :: s107 :: s108 :: s109 :: s110 :: s111 :: s112 :: s113 :: s114 :: s115 :: s116 :: s117 :: s118 :: s119 :: s120 :: s121 :: s122 :: s123 :: s124 :: s125 :: s126 :: s127 :: s128 :: s129 :: s130 :: s131 :: s132 :: s133 :: s134 :: s135 :: s136 :: s137 :: s138 :: s139 :: s140 :: s141 :: s142 :: s143 :: s144 :: s145 :: s146 :: s147 :: s148 :: s149 :: s150 :: []).toArray, []⟩ W0 := by
  refine wp_region_facts (fun v => ⟨(s0 :: s1 :: .pointer (some ⟨BX, 0, none⟩) :: s3 :: s4 :: s5 :: s6 :: .pointer (some ⟨BS, 0, none⟩) :: s8 :: s9 :: s10 :: s11 :: s12 :: v 8 :: v 9 :: undef :: s16 :: s17 :: s18 :: s19 :: s20 :: s21 :: s22 :: s23 :: s24 :: s25 :: s26 :: s27 :: s28 :: s29 :: s30 :: s31 :: s32 :: s33 :: s34 :: s35 :: s36 :: s37 :: s38 :: s39 :: s40 :: s41 :: s42 :: s43 :: s44 :: s45 :: s46 :: s47 :: s48 :: s49 :: s50 :: s51 :: s52 :: s53 :: s54 :: s55 :: s56 :: s57 :: s58 :: s59 :: s60 :: s61 :: s62 :: v 4 :: v 0 :: v 1 :: v 2 :: v 3 :: v 5 :: v 6 :: v 7 :: s71 :: s72 :: s73 :: s74 :: s75 :: s76 :: s77 :: s78 :: s79 :: s80 :: s81 :: s82 :: s83 :: s84 :: s85 :: s86 :: s87 :: s88 :: s89 :: s90 :: s91 :: s92 :: s93 :: s94 :: s95 :: s96 :: s97 :: s98 :: s99 :: s100 :: s101 :: s102 :: s103 :: s104 :: s105 :: s106 :: s107 :: s108 :: s109 :: s110 :: s111 :: s112 :: s113 :: s114 :: s115 :: s116 :: s117 :: s118 :: s119 :: s120 :: s121 :: s122 :: s123 :: s124 :: s125 :: s126 :: s127 :: s128 :: s129 :: s130 :: s131 :: s132 :: s133 :: s134 :: s135 :: s136 :: s137 :: s138 :: s139 :: s140 :: s141 :: s142 :: s143 :: s144 :: s145 :: s146 :: s147 :: s148 :: s149 :: s150 :: []).toArray, []⟩) (wkG k0 W0.heap.size y (.agg #[.int .i64 2, .int .i64 1, .int .i64 0, .int .u64 0]) wk4 0) (fun W W' => Below W.heap.size W W') (WkC k0 BS BX wk2 y vs W0) (fun j => decide (j ≤ 5 ∨ j = 8 ∨ j = 9)) (fun j => decide (j ≤ 9)) (fun _ => undef) (by kernel_rfl) HBS.out.drew (fun j x W W' h hR => wkG_st h hR) (fun W W' h hR => h.below hR) (by kernel_rfl) ?_ ?_
  · intro j o hA ho v W hB hF K hK a ha
    have hj : j ≤ 9 := of_decide_eq_true hA
    clear hA HBS
    obtain rfl : a = ⟨(s0 :: s1 :: .pointer (some ⟨BX, 0, none⟩) :: s3 :: s4 :: s5 :: s6 :: .pointer (some ⟨BS, 0, none⟩) :: s8 :: s9 :: s10 :: s11 :: s12 :: v 8 :: v 9 :: undef :: s16 :: s17 :: s18 :: s19 :: s20 :: s21 :: s22 :: s23 :: s24 :: s25 :: s26 :: s27 :: s28 :: s29 :: s30 :: s31 :: s32 :: s33 :: s34 :: s35 :: s36 :: s37 :: s38 :: s39 :: s40 :: s41 :: s42 :: s43 :: s44 :: s45 :: s46 :: s47 :: s48 :: s49 :: s50 :: s51 :: s52 :: s53 :: s54 :: s55 :: s56 :: s57 :: s58 :: s59 :: s60 :: s61 :: s62 :: v 4 :: v 0 :: v 1 :: v 2 :: v 3 :: v 5 :: v 6 :: v 7 :: s71 :: s72 :: s73 :: s74 :: s75 :: s76 :: s77 :: s78 :: s79 :: s80 :: s81 :: s82 :: s83 :: s84 :: s85 :: s86 :: s87 :: s88 :: s89 :: s90 :: s91 :: s92 :: s93 :: s94 :: s95 :: s96 :: s97 :: s98 :: s99 :: s100 :: s101 :: s102 :: s103 :: s104 :: s105 :: s106 :: s107 :: s108 :: s109 :: s110 :: s111 :: s112 :: s113 :: s114 :: s115 :: s116 :: s117 :: s118 :: s119 :: s120 :: s121 :: s122 :: s123 :: s124 :: s125 :: s126 :: s127 :: s128 :: s129 :: s130 :: s131 :: s132 :: s133 :: s134 :: s135 :: s136 :: s137 :: s138 :: s139 :: s140 :: s141 :: s142 :: s143 :: s144 :: s145 :: s146 :: s147 :: s148 :: s149 :: s150 :: []).toArray, []⟩ := ha
    obtain rfl | rfl | rfl | rfl | rfl | rfl | rfl | rfl | rfl | rfl : j = 0 ∨ j = 1 ∨ j = 2 ∨ j = 3 ∨ j = 4 ∨ j = 5 ∨ j = 6 ∨ j = 7 ∨ j = 8 ∨ j = 9 := by omega
    · obtain rfl : { dst := some 64, op := Go.Op.load 29 (Go.Operand.tmp 7), type := 29, pos := "law.go:25", after := #[], guard := none } = o := Option.some.inj ((rfl : some _ = _).trans ho)
      clear ho
      have s0 : W.cell? ⟨BS, 0, none⟩ = some (.slice y.sa y.sn y.sc) := hB.r3.cell 0
      have s1 : W.cell? ⟨BS, 1, none⟩ = some (.slice y.pa y.pn y.pc) := hB.r3.cell 1
      have s2 : W.cell? ⟨BS, 2, none⟩ = some (.slice y.ha y.hn y.hc) := hB.r3.cell 2
      have s3 : W.cell? ⟨BS, 3, none⟩ = some (.slice y.ba y.bn y.bc) := hB.r3.cell 3
      refine step_value_g (by rfl) (.agg #[.slice y.sa y.sn y.sc, .slice y.pa y.pn y.pc, .slice y.ha y.hn y.hc, .slice y.ba y.bn y.bc]) (w' := W) (by go_simp) ?_
      try simp only [Act.put, List.setIfInBounds_toArray, List.set_cons_zero, List.set_cons_succ]
      exact hK.out _ W (Below.refl _ W) rfl
    · obtain rfl : { dst := some 65, op := Go.Op.load 38 (Go.Operand.tmp 2), type := 38, pos := "law.go:25", after := #[], guard := none } = o := Option.some.inj ((rfl : some _ = _).trans ho)
      clear ho
      have s0 : W.cell? ⟨BX, 0, none⟩ = some (.int .i64 0) := hB.r1.cell 0
      have s1 : W.cell? ⟨BX, 1, none⟩ = some (.int .u64 0) := hB.r1.cell 1
      refine step_value_g (by rfl) (.agg #[.int .i64 0, .int .u64 0]) (w' := W) (by go_simp) ?_
      try simp only [Act.put, List.setIfInBounds_toArray, List.set_cons_zero, List.set_cons_succ]
      exact hK.out _ W (Below.refl _ W) rfl
    · obtain rfl : { dst := some 66, op := Go.Op.call { callee := Go.Callee.value (Go.Operand.func 26), args := #[Go.Operand.const (Go.Value.int Go.IntKind.i64 2), Go.Operand.const (Go.Value.int Go.IntKind.i64 1), Go.Operand.tmp 65], argTypes := #[3, 3, 38] }, type := 40, pos := "law.go:25", after := #[{ on := 1, ground := Go.Ground.data }], guard := none } = o := Option.some.inj ((rfl : some _ = _).trans ho)
      clear ho
      have e1 : wkG k0 W0.heap.size y (.agg #[.int .i64 2, .int .i64 1, .int .i64 0, .int .u64 0]) wk4 0 1 (v 1) W := hF { on := 1, ground := Go.Ground.data } (by simp) rfl
      have e1 : v 1 = .agg #[.int .i64 0, .int .u64 0] := e1
      refine step_call_g (by rfl) 26 _ _ rfl (fun _ _ => by kernel_rfl) #[.int .i64 2, .int .i64 1, .agg #[.int .i64 0, .int .u64 0]] (by simp [go_sem, e1]) _ (HWA 2 1 W).out ?_
      rintro e W' ⟨rfl, hC⟩
      refine ⟨_, rfl, ?_⟩
      try simp only [Act.put, List.setIfInBounds_toArray, List.set_cons_zero, List.set_cons_succ]
      exact hK.out _ W' hC rfl
    · obtain rfl : { dst := some 67, op := Go.Op.call { callee := Go.Callee.value (Go.Operand.func 24), args := #[Go.Operand.tmp 64, Go.Operand.tmp 66], argTypes := #[29, 40] }, type := 59, pos := "law.go:25", after := #[{ on := 0, ground := Go.Ground.data }, { on := 2, ground := Go.Ground.data }, { on := 2, ground := Go.Ground.chain }], guard := none } = o := Option.some.inj ((rfl : some _ = _).trans ho)
      clear ho
      have e0 : wkG k0 W0.heap.size y (.agg #[.int .i64 2, .int .i64 1, .int .i64 0, .int .u64 0]) wk4 0 0 (v 0) W := hF { on := 0, ground := Go.Ground.data } (by simp) rfl
      have e0 : v 0 = .agg #[.slice y.sa y.sn y.sc, .slice y.pa y.pn y.pc, .slice y.ha y.hn y.hc, .slice y.ba y.bn y.bc] := e0
      have e2 : wkG k0 W0.heap.size y (.agg #[.int .i64 2, .int .i64 1, .int .i64 0, .int .u64 0]) wk4 0 2 (v 2) W := hF { on := 2, ground := Go.Ground.data } (by simp) rfl
      have e2 : v 2 = .agg #[.int .i64 2, .int .i64 1, .int .i64 0, .int .u64 0] := e2
      have HRN := Lib.hid (Try.Do_any y wk2 ⟨2, 1, 0, 0⟩ 10 W (hB.o.at wk2_ok.1) wk2_ok.2 (by decide))
      rw [wk_do4] at HRN
      refine step_call_g (by rfl) 24 _ _ rfl (fun _ _ => by kernel_rfl) #[.agg #[.slice y.sa y.sn y.sc, .slice y.pa y.pn y.pc, .slice y.ha y.hn y.hc, .slice y.ba y.bn y.bc], .agg #[.int .i64 2, .int .i64 1, .int .i64 0, .int .u64 0]] (by simp [go_sem, e0, e2]) _ HRN.out ?_
      rintro e W' ⟨y2, vs2, rfl, hm, hC⟩
      refine ⟨_, rfl, ?_⟩
      try simp only [Act.put, List.setIfInBounds_toArray, List.set_cons_zero, List.set_cons_succ]
      exact hK.out _ W' hC ⟨y2, vs2, rfl, hm.mono (Nat.le_trans hk0.out hB.bl.size)⟩
    · obtain rfl : { dst := some 63, op := Go.Op.move (Go.Operand.tmp 67), type := 59, pos := "law.go:25", after := #[{ on := 3, ground := Go.Ground.data }], guard := none } = o := Option.some.inj ((rfl : some _ = _).trans ho)
      clear ho
      have e0 : wkG k0 W0.heap.size y (.agg #[.int .i64 2, .int .i64 1, .int .i64 0, .int .u64 0]) wk4 0 3 (v 3) W := hF { on := 3, ground := Go.Ground.data } (by simp) rfl
      obtain ⟨y2, vs2, e10, hm⟩ := e0
      refine step_value_g (by rfl) (.tuple #[.agg #[.slice y2.sa y2.sn y2.sc, .slice y2.pa y2.pn y2.pc, .slice y2.ha y2.hn y2.hc, .slice y2.ba y2.bn y2.bc], .agg #[.int .i64 0, .int .u64 0], .int .i64 0]) (w' := W) (by go_simp) ?_
      try simp only [Act.put, List.setIfInBounds_toArray, List.set_cons_zero, List.set_cons_succ]
      exact hK.out _ W (Below.refl _ W) ⟨y2, vs2, rfl, hm⟩
    · obtain rfl : { dst := some 68, op := Go.Op.extract (Go.Operand.tmp 63) 0, type := 29, pos := "law.go:25", after := #[{ on := 4, ground := Go.Ground.data }], guard := none } = o := Option.some.inj ((rfl : some _ = _).trans ho)
      clear ho
      have e0 : wkG k0 W0.heap.size y (.agg #[.int .i64 2, .int .i64 1, .int .i64 0, .int .u64 0]) wk4 0 4 (v 4) W := hF { on := 4, ground := Go.Ground.data } (by simp) rfl
      obtain ⟨y2, vs2, e11, hm⟩ := e0
      refine step_value_g (by rfl) (.agg #[.slice y2.sa y2.sn y2.sc, .slice y2.pa y2.pn y2.pc, .slice y2.ha y2.hn y2.hc, .slice y2.ba y2.bn y2.bc]) (w' := W) (by go_simp) ?_
      try simp only [Act.put, List.setIfInBounds_toArray, List.set_cons_zero, List.set_cons_succ]
      exact hK.out _ W (Below.refl _ W) ⟨y2, vs2, rfl, hm⟩
    · obtain rfl : { dst := some 69, op := Go.Op.extract (Go.Operand.tmp 63) 1, type := 38, pos := "law.go:25", after := #[{ on := 4, ground := Go.Ground.data }, { on := 10, ground := Go.Ground.gcOnly Go.Departure.lateStores }], guard := none } = o := Option.some.inj ((rfl : some _ = _).trans ho)
      clear ho
      have e0 : wkG k0 W0.heap.size y (.agg #[.int .i64 2, .int .i64 1, .int .i64 0, .int .u64 0]) wk4 0 4 (v 4) W := hF { on := 4, ground := Go.Ground.data } (by simp) rfl
      obtain ⟨y2, vs2, e11, hm⟩ := e0
      refine step_value_g (by rfl) (.agg #[.int .i64 0, .int .u64 0]) (w' := W) (by go_simp) ?_
      try simp only [Act.put, List.setIfInBounds_toArray, List.set_cons_zero, List.set_cons_succ]
      exact hK.out _ W (Below.refl _ W) rfl
    · obtain rfl : { dst := some 70, op := Go.Op.extract (Go.Operand.tmp 63) 2, type := 33, pos := "law.go:25", after := #[{ on := 4, ground := Go.Ground.data }, { on := 11, ground := Go.Ground.gcOnly Go.Departure.lateStores }], guard := none } = o := Option.some.inj ((rfl : some _ = _).trans ho)
      clear ho
      have e0 : wkG k0 W0.heap.size y (.agg #[.int .i64 2, .int .i64 1, .int .i64 0, .int .u64 0]) wk4 0 4 (v 4) W := hF { on := 4, ground := Go.Ground.data } (by simp) rfl
      obtain ⟨y2, vs2, e11, hm⟩ := e0
      refine step_value_g (by rfl) (.int .i64 0) (w' := W) (by go_simp) ?_
      try simp only [Act.put, List.setIfInBounds_toArray, List.set_cons_zero, List.set_cons_succ]
      exact hK.out _ W (Below.refl _ W) rfl
    · obtain rfl : { dst := some 13, op := Go.Op.alloc 29, type := 0, pos := "law.go:25", after := #[], guard := none } = o := Option.some.inj ((rfl : some _ = _).trans ho)
      clear ho
      refine step_value_g (by rfl) (.pointer (some ⟨W.heap.size, 0, none⟩)) (w' := W.alloc (.cells #[.slice none 0 0, .slice none 0 0, .slice none 0 0, .slice none 0 0] 29)) (by go_simp) ?_
      try simp only [Act.put, List.setIfInBounds_toArray, List.set_cons_zero, List.set_cons_succ]
      exact hK.out _ _ Rows8.newB ⟨_, rfl, hB.bl.size, Rows8.new _ _ _⟩
    · obtain rfl : { dst := some 14, op := Go.Op.alloc 38, type := 0, pos := "law.go:25", after := #[], guard := none } = o := Option.some.inj ((rfl : some _ = _).trans ho)
      clear ho
      refine step_value_g (by rfl) (.pointer (some ⟨W.heap.size, 0, none⟩)) (w' := W.alloc (.cells #[.int .i64 0, .int .u64 0] 38)) (by go_simp) ?_
      try simp only [Act.put, List.setIfInBounds_toArray, List.set_cons_zero, List.set_cons_succ]
      exact hK.out _ _ Rows8.newB ⟨_, rfl, hB.bl.size, Rows8.new _ _ _⟩
  · intro b v W hB hC hA
    have f4 : wkG k0 W0.heap.size y (.agg #[.int .i64 2, .int .i64 1, .int .i64 0, .int .u64 0]) wk4 0 4 (v 4) W := hC 4 (by show (4 : Nat) < 13; decide) rfl
    obtain ⟨y2, vs2, e5, hm⟩ : wkG k0 W0.heap.size y (.agg #[.int .i64 2, .int .i64 1, .int .i64 0, .int .u64 0]) wk4 0 5 (v 5) W := hC 5 (by show (5 : Nat) < 13; decide) rfl
    obtain ⟨BN, e8, hbn, hr⟩ : wkG k0 W0.heap.size y (.agg #[.int .i64 2, .int .i64 1, .int .i64 0, .int .u64 0]) wk4 0 8 (v 8) W := hC 8 (by show (8 : Nat) < 13; decide) rfl
    obtain ⟨BE, e9, hbe, he⟩ : wkG k0 W0.heap.size y (.agg #[.int .i64 2, .int .i64 1, .int .i64 0, .int .u64 0]) wk4 0 9 (v 9) W := hC 9 (by show (9 : Nat) < 13; decide) rfl
    cases h6 : b 6 with
    | false =>
      cases h7 : b 7 with
      | false =>
        obtain ⟨hl, hs⟩ := lst_agree (n := 13) (C := (fun j => decide (j ≤ 5 ∨ j = 8 ∨ j = 9))) (A := (fun j => decide (j ≤ 9))) (b := b) (b' := fun j => if j = 6 then false else false) (fun j hj hc ha => by
          have h1 := of_decide_eq_false hc
          have h2 := of_decide_eq_true ha
          have h3 : j = 6 ∨ j = 7 := by omega
          rcases h3 with rfl | rfl
          · exact h6
          · exact h7)
        refine (show wpAny _ _ _ _ (leftOf 13 (fun j => decide (j ≤ 5 ∨ j = 8 ∨ j = 9)) (fun j => decide (j ≤ 9)) b) (lstOf 13 (fun j => decide (j ≤ 5 ∨ j = 8 ∨ j = 9)) (fun j => decide (j ≤ 9)) b) ⟨(s0 :: s1 :: .pointer (some ⟨BX, 0, none⟩) :: s3 :: s4 :: s5 :: s6 :: .pointer (some ⟨BS, 0, none⟩) :: s8 :: s9 :: s10 :: s11 :: s12 :: v 8 :: v 9 :: undef :: s16 :: s17 :: s18 :: s19 :: s20 :: s21 :: s22 :: s23 :: s24 :: s25 :: s26 :: s27 :: s28 :: s29 :: s30 :: s31 :: s32 :: s33 :: s34 :: s35 :: s36 :: s37 :: s38 :: s39 :: s40 :: s41 :: s42 :: s43 :: s44 :: s45 :: s46 :: s47 :: s48 :: s49 :: s50 :: s51 :: s52 :: s53 :: s54 :: s55 :: s56 :: s57 :: s58 :: s59 :: s60 :: s61 :: s62 :: v 4 :: v 0 :: v 1 :: v 2 :: v 3 :: v 5 :: v 6 :: v 7 :: s71 :: s72 :: s73 :: s74 :: s75 :: s76 :: s77 :: s78 :: s79 :: s80 :: s81 :: s82 :: s83 :: s84 :: s85 :: s86 :: s87 :: s88 :: s89 :: s90 :: s91 :: s92 :: s93 :: s94 :: s95 :: s96 :: s97 :: s98 :: s99 :: s100 :: s101 :: s102 :: s103 :: s104 :: s105 :: s106 :: s107 :: s108 :: s109 :: s110 :: s111 :: s112 :: s113 :: s114 :: s115 :: s116 :: s117 :: s118 :: s119 :: s120 :: s121 :: s122 :: s123 :: s124 :: s125 :: s126 :: s127 :: s128 :: s129 :: s130 :: s131 :: s132 :: s133 :: s134 :: s135 :: s136 :: s137 :: s138 :: s139 :: s140 :: s141 :: s142 :: s143 :: s144 :: s145 :: s146 :: s147 :: s148 :: s149 :: s150 :: []).toArray, []⟩ W from ?_)
        rw [hl.trans (by kernel_rfl : _ = 5), hs.trans (by kernel_rfl : _ = #[true, true, true, true, true, true, false, false, true, true, false, false, false])]
        refine wpAny_of_L (S := fun _ => True) (X := 0) _ _ _ _ ?_
        obtain ⟨y3, vs3, e4, -⟩ := f4
        clear hl hs hA hC h6 h7
        refine wpAnyL_takeP (i := 6) (oi := { dst := some 69, op := Go.Op.extract (Go.Operand.tmp 63) 1, type := 38, pos := "law.go:25", after := #[{ on := 4, ground := Go.Ground.data }, { on := 10, ground := Go.Ground.gcOnly Go.Departure.lateStores }], guard := none }) (v := .agg #[.int .i64 0, .int .u64 0]) rfl (by kernel_rfl) (by kernel_rfl) (by kernel_rfl) (by kernel_rfl) (fun _ _ _ h => hQp _ _ _ _ _ h) (Or.inl ⟨by rfl, ?_⟩) ?_
        · intro W9 _
          go_simp
        try simp only [Act.put, List.setIfInBounds_toArray, List.set_cons_zero, List.set_cons_succ]
        refine wpAnyL_takeP (i := 7) (oi := { dst := some 70, op := Go.Op.extract (Go.Operand.tmp 63) 2, type := 33, pos := "law.go:25", after := #[{ on := 4, ground := Go.Ground.data }, { on := 11, ground := Go.Ground.gcOnly Go.Departure.lateStores }], guard := none }) (v := .int .i64 0) rfl (by kernel_rfl) (by kernel_rfl) (by kernel_rfl) (by kernel_rfl) (fun _ _ _ h => hQp _ _ _ _ _ h) (Or.inl ⟨by rfl, ?_⟩) ?_
        · intro W9 _
          go_simp
        try simp only [Act.put, List.setIfInBounds_toArray, List.set_cons_zero, List.set_cons_succ]
        refine wpAnyL_one (i := 10) (o := { dst := none, op := Go.Op.store 29 (Go.Operand.tmp 13) (Go.Operand.tmp 68), type := 0, pos := "law.go:25", after := #[{ on := 8, ground := Go.Ground.data }, { on := 5, ground := Go.Ground.data }, { on := 3, ground := Go.Ground.chain }, { on := 0, ground := Go.Ground.phase }, { on := 1, ground := Go.Ground.phase }, { on := 2, ground := Go.Ground.phase }, { on := 3, ground := Go.Ground.phase }, { on := 4, ground := Go.Ground.phase }, { on := 5, ground := Go.Ground.phase }, { on := 6, ground := Go.Ground.textOnly Go.Departure.lateStores }, { on := 7, ground := Go.Ground.textOnly Go.Departure.lateStores }, { on := 8, ground := Go.Ground.phase }, { on := 9, ground := Go.Ground.phase }], guard := none }) (by kernel_rfl) rfl (fun K hK => ?_)
        have ck0 : W.cell? ⟨BN, 0, none⟩ = some (.slice none 0 0) := hr.cell 0
        have fk0 := hr.frozen 0
        have ck1 : W.cell? ⟨BN, 1, none⟩ = some (.slice none 0 0) := hr.cell 1
        have fk1 := hr.frozen 1
        have ck2 : W.cell? ⟨BN, 2, none⟩ = some (.slice none 0 0) := hr.cell 2
        have fk2 := hr.frozen 2
        have ck3 : W.cell? ⟨BN, 3, none⟩ = some (.slice none 0 0) := hr.cell 3
        have fk3 := hr.frozen 3
        have hlt := hr.lt
        refine step_skip_g (by rfl) (w' := ((((W.setCell ⟨BN, 0, none⟩ (.slice y2.sa y2.sn y2.sc)).setCell ⟨BN, 1, none⟩ (.slice y2.pa y2.pn y2.pc)).setCell ⟨BN, 2, none⟩ (.slice y2.ha y2.hn y2.hc)).setCell ⟨BN, 3, none⟩ (.slice y2.ba y2.bn y2.bc))) (by go_simp) ?_
        clear ck0 fk0 ck1 fk1 ck2 fk2 ck3 fk3 hlt
        have a0 := he
        have r0 := hr
        have m0 := hm
        have h0 := hB.bl
        have a1 := a0.setOther (a := ⟨BN, 0, none⟩) (fun e => rows_apart a0 r0 (by decide) e.symm) (.slice y2.sa y2.sn y2.sc)
        have m1 := m0.set r0 (by decide) (by decide) (by decide) (by decide) (by decide) 0 (.slice y2.sa y2.sn y2.sc)
        have h1 := h0.setCell (p := ⟨BN, 0, none⟩) hbn (.slice y2.sa y2.sn y2.sc)
        have r1 := r0.set 0 (.slice y2.sa y2.sn y2.sc)
        simp only [List.setIfInBounds_toArray, List.set_cons_zero] at r1
        have a2 := a1.setOther (a := ⟨BN, 1, none⟩) (fun e => rows_apart a1 r1 (by decide) e.symm) (.slice y2.pa y2.pn y2.pc)
        have m2 := m1.set r1 (by decide) (by decide) (by decide) (by decide) (by decide) 1 (.slice y2.pa y2.pn y2.pc)
        have h2 := h1.setCell (p := ⟨BN, 1, none⟩) hbn (.slice y2.pa y2.pn y2.pc)
        have r2 := r1.set 1 (.slice y2.pa y2.pn y2.pc)
        simp only [List.setIfInBounds_toArray, List.set_cons_zero, List.set_cons_succ] at r2
        have a3 := a2.setOther (a := ⟨BN, 2, none⟩) (fun e => rows_apart a2 r2 (by decide) e.symm) (.slice y2.ha y2.hn y2.hc)
        have m3 := m2.set r2 (by decide) (by decide) (by decide) (by decide) (by decide) 2 (.slice y2.ha y2.hn y2.hc)
        have h3 := h2.setCell (p := ⟨BN, 2, none⟩) hbn (.slice y2.ha y2.hn y2.hc)
        have r3 := r2.set 2 (.slice y2.ha y2.hn y2.hc)
        simp only [List.setIfInBounds_toArray, List.set_cons_zero, List.set_cons_succ] at r3
        have a4 := a3.setOther (a := ⟨BN, 3, none⟩) (fun e => rows_apart a3 r3 (by decide) e.symm) (.slice y2.ba y2.bn y2.bc)
        have m4 := m3.set r3 (by decide) (by decide) (by decide) (by decide) (by decide) 3 (.slice y2.ba y2.bn y2.bc)
        have h4 := h3.setCell (p := ⟨BN, 3, none⟩) hbn (.slice y2.ba y2.bn y2.bc)
        have r4 := r3.set 3 (.slice y2.ba y2.bn y2.bc)
        simp only [List.setIfInBounds_toArray, List.set_cons_zero, List.set_cons_succ] at r4
        have RE := Lib.hid a4
        have RN := Lib.hid r4
        have HM2 := Lib.hid m4
        have HB2 := Lib.hid h4
        clear a0 a1 a2 a3 a4 r0 r1 r2 r3 r4 m0 m1 m2 m3 m4 h0 h1 h2 h3 h4
        refine hK.out _ _ (fun _ => trivial) ?_
        clear hK K
        try simp only [Act.put, List.setIfInBounds_toArray, List.set_cons_zero, List.set_cons_succ]
        generalize ((((W.setCell ⟨BN, 0, none⟩ (.slice y2.sa y2.sn y2.sc)).setCell ⟨BN, 1, none⟩ (.slice y2.pa y2.pn y2.pc)).setCell ⟨BN, 2, none⟩ (.slice y2.ha y2.hn y2.hc)).setCell ⟨BN, 3, none⟩ (.slice y2.ba y2.bn y2.bc)) = W5 at *
        refine wpAnyL_one (i := 11) (o := { dst := none, op := Go.Op.store 38 (Go.Operand.tmp 14) (Go.Operand.tmp 69), type := 0, pos := "law.go:25", after := #[{ on := 9, ground := Go.Ground.data }, { on := 6, ground := Go.Ground.data }, { on := 10, ground := Go.Ground.chain }, { on := 0, ground := Go.Ground.phase }, { on := 1, ground := Go.Ground.phase }, { on := 2, ground := Go.Ground.phase }, { on := 3, ground := Go.Ground.phase }, { on := 4, ground := Go.Ground.phase }, { on := 5, ground := Go.Ground.phase }, { on := 6, ground := Go.Ground.phase }, { on := 7, ground := Go.Ground.textOnly Go.Departure.lateStores }, { on := 8, ground := Go.Ground.phase }, { on := 9, ground := Go.Ground.phase }, { on := 10, ground := Go.Ground.phase }], guard := none }) (by kernel_rfl) rfl (fun K hK => ?_)
        have s0 : W5.cell? ⟨BE, 0, none⟩ = some (.int .i64 0) := RE.out.cell 0
        have s1 : W5.cell? ⟨BE, 1, none⟩ = some (.int .u64 0) := RE.out.cell 1
        have t0 := RE.out.frozen 0
        have t1 := RE.out.frozen 1
        have hlt := RE.out.lt
        refine step_skip_g (by rfl) (w' := (W5.setCell ⟨BE, 0, none⟩ (.int .i64 0)).setCell ⟨BE, 1, none⟩ (.int .u64 0)) (by go_simp) ?_
        rw [RE.out.setSelf 0 (.int .i64 0) rfl, RE.out.setSelf 1 (.int .u64 0) rfl]
        clear s0 s1 t0 t1 hlt
        refine hK.out _ _ (fun _ => trivial) ?_
        clear hK K
        try simp only [Act.put, List.setIfInBounds_toArray, List.set_cons_zero, List.set_cons_succ]
        refine wpAnyL_takeP (i := 12) (oi := { dst := some 15, op := Go.Op.assign (Go.Operand.tmp 70), type := 33, pos := "law.go:25", after := #[{ on := 7, ground := Go.Ground.data }, { on := 11, ground := Go.Ground.chain }, { on := 0, ground := Go.Ground.phase }, { on := 1, ground := Go.Ground.phase }, { on := 2, ground := Go.Ground.phase }, { on := 3, ground := Go.Ground.phase }, { on := 4, ground := Go.Ground.phase }, { on := 5, ground := Go.Ground.phase }, { on := 6, ground := Go.Ground.phase }, { on := 7, ground := Go.Ground.phase }, { on := 8, ground := Go.Ground.phase }, { on := 9, ground := Go.Ground.phase }, { on := 10, ground := Go.Ground.phase }, { on := 11, ground := Go.Ground.phase }], guard := none }) (v := .int .i64 0) rfl (by kernel_rfl) (by kernel_rfl) (by kernel_rfl) (by kernel_rfl) (fun _ _ _ h => hQp _ _ _ _ _ h) (Or.inl ⟨by rfl, ?_⟩) ?_
        · intro W9 _
          go_simp
        try simp only [Act.put, List.setIfInBounds_toArray, List.set_cons_zero, List.set_cons_succ]
        refine wpAnyL_end (by kernel_rfl) ?_
        rw [e8, e9]
        exact HK.out BN BE y2 vs2 (upd (upd v 6 (.agg #[.int .i64 0, .int .u64 0])) 7 (.int .i64 0)) _ hbn HB2.out RN.out HM2.out
      | true =>
        obtain ⟨hl, hs⟩ := lst_agree (n := 13) (C := (fun j => decide (j ≤ 5 ∨ j = 8 ∨ j = 9))) (A := (fun j => decide (j ≤ 9))) (b := b) (b' := fun j => if j = 6 then false else true) (fun j hj hc ha => by
          have h1 := of_decide_eq_false hc
          have h2 := of_decide_eq_true ha
          have h3 : j = 6 ∨ j = 7 := by omega
          rcases h3 with rfl | rfl
          · exact h6
          · exact h7)
        refine (show wpAny _ _ _ _ (leftOf 13 (fun j => decide (j ≤ 5 ∨ j = 8 ∨ j = 9)) (fun j => decide (j ≤ 9)) b) (lstOf 13 (fun j => decide (j ≤ 5 ∨ j = 8 ∨ j = 9)) (fun j => decide (j ≤ 9)) b) ⟨(s0 :: s1 :: .pointer (some ⟨BX, 0, none⟩) :: s3 :: s4 :: s5 :: s6 :: .pointer (some ⟨BS, 0, none⟩) :: s8 :: s9 :: s10 :: s11 :: s12 :: v 8 :: v 9 :: undef :: s16 :: s17 :: s18 :: s19 :: s20 :: s21 :: s22 :: s23 :: s24 :: s25 :: s26 :: s27 :: s28 :: s29 :: s30 :: s31 :: s32 :: s33 :: s34 :: s35 :: s36 :: s37 :: s38 :: s39 :: s40 :: s41 :: s42 :: s43 :: s44 :: s45 :: s46 :: s47 :: s48 :: s49 :: s50 :: s51 :: s52 :: s53 :: s54 :: s55 :: s56 :: s57 :: s58 :: s59 :: s60 :: s61 :: s62 :: v 4 :: v 0 :: v 1 :: v 2 :: v 3 :: v 5 :: v 6 :: v 7 :: s71 :: s72 :: s73 :: s74 :: s75 :: s76 :: s77 :: s78 :: s79 :: s80 :: s81 :: s82 :: s83 :: s84 :: s85 :: s86 :: s87 :: s88 :: s89 :: s90 :: s91 :: s92 :: s93 :: s94 :: s95 :: s96 :: s97 :: s98 :: s99 :: s100 :: s101 :: s102 :: s103 :: s104 :: s105 :: s106 :: s107 :: s108 :: s109 :: s110 :: s111 :: s112 :: s113 :: s114 :: s115 :: s116 :: s117 :: s118 :: s119 :: s120 :: s121 :: s122 :: s123 :: s124 :: s125 :: s126 :: s127 :: s128 :: s129 :: s130 :: s131 :: s132 :: s133 :: s134 :: s135 :: s136 :: s137 :: s138 :: s139 :: s140 :: s141 :: s142 :: s143 :: s144 :: s145 :: s146 :: s147 :: s148 :: s149 :: s150 :: []).toArray, []⟩ W from ?_)
        rw [hl.trans (by kernel_rfl : _ = 4), hs.trans (by kernel_rfl : _ = #[true, true, true, true, true, true, false, true, true, true, false, false, false])]
        refine wpAny_of_L (S := fun _ => True) (X := 0) _ _ _ _ ?_
        have e7 : v 7 = .int .i64 0 := hA 7 (by show (7 : Nat) < 13; decide) rfl h7
        obtain ⟨y3, vs3, e4, -⟩ := f4
        clear hl hs hA hC h6 h7
        refine wpAnyL_takeP (i := 6) (oi := { dst := some 69, op := Go.Op.extract (Go.Operand.tmp 63) 1, type := 38, pos := "law.go:25", after := #[{ on := 4, ground := Go.Ground.data }, { on := 10, ground := Go.Ground.gcOnly Go.Departure.lateStores }], guard := none }) (v := .agg #[.int .i64 0, .int .u64 0]) rfl (by kernel_rfl) (by kernel_rfl) (by kernel_rfl) (by kernel_rfl) (fun _ _ _ h => hQp _ _ _ _ _ h) (Or.inl ⟨by rfl, ?_⟩) ?_
        · intro W9 _
          go_simp
        try simp only [Act.put, List.setIfInBounds_toArray, List.set_cons_zero, List.set_cons_succ]
        refine wpAnyL_one (i := 10) (o := { dst := none, op := Go.Op.store 29 (Go.Operand.tmp 13) (Go.Operand.tmp 68), type := 0, pos := "law.go:25", after := #[{ on := 8, ground := Go.Ground.data }, { on := 5, ground := Go.Ground.data }, { on := 3, ground := Go.Ground.chain }, { on := 0, ground := Go.Ground.phase }, { on := 1, ground := Go.Ground.phase }, { on := 2, ground := Go.Ground.phase }, { on := 3, ground := Go.Ground.phase }, { on := 4, ground := Go.Ground.phase }, { on := 5, ground := Go.Ground.phase }, { on := 6, ground := Go.Ground.textOnly Go.Departure.lateStores }, { on := 7, ground := Go.Ground.textOnly Go.Departure.lateStores }, { on := 8, ground := Go.Ground.phase }, { on := 9, ground := Go.Ground.phase }], guard := none }) (by kernel_rfl) rfl (fun K hK => ?_)
        have ck0 : W.cell? ⟨BN, 0, none⟩ = some (.slice none 0 0) := hr.cell 0
        have fk0 := hr.frozen 0
        have ck1 : W.cell? ⟨BN, 1, none⟩ = some (.slice none 0 0) := hr.cell 1
        have fk1 := hr.frozen 1
        have ck2 : W.cell? ⟨BN, 2, none⟩ = some (.slice none 0 0) := hr.cell 2
        have fk2 := hr.frozen 2
        have ck3 : W.cell? ⟨BN, 3, none⟩ = some (.slice none 0 0) := hr.cell 3
        have fk3 := hr.frozen 3
        have hlt := hr.lt
        refine step_skip_g (by rfl) (w' := ((((W.setCell ⟨BN, 0, none⟩ (.slice y2.sa y2.sn y2.sc)).setCell ⟨BN, 1, none⟩ (.slice y2.pa y2.pn y2.pc)).setCell ⟨BN, 2, none⟩ (.slice y2.ha y2.hn y2.hc)).setCell ⟨BN, 3, none⟩ (.slice y2.ba y2.bn y2.bc))) (by go_simp) ?_
        clear ck0 fk0 ck1 fk1 ck2 fk2 ck3 fk3 hlt
        have a0 := he
        have r0 := hr
        have m0 := hm
        have h0 := hB.bl
        have a1 := a0.setOther (a := ⟨BN, 0, none⟩) (fun e => rows_apart a0 r0 (by decide) e.symm) (.slice y2.sa y2.sn y2.sc)
        have m1 := m0.set r0 (by decide) (by decide) (by decide) (by decide) (by decide) 0 (.slice y2.sa y2.sn y2.sc)
        have h1 := h0.setCell (p := ⟨BN, 0, none⟩) hbn (.slice y2.sa y2.sn y2.sc)
        have r1 := r0.set 0 (.slice y2.sa y2.sn y2.sc)
        simp only [List.setIfInBounds_toArray, List.set_cons_zero] at r1
        have a2 := a1.setOther (a := ⟨BN, 1, none⟩) (fun e => rows_apart a1 r1 (by decide) e.symm) (.slice y2.pa y2.pn y2.pc)
        have m2 := m1.set r1 (by decide) (by decide) (by decide) (by decide) (by decide) 1 (.slice y2.pa y2.pn y2.pc)
        have h2 := h1.setCell (p := ⟨BN, 1, none⟩) hbn (.slice y2.pa y2.pn y2.pc)
        have r2 := r1.set 1 (.slice y2.pa y2.pn y2.pc)
        simp only [List.setIfInBounds_toArray, List.set_cons_zero, List.set_cons_succ] at r2
        have a3 := a2.setOther (a := ⟨BN, 2, none⟩) (fun e => rows_apart a2 r2 (by decide) e.symm) (.slice y2.ha y2.hn y2.hc)
        have m3 := m2.set r2 (by decide) (by decide) (by decide) (by decide) (by decide) 2 (.slice y2.ha y2.hn y2.hc)
        have h3 := h2.setCell (p := ⟨BN, 2, none⟩) hbn (.slice y2.ha y2.hn y2.hc)
        have r3 := r2.set 2 (.slice y2.ha y2.hn y2.hc)
        simp only [List.setIfInBounds_toArray, List.set_cons_zero, List.set_cons_succ] at r3
        have a4 := a3.setOther (a := ⟨BN, 3, none⟩) (fun e => rows_apart a3 r3 (by decide) e.symm) (.slice y2.ba y2.bn y2.bc)
        have m4 := m3.set r3 (by decide) (by decide) (by decide) (by decide) (by decide) 3 (.slice y2.ba y2.bn y2.bc)
        have h4 := h3.setCell (p := ⟨BN, 3, none⟩) hbn (.slice y2.ba y2.bn y2.bc)
        have r4 := r3.set 3 (.slice y2.ba y2.bn y2.bc)
        simp only [List.setIfInBounds_toArray, List.set_cons_zero, List.set_cons_succ] at r4
        have RE := Lib.hid a4
        have RN := Lib.hid r4
        have HM2 := Lib.hid m4
        have HB2 := Lib.hid h4
        clear a0 a1 a2 a3 a4 r0 r1 r2 r3 r4 m0 m1 m2 m3 m4 h0 h1 h2 h3 h4
        refine hK.out _ _ (fun _ => trivial) ?_
        clear hK K
        try simp only [Act.put, List.setIfInBounds_toArray, List.set_cons_zero, List.set_cons_succ]
        generalize ((((W.setCell ⟨BN, 0, none⟩ (.slice y2.sa y2.sn y2.sc)).setCell ⟨BN, 1, none⟩ (.slice y2.pa y2.pn y2.pc)).setCell ⟨BN, 2, none⟩ (.slice y2.ha y2.hn y2.hc)).setCell ⟨BN, 3, none⟩ (.slice y2.ba y2.bn y2.bc)) = W5 at *
        refine wpAnyL_one (i := 11) (o := { dst := none, op := Go.Op.store 38 (Go.Operand.tmp 14) (Go.Operand.tmp 69), type := 0, pos := "law.go:25", after := #[{ on := 9, ground := Go.Ground.data }, { on := 6, ground := Go.Ground.data }, { on := 10, ground := Go.Ground.chain }, { on := 0, ground := Go.Ground.phase }, { on := 1, ground := Go.Ground.phase }, { on := 2, ground := Go.Ground.phase }, { on := 3, ground := Go.Ground.phase }, { on := 4, ground := Go.Ground.phase }, { on := 5, ground := Go.Ground.phase }, { on := 6, ground := Go.Ground.phase }, { on := 7, ground := Go.Ground.textOnly Go.Departure.lateStores }, { on := 8, ground := Go.Ground.phase }, { on := 9, ground := Go.Ground.phase }, { on := 10, ground := Go.Ground.phase }], guard := none }) (by kernel_rfl) rfl (fun K hK => ?_)
        have s0 : W5.cell? ⟨BE, 0, none⟩ = some (.int .i64 0) := RE.out.cell 0
        have s1 : W5.cell? ⟨BE, 1, none⟩ = some (.int .u64 0) := RE.out.cell 1
        have t0 := RE.out.frozen 0
        have t1 := RE.out.frozen 1
        have hlt := RE.out.lt
        refine step_skip_g (by rfl) (w' := (W5.setCell ⟨BE, 0, none⟩ (.int .i64 0)).setCell ⟨BE, 1, none⟩ (.int .u64 0)) (by go_simp) ?_
        rw [RE.out.setSelf 0 (.int .i64 0) rfl, RE.out.setSelf 1 (.int .u64 0) rfl]
        clear s0 s1 t0 t1 hlt
        refine hK.out _ _ (fun _ => trivial) ?_
        clear hK K
        try simp only [Act.put, List.setIfInBounds_toArray, List.set_cons_zero, List.set_cons_succ]
        refine wpAnyL_takeP (i := 12) (oi := { dst := some 15, op := Go.Op.assign (Go.Operand.tmp 70), type := 33, pos := "law.go:25", after := #[{ on := 7, ground := Go.Ground.data }, { on := 11, ground := Go.Ground.chain }, { on := 0, ground := Go.Ground.phase }, { on := 1, ground := Go.Ground.phase }, { on := 2, ground := Go.Ground.phase }, { on := 3, ground := Go.Ground.phase }, { on := 4, ground := Go.Ground.phase }, { on := 5, ground := Go.Ground.phase }, { on := 6, ground := Go.Ground.phase }, { on := 7, ground := Go.Ground.phase }, { on := 8, ground := Go.Ground.phase }, { on := 9, ground := Go.Ground.phase }, { on := 10, ground := Go.Ground.phase }, { on := 11, ground := Go.Ground.phase }], guard := none }) (v := .int .i64 0) rfl (by kernel_rfl) (by kernel_rfl) (by kernel_rfl) (by kernel_rfl) (fun _ _ _ h => hQp _ _ _ _ _ h) (Or.inl ⟨by rfl, ?_⟩) ?_
        · intro W9 _
          go_simp
        try simp only [Act.put, List.setIfInBounds_toArray, List.set_cons_zero, List.set_cons_succ]
        refine wpAnyL_end (by kernel_rfl) ?_
        rw [e8, e9]
        exact HK.out BN BE y2 vs2 (upd v 6 (.agg #[.int .i64 0, .int .u64 0])) _ hbn HB2.out RN.out HM2.out
    | true =>
      cases h7 : b 7 with
      | false =>
        obtain ⟨hl, hs⟩ := lst_agree (n := 13) (C := (fun j => decide (j ≤ 5 ∨ j = 8 ∨ j = 9))) (A := (fun j => decide (j ≤ 9))) (b := b) (b' := fun j => if j = 6 then true else false) (fun j hj hc ha => by
          have h1 := of_decide_eq_false hc
          have h2 := of_decide_eq_true ha
          have h3 : j = 6 ∨ j = 7 := by omega
          rcases h3 with rfl | rfl
          · exact h6
          · exact h7)
        refine (show wpAny _ _ _ _ (leftOf 13 (fun j => decide (j ≤ 5 ∨ j = 8 ∨ j = 9)) (fun j => decide (j ≤ 9)) b) (lstOf 13 (fun j => decide (j ≤ 5 ∨ j = 8 ∨ j = 9)) (fun j => decide (j ≤ 9)) b) ⟨(s0 :: s1 :: .pointer (some ⟨BX, 0, none⟩) :: s3 :: s4 :: s5 :: s6 :: .pointer (some ⟨BS, 0, none⟩) :: s8 :: s9 :: s10 :: s11 :: s12 :: v 8 :: v 9 :: undef :: s16 :: s17 :: s18 :: s19 :: s20 :: s21 :: s22 :: s23 :: s24 :: s25 :: s26 :: s27 :: s28 :: s29 :: s30 :: s31 :: s32 :: s33 :: s34 :: s35 :: s36 :: s37 :: s38 :: s39 :: s40 :: s41 :: s42 :: s43 :: s44 :: s45 :: s46 :: s47 :: s48 :: s49 :: s50 :: s51 :: s52 :: s53 :: s54 :: s55 :: s56 :: s57 :: s58 :: s59 :: s60 :: s61 :: s62 :: v 4 :: v 0 :: v 1 :: v 2 :: v 3 :: v 5 :: v 6 :: v 7 :: s71 :: s72 :: s73 :: s74 :: s75 :: s76 :: s77 :: s78 :: s79 :: s80 :: s81 :: s82 :: s83 :: s84 :: s85 :: s86 :: s87 :: s88 :: s89 :: s90 :: s91 :: s92 :: s93 :: s94 :: s95 :: s96 :: s97 :: s98 :: s99 :: s100 :: s101 :: s102 :: s103 :: s104 :: s105 :: s106 :: s107 :: s108 :: s109 :: s110 :: s111 :: s112 :: s113 :: s114 :: s115 :: s116 :: s117 :: s118 :: s119 :: s120 :: s121 :: s122 :: s123 :: s124 :: s125 :: s126 :: s127 :: s128 :: s129 :: s130 :: s131 :: s132 :: s133 :: s134 :: s135 :: s136 :: s137 :: s138 :: s139 :: s140 :: s141 :: s142 :: s143 :: s144 :: s145 :: s146 :: s147 :: s148 :: s149 :: s150 :: []).toArray, []⟩ W from ?_)
        rw [hl.trans (by kernel_rfl : _ = 4), hs.trans (by kernel_rfl : _ = #[true, true, true, true, true, true, true, false, true, true, false, false, false])]
        refine wpAny_of_L (S := fun _ => True) (X := 0) _ _ _ _ ?_
        have e6 : v 6 = .agg #[.int .i64 0, .int .u64 0] := hA 6 (by show (6 : Nat) < 13; decide) rfl h6
        obtain ⟨y3, vs3, e4, -⟩ := f4
        clear hl hs hA hC h6 h7
        refine wpAnyL_takeP (i := 7) (oi := { dst := some 70, op := Go.Op.extract (Go.Operand.tmp 63) 2, type := 33, pos := "law.go:25", after := #[{ on := 4, ground := Go.Ground.data }, { on := 11, ground := Go.Ground.gcOnly Go.Departure.lateStores }], guard := none }) (v := .int .i64 0) rfl (by kernel_rfl) (by kernel_rfl) (by kernel_rfl) (by kernel_rfl) (fun _ _ _ h => hQp _ _ _ _ _ h) (Or.inl ⟨by rfl, ?_⟩) ?_
        · intro W9 _
          go_simp
        try simp only [Act.put, List.setIfInBounds_toArray, List.set_cons_zero, List.set_cons_succ]
        refine wpAnyL_one (i := 10) (o := { dst := none, op := Go.Op.store 29 (Go.Operand.tmp 13) (Go.Operand.tmp 68), type := 0, pos := "law.go:25", after := #[{ on := 8, ground := Go.Ground.data }, { on := 5, ground := Go.Ground.data }, { on := 3, ground := Go.Ground.chain }, { on := 0, ground := Go.Ground.phase }, { on := 1, ground := Go.Ground.phase }, { on := 2, ground := Go.Ground.phase }, { on := 3, ground := Go.Ground.phase }, { on := 4, ground := Go.Ground.phase }, { on := 5, ground := Go.Ground.phase }, { on := 6, ground := Go.Ground.textOnly Go.Departure.lateStores }, { on := 7, ground := Go.Ground.textOnly Go.Departure.lateStores }, { on := 8, ground := Go.Ground.phase }, { on := 9, ground := Go.Ground.phase }], guard := none }) (by kernel_rfl) rfl (fun K hK => ?_)
        have ck0 : W.cell? ⟨BN, 0, none⟩ = some (.slice none 0 0) := hr.cell 0
        have fk0 := hr.frozen 0
        have ck1 : W.cell? ⟨BN, 1, none⟩ = some (.slice none 0 0) := hr.cell 1
        have fk1 := hr.frozen 1
        have ck2 : W.cell? ⟨BN, 2, none⟩ = some (.slice none 0 0) := hr.cell 2
        have fk2 := hr.frozen 2
        have ck3 : W.cell? ⟨BN, 3, none⟩ = some (.slice none 0 0) := hr.cell 3
        have fk3 := hr.frozen 3
        have hlt := hr.lt
        refine step_skip_g (by rfl) (w' := ((((W.setCell ⟨BN, 0, none⟩ (.slice y2.sa y2.sn y2.sc)).setCell ⟨BN, 1, none⟩ (.slice y2.pa y2.pn y2.pc)).setCell ⟨BN, 2, none⟩ (.slice y2.ha y2.hn y2.hc)).setCell ⟨BN, 3, none⟩ (.slice y2.ba y2.bn y2.bc))) (by go_simp) ?_
        clear ck0 fk0 ck1 fk1 ck2 fk2 ck3 fk3 hlt
        have a0 := he
        have r0 := hr
        have m0 := hm
        have h0 := hB.bl
        have a1 := a0.setOther (a := ⟨BN, 0, none⟩) (fun e => rows_apart a0 r0 (by decide) e.symm) (.slice y2.sa y2.sn y2.sc)
        have m1 := m0.set r0 (by decide) (by decide) (by decide) (by decide) (by decide) 0 (.slice y2.sa y2.sn y2.sc)
        have h1 := h0.setCell (p := ⟨BN, 0, none⟩) hbn (.slice y2.sa y2.sn y2.sc)
        have r1 := r0.set 0 (.slice y2.sa y2.sn y2.sc)
        simp only [List.setIfInBounds_toArray, List.set_cons_zero] at r1
        have a2 := a1.setOther (a := ⟨BN, 1, none⟩) (fun e => rows_apart a1 r1 (by decide) e.symm) (.slice y2.pa y2.pn y2.pc)
        have m2 := m1.set r1 (by decide) (by decide) (by decide) (by decide) (by decide) 1 (.slice y2.pa y2.pn y2.pc)
        have h2 := h1.setCell (p := ⟨BN, 1, none⟩) hbn (.slice y2.pa y2.pn y2.pc)
        have r2 := r1.set 1 (.slice y2.pa y2.pn y2.pc)
        simp only [List.setIfInBounds_toArray, List.set_cons_zero, List.set_cons_succ] at r2
        have a3 := a2.setOther (a := ⟨BN, 2, none⟩) (fun e => rows_apart a2 r2 (by decide) e.symm) (.slice y2.ha y2.hn y2.hc)
        have m3 := m2.set r2 (by decide) (by decide) (by decide) (by decide) (by decide) 2 (.slice y2.ha y2.hn y2.hc)
        have h3 := h2.setCell (p := ⟨BN, 2, none⟩) hbn (.slice y2.ha y2.hn y2.hc)
        have r3 := r2.set 2 (.slice y2.ha y2.hn y2.hc)
        simp only [List.setIfInBounds_toArray, List.set_cons_zero, List.set_cons_succ] at r3
        have a4 := a3.setOther (a := ⟨BN, 3, none⟩) (fun e => rows_apart a3 r3 (by decide) e.symm) (.slice y2.ba y2.bn y2.bc)
        have m4 := m3.set r3 (by decide) (by decide) (by decide) (by decide) (by decide) 3 (.slice y2.ba y2.bn y2.bc)
        have h4 := h3.setCell (p := ⟨BN, 3, none⟩) hbn (.slice y2.ba y2.bn y2.bc)
        have r4 := r3.set 3 (.slice y2.ba y2.bn y2.bc)
        simp only [List.setIfInBounds_toArray, List.set_cons_zero, List.set_cons_succ] at r4
        have RE := Lib.hid a4
        have RN := Lib.hid r4
        have HM2 := Lib.hid m4
        have HB2 := Lib.hid h4
        clear a0 a1 a2 a3 a4 r0 r1 r2 r3 r4 m0 m1 m2 m3 m4 h0 h1 h2 h3 h4
        refine hK.out _ _ (fun _ => trivial) ?_
        clear hK K
        try simp only [Act.put, List.setIfInBounds_toArray, List.set_cons_zero, List.set_cons_succ]
        generalize ((((W.setCell ⟨BN, 0, none⟩ (.slice y2.sa y2.sn y2.sc)).setCell ⟨BN, 1, none⟩ (.slice y2.pa y2.pn y2.pc)).setCell ⟨BN, 2, none⟩ (.slice y2.ha y2.hn y2.hc)).setCell ⟨BN, 3, none⟩ (.slice y2.ba y2.bn y2.bc)) = W5 at *
        refine wpAnyL_one (i := 11) (o := { dst := none, op := Go.Op.store 38 (Go.Operand.tmp 14) (Go.Operand.tmp 69), type := 0, pos := "law.go:25", after := #[{ on := 9, ground := Go.Ground.data }, { on := 6, ground := Go.Ground.data }, { on := 10, ground := Go.Ground.chain }, { on := 0, ground := Go.Ground.phase }, { on := 1, ground := Go.Ground.phase }, { on := 2, ground := Go.Ground.phase }, { on := 3, ground := Go.Ground.phase }, { on := 4, ground := Go.Ground.phase }, { on := 5, ground := Go.Ground.phase }, { on := 6, ground := Go.Ground.phase }, { on := 7, ground := Go.Ground.textOnly Go.Departure.lateStores }, { on := 8, ground := Go.Ground.phase }, { on := 9, ground := Go.Ground.phase }, { on := 10, ground := Go.Ground.phase }], guard := none }) (by kernel_rfl) rfl (fun K hK => ?_)
        have s0 : W5.cell? ⟨BE, 0, none⟩ = some (.int .i64 0) := RE.out.cell 0
        have s1 : W5.cell? ⟨BE, 1, none⟩ = some (.int .u64 0) := RE.out.cell 1
        have t0 := RE.out.frozen 0
        have t1 := RE.out.frozen 1
        have hlt := RE.out.lt
        refine step_skip_g (by rfl) (w' := (W5.setCell ⟨BE, 0, none⟩ (.int .i64 0)).setCell ⟨BE, 1, none⟩ (.int .u64 0)) (by go_simp) ?_
        rw [RE.out.setSelf 0 (.int .i64 0) rfl, RE.out.setSelf 1 (.int .u64 0) rfl]
        clear s0 s1 t0 t1 hlt
        refine hK.out _ _ (fun _ => trivial) ?_
        clear hK K
        try simp only [Act.put, List.setIfInBounds_toArray, List.set_cons_zero, List.set_cons_succ]
        refine wpAnyL_takeP (i := 12) (oi := { dst := some 15, op := Go.Op.assign (Go.Operand.tmp 70), type := 33, pos := "law.go:25", after := #[{ on := 7, ground := Go.Ground.data }, { on := 11, ground := Go.Ground.chain }, { on := 0, ground := Go.Ground.phase }, { on := 1, ground := Go.Ground.phase }, { on := 2, ground := Go.Ground.phase }, { on := 3, ground := Go.Ground.phase }, { on := 4, ground := Go.Ground.phase }, { on := 5, ground := Go.Ground.phase }, { on := 6, ground := Go.Ground.phase }, { on := 7, ground := Go.Ground.phase }, { on := 8, ground := Go.Ground.phase }, { on := 9, ground := Go.Ground.phase }, { on := 10, ground := Go.Ground.phase }, { on := 11, ground := Go.Ground.phase }], guard := none }) (v := .int .i64 0) rfl (by kernel_rfl) (by kernel_rfl) (by kernel_rfl) (by kernel_rfl) (fun _ _ _ h => hQp _ _ _ _ _ h) (Or.inl ⟨by rfl, ?_⟩) ?_
        · intro W9 _
          go_simp
        try simp only [Act.put, List.setIfInBounds_toArray, List.set_cons_zero, List.set_cons_succ]
        refine wpAnyL_end (by kernel_rfl) ?_
        rw [e8, e9]
        exact HK.out BN BE y2 vs2 (upd v 7 (.int .i64 0)) _ hbn HB2.out RN.out HM2.out
      | true =>
        obtain ⟨hl, hs⟩ := lst_agree (n := 13) (C := (fun j => decide (j ≤ 5 ∨ j = 8 ∨ j = 9))) (A := (fun j => decide (j ≤ 9))) (b := b) (b' := fun j => if j = 6 then true else true) (fun j hj hc ha => by
          have h1 := of_decide_eq_false hc
          have h2 := of_decide_eq_true ha
          have h3 : j = 6 ∨ j = 7 := by omega
          rcases h3 with rfl | rfl
          · exact h6
          · exact h7)
        refine (show wpAny _ _ _ _ (leftOf 13 (fun j => decide (j ≤ 5 ∨ j = 8 ∨ j = 9)) (fun j => decide (j ≤ 9)) b) (lstOf 13 (fun j => decide (j ≤ 5 ∨ j = 8 ∨ j = 9)) (fun j => decide (j ≤ 9)) b) ⟨(s0 :: s1 :: .pointer (some ⟨BX, 0, none⟩) :: s3 :: s4 :: s5 :: s6 :: .pointer (some ⟨BS, 0, none⟩) :: s8 :: s9 :: s10 :: s11 :: s12 :: v 8 :: v 9 :: undef :: s16 :: s17 :: s18 :: s19 :: s20 :: s21 :: s22 :: s23 :: s24 :: s25 :: s26 :: s27 :: s28 :: s29 :: s30 :: s31 :: s32 :: s33 :: s34 :: s35 :: s36 :: s37 :: s38 :: s39 :: s40 :: s41 :: s42 :: s43 :: s44 :: s45 :: s46 :: s47 :: s48 :: s49 :: s50 :: s51 :: s52 :: s53 :: s54 :: s55 :: s56 :: s57 :: s58 :: s59 :: s60 :: s61 :: s62 :: v 4 :: v 0 :: v 1 :: v 2 :: v 3 :: v 5 :: v 6 :: v 7 :: s71 :: s72 :: s73 :: s74 :: s75 :: s76 :: s77 :: s78 :: s79 :: s80 :: s81 :: s82 :: s83 :: s84 :: s85 :: s86 :: s87 :: s88 :: s89 :: s90 :: s91 :: s92 :: s93 :: s94 :: s95 :: s96 :: s97 :: s98 :: s99 :: s100 :: s101 :: s102 :: s103 :: s104 :: s105 :: s106 :: s107 :: s108 :: s109 :: s110 :: s111 :: s112 :: s113 :: s114 :: s115 :: s116 :: s117 :: s118 :: s119 :: s120 :: s121 :: s122 :: s123 :: s124 :: s125 :: s126 :: s127 :: s128 :: s129 :: s130 :: s131 :: s132 :: s133 :: s134 :: s135 :: s136 :: s137 :: s138 :: s139 :: s140 :: s141 :: s142 :: s143 :: s144 :: s145 :: s146 :: s147 :: s148 :: s149 :: s150 :: []).toArray, []⟩ W from ?_)
        rw [hl.trans (by kernel_rfl : _ = 3), hs.trans (by kernel_rfl : _ = #[true, true, true, true, true, true, true, true, true, true, false, false, false])]
        refine wpAny_of_L (S := fun _ => True) (X := 0) _ _ _ _ ?_
        have e6 : v 6 = .agg #[.int .i64 0, .int .u64 0] := hA 6 (by show (6 : Nat) < 13; decide) rfl h6
        have e7 : v 7 = .int .i64 0 := hA 7 (by show (7 : Nat) < 13; decide) rfl h7
        clear hl hs hA hC h6 h7
        refine wpAnyL_one (i := 10) (o := { dst := none, op := Go.Op.store 29 (Go.Operand.tmp 13) (Go.Operand.tmp 68), type := 0, pos := "law.go:25", after := #[{ on := 8, ground := Go.Ground.data }, { on := 5, ground := Go.Ground.data }, { on := 3, ground := Go.Ground.chain }, { on := 0, ground := Go.Ground.phase }, { on := 1, ground := Go.Ground.phase }, { on := 2, ground := Go.Ground.phase }, { on := 3, ground := Go.Ground.phase }, { on := 4, ground := Go.Ground.phase }, { on := 5, ground := Go.Ground.phase }, { on := 6, ground := Go.Ground.textOnly Go.Departure.lateStores }, { on := 7, ground := Go.Ground.textOnly Go.Departure.lateStores }, { on := 8, ground := Go.Ground.phase }, { on := 9, ground := Go.Ground.phase }], guard := none }) (by kernel_rfl) rfl (fun K hK => ?_)
        have ck0 : W.cell? ⟨BN, 0, none⟩ = some (.slice none 0 0) := hr.cell 0
        have fk0 := hr.frozen 0
        have ck1 : W.cell? ⟨BN, 1, none⟩ = some (.slice none 0 0) := hr.cell 1
        have fk1 := hr.frozen 1
        have ck2 : W.cell? ⟨BN, 2, none⟩ = some (.slice none 0 0) := hr.cell 2
        have fk2 := hr.frozen 2
        have ck3 : W.cell? ⟨BN, 3, none⟩ = some (.slice none 0 0) := hr.cell 3
        have fk3 := hr.frozen 3
        have hlt := hr.lt
        refine step_skip_g (by rfl) (w' := ((((W.setCell ⟨BN, 0, none⟩ (.slice y2.sa y2.sn y2.sc)).setCell ⟨BN, 1, none⟩ (.slice y2.pa y2.pn y2.pc)).setCell ⟨BN, 2, none⟩ (.slice y2.ha y2.hn y2.hc)).setCell ⟨BN, 3, none⟩ (.slice y2.ba y2.bn y2.bc))) (by go_simp) ?_
        clear ck0 fk0 ck1 fk1 ck2 fk2 ck3 fk3 hlt
        have a0 := he
        have r0 := hr
        have m0 := hm
        have h0 := hB.bl
        have a1 := a0.setOther (a := ⟨BN, 0, none⟩) (fun e => rows_apart a0 r0 (by decide) e.symm) (.slice y2.sa y2.sn y2.sc)
        have m1 := m0.set r0 (by decide) (by decide) (by decide) (by decide) (by decide) 0 (.slice y2.sa y2.sn y2.sc)
        have h1 := h0.setCell (p := ⟨BN, 0, none⟩) hbn (.slice y2.sa y2.sn y2.sc)
        have r1 := r0.set 0 (.slice y2.sa y2.sn y2.sc)
        simp only [List.setIfInBounds_toArray, List.set_cons_zero] at r1
        have a2 := a1.setOther (a := ⟨BN, 1, none⟩) (fun e => rows_apart a1 r1 (by decide) e.symm) (.slice y2.pa y2.pn y2.pc)
        have m2 := m1.set r1 (by decide) (by decide) (by decide) (by decide) (by decide) 1 (.slice y2.pa y2.pn y2.pc)
        have h2 := h1.setCell (p := ⟨BN, 1, none⟩) hbn (.slice y2.pa y2.pn y2.pc)
        have r2 := r1.set 1 (.slice y2.pa y2.pn y2.pc)
        simp only [List.setIfInBounds_toArray, List.set_cons_zero, List.set_cons_succ] at r2
        have a3 := a2.setOther (a := ⟨BN, 2, none⟩) (fun e => rows_apart a2 r2 (by decide) e.symm) (.slice y2.ha y2.hn y2.hc)
        have m3 := m2.set r2 (by decide) (by decide) (by decide) (by decide) (by decide) 2 (.slice y2.ha y2.hn y2.hc)
        have h3 := h2.setCell (p := ⟨BN, 2, none⟩) hbn (.slice y2.ha y2.hn y2.hc)
        have r3 := r2.set 2 (.slice y2.ha y2.hn y2.hc)
        simp only [List.setIfInBounds_toArray, List.set_cons_zero, List.set_cons_succ] at r3
        have a4 := a3.setOther (a := ⟨BN, 3, none⟩) (fun e => rows_apart a3 r3 (by decide) e.symm) (.slice y2.ba y2.bn y2.bc)
        have m4 := m3.set r3 (by decide) (by decide) (by decide) (by decide) (by decide) 3 (.slice y2.ba y2.bn y2.bc)
        have h4 := h3.setCell (p := ⟨BN, 3, none⟩) hbn (.slice y2.ba y2.bn y2.bc)
        have r4 := r3.set 3 (.slice y2.ba y2.bn y2.bc)
        simp only [List.setIfInBounds_toArray, List.set_cons_zero, List.set_cons_succ] at r4
        have RE := Lib.hid a4
        have RN := Lib.hid r4
        have HM2 := Lib.hid m4
        have HB2 := Lib.hid h4
        clear a0 a1 a2 a3 a4 r0 r1 r2 r3 r4 m0 m1 m2 m3 m4 h0 h1 h2 h3 h4
        refine hK.out _ _ (fun _ => trivial) ?_
        clear hK K
        try simp only [Act.put, List.setIfInBounds_toArray, List.set_cons_zero, List.set_cons_succ]
        generalize ((((W.setCell ⟨BN, 0, none⟩ (.slice y2.sa y2.sn y2.sc)).setCell ⟨BN, 1, none⟩ (.slice y2.pa y2.pn y2.pc)).setCell ⟨BN, 2, none⟩ (.slice y2.ha y2.hn y2.hc)).setCell ⟨BN, 3, none⟩ (.slice y2.ba y2.bn y2.bc)) = W5 at *
        refine wpAnyL_one (i := 11) (o := { dst := none, op := Go.Op.store 38 (Go.Operand.tmp 14) (Go.Operand.tmp 69), type := 0, pos := "law.go:25", after := #[{ on := 9, ground := Go.Ground.data }, { on := 6, ground := Go.Ground.data }, { on := 10, ground := Go.Ground.chain }, { on := 0, ground := Go.Ground.phase }, { on := 1, ground := Go.Ground.phase }, { on := 2, ground := Go.Ground.phase }, { on := 3, ground := Go.Ground.phase }, { on := 4, ground := Go.Ground.phase }, { on := 5, ground := Go.Ground.phase }, { on := 6, ground := Go.Ground.phase }, { on := 7, ground := Go.Ground.textOnly Go.Departure.lateStores }, { on := 8, ground := Go.Ground.phase }, { on := 9, ground := Go.Ground.phase }, { on := 10, ground := Go.Ground.phase }], guard := none }) (by kernel_rfl) rfl (fun K hK => ?_)
        have s0 : W5.cell? ⟨BE, 0, none⟩ = some (.int .i64 0) := RE.out.cell 0
        have s1 : W5.cell? ⟨BE, 1, none⟩ = some (.int .u64 0) := RE.out.cell 1
        have t0 := RE.out.frozen 0
        have t1 := RE.out.frozen 1
        have hlt := RE.out.lt
        refine step_skip_g (by rfl) (w' := (W5.setCell ⟨BE, 0, none⟩ (.int .i64 0)).setCell ⟨BE, 1, none⟩ (.int .u64 0)) (by go_simp) ?_
        rw [RE.out.setSelf 0 (.int .i64 0) rfl, RE.out.setSelf 1 (.int .u64 0) rfl]
        clear s0 s1 t0 t1 hlt
        refine hK.out _ _ (fun _ => trivial) ?_
        clear hK K
        try simp only [Act.put, List.setIfInBounds_toArray, List.set_cons_zero, List.set_cons_succ]
        refine wpAnyL_takeP (i := 12) (oi := { dst := some 15, op := Go.Op.assign (Go.Operand.tmp 70), type := 33, pos := "law.go:25", after := #[{ on := 7, ground := Go.Ground.data }, { on := 11, ground := Go.Ground.chain }, { on := 0, ground := Go.Ground.phase }, { on := 1, ground := Go.Ground.phase }, { on := 2, ground := Go.Ground.phase }, { on := 3, ground := Go.Ground.phase }, { on := 4, ground := Go.Ground.phase }, { on := 5, ground := Go.Ground.phase }, { on := 6, ground := Go.Ground.phase }, { on := 7, ground := Go.Ground.phase }, { on := 8, ground := Go.Ground.phase }, { on := 9, ground := Go.Ground.phase }, { on := 10, ground := Go.Ground.phase }, { on := 11, ground := Go.Ground.phase }], guard := none }) (v := .int .i64 0) rfl (by kernel_rfl) (by kernel_rfl) (by kernel_rfl) (by kernel_rfl) (fun _ _ _ h => hQp _ _ _ _ _ h) (Or.inl ⟨by rfl, ?_⟩) ?_
        · intro W9 _
          go_simp
        try simp only [Act.put, List.setIfInBounds_toArray, List.set_cons_zero, List.set_cons_succ]
        refine wpAnyL_end (by kernel_rfl) ?_
        rw [e8, e9]
        exact HK.out BN BE y2 vs2 v _ hbn HB2.out RN.out HM2.out
set_option maxHeartbeats 64000000 in
theorem Try.wk_r7 {s0 s1 s3 s4 s5 s6 s7 s8 s9 s10 s11 s12 s14 s15 s19 s20 s21 s22 s23 s24 s25 s26 s27 s28 s29 s30 s31 s32 s33 s34 s35 s36 s37 s38 s39 s40 s41 s42 s43 s44 s45 s46 s47 s48 s49 s50 s51 s52 s53 s54 s55 s56 s57 s58 s59 s60 s61 s62 s63 s64 s65 s66 s67 s68 s69 s70 s79 s80 s81 s82 s83 s84 s85 s86 s87 s88 s89 s90 s91 s92 s93 s94 s95 s96 s97 s98 s99 s100 s101 s102 s103 s104 s105 s106 s107 s108 s109 s110 s111 s112 s113 s114 s115 s116 s117 s118 s119 s120 s121 s122 s123 s124 s125 s126 s127 s128 s129 s130 s131 s132 s133 s134 s135 s136 s137 s138 s139 s140 s141 s142 s143 s144 s145 s146 s147 s148 s149 s150 : Value} (k0 BS BX : Nat) (y : Mv) (vs : List Value) (W0 : World) (Q : Exit → Act → World → Prop)
    (HWA : ∀ (k g : Int) (W : World), Hid (Calls Try.prog 26 #[.int .i64 k, .int .i64 g, .agg #[.int .i64 0, .int .u64 0]] W fun e w' => e = .returned (.agg #[.int .i64 k, .int .i64 g, .int .i64 0, .int .u64 ((0 : Nat) : Int)]) ∧ Below W.heap.size W w'))
    (hk0 : Hid (k0 ≤ W0.heap.size)) (HBS : Hid (WkC k0 BS BX wk4 y vs W0 W0))
    (hQp : ∀ c d v a w, Q (.panic c) (Act.put a d v) w → Q (.panic c) a w)
    (HK : Hid (∀ (BN BE : Nat) (y2 : Mv) (vs2 : List Value) (z : Nat → Value) (W : World), W0.heap.size ≤ BN → Below W0.heap.size W0 W → Rows8 W BN 29 #[.slice y2.sa y2.sn y2.sc, .slice y2.pa y2.pn y2.pc, .slice y2.ha y2.hn y2.hc, .slice y2.ba y2.bn y2.bc] → OwnMon k0 y2 noM vs2 W → Q .normal ⟨(s0 :: s1 :: .pointer (some ⟨BX, 0, none⟩) :: s3 :: s4 :: s5 :: s6 :: s7 :: s8 :: s9 :: s10 :: s11 :: s12 :: .pointer (some ⟨BS, 0, none⟩) :: s14 :: s15 :: .pointer (some ⟨BN, 0, none⟩) :: .pointer (some ⟨BE, 0, none⟩) :: .int .i64 4 :: s19 :: s20 :: s21 :: s22 :: s23 :: s24 :: s25 :: s26 :: s27 :: s28 :: s29 :: s30 :: s31 :: s32 :: s33 :: s34 :: s35 :: s36 :: s37 :: s38 :: s39 :: s40 :: s41 :: s42 :: s43 :: s44 :: s45 :: s46 :: s47 :: s48 :: s49 :: s50 :: s51 :: s52 :: s53 :: s54 :: s55 :: s56 :: s57 :: s58 :: s59 :: s60 :: s61 :: s62 :: s63 :: s64 :: s65 :: s66 :: s67 :: s68 :: s69 :: s70 :: z 4 :: z 0 :: z 1 :: z 2 :: z 3 :: z 5 :: z 6 :: z 7 :: s79 :: s80 :: s81 :: s82 :: s83 :: s84 :: s85 :: s86 :: s87 :: s88 :: s89 :: s90 :: s91 :: s92 :: s93 :: s94 :: s95 :: s96 :: s97 :: s98 :: s99 :: s100 :: s101 :: s102 :: s103 :: s104 :: s105 :: s106 :: s107 :: s108 :: s109 :: s110 :: s111 :: s112 :: s113 :: s114 :: s115 :: s116 :: s117 :: s118 :: s119 :: s120 :: s121 :: s122 :: s123 :: s124 :: s125 :: s126 :: s127 :: s128 :: s129 :: s130 :: s131 :: s132 :: s133 :: s134 :: s135 :: s136 :: s137 :: s138 :: s139 :: s140 :: s141 :: s142 :: s143 :: s144 :: s145 :: s146 :: s147 :: s148 :: s149 :: s150 :: []).toArray, []⟩ W)) :
    (Code.region 7 #[{ dst := some 72, op := Go.Op.load 29 (Go.Operand.tmp 13), type := 29, pos := "law.go:26", after := #[], guard := none }, { dst := some 73, op := Go.Op.load 38 (Go.Operand.tmp 2), type := 38, pos := "law.go:26", after := #[], guard := none }, { dst := some 74, op := Go.Op.call { callee := Go.Callee.value (Go.Operand.func 26), args := #[Go.Operand.const (Go.Value.int Go.IntKind.i64 2), Go.Operand.const (Go.Value.int Go.IntKind.i64 1), Go.Operand.tmp 73], argTypes := #[3, 3, 38] }, type := 40, pos := "law.go:26", after := #[{ on := 1, ground := Go.Ground.data }], guard := none }, { dst := some 75, op := Go.Op.call { callee := Go.Callee.value (Go.Operand.func 24), args := #[Go.Operand.tmp 72, Go.Operand.tmp 74], argTypes := #[29, 40] }, type := 59, pos := "law.go:26", after := #[{ on := 0, ground := Go.Ground.data }, { on := 2, ground := Go.Ground.data }, { on := 2, ground := Go.Ground.chain }], guard := none }, { dst := some 71, op := Go.Op.move (Go.Operand.tmp 75), type := 59, pos := "law.go:26", after := #[{ on := 3, ground := Go.Ground.data }], guard := none }, { dst := some 76, op := Go.Op.extract (Go.Operand.tmp 71) 0, type := 29, pos := "law.go:26", after := #[{ on := 4, ground := Go.Ground.data }], guard := none }, { dst := some 77, op := Go.Op.extract (Go.Operand.tmp 71) 1, type := 38, pos := "law.go:26", after := #[{ on := 4, ground := Go.Ground.data }, { on := 10, ground := Go.Ground.gcOnly Go.Departure.lateStores }], guard := none }, { dst := some 78, op := Go.Op.extract (Go.Operand.tmp 71) 2, type := 33, pos := "law.go:26", after := #[{ on := 4, ground := Go.Ground.data }, { on := 11, ground := Go.Ground.gcOnly Go.Departure.lateStores }], guard := none }, { dst := some 16, op := Go.Op.alloc 29, type := 0, pos := "law.go:26", after := #[], guard := none }, { dst := some 17, op := Go.Op.alloc 38, type := 0, pos := "law.go:26", after := #[], guard := none }, { dst := none, op := Go.Op.store 29 (Go.Operand.tmp 16) (Go.Operand.tmp 76), type := 0, pos := "law.go:26", after := #[{ on := 8, ground := Go.Ground.data }, { on := 5, ground := Go.Ground.data }, { on := 3, ground := Go.Ground.chain }, { on := 0, ground := Go.Ground.phase }, { on := 1, ground := Go.Ground.phase }, { on := 2, ground := Go.Ground.phase }, { on := 3, ground := Go.Ground.phase }, { on := 4, ground := Go.Ground.phase }, { on := 5, ground := Go.Ground.phase }, { on := 6, ground := Go.Ground.textOnly Go.Departure.lateStores }, { on := 7, ground := Go.Ground.textOnly Go.Departure.lateStores }, { on := 8, ground := Go.Ground.phase }, { on := 9, ground := Go.Ground.phase }], guard := none }, { dst := none, op := Go.Op.store 38 (Go.Operand.tmp 17) (Go.Operand.tmp 77), type := 0, pos := "law.go:26", after := #[{ on := 9, ground := Go.Ground.data }, { on := 6, ground := Go.Ground.data }, { on := 10, ground := Go.Ground.chain }, { on := 0, ground := Go.Ground.phase }, { on := 1, ground := Go.Ground.phase }, { on := 2, ground := Go.Ground.phase }, { on := 3, ground := Go.Ground.phase }, { on := 4, ground := Go.Ground.phase }, { on := 5, ground := Go.Ground.phase }, { on := 6, ground := Go.Ground.phase }, { on := 7, ground := Go.Ground.textOnly Go.Departure.lateStores }, { on := 8, ground := Go.Ground.phase }, { on := 9, ground := Go.Ground.phase }, { on := 10, ground := Go.Ground.phase }], guard := none }, { dst := some 18, op := Go.Op.assign (Go.Operand.tmp 78), type := 33, pos := "law.go:26", after := #[{ on := 7, ground := Go.Ground.data }, { on := 11, ground := Go.Ground.chain }, { on := 0, ground := Go.Ground.phase }, { on := 1, ground := Go.Ground.phase }, { on := 2, ground := Go.Ground.phase }, { on := 3, ground := Go.Ground.phase }, { on := 4, ground := Go.Ground.phase }, { on := 5, ground := Go.Ground.phase }, { on := 6, ground := Go.Ground.phase }, { on := 7, ground := Go.Ground.phase }, { on := 8, ground := Go.Ground.phase }, { on := 9, ground := Go.Ground.phase }, { on := 10, ground := Go.Ground.phase }, { on := 11, ground := Go.Ground.phase }], guard := none }] true).wp Try.prog Q ⟨(s0 :: s1 :: .pointer (some ⟨BX, 0, none⟩) :: s3 :: s4 :: s5 :: s6 :: s7 :: s8 :: s9 :: s10 :: s11 :: s12 :: .pointer (some ⟨BS, 0, none⟩) :: s14 :: s15 :: undef :: undef :: undef :: s19 :: s20 :: s21 :: s22 :: s23 :: s24 :: s25 :: s26 :: s27 :: s28 :: s29 :: s30 :: s31 :: s32 :: s33 :: s34 :: s35 :: s36 :: s37 :: s38 :: s39 :: s40 :: s41 :: s42 :: s43 :: s44 :: s45 :: s46 :: s47 :: s48 :: s49 :: s50 :: s51 :: s52 :: s53 :: s54 :: s55 :: s56 :: s57 :: s58 :: s59 :: s60 :: s61 :: s62 :: s63 :: s64 :: s65 :: s66 :: s67 :: s68 :: s69 :: s70 :: undef :: undef :: undef :: undef :: undef :: undef :: undef :: undef :: s79 :: s80 :: s81 :: s82 :: s83 :: s84 :: s85 :: s86 :: s87 :: s88 :: s89 :: s90 :: s91 :: s92 :: s93 :: s94 :: s95 :: s96 :: s97 :: s98 :: s99 :: s100 :: s101 :: s102 :: s103 :: s104 :: s105 :: s106 :: s107 :: s108 :: s109 :: s110 :: s111 :: s112 :: s113 :: s114 :: s115 :: s116 :: s117 :: s118 :: s119 :: s120 :: s121 :: s122 :: s123 :: s124 :: s125 :: s126 :: s127 :: s128 :: s129 :: s130 :: s131 :: s132 :: s133 :: s134 :: s135 :: s136 :: s137 :: s138 :: s139 :: s140 :: s141 :: s142 :: s143 :: s144 :: s145 :: s146 :: s147 :: s148 :: s149 :: s150 :: []).toArray, []⟩ W0 := by
  refine wp_region_facts (fun v => ⟨(s0 :: s1 :: .pointer (some ⟨BX, 0, none⟩) :: s3 :: s4 :: s5 :: s6 :: s7 :: s8 :: s9 :: s10 :: s11 :: s12 :: .pointer (some ⟨BS, 0, none⟩) :: s14 :: s15 :: v 8 :: v 9 :: undef :: s19 :: s20 :: s21 :: s22 :: s23 :: s24 :: s25 :: s26 :: s27 :: s28 :: s29 :: s30 :: s31 :: s32 :: s33 :: s34 :: s35 :: s36 :: s37 :: s38 :: s39 :: s40 :: s41 :: s42 :: s43 :: s44 :: s45 :: s46 :: s47 :: s48 :: s49 :: s50 :: s51 :: s52 :: s53 :: s54 :: s55 :: s56 :: s57 :: s58 :: s59 :: s60 :: s61 :: s62 :: s63 :: s64 :: s65 :: s66 :: s67 :: s68 :: s69 :: s70 :: v 4 :: v 0 :: v 1 :: v 2 :: v 3 :: v 5 :: v 6 :: v 7 :: s79 :: s80 :: s81 :: s82 :: s83 :: s84 :: s85 :: s86 :: s87 :: s88 :: s89 :: s90 :: s91 :: s92 :: s93 :: s94 :: s95 :: s96 :: s97 :: s98 :: s99 :: s100 :: s101 :: s102 :: s103 :: s104 :: s105 :: s106 :: s107 :: s108 :: s109 :: s110 :: s111 :: s112 :: s113 :: s114 :: s115 :: s116 :: s117 :: s118 :: s119 :: s120 :: s121 :: s122 :: s123 :: s124 :: s125 :: s126 :: s127 :: s128 :: s129 :: s130 :: s131 :: s132 :: s133 :: s134 :: s135 :: s136 :: s137 :: s138 :: s139 :: s140 :: s141 :: s142 :: s143 :: s144 :: s145 :: s146 :: s147 :: s148 :: s149 :: s150 :: []).toArray, []⟩) (wkG k0 W0.heap.size y (.agg #[.int .i64 2, .int .i64 1, .int .i64 0, .int .u64 0]) noM 4) (fun W W' => Below W.heap.size W W') (WkC k0 BS BX wk4 y vs W0) (fun j => decide (j ≤ 5 ∨ j = 8 ∨ j = 9)) (fun j => decide (j ≤ 9)) (fun _ => undef) (by kernel_rfl) HBS.out.drew (fun j x W W' h hR => wkG_st h hR) (fun W W' h hR => h.below hR) (by kernel_rfl) ?_ ?_
  · intro j o hA ho v W hB hF K hK a ha
    have hj : j ≤ 9 := of_decide_eq_true hA
    clear hA HBS
    obtain rfl : a = ⟨(s0 :: s1 :: .pointer (some ⟨BX, 0, none⟩) :: s3 :: s4 :: s5 :: s6 :: s7 :: s8 :: s9 :: s10 :: s11 :: s12 :: .pointer (some ⟨BS, 0, none⟩) :: s14 :: s15 :: v 8 :: v 9 :: undef :: s19 :: s20 :: s21 :: s22 :: s23 :: s24 :: s25 :: s26 :: s27 :: s28 :: s29 :: s30 :: s31 :: s32 :: s33 :: s34 :: s35 :: s36 :: s37 :: s38 :: s39 :: s40 :: s41 :: s42 :: s43 :: s44 :: s45 :: s46 :: s47 :: s48 :: s49 :: s50 :: s51 :: s52 :: s53 :: s54 :: s55 :: s56 :: s57 :: s58 :: s59 :: s60 :: s61 :: s62 :: s63 :: s64 :: s65 :: s66 :: s67 :: s68 :: s69 :: s70 :: v 4 :: v 0 :: v 1 :: v 2 :: v 3 :: v 5 :: v 6 :: v 7 :: s79 :: s80 :: s81 :: s82 :: s83 :: s84 :: s85 :: s86 :: s87 :: s88 :: s89 :: s90 :: s91 :: s92 :: s93 :: s94 :: s95 :: s96 :: s97 :: s98 :: s99 :: s100 :: s101 :: s102 :: s103 :: s104 :: s105 :: s106 :: s107 :: s108 :: s109 :: s110 :: s111 :: s112 :: s113 :: s114 :: s115 :: s116 :: s117 :: s118 :: s119 :: s120 :: s121 :: s122 :: s123 :: s124 :: s125 :: s126 :: s127 :: s128 :: s129 :: s130 :: s131 :: s132 :: s133 :: s134 :: s135 :: s136 :: s137 :: s138 :: s139 :: s140 :: s141 :: s142 :: s143 :: s144 :: s145 :: s146 :: s147 :: s148 :: s149 :: s150 :: []).toArray, []⟩ := ha
    obtain rfl | rfl | rfl | rfl | rfl | rfl | rfl | rfl | rfl | rfl : j = 0 ∨ j = 1 ∨ j = 2 ∨ j = 3 ∨ j = 4 ∨ j = 5 ∨ j = 6 ∨ j = 7 ∨ j = 8 ∨ j = 9 := by omega
    · obtain rfl : { dst := some 72, op := Go.Op.load 29 (Go.Operand.tmp 13), type := 29, pos := "law.go:26", after := #[], guard := none } = o := Option.some.inj ((rfl : some _ = _).trans ho)
      clear ho
      have s0 : W.cell? ⟨BS, 0, none⟩ = some (.slice y.sa y.sn y.sc) := hB.r3.cell 0
      have s1 : W.cell? ⟨BS, 1, none⟩ = some (.slice y.pa y.pn y.pc) := hB.r3.cell 1
      have s2 : W.cell? ⟨BS, 2, none⟩ = some (.slice y.ha y.hn y.hc) := hB.r3.cell 2
      have s3 : W.cell? ⟨BS, 3, none⟩ = some (.slice y.ba y.bn y.bc) := hB.r3.cell 3
      refine step_value_g (by rfl) (.agg #[.slice y.sa y.sn y.sc, .slice y.pa y.pn y.pc, .slice y.ha y.hn y.hc, .slice y.ba y.bn y.bc]) (w' := W) (by go_simp) ?_
      try simp only [Act.put, List.setIfInBounds_toArray, List.set_cons_zero, List.set_cons_succ]
      exact hK.out _ W (Below.refl _ W) rfl
    · obtain rfl : { dst := some 73, op := Go.Op.load 38 (Go.Operand.tmp 2), type := 38, pos := "law.go:26", after := #[], guard := none } = o := Option.some.inj ((rfl : some _ = _).trans ho)
      clear ho
      have s0 : W.cell? ⟨BX, 0, none⟩ = some (.int .i64 0) := hB.r1.cell 0
      have s1 : W.cell? ⟨BX, 1, none⟩ = some (.int .u64 0) := hB.r1.cell 1
      refine step_value_g (by rfl) (.agg #[.int .i64 0, .int .u64 0]) (w' := W) (by go_simp) ?_
      try simp only [Act.put, List.setIfInBounds_toArray, List.set_cons_zero, List.set_cons_succ]
      exact hK.out _ W (Below.refl _ W) rfl
    · obtain rfl : { dst := some 74, op := Go.Op.call { callee := Go.Callee.value (Go.Operand.func 26), args := #[Go.Operand.const (Go.Value.int Go.IntKind.i64 2), Go.Operand.const (Go.Value.int Go.IntKind.i64 1), Go.Operand.tmp 73], argTypes := #[3, 3, 38] }, type := 40, pos := "law.go:26", after := #[{ on := 1, ground := Go.Ground.data }], guard := none } = o := Option.some.inj ((rfl : some _ = _).trans ho)
      clear ho
      have e1 : wkG k0 W0.heap.size y (.agg #[.int .i64 2, .int .i64 1, .int .i64 0, .int .u64 0]) noM 4 1 (v 1) W := hF { on := 1, ground := Go.Ground.data } (by simp) rfl
      have e1 : v 1 = .agg #[.int .i64 0, .int .u64 0] := e1
      refine step_call_g (by rfl) 26 _ _ rfl (fun _ _ => by kernel_rfl) #[.int .i64 2, .int .i64 1, .agg #[.int .i64 0, .int .u64 0]] (by simp [go_sem, e1]) _ (HWA 2 1 W).out ?_
      rintro e W' ⟨rfl, hC⟩
      refine ⟨_, rfl, ?_⟩
      try simp only [Act.put, List.setIfInBounds_toArray, List.set_cons_zero, List.set_cons_succ]
      exact hK.out _ W' hC rfl
    · obtain rfl : { dst := some 75, op := Go.Op.call { callee := Go.Callee.value (Go.Operand.func 24), args := #[Go.Operand.tmp 72, Go.Operand.tmp 74], argTypes := #[29, 40] }, type := 59, pos := "law.go:26", after := #[{ on := 0, ground := Go.Ground.data }, { on := 2, ground := Go.Ground.data }, { on := 2, ground := Go.Ground.chain }], guard := none } = o := Option.some.inj ((rfl : some _ = _).trans ho)
      clear ho
      have e0 : wkG k0 W0.heap.size y (.agg #[.int .i64 2, .int .i64 1, .int .i64 0, .int .u64 0]) noM 4 0 (v 0) W := hF { on := 0, ground := Go.Ground.data } (by simp) rfl
      have e0 : v 0 = .agg #[.slice y.sa y.sn y.sc, .slice y.pa y.pn y.pc, .slice y.ha y.hn y.hc, .slice y.ba y.bn y.bc] := e0
      have e2 : wkG k0 W0.heap.size y (.agg #[.int .i64 2, .int .i64 1, .int .i64 0, .int .u64 0]) noM 4 2 (v 2) W := hF { on := 2, ground := Go.Ground.data } (by simp) rfl
      have e2 : v 2 = .agg #[.int .i64 2, .int .i64 1, .int .i64 0, .int .u64 0] := e2
      have HRN := Lib.hid (Try.Do_any y wk4 ⟨2, 1, 0, 0⟩ 10 W (hB.o.at wk4_ok.1) wk4_ok.2 (by decide))
      rw [wk_do5] at HRN
      refine step_call_g (by rfl) 24 _ _ rfl (fun _ _ => by kernel_rfl) #[.agg #[.slice y.sa y.sn y.sc, .slice y.pa y.pn y.pc, .slice y.ha y.hn y.hc, .slice y.ba y.bn y.bc], .agg #[.int .i64 2, .int .i64 1, .int .i64 0, .int .u64 0]] (by simp [go_sem, e0, e2]) _ HRN.out ?_
      rintro e W' ⟨y2, vs2, rfl, hm, hC⟩
      refine ⟨_, rfl, ?_⟩
      try simp only [Act.put, List.setIfInBounds_toArray, List.set_cons_zero, List.set_cons_succ]
      exact hK.out _ W' hC ⟨y2, vs2, rfl, hm.mono (Nat.le_trans hk0.out hB.bl.size)⟩
    · obtain rfl : { dst := some 71, op := Go.Op.move (Go.Operand.tmp 75), type := 59, pos := "law.go:26", after := #[{ on := 3, ground := Go.Ground.data }], guard := none } = o := Option.some.inj ((rfl : some _ = _).trans ho)
      clear ho
      have e0 : wkG k0 W0.heap.size y (.agg #[.int .i64 2, .int .i64 1, .int .i64 0, .int .u64 0]) noM 4 3 (v 3) W := hF { on := 3, ground := Go.Ground.data } (by simp) rfl
      obtain ⟨y2, vs2, e10, hm⟩ := e0
      refine step_value_g (by rfl) (.tuple #[.agg #[.slice y2.sa y2.sn y2.sc, .slice y2.pa y2.pn y2.pc, .slice y2.ha y2.hn y2.hc, .slice y2.ba y2.bn y2.bc], .agg #[.int .i64 0, .int .u64 0], .int .i64 4]) (w' := W) (by go_simp) ?_
      try simp only [Act.put, List.setIfInBounds_toArray, List.set_cons_zero, List.set_cons_succ]
      exact hK.out _ W (Below.refl _ W) ⟨y2, vs2, rfl, hm⟩
    · obtain rfl : { dst := some 76, op := Go.Op.extract (Go.Operand.tmp 71) 0, type := 29, pos := "law.go:26", after := #[{ on := 4, ground := Go.Ground.data }], guard := none } = o := Option.some.inj ((rfl : some _ = _).trans ho)
      clear ho
      have e0 : wkG k0 W0.heap.size y (.agg #[.int .i64 2, .int .i64 1, .int .i64 0, .int .u64 0]) noM 4 4 (v 4) W := hF { on := 4, ground := Go.Ground.data } (by simp) rfl
      obtain ⟨y2, vs2, e11, hm⟩ := e0
      refine step_value_g (by rfl) (.agg #[.slice y2.sa y2.sn y2.sc, .slice y2.pa y2.pn y2.pc, .slice y2.ha y2.hn y2.hc, .slice y2.ba y2.bn y2.bc]) (w' := W) (by go_simp) ?_
      try simp only [Act.put, List.setIfInBounds_toArray, List.set_cons_zero, List.set_cons_succ]
      exact hK.out _ W (Below.refl _ W) ⟨y2, vs2, rfl, hm⟩
    · obtain rfl : { dst := some 77, op := Go.Op.extract (Go.Operand.tmp 71) 1, type := 38, pos := "law.go:26", after := #[{ on := 4, ground := Go.Ground.data }, { on := 10, ground := Go.Ground.gcOnly Go.Departure.lateStores }], guard := none } = o := Option.some.inj ((rfl : some _ = _).trans ho)
      clear ho
      have e0 : wkG k0 W0.heap.size y (.agg #[.int .i64 2, .int .i64 1, .int .i64 0, .int .u64 0]) noM 4 4 (v 4) W := hF { on := 4, ground := Go.Ground.data } (by simp) rfl
      obtain ⟨y2, vs2, e11, hm⟩ := e0
      refine step_value_g (by rfl) (.agg #[.int .i64 0, .int .u64 0]) (w' := W) (by go_simp) ?_
      try simp only [Act.put, List.setIfInBounds_toArray, List.set_cons_zero, List.set_cons_succ]
      exact hK.out _ W (Below.refl _ W) rfl
    · obtain rfl : { dst := some 78, op := Go.Op.extract (Go.Operand.tmp 71) 2, type := 33, pos := "law.go:26", after := #[{ on := 4, ground := Go.Ground.data }, { on := 11, ground := Go.Ground.gcOnly Go.Departure.lateStores }], guard := none } = o := Option.some.inj ((rfl : some _ = _).trans ho)
      clear ho
      have e0 : wkG k0 W0.heap.size y (.agg #[.int .i64 2, .int .i64 1, .int .i64 0, .int .u64 0]) noM 4 4 (v 4) W := hF { on := 4, ground := Go.Ground.data } (by simp) rfl
      obtain ⟨y2, vs2, e11, hm⟩ := e0
      refine step_value_g (by rfl) (.int .i64 4) (w' := W) (by go_simp) ?_
      try simp only [Act.put, List.setIfInBounds_toArray, List.set_cons_zero, List.set_cons_succ]
      exact hK.out _ W (Below.refl _ W) rfl
    · obtain rfl : { dst := some 16, op := Go.Op.alloc 29, type := 0, pos := "law.go:26", after := #[], guard := none } = o := Option.some.inj ((rfl : some _ = _).trans ho)
      clear ho
      refine step_value_g (by rfl) (.pointer (some ⟨W.heap.size, 0, none⟩)) (w' := W.alloc (.cells #[.slice none 0 0, .slice none 0 0, .slice none 0 0, .slice none 0 0] 29)) (by go_simp) ?_
      try simp only [Act.put, List.setIfInBounds_toArray, List.set_cons_zero, List.set_cons_succ]
      exact hK.out _ _ Rows8.newB ⟨_, rfl, hB.bl.size, Rows8.new _ _ _⟩
    · obtain rfl : { dst := some 17, op := Go.Op.alloc 38, type := 0, pos := "law.go:26", after := #[], guard := none } = o := Option.some.inj ((rfl : some _ = _).trans ho)
      clear ho
      refine step_value_g (by rfl) (.pointer (some ⟨W.heap.size, 0, none⟩)) (w' := W.alloc (.cells #[.int .i64 0, .int .u64 0] 38)) (by go_simp) ?_
      try simp only [Act.put, List.setIfInBounds_toArray, List.set_cons_zero, List.set_cons_succ]
      exact hK.out _ _ Rows8.newB ⟨_, rfl, hB.bl.size, Rows8.new _ _ _⟩
  · intro b v W hB hC hA
    have f4 : wkG k0 W0.heap.size y (.agg #[.int .i64 2, .int .i64 1, .int .i64 0, .int .u64 0]) noM 4 4 (v 4) W := hC 4 (by show (4 : Nat) < 13; decide) rfl
    obtain ⟨y2, vs2, e5, hm⟩ : wkG k0 W0.heap.size y (.agg #[.int .i64 2, .int .i64 1, .int .i64 0, .int .u64 0]) noM 4 5 (v 5) W := hC 5 (by show (5 : Nat) < 13; decide) rfl
    obtain ⟨BN, e8, hbn, hr⟩ : wkG k0 W0.heap.size y (.agg #[.int .i64 2, .int .i64 1, .int .i64 0, .int .u64 0]) noM 4 8 (v 8) W := hC 8 (by show (8 : Nat) < 13; decide) rfl
    obtain ⟨BE, e9, hbe, he⟩ : wkG k0 W0.heap.size y (.agg #[.int .i64 2, .int .i64 1, .int .i64 0, .int .u64 0]) noM 4 9 (v 9) W := hC 9 (by show (9 : Nat) < 13; decide) rfl
    cases h6 : b 6 with
    | false =>
      cases h7 : b 7 with
      | false =>
        obtain ⟨hl, hs⟩ := lst_agree (n := 13) (C := (fun j => decide (j ≤ 5 ∨ j = 8 ∨ j = 9))) (A := (fun j => decide (j ≤ 9))) (b := b) (b' := fun j => if j = 6 then false else false) (fun j hj hc ha => by
          have h1 := of_decide_eq_false hc
          have h2 := of_decide_eq_true ha
          have h3 : j = 6 ∨ j = 7 := by omega
          rcases h3 with rfl | rfl
          · exact h6
          · exact h7)
        refine (show wpAny _ _ _ _ (leftOf 13 (fun j => decide (j ≤ 5 ∨ j = 8 ∨ j = 9)) (fun j => decide (j ≤ 9)) b) (lstOf 13 (fun j => decide (j ≤ 5 ∨ j = 8 ∨ j = 9)) (fun j => decide (j ≤ 9)) b) ⟨(s0 :: s1 :: .pointer (some ⟨BX, 0, none⟩) :: s3 :: s4 :: s5 :: s6 :: s7 :: s8 :: s9 :: s10 :: s11 :: s12 :: .pointer (some ⟨BS, 0, none⟩) :: s14 :: s15 :: v 8 :: v 9 :: undef :: s19 :: s20 :: s21 :: s22 :: s23 :: s24 :: s25 :: s26 :: s27 :: s28 :: s29 :: s30 :: s31 :: s32 :: s33 :: s34 :: s35 :: s36 :: s37 :: s38 :: s39 :: s40 :: s41 :: s42 :: s43 :: s44 :: s45 :: s46 :: s47 :: s48 :: s49 :: s50 :: s51 :: s52 :: s53 :: s54 :: s55 :: s56 :: s57 :: s58 :: s59 :: s60 :: s61 :: s62 :: s63 :: s64 :: s65 :: s66 :: s67 :: s68 :: s69 :: s70 :: v 4 :: v 0 :: v 1 :: v 2 :: v 3 :: v 5 :: v 6 :: v 7 :: s79 :: s80 :: s81 :: s82 :: s83 :: s84 :: s85 :: s86 :: s87 :: s88 :: s89 :: s90 :: s91 :: s92 :: s93 :: s94 :: s95 :: s96 :: s97 :: s98 :: s99 :: s100 :: s101 :: s102 :: s103 :: s104 :: s105 :: s106 :: s107 :: s108 :: s109 :: s110 :: s111 :: s112 :: s113 :: s114 :: s115 :: s116 :: s117 :: s118 :: s119 :: s120 :: s121 :: s122 :: s123 :: s124 :: s125 :: s126 :: s127 :: s128 :: s129 :: s130 :: s131 :: s132 :: s133 :: s134 :: s135 :: s136 :: s137 :: s138 :: s139 :: s140 :: s141 :: s142 :: s143 :: s144 :: s145 :: s146 :: s147 :: s148 :: s149 :: s150 :: []).toArray, []⟩ W from ?_)
        rw [hl.trans (by kernel_rfl : _ = 5), hs.trans (by kernel_rfl : _ = #[true, true, true, true, true, true, false, false, true, true, false, false, false])]
        refine wpAny_of_L (S := fun _ => True) (X := 0) _ _ _ _ ?_
        obtain ⟨y3, vs3, e4, -⟩ := f4
        clear hl hs hA hC h6 h7
        refine wpAnyL_takeP (i := 6) (oi := { dst := some 77, op := Go.Op.extract (Go.Operand.tmp 71) 1, type := 38, pos := "law.go:26", after := #[{ on := 4, ground := Go.Ground.data }, { on := 10, ground := Go.Ground.gcOnly Go.Departure.lateStores }], guard := none }) (v := .agg #[.int .i64 0, .int .u64 0]) rfl (by kernel_rfl) (by kernel_rfl) (by kernel_rfl) (by kernel_rfl) (fun _ _ _ h => hQp _ _ _ _ _ h) (Or.inl ⟨by rfl, ?_⟩) ?_
        · intro W9 _
          go_simp
        try simp only [Act.put, List.setIfInBounds_toArray, List.set_cons_zero, List.set_cons_succ]
        refine wpAnyL_takeP (i := 7) (oi := { dst := some 78, op := Go.Op.extract (Go.Operand.tmp 71) 2, type := 33, pos := "law.go:26", after := #[{ on := 4, ground := Go.Ground.data }, { on := 11, ground := Go.Ground.gcOnly Go.Departure.lateStores }], guard := none }) (v := .int .i64 4) rfl (by kernel_rfl) (by kernel_rfl) (by kernel_rfl) (by kernel_rfl) (fun _ _ _ h => hQp _ _ _ _ _ h) (Or.inl ⟨by rfl, ?_⟩) ?_
        · intro W9 _
          go_simp
        try simp only [Act.put, List.setIfInBounds_toArray, List.set_cons_zero, List.set_cons_succ]
        refine wpAnyL_one (i := 10) (o := { dst := none, op := Go.Op.store 29 (Go.Operand.tmp 16) (Go.Operand.tmp 76), type := 0, pos := "law.go:26", after := #[{ on := 8, ground := Go.Ground.data }, { on := 5, ground := Go.Ground.data }, { on := 3, ground := Go.Ground.chain }, { on := 0, ground := Go.Ground.phase }, { on := 1, ground := Go.Ground.phase }, { on := 2, ground := Go.Ground.phase }, { on := 3, ground := Go.Ground.phase }, { on := 4, ground := Go.Ground.phase }, { on := 5, ground := Go.Ground.phase }, { on := 6, ground := Go.Ground.textOnly Go.Departure.lateStores }, { on := 7, ground := Go.Ground.textOnly Go.Departure.lateStores }, { on := 8, ground := Go.Ground.phase }, { on := 9, ground := Go.Ground.phase }], guard := none }) (by kernel_rfl) rfl (fun K hK => ?_)
        have ck0 : W.cell? ⟨BN, 0, none⟩ = some (.slice none 0 0) := hr.cell 0
        have fk0 := hr.frozen 0
        have ck1 : W.cell? ⟨BN, 1, none⟩ = some (.slice none 0 0) := hr.cell 1
        have fk1 := hr.frozen 1
        have ck2 : W.cell? ⟨BN, 2, none⟩ = some (.slice none 0 0) := hr.cell 2
        have fk2 := hr.frozen 2
        have ck3 : W.cell? ⟨BN, 3, none⟩ = some (.slice none 0 0) := hr.cell 3
        have fk3 := hr.frozen 3
        have hlt := hr.lt
        refine step_skip_g (by rfl) (w' := ((((W.setCell ⟨BN, 0, none⟩ (.slice y2.sa y2.sn y2.sc)).setCell ⟨BN, 1, none⟩ (.slice y2.pa y2.pn y2.pc)).setCell ⟨BN, 2, none⟩ (.slice y2.ha y2.hn y2.hc)).setCell ⟨BN, 3, none⟩ (.slice y2.ba y2.bn y2.bc))) (by go_simp) ?_
        clear ck0 fk0 ck1 fk1 ck2 fk2 ck3 fk3 hlt
        have a0 := he
        have r0 := hr
        have m0 := hm
        have h0 := hB.bl
        have a1 := a0.setOther (a := ⟨BN, 0, none⟩) (fun e => rows_apart a0 r0 (by decide) e.symm) (.slice y2.sa y2.sn y2.sc)
        have m1 := m0.set r0 (by decide) (by decide) (by decide) (by decide) (by decide) 0 (.slice y2.sa y2.sn y2.sc)
        have h1 := h0.setCell (p := ⟨BN, 0, none⟩) hbn (.slice y2.sa y2.sn y2.sc)
        have r1 := r0.set 0 (.slice y2.sa y2.sn y2.sc)
        simp only [List.setIfInBounds_toArray, List.set_cons_zero] at r1
        have a2 := a1.setOther (a := ⟨BN, 1, none⟩) (fun e => rows_apart a1 r1 (by decide) e.symm) (.slice y2.pa y2.pn y2.pc)
        have m2 := m1.set r1 (by decide) (by decide) (by decide) (by decide) (by decide) 1 (.slice y2.pa y2.pn y2.pc)
        have h2 := h1.setCell (p := ⟨BN, 1, none⟩) hbn (.slice y2.pa y2.pn y2.pc)
        have r2 := r1.set 1 (.slice y2.pa y2.pn y2.pc)
        simp only [List.setIfInBounds_toArray, List.set_cons_zero, List.set_cons_succ] at r2
        have a3 := a2.setOther (a := ⟨BN, 2, none⟩) (fun e => rows_apart a2 r2 (by decide) e.symm) (.slice y2.ha y2.hn y2.hc)
        have m3 := m2.set r2 (by decide) (by decide) (by decide) (by decide) (by decide) 2 (.slice y2.ha y2.hn y2.hc)
        have h3 := h2.setCell (p := ⟨BN, 2, none⟩) hbn (.slice y2.ha y2.hn y2.hc)
        have r3 := r2.set 2 (.slice y2.ha y2.hn y2.hc)
        simp only [List.setIfInBounds_toArray, List.set_cons_zero, List.set_cons_succ] at r3
        have a4 := a3.setOther (a := ⟨BN, 3, none⟩) (fun e => rows_apart a3 r3 (by decide) e.symm) (.slice y2.ba y2.bn y2.bc)
        have m4 := m3.set r3 (by decide) (by decide) (by decide) (by decide) (by decide) 3 (.slice y2.ba y2.bn y2.bc)
        have h4 := h3.setCell (p := ⟨BN, 3, none⟩) hbn (.slice y2.ba y2.bn y2.bc)
        have r4 := r3.set 3 (.slice y2.ba y2.bn y2.bc)
        simp only [List.setIfInBounds_toArray, List.set_cons_zero, List.set_cons_succ] at r4
        have RE := Lib.hid a4
        have RN := Lib.hid r4
        have HM2 := Lib.hid m4
        have HB2 := Lib.hid h4
        clear a0 a1 a2 a3 a4 r0 r1 r2 r3 r4 m0 m1 m2 m3 m4 h0 h1 h2 h3 h4
        refine hK.out _ _ (fun _ => trivial) ?_
        clear hK K
        try simp only [Act.put, List.setIfInBounds_toArray, List.set_cons_zero, List.set_cons_succ]
        generalize ((((W.setCell ⟨BN, 0, none⟩ (.slice y2.sa y2.sn y2.sc)).setCell ⟨BN, 1, none⟩ (.slice y2.pa y2.pn y2.pc)).setCell ⟨BN, 2, none⟩ (.slice y2.ha y2.hn y2.hc)).setCell ⟨BN, 3, none⟩ (.slice y2.ba y2.bn y2.bc)) = W5 at *
        refine wpAnyL_one (i := 11) (o := { dst := none, op := Go.Op.store 38 (Go.Operand.tmp 17) (Go.Operand.tmp 77), type := 0, pos := "law.go:26", after := #[{ on := 9, ground := Go.Ground.data }, { on := 6, ground := Go.Ground.data }, { on := 10, ground := Go.Ground.chain }, { on := 0, ground := Go.Ground.phase }, { on := 1, ground := Go.Ground.phase }, { on := 2, ground := Go.Ground.phase }, { on := 3, ground := Go.Ground.phase }, { on := 4, ground := Go.Ground.phase }, { on := 5, ground := Go.Ground.phase }, { on := 6, ground := Go.Ground.phase }, { on := 7, ground := Go.Ground.textOnly Go.Departure.lateStores }, { on := 8, ground := Go.Ground.phase }, { on := 9, ground := Go.Ground.phase }, { on := 10, ground := Go.Ground.phase }], guard := none }) (by kernel_rfl) rfl (fun K hK => ?_)
        have s0 : W5.cell? ⟨BE, 0, none⟩ = some (.int .i64 0) := RE.out.cell 0
        have s1 : W5.cell? ⟨BE, 1, none⟩ = some (.int .u64 0) := RE.out.cell 1
        have t0 := RE.out.frozen 0
        have t1 := RE.out.frozen 1
        have hlt := RE.out.lt
        refine step_skip_g (by rfl) (w' := (W5.setCell ⟨BE, 0, none⟩ (.int .i64 0)).setCell ⟨BE, 1, none⟩ (.int .u64 0)) (by go_simp) ?_
        rw [RE.out.setSelf 0 (.int .i64 0) rfl, RE.out.setSelf 1 (.int .u64 0) rfl]
        clear s0 s1 t0 t1 hlt
        refine hK.out _ _ (fun _ => trivial) ?_
        clear hK K
        try simp only [Act.put, List.setIfInBounds_toArray, List.set_cons_zero, List.set_cons_succ]
        refine wpAnyL_takeP (i := 12) (oi := { dst := some 18, op := Go.Op.assign (Go.Operand.tmp 78), type := 33, pos := "law.go:26", after := #[{ on := 7, ground := Go.Ground.data }, { on := 11, ground := Go.Ground.chain }, { on := 0, ground := Go.Ground.phase }, { on := 1, ground := Go.Ground.phase }, { on := 2, ground := Go.Ground.phase }, { on := 3, ground := Go.Ground.phase }, { on := 4, ground := Go.Ground.phase }, { on := 5, ground := Go.Ground.phase }, { on := 6, ground := Go.Ground.phase }, { on := 7, ground := Go.Ground.phase }, { on := 8, ground := Go.Ground.phase }, { on := 9, ground := Go.Ground.phase }, { on := 10, ground := Go.Ground.phase }, { on := 11, ground := Go.Ground.phase }], guard := none }) (v := .int .i64 4) rfl (by kernel_rfl) (by kernel_rfl) (by kernel_rfl) (by kernel_rfl) (fun _ _ _ h => hQp _ _ _ _ _ h) (Or.inl ⟨by rfl, ?_⟩) ?_
        · intro W9 _
          go_simp
        try simp only [Act.put, List.setIfInBounds_toArray, List.set_cons_zero, List.set_cons_succ]
        refine wpAnyL_end (by kernel_rfl) ?_
        rw [e8, e9]
        exact HK.out BN BE y2 vs2 (upd (upd v 6 (.agg #[.int .i64 0, .int .u64 0])) 7 (.int .i64 4)) _ hbn HB2.out RN.out HM2.out
      | true =>
        obtain ⟨hl, hs⟩ := lst_agree (n := 13) (C := (fun j => decide (j ≤ 5 ∨ j = 8 ∨ j = 9))) (A := (fun j => decide (j ≤ 9))) (b := b) (b' := fun j => if j = 6 then false else true) (fun j hj hc ha => by
          have h1 := of_decide_eq_false hc
          have h2 := of_decide_eq_true ha
          have h3 : j = 6 ∨ j = 7 := by omega
          rcases h3 with rfl | rfl
          · exact h6
          · exact h7)
        refine (show wpAny _ _ _ _ (leftOf 13 (fun j => decide (j ≤ 5 ∨ j = 8 ∨ j = 9)) (fun j => decide (j ≤ 9)) b) (lstOf 13 (fun j => decide (j ≤ 5 ∨ j = 8 ∨ j = 9)) (fun j => decide (j ≤ 9)) b) ⟨(s0 :: s1 :: .pointer (some ⟨BX, 0, none⟩) :: s3 :: s4 :: s5 :: s6 :: s7 :: s8 :: s9 :: s10 :: s11 :: s12 :: .pointer (some ⟨BS, 0, none⟩) :: s14 :: s15 :: v 8 :: v 9 :: undef :: s19 :: s20 :: s21 :: s22 :: s23 :: s24 :: s25 :: s26 :: s27 :: s28 :: s29 :: s30 :: s31 :: s32 :: s33 :: s34 :: s35 :: s36 :: s37 :: s38 :: s39 :: s40 :: s41 :: s42 :: s43 :: s44 :: s45 :: s46 :: s47 :: s48 :: s49 :: s50 :: s51 :: s52 :: s53 :: s54 :: s55 :: s56 :: s57 :: s58 :: s59 :: s60 :: s61 :: s62 :: s63 :: s64 :: s65 :: s66 :: s67 :: s68 :: s69 :: s70 :: v 4 :: v 0 :: v 1 :: v 2 :: v 3 :: v 5 :: v 6 :: v 7 :: s79 :: s80 :: s81 :: s82 :: s83 :: s84 :: s85 :: s86 :: s87 :: s88 :: s89 :: s90 :: s91 :: s92 :: s93 :: s94 :: s95 :: s96 :: s97 :: s98 :: s99 :: s100 :: s101 :: s102 :: s103 :: s104 :: s105 :: s106 :: s107 :: s108 :: s109 :: s110 :: s111 :: s112 :: s113 :: s114 :: s115 :: s116 :: s117 :: s118 :: s119 :: s120 :: s121 :: s122 :: s123 :: s124 :: s125 :: s126 :: s127 :: s128 :: s129 :: s130 :: s131 :: s132 :: s133 :: s134 :: s135 :: s136 :: s137 :: s138 :: s139 :: s140 :: s141 :: s142 :: s143 :: s144 :: s145 :: s146 :: s147 :: s148 :: s149 :: s150 :: []).toArray, []⟩ W from ?_)
        rw [hl.trans (by kernel_rfl : _ = 4), hs.trans (by kernel_rfl : _ = #[true, true, true, true, true, true, false, true, true, true, false, false, false])]
        refine wpAny_of_L (S := fun _ => True) (X := 0) _ _ _ _ ?_
        have e7 : v 7 = .int .i64 4 := hA 7 (by show (7 : Nat) < 13; decide) rfl h7
        obtain ⟨y3, vs3, e4, -⟩ := f4
        clear hl hs hA hC h6 h7
        refine wpAnyL_takeP (i := 6) (oi := { dst := some 77, op := Go.Op.extract (Go.Operand.tmp 71) 1, type := 38, pos := "law.go:26", after := #[{ on := 4, ground := Go.Ground.data }, { on := 10, ground := Go.Ground.gcOnly Go.Departure.lateStores }], guard := none }) (v := .agg #[.int .i64 0, .int .u64 0]) rfl (by kernel_rfl) (by kernel_rfl) (by kernel_rfl) (by kernel_rfl) (fun _ _ _ h => hQp _ _ _ _ _ h) (Or.inl ⟨by rfl, ?_⟩) ?_
        · intro W9 _
          go_simp
        try simp only [Act.put, List.setIfInBounds_toArray, List.set_cons_zero, List.set_cons_succ]
        refine wpAnyL_one (i := 10) (o := { dst := none, op := Go.Op.store 29 (Go.Operand.tmp 16) (Go.Operand.tmp 76), type := 0, pos := "law.go:26", after := #[{ on := 8, ground := Go.Ground.data }, { on := 5, ground := Go.Ground.data }, { on := 3, ground := Go.Ground.chain }, { on := 0, ground := Go.Ground.phase }, { on := 1, ground := Go.Ground.phase }, { on := 2, ground := Go.Ground.phase }, { on := 3, ground := Go.Ground.phase }, { on := 4, ground := Go.Ground.phase }, { on := 5, ground := Go.Ground.phase }, { on := 6, ground := Go.Ground.textOnly Go.Departure.lateStores }, { on := 7, ground := Go.Ground.textOnly Go.Departure.lateStores }, { on := 8, ground := Go.Ground.phase }, { on := 9, ground := Go.Ground.phase }], guard := none }) (by kernel_rfl) rfl (fun K hK => ?_)
        have ck0 : W.cell? ⟨BN, 0, none⟩ = some (.slice none 0 0) := hr.cell 0
        have fk0 := hr.frozen 0
        have ck1 : W.cell? ⟨BN, 1, none⟩ = some (.slice none 0 0) := hr.cell 1
        have fk1 := hr.frozen 1
        have ck2 : W.cell? ⟨BN, 2, none⟩ = some (.slice none 0 0) := hr.cell 2
        have fk2 := hr.frozen 2
        have ck3 : W.cell? ⟨BN, 3, none⟩ = some (.slice none 0 0) := hr.cell 3
        have fk3 := hr.frozen 3
        have hlt := hr.lt
        refine step_skip_g (by rfl) (w' := ((((W.setCell ⟨BN, 0, none⟩ (.slice y2.sa y2.sn y2.sc)).setCell ⟨BN, 1, none⟩ (.slice y2.pa y2.pn y2.pc)).setCell ⟨BN, 2, none⟩ (.slice y2.ha y2.hn y2.hc)).setCell ⟨BN, 3, none⟩ (.slice y2.ba y2.bn y2.bc))) (by go_simp) ?_
        clear ck0 fk0 ck1 fk1 ck2 fk2 ck3 fk3 hlt
        have a0 := he
        have r0 := hr
        have m0 := hm
        have h0 := hB.bl
        have a1 := a0.setOther (a := ⟨BN, 0, none⟩) (fun e => rows_apart a0 r0 (by decide) e.symm) (.slice y2.sa y2.sn y2.sc)
        have m1 := m0.set r0 (by decide) (by decide) (by decide) (by decide) (by decide) 0 (.slice y2.sa y2.sn y2.sc)
        have h1 := h0.setCell (p := ⟨BN, 0, none⟩) hbn (.slice y2.sa y2.sn y2.sc)
        have r1 := r0.set 0 (.slice y2.sa y2.sn y2.sc)
        simp only [List.setIfInBounds_toArray, List.set_cons_zero] at r1
        have a2 := a1.setOther (a := ⟨BN, 1, none⟩) (fun e => rows_apart a1 r1 (by decide) e.symm) (.slice y2.pa y2.pn y2.pc)
        have m2 := m1.set r1 (by decide) (by decide) (by decide) (by decide) (by decide) 1 (.slice y2.pa y2.pn y2.pc)
        have h2 := h1.setCell (p := ⟨BN, 1, none⟩) hbn (.slice y2.pa y2.pn y2.pc)
        have r2 := r1.set 1 (.slice y2.pa y2.pn y2.pc)
        simp only [List.setIfInBounds_toArray, List.set_cons_zero, List.set_cons_succ] at r2
        have a3 := a2.setOther (a := ⟨BN, 2, none⟩) (fun e => rows_apart a2 r2 (by decide) e.symm) (.slice y2.ha y2.hn y2.hc)
        have m3 := m2.set r2 (by decide) (by decide) (by decide) (by decide) (by decide) 2 (.slice y2.ha y2.hn y2.hc)
        have h3 := h2.setCell (p := ⟨BN, 2, none⟩) hbn (.slice y2.ha y2.hn y2.hc)
        have r3 := r2.set 2 (.slice y2.ha y2.hn y2.hc)
        simp only [List.setIfInBounds_toArray, List.set_cons_zero, List.set_cons_succ] at r3
        have a4 := a3.setOther (a := ⟨BN, 3, none⟩) (fun e => rows_apart a3 r3 (by decide) e.symm) (.slice y2.ba y2.bn y2.bc)
        have m4 := m3.set r3 (by decide) (by decide) (by decide) (by decide) (by decide) 3 (.slice y2.ba y2.bn y2.bc)
        have h4 := h3.setCell (p := ⟨BN, 3, none⟩) hbn (.slice y2.ba y2.bn y2.bc)
        have r4 := r3.set 3 (.slice y2.ba y2.bn y2.bc)
        simp only [List.setIfInBounds_toArray, List.set_cons_zero, List.set_cons_succ] at r4
        have RE := Lib.hid a4
        have RN := Lib.hid r4
        have HM2 := Lib.hid m4
        have HB2 := Lib.hid h4
        clear a0 a1 a2 a3 a4 r0 r1 r2 r3 r4 m0 m1 m2 m3 m4 h0 h1 h2 h3 h4
        refine hK.out _ _ (fun _ => trivial) ?_
        clear hK K
        try simp only [Act.put, List.setIfInBounds_toArray, List.set_cons_zero, List.set_cons_succ]
        generalize ((((W.setCell ⟨BN, 0, none⟩ (.slice y2.sa y2.sn y2.sc)).setCell ⟨BN, 1, none⟩ (.slice y2.pa y2.pn y2.pc)).setCell ⟨BN, 2, none⟩ (.slice y2.ha y2.hn y2.hc)).setCell ⟨BN, 3, none⟩ (.slice y2.ba y2.bn y2.bc)) = W5 at *
        refine wpAnyL_one (i := 11) (o := { dst := none, op := Go.Op.store 38 (Go.Operand.tmp 17) (Go.Operand.tmp 77), type := 0, pos := "law.go:26", after := #[{ on := 9, ground := Go.Ground.data }, { on := 6, ground := Go.Ground.data }, { on := 10, ground := Go.Ground.chain }, { on := 0, ground := Go.Ground.phase }, { on := 1, ground := Go.Ground.phase }, { on := 2, ground := Go.Ground.phase }, { on := 3, ground := Go.Ground.phase }, { on := 4, ground := Go.Ground.phase }, { on := 5, ground := Go.Ground.phase }, { on := 6, ground := Go.Ground.phase }, { on := 7, ground := Go.Ground.textOnly Go.Departure.lateStores }, { on := 8, ground := Go.Ground.phase }, { on := 9, ground := Go.Ground.phase }, { on := 10, ground := Go.Ground.phase }], guard := none }) (by kernel_rfl) rfl (fun K hK => ?_)
        have s0 : W5.cell? ⟨BE, 0, none⟩ = some (.int .i64 0) := RE.out.cell 0
        have s1 : W5.cell? ⟨BE, 1, none⟩ = some (.int .u64 0) := RE.out.cell 1
        have t0 := RE.out.frozen 0
        have t1 := RE.out.frozen 1
        have hlt := RE.out.lt
        refine step_skip_g (by rfl) (w' := (W5.setCell ⟨BE, 0, none⟩ (.int .i64 0)).setCell ⟨BE, 1, none⟩ (.int .u64 0)) (by go_simp) ?_
        rw [RE.out.setSelf 0 (.int .i64 0) rfl, RE.out.setSelf 1 (.int .u64 0) rfl]
        clear s0 s1 t0 t1 hlt
        refine hK.out _ _ (fun _ => trivial) ?_
        clear hK K
        try simp only [Act.put, List.setIfInBounds_toArray, List.set_cons_zero, List.set_cons_succ]
        refine wpAnyL_takeP (i := 12) (oi := { dst := some 18, op := Go.Op.assign (Go.Operand.tmp 78), type := 33, pos := "law.go:26", after := #[{ on := 7, ground := Go.Ground.data }, { on := 11, ground := Go.Ground.chain }, { on := 0, ground := Go.Ground.phase }, { on := 1, ground := Go.Ground.phase }, { on := 2, ground := Go.Ground.phase }, { on := 3, ground := Go.Ground.phase }, { on := 4, ground := Go.Ground.phase }, { on := 5, ground := Go.Ground.phase }, { on := 6, ground := Go.Ground.phase }, { on := 7, ground := Go.Ground.phase }, { on := 8, ground := Go.Ground.phase }, { on := 9, ground := Go.Ground.phase }, { on := 10, ground := Go.Ground.phase }, { on := 11, ground := Go.Ground.phase }], guard := none }) (v := .int .i64 4) rfl (by kernel_rfl) (by kernel_rfl) (by kernel_rfl) (by kernel_rfl) (fun _ _ _ h => hQp _ _ _ _ _ h) (Or.inl ⟨by rfl, ?_⟩) ?_
        · intro W9 _
          go_simp
        try simp only [Act.put, List.setIfInBounds_toArray, List.set_cons_zero, List.set_cons_succ]
        refine wpAnyL_end (by kernel_rfl) ?_
        rw [e8, e9]
        exact HK.out BN BE y2 vs2 (upd v 6 (.agg #[.int .i64 0, .int .u64 0])) _ hbn HB2.out RN.out HM2.out
    | true =>
      cases h7 : b 7 with
      | false =>
        obtain ⟨hl, hs⟩ := lst_agree (n := 13) (C := (fun j => decide (j ≤ 5 ∨ j = 8 ∨ j = 9))) (A := (fun j => decide (j ≤ 9))) (b := b) (b' := fun j => if j = 6 then true else false) (fun j hj hc ha => by
          have h1 := of_decide_eq_false hc
          have h2 := of_decide_eq_true ha
          have h3 : j = 6 ∨ j = 7 := by omega
          rcases h3 with rfl | rfl
          · exact h6
          · exact h7)
        refine (show wpAny _ _ _ _ (leftOf 13 (fun j => decide (j ≤ 5 ∨ j = 8 ∨ j = 9)) (fun j => decide (j ≤ 9)) b) (lstOf 13 (fun j => decide (j ≤ 5 ∨ j = 8 ∨ j = 9)) (fun j => decide (j ≤ 9)) b) ⟨(s0 :: s1 :: .pointer (some ⟨BX, 0, none⟩) :: s3 :: s4 :: s5 :: s6 :: s7 :: s8 :: s9 :: s10 :: s11 :: s12 :: .pointer (some ⟨BS, 0, none⟩) :: s14 :: s15 :: v 8 :: v 9 :: undef :: s19 :: s20 :: s21 :: s22 :: s23 :: s24 :: s25 :: s26 :: s27 :: s28 :: s29 :: s30 :: s31 :: s32 :: s33 :: s34 :: s35 :: s36 :: s37 :: s38 :: s39 :: s40 :: s41 :: s42 :: s43 :: s44 :: s45 :: s46 :: s47 :: s48 :: s49 :: s50 :: s51 :: s52 :: s53 :: s54 :: s55 :: s56 :: s57 :: s58 :: s59 :: s60 :: s61 :: s62 :: s63 :: s64 :: s65 :: s66 :: s67 :: s68 :: s69 :: s70 :: v 4 :: v 0 :: v 1 :: v 2 :: v 3 :: v 5 :: v 6 :: v 7 :: s79 :: s80 :: s81 :: s82 :: s83 :: s84 :: s85 :: s86 :: s87 :: s88 :: s89 :: s90 :: s91 :: s92 :: s93 :: s94 :: s95 :: s96 :: s97 :: s98 :: s99 :: s100 :: s101 :: s102 :: s103 :: s104 :: s105 :: s106 :: s107 :: s108 :: s109 :: s110 :: s111 :: s112 :: s113 :: s114 :: s115 :: s116 :: s117 :: s118 :: s119 :: s120 :: s121 :: s122 :: s123 :: s124 :: s125 :: s126 :: s127 :: s128 :: s129 :: s130 :: s131 :: s132 :: s133 :: s134 :: s135 :: s136 :: s137 :: s138 :: s139 :: s140 :: s141 :: s142 :: s143 :: s144 :: s145 :: s146 :: s147 :: s148 :: s149 :: s150 :: []).toArray, []⟩ W from ?_)
        rw [hl.trans (by kernel_rfl : _ = 4), hs.trans (by kernel_rfl : _ = #[true, true, true, true, true, true, true, false, true, true, false, false, false])]
        refine wpAny_of_L (S := fun _ => True) (X := 0) _ _ _ _ ?_
        have e6 : v 6 = .agg #[.int .i64 0, .int .u64 0] := hA 6 (by show (6 : Nat) < 13; decide) rfl h6
        obtain ⟨y3, vs3, e4, -⟩ := f4
        clear hl hs hA hC h6 h7
        refine wpAnyL_takeP (i := 7) (oi := { dst := some 78, op := Go.Op.extract (Go.Operand.tmp 71) 2, type := 33, pos := "law.go:26", after := #[{ on := 4, ground := Go.Ground.data }, { on := 11, ground := Go.Ground.gcOnly Go.Departure.lateStores }], guard := none }) (v := .int .i64 4) rfl (by kernel_rfl) (by kernel_rfl) (by kernel_rfl) (by kernel_rfl) (fun _ _ _ h => hQp _ _ _ _ _ h) (Or.inl ⟨by rfl, ?_⟩) ?_
        · intro W9 _
          go_simp
        try simp only [Act.put, List.setIfInBounds_toArray, List.set_cons_zero, List.set_cons_succ]
        refine wpAnyL_one (i := 10) (o := { dst := none, op := Go.Op.store 29 (Go.Operand.tmp 16) (Go.Operand.tmp 76), type := 0, pos := "law.go:26", after := #[{ on := 8, ground := Go.Ground.data }, { on := 5, ground := Go.Ground.data }, { on := 3, ground := Go.Ground.chain }, { on := 0, ground := Go.Ground.phase }, { on := 1, ground := Go.Ground.phase }, { on := 2, ground := Go.Ground.phase }, { on := 3, ground := Go.Ground.phase }, { on := 4, ground := Go.Ground.phase }, { on := 5, ground := Go.Ground.phase }, { on := 6, ground := Go.Ground.textOnly Go.Departure.lateStores }, { on := 7, ground := Go.Ground.textOnly Go.Departure.lateStores }, { on := 8, ground := Go.Ground.phase }, { on := 9, ground := Go.Ground.phase }], guard := none }) (by kernel_rfl) rfl (fun K hK => ?_)
        have ck0 : W.cell? ⟨BN, 0, none⟩ = some (.slice none 0 0) := hr.cell 0
        have fk0 := hr.frozen 0
        have ck1 : W.cell? ⟨BN, 1, none⟩ = some (.slice none 0 0) := hr.cell 1
        have fk1 := hr.frozen 1
        have ck2 : W.cell? ⟨BN, 2, none⟩ = some (.slice none 0 0) := hr.cell 2
        have fk2 := hr.frozen 2
        have ck3 : W.cell? ⟨BN, 3, none⟩ = some (.slice none 0 0) := hr.cell 3
        have fk3 := hr.frozen 3
        have hlt := hr.lt
        refine step_skip_g (by rfl) (w' := ((((W.setCell ⟨BN, 0, none⟩ (.slice y2.sa y2.sn y2.sc)).setCell ⟨BN, 1, none⟩ (.slice y2.pa y2.pn y2.pc)).setCell ⟨BN, 2, none⟩ (.slice y2.ha y2.hn y2.hc)).setCell ⟨BN, 3, none⟩ (.slice y2.ba y2.bn y2.bc))) (by go_simp) ?_
        clear ck0 fk0 ck1 fk1 ck2 fk2 ck3 fk3 hlt
        have a0 := he
        have r0 := hr
        have m0 := hm
        have h0 := hB.bl
        have a1 := a0.setOther (a := ⟨BN, 0, none⟩) (fun e => rows_apart a0 r0 (by decide) e.symm) (.slice y2.sa y2.sn y2.sc)
        have m1 := m0.set r0 (by decide) (by decide) (by decide) (by decide) (by decide) 0 (.slice y2.sa y2.sn y2.sc)
        have h1 := h0.setCell (p := ⟨BN, 0, none⟩) hbn (.slice y2.sa y2.sn y2.sc)
        have r1 := r0.set 0 (.slice y2.sa y2.sn y2.sc)
        simp only [List.setIfInBounds_toArray, List.set_cons_zero] at r1
        have a2 := a1.setOther (a := ⟨BN, 1, none⟩) (fun e => rows_apart a1 r1 (by decide) e.symm) (.slice y2.pa y2.pn y2.pc)
        have m2 := m1.set r1 (by decide) (by decide) (by decide) (by decide) (by decide) 1 (.slice y2.pa y2.pn y2.pc)
        have h2 := h1.setCell (p := ⟨BN, 1, none⟩) hbn (.slice y2.pa y2.pn y2.pc)
        have r2 := r1.set 1 (.slice y2.pa y2.pn y2.pc)
        simp only [List.setIfInBounds_toArray, List.set_cons_zero, List.set_cons_succ] at r2
        have a3 := a2.setOther (a := ⟨BN, 2, none⟩) (fun e => rows_apart a2 r2 (by decide) e.symm) (.slice y2.ha y2.hn y2.hc)
        have m3 := m2.set r2 (by decide) (by decide) (by decide) (by decide) (by decide) 2 (.slice y2.ha y2.hn y2.hc)
        have h3 := h2.setCell (p := ⟨BN, 2, none⟩) hbn (.slice y2.ha y2.hn y2.hc)
        have r3 := r2.set 2 (.slice y2.ha y2.hn y2.hc)
        simp only [List.setIfInBounds_toArray, List.set_cons_zero, List.set_cons_succ] at r3
        have a4 := a3.setOther (a := ⟨BN, 3, none⟩) (fun e => rows_apart a3 r3 (by decide) e.symm) (.slice y2.ba y2.bn y2.bc)
        have m4 := m3.set r3 (by decide) (by decide) (by decide) (by decide) (by decide) 3 (.slice y2.ba y2.bn y2.bc)
        have h4 := h3.setCell (p := ⟨BN, 3, none⟩) hbn (.slice y2.ba y2.bn y2.bc)
        have r4 := r3.set 3 (.slice y2.ba y2.bn y2.bc)
        simp only [List.setIfInBounds_toArray, List.set_cons_zero, List.set_cons_succ] at r4
        have RE := Lib.hid a4
        have RN := Lib.hid r4
        have HM2 := Lib.hid m4
        have HB2 := Lib.hid h4
        clear a0 a1 a2 a3 a4 r0 r1 r2 r3 r4 m0 m1 m2 m3 m4 h0 h1 h2 h3 h4
        refine hK.out _ _ (fun _ => trivial) ?_
        clear hK K
        try simp only [Act.put, List.setIfInBounds_toArray, List.set_cons_zero, List.set_cons_succ]
        generalize ((((W.setCell ⟨BN, 0, none⟩ (.slice y2.sa y2.sn y2.sc)).setCell ⟨BN, 1, none⟩ (.slice y2.pa y2.pn y2.pc)).setCell ⟨BN, 2, none⟩ (.slice y2.ha y2.hn y2.hc)).setCell ⟨BN, 3, none⟩ (.slice y2.ba y2.bn y2.bc)) = W5 at *
        refine wpAnyL_one (i := 11) (o := { dst := none, op := Go.Op.store 38 (Go.Operand.tmp 17) (Go.Operand.tmp 77), type := 0, pos := "law.go:26", after := #[{ on := 9, ground := Go.Ground.data }, { on := 6, ground := Go.Ground.data }, { on := 10, ground := Go.Ground.chain }, { on := 0, ground := Go.Ground.phase }, { on := 1, ground := Go.Ground.phase }, { on := 2, ground := Go.Ground.phase }, { on := 3, ground := Go.Ground.phase }, { on := 4, ground := Go.Ground.phase }, { on := 5, ground := Go.Ground.phase }, { on := 6, ground := Go.Ground.phase }, { on := 7, ground := Go.Ground.textOnly Go.Departure.lateStores }, { on := 8, ground := Go.Ground.phase }, { on := 9, ground := Go.Ground.phase }, { on := 10, ground := Go.Ground.phase }], guard := none }) (by kernel_rfl) rfl (fun K hK => ?_)
        have s0 : W5.cell? ⟨BE, 0, none⟩ = some (.int .i64 0) := RE.out.cell 0
        have s1 : W5.cell? ⟨BE, 1, none⟩ = some (.int .u64 0) := RE.out.cell 1
        have t0 := RE.out.frozen 0
        have t1 := RE.out.frozen 1
        have hlt := RE.out.lt
        refine step_skip_g (by rfl) (w' := (W5.setCell ⟨BE, 0, none⟩ (.int .i64 0)).setCell ⟨BE, 1, none⟩ (.int .u64 0)) (by go_simp) ?_
        rw [RE.out.setSelf 0 (.int .i64 0) rfl, RE.out.setSelf 1 (.int .u64 0) rfl]
        clear s0 s1 t0 t1 hlt
        refine hK.out _ _ (fun _ => trivial) ?_
        clear hK K
        try simp only [Act.put, List.setIfInBounds_toArray, List.set_cons_zero, List.set_cons_succ]
        refine wpAnyL_takeP (i := 12) (oi := { dst := some 18, op := Go.Op.assign (Go.Operand.tmp 78), type := 33, pos := "law.go:26", after := #[{ on := 7, ground := Go.Ground.data }, { on := 11, ground := Go.Ground.chain }, { on := 0, ground := Go.Ground.phase }, { on := 1, ground := Go.Ground.phase }, { on := 2, ground := Go.Ground.phase }, { on := 3, ground := Go.Ground.phase }, { on := 4, ground := Go.Ground.phase }, { on := 5, ground := Go.Ground.phase }, { on := 6, ground := Go.Ground.phase }, { on := 7, ground := Go.Ground.phase }, { on := 8, ground := Go.Ground.phase }, { on := 9, ground := Go.Ground.phase }, { on := 10, ground := Go.Ground.phase }, { on := 11, ground := Go.Ground.phase }], guard := none }) (v := .int .i64 4) rfl (by kernel_rfl) (by kernel_rfl) (by kernel_rfl) (by kernel_rfl) (fun _ _ _ h => hQp _ _ _ _ _ h) (Or.inl ⟨by rfl, ?_⟩) ?_
        · intro W9 _
          go_simp
        try simp only [Act.put, List.setIfInBounds_toArray, List.set_cons_zero, List.set_cons_succ]
        refine wpAnyL_end (by kernel_rfl) ?_
        rw [e8, e9]
        exact HK.out BN BE y2 vs2 (upd v 7 (.int .i64 4)) _ hbn HB2.out RN.out HM2.out
      | true =>
        obtain ⟨hl, hs⟩ := lst_agree (n := 13) (C := (fun j => decide (j ≤ 5 ∨ j = 8 ∨ j = 9))) (A := (fun j => decide (j ≤ 9))) (b := b) (b' := fun j => if j = 6 then true else true) (fun j hj hc ha => by
          have h1 := of_decide_eq_false hc
          have h2 := of_decide_eq_true ha
          have h3 : j = 6 ∨ j = 7 := by omega
          rcases h3 with rfl | rfl
          · exact h6
          · exact h7)
        refine (show wpAny _ _ _ _ (leftOf 13 (fun j => decide (j ≤ 5 ∨ j = 8 ∨ j = 9)) (fun j => decide (j ≤ 9)) b) (lstOf 13 (fun j => decide (j ≤ 5 ∨ j = 8 ∨ j = 9)) (fun j => decide (j ≤ 9)) b) ⟨(s0 :: s1 :: .pointer (some ⟨BX, 0, none⟩) :: s3 :: s4 :: s5 :: s6 :: s7 :: s8 :: s9 :: s10 :: s11 :: s12 :: .pointer (some ⟨BS, 0, none⟩) :: s14 :: s15 :: v 8 :: v 9 :: undef :: s19 :: s20 :: s21 :: s22 :: s23 :: s24 :: s25 :: s26 :: s27 :: s28 :: s29 :: s30 :: s31 :: s32 :: s33 :: s34 :: s35 :: s36 :: s37 :: s38 :: s39 :: s40 :: s41 :: s42 :: s43 :: s44 :: s45 :: s46 :: s47 :: s48 :: s49 :: s50 :: s51 :: s52 :: s53 :: s54 :: s55 :: s56 :: s57 :: s58 :: s59 :: s60 :: s61 :: s62 :: s63 :: s64 :: s65 :: s66 :: s67 :: s68 :: s69 :: s70 :: v 4 :: v 0 :: v 1 :: v 2 :: v 3 :: v 5 :: v 6 :: v 7 :: s79 :: s80 :: s81 :: s82 :: s83 :: s84 :: s85 :: s86 :: s87 :: s88 :: s89 :: s90 :: s91 :: s92 :: s93 :: s94 :: s95 :: s96 :: s97 :: s98 :: s99 :: s100 :: s101 :: s102 :: s103 :: s104 :: s105 :: s106 :: s107 :: s108 :: s109 :: s110 :: s111 :: s112 :: s113 :: s114 :: s115 :: s116 :: s117 :: s118 :: s119 :: s120 :: s121 :: s122 :: s123 :: s124 :: s125 :: s126 :: s127 :: s128 :: s129 :: s130 :: s131 :: s132 :: s133 :: s134 :: s135 :: s136 :: s137 :: s138 :: s139 :: s140 :: s141 :: s142 :: s143 :: s144 :: s145 :: s146 :: s147 :: s148 :: s149 :: s150 :: []).toArray, []⟩ W from ?_)
        rw [hl.trans (by kernel_rfl : _ = 3), hs.trans (by kernel_rfl : _ = #[true, true, true, true, true, true, true, true, true, true, false, false, false])]
        refine wpAny_of_L (S := fun _ => True) (X := 0) _ _ _ _ ?_
        have e6 : v 6 = .agg #[.int .i64 0, .int .u64 0] := hA 6 (by show (6 : Nat) < 13; decide) rfl h6
        have e7 : v 7 = .int .i64 4 := hA 7 (by show (7 : Nat) < 13; decide) rfl h7
        clear hl hs hA hC h6 h7
        refine wpAnyL_one (i := 10) (o := { dst := none, op := Go.Op.store 29 (Go.Operand.tmp 16) (Go.Operand.tmp 76), type := 0, pos := "law.go:26", after := #[{ on := 8, ground := Go.Ground.data }, { on := 5, ground := Go.Ground.data }, { on := 3, ground := Go.Ground.chain }, { on := 0, ground := Go.Ground.phase }, { on := 1, ground := Go.Ground.phase }, { on := 2, ground := Go.Ground.phase }, { on := 3, ground := Go.Ground.phase }, { on := 4, ground := Go.Ground.phase }, { on := 5, ground := Go.Ground.phase }, { on := 6, ground := Go.Ground.textOnly Go.Departure.lateStores }, { on := 7, ground := Go.Ground.textOnly Go.Departure.lateStores }, { on := 8, ground := Go.Ground.phase }, { on := 9, ground := Go.Ground.phase }], guard := none }) (by kernel_rfl) rfl (fun K hK => ?_)
        have ck0 : W.cell? ⟨BN, 0, none⟩ = some (.slice none 0 0) := hr.cell 0
        have fk0 := hr.frozen 0
        have ck1 : W.cell? ⟨BN, 1, none⟩ = some (.slice none 0 0) := hr.cell 1
        have fk1 := hr.frozen 1
        have ck2 : W.cell? ⟨BN, 2, none⟩ = some (.slice none 0 0) := hr.cell 2
        have fk2 := hr.frozen 2
        have ck3 : W.cell? ⟨BN, 3, none⟩ = some (.slice none 0 0) := hr.cell 3
        have fk3 := hr.frozen 3
        have hlt := hr.lt
        refine step_skip_g (by rfl) (w' := ((((W.setCell ⟨BN, 0, none⟩ (.slice y2.sa y2.sn y2.sc)).setCell ⟨BN, 1, none⟩ (.slice y2.pa y2.pn y2.pc)).setCell ⟨BN, 2, none⟩ (.slice y2.ha y2.hn y2.hc)).setCell ⟨BN, 3, none⟩ (.slice y2.ba y2.bn y2.bc))) (by go_simp) ?_
        clear ck0 fk0 ck1 fk1 ck2 fk2 ck3 fk3 hlt
        have a0 := he
        have r0 := hr
        have m0 := hm
        have h0 := hB.bl
        have a1 := a0.setOther (a := ⟨BN, 0, none⟩) (fun e => rows_apart a0 r0 (by decide) e.symm) (.slice y2.sa y2.sn y2.sc)
        have m1 := m0.set r0 (by decide) (by decide) (by decide) (by decide) (by decide) 0 (.slice y2.sa y2.sn y2.sc)
        have h1 := h0.setCell (p := ⟨BN, 0, none⟩) hbn (.slice y2.sa y2.sn y2.sc)
        have r1 := r0.set 0 (.slice y2.sa y2.sn y2.sc)
        simp only [List.setIfInBounds_toArray, List.set_cons_zero] at r1
        have a2 := a1.setOther (a := ⟨BN, 1, none⟩) (fun e => rows_apart a1 r1 (by decide) e.symm) (.slice y2.pa y2.pn y2.pc)
        have m2 := m1.set r1 (by decide) (by decide) (by decide) (by decide) (by decide) 1 (.slice y2.pa y2.pn y2.pc)
        have h2 := h1.setCell (p := ⟨BN, 1, none⟩) hbn (.slice y2.pa y2.pn y2.pc)
        have r2 := r1.set 1 (.slice y2.pa y2.pn y2.pc)
        simp only [List.setIfInBounds_toArray, List.set_cons_zero, List.set_cons_succ] at r2
        have a3 := a2.setOther (a := ⟨BN, 2, none⟩) (fun e => rows_apart a2 r2 (by decide) e.symm) (.slice y2.ha y2.hn y2.hc)
        have m3 := m2.set r2 (by decide) (by decide) (by decide) (by decide) (by decide) 2 (.slice y2.ha y2.hn y2.hc)
        have h3 := h2.setCell (p := ⟨BN, 2, none⟩) hbn (.slice y2.ha y2.hn y2.hc)
        have r3 := r2.set 2 (.slice y2.ha y2.hn y2.hc)
        simp only [List.setIfInBounds_toArray, List.set_cons_zero, List.set_cons_succ] at r3
        have a4 := a3.setOther (a := ⟨BN, 3, none⟩) (fun e => rows_apart a3 r3 (by decide) e.symm) (.slice y2.ba y2.bn y2.bc)
        have m4 := m3.set r3 (by decide) (by decide) (by decide) (by decide) (by decide) 3 (.slice y2.ba y2.bn y2.bc)
        have h4 := h3.setCell (p := ⟨BN, 3, none⟩) hbn (.slice y2.ba y2.bn y2.bc)
        have r4 := r3.set 3 (.slice y2.ba y2.bn y2.bc)
        simp only [List.setIfInBounds_toArray, List.set_cons_zero, List.set_cons_succ] at r4
        have RE := Lib.hid a4
        have RN := Lib.hid r4
        have HM2 := Lib.hid m4
        have HB2 := Lib.hid h4
        clear a0 a1 a2 a3 a4 r0 r1 r2 r3 r4 m0 m1 m2 m3 m4 h0 h1 h2 h3 h4
        refine hK.out _ _ (fun _ => trivial) ?_
        clear hK K
        try simp only [Act.put, List.setIfInBounds_toArray, List.set_cons_zero, List.set_cons_succ]
        generalize ((((W.setCell ⟨BN, 0, none⟩ (.slice y2.sa y2.sn y2.sc)).setCell ⟨BN, 1, none⟩ (.slice y2.pa y2.pn y2.pc)).setCell ⟨BN, 2, none⟩ (.slice y2.ha y2.hn y2.hc)).setCell ⟨BN, 3, none⟩ (.slice y2.ba y2.bn y2.bc)) = W5 at *
        refine wpAnyL_one (i := 11) (o := { dst := none, op := Go.Op.store 38 (Go.Operand.tmp 17) (Go.Operand.tmp 77), type := 0, pos := "law.go:26", after := #[{ on := 9, ground := Go.Ground.data }, { on := 6, ground := Go.Ground.data }, { on := 10, ground := Go.Ground.chain }, { on := 0, ground := Go.Ground.phase }, { on := 1, ground := Go.Ground.phase }, { on := 2, ground := Go.Ground.phase }, { on := 3, ground := Go.Ground.phase }, { on := 4, ground := Go.Ground.phase }, { on := 5, ground := Go.Ground.phase }, { on := 6, ground := Go.Ground.phase }, { on := 7, ground := Go.Ground.textOnly Go.Departure.lateStores }, { on := 8, ground := Go.Ground.phase }, { on := 9, ground := Go.Ground.phase }, { on := 10, ground := Go.Ground.phase }], guard := none }) (by kernel_rfl) rfl (fun K hK => ?_)
        have s0 : W5.cell? ⟨BE, 0, none⟩ = some (.int .i64 0) := RE.out.cell 0
        have s1 : W5.cell? ⟨BE, 1, none⟩ = some (.int .u64 0) := RE.out.cell 1
        have t0 := RE.out.frozen 0
        have t1 := RE.out.frozen 1
        have hlt := RE.out.lt
        refine step_skip_g (by rfl) (w' := (W5.setCell ⟨BE, 0, none⟩ (.int .i64 0)).setCell ⟨BE, 1, none⟩ (.int .u64 0)) (by go_simp) ?_
        rw [RE.out.setSelf 0 (.int .i64 0) rfl, RE.out.setSelf 1 (.int .u64 0) rfl]
        clear s0 s1 t0 t1 hlt
        refine hK.out _ _ (fun _ => trivial) ?_
        clear hK K
        try simp only [Act.put, List.setIfInBounds_toArray, List.set_cons_zero, List.set_cons_succ]
        refine wpAnyL_takeP (i := 12) (oi := { dst := some 18, op := Go.Op.assign (Go.Operand.tmp 78), type := 33, pos := "law.go:26", after := #[{ on := 7, ground := Go.Ground.data }, { on := 11, ground := Go.Ground.chain }, { on := 0, ground := Go.Ground.phase }, { on := 1, ground := Go.Ground.phase }, { on := 2, ground := Go.Ground.phase }, { on := 3, ground := Go.Ground.phase }, { on := 4, ground := Go.Ground.phase }, { on := 5, ground := Go.Ground.phase }, { on := 6, ground := Go.Ground.phase }, { on := 7, ground := Go.Ground.phase }, { on := 8, ground := Go.Ground.phase }, { on := 9, ground := Go.Ground.phase }, { on := 10, ground := Go.Ground.phase }, { on := 11, ground := Go.Ground.phase }], guard := none }) (v := .int .i64 4) rfl (by kernel_rfl) (by kernel_rfl) (by kernel_rfl) (by kernel_rfl) (fun _ _ _ h => hQp _ _ _ _ _ h) (Or.inl ⟨by rfl, ?_⟩) ?_
        · intro W9 _
          go_simp
        try simp only [Act.put, List.setIfInBounds_toArray, List.set_cons_zero, List.set_cons_succ]
        refine wpAnyL_end (by kernel_rfl) ?_
        rw [e8, e9]
        exact HK.out BN BE y2 vs2 v _ hbn HB2.out RN.out HM2.out
end Go.Proofs
