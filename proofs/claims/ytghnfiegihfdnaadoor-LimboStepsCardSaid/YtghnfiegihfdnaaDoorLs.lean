/- Limbo: the first line's two regions that draw, by facts. -/
import Derived.Test.YtghnfiegihfdnaaDoorLr
namespace Go.Proofs
set_option maxRecDepth 100000
open Go.RowKit Go.Shelf
attribute [local go_sem] Oper.semAt_some

theorem LO.setT {n₀ : Nat} {r : Rw3} {s : Ls} {W : World} (h : LO n₀ r s W) {B : Nat} {u0 u1 u2 u3 : Value} (hr : Rows8 W B 26 #[u0, u1, u2, u3]) (v0 v1 v2 v3 : Value) : LO n₀ r s ((((W.setCell ⟨B, 0, none⟩ v0).setCell ⟨B, 1, none⟩ v1).setCell ⟨B, 2, none⟩ v2).setCell ⟨B, 3, none⟩ v3) :=
  ⟨fun k hk => ((((h.1 k hk).setCell hr (by decide) 0 v0).setCell (hr.set 0 v0) (by decide) 1 v1).setCell ((hr.set 0 v0).set 1 v1) (by decide) 2 v2).setCell (((hr.set 0 v0).set 1 v1).set 2 v2) (by decide) 3 v3, h.2⟩
theorem Rows8.oth4 {W : World} {C : Nat} {t : TypeId} {cs : Array Value} (h : Rows8 W C t cs) {B : Nat} (hne : B ≠ C) (v0 v1 v2 v3 : Value) : Rows8 ((((W.setCell ⟨B, 0, none⟩ v0).setCell ⟨B, 1, none⟩ v1).setCell ⟨B, 2, none⟩ v2).setCell ⟨B, 3, none⟩ v3) C t cs :=
  (((h.setOther (a := ⟨B, 0, none⟩) hne v0).setOther (a := ⟨B, 1, none⟩) hne v1).setOther (a := ⟨B, 2, none⟩) hne v2).setOther (a := ⟨B, 3, none⟩) hne v3
theorem WkC.set4 {W0 W : World} {b1 : Nat} (h : WkC W0 W b1) {B : Nat} {us : Array Value} (hr : Rows8 W B 26 us) (hb : W0.heap.size ≤ B) (v0 v1 v2 v3 : Value) (h0 : OnAt W0) : WkC W0 ((((W.setCell ⟨B, 0, none⟩ v0).setCell ⟨B, 1, none⟩ v1).setCell ⟨B, 2, none⟩ v2).setCell ⟨B, 3, none⟩ v3) b1 :=
  ⟨h0.below (below4 h.bl hb v0 v1 v2 v3), h.a.oth4 (rows_apart hr h.a (by decide)) v0 v1 v2 v3, h.b.oth4 (rows_apart hr h.b (by decide)) v0 v1 v2 v3, h.c.oth4 (rows_apart hr h.c (by decide)) v0 v1 v2 v3, below4 h.bl hb v0 v1 v2 v3⟩
def wk_r2F (N0 : Nat) (W0 : World) (b1 : Nat) (j : Nat) (x : Value) (W : World) : Prop :=
  match j with
  | 0 => x = .agg #[.int .u64 0, .slice none 0 0, .slice none 0 0, .slice none 0 0]
  | 1 => x = .agg #[.int .i64 1, .int .u64 0]
  | 2 => ∃ s : Ls, x = .tuple #[.agg #[.int .u64 (k1.2.1 : Nat), .slice (s.a 0) (s.n 0) (s.c 0), .slice (s.a 1) (s.n 1) (s.c 1), .slice (s.a 2) (s.n 2) (s.c 2)], .int .i64 0] ∧ LO N0 k1.2.2 s W
  | 3 => ∃ s : Ls, x = .tuple #[.agg #[.int .u64 (k1.2.1 : Nat), .slice (s.a 0) (s.n 0) (s.c 0), .slice (s.a 1) (s.n 1) (s.c 1), .slice (s.a 2) (s.n 2) (s.c 2)], .int .i64 0] ∧ LO N0 k1.2.2 s W
  | 4 => ∃ s : Ls, x = .agg #[.int .u64 (k1.2.1 : Nat), .slice (s.a 0) (s.n 0) (s.c 0), .slice (s.a 1) (s.n 1) (s.c 1), .slice (s.a 2) (s.n 2) (s.c 2)] ∧ LO N0 k1.2.2 s W
  | 5 => x = .int .i64 0
  | 6 => ∃ b : Nat, x = .pointer (some ⟨b, 0, none⟩) ∧ W0.heap.size ≤ b ∧ Rows8 W b 26 #[.int .u64 0, .slice none 0 0, .slice none 0 0, .slice none 0 0]
  | _ => True
theorem wk_r2F_st {N0 : Nat} {W0 : World} {b1 : Nat} {j : Nat} {x : Value} {W W' : World} (h : wk_r2F N0 W0 b1 j x W) (hR : Below W.heap.size W W') : wk_r2F N0 W0 b1 j x W' := by
  unfold wk_r2F at h ⊢
  split
  · exact h
  · exact h
  · obtain ⟨s, e, h⟩ := h; exact ⟨s, e, h.below hR⟩
  · obtain ⟨s, e, h⟩ := h; exact ⟨s, e, h.below hR⟩
  · obtain ⟨s, e, h⟩ := h; exact ⟨s, e, h.below hR⟩
  · exact h
  · obtain ⟨b, e, h1, h⟩ := h; exact ⟨b, e, h1, h.below hR h.lt⟩
  · trivial
set_option maxHeartbeats 64000000 in
theorem Tryd.wk_r2 {s0 s6 s7 s8 s9 s10 s11 s12 s13 s14 s15 s16 s17 s18 s25 s26 s27 s28 s29 s30 s31 s32 s33 s34 s35 s36 s37 s38 s39 s40 s41 s42 s43 s44 s45 s46 s47 s48 s49 s50 s51 s52 s53 s54 s55 s56 s57 s58 s59 s60 s61 s62 s63 s64 s65 s66 s67 s68 s69 s70 s71 s72 s73 s74 s75 s76 s77 s78 s79 s80 s81 s82 s83 s84 s85 s86 s87 s88 s89 s90 s91 s92 s93 s94 s95 s96 s97 s98 s99 s100 s101 s102 s103 s104 s105 s106 s107 s108 s109 s110 s111 s112 s113 s114 s115 t20 t21 t22 t19 t23 t24 t4 t5 : Value} (N0 : Nat) (W0 : World) (b1 : Nat) (Q : Exit → Act → World → Prop) (hN : Hid (N0 ≤ W0.heap.size)) (HBS : Hid (WkC W0 W0 b1))
    (HK : Hid (∀ (BN : Nat) (s : Ls) (z19 z20 z21 z22 z23 z24 : Value) (W : World), W0.heap.size ≤ BN → Rows8 W BN 26 #[.int .u64 (k1.2.1 : Nat), .slice (s.a 0) (s.n 0) (s.c 0), .slice (s.a 1) (s.n 1) (s.c 1), .slice (s.a 2) (s.n 2) (s.c 2)] → LO N0 k1.2.2 s W → WkC W0 W b1 → Q .normal ⟨(s0 :: .pointer (some ⟨b1, 0, none⟩) :: .pointer (some ⟨(b1 + 1), 0, none⟩) :: .pointer (some ⟨(b1 + 1 + 1), 0, none⟩) :: .pointer (some ⟨BN, 0, none⟩) :: .int .i64 0 :: s6 :: s7 :: s8 :: s9 :: s10 :: s11 :: s12 :: s13 :: s14 :: s15 :: s16 :: s17 :: s18 :: z19 :: z20 :: z21 :: z22 :: z23 :: z24 :: s25 :: s26 :: s27 :: s28 :: s29 :: s30 :: s31 :: s32 :: s33 :: s34 :: s35 :: s36 :: s37 :: s38 :: s39 :: s40 :: s41 :: s42 :: s43 :: s44 :: s45 :: s46 :: s47 :: s48 :: s49 :: s50 :: s51 :: s52 :: s53 :: s54 :: s55 :: s56 :: s57 :: s58 :: s59 :: s60 :: s61 :: s62 :: s63 :: s64 :: s65 :: s66 :: s67 :: s68 :: s69 :: s70 :: s71 :: s72 :: s73 :: s74 :: s75 :: s76 :: s77 :: s78 :: s79 :: s80 :: s81 :: s82 :: s83 :: s84 :: s85 :: s86 :: s87 :: s88 :: s89 :: s90 :: s91 :: s92 :: s93 :: s94 :: s95 :: s96 :: s97 :: s98 :: s99 :: s100 :: s101 :: s102 :: s103 :: s104 :: s105 :: s106 :: s107 :: s108 :: s109 :: s110 :: s111 :: s112 :: s113 :: s114 :: s115 :: []).toArray, []⟩ W)) (hQp : ∀ (c : List PanicEntry) (d : Option Tmp) (v : Value) (a : Act) (w : World), Q (.panic c) (a.put d v) w → Q (.panic c) a w) :
    (Code.region 2 #[{ dst := some 20, op := Go.Op.call { callee := Go.Callee.value (Go.Operand.func 20), args := #[], argTypes := #[] }, type := 26, pos := "law.go:18", after := #[], guard := none }, { dst := some 21, op := Go.Op.load 38 (Go.Operand.tmp 1), type := 38, pos := "law.go:18", after := #[], guard := none }, { dst := some 22, op := Go.Op.call { callee := Go.Callee.value (Go.Operand.func 22), args := #[Go.Operand.tmp 20, Go.Operand.tmp 21], argTypes := #[26, 38] }, type := 44, pos := "law.go:18", after := #[{ on := 0, ground := Go.Ground.data }, { on := 1, ground := Go.Ground.data }, { on := 0, ground := Go.Ground.chain }], guard := none }, { dst := some 19, op := Go.Op.move (Go.Operand.tmp 22), type := 44, pos := "law.go:18", after := #[{ on := 2, ground := Go.Ground.data }], guard := none }, { dst := some 23, op := Go.Op.extract (Go.Operand.tmp 19) 0, type := 26, pos := "law.go:18", after := #[{ on := 3, ground := Go.Ground.data }], guard := none }, { dst := some 24, op := Go.Op.extract (Go.Operand.tmp 19) 1, type := 31, pos := "law.go:18", after := #[{ on := 3, ground := Go.Ground.data }, { on := 7, ground := Go.Ground.gcOnly Go.Departure.lateStores }], guard := none }, { dst := some 4, op := Go.Op.alloc 26, type := 0, pos := "law.go:18", after := #[], guard := none }, { dst := none, op := Go.Op.store 26 (Go.Operand.tmp 4) (Go.Operand.tmp 23), type := 0, pos := "law.go:18", after := #[{ on := 6, ground := Go.Ground.data }, { on := 4, ground := Go.Ground.data }, { on := 2, ground := Go.Ground.chain }, { on := 0, ground := Go.Ground.phase }, { on := 1, ground := Go.Ground.phase }, { on := 2, ground := Go.Ground.phase }, { on := 3, ground := Go.Ground.phase }, { on := 4, ground := Go.Ground.phase }, { on := 5, ground := Go.Ground.textOnly Go.Departure.lateStores }, { on := 6, ground := Go.Ground.phase }], guard := none }, { dst := some 5, op := Go.Op.assign (Go.Operand.tmp 24), type := 31, pos := "law.go:18", after := #[{ on := 5, ground := Go.Ground.data }, { on := 7, ground := Go.Ground.chain }, { on := 0, ground := Go.Ground.phase }, { on := 1, ground := Go.Ground.phase }, { on := 2, ground := Go.Ground.phase }, { on := 3, ground := Go.Ground.phase }, { on := 4, ground := Go.Ground.phase }, { on := 5, ground := Go.Ground.phase }, { on := 6, ground := Go.Ground.phase }, { on := 7, ground := Go.Ground.phase }], guard := none }] true).wp Tryd.prog Q ⟨(s0 :: .pointer (some ⟨b1, 0, none⟩) :: .pointer (some ⟨(b1 + 1), 0, none⟩) :: .pointer (some ⟨(b1 + 1 + 1), 0, none⟩) :: t4 :: t5 :: s6 :: s7 :: s8 :: s9 :: s10 :: s11 :: s12 :: s13 :: s14 :: s15 :: s16 :: s17 :: s18 :: t19 :: t20 :: t21 :: t22 :: t23 :: t24 :: s25 :: s26 :: s27 :: s28 :: s29 :: s30 :: s31 :: s32 :: s33 :: s34 :: s35 :: s36 :: s37 :: s38 :: s39 :: s40 :: s41 :: s42 :: s43 :: s44 :: s45 :: s46 :: s47 :: s48 :: s49 :: s50 :: s51 :: s52 :: s53 :: s54 :: s55 :: s56 :: s57 :: s58 :: s59 :: s60 :: s61 :: s62 :: s63 :: s64 :: s65 :: s66 :: s67 :: s68 :: s69 :: s70 :: s71 :: s72 :: s73 :: s74 :: s75 :: s76 :: s77 :: s78 :: s79 :: s80 :: s81 :: s82 :: s83 :: s84 :: s85 :: s86 :: s87 :: s88 :: s89 :: s90 :: s91 :: s92 :: s93 :: s94 :: s95 :: s96 :: s97 :: s98 :: s99 :: s100 :: s101 :: s102 :: s103 :: s104 :: s105 :: s106 :: s107 :: s108 :: s109 :: s110 :: s111 :: s112 :: s113 :: s114 :: s115 :: []).toArray, []⟩ W0 := by
  refine wp_region_facts (fun v => ⟨(s0 :: .pointer (some ⟨b1, 0, none⟩) :: .pointer (some ⟨(b1 + 1), 0, none⟩) :: .pointer (some ⟨(b1 + 1 + 1), 0, none⟩) :: v 6 :: t5 :: s6 :: s7 :: s8 :: s9 :: s10 :: s11 :: s12 :: s13 :: s14 :: s15 :: s16 :: s17 :: s18 :: v 3 :: v 0 :: v 1 :: v 2 :: v 4 :: v 5 :: s25 :: s26 :: s27 :: s28 :: s29 :: s30 :: s31 :: s32 :: s33 :: s34 :: s35 :: s36 :: s37 :: s38 :: s39 :: s40 :: s41 :: s42 :: s43 :: s44 :: s45 :: s46 :: s47 :: s48 :: s49 :: s50 :: s51 :: s52 :: s53 :: s54 :: s55 :: s56 :: s57 :: s58 :: s59 :: s60 :: s61 :: s62 :: s63 :: s64 :: s65 :: s66 :: s67 :: s68 :: s69 :: s70 :: s71 :: s72 :: s73 :: s74 :: s75 :: s76 :: s77 :: s78 :: s79 :: s80 :: s81 :: s82 :: s83 :: s84 :: s85 :: s86 :: s87 :: s88 :: s89 :: s90 :: s91 :: s92 :: s93 :: s94 :: s95 :: s96 :: s97 :: s98 :: s99 :: s100 :: s101 :: s102 :: s103 :: s104 :: s105 :: s106 :: s107 :: s108 :: s109 :: s110 :: s111 :: s112 :: s113 :: s114 :: s115 :: []).toArray, []⟩) (wk_r2F N0 W0 b1) (fun W W' => Below W.heap.size W W') (fun W => WkC W0 W b1) (fun j => decide (j = 0) || decide (j = 1) || decide (j = 2) || decide (j = 3) || decide (j = 4) || decide (j = 6)) (fun j => decide (j = 0) || decide (j = 1) || decide (j = 2) || decide (j = 3) || decide (j = 4) || decide (j = 5) || decide (j = 6)) (fun j => ([t20, t21, t22, t19, t23, t24, t4, undef, undef] : List Value).getD j undef) (by kernel_rfl) HBS.out.drew (fun j x W W' h hR => wk_r2F_st h hR) (fun W W' h hR => h.below hR) (by kernel_rfl) ?_ ?_
  · intro j o hA ho v W hB hF K hK a ha
    have hj : j = 0 ∨ j = 1 ∨ j = 2 ∨ j = 3 ∨ j = 4 ∨ j = 5 ∨ j = 6 := by simpa [or_assoc] using hA
    clear hA HBS
    obtain rfl : a = ⟨(s0 :: .pointer (some ⟨b1, 0, none⟩) :: .pointer (some ⟨(b1 + 1), 0, none⟩) :: .pointer (some ⟨(b1 + 1 + 1), 0, none⟩) :: v 6 :: t5 :: s6 :: s7 :: s8 :: s9 :: s10 :: s11 :: s12 :: s13 :: s14 :: s15 :: s16 :: s17 :: s18 :: v 3 :: v 0 :: v 1 :: v 2 :: v 4 :: v 5 :: s25 :: s26 :: s27 :: s28 :: s29 :: s30 :: s31 :: s32 :: s33 :: s34 :: s35 :: s36 :: s37 :: s38 :: s39 :: s40 :: s41 :: s42 :: s43 :: s44 :: s45 :: s46 :: s47 :: s48 :: s49 :: s50 :: s51 :: s52 :: s53 :: s54 :: s55 :: s56 :: s57 :: s58 :: s59 :: s60 :: s61 :: s62 :: s63 :: s64 :: s65 :: s66 :: s67 :: s68 :: s69 :: s70 :: s71 :: s72 :: s73 :: s74 :: s75 :: s76 :: s77 :: s78 :: s79 :: s80 :: s81 :: s82 :: s83 :: s84 :: s85 :: s86 :: s87 :: s88 :: s89 :: s90 :: s91 :: s92 :: s93 :: s94 :: s95 :: s96 :: s97 :: s98 :: s99 :: s100 :: s101 :: s102 :: s103 :: s104 :: s105 :: s106 :: s107 :: s108 :: s109 :: s110 :: s111 :: s112 :: s113 :: s114 :: s115 :: []).toArray, []⟩ := ha
    obtain rfl | rfl | rfl | rfl | rfl | rfl | rfl := hj
    · obtain rfl : { dst := some 20, op := Go.Op.call { callee := Go.Callee.value (Go.Operand.func 20), args := #[], argTypes := #[] }, type := 26, pos := "law.go:18", after := #[], guard := none } = o := Option.some.inj ((rfl : some _ = _).trans ho)
      clear ho
      refine step_call_g (by rfl) 20 _ _ rfl (fun _ _ => by kernel_rfl) #[] (by simp) _ (Tryd.New_any W) ?_
      rintro e W' ⟨rfl, hC⟩
      refine ⟨_, rfl, ?_⟩
      try simp only [Act.put, List.setIfInBounds_toArray, List.set_cons_zero, List.set_cons_succ]
      exact hK.out _ W' hC rfl
    · obtain rfl : { dst := some 21, op := Go.Op.load 38 (Go.Operand.tmp 1), type := 38, pos := "law.go:18", after := #[], guard := none } = o := Option.some.inj ((rfl : some _ = _).trans ho)
      clear ho
      have s0 : W.cell? ⟨b1, 0, none⟩ = some (.int .i64 1) := hB.a.cell 0
      have s1 : W.cell? ⟨b1, 1, none⟩ = some (.int .u64 0) := hB.a.cell 1
      refine step_value_g (by rfl) (.agg #[.int .i64 1, .int .u64 0]) (w' := W) (by go_simp) ?_
      try simp only [Act.put, List.setIfInBounds_toArray, List.set_cons_zero, List.set_cons_succ]
      exact hK.out _ W (Below.refl _ W) rfl
    · obtain rfl : { dst := some 22, op := Go.Op.call { callee := Go.Callee.value (Go.Operand.func 22), args := #[Go.Operand.tmp 20, Go.Operand.tmp 21], argTypes := #[26, 38] }, type := 44, pos := "law.go:18", after := #[{ on := 0, ground := Go.Ground.data }, { on := 1, ground := Go.Ground.data }, { on := 0, ground := Go.Ground.chain }], guard := none } = o := Option.some.inj ((rfl : some _ = _).trans ho)
      clear ho
      have e0 : wk_r2F N0 W0 b1 0 (v 0) W := hF ({ on := 0, ground := Go.Ground.data }) (by simp) rfl
      have e1 : wk_r2F N0 W0 b1 1 (v 1) W := hF ({ on := 1, ground := Go.Ground.data }) (by simp) rfl
      have e0 : v 0 = .agg #[.int .u64 0, .slice none 0 0, .slice none 0 0, .slice none 0 0] := e0
      have e1 : v 1 = .agg #[.int .i64 1, .int .u64 0] := e1
      refine step_call_g (by rfl) 22 _ _ rfl (fun _ _ => by kernel_rfl) #[.agg #[.int .u64 0, .slice none 0 0, .slice none 0 0, .slice none 0 0], .agg #[.int .i64 1, .int .u64 0]] (by simp [go_sem, e0, e1]) _ (Tryd.wkRet W) ?_
      rintro e W' ⟨⟨s, rfl, hO⟩, hC⟩
      refine ⟨_, rfl, ?_⟩
      try simp only [Act.put, List.setIfInBounds_toArray, List.set_cons_zero, List.set_cons_succ]
      exact hK.out _ W' hC ⟨s, rfl, hO.mono (Nat.le_trans hN.out hB.bl.size)⟩
    · obtain rfl : { dst := some 19, op := Go.Op.move (Go.Operand.tmp 22), type := 44, pos := "law.go:18", after := #[{ on := 2, ground := Go.Ground.data }], guard := none } = o := Option.some.inj ((rfl : some _ = _).trans ho)
      clear ho
      have e2 : wk_r2F N0 W0 b1 2 (v 2) W := hF ({ on := 2, ground := Go.Ground.data }) (by simp) rfl
      obtain ⟨s, e2, hO⟩ := e2
      refine step_value_g (by rfl) (.tuple #[.agg #[.int .u64 (k1.2.1 : Nat), .slice (s.a 0) (s.n 0) (s.c 0), .slice (s.a 1) (s.n 1) (s.c 1), .slice (s.a 2) (s.n 2) (s.c 2)], .int .i64 0]) (w' := W) (by go_simp) ?_
      try simp only [Act.put, List.setIfInBounds_toArray, List.set_cons_zero, List.set_cons_succ]
      exact hK.out _ W (Below.refl _ W) ⟨s, rfl, hO⟩
    · obtain rfl : { dst := some 23, op := Go.Op.extract (Go.Operand.tmp 19) 0, type := 26, pos := "law.go:18", after := #[{ on := 3, ground := Go.Ground.data }], guard := none } = o := Option.some.inj ((rfl : some _ = _).trans ho)
      clear ho
      have e3 : wk_r2F N0 W0 b1 3 (v 3) W := hF ({ on := 3, ground := Go.Ground.data }) (by simp) rfl
      obtain ⟨s, e3, hO⟩ := e3
      refine step_value_g (by rfl) (.agg #[.int .u64 (k1.2.1 : Nat), .slice (s.a 0) (s.n 0) (s.c 0), .slice (s.a 1) (s.n 1) (s.c 1), .slice (s.a 2) (s.n 2) (s.c 2)]) (w' := W) (by go_simp) ?_
      try simp only [Act.put, List.setIfInBounds_toArray, List.set_cons_zero, List.set_cons_succ]
      exact hK.out _ W (Below.refl _ W) ⟨s, rfl, hO⟩
    · obtain rfl : { dst := some 24, op := Go.Op.extract (Go.Operand.tmp 19) 1, type := 31, pos := "law.go:18", after := #[{ on := 3, ground := Go.Ground.data }, { on := 7, ground := Go.Ground.gcOnly Go.Departure.lateStores }], guard := none } = o := Option.some.inj ((rfl : some _ = _).trans ho)
      clear ho
      have e3 : wk_r2F N0 W0 b1 3 (v 3) W := hF ({ on := 3, ground := Go.Ground.data }) (by simp) rfl
      obtain ⟨s, e3, hO⟩ := e3
      refine step_value_g (by rfl) (.int .i64 0) (w' := W) (by go_simp) ?_
      try simp only [Act.put, List.setIfInBounds_toArray, List.set_cons_zero, List.set_cons_succ]
      exact hK.out _ W (Below.refl _ W) rfl
    · obtain rfl : { dst := some 4, op := Go.Op.alloc 26, type := 0, pos := "law.go:18", after := #[], guard := none } = o := Option.some.inj ((rfl : some _ = _).trans ho)
      clear ho
      refine step_value_g (by rfl) (.pointer (some ⟨W.heap.size, 0, none⟩)) (w' := W.alloc (.cells #[.int .u64 0, .slice none 0 0, .slice none 0 0, .slice none 0 0] 26)) (by go_simp) ?_
      try simp only [Act.put, List.setIfInBounds_toArray, List.set_cons_zero, List.set_cons_succ]
      exact hK.out _ _ Rows8.newB ⟨_, rfl, hB.bl.size, Rows8.new _ _ _⟩
  · intro b v W hB hC hA
    obtain ⟨s, e4, hLO⟩ : wk_r2F N0 W0 b1 4 (v 4) W := hC 4 (by show (4 : Nat) < 9; decide) rfl
    obtain ⟨s3, e3, _⟩ : wk_r2F N0 W0 b1 3 (v 3) W := hC 3 (by show (3 : Nat) < 9; decide) rfl
    obtain ⟨BN, e6, hbn, hr⟩ : wk_r2F N0 W0 b1 6 (v 6) W := hC 6 (by show (6 : Nat) < 9; decide) rfl
    have h00 := HBS.out.on
    by_cases hb5 : b 5 = true
    · have hx5 := hA 5 (by show (5 : Nat) < 9; decide) rfl hb5
      obtain ⟨hl, hs⟩ := lst_agree (n := 9) (C := (fun j => decide (j = 0) || decide (j = 1) || decide (j = 2) || decide (j = 3) || decide (j = 4) || decide (j = 6))) (A := (fun j => decide (j = 0) || decide (j = 1) || decide (j = 2) || decide (j = 3) || decide (j = 4) || decide (j = 5) || decide (j = 6))) (b := b) (b' := (fun j => decide (j = 5))) (fun j hj hc ha => by
        have h9 : j = 5 := by
          have h8 : j = 0 ∨ j = 1 ∨ j = 2 ∨ j = 3 ∨ j = 4 ∨ j = 5 ∨ j = 6 := by simpa [or_assoc] using ha
          have h7 : ¬ j = 0 ∧ ¬ j = 1 ∧ ¬ j = 2 ∧ ¬ j = 3 ∧ ¬ j = 4 ∧ ¬ j = 6 := by simpa [and_assoc] using hc
          omega
        rcases h9 with rfl <;> simp [*])
      refine (show wpAny _ _ _ _ (leftOf 9 (fun j => decide (j = 0) || decide (j = 1) || decide (j = 2) || decide (j = 3) || decide (j = 4) || decide (j = 6)) (fun j => decide (j = 0) || decide (j = 1) || decide (j = 2) || decide (j = 3) || decide (j = 4) || decide (j = 5) || decide (j = 6)) b) (lstOf 9 (fun j => decide (j = 0) || decide (j = 1) || decide (j = 2) || decide (j = 3) || decide (j = 4) || decide (j = 6)) (fun j => decide (j = 0) || decide (j = 1) || decide (j = 2) || decide (j = 3) || decide (j = 4) || decide (j = 5) || decide (j = 6)) b) ⟨(s0 :: .pointer (some ⟨b1, 0, none⟩) :: .pointer (some ⟨(b1 + 1), 0, none⟩) :: .pointer (some ⟨(b1 + 1 + 1), 0, none⟩) :: v 6 :: t5 :: s6 :: s7 :: s8 :: s9 :: s10 :: s11 :: s12 :: s13 :: s14 :: s15 :: s16 :: s17 :: s18 :: v 3 :: v 0 :: v 1 :: v 2 :: v 4 :: v 5 :: s25 :: s26 :: s27 :: s28 :: s29 :: s30 :: s31 :: s32 :: s33 :: s34 :: s35 :: s36 :: s37 :: s38 :: s39 :: s40 :: s41 :: s42 :: s43 :: s44 :: s45 :: s46 :: s47 :: s48 :: s49 :: s50 :: s51 :: s52 :: s53 :: s54 :: s55 :: s56 :: s57 :: s58 :: s59 :: s60 :: s61 :: s62 :: s63 :: s64 :: s65 :: s66 :: s67 :: s68 :: s69 :: s70 :: s71 :: s72 :: s73 :: s74 :: s75 :: s76 :: s77 :: s78 :: s79 :: s80 :: s81 :: s82 :: s83 :: s84 :: s85 :: s86 :: s87 :: s88 :: s89 :: s90 :: s91 :: s92 :: s93 :: s94 :: s95 :: s96 :: s97 :: s98 :: s99 :: s100 :: s101 :: s102 :: s103 :: s104 :: s105 :: s106 :: s107 :: s108 :: s109 :: s110 :: s111 :: s112 :: s113 :: s114 :: s115 :: []).toArray, []⟩ W from ?_)
      rw [hl.trans (by kernel_rfl : _ = 2), hs.trans (by kernel_rfl : _ = #[true, true, true, true, true, true, true, false, false])]
      refine wpAny_of_L (S := fun _ => True) (X := 0) _ _ _ _ ?_
      clear hl hs hA hC
      have e5 : v 5 = .int .i64 0 := hx5
      refine wpAnyL_one (i := 7) (o := { dst := none, op := Go.Op.store 26 (Go.Operand.tmp 4) (Go.Operand.tmp 23), type := 0, pos := "law.go:18", after := #[{ on := 6, ground := Go.Ground.data }, { on := 4, ground := Go.Ground.data }, { on := 2, ground := Go.Ground.chain }, { on := 0, ground := Go.Ground.phase }, { on := 1, ground := Go.Ground.phase }, { on := 2, ground := Go.Ground.phase }, { on := 3, ground := Go.Ground.phase }, { on := 4, ground := Go.Ground.phase }, { on := 5, ground := Go.Ground.textOnly Go.Departure.lateStores }, { on := 6, ground := Go.Ground.phase }], guard := none }) (by kernel_rfl) rfl (fun K hK => ?_)
      have ck0 : W.cell? ⟨BN, 0, none⟩ = some (.int .u64 0) := hr.cell 0
      have fk0 := hr.frozen 0
      have ck1 : W.cell? ⟨BN, 1, none⟩ = some (.slice none 0 0) := hr.cell 1
      have fk1 := hr.frozen 1
      have ck2 : W.cell? ⟨BN, 2, none⟩ = some (.slice none 0 0) := hr.cell 2
      have fk2 := hr.frozen 2
      have ck3 : W.cell? ⟨BN, 3, none⟩ = some (.slice none 0 0) := hr.cell 3
      have fk3 := hr.frozen 3
      have hlt := hr.lt
      refine step_skip_g (by rfl) (w' := ((((W.setCell ⟨BN, 0, none⟩ (.int .u64 (k1.2.1 : Nat))).setCell ⟨BN, 1, none⟩ (.slice (s.a 0) (s.n 0) (s.c 0))).setCell ⟨BN, 2, none⟩ (.slice (s.a 1) (s.n 1) (s.c 1))).setCell ⟨BN, 3, none⟩ (.slice (s.a 2) (s.n 2) (s.c 2)))) (by go_simp) ?_
      refine hK.out _ _ (fun _ => trivial) ?_
      clear hK K
      try simp only [Act.put, List.setIfInBounds_toArray, List.set_cons_zero, List.set_cons_succ]
      refine wpAnyL_one (i := 8) (o := { dst := some 5, op := Go.Op.assign (Go.Operand.tmp 24), type := 31, pos := "law.go:18", after := #[{ on := 5, ground := Go.Ground.data }, { on := 7, ground := Go.Ground.chain }, { on := 0, ground := Go.Ground.phase }, { on := 1, ground := Go.Ground.phase }, { on := 2, ground := Go.Ground.phase }, { on := 3, ground := Go.Ground.phase }, { on := 4, ground := Go.Ground.phase }, { on := 5, ground := Go.Ground.phase }, { on := 6, ground := Go.Ground.phase }, { on := 7, ground := Go.Ground.phase }], guard := none }) (by kernel_rfl) rfl (fun K hK => ?_)
      refine step_value_g (by rfl) (.int .i64 0) (w' := ((((W.setCell ⟨BN, 0, none⟩ (.int .u64 (k1.2.1 : Nat))).setCell ⟨BN, 1, none⟩ (.slice (s.a 0) (s.n 0) (s.c 0))).setCell ⟨BN, 2, none⟩ (.slice (s.a 1) (s.n 1) (s.c 1))).setCell ⟨BN, 3, none⟩ (.slice (s.a 2) (s.n 2) (s.c 2)))) (by go_simp) ?_
      refine hK.out _ _ (fun _ => trivial) ?_
      clear hK K
      try simp only [Act.put, List.setIfInBounds_toArray, List.set_cons_zero, List.set_cons_succ]
      refine wpAnyL_end (by kernel_rfl) ?_
      exact e6 ▸ HK.out BN s _ _ _ _ _ _ _ hbn (rows4 hr (.int .u64 (k1.2.1 : Nat)) (.slice (s.a 0) (s.n 0) (s.c 0)) (.slice (s.a 1) (s.n 1) (s.c 1)) (.slice (s.a 2) (s.n 2) (s.c 2))) (LO.setT hLO hr (.int .u64 (k1.2.1 : Nat)) (.slice (s.a 0) (s.n 0) (s.c 0)) (.slice (s.a 1) (s.n 1) (s.c 1)) (.slice (s.a 2) (s.n 2) (s.c 2))) (hB.set4 hr hbn (.int .u64 (k1.2.1 : Nat)) (.slice (s.a 0) (s.n 0) (s.c 0)) (.slice (s.a 1) (s.n 1) (s.c 1)) (.slice (s.a 2) (s.n 2) (s.c 2)) h00)
    · have hb5 : b 5 = false := by simpa using hb5
      obtain ⟨hl, hs⟩ := lst_agree (n := 9) (C := (fun j => decide (j = 0) || decide (j = 1) || decide (j = 2) || decide (j = 3) || decide (j = 4) || decide (j = 6))) (A := (fun j => decide (j = 0) || decide (j = 1) || decide (j = 2) || decide (j = 3) || decide (j = 4) || decide (j = 5) || decide (j = 6))) (b := b) (b' := (fun j => false)) (fun j hj hc ha => by
        have h9 : j = 5 := by
          have h8 : j = 0 ∨ j = 1 ∨ j = 2 ∨ j = 3 ∨ j = 4 ∨ j = 5 ∨ j = 6 := by simpa [or_assoc] using ha
          have h7 : ¬ j = 0 ∧ ¬ j = 1 ∧ ¬ j = 2 ∧ ¬ j = 3 ∧ ¬ j = 4 ∧ ¬ j = 6 := by simpa [and_assoc] using hc
          omega
        rcases h9 with rfl <;> simp [*])
      refine (show wpAny _ _ _ _ (leftOf 9 (fun j => decide (j = 0) || decide (j = 1) || decide (j = 2) || decide (j = 3) || decide (j = 4) || decide (j = 6)) (fun j => decide (j = 0) || decide (j = 1) || decide (j = 2) || decide (j = 3) || decide (j = 4) || decide (j = 5) || decide (j = 6)) b) (lstOf 9 (fun j => decide (j = 0) || decide (j = 1) || decide (j = 2) || decide (j = 3) || decide (j = 4) || decide (j = 6)) (fun j => decide (j = 0) || decide (j = 1) || decide (j = 2) || decide (j = 3) || decide (j = 4) || decide (j = 5) || decide (j = 6)) b) ⟨(s0 :: .pointer (some ⟨b1, 0, none⟩) :: .pointer (some ⟨(b1 + 1), 0, none⟩) :: .pointer (some ⟨(b1 + 1 + 1), 0, none⟩) :: v 6 :: t5 :: s6 :: s7 :: s8 :: s9 :: s10 :: s11 :: s12 :: s13 :: s14 :: s15 :: s16 :: s17 :: s18 :: v 3 :: v 0 :: v 1 :: v 2 :: v 4 :: v 5 :: s25 :: s26 :: s27 :: s28 :: s29 :: s30 :: s31 :: s32 :: s33 :: s34 :: s35 :: s36 :: s37 :: s38 :: s39 :: s40 :: s41 :: s42 :: s43 :: s44 :: s45 :: s46 :: s47 :: s48 :: s49 :: s50 :: s51 :: s52 :: s53 :: s54 :: s55 :: s56 :: s57 :: s58 :: s59 :: s60 :: s61 :: s62 :: s63 :: s64 :: s65 :: s66 :: s67 :: s68 :: s69 :: s70 :: s71 :: s72 :: s73 :: s74 :: s75 :: s76 :: s77 :: s78 :: s79 :: s80 :: s81 :: s82 :: s83 :: s84 :: s85 :: s86 :: s87 :: s88 :: s89 :: s90 :: s91 :: s92 :: s93 :: s94 :: s95 :: s96 :: s97 :: s98 :: s99 :: s100 :: s101 :: s102 :: s103 :: s104 :: s105 :: s106 :: s107 :: s108 :: s109 :: s110 :: s111 :: s112 :: s113 :: s114 :: s115 :: []).toArray, []⟩ W from ?_)
      rw [hl.trans (by kernel_rfl : _ = 3), hs.trans (by kernel_rfl : _ = #[true, true, true, true, true, false, true, false, false])]
      refine wpAny_of_L (S := fun _ => True) (X := 0) _ _ _ _ ?_
      clear hl hs hA hC
      refine wpAnyL_takeP (i := 5) (oi := { dst := some 24, op := Go.Op.extract (Go.Operand.tmp 19) 1, type := 31, pos := "law.go:18", after := #[{ on := 3, ground := Go.Ground.data }, { on := 7, ground := Go.Ground.gcOnly Go.Departure.lateStores }], guard := none }) (v := .int .i64 0) rfl (by kernel_rfl) (by kernel_rfl) (by kernel_rfl) (by kernel_rfl) (fun _ _ _ h => hQp _ _ _ _ _ h) (Or.inl ⟨by rfl, ?_⟩) ?_
      · intro W9 _
        go_simp
      try simp only [Act.put, List.setIfInBounds_toArray, List.set_cons_zero, List.set_cons_succ]
      refine wpAnyL_one (i := 7) (o := { dst := none, op := Go.Op.store 26 (Go.Operand.tmp 4) (Go.Operand.tmp 23), type := 0, pos := "law.go:18", after := #[{ on := 6, ground := Go.Ground.data }, { on := 4, ground := Go.Ground.data }, { on := 2, ground := Go.Ground.chain }, { on := 0, ground := Go.Ground.phase }, { on := 1, ground := Go.Ground.phase }, { on := 2, ground := Go.Ground.phase }, { on := 3, ground := Go.Ground.phase }, { on := 4, ground := Go.Ground.phase }, { on := 5, ground := Go.Ground.textOnly Go.Departure.lateStores }, { on := 6, ground := Go.Ground.phase }], guard := none }) (by kernel_rfl) rfl (fun K hK => ?_)
      have ck0 : W.cell? ⟨BN, 0, none⟩ = some (.int .u64 0) := hr.cell 0
      have fk0 := hr.frozen 0
      have ck1 : W.cell? ⟨BN, 1, none⟩ = some (.slice none 0 0) := hr.cell 1
      have fk1 := hr.frozen 1
      have ck2 : W.cell? ⟨BN, 2, none⟩ = some (.slice none 0 0) := hr.cell 2
      have fk2 := hr.frozen 2
      have ck3 : W.cell? ⟨BN, 3, none⟩ = some (.slice none 0 0) := hr.cell 3
      have fk3 := hr.frozen 3
      have hlt := hr.lt
      refine step_skip_g (by rfl) (w' := ((((W.setCell ⟨BN, 0, none⟩ (.int .u64 (k1.2.1 : Nat))).setCell ⟨BN, 1, none⟩ (.slice (s.a 0) (s.n 0) (s.c 0))).setCell ⟨BN, 2, none⟩ (.slice (s.a 1) (s.n 1) (s.c 1))).setCell ⟨BN, 3, none⟩ (.slice (s.a 2) (s.n 2) (s.c 2)))) (by go_simp) ?_
      refine hK.out _ _ (fun _ => trivial) ?_
      clear hK K
      try simp only [Act.put, List.setIfInBounds_toArray, List.set_cons_zero, List.set_cons_succ]
      refine wpAnyL_one (i := 8) (o := { dst := some 5, op := Go.Op.assign (Go.Operand.tmp 24), type := 31, pos := "law.go:18", after := #[{ on := 5, ground := Go.Ground.data }, { on := 7, ground := Go.Ground.chain }, { on := 0, ground := Go.Ground.phase }, { on := 1, ground := Go.Ground.phase }, { on := 2, ground := Go.Ground.phase }, { on := 3, ground := Go.Ground.phase }, { on := 4, ground := Go.Ground.phase }, { on := 5, ground := Go.Ground.phase }, { on := 6, ground := Go.Ground.phase }, { on := 7, ground := Go.Ground.phase }], guard := none }) (by kernel_rfl) rfl (fun K hK => ?_)
      refine step_value_g (by rfl) (.int .i64 0) (w' := ((((W.setCell ⟨BN, 0, none⟩ (.int .u64 (k1.2.1 : Nat))).setCell ⟨BN, 1, none⟩ (.slice (s.a 0) (s.n 0) (s.c 0))).setCell ⟨BN, 2, none⟩ (.slice (s.a 1) (s.n 1) (s.c 1))).setCell ⟨BN, 3, none⟩ (.slice (s.a 2) (s.n 2) (s.c 2)))) (by go_simp) ?_
      refine hK.out _ _ (fun _ => trivial) ?_
      clear hK K
      try simp only [Act.put, List.setIfInBounds_toArray, List.set_cons_zero, List.set_cons_succ]
      refine wpAnyL_end (by kernel_rfl) ?_
      exact e6 ▸ HK.out BN s _ _ _ _ _ _ _ hbn (rows4 hr (.int .u64 (k1.2.1 : Nat)) (.slice (s.a 0) (s.n 0) (s.c 0)) (.slice (s.a 1) (s.n 1) (s.c 1)) (.slice (s.a 2) (s.n 2) (s.c 2))) (LO.setT hLO hr (.int .u64 (k1.2.1 : Nat)) (.slice (s.a 0) (s.n 0) (s.c 0)) (.slice (s.a 1) (s.n 1) (s.c 1)) (.slice (s.a 2) (s.n 2) (s.c 2))) (hB.set4 hr hbn (.int .u64 (k1.2.1 : Nat)) (.slice (s.a 0) (s.n 0) (s.c 0)) (.slice (s.a 1) (s.n 1) (s.c 1)) (.slice (s.a 2) (s.n 2) (s.c 2)) h00)
theorem OwnE.setT {n₀ : Nat} {q : List Pr} {v : Value} {W : World} (h : OwnE n₀ q v W) {B : Nat} {u0 u1 u2 u3 : Value} (hr : Rows8 W B 26 #[u0, u1, u2, u3]) (v0 v1 v2 v3 : Value) : OwnE n₀ q v ((((W.setCell ⟨B, 0, none⟩ v0).setCell ⟨B, 1, none⟩ v1).setCell ⟨B, 2, none⟩ v2).setCell ⟨B, 3, none⟩ v3) :=
  (((h.setCell hr (by decide) 0 v0).setCell (hr.set 0 v0) (by decide) 1 v1).setCell ((hr.set 0 v0).set 1 v1) (by decide) 2 v2).setCell (((hr.set 0 v0).set 1 v1).set 2 v2) (by decide) 3 v3
def wk_r8F (N0 : Nat) (W0 : World) (b1 : Nat) (j : Nat) (x : Value) (W : World) : Prop :=
  match j with
  | 0 => x = .agg #[.int .u64 0, .slice none 0 0, .slice none 0 0, .slice none 0 0]
  | 1 => x = .agg #[.int .i64 1, .int .u64 0]
  | 2 => x = .agg #[.int .i64 (-1), .int .u64 0]
  | 3 => x = .agg #[.int .i64 2, .int .u64 0]
  | 4 => x = .agg #[.int .i64 (-1), .int .u64 0]
  | 5 => x = .agg #[.int .i64 3, .int .u64 0]
  | 6 => x = .agg #[.int .i64 (-1), .int .u64 0]
  | 7 => x = .agg #[.int .i64 (-1), .int .u64 0]
  | 8 => x = .agg #[.int .i64 (-1), .int .u64 0]
  | 9 => ∃ b : Nat, x = .slice (some ⟨b, 0, none⟩) 8 8 ∧ PAt W (.slice (some ⟨b, 0, none⟩) 8 8) kst
  | 10 => ∃ (s : Ls) (a : Option Addr) (c : Nat), x = .tuple #[.agg #[.int .u64 (k8.2.1 : Nat), .slice (s.a 0) (s.n 0) (s.c 0), .slice (s.a 1) (s.n 1) (s.c 1), .slice (s.a 2) (s.n 2) (s.c 2)], .slice a 3 c, .int .i64 0] ∧ OwnE 0 [(1, 0), (2, 0), (3, 0)] (.slice a 3 c) W
  | 11 => ∃ (s : Ls) (a : Option Addr) (c : Nat), x = .tuple #[.agg #[.int .u64 (k8.2.1 : Nat), .slice (s.a 0) (s.n 0) (s.c 0), .slice (s.a 1) (s.n 1) (s.c 1), .slice (s.a 2) (s.n 2) (s.c 2)], .slice a 3 c, .int .i64 0] ∧ OwnE 0 [(1, 0), (2, 0), (3, 0)] (.slice a 3 c) W
  | 12 => ∃ s : Ls, x = .agg #[.int .u64 (k8.2.1 : Nat), .slice (s.a 0) (s.n 0) (s.c 0), .slice (s.a 1) (s.n 1) (s.c 1), .slice (s.a 2) (s.n 2) (s.c 2)]
  | 13 => ∃ (a : Option Addr) (c : Nat), x = .slice a 3 c ∧ OwnE 0 [(1, 0), (2, 0), (3, 0)] (.slice a 3 c) W
  | 14 => x = .int .i64 0
  | 15 => ∃ b : Nat, x = .pointer (some ⟨b, 0, none⟩) ∧ W0.heap.size ≤ b ∧ Rows8 W b 26 #[.int .u64 0, .slice none 0 0, .slice none 0 0, .slice none 0 0]
  | _ => True
theorem wk_r8F_st {N0 : Nat} {W0 : World} {b1 : Nat} {j : Nat} {x : Value} {W W' : World} (h : wk_r8F N0 W0 b1 j x W) (hR : Below W.heap.size W W') : wk_r8F N0 W0 b1 j x W' := by
  unfold wk_r8F at h ⊢
  split
  · exact h
  · exact h
  · exact h
  · exact h
  · exact h
  · exact h
  · exact h
  · exact h
  · exact h
  · obtain ⟨b, e, h⟩ := h; exact ⟨b, e, PAt.below h hR⟩
  · obtain ⟨s, a, c, e, h⟩ := h; exact ⟨s, a, c, e, h.keep hR (Nat.le_refl _)⟩
  · obtain ⟨s, a, c, e, h⟩ := h; exact ⟨s, a, c, e, h.keep hR (Nat.le_refl _)⟩
  · exact h
  · obtain ⟨a, c, e, h⟩ := h; exact ⟨a, c, e, h.keep hR (Nat.le_refl _)⟩
  · exact h
  · obtain ⟨b, e, h1, h⟩ := h; exact ⟨b, e, h1, h.below hR h.lt⟩
  · trivial
set_option maxHeartbeats 64000000 in
theorem Tryd.wk_r8 {s0 s4 s5 s6 s7 s8 s9 s10 s11 s12 s16 s17 s18 s19 s20 s21 s22 s23 s24 s25 s26 s27 s28 s29 s30 s31 s32 s33 s34 s35 s36 s37 s38 s39 s40 s41 s42 s43 s44 s45 s46 s47 s48 s49 s50 s66 s67 s68 s69 s70 s71 s72 s73 s74 s75 s76 s77 s78 s79 s80 s81 s82 s83 s84 s85 s86 s87 s88 s89 s90 s91 s92 s93 s94 s95 s96 s97 s98 s99 s100 s101 s102 s103 s104 s105 s106 s107 s108 s109 s110 s111 s112 s113 s114 s115 t52 t53 t54 t55 t56 t57 t58 t59 t60 t61 t62 t51 t63 t64 t65 t13 t14 t15 : Value} (N0 : Nat) (W0 : World) (b1 : Nat) (Q : Exit → Act → World → Prop) (hN : Hid (N0 ≤ W0.heap.size)) (HBS : Hid (WkC W0 W0 b1))
    (HK : Hid (∀ (BN : Nat) (a : Option Addr) (c : Nat) (z51 z52 z53 z54 z55 z56 z57 z58 z59 z60 z61 z62 z63 z64 z65 : Value) (W : World), OwnE 0 [(1, 0), (2, 0), (3, 0)] (.slice a 3 c) W → WkC W0 W b1 → Q .normal ⟨(s0 :: .pointer (some ⟨b1, 0, none⟩) :: .pointer (some ⟨(b1 + 1), 0, none⟩) :: .pointer (some ⟨(b1 + 1 + 1), 0, none⟩) :: s4 :: s5 :: s6 :: s7 :: s8 :: s9 :: s10 :: s11 :: s12 :: .pointer (some ⟨BN, 0, none⟩) :: .slice a 3 c :: .int .i64 0 :: s16 :: s17 :: s18 :: s19 :: s20 :: s21 :: s22 :: s23 :: s24 :: s25 :: s26 :: s27 :: s28 :: s29 :: s30 :: s31 :: s32 :: s33 :: s34 :: s35 :: s36 :: s37 :: s38 :: s39 :: s40 :: s41 :: s42 :: s43 :: s44 :: s45 :: s46 :: s47 :: s48 :: s49 :: s50 :: z51 :: z52 :: z53 :: z54 :: z55 :: z56 :: z57 :: z58 :: z59 :: z60 :: z61 :: z62 :: z63 :: z64 :: z65 :: s66 :: s67 :: s68 :: s69 :: s70 :: s71 :: s72 :: s73 :: s74 :: s75 :: s76 :: s77 :: s78 :: s79 :: s80 :: s81 :: s82 :: s83 :: s84 :: s85 :: s86 :: s87 :: s88 :: s89 :: s90 :: s91 :: s92 :: s93 :: s94 :: s95 :: s96 :: s97 :: s98 :: s99 :: s100 :: s101 :: s102 :: s103 :: s104 :: s105 :: s106 :: s107 :: s108 :: s109 :: s110 :: s111 :: s112 :: s113 :: s114 :: s115 :: []).toArray, []⟩ W)) (hQp : ∀ (c : List PanicEntry) (d : Option Tmp) (v : Value) (a : Act) (w : World), Q (.panic c) (a.put d v) w → Q (.panic c) a w) :
    (Code.region 8 #[{ dst := some 52, op := Go.Op.call { callee := Go.Callee.value (Go.Operand.func 20), args := #[], argTypes := #[] }, type := 26, pos := "law.go:24", after := #[], guard := none }, { dst := some 53, op := Go.Op.load 38 (Go.Operand.tmp 1), type := 38, pos := "law.go:24", after := #[], guard := none }, { dst := some 54, op := Go.Op.load 38 (Go.Operand.global 0), type := 38, pos := "law.go:24", after := #[], guard := none }, { dst := some 55, op := Go.Op.load 38 (Go.Operand.tmp 2), type := 38, pos := "law.go:24", after := #[], guard := none }, { dst := some 56, op := Go.Op.load 38 (Go.Operand.global 0), type := 38, pos := "law.go:24", after := #[], guard := none }, { dst := some 57, op := Go.Op.load 38 (Go.Operand.tmp 3), type := 38, pos := "law.go:24", after := #[], guard := none }, { dst := some 58, op := Go.Op.load 38 (Go.Operand.global 0), type := 38, pos := "law.go:24", after := #[], guard := none }, { dst := some 59, op := Go.Op.load 38 (Go.Operand.global 0), type := 38, pos := "law.go:24", after := #[], guard := none }, { dst := some 60, op := Go.Op.load 38 (Go.Operand.global 0), type := 38, pos := "law.go:24", after := #[], guard := none }, { dst := some 61, op := Go.Op.buildSlice 23 8 #[(0, Go.Operand.tmp 53), (1, Go.Operand.tmp 54), (2, Go.Operand.tmp 55), (3, Go.Operand.tmp 56), (4, Go.Operand.tmp 57), (5, Go.Operand.tmp 58), (6, Go.Operand.tmp 59), (7, Go.Operand.tmp 60)], type := 23, pos := "law.go:24", after := #[{ on := 1, ground := Go.Ground.data }, { on := 2, ground := Go.Ground.data }, { on := 3, ground := Go.Ground.data }, { on := 4, ground := Go.Ground.data }, { on := 5, ground := Go.Ground.data }, { on := 6, ground := Go.Ground.data }, { on := 7, ground := Go.Ground.data }, { on := 8, ground := Go.Ground.data }], guard := none }, { dst := some 62, op := Go.Op.call { callee := Go.Callee.value (Go.Operand.func 29), args := #[Go.Operand.tmp 52, Go.Operand.tmp 61], argTypes := #[26, 23] }, type := 50, pos := "law.go:24", after := #[{ on := 0, ground := Go.Ground.data }, { on := 9, ground := Go.Ground.data }, { on := 0, ground := Go.Ground.chain }], guard := none }, { dst := some 51, op := Go.Op.move (Go.Operand.tmp 62), type := 50, pos := "law.go:24", after := #[{ on := 10, ground := Go.Ground.data }], guard := none }, { dst := some 63, op := Go.Op.extract (Go.Operand.tmp 51) 0, type := 26, pos := "law.go:24", after := #[{ on := 11, ground := Go.Ground.data }], guard := none }, { dst := some 64, op := Go.Op.extract (Go.Operand.tmp 51) 1, type := 23, pos := "law.go:24", after := #[{ on := 11, ground := Go.Ground.data }, { on := 16, ground := Go.Ground.gcOnly Go.Departure.lateStores }], guard := none }, { dst := some 65, op := Go.Op.extract (Go.Operand.tmp 51) 2, type := 31, pos := "law.go:24", after := #[{ on := 11, ground := Go.Ground.data }, { on := 17, ground := Go.Ground.gcOnly Go.Departure.lateStores }], guard := none }, { dst := some 13, op := Go.Op.alloc 26, type := 0, pos := "law.go:24", after := #[], guard := none }, { dst := none, op := Go.Op.store 26 (Go.Operand.tmp 13) (Go.Operand.tmp 63), type := 0, pos := "law.go:24", after := #[{ on := 15, ground := Go.Ground.data }, { on := 12, ground := Go.Ground.data }, { on := 10, ground := Go.Ground.chain }, { on := 0, ground := Go.Ground.phase }, { on := 1, ground := Go.Ground.phase }, { on := 2, ground := Go.Ground.phase }, { on := 3, ground := Go.Ground.phase }, { on := 4, ground := Go.Ground.phase }, { on := 5, ground := Go.Ground.phase }, { on := 6, ground := Go.Ground.phase }, { on := 7, ground := Go.Ground.phase }, { on := 8, ground := Go.Ground.phase }, { on := 9, ground := Go.Ground.phase }, { on := 10, ground := Go.Ground.phase }, { on := 11, ground := Go.Ground.phase }, { on := 12, ground := Go.Ground.phase }, { on := 13, ground := Go.Ground.textOnly Go.Departure.lateStores }, { on := 14, ground := Go.Ground.textOnly Go.Departure.lateStores }, { on := 15, ground := Go.Ground.phase }], guard := none }, { dst := some 14, op := Go.Op.assign (Go.Operand.tmp 64), type := 23, pos := "law.go:24", after := #[{ on := 13, ground := Go.Ground.data }, { on := 16, ground := Go.Ground.chain }, { on := 0, ground := Go.Ground.phase }, { on := 1, ground := Go.Ground.phase }, { on := 2, ground := Go.Ground.phase }, { on := 3, ground := Go.Ground.phase }, { on := 4, ground := Go.Ground.phase }, { on := 5, ground := Go.Ground.phase }, { on := 6, ground := Go.Ground.phase }, { on := 7, ground := Go.Ground.phase }, { on := 8, ground := Go.Ground.phase }, { on := 9, ground := Go.Ground.phase }, { on := 10, ground := Go.Ground.phase }, { on := 11, ground := Go.Ground.phase }, { on := 12, ground := Go.Ground.phase }, { on := 13, ground := Go.Ground.phase }, { on := 14, ground := Go.Ground.textOnly Go.Departure.lateStores }, { on := 15, ground := Go.Ground.phase }, { on := 16, ground := Go.Ground.phase }], guard := none }, { dst := some 15, op := Go.Op.assign (Go.Operand.tmp 65), type := 31, pos := "law.go:24", after := #[{ on := 14, ground := Go.Ground.data }, { on := 17, ground := Go.Ground.chain }, { on := 0, ground := Go.Ground.phase }, { on := 1, ground := Go.Ground.phase }, { on := 2, ground := Go.Ground.phase }, { on := 3, ground := Go.Ground.phase }, { on := 4, ground := Go.Ground.phase }, { on := 5, ground := Go.Ground.phase }, { on := 6, ground := Go.Ground.phase }, { on := 7, ground := Go.Ground.phase }, { on := 8, ground := Go.Ground.phase }, { on := 9, ground := Go.Ground.phase }, { on := 10, ground := Go.Ground.phase }, { on := 11, ground := Go.Ground.phase }, { on := 12, ground := Go.Ground.phase }, { on := 13, ground := Go.Ground.phase }, { on := 14, ground := Go.Ground.phase }, { on := 15, ground := Go.Ground.phase }, { on := 16, ground := Go.Ground.phase }, { on := 17, ground := Go.Ground.phase }], guard := none }] true).wp Tryd.prog Q ⟨(s0 :: .pointer (some ⟨b1, 0, none⟩) :: .pointer (some ⟨(b1 + 1), 0, none⟩) :: .pointer (some ⟨(b1 + 1 + 1), 0, none⟩) :: s4 :: s5 :: s6 :: s7 :: s8 :: s9 :: s10 :: s11 :: s12 :: t13 :: t14 :: t15 :: s16 :: s17 :: s18 :: s19 :: s20 :: s21 :: s22 :: s23 :: s24 :: s25 :: s26 :: s27 :: s28 :: s29 :: s30 :: s31 :: s32 :: s33 :: s34 :: s35 :: s36 :: s37 :: s38 :: s39 :: s40 :: s41 :: s42 :: s43 :: s44 :: s45 :: s46 :: s47 :: s48 :: s49 :: s50 :: t51 :: t52 :: t53 :: t54 :: t55 :: t56 :: t57 :: t58 :: t59 :: t60 :: t61 :: t62 :: t63 :: t64 :: t65 :: s66 :: s67 :: s68 :: s69 :: s70 :: s71 :: s72 :: s73 :: s74 :: s75 :: s76 :: s77 :: s78 :: s79 :: s80 :: s81 :: s82 :: s83 :: s84 :: s85 :: s86 :: s87 :: s88 :: s89 :: s90 :: s91 :: s92 :: s93 :: s94 :: s95 :: s96 :: s97 :: s98 :: s99 :: s100 :: s101 :: s102 :: s103 :: s104 :: s105 :: s106 :: s107 :: s108 :: s109 :: s110 :: s111 :: s112 :: s113 :: s114 :: s115 :: []).toArray, []⟩ W0 := by
  refine wp_region_facts (fun v => ⟨(s0 :: .pointer (some ⟨b1, 0, none⟩) :: .pointer (some ⟨(b1 + 1), 0, none⟩) :: .pointer (some ⟨(b1 + 1 + 1), 0, none⟩) :: s4 :: s5 :: s6 :: s7 :: s8 :: s9 :: s10 :: s11 :: s12 :: v 15 :: t14 :: t15 :: s16 :: s17 :: s18 :: s19 :: s20 :: s21 :: s22 :: s23 :: s24 :: s25 :: s26 :: s27 :: s28 :: s29 :: s30 :: s31 :: s32 :: s33 :: s34 :: s35 :: s36 :: s37 :: s38 :: s39 :: s40 :: s41 :: s42 :: s43 :: s44 :: s45 :: s46 :: s47 :: s48 :: s49 :: s50 :: v 11 :: v 0 :: v 1 :: v 2 :: v 3 :: v 4 :: v 5 :: v 6 :: v 7 :: v 8 :: v 9 :: v 10 :: v 12 :: v 13 :: v 14 :: s66 :: s67 :: s68 :: s69 :: s70 :: s71 :: s72 :: s73 :: s74 :: s75 :: s76 :: s77 :: s78 :: s79 :: s80 :: s81 :: s82 :: s83 :: s84 :: s85 :: s86 :: s87 :: s88 :: s89 :: s90 :: s91 :: s92 :: s93 :: s94 :: s95 :: s96 :: s97 :: s98 :: s99 :: s100 :: s101 :: s102 :: s103 :: s104 :: s105 :: s106 :: s107 :: s108 :: s109 :: s110 :: s111 :: s112 :: s113 :: s114 :: s115 :: []).toArray, []⟩) (wk_r8F N0 W0 b1) (fun W W' => Below W.heap.size W W') (fun W => WkC W0 W b1) (fun j => decide (j = 0) || decide (j = 1) || decide (j = 2) || decide (j = 3) || decide (j = 4) || decide (j = 5) || decide (j = 6) || decide (j = 7) || decide (j = 8) || decide (j = 9) || decide (j = 10) || decide (j = 11) || decide (j = 12) || decide (j = 15)) (fun j => decide (j = 0) || decide (j = 1) || decide (j = 2) || decide (j = 3) || decide (j = 4) || decide (j = 5) || decide (j = 6) || decide (j = 7) || decide (j = 8) || decide (j = 9) || decide (j = 10) || decide (j = 11) || decide (j = 12) || decide (j = 13) || decide (j = 14) || decide (j = 15)) (fun j => ([t52, t53, t54, t55, t56, t57, t58, t59, t60, t61, t62, t51, t63, t64, t65, t13, undef, undef, undef] : List Value).getD j undef) (by kernel_rfl) HBS.out.drew (fun j x W W' h hR => wk_r8F_st h hR) (fun W W' h hR => h.below hR) (by kernel_rfl) ?_ ?_
  · intro j o hA ho v W hB hF K hK a ha
    have hj : j = 0 ∨ j = 1 ∨ j = 2 ∨ j = 3 ∨ j = 4 ∨ j = 5 ∨ j = 6 ∨ j = 7 ∨ j = 8 ∨ j = 9 ∨ j = 10 ∨ j = 11 ∨ j = 12 ∨ j = 13 ∨ j = 14 ∨ j = 15 := by simpa [or_assoc] using hA
    clear hA HBS
    obtain rfl : a = ⟨(s0 :: .pointer (some ⟨b1, 0, none⟩) :: .pointer (some ⟨(b1 + 1), 0, none⟩) :: .pointer (some ⟨(b1 + 1 + 1), 0, none⟩) :: s4 :: s5 :: s6 :: s7 :: s8 :: s9 :: s10 :: s11 :: s12 :: v 15 :: t14 :: t15 :: s16 :: s17 :: s18 :: s19 :: s20 :: s21 :: s22 :: s23 :: s24 :: s25 :: s26 :: s27 :: s28 :: s29 :: s30 :: s31 :: s32 :: s33 :: s34 :: s35 :: s36 :: s37 :: s38 :: s39 :: s40 :: s41 :: s42 :: s43 :: s44 :: s45 :: s46 :: s47 :: s48 :: s49 :: s50 :: v 11 :: v 0 :: v 1 :: v 2 :: v 3 :: v 4 :: v 5 :: v 6 :: v 7 :: v 8 :: v 9 :: v 10 :: v 12 :: v 13 :: v 14 :: s66 :: s67 :: s68 :: s69 :: s70 :: s71 :: s72 :: s73 :: s74 :: s75 :: s76 :: s77 :: s78 :: s79 :: s80 :: s81 :: s82 :: s83 :: s84 :: s85 :: s86 :: s87 :: s88 :: s89 :: s90 :: s91 :: s92 :: s93 :: s94 :: s95 :: s96 :: s97 :: s98 :: s99 :: s100 :: s101 :: s102 :: s103 :: s104 :: s105 :: s106 :: s107 :: s108 :: s109 :: s110 :: s111 :: s112 :: s113 :: s114 :: s115 :: []).toArray, []⟩ := ha
    obtain rfl | rfl | rfl | rfl | rfl | rfl | rfl | rfl | rfl | rfl | rfl | rfl | rfl | rfl | rfl | rfl := hj
    · obtain rfl : { dst := some 52, op := Go.Op.call { callee := Go.Callee.value (Go.Operand.func 20), args := #[], argTypes := #[] }, type := 26, pos := "law.go:24", after := #[], guard := none } = o := Option.some.inj ((rfl : some _ = _).trans ho)
      clear ho
      refine step_call_g (by rfl) 20 _ _ rfl (fun _ _ => by kernel_rfl) #[] (by simp) _ (Tryd.New_any W) ?_
      rintro e W' ⟨rfl, hC⟩
      refine ⟨_, rfl, ?_⟩
      try simp only [Act.put, List.setIfInBounds_toArray, List.set_cons_zero, List.set_cons_succ]
      exact hK.out _ W' hC rfl
    · obtain rfl : { dst := some 53, op := Go.Op.load 38 (Go.Operand.tmp 1), type := 38, pos := "law.go:24", after := #[], guard := none } = o := Option.some.inj ((rfl : some _ = _).trans ho)
      clear ho
      have s0 : W.cell? ⟨b1, 0, none⟩ = some (.int .i64 1) := hB.a.cell 0
      have s1 : W.cell? ⟨b1, 1, none⟩ = some (.int .u64 0) := hB.a.cell 1
      refine step_value_g (by rfl) (.agg #[.int .i64 1, .int .u64 0]) (w' := W) (by go_simp) ?_
      try simp only [Act.put, List.setIfInBounds_toArray, List.set_cons_zero, List.set_cons_succ]
      exact hK.out _ W (Below.refl _ W) rfl
    · obtain rfl : { dst := some 54, op := Go.Op.load 38 (Go.Operand.global 0), type := 38, pos := "law.go:24", after := #[], guard := none } = o := Option.some.inj ((rfl : some _ = _).trans ho)
      clear ho
      have s0 : W.cell? ⟨0, 0, none⟩ = some (.int .i64 (-1)) := hB.on.c0
      have s1 : W.cell? ⟨0, 1, none⟩ = some (.int .u64 0) := hB.on.c1
      refine step_value_g (by rfl) (.agg #[.int .i64 (-1), .int .u64 0]) (w' := W) (by go_simp) ?_
      try simp only [Act.put, List.setIfInBounds_toArray, List.set_cons_zero, List.set_cons_succ]
      exact hK.out _ W (Below.refl _ W) rfl
    · obtain rfl : { dst := some 55, op := Go.Op.load 38 (Go.Operand.tmp 2), type := 38, pos := "law.go:24", after := #[], guard := none } = o := Option.some.inj ((rfl : some _ = _).trans ho)
      clear ho
      have s0 : W.cell? ⟨b1 + 1, 0, none⟩ = some (.int .i64 2) := hB.b.cell 0
      have s1 : W.cell? ⟨b1 + 1, 1, none⟩ = some (.int .u64 0) := hB.b.cell 1
      refine step_value_g (by rfl) (.agg #[.int .i64 2, .int .u64 0]) (w' := W) (by go_simp) ?_
      try simp only [Act.put, List.setIfInBounds_toArray, List.set_cons_zero, List.set_cons_succ]
      exact hK.out _ W (Below.refl _ W) rfl
    · obtain rfl : { dst := some 56, op := Go.Op.load 38 (Go.Operand.global 0), type := 38, pos := "law.go:24", after := #[], guard := none } = o := Option.some.inj ((rfl : some _ = _).trans ho)
      clear ho
      have s0 : W.cell? ⟨0, 0, none⟩ = some (.int .i64 (-1)) := hB.on.c0
      have s1 : W.cell? ⟨0, 1, none⟩ = some (.int .u64 0) := hB.on.c1
      refine step_value_g (by rfl) (.agg #[.int .i64 (-1), .int .u64 0]) (w' := W) (by go_simp) ?_
      try simp only [Act.put, List.setIfInBounds_toArray, List.set_cons_zero, List.set_cons_succ]
      exact hK.out _ W (Below.refl _ W) rfl
    · obtain rfl : { dst := some 57, op := Go.Op.load 38 (Go.Operand.tmp 3), type := 38, pos := "law.go:24", after := #[], guard := none } = o := Option.some.inj ((rfl : some _ = _).trans ho)
      clear ho
      have s0 : W.cell? ⟨b1 + 1 + 1, 0, none⟩ = some (.int .i64 3) := hB.c.cell 0
      have s1 : W.cell? ⟨b1 + 1 + 1, 1, none⟩ = some (.int .u64 0) := hB.c.cell 1
      refine step_value_g (by rfl) (.agg #[.int .i64 3, .int .u64 0]) (w' := W) (by go_simp) ?_
      try simp only [Act.put, List.setIfInBounds_toArray, List.set_cons_zero, List.set_cons_succ]
      exact hK.out _ W (Below.refl _ W) rfl
    · obtain rfl : { dst := some 58, op := Go.Op.load 38 (Go.Operand.global 0), type := 38, pos := "law.go:24", after := #[], guard := none } = o := Option.some.inj ((rfl : some _ = _).trans ho)
      clear ho
      have s0 : W.cell? ⟨0, 0, none⟩ = some (.int .i64 (-1)) := hB.on.c0
      have s1 : W.cell? ⟨0, 1, none⟩ = some (.int .u64 0) := hB.on.c1
      refine step_value_g (by rfl) (.agg #[.int .i64 (-1), .int .u64 0]) (w' := W) (by go_simp) ?_
      try simp only [Act.put, List.setIfInBounds_toArray, List.set_cons_zero, List.set_cons_succ]
      exact hK.out _ W (Below.refl _ W) rfl
    · obtain rfl : { dst := some 59, op := Go.Op.load 38 (Go.Operand.global 0), type := 38, pos := "law.go:24", after := #[], guard := none } = o := Option.some.inj ((rfl : some _ = _).trans ho)
      clear ho
      have s0 : W.cell? ⟨0, 0, none⟩ = some (.int .i64 (-1)) := hB.on.c0
      have s1 : W.cell? ⟨0, 1, none⟩ = some (.int .u64 0) := hB.on.c1
      refine step_value_g (by rfl) (.agg #[.int .i64 (-1), .int .u64 0]) (w' := W) (by go_simp) ?_
      try simp only [Act.put, List.setIfInBounds_toArray, List.set_cons_zero, List.set_cons_succ]
      exact hK.out _ W (Below.refl _ W) rfl
    · obtain rfl : { dst := some 60, op := Go.Op.load 38 (Go.Operand.global 0), type := 38, pos := "law.go:24", after := #[], guard := none } = o := Option.some.inj ((rfl : some _ = _).trans ho)
      clear ho
      have s0 : W.cell? ⟨0, 0, none⟩ = some (.int .i64 (-1)) := hB.on.c0
      have s1 : W.cell? ⟨0, 1, none⟩ = some (.int .u64 0) := hB.on.c1
      refine step_value_g (by rfl) (.agg #[.int .i64 (-1), .int .u64 0]) (w' := W) (by go_simp) ?_
      try simp only [Act.put, List.setIfInBounds_toArray, List.set_cons_zero, List.set_cons_succ]
      exact hK.out _ W (Below.refl _ W) rfl
    · obtain rfl : { dst := some 61, op := Go.Op.buildSlice 23 8 #[(0, Go.Operand.tmp 53), (1, Go.Operand.tmp 54), (2, Go.Operand.tmp 55), (3, Go.Operand.tmp 56), (4, Go.Operand.tmp 57), (5, Go.Operand.tmp 58), (6, Go.Operand.tmp 59), (7, Go.Operand.tmp 60)], type := 23, pos := "law.go:24", after := #[{ on := 1, ground := Go.Ground.data }, { on := 2, ground := Go.Ground.data }, { on := 3, ground := Go.Ground.data }, { on := 4, ground := Go.Ground.data }, { on := 5, ground := Go.Ground.data }, { on := 6, ground := Go.Ground.data }, { on := 7, ground := Go.Ground.data }, { on := 8, ground := Go.Ground.data }], guard := none } = o := Option.some.inj ((rfl : some _ = _).trans ho)
      clear ho
      have e1 : wk_r8F N0 W0 b1 1 (v 1) W := hF ({ on := 1, ground := Go.Ground.data }) (by simp) rfl
      have e1 : v 1 = .agg #[.int .i64 1, .int .u64 0] := e1
      have e2 : wk_r8F N0 W0 b1 2 (v 2) W := hF ({ on := 2, ground := Go.Ground.data }) (by simp) rfl
      have e2 : v 2 = .agg #[.int .i64 (-1), .int .u64 0] := e2
      have e3 : wk_r8F N0 W0 b1 3 (v 3) W := hF ({ on := 3, ground := Go.Ground.data }) (by simp) rfl
      have e3 : v 3 = .agg #[.int .i64 2, .int .u64 0] := e3
      have e4 : wk_r8F N0 W0 b1 4 (v 4) W := hF ({ on := 4, ground := Go.Ground.data }) (by simp) rfl
      have e4 : v 4 = .agg #[.int .i64 (-1), .int .u64 0] := e4
      have e5 : wk_r8F N0 W0 b1 5 (v 5) W := hF ({ on := 5, ground := Go.Ground.data }) (by simp) rfl
      have e5 : v 5 = .agg #[.int .i64 3, .int .u64 0] := e5
      have e6 : wk_r8F N0 W0 b1 6 (v 6) W := hF ({ on := 6, ground := Go.Ground.data }) (by simp) rfl
      have e6 : v 6 = .agg #[.int .i64 (-1), .int .u64 0] := e6
      have e7 : wk_r8F N0 W0 b1 7 (v 7) W := hF ({ on := 7, ground := Go.Ground.data }) (by simp) rfl
      have e7 : v 7 = .agg #[.int .i64 (-1), .int .u64 0] := e7
      have e8 : wk_r8F N0 W0 b1 8 (v 8) W := hF ({ on := 8, ground := Go.Ground.data }) (by simp) rfl
      have e8 : v 8 = .agg #[.int .i64 (-1), .int .u64 0] := e8
      refine step_value_g (by rfl) (.slice (some ⟨W.heap.size, 0, none⟩) 8 8) (w' := W.alloc (.cells #[.int .i64 1, .int .u64 0, .int .i64 (-1), .int .u64 0, .int .i64 2, .int .u64 0, .int .i64 (-1), .int .u64 0, .int .i64 3, .int .u64 0, .int .i64 (-1), .int .u64 0, .int .i64 (-1), .int .u64 0, .int .i64 (-1), .int .u64 0] 38)) (by go_simp) ?_
      try simp only [Act.put, List.setIfInBounds_toArray, List.set_cons_zero, List.set_cons_succ]
      exact hK.out _ _ Rows8.newB ⟨_, rfl, lit_ents W kst (by decide)⟩
    · obtain rfl : { dst := some 62, op := Go.Op.call { callee := Go.Callee.value (Go.Operand.func 29), args := #[Go.Operand.tmp 52, Go.Operand.tmp 61], argTypes := #[26, 23] }, type := 50, pos := "law.go:24", after := #[{ on := 0, ground := Go.Ground.data }, { on := 9, ground := Go.Ground.data }, { on := 0, ground := Go.Ground.chain }], guard := none } = o := Option.some.inj ((rfl : some _ = _).trans ho)
      clear ho
      have e0 : wk_r8F N0 W0 b1 0 (v 0) W := hF ({ on := 0, ground := Go.Ground.data }) (by simp) rfl
      have e9 : wk_r8F N0 W0 b1 9 (v 9) W := hF ({ on := 9, ground := Go.Ground.data }) (by simp) rfl
      have e0 : v 0 = .agg #[.int .u64 0, .slice none 0 0, .slice none 0 0, .slice none 0 0] := e0
      obtain ⟨b, e9, hb⟩ := e9
      refine step_call_g (by rfl) 29 _ _ rfl (fun _ _ => by kernel_rfl) #[.agg #[.int .u64 0, .slice none 0 0, .slice none 0 0, .slice none 0 0], .slice (some ⟨b, 0, none⟩) 8 8] (by simp [go_sem, e0, e9]) _ (Tryd.wkRun W b hb) ?_
      rintro e W' ⟨⟨s, a, c, rfl, hO⟩, hC⟩
      refine ⟨_, rfl, ?_⟩
      try simp only [Act.put, List.setIfInBounds_toArray, List.set_cons_zero, List.set_cons_succ]
      exact hK.out _ W' hC ⟨s, a, c, rfl, hO⟩
    · obtain rfl : { dst := some 51, op := Go.Op.move (Go.Operand.tmp 62), type := 50, pos := "law.go:24", after := #[{ on := 10, ground := Go.Ground.data }], guard := none } = o := Option.some.inj ((rfl : some _ = _).trans ho)
      clear ho
      have e10 : wk_r8F N0 W0 b1 10 (v 10) W := hF ({ on := 10, ground := Go.Ground.data }) (by simp) rfl
      obtain ⟨s, a, c, e10, hO⟩ := e10
      refine step_value_g (by rfl) (.tuple #[.agg #[.int .u64 (k8.2.1 : Nat), .slice (s.a 0) (s.n 0) (s.c 0), .slice (s.a 1) (s.n 1) (s.c 1), .slice (s.a 2) (s.n 2) (s.c 2)], .slice a 3 c, .int .i64 0]) (w' := W) (by go_simp) ?_
      try simp only [Act.put, List.setIfInBounds_toArray, List.set_cons_zero, List.set_cons_succ]
      exact hK.out _ W (Below.refl _ W) ⟨s, a, c, rfl, hO⟩
    · obtain rfl : { dst := some 63, op := Go.Op.extract (Go.Operand.tmp 51) 0, type := 26, pos := "law.go:24", after := #[{ on := 11, ground := Go.Ground.data }], guard := none } = o := Option.some.inj ((rfl : some _ = _).trans ho)
      clear ho
      have e11 : wk_r8F N0 W0 b1 11 (v 11) W := hF ({ on := 11, ground := Go.Ground.data }) (by simp) rfl
      obtain ⟨s, a, c, e11, hO⟩ := e11
      refine step_value_g (by rfl) (.agg #[.int .u64 (k8.2.1 : Nat), .slice (s.a 0) (s.n 0) (s.c 0), .slice (s.a 1) (s.n 1) (s.c 1), .slice (s.a 2) (s.n 2) (s.c 2)]) (w' := W) (by go_simp) ?_
      try simp only [Act.put, List.setIfInBounds_toArray, List.set_cons_zero, List.set_cons_succ]
      exact hK.out _ W (Below.refl _ W) ⟨s, rfl⟩
    · obtain rfl : { dst := some 64, op := Go.Op.extract (Go.Operand.tmp 51) 1, type := 23, pos := "law.go:24", after := #[{ on := 11, ground := Go.Ground.data }, { on := 16, ground := Go.Ground.gcOnly Go.Departure.lateStores }], guard := none } = o := Option.some.inj ((rfl : some _ = _).trans ho)
      clear ho
      have e11 : wk_r8F N0 W0 b1 11 (v 11) W := hF ({ on := 11, ground := Go.Ground.data }) (by simp) rfl
      obtain ⟨s, a, c, e11, hO⟩ := e11
      refine step_value_g (by rfl) (.slice a 3 c) (w' := W) (by go_simp) ?_
      try simp only [Act.put, List.setIfInBounds_toArray, List.set_cons_zero, List.set_cons_succ]
      exact hK.out _ W (Below.refl _ W) ⟨a, c, rfl, hO⟩
    · obtain rfl : { dst := some 65, op := Go.Op.extract (Go.Operand.tmp 51) 2, type := 31, pos := "law.go:24", after := #[{ on := 11, ground := Go.Ground.data }, { on := 17, ground := Go.Ground.gcOnly Go.Departure.lateStores }], guard := none } = o := Option.some.inj ((rfl : some _ = _).trans ho)
      clear ho
      have e11 : wk_r8F N0 W0 b1 11 (v 11) W := hF ({ on := 11, ground := Go.Ground.data }) (by simp) rfl
      obtain ⟨s, a, c, e11, hO⟩ := e11
      refine step_value_g (by rfl) (.int .i64 0) (w' := W) (by go_simp) ?_
      try simp only [Act.put, List.setIfInBounds_toArray, List.set_cons_zero, List.set_cons_succ]
      exact hK.out _ W (Below.refl _ W) rfl
    · obtain rfl : { dst := some 13, op := Go.Op.alloc 26, type := 0, pos := "law.go:24", after := #[], guard := none } = o := Option.some.inj ((rfl : some _ = _).trans ho)
      clear ho
      refine step_value_g (by rfl) (.pointer (some ⟨W.heap.size, 0, none⟩)) (w' := W.alloc (.cells #[.int .u64 0, .slice none 0 0, .slice none 0 0, .slice none 0 0] 26)) (by go_simp) ?_
      try simp only [Act.put, List.setIfInBounds_toArray, List.set_cons_zero, List.set_cons_succ]
      exact hK.out _ _ Rows8.newB ⟨_, rfl, hB.bl.size, Rows8.new _ _ _⟩
  · intro b v W hB hC hA
    obtain ⟨sy, e12⟩ : wk_r8F N0 W0 b1 12 (v 12) W := hC 12 (by show (12 : Nat) < 19; decide) rfl
    obtain ⟨sx, a, c, e11, h11⟩ : wk_r8F N0 W0 b1 11 (v 11) W := hC 11 (by show (11 : Nat) < 19; decide) rfl
    obtain ⟨BN, e15, hbn, hr⟩ : wk_r8F N0 W0 b1 15 (v 15) W := hC 15 (by show (15 : Nat) < 19; decide) rfl
    have h00 := HBS.out.on
    by_cases hb13 : b 13 = true
    · have hx13 := hA 13 (by show (13 : Nat) < 19; decide) rfl hb13
      by_cases hb14 : b 14 = true
      · have hx14 := hA 14 (by show (14 : Nat) < 19; decide) rfl hb14
        obtain ⟨hl, hs⟩ := lst_agree (n := 19) (C := (fun j => decide (j = 0) || decide (j = 1) || decide (j = 2) || decide (j = 3) || decide (j = 4) || decide (j = 5) || decide (j = 6) || decide (j = 7) || decide (j = 8) || decide (j = 9) || decide (j = 10) || decide (j = 11) || decide (j = 12) || decide (j = 15))) (A := (fun j => decide (j = 0) || decide (j = 1) || decide (j = 2) || decide (j = 3) || decide (j = 4) || decide (j = 5) || decide (j = 6) || decide (j = 7) || decide (j = 8) || decide (j = 9) || decide (j = 10) || decide (j = 11) || decide (j = 12) || decide (j = 13) || decide (j = 14) || decide (j = 15))) (b := b) (b' := (fun j => decide (j = 13) || decide (j = 14))) (fun j hj hc ha => by
          have h9 : j = 13 ∨ j = 14 := by
            have h8 : j = 0 ∨ j = 1 ∨ j = 2 ∨ j = 3 ∨ j = 4 ∨ j = 5 ∨ j = 6 ∨ j = 7 ∨ j = 8 ∨ j = 9 ∨ j = 10 ∨ j = 11 ∨ j = 12 ∨ j = 13 ∨ j = 14 ∨ j = 15 := by simpa [or_assoc] using ha
            have h7 : ¬ j = 0 ∧ ¬ j = 1 ∧ ¬ j = 2 ∧ ¬ j = 3 ∧ ¬ j = 4 ∧ ¬ j = 5 ∧ ¬ j = 6 ∧ ¬ j = 7 ∧ ¬ j = 8 ∧ ¬ j = 9 ∧ ¬ j = 10 ∧ ¬ j = 11 ∧ ¬ j = 12 ∧ ¬ j = 15 := by simpa [and_assoc] using hc
            omega
          rcases h9 with rfl | rfl <;> simp [*])
        refine (show wpAny _ _ _ _ (leftOf 19 (fun j => decide (j = 0) || decide (j = 1) || decide (j = 2) || decide (j = 3) || decide (j = 4) || decide (j = 5) || decide (j = 6) || decide (j = 7) || decide (j = 8) || decide (j = 9) || decide (j = 10) || decide (j = 11) || decide (j = 12) || decide (j = 15)) (fun j => decide (j = 0) || decide (j = 1) || decide (j = 2) || decide (j = 3) || decide (j = 4) || decide (j = 5) || decide (j = 6) || decide (j = 7) || decide (j = 8) || decide (j = 9) || decide (j = 10) || decide (j = 11) || decide (j = 12) || decide (j = 13) || decide (j = 14) || decide (j = 15)) b) (lstOf 19 (fun j => decide (j = 0) || decide (j = 1) || decide (j = 2) || decide (j = 3) || decide (j = 4) || decide (j = 5) || decide (j = 6) || decide (j = 7) || decide (j = 8) || decide (j = 9) || decide (j = 10) || decide (j = 11) || decide (j = 12) || decide (j = 15)) (fun j => decide (j = 0) || decide (j = 1) || decide (j = 2) || decide (j = 3) || decide (j = 4) || decide (j = 5) || decide (j = 6) || decide (j = 7) || decide (j = 8) || decide (j = 9) || decide (j = 10) || decide (j = 11) || decide (j = 12) || decide (j = 13) || decide (j = 14) || decide (j = 15)) b) ⟨(s0 :: .pointer (some ⟨b1, 0, none⟩) :: .pointer (some ⟨(b1 + 1), 0, none⟩) :: .pointer (some ⟨(b1 + 1 + 1), 0, none⟩) :: s4 :: s5 :: s6 :: s7 :: s8 :: s9 :: s10 :: s11 :: s12 :: v 15 :: t14 :: t15 :: s16 :: s17 :: s18 :: s19 :: s20 :: s21 :: s22 :: s23 :: s24 :: s25 :: s26 :: s27 :: s28 :: s29 :: s30 :: s31 :: s32 :: s33 :: s34 :: s35 :: s36 :: s37 :: s38 :: s39 :: s40 :: s41 :: s42 :: s43 :: s44 :: s45 :: s46 :: s47 :: s48 :: s49 :: s50 :: v 11 :: v 0 :: v 1 :: v 2 :: v 3 :: v 4 :: v 5 :: v 6 :: v 7 :: v 8 :: v 9 :: v 10 :: v 12 :: v 13 :: v 14 :: s66 :: s67 :: s68 :: s69 :: s70 :: s71 :: s72 :: s73 :: s74 :: s75 :: s76 :: s77 :: s78 :: s79 :: s80 :: s81 :: s82 :: s83 :: s84 :: s85 :: s86 :: s87 :: s88 :: s89 :: s90 :: s91 :: s92 :: s93 :: s94 :: s95 :: s96 :: s97 :: s98 :: s99 :: s100 :: s101 :: s102 :: s103 :: s104 :: s105 :: s106 :: s107 :: s108 :: s109 :: s110 :: s111 :: s112 :: s113 :: s114 :: s115 :: []).toArray, []⟩ W from ?_)
        rw [hl.trans (by kernel_rfl : _ = 3), hs.trans (by kernel_rfl : _ = #[true, true, true, true, true, true, true, true, true, true, true, true, true, true, true, true, false, false, false])]
        refine wpAny_of_L (S := fun _ => True) (X := 0) _ _ _ _ ?_
        clear hl hs hA hC
        obtain ⟨a3, c3, e13, h13⟩ := hx13
        have e14 : v 14 = .int .i64 0 := hx14
        refine wpAnyL_one (i := 16) (o := { dst := none, op := Go.Op.store 26 (Go.Operand.tmp 13) (Go.Operand.tmp 63), type := 0, pos := "law.go:24", after := #[{ on := 15, ground := Go.Ground.data }, { on := 12, ground := Go.Ground.data }, { on := 10, ground := Go.Ground.chain }, { on := 0, ground := Go.Ground.phase }, { on := 1, ground := Go.Ground.phase }, { on := 2, ground := Go.Ground.phase }, { on := 3, ground := Go.Ground.phase }, { on := 4, ground := Go.Ground.phase }, { on := 5, ground := Go.Ground.phase }, { on := 6, ground := Go.Ground.phase }, { on := 7, ground := Go.Ground.phase }, { on := 8, ground := Go.Ground.phase }, { on := 9, ground := Go.Ground.phase }, { on := 10, ground := Go.Ground.phase }, { on := 11, ground := Go.Ground.phase }, { on := 12, ground := Go.Ground.phase }, { on := 13, ground := Go.Ground.textOnly Go.Departure.lateStores }, { on := 14, ground := Go.Ground.textOnly Go.Departure.lateStores }, { on := 15, ground := Go.Ground.phase }], guard := none }) (by kernel_rfl) rfl (fun K hK => ?_)
        have ck0 : W.cell? ⟨BN, 0, none⟩ = some (.int .u64 0) := hr.cell 0
        have fk0 := hr.frozen 0
        have ck1 : W.cell? ⟨BN, 1, none⟩ = some (.slice none 0 0) := hr.cell 1
        have fk1 := hr.frozen 1
        have ck2 : W.cell? ⟨BN, 2, none⟩ = some (.slice none 0 0) := hr.cell 2
        have fk2 := hr.frozen 2
        have ck3 : W.cell? ⟨BN, 3, none⟩ = some (.slice none 0 0) := hr.cell 3
        have fk3 := hr.frozen 3
        have hlt := hr.lt
        refine step_skip_g (by rfl) (w' := ((((W.setCell ⟨BN, 0, none⟩ (.int .u64 (k8.2.1 : Nat))).setCell ⟨BN, 1, none⟩ (.slice (sy.a 0) (sy.n 0) (sy.c 0))).setCell ⟨BN, 2, none⟩ (.slice (sy.a 1) (sy.n 1) (sy.c 1))).setCell ⟨BN, 3, none⟩ (.slice (sy.a 2) (sy.n 2) (sy.c 2)))) (by go_simp) ?_
        refine hK.out _ _ (fun _ => trivial) ?_
        clear hK K
        try simp only [Act.put, List.setIfInBounds_toArray, List.set_cons_zero, List.set_cons_succ]
        refine wpAnyL_one (i := 17) (o := { dst := some 14, op := Go.Op.assign (Go.Operand.tmp 64), type := 23, pos := "law.go:24", after := #[{ on := 13, ground := Go.Ground.data }, { on := 16, ground := Go.Ground.chain }, { on := 0, ground := Go.Ground.phase }, { on := 1, ground := Go.Ground.phase }, { on := 2, ground := Go.Ground.phase }, { on := 3, ground := Go.Ground.phase }, { on := 4, ground := Go.Ground.phase }, { on := 5, ground := Go.Ground.phase }, { on := 6, ground := Go.Ground.phase }, { on := 7, ground := Go.Ground.phase }, { on := 8, ground := Go.Ground.phase }, { on := 9, ground := Go.Ground.phase }, { on := 10, ground := Go.Ground.phase }, { on := 11, ground := Go.Ground.phase }, { on := 12, ground := Go.Ground.phase }, { on := 13, ground := Go.Ground.phase }, { on := 14, ground := Go.Ground.textOnly Go.Departure.lateStores }, { on := 15, ground := Go.Ground.phase }, { on := 16, ground := Go.Ground.phase }], guard := none }) (by kernel_rfl) rfl (fun K hK => ?_)
        refine step_value_g (by rfl) (.slice a3 3 c3) (w' := ((((W.setCell ⟨BN, 0, none⟩ (.int .u64 (k8.2.1 : Nat))).setCell ⟨BN, 1, none⟩ (.slice (sy.a 0) (sy.n 0) (sy.c 0))).setCell ⟨BN, 2, none⟩ (.slice (sy.a 1) (sy.n 1) (sy.c 1))).setCell ⟨BN, 3, none⟩ (.slice (sy.a 2) (sy.n 2) (sy.c 2)))) (by go_simp) ?_
        refine hK.out _ _ (fun _ => trivial) ?_
        clear hK K
        try simp only [Act.put, List.setIfInBounds_toArray, List.set_cons_zero, List.set_cons_succ]
        refine wpAnyL_one (i := 18) (o := { dst := some 15, op := Go.Op.assign (Go.Operand.tmp 65), type := 31, pos := "law.go:24", after := #[{ on := 14, ground := Go.Ground.data }, { on := 17, ground := Go.Ground.chain }, { on := 0, ground := Go.Ground.phase }, { on := 1, ground := Go.Ground.phase }, { on := 2, ground := Go.Ground.phase }, { on := 3, ground := Go.Ground.phase }, { on := 4, ground := Go.Ground.phase }, { on := 5, ground := Go.Ground.phase }, { on := 6, ground := Go.Ground.phase }, { on := 7, ground := Go.Ground.phase }, { on := 8, ground := Go.Ground.phase }, { on := 9, ground := Go.Ground.phase }, { on := 10, ground := Go.Ground.phase }, { on := 11, ground := Go.Ground.phase }, { on := 12, ground := Go.Ground.phase }, { on := 13, ground := Go.Ground.phase }, { on := 14, ground := Go.Ground.phase }, { on := 15, ground := Go.Ground.phase }, { on := 16, ground := Go.Ground.phase }, { on := 17, ground := Go.Ground.phase }], guard := none }) (by kernel_rfl) rfl (fun K hK => ?_)
        refine step_value_g (by rfl) (.int .i64 0) (w' := ((((W.setCell ⟨BN, 0, none⟩ (.int .u64 (k8.2.1 : Nat))).setCell ⟨BN, 1, none⟩ (.slice (sy.a 0) (sy.n 0) (sy.c 0))).setCell ⟨BN, 2, none⟩ (.slice (sy.a 1) (sy.n 1) (sy.c 1))).setCell ⟨BN, 3, none⟩ (.slice (sy.a 2) (sy.n 2) (sy.c 2)))) (by go_simp) ?_
        refine hK.out _ _ (fun _ => trivial) ?_
        clear hK K
        try simp only [Act.put, List.setIfInBounds_toArray, List.set_cons_zero, List.set_cons_succ]
        have hpp : OwnE 0 [(1, 0), (2, 0), (3, 0)] (.slice a3 3 c3) (((((W.setCell ⟨BN, 0, none⟩ (.int .u64 (k8.2.1 : Nat))).setCell ⟨BN, 1, none⟩ (.slice (sy.a 0) (sy.n 0) (sy.c 0))).setCell ⟨BN, 2, none⟩ (.slice (sy.a 1) (sy.n 1) (sy.c 1))).setCell ⟨BN, 3, none⟩ (.slice (sy.a 2) (sy.n 2) (sy.c 2)))) := h13.setT hr (.int .u64 (k8.2.1 : Nat)) (.slice (sy.a 0) (sy.n 0) (sy.c 0)) (.slice (sy.a 1) (sy.n 1) (sy.c 1)) (.slice (sy.a 2) (sy.n 2) (sy.c 2))
        refine wpAnyL_end (by kernel_rfl) ?_
        exact e15 ▸ HK.out BN _ _ _ _ _ _ _ _ _ _ _ _ _ _ _ _ _ _ hpp (hB.set4 hr hbn (.int .u64 (k8.2.1 : Nat)) (.slice (sy.a 0) (sy.n 0) (sy.c 0)) (.slice (sy.a 1) (sy.n 1) (sy.c 1)) (.slice (sy.a 2) (sy.n 2) (sy.c 2)) h00)
      · have hb14 : b 14 = false := by simpa using hb14
        obtain ⟨hl, hs⟩ := lst_agree (n := 19) (C := (fun j => decide (j = 0) || decide (j = 1) || decide (j = 2) || decide (j = 3) || decide (j = 4) || decide (j = 5) || decide (j = 6) || decide (j = 7) || decide (j = 8) || decide (j = 9) || decide (j = 10) || decide (j = 11) || decide (j = 12) || decide (j = 15))) (A := (fun j => decide (j = 0) || decide (j = 1) || decide (j = 2) || decide (j = 3) || decide (j = 4) || decide (j = 5) || decide (j = 6) || decide (j = 7) || decide (j = 8) || decide (j = 9) || decide (j = 10) || decide (j = 11) || decide (j = 12) || decide (j = 13) || decide (j = 14) || decide (j = 15))) (b := b) (b' := (fun j => decide (j = 13))) (fun j hj hc ha => by
          have h9 : j = 13 ∨ j = 14 := by
            have h8 : j = 0 ∨ j = 1 ∨ j = 2 ∨ j = 3 ∨ j = 4 ∨ j = 5 ∨ j = 6 ∨ j = 7 ∨ j = 8 ∨ j = 9 ∨ j = 10 ∨ j = 11 ∨ j = 12 ∨ j = 13 ∨ j = 14 ∨ j = 15 := by simpa [or_assoc] using ha
            have h7 : ¬ j = 0 ∧ ¬ j = 1 ∧ ¬ j = 2 ∧ ¬ j = 3 ∧ ¬ j = 4 ∧ ¬ j = 5 ∧ ¬ j = 6 ∧ ¬ j = 7 ∧ ¬ j = 8 ∧ ¬ j = 9 ∧ ¬ j = 10 ∧ ¬ j = 11 ∧ ¬ j = 12 ∧ ¬ j = 15 := by simpa [and_assoc] using hc
            omega
          rcases h9 with rfl | rfl <;> simp [*])
        refine (show wpAny _ _ _ _ (leftOf 19 (fun j => decide (j = 0) || decide (j = 1) || decide (j = 2) || decide (j = 3) || decide (j = 4) || decide (j = 5) || decide (j = 6) || decide (j = 7) || decide (j = 8) || decide (j = 9) || decide (j = 10) || decide (j = 11) || decide (j = 12) || decide (j = 15)) (fun j => decide (j = 0) || decide (j = 1) || decide (j = 2) || decide (j = 3) || decide (j = 4) || decide (j = 5) || decide (j = 6) || decide (j = 7) || decide (j = 8) || decide (j = 9) || decide (j = 10) || decide (j = 11) || decide (j = 12) || decide (j = 13) || decide (j = 14) || decide (j = 15)) b) (lstOf 19 (fun j => decide (j = 0) || decide (j = 1) || decide (j = 2) || decide (j = 3) || decide (j = 4) || decide (j = 5) || decide (j = 6) || decide (j = 7) || decide (j = 8) || decide (j = 9) || decide (j = 10) || decide (j = 11) || decide (j = 12) || decide (j = 15)) (fun j => decide (j = 0) || decide (j = 1) || decide (j = 2) || decide (j = 3) || decide (j = 4) || decide (j = 5) || decide (j = 6) || decide (j = 7) || decide (j = 8) || decide (j = 9) || decide (j = 10) || decide (j = 11) || decide (j = 12) || decide (j = 13) || decide (j = 14) || decide (j = 15)) b) ⟨(s0 :: .pointer (some ⟨b1, 0, none⟩) :: .pointer (some ⟨(b1 + 1), 0, none⟩) :: .pointer (some ⟨(b1 + 1 + 1), 0, none⟩) :: s4 :: s5 :: s6 :: s7 :: s8 :: s9 :: s10 :: s11 :: s12 :: v 15 :: t14 :: t15 :: s16 :: s17 :: s18 :: s19 :: s20 :: s21 :: s22 :: s23 :: s24 :: s25 :: s26 :: s27 :: s28 :: s29 :: s30 :: s31 :: s32 :: s33 :: s34 :: s35 :: s36 :: s37 :: s38 :: s39 :: s40 :: s41 :: s42 :: s43 :: s44 :: s45 :: s46 :: s47 :: s48 :: s49 :: s50 :: v 11 :: v 0 :: v 1 :: v 2 :: v 3 :: v 4 :: v 5 :: v 6 :: v 7 :: v 8 :: v 9 :: v 10 :: v 12 :: v 13 :: v 14 :: s66 :: s67 :: s68 :: s69 :: s70 :: s71 :: s72 :: s73 :: s74 :: s75 :: s76 :: s77 :: s78 :: s79 :: s80 :: s81 :: s82 :: s83 :: s84 :: s85 :: s86 :: s87 :: s88 :: s89 :: s90 :: s91 :: s92 :: s93 :: s94 :: s95 :: s96 :: s97 :: s98 :: s99 :: s100 :: s101 :: s102 :: s103 :: s104 :: s105 :: s106 :: s107 :: s108 :: s109 :: s110 :: s111 :: s112 :: s113 :: s114 :: s115 :: []).toArray, []⟩ W from ?_)
        rw [hl.trans (by kernel_rfl : _ = 4), hs.trans (by kernel_rfl : _ = #[true, true, true, true, true, true, true, true, true, true, true, true, true, true, false, true, false, false, false])]
        refine wpAny_of_L (S := fun _ => True) (X := 0) _ _ _ _ ?_
        clear hl hs hA hC
        obtain ⟨a3, c3, e13, h13⟩ := hx13
        refine wpAnyL_takeP (i := 14) (oi := { dst := some 65, op := Go.Op.extract (Go.Operand.tmp 51) 2, type := 31, pos := "law.go:24", after := #[{ on := 11, ground := Go.Ground.data }, { on := 17, ground := Go.Ground.gcOnly Go.Departure.lateStores }], guard := none }) (v := .int .i64 0) rfl (by kernel_rfl) (by kernel_rfl) (by kernel_rfl) (by kernel_rfl) (fun _ _ _ h => hQp _ _ _ _ _ h) (Or.inl ⟨by rfl, ?_⟩) ?_
        · intro W9 _
          go_simp
        try simp only [Act.put, List.setIfInBounds_toArray, List.set_cons_zero, List.set_cons_succ]
        refine wpAnyL_one (i := 16) (o := { dst := none, op := Go.Op.store 26 (Go.Operand.tmp 13) (Go.Operand.tmp 63), type := 0, pos := "law.go:24", after := #[{ on := 15, ground := Go.Ground.data }, { on := 12, ground := Go.Ground.data }, { on := 10, ground := Go.Ground.chain }, { on := 0, ground := Go.Ground.phase }, { on := 1, ground := Go.Ground.phase }, { on := 2, ground := Go.Ground.phase }, { on := 3, ground := Go.Ground.phase }, { on := 4, ground := Go.Ground.phase }, { on := 5, ground := Go.Ground.phase }, { on := 6, ground := Go.Ground.phase }, { on := 7, ground := Go.Ground.phase }, { on := 8, ground := Go.Ground.phase }, { on := 9, ground := Go.Ground.phase }, { on := 10, ground := Go.Ground.phase }, { on := 11, ground := Go.Ground.phase }, { on := 12, ground := Go.Ground.phase }, { on := 13, ground := Go.Ground.textOnly Go.Departure.lateStores }, { on := 14, ground := Go.Ground.textOnly Go.Departure.lateStores }, { on := 15, ground := Go.Ground.phase }], guard := none }) (by kernel_rfl) rfl (fun K hK => ?_)
        have ck0 : W.cell? ⟨BN, 0, none⟩ = some (.int .u64 0) := hr.cell 0
        have fk0 := hr.frozen 0
        have ck1 : W.cell? ⟨BN, 1, none⟩ = some (.slice none 0 0) := hr.cell 1
        have fk1 := hr.frozen 1
        have ck2 : W.cell? ⟨BN, 2, none⟩ = some (.slice none 0 0) := hr.cell 2
        have fk2 := hr.frozen 2
        have ck3 : W.cell? ⟨BN, 3, none⟩ = some (.slice none 0 0) := hr.cell 3
        have fk3 := hr.frozen 3
        have hlt := hr.lt
        refine step_skip_g (by rfl) (w' := ((((W.setCell ⟨BN, 0, none⟩ (.int .u64 (k8.2.1 : Nat))).setCell ⟨BN, 1, none⟩ (.slice (sy.a 0) (sy.n 0) (sy.c 0))).setCell ⟨BN, 2, none⟩ (.slice (sy.a 1) (sy.n 1) (sy.c 1))).setCell ⟨BN, 3, none⟩ (.slice (sy.a 2) (sy.n 2) (sy.c 2)))) (by go_simp) ?_
        refine hK.out _ _ (fun _ => trivial) ?_
        clear hK K
        try simp only [Act.put, List.setIfInBounds_toArray, List.set_cons_zero, List.set_cons_succ]
        refine wpAnyL_one (i := 17) (o := { dst := some 14, op := Go.Op.assign (Go.Operand.tmp 64), type := 23, pos := "law.go:24", after := #[{ on := 13, ground := Go.Ground.data }, { on := 16, ground := Go.Ground.chain }, { on := 0, ground := Go.Ground.phase }, { on := 1, ground := Go.Ground.phase }, { on := 2, ground := Go.Ground.phase }, { on := 3, ground := Go.Ground.phase }, { on := 4, ground := Go.Ground.phase }, { on := 5, ground := Go.Ground.phase }, { on := 6, ground := Go.Ground.phase }, { on := 7, ground := Go.Ground.phase }, { on := 8, ground := Go.Ground.phase }, { on := 9, ground := Go.Ground.phase }, { on := 10, ground := Go.Ground.phase }, { on := 11, ground := Go.Ground.phase }, { on := 12, ground := Go.Ground.phase }, { on := 13, ground := Go.Ground.phase }, { on := 14, ground := Go.Ground.textOnly Go.Departure.lateStores }, { on := 15, ground := Go.Ground.phase }, { on := 16, ground := Go.Ground.phase }], guard := none }) (by kernel_rfl) rfl (fun K hK => ?_)
        refine step_value_g (by rfl) (.slice a3 3 c3) (w' := ((((W.setCell ⟨BN, 0, none⟩ (.int .u64 (k8.2.1 : Nat))).setCell ⟨BN, 1, none⟩ (.slice (sy.a 0) (sy.n 0) (sy.c 0))).setCell ⟨BN, 2, none⟩ (.slice (sy.a 1) (sy.n 1) (sy.c 1))).setCell ⟨BN, 3, none⟩ (.slice (sy.a 2) (sy.n 2) (sy.c 2)))) (by go_simp) ?_
        refine hK.out _ _ (fun _ => trivial) ?_
        clear hK K
        try simp only [Act.put, List.setIfInBounds_toArray, List.set_cons_zero, List.set_cons_succ]
        refine wpAnyL_one (i := 18) (o := { dst := some 15, op := Go.Op.assign (Go.Operand.tmp 65), type := 31, pos := "law.go:24", after := #[{ on := 14, ground := Go.Ground.data }, { on := 17, ground := Go.Ground.chain }, { on := 0, ground := Go.Ground.phase }, { on := 1, ground := Go.Ground.phase }, { on := 2, ground := Go.Ground.phase }, { on := 3, ground := Go.Ground.phase }, { on := 4, ground := Go.Ground.phase }, { on := 5, ground := Go.Ground.phase }, { on := 6, ground := Go.Ground.phase }, { on := 7, ground := Go.Ground.phase }, { on := 8, ground := Go.Ground.phase }, { on := 9, ground := Go.Ground.phase }, { on := 10, ground := Go.Ground.phase }, { on := 11, ground := Go.Ground.phase }, { on := 12, ground := Go.Ground.phase }, { on := 13, ground := Go.Ground.phase }, { on := 14, ground := Go.Ground.phase }, { on := 15, ground := Go.Ground.phase }, { on := 16, ground := Go.Ground.phase }, { on := 17, ground := Go.Ground.phase }], guard := none }) (by kernel_rfl) rfl (fun K hK => ?_)
        refine step_value_g (by rfl) (.int .i64 0) (w' := ((((W.setCell ⟨BN, 0, none⟩ (.int .u64 (k8.2.1 : Nat))).setCell ⟨BN, 1, none⟩ (.slice (sy.a 0) (sy.n 0) (sy.c 0))).setCell ⟨BN, 2, none⟩ (.slice (sy.a 1) (sy.n 1) (sy.c 1))).setCell ⟨BN, 3, none⟩ (.slice (sy.a 2) (sy.n 2) (sy.c 2)))) (by go_simp) ?_
        refine hK.out _ _ (fun _ => trivial) ?_
        clear hK K
        try simp only [Act.put, List.setIfInBounds_toArray, List.set_cons_zero, List.set_cons_succ]
        have hpp : OwnE 0 [(1, 0), (2, 0), (3, 0)] (.slice a3 3 c3) (((((W.setCell ⟨BN, 0, none⟩ (.int .u64 (k8.2.1 : Nat))).setCell ⟨BN, 1, none⟩ (.slice (sy.a 0) (sy.n 0) (sy.c 0))).setCell ⟨BN, 2, none⟩ (.slice (sy.a 1) (sy.n 1) (sy.c 1))).setCell ⟨BN, 3, none⟩ (.slice (sy.a 2) (sy.n 2) (sy.c 2)))) := h13.setT hr (.int .u64 (k8.2.1 : Nat)) (.slice (sy.a 0) (sy.n 0) (sy.c 0)) (.slice (sy.a 1) (sy.n 1) (sy.c 1)) (.slice (sy.a 2) (sy.n 2) (sy.c 2))
        refine wpAnyL_end (by kernel_rfl) ?_
        exact e15 ▸ HK.out BN _ _ _ _ _ _ _ _ _ _ _ _ _ _ _ _ _ _ hpp (hB.set4 hr hbn (.int .u64 (k8.2.1 : Nat)) (.slice (sy.a 0) (sy.n 0) (sy.c 0)) (.slice (sy.a 1) (sy.n 1) (sy.c 1)) (.slice (sy.a 2) (sy.n 2) (sy.c 2)) h00)
    · have hb13 : b 13 = false := by simpa using hb13
      by_cases hb14 : b 14 = true
      · have hx14 := hA 14 (by show (14 : Nat) < 19; decide) rfl hb14
        obtain ⟨hl, hs⟩ := lst_agree (n := 19) (C := (fun j => decide (j = 0) || decide (j = 1) || decide (j = 2) || decide (j = 3) || decide (j = 4) || decide (j = 5) || decide (j = 6) || decide (j = 7) || decide (j = 8) || decide (j = 9) || decide (j = 10) || decide (j = 11) || decide (j = 12) || decide (j = 15))) (A := (fun j => decide (j = 0) || decide (j = 1) || decide (j = 2) || decide (j = 3) || decide (j = 4) || decide (j = 5) || decide (j = 6) || decide (j = 7) || decide (j = 8) || decide (j = 9) || decide (j = 10) || decide (j = 11) || decide (j = 12) || decide (j = 13) || decide (j = 14) || decide (j = 15))) (b := b) (b' := (fun j => decide (j = 14))) (fun j hj hc ha => by
          have h9 : j = 13 ∨ j = 14 := by
            have h8 : j = 0 ∨ j = 1 ∨ j = 2 ∨ j = 3 ∨ j = 4 ∨ j = 5 ∨ j = 6 ∨ j = 7 ∨ j = 8 ∨ j = 9 ∨ j = 10 ∨ j = 11 ∨ j = 12 ∨ j = 13 ∨ j = 14 ∨ j = 15 := by simpa [or_assoc] using ha
            have h7 : ¬ j = 0 ∧ ¬ j = 1 ∧ ¬ j = 2 ∧ ¬ j = 3 ∧ ¬ j = 4 ∧ ¬ j = 5 ∧ ¬ j = 6 ∧ ¬ j = 7 ∧ ¬ j = 8 ∧ ¬ j = 9 ∧ ¬ j = 10 ∧ ¬ j = 11 ∧ ¬ j = 12 ∧ ¬ j = 15 := by simpa [and_assoc] using hc
            omega
          rcases h9 with rfl | rfl <;> simp [*])
        refine (show wpAny _ _ _ _ (leftOf 19 (fun j => decide (j = 0) || decide (j = 1) || decide (j = 2) || decide (j = 3) || decide (j = 4) || decide (j = 5) || decide (j = 6) || decide (j = 7) || decide (j = 8) || decide (j = 9) || decide (j = 10) || decide (j = 11) || decide (j = 12) || decide (j = 15)) (fun j => decide (j = 0) || decide (j = 1) || decide (j = 2) || decide (j = 3) || decide (j = 4) || decide (j = 5) || decide (j = 6) || decide (j = 7) || decide (j = 8) || decide (j = 9) || decide (j = 10) || decide (j = 11) || decide (j = 12) || decide (j = 13) || decide (j = 14) || decide (j = 15)) b) (lstOf 19 (fun j => decide (j = 0) || decide (j = 1) || decide (j = 2) || decide (j = 3) || decide (j = 4) || decide (j = 5) || decide (j = 6) || decide (j = 7) || decide (j = 8) || decide (j = 9) || decide (j = 10) || decide (j = 11) || decide (j = 12) || decide (j = 15)) (fun j => decide (j = 0) || decide (j = 1) || decide (j = 2) || decide (j = 3) || decide (j = 4) || decide (j = 5) || decide (j = 6) || decide (j = 7) || decide (j = 8) || decide (j = 9) || decide (j = 10) || decide (j = 11) || decide (j = 12) || decide (j = 13) || decide (j = 14) || decide (j = 15)) b) ⟨(s0 :: .pointer (some ⟨b1, 0, none⟩) :: .pointer (some ⟨(b1 + 1), 0, none⟩) :: .pointer (some ⟨(b1 + 1 + 1), 0, none⟩) :: s4 :: s5 :: s6 :: s7 :: s8 :: s9 :: s10 :: s11 :: s12 :: v 15 :: t14 :: t15 :: s16 :: s17 :: s18 :: s19 :: s20 :: s21 :: s22 :: s23 :: s24 :: s25 :: s26 :: s27 :: s28 :: s29 :: s30 :: s31 :: s32 :: s33 :: s34 :: s35 :: s36 :: s37 :: s38 :: s39 :: s40 :: s41 :: s42 :: s43 :: s44 :: s45 :: s46 :: s47 :: s48 :: s49 :: s50 :: v 11 :: v 0 :: v 1 :: v 2 :: v 3 :: v 4 :: v 5 :: v 6 :: v 7 :: v 8 :: v 9 :: v 10 :: v 12 :: v 13 :: v 14 :: s66 :: s67 :: s68 :: s69 :: s70 :: s71 :: s72 :: s73 :: s74 :: s75 :: s76 :: s77 :: s78 :: s79 :: s80 :: s81 :: s82 :: s83 :: s84 :: s85 :: s86 :: s87 :: s88 :: s89 :: s90 :: s91 :: s92 :: s93 :: s94 :: s95 :: s96 :: s97 :: s98 :: s99 :: s100 :: s101 :: s102 :: s103 :: s104 :: s105 :: s106 :: s107 :: s108 :: s109 :: s110 :: s111 :: s112 :: s113 :: s114 :: s115 :: []).toArray, []⟩ W from ?_)
        rw [hl.trans (by kernel_rfl : _ = 4), hs.trans (by kernel_rfl : _ = #[true, true, true, true, true, true, true, true, true, true, true, true, true, false, true, true, false, false, false])]
        refine wpAny_of_L (S := fun _ => True) (X := 0) _ _ _ _ ?_
        clear hl hs hA hC
        have e14 : v 14 = .int .i64 0 := hx14
        refine wpAnyL_takeP (i := 13) (oi := { dst := some 64, op := Go.Op.extract (Go.Operand.tmp 51) 1, type := 23, pos := "law.go:24", after := #[{ on := 11, ground := Go.Ground.data }, { on := 16, ground := Go.Ground.gcOnly Go.Departure.lateStores }], guard := none }) (v := .slice a 3 c) rfl (by kernel_rfl) (by kernel_rfl) (by kernel_rfl) (by kernel_rfl) (fun _ _ _ h => hQp _ _ _ _ _ h) (Or.inl ⟨by rfl, ?_⟩) ?_
        · intro W9 _
          go_simp
        try simp only [Act.put, List.setIfInBounds_toArray, List.set_cons_zero, List.set_cons_succ]
        refine wpAnyL_one (i := 16) (o := { dst := none, op := Go.Op.store 26 (Go.Operand.tmp 13) (Go.Operand.tmp 63), type := 0, pos := "law.go:24", after := #[{ on := 15, ground := Go.Ground.data }, { on := 12, ground := Go.Ground.data }, { on := 10, ground := Go.Ground.chain }, { on := 0, ground := Go.Ground.phase }, { on := 1, ground := Go.Ground.phase }, { on := 2, ground := Go.Ground.phase }, { on := 3, ground := Go.Ground.phase }, { on := 4, ground := Go.Ground.phase }, { on := 5, ground := Go.Ground.phase }, { on := 6, ground := Go.Ground.phase }, { on := 7, ground := Go.Ground.phase }, { on := 8, ground := Go.Ground.phase }, { on := 9, ground := Go.Ground.phase }, { on := 10, ground := Go.Ground.phase }, { on := 11, ground := Go.Ground.phase }, { on := 12, ground := Go.Ground.phase }, { on := 13, ground := Go.Ground.textOnly Go.Departure.lateStores }, { on := 14, ground := Go.Ground.textOnly Go.Departure.lateStores }, { on := 15, ground := Go.Ground.phase }], guard := none }) (by kernel_rfl) rfl (fun K hK => ?_)
        have ck0 : W.cell? ⟨BN, 0, none⟩ = some (.int .u64 0) := hr.cell 0
        have fk0 := hr.frozen 0
        have ck1 : W.cell? ⟨BN, 1, none⟩ = some (.slice none 0 0) := hr.cell 1
        have fk1 := hr.frozen 1
        have ck2 : W.cell? ⟨BN, 2, none⟩ = some (.slice none 0 0) := hr.cell 2
        have fk2 := hr.frozen 2
        have ck3 : W.cell? ⟨BN, 3, none⟩ = some (.slice none 0 0) := hr.cell 3
        have fk3 := hr.frozen 3
        have hlt := hr.lt
        refine step_skip_g (by rfl) (w' := ((((W.setCell ⟨BN, 0, none⟩ (.int .u64 (k8.2.1 : Nat))).setCell ⟨BN, 1, none⟩ (.slice (sy.a 0) (sy.n 0) (sy.c 0))).setCell ⟨BN, 2, none⟩ (.slice (sy.a 1) (sy.n 1) (sy.c 1))).setCell ⟨BN, 3, none⟩ (.slice (sy.a 2) (sy.n 2) (sy.c 2)))) (by go_simp) ?_
        refine hK.out _ _ (fun _ => trivial) ?_
        clear hK K
        try simp only [Act.put, List.setIfInBounds_toArray, List.set_cons_zero, List.set_cons_succ]
        refine wpAnyL_one (i := 17) (o := { dst := some 14, op := Go.Op.assign (Go.Operand.tmp 64), type := 23, pos := "law.go:24", after := #[{ on := 13, ground := Go.Ground.data }, { on := 16, ground := Go.Ground.chain }, { on := 0, ground := Go.Ground.phase }, { on := 1, ground := Go.Ground.phase }, { on := 2, ground := Go.Ground.phase }, { on := 3, ground := Go.Ground.phase }, { on := 4, ground := Go.Ground.phase }, { on := 5, ground := Go.Ground.phase }, { on := 6, ground := Go.Ground.phase }, { on := 7, ground := Go.Ground.phase }, { on := 8, ground := Go.Ground.phase }, { on := 9, ground := Go.Ground.phase }, { on := 10, ground := Go.Ground.phase }, { on := 11, ground := Go.Ground.phase }, { on := 12, ground := Go.Ground.phase }, { on := 13, ground := Go.Ground.phase }, { on := 14, ground := Go.Ground.textOnly Go.Departure.lateStores }, { on := 15, ground := Go.Ground.phase }, { on := 16, ground := Go.Ground.phase }], guard := none }) (by kernel_rfl) rfl (fun K hK => ?_)
        refine step_value_g (by rfl) (.slice a 3 c) (w' := ((((W.setCell ⟨BN, 0, none⟩ (.int .u64 (k8.2.1 : Nat))).setCell ⟨BN, 1, none⟩ (.slice (sy.a 0) (sy.n 0) (sy.c 0))).setCell ⟨BN, 2, none⟩ (.slice (sy.a 1) (sy.n 1) (sy.c 1))).setCell ⟨BN, 3, none⟩ (.slice (sy.a 2) (sy.n 2) (sy.c 2)))) (by go_simp) ?_
        refine hK.out _ _ (fun _ => trivial) ?_
        clear hK K
        try simp only [Act.put, List.setIfInBounds_toArray, List.set_cons_zero, List.set_cons_succ]
        refine wpAnyL_one (i := 18) (o := { dst := some 15, op := Go.Op.assign (Go.Operand.tmp 65), type := 31, pos := "law.go:24", after := #[{ on := 14, ground := Go.Ground.data }, { on := 17, ground := Go.Ground.chain }, { on := 0, ground := Go.Ground.phase }, { on := 1, ground := Go.Ground.phase }, { on := 2, ground := Go.Ground.phase }, { on := 3, ground := Go.Ground.phase }, { on := 4, ground := Go.Ground.phase }, { on := 5, ground := Go.Ground.phase }, { on := 6, ground := Go.Ground.phase }, { on := 7, ground := Go.Ground.phase }, { on := 8, ground := Go.Ground.phase }, { on := 9, ground := Go.Ground.phase }, { on := 10, ground := Go.Ground.phase }, { on := 11, ground := Go.Ground.phase }, { on := 12, ground := Go.Ground.phase }, { on := 13, ground := Go.Ground.phase }, { on := 14, ground := Go.Ground.phase }, { on := 15, ground := Go.Ground.phase }, { on := 16, ground := Go.Ground.phase }, { on := 17, ground := Go.Ground.phase }], guard := none }) (by kernel_rfl) rfl (fun K hK => ?_)
        refine step_value_g (by rfl) (.int .i64 0) (w' := ((((W.setCell ⟨BN, 0, none⟩ (.int .u64 (k8.2.1 : Nat))).setCell ⟨BN, 1, none⟩ (.slice (sy.a 0) (sy.n 0) (sy.c 0))).setCell ⟨BN, 2, none⟩ (.slice (sy.a 1) (sy.n 1) (sy.c 1))).setCell ⟨BN, 3, none⟩ (.slice (sy.a 2) (sy.n 2) (sy.c 2)))) (by go_simp) ?_
        refine hK.out _ _ (fun _ => trivial) ?_
        clear hK K
        try simp only [Act.put, List.setIfInBounds_toArray, List.set_cons_zero, List.set_cons_succ]
        have hpp : OwnE 0 [(1, 0), (2, 0), (3, 0)] (.slice a 3 c) (((((W.setCell ⟨BN, 0, none⟩ (.int .u64 (k8.2.1 : Nat))).setCell ⟨BN, 1, none⟩ (.slice (sy.a 0) (sy.n 0) (sy.c 0))).setCell ⟨BN, 2, none⟩ (.slice (sy.a 1) (sy.n 1) (sy.c 1))).setCell ⟨BN, 3, none⟩ (.slice (sy.a 2) (sy.n 2) (sy.c 2)))) := h11.setT hr (.int .u64 (k8.2.1 : Nat)) (.slice (sy.a 0) (sy.n 0) (sy.c 0)) (.slice (sy.a 1) (sy.n 1) (sy.c 1)) (.slice (sy.a 2) (sy.n 2) (sy.c 2))
        refine wpAnyL_end (by kernel_rfl) ?_
        exact e15 ▸ HK.out BN _ _ _ _ _ _ _ _ _ _ _ _ _ _ _ _ _ _ hpp (hB.set4 hr hbn (.int .u64 (k8.2.1 : Nat)) (.slice (sy.a 0) (sy.n 0) (sy.c 0)) (.slice (sy.a 1) (sy.n 1) (sy.c 1)) (.slice (sy.a 2) (sy.n 2) (sy.c 2)) h00)
      · have hb14 : b 14 = false := by simpa using hb14
        obtain ⟨hl, hs⟩ := lst_agree (n := 19) (C := (fun j => decide (j = 0) || decide (j = 1) || decide (j = 2) || decide (j = 3) || decide (j = 4) || decide (j = 5) || decide (j = 6) || decide (j = 7) || decide (j = 8) || decide (j = 9) || decide (j = 10) || decide (j = 11) || decide (j = 12) || decide (j = 15))) (A := (fun j => decide (j = 0) || decide (j = 1) || decide (j = 2) || decide (j = 3) || decide (j = 4) || decide (j = 5) || decide (j = 6) || decide (j = 7) || decide (j = 8) || decide (j = 9) || decide (j = 10) || decide (j = 11) || decide (j = 12) || decide (j = 13) || decide (j = 14) || decide (j = 15))) (b := b) (b' := (fun j => false)) (fun j hj hc ha => by
          have h9 : j = 13 ∨ j = 14 := by
            have h8 : j = 0 ∨ j = 1 ∨ j = 2 ∨ j = 3 ∨ j = 4 ∨ j = 5 ∨ j = 6 ∨ j = 7 ∨ j = 8 ∨ j = 9 ∨ j = 10 ∨ j = 11 ∨ j = 12 ∨ j = 13 ∨ j = 14 ∨ j = 15 := by simpa [or_assoc] using ha
            have h7 : ¬ j = 0 ∧ ¬ j = 1 ∧ ¬ j = 2 ∧ ¬ j = 3 ∧ ¬ j = 4 ∧ ¬ j = 5 ∧ ¬ j = 6 ∧ ¬ j = 7 ∧ ¬ j = 8 ∧ ¬ j = 9 ∧ ¬ j = 10 ∧ ¬ j = 11 ∧ ¬ j = 12 ∧ ¬ j = 15 := by simpa [and_assoc] using hc
            omega
          rcases h9 with rfl | rfl <;> simp [*])
        refine (show wpAny _ _ _ _ (leftOf 19 (fun j => decide (j = 0) || decide (j = 1) || decide (j = 2) || decide (j = 3) || decide (j = 4) || decide (j = 5) || decide (j = 6) || decide (j = 7) || decide (j = 8) || decide (j = 9) || decide (j = 10) || decide (j = 11) || decide (j = 12) || decide (j = 15)) (fun j => decide (j = 0) || decide (j = 1) || decide (j = 2) || decide (j = 3) || decide (j = 4) || decide (j = 5) || decide (j = 6) || decide (j = 7) || decide (j = 8) || decide (j = 9) || decide (j = 10) || decide (j = 11) || decide (j = 12) || decide (j = 13) || decide (j = 14) || decide (j = 15)) b) (lstOf 19 (fun j => decide (j = 0) || decide (j = 1) || decide (j = 2) || decide (j = 3) || decide (j = 4) || decide (j = 5) || decide (j = 6) || decide (j = 7) || decide (j = 8) || decide (j = 9) || decide (j = 10) || decide (j = 11) || decide (j = 12) || decide (j = 15)) (fun j => decide (j = 0) || decide (j = 1) || decide (j = 2) || decide (j = 3) || decide (j = 4) || decide (j = 5) || decide (j = 6) || decide (j = 7) || decide (j = 8) || decide (j = 9) || decide (j = 10) || decide (j = 11) || decide (j = 12) || decide (j = 13) || decide (j = 14) || decide (j = 15)) b) ⟨(s0 :: .pointer (some ⟨b1, 0, none⟩) :: .pointer (some ⟨(b1 + 1), 0, none⟩) :: .pointer (some ⟨(b1 + 1 + 1), 0, none⟩) :: s4 :: s5 :: s6 :: s7 :: s8 :: s9 :: s10 :: s11 :: s12 :: v 15 :: t14 :: t15 :: s16 :: s17 :: s18 :: s19 :: s20 :: s21 :: s22 :: s23 :: s24 :: s25 :: s26 :: s27 :: s28 :: s29 :: s30 :: s31 :: s32 :: s33 :: s34 :: s35 :: s36 :: s37 :: s38 :: s39 :: s40 :: s41 :: s42 :: s43 :: s44 :: s45 :: s46 :: s47 :: s48 :: s49 :: s50 :: v 11 :: v 0 :: v 1 :: v 2 :: v 3 :: v 4 :: v 5 :: v 6 :: v 7 :: v 8 :: v 9 :: v 10 :: v 12 :: v 13 :: v 14 :: s66 :: s67 :: s68 :: s69 :: s70 :: s71 :: s72 :: s73 :: s74 :: s75 :: s76 :: s77 :: s78 :: s79 :: s80 :: s81 :: s82 :: s83 :: s84 :: s85 :: s86 :: s87 :: s88 :: s89 :: s90 :: s91 :: s92 :: s93 :: s94 :: s95 :: s96 :: s97 :: s98 :: s99 :: s100 :: s101 :: s102 :: s103 :: s104 :: s105 :: s106 :: s107 :: s108 :: s109 :: s110 :: s111 :: s112 :: s113 :: s114 :: s115 :: []).toArray, []⟩ W from ?_)
        rw [hl.trans (by kernel_rfl : _ = 5), hs.trans (by kernel_rfl : _ = #[true, true, true, true, true, true, true, true, true, true, true, true, true, false, false, true, false, false, false])]
        refine wpAny_of_L (S := fun _ => True) (X := 0) _ _ _ _ ?_
        clear hl hs hA hC
        refine wpAnyL_takeP (i := 13) (oi := { dst := some 64, op := Go.Op.extract (Go.Operand.tmp 51) 1, type := 23, pos := "law.go:24", after := #[{ on := 11, ground := Go.Ground.data }, { on := 16, ground := Go.Ground.gcOnly Go.Departure.lateStores }], guard := none }) (v := .slice a 3 c) rfl (by kernel_rfl) (by kernel_rfl) (by kernel_rfl) (by kernel_rfl) (fun _ _ _ h => hQp _ _ _ _ _ h) (Or.inl ⟨by rfl, ?_⟩) ?_
        · intro W9 _
          go_simp
        try simp only [Act.put, List.setIfInBounds_toArray, List.set_cons_zero, List.set_cons_succ]
        refine wpAnyL_takeP (i := 14) (oi := { dst := some 65, op := Go.Op.extract (Go.Operand.tmp 51) 2, type := 31, pos := "law.go:24", after := #[{ on := 11, ground := Go.Ground.data }, { on := 17, ground := Go.Ground.gcOnly Go.Departure.lateStores }], guard := none }) (v := .int .i64 0) rfl (by kernel_rfl) (by kernel_rfl) (by kernel_rfl) (by kernel_rfl) (fun _ _ _ h => hQp _ _ _ _ _ h) (Or.inl ⟨by rfl, ?_⟩) ?_
        · intro W9 _
          go_simp
        try simp only [Act.put, List.setIfInBounds_toArray, List.set_cons_zero, List.set_cons_succ]
        refine wpAnyL_one (i := 16) (o := { dst := none, op := Go.Op.store 26 (Go.Operand.tmp 13) (Go.Operand.tmp 63), type := 0, pos := "law.go:24", after := #[{ on := 15, ground := Go.Ground.data }, { on := 12, ground := Go.Ground.data }, { on := 10, ground := Go.Ground.chain }, { on := 0, ground := Go.Ground.phase }, { on := 1, ground := Go.Ground.phase }, { on := 2, ground := Go.Ground.phase }, { on := 3, ground := Go.Ground.phase }, { on := 4, ground := Go.Ground.phase }, { on := 5, ground := Go.Ground.phase }, { on := 6, ground := Go.Ground.phase }, { on := 7, ground := Go.Ground.phase }, { on := 8, ground := Go.Ground.phase }, { on := 9, ground := Go.Ground.phase }, { on := 10, ground := Go.Ground.phase }, { on := 11, ground := Go.Ground.phase }, { on := 12, ground := Go.Ground.phase }, { on := 13, ground := Go.Ground.textOnly Go.Departure.lateStores }, { on := 14, ground := Go.Ground.textOnly Go.Departure.lateStores }, { on := 15, ground := Go.Ground.phase }], guard := none }) (by kernel_rfl) rfl (fun K hK => ?_)
        have ck0 : W.cell? ⟨BN, 0, none⟩ = some (.int .u64 0) := hr.cell 0
        have fk0 := hr.frozen 0
        have ck1 : W.cell? ⟨BN, 1, none⟩ = some (.slice none 0 0) := hr.cell 1
        have fk1 := hr.frozen 1
        have ck2 : W.cell? ⟨BN, 2, none⟩ = some (.slice none 0 0) := hr.cell 2
        have fk2 := hr.frozen 2
        have ck3 : W.cell? ⟨BN, 3, none⟩ = some (.slice none 0 0) := hr.cell 3
        have fk3 := hr.frozen 3
        have hlt := hr.lt
        refine step_skip_g (by rfl) (w' := ((((W.setCell ⟨BN, 0, none⟩ (.int .u64 (k8.2.1 : Nat))).setCell ⟨BN, 1, none⟩ (.slice (sy.a 0) (sy.n 0) (sy.c 0))).setCell ⟨BN, 2, none⟩ (.slice (sy.a 1) (sy.n 1) (sy.c 1))).setCell ⟨BN, 3, none⟩ (.slice (sy.a 2) (sy.n 2) (sy.c 2)))) (by go_simp) ?_
        refine hK.out _ _ (fun _ => trivial) ?_
        clear hK K
        try simp only [Act.put, List.setIfInBounds_toArray, List.set_cons_zero, List.set_cons_succ]
        refine wpAnyL_one (i := 17) (o := { dst := some 14, op := Go.Op.assign (Go.Operand.tmp 64), type := 23, pos := "law.go:24", after := #[{ on := 13, ground := Go.Ground.data }, { on := 16, ground := Go.Ground.chain }, { on := 0, ground := Go.Ground.phase }, { on := 1, ground := Go.Ground.phase }, { on := 2, ground := Go.Ground.phase }, { on := 3, ground := Go.Ground.phase }, { on := 4, ground := Go.Ground.phase }, { on := 5, ground := Go.Ground.phase }, { on := 6, ground := Go.Ground.phase }, { on := 7, ground := Go.Ground.phase }, { on := 8, ground := Go.Ground.phase }, { on := 9, ground := Go.Ground.phase }, { on := 10, ground := Go.Ground.phase }, { on := 11, ground := Go.Ground.phase }, { on := 12, ground := Go.Ground.phase }, { on := 13, ground := Go.Ground.phase }, { on := 14, ground := Go.Ground.textOnly Go.Departure.lateStores }, { on := 15, ground := Go.Ground.phase }, { on := 16, ground := Go.Ground.phase }], guard := none }) (by kernel_rfl) rfl (fun K hK => ?_)
        refine step_value_g (by rfl) (.slice a 3 c) (w' := ((((W.setCell ⟨BN, 0, none⟩ (.int .u64 (k8.2.1 : Nat))).setCell ⟨BN, 1, none⟩ (.slice (sy.a 0) (sy.n 0) (sy.c 0))).setCell ⟨BN, 2, none⟩ (.slice (sy.a 1) (sy.n 1) (sy.c 1))).setCell ⟨BN, 3, none⟩ (.slice (sy.a 2) (sy.n 2) (sy.c 2)))) (by go_simp) ?_
        refine hK.out _ _ (fun _ => trivial) ?_
        clear hK K
        try simp only [Act.put, List.setIfInBounds_toArray, List.set_cons_zero, List.set_cons_succ]
        refine wpAnyL_one (i := 18) (o := { dst := some 15, op := Go.Op.assign (Go.Operand.tmp 65), type := 31, pos := "law.go:24", after := #[{ on := 14, ground := Go.Ground.data }, { on := 17, ground := Go.Ground.chain }, { on := 0, ground := Go.Ground.phase }, { on := 1, ground := Go.Ground.phase }, { on := 2, ground := Go.Ground.phase }, { on := 3, ground := Go.Ground.phase }, { on := 4, ground := Go.Ground.phase }, { on := 5, ground := Go.Ground.phase }, { on := 6, ground := Go.Ground.phase }, { on := 7, ground := Go.Ground.phase }, { on := 8, ground := Go.Ground.phase }, { on := 9, ground := Go.Ground.phase }, { on := 10, ground := Go.Ground.phase }, { on := 11, ground := Go.Ground.phase }, { on := 12, ground := Go.Ground.phase }, { on := 13, ground := Go.Ground.phase }, { on := 14, ground := Go.Ground.phase }, { on := 15, ground := Go.Ground.phase }, { on := 16, ground := Go.Ground.phase }, { on := 17, ground := Go.Ground.phase }], guard := none }) (by kernel_rfl) rfl (fun K hK => ?_)
        refine step_value_g (by rfl) (.int .i64 0) (w' := ((((W.setCell ⟨BN, 0, none⟩ (.int .u64 (k8.2.1 : Nat))).setCell ⟨BN, 1, none⟩ (.slice (sy.a 0) (sy.n 0) (sy.c 0))).setCell ⟨BN, 2, none⟩ (.slice (sy.a 1) (sy.n 1) (sy.c 1))).setCell ⟨BN, 3, none⟩ (.slice (sy.a 2) (sy.n 2) (sy.c 2)))) (by go_simp) ?_
        refine hK.out _ _ (fun _ => trivial) ?_
        clear hK K
        try simp only [Act.put, List.setIfInBounds_toArray, List.set_cons_zero, List.set_cons_succ]
        have hpp : OwnE 0 [(1, 0), (2, 0), (3, 0)] (.slice a 3 c) (((((W.setCell ⟨BN, 0, none⟩ (.int .u64 (k8.2.1 : Nat))).setCell ⟨BN, 1, none⟩ (.slice (sy.a 0) (sy.n 0) (sy.c 0))).setCell ⟨BN, 2, none⟩ (.slice (sy.a 1) (sy.n 1) (sy.c 1))).setCell ⟨BN, 3, none⟩ (.slice (sy.a 2) (sy.n 2) (sy.c 2)))) := h11.setT hr (.int .u64 (k8.2.1 : Nat)) (.slice (sy.a 0) (sy.n 0) (sy.c 0)) (.slice (sy.a 1) (sy.n 1) (sy.c 1)) (.slice (sy.a 2) (sy.n 2) (sy.c 2))
        refine wpAnyL_end (by kernel_rfl) ?_
        exact e15 ▸ HK.out BN _ _ _ _ _ _ _ _ _ _ _ _ _ _ _ _ _ _ hpp (hB.set4 hr hbn (.int .u64 (k8.2.1 : Nat)) (.slice (sy.a 0) (sy.n 0) (sy.c 0)) (.slice (sy.a 1) (sy.n 1) (sy.c 1)) (.slice (sy.a 2) (sy.n 2) (sy.c 2)) h00)
end Go.Proofs
