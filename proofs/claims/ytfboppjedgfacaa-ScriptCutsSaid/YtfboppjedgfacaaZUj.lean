/- Script: read: what is deferred. -/
import Derived.Test.YtfboppjedgfacaaZUi
import Derived.Defers
import Derived.Recover
namespace Go.Proofs
open Go.RowKit Go.Shelf
attribute [local go_sem] Oper.semAt_some

theorem Try.neq_nilE (n : Int) (W : World) : (binOp BinOp.neq 20 (.iface 31 (.int .i64 n)) .nilIface).run Try.prog W = .ok (.bool true) W := by kernel_rfl
theorem Try.assert_yesE (v : Value) (W : World) : (Instr.typeAssert (.iface 31 v) 20 31 true).run Try.prog W = .ok (.tuple #[v, .bool true]) W := by kernel_rfl
theorem Try.nil_nilE (W : World) : (binOp BinOp.neq 20 .nilIface .nilIface).run Try.prog W = .ok (.bool false) W := by kernel_rfl
set_option maxHeartbeats 1000000 in
theorem Try.read_caught (E : Nat) (n z : Int) (older : List PanicEntry) (w : World) (hE : Rows8 w E 31 #[.int .i64 z]) :
    CallsD Try.prog 62 #[.pointer (some ⟨E, 0, none⟩)] (.panicking ({ v := .iface 31 (.int .i64 n), recovered := false } :: older)) w fun e u' w' =>
      e = .returned (.tuple #[]) ∧ u' = .panicking ({ v := .iface 31 (.int .i64 n), recovered := true } :: older) ∧ w' = w.setCell ⟨E, 0, none⟩ (.int .i64 n) := by
  have c2 : w.cell? ⟨E, 0, none⟩ = some (.int .i64 z) := hE.cell 0
  have f2 := hE.frozen 0
  refine callsD_of_wpS Try.func62 rfl fun c₀ cs hu => ?_
  apply wpS_seq
  apply wpS_region
  simp [wpOpsS, go_sem, recoverD, hu, Try.ntmps62, Exit.thenS]
  have hne := Try.neq_nilE n
  have hta := Try.assert_yesE (.int .i64 n)
  apply wpS_seq
  apply wpS_region
  simp [wpOpsS, go_sem, Exit.thenS, hne]
  refine wpS_cond (t := true) (by simp [Act.eval, Array.replicate]) ?_
  simp only [if_true]
  apply wpS_seq
  apply wpS_region
  simp [wpOpsS, go_sem, Exit.thenS, hta]
  apply wpS_seq
  apply wpS_seq
  apply wpS_region
  simp [wpOpsS, go_sem, Exit.thenS]
  refine wpS_cond (t := false) (by simp [Act.eval, Array.replicate]) ?_
  simp only [Bool.false_eq_true, if_false]
  refine wpS_of_wp (wp_skip ?_)
  simp only [Exit.thenS]
  apply wpS_region
  simp [wpOpsS, go_sem, c2, f2, bodyPostS, results, Try.results62]
theorem Try.read_idle (q : Addr) (w : World) :
    CallsD Try.prog 62 #[.pointer (some q)] .returning w fun e u' w' => e = .returned (.tuple #[]) ∧ u' = .returning ∧ w' = w := by
  have hne := Try.nil_nilE
  refine callsD_of_wpS Try.func62 rfl fun c₀ cs hu => ?_
  apply wpS_seq
  apply wpS_region
  simp [wpOpsS, go_sem, recoverD, hu, Try.ntmps62, Exit.thenS]
  apply wpS_seq
  apply wpS_region
  simp [wpOpsS, go_sem, Exit.thenS, hne]
  refine wpS_cond (t := false) (by simp [Act.eval, Array.replicate]) ?_
  simp only [Bool.false_eq_true, if_false]
  refine wpS_of_wp (wp_skip ?_)
  cases c₀
  simp_all [bodyPostS, results, Try.results62]
/-- A cell of the reader is stored into. -/
theorem RdAt.setO {H : Nat} {A : World} {Br : Nat} {c0 c1 c2 c3 c4 : Value} {bs : List Int} (r : RdAt H Br c0 c1 c2 c3 c4 bs A) (o : Nat) (ho : o < 5) (v : Value) :
    RdAt H Br (if o = 0 then v else c0) (if o = 1 then v else c1) (if o = 2 then v else c2) (if o = 3 then v else c3) (if o = 4 then v else c4) bs (A.setCell ⟨Br, o, none⟩ v) := by
  obtain ⟨a, n, cap, r1, r2, r3⟩ := r
  have h := r1.set o v
  have e : (#[c0, c1, c2, c3, c4, .slice a n cap] : Array Value).setIfInBounds o v = #[if o = 0 then v else c0, if o = 1 then v else c1, if o = 2 then v else c2, if o = 3 then v else c3, if o = 4 then v else c4, .slice a n cap] := by
    rcases (by omega : o = 0 ∨ o = 1 ∨ o = 2 ∨ o = 3 ∨ o = 4) with rfl | rfl | rfl | rfl | rfl <;> simp
  rw [e] at h
  refine ⟨a, n, cap, h, ?_, r3⟩
  obtain ⟨h0, a', cap', e, h1, h2, h3, h4⟩ := r2
  cases e
  refine ⟨h0, _, _, rfl, h1, h2, h3, fun j hj => ?_⟩
  obtain ⟨b, off, e2, hb, hc⟩ := h4 j hj
  have hbH := (r3 b off e2).1
  exact ⟨b, off, e2, by simpa [World.setCell] using hb, by rw [World.cell?_setCell_far _ _ _ _ (show Br ≠ b from fun e => hbH e.symm)]; exact hc⟩
theorem RdAt.cells {H : Nat} {A : World} {Br : Nat} {c0 c1 c2 c3 c4 : Value} {bs : List Int} (r : RdAt H Br c0 c1 c2 c3 c4 bs A) :
    A.cell? ⟨Br, 0, none⟩ = some c0 ∧ A.cell? ⟨Br, 1, none⟩ = some c1 ∧ A.cell? ⟨Br, 2, none⟩ = some c2 ∧ A.cell? ⟨Br, 3, none⟩ = some c3 ∧ A.cell? ⟨Br, 4, none⟩ = some c4 ∧ Br < A.heap.size ∧ ∀ o, A.frozen? ⟨Br, o, none⟩ = false := by
  obtain ⟨_, _, _, r1, _⟩ := r
  have h0 := r1.cell 0
  have h1 := r1.cell 1
  have h2 := r1.cell 2
  have h3 := r1.cell 3
  have h4 := r1.cell 4
  simp at h0 h1 h2 h3 h4
  exact ⟨h0, h1, h2, h3, h4, r1.lt, fun o => r1.frozen o⟩
end Go.Proofs

/- Script: read. -/
namespace Go.Proofs
open Go.RowKit Go.Shelf
attribute [local go_sem] Oper.semAt_some

theorem results_cell1 {P : Program} {fn : Func} {p : Tmp} {ty : TypeId} (h : fn.results = #[.cell p ty]) (tmps : Array Value) (w : World) (B : Nat) (u : Value)
    (hp : tmps.getD p undef = .pointer (some ⟨B, 0, none⟩)) (h1 : (loadVar ty ⟨B, 0, none⟩).run P w = .ok u w) :
    (results fn tmps).run P w = .ok u w := by
  have hp' : tmps[p]?.getD undef = .pointer (some ⟨B, 0, none⟩) := by simpa using hp
  simp [results, h, hp', asAddr, h1]
theorem Rows8.but {A B : World} {h x b : Nat} {t : TypeId} {cs : Array Value} (p : But h x A B) (r : Rows8 A b t cs) (h1 : b < h) (h2 : b ≠ x) : Rows8 B b t cs := (p.block b h1 h2).trans r
theorem OwnsL.base {n₀ m : Nat} {ls : List (List Cl4)} {v : Value} {A : World} (o : OwnsL n₀ ls v A) (h : m ≤ n₀) : OwnsL m ls v A := by
  obtain ⟨vs, h1, h2⟩ := o
  exact ⟨vs, owns_base h h1, fun i hi => by obtain ⟨a, c, e, ho⟩ := h2 i hi; exact ⟨a, c, e, owns_base h ho⟩⟩
theorem listsP_bytes : ∀ (g room : Nat) {bs r : List Int} {ls : List (List Cl4)}, listsP g room bs = some (ls, r) → AllBytes bs → AllBytes r ∧ r.length ≤ bs.length
  | 0, room, bs, r, ls, h, hb => by
    simp only [listsP, Option.some.injEq, Prod.mk.injEq] at h
    obtain ⟨rfl, rfl⟩ := h
    exact ⟨hb, Nat.le_refl _⟩
  | g + 1, room, bs, r, ls, h, hb => by
    unfold listsP at h
    obtain ⟨p, hp, h2⟩ := Option.bind_eq_some_iff.1 h
    obtain ⟨q, hq, h3⟩ := Option.map_eq_some_iff.1 h2
    obtain ⟨c, s⟩ := p
    obtain ⟨l, t⟩ := q
    simp only [Prod.mk.injEq] at h3
    obtain ⟨rfl, rfl⟩ := h3
    obtain ⟨_, b1, b2⟩ := listP_facts hp hb
    obtain ⟨d2, d3⟩ := listsP_bytes g _ hq b1
    exact ⟨d2, by dsimp only at *; omega⟩
set_option maxRecDepth 100000 in
set_option maxHeartbeats 4000000 in
theorem Try.read_any (H Br : Nat) (bs : List Int) (hl1 : bs.length ≤ 1000000) (hbs : AllBytes bs) (w : World) (hH : H ≤ w.heap.size) (hR : RdAt H Br (.int .i64 0) (.int .i64 0) (.int .u64 0) (.slice none 0 0) (.slice none 0 0) bs w) :
    Calls Try.prog 45 #[.pointer (some ⟨Br, 0, none⟩)] w fun e w' => But w.heap.size Br w w' ∧
      ((∃ s r vl vp, decP bs = some (s, r) ∧ e = .returned (.int .i64 0) ∧ OwnsL w.heap.size s.lists vl w' ∧ OwnsWords w.heap.size s.picks vp w' ∧ RdAt H Br (.int .i64 s.goers) (.int .i64 s.slabs) (.int .u64 s.seed) vl vp r w') ∨ (decP bs = none ∧ e = .returned (.int .i64 131))) := by
  have hBrl : Br < w.heap.size := by
    obtain ⟨_, _, _, r1, _⟩ := hR
    exact r1.lt
  have hmf : ∀ (fn : Fn) (first cap : Array Value) (w : World), (Instr.makeFunc fn first cap).run Try.prog w = .ok (.func fn first cap) w := fun _ _ _ _ => rfl
  obtain ⟨z1, hz1e⟩ : ∃ x, x = w.alloc (.cells #[.int .i64 0] 31) := ⟨_, rfl⟩
  have hb1 : Below w.heap.size w z1 := by rw [hz1e]; exact (Below.refl _ w).alloc (Nat.le_refl _) _
  have HE1 : Hid (Rows8 z1 w.heap.size 31 #[.int .i64 0]) := Lib.hid (by rw [hz1e]; exact Rows8.new w _ _)
  have hS1 : w.heap.size + 1 ≤ z1.heap.size := by rw [hz1e]; simp
  have HR1 := Lib.hid (hR.beneath hb1 hBrl hH)
  have HB1 := Lib.hid (But.of_below hb1 : But w.heap.size Br w z1)
  have HBy1 := Lib.hid hbs
  clear hR hb1 hbs
  go_enter_defers Try.func45, Try.ntmps45
  have HC := Lib.hid (Try.between_any 1 8 H Br (by decide) (by decide) _ _ _ _ _ bs hl1 HBy1.out z1 HR1.out)
  go_wp2_with fail
  rw [← hz1e]
  clear hz1e
  refine HC.out.mono ?_
  rintro e w2 ⟨hB9, (⟨x2, r2, ho, rfl, hR9⟩ | ⟨ho, rfl⟩)⟩
  · have P2 := Lib.hid ho
    obtain ⟨b1, b2, _⟩ := numsP_bytes HBy1.out (betP_back ho).1
    have hE9 := Rows8.but hB9 HE1.out (by omega) (by omega)
    have hs9 := hB9.size
    obtain ⟨cl0, cl1, cl2, cl3, cl4, clt, clf⟩ := hR9.cells
    have f9 := clf 0
    obtain ⟨z2, hz2e⟩ : ∃ x, x = w2.setCell ⟨Br, 0, none⟩ (.int .i64 (x2 : Int)) := ⟨_, rfl⟩
    have hR8 : RdAt H Br (.int .i64 (x2 : Int)) (.int .i64 0) (.int .u64 0) (.slice none 0 0) (.slice none 0 0) r2 z2 := by rw [hz2e]; exact hR9.setO 0 (by decide) (.int .i64 (x2 : Int))
    have HE2 : Hid (Rows8 z2 w.heap.size 31 #[.int .i64 0]) := Lib.hid (by rw [hz2e]; exact hE9.setOther (a := ⟨Br, 0, none⟩) (by simp; omega) (.int .i64 (x2 : Int)))
    have hB8 : But w.heap.size Br w z2 := by rw [hz2e]; exact (HB1.out.trans ⟨hB9.os, hB9.tape, hB9.output, hB9.size, fun i hi2 hx => hB9.block i (by omega) hx⟩).setCell 0 (.int .i64 (x2 : Int))
    have hS2 : w.heap.size + 1 ≤ z2.heap.size := by rw [hz2e]; simp [World.setCell]; omega
    have HR2 := Lib.hid hR8
    have HB2 := Lib.hid hB8
    have hl2 : r2.length ≤ 1000000 := by omega
    have HBy2 := Lib.hid b1
    clear hR9 hE9 hB9 ho hR8 hB8 b1 b2 clf HC HR1 HB1 HE1 HBy1 
    (try dsimp only)
    have HC := Lib.hid (Try.between_any 2 128 H Br (by decide) (by decide) _ _ _ _ _ r2 hl2 HBy2.out z2 HR2.out)
    go_wp2_with fail
    rw [← hz2e]
    clear hz2e
    refine HC.out.mono ?_
    rintro e w3 ⟨hB9, (⟨x3, r3, ho, rfl, hR9⟩ | ⟨ho, rfl⟩)⟩
    · have P3 := Lib.hid ho
      obtain ⟨b1, b2, _⟩ := numsP_bytes HBy2.out (betP_back ho).1
      have hE9 := Rows8.but hB9 HE2.out (by omega) (by omega)
      have hs9 := hB9.size
      obtain ⟨cl0, cl1, cl2, cl3, cl4, clt, clf⟩ := hR9.cells
      have f9 := clf 1
      obtain ⟨z3, hz3e⟩ : ∃ x, x = w3.setCell ⟨Br, 1, none⟩ (.int .i64 (x3 : Int)) := ⟨_, rfl⟩
      have hR8 : RdAt H Br (.int .i64 (x2 : Int)) (.int .i64 (x3 : Int)) (.int .u64 0) (.slice none 0 0) (.slice none 0 0) r3 z3 := by rw [hz3e]; exact hR9.setO 1 (by decide) (.int .i64 (x3 : Int))
      have HE3 : Hid (Rows8 z3 w.heap.size 31 #[.int .i64 0]) := Lib.hid (by rw [hz3e]; exact hE9.setOther (a := ⟨Br, 1, none⟩) (by simp; omega) (.int .i64 (x3 : Int)))
      have hB8 : But w.heap.size Br w z3 := by rw [hz3e]; exact (HB2.out.trans ⟨hB9.os, hB9.tape, hB9.output, hB9.size, fun i hi2 hx => hB9.block i (by omega) hx⟩).setCell 1 (.int .i64 (x3 : Int))
      have hS3 : w.heap.size + 1 ≤ z3.heap.size := by rw [hz3e]; simp [World.setCell]; omega
      have HR3 := Lib.hid hR8
      have HB3 := Lib.hid hB8
      have hl3 : r3.length ≤ 1000000 := by omega
      have HBy3 := Lib.hid b1
      clear hR9 hE9 hB9 ho hR8 hB8 b1 b2 clf HC HR2 HB2 HE2 HBy2 
      (try dsimp only)
      have HC := Lib.hid (Try.numberP_any H Br _ _ _ _ _ r3 hl3 HBy3.out z3 HR3.out)
      go_wp2_with fail
      rw [← hz3e]
      clear hz3e
      refine HC.out.mono ?_
      rintro e w4 ⟨hB9, (⟨x4, r4, ho, rfl, hR9⟩ | ⟨ho, rfl⟩)⟩
      · have P4 := Lib.hid ho
        obtain ⟨b1, b2, _⟩ := numsP_bytes HBy3.out ho
        have hE9 := Rows8.but hB9 HE3.out (by omega) (by omega)
        have hs9 := hB9.size
        obtain ⟨cl0, cl1, cl2, cl3, cl4, clt, clf⟩ := hR9.cells
        have f9 := clf 2
        obtain ⟨z4, hz4e⟩ : ∃ x, x = w4.setCell ⟨Br, 2, none⟩ (.int .u64 (x4 : Int)) := ⟨_, rfl⟩
        have hR8 : RdAt H Br (.int .i64 (x2 : Int)) (.int .i64 (x3 : Int)) (.int .u64 (x4 : Int)) (.slice none 0 0) (.slice none 0 0) r4 z4 := by rw [hz4e]; exact hR9.setO 2 (by decide) (.int .u64 (x4 : Int))
        have HE4 : Hid (Rows8 z4 w.heap.size 31 #[.int .i64 0]) := Lib.hid (by rw [hz4e]; exact hE9.setOther (a := ⟨Br, 2, none⟩) (by simp; omega) (.int .u64 (x4 : Int)))
        have hB8 : But w.heap.size Br w z4 := by rw [hz4e]; exact (HB3.out.trans ⟨hB9.os, hB9.tape, hB9.output, hB9.size, fun i hi2 hx => hB9.block i (by omega) hx⟩).setCell 2 (.int .u64 (x4 : Int))
        have hS4 : w.heap.size + 1 ≤ z4.heap.size := by rw [hz4e]; simp [World.setCell]; omega
        have HR4 := Lib.hid hR8
        have HB4 := Lib.hid hB8
        have hl4 : r4.length ≤ 1000000 := by omega
        have HBy4 := Lib.hid b1
        clear hR9 hE9 hB9 ho hR8 hB8 b1 b2 clf HC HR3 HB3 HE3 HBy3 
        (try dsimp only)
        have hg8 : x2 ≤ 8 := (betP_back P2.out).2.2
        have HC := Lib.hid (Try.lists_any H Br x2 hg8 _ _ _ r4 hl4 HBy4.out z4 (by omega) HR4.out)
        go_wp2_with fail
        rw [← hz4e]
        clear hz4e
        refine HC.out.mono ?_
        rintro e z5 ⟨hB9, (⟨ls, r5, vl, ho, rfl, hO9, hR9⟩ | ⟨ho, rfl⟩)⟩
        · have P5 := Lib.hid ho
          obtain ⟨b1, b2⟩ := listsP_bytes _ _ ho HBy4.out
          have HE5 := Lib.hid (Rows8.but hB9 HE4.out (by omega) (by omega))
          have hs9 := hB9.size
          have hS5 : w.heap.size + 1 ≤ z5.heap.size := by omega
          have HR5 := Lib.hid hR9
          have HB5 := Lib.hid (HB4.out.trans ⟨hB9.os, hB9.tape, hB9.output, hB9.size, fun i hi2 hx => hB9.block i (by omega) hx⟩)
          have HO5 := Lib.hid (hO9.base (show w.heap.size + 1 ≤ z4.heap.size by omega))
          have hl5 : r5.length ≤ 1000000 := by omega
          have HBy5 := Lib.hid b1
          clear hR9 hB9 ho hO9 b1 b2 HC HR4 HB4 HE4 HBy4
          (try dsimp only)
          have HC := Lib.hid (Try.between_any 0 4096 H Br (by decide) (by decide) _ _ _ _ _ r5 hl5 HBy5.out z5 HR5.out)
          go_wp2_with fail
          refine HC.out.mono ?_
          rintro e z6 ⟨hB9, (⟨x6, r6, ho, rfl, hR9⟩ | ⟨ho, rfl⟩)⟩
          · have P6 := Lib.hid ho
            obtain ⟨b1, b2, _⟩ := numsP_bytes HBy5.out (betP_back ho).1
            have hx6 : x6 ≤ 10000 := by have := (betP_back ho).2.2; omega
            have HE6 := Lib.hid (Rows8.but hB9 HE5.out (by omega) (by omega))
            have hs9 := hB9.size
            have hS6 : w.heap.size + 1 ≤ z6.heap.size := by omega
            have HR6 := Lib.hid hR9
            have HB6 := Lib.hid (HB5.out.trans ⟨hB9.os, hB9.tape, hB9.output, hB9.size, fun i hi2 hx => hB9.block i (by omega) hx⟩)
            have HO6 := Lib.hid (HO5.out.but hB9 (Nat.le_refl _) (by omega))
            have hl6 : r6.length ≤ 1000000 := by omega
            have HBy6 := Lib.hid b1
            clear hR9 hB9 ho b1 b2 HC HR5 HB5 HE5 HBy5 HO5
            (try dsimp only)
            go_wp2_with fail
            refine (Try.next_any Br (x6 : Int) z6).mono ?_
            rintro e z7 ⟨rfl, hz7e⟩
            have hb7 : Below z6.heap.size z6 z7 := by rw [hz7e]; exact ((Below.refl _ z6).alloc (Nat.le_refl _) _).alloc (by simp) _
            have hBp : Rows8 z7 z6.heap.size 93 #[.pointer (some ⟨Br, 0, none⟩)] := by rw [hz7e]; exact (Rows8.new z6 _ _).alloc _
            have hBm : Rows8 z7 (z6.heap.size + 1) 3 #[.int .i64 (x6 : Int)] := by
              rw [hz7e]
              have h := Rows8.new (z6.alloc (.cells #[.pointer (some ⟨Br, 0, none⟩)] 93)) 3 #[.int .i64 (x6 : Int)]
              rw [World.size_alloc] at h
              exact h
            have hs7 := hb7.size
            have HR7 := Lib.hid (HR6.out.beneath (hb7.mono (show w.heap.size ≤ z6.heap.size by omega)) hBrl hH)
            have HE7 := Lib.hid (HE6.out.below hb7 (by omega))
            have HB7 := Lib.hid (HB6.out.trans (But.of_below (hb7.mono (show w.heap.size ≤ z6.heap.size by omega))))
            have HO7 := Lib.hid (HO6.out.keep hb7 (Nat.le_refl _))
            have HC := Lib.hid (Try.collect_any H Br (z6.heap.size + 1) z6.heap.size x6 hx6 _ _ _ _ _ r6 hl6 HBy6.out (by omega) z7 (by omega) hBm hBp HR7.out)
            have hS7 : w.heap.size + 1 ≤ z7.heap.size := by omega
            clear hz7e hb7 hBp hBm HR6 HE6 HB6 HO6
            go_wp2_with fail
            refine HC.out.mono ?_
            rintro e w8 ⟨hB9, (⟨xs, r8, vp, ho, rfl, hP9, hR9⟩ | ⟨ho, rfl⟩)⟩
            · obtain ⟨xp, cpp, rfl⟩ : ∃ x c, vp = .slice x xs.length c := by
                obtain ⟨_, a, cap, h, _⟩ := rowAt_own hP9
                exact ⟨a, cap, h⟩
              have P8 := Lib.hid ho
              have hE9 := Rows8.but hB9 HE7.out (by omega) (by omega)
              have hs9 := hB9.size
              have hO9 := HO7.out.but hB9 (Nat.le_refl _) (by omega)
              have hP8 := owns_base (show w.heap.size + 1 ≤ z7.heap.size by omega) hP9
              obtain ⟨cl0, cl1, cl2, cl3, cl4, clt, clf⟩ := hR9.cells
              have f9 := clf 4
              have hb8 : But w8.heap.size Br w8 (w8.setCell ⟨Br, 4, none⟩ (.slice xp xs.length cpp)) := (But.refl _ _ _).setCell 4 _
              have hR8 : RdAt H Br (.int .i64 (x2 : Int)) (.int .i64 (x3 : Int)) (.int .u64 (x4 : Int)) vl (.slice xp xs.length cpp) r8 (w8.setCell ⟨Br, 4, none⟩ (.slice xp xs.length cpp)) := by exact hR9.setO 4 (by decide) (.slice xp xs.length cpp)
              have hE8 := Rows8.but hb8 hE9 (by omega) (by omega)
              have hO8 := hO9.but hb8 (Nat.le_refl _) (by omega)
              have hP8' := owns_but hP8 hb8 (Nat.le_refl _) (by omega)
              have hs8 := hb8.size
              have hB8 : But w.heap.size Br w (w8.setCell ⟨Br, 4, none⟩ (.slice xp xs.length cpp)) := (HB7.out.trans ⟨hB9.os, hB9.tape, hB9.output, hB9.size, fun i hi2 hx => hB9.block i (by omega) hx⟩).trans (by exact (But.refl _ _ _).setCell 4 _)
              have cE : (w8.setCell ⟨Br, 4, none⟩ (.slice xp xs.length cpp)).cell? ⟨w.heap.size, 0, none⟩ = some (.int .i64 0) := hE8.cell 0
              have fE := hE8.frozen 0
              have hbe : But (w8.setCell ⟨Br, 4, none⟩ (.slice xp xs.length cpp)).heap.size w.heap.size (w8.setCell ⟨Br, 4, none⟩ (.slice xp xs.length cpp)) ((w8.setCell ⟨Br, 4, none⟩ (.slice xp xs.length cpp)).setCell ⟨w.heap.size, 0, none⟩ (.int .i64 0)) := (But.refl _ _ _).setCell 0 _
              have hR10 := hR8.set (B := w.heap.size) (by omega) hH 0 (.int .i64 0)
              have hO10 := (hO8.but hbe (Nat.le_refl _) (by omega)).base (show w.heap.size ≤ w.heap.size + 1 by omega)
              have hP10 := owns_base (show w.heap.size ≤ w.heap.size + 1 by omega) (owns_but hP8' hbe (Nat.le_refl _) (by omega))
              have hB10 := hB8.trans (But.of_below ((Below.refl w.heap.size (w8.setCell ⟨Br, 4, none⟩ (.slice xp xs.length cpp))).setCell (p := ⟨w.heap.size, 0, none⟩) (Nat.le_refl _) (.int .i64 0)))
              have s1 := hE8.set 0 (.int .i64 0)
              simp only [List.setIfInBounds_toArray, List.set_cons_zero] at s1
              have S1 := Lib.hid s1
              have HR10 := Lib.hid hR10
              have HO10 := Lib.hid hO10
              have HP10 := Lib.hid hP10
              have HB10 := Lib.hid hB10
              clear hB9 ho hP9 hR9 hE9 hO9 hP8 clf hb8 hR8 hE8 hO8 hP8' hB8 hbe hR10 hO10 hP10 hB10 s1 HC HR7 HE7 HB7 HO7
              (try dsimp only)
              go_wp2_with fail
              refine leaves_cons (f := 62) (args := #[.pointer (some ⟨w.heap.size, 0, none⟩)]) (by simp) (by simp [go_sem]) ?_
              refine (Try.read_idle ⟨w.heap.size, 0, none⟩ _).mono ?_
              rintro e u' w'' ⟨rfl, rfl, rfl⟩
              refine ⟨_, results_cell1 rfl _ _ w.heap.size _ rfl (load_one S1.out (by kernel_rfl)), ?_⟩
              refine ⟨HB10.out, .inl ⟨⟨x2, x3, x4, ls, xs⟩, r8, vl, _, ?_, rfl, HO10.out, HP10.out, HR10.out⟩⟩
              have p2 := P2.out
              have p3 := P3.out
              have p4 := P4.out
              have p5 := P5.out
              have p6 := P6.out
              have p8 := P8.out
              simp only [decP, Option.bind_some, Option.map_some, p2, p3, p4, p5, p6, p8]
            · have hno : Hid (decP bs = none) := Lib.hid (by
                have p2 := P2.out
                have p3 := P3.out
                have p4 := P4.out
                have p5 := P5.out
                have p6 := P6.out
                simp only [decP, Option.bind_some, Option.map_none, ho, p2, p3, p4, p5, p6])
              have hE9 := Rows8.but hB9 HE7.out (by omega) (by omega)
              have hcatch := Try.read_caught w.heap.size 131 0 [] _ hE9
              have s1 := hE9.set 0 (.int .i64 131)
              simp only [List.setIfInBounds_toArray, List.set_cons_zero] at s1
              have S1 := Lib.hid s1
              have HB9 := Lib.hid ((HB7.out.trans ⟨hB9.os, hB9.tape, hB9.output, hB9.size, fun i hi2 hx => hB9.block i (by omega) hx⟩).trans (But.of_below ((Below.refl w.heap.size _).setCell (p := ⟨w.heap.size, 0, none⟩) (Nat.le_refl _) (.int .i64 131))))
              have HCT := Lib.hid hcatch
              clear hB9 hE9 hcatch s1 ho
              (try dsimp only)
              unfold errB
              go_wp2_with fail
              refine leaves_cons (f := 62) (args := #[.pointer (some ⟨w.heap.size, 0, none⟩)]) (by simp) (by simp [go_sem]) ?_
              refine HCT.out.mono ?_
              rintro e u' w'' ⟨rfl, rfl, rfl⟩
              refine ⟨_, results_cell1 rfl _ _ w.heap.size _ rfl (load_one S1.out (by kernel_rfl)), ?_⟩
              exact ⟨HB9.out, .inr ⟨hno.out, rfl⟩⟩
          · have hno : Hid (decP bs = none) := Lib.hid (by
              have p2 := P2.out
              have p3 := P3.out
              have p4 := P4.out
              have p5 := P5.out
              simp only [decP, Option.bind_some, Option.bind_none, ho, p2, p3, p4, p5])
            have hE9 := Rows8.but hB9 HE5.out (by omega) (by omega)
            have hcatch := Try.read_caught w.heap.size 131 0 [] _ hE9
            have s1 := hE9.set 0 (.int .i64 131)
            simp only [List.setIfInBounds_toArray, List.set_cons_zero] at s1
            have S1 := Lib.hid s1
            have HB9 := Lib.hid ((HB5.out.trans ⟨hB9.os, hB9.tape, hB9.output, hB9.size, fun i hi2 hx => hB9.block i (by omega) hx⟩).trans (But.of_below ((Below.refl w.heap.size _).setCell (p := ⟨w.heap.size, 0, none⟩) (Nat.le_refl _) (.int .i64 131))))
            have HCT := Lib.hid hcatch
            clear hB9 hE9 hcatch s1 ho
            (try dsimp only)
            unfold errB
            go_wp2_with fail
            refine leaves_cons (f := 62) (args := #[.pointer (some ⟨w.heap.size, 0, none⟩)]) (by simp) (by simp [go_sem]) ?_
            refine HCT.out.mono ?_
            rintro e u' w'' ⟨rfl, rfl, rfl⟩
            refine ⟨_, results_cell1 rfl _ _ w.heap.size _ rfl (load_one S1.out (by kernel_rfl)), ?_⟩
            exact ⟨HB9.out, .inr ⟨hno.out, rfl⟩⟩

        · have hno : Hid (decP bs = none) := Lib.hid (by
            have p2 := P2.out
            have p3 := P3.out
            have p4 := P4.out
            simp only [decP, Option.bind_some, Option.bind_none, ho, p2, p3, p4])
          have hE9 := Rows8.but hB9 HE4.out (by omega) (by omega)
          have hcatch := Try.read_caught w.heap.size 131 0 [] _ hE9
          have s1 := hE9.set 0 (.int .i64 131)
          simp only [List.setIfInBounds_toArray, List.set_cons_zero] at s1
          have S1 := Lib.hid s1
          have HB9 := Lib.hid ((HB4.out.trans ⟨hB9.os, hB9.tape, hB9.output, hB9.size, fun i hi2 hx => hB9.block i (by omega) hx⟩).trans (But.of_below ((Below.refl w.heap.size _).setCell (p := ⟨w.heap.size, 0, none⟩) (Nat.le_refl _) (.int .i64 131))))
          have HCT := Lib.hid hcatch
          clear hB9 hE9 hcatch s1 ho
          (try dsimp only)
          unfold errB
          go_wp2_with fail
          refine leaves_cons (f := 62) (args := #[.pointer (some ⟨w.heap.size, 0, none⟩)]) (by simp) (by simp [go_sem]) ?_
          refine HCT.out.mono ?_
          rintro e u' w'' ⟨rfl, rfl, rfl⟩
          refine ⟨_, results_cell1 rfl _ _ w.heap.size _ rfl (load_one S1.out (by kernel_rfl)), ?_⟩
          exact ⟨HB9.out, .inr ⟨hno.out, rfl⟩⟩

      · have hno : Hid (decP bs = none) := Lib.hid (by
          have p2 := P2.out
          have p3 := P3.out
          simp only [decP, Option.bind_some, Option.bind_none, ho, p2, p3])
        have hE9 := Rows8.but hB9 HE3.out (by omega) (by omega)
        have hcatch := Try.read_caught w.heap.size 131 0 [] _ hE9
        have s1 := hE9.set 0 (.int .i64 131)
        simp only [List.setIfInBounds_toArray, List.set_cons_zero] at s1
        have S1 := Lib.hid s1
        have HB9 := Lib.hid ((HB3.out.trans ⟨hB9.os, hB9.tape, hB9.output, hB9.size, fun i hi2 hx => hB9.block i (by omega) hx⟩).trans (But.of_below ((Below.refl w.heap.size _).setCell (p := ⟨w.heap.size, 0, none⟩) (Nat.le_refl _) (.int .i64 131))))
        have HCT := Lib.hid hcatch
        clear hB9 hE9 hcatch s1 ho
        (try dsimp only)
        unfold errB
        go_wp2_with fail
        refine leaves_cons (f := 62) (args := #[.pointer (some ⟨w.heap.size, 0, none⟩)]) (by simp) (by simp [go_sem]) ?_
        refine HCT.out.mono ?_
        rintro e u' w'' ⟨rfl, rfl, rfl⟩
        refine ⟨_, results_cell1 rfl _ _ w.heap.size _ rfl (load_one S1.out (by kernel_rfl)), ?_⟩
        exact ⟨HB9.out, .inr ⟨hno.out, rfl⟩⟩

    · have hno : Hid (decP bs = none) := Lib.hid (by
        have p2 := P2.out
        simp only [decP, Option.bind_some, Option.bind_none, ho, p2])
      have hE9 := Rows8.but hB9 HE2.out (by omega) (by omega)
      have hcatch := Try.read_caught w.heap.size 131 0 [] _ hE9
      have s1 := hE9.set 0 (.int .i64 131)
      simp only [List.setIfInBounds_toArray, List.set_cons_zero] at s1
      have S1 := Lib.hid s1
      have HB9 := Lib.hid ((HB2.out.trans ⟨hB9.os, hB9.tape, hB9.output, hB9.size, fun i hi2 hx => hB9.block i (by omega) hx⟩).trans (But.of_below ((Below.refl w.heap.size _).setCell (p := ⟨w.heap.size, 0, none⟩) (Nat.le_refl _) (.int .i64 131))))
      have HCT := Lib.hid hcatch
      clear hB9 hE9 hcatch s1 ho
      (try dsimp only)
      unfold errB
      go_wp2_with fail
      refine leaves_cons (f := 62) (args := #[.pointer (some ⟨w.heap.size, 0, none⟩)]) (by simp) (by simp [go_sem]) ?_
      refine HCT.out.mono ?_
      rintro e u' w'' ⟨rfl, rfl, rfl⟩
      refine ⟨_, results_cell1 rfl _ _ w.heap.size _ rfl (load_one S1.out (by kernel_rfl)), ?_⟩
      exact ⟨HB9.out, .inr ⟨hno.out, rfl⟩⟩

  · have hno : Hid (decP bs = none) := Lib.hid (by
      simp only [decP, Option.bind_some, Option.bind_none, ho])
    have hE9 := Rows8.but hB9 HE1.out (by omega) (by omega)
    have hcatch := Try.read_caught w.heap.size 131 0 [] _ hE9
    have s1 := hE9.set 0 (.int .i64 131)
    simp only [List.setIfInBounds_toArray, List.set_cons_zero] at s1
    have S1 := Lib.hid s1
    have HB9 := Lib.hid ((HB1.out.trans ⟨hB9.os, hB9.tape, hB9.output, hB9.size, fun i hi2 hx => hB9.block i (by omega) hx⟩).trans (But.of_below ((Below.refl w.heap.size _).setCell (p := ⟨w.heap.size, 0, none⟩) (Nat.le_refl _) (.int .i64 131))))
    have HCT := Lib.hid hcatch
    clear hB9 hE9 hcatch s1 ho
    (try dsimp only)
    unfold errB
    go_wp2_with fail
    refine leaves_cons (f := 62) (args := #[.pointer (some ⟨w.heap.size, 0, none⟩)]) (by simp) (by simp [go_sem]) ?_
    refine HCT.out.mono ?_
    rintro e u' w'' ⟨rfl, rfl, rfl⟩
    refine ⟨_, results_cell1 rfl _ _ w.heap.size _ rfl (load_one S1.out (by kernel_rfl)), ?_⟩
    exact ⟨HB9.out, .inr ⟨hno.out, rfl⟩⟩

end Go.Proofs

/- Script: Decode. -/
namespace Go.Proofs
open Go.RowKit Go.Shelf
attribute [local go_sem] Oper.semAt_some

def DecodeQ (bs : List Int) (w : World) (e : Ending) (w' : World) : Prop := Below w.heap.size w w' ∧
  ((∃ s r vl vp, decP bs = some (s, r) ∧ e = .returned (.tuple #[.agg #[.int .i64 s.goers, .int .i64 s.slabs, .int .u64 s.seed, vl, vp], .int .i64 ((bs.length : Int) - (r.length : Int)), .int .i64 0]) ∧ OwnsL w.heap.size s.lists vl w' ∧ OwnsWords w.heap.size s.picks vp w') ∨
   (decP bs = none ∧ e = .returned (.tuple #[.agg #[.int .i64 0, .int .i64 0, .int .u64 0, .slice none 0 0, .slice none 0 0], .int .i64 0, .int .i64 131])))
theorem decP_le {bs r : List Int} {s : Scr} (hb : AllBytes bs) (h : decP bs = some (s, r)) : r.length ≤ bs.length := by
  unfold decP at h
  obtain ⟨⟨g, r1⟩, h1, h⟩ := Option.bind_eq_some_iff.1 h
  obtain ⟨⟨b, r2⟩, h2, h⟩ := Option.bind_eq_some_iff.1 h
  obtain ⟨⟨sd, r3⟩, h3, h⟩ := Option.bind_eq_some_iff.1 h
  obtain ⟨⟨ls, r4⟩, h4, h⟩ := Option.bind_eq_some_iff.1 h
  obtain ⟨⟨n, r5⟩, h5, h⟩ := Option.bind_eq_some_iff.1 h
  obtain ⟨⟨ps, r6⟩, h6, h⟩ := Option.map_eq_some_iff.1 h
  simp only [Prod.mk.injEq] at h
  obtain ⟨_, rfl⟩ := h
  dsimp only at *
  obtain ⟨b1, l1, _⟩ := numsP_bytes hb (betP_back h1).1
  obtain ⟨b2, l2, _⟩ := numsP_bytes b1 (betP_back h2).1
  obtain ⟨b3, l3, _⟩ := numsP_bytes b2 h3
  obtain ⟨b4, l4⟩ := listsP_bytes _ _ h4 b3
  obtain ⟨b5, l5, _⟩ := numsP_bytes b4 (betP_back h5).1
  obtain ⟨_, l6⟩ := numsP_bytes' _ b5 h6
  omega
theorem load_row {P : Program} {W : World} {B : Nat} {t : TypeId} {cs : Array Value} (h : Rows8 W B t cs) {d : TypeDesc} (hu : P.underlying t = some d) (hd : (match d with | .struct _ | .array _ _ => true | _ => false) = true) (hi : (P.info? t).map (·.size) = some cs.size) :
    (loadVar t ⟨B, 0, none⟩).run P W = .ok (.agg cs) W := run_loadVar_row W B t t cs (0, 0) d h hu hd hi
theorem results_ctt {P : Program} {fn : Func} {p q r : Tmp} {ty : TypeId} (h : fn.results = #[.cell p ty, .tmp q, .tmp r]) (tmps : Array Value) (w : World) (B : Nat) (u x y : Value)
    (hp : tmps.getD p undef = .pointer (some ⟨B, 0, none⟩)) (hq : tmps.getD q undef = x) (hr : tmps.getD r undef = y) (h1 : (loadVar ty ⟨B, 0, none⟩).run P w = .ok u w) :
    (results fn tmps).run P w = .ok (.tuple #[u, x, y]) w := by
  have hp' : tmps[p]?.getD undef = .pointer (some ⟨B, 0, none⟩) := by simpa using hp
  have hq' : tmps[q]?.getD undef = x := by simpa using hq
  have hr' : tmps[r]?.getD undef = y := by simpa using hr
  simp [results, h, hp', hq', hr', asAddr, h1, Result.andThen]
set_option maxRecDepth 100000 in
set_option maxHeartbeats 4000000 in
theorem Try.Decode_any (a : Option Addr) (n cap : Nat) (bs : List Int) (hn : n = bs.length) (hl : bs.length ≤ 1000000) (hbs : AllBytes bs) (w : World) (hI : BytesAt w (.slice a n cap) bs) (hIb : ∀ b off, a = some ⟨b, off, none⟩ → b < w.heap.size) :
    Calls Try.prog 26 #[.slice a n cap] w (DecodeQ bs w) := by
  obtain ⟨w1, hw1⟩ : ∃ x, x = w.alloc (.cells #[.int .i64 0, .int .i64 0, .int .u64 0, .slice none 0 0, .slice none 0 0] 26) := ⟨_, rfl⟩
  obtain ⟨w2, hw2⟩ : ∃ x, x = w1.alloc (.cells #[.int .i64 0, .int .i64 0, .int .u64 0, .slice none 0 0, .slice none 0 0, .slice a n cap] 78) := ⟨_, rfl⟩
  have z1 : w1.heap.size = w.heap.size + 1 := by rw [hw1]; simp
  have z2 : w2.heap.size = w.heap.size + 2 := by rw [hw2, World.size_alloc, z1]
  have b2 : Below w.heap.size w w2 := by rw [hw2, hw1]; exact ((Below.refl _ w).alloc (Nat.le_refl _) _).alloc (by simp) _
  have hS2 : Rows8 w2 w.heap.size 26 #[.int .i64 0, .int .i64 0, .int .u64 0, .slice none 0 0, .slice none 0 0] := by rw [hw2, hw1]; exact (Rows8.new w _ _).alloc _
  have hR2 : RdAt w.heap.size (w.heap.size + 1) (.int .i64 0) (.int .i64 0) (.int .u64 0) (.slice none 0 0) (.slice none 0 0) bs w2 :=
    ⟨a, n, cap, by rw [hw2, ← z1]; exact Rows8.new w1 _ _, RowAt.below hI b2, fun b off e => ⟨by have := hIb b off e; omega, hIb b off e⟩⟩
  have HC := Lib.hid (Try.read_any w.heap.size (w.heap.size + 1) bs hl hbs w2 (by omega) hR2)
  have HS2 := Lib.hid hS2
  have HB2 := Lib.hid b2
  have HN := Lib.hid hn
  have HBY := Lib.hid hbs
  have hn1 : n ≤ 1000000 := by omega
  clear hI hIb hbs b2 hS2 hR2 hn
  go_enter Try.func26, Try.ntmps26
  go_wp2_with fail
  rw [← hw1, ← hw2]
  clear hw1 hw2
  refine HC.out.mono ?_
  rintro e w3 ⟨hB3, (⟨s, r, vl, vp, ho, rfl, hO, hP, hR⟩ | ⟨ho, rfl⟩)⟩
  · have hS3 : Rows8 w3 w.heap.size 26 #[.int .i64 0, .int .i64 0, .int .u64 0, .slice none 0 0, .slice none 0 0] := (hB3.block _ (by omega) (by omega)).trans HS2.out
    have hB := HB2.out.trans (hB3.below (n₀ := w.heap.size) (by omega) (by omega))
    obtain ⟨al, nl, cl, r1, r2, r3⟩ := hR
    have hnl : nl = r.length := (bytesAt_len r2).1
    obtain ⟨xl, cpl, rfl⟩ : ∃ x c, vl = .slice x s.lists.length c := by
      obtain ⟨vs, h1, _⟩ := hO
      obtain ⟨_, a, cap, h, _⟩ := rowAt_own h1
      exact ⟨a, cap, h⟩
    obtain ⟨xp, cpp, rfl⟩ : ∃ x c, vp = .slice x s.picks.length c := by
      obtain ⟨_, a, cap, h, _⟩ := rowAt_own hP
      exact ⟨a, cap, h⟩
    have k0 := r1.cell 0
    have k1 := r1.cell 1
    have k2 := r1.cell 2
    have k3 := r1.cell 3
    have k4 := r1.cell 4
    have k5 := r1.cell 5
    simp at k0 k1 k2 k3 k4 k5
    have s0 := hS3.cell 0
    have s1 := hS3.cell 1
    have s2 := hS3.cell 2
    have s3 := hS3.cell 3
    have s4 := hS3.cell 4
    simp at s0 s1 s2 s3 s4
    have f0 := hS3.frozen 0
    have f1 := hS3.frozen 1
    have f2 := hS3.frozen 2
    have f3 := hS3.frozen 3
    have f4 := hS3.frozen 4
    have HS3 := Lib.hid hS3
    have HB3 := Lib.hid hB
    have HO := Lib.hid hO
    have HP := Lib.hid hP
    have HOk := Lib.hid ho
    have hnr : r.length ≤ bs.length := decP_le HBY.out ho
    have hnl1 : nl ≤ n := by have := HN.out; omega
    have HNL := Lib.hid hnl
    clear hB3 hS3 hB hO hP ho HC HS2 HB2 hnl r1 r2 r3 hnr
    go_wp2_with fail
    go_region
    all_goals go_wp2_with fail
    have hrow := (((((HS3.out.set 0 (.int .i64 s.goers)).set 1 (.int .i64 s.slabs)).set 2 (.int .u64 s.seed)).set 3 (.slice xl s.lists.length cpl)).set 4 (.slice xp s.picks.length cpp))
    simp only [List.setIfInBounds_toArray, List.set_cons_zero, List.set_cons_succ] at hrow
    have hbe := (((((But.refl w3.heap.size w.heap.size w3).setCell 0 (.int .i64 s.goers)).setCell 1 (.int .i64 s.slabs)).setCell 2 (.int .u64 s.seed)).setCell 3 (.slice xl s.lists.length cpl)).setCell 4 (.slice xp s.picks.length cpp)
    have hbl := (((((Below.refl w.heap.size w3).setCell (p := ⟨w.heap.size, 0, none⟩) (Nat.le_refl _) (.int .i64 s.goers)).setCell (p := ⟨w.heap.size, 1, none⟩) (Nat.le_refl _) (.int .i64 s.slabs)).setCell (p := ⟨w.heap.size, 2, none⟩) (Nat.le_refl _) (.int .u64 s.seed)).setCell (p := ⟨w.heap.size, 3, none⟩) (Nat.le_refl _) (.slice xl s.lists.length cpl)).setCell (p := ⟨w.heap.size, 4, none⟩) (Nat.le_refl _) (.slice xp s.picks.length cpp)
    refine bodyPost_ret (results_ctt rfl _ _ w.heap.size _ _ _ rfl rfl rfl (load_row hrow.drew Try.underlying26 rfl (by kernel_rfl))) rfl ?_
    exact ⟨HB3.out.trans hbl.drew, .inl ⟨s, r, _, _, HOk.out, by rw [HN.out, HNL.out]; rfl, (HO.out.but hbe.drew (Nat.le_refl _) (by omega)).base (by omega), owns_base (by omega) (owns_but HP.out hbe.drew (Nat.le_refl _) (by omega))⟩⟩
  · have hS3 : Rows8 w3 w.heap.size 26 #[.int .i64 0, .int .i64 0, .int .u64 0, .slice none 0 0, .slice none 0 0] := (hB3.block _ (by omega) (by omega)).trans HS2.out
    have hB := HB2.out.trans (hB3.below (n₀ := w.heap.size) (by omega) (by omega))
    have s0 := hS3.cell 0
    have s1 := hS3.cell 1
    have s2 := hS3.cell 2
    have s3 := hS3.cell 3
    have s4 := hS3.cell 4
    simp at s0 s1 s2 s3 s4
    have f0 := hS3.frozen 0
    have f1 := hS3.frozen 1
    have f2 := hS3.frozen 2
    have f3 := hS3.frozen 3
    have f4 := hS3.frozen 4
    have HS3 := Lib.hid hS3
    have HB3 := Lib.hid hB
    have hrow := (((((hS3.set 0 (.int .i64 0)).set 1 (.int .i64 0)).set 2 (.int .u64 0)).set 3 (.slice none 0 0)).set 4 (.slice none 0 0))
    simp only [List.setIfInBounds_toArray, List.set_cons_zero, List.set_cons_succ] at hrow
    have hbl := (((((Below.refl w.heap.size w3).setCell (p := ⟨w.heap.size, 0, none⟩) (Nat.le_refl _) (.int .i64 0)).setCell (p := ⟨w.heap.size, 1, none⟩) (Nat.le_refl _) (.int .i64 0)).setCell (p := ⟨w.heap.size, 2, none⟩) (Nat.le_refl _) (.int .u64 0)).setCell (p := ⟨w.heap.size, 3, none⟩) (Nat.le_refl _) (.slice none 0 0)).setCell (p := ⟨w.heap.size, 4, none⟩) (Nat.le_refl _) (.slice none 0 0)
    have HROW := Lib.hid hrow
    have HBL := Lib.hid hbl
    have HOk := Lib.hid ho
    clear hB3 hS3 hB HC HS2 HB2 hrow hbl ho
    go_wp2_with fail
    refine bodyPost_ret (results_ctt rfl _ _ w.heap.size _ _ _ rfl rfl rfl (load_row HROW.out Try.underlying26 rfl (by kernel_rfl))) rfl ?_
    exact ⟨HB3.out.trans HBL.out, .inr ⟨HOk.out, rfl⟩⟩
end Go.Proofs
