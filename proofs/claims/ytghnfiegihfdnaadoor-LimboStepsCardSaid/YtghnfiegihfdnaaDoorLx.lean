/- Limbo: the reference: Of, has, row, Same. -/
import Derived.Test.YtghnfiegihfdnaaDoorLw
namespace Go.Proofs
set_option maxRecDepth 100000
open Go.RowKit Go.Shelf
attribute [local go_sem] Oper.semAt_some

def ofL (E : Nat) (r : Rw3) (g : Nat) : List Pr := if E < g then [] else r ((E - g) % 3)
def ofV (E : Nat) (s : Ls) (g : Nat) : Value := if E < g then .slice none 0 0 else .slice (s.a ((E - g) % 3)) (s.n ((E - g) % 3)) (s.c ((E - g) % 3))
theorem ofV_at {W : World} {s : Ls} {r : Rw3} (h : LAt W s r) (E g : Nat) : PAt W (ofV E s g) (ofL E r g) := by
  unfold ofV ofL
  by_cases hE : E < g
  · rw [if_pos hE, if_pos hE]; exact pAt_none W
  · rw [if_neg hE, if_neg hE]; exact h _ (Nat.mod_lt _ (by decide))
theorem ofV_form (E g : Nat) (s : Ls) : ∃ a n c, ofV E s g = .slice a n c := by
  unfold ofV
  split <;> exact ⟨_, _, _, rfl⟩
/-- All, as the reference puts it together. -/
theorem of_held (E : Nat) (r : Rw3) : ofL E r 2 ++ ofL E r 1 ++ ofL E r 0 = heldL E r := by
  rcases two_more E with rfl | rfl | ⟨F, rfl⟩
  · rw [heldL_0]; simp [ofL]
  · rw [heldL_1]; simp [ofL]
  · rw [heldL_2]
    unfold ofL
    rw [if_neg (by omega), if_neg (by omega), if_neg (by omega), show F + 2 - 2 = F by omega, show F + 2 - 1 = F + 1 by omega, Nat.sub_zero]
set_option maxHeartbeats 4000000 in
theorem Tryd.refOf_any (E : Nat) (s : Ls) (g : Nat) (w : World) (hE : E < 18446744073709551616) (hG : g ≤ 2) :
    Calls Tryd.prog 13 #[.agg #[.int .u64 (E : Nat), .slice (s.a 0) (s.n 0) (s.c 0), .slice (s.a 1) (s.n 1) (s.c 1), .slice (s.a 2) (s.n 2) (s.c 2)], .int .u64 (g : Nat)] w fun e w' => e = .returned (ofV E s g) ∧ Below w.heap.size w w' := by
  obtain ⟨W0, hW0⟩ : ∃ W, W = w.alloc (.cells #[.int .u64 (E : Nat), .slice (s.a 0) (s.n 0) (s.c 0), .slice (s.a 1) (s.n 1) (s.c 1), .slice (s.a 2) (s.n 2) (s.c 2)] 26) := ⟨_, rfl⟩
  have hB0 : Below w.heap.size w W0 := by rw [hW0]; exact Rows8.newB
  have hk0 : Rows8 W0 w.heap.size 26 #[.int .u64 (E : Nat), .slice (s.a 0) (s.n 0) (s.c 0), .slice (s.a 1) (s.n 1) (s.c 1), .slice (s.a 2) (s.n 2) (s.c 2)] := by rw [hW0]; exact Rows8.new _ _ _
  have HB := Lib.hid hB0
  have c0 : W0.cell? ⟨w.heap.size, 0, none⟩ = some (.int .u64 (E : Nat)) := hk0.cell 0
  have lt := hk0.lt
  unfold ofV
  by_cases hg : E < g
  · have hg2 : ((g : Nat) : Int) > ((E : Nat) : Int) := by omega
    rw [if_pos hg]
    clear hk0 hB0 hE hG
    go_enter Tryd.func13, Tryd.ntmps13
    go_wp2_with fail
    rw [← hW0]
    clear hW0
    go_wp2_with fail
    go_ret
    exact ⟨rfl, HB.out⟩
  · have hg2 : ¬ ((g : Nat) : Int) > ((E : Nat) : Int) := by omega
    rw [if_neg hg]
    have hs : IntKind.u64.wrap (((E : Nat) : Int) - ((g : Nat) : Int)) = ((E - g : Nat) : Int) := by rw [IntKind.wrap_u64]; omega
    obtain ⟨F, hF⟩ : ∃ F, F = E - g := ⟨_, rfl⟩
    rw [← hF] at hs ⊢
    have h1 : ((F : Nat) : Int) % 3 = ((F % 3 : Nat) : Int) := by omega
    have h2 : ((F : Nat) : Int).tmod 3 = ((F % 3 : Nat) : Int) := by rw [Int.tmod_eq_emod_of_nonneg (by omega)]; exact h1
    have hk : F % 3 < 3 := Nat.mod_lt _ (by decide)
    have h3 : IntKind.u64.wrap ((F % 3 : Nat) : Int) = ((F % 3 : Nat) : Int) := wrap_u _ (by omega) (by omega)
    have cK := cellK hk0 (F % 3) hk
    generalize F % 3 = k at *
    have cL : ([.int .u64 (E : Nat), .slice (s.a 0) (s.n 0) (s.c 0), .slice (s.a 1) (s.n 1) (s.c 1), .slice (s.a 2) (s.n 2) (s.c 2)] : List Value)[1 + k]? = some (.slice (s.a k) (s.n k) (s.c k)) := by rcases three hk with rfl | rfl | rfl <;> rfl
    have hki : (k : Int) < 3 := by omega
    have hki0 : (0 : Int) ≤ (k : Int) := by omega
    clear hk0 hB0 hE hG hF hg h1
    go_enter Tryd.func13, Tryd.ntmps13
    go_wp2_with fail
    rw [← hW0]
    clear hW0
    go_wp2_with fail
    go_ret
    exact ⟨rfl, HB.out⟩
set_option maxHeartbeats 4000000 in
theorem Tryd.has_any (a : Option Addr) (n c : Nat) (l : List Pr) (z : Int) (w : World) (hI : PAt w (.slice a n c) l) (hn : n ≤ 10000) :
    Calls Tryd.prog 32 #[.slice a n c, .int .i64 z] w fun e w' => e = .returned (.bool (hasS l z)) ∧ Below w.heap.size w w' := by
  have HX := Lib.hid (pAt_len hI).1
  have HI := Lib.hid hI
  clear hI
  go_enter Tryd.func32, Tryd.ntmps32
  go_wp2_with fail
  go_loopw [9] (fun j wr => ∃ k : Nat, k ≤ n ∧ j = .int .i64 k ∧ Hid (hasS (l.take k) z = false) ∧ Hid (Below w.heap.size w wr)) (fun j _ => n - (intOf j).toNat)
  case atStart => exact ⟨0, Nat.zero_le _, rfl, Lib.hid (by rw [List.take_zero]; rfl), Lib.hid (Below.refl _ _)⟩
  case round =>
    obtain ⟨k, hk, rfl, ht, hB⟩ := hrel
    by_cases hlt : k < n
    · have hkl : k < l.length := by rw [← HX.out]; exact hlt
      obtain ⟨b, off, rfl, hb, p0, p1⟩ := pAt_get (HI.out.below hB.out) k hkl
      have hki : (k : Int) < (n : Int) := by omega
      have hki0 : (0 : Int) ≤ (k : Int) := by omega
      have hB2 := Lib.hid (hB.out.trans ((Rows8.newB (W := wr) (t := 38) (cs := #[.int .i64 (l[k]).1, .int .u64 ((l[k]).2 : Nat)])).mono hB.out.size))
      have htk := List.take_append_getElem hkl
      obtain ⟨p, hp⟩ : ∃ p, p = l[k] := ⟨_, rfl⟩
      rw [← hp] at p0 p1 hB2 htk
      have hnx : hasS (l.take (k + 1)) z = (p.1 == z) := by rw [← htk, hasS_snoc, ht.out, Bool.false_or]
      have HNX := Lib.hid hnx
      have HPL := Lib.hid hp
      clear hnx htk hp
      by_cases he : p.1 = z
      · have h0 : (p.1 == z) = true := by simp [he]
        have hres : Hid (hasS l z = true) := Lib.hid (hasS_iff.2 ⟨p, by rw [HPL.out]; exact List.getElem_mem _, he⟩)
        clear HNX HPL
        go_wp2_with fail
        go_ret
        exact ⟨by rw [hres.out]; rfl, by have h9 := hB2.out; rw [he] at h9; exact h9⟩
      · have h0 : (p.1 == z) = false := by simp [he]
        have hN := Lib.hid (HNX.out.trans h0)
        clear HNX HPL
        go_wp2_with fail
        exact ⟨⟨k + 1, by omega, by go_num, hN, hB2⟩, by simp [intOf]; omega⟩
    · obtain rfl : k = n := by omega
      have hki : ¬ (k : Int) < (k : Int) := by omega
      have hres : Hid (hasS l z = false) := Lib.hid (by have h := ht.out; rw [HX.out, List.take_length] at h; exact h)
      go_wp2_with fail
      go_ret
      exact ⟨by rw [hres.out]; rfl, hB.out⟩
set_option maxRecDepth 100000 in
set_option maxHeartbeats 4000000 in
theorem Tryd.row_any (a1 a2 : Option Addr) (n1 n2 c1 c2 : Nat) (xs ys : List (Pr)) (w : World) (h1 : PAt w (.slice a1 n1 c1) xs) (h2 : PAt w (.slice a2 n2 c2) ys) (hl : n1 ≤ 10000) (hl2 : n2 ≤ 10000) :
    Calls Tryd.prog 35 #[.slice a1 n1 c1, .slice a2 n2 c2] w fun e w' => e = .returned (.bool (decide (xs = ys))) ∧ Below w.heap.size w w' := by
  have HX := Lib.hid (pAt_len h1).1
  have HY := Lib.hid (pAt_len h2).1
  have H1 := Lib.hid h1
  have H2 := Lib.hid h2
  clear h1 h2
  by_cases hn : n1 = n2
  · subst hn
    have hd : ((n1 : Int) != (n1 : Int)) = false := by simp
    go_enter Tryd.func35, Tryd.ntmps35
    go_wp2
    go_loopw [14] (fun j wr => ∃ k : Nat, k ≤ n1 ∧ j = .int .i64 k ∧ xs.take k = ys.take k ∧ Below w.heap.size w wr) (fun j _ => n1 - (intOf j).toNat)
    case atStart => exact ⟨0, Nat.zero_le _, rfl, rfl, Below.refl _ _⟩
    case round =>
      obtain ⟨k, hk, rfl, ht, hB⟩ := hrel
      by_cases hlt : k < n1
      · have hkx : k < xs.length := by rw [← HX.out]; exact hlt
        have hky : k < ys.length := by rw [← HY.out]; exact hlt
        obtain ⟨b1, o1, rfl, hb1, p0, p1⟩ := pAt_get (PAt.below H1.out hB) k hkx
        obtain ⟨b2, o2, rfl, hb2, q0, q1⟩ := pAt_get (PAt.below H2.out hB) k hky
        have hmx : Tryd.prog.follows .mixedOrders = true := by kernel_rfl
        have hki : (k : Int) < (n1 : Int) := by omega
        have hki0 : (0 : Int) ≤ (k : Int) := by omega
        have HT := Lib.hid ht
        clear ht
        rcases hx1 : xs[k] with ⟨x0, x1⟩
        rcases hy1 : ys[k] with ⟨y0, y1⟩
        rw [hx1] at p0 p1
        rw [hy1] at q0 q1
        dsimp only at p0 p1 q0 q1
        by_cases he : xs[k] = ys[k]
        · have hnx := take_eq_nextP HT.out hkx hky he
          have HNX := Lib.hid hnx
          rw [hx1, hy1] at he
          injection he with e0 e1
          subst e0 e1
          have d0 : (x0 == x0) = true := by simp
          have d1 : (((x1 : Nat) : Int) == ((x1 : Nat) : Int)) = true := by simp
          have c0 : (x0 != x0) = false := by simp
          have c1 : (((x1 : Nat) : Int) != ((x1 : Nat) : Int)) = false := by simp
          clear hnx hx1 hy1
          go_wp2
          have hS0 : Rows8 (wr.alloc (.cells #[.int .i64 x0, .int .u64 (x1 : Nat)] 38)).drew wr.heap.size 38 #[.int .i64 x0, .int .u64 (x1 : Nat)] ∧ (wr.alloc (.cells #[.int .i64 x0, .int .u64 (x1 : Nat)] 38)).drew.cell? ⟨b2, o2 + k * 2, none⟩ = some (.int .i64 x0) ∧ (wr.alloc (.cells #[.int .i64 x0, .int .u64 (x1 : Nat)] 38)).drew.cell? ⟨b2, o2 + k * 2 + 1, none⟩ = some (.int .u64 (x1 : Nat)) := ⟨(Rows8.new wr 38 #[.int .i64 x0, .int .u64 (x1 : Nat)]).drewA, ((Rows8.newB (W := wr) (t := 38) (cs := #[.int .i64 x0, .int .u64 (x1 : Nat)])).cell (p := ⟨b2, o2 + k * 2, none⟩) hb2).trans q0, ((Rows8.newB (W := wr) (t := 38) (cs := #[.int .i64 x0, .int .u64 (x1 : Nat)])).cell (p := ⟨b2, o2 + k * 2 + 1, none⟩) hb2).trans q1⟩
          have HBD := Lib.hid (hB.trans ((Rows8.newB (W := wr) (t := 38) (cs := #[.int .i64 x0, .int .u64 (x1 : Nat)])).drew.mono hB.size))
          refine wp_region_L (fun W' => Rows8 W' wr.heap.size 38 #[.int .i64 x0, .int .u64 (x1 : Nat)] ∧ W'.cell? ⟨b2, o2 + k * 2, none⟩ = some (.int .i64 x0) ∧ W'.cell? ⟨b2, o2 + k * 2 + 1, none⟩ = some (.int .u64 (x1 : Nat))) 6 (by kernel_rfl) ?_
          clear p0 p1 q0 q1
          generalize (wr.alloc (.cells #[.int .i64 x0, .int .u64 (x1 : Nat)] 38)).drew = Wd at *
          refine wpAnyL_takeT (i := 0) (oi := { dst := some 19, op := Go.Op.load 38 (Go.Operand.tmp 6), type := 38, pos := "ref.go:53", after := #[], guard := none }) (v := .agg #[.int .i64 x0, .int .u64 (x1 : Nat)]) [5] rfl (by kernel_rfl) (by kernel_rfl) (by kernel_rfl) (by kernel_rfl) (fun _ _ _ h => h) (Or.inl ⟨by rfl, ?_⟩) hS0 ?_
          · intro W9 hS9
            obtain ⟨q2, q3, q4⟩ := hS9
            have s0 : W9.cell? ⟨wr.heap.size, 0, none⟩ = some (.int .i64 x0) := q2.cell 0
            have s1 : W9.cell? ⟨wr.heap.size, 1, none⟩ = some (.int .u64 (x1 : Nat)) := q2.cell 1
            clear q2 q3 q4
            go_simp
          try simp only [Act.put, List.setIfInBounds_toArray, List.set_cons_zero, List.set_cons_succ]
          refine wpAnyL_takeT (i := 1) (oi := { dst := some 20, op := Go.Op.move (Go.Operand.tmp 1), type := 23, pos := "ref.go:53", after := #[], guard := none }) (v := .slice (some ⟨b2, o2, none⟩) n1 c2) [3, 4, 5] rfl (by kernel_rfl) (by kernel_rfl) (by kernel_rfl) (by kernel_rfl) (fun _ _ _ h => h) (Or.inl ⟨by rfl, ?_⟩) hS0 ?_
          · intro W9 hS9
            obtain ⟨q2, q3, q4⟩ := hS9
            clear q2 q3 q4
            go_simp
          try simp only [Act.put, List.setIfInBounds_toArray, List.set_cons_zero, List.set_cons_succ]
          refine wpAnyL_takeT (i := 2) (oi := { dst := some 21, op := Go.Op.move (Go.Operand.tmp 5), type := 3, pos := "ref.go:53", after := #[], guard := none }) (v := .int .i64 (k : Nat)) [3, 4, 5] rfl (by kernel_rfl) (by kernel_rfl) (by kernel_rfl) (by kernel_rfl) (fun _ _ _ h => h) (Or.inl ⟨by rfl, ?_⟩) hS0 ?_
          · intro W9 hS9
            obtain ⟨q2, q3, q4⟩ := hS9
            clear q2 q3 q4
            go_simp
          try simp only [Act.put, List.setIfInBounds_toArray, List.set_cons_zero, List.set_cons_succ]
          refine wpAnyL_takeT (i := 3) (oi := { dst := some 22, op := Go.Op.indexAddr 23 (Go.Operand.tmp 20) (Go.Operand.tmp 21), type := 0, pos := "ref.go:53", after := #[{ on := 1, ground := Go.Ground.data }, { on := 2, ground := Go.Ground.data }], guard := none }) (v := .pointer (some ⟨b2, o2 + k * 2, none⟩)) [4, 5] rfl (by kernel_rfl) (by kernel_rfl) (by kernel_rfl) (by kernel_rfl) (fun _ _ _ h => h) (Or.inl ⟨by rfl, ?_⟩) hS0 ?_
          · intro W9 hS9
            obtain ⟨q2, q3, q4⟩ := hS9
            clear q2 q3 q4
            go_simp
          try simp only [Act.put, List.setIfInBounds_toArray, List.set_cons_zero, List.set_cons_succ]
          refine wpAnyL_takeT (i := 4) (oi := { dst := some 23, op := Go.Op.load 38 (Go.Operand.tmp 22), type := 38, pos := "ref.go:53", after := #[{ on := 3, ground := Go.Ground.data }], guard := none }) (v := .agg #[.int .i64 x0, .int .u64 (x1 : Nat)]) [5] rfl (by kernel_rfl) (by kernel_rfl) (by kernel_rfl) (by kernel_rfl) (fun _ _ _ h => h) (Or.inl ⟨by rfl, ?_⟩) hS0 ?_
          · intro W9 hS9
            obtain ⟨q2, q3, q4⟩ := hS9
            have s0 := q3
            have s1 := q4
            clear q2 q3 q4
            go_simp
          try simp only [Act.put, List.setIfInBounds_toArray, List.set_cons_zero, List.set_cons_succ]
          refine wpAnyL_takeT (i := 5) (oi := { dst := some 24, op := Go.Op.binOp Go.BinOp.neq 38 (Go.Operand.tmp 19) (Go.Operand.tmp 23) 38, type := 4, pos := "ref.go:53", after := #[{ on := 0, ground := Go.Ground.data }, { on := 4, ground := Go.Ground.data }], guard := none }) (v := .bool false) [] rfl (by kernel_rfl) (by kernel_rfl) (by kernel_rfl) (by kernel_rfl) (fun _ _ _ h => h) (Or.inl ⟨by rfl, ?_⟩) hS0 ?_
          · intro W9 hS9
            obtain ⟨q2, q3, q4⟩ := hS9
            clear q2 q3 q4
            go_simp
          try simp only [Act.put, List.setIfInBounds_toArray, List.set_cons_zero, List.set_cons_succ]
          refine wpAnyL_end (by kernel_rfl) ?_
          go_wp2_with fail
          exact ⟨⟨k + 1, by omega, by go_num, HNX.out, HBD.out⟩, by simp [intOf]; omega⟩
        · have hq : decide (xs = ys) = false := decide_eq_false (fun h => he (by subst h; rfl))
          have HQ := Lib.hid hq
          have hne : ¬ (x0 = y0 ∧ x1 = y1) := fun ⟨e0, e1⟩ => he (by rw [hx1, hy1, e0, e1])
          have hs : x0 ≠ y0 ∨ (x0 = y0 ∧ x1 ≠ y1) := by by_cases h0 : x0 = y0; exact .inr ⟨h0, fun h1 => hne ⟨h0, h1⟩⟩; exact .inl h0
          clear hq he hne hx1 hy1
          rcases hs with h | ⟨rfl, h⟩
          · have d0 : (x0 == y0) = false := by simp [h]
            have c0 : (x0 != y0) = true := by simp [h]
            go_wp2
            have hS0 : Rows8 (wr.alloc (.cells #[.int .i64 x0, .int .u64 (x1 : Nat)] 38)).drew wr.heap.size 38 #[.int .i64 x0, .int .u64 (x1 : Nat)] ∧ (wr.alloc (.cells #[.int .i64 x0, .int .u64 (x1 : Nat)] 38)).drew.cell? ⟨b2, o2 + k * 2, none⟩ = some (.int .i64 y0) ∧ (wr.alloc (.cells #[.int .i64 x0, .int .u64 (x1 : Nat)] 38)).drew.cell? ⟨b2, o2 + k * 2 + 1, none⟩ = some (.int .u64 (y1 : Nat)) := ⟨(Rows8.new wr 38 #[.int .i64 x0, .int .u64 (x1 : Nat)]).drewA, ((Rows8.newB (W := wr) (t := 38) (cs := #[.int .i64 x0, .int .u64 (x1 : Nat)])).cell (p := ⟨b2, o2 + k * 2, none⟩) hb2).trans q0, ((Rows8.newB (W := wr) (t := 38) (cs := #[.int .i64 x0, .int .u64 (x1 : Nat)])).cell (p := ⟨b2, o2 + k * 2 + 1, none⟩) hb2).trans q1⟩
            have HBD := Lib.hid (hB.trans ((Rows8.newB (W := wr) (t := 38) (cs := #[.int .i64 x0, .int .u64 (x1 : Nat)])).drew.mono hB.size))
            refine wp_region_L (fun W' => Rows8 W' wr.heap.size 38 #[.int .i64 x0, .int .u64 (x1 : Nat)] ∧ W'.cell? ⟨b2, o2 + k * 2, none⟩ = some (.int .i64 y0) ∧ W'.cell? ⟨b2, o2 + k * 2 + 1, none⟩ = some (.int .u64 (y1 : Nat))) 6 (by kernel_rfl) ?_
            clear p0 p1 q0 q1
            generalize (wr.alloc (.cells #[.int .i64 x0, .int .u64 (x1 : Nat)] 38)).drew = Wd at *
            refine wpAnyL_takeT (i := 0) (oi := { dst := some 19, op := Go.Op.load 38 (Go.Operand.tmp 6), type := 38, pos := "ref.go:53", after := #[], guard := none }) (v := .agg #[.int .i64 x0, .int .u64 (x1 : Nat)]) [5] rfl (by kernel_rfl) (by kernel_rfl) (by kernel_rfl) (by kernel_rfl) (fun _ _ _ h => h) (Or.inl ⟨by rfl, ?_⟩) hS0 ?_
            · intro W9 hS9
              obtain ⟨q2, q3, q4⟩ := hS9
              have s0 : W9.cell? ⟨wr.heap.size, 0, none⟩ = some (.int .i64 x0) := q2.cell 0
              have s1 : W9.cell? ⟨wr.heap.size, 1, none⟩ = some (.int .u64 (x1 : Nat)) := q2.cell 1
              clear q2 q3 q4
              go_simp
            try simp only [Act.put, List.setIfInBounds_toArray, List.set_cons_zero, List.set_cons_succ]
            refine wpAnyL_takeT (i := 1) (oi := { dst := some 20, op := Go.Op.move (Go.Operand.tmp 1), type := 23, pos := "ref.go:53", after := #[], guard := none }) (v := .slice (some ⟨b2, o2, none⟩) n1 c2) [3, 4, 5] rfl (by kernel_rfl) (by kernel_rfl) (by kernel_rfl) (by kernel_rfl) (fun _ _ _ h => h) (Or.inl ⟨by rfl, ?_⟩) hS0 ?_
            · intro W9 hS9
              obtain ⟨q2, q3, q4⟩ := hS9
              clear q2 q3 q4
              go_simp
            try simp only [Act.put, List.setIfInBounds_toArray, List.set_cons_zero, List.set_cons_succ]
            refine wpAnyL_takeT (i := 2) (oi := { dst := some 21, op := Go.Op.move (Go.Operand.tmp 5), type := 3, pos := "ref.go:53", after := #[], guard := none }) (v := .int .i64 (k : Nat)) [3, 4, 5] rfl (by kernel_rfl) (by kernel_rfl) (by kernel_rfl) (by kernel_rfl) (fun _ _ _ h => h) (Or.inl ⟨by rfl, ?_⟩) hS0 ?_
            · intro W9 hS9
              obtain ⟨q2, q3, q4⟩ := hS9
              clear q2 q3 q4
              go_simp
            try simp only [Act.put, List.setIfInBounds_toArray, List.set_cons_zero, List.set_cons_succ]
            refine wpAnyL_takeT (i := 3) (oi := { dst := some 22, op := Go.Op.indexAddr 23 (Go.Operand.tmp 20) (Go.Operand.tmp 21), type := 0, pos := "ref.go:53", after := #[{ on := 1, ground := Go.Ground.data }, { on := 2, ground := Go.Ground.data }], guard := none }) (v := .pointer (some ⟨b2, o2 + k * 2, none⟩)) [4, 5] rfl (by kernel_rfl) (by kernel_rfl) (by kernel_rfl) (by kernel_rfl) (fun _ _ _ h => h) (Or.inl ⟨by rfl, ?_⟩) hS0 ?_
            · intro W9 hS9
              obtain ⟨q2, q3, q4⟩ := hS9
              clear q2 q3 q4
              go_simp
            try simp only [Act.put, List.setIfInBounds_toArray, List.set_cons_zero, List.set_cons_succ]
            refine wpAnyL_takeT (i := 4) (oi := { dst := some 23, op := Go.Op.load 38 (Go.Operand.tmp 22), type := 38, pos := "ref.go:53", after := #[{ on := 3, ground := Go.Ground.data }], guard := none }) (v := .agg #[.int .i64 y0, .int .u64 (y1 : Nat)]) [5] rfl (by kernel_rfl) (by kernel_rfl) (by kernel_rfl) (by kernel_rfl) (fun _ _ _ h => h) (Or.inl ⟨by rfl, ?_⟩) hS0 ?_
            · intro W9 hS9
              obtain ⟨q2, q3, q4⟩ := hS9
              have s0 := q3
              have s1 := q4
              clear q2 q3 q4
              go_simp
            try simp only [Act.put, List.setIfInBounds_toArray, List.set_cons_zero, List.set_cons_succ]
            refine wpAnyL_takeT (i := 5) (oi := { dst := some 24, op := Go.Op.binOp Go.BinOp.neq 38 (Go.Operand.tmp 19) (Go.Operand.tmp 23) 38, type := 4, pos := "ref.go:53", after := #[{ on := 0, ground := Go.Ground.data }, { on := 4, ground := Go.Ground.data }], guard := none }) (v := .bool true) [] rfl (by kernel_rfl) (by kernel_rfl) (by kernel_rfl) (by kernel_rfl) (fun _ _ _ h => h) (Or.inl ⟨by rfl, ?_⟩) hS0 ?_
            · intro W9 hS9
              obtain ⟨q2, q3, q4⟩ := hS9
              clear q2 q3 q4
              go_simp
            try simp only [Act.put, List.setIfInBounds_toArray, List.set_cons_zero, List.set_cons_succ]
            refine wpAnyL_end (by kernel_rfl) ?_
            go_wp2_with fail
            go_ret
            exact ⟨by rw [HQ.out]; rfl, HBD.out⟩
          · have d0 : (x0 == x0) = true := by simp
            have c0 : (x0 != x0) = false := by simp
            have d1 : (((x1 : Nat) : Int) == ((y1 : Nat) : Int)) = false := by simp; omega
            have c1 : (((x1 : Nat) : Int) != ((y1 : Nat) : Int)) = true := by simp; omega
            go_wp2
            have hS0 : Rows8 (wr.alloc (.cells #[.int .i64 x0, .int .u64 (x1 : Nat)] 38)).drew wr.heap.size 38 #[.int .i64 x0, .int .u64 (x1 : Nat)] ∧ (wr.alloc (.cells #[.int .i64 x0, .int .u64 (x1 : Nat)] 38)).drew.cell? ⟨b2, o2 + k * 2, none⟩ = some (.int .i64 x0) ∧ (wr.alloc (.cells #[.int .i64 x0, .int .u64 (x1 : Nat)] 38)).drew.cell? ⟨b2, o2 + k * 2 + 1, none⟩ = some (.int .u64 (y1 : Nat)) := ⟨(Rows8.new wr 38 #[.int .i64 x0, .int .u64 (x1 : Nat)]).drewA, ((Rows8.newB (W := wr) (t := 38) (cs := #[.int .i64 x0, .int .u64 (x1 : Nat)])).cell (p := ⟨b2, o2 + k * 2, none⟩) hb2).trans q0, ((Rows8.newB (W := wr) (t := 38) (cs := #[.int .i64 x0, .int .u64 (x1 : Nat)])).cell (p := ⟨b2, o2 + k * 2 + 1, none⟩) hb2).trans q1⟩
            have HBD := Lib.hid (hB.trans ((Rows8.newB (W := wr) (t := 38) (cs := #[.int .i64 x0, .int .u64 (x1 : Nat)])).drew.mono hB.size))
            refine wp_region_L (fun W' => Rows8 W' wr.heap.size 38 #[.int .i64 x0, .int .u64 (x1 : Nat)] ∧ W'.cell? ⟨b2, o2 + k * 2, none⟩ = some (.int .i64 x0) ∧ W'.cell? ⟨b2, o2 + k * 2 + 1, none⟩ = some (.int .u64 (y1 : Nat))) 6 (by kernel_rfl) ?_
            clear p0 p1 q0 q1
            generalize (wr.alloc (.cells #[.int .i64 x0, .int .u64 (x1 : Nat)] 38)).drew = Wd at *
            refine wpAnyL_takeT (i := 0) (oi := { dst := some 19, op := Go.Op.load 38 (Go.Operand.tmp 6), type := 38, pos := "ref.go:53", after := #[], guard := none }) (v := .agg #[.int .i64 x0, .int .u64 (x1 : Nat)]) [5] rfl (by kernel_rfl) (by kernel_rfl) (by kernel_rfl) (by kernel_rfl) (fun _ _ _ h => h) (Or.inl ⟨by rfl, ?_⟩) hS0 ?_
            · intro W9 hS9
              obtain ⟨q2, q3, q4⟩ := hS9
              have s0 : W9.cell? ⟨wr.heap.size, 0, none⟩ = some (.int .i64 x0) := q2.cell 0
              have s1 : W9.cell? ⟨wr.heap.size, 1, none⟩ = some (.int .u64 (x1 : Nat)) := q2.cell 1
              clear q2 q3 q4
              go_simp
            try simp only [Act.put, List.setIfInBounds_toArray, List.set_cons_zero, List.set_cons_succ]
            refine wpAnyL_takeT (i := 1) (oi := { dst := some 20, op := Go.Op.move (Go.Operand.tmp 1), type := 23, pos := "ref.go:53", after := #[], guard := none }) (v := .slice (some ⟨b2, o2, none⟩) n1 c2) [3, 4, 5] rfl (by kernel_rfl) (by kernel_rfl) (by kernel_rfl) (by kernel_rfl) (fun _ _ _ h => h) (Or.inl ⟨by rfl, ?_⟩) hS0 ?_
            · intro W9 hS9
              obtain ⟨q2, q3, q4⟩ := hS9
              clear q2 q3 q4
              go_simp
            try simp only [Act.put, List.setIfInBounds_toArray, List.set_cons_zero, List.set_cons_succ]
            refine wpAnyL_takeT (i := 2) (oi := { dst := some 21, op := Go.Op.move (Go.Operand.tmp 5), type := 3, pos := "ref.go:53", after := #[], guard := none }) (v := .int .i64 (k : Nat)) [3, 4, 5] rfl (by kernel_rfl) (by kernel_rfl) (by kernel_rfl) (by kernel_rfl) (fun _ _ _ h => h) (Or.inl ⟨by rfl, ?_⟩) hS0 ?_
            · intro W9 hS9
              obtain ⟨q2, q3, q4⟩ := hS9
              clear q2 q3 q4
              go_simp
            try simp only [Act.put, List.setIfInBounds_toArray, List.set_cons_zero, List.set_cons_succ]
            refine wpAnyL_takeT (i := 3) (oi := { dst := some 22, op := Go.Op.indexAddr 23 (Go.Operand.tmp 20) (Go.Operand.tmp 21), type := 0, pos := "ref.go:53", after := #[{ on := 1, ground := Go.Ground.data }, { on := 2, ground := Go.Ground.data }], guard := none }) (v := .pointer (some ⟨b2, o2 + k * 2, none⟩)) [4, 5] rfl (by kernel_rfl) (by kernel_rfl) (by kernel_rfl) (by kernel_rfl) (fun _ _ _ h => h) (Or.inl ⟨by rfl, ?_⟩) hS0 ?_
            · intro W9 hS9
              obtain ⟨q2, q3, q4⟩ := hS9
              clear q2 q3 q4
              go_simp
            try simp only [Act.put, List.setIfInBounds_toArray, List.set_cons_zero, List.set_cons_succ]
            refine wpAnyL_takeT (i := 4) (oi := { dst := some 23, op := Go.Op.load 38 (Go.Operand.tmp 22), type := 38, pos := "ref.go:53", after := #[{ on := 3, ground := Go.Ground.data }], guard := none }) (v := .agg #[.int .i64 x0, .int .u64 (y1 : Nat)]) [5] rfl (by kernel_rfl) (by kernel_rfl) (by kernel_rfl) (by kernel_rfl) (fun _ _ _ h => h) (Or.inl ⟨by rfl, ?_⟩) hS0 ?_
            · intro W9 hS9
              obtain ⟨q2, q3, q4⟩ := hS9
              have s0 := q3
              have s1 := q4
              clear q2 q3 q4
              go_simp
            try simp only [Act.put, List.setIfInBounds_toArray, List.set_cons_zero, List.set_cons_succ]
            refine wpAnyL_takeT (i := 5) (oi := { dst := some 24, op := Go.Op.binOp Go.BinOp.neq 38 (Go.Operand.tmp 19) (Go.Operand.tmp 23) 38, type := 4, pos := "ref.go:53", after := #[{ on := 0, ground := Go.Ground.data }, { on := 4, ground := Go.Ground.data }], guard := none }) (v := .bool true) [] rfl (by kernel_rfl) (by kernel_rfl) (by kernel_rfl) (by kernel_rfl) (fun _ _ _ h => h) (Or.inl ⟨by rfl, ?_⟩) hS0 ?_
            · intro W9 hS9
              obtain ⟨q2, q3, q4⟩ := hS9
              clear q2 q3 q4
              go_simp
            try simp only [Act.put, List.setIfInBounds_toArray, List.set_cons_zero, List.set_cons_succ]
            refine wpAnyL_end (by kernel_rfl) ?_
            go_wp2_with fail
            go_ret
            exact ⟨by rw [HQ.out]; rfl, HBD.out⟩
      · obtain rfl : k = n1 := by omega
        have hq : decide (xs = ys) = true := by
          refine decide_eq_true ?_
          rw [List.take_of_length_le (by rw [← HX.out]; exact Nat.le_refl _), List.take_of_length_le (by rw [← HY.out]; exact Nat.le_refl _)] at ht
          exact ht
        have HQ := Lib.hid hq
        clear hq ht
        go_wp2
        go_ret
        exact ⟨by rw [HQ.out]; rfl, hB⟩
  · have hd : ((n1 : Int) != (n2 : Int)) = true := by simp; omega
    have hq : decide (xs = ys) = false := decide_eq_false (fun h => hn (by rw [HX.out, HY.out, h]))
    have HQ := Lib.hid hq
    clear hq
    go_enter Tryd.func35, Tryd.ntmps35
    go_wp2
    go_ret
    exact ⟨by rw [HQ.out]; rfl, Below.refl _ _⟩


end Go.Proofs
