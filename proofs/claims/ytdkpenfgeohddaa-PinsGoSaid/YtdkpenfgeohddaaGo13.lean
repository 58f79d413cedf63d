/- PinsGo: with nobody pinning the Epoch goes on; somebody holds it back just if it does not go on, but at its end; for all pins and numbers. -/
import Derived.Test.YtdkpenfgeohddaaPm
namespace Go.Proofs
set_option maxRecDepth 100000
open Go.RowKit Go.Shelf
attribute [local go_sem] Oper.semAt_some

theorem held_len (E : Int) (S : List Int) : heldB E S = decide (0 < (backN E S).length) := by
  unfold heldB backN
  rw [trues_count]
  generalize bkB E S 0 = b0
  generalize bkB E S 1 = b1
  generalize bkB E S 2 = b2
  generalize bkB E S 3 = b3
  generalize bkB E S 4 = b4
  generalize bkB E S 5 = b5
  generalize bkB E S 6 = b6
  generalize bkB E S 7 = b7
  cases b0 <;> cases b1 <;> cases b2 <;> cases b3 <;> cases b4 <;> cases b5 <;> cases b6 <;> cases b7 <;> rfl
theorem step_go3 {E : Int} {S : List Int} (z : Int) : stepP E S ⟨3, z, 0⟩ = goN E S := step_go rfl
/-- Slots that are cleared. -/
def clr (S : List Int) (l : List Int) : List Int := l.foldl (fun S g => S.set g.toNat 0) S
theorem clr_len (l : List Int) : ∀ S, (clr S l).length = S.length := by
  induction l with
  | nil => intro S; rfl
  | cons g l ih => intro S; show (clr (S.set g.toNat 0) l).length = _; rw [ih, List.length_set]
theorem clr_get (l : List Int) : ∀ (S : List Int) (k : Nat), k < S.length → (clr S l)[k]?.getD 0 = if (∃ g ∈ l, g.toNat = k) then 0 else S[k]?.getD 0 := by
  induction l with
  | nil => intro S k _; simp [clr]
  | cons g l ih =>
    intro S k hk
    show (clr (S.set g.toNat 0) l)[k]?.getD 0 = _
    rw [ih _ k (by rw [List.length_set]; exact hk)]
    by_cases h : ∃ g ∈ l, g.toNat = k
    · rw [if_pos h]
      obtain ⟨x, hx, e⟩ := h
      rw [if_pos ⟨x, by simp [hx], e⟩]
    · rw [if_neg h]
      by_cases hg : g.toNat = k
      · rw [if_pos ⟨g, by simp, hg⟩, hg]
        simp [hk]
      · rw [if_neg (fun ⟨x, hx, e⟩ => by
          rcases List.mem_cons.1 hx with rfl | hx
          · exact hg e
          · exact h ⟨x, hx, e⟩), List.getElem?_set_ne hg]
theorem clr_ok {E : Int} {S : List Int} (h : Okp E S) (hr : rightN E S = true) (l : List Int) : Okp E (clr S l) ∧ rightN E (clr S l) = true := by
  induction l generalizing S with
  | nil => exact ⟨h, hr⟩
  | cons g l ih =>
    have h0 := h.e.1
    exact ih ⟨h.e, set_okW h.s _ _ (by omega)⟩ (right_set hr _ _ (by omega))
theorem clr_snoc (S l : List Int) (g : Int) : clr S (l ++ [g]) = (clr S l).set g.toNat 0 := by simp [clr]
theorem trues_mem (f : Nat → Bool) (n : Nat) (g : Int) : g ∈ trues f n ↔ ∃ k : Nat, k < n ∧ f k = true ∧ g = (k : Int) := by
  unfold trues
  simp only [List.mem_map, List.mem_filter, List.mem_range]
  constructor
  · rintro ⟨k, ⟨h1, h2⟩, rfl⟩
    exact ⟨k, h1, h2, rfl⟩
  · rintro ⟨k, h1, h2, rfl⟩
    exact ⟨k, ⟨h1, h2⟩, rfl⟩
theorem trues_lt (f : Nat → Bool) (n : Nat) : (trues f n).Pairwise (· < ·) := by
  unfold trues
  exact List.Pairwise.map _ (fun a b h => Int.ofNat_lt.2 h) (List.Pairwise.filter _ List.pairwise_lt_range)
theorem back_get {E : Int} {S : List Int} (j : Nat) (hj : j < (backN E S).length) : ∃ k : Nat, (backN E S)[j]?.getD 0 = (k : Int) ∧ k < S.length ∧ S[k]?.getD 0 ≠ 0 ∧ (∀ g ∈ (backN E S).take j, g.toNat ≠ k) := by
  have hm := (trues_mem (bkB E S) 8 _).1 (List.getElem_mem hj)
  obtain ⟨k, h8, hb, e⟩ := hm
  unfold bkB at hb
  simp at hb
  refine ⟨k, by simp only [List.getElem?_eq_getElem hj, Option.getD_some]; exact e, hb.1, hb.2.1, fun g hg e2 => ?_⟩
  obtain ⟨i, hi, rfl⟩ := List.mem_iff_getElem.1 hg
  rw [List.length_take] at hi
  rw [List.getElem_take] at e2
  have hlt := List.pairwise_iff_getElem.1 (trues_lt (bkB E S) 8) i j (by show i < (backN E S).length; omega) hj (by omega)
  have e4 : (backN E S)[j] = (k : Int) := e
  have e5 : (backN E S)[i] < (backN E S)[j] := hlt
  have hgi := (trues_mem (bkB E S) 8 _).1 (List.getElem_mem (show i < (backN E S).length by omega))
  obtain ⟨k2, _, _, e3⟩ := hgi
  have e6 : (backN E S)[i] = (k2 : Int) := e3
  omega
theorem back_none (E : Int) (S : List Int) (h8 : S.length ≤ 8) : backN E (clr S (backN E S)) = [] := by
  rw [← List.length_eq_zero_iff]
  rcases Nat.eq_zero_or_pos (backN E (clr S (backN E S))).length with h | h
  · exact h
  · obtain ⟨g, hg⟩ := List.exists_mem_of_length_pos h
    obtain ⟨k, hk8, hb, rfl⟩ := (trues_mem _ 8 g).1 hg
    unfold bkB at hb
    simp only [Bool.and_eq_true, decide_eq_true_eq, bne_iff_ne] at hb
    obtain ⟨h1, h2, h3⟩ := hb
    rw [clr_len] at h1
    rw [clr_get _ _ _ h1] at h2 h3
    by_cases hc : ∃ g ∈ backN E S, g.toNat = k
    · rw [if_pos hc] at h2
      exact absurd rfl h2
    · rw [if_neg hc] at h2 h3
      exact absurd ⟨(k : Int), (trues_mem _ 8 _).2 ⟨k, hk8, by unfold bkB; rw [decide_eq_true h1]; simp; exact ⟨h2, h3⟩, rfl⟩, by simp⟩ hc
theorem Try.infoPo : (Try.prog.info? 44).map (fun i => (i.zero, i.size, i.bytes)) = some (some (.agg #[.int .i64 0, .int .i64 0, .int .u64 0]), 3, 24) := by kernel_rfl
theorem po_nil (W : World) (q : Option Addr) : PoAt W (.slice q 0 0) [] := ⟨rfl, q, 0, rfl, Nat.le_refl _, Nat.zero_le _, fun _ => rfl, fun j hj => by simp [poVals] at hj⟩
theorem OwnsInts.form2 {n₀ : Nat} {l : List Int} {v : Value} {W : World} (o : OwnsInts n₀ l v W) : ∃ a n c, v = .slice a n c ∧ n = l.length := by
  obtain ⟨a, c, h⟩ := o.form
  exact ⟨a, _, c, h, rfl⟩
set_option maxHeartbeats 8000000 in
theorem Try.go_no (E : Int) (a : Option Addr) (n c : Nat) (S : List Int) (more : Int) (w : World) (hI : WordsAt w (.slice a n c) S) (hE : 0 ≤ E ∧ E < 18446744073709551616) (hS : okW S) (hr : rightN E (S.take 10) = false) :
    Calls Try.prog 6 #[.agg #[.int .u64 E, .slice a n c], .int .i64 more] w fun e w' => e = .returned (.bool true) ∧ Below w.heap.size w w' := by
  obtain ⟨U, hU⟩ : ∃ U, U = S.take 10 := ⟨_, rfl⟩
  have hUk : okW U := by rw [hU]; exact okW_take hS 10
  have hk : Okp E U := ⟨hE, hUk⟩
  rw [← hU] at hr
  have hd1 : doP E U ⟨3, 0, 0⟩ = (230, 0, []) := by unfold doP; rw [if_neg (by rw [hr]; decide)]
  have hb1 : backP E U = [] := by unfold backP; rw [if_neg (by rw [hr]; decide)]
  have HD1 := fun (W : World) (a : Option Addr) (n c : Nat) (h : WordsAt W (.slice a n c) U) => Lib.hid (show Calls _ 23 #[.agg #[.int .u64 E, .slice a n c], .agg #[.int .i64 3, .int .i64 0, .int .u64 0]] W (fun e w' => (∃ v, e = .returned (.tuple #[.agg #[.int .u64 0, v], .int .i64 230]) ∧ OwnsWords W.heap.size [] v w') ∧ Below W.heap.size W w') from by have h1 := Try.DoP_any E a n c U ⟨3, 0, 0⟩ W h hk (Int.le_refl 0); rw [hd1] at h1; exact h1)
  have HCH := fun (W : World) (a : Option Addr) (n c : Nat) (h : WordsAt W (.slice a n c) U) => Lib.hid (show Calls _ 11 #[.agg #[.int .u64 E, .slice a n c]] W (fun e w' => e = .returned (.int .i64 230) ∧ Below W.heap.size W w') from by have h1 := Try.Check_any E hE.1 a n c U W h; rw [hr] at h1; exact h1)
  have HBK := fun (W : World) (a : Option Addr) (n c : Nat) (h : WordsAt W (.slice a n c) U) => Lib.hid (show Calls _ 18 #[.agg #[.int .u64 E, .slice a n c]] W (IntsQ [] W) from by have h1 := Try.BackP_any E hE.1 a n c U hUk W h; rw [hb1] at h1; exact h1)
  clear hd1 hb1 hr hk hUk hE hS
  have hB0 : Below w.heap.size w (w.alloc (.cells #[.int .u64 E, .slice a n c] 25)) := Rows8.newB
  have X0 := Lib.hid (Rows8.new w 25 #[.int .u64 E, .slice a n c])
  have HW := fun W => Lib.hid (Try.wakes_any W)
  have HOW := fun (W : World) (h : Below w.heap.size w W) => Lib.hid (Try.own_any E a n c S W (RowAt.below hI h))
  rw [← hU] at HOW
  have B := Lib.hid hB0
  clear hB0 hI hU
  go_enter Try.func6, Try.ntmps6
  go_wp2_with fail
  refine (HW _).out.mono ?_
  rintro e w1 ⟨rfl, hB⟩
  have X0 := Lib.hid (X0.out.below hB X0.out.lt)
  have B := Lib.hid (B.out.trans (hB.mono B.out.size))
  have c0 : w1.cell? ⟨w.heap.size, 0, none⟩ = some (.int .u64 E) := X0.out.cell 0
  have c1 : w1.cell? ⟨w.heap.size, 1, none⟩ = some (.slice a n c) := X0.out.cell 1
  have HOl := HOW w1 B.out
  clear hB HOW HW
  go_wp2_with fail
  refine HOl.out.mono ?_
  rintro e w2 ⟨⟨a1, n1, d1, rfl, hn1, hO⟩, hB⟩
  clear HOl c0 c1 X0
  have hw1 : w.heap.size ≤ w2.heap.size := Nat.le_trans B.out.size hB.size
  have hal : Below w2.heap.size w2 (w2.alloc (.cells #[.int .u64 E, .slice a1 n1 d1] 25)) := Rows8.newB
  have hOw : OwnsWords w.heap.size U (.slice a1 n1 d1) (w2.alloc (.cells #[.int .u64 E, .slice a1 n1 d1] 25)) := owns_keep (owns_mono hO B.out.size) hal (Nat.le_refl _)
  have hBw := hB.trans (hal.mono hB.size)
  have O1 := Lib.hid hOw
  have P1 := Lib.hid (Rows8.new w2 25 #[.int .u64 E, .slice a1 n1 d1])
  have B := Lib.hid (B.out.trans (hBw.mono B.out.size))
  clear hO hB hal hOw hBw
  go_upto_region 4 with fail
  generalize (w2.alloc (.cells #[.int .u64 E, .slice a1 n1 d1] 25)) = u2 at *
  obtain ⟨b1, hb1⟩ : ∃ b, b = w2.heap.size := ⟨_, rfl⟩
  have HB1 : Hid (w.heap.size ≤ b1) := Lib.hid (by rw [hb1]; exact hw1)
  rw [← hb1] at P1 ⊢
  clear hb1 hw1
  have c10 : u2.cell? ⟨b1, 0, none⟩ = some (.int .u64 E) := P1.out.cell 0
  have c11 : u2.cell? ⟨b1, 1, none⟩ = some (.slice a1 n1 d1) := P1.out.cell 1
  have HDl := HD1 u2 _ _ _ O1.out.at
  clear HD1
  go_wp2_with fail
  refine HDl.out.mono ?_
  rintro e w3 ⟨⟨v, rfl, hO⟩, hB⟩
  obtain ⟨a2, n2, d2, hv, hn2⟩ := hO.form2
  replace hn2 : n2 = 0 := hn2
  subst hn2 hv
  clear HDl
  clear c10 c11
  have hw2 : w.heap.size ≤ w3.heap.size := Nat.le_trans B.out.size hB.size
  have hal : Below w3.heap.size w3 (w3.alloc (.cells #[.int .u64 0, .slice a2 0 d2] 25)) := Rows8.newB
  have hOw : OwnsWords w.heap.size [] (.slice a2 0 d2) (w3.alloc (.cells #[.int .u64 0, .slice a2 0 d2] 25)) := owns_keep (owns_mono hO B.out.size) hal (Nat.le_refl _)
  have hBw := hB.trans (hal.mono hB.size)
  have O2 := Lib.hid hOw
  have P2 := Lib.hid (Rows8.new w3 25 #[.int .u64 0, .slice a2 0 d2])
  have P1 := Lib.hid (P1.out.below hBw P1.out.lt)
  have O1 : Hid (OwnsWords w.heap.size U (.slice a1 n1 d1) (w3.alloc (.cells #[.int .u64 0, .slice a2 0 d2] 25))) := Lib.hid (owns_keep O1.out hBw (Nat.le_refl _))
  have B := Lib.hid (B.out.trans (hBw.mono B.out.size))
  clear hO hB hal hOw hBw
  go_upto_region 5 with fail
  generalize (w3.alloc (.cells #[.int .u64 0, .slice a2 0 d2] 25)) = u3 at *
  obtain ⟨b2, hb2⟩ : ∃ b, b = w3.heap.size := ⟨_, rfl⟩
  have HB2 : Hid (w.heap.size ≤ b2) := Lib.hid (by rw [hb2]; exact hw2)
  rw [← hb2] at P2 ⊢
  clear hb2 hw2
  have c10 : u3.cell? ⟨b1, 0, none⟩ = some (.int .u64 E) := P1.out.cell 0
  have c11 : u3.cell? ⟨b1, 1, none⟩ = some (.slice a1 n1 d1) := P1.out.cell 1
  have HCl := HCH u3 _ _ _ O1.out.at
  go_wp2_with fail
  refine HCl.out.mono ?_
  rintro e w4 ⟨rfl, hB⟩
  clear HCl
  clear c10 c11
  have P1 := Lib.hid (P1.out.below hB P1.out.lt)
  have O1 : Hid (OwnsWords w.heap.size U (.slice a1 n1 d1) w4) := Lib.hid (owns_keep O1.out hB (Nat.le_refl _))
  have P2 := Lib.hid (P2.out.below hB P2.out.lt)
  have O2 : Hid (OwnsWords w.heap.size [] (.slice a2 0 d2) w4) := Lib.hid (owns_keep O2.out hB (Nat.le_refl _))
  have B := Lib.hid (B.out.trans (hB.mono B.out.size))
  have c10 : w4.cell? ⟨b1, 0, none⟩ = some (.int .u64 E) := P1.out.cell 0
  have c11 : w4.cell? ⟨b1, 1, none⟩ = some (.slice a1 n1 d1) := P1.out.cell 1
  have HCl := HBK w4 _ _ _ O1.out.at
  clear hB
  go_wp2_with fail
  refine HCl.out.mono ?_
  rintro e w5 ⟨v, rfl, hO, hB⟩
  clear HCl
  clear c10 c11
  obtain ⟨ai, di, hv⟩ := hO.form
  replace hv : v = .slice ai 0 di := hv
  subst hv
  have B := Lib.hid (B.out.trans (hB.mono B.out.size))
  clear hO hB
  go_wp2_with fail
  go_ret
  exact ⟨rfl, B.out⟩
/-- What a go comes to. -/
theorem go_cases {E : Int} {U : List Int} (hr : rightN E U = true) (z : Int) : (heldB E U = true ∧ doP E U ⟨3, z, 0⟩ = (231, 0, [])) ∨ (heldB E U = false ∧ E = 4611686018427387904 ∧ doP E U ⟨3, z, 0⟩ = (6, 0, [])) ∨ (heldB E U = false ∧ E ≠ 4611686018427387904 ∧ doP E U ⟨3, z, 0⟩ = (0, E + 1, U)) := by
  rw [doP_of hr, step_go3]
  cases h : heldB E U with
  | true =>
    have e : goN E U = (231, E, U) := by unfold goN; rw [h]; rfl
    exact .inl ⟨rfl, by rw [e]; rfl⟩
  | false =>
    by_cases hm : E = 4611686018427387904
    · have e : goN E U = (6, E, U) := by unfold goN; rw [h, if_neg (by decide), if_pos hm]
      exact .inr (.inl ⟨rfl, hm, by rw [e]; rfl⟩)
    · have e : goN E U = (0, E + 1, U) := by unfold goN; rw [h, if_neg (by decide), if_neg hm]
      exact .inr (.inr ⟨rfl, hm, by rw [e]; rfl⟩)
set_option maxHeartbeats 32000000 in
theorem Try.go_yes (E : Int) (a : Option Addr) (n c : Nat) (S : List Int) (more : Int) (w : World) (hI : WordsAt w (.slice a n c) S) (hE : 0 ≤ E ∧ E < 18446744073709551616) (hS : okW S) (hr : rightN E (S.take 10) = true) (t1 TE : Int) (TS : List Int) (hT : doP E (S.take 10) ⟨3, 0, 0⟩ = (t1, TE, TS)) (x1 x2 x3 : Bool) (hx1 : (t1 == 231) = x1) (hx2 : (t1 == 6) = x2) (hx3 : (t1 == 0) = x3)
    (hh : heldB E (S.take 10) = x1) (h6 : x2 = true → E = 4611686018427387904) (h60 : x2 = true → x1 = false) (h0 : x3 = true → TE = E + 1 ∧ E ≠ 4611686018427387904 ∧ TS = S.take 10) :
    Calls Try.prog 6 #[.agg #[.int .u64 E, .slice a n c], .int .i64 more] w fun e w' => e = .returned (.bool true) ∧ Below w.heap.size w w' := by
  obtain ⟨U, hU⟩ : ∃ U, U = S.take 10 := ⟨_, rfl⟩
  have hUk : okW U := by rw [hU]; exact okW_take hS 10
  have hk : Okp E U := ⟨hE, hUk⟩
  obtain ⟨i0, hi, hz0, hz1, hz2⟩ := info_parts Try.infoPo
  rw [← hU] at hr hT hh h0
  have h8 := right_len hr
  have hEm := ((rightN_iff E U).1 hr).1
  have hb1 : backP E U = backN E U := if_pos hr
  obtain ⟨L, hL⟩ : ∃ L, L = backN E U := ⟨_, rfl⟩
  obtain ⟨V, hV⟩ : ∃ V, V = clr U L := ⟨_, rfl⟩
  have hclr := clr_ok hk hr L
  rw [← hV] at hclr
  have hbV : backP E V = [] := by rw [backP, if_pos hclr.2, hV, hL]; exact back_none E U h8
  have hhV : heldB E V = false := by rw [held_len, show backN E V = [] by rw [hV, hL]; exact back_none E U h8]; rfl
  have hhl : decide (0 < L.length) = x1 := by rw [hL, ← hh, held_len]
  have hrun : runP E V [] = (0, E, V, 0) := if_pos hclr.2
  rw [← hL] at hb1
  have HD1 := fun (W : World) (a : Option Addr) (n c : Nat) (h : WordsAt W (.slice a n c) U) => Lib.hid (show Calls _ 23 #[.agg #[.int .u64 E, .slice a n c], .agg #[.int .i64 3, .int .i64 0, .int .u64 0]] W (fun e w' => (∃ v, e = .returned (.tuple #[.agg #[.int .u64 TE, v], .int .i64 t1]) ∧ OwnsWords W.heap.size TS v w') ∧ Below W.heap.size W w') from by have h1 := Try.DoP_any E a n c U ⟨3, 0, 0⟩ W h hk (Int.le_refl 0); rw [hT] at h1; exact h1)
  have HCH := fun (W : World) (a : Option Addr) (n c : Nat) (h : WordsAt W (.slice a n c) U) => Lib.hid (show Calls _ 11 #[.agg #[.int .u64 E, .slice a n c]] W (fun e w' => e = .returned (.int .i64 0) ∧ Below W.heap.size W w') from by have h1 := Try.Check_any E hE.1 a n c U W h; rw [hr] at h1; exact h1)
  have HBK := fun (W : World) (a : Option Addr) (n c : Nat) (h : WordsAt W (.slice a n c) U) => Lib.hid (show Calls _ 18 #[.agg #[.int .u64 E, .slice a n c]] W (IntsQ L W) from by have h1 := Try.BackP_any E hE.1 a n c U hUk W h; rw [hb1] at h1; exact h1)
  have HBV := fun (W : World) (a : Option Addr) (n c : Nat) (h : WordsAt W (.slice a n c) V) => Lib.hid (show Calls _ 18 #[.agg #[.int .u64 E, .slice a n c]] W (IntsQ [] W) from by have h1 := Try.BackP_any E hE.1 a n c V hclr.1.s W h; rw [hbV] at h1; exact h1)
  have HCN := fun (h3 : x3 = true) (W : World) (a : Option Addr) (n c : Nat) (h : WordsAt W (.slice a n c) TS) => Lib.hid (show Calls _ 11 #[.agg #[.int .u64 TE, .slice a n c]] W (fun e w' => e = .returned (.int .i64 0) ∧ Below W.heap.size W w') from by
    obtain ⟨e1, e2, e3⟩ := h0 h3
    rw [e3] at h
    rw [e1]
    have h1 := Try.Check_any (E + 1) (by omega) a n c U W h
    rw [show rightN (E + 1) U = true from (rightN_iff _ _).2 (by have h := (rightN_iff E U).1 hr; exact ⟨by omega, h.2.1, h.2.2.1, fun y hy => by have := h.2.2.2 y hy; omega⟩)] at h1
    exact h1)
  have HUN := fun (j : Nat) (g : Int) (hj : j < L.length) (hg : g = L[j]?.getD 0) (W : World) (a : Option Addr) (n c : Nat) (h : WordsAt W (.slice a n c) (clr U (L.take j))) => Lib.hid (show Calls _ 23 #[.agg #[.int .u64 E, .slice a n c], .agg #[.int .i64 2, .int .i64 g, .int .u64 0]] W (fun e w' => (∃ v, e = .returned (.tuple #[.agg #[.int .u64 E, v], .int .i64 0]) ∧ OwnsWords W.heap.size (clr U (L.take (j + 1))) v w') ∧ Below W.heap.size W w') from by
    have hc := clr_ok hk hr (L.take j)
    have h1 := Try.DoP_any E a n c _ ⟨2, g, 0⟩ W h hc.1 (Int.le_refl 0)
    have e7 : L[j] = g := by rw [hg]; exact (getD_int L j hj).symm
    obtain ⟨k, e1, e2, e3, e4⟩ := back_get (E := E) (S := U) j (by rw [← hL]; exact hj)
    rw [← hL] at e1 e4
    rw [← hg] at e1
    have e5 : (clr U (L.take j))[k]?.getD 0 ≠ 0 := by rw [clr_get _ _ _ e2, if_neg (fun ⟨x, hx, e⟩ => e4 x hx e)]; exact e3
    have e6 : doP E (clr U (L.take j)) ⟨2, g, 0⟩ = (0, E, clr U (L.take (j + 1))) := by
      rw [doP_of hc.2, step_unpin (by rw [clr_len]; omega) (by rw [e1, Int.toNat_natCast]; exact e5), take_snoc L j hj, clr_snoc, e7]
      rfl
    rw [e6] at h1
    exact h1)
  have HRN := fun (W : World) (a : Option Addr) (n c : Nat) (q : Option Addr) (h : WordsAt W (.slice a n c) V) => Lib.hid (show Calls _ 26 #[.agg #[.int .u64 E, .slice a n c], .slice q 0 0] W (fun e w' => (∃ v, e = .returned (.tuple #[.agg #[.int .u64 E, v], .int .i64 0, .int .i64 0]) ∧ OwnsWords W.heap.size V v w') ∧ Below W.heap.size W w') from by have h1 := Try.RunP_any E a n c V q 0 0 [] W h hclr.1 (po_nil W q) (by simp) (by simp); rw [hrun] at h1; exact h1)
  have HSA := fun (W : World) (a1 a2 : Option Addr) (n1 n2 c1 c2 : Nat) (h1 : WordsAt W (.slice a1 n1 c1) V) (h2 : WordsAt W (.slice a2 n2 c2) V) => Lib.hid (show Calls _ 12 #[.agg #[.int .u64 E, .slice a1 n1 c1], .agg #[.int .u64 E, .slice a2 n2 c2]] W (fun e w' => e = .returned (.bool true) ∧ Below W.heap.size W w') from by have h3 := Try.Same_any E E a1 a2 n1 n2 c1 c2 V V W h1 h2 (by have := (wordsAt_len h1).1; have := right_len hclr.2; omega) (by have := (wordsAt_len h2).1; have := right_len hclr.2; omega); rw [decide_eq_true (rfl : E = E), decide_eq_true (rfl : V = V)] at h3; exact h3)
  have hgo2 : ∃ (u1 UE : Int) (US : List Int), (∀ z, doP E V ⟨3, z, 0⟩ = (u1, UE, US)) ∧ ((u1 == 0) = true ∨ ((u1 == 0) = false ∧ (u1 == 6) = true ∧ (E == 4611686018427387904) = true)) := by
    by_cases hm : E = 4611686018427387904
    · refine ⟨6, 0, [], fun z => ?_, .inr ⟨rfl, rfl, by simp [hm]⟩⟩
      rcases go_cases hclr.2 z with ⟨h, _⟩ | ⟨_, _, h⟩ | ⟨_, h, _⟩
      · rw [hhV] at h; cases h
      · exact h
      · exact absurd hm h
    · refine ⟨0, E + 1, V, fun z => ?_, .inl rfl⟩
      rcases go_cases hclr.2 z with ⟨h, _⟩ | ⟨_, h, _⟩ | ⟨_, _, h⟩
      · rw [hhV] at h; cases h
      · exact absurd h hm
      · exact h
  obtain ⟨u1, UE, US, hgo, hgf⟩ := hgo2
  have HD2 := fun (z : Int) (W : World) (a : Option Addr) (n c : Nat) (h : WordsAt W (.slice a n c) V) => Lib.hid (show Calls _ 23 #[.agg #[.int .u64 E, .slice a n c], .agg #[.int .i64 3, .int .i64 z, .int .u64 0]] W (fun e w' => (∃ v, e = .returned (.tuple #[.agg #[.int .u64 UE, v], .int .i64 u1]) ∧ OwnsWords W.heap.size US v w') ∧ Below W.heap.size W w') from by have h1 := Try.DoP_any E a n c V ⟨3, z, 0⟩ W h hclr.1 (Int.le_refl 0); rw [hgo z] at h1; exact h1)
  have hl9 : L.length ≤ 8 := by rw [hL]; exact trues_len _ 8
  have HV := Lib.hid hV
  have HL9 := Lib.hid hl9
  have hE6 : ∀ q : Bool, x2 = true → (E != 4611686018427387904) = false := fun _ h => by simp [h6 h]
  have hTE := Lib.hid (show x3 = true → TE = E + 1 from fun h => (h0 h).1)
  have hwr : IntKind.u64.wrap (E + 1) = E + 1 := wrap_u _ (by omega) (by omega)
  clear hr hT hh h0 h6 h8 hEm hb1 hL hV hclr hbV hhV hrun hgo hk hUk hE hS hl9
  have hB0 : Below w.heap.size w (w.alloc (.cells #[.int .u64 E, .slice a n c] 25)) := Rows8.newB
  have X0 := Lib.hid (Rows8.new w 25 #[.int .u64 E, .slice a n c])
  have HW := fun W => Lib.hid (Try.wakes_any W)
  have HOW := fun (W : World) (h : Below w.heap.size w W) => Lib.hid (Try.own_any E a n c S W (RowAt.below hI h))
  rw [← hU] at HOW
  have B := Lib.hid hB0
  clear hB0 hI hU
  go_enter Try.func6, Try.ntmps6
  go_wp2_with fail
  refine (HW _).out.mono ?_
  rintro e w1 ⟨rfl, hB⟩
  have X0 := Lib.hid (X0.out.below hB X0.out.lt)
  have B := Lib.hid (B.out.trans (hB.mono B.out.size))
  have c0 : w1.cell? ⟨w.heap.size, 0, none⟩ = some (.int .u64 E) := X0.out.cell 0
  have c1 : w1.cell? ⟨w.heap.size, 1, none⟩ = some (.slice a n c) := X0.out.cell 1
  have HOl := HOW w1 B.out
  clear hB HOW HW
  go_wp2_with fail
  refine HOl.out.mono ?_
  rintro e w2 ⟨⟨a1, n1, d1, rfl, hn1, hO⟩, hB⟩
  clear HOl c0 c1 X0
  have hw1 : w.heap.size ≤ w2.heap.size := Nat.le_trans B.out.size hB.size
  have hal : Below w2.heap.size w2 (w2.alloc (.cells #[.int .u64 E, .slice a1 n1 d1] 25)) := Rows8.newB
  have hOw : OwnsWords w.heap.size U (.slice a1 n1 d1) (w2.alloc (.cells #[.int .u64 E, .slice a1 n1 d1] 25)) := owns_keep (owns_mono hO B.out.size) hal (Nat.le_refl _)
  have hBw := hB.trans (hal.mono hB.size)
  have O1 := Lib.hid hOw
  have P1 := Lib.hid (Rows8.new w2 25 #[.int .u64 E, .slice a1 n1 d1])
  have B := Lib.hid (B.out.trans (hBw.mono B.out.size))
  clear hO hB hal hOw hBw
  go_upto_region 4 with fail
  generalize (w2.alloc (.cells #[.int .u64 E, .slice a1 n1 d1] 25)) = u2 at *
  obtain ⟨b1, hb1⟩ : ∃ b, b = w2.heap.size := ⟨_, rfl⟩
  have HB1 : Hid (w.heap.size ≤ b1) := Lib.hid (by rw [hb1]; exact hw1)
  rw [← hb1] at P1 ⊢
  clear hb1 hw1
  have c10 : u2.cell? ⟨b1, 0, none⟩ = some (.int .u64 E) := P1.out.cell 0
  have c11 : u2.cell? ⟨b1, 1, none⟩ = some (.slice a1 n1 d1) := P1.out.cell 1
  have HDl := HD1 u2 _ _ _ O1.out.at
  clear HD1
  go_wp2_with fail
  refine HDl.out.mono ?_
  rintro e w3 ⟨⟨v, rfl, hO⟩, hB⟩
  obtain ⟨a2, n2, d2, hv, hn2⟩ := hO.form2
  subst hv
  have N2 := Lib.hid hn2
  clear hn2
  clear HDl
  clear c10 c11
  have hw2 : w.heap.size ≤ w3.heap.size := Nat.le_trans B.out.size hB.size
  have hal : Below w3.heap.size w3 (w3.alloc (.cells #[.int .u64 TE, .slice a2 n2 d2] 25)) := Rows8.newB
  have hOw : OwnsWords w.heap.size TS (.slice a2 n2 d2) (w3.alloc (.cells #[.int .u64 TE, .slice a2 n2 d2] 25)) := owns_keep (owns_mono hO B.out.size) hal (Nat.le_refl _)
  have hBw := hB.trans (hal.mono hB.size)
  have O2 := Lib.hid hOw
  have P2 := Lib.hid (Rows8.new w3 25 #[.int .u64 TE, .slice a2 n2 d2])
  have P1 := Lib.hid (P1.out.below hBw P1.out.lt)
  have O1 : Hid (OwnsWords w.heap.size U (.slice a1 n1 d1) (w3.alloc (.cells #[.int .u64 TE, .slice a2 n2 d2] 25))) := Lib.hid (owns_keep O1.out hBw (Nat.le_refl _))
  have B := Lib.hid (B.out.trans (hBw.mono B.out.size))
  clear hO hB hal hOw hBw
  go_upto_region 5 with fail
  generalize (w3.alloc (.cells #[.int .u64 TE, .slice a2 n2 d2] 25)) = u3 at *
  obtain ⟨b2, hb2⟩ : ∃ b, b = w3.heap.size := ⟨_, rfl⟩
  have HB2 : Hid (w.heap.size ≤ b2) := Lib.hid (by rw [hb2]; exact hw2)
  rw [← hb2] at P2 ⊢
  clear hb2 hw2
  have c10 : u3.cell? ⟨b1, 0, none⟩ = some (.int .u64 E) := P1.out.cell 0
  have c11 : u3.cell? ⟨b1, 1, none⟩ = some (.slice a1 n1 d1) := P1.out.cell 1
  have HCl := HCH u3 _ _ _ O1.out.at
  go_wp2_with fail
  refine HCl.out.mono ?_
  rintro e w4 ⟨rfl, hB⟩
  clear HCl
  clear c10 c11
  have P1 := Lib.hid (P1.out.below hB P1.out.lt)
  have O1 : Hid (OwnsWords w.heap.size U (.slice a1 n1 d1) w4) := Lib.hid (owns_keep O1.out hB (Nat.le_refl _))
  have P2 := Lib.hid (P2.out.below hB P2.out.lt)
  have O2 : Hid (OwnsWords w.heap.size TS (.slice a2 n2 d2) w4) := Lib.hid (owns_keep O2.out hB (Nat.le_refl _))
  have B := Lib.hid (B.out.trans (hB.mono B.out.size))
  clear hB
  go_upto_region 7 with fail
  go_cut [49] from 34 (fun s49 wc => s49 = .bool false ∧ Hid (Rows8 wc b1 25 #[.int .u64 E, .slice a1 n1 d1]) ∧ Hid (Rows8 wc b2 25 #[.int .u64 TE, .slice a2 n2 d2]) ∧ Hid (OwnsWords w.heap.size U (.slice a1 n1 d1) wc) ∧ Hid (OwnsWords w.heap.size TS (.slice a2 n2 d2) wc) ∧ Hid (Below w.heap.size w wc))
  case first =>
    have hxx : (x1 != x1) = false := by cases x1 <;> rfl
    have c10 : w4.cell? ⟨b1, 0, none⟩ = some (.int .u64 E) := P1.out.cell 0
    have c11 : w4.cell? ⟨b1, 1, none⟩ = some (.slice a1 n1 d1) := P1.out.cell 1
    have HCl := HBK w4 _ _ _ O1.out.at
    go_wp2_with fail
    refine HCl.out.mono ?_
    rintro e w5 ⟨v, rfl, hO, hB⟩
    obtain ⟨ai, ni, di, rfl, hni⟩ := OwnsInts.form2 hO
    have hd1 : decide (0 < ni) = x1 := by rw [hni]; exact hhl
    have hd2 : decide ((0 : Int) < (ni : Int)) = x1 := by rw [← hd1]; simp
    have hd3 : decide ((ni : Int) > 0) = x1 := hd2
    clear HCl hni hhl
    clear c10 c11
    have P1 := Lib.hid (P1.out.below hB P1.out.lt)
    have O1 : Hid (OwnsWords w.heap.size U (.slice a1 n1 d1) w5) := Lib.hid (owns_keep O1.out hB (Nat.le_refl _))
    have P2 := Lib.hid (P2.out.below hB P2.out.lt)
    have O2 : Hid (OwnsWords w.heap.size TS (.slice a2 n2 d2) w5) := Lib.hid (owns_keep O2.out hB (Nat.le_refl _))
    have B := Lib.hid (B.out.trans (hB.mono B.out.size))
    clear hO hB
    have c10 : w5.cell? ⟨b1, 0, none⟩ = some (.int .u64 E) := P1.out.cell 0
    have c11 : w5.cell? ⟨b1, 1, none⟩ = some (.slice a1 n1 d1) := P1.out.cell 1
    cases x2 with
    | true =>
      have he6 := hE6 true rfl
      have hx10 := h60 rfl
      go_wp2_with fail
      go_meet
      exact ⟨rfl, P1, P2, O1, O2, B⟩
    | false =>
      go_wp2_with fail
      go_meet
      exact ⟨rfl, P1, P2, O1, O2, B⟩
  case rest =>
    obtain ⟨rfl, P1, P2, O1, O2, B⟩ := hcut
    obtain ⟨wv, rfl⟩ : ∃ x, x = wc := ⟨_, rfl⟩
    go_upto_region 9 with fail
    go_cut [64] from 50 (fun s64 wc => s64 = .bool false ∧ Hid (Rows8 wc b1 25 #[.int .u64 E, .slice a1 n1 d1]) ∧ Hid (Rows8 wc b2 25 #[.int .u64 TE, .slice a2 n2 d2]) ∧ Hid (OwnsWords w.heap.size U (.slice a1 n1 d1) wc) ∧ Hid (OwnsWords w.heap.size TS (.slice a2 n2 d2) wc) ∧ Hid (Below w.heap.size w wc))
    case first =>
      have c10 : wv.cell? ⟨b1, 0, none⟩ = some (.int .u64 E) := P1.out.cell 0
      have c11 : wv.cell? ⟨b1, 1, none⟩ = some (.slice a1 n1 d1) := P1.out.cell 1
      have c20 : wv.cell? ⟨b2, 0, none⟩ = some (.int .u64 TE) := P2.out.cell 0
      have c21 : wv.cell? ⟨b2, 1, none⟩ = some (.slice a2 n2 d2) := P2.out.cell 1
      cases x3 with
      | true =>
        have hte : TE = E + 1 := hTE.out rfl
        have hte2 : (TE != E + 1) = false := by simp [hte]
        have HCl := HCN rfl wv _ _ _ O2.out.at
        clear hte
        go_wp2_with fail
        refine HCl.out.mono ?_
        rintro e w6 ⟨rfl, hB⟩
        clear HCl
        clear c10 c11 c20 c21
        have P1 := Lib.hid (P1.out.below hB P1.out.lt)
        have O1 : Hid (OwnsWords w.heap.size U (.slice a1 n1 d1) w6) := Lib.hid (owns_keep O1.out hB (Nat.le_refl _))
        have P2 := Lib.hid (P2.out.below hB P2.out.lt)
        have O2 : Hid (OwnsWords w.heap.size TS (.slice a2 n2 d2) w6) := Lib.hid (owns_keep O2.out hB (Nat.le_refl _))
        have B := Lib.hid (B.out.trans (hB.mono B.out.size))
        clear hB
        go_wp2_with fail
        go_meet
        exact ⟨rfl, P1, P2, O1, O2, B⟩
      | false =>
        go_wp2_with fail
        go_meet
        exact ⟨rfl, P1, P2, O1, O2, B⟩
    case rest =>
      obtain ⟨rfl, P1, P2, O1, O2, B⟩ := hcut
      clear P2 O2 HCN HCH h60 hE6 hTE hwr hhl
      have c10 : wc.cell? ⟨b1, 0, none⟩ = some (.int .u64 E) := P1.out.cell 0
      have c11 : wc.cell? ⟨b1, 1, none⟩ = some (.slice a1 n1 d1) := P1.out.cell 1
      have HCl := HBK wc _ _ _ O1.out.at
      clear HBK
      go_wp2_with fail
      refine HCl.out.mono ?_
      rintro e w7 ⟨v, rfl, hO, hB⟩
      obtain ⟨ai, ni, di, rfl, hni⟩ := OwnsInts.form2 hO
      have HNI := Lib.hid hni
      have HR := Lib.hid (owns_mono hO B.out.size)
      clear HCl hni
      clear c10 c11
      have P1 := Lib.hid (P1.out.below hB P1.out.lt)
      have O1 : Hid (OwnsWords w.heap.size U (.slice a1 n1 d1) w7) := Lib.hid (owns_keep O1.out hB (Nat.le_refl _))
      have B := Lib.hid (B.out.trans (hB.mono B.out.size))
      clear hO hB
      have hU0 : Hid (OwnsWords w.heap.size (clr U (L.take 0)) (.slice a1 n1 d1) w7) := Lib.hid O1.out
      have hnr : ni ≤ 8 := by rw [HNI.out]; exact HL9.out
      go_wp2_with fail
      go_loopw [68] (fun j wr => ∃ (i : Nat) (a3 : Option Addr) (n3 d3 : Nat), i ≤ ni ∧ j = .int .i64 i ∧ Hid (Rows8 wr b1 25 #[.int .u64 E, .slice a3 n3 d3]) ∧ Hid (OwnsWords w.heap.size (clr U (L.take i)) (.slice a3 n3 d3) wr) ∧ Hid (wr.ownsRow w.heap.size 3 1 (.slice ai ni di) L.length (intVals L)) ∧ Hid (Below w.heap.size w wr)) (fun j _ => ni - (intOf j).toNat)
      case atStart => exact ⟨0, a1, n1, d1, Nat.zero_le _, rfl, P1, hU0, HR, B⟩
      case round =>
        obtain ⟨i, a3, n3, d3, hi, rfl, hP, hO, hR, hBB⟩ := hrel
        clear P1 hU0 O1 HR B
        by_cases hlt : i < ni
        · have hki : (i : Int) < (ni : Int) := by omega
          have hki0 : (0 : Int) ≤ (i : Int) := by omega
          have hil : i < L.length := by rw [← HNI.out]; exact hlt
          obtain ⟨b, off, rfl, hb3, z0⟩ := intsAt_get (show IntsAt wr (.slice ai ni di) L from rowAt_own hR.out) i hil
          obtain ⟨g, hg⟩ : ∃ g, g = L[i]?.getD 0 := ⟨_, rfl⟩
          rw [← hg] at z0
          have HCl := HUN i g hil hg wr a3 n3 d3 hO.out.at
          have c10 : wr.cell? ⟨b1, 0, none⟩ = some (.int .u64 E) := hP.out.cell 0
          have c11 : wr.cell? ⟨b1, 1, none⟩ = some (.slice a3 n3 d3) := hP.out.cell 1
          clear hg hil
          go_wp2_with fail
          refine HCl.out.mono ?_
          rintro e w8 ⟨⟨v, rfl, hv⟩, hB⟩
          obtain ⟨a5, n5, d5, rfl, -⟩ := hv.form2
          have p8 := hP.out.below hB hP.out.lt
          have k0 : w8.cell? ⟨b1, 0, none⟩ = some (.int .u64 E) := p8.cell 0
          have k1 : w8.cell? ⟨b1, 1, none⟩ = some (.slice a3 n3 d3) := p8.cell 1
          have f0 := p8.frozen 0
          have f1 := p8.frozen 1
          have l8 := p8.lt
          have P9 := Lib.hid (p8.set2 (.int .u64 E) (.slice a5 n5 d5))
          have O9 : Hid (OwnsWords w.heap.size (clr U (L.take (i + 1))) (.slice a5 n5 d5) _) := Lib.hid (owns_setT (owns_setT (owns_mono hv hBB.out.size) (a := ⟨b1, 0, none⟩) p8 (by decide) (.int .u64 E)) (a := ⟨b1, 1, none⟩) (p8.set 0 (.int .u64 E)) (by decide) (.slice a5 n5 d5))
          have R9 := Lib.hid (owns_setT (owns_setT (owns_keep hR.out hB (Nat.le_refl _)) (a := ⟨b1, 0, none⟩) p8 (by decide) (.int .u64 E)) (a := ⟨b1, 1, none⟩) (p8.set 0 (.int .u64 E)) (by decide) (.slice a5 n5 d5))
          have B9 := Lib.hid (((hBB.out.trans (hB.mono hBB.out.size)).setCell (p := ⟨b1, 0, none⟩) HB1.out (.int .u64 E)).setCell (p := ⟨b1, 1, none⟩) HB1.out (.slice a5 n5 d5))
          clear HCl hv hB p8 hP hO hR hBB c10 c11 z0 hb3
          go_wp2_with fail
          exact ⟨⟨i + 1, a5, n5, d5, by omega, by go_num, P9, O9, R9, B9⟩, by simp [intOf]; omega⟩
        · obtain rfl : i = ni := by omega
          have hki : ¬ (i : Int) < (i : Int) := by omega
          have htk : L.take i = L := List.take_of_length_le (by rw [← HNI.out]; exact Nat.le_refl _)
          have O1 : Hid (OwnsWords w.heap.size V (.slice a3 n3 d3) wr) := Lib.hid (by have h := hO.out; rw [htk, ← HV.out] at h; exact h)
          have P1 := hP
          have B := hBB
          clear htk hO hR hP hBB hlt hi HUN
          go_wp2_with fail
          refine wp_region_X (fun W' => Rows8 W' b1 25 #[.int .u64 E, .slice a3 n3 d3]) 11 (by kernel_rfl) ?_
          have hS0 : Rows8 wr.drew b1 25 #[.int .u64 E, .slice a3 n3 d3] := P1.out.drewA
          have O1 : Hid (OwnsWords w.heap.size V (.slice a3 n3 d3) wr.drew) := Lib.hid O1.out
          have B := Lib.hid B.out.drew
          clear P1
          generalize wr.drew = W0 at *
          refine wpAnyN_take (i := 0) (oi := { dst := some 87, op := Go.Op.load 25 (Go.Operand.tmp 5), type := 25, pos := "outright.go:62", after := #[], guard := none }) (v := .agg #[.int .u64 E, .slice a3 n3 d3]) rfl (by decide) (by kernel_rfl) (by kernel_rfl) (by kernel_rfl) (fun _ _ _ h => h) (Or.inl ⟨by rfl, ?_⟩) hS0 ?_
          · intro W9 hS9
            have s0 : W9.cell? ⟨b1, 0, none⟩ = some (.int .u64 E) := hS9.cell 0
            have s1 : W9.cell? ⟨b1, 1, none⟩ = some (.slice a3 n3 d3) := hS9.cell 1
            clear hS9
            go_simp
          try simp only [Act.put, List.setIfInBounds_toArray, List.set_cons_zero, List.set_cons_succ]
          refine wpAnyX_two (i := 1) (j := 7) (oi := { dst := some 88, op := Go.Op.makeSlice 41 (Go.Operand.const (Go.Value.int Go.IntKind.i64 0)) (Go.Operand.const (Go.Value.int Go.IntKind.i64 0)), type := 41, pos := "outright.go:62", after := #[], guard := none }) (oj := { dst := some 11, op := Go.Op.alloc 25, type := 0, pos := "outright.go:62", after := #[], guard := none }) (by kernel_rfl) rfl rfl (fun K hK => ?_) (fun K hK => ?_)
          · obtain ⟨W1_, hrun, hown, hgr⟩ := run_make_full (P := Try.prog) W0 W0.heap.size 41 44 i0 (.agg #[.int .i64 0, .int .i64 0, .int .u64 0]) 3 Try.underlying41 hi hz0 hz1 .i64 .i64 0 (by simp) (by unfold maxLen; omega) (Nat.le_refl _)
            replace hrun : (Instr.makeSlice 41 (.int .i64 0) (.int .i64 0)).run Try.prog W0 = .ok (.slice (some ⟨W0.heap.size, 0, none⟩) 0 0) W1_ := hrun
            have hC : Below W0.heap.size W0 W1_ := (Below.refl _ W0).grown hgr (Nat.le_refl _) (fun j ej => by cases ej)
            obtain ⟨qa, hqa⟩ : ∃ q : Option Addr, q = some ⟨W0.heap.size, 0, none⟩ := ⟨_, rfl⟩
            refine step_value_g (by rfl) (v := .slice qa 0 0) (w' := W1_) (by rw [hqa]; go_simp) ?_
            have hS1 : Rows8 W1_ b1 25 #[.int .u64 E, .slice a3 n3 d3] := hS0.below hC hS0.lt
            have O1 : Hid (OwnsWords w.heap.size V (.slice a3 n3 d3) W1_) := Lib.hid (owns_keep O1.out hC (Nat.le_refl _))
            have B := Lib.hid (B.out.trans (hC.mono B.out.size))
            clear hC hrun hown hgr hqa
            refine hK.out _ _ (fun _ => hS1) ?_
            clear hK K
            try simp only [Act.put, List.setIfInBounds_toArray, List.set_cons_zero, List.set_cons_succ]
            refine wpAnyX_two (i := 2) (j := 7) (oi := { dst := some 89, op := Go.Op.call { callee := Go.Callee.value (Go.Operand.func 26), args := #[Go.Operand.tmp 87, Go.Operand.tmp 88], argTypes := #[25, 41] }, type := 47, pos := "outright.go:62", after := #[{ on := 0, ground := Go.Ground.data }, { on := 1, ground := Go.Ground.data }], guard := none }) (oj := { dst := some 11, op := Go.Op.alloc 25, type := 0, pos := "outright.go:62", after := #[], guard := none }) (by kernel_rfl) rfl rfl (fun K hK => ?_) (fun K hK => ?_)
            · refine step_call_g (by rfl) 26 _ _ rfl (fun _ _ => by kernel_rfl) #[.agg #[.int .u64 E, .slice a3 n3 d3], .slice qa 0 0] (by simp [go_sem]) _ (HRN W1_ _ _ _ qa O1.out.at).out ?_
              rintro e W2_ ⟨⟨v, rfl, hO⟩, hC⟩
              refine ⟨_, rfl, ?_⟩
              obtain ⟨aq, nq, dq, rfl, -⟩ := hO.form2
              have OQ := Lib.hid (owns_mono hO B.out.size)
              have hS2 : Rows8 W2_ b1 25 #[.int .u64 E, .slice a3 n3 d3] := hS1.below hC hS1.lt
              have O1 : Hid (OwnsWords w.heap.size V (.slice a3 n3 d3) W2_) := Lib.hid (owns_keep O1.out hC (Nat.le_refl _))
              have B := Lib.hid (B.out.trans (hC.mono B.out.size))
              clear hC hO
              refine hK.out _ _ (fun _ => hS2) ?_
              clear hK K
              try simp only [Act.put, List.setIfInBounds_toArray, List.set_cons_zero, List.set_cons_succ]
              refine wpAnyN_take (i := 3) (oi := { dst := some 86, op := Go.Op.move (Go.Operand.tmp 89), type := 47, pos := "outright.go:62", after := #[{ on := 2, ground := Go.Ground.data }], guard := none }) (v := .tuple #[.agg #[.int .u64 E, .slice aq nq dq], .int .i64 0, .int .i64 0]) rfl (by decide) (by kernel_rfl) (by kernel_rfl) (by kernel_rfl) (fun _ _ _ h => h) (Or.inl ⟨by rfl, ?_⟩) hS2 ?_
              · intro W9 hS9
                clear hS9
                go_simp
              try simp only [Act.put, List.setIfInBounds_toArray, List.set_cons_zero, List.set_cons_succ]
              refine wpAnyN_take (i := 4) (oi := { dst := some 90, op := Go.Op.extract (Go.Operand.tmp 86) 0, type := 25, pos := "outright.go:62", after := #[{ on := 3, ground := Go.Ground.data }], guard := none }) (v := .agg #[.int .u64 E, .slice aq nq dq]) rfl (by decide) (by kernel_rfl) (by kernel_rfl) (by kernel_rfl) (fun _ _ _ h => h) (Or.inl ⟨by rfl, ?_⟩) hS2 ?_
              · intro W9 hS9
                clear hS9
                go_simp
              try simp only [Act.put, List.setIfInBounds_toArray, List.set_cons_zero, List.set_cons_succ]
              refine wpAnyN_take (i := 5) (oi := { dst := some 91, op := Go.Op.extract (Go.Operand.tmp 86) 1, type := 3, pos := "outright.go:62", after := #[{ on := 3, ground := Go.Ground.data }, { on := 8, ground := Go.Ground.gcOnly Go.Departure.lateStores }], guard := none }) (v := .int .i64 0) rfl (by decide) (by kernel_rfl) (by kernel_rfl) (by kernel_rfl) (fun _ _ _ h => h) (Or.inl ⟨by rfl, ?_⟩) hS2 ?_
              · intro W9 hS9
                clear hS9
                go_simp
              try simp only [Act.put, List.setIfInBounds_toArray, List.set_cons_zero, List.set_cons_succ]
              refine wpAnyN_take (i := 6) (oi := { dst := some 92, op := Go.Op.extract (Go.Operand.tmp 86) 2, type := 29, pos := "outright.go:62", after := #[{ on := 3, ground := Go.Ground.data }, { on := 9, ground := Go.Ground.gcOnly Go.Departure.lateStores }], guard := none }) (v := .int .i64 0) rfl (by decide) (by kernel_rfl) (by kernel_rfl) (by kernel_rfl) (fun _ _ _ h => h) (Or.inl ⟨by rfl, ?_⟩) hS2 ?_
              · intro W9 hS9
                clear hS9
                go_simp
              try simp only [Act.put, List.setIfInBounds_toArray, List.set_cons_zero, List.set_cons_succ]
              refine wpAnyX_one (i := 7) (o := { dst := some 11, op := Go.Op.alloc 25, type := 0, pos := "outright.go:62", after := #[], guard := none }) (by kernel_rfl) rfl (fun K hK => ?_)
              have hC : Below W2_.heap.size W2_ (W2_.alloc (.cells #[.int .u64 0, .slice none 0 0] 25)) := Rows8.newB
              have BX := Lib.hid (Rows8.new W2_ 25 #[.int .u64 0, .slice none 0 0])
              obtain ⟨W3_, hW⟩ : ∃ W, W = W2_.alloc (.cells #[.int .u64 0, .slice none 0 0] 25) := ⟨_, rfl⟩
              obtain ⟨bx, hbx0⟩ : ∃ b, b = W2_.heap.size := ⟨_, rfl⟩
              refine step_value_g (by rfl) (v := .pointer (some ⟨bx, 0, none⟩)) (w' := W3_) (by rw [hW, hbx0]; go_simp) ?_
              rw [← hW, ← hbx0] at BX
              rw [← hW] at hC
              have HBNE : bx ≠ b1 := by rw [hbx0]; exact Nat.ne_of_gt hS2.lt
              have HBXL : w.heap.size ≤ bx := by rw [hbx0]; exact B.out.size
              clear hW hbx0
              have hS3 : Rows8 W3_ b1 25 #[.int .u64 E, .slice a3 n3 d3] := hS2.below hC hS2.lt
              have O1 : Hid (OwnsWords w.heap.size V (.slice a3 n3 d3) W3_) := Lib.hid (owns_keep O1.out hC (Nat.le_refl _))
              have B := Lib.hid (B.out.trans (hC.mono B.out.size))
              have OQ : Hid (OwnsWords w.heap.size V (.slice aq nq dq) W3_) := Lib.hid (owns_keep OQ.out hC (Nat.le_refl _))
              clear hC
              refine hK.out _ _ (fun _ => hS3) ?_
              clear hK K
              try simp only [Act.put, List.setIfInBounds_toArray, List.set_cons_zero, List.set_cons_succ]
              refine wpAnyX_one (i := 8) (o := { dst := none, op := Go.Op.store 25 (Go.Operand.tmp 11) (Go.Operand.tmp 90), type := 0, pos := "outright.go:62", after := #[{ on := 7, ground := Go.Ground.data }, { on := 4, ground := Go.Ground.data }, { on := 2, ground := Go.Ground.chain }, { on := 0, ground := Go.Ground.phase }, { on := 1, ground := Go.Ground.phase }, { on := 2, ground := Go.Ground.phase }, { on := 3, ground := Go.Ground.phase }, { on := 4, ground := Go.Ground.phase }, { on := 5, ground := Go.Ground.textOnly Go.Departure.lateStores }, { on := 6, ground := Go.Ground.textOnly Go.Departure.lateStores }, { on := 7, ground := Go.Ground.phase }], guard := none }) (by kernel_rfl) rfl (fun K hK => ?_)
              have k0 : W3_.cell? ⟨bx, 0, none⟩ = some (.int .u64 0) := BX.out.cell 0
              have k1 : W3_.cell? ⟨bx, 1, none⟩ = some (.slice none 0 0) := BX.out.cell 1
              have f0 := BX.out.frozen 0
              have f1 := BX.out.frozen 1
              refine step_skip_g (by rfl) (w' := (W3_.setCell ⟨bx, 0, none⟩ (.int .u64 E)).setCell ⟨bx, 1, none⟩ (.slice aq nq dq)) (by go_simp) ?_
              have hbne : bx ≠ b1 := HBNE
              have hS9_ : Rows8 ((W3_.setCell ⟨bx, 0, none⟩ (.int .u64 E)).setCell ⟨bx, 1, none⟩ (.slice aq nq dq)) b1 25 #[.int .u64 E, .slice a3 n3 d3] := (hS3.setOther (a := ⟨bx, 0, none⟩) hbne _).setOther (a := ⟨bx, 1, none⟩) hbne _
              have P2 := Lib.hid (BX.out.set2 (.int .u64 E) (.slice aq nq dq))
              have O1 : Hid (OwnsWords w.heap.size V (.slice a3 n3 d3) ((W3_.setCell ⟨bx, 0, none⟩ (.int .u64 E)).setCell ⟨bx, 1, none⟩ (.slice aq nq dq))) := Lib.hid (owns_setT (owns_setT O1.out (a := ⟨bx, 0, none⟩) BX.out (by decide) (.int .u64 E)) (a := ⟨bx, 1, none⟩) (BX.out.set 0 (.int .u64 E)) (by decide) (.slice aq nq dq))
              have O2 : Hid (OwnsWords w.heap.size V (.slice aq nq dq) ((W3_.setCell ⟨bx, 0, none⟩ (.int .u64 E)).setCell ⟨bx, 1, none⟩ (.slice aq nq dq))) := Lib.hid (owns_setT (owns_setT OQ.out (a := ⟨bx, 0, none⟩) BX.out (by decide) (.int .u64 E)) (a := ⟨bx, 1, none⟩) (BX.out.set 0 (.int .u64 E)) (by decide) (.slice aq nq dq))
              have B := Lib.hid ((B.out.setCell (p := ⟨bx, 0, none⟩) HBXL (.int .u64 E)).setCell (p := ⟨bx, 1, none⟩) HBXL (.slice aq nq dq))
              clear k0 k1 f0 f1 BX OQ
              refine hK.out _ _ (fun _ => hS9_) ?_
              clear hK K
              try simp only [Act.put, List.setIfInBounds_toArray, List.set_cons_zero, List.set_cons_succ]
              generalize ((W3_.setCell ⟨bx, 0, none⟩ (.int .u64 E)).setCell ⟨bx, 1, none⟩ (.slice aq nq dq)) = We at *
              refine wpAnyN_take (i := 9) (oi := { dst := some 12, op := Go.Op.assign (Go.Operand.tmp 91), type := 3, pos := "outright.go:62", after := #[{ on := 5, ground := Go.Ground.data }, { on := 8, ground := Go.Ground.chain }, { on := 0, ground := Go.Ground.phase }, { on := 1, ground := Go.Ground.phase }, { on := 2, ground := Go.Ground.phase }, { on := 3, ground := Go.Ground.phase }, { on := 4, ground := Go.Ground.phase }, { on := 5, ground := Go.Ground.phase }, { on := 6, ground := Go.Ground.textOnly Go.Departure.lateStores }, { on := 7, ground := Go.Ground.phase }, { on := 8, ground := Go.Ground.phase }], guard := none }) (v := .int .i64 0) rfl (by decide) (by kernel_rfl) (by kernel_rfl) (by kernel_rfl) (fun _ _ _ h => h) (Or.inl ⟨by rfl, ?_⟩) hS9_ ?_
              · intro W9 hS9
                clear hS9
                go_simp
              try simp only [Act.put, List.setIfInBounds_toArray, List.set_cons_zero, List.set_cons_succ]
              refine wpAnyN_take (i := 10) (oi := { dst := some 7, op := Go.Op.assign (Go.Operand.tmp 92), type := 29, pos := "outright.go:62", after := #[{ on := 6, ground := Go.Ground.data }, { on := 9, ground := Go.Ground.chain }, { on := 0, ground := Go.Ground.phase }, { on := 1, ground := Go.Ground.phase }, { on := 2, ground := Go.Ground.phase }, { on := 3, ground := Go.Ground.phase }, { on := 4, ground := Go.Ground.phase }, { on := 5, ground := Go.Ground.phase }, { on := 6, ground := Go.Ground.phase }, { on := 7, ground := Go.Ground.phase }, { on := 8, ground := Go.Ground.phase }, { on := 9, ground := Go.Ground.phase }], guard := none }) (v := .int .i64 0) rfl (by decide) (by kernel_rfl) (by kernel_rfl) (by kernel_rfl) (fun _ _ _ h => h) (Or.inl ⟨by rfl, ?_⟩) hS9_ ?_
              · intro W9 hS9
                clear hS9
                go_simp
              try simp only [Act.put, List.setIfInBounds_toArray, List.set_cons_zero, List.set_cons_succ]
              refine wpAnyX_end (by kernel_rfl) ?_
              have P1 := Lib.hid hS9_
              have l1 := P1.out.lt
              have l2 := P2.out.lt
              have c10 : We.cell? ⟨b1, 0, none⟩ = some (.int .u64 E) := P1.out.cell 0
              have c11 : We.cell? ⟨b1, 1, none⟩ = some (.slice a3 n3 d3) := P1.out.cell 1
              have c20 : We.cell? ⟨bx, 0, none⟩ = some (.int .u64 E) := P2.out.cell 0
              have c21 : We.cell? ⟨bx, 1, none⟩ = some (.slice aq nq dq) := P2.out.cell 1
              have HCl := HSA We _ _ _ _ _ _ O2.out.at O1.out.at
              go_wp2_with fail
              refine HCl.out.mono ?_
              rintro e y1 ⟨rfl, hB⟩
              clear HCl c10 c11 c20 c21 l1 l2
              have P1 := Lib.hid (P1.out.below hB P1.out.lt)
              have O1 : Hid (OwnsWords w.heap.size V (.slice a3 n3 d3) y1) := Lib.hid (owns_keep O1.out hB (Nat.le_refl _))
              have B := Lib.hid (B.out.trans (hB.mono B.out.size))
              have l1 := P1.out.lt
              have c10 : y1.cell? ⟨b1, 0, none⟩ = some (.int .u64 E) := P1.out.cell 0
              have c11 : y1.cell? ⟨b1, 1, none⟩ = some (.slice a3 n3 d3) := P1.out.cell 1
              have HCl := HBV y1 _ _ _ O1.out.at
              clear hB
              go_wp2_with fail
              refine HCl.out.mono ?_
              rintro e y2 ⟨v, rfl, hO, hB⟩
              obtain ⟨av, dv, hv⟩ := hO.form
              replace hv : v = .slice av 0 dv := hv
              subst hv
              clear HCl c10 c11 l1
              have P1 := Lib.hid (P1.out.below hB P1.out.lt)
              have O1 : Hid (OwnsWords w.heap.size V (.slice a3 n3 d3) y2) := Lib.hid (owns_keep O1.out hB (Nat.le_refl _))
              have B := Lib.hid (B.out.trans (hB.mono B.out.size))
              have l1 := P1.out.lt
              have c10 : y2.cell? ⟨b1, 0, none⟩ = some (.int .u64 E) := P1.out.cell 0
              have c11 : y2.cell? ⟨b1, 1, none⟩ = some (.slice a3 n3 d3) := P1.out.cell 1
              have HCl := fun z => HD2 z y2 _ _ _ O1.out.at
              clear hB hO
              go_wp2_with fail
              refine (HCl _).out.mono ?_
              rintro e y3 ⟨⟨v, rfl, hO⟩, hB⟩
              clear HCl c10 c11 l1
              have P1 := Lib.hid (P1.out.below hB P1.out.lt)
              have B := Lib.hid (B.out.trans (hB.mono B.out.size))
              have l1 := P1.out.lt
              have c10 : y3.cell? ⟨b1, 0, none⟩ = some (.int .u64 E) := P1.out.cell 0
              clear hO hB
              rcases hgf with h9 | ⟨h9, h10, h11⟩
              · go_wp2_with fail
                go_ret
                exact ⟨rfl, B.out⟩
              · go_wp2_with fail
                go_ret
                exact ⟨rfl, B.out⟩
            · have hC : Below W1_.heap.size W1_ (W1_.alloc (.cells #[.int .u64 0, .slice none 0 0] 25)) := Rows8.newB
              have BX := Lib.hid (Rows8.new W1_ 25 #[.int .u64 0, .slice none 0 0])
              obtain ⟨W2_, hW⟩ : ∃ W, W = W1_.alloc (.cells #[.int .u64 0, .slice none 0 0] 25) := ⟨_, rfl⟩
              obtain ⟨bx, hbx0⟩ : ∃ b, b = W1_.heap.size := ⟨_, rfl⟩
              refine step_value_g (by rfl) (v := .pointer (some ⟨bx, 0, none⟩)) (w' := W2_) (by rw [hW, hbx0]; go_simp) ?_
              rw [← hW, ← hbx0] at BX
              rw [← hW] at hC
              have HBNE : bx ≠ b1 := by rw [hbx0]; exact Nat.ne_of_gt hS1.lt
              have HBXL : w.heap.size ≤ bx := by rw [hbx0]; exact B.out.size
              clear hW hbx0
              have hS2 : Rows8 W2_ b1 25 #[.int .u64 E, .slice a3 n3 d3] := hS1.below hC hS1.lt
              have O1 : Hid (OwnsWords w.heap.size V (.slice a3 n3 d3) W2_) := Lib.hid (owns_keep O1.out hC (Nat.le_refl _))
              have B := Lib.hid (B.out.trans (hC.mono B.out.size))
              clear hC
              refine hK.out _ _ (fun _ => hS2) ?_
              clear hK K
              try simp only [Act.put, List.setIfInBounds_toArray, List.set_cons_zero, List.set_cons_succ]
              refine wpAnyX_one (i := 2) (o := { dst := some 89, op := Go.Op.call { callee := Go.Callee.value (Go.Operand.func 26), args := #[Go.Operand.tmp 87, Go.Operand.tmp 88], argTypes := #[25, 41] }, type := 47, pos := "outright.go:62", after := #[{ on := 0, ground := Go.Ground.data }, { on := 1, ground := Go.Ground.data }], guard := none }) (by kernel_rfl) rfl (fun K hK => ?_)
              refine step_call_g (by rfl) 26 _ _ rfl (fun _ _ => by kernel_rfl) #[.agg #[.int .u64 E, .slice a3 n3 d3], .slice qa 0 0] (by simp [go_sem]) _ (HRN W2_ _ _ _ qa O1.out.at).out ?_
              rintro e W3_ ⟨⟨v, rfl, hO⟩, hC⟩
              refine ⟨_, rfl, ?_⟩
              obtain ⟨aq, nq, dq, rfl, -⟩ := hO.form2
              have OQ := Lib.hid (owns_mono hO B.out.size)
              have hS3 : Rows8 W3_ b1 25 #[.int .u64 E, .slice a3 n3 d3] := hS2.below hC hS2.lt
              have O1 : Hid (OwnsWords w.heap.size V (.slice a3 n3 d3) W3_) := Lib.hid (owns_keep O1.out hC (Nat.le_refl _))
              have B := Lib.hid (B.out.trans (hC.mono B.out.size))
              have BX : Hid (Rows8 W3_ bx 25 #[.int .u64 0, .slice none 0 0]) := Lib.hid (BX.out.below hC BX.out.lt)
              have hbx : bx < W3_.heap.size := BX.out.lt
              clear hC hO
              refine hK.out _ _ (fun _ => hS3) ?_
              clear hK K
              try simp only [Act.put, List.setIfInBounds_toArray, List.set_cons_zero, List.set_cons_succ]
              refine wpAnyN_take (i := 3) (oi := { dst := some 86, op := Go.Op.move (Go.Operand.tmp 89), type := 47, pos := "outright.go:62", after := #[{ on := 2, ground := Go.Ground.data }], guard := none }) (v := .tuple #[.agg #[.int .u64 E, .slice aq nq dq], .int .i64 0, .int .i64 0]) rfl (by decide) (by kernel_rfl) (by kernel_rfl) (by kernel_rfl) (fun _ _ _ h => h) (Or.inl ⟨by rfl, ?_⟩) hS3 ?_
              · intro W9 hS9
                clear hS9
                go_simp
              try simp only [Act.put, List.setIfInBounds_toArray, List.set_cons_zero, List.set_cons_succ]
              refine wpAnyN_take (i := 4) (oi := { dst := some 90, op := Go.Op.extract (Go.Operand.tmp 86) 0, type := 25, pos := "outright.go:62", after := #[{ on := 3, ground := Go.Ground.data }], guard := none }) (v := .agg #[.int .u64 E, .slice aq nq dq]) rfl (by decide) (by kernel_rfl) (by kernel_rfl) (by kernel_rfl) (fun _ _ _ h => h) (Or.inl ⟨by rfl, ?_⟩) hS3 ?_
              · intro W9 hS9
                clear hS9
                go_simp
              try simp only [Act.put, List.setIfInBounds_toArray, List.set_cons_zero, List.set_cons_succ]
              refine wpAnyN_take (i := 5) (oi := { dst := some 91, op := Go.Op.extract (Go.Operand.tmp 86) 1, type := 3, pos := "outright.go:62", after := #[{ on := 3, ground := Go.Ground.data }, { on := 8, ground := Go.Ground.gcOnly Go.Departure.lateStores }], guard := none }) (v := .int .i64 0) rfl (by decide) (by kernel_rfl) (by kernel_rfl) (by kernel_rfl) (fun _ _ _ h => h) (Or.inl ⟨by rfl, ?_⟩) hS3 ?_
              · intro W9 hS9
                clear hS9
                go_simp
              try simp only [Act.put, List.setIfInBounds_toArray, List.set_cons_zero, List.set_cons_succ]
              refine wpAnyN_take (i := 6) (oi := { dst := some 92, op := Go.Op.extract (Go.Operand.tmp 86) 2, type := 29, pos := "outright.go:62", after := #[{ on := 3, ground := Go.Ground.data }, { on := 9, ground := Go.Ground.gcOnly Go.Departure.lateStores }], guard := none }) (v := .int .i64 0) rfl (by decide) (by kernel_rfl) (by kernel_rfl) (by kernel_rfl) (fun _ _ _ h => h) (Or.inl ⟨by rfl, ?_⟩) hS3 ?_
              · intro W9 hS9
                clear hS9
                go_simp
              try simp only [Act.put, List.setIfInBounds_toArray, List.set_cons_zero, List.set_cons_succ]
              refine wpAnyX_one (i := 8) (o := { dst := none, op := Go.Op.store 25 (Go.Operand.tmp 11) (Go.Operand.tmp 90), type := 0, pos := "outright.go:62", after := #[{ on := 7, ground := Go.Ground.data }, { on := 4, ground := Go.Ground.data }, { on := 2, ground := Go.Ground.chain }, { on := 0, ground := Go.Ground.phase }, { on := 1, ground := Go.Ground.phase }, { on := 2, ground := Go.Ground.phase }, { on := 3, ground := Go.Ground.phase }, { on := 4, ground := Go.Ground.phase }, { on := 5, ground := Go.Ground.textOnly Go.Departure.lateStores }, { on := 6, ground := Go.Ground.textOnly Go.Departure.lateStores }, { on := 7, ground := Go.Ground.phase }], guard := none }) (by kernel_rfl) rfl (fun K hK => ?_)
              have k0 : W3_.cell? ⟨bx, 0, none⟩ = some (.int .u64 0) := BX.out.cell 0
              have k1 : W3_.cell? ⟨bx, 1, none⟩ = some (.slice none 0 0) := BX.out.cell 1
              have f0 := BX.out.frozen 0
              have f1 := BX.out.frozen 1
              refine step_skip_g (by rfl) (w' := (W3_.setCell ⟨bx, 0, none⟩ (.int .u64 E)).setCell ⟨bx, 1, none⟩ (.slice aq nq dq)) (by go_simp) ?_
              have hbne : bx ≠ b1 := HBNE
              have hS9_ : Rows8 ((W3_.setCell ⟨bx, 0, none⟩ (.int .u64 E)).setCell ⟨bx, 1, none⟩ (.slice aq nq dq)) b1 25 #[.int .u64 E, .slice a3 n3 d3] := (hS3.setOther (a := ⟨bx, 0, none⟩) hbne _).setOther (a := ⟨bx, 1, none⟩) hbne _
              have P2 := Lib.hid (BX.out.set2 (.int .u64 E) (.slice aq nq dq))
              have O1 : Hid (OwnsWords w.heap.size V (.slice a3 n3 d3) ((W3_.setCell ⟨bx, 0, none⟩ (.int .u64 E)).setCell ⟨bx, 1, none⟩ (.slice aq nq dq))) := Lib.hid (owns_setT (owns_setT O1.out (a := ⟨bx, 0, none⟩) BX.out (by decide) (.int .u64 E)) (a := ⟨bx, 1, none⟩) (BX.out.set 0 (.int .u64 E)) (by decide) (.slice aq nq dq))
              have O2 : Hid (OwnsWords w.heap.size V (.slice aq nq dq) ((W3_.setCell ⟨bx, 0, none⟩ (.int .u64 E)).setCell ⟨bx, 1, none⟩ (.slice aq nq dq))) := Lib.hid (owns_setT (owns_setT OQ.out (a := ⟨bx, 0, none⟩) BX.out (by decide) (.int .u64 E)) (a := ⟨bx, 1, none⟩) (BX.out.set 0 (.int .u64 E)) (by decide) (.slice aq nq dq))
              have B := Lib.hid ((B.out.setCell (p := ⟨bx, 0, none⟩) HBXL (.int .u64 E)).setCell (p := ⟨bx, 1, none⟩) HBXL (.slice aq nq dq))
              clear k0 k1 f0 f1 BX OQ
              refine hK.out _ _ (fun _ => hS9_) ?_
              clear hK K
              try simp only [Act.put, List.setIfInBounds_toArray, List.set_cons_zero, List.set_cons_succ]
              generalize ((W3_.setCell ⟨bx, 0, none⟩ (.int .u64 E)).setCell ⟨bx, 1, none⟩ (.slice aq nq dq)) = We at *
              refine wpAnyN_take (i := 9) (oi := { dst := some 12, op := Go.Op.assign (Go.Operand.tmp 91), type := 3, pos := "outright.go:62", after := #[{ on := 5, ground := Go.Ground.data }, { on := 8, ground := Go.Ground.chain }, { on := 0, ground := Go.Ground.phase }, { on := 1, ground := Go.Ground.phase }, { on := 2, ground := Go.Ground.phase }, { on := 3, ground := Go.Ground.phase }, { on := 4, ground := Go.Ground.phase }, { on := 5, ground := Go.Ground.phase }, { on := 6, ground := Go.Ground.textOnly Go.Departure.lateStores }, { on := 7, ground := Go.Ground.phase }, { on := 8, ground := Go.Ground.phase }], guard := none }) (v := .int .i64 0) rfl (by decide) (by kernel_rfl) (by kernel_rfl) (by kernel_rfl) (fun _ _ _ h => h) (Or.inl ⟨by rfl, ?_⟩) hS9_ ?_
              · intro W9 hS9
                clear hS9
                go_simp
              try simp only [Act.put, List.setIfInBounds_toArray, List.set_cons_zero, List.set_cons_succ]
              refine wpAnyN_take (i := 10) (oi := { dst := some 7, op := Go.Op.assign (Go.Operand.tmp 92), type := 29, pos := "outright.go:62", after := #[{ on := 6, ground := Go.Ground.data }, { on := 9, ground := Go.Ground.chain }, { on := 0, ground := Go.Ground.phase }, { on := 1, ground := Go.Ground.phase }, { on := 2, ground := Go.Ground.phase }, { on := 3, ground := Go.Ground.phase }, { on := 4, ground := Go.Ground.phase }, { on := 5, ground := Go.Ground.phase }, { on := 6, ground := Go.Ground.phase }, { on := 7, ground := Go.Ground.phase }, { on := 8, ground := Go.Ground.phase }, { on := 9, ground := Go.Ground.phase }], guard := none }) (v := .int .i64 0) rfl (by decide) (by kernel_rfl) (by kernel_rfl) (by kernel_rfl) (fun _ _ _ h => h) (Or.inl ⟨by rfl, ?_⟩) hS9_ ?_
              · intro W9 hS9
                clear hS9
                go_simp
              try simp only [Act.put, List.setIfInBounds_toArray, List.set_cons_zero, List.set_cons_succ]
              refine wpAnyX_end (by kernel_rfl) ?_
              have P1 := Lib.hid hS9_
              have l1 := P1.out.lt
              have l2 := P2.out.lt
              have c10 : We.cell? ⟨b1, 0, none⟩ = some (.int .u64 E) := P1.out.cell 0
              have c11 : We.cell? ⟨b1, 1, none⟩ = some (.slice a3 n3 d3) := P1.out.cell 1
              have c20 : We.cell? ⟨bx, 0, none⟩ = some (.int .u64 E) := P2.out.cell 0
              have c21 : We.cell? ⟨bx, 1, none⟩ = some (.slice aq nq dq) := P2.out.cell 1
              have HCl := HSA We _ _ _ _ _ _ O2.out.at O1.out.at
              go_wp2_with fail
              refine HCl.out.mono ?_
              rintro e y1 ⟨rfl, hB⟩
              clear HCl c10 c11 c20 c21 l1 l2
              have P1 := Lib.hid (P1.out.below hB P1.out.lt)
              have O1 : Hid (OwnsWords w.heap.size V (.slice a3 n3 d3) y1) := Lib.hid (owns_keep O1.out hB (Nat.le_refl _))
              have B := Lib.hid (B.out.trans (hB.mono B.out.size))
              have l1 := P1.out.lt
              have c10 : y1.cell? ⟨b1, 0, none⟩ = some (.int .u64 E) := P1.out.cell 0
              have c11 : y1.cell? ⟨b1, 1, none⟩ = some (.slice a3 n3 d3) := P1.out.cell 1
              have HCl := HBV y1 _ _ _ O1.out.at
              clear hB
              go_wp2_with fail
              refine HCl.out.mono ?_
              rintro e y2 ⟨v, rfl, hO, hB⟩
              obtain ⟨av, dv, hv⟩ := hO.form
              replace hv : v = .slice av 0 dv := hv
              subst hv
              clear HCl c10 c11 l1
              have P1 := Lib.hid (P1.out.below hB P1.out.lt)
              have O1 : Hid (OwnsWords w.heap.size V (.slice a3 n3 d3) y2) := Lib.hid (owns_keep O1.out hB (Nat.le_refl _))
              have B := Lib.hid (B.out.trans (hB.mono B.out.size))
              have l1 := P1.out.lt
              have c10 : y2.cell? ⟨b1, 0, none⟩ = some (.int .u64 E) := P1.out.cell 0
              have c11 : y2.cell? ⟨b1, 1, none⟩ = some (.slice a3 n3 d3) := P1.out.cell 1
              have HCl := fun z => HD2 z y2 _ _ _ O1.out.at
              clear hB hO
              go_wp2_with fail
              refine (HCl _).out.mono ?_
              rintro e y3 ⟨⟨v, rfl, hO⟩, hB⟩
              clear HCl c10 c11 l1
              have P1 := Lib.hid (P1.out.below hB P1.out.lt)
              have B := Lib.hid (B.out.trans (hB.mono B.out.size))
              have l1 := P1.out.lt
              have c10 : y3.cell? ⟨b1, 0, none⟩ = some (.int .u64 E) := P1.out.cell 0
              clear hO hB
              rcases hgf with h9 | ⟨h9, h10, h11⟩
              · go_wp2_with fail
                go_ret
                exact ⟨rfl, B.out⟩
              · go_wp2_with fail
                go_ret
                exact ⟨rfl, B.out⟩
          · have hC : Below W0.heap.size W0 (W0.alloc (.cells #[.int .u64 0, .slice none 0 0] 25)) := Rows8.newB
            have BX := Lib.hid (Rows8.new W0 25 #[.int .u64 0, .slice none 0 0])
            obtain ⟨W1_, hW⟩ : ∃ W, W = W0.alloc (.cells #[.int .u64 0, .slice none 0 0] 25) := ⟨_, rfl⟩
            obtain ⟨bx, hbx0⟩ : ∃ b, b = W0.heap.size := ⟨_, rfl⟩
            refine step_value_g (by rfl) (v := .pointer (some ⟨bx, 0, none⟩)) (w' := W1_) (by rw [hW, hbx0]; go_simp) ?_
            rw [← hW, ← hbx0] at BX
            rw [← hW] at hC
            have HBNE : bx ≠ b1 := by rw [hbx0]; exact Nat.ne_of_gt hS0.lt
            have HBXL : w.heap.size ≤ bx := by rw [hbx0]; exact B.out.size
            clear hW hbx0
            have hS1 : Rows8 W1_ b1 25 #[.int .u64 E, .slice a3 n3 d3] := hS0.below hC hS0.lt
            have O1 : Hid (OwnsWords w.heap.size V (.slice a3 n3 d3) W1_) := Lib.hid (owns_keep O1.out hC (Nat.le_refl _))
            have B := Lib.hid (B.out.trans (hC.mono B.out.size))
            clear hC
            refine hK.out _ _ (fun _ => hS1) ?_
            clear hK K
            try simp only [Act.put, List.setIfInBounds_toArray, List.set_cons_zero, List.set_cons_succ]
            refine wpAnyX_one (i := 1) (o := { dst := some 88, op := Go.Op.makeSlice 41 (Go.Operand.const (Go.Value.int Go.IntKind.i64 0)) (Go.Operand.const (Go.Value.int Go.IntKind.i64 0)), type := 41, pos := "outright.go:62", after := #[], guard := none }) (by kernel_rfl) rfl (fun K hK => ?_)
            obtain ⟨W2_, hrun, hown, hgr⟩ := run_make_full (P := Try.prog) W1_ W1_.heap.size 41 44 i0 (.agg #[.int .i64 0, .int .i64 0, .int .u64 0]) 3 Try.underlying41 hi hz0 hz1 .i64 .i64 0 (by simp) (by unfold maxLen; omega) (Nat.le_refl _)
            replace hrun : (Instr.makeSlice 41 (.int .i64 0) (.int .i64 0)).run Try.prog W1_ = .ok (.slice (some ⟨W1_.heap.size, 0, none⟩) 0 0) W2_ := hrun
            have hC : Below W1_.heap.size W1_ W2_ := (Below.refl _ W1_).grown hgr (Nat.le_refl _) (fun j ej => by cases ej)
            obtain ⟨qa, hqa⟩ : ∃ q : Option Addr, q = some ⟨W1_.heap.size, 0, none⟩ := ⟨_, rfl⟩
            refine step_value_g (by rfl) (v := .slice qa 0 0) (w' := W2_) (by rw [hqa]; go_simp) ?_
            have hS2 : Rows8 W2_ b1 25 #[.int .u64 E, .slice a3 n3 d3] := hS1.below hC hS1.lt
            have O1 : Hid (OwnsWords w.heap.size V (.slice a3 n3 d3) W2_) := Lib.hid (owns_keep O1.out hC (Nat.le_refl _))
            have B := Lib.hid (B.out.trans (hC.mono B.out.size))
            have BX : Hid (Rows8 W2_ bx 25 #[.int .u64 0, .slice none 0 0]) := Lib.hid (BX.out.below hC BX.out.lt)
            have hbx : bx < W2_.heap.size := BX.out.lt
            clear hC hrun hown hgr hqa
            refine hK.out _ _ (fun _ => hS2) ?_
            clear hK K
            try simp only [Act.put, List.setIfInBounds_toArray, List.set_cons_zero, List.set_cons_succ]
            refine wpAnyX_one (i := 2) (o := { dst := some 89, op := Go.Op.call { callee := Go.Callee.value (Go.Operand.func 26), args := #[Go.Operand.tmp 87, Go.Operand.tmp 88], argTypes := #[25, 41] }, type := 47, pos := "outright.go:62", after := #[{ on := 0, ground := Go.Ground.data }, { on := 1, ground := Go.Ground.data }], guard := none }) (by kernel_rfl) rfl (fun K hK => ?_)
            refine step_call_g (by rfl) 26 _ _ rfl (fun _ _ => by kernel_rfl) #[.agg #[.int .u64 E, .slice a3 n3 d3], .slice qa 0 0] (by simp [go_sem]) _ (HRN W2_ _ _ _ qa O1.out.at).out ?_
            rintro e W3_ ⟨⟨v, rfl, hO⟩, hC⟩
            refine ⟨_, rfl, ?_⟩
            obtain ⟨aq, nq, dq, rfl, -⟩ := hO.form2
            have OQ := Lib.hid (owns_mono hO B.out.size)
            have hS3 : Rows8 W3_ b1 25 #[.int .u64 E, .slice a3 n3 d3] := hS2.below hC hS2.lt
            have O1 : Hid (OwnsWords w.heap.size V (.slice a3 n3 d3) W3_) := Lib.hid (owns_keep O1.out hC (Nat.le_refl _))
            have B := Lib.hid (B.out.trans (hC.mono B.out.size))
            have BX : Hid (Rows8 W3_ bx 25 #[.int .u64 0, .slice none 0 0]) := Lib.hid (BX.out.below hC BX.out.lt)
            have hbx : bx < W3_.heap.size := BX.out.lt
            clear hC hO
            refine hK.out _ _ (fun _ => hS3) ?_
            clear hK K
            try simp only [Act.put, List.setIfInBounds_toArray, List.set_cons_zero, List.set_cons_succ]
            refine wpAnyN_take (i := 3) (oi := { dst := some 86, op := Go.Op.move (Go.Operand.tmp 89), type := 47, pos := "outright.go:62", after := #[{ on := 2, ground := Go.Ground.data }], guard := none }) (v := .tuple #[.agg #[.int .u64 E, .slice aq nq dq], .int .i64 0, .int .i64 0]) rfl (by decide) (by kernel_rfl) (by kernel_rfl) (by kernel_rfl) (fun _ _ _ h => h) (Or.inl ⟨by rfl, ?_⟩) hS3 ?_
            · intro W9 hS9
              clear hS9
              go_simp
            try simp only [Act.put, List.setIfInBounds_toArray, List.set_cons_zero, List.set_cons_succ]
            refine wpAnyN_take (i := 4) (oi := { dst := some 90, op := Go.Op.extract (Go.Operand.tmp 86) 0, type := 25, pos := "outright.go:62", after := #[{ on := 3, ground := Go.Ground.data }], guard := none }) (v := .agg #[.int .u64 E, .slice aq nq dq]) rfl (by decide) (by kernel_rfl) (by kernel_rfl) (by kernel_rfl) (fun _ _ _ h => h) (Or.inl ⟨by rfl, ?_⟩) hS3 ?_
            · intro W9 hS9
              clear hS9
              go_simp
            try simp only [Act.put, List.setIfInBounds_toArray, List.set_cons_zero, List.set_cons_succ]
            refine wpAnyN_take (i := 5) (oi := { dst := some 91, op := Go.Op.extract (Go.Operand.tmp 86) 1, type := 3, pos := "outright.go:62", after := #[{ on := 3, ground := Go.Ground.data }, { on := 8, ground := Go.Ground.gcOnly Go.Departure.lateStores }], guard := none }) (v := .int .i64 0) rfl (by decide) (by kernel_rfl) (by kernel_rfl) (by kernel_rfl) (fun _ _ _ h => h) (Or.inl ⟨by rfl, ?_⟩) hS3 ?_
            · intro W9 hS9
              clear hS9
              go_simp
            try simp only [Act.put, List.setIfInBounds_toArray, List.set_cons_zero, List.set_cons_succ]
            refine wpAnyN_take (i := 6) (oi := { dst := some 92, op := Go.Op.extract (Go.Operand.tmp 86) 2, type := 29, pos := "outright.go:62", after := #[{ on := 3, ground := Go.Ground.data }, { on := 9, ground := Go.Ground.gcOnly Go.Departure.lateStores }], guard := none }) (v := .int .i64 0) rfl (by decide) (by kernel_rfl) (by kernel_rfl) (by kernel_rfl) (fun _ _ _ h => h) (Or.inl ⟨by rfl, ?_⟩) hS3 ?_
            · intro W9 hS9
              clear hS9
              go_simp
            try simp only [Act.put, List.setIfInBounds_toArray, List.set_cons_zero, List.set_cons_succ]
            refine wpAnyX_one (i := 8) (o := { dst := none, op := Go.Op.store 25 (Go.Operand.tmp 11) (Go.Operand.tmp 90), type := 0, pos := "outright.go:62", after := #[{ on := 7, ground := Go.Ground.data }, { on := 4, ground := Go.Ground.data }, { on := 2, ground := Go.Ground.chain }, { on := 0, ground := Go.Ground.phase }, { on := 1, ground := Go.Ground.phase }, { on := 2, ground := Go.Ground.phase }, { on := 3, ground := Go.Ground.phase }, { on := 4, ground := Go.Ground.phase }, { on := 5, ground := Go.Ground.textOnly Go.Departure.lateStores }, { on := 6, ground := Go.Ground.textOnly Go.Departure.lateStores }, { on := 7, ground := Go.Ground.phase }], guard := none }) (by kernel_rfl) rfl (fun K hK => ?_)
            have k0 : W3_.cell? ⟨bx, 0, none⟩ = some (.int .u64 0) := BX.out.cell 0
            have k1 : W3_.cell? ⟨bx, 1, none⟩ = some (.slice none 0 0) := BX.out.cell 1
            have f0 := BX.out.frozen 0
            have f1 := BX.out.frozen 1
            refine step_skip_g (by rfl) (w' := (W3_.setCell ⟨bx, 0, none⟩ (.int .u64 E)).setCell ⟨bx, 1, none⟩ (.slice aq nq dq)) (by go_simp) ?_
            have hbne : bx ≠ b1 := HBNE
            have hS9_ : Rows8 ((W3_.setCell ⟨bx, 0, none⟩ (.int .u64 E)).setCell ⟨bx, 1, none⟩ (.slice aq nq dq)) b1 25 #[.int .u64 E, .slice a3 n3 d3] := (hS3.setOther (a := ⟨bx, 0, none⟩) hbne _).setOther (a := ⟨bx, 1, none⟩) hbne _
            have P2 := Lib.hid (BX.out.set2 (.int .u64 E) (.slice aq nq dq))
            have O1 : Hid (OwnsWords w.heap.size V (.slice a3 n3 d3) ((W3_.setCell ⟨bx, 0, none⟩ (.int .u64 E)).setCell ⟨bx, 1, none⟩ (.slice aq nq dq))) := Lib.hid (owns_setT (owns_setT O1.out (a := ⟨bx, 0, none⟩) BX.out (by decide) (.int .u64 E)) (a := ⟨bx, 1, none⟩) (BX.out.set 0 (.int .u64 E)) (by decide) (.slice aq nq dq))
            have O2 : Hid (OwnsWords w.heap.size V (.slice aq nq dq) ((W3_.setCell ⟨bx, 0, none⟩ (.int .u64 E)).setCell ⟨bx, 1, none⟩ (.slice aq nq dq))) := Lib.hid (owns_setT (owns_setT OQ.out (a := ⟨bx, 0, none⟩) BX.out (by decide) (.int .u64 E)) (a := ⟨bx, 1, none⟩) (BX.out.set 0 (.int .u64 E)) (by decide) (.slice aq nq dq))
            have B := Lib.hid ((B.out.setCell (p := ⟨bx, 0, none⟩) HBXL (.int .u64 E)).setCell (p := ⟨bx, 1, none⟩) HBXL (.slice aq nq dq))
            clear k0 k1 f0 f1 BX OQ
            refine hK.out _ _ (fun _ => hS9_) ?_
            clear hK K
            try simp only [Act.put, List.setIfInBounds_toArray, List.set_cons_zero, List.set_cons_succ]
            generalize ((W3_.setCell ⟨bx, 0, none⟩ (.int .u64 E)).setCell ⟨bx, 1, none⟩ (.slice aq nq dq)) = We at *
            refine wpAnyN_take (i := 9) (oi := { dst := some 12, op := Go.Op.assign (Go.Operand.tmp 91), type := 3, pos := "outright.go:62", after := #[{ on := 5, ground := Go.Ground.data }, { on := 8, ground := Go.Ground.chain }, { on := 0, ground := Go.Ground.phase }, { on := 1, ground := Go.Ground.phase }, { on := 2, ground := Go.Ground.phase }, { on := 3, ground := Go.Ground.phase }, { on := 4, ground := Go.Ground.phase }, { on := 5, ground := Go.Ground.phase }, { on := 6, ground := Go.Ground.textOnly Go.Departure.lateStores }, { on := 7, ground := Go.Ground.phase }, { on := 8, ground := Go.Ground.phase }], guard := none }) (v := .int .i64 0) rfl (by decide) (by kernel_rfl) (by kernel_rfl) (by kernel_rfl) (fun _ _ _ h => h) (Or.inl ⟨by rfl, ?_⟩) hS9_ ?_
            · intro W9 hS9
              clear hS9
              go_simp
            try simp only [Act.put, List.setIfInBounds_toArray, List.set_cons_zero, List.set_cons_succ]
            refine wpAnyN_take (i := 10) (oi := { dst := some 7, op := Go.Op.assign (Go.Operand.tmp 92), type := 29, pos := "outright.go:62", after := #[{ on := 6, ground := Go.Ground.data }, { on := 9, ground := Go.Ground.chain }, { on := 0, ground := Go.Ground.phase }, { on := 1, ground := Go.Ground.phase }, { on := 2, ground := Go.Ground.phase }, { on := 3, ground := Go.Ground.phase }, { on := 4, ground := Go.Ground.phase }, { on := 5, ground := Go.Ground.phase }, { on := 6, ground := Go.Ground.phase }, { on := 7, ground := Go.Ground.phase }, { on := 8, ground := Go.Ground.phase }, { on := 9, ground := Go.Ground.phase }], guard := none }) (v := .int .i64 0) rfl (by decide) (by kernel_rfl) (by kernel_rfl) (by kernel_rfl) (fun _ _ _ h => h) (Or.inl ⟨by rfl, ?_⟩) hS9_ ?_
            · intro W9 hS9
              clear hS9
              go_simp
            try simp only [Act.put, List.setIfInBounds_toArray, List.set_cons_zero, List.set_cons_succ]
            refine wpAnyX_end (by kernel_rfl) ?_
            have P1 := Lib.hid hS9_
            have l1 := P1.out.lt
            have l2 := P2.out.lt
            have c10 : We.cell? ⟨b1, 0, none⟩ = some (.int .u64 E) := P1.out.cell 0
            have c11 : We.cell? ⟨b1, 1, none⟩ = some (.slice a3 n3 d3) := P1.out.cell 1
            have c20 : We.cell? ⟨bx, 0, none⟩ = some (.int .u64 E) := P2.out.cell 0
            have c21 : We.cell? ⟨bx, 1, none⟩ = some (.slice aq nq dq) := P2.out.cell 1
            have HCl := HSA We _ _ _ _ _ _ O2.out.at O1.out.at
            go_wp2_with fail
            refine HCl.out.mono ?_
            rintro e y1 ⟨rfl, hB⟩
            clear HCl c10 c11 c20 c21 l1 l2
            have P1 := Lib.hid (P1.out.below hB P1.out.lt)
            have O1 : Hid (OwnsWords w.heap.size V (.slice a3 n3 d3) y1) := Lib.hid (owns_keep O1.out hB (Nat.le_refl _))
            have B := Lib.hid (B.out.trans (hB.mono B.out.size))
            have l1 := P1.out.lt
            have c10 : y1.cell? ⟨b1, 0, none⟩ = some (.int .u64 E) := P1.out.cell 0
            have c11 : y1.cell? ⟨b1, 1, none⟩ = some (.slice a3 n3 d3) := P1.out.cell 1
            have HCl := HBV y1 _ _ _ O1.out.at
            clear hB
            go_wp2_with fail
            refine HCl.out.mono ?_
            rintro e y2 ⟨v, rfl, hO, hB⟩
            obtain ⟨av, dv, hv⟩ := hO.form
            replace hv : v = .slice av 0 dv := hv
            subst hv
            clear HCl c10 c11 l1
            have P1 := Lib.hid (P1.out.below hB P1.out.lt)
            have O1 : Hid (OwnsWords w.heap.size V (.slice a3 n3 d3) y2) := Lib.hid (owns_keep O1.out hB (Nat.le_refl _))
            have B := Lib.hid (B.out.trans (hB.mono B.out.size))
            have l1 := P1.out.lt
            have c10 : y2.cell? ⟨b1, 0, none⟩ = some (.int .u64 E) := P1.out.cell 0
            have c11 : y2.cell? ⟨b1, 1, none⟩ = some (.slice a3 n3 d3) := P1.out.cell 1
            have HCl := fun z => HD2 z y2 _ _ _ O1.out.at
            clear hB hO
            go_wp2_with fail
            refine (HCl _).out.mono ?_
            rintro e y3 ⟨⟨v, rfl, hO⟩, hB⟩
            clear HCl c10 c11 l1
            have P1 := Lib.hid (P1.out.below hB P1.out.lt)
            have B := Lib.hid (B.out.trans (hB.mono B.out.size))
            have l1 := P1.out.lt
            have c10 : y3.cell? ⟨b1, 0, none⟩ = some (.int .u64 E) := P1.out.cell 0
            clear hO hB
            rcases hgf with h9 | ⟨h9, h10, h11⟩
            · go_wp2_with fail
              go_ret
              exact ⟨rfl, B.out⟩
            · go_wp2_with fail
              go_ret
              exact ⟨rfl, B.out⟩
theorem Try.goP_any (E : Int) (a : Option Addr) (n c : Nat) (S : List Int) (more : Int) (w : World) (hI : WordsAt w (.slice a n c) S) (hE : 0 ≤ E ∧ E < 18446744073709551616) (hS : okW S) :
    Calls Try.prog 6 #[.agg #[.int .u64 E, .slice a n c], .int .i64 more] w fun e w' => e = .returned (.bool true) ∧ Below w.heap.size w w' := by
  cases hr : rightN E (S.take 10) with
  | false => exact Try.go_no E a n c S more w hI hE hS hr
  | true =>
    rcases go_cases hr 0 with ⟨h1, h2⟩ | ⟨h1, h3, h2⟩ | ⟨h1, h3, h2⟩
    · exact Try.go_yes E a n c S more w hI hE hS hr 231 0 [] h2 true false false rfl rfl rfl h1 (fun h => by cases h) (fun h => by cases h) (fun h => by cases h)
    · exact Try.go_yes E a n c S more w hI hE hS hr 6 0 [] h2 false true false rfl rfl rfl h1 (fun _ => h3) (fun _ => rfl) (fun h => by cases h)
    · exact Try.go_yes E a n c S more w hI hE hS hr 0 (E + 1) (S.take 10) h2 false false true rfl rfl rfl h1 (fun h => by cases h) (fun h => by cases h) (fun _ => ⟨rfl, h3, rfl⟩)
end Go.Proofs
namespace Go.Proofs.Ytdkpenfgeohddaa.pinsGo
open Go.ChangeShapes Go.WideShapes Go.ChangeAt Go.RowKit Go.Shelf

theorem own : ownKnob Try.prog.godebug = none := by kernel_rfl
theorem walk (g : Pv) (more : Int) (w : World) (hg : PvAt w g) (_ : (Lit.int .i64 more).wf = true) :
    Calls Try.prog 6 #[.agg #[.int .u64 g.e, .slice g.a g.n g.c], .int .i64 more] w fun e w' => e = .returned (.bool true) ∧ Below w.heap.size w w' := Try.goP_any g.e g.a g.n g.c g.s more w hg.2.1 hg.1 hg.2.2
theorem laidOut : laidOutB Try.prog = true := by kernel_rfl
set_option maxRecDepth 100000 in
theorem lifted (os : Os) (started : os.Started) (H : Type) (enc : TypeId × Value → H) :
    ReturnsInHanded {} Try.checked os 6 .any (Rows.pinsGoSpec.pre6 enc Try.prog Try.f6 Rows.pinsGoRow.domain false) (Rows.pinsGoSpec.post enc Try.prog Try.f6 false true false false) := by
  refine returnsInHanded_of_change (C := Try.checked) own started (by kernel_rfl) Try.func6
    (ChangeSpec.witness6 (enc := enc) (C := Try.checked) false ⟨#[], #[.agg #[.int .u64 0, .slice none 0 0], .int .i64 0], []⟩ 8 (by kernel_rfl) (by kernel_rfl) (by kernel_rfl) (by kernel_rfl)) ?_
  intro W base args ds gs before hval0 hW hcnd _
  have hval : ∀ (j : Nat) t v, Try.f6.params[j]? = some t → args[j]? = some v → Value.okWide Try.prog W .any base t v := hval0
  have hW' := hW
  obtain ⟨p, q, hA0, hV, rfl, hfz, hnd⟩ := hW
  have hA : DataW.TrodAll enc Try.prog W 0 (fun _ => true) true Try.f6.params.toList args.toList ds p := hA0
  rw [Try.params6] at hA hval
  obtain ⟨v0, vs0, d0, ds0, p0, q0, hargs, rfl, rfl, h0, r0⟩ := trodAll_cons hA
  obtain ⟨v1, vs1, d1, ds1, p1, q1, rfl, rfl, rfl, h1, r1⟩ := trodAll_cons r0
  obtain ⟨rfl, rfl, rfl⟩ := trodAll_nil r1
  obtain rfl : args = #[v0, v1] := by cases args; simp_all
  obtain ⟨rfl, rfl⟩ := trodVars_none hV
  have k0 := h0
  have lt0 : ∀ x ∈ p0, x.block < W.heap.size := by obtain ⟨m, hm⟩ := k0; exact DataW.trod_lt m _ _ _ hm
  obtain ⟨g0, rfl, w0⟩ := open_pins (hval 0 25 v0 rfl rfl) h0
  obtain ⟨a1, rfl, rfl, rfl, w1⟩ := open_int Try.underlying3 (hval 1 3 v1 rfl rfl) h1
  clear hA0 hval0
  refine (walk g0 a1 W w0 w1).mono fun e W' ⟨he, bel⟩ => ?_
  subst he
  exact ⟨_, rfl, _, _, _, [], _, [], hW', trodAll_mk1 (shut_bool Try.underlying4 _), (trodAll_cons_mk (Below.trod laidOut (by kernel_rfl) (of_decide_eq_true (by kernel_rfl)) k0 bel lt0) (trodAll_cons_mk (shut_int Try.underlying3 w1) trodAll_mk0)), rfl, bel.frame _, fun h => by cases h⟩

theorem over : Rows.pinsGoRow.holds Try.pinned (OpenSpec.ofChange Rows.pinsGoSpec) :=
  OpenClaim.holds_of_wide 6 Try.f6 rfl rfl rfl rfl rfl rfl rfl ⟨rfl, rfl, rfl, rfl, rfl⟩ rfl rfl rfl rfl rfl (by kernel_rfl) Try.func6 (by kernel_rfl)
    (of_decide_eq_true (by kernel_rfl)) (by unfold Func.isWrapper; first | (rw [if_pos (by decide +kernel)]; kernel_rfl) | (rw [if_neg (by decide +kernel)]; exact ⟨rfl, rfl⟩))
    (fun os started H enc _ => lifted os started H enc)

theorem proved : Rows.PinsGoSaid := over
end Go.Proofs.Ytdkpenfgeohddaa.pinsGo
