/- PinsOps: what pins undergo, one op behind the other, is what the document says, for all pins and rows of ops. -/
import Derived.Test.YtdkpenfgeohddaaPu
namespace Go.Proofs
set_option maxRecDepth 100000
open Go.RowKit Go.Shelf
attribute [local go_sem] Oper.semAt_some

theorem po_cut {W : World} {a : Option Addr} {n cap : Nat} {ws : List Po} (h : PoAt W (.slice a n cap) ws) (m : Nat) (hm : m ≤ n) : PoAt W (.slice a m cap) (ws.take m) := by
  have hn := (poAt_len h).1
  subst hn
  have h1 := RowAt.cut h m hm
  unfold PoAt
  have e : (ws.take m).length = m := by rw [List.length_take]; omega
  rw [e]
  have e2 : poVals (ws.take m) = (poVals ws).take (m * 3) := flat_take poCells 3 (fun _ => rfl) ws m
  rw [e2]
  exact h1
theorem doP_len (E : Int) (S : List Int) (o : Po) : (doP E S o).2.2.length ≤ S.length := by
  unfold doP
  split
  · split
    · rw [stepP_len]; exact Nat.le_refl _
    · exact Nat.zero_le _
  · exact Nat.zero_le _
theorem runN_len (l : List Po) : ∀ (E : Int) (S : List Int) (p : Int), (runN E S p l).2.2.1.length ≤ S.length := by
  induction l with
  | nil => intro E S p; exact Nat.le_refl _
  | cons o l ih =>
    intro E S p
    unfold runN
    split
    · exact Nat.le_trans (ih _ _ _) (by rw [stepP_len]; exact Nat.le_refl _)
    · split
      · exact Nat.zero_le _
      · exact Nat.le_trans (ih _ _ _) (by rw [stepP_len]; exact Nat.le_refl _)
theorem runP_len (E : Int) (S : List Int) (l : List Po) : (runP E S l).2.2.1.length ≤ S.length := by
  unfold runP
  split
  · exact runN_len l E S 0
  · exact Nat.zero_le _
set_option maxHeartbeats 32000000 in
theorem Try.opsP_any (E : Int) (a : Option Addr) (n c : Nat) (S : List Int) (al : Option Addr) (nl cl : Nat) (l : List Po) (w : World) (hI : WordsAt w (.slice a n c) S) (hE : 0 ≤ E ∧ E < 18446744073709551616) (hS : okW S) (hL : PoK w (.slice al nl cl) l) :
    Calls Try.prog 4 #[.agg #[.int .u64 E, .slice a n c], .slice al nl cl] w fun e w' => e = .returned (.bool true) ∧ Below w.heap.size w w' := by
  obtain ⟨U, hU⟩ : ∃ U, U = S.take 10 := ⟨_, rfl⟩
  have hUk : okW U := by rw [hU]; exact okW_take hS 10
  have hk : Okp E U := ⟨hE, hUk⟩
  have hU10 : U.take 10 = U := by rw [hU]; simp [List.take_take]
  obtain ⟨M, hM⟩ : ∃ M, M = l.take 16 := ⟨_, rfl⟩
  have hMo : ∀ o ∈ M, okO o := fun o ho => hL.2 o (by rw [hM] at ho; exact List.mem_of_mem_take ho)
  have hnl := poAt_len hL.1
  have hreach : cl ≤ 9223372036854775807 := by have := hnl.2.2; unfold maxLen at this; omega
  obtain ⟨m, hm⟩ : ∃ m, m = min nl 16 := ⟨_, rfl⟩
  have hmn : m ≤ nl := by omega
  have hm16 : m ≤ 16 := by omega
  have htk : l.take m = M := by
    rw [hM]
    rcases Nat.le_total nl 16 with h | h
    · rw [List.take_of_length_le (by omega), List.take_of_length_le (by omega)]
    · rw [show m = 16 by omega]
  have hml : m = M.length := by rw [← htk, List.length_take]; omega
  have HCL := fun (X : World) (h : Below w.heap.size w X) => Lib.hid (Try.clonePo_any al m cl M hml (by omega) X (by rw [← htk]; exact po_cut (hL.1.below h) m hmn))
  have hmi : min (nl : Int) 16 = (m : Int) := by omega
  have hmi2 : (if (nl : Int) ≤ 16 then (nl : Int) else 16) = (m : Int) := by split <;> omega
  have hmi3 : (if (nl : Int) < 16 then (nl : Int) else 16) = (m : Int) := by split <;> omega
  have hmi4 : (if (16 : Int) < (nl : Int) then (16 : Int) else (nl : Int)) = (m : Int) := by split <;> omega
  have hmc : m ≤ cl := by omega
  obtain ⟨r, hr⟩ : ∃ r, r = rightN E U := ⟨_, rfl⟩
  have HRI := fun (W : World) (a : Option Addr) (n c : Nat) (h : WordsAt W (.slice a n c) U) => Lib.hid (show Calls _ 10 #[.agg #[.int .u64 E, .slice a n c]] W (fun e w' => e = .returned (.bool r) ∧ Below W.heap.size W w') from by have h1 := Try.refRight_any E hE a n c U hUk W h; rw [← hr] at h1; exact h1)
  have hne : ∀ x : Int, (x != x) = false := fun x => by simp
  have HSA := fun (F : Int) (X : List Int) (W : World) (a1 a2 : Option Addr) (n1 n2 c1 c2 : Nat) (h1 : WordsAt W (.slice a1 n1 c1) X) (h2 : WordsAt W (.slice a2 n2 c2) X) => Lib.hid (show Calls _ 13 #[.agg #[.int .u64 F, .slice a1 n1 c1], .agg #[.int .u64 F, .slice a2 n2 c2]] W (fun e w' => e = .returned (.bool true) ∧ Below W.heap.size W w') from by have h3 := Try.refSame_any F F a1 a2 n1 n2 c1 c2 X X W h1 h2; rw [decide_eq_true (rfl : F = F), decide_eq_true (rfl : X = X)] at h3; exact h3)
  have HOW := fun (W : World) (h : Below w.heap.size w W) => Lib.hid (Try.own_any E a n c S W (RowAt.below hI h))
  rw [← hU] at HOW
  have HOU := fun (W : World) (a : Option Addr) (n c : Nat) (h : WordsAt W (.slice a n c) U) => Lib.hid (show Calls _ 9 #[.agg #[.int .u64 E, .slice a n c]] W (fun e w' => (∃ b m d, e = .returned (.agg #[.int .u64 E, .slice b m d]) ∧ m ≤ 10 ∧ OwnsWords W.heap.size U (.slice b m d) w') ∧ Below W.heap.size W w') from by have h1 := Try.own_any E a n c U W h; rw [hU10] at h1; exact h1)
  have HDO := fun (o : Po) (ho : okO o) (W : World) (a : Option Addr) (n c : Nat) (h : WordsAt W (.slice a n c) U) => Lib.hid (Try.DoP_any E a n c U o W h hk ho.1)
  have HRD := fun (hr1 : r = true) (o : Po) (ho : okO o) (W : World) (a : Option Addr) (n c : Nat) (h : WordsAt W (.slice a n c) U) => Lib.hid (Try.refDo_any E a n c U o W h hk (by rw [← hr]; exact hr1) ho)
  have HNO := Lib.hid (fun (hr1 : r = false) (o : Po) => show doP E U o = (230, 0, []) from by unfold doP; rw [if_neg (by rw [← hr, hr1]; decide)])
  have HRU := fun (W : World) (a : Option Addr) (n c : Nat) (b : Option Addr) (m d : Nat) (h : WordsAt W (.slice a n c) U) (h2 : PoAt W (.slice b m d) M) (h3 : M.length ≤ 100000) => Lib.hid (Try.RunP_any E a n c U b m d M W h hk h2 (fun o ho => (hMo o ho).1) h3)
  have HRR := fun (hr1 : r = true) (W : World) (a : Option Addr) (n c : Nat) (b : Option Addr) (m d : Nat) (h : WordsAt W (.slice a n c) U) (h2 : PoAt W (.slice b m d) M) (h3 : M.length ≤ 100000) => Lib.hid (Try.refRun_any E a n c U b m d M W h hk (by rw [← hr]; exact hr1) h2 hMo h3)
  have HNR := Lib.hid (fun (hr1 : r = false) => show runP E U M = (230, 0, [], 0) from by unfold runP; rw [if_neg (by rw [← hr, hr1]; decide)])
  have HMO := Lib.hid hMo
  have HML := Lib.hid hml
  have HDL := Lib.hid (fun o => doP_len E U o)
  have hUl : U.length ≤ 10 := by rw [hU, List.length_take]; omega
  have HUL := Lib.hid hUl
  have HRL := Lib.hid (runP_len E U M)
  have hB0 : Below w.heap.size w (w.alloc (.cells #[.int .u64 E, .slice a n c] 25)) := Rows8.newB
  have X0 := Lib.hid (Rows8.new w 25 #[.int .u64 E, .slice a n c])
  have HW := fun W => Lib.hid (Try.wakes_any W)
  have B := Lib.hid hB0
  clear hB0 hI hU hUk hk hU10 hM hMo hnl hm htk hml hr hL hS hUl
  go_enter Try.func4, Try.ntmps4
  go_wp2_with fail
  refine (HW _).out.mono ?_
  rintro e w1 ⟨rfl, hB⟩
  have X0 := Lib.hid (X0.out.below hB X0.out.lt)
  have B := Lib.hid (B.out.trans (hB.mono B.out.size))
  have c0 : w1.cell? ⟨w.heap.size, 0, none⟩ = some (.int .u64 E) := X0.out.cell 0
  have c1 : w1.cell? ⟨w.heap.size, 1, none⟩ = some (.slice a n c) := X0.out.cell 1
  have HOl := HOW w1 B.out
  clear hB HW
  go_wp2_with fail
  refine HOl.out.mono ?_
  rintro e w2 ⟨⟨a1, n1, d1, rfl, hn1, hO⟩, hB⟩
  have X0 := Lib.hid (X0.out.below hB X0.out.lt)
  clear HOl c0 c1
  have hw1 : w.heap.size ≤ w2.heap.size := Nat.le_trans B.out.size hB.size
  have hal : Below w2.heap.size w2 (w2.alloc (.cells #[.int .u64 E, .slice a1 n1 d1] 25)) := Rows8.newB
  have hOw : OwnsWords w.heap.size U (.slice a1 n1 d1) (w2.alloc (.cells #[.int .u64 E, .slice a1 n1 d1] 25)) := owns_keep (owns_mono hO B.out.size) hal (Nat.le_refl _)
  have hBw := hB.trans (hal.mono hB.size)
  have O1 := Lib.hid hOw
  have P1 := Lib.hid (Rows8.new w2 25 #[.int .u64 E, .slice a1 n1 d1])
  have X0 := Lib.hid (X0.out.below hal X0.out.lt)
  have B := Lib.hid (B.out.trans (hBw.mono B.out.size))
  clear hO hB hal hOw hBw
  go_upto_region 4 with fail
  generalize (w2.alloc (.cells #[.int .u64 E, .slice a1 n1 d1] 25)) = u2 at *
  obtain ⟨b1, hb1⟩ : ∃ b, b = w2.heap.size := ⟨_, rfl⟩
  have HB1 : Hid (w.heap.size ≤ b1) := Lib.hid (by rw [hb1]; exact hw1)
  rw [← hb1] at P1 ⊢
  clear hb1 hw1
  have c10 : u2.cell? ⟨b1, 0, none⟩ = some (.int .u64 E) := P1.out.cell 0
  have c11 : u2.cell? ⟨b1, 1, none⟩ = some (.slice a1 n1 d1) := P1.out.cell 1
  have HCl := HRI u2 _ _ _ O1.out.at
  clear HRI
  go_wp2_with fail
  refine HCl.out.mono ?_
  rintro e w3 ⟨rfl, hB⟩
  clear HCl
  clear c10 c11
  have X0 := Lib.hid (X0.out.below hB X0.out.lt)
  have P1 := Lib.hid (P1.out.below hB P1.out.lt)
  have O1 : Hid (OwnsWords w.heap.size U (.slice a1 n1 d1) w3) := Lib.hid (owns_keep O1.out hB (Nat.le_refl _))
  have B := Lib.hid (B.out.trans (hB.mono B.out.size))
  have HCl := HCL w3 B.out
  clear hB HCL
  go_wp2_with fail
  refine HCl.out.mono ?_
  rintro e w4 ⟨v, rfl, hO, hB⟩
  obtain ⟨ao, do_, hv⟩ : ∃ a d, v = .slice a m d := by
    obtain ⟨_, a9, c9, h, _⟩ := rowAt_own hO
    rw [← HML.out] at h
    exact ⟨a9, c9, h⟩
  subst hv
  have OL := Lib.hid (show OwnsPo w.heap.size M (.slice ao m do_) w4 from owns_mono hO B.out.size)
  clear HCl hO
  have X0 := Lib.hid (X0.out.below hB X0.out.lt)
  have P1 := Lib.hid (P1.out.below hB P1.out.lt)
  have O1 : Hid (OwnsWords w.heap.size U (.slice a1 n1 d1) w4) := Lib.hid (owns_keep O1.out hB (Nat.le_refl _))
  have B := Lib.hid (B.out.trans (hB.mono B.out.size))
  clear hB hmi hmi2 hmi3 hmi4 hmc hmn
  go_wp2_with fail
  cases hrr : r with
  | false =>
    go_loopw [33] (fun j wr => ∃ k : Nat, k ≤ m ∧ j = .int .i64 k ∧ Hid (Rows8 wr w.heap.size 25 #[.int .u64 E, .slice a n c]) ∧ Hid (Rows8 wr b1 25 #[.int .u64 E, .slice a1 n1 d1]) ∧ Hid (OwnsWords w.heap.size U (.slice a1 n1 d1) wr) ∧ Hid (OwnsPo w.heap.size M (.slice ao m do_) wr) ∧ Hid (Below w.heap.size w wr)) (fun j _ => m - (intOf j).toNat)
    case atStart => exact ⟨0, Nat.zero_le _, rfl, X0, P1, O1, OL, B⟩
    case round =>
      obtain ⟨k, hk, rfl, hX, hP, hO, hLl, hBB⟩ := hrel
      clear X0 P1 O1 OL B
      by_cases hlt : k < m
      · have hki : (k : Int) < (m : Int) := by omega
        have hki0 : (0 : Int) ≤ (k : Int) := by omega
        have hkl : k < M.length := by rw [← HML.out]; exact hlt
        obtain ⟨b, off, rfl, hb3, z0, z1, z2⟩ := poAt_get (show PoAt wr (.slice ao m do_) M from rowAt_own hLl.out) k hkl
        have hoo := HMO.out M[k] (List.getElem_mem hkl)
        generalize M[k] = t at *
        obtain ⟨kd, gr, by_⟩ := t
        dsimp only at z0 z1 z2
        have hal : Below wr.heap.size wr (wr.alloc (.cells #[.int .i64 kd, .int .i64 gr, .int .u64 by_] 44)) := Rows8.newB
        have OP := Lib.hid (Rows8.new wr 44 #[.int .i64 kd, .int .i64 gr, .int .u64 by_])
        have X0 := Lib.hid (hX.out.below hal hX.out.lt)
        have P1 := Lib.hid (hP.out.below hal hP.out.lt)
        have O1 : Hid (OwnsWords w.heap.size U (.slice a1 n1 d1) (wr.alloc (.cells #[.int .i64 kd, .int .i64 gr, .int .u64 by_] 44))) := Lib.hid (owns_keep hO.out hal (Nat.le_refl _))
        have OL : Hid (OwnsPo w.heap.size M (.slice (some ⟨b, off, none⟩) m do_) (wr.alloc (.cells #[.int .i64 kd, .int .i64 gr, .int .u64 by_] 44))) := Lib.hid (owns_keep hLl.out hal (Nat.le_refl _))
        have B := Lib.hid (hBB.out.trans (hal.mono hBB.out.size))
        clear hX hP hO hLl hBB hal hkl
        go_upto_region 9 with fail
        generalize (wr.alloc (.cells #[.int .i64 kd, .int .i64 gr, .int .u64 by_] 44)) = W5 at *
        obtain ⟨b5, hb5⟩ : ∃ b, b = wr.heap.size := ⟨_, rfl⟩
        rw [← hb5] at OP ⊢
        clear hb5 z0 z1 z2 hb3
        have e0 : W5.cell? ⟨b5, 0, none⟩ = some (.int .i64 kd) := OP.out.cell 0
        have e1 : W5.cell? ⟨b5, 1, none⟩ = some (.int .i64 gr) := OP.out.cell 1
        have e2 : W5.cell? ⟨b5, 2, none⟩ = some (.int .u64 by_) := OP.out.cell 2
        have c10 : W5.cell? ⟨b1, 0, none⟩ = some (.int .u64 E) := P1.out.cell 0
        have c11 : W5.cell? ⟨b1, 1, none⟩ = some (.slice a1 n1 d1) := P1.out.cell 1
        have HCl := HDO ⟨kd, gr, by_⟩ hoo W5 _ _ _ O1.out.at
        have HCr := fun (h : r = true) (W : World) (h2 : Below W5.heap.size W5 W) => HRD h ⟨kd, gr, by_⟩ hoo W _ _ _ (RowAt.below O1.out.at h2)
        have HCn := Lib.hid (fun (h : r = false) => HNO.out h ⟨kd, gr, by_⟩)
        have hdl := HDL.out ⟨kd, gr, by_⟩
        dsimp only at HCl HCr
        generalize doP E U ⟨kd, gr, by_⟩ = T at *
        obtain ⟨t1, TE, TS⟩ := T
        dsimp only at hdl
        have HDl := Lib.hid hdl
        clear hoo hdl
        go_wp2_with fail
        refine HCl.out.mono ?_
        rintro e w6 ⟨⟨v, rfl, hv⟩, hB⟩
        obtain ⟨a5, n5, d5, rfl, -⟩ := hv.form2
        have hal : Below w6.heap.size w6 (w6.alloc (.cells #[.int .u64 TE, .slice a5 n5 d5] 25)) := Rows8.newB
        have V5 := Lib.hid (show OwnsWords W5.heap.size TS (.slice a5 n5 d5) _ from owns_keep hv hal (Nat.le_refl _))
        have N5 := Lib.hid (Rows8.new w6 25 #[.int .u64 TE, .slice a5 n5 d5])
        have C5 := Lib.hid (hB.trans (hal.mono hB.size))
        have L6 := Lib.hid hB.size
        clear hv hB hal HCl e0 e1 e2 c10 c11
        go_upto_region 10 with fail
        generalize (w6.alloc (.cells #[.int .u64 TE, .slice a5 n5 d5] 25)) = W7 at *
        obtain ⟨b7, hb7⟩ : ∃ b, b = w6.heap.size := ⟨_, rfl⟩
        have L7 : Hid (W5.heap.size ≤ b7) := Lib.hid (by rw [hb7]; exact L6.out)
        rw [← hb7] at N5 ⊢
        clear hb7 L6
        have hal : Below W7.heap.size W7 (W7.alloc (.cells #[.int .u64 0, .slice none 0 0] 25)) := Rows8.newB
        have Q5 := Lib.hid (Rows8.new W7 25 #[.int .u64 0, .slice none 0 0])
        have V5 := Lib.hid (show OwnsWords W5.heap.size TS (.slice a5 n5 d5) _ from owns_keep V5.out hal (Nat.le_refl _))
        have hl77 := N5.out.lt
        have N5 := Lib.hid (N5.out.below hal N5.out.lt)
        have L8 := Lib.hid (show W5.heap.size ≤ W7.heap.size from C5.out.size)
        have C5 := Lib.hid (C5.out.trans (hal.mono C5.out.size))
        clear hal
        go_upto_region 11 with fail
        generalize (W7.alloc (.cells #[.int .u64 0, .slice none 0 0] 25)) = W8 at *
        obtain ⟨b8, hb8⟩ : ∃ b, b = W7.heap.size := ⟨_, rfl⟩
        have L8 : Hid (W5.heap.size ≤ b8) := Lib.hid (by rw [hb8]; exact L8.out)
        rw [← hb8] at Q5 ⊢
        have H78 : Hid (b7 < b8) := Lib.hid (by rw [hb8]; exact hl77)
        clear hb8 hl77
        obtain ⟨rfl, rfl, rfl⟩ : t1 = 230 ∧ TE = 0 ∧ TS = [] := by have h := HCn.out hrr; injection h with h1 h2; injection h2 with h2 h3; exact ⟨h1, h2, h3⟩
        have VW := Lib.hid (show OwnsWords W5.heap.size ([] : List Int) (.slice none 0 0) W8 from World.ownsRow_nil _ _ _ _)
        clear HCn HCr
        as_aux_lemma =>
          have k0 : W8.cell? ⟨b7, 0, none⟩ = some (.int .u64 0) := N5.out.cell 0
          have k1 : W8.cell? ⟨b7, 1, none⟩ = some (.slice a5 n5 d5) := N5.out.cell 1
          have g0 : W8.cell? ⟨b8, 0, none⟩ = some (.int .u64 0) := Q5.out.cell 0
          have g1 : W8.cell? ⟨b8, 1, none⟩ = some (.slice none 0 0) := Q5.out.cell 1
          have hnt := hne 230
          have HCl := HSA 0 ([] : List Int) W8 _ _ _ _ _ _ V5.out.at VW.out.at
          go_wp2_with fail
          refine HCl.out.mono ?_
          rintro e y1 ⟨rfl, hB⟩
          have N5 := Lib.hid (N5.out.below hB N5.out.lt)
          have V5 : Hid (OwnsWords W5.heap.size ([] : List Int) (.slice a5 n5 d5) y1) := Lib.hid (owns_keep V5.out hB (Nat.le_refl _))
          have C5 := Lib.hid (C5.out.trans (hB.mono C5.out.size))
          clear hB HCl k0 k1 g0 g1
          have k0 : y1.cell? ⟨b7, 0, none⟩ = some (.int .u64 0) := N5.out.cell 0
          have k1 : y1.cell? ⟨b7, 1, none⟩ = some (.slice a5 n5 d5) := N5.out.cell 1
          have HCl := Lib.hid (Try.spoil_any 0 a5 n5 d5 W5.heap.size ([] : List Int) (by have := HDl.out; have := HUL.out; omega) y1 V5.out C5.out.size)
          go_wp2_with fail
          refine HCl.out.mono ?_
          rintro e y2 ⟨rfl, hB⟩
          have C6 := C5.out.trans hB
          have X9 := Lib.hid (X0.out.below C6 X0.out.lt)
          have P9 := Lib.hid (P1.out.below C6 P1.out.lt)
          have O9 : Hid (OwnsWords w.heap.size U (.slice a1 n1 d1) y2) := Lib.hid (owns_keep O1.out C6 (Nat.le_refl _))
          have OL9 : Hid (OwnsPo w.heap.size M (.slice (some ⟨b, off, none⟩) m do_) y2) := Lib.hid (owns_keep OL.out C6 (Nat.le_refl _))
          have B9 := Lib.hid (B.out.trans (C6.mono B.out.size))
          clear hB HCl k0 k1 C6
          go_wp2_with fail
          exact ⟨⟨k + 1, by omega, by go_num, X9, P9, O9, OL9, B9⟩, by simp [intOf]; omega⟩
      · obtain rfl : k = m := by omega
        have hki : ¬ (k : Int) < (k : Int) := by omega
        have X0 := hX
        have P1 := hP
        have O1 := hO
        have OL := hLl
        have B := hBB
        have hm9 : M.length ≤ 100000 := by rw [← HML.out]; omega
        clear hX hP hO hLl hBB hlt hk HDO HRD HNO HDL HMO
        have c10 : wr.cell? ⟨b1, 0, none⟩ = some (.int .u64 E) := P1.out.cell 0
        have c11 : wr.cell? ⟨b1, 1, none⟩ = some (.slice a1 n1 d1) := P1.out.cell 1
        have HCl := HRU wr _ _ _ _ _ _ O1.out.at (show PoAt wr (.slice ao k do_) M from rowAt_own OL.out) hm9
        have hrl := HRL.out
        have HCr := fun (h : r = true) (W : World) (a : Option Addr) (n c : Nat) (h1 : WordsAt W (.slice a n c) U) (h2 : PoAt W (.slice ao k do_) M) => HRR h W a n c _ _ _ h1 h2 hm9
        generalize runP E U M = T at *
        obtain ⟨t1, TE, TS, tk⟩ := T
        dsimp only at hrl
        have HDl := Lib.hid hrl
        clear hrl HRU HRR HRL
        go_wp2_with fail
        refine HCl.out.mono ?_
        rintro e w6 ⟨⟨v, rfl, hv⟩, hB⟩
        obtain ⟨a5, n5, d5, rfl, -⟩ := hv.form2
        have hal : Below w6.heap.size w6 (w6.alloc (.cells #[.int .u64 TE, .slice a5 n5 d5] 25)) := Rows8.newB
        have V5 := Lib.hid (show OwnsWords wr.heap.size TS (.slice a5 n5 d5) _ from owns_keep hv hal (Nat.le_refl _))
        have N5 := Lib.hid (Rows8.new w6 25 #[.int .u64 TE, .slice a5 n5 d5])
        have C5 := Lib.hid (hB.trans (hal.mono hB.size))
        have L6 := Lib.hid hB.size
        clear hv hB hal HCl c10 c11
        go_upto_region 19 with fail
        generalize (w6.alloc (.cells #[.int .u64 TE, .slice a5 n5 d5] 25)) = W7 at *
        obtain ⟨b7, hb7⟩ : ∃ b, b = w6.heap.size := ⟨_, rfl⟩
        have L7 : Hid (wr.heap.size ≤ b7) := Lib.hid (by rw [hb7]; exact L6.out)
        rw [← hb7] at N5 ⊢
        clear hb7 L6
        have hal : Below W7.heap.size W7 (W7.alloc (.cells #[.int .u64 0, .slice none 0 0] 25)) := Rows8.newB
        have Q5 := Lib.hid (Rows8.new W7 25 #[.int .u64 0, .slice none 0 0])
        have V5 := Lib.hid (show OwnsWords wr.heap.size TS (.slice a5 n5 d5) _ from owns_keep V5.out hal (Nat.le_refl _))
        have hl77 := N5.out.lt
        have N5 := Lib.hid (N5.out.below hal N5.out.lt)
        have L8 := Lib.hid (show wr.heap.size ≤ W7.heap.size from C5.out.size)
        have C5 := Lib.hid (C5.out.trans (hal.mono C5.out.size))
        clear hal
        go_upto_region 20 with fail
        generalize (W7.alloc (.cells #[.int .u64 0, .slice none 0 0] 25)) = W8 at *
        obtain ⟨b8, hb8⟩ : ∃ b, b = W7.heap.size := ⟨_, rfl⟩
        have L8 : Hid (wr.heap.size ≤ b8) := Lib.hid (by rw [hb8]; exact L8.out)
        rw [← hb8] at Q5 ⊢
        have H78 : Hid (b7 < b8) := Lib.hid (by rw [hb8]; exact hl77)
        clear hb8 hl77
        obtain ⟨rfl, rfl, rfl, rfl⟩ : t1 = 230 ∧ TE = 0 ∧ TS = [] ∧ tk = 0 := by have h := HNR.out hrr; injection h with h1 h2; injection h2 with h2 h3; injection h3 with h3 h4; exact ⟨h1, h2, h3, h4⟩
        have VW := Lib.hid (show OwnsWords wr.heap.size ([] : List Int) (.slice none 0 0) W8 from World.ownsRow_nil _ _ _ _)
        clear HNR HCr
        as_aux_lemma =>
          have k0 : W8.cell? ⟨b7, 0, none⟩ = some (.int .u64 0) := N5.out.cell 0
          have k1 : W8.cell? ⟨b7, 1, none⟩ = some (.slice a5 n5 d5) := N5.out.cell 1
          have g0 : W8.cell? ⟨b8, 0, none⟩ = some (.int .u64 0) := Q5.out.cell 0
          have g1 : W8.cell? ⟨b8, 1, none⟩ = some (.slice none 0 0) := Q5.out.cell 1
          have hnt := hne 230
          have hnk := hne 0
          have HCl := HSA 0 ([] : List Int) W8 _ _ _ _ _ _ V5.out.at VW.out.at
          go_wp2_with fail
          refine HCl.out.mono ?_
          rintro e y1 ⟨rfl, hB⟩
          have N5 := Lib.hid (N5.out.below hB N5.out.lt)
          have V5 : Hid (OwnsWords wr.heap.size ([] : List Int) (.slice a5 n5 d5) y1) := Lib.hid (owns_keep V5.out hB (Nat.le_refl _))
          have C5 := Lib.hid (C5.out.trans (hB.mono C5.out.size))
          clear hB HCl k0 k1 g0 g1
          have k0 : y1.cell? ⟨b7, 0, none⟩ = some (.int .u64 0) := N5.out.cell 0
          have k1 : y1.cell? ⟨b7, 1, none⟩ = some (.slice a5 n5 d5) := N5.out.cell 1
          have HCl := Lib.hid (Try.spoil_any 0 a5 n5 d5 wr.heap.size ([] : List Int) (by have := HDl.out; have := HUL.out; omega) y1 V5.out C5.out.size)
          go_wp2_with fail
          refine HCl.out.mono ?_
          rintro e y2 ⟨rfl, hB⟩
          have C6 := C5.out.trans hB
          have X9 := Lib.hid (X0.out.below C6 X0.out.lt)
          have P9 := Lib.hid (P1.out.below C6 P1.out.lt)
          have O9 : Hid (OwnsWords w.heap.size U (.slice a1 n1 d1) y2) := Lib.hid (owns_keep O1.out C6 (Nat.le_refl _))
          have B9 := Lib.hid (B.out.trans (C6.mono B.out.size))
          clear hB HCl k0 k1 C6
          go_wp2_with fail
          refine wp_region_X (fun W' => Rows8 W' w.heap.size 25 #[.int .u64 E, .slice a n c] ∧ Rows8 W' b1 25 #[.int .u64 E, .slice a1 n1 d1]) 5 (by kernel_rfl) ?_
          have hS0 : Rows8 y2.drew w.heap.size 25 #[.int .u64 E, .slice a n c] ∧ Rows8 y2.drew b1 25 #[.int .u64 E, .slice a1 n1 d1] := ⟨X9.out.drewA, P9.out.drewA⟩
          have O1 : Hid (OwnsWords w.heap.size U (.slice a1 n1 d1) y2.drew) := Lib.hid O9.out
          have B := Lib.hid B9.out.drew
          clear X9 P9 O9 B9
          generalize y2.drew = Wd at *
          refine wpAnyN_take (i := 0) (oi := { dst := some 94, op := Go.Op.load 25 (Go.Operand.tmp 5), type := 25, pos := "law.go:100", after := #[], guard := none }) (v := .agg #[.int .u64 E, .slice a1 n1 d1]) rfl (by decide) (by kernel_rfl) (by kernel_rfl) (by kernel_rfl) (fun _ _ _ h => h) (Or.inl ⟨by rfl, ?_⟩) hS0 ?_
          · intro W9 hS9
            obtain ⟨q0, q1⟩ := hS9
            have s0 : W9.cell? ⟨b1, 0, none⟩ = some (.int .u64 E) := q1.cell 0
            have s1 : W9.cell? ⟨b1, 1, none⟩ = some (.slice a1 n1 d1) := q1.cell 1
            clear q0 q1
            go_simp
          try simp only [Act.put, List.setIfInBounds_toArray, List.set_cons_zero, List.set_cons_succ]
          refine wpAnyN_take (i := 1) (oi := { dst := some 95, op := Go.Op.load 25 (Go.Operand.tmp 2), type := 25, pos := "law.go:100", after := #[], guard := none }) (v := .agg #[.int .u64 E, .slice a n c]) rfl (by decide) (by kernel_rfl) (by kernel_rfl) (by kernel_rfl) (fun _ _ _ h => h) (Or.inl ⟨by rfl, ?_⟩) hS0 ?_
          · intro W9 hS9
            obtain ⟨q0, q1⟩ := hS9
            have s0 : W9.cell? ⟨w.heap.size, 0, none⟩ = some (.int .u64 E) := q0.cell 0
            have s1 : W9.cell? ⟨w.heap.size, 1, none⟩ = some (.slice a n c) := q0.cell 1
            clear q0 q1
            go_simp
          try simp only [Act.put, List.setIfInBounds_toArray, List.set_cons_zero, List.set_cons_succ]
          refine wpAnyX_one (i := 2) (o := { dst := some 96, op := Go.Op.call { callee := Go.Callee.value (Go.Operand.func 9), args := #[Go.Operand.tmp 95], argTypes := #[25] }, type := 25, pos := "law.go:100", after := #[{ on := 1, ground := Go.Ground.data }], guard := none }) (by kernel_rfl) rfl (fun K hK => ?_)
          refine step_call_g (by rfl) 9 _ _ rfl (fun _ _ => by kernel_rfl) #[.agg #[.int .u64 E, .slice a n c]] (by simp [go_sem]) _ (HOW Wd B.out).out ?_
          rintro e y3 ⟨⟨ax, nx, dx, rfl, -, hO⟩, hC⟩
          refine ⟨_, rfl, ?_⟩
          have hS1 : Rows8 y3 w.heap.size 25 #[.int .u64 E, .slice a n c] ∧ Rows8 y3 b1 25 #[.int .u64 E, .slice a1 n1 d1] := ⟨hS0.1.below hC hS0.1.lt, hS0.2.below hC hS0.2.lt⟩
          have O1 : Hid (OwnsWords w.heap.size U (.slice a1 n1 d1) y3) := Lib.hid (owns_keep O1.out hC (Nat.le_refl _))
          have OX := Lib.hid (show OwnsWords w.heap.size U (.slice ax nx dx) y3 from owns_mono hO B.out.size)
          have B := Lib.hid (B.out.trans (hC.mono B.out.size))
          clear hC hO
          refine hK.out _ _ (fun _ => hS1) ?_
          clear hK K
          try simp only [Act.put, List.setIfInBounds_toArray, List.set_cons_zero, List.set_cons_succ]
          refine wpAnyX_one (i := 3) (o := { dst := some 97, op := Go.Op.call { callee := Go.Callee.value (Go.Operand.func 13), args := #[Go.Operand.tmp 94, Go.Operand.tmp 96], argTypes := #[25, 25] }, type := 4, pos := "law.go:100", after := #[{ on := 0, ground := Go.Ground.data }, { on := 2, ground := Go.Ground.data }, { on := 2, ground := Go.Ground.chain }], guard := none }) (by kernel_rfl) rfl (fun K hK => ?_)
          refine step_call_g (by rfl) 13 _ _ rfl (fun _ _ => by kernel_rfl) #[.agg #[.int .u64 E, .slice a1 n1 d1], .agg #[.int .u64 E, .slice ax nx dx]] (by simp [go_sem]) _ (HSA E U y3 _ _ _ _ _ _ O1.out.at OX.out.at).out ?_
          rintro e y4 ⟨rfl, hC⟩
          refine ⟨_, rfl, ?_⟩
          have hS2 : Rows8 y4 w.heap.size 25 #[.int .u64 E, .slice a n c] ∧ Rows8 y4 b1 25 #[.int .u64 E, .slice a1 n1 d1] := ⟨hS1.1.below hC hS1.1.lt, hS1.2.below hC hS1.2.lt⟩
          have B := Lib.hid (B.out.trans (hC.mono B.out.size))
          clear hC
          refine hK.out _ _ (fun _ => hS2) ?_
          clear hK K
          try simp only [Act.put, List.setIfInBounds_toArray, List.set_cons_zero, List.set_cons_succ]
          refine wpAnyN_take (i := 4) (oi := { dst := some 4, op := Go.Op.assign (Go.Operand.tmp 97), type := 4, pos := "law.go:100", after := #[{ on := 3, ground := Go.Ground.data }, { on := 3, ground := Go.Ground.chain }, { on := 0, ground := Go.Ground.phase }, { on := 1, ground := Go.Ground.phase }, { on := 2, ground := Go.Ground.phase }, { on := 3, ground := Go.Ground.phase }], guard := none }) (v := .bool true) rfl (by decide) (by kernel_rfl) (by kernel_rfl) (by kernel_rfl) (fun _ _ _ h => h) (Or.inl ⟨by rfl, ?_⟩) hS2 ?_
          · intro W9 hS9
            obtain ⟨q0, q1⟩ := hS9
            clear q0 q1
            go_simp
          try simp only [Act.put, List.setIfInBounds_toArray, List.set_cons_zero, List.set_cons_succ]
          refine wpAnyX_end (by kernel_rfl) ?_
          go_wp2_with fail
          go_ret
          exact ⟨rfl, B.out⟩
  | true =>
    go_loopw [33] (fun j wr => ∃ k : Nat, k ≤ m ∧ j = .int .i64 k ∧ Hid (Rows8 wr w.heap.size 25 #[.int .u64 E, .slice a n c]) ∧ Hid (Rows8 wr b1 25 #[.int .u64 E, .slice a1 n1 d1]) ∧ Hid (OwnsWords w.heap.size U (.slice a1 n1 d1) wr) ∧ Hid (OwnsPo w.heap.size M (.slice ao m do_) wr) ∧ Hid (Below w.heap.size w wr)) (fun j _ => m - (intOf j).toNat)
    case atStart => exact ⟨0, Nat.zero_le _, rfl, X0, P1, O1, OL, B⟩
    case round =>
      obtain ⟨k, hk, rfl, hX, hP, hO, hLl, hBB⟩ := hrel
      clear X0 P1 O1 OL B
      by_cases hlt : k < m
      · have hki : (k : Int) < (m : Int) := by omega
        have hki0 : (0 : Int) ≤ (k : Int) := by omega
        have hkl : k < M.length := by rw [← HML.out]; exact hlt
        obtain ⟨b, off, rfl, hb3, z0, z1, z2⟩ := poAt_get (show PoAt wr (.slice ao m do_) M from rowAt_own hLl.out) k hkl
        have hoo := HMO.out M[k] (List.getElem_mem hkl)
        generalize M[k] = t at *
        obtain ⟨kd, gr, by_⟩ := t
        dsimp only at z0 z1 z2
        have hal : Below wr.heap.size wr (wr.alloc (.cells #[.int .i64 kd, .int .i64 gr, .int .u64 by_] 44)) := Rows8.newB
        have OP := Lib.hid (Rows8.new wr 44 #[.int .i64 kd, .int .i64 gr, .int .u64 by_])
        have X0 := Lib.hid (hX.out.below hal hX.out.lt)
        have P1 := Lib.hid (hP.out.below hal hP.out.lt)
        have O1 : Hid (OwnsWords w.heap.size U (.slice a1 n1 d1) (wr.alloc (.cells #[.int .i64 kd, .int .i64 gr, .int .u64 by_] 44))) := Lib.hid (owns_keep hO.out hal (Nat.le_refl _))
        have OL : Hid (OwnsPo w.heap.size M (.slice (some ⟨b, off, none⟩) m do_) (wr.alloc (.cells #[.int .i64 kd, .int .i64 gr, .int .u64 by_] 44))) := Lib.hid (owns_keep hLl.out hal (Nat.le_refl _))
        have B := Lib.hid (hBB.out.trans (hal.mono hBB.out.size))
        clear hX hP hO hLl hBB hal hkl
        go_upto_region 9 with fail
        generalize (wr.alloc (.cells #[.int .i64 kd, .int .i64 gr, .int .u64 by_] 44)) = W5 at *
        obtain ⟨b5, hb5⟩ : ∃ b, b = wr.heap.size := ⟨_, rfl⟩
        rw [← hb5] at OP ⊢
        clear hb5 z0 z1 z2 hb3
        have e0 : W5.cell? ⟨b5, 0, none⟩ = some (.int .i64 kd) := OP.out.cell 0
        have e1 : W5.cell? ⟨b5, 1, none⟩ = some (.int .i64 gr) := OP.out.cell 1
        have e2 : W5.cell? ⟨b5, 2, none⟩ = some (.int .u64 by_) := OP.out.cell 2
        have c10 : W5.cell? ⟨b1, 0, none⟩ = some (.int .u64 E) := P1.out.cell 0
        have c11 : W5.cell? ⟨b1, 1, none⟩ = some (.slice a1 n1 d1) := P1.out.cell 1
        have HCl := HDO ⟨kd, gr, by_⟩ hoo W5 _ _ _ O1.out.at
        have HCr := fun (h : r = true) (W : World) (h2 : Below W5.heap.size W5 W) => HRD h ⟨kd, gr, by_⟩ hoo W _ _ _ (RowAt.below O1.out.at h2)
        have HCn := Lib.hid (fun (h : r = false) => HNO.out h ⟨kd, gr, by_⟩)
        have hdl := HDL.out ⟨kd, gr, by_⟩
        dsimp only at HCl HCr
        generalize doP E U ⟨kd, gr, by_⟩ = T at *
        obtain ⟨t1, TE, TS⟩ := T
        dsimp only at hdl
        have HDl := Lib.hid hdl
        clear hoo hdl
        go_wp2_with fail
        refine HCl.out.mono ?_
        rintro e w6 ⟨⟨v, rfl, hv⟩, hB⟩
        obtain ⟨a5, n5, d5, rfl, -⟩ := hv.form2
        have hal : Below w6.heap.size w6 (w6.alloc (.cells #[.int .u64 TE, .slice a5 n5 d5] 25)) := Rows8.newB
        have V5 := Lib.hid (show OwnsWords W5.heap.size TS (.slice a5 n5 d5) _ from owns_keep hv hal (Nat.le_refl _))
        have N5 := Lib.hid (Rows8.new w6 25 #[.int .u64 TE, .slice a5 n5 d5])
        have C5 := Lib.hid (hB.trans (hal.mono hB.size))
        have L6 := Lib.hid hB.size
        clear hv hB hal HCl e0 e1 e2 c10 c11
        go_upto_region 10 with fail
        generalize (w6.alloc (.cells #[.int .u64 TE, .slice a5 n5 d5] 25)) = W7 at *
        obtain ⟨b7, hb7⟩ : ∃ b, b = w6.heap.size := ⟨_, rfl⟩
        have L7 : Hid (W5.heap.size ≤ b7) := Lib.hid (by rw [hb7]; exact L6.out)
        rw [← hb7] at N5 ⊢
        clear hb7 L6
        have hal : Below W7.heap.size W7 (W7.alloc (.cells #[.int .u64 0, .slice none 0 0] 25)) := Rows8.newB
        have Q5 := Lib.hid (Rows8.new W7 25 #[.int .u64 0, .slice none 0 0])
        have V5 := Lib.hid (show OwnsWords W5.heap.size TS (.slice a5 n5 d5) _ from owns_keep V5.out hal (Nat.le_refl _))
        have hl77 := N5.out.lt
        have N5 := Lib.hid (N5.out.below hal N5.out.lt)
        have L8 := Lib.hid (show W5.heap.size ≤ W7.heap.size from C5.out.size)
        have C5 := Lib.hid (C5.out.trans (hal.mono C5.out.size))
        clear hal
        go_upto_region 11 with fail
        generalize (W7.alloc (.cells #[.int .u64 0, .slice none 0 0] 25)) = W8 at *
        obtain ⟨b8, hb8⟩ : ∃ b, b = W7.heap.size := ⟨_, rfl⟩
        have L8 : Hid (W5.heap.size ≤ b8) := Lib.hid (by rw [hb8]; exact L8.out)
        rw [← hb8] at Q5 ⊢
        have H78 : Hid (b7 < b8) := Lib.hid (by rw [hb8]; exact hl77)
        clear hb8 hl77
        have e0 : W8.cell? ⟨b5, 0, none⟩ = some (.int .i64 kd) := (OP.out.below C5.out OP.out.lt).cell 0
        have e1 : W8.cell? ⟨b5, 1, none⟩ = some (.int .i64 gr) := (OP.out.below C5.out OP.out.lt).cell 1
        have e2 : W8.cell? ⟨b5, 2, none⟩ = some (.int .u64 by_) := (OP.out.below C5.out OP.out.lt).cell 2
        have c10 : W8.cell? ⟨b1, 0, none⟩ = some (.int .u64 E) := (P1.out.below C5.out P1.out.lt).cell 0
        have c11 : W8.cell? ⟨b1, 1, none⟩ = some (.slice a1 n1 d1) := (P1.out.below C5.out P1.out.lt).cell 1
        have HCl := HCr hrr W8 C5.out
        clear HCn HCr
        as_aux_lemma =>
          go_wp2_with fail
          refine HCl.out.mono ?_
          rintro e w9 ⟨⟨v, rfl, hv⟩, hB⟩
          obtain ⟨a9, n9, d9, rfl, -⟩ := hv.form2
          have n9' := N5.out.below hB N5.out.lt
          have q9 := Q5.out.below hB Q5.out.lt
          have v9 : OwnsWords W5.heap.size TS (.slice a5 n5 d5) w9 := owns_keep V5.out hB (Nat.le_refl _)
          have w9o : OwnsWords W5.heap.size TS (.slice a9 n9 d9) w9 := owns_mono hv C5.out.size
          have c9 := C5.out.trans (hB.mono C5.out.size)
          have q0 : w9.cell? ⟨b8, 0, none⟩ = some (.int .u64 0) := q9.cell 0
          have q1 : w9.cell? ⟨b8, 1, none⟩ = some (.slice none 0 0) := q9.cell 1
          have f0 := q9.frozen 0
          have f1 := q9.frozen 1
          have lq := q9.lt
          have hn87 : b8 ≠ b7 := by have := H78.out; omega
          have Q5 := Lib.hid (q9.set2 (.int .u64 TE) (.slice a9 n9 d9))
          have N5 := Lib.hid ((n9'.setOther (a := ⟨b8, 0, none⟩) hn87 (.int .u64 TE)).setOther (a := ⟨b8, 1, none⟩) hn87 (.slice a9 n9 d9))
          have V5 : Hid (OwnsWords W5.heap.size TS (.slice a5 n5 d5) _) := Lib.hid (owns_setT (owns_setT v9 (a := ⟨b8, 0, none⟩) q9 (by decide) (.int .u64 TE)) (a := ⟨b8, 1, none⟩) (q9.set 0 (.int .u64 TE)) (by decide) (.slice a9 n9 d9))
          have VW : Hid (OwnsWords W5.heap.size TS (.slice a9 n9 d9) _) := Lib.hid (owns_setT (owns_setT w9o (a := ⟨b8, 0, none⟩) q9 (by decide) (.int .u64 TE)) (a := ⟨b8, 1, none⟩) (q9.set 0 (.int .u64 TE)) (by decide) (.slice a9 n9 d9))
          have C5 := Lib.hid ((c9.setCell (p := ⟨b8, 0, none⟩) L8.out (.int .u64 TE)).setCell (p := ⟨b8, 1, none⟩) L8.out (.slice a9 n9 d9))
          clear hv hB n9' q9 v9 w9o c9 HCl e0 e1 e2 c10 c11 hn87
          go_upto_region 14 with fail
          generalize ((w9.setCell ⟨b8, 0, none⟩ (.int .u64 TE)).setCell ⟨b8, 1, none⟩ (.slice a9 n9 d9)) = W9 at *
          clear q0 q1 f0 f1 lq
          have k0 : W9.cell? ⟨b7, 0, none⟩ = some (.int .u64 TE) := N5.out.cell 0
          have k1 : W9.cell? ⟨b7, 1, none⟩ = some (.slice a5 n5 d5) := N5.out.cell 1
          have g0 : W9.cell? ⟨b8, 0, none⟩ = some (.int .u64 TE) := Q5.out.cell 0
          have g1 : W9.cell? ⟨b8, 1, none⟩ = some (.slice a9 n9 d9) := Q5.out.cell 1
          have hnt := hne t1
          have HCl := HSA TE TS W9 _ _ _ _ _ _ V5.out.at VW.out.at
          go_wp2_with fail
          refine HCl.out.mono ?_
          rintro e y1 ⟨rfl, hB⟩
          have N5 := Lib.hid (N5.out.below hB N5.out.lt)
          have V5 : Hid (OwnsWords W5.heap.size TS (.slice a5 n5 d5) y1) := Lib.hid (owns_keep V5.out hB (Nat.le_refl _))
          have C5 := Lib.hid (C5.out.trans (hB.mono C5.out.size))
          clear hB HCl k0 k1 g0 g1
          have k0 : y1.cell? ⟨b7, 0, none⟩ = some (.int .u64 TE) := N5.out.cell 0
          have k1 : y1.cell? ⟨b7, 1, none⟩ = some (.slice a5 n5 d5) := N5.out.cell 1
          have HCl := Lib.hid (Try.spoil_any TE a5 n5 d5 W5.heap.size TS (by have := HDl.out; have := HUL.out; omega) y1 V5.out C5.out.size)
          go_wp2_with fail
          refine HCl.out.mono ?_
          rintro e y2 ⟨rfl, hB⟩
          have C6 := C5.out.trans hB
          have X9 := Lib.hid (X0.out.below C6 X0.out.lt)
          have P9 := Lib.hid (P1.out.below C6 P1.out.lt)
          have O9 : Hid (OwnsWords w.heap.size U (.slice a1 n1 d1) y2) := Lib.hid (owns_keep O1.out C6 (Nat.le_refl _))
          have OL9 : Hid (OwnsPo w.heap.size M (.slice (some ⟨b, off, none⟩) m do_) y2) := Lib.hid (owns_keep OL.out C6 (Nat.le_refl _))
          have B9 := Lib.hid (B.out.trans (C6.mono B.out.size))
          clear hB HCl k0 k1 C6
          go_wp2_with fail
          exact ⟨⟨k + 1, by omega, by go_num, X9, P9, O9, OL9, B9⟩, by simp [intOf]; omega⟩
      · obtain rfl : k = m := by omega
        have hki : ¬ (k : Int) < (k : Int) := by omega
        have X0 := hX
        have P1 := hP
        have O1 := hO
        have OL := hLl
        have B := hBB
        have hm9 : M.length ≤ 100000 := by rw [← HML.out]; omega
        clear hX hP hO hLl hBB hlt hk HDO HRD HNO HDL HMO
        have c10 : wr.cell? ⟨b1, 0, none⟩ = some (.int .u64 E) := P1.out.cell 0
        have c11 : wr.cell? ⟨b1, 1, none⟩ = some (.slice a1 n1 d1) := P1.out.cell 1
        have HCl := HRU wr _ _ _ _ _ _ O1.out.at (show PoAt wr (.slice ao k do_) M from rowAt_own OL.out) hm9
        have hrl := HRL.out
        have HCr := fun (h : r = true) (W : World) (a : Option Addr) (n c : Nat) (h1 : WordsAt W (.slice a n c) U) (h2 : PoAt W (.slice ao k do_) M) => HRR h W a n c _ _ _ h1 h2 hm9
        generalize runP E U M = T at *
        obtain ⟨t1, TE, TS, tk⟩ := T
        dsimp only at hrl
        have HDl := Lib.hid hrl
        clear hrl HRU HRR HRL
        go_wp2_with fail
        refine HCl.out.mono ?_
        rintro e w6 ⟨⟨v, rfl, hv⟩, hB⟩
        obtain ⟨a5, n5, d5, rfl, -⟩ := hv.form2
        have hal : Below w6.heap.size w6 (w6.alloc (.cells #[.int .u64 TE, .slice a5 n5 d5] 25)) := Rows8.newB
        have V5 := Lib.hid (show OwnsWords wr.heap.size TS (.slice a5 n5 d5) _ from owns_keep hv hal (Nat.le_refl _))
        have N5 := Lib.hid (Rows8.new w6 25 #[.int .u64 TE, .slice a5 n5 d5])
        have C5 := Lib.hid (hB.trans (hal.mono hB.size))
        have L6 := Lib.hid hB.size
        clear hv hB hal HCl c10 c11
        go_upto_region 19 with fail
        generalize (w6.alloc (.cells #[.int .u64 TE, .slice a5 n5 d5] 25)) = W7 at *
        obtain ⟨b7, hb7⟩ : ∃ b, b = w6.heap.size := ⟨_, rfl⟩
        have L7 : Hid (wr.heap.size ≤ b7) := Lib.hid (by rw [hb7]; exact L6.out)
        rw [← hb7] at N5 ⊢
        clear hb7 L6
        have hal : Below W7.heap.size W7 (W7.alloc (.cells #[.int .u64 0, .slice none 0 0] 25)) := Rows8.newB
        have Q5 := Lib.hid (Rows8.new W7 25 #[.int .u64 0, .slice none 0 0])
        have V5 := Lib.hid (show OwnsWords wr.heap.size TS (.slice a5 n5 d5) _ from owns_keep V5.out hal (Nat.le_refl _))
        have hl77 := N5.out.lt
        have N5 := Lib.hid (N5.out.below hal N5.out.lt)
        have L8 := Lib.hid (show wr.heap.size ≤ W7.heap.size from C5.out.size)
        have C5 := Lib.hid (C5.out.trans (hal.mono C5.out.size))
        clear hal
        go_upto_region 20 with fail
        generalize (W7.alloc (.cells #[.int .u64 0, .slice none 0 0] 25)) = W8 at *
        obtain ⟨b8, hb8⟩ : ∃ b, b = W7.heap.size := ⟨_, rfl⟩
        have L8 : Hid (wr.heap.size ≤ b8) := Lib.hid (by rw [hb8]; exact L8.out)
        rw [← hb8] at Q5 ⊢
        have H78 : Hid (b7 < b8) := Lib.hid (by rw [hb8]; exact hl77)
        clear hb8 hl77
        have c10 : W8.cell? ⟨b1, 0, none⟩ = some (.int .u64 E) := (P1.out.below C5.out P1.out.lt).cell 0
        have c11 : W8.cell? ⟨b1, 1, none⟩ = some (.slice a1 n1 d1) := (P1.out.below C5.out P1.out.lt).cell 1
        have HCo := HOU W8 _ _ _ (RowAt.below O1.out.at C5.out)
        have HCl := HCr hrr
        clear HNR HCr
        as_aux_lemma =>
          go_wp2_with fail
          refine HCo.out.mono ?_
          rintro e w8 ⟨⟨av, nv, dv, rfl, -, hv⟩, hB⟩
          have Q5 := Lib.hid (Q5.out.below hB Q5.out.lt)
          have N5 := Lib.hid (N5.out.below hB N5.out.lt)
          have V5 : Hid (OwnsWords wr.heap.size TS (.slice a5 n5 d5) w8) := Lib.hid (owns_keep V5.out hB (Nat.le_refl _))
          have C5 := Lib.hid (C5.out.trans (hB.mono C5.out.size))
          have HCl := HCl w8 _ _ _ hv.at (show PoAt w8 (.slice ao k do_) M from RowAt.below (rowAt_own OL.out) C5.out)
          clear HCo hv hB c10 c11
          go_wp2_with fail
          refine HCl.out.mono ?_
          rintro e w9 ⟨⟨v, rfl, hv⟩, hB⟩
          obtain ⟨a9, n9, d9, rfl, -⟩ := hv.form2
          have n9' := N5.out.below hB N5.out.lt
          have q9 := Q5.out.below hB Q5.out.lt
          have v9 : OwnsWords wr.heap.size TS (.slice a5 n5 d5) w9 := owns_keep V5.out hB (Nat.le_refl _)
          have w9o : OwnsWords wr.heap.size TS (.slice a9 n9 d9) w9 := owns_mono hv C5.out.size
          have c9 := C5.out.trans (hB.mono C5.out.size)
          have q0 : w9.cell? ⟨b8, 0, none⟩ = some (.int .u64 0) := q9.cell 0
          have q1 : w9.cell? ⟨b8, 1, none⟩ = some (.slice none 0 0) := q9.cell 1
          have f0 := q9.frozen 0
          have f1 := q9.frozen 1
          have lq := q9.lt
          have hn87 : b8 ≠ b7 := by have := H78.out; omega
          have Q5 := Lib.hid (q9.set2 (.int .u64 TE) (.slice a9 n9 d9))
          have N5 := Lib.hid ((n9'.setOther (a := ⟨b8, 0, none⟩) hn87 (.int .u64 TE)).setOther (a := ⟨b8, 1, none⟩) hn87 (.slice a9 n9 d9))
          have V5 : Hid (OwnsWords wr.heap.size TS (.slice a5 n5 d5) _) := Lib.hid (owns_setT (owns_setT v9 (a := ⟨b8, 0, none⟩) q9 (by decide) (.int .u64 TE)) (a := ⟨b8, 1, none⟩) (q9.set 0 (.int .u64 TE)) (by decide) (.slice a9 n9 d9))
          have VW : Hid (OwnsWords wr.heap.size TS (.slice a9 n9 d9) _) := Lib.hid (owns_setT (owns_setT w9o (a := ⟨b8, 0, none⟩) q9 (by decide) (.int .u64 TE)) (a := ⟨b8, 1, none⟩) (q9.set 0 (.int .u64 TE)) (by decide) (.slice a9 n9 d9))
          have C5 := Lib.hid ((c9.setCell (p := ⟨b8, 0, none⟩) L8.out (.int .u64 TE)).setCell (p := ⟨b8, 1, none⟩) L8.out (.slice a9 n9 d9))
          clear hv hB n9' q9 v9 w9o c9 HCl hn87
          go_upto_region 23 with fail
          generalize ((w9.setCell ⟨b8, 0, none⟩ (.int .u64 TE)).setCell ⟨b8, 1, none⟩ (.slice a9 n9 d9)) = W9 at *
          clear q0 q1 f0 f1 lq
          have k0 : W9.cell? ⟨b7, 0, none⟩ = some (.int .u64 TE) := N5.out.cell 0
          have k1 : W9.cell? ⟨b7, 1, none⟩ = some (.slice a5 n5 d5) := N5.out.cell 1
          have g0 : W9.cell? ⟨b8, 0, none⟩ = some (.int .u64 TE) := Q5.out.cell 0
          have g1 : W9.cell? ⟨b8, 1, none⟩ = some (.slice a9 n9 d9) := Q5.out.cell 1
          have hnt := hne t1
          have hnk := hne tk
          have HCl := HSA TE TS W9 _ _ _ _ _ _ V5.out.at VW.out.at
          go_wp2_with fail
          refine HCl.out.mono ?_
          rintro e y1 ⟨rfl, hB⟩
          have N5 := Lib.hid (N5.out.below hB N5.out.lt)
          have V5 : Hid (OwnsWords wr.heap.size TS (.slice a5 n5 d5) y1) := Lib.hid (owns_keep V5.out hB (Nat.le_refl _))
          have C5 := Lib.hid (C5.out.trans (hB.mono C5.out.size))
          clear hB HCl k0 k1 g0 g1
          have k0 : y1.cell? ⟨b7, 0, none⟩ = some (.int .u64 TE) := N5.out.cell 0
          have k1 : y1.cell? ⟨b7, 1, none⟩ = some (.slice a5 n5 d5) := N5.out.cell 1
          have HCl := Lib.hid (Try.spoil_any TE a5 n5 d5 wr.heap.size TS (by have := HDl.out; have := HUL.out; omega) y1 V5.out C5.out.size)
          go_wp2_with fail
          refine HCl.out.mono ?_
          rintro e y2 ⟨rfl, hB⟩
          have C6 := C5.out.trans hB
          have X9 := Lib.hid (X0.out.below C6 X0.out.lt)
          have P9 := Lib.hid (P1.out.below C6 P1.out.lt)
          have O9 : Hid (OwnsWords w.heap.size U (.slice a1 n1 d1) y2) := Lib.hid (owns_keep O1.out C6 (Nat.le_refl _))
          have B9 := Lib.hid (B.out.trans (C6.mono B.out.size))
          clear hB HCl k0 k1 C6
          go_wp2_with fail
          refine wp_region_X (fun W' => Rows8 W' w.heap.size 25 #[.int .u64 E, .slice a n c] ∧ Rows8 W' b1 25 #[.int .u64 E, .slice a1 n1 d1]) 5 (by kernel_rfl) ?_
          have hS0 : Rows8 y2.drew w.heap.size 25 #[.int .u64 E, .slice a n c] ∧ Rows8 y2.drew b1 25 #[.int .u64 E, .slice a1 n1 d1] := ⟨X9.out.drewA, P9.out.drewA⟩
          have O1 : Hid (OwnsWords w.heap.size U (.slice a1 n1 d1) y2.drew) := Lib.hid O9.out
          have B := Lib.hid B9.out.drew
          clear X9 P9 O9 B9
          generalize y2.drew = Wd at *
          refine wpAnyN_take (i := 0) (oi := { dst := some 94, op := Go.Op.load 25 (Go.Operand.tmp 5), type := 25, pos := "law.go:100", after := #[], guard := none }) (v := .agg #[.int .u64 E, .slice a1 n1 d1]) rfl (by decide) (by kernel_rfl) (by kernel_rfl) (by kernel_rfl) (fun _ _ _ h => h) (Or.inl ⟨by rfl, ?_⟩) hS0 ?_
          · intro W9 hS9
            obtain ⟨q0, q1⟩ := hS9
            have s0 : W9.cell? ⟨b1, 0, none⟩ = some (.int .u64 E) := q1.cell 0
            have s1 : W9.cell? ⟨b1, 1, none⟩ = some (.slice a1 n1 d1) := q1.cell 1
            clear q0 q1
            go_simp
          try simp only [Act.put, List.setIfInBounds_toArray, List.set_cons_zero, List.set_cons_succ]
          refine wpAnyN_take (i := 1) (oi := { dst := some 95, op := Go.Op.load 25 (Go.Operand.tmp 2), type := 25, pos := "law.go:100", after := #[], guard := none }) (v := .agg #[.int .u64 E, .slice a n c]) rfl (by decide) (by kernel_rfl) (by kernel_rfl) (by kernel_rfl) (fun _ _ _ h => h) (Or.inl ⟨by rfl, ?_⟩) hS0 ?_
          · intro W9 hS9
            obtain ⟨q0, q1⟩ := hS9
            have s0 : W9.cell? ⟨w.heap.size, 0, none⟩ = some (.int .u64 E) := q0.cell 0
            have s1 : W9.cell? ⟨w.heap.size, 1, none⟩ = some (.slice a n c) := q0.cell 1
            clear q0 q1
            go_simp
          try simp only [Act.put, List.setIfInBounds_toArray, List.set_cons_zero, List.set_cons_succ]
          refine wpAnyX_one (i := 2) (o := { dst := some 96, op := Go.Op.call { callee := Go.Callee.value (Go.Operand.func 9), args := #[Go.Operand.tmp 95], argTypes := #[25] }, type := 25, pos := "law.go:100", after := #[{ on := 1, ground := Go.Ground.data }], guard := none }) (by kernel_rfl) rfl (fun K hK => ?_)
          refine step_call_g (by rfl) 9 _ _ rfl (fun _ _ => by kernel_rfl) #[.agg #[.int .u64 E, .slice a n c]] (by simp [go_sem]) _ (HOW Wd B.out).out ?_
          rintro e y3 ⟨⟨ax, nx, dx, rfl, -, hO⟩, hC⟩
          refine ⟨_, rfl, ?_⟩
          have hS1 : Rows8 y3 w.heap.size 25 #[.int .u64 E, .slice a n c] ∧ Rows8 y3 b1 25 #[.int .u64 E, .slice a1 n1 d1] := ⟨hS0.1.below hC hS0.1.lt, hS0.2.below hC hS0.2.lt⟩
          have O1 : Hid (OwnsWords w.heap.size U (.slice a1 n1 d1) y3) := Lib.hid (owns_keep O1.out hC (Nat.le_refl _))
          have OX := Lib.hid (show OwnsWords w.heap.size U (.slice ax nx dx) y3 from owns_mono hO B.out.size)
          have B := Lib.hid (B.out.trans (hC.mono B.out.size))
          clear hC hO
          refine hK.out _ _ (fun _ => hS1) ?_
          clear hK K
          try simp only [Act.put, List.setIfInBounds_toArray, List.set_cons_zero, List.set_cons_succ]
          refine wpAnyX_one (i := 3) (o := { dst := some 97, op := Go.Op.call { callee := Go.Callee.value (Go.Operand.func 13), args := #[Go.Operand.tmp 94, Go.Operand.tmp 96], argTypes := #[25, 25] }, type := 4, pos := "law.go:100", after := #[{ on := 0, ground := Go.Ground.data }, { on := 2, ground := Go.Ground.data }, { on := 2, ground := Go.Ground.chain }], guard := none }) (by kernel_rfl) rfl (fun K hK => ?_)
          refine step_call_g (by rfl) 13 _ _ rfl (fun _ _ => by kernel_rfl) #[.agg #[.int .u64 E, .slice a1 n1 d1], .agg #[.int .u64 E, .slice ax nx dx]] (by simp [go_sem]) _ (HSA E U y3 _ _ _ _ _ _ O1.out.at OX.out.at).out ?_
          rintro e y4 ⟨rfl, hC⟩
          refine ⟨_, rfl, ?_⟩
          have hS2 : Rows8 y4 w.heap.size 25 #[.int .u64 E, .slice a n c] ∧ Rows8 y4 b1 25 #[.int .u64 E, .slice a1 n1 d1] := ⟨hS1.1.below hC hS1.1.lt, hS1.2.below hC hS1.2.lt⟩
          have B := Lib.hid (B.out.trans (hC.mono B.out.size))
          clear hC
          refine hK.out _ _ (fun _ => hS2) ?_
          clear hK K
          try simp only [Act.put, List.setIfInBounds_toArray, List.set_cons_zero, List.set_cons_succ]
          refine wpAnyN_take (i := 4) (oi := { dst := some 4, op := Go.Op.assign (Go.Operand.tmp 97), type := 4, pos := "law.go:100", after := #[{ on := 3, ground := Go.Ground.data }, { on := 3, ground := Go.Ground.chain }, { on := 0, ground := Go.Ground.phase }, { on := 1, ground := Go.Ground.phase }, { on := 2, ground := Go.Ground.phase }, { on := 3, ground := Go.Ground.phase }], guard := none }) (v := .bool true) rfl (by decide) (by kernel_rfl) (by kernel_rfl) (by kernel_rfl) (fun _ _ _ h => h) (Or.inl ⟨by rfl, ?_⟩) hS2 ?_
          · intro W9 hS9
            obtain ⟨q0, q1⟩ := hS9
            clear q0 q1
            go_simp
          try simp only [Act.put, List.setIfInBounds_toArray, List.set_cons_zero, List.set_cons_succ]
          refine wpAnyX_end (by kernel_rfl) ?_
          go_wp2_with fail
          go_ret
          exact ⟨rfl, B.out⟩
end Go.Proofs
namespace Go.Proofs.Ytdkpenfgeohddaa.pinsOps
open Go.ChangeShapes Go.WideShapes Go.ChangeAt Go.RowKit Go.Shelf

theorem own : ownKnob Try.prog.godebug = none := by kernel_rfl
theorem walk (g : Pv) (al : Option Addr) (nl cl : Nat) (l : List Po) (w : World) (hg : PvAt w g) (_ : nl = l.length) (hL : PoK w (.slice al nl cl) l) :
    Calls Try.prog 4 #[.agg #[.int .u64 g.e, .slice g.a g.n g.c], .slice al nl cl] w fun e w' => e = .returned (.bool true) ∧ Below w.heap.size w w' := Try.opsP_any g.e g.a g.n g.c g.s al nl cl l w hg.2.1 hg.1 hg.2.2 hL
theorem laidOut : laidOutB Try.prog = true := by kernel_rfl
set_option maxRecDepth 100000 in
theorem lifted (os : Os) (started : os.Started) (H : Type) (enc : TypeId × Value → H) :
    ReturnsInHanded {} Try.checked os 4 .any (Rows.pinsOpsSpec.pre6 enc Try.prog Try.f4 Rows.pinsOpsRow.domain false) (Rows.pinsOpsSpec.post enc Try.prog Try.f4 false true false false) := by
  refine returnsInHanded_of_change (C := Try.checked) own started (by kernel_rfl) Try.func4
    (ChangeSpec.witness6 (enc := enc) (C := Try.checked) false ⟨#[], #[.agg #[.int .u64 0, .slice none 0 0], .slice none 0 0], []⟩ 8 (by kernel_rfl) (by kernel_rfl) (by kernel_rfl) (by kernel_rfl)) ?_
  intro W base args ds gs before hval0 hW hcnd _
  have hval : ∀ (j : Nat) t v, Try.f4.params[j]? = some t → args[j]? = some v → Value.okWide Try.prog W .any base t v := hval0
  have hW' := hW
  obtain ⟨p, q, hA0, hV, rfl, hfz, hnd⟩ := hW
  have hA : DataW.TrodAll enc Try.prog W 0 (fun _ => true) true Try.f4.params.toList args.toList ds p := hA0
  rw [Try.params4] at hA hval
  obtain ⟨v0, vs0, d0, ds0, p0, q0, hargs, rfl, rfl, h0, r0⟩ := trodAll_cons hA
  obtain ⟨v1, vs1, d1, ds1, p1, q1, rfl, rfl, rfl, h1, r1⟩ := trodAll_cons r0
  obtain ⟨rfl, rfl, rfl⟩ := trodAll_nil r1
  obtain rfl : args = #[v0, v1] := by cases args; simp_all
  obtain ⟨rfl, rfl⟩ := trodVars_none hV
  have k0 := h0
  have lt0 : ∀ x ∈ p0, x.block < W.heap.size := by obtain ⟨m, hm⟩ := k0; exact DataW.trod_lt m _ _ _ hm
  obtain ⟨g0, rfl, w0⟩ := open_pins (hval 0 25 v0 rfl rfl) h0
  obtain ⟨a1, len1, cap1, rfl⟩ := okWide_slice Try.underlying41 (hval 1 41 v1 rfl rfl)
  have k1 := h1
  have lt1 : ∀ x ∈ p1, x.block < W.heap.size := by obtain ⟨m, hm⟩ := k1; exact DataW.trod_lt m _ _ _ hm
  obtain ⟨z1, n1, w1⟩ : ∃ zs, len1 = zs.length ∧ PoK W (.slice a1 len1 cap1) zs := by
    obtain ⟨fuel, hf⟩ := h1
    exact open_ops hf
  clear hA0 hval0
  refine (walk g0 a1 len1 cap1 z1 W w0 n1 w1).mono fun e W' ⟨he, bel⟩ => ?_
  subst he
  exact ⟨_, rfl, _, _, _, [], _, [], hW', trodAll_mk1 (shut_bool Try.underlying4 _), (trodAll_cons_mk (Below.trod laidOut (by kernel_rfl) (of_decide_eq_true (by kernel_rfl)) k0 bel lt0) (trodAll_cons_mk (Below.trod laidOut (by kernel_rfl) (of_decide_eq_true (by kernel_rfl)) k1 bel lt1) trodAll_mk0)), rfl, bel.frame _, fun h => by cases h⟩

theorem over : Rows.pinsOpsRow.holds Try.pinned (OpenSpec.ofChange Rows.pinsOpsSpec) :=
  OpenClaim.holds_of_wide 4 Try.f4 rfl rfl rfl rfl rfl rfl rfl ⟨rfl, rfl, rfl, rfl, rfl⟩ rfl rfl rfl rfl rfl (by kernel_rfl) Try.func4 (by kernel_rfl)
    (of_decide_eq_true (by kernel_rfl)) (by unfold Func.isWrapper; first | (rw [if_pos (by decide +kernel)]; kernel_rfl) | (rw [if_neg (by decide +kernel)]; exact ⟨rfl, rfl⟩))
    (fun os started H enc _ => lifted os started H enc)

theorem proved : Rows.PinsOpsSaid := over
end Go.Proofs.Ytdkpenfgeohddaa.pinsOps
