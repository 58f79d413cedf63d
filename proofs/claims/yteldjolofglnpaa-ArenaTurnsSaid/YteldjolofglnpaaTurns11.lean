/- Proved: for every arena, number, and row of entries, honeycomblaw11.ArenaTurns returns true, and its arguments read as they did; no condition. -/
import Derived.Test.YteldjolofglnpaaAy
namespace Go.Proofs
set_option maxRecDepth 100000
open Go.RowKit Go.Shelf
attribute [local go_sem] Oper.semAt_some

theorem eachR_len {E : List Pr → Pr → Int} {S : List Pr → Pr → List Pr} (hS : ∀ l e, (S l e).length = l.length) : ∀ (es l : List Pr), (eachR E S l es).2.length = l.length
  | [], _ => rfl
  | e :: es, l => by
    rw [eachR_step]
    split
    · rw [eachR_len hS es, hS]
    · rfl
theorem triR_len {l : List Pr} {R : Int × List Pr × List Pr} {m : Nat} (h1 : R.2.1.length ≤ m) (h2 : R.2.2.length ≤ m) : (triR l R).2.1.length ≤ m ∧ (triR l R).2.2.length ≤ m := by
  unfold triR
  split
  · split
    · exact ⟨h1, h2⟩
    · exact ⟨Nat.zero_le _, Nat.zero_le _⟩
  · exact ⟨Nat.zero_le _, Nat.zero_le _⟩
theorem takT_len {l : List Pr} {m : Nat} (h : l.length ≤ m) (many : Int) : (takT l many).2.1.length ≤ m ∧ (takT l many).2.2.length ≤ m := by
  unfold takT
  refine triR_len ?_ ?_
  · unfold takeR
    split
    · exact h
    · split
      · show (takeL l _).length ≤ m
        rw [takeL_length]; exact h
      · exact h
  · unfold takeR
    split
    · exact Nat.zero_le _
    · split
      · show ((ents l 0).take _).length ≤ m
        rw [List.length_take, ents_length]
        have := cnt_le l 0
        omega
      · exact Nat.zero_le _
theorem retT_len {l : List Pr} {m : Nat} (h : l.length ≤ m) (es : List Pr) : (retT l es).2.1.length ≤ m := by
  unfold retT
  exact (triR_len (by show (retR l es).2.length ≤ m; unfold retR; rw [eachR_len (fun l e => by unfold retS; rw [List.length_set])]; exact h) (Nat.zero_le _)).1
theorem givT_len {l : List Pr} {m : Nat} (h : l.length ≤ m) (es : List Pr) : (givT l es).2.1.length ≤ m := by
  unfold givT
  exact (triR_len (by show (givR l es).2.length ≤ m; unfold givR; rw [eachR_len (fun l e => by unfold givS; rw [List.length_set])]; exact h) (Nat.zero_le _)).1
set_option maxHeartbeats 16000000 in
theorem Try.turns_any (a : Option Addr) (n c : Nat) (x : List Pr) (many : Int) (ay : Option Addr) (ny cy : Nat) (ys : List Pr) (w : World) (hI : PAt w (.slice a n c) x) (hY : PAt w (.slice ay ny cy) ys) :
    Calls Try.prog 4 #[.agg #[.slice a n c], .int .i64 many, .slice ay ny cy] w fun e w' => e = .returned (.bool true) ∧ Below w.heap.size w w' := by
  have HWk := fun W => Lib.hid (Try.wakes_any W)
  have HOw := fun (W : World) (h : PAt W (.slice a n c) x) => Lib.hid (Try.own_any a n c x W h)
  obtain ⟨hyl, hyc, hycm⟩ := pAt_len hY
  have hreach : cy ≤ 9223372036854775807 := by unfold maxLen at hycm; omega
  obtain ⟨m, hm⟩ : ∃ m, m = min ny 6 := ⟨_, rfl⟩
  have hmn : m ≤ ny := by omega
  have hmc : m ≤ cy := by omega
  have hm6 : m ≤ 6 := by omega
  have hYm := pAt_cut hY m hmn
  obtain ⟨es, hes⟩ : ∃ es, es = ys.take m := ⟨_, rfl⟩
  rw [← hes] at hYm
  have hml : m = es.length := by rw [hes, List.length_take]; omega
  have HML := Lib.hid hml
  have HYM := Lib.hid hYm
  have HCl := fun (W : World) (h : PAt W (.slice ay m cy) es) => Lib.hid (Try.cloneEntry_any ay m cy es hml (by omega) W h)
  have hmi : min (ny : Int) 6 = (m : Int) := by omega
  have hmi2 : (if (ny : Int) ≤ 6 then (ny : Int) else 6) = (m : Int) := by split <;> omega
  have hmi3 : (if (ny : Int) < 6 then (ny : Int) else 6) = (m : Int) := by split <;> omega
  have hmi4 : (if (6 : Int) < (ny : Int) then (6 : Int) else (ny : Int)) = (m : Int) := by split <;> omega
  have hmI : (m : Int) ≤ (cy : Int) := by omega
  have hm0 : (0 : Int) ≤ (m : Int) := by omega
  obtain ⟨L, hL⟩ : ∃ L, L = x.take 130 := ⟨_, rfl⟩
  rw [← hL] at HOw
  have hL130 : L.length ≤ 130 := by rw [hL, List.length_take]; omega
  clear hL hes hyl hyc hycm hm hml hYm hY
  have HTk := fun (W : World) (a : Option Addr) (n c : Nat) (h : PAt W (.slice a n c) L) => Lib.hid (Try.Take_any a n c L many W h)
  have HRe := fun (W : World) (a : Option Addr) (n c : Nat) (h : PAt W (.slice a n c) L) (b : Option Addr) (d : Nat) (h2 : PAt W (.slice b m d) es) => Lib.hid (Try.Retire_any a n c L b m d es (by omega) W h h2)
  have HGi := fun (W : World) (a : Option Addr) (n c : Nat) (h : PAt W (.slice a n c) L) (b : Option Addr) (d : Nat) (h2 : PAt W (.slice b m d) es) => Lib.hid (Try.Give_any a n c L b m d es (by omega) W h h2)
  have HRi := fun (W : World) (a : Option Addr) (n c : Nat) (h : PAt W (.slice a n c) L) (hn : n ≤ 10000) => Lib.hid (Try.refRight_any a n c L W h hn)
  obtain ⟨q, hq⟩ : ∃ q, q = rightA L := ⟨_, rfl⟩
  rw [← hq] at HRi
  obtain ⟨tl1, tl2⟩ := takT_len hL130 many
  have rl := retT_len hL130 es
  have gl := givT_len hL130 es
  have HT2 : Hid (q = true → ∀ (W : World) (a : Option Addr) (n c : Nat), PAt W (.slice a n c) L → Calls Try.prog 26 #[.agg #[.slice a n c], .int .i64 many] W fun e w' => ∃ a n c b m d, e = .returned (.tuple #[.agg #[.slice a n c], .slice b m d, .int .i64 (takT L many).1]) ∧ PAt w' (.slice a n c) (takT L many).2.1 ∧ PAt w' (.slice b m d) (takT L many).2.2 ∧ Below W.heap.size W w') := Lib.hid (fun h W a n c hp => by
    have hr : rightA L = true := by rw [← hq]; exact h
    refine (Try.refTake_any a n c L many hr W hp).mono ?_
    rintro e w' ⟨a, n, c, b, m, d, h1, h2, h3, h4⟩
    unfold takT triR
    rw [hr, if_pos rfl]
    by_cases h0 : (takeR L many).1 = 0
    · rw [if_pos h0] at h2 h3 ⊢
      exact ⟨a, n, c, b, m, d, h1, h2, h3, h4⟩
    · rw [if_neg h0] at h2 h3 ⊢
      exact ⟨a, n, c, b, m, d, h1, h2, h3, h4⟩)
  have HR2 : Hid (q = true → ∀ (W : World) (a : Option Addr) (n c : Nat), PAt W (.slice a n c) L → ∀ (b : Option Addr) (d : Nat), PAt W (.slice b m d) es → Calls Try.prog 27 #[.agg #[.slice a n c], .slice b m d] W fun e w' => ∃ a n c, e = .returned (.tuple #[.agg #[.slice a n c], .int .i64 (retT L es).1]) ∧ PAt w' (.slice a n c) (retT L es).2.1 ∧ Below W.heap.size W w') := Lib.hid (fun h W a n c hp b d hp2 => by
    have hr : rightA L = true := by rw [← hq]; exact h
    refine (Try.refRetire_any a n c L b m d es (by omega) hr W hp hp2).mono ?_
    rintro e w' ⟨a, n, c, h1, h2, h4⟩
    unfold retT triR
    rw [hr, if_pos rfl]
    dsimp only
    by_cases h0 : (retR L es).1 = 0
    · rw [if_pos h0] at h2 ⊢
      exact ⟨a, n, c, h1, h2, h4⟩
    · rw [if_neg h0] at h2 ⊢
      exact ⟨a, n, c, h1, h2, h4⟩)
  have HG2 : Hid (q = true → ∀ (W : World) (a : Option Addr) (n c : Nat), PAt W (.slice a n c) L → ∀ (b : Option Addr) (d : Nat), PAt W (.slice b m d) es → Calls Try.prog 28 #[.agg #[.slice a n c], .slice b m d] W fun e w' => ∃ a n c, e = .returned (.tuple #[.agg #[.slice a n c], .int .i64 (givT L es).1]) ∧ PAt w' (.slice a n c) (givT L es).2.1 ∧ Below W.heap.size W w') := Lib.hid (fun h W a n c hp b d hp2 => by
    have hr : rightA L = true := by rw [← hq]; exact h
    refine (Try.refGive_any a n c L b m d es (by omega) hr W hp hp2).mono ?_
    rintro e w' ⟨a, n, c, h1, h2, h4⟩
    unfold givT triR
    rw [hr, if_pos rfl]
    dsimp only
    by_cases h0 : (givR L es).1 = 0
    · rw [if_pos h0] at h2 ⊢
      exact ⟨a, n, c, h1, h2, h4⟩
    · rw [if_neg h0] at h2 ⊢
      exact ⟨a, n, c, h1, h2, h4⟩)
  have HNO : Hid (q = false → takT L many = (210, [], []) ∧ retT L es = (210, [], []) ∧ givT L es = (210, [], [])) := Lib.hid (fun h => by
    have hr : rightA L = false := by rw [← hq]; exact h
    unfold takT retT givT triR
    rw [hr]
    exact ⟨rfl, rfl, rfl⟩)
  clear hq
  generalize takT L many = TT at *
  generalize retT L es = RR at *
  generalize givT L es = GG at *
  obtain ⟨E1, T1, S1⟩ := TT
  obtain ⟨E2, T2, S2⟩ := RR
  obtain ⟨E3, T3, S3⟩ := GG
  dsimp only at tl1 tl2 rl gl HT2 HR2 HG2
  have hBx : Below w.heap.size w (w.alloc (.cells #[.slice a n c] 24)) := Rows8.newB
  have RX := Lib.hid (Rows8.new w 24 #[.slice a n c])
  have B0 := Lib.hid hBx
  have HI := Lib.hid hI
  clear hBx hI
  go_enter Try.func4, Try.ntmps4
  go_wp2_with fail
  generalize (w.alloc (.cells #[.slice a n c] 24)) = u0 at *
  refine (HWk _).out.mono ?_
  rintro e u1 ⟨rfl, hB⟩
  have RX := Lib.hid (RX.out.below hB RX.out.lt)
  have B0 := Lib.hid (B0.out.trans (hB.mono B0.out.size))
  clear hB HWk
  go_upto_region 3 with fail
  have cb0 : u1.cell? ⟨w.heap.size, 0, none⟩ = some (.slice a n c) := RX.out.cell 0
  have lb0 := RX.out.lt
  have HCL := HOw u1 (PAt.below HI.out B0.out)
  go_wp2_with fail
  refine HCL.out.mono ?_
  rintro e u2 ⟨a7, n7, c7, rfl, h130, hO, hB⟩
  have bA : Hid (∀ j, (Value.slice a7 n7 c7).ownBlock = some j → w.heap.size ≤ j) := Lib.hid (fun j e => Nat.le_trans B0.out.size (World.ownsRow.lt hO j e).1)
  have hal : Below u2.heap.size u2 (u2.alloc (.cells #[.slice a7 n7 c7] 24)) := Rows8.newB
  have hBB := hB.trans (hal.mono hB.size)
  have o1 := Lib.hid (OwnsP.below hO hal (Nat.le_refl _))
  have RX := Lib.hid (RX.out.below hBB RX.out.lt)
  have B0 := Lib.hid (B0.out.trans (hBB.mono B0.out.size))
  have RA := Lib.hid (Rows8.new u2 24 #[.slice a7 n7 c7])
  have OA := o1
  clear hal hBB o1 hO hB HCL cb0 lb0
  go_upto_region 4 with fail
  generalize hu3 : (u2.alloc (.cells #[.slice a7 n7 c7] 24)) = u3 at *
  clear hu3
  have HCL := HCl u3 (PAt.below HYM.out B0.out)
  go_wp2_with fail
  refine HCL.out.mono ?_
  rintro e u4 ⟨b8, c8, rfl, hO, hB⟩
  have RX := Lib.hid (RX.out.below hB RX.out.lt)
  have RA := Lib.hid (RA.out.below hB RA.out.lt)
  have OA := Lib.hid (OwnsP.below OA.out hB (Nat.le_refl _))
  have B0 := Lib.hid (B0.out.trans (hB.mono B0.out.size))
  have OE := Lib.hid hO
  clear hB hO HCL HCl
  go_upto_region 5 with fail
  have cb0 : u4.cell? ⟨u2.heap.size, 0, none⟩ = some (.slice a7 n7 c7) := RA.out.cell 0
  have lb0 := RA.out.lt
  have HCL := HTk u4 _ _ _ OA.out.at
  go_wp2_with fail
  refine HCL.out.mono ?_
  rintro e u5 ⟨v, u, rfl, hO, hE, hB⟩
  obtain ⟨a9, c9, hv⟩ := hO.form
  obtain ⟨k9, hk9⟩ : ∃ k, k = T1.length := ⟨_, rfl⟩
  dsimp only at hv
  rw [← hk9] at hv
  subst hv
  obtain ⟨b10, c10, hu⟩ := hE.form
  obtain ⟨k10, hk10⟩ : ∃ k, k = S1.length := ⟨_, rfl⟩
  dsimp only at hu
  rw [← hk10] at hu
  subst hu
  have l9 : k9 ≤ 10000 := by omega
  have l10 : k10 ≤ 10000 := by omega
  have neAT := Lib.hid (apart OA.out hO)
  have bT : Hid (∀ j, (.slice a9 k9 c9 : Value).ownBlock = some j → w.heap.size ≤ j) := Lib.hid (fun j e => Nat.le_trans B0.out.size (World.ownsRow.lt hO j e).1)
  have hal : Below u5.heap.size u5 (u5.alloc (.cells #[.slice a9 k9 c9] 24)) := Rows8.newB
  have hBB := hB.trans (hal.mono hB.size)
  have o1 := Lib.hid (OwnsP.below hO hal (Nat.le_refl _))
  have oK := Lib.hid (OwnsP.below hE hal (Nat.le_refl _))
  have RX := Lib.hid (RX.out.below hBB RX.out.lt)
  have RA := Lib.hid (RA.out.below hBB RA.out.lt)
  have OA := Lib.hid (OwnsP.below OA.out hBB (Nat.le_refl _))
  have OE := Lib.hid (OwnsP.below OE.out hBB (Nat.le_refl _))
  have B0 := Lib.hid (B0.out.trans (hBB.mono B0.out.size))
  have RT := Lib.hid (Rows8.new u5 24 #[.slice a9 k9 c9])
  have OT := o1
  have OK := oK
  clear hal hBB o1 oK hO hE hB HCL cb0 lb0 HTk hk9 hk10
  go_upto_region 6 with fail
  generalize hu6 : (u5.alloc (.cells #[.slice a9 k9 c9] 24)) = u6 at *
  clear hu6
  have cb0 : u6.cell? ⟨u2.heap.size, 0, none⟩ = some (.slice a7 n7 c7) := RA.out.cell 0
  have lb0 := RA.out.lt
  have HCL := HRe u6 _ _ _ OA.out.at _ _ (by have h := OE.out.at; exact h)
  go_wp2_with fail
  refine HCL.out.mono ?_
  rintro e u7 ⟨v, rfl, hO, hB⟩
  obtain ⟨a12, c12, hv⟩ := hO.form
  obtain ⟨k12, hk12⟩ : ∃ k, k = T2.length := ⟨_, rfl⟩
  dsimp only at hv
  rw [← hk12] at hv
  subst hv
  have l12 : k12 ≤ 10000 := by omega
  have neAR := Lib.hid (apart OA.out hO)
  have neTR := Lib.hid (apart OT.out hO)
  have bR : Hid (∀ j, (.slice a12 k12 c12 : Value).ownBlock = some j → w.heap.size ≤ j) := Lib.hid (fun j e => Nat.le_trans B0.out.size (World.ownsRow.lt hO j e).1)
  have hal : Below u7.heap.size u7 (u7.alloc (.cells #[.slice a12 k12 c12] 24)) := Rows8.newB
  have hBB := hB.trans (hal.mono hB.size)
  have o1 := Lib.hid (OwnsP.below hO hal (Nat.le_refl _))
  have RX := Lib.hid (RX.out.below hBB RX.out.lt)
  have RA := Lib.hid (RA.out.below hBB RA.out.lt)
  have RT := Lib.hid (RT.out.below hBB RT.out.lt)
  have OA := Lib.hid (OwnsP.below OA.out hBB (Nat.le_refl _))
  have OE := Lib.hid (OwnsP.below OE.out hBB (Nat.le_refl _))
  have OT := Lib.hid (OwnsP.below OT.out hBB (Nat.le_refl _))
  have OK := Lib.hid (OwnsP.below OK.out hBB (Nat.le_refl _))
  have B0 := Lib.hid (B0.out.trans (hBB.mono B0.out.size))
  have RR := Lib.hid (Rows8.new u7 24 #[.slice a12 k12 c12])
  have OR := o1
  clear hal hBB o1 hO hB HCL cb0 lb0 HRe hk12
  go_upto_region 7 with fail
  generalize hu8 : (u7.alloc (.cells #[.slice a12 k12 c12] 24)) = u8 at *
  clear hu8
  have cb0 : u8.cell? ⟨u2.heap.size, 0, none⟩ = some (.slice a7 n7 c7) := RA.out.cell 0
  have lb0 := RA.out.lt
  have HCL := HGi u8 _ _ _ OA.out.at _ _ (by have h := OE.out.at; exact h)
  go_wp2_with fail
  refine HCL.out.mono ?_
  rintro e u9 ⟨v, rfl, hO, hB⟩
  obtain ⟨a14, c14, hv⟩ := hO.form
  obtain ⟨k14, hk14⟩ : ∃ k, k = T3.length := ⟨_, rfl⟩
  dsimp only at hv
  rw [← hk14] at hv
  subst hv
  have l14 : k14 ≤ 10000 := by omega
  have neAG := Lib.hid (apart OA.out hO)
  have neTG := Lib.hid (apart OT.out hO)
  have neRG := Lib.hid (apart OR.out hO)
  have bG : Hid (∀ j, (.slice a14 k14 c14 : Value).ownBlock = some j → w.heap.size ≤ j) := Lib.hid (fun j e => Nat.le_trans B0.out.size (World.ownsRow.lt hO j e).1)
  have hal : Below u9.heap.size u9 (u9.alloc (.cells #[.slice a14 k14 c14] 24)) := Rows8.newB
  have hBB := hB.trans (hal.mono hB.size)
  have o1 := Lib.hid (OwnsP.below hO hal (Nat.le_refl _))
  have RX := Lib.hid (RX.out.below hBB RX.out.lt)
  have RA := Lib.hid (RA.out.below hBB RA.out.lt)
  have RT := Lib.hid (RT.out.below hBB RT.out.lt)
  have RR := Lib.hid (RR.out.below hBB RR.out.lt)
  have OA := Lib.hid (OwnsP.below OA.out hBB (Nat.le_refl _))
  have OE := Lib.hid (OwnsP.below OE.out hBB (Nat.le_refl _))
  have OT := Lib.hid (OwnsP.below OT.out hBB (Nat.le_refl _))
  have OK := Lib.hid (OwnsP.below OK.out hBB (Nat.le_refl _))
  have OR := Lib.hid (OwnsP.below OR.out hBB (Nat.le_refl _))
  have B0 := Lib.hid (B0.out.trans (hBB.mono B0.out.size))
  have RG := Lib.hid (Rows8.new u9 24 #[.slice a14 k14 c14])
  have OG := o1
  clear hal hBB o1 hO hB HCL cb0 lb0 HGi hk14
  go_upto_region 8 with fail
  generalize hu10 : (u9.alloc (.cells #[.slice a14 k14 c14] 24)) = u10 at *
  clear hu10
  have hbXP : Hid (w.heap.size < u10.heap.size) := Lib.hid RX.out.lt
  have hbAP : Hid (u2.heap.size < u10.heap.size) := Lib.hid RA.out.lt
  have hbTP : Hid (u5.heap.size < u10.heap.size) := Lib.hid RT.out.lt
  have hbRP : Hid (u7.heap.size < u10.heap.size) := Lib.hid RR.out.lt
  have hbGP : Hid (u9.heap.size < u10.heap.size) := Lib.hid RG.out.lt
  go_upto_region 9 with fail
  have q1 := ((Rows8.new u10 24 #[.slice none 0 0]).alloc (.cells #[.slice none 0 0] 24)).alloc (.cells #[.slice none 0 0] 24)
  have q2 := (Rows8.new (u10.alloc (.cells #[.slice none 0 0] 24)) 24 #[.slice none 0 0]).alloc (.cells #[.slice none 0 0] 24)
  have q3 := Rows8.new ((u10.alloc (.cells #[.slice none 0 0] 24)).alloc (.cells #[.slice none 0 0] 24)) 24 #[.slice none 0 0]
  simp only [World.size_alloc] at q2 q3
  have hBB : Below u10.heap.size u10 (((u10.alloc (.cells #[.slice none 0 0] 24)).alloc (.cells #[.slice none 0 0] 24)).alloc (.cells #[.slice none 0 0] 24)) := ((Rows8.newB).alloc (by simp) _).alloc (by simp <;> omega) _
  have RX := Lib.hid (RX.out.below hBB RX.out.lt)
  have RA := Lib.hid (RA.out.below hBB RA.out.lt)
  have RT := Lib.hid (RT.out.below hBB RT.out.lt)
  have RR := Lib.hid (RR.out.below hBB RR.out.lt)
  have RG := Lib.hid (RG.out.below hBB RG.out.lt)
  have OA := Lib.hid (OwnsP.below OA.out hBB (Nat.le_refl _))
  have OE := Lib.hid (OwnsP.below OE.out hBB (Nat.le_refl _))
  have OT := Lib.hid (OwnsP.below OT.out hBB (Nat.le_refl _))
  have OK := Lib.hid (OwnsP.below OK.out hBB (Nat.le_refl _))
  have OR := Lib.hid (OwnsP.below OR.out hBB (Nat.le_refl _))
  have OG := Lib.hid (OwnsP.below OG.out hBB (Nat.le_refl _))
  have B0 := Lib.hid (B0.out.trans (hBB.mono B0.out.size))
  have RP := Lib.hid q1
  have RQ := Lib.hid q2
  have RS := Lib.hid q3
  clear q1 q2 q3 hBB
  generalize hu11 : (((u10.alloc (.cells #[.slice none 0 0] 24)).alloc (.cells #[.slice none 0 0] 24)).alloc (.cells #[.slice none 0 0] 24)) = u11 at *
  clear hu11
  go_upto_region 11 with fail
  have h7 : n7 ≤ 10000 := by omega
  have cb0 : u11.cell? ⟨u2.heap.size, 0, none⟩ = some (.slice a7 n7 c7) := RA.out.cell 0
  have lb0 := RA.out.lt
  have HCL := HRi u11 _ _ _ OA.out.at h7
  go_wp2_with fail
  refine HCL.out.mono ?_
  rintro e u12 ⟨rfl, hB⟩
  have RX := Lib.hid (RX.out.below hB RX.out.lt)
  have RA := Lib.hid (RA.out.below hB RA.out.lt)
  have RT := Lib.hid (RT.out.below hB RT.out.lt)
  have RR := Lib.hid (RR.out.below hB RR.out.lt)
  have RG := Lib.hid (RG.out.below hB RG.out.lt)
  have RP := Lib.hid (RP.out.below hB RP.out.lt)
  have RQ := Lib.hid (RQ.out.below hB RQ.out.lt)
  have RS := Lib.hid (RS.out.below hB RS.out.lt)
  have OA := Lib.hid (OwnsP.below OA.out hB (Nat.le_refl _))
  have OE := Lib.hid (OwnsP.below OE.out hB (Nat.le_refl _))
  have OT := Lib.hid (OwnsP.below OT.out hB (Nat.le_refl _))
  have OK := Lib.hid (OwnsP.below OK.out hB (Nat.le_refl _))
  have OR := Lib.hid (OwnsP.below OR.out hB (Nat.le_refl _))
  have OG := Lib.hid (OwnsP.below OG.out hB (Nat.le_refl _))
  have B0 := Lib.hid (B0.out.trans (hB.mono B0.out.size))
  clear hB HCL HRi cb0 lb0
  cases q with
  | false =>
    obtain ⟨e1, e2, e3⟩ := HNO.out rfl
    injection e1 with e11 e12
    injection e12 with e12 e13
    injection e2 with e21 e22
    injection e22 with e22 e23
    injection e3 with e31 e32
    injection e32 with e32 e33
    subst e11 e12 e13 e21 e22 e31 e32
    go_upto_region 15 with fail
    have p16 := Lib.hid (pAt_none u12)
    have p17 := Lib.hid (pAt_none u12)
    have p18 := Lib.hid (pAt_none u12)
    have p19 := Lib.hid (pAt_none u12)
    have z16 : 0 ≤ 10000 := by have := (pAt_len p16.out).1; omega
    have z17 : 0 ≤ 10000 := by have := (pAt_len p17.out).1; omega
    have z18 : 0 ≤ 10000 := by have := (pAt_len p18.out).1; omega
    have z19 : 0 ≤ 10000 := by have := (pAt_len p19.out).1; omega
    have Z := Lib.hid (And.intro tl1 (And.intro tl2 (And.intro rl gl)))
    clear tl1 tl2 rl gl
    have HCL := Lib.hid (Try.equalEntry_any _ _ _ _ _ _ [] [] u12 (OK.out.at) p19.out l10 z19)
    rw [decide_eq_true rfl] at HCL
    go_wp2_with fail
    refine HCL.out.mono ?_
    rintro e y1 ⟨rfl, hB⟩
    have RX := Lib.hid (RX.out.below hB RX.out.lt)
    have RA := Lib.hid (RA.out.below hB RA.out.lt)
    have RT := Lib.hid (RT.out.below hB RT.out.lt)
    have RR := Lib.hid (RR.out.below hB RR.out.lt)
    have RG := Lib.hid (RG.out.below hB RG.out.lt)
    have RP := Lib.hid (RP.out.below hB RP.out.lt)
    have RQ := Lib.hid (RQ.out.below hB RQ.out.lt)
    have RS := Lib.hid (RS.out.below hB RS.out.lt)
    have OA := Lib.hid (OwnsP.below OA.out hB (Nat.le_refl _))
    have OE := Lib.hid (OwnsP.below OE.out hB (Nat.le_refl _))
    have OT := Lib.hid (OwnsP.below OT.out hB (Nat.le_refl _))
    have OK := Lib.hid (OwnsP.below OK.out hB (Nat.le_refl _))
    have OR := Lib.hid (OwnsP.below OR.out hB (Nat.le_refl _))
    have OG := Lib.hid (OwnsP.below OG.out hB (Nat.le_refl _))
    have B0 := Lib.hid (B0.out.trans (hB.mono B0.out.size))
    have p16 := Lib.hid (PAt.below p16.out hB)
    have p17 := Lib.hid (PAt.below p17.out hB)
    have p18 := Lib.hid (PAt.below p18.out hB)
    have p19 := Lib.hid (PAt.below p19.out hB)
    clear hB HCL 
    have cb0 : y1.cell? ⟨u5.heap.size, 0, none⟩ = some (.slice a9 k9 c9) := RT.out.cell 0
    have lb0 := RT.out.lt
    have cb1 : y1.cell? ⟨u10.heap.size, 0, none⟩ = some (.slice none 0 0) := RP.out.cell 0
    have lb1 := RP.out.lt
    have HCL := Lib.hid (Try.refSame_any _ _ _ _ _ _ [] [] y1 (OT.out.at) p16.out l9 z16)
    rw [decide_eq_true rfl] at HCL
    go_wp2_with fail
    refine HCL.out.mono ?_
    rintro e y2 ⟨rfl, hB⟩
    have RX := Lib.hid (RX.out.below hB RX.out.lt)
    have RA := Lib.hid (RA.out.below hB RA.out.lt)
    have RT := Lib.hid (RT.out.below hB RT.out.lt)
    have RR := Lib.hid (RR.out.below hB RR.out.lt)
    have RG := Lib.hid (RG.out.below hB RG.out.lt)
    have RP := Lib.hid (RP.out.below hB RP.out.lt)
    have RQ := Lib.hid (RQ.out.below hB RQ.out.lt)
    have RS := Lib.hid (RS.out.below hB RS.out.lt)
    have OA := Lib.hid (OwnsP.below OA.out hB (Nat.le_refl _))
    have OE := Lib.hid (OwnsP.below OE.out hB (Nat.le_refl _))
    have OT := Lib.hid (OwnsP.below OT.out hB (Nat.le_refl _))
    have OK := Lib.hid (OwnsP.below OK.out hB (Nat.le_refl _))
    have OR := Lib.hid (OwnsP.below OR.out hB (Nat.le_refl _))
    have OG := Lib.hid (OwnsP.below OG.out hB (Nat.le_refl _))
    have B0 := Lib.hid (B0.out.trans (hB.mono B0.out.size))
    have p16 := Lib.hid (PAt.below p16.out hB)
    have p17 := Lib.hid (PAt.below p17.out hB)
    have p18 := Lib.hid (PAt.below p18.out hB)
    have p19 := Lib.hid (PAt.below p19.out hB)
    clear hB HCL cb0 lb0 cb1 lb1
    have cb0 : y2.cell? ⟨u7.heap.size, 0, none⟩ = some (.slice a12 k12 c12) := RR.out.cell 0
    have lb0 := RR.out.lt
    have cb1 : y2.cell? ⟨u10.heap.size + 1, 0, none⟩ = some (.slice none 0 0) := RQ.out.cell 0
    have lb1 := RQ.out.lt
    have HCL := Lib.hid (Try.refSame_any _ _ _ _ _ _ [] [] y2 (OR.out.at) p17.out l12 z17)
    rw [decide_eq_true rfl] at HCL
    go_wp2_with fail
    refine HCL.out.mono ?_
    rintro e y3 ⟨rfl, hB⟩
    have RX := Lib.hid (RX.out.below hB RX.out.lt)
    have RA := Lib.hid (RA.out.below hB RA.out.lt)
    have RT := Lib.hid (RT.out.below hB RT.out.lt)
    have RR := Lib.hid (RR.out.below hB RR.out.lt)
    have RG := Lib.hid (RG.out.below hB RG.out.lt)
    have RP := Lib.hid (RP.out.below hB RP.out.lt)
    have RQ := Lib.hid (RQ.out.below hB RQ.out.lt)
    have RS := Lib.hid (RS.out.below hB RS.out.lt)
    have OA := Lib.hid (OwnsP.below OA.out hB (Nat.le_refl _))
    have OE := Lib.hid (OwnsP.below OE.out hB (Nat.le_refl _))
    have OT := Lib.hid (OwnsP.below OT.out hB (Nat.le_refl _))
    have OK := Lib.hid (OwnsP.below OK.out hB (Nat.le_refl _))
    have OR := Lib.hid (OwnsP.below OR.out hB (Nat.le_refl _))
    have OG := Lib.hid (OwnsP.below OG.out hB (Nat.le_refl _))
    have B0 := Lib.hid (B0.out.trans (hB.mono B0.out.size))
    have p16 := Lib.hid (PAt.below p16.out hB)
    have p17 := Lib.hid (PAt.below p17.out hB)
    have p18 := Lib.hid (PAt.below p18.out hB)
    have p19 := Lib.hid (PAt.below p19.out hB)
    clear hB HCL cb0 lb0 cb1 lb1
    have cb0 : y3.cell? ⟨u9.heap.size, 0, none⟩ = some (.slice a14 k14 c14) := RG.out.cell 0
    have lb0 := RG.out.lt
    have cb1 : y3.cell? ⟨u10.heap.size + 1 + 1, 0, none⟩ = some (.slice none 0 0) := RS.out.cell 0
    have lb1 := RS.out.lt
    have HCL := Lib.hid (Try.refSame_any _ _ _ _ _ _ [] [] y3 (OG.out.at) p18.out l14 z18)
    rw [decide_eq_true rfl] at HCL
    go_wp2_with fail
    refine HCL.out.mono ?_
    rintro e y4 ⟨rfl, hB⟩
    have RX := Lib.hid (RX.out.below hB RX.out.lt)
    have RA := Lib.hid (RA.out.below hB RA.out.lt)
    have RT := Lib.hid (RT.out.below hB RT.out.lt)
    have RR := Lib.hid (RR.out.below hB RR.out.lt)
    have RG := Lib.hid (RG.out.below hB RG.out.lt)
    have RP := Lib.hid (RP.out.below hB RP.out.lt)
    have RQ := Lib.hid (RQ.out.below hB RQ.out.lt)
    have RS := Lib.hid (RS.out.below hB RS.out.lt)
    have OA := Lib.hid (OwnsP.below OA.out hB (Nat.le_refl _))
    have OE := Lib.hid (OwnsP.below OE.out hB (Nat.le_refl _))
    have OT := Lib.hid (OwnsP.below OT.out hB (Nat.le_refl _))
    have OK := Lib.hid (OwnsP.below OK.out hB (Nat.le_refl _))
    have OR := Lib.hid (OwnsP.below OR.out hB (Nat.le_refl _))
    have OG := Lib.hid (OwnsP.below OG.out hB (Nat.le_refl _))
    have B0 := Lib.hid (B0.out.trans (hB.mono B0.out.size))
    have p16 := Lib.hid (PAt.below p16.out hB)
    have p17 := Lib.hid (PAt.below p17.out hB)
    have p18 := Lib.hid (PAt.below p18.out hB)
    have p19 := Lib.hid (PAt.below p19.out hB)
    clear hB HCL cb0 lb0 cb1 lb1
    clear p16 p17 p18 p19
    go_upto_region 17 with fail
    have cb0 : y4.cell? ⟨u5.heap.size, 0, none⟩ = some (.slice a9 k9 c9) := RT.out.cell 0
    have lb0 := RT.out.lt
    have HCL := Lib.hid (Try.spoil2_any _ _ _ (by have := Z.out; first | omega | (simp only [List.length_nil]; omega) | exact Nat.zero_le _) y4 OT.out)
    go_wp2_with fail
    refine HCL.out.mono ?_
    rintro e s18 ⟨rfl, hS⟩
    have RXn := Lib.hid (hS.rows OT.out RX.out (by decide))
    have RAn := Lib.hid (hS.rows OT.out RA.out (by decide))
    have RTn := Lib.hid (hS.rows OT.out RT.out (by decide))
    have RRn := Lib.hid (hS.rows OT.out RR.out (by decide))
    have RGn := Lib.hid (hS.rows OT.out RG.out (by decide))
    have RPn := Lib.hid (hS.rows OT.out RP.out (by decide))
    have RQn := Lib.hid (hS.rows OT.out RQ.out (by decide))
    have RSn := Lib.hid (hS.rows OT.out RS.out (by decide))
    have OAn : Hid (OwnsP _ _ _ _ s18) := Lib.hid (hS.owns OA.out neAT.out)
    have OEn : Hid (OwnsP _ _ _ _ s18) := Lib.hid (hS.owns OE.out (owns_ne OE.out OT.out (by decide)))
    have OKn : Hid (OwnsP _ _ _ _ s18) := Lib.hid (hS.owns OK.out (owns_ne OK.out OT.out (by decide)))
    have ORn : Hid (OwnsP _ _ _ _ s18) := Lib.hid (hS.owns OR.out (ne_symm neTR.out))
    have OGn : Hid (OwnsP _ _ _ _ s18) := Lib.hid (hS.owns OG.out (ne_symm neTG.out))
    have B0n := Lib.hid (hS.below B0.out B0.out.size bT.out)
    clear hS HCL cb0 lb0 RX RA RT RR RG RP RQ RS OA OE OK OR OG B0 OT
    have RX := RXn
    have RA := RAn
    have RT := RTn
    have RR := RRn
    have RG := RGn
    have RP := RPn
    have RQ := RQn
    have RS := RSn
    have OA := OAn
    have OE := OEn
    have OK := OKn
    have OR := ORn
    have OG := OGn
    have B0 := B0n
    clear RXn RAn RTn RRn RGn RPn RQn RSn OAn OEn OKn ORn OGn B0n
    go_upto_region 18 with fail
    have cb0 : s18.cell? ⟨u7.heap.size, 0, none⟩ = some (.slice a12 k12 c12) := RR.out.cell 0
    have lb0 := RR.out.lt
    have HCL := Lib.hid (Try.spoil2_any _ _ _ (by have := Z.out; first | omega | (simp only [List.length_nil]; omega) | exact Nat.zero_le _) s18 OR.out)
    go_wp2_with fail
    refine HCL.out.mono ?_
    rintro e s19 ⟨rfl, hS⟩
    have RXn := Lib.hid (hS.rows OR.out RX.out (by decide))
    have RAn := Lib.hid (hS.rows OR.out RA.out (by decide))
    have RTn := Lib.hid (hS.rows OR.out RT.out (by decide))
    have RRn := Lib.hid (hS.rows OR.out RR.out (by decide))
    have RGn := Lib.hid (hS.rows OR.out RG.out (by decide))
    have RPn := Lib.hid (hS.rows OR.out RP.out (by decide))
    have RQn := Lib.hid (hS.rows OR.out RQ.out (by decide))
    have RSn := Lib.hid (hS.rows OR.out RS.out (by decide))
    have OAn : Hid (OwnsP _ _ _ _ s19) := Lib.hid (hS.owns OA.out neAR.out)
    have OEn : Hid (OwnsP _ _ _ _ s19) := Lib.hid (hS.owns OE.out (owns_ne OE.out OR.out (by decide)))
    have OKn : Hid (OwnsP _ _ _ _ s19) := Lib.hid (hS.owns OK.out (owns_ne OK.out OR.out (by decide)))
    have OGn : Hid (OwnsP _ _ _ _ s19) := Lib.hid (hS.owns OG.out (ne_symm neRG.out))
    have B0n := Lib.hid (hS.below B0.out B0.out.size bR.out)
    clear hS HCL cb0 lb0 RX RA RT RR RG RP RQ RS OA OE OK OG B0 OR
    have RX := RXn
    have RA := RAn
    have RT := RTn
    have RR := RRn
    have RG := RGn
    have RP := RPn
    have RQ := RQn
    have RS := RSn
    have OA := OAn
    have OE := OEn
    have OK := OKn
    have OG := OGn
    have B0 := B0n
    clear RXn RAn RTn RRn RGn RPn RQn RSn OAn OEn OKn OGn B0n
    go_upto_region 19 with fail
    have cb0 : s19.cell? ⟨u9.heap.size, 0, none⟩ = some (.slice a14 k14 c14) := RG.out.cell 0
    have lb0 := RG.out.lt
    have HCL := Lib.hid (Try.spoil2_any _ _ _ (by have := Z.out; first | omega | (simp only [List.length_nil]; omega) | exact Nat.zero_le _) s19 OG.out)
    go_wp2_with fail
    refine HCL.out.mono ?_
    rintro e s20 ⟨rfl, hS⟩
    have RXn := Lib.hid (hS.rows OG.out RX.out (by decide))
    have RAn := Lib.hid (hS.rows OG.out RA.out (by decide))
    have RTn := Lib.hid (hS.rows OG.out RT.out (by decide))
    have RRn := Lib.hid (hS.rows OG.out RR.out (by decide))
    have RGn := Lib.hid (hS.rows OG.out RG.out (by decide))
    have RPn := Lib.hid (hS.rows OG.out RP.out (by decide))
    have RQn := Lib.hid (hS.rows OG.out RQ.out (by decide))
    have RSn := Lib.hid (hS.rows OG.out RS.out (by decide))
    have OAn : Hid (OwnsP _ _ _ _ s20) := Lib.hid (hS.owns OA.out neAG.out)
    have OEn : Hid (OwnsP _ _ _ _ s20) := Lib.hid (hS.owns OE.out (owns_ne OE.out OG.out (by decide)))
    have OKn : Hid (OwnsP _ _ _ _ s20) := Lib.hid (hS.owns OK.out (owns_ne OK.out OG.out (by decide)))
    have B0n := Lib.hid (hS.below B0.out B0.out.size bG.out)
    clear hS HCL cb0 lb0 RX RA RT RR RG RP RQ RS OA OE OK B0 OG
    have RX := RXn
    have RA := RAn
    have RT := RTn
    have RR := RRn
    have RG := RGn
    have RP := RPn
    have RQ := RQn
    have RS := RSn
    have OA := OAn
    have OE := OEn
    have OK := OKn
    have B0 := B0n
    clear RXn RAn RTn RRn RGn RPn RQn RSn OAn OEn OKn B0n
    go_upto_region 20 with fail
    refine wp_region_X (fun W' => Rows8 W' (u2.heap.size) 24 #[.slice a7 n7 c7] ∧ Rows8 W' w.heap.size 24 #[.slice a n c]) 13 (by kernel_rfl) ?_
    have hS0 : (fun W' => Rows8 W' (u2.heap.size) 24 #[.slice a7 n7 c7] ∧ Rows8 W' w.heap.size 24 #[.slice a n c]) s20.drew := ⟨RA.out.drewA, RX.out.drewA⟩
    have OAd : Hid (OwnsP 44 _ L (.slice a7 n7 c7) s20.drew) := Lib.hid OA.out
    have OEd : Hid (OwnsP 37 _ es (.slice b8 m c8) s20.drew) := Lib.hid OE.out
    have B0d := Lib.hid B0.out.drew
    generalize s20.drew = Wd at *
    refine wpAnyN_take (i := 0) (oi := { dst := some 116, op := Go.Op.load 24 (Go.Operand.tmp 7), type := 24, pos := "law.go:106", after := #[], guard := none }) (v := .agg #[.slice a7 n7 c7]) rfl (by decide) (by kernel_rfl) (by kernel_rfl) (by kernel_rfl) (fun _ _ _ h => h) (Or.inl ⟨by rfl, ?_⟩) hS0 ?_
    · intro W9 hS9
      obtain ⟨q0, q1⟩ := hS9
      have s0 : W9.cell? ⟨u2.heap.size, 0, none⟩ = some (.slice a7 n7 c7) := q0.cell 0
      have s1 : W9.cell? ⟨w.heap.size, 0, none⟩ = some (.slice a n c) := q1.cell 0
      clear q0 q1
      go_simp
    try simp only [Act.put, List.setIfInBounds_toArray, List.set_cons_zero, List.set_cons_succ]
    refine wpAnyN_take (i := 1) (oi := { dst := some 117, op := Go.Op.load 24 (Go.Operand.tmp 3), type := 24, pos := "law.go:106", after := #[], guard := none }) (v := .agg #[.slice a n c]) rfl (by decide) (by kernel_rfl) (by kernel_rfl) (by kernel_rfl) (fun _ _ _ h => h) (Or.inl ⟨by rfl, ?_⟩) hS0 ?_
    · intro W9 hS9
      obtain ⟨q0, q1⟩ := hS9
      have s0 : W9.cell? ⟨u2.heap.size, 0, none⟩ = some (.slice a7 n7 c7) := q0.cell 0
      have s1 : W9.cell? ⟨w.heap.size, 0, none⟩ = some (.slice a n c) := q1.cell 0
      clear q0 q1
      go_simp
    try simp only [Act.put, List.setIfInBounds_toArray, List.set_cons_zero, List.set_cons_succ]
    refine wpAnyX_one (i := 2) (o := { dst := some 118, op := Go.Op.call { callee := Go.Callee.value (Go.Operand.func 8), args := #[Go.Operand.tmp 117], argTypes := #[24] }, type := 24, pos := "law.go:106", after := #[{ on := 1, ground := Go.Ground.data }], guard := none }) (by kernel_rfl) rfl (fun K hK => ?_)
    refine step_call_g (by rfl) 8 _ _ rfl (fun _ _ => by kernel_rfl) #[.agg #[.slice a n c]] (by simp [go_sem]) _ (HOw Wd (PAt.below HI.out B0d.out)).out ?_
    rintro e W1 ⟨ax, nx, cx, rfl, hx130, hO, hB⟩
    refine ⟨_, rfl, ?_⟩
    have hS1 : (fun W' => Rows8 W' (u2.heap.size) 24 #[.slice a7 n7 c7] ∧ Rows8 W' w.heap.size 24 #[.slice a n c]) W1 := ⟨hS0.1.below hB hS0.1.lt, hS0.2.below hB hS0.2.lt⟩
    have OA1 := Lib.hid (OwnsP.below OAd.out hB (Nat.le_refl _))
    have OE1 := Lib.hid (OwnsP.below OEd.out hB (Nat.le_refl _))
    have B1 := Lib.hid (B0d.out.trans (hB.mono B0d.out.size))
    have OX1 := Lib.hid hO
    have hx10 : nx ≤ 10000 := by omega
    clear hO hB
    refine hK.out _ _ (fun _ => hS1) ?_
    clear hK K
    try simp only [Act.put, List.setIfInBounds_toArray, List.set_cons_zero, List.set_cons_succ]
    refine wpAnyX_one (i := 3) (o := { dst := some 119, op := Go.Op.call { callee := Go.Callee.value (Go.Operand.func 12), args := #[Go.Operand.tmp 116, Go.Operand.tmp 118], argTypes := #[24, 24] }, type := 4, pos := "law.go:106", after := #[{ on := 0, ground := Go.Ground.data }, { on := 2, ground := Go.Ground.data }, { on := 2, ground := Go.Ground.chain }], guard := none }) (by kernel_rfl) rfl (fun K hK => ?_)
    have hsm := Try.refSame_any _ _ _ _ _ _ L L W1 OA1.out.at OX1.out.at h7 hx10
    rw [decide_eq_true (rfl : L = L)] at hsm
    refine step_call_g (by rfl) 12 _ _ rfl (fun _ _ => by kernel_rfl) #[.agg #[.slice a7 n7 c7], .agg #[.slice ax nx cx]] (by simp [go_sem]) _ hsm ?_
    rintro e W2 ⟨rfl, hB⟩
    refine ⟨_, rfl, ?_⟩
    have hS2 : (fun W' => Rows8 W' (u2.heap.size) 24 #[.slice a7 n7 c7] ∧ Rows8 W' w.heap.size 24 #[.slice a n c]) W2 := ⟨hS1.1.below hB hS1.1.lt, hS1.2.below hB hS1.2.lt⟩
    have OE2 := Lib.hid (OwnsP.below OE1.out hB (Nat.le_refl _))
    have B2 := Lib.hid (B1.out.trans (hB.mono B1.out.size))
    clear hB hsm
    refine hK.out _ _ (fun _ => hS2) ?_
    clear hK K
    try simp only [Act.put, List.setIfInBounds_toArray, List.set_cons_zero, List.set_cons_succ]
    refine wpAnyN_take (i := 4) (oi := { dst := some 120, op := Go.Op.move (Go.Operand.tmp 119), type := 4, pos := "law.go:106", after := #[{ on := 3, ground := Go.Ground.data }, { on := 3, ground := Go.Ground.chain }], guard := none }) (v := .bool true) rfl (by decide) (by kernel_rfl) (by kernel_rfl) (by kernel_rfl) (fun _ _ _ h => h) (Or.inl ⟨by rfl, ?_⟩) hS2 ?_
    · intro W9 hS9
      obtain ⟨q0, q1⟩ := hS9
      have s0 : W9.cell? ⟨u2.heap.size, 0, none⟩ = some (.slice a7 n7 c7) := q0.cell 0
      have s1 : W9.cell? ⟨w.heap.size, 0, none⟩ = some (.slice a n c) := q1.cell 0
      clear q0 q1
      go_simp
    try simp only [Act.put, List.setIfInBounds_toArray, List.set_cons_zero, List.set_cons_succ]
    refine wpAnyN_take (i := 5) (oi := { dst := some 121, op := Go.Op.move (Go.Operand.tmp 8), type := 25, pos := "law.go:106", after := #[{ on := 4, ground := Go.Ground.guard }], guard := some (4, true) }) (v := .slice b8 m c8) rfl (by decide) (by kernel_rfl) (by kernel_rfl) (by kernel_rfl) (fun _ _ _ h => h) (Or.inl ⟨by rfl, ?_⟩) hS2 ?_
    · intro W9 hS9
      obtain ⟨q0, q1⟩ := hS9
      have s0 : W9.cell? ⟨u2.heap.size, 0, none⟩ = some (.slice a7 n7 c7) := q0.cell 0
      have s1 : W9.cell? ⟨w.heap.size, 0, none⟩ = some (.slice a n c) := q1.cell 0
      clear q0 q1
      go_simp
    try simp only [Act.put, List.setIfInBounds_toArray, List.set_cons_zero, List.set_cons_succ]
    refine wpAnyN_take (i := 6) (oi := { dst := some 122, op := Go.Op.move (Go.Operand.tmp 2), type := 25, pos := "law.go:106", after := #[{ on := 4, ground := Go.Ground.guard }], guard := some (4, true) }) (v := .slice ay ny cy) rfl (by decide) (by kernel_rfl) (by kernel_rfl) (by kernel_rfl) (fun _ _ _ h => h) (Or.inl ⟨by rfl, ?_⟩) hS2 ?_
    · intro W9 hS9
      obtain ⟨q0, q1⟩ := hS9
      have s0 : W9.cell? ⟨u2.heap.size, 0, none⟩ = some (.slice a7 n7 c7) := q0.cell 0
      have s1 : W9.cell? ⟨w.heap.size, 0, none⟩ = some (.slice a n c) := q1.cell 0
      clear q0 q1
      go_simp
    try simp only [Act.put, List.setIfInBounds_toArray, List.set_cons_zero, List.set_cons_succ]
    refine wpAnyN_take (i := 7) (oi := { dst := some 123, op := Go.Op.move (Go.Operand.tmp 8), type := 25, pos := "law.go:106", after := #[{ on := 4, ground := Go.Ground.guard }], guard := some (4, true) }) (v := .slice b8 m c8) rfl (by decide) (by kernel_rfl) (by kernel_rfl) (by kernel_rfl) (fun _ _ _ h => h) (Or.inl ⟨by rfl, ?_⟩) hS2 ?_
    · intro W9 hS9
      obtain ⟨q0, q1⟩ := hS9
      have s0 : W9.cell? ⟨u2.heap.size, 0, none⟩ = some (.slice a7 n7 c7) := q0.cell 0
      have s1 : W9.cell? ⟨w.heap.size, 0, none⟩ = some (.slice a n c) := q1.cell 0
      clear q0 q1
      go_simp
    try simp only [Act.put, List.setIfInBounds_toArray, List.set_cons_zero, List.set_cons_succ]
    refine wpAnyN_take (i := 8) (oi := { dst := some 124, op := Go.Op.call { callee := Go.Callee.builtin Go.Builtin.len, args := #[Go.Operand.tmp 123], argTypes := #[25] }, type := 3, pos := "law.go:106", after := #[{ on := 7, ground := Go.Ground.data }, { on := 4, ground := Go.Ground.guard }], guard := some (4, true) }) (v := .int .i64 (m : Nat)) rfl (by decide) (by kernel_rfl) (by kernel_rfl) (by kernel_rfl) (fun _ _ _ h => h) (Or.inl ⟨by rfl, ?_⟩) hS2 ?_
    · intro W9 hS9
      obtain ⟨q0, q1⟩ := hS9
      have s0 : W9.cell? ⟨u2.heap.size, 0, none⟩ = some (.slice a7 n7 c7) := q0.cell 0
      have s1 : W9.cell? ⟨w.heap.size, 0, none⟩ = some (.slice a n c) := q1.cell 0
      clear q0 q1
      go_simp
    try simp only [Act.put, List.setIfInBounds_toArray, List.set_cons_zero, List.set_cons_succ]
    refine wpAnyN_take (i := 9) (oi := { dst := some 125, op := Go.Op.slice 25 (Go.Operand.tmp 122) none (some (Go.Operand.tmp 124)) none, type := 25, pos := "law.go:106", after := #[{ on := 6, ground := Go.Ground.data }, { on := 8, ground := Go.Ground.data }, { on := 4, ground := Go.Ground.guard }], guard := some (4, true) }) (v := .slice ay m cy) rfl (by decide) (by kernel_rfl) (by kernel_rfl) (by kernel_rfl) (fun _ _ _ h => h) (Or.inl ⟨by rfl, ?_⟩) hS2 ?_
    · intro W9 hS9
      obtain ⟨q0, q1⟩ := hS9
      have s0 : W9.cell? ⟨u2.heap.size, 0, none⟩ = some (.slice a7 n7 c7) := q0.cell 0
      have s1 : W9.cell? ⟨w.heap.size, 0, none⟩ = some (.slice a n c) := q1.cell 0
      clear q0 q1
      go_simp
    try simp only [Act.put, List.setIfInBounds_toArray, List.set_cons_zero, List.set_cons_succ]
    refine wpAnyX_one (i := 10) (o := { dst := some 126, op := Go.Op.call { callee := Go.Callee.value (Go.Operand.func 14), args := #[Go.Operand.tmp 121, Go.Operand.tmp 125], argTypes := #[25, 25] }, type := 4, pos := "law.go:106", after := #[{ on := 5, ground := Go.Ground.data }, { on := 9, ground := Go.Ground.data }, { on := 4, ground := Go.Ground.chain }, { on := 4, ground := Go.Ground.guard }], guard := some (4, true) }) (by kernel_rfl) rfl (fun K hK => ?_)
    have heq := Try.equalEntry_any _ _ _ _ _ _ es es W2 OE2.out.at (PAt.below HYM.out B2.out) (by omega) (by omega)
    rw [decide_eq_true (rfl : es = es)] at heq
    refine step_call_g (by rfl) 14 _ _ rfl (fun _ _ => by kernel_rfl) #[.slice b8 m c8, .slice ay m cy] (by simp [go_sem]) _ heq ?_
    rintro e W3 ⟨rfl, hB⟩
    refine ⟨_, rfl, ?_⟩
    have hS3 : (fun W' => Rows8 W' (u2.heap.size) 24 #[.slice a7 n7 c7] ∧ Rows8 W' w.heap.size 24 #[.slice a n c]) W3 := ⟨hS2.1.below hB hS2.1.lt, hS2.2.below hB hS2.2.lt⟩
    have B3 := Lib.hid (B2.out.trans (hB.mono B2.out.size))
    clear hB heq
    refine hK.out _ _ (fun _ => hS3) ?_
    clear hK K
    try simp only [Act.put, List.setIfInBounds_toArray, List.set_cons_zero, List.set_cons_succ]
    refine wpAnyN_take (i := 11) (oi := { dst := some 127, op := Go.Op.pick (Go.Operand.tmp 120) (Go.Operand.tmp 126) (Go.Operand.const (Go.Value.bool false)), type := 4, pos := "law.go:106", after := #[{ on := 4, ground := Go.Ground.data }, { on := 10, ground := Go.Ground.data }], guard := none }) (v := .bool true) rfl (by decide) (by kernel_rfl) (by kernel_rfl) (by kernel_rfl) (fun _ _ _ h => h) (Or.inl ⟨by rfl, ?_⟩) hS3 ?_
    · intro W9 hS9
      obtain ⟨q0, q1⟩ := hS9
      have s0 : W9.cell? ⟨u2.heap.size, 0, none⟩ = some (.slice a7 n7 c7) := q0.cell 0
      have s1 : W9.cell? ⟨w.heap.size, 0, none⟩ = some (.slice a n c) := q1.cell 0
      clear q0 q1
      go_simp
    try simp only [Act.put, List.setIfInBounds_toArray, List.set_cons_zero, List.set_cons_succ]
    refine wpAnyN_take (i := 12) (oi := { dst := some 6, op := Go.Op.assign (Go.Operand.tmp 127), type := 4, pos := "law.go:106", after := #[{ on := 11, ground := Go.Ground.data }, { on := 10, ground := Go.Ground.chain }, { on := 0, ground := Go.Ground.phase }, { on := 1, ground := Go.Ground.phase }, { on := 2, ground := Go.Ground.phase }, { on := 3, ground := Go.Ground.phase }, { on := 4, ground := Go.Ground.phase }, { on := 5, ground := Go.Ground.phase }, { on := 6, ground := Go.Ground.phase }, { on := 7, ground := Go.Ground.phase }, { on := 8, ground := Go.Ground.phase }, { on := 9, ground := Go.Ground.phase }, { on := 10, ground := Go.Ground.phase }, { on := 11, ground := Go.Ground.phase }], guard := none }) (v := .bool true) rfl (by decide) (by kernel_rfl) (by kernel_rfl) (by kernel_rfl) (fun _ _ _ h => h) (Or.inl ⟨by rfl, ?_⟩) hS3 ?_
    · intro W9 hS9
      obtain ⟨q0, q1⟩ := hS9
      have s0 : W9.cell? ⟨u2.heap.size, 0, none⟩ = some (.slice a7 n7 c7) := q0.cell 0
      have s1 : W9.cell? ⟨w.heap.size, 0, none⟩ = some (.slice a n c) := q1.cell 0
      clear q0 q1
      go_simp
    try simp only [Act.put, List.setIfInBounds_toArray, List.set_cons_zero, List.set_cons_succ]
    refine wpAnyX_end (by kernel_rfl) ?_
    clear hS0 hS1 hS2 hS3
    go_wp2_with fail
    go_ret
    exact ⟨rfl, B3.out⟩
  | true =>
    clear HNO
    have cb0 : u12.cell? ⟨u2.heap.size, 0, none⟩ = some (.slice a7 n7 c7) := RA.out.cell 0
    have lb0 := RA.out.lt
    have HCL := Lib.hid (HT2.out (by trivial) u12 _ _ _ OA.out.at)
    go_wp2_with fail
    refine HCL.out.mono ?_
    rintro e u13a ⟨a16, n16, c16, b19, n19, c19, rfl, h16, h19, hB⟩
    have RX := Lib.hid (RX.out.below hB RX.out.lt)
    have RA := Lib.hid (RA.out.below hB RA.out.lt)
    have RT := Lib.hid (RT.out.below hB RT.out.lt)
    have RR := Lib.hid (RR.out.below hB RR.out.lt)
    have RG := Lib.hid (RG.out.below hB RG.out.lt)
    have RP := Lib.hid (RP.out.below hB RP.out.lt)
    have RQ := Lib.hid (RQ.out.below hB RQ.out.lt)
    have RS := Lib.hid (RS.out.below hB RS.out.lt)
    have OA := Lib.hid (OwnsP.below OA.out hB (Nat.le_refl _))
    have OE := Lib.hid (OwnsP.below OE.out hB (Nat.le_refl _))
    have OT := Lib.hid (OwnsP.below OT.out hB (Nat.le_refl _))
    have OK := Lib.hid (OwnsP.below OK.out hB (Nat.le_refl _))
    have OR := Lib.hid (OwnsP.below OR.out hB (Nat.le_refl _))
    have OG := Lib.hid (OwnsP.below OG.out hB (Nat.le_refl _))
    have B0 := Lib.hid (B0.out.trans (hB.mono B0.out.size))
    have p16 := Lib.hid h16
    have p19 := Lib.hid h19
    clear hB HCL cb0 lb0 h16 h19
    have cz : u13a.cell? ⟨u10.heap.size, 0, none⟩ = some (.slice none 0 0) := RP.out.cell 0
    have fz := RP.out.frozen 0
    have hzw := B0.out.size
    have rz := RP.out.set 0 (.slice a16 n16 c16)
    simp only [List.setIfInBounds_toArray, List.set_cons_zero] at rz
    have OA := Lib.hid (OwnsP.setNe OA.out (a := ⟨u10.heap.size, 0, none⟩) RP.out (by decide) (.slice a16 n16 c16))
    have OE := Lib.hid (OwnsP.setNe OE.out (a := ⟨u10.heap.size, 0, none⟩) RP.out (by decide) (.slice a16 n16 c16))
    have OT := Lib.hid (OwnsP.setNe OT.out (a := ⟨u10.heap.size, 0, none⟩) RP.out (by decide) (.slice a16 n16 c16))
    have OK := Lib.hid (OwnsP.setNe OK.out (a := ⟨u10.heap.size, 0, none⟩) RP.out (by decide) (.slice a16 n16 c16))
    have OR := Lib.hid (OwnsP.setNe OR.out (a := ⟨u10.heap.size, 0, none⟩) RP.out (by decide) (.slice a16 n16 c16))
    have OG := Lib.hid (OwnsP.setNe OG.out (a := ⟨u10.heap.size, 0, none⟩) RP.out (by decide) (.slice a16 n16 c16))
    have p16 := Lib.hid (pAt_sep p16.out RP.out (.slice a16 n16 c16))
    have p19 := Lib.hid (pAt_sep p19.out RP.out (.slice a16 n16 c16))
    have RX := Lib.hid (RX.out.setOther (a := ⟨u10.heap.size, 0, none⟩) (by show u10.heap.size ≠ w.heap.size; have := hbXP.out; omega) (.slice a16 n16 c16))
    have RA := Lib.hid (RA.out.setOther (a := ⟨u10.heap.size, 0, none⟩) (by show u10.heap.size ≠ u2.heap.size; have := hbAP.out; omega) (.slice a16 n16 c16))
    have RT := Lib.hid (RT.out.setOther (a := ⟨u10.heap.size, 0, none⟩) (by show u10.heap.size ≠ u5.heap.size; have := hbTP.out; omega) (.slice a16 n16 c16))
    have RR := Lib.hid (RR.out.setOther (a := ⟨u10.heap.size, 0, none⟩) (by show u10.heap.size ≠ u7.heap.size; have := hbRP.out; omega) (.slice a16 n16 c16))
    have RG := Lib.hid (RG.out.setOther (a := ⟨u10.heap.size, 0, none⟩) (by show u10.heap.size ≠ u9.heap.size; have := hbGP.out; omega) (.slice a16 n16 c16))
    have RQ := Lib.hid (RQ.out.setOther (a := ⟨u10.heap.size, 0, none⟩) (by show u10.heap.size ≠ u10.heap.size + 1; omega) (.slice a16 n16 c16))
    have RS := Lib.hid (RS.out.setOther (a := ⟨u10.heap.size, 0, none⟩) (by show u10.heap.size ≠ u10.heap.size + 1 + 1; omega) (.slice a16 n16 c16))
    have B0 := Lib.hid (B0.out.setCell (p := ⟨u10.heap.size, 0, none⟩) (by have h1 := hbXP.out; show w.heap.size ≤ u10.heap.size; omega) (.slice a16 n16 c16))
    have RP := Lib.hid rz
    clear rz
    go_upto_region 13 with fail
    generalize hz9 : (u13a.setCell ⟨u10.heap.size, 0, none⟩ (.slice a16 n16 c16)) = u13 at *
    clear hz9 cz fz hzw
    have cb0 : u13.cell? ⟨u2.heap.size, 0, none⟩ = some (.slice a7 n7 c7) := RA.out.cell 0
    have lb0 := RA.out.lt
    have HCL := Lib.hid (HR2.out (by trivial) u13 _ _ _ OA.out.at _ _ (by have h := OE.out.at; exact h))
    go_wp2_with fail
    refine HCL.out.mono ?_
    rintro e u14a ⟨a17, n17, c17, rfl, h17, hB⟩
    have RX := Lib.hid (RX.out.below hB RX.out.lt)
    have RA := Lib.hid (RA.out.below hB RA.out.lt)
    have RT := Lib.hid (RT.out.below hB RT.out.lt)
    have RR := Lib.hid (RR.out.below hB RR.out.lt)
    have RG := Lib.hid (RG.out.below hB RG.out.lt)
    have RP := Lib.hid (RP.out.below hB RP.out.lt)
    have RQ := Lib.hid (RQ.out.below hB RQ.out.lt)
    have RS := Lib.hid (RS.out.below hB RS.out.lt)
    have OA := Lib.hid (OwnsP.below OA.out hB (Nat.le_refl _))
    have OE := Lib.hid (OwnsP.below OE.out hB (Nat.le_refl _))
    have OT := Lib.hid (OwnsP.below OT.out hB (Nat.le_refl _))
    have OK := Lib.hid (OwnsP.below OK.out hB (Nat.le_refl _))
    have OR := Lib.hid (OwnsP.below OR.out hB (Nat.le_refl _))
    have OG := Lib.hid (OwnsP.below OG.out hB (Nat.le_refl _))
    have B0 := Lib.hid (B0.out.trans (hB.mono B0.out.size))
    have p16 := Lib.hid (PAt.below p16.out hB)
    have p19 := Lib.hid (PAt.below p19.out hB)
    have p17 := Lib.hid h17
    clear hB HCL cb0 lb0 h17
    have cz : u14a.cell? ⟨u10.heap.size + 1, 0, none⟩ = some (.slice none 0 0) := RQ.out.cell 0
    have fz := RQ.out.frozen 0
    have hzw := B0.out.size
    have rz := RQ.out.set 0 (.slice a17 n17 c17)
    simp only [List.setIfInBounds_toArray, List.set_cons_zero] at rz
    have OA := Lib.hid (OwnsP.setNe OA.out (a := ⟨u10.heap.size + 1, 0, none⟩) RQ.out (by decide) (.slice a17 n17 c17))
    have OE := Lib.hid (OwnsP.setNe OE.out (a := ⟨u10.heap.size + 1, 0, none⟩) RQ.out (by decide) (.slice a17 n17 c17))
    have OT := Lib.hid (OwnsP.setNe OT.out (a := ⟨u10.heap.size + 1, 0, none⟩) RQ.out (by decide) (.slice a17 n17 c17))
    have OK := Lib.hid (OwnsP.setNe OK.out (a := ⟨u10.heap.size + 1, 0, none⟩) RQ.out (by decide) (.slice a17 n17 c17))
    have OR := Lib.hid (OwnsP.setNe OR.out (a := ⟨u10.heap.size + 1, 0, none⟩) RQ.out (by decide) (.slice a17 n17 c17))
    have OG := Lib.hid (OwnsP.setNe OG.out (a := ⟨u10.heap.size + 1, 0, none⟩) RQ.out (by decide) (.slice a17 n17 c17))
    have p16 := Lib.hid (pAt_sep p16.out RQ.out (.slice a17 n17 c17))
    have p19 := Lib.hid (pAt_sep p19.out RQ.out (.slice a17 n17 c17))
    have p17 := Lib.hid (pAt_sep p17.out RQ.out (.slice a17 n17 c17))
    have RX := Lib.hid (RX.out.setOther (a := ⟨u10.heap.size + 1, 0, none⟩) (by show u10.heap.size + 1 ≠ w.heap.size; have := hbXP.out; omega) (.slice a17 n17 c17))
    have RA := Lib.hid (RA.out.setOther (a := ⟨u10.heap.size + 1, 0, none⟩) (by show u10.heap.size + 1 ≠ u2.heap.size; have := hbAP.out; omega) (.slice a17 n17 c17))
    have RT := Lib.hid (RT.out.setOther (a := ⟨u10.heap.size + 1, 0, none⟩) (by show u10.heap.size + 1 ≠ u5.heap.size; have := hbTP.out; omega) (.slice a17 n17 c17))
    have RR := Lib.hid (RR.out.setOther (a := ⟨u10.heap.size + 1, 0, none⟩) (by show u10.heap.size + 1 ≠ u7.heap.size; have := hbRP.out; omega) (.slice a17 n17 c17))
    have RG := Lib.hid (RG.out.setOther (a := ⟨u10.heap.size + 1, 0, none⟩) (by show u10.heap.size + 1 ≠ u9.heap.size; have := hbGP.out; omega) (.slice a17 n17 c17))
    have RP := Lib.hid (RP.out.setOther (a := ⟨u10.heap.size + 1, 0, none⟩) (by show u10.heap.size + 1 ≠ u10.heap.size; omega) (.slice a17 n17 c17))
    have RS := Lib.hid (RS.out.setOther (a := ⟨u10.heap.size + 1, 0, none⟩) (by show u10.heap.size + 1 ≠ u10.heap.size + 1 + 1; omega) (.slice a17 n17 c17))
    have B0 := Lib.hid (B0.out.setCell (p := ⟨u10.heap.size + 1, 0, none⟩) (by have h1 := hbXP.out; show w.heap.size ≤ u10.heap.size + 1; omega) (.slice a17 n17 c17))
    have RQ := Lib.hid rz
    clear rz
    go_upto_region 14 with fail
    generalize hz9 : (u14a.setCell ⟨u10.heap.size + 1, 0, none⟩ (.slice a17 n17 c17)) = u14 at *
    clear hz9 cz fz hzw
    have cb0 : u14.cell? ⟨u2.heap.size, 0, none⟩ = some (.slice a7 n7 c7) := RA.out.cell 0
    have lb0 := RA.out.lt
    have HCL := Lib.hid (HG2.out (by trivial) u14 _ _ _ OA.out.at _ _ (by have h := OE.out.at; exact h))
    go_wp2_with fail
    refine HCL.out.mono ?_
    rintro e u15a ⟨a18, n18, c18, rfl, h18, hB⟩
    have RX := Lib.hid (RX.out.below hB RX.out.lt)
    have RA := Lib.hid (RA.out.below hB RA.out.lt)
    have RT := Lib.hid (RT.out.below hB RT.out.lt)
    have RR := Lib.hid (RR.out.below hB RR.out.lt)
    have RG := Lib.hid (RG.out.below hB RG.out.lt)
    have RP := Lib.hid (RP.out.below hB RP.out.lt)
    have RQ := Lib.hid (RQ.out.below hB RQ.out.lt)
    have RS := Lib.hid (RS.out.below hB RS.out.lt)
    have OA := Lib.hid (OwnsP.below OA.out hB (Nat.le_refl _))
    have OE := Lib.hid (OwnsP.below OE.out hB (Nat.le_refl _))
    have OT := Lib.hid (OwnsP.below OT.out hB (Nat.le_refl _))
    have OK := Lib.hid (OwnsP.below OK.out hB (Nat.le_refl _))
    have OR := Lib.hid (OwnsP.below OR.out hB (Nat.le_refl _))
    have OG := Lib.hid (OwnsP.below OG.out hB (Nat.le_refl _))
    have B0 := Lib.hid (B0.out.trans (hB.mono B0.out.size))
    have p16 := Lib.hid (PAt.below p16.out hB)
    have p19 := Lib.hid (PAt.below p19.out hB)
    have p17 := Lib.hid (PAt.below p17.out hB)
    have p18 := Lib.hid h18
    clear hB HCL cb0 lb0 h18
    have cz : u15a.cell? ⟨u10.heap.size + 1 + 1, 0, none⟩ = some (.slice none 0 0) := RS.out.cell 0
    have fz := RS.out.frozen 0
    have hzw := B0.out.size
    have rz := RS.out.set 0 (.slice a18 n18 c18)
    simp only [List.setIfInBounds_toArray, List.set_cons_zero] at rz
    have OA := Lib.hid (OwnsP.setNe OA.out (a := ⟨u10.heap.size + 1 + 1, 0, none⟩) RS.out (by decide) (.slice a18 n18 c18))
    have OE := Lib.hid (OwnsP.setNe OE.out (a := ⟨u10.heap.size + 1 + 1, 0, none⟩) RS.out (by decide) (.slice a18 n18 c18))
    have OT := Lib.hid (OwnsP.setNe OT.out (a := ⟨u10.heap.size + 1 + 1, 0, none⟩) RS.out (by decide) (.slice a18 n18 c18))
    have OK := Lib.hid (OwnsP.setNe OK.out (a := ⟨u10.heap.size + 1 + 1, 0, none⟩) RS.out (by decide) (.slice a18 n18 c18))
    have OR := Lib.hid (OwnsP.setNe OR.out (a := ⟨u10.heap.size + 1 + 1, 0, none⟩) RS.out (by decide) (.slice a18 n18 c18))
    have OG := Lib.hid (OwnsP.setNe OG.out (a := ⟨u10.heap.size + 1 + 1, 0, none⟩) RS.out (by decide) (.slice a18 n18 c18))
    have p16 := Lib.hid (pAt_sep p16.out RS.out (.slice a18 n18 c18))
    have p19 := Lib.hid (pAt_sep p19.out RS.out (.slice a18 n18 c18))
    have p17 := Lib.hid (pAt_sep p17.out RS.out (.slice a18 n18 c18))
    have p18 := Lib.hid (pAt_sep p18.out RS.out (.slice a18 n18 c18))
    have RX := Lib.hid (RX.out.setOther (a := ⟨u10.heap.size + 1 + 1, 0, none⟩) (by show u10.heap.size + 1 + 1 ≠ w.heap.size; have := hbXP.out; omega) (.slice a18 n18 c18))
    have RA := Lib.hid (RA.out.setOther (a := ⟨u10.heap.size + 1 + 1, 0, none⟩) (by show u10.heap.size + 1 + 1 ≠ u2.heap.size; have := hbAP.out; omega) (.slice a18 n18 c18))
    have RT := Lib.hid (RT.out.setOther (a := ⟨u10.heap.size + 1 + 1, 0, none⟩) (by show u10.heap.size + 1 + 1 ≠ u5.heap.size; have := hbTP.out; omega) (.slice a18 n18 c18))
    have RR := Lib.hid (RR.out.setOther (a := ⟨u10.heap.size + 1 + 1, 0, none⟩) (by show u10.heap.size + 1 + 1 ≠ u7.heap.size; have := hbRP.out; omega) (.slice a18 n18 c18))
    have RG := Lib.hid (RG.out.setOther (a := ⟨u10.heap.size + 1 + 1, 0, none⟩) (by show u10.heap.size + 1 + 1 ≠ u9.heap.size; have := hbGP.out; omega) (.slice a18 n18 c18))
    have RP := Lib.hid (RP.out.setOther (a := ⟨u10.heap.size + 1 + 1, 0, none⟩) (by show u10.heap.size + 1 + 1 ≠ u10.heap.size; omega) (.slice a18 n18 c18))
    have RQ := Lib.hid (RQ.out.setOther (a := ⟨u10.heap.size + 1 + 1, 0, none⟩) (by show u10.heap.size + 1 + 1 ≠ u10.heap.size + 1; omega) (.slice a18 n18 c18))
    have B0 := Lib.hid (B0.out.setCell (p := ⟨u10.heap.size + 1 + 1, 0, none⟩) (by have h1 := hbXP.out; show w.heap.size ≤ u10.heap.size + 1 + 1; omega) (.slice a18 n18 c18))
    have RS := Lib.hid rz
    clear rz
    go_upto_region 15 with fail
    generalize hz9 : (u15a.setCell ⟨u10.heap.size + 1 + 1, 0, none⟩ (.slice a18 n18 c18)) = u15 at *
    clear hz9 cz fz hzw
    have z16 : n16 ≤ 10000 := by have := (pAt_len p16.out).1; omega
    have z17 : n17 ≤ 10000 := by have := (pAt_len p17.out).1; omega
    have z18 : n18 ≤ 10000 := by have := (pAt_len p18.out).1; omega
    have z19 : n19 ≤ 10000 := by have := (pAt_len p19.out).1; omega
    have Z := Lib.hid (And.intro tl1 (And.intro tl2 (And.intro rl gl)))
    clear tl1 tl2 rl gl
    have ee1 : (E1 != E1) = false := by simp
    have ee2 : (E2 != E2) = false := by simp
    have ee3 : (E3 != E3) = false := by simp
    have HCL := Lib.hid (Try.equalEntry_any _ _ _ _ _ _ S1 S1 u15 (OK.out.at) p19.out l10 z19)
    rw [decide_eq_true rfl] at HCL
    go_wp2_with fail
    refine HCL.out.mono ?_
    rintro e y1 ⟨rfl, hB⟩
    have RX := Lib.hid (RX.out.below hB RX.out.lt)
    have RA := Lib.hid (RA.out.below hB RA.out.lt)
    have RT := Lib.hid (RT.out.below hB RT.out.lt)
    have RR := Lib.hid (RR.out.below hB RR.out.lt)
    have RG := Lib.hid (RG.out.below hB RG.out.lt)
    have RP := Lib.hid (RP.out.below hB RP.out.lt)
    have RQ := Lib.hid (RQ.out.below hB RQ.out.lt)
    have RS := Lib.hid (RS.out.below hB RS.out.lt)
    have OA := Lib.hid (OwnsP.below OA.out hB (Nat.le_refl _))
    have OE := Lib.hid (OwnsP.below OE.out hB (Nat.le_refl _))
    have OT := Lib.hid (OwnsP.below OT.out hB (Nat.le_refl _))
    have OK := Lib.hid (OwnsP.below OK.out hB (Nat.le_refl _))
    have OR := Lib.hid (OwnsP.below OR.out hB (Nat.le_refl _))
    have OG := Lib.hid (OwnsP.below OG.out hB (Nat.le_refl _))
    have B0 := Lib.hid (B0.out.trans (hB.mono B0.out.size))
    have p16 := Lib.hid (PAt.below p16.out hB)
    have p17 := Lib.hid (PAt.below p17.out hB)
    have p18 := Lib.hid (PAt.below p18.out hB)
    have p19 := Lib.hid (PAt.below p19.out hB)
    clear hB HCL 
    have cb0 : y1.cell? ⟨u5.heap.size, 0, none⟩ = some (.slice a9 k9 c9) := RT.out.cell 0
    have lb0 := RT.out.lt
    have cb1 : y1.cell? ⟨u10.heap.size, 0, none⟩ = some (.slice a16 n16 c16) := RP.out.cell 0
    have lb1 := RP.out.lt
    have HCL := Lib.hid (Try.refSame_any _ _ _ _ _ _ T1 T1 y1 (OT.out.at) p16.out l9 z16)
    rw [decide_eq_true rfl] at HCL
    go_wp2_with fail
    refine HCL.out.mono ?_
    rintro e y2 ⟨rfl, hB⟩
    have RX := Lib.hid (RX.out.below hB RX.out.lt)
    have RA := Lib.hid (RA.out.below hB RA.out.lt)
    have RT := Lib.hid (RT.out.below hB RT.out.lt)
    have RR := Lib.hid (RR.out.below hB RR.out.lt)
    have RG := Lib.hid (RG.out.below hB RG.out.lt)
    have RP := Lib.hid (RP.out.below hB RP.out.lt)
    have RQ := Lib.hid (RQ.out.below hB RQ.out.lt)
    have RS := Lib.hid (RS.out.below hB RS.out.lt)
    have OA := Lib.hid (OwnsP.below OA.out hB (Nat.le_refl _))
    have OE := Lib.hid (OwnsP.below OE.out hB (Nat.le_refl _))
    have OT := Lib.hid (OwnsP.below OT.out hB (Nat.le_refl _))
    have OK := Lib.hid (OwnsP.below OK.out hB (Nat.le_refl _))
    have OR := Lib.hid (OwnsP.below OR.out hB (Nat.le_refl _))
    have OG := Lib.hid (OwnsP.below OG.out hB (Nat.le_refl _))
    have B0 := Lib.hid (B0.out.trans (hB.mono B0.out.size))
    have p16 := Lib.hid (PAt.below p16.out hB)
    have p17 := Lib.hid (PAt.below p17.out hB)
    have p18 := Lib.hid (PAt.below p18.out hB)
    have p19 := Lib.hid (PAt.below p19.out hB)
    clear hB HCL cb0 lb0 cb1 lb1
    have cb0 : y2.cell? ⟨u7.heap.size, 0, none⟩ = some (.slice a12 k12 c12) := RR.out.cell 0
    have lb0 := RR.out.lt
    have cb1 : y2.cell? ⟨u10.heap.size + 1, 0, none⟩ = some (.slice a17 n17 c17) := RQ.out.cell 0
    have lb1 := RQ.out.lt
    have HCL := Lib.hid (Try.refSame_any _ _ _ _ _ _ T2 T2 y2 (OR.out.at) p17.out l12 z17)
    rw [decide_eq_true rfl] at HCL
    go_wp2_with fail
    refine HCL.out.mono ?_
    rintro e y3 ⟨rfl, hB⟩
    have RX := Lib.hid (RX.out.below hB RX.out.lt)
    have RA := Lib.hid (RA.out.below hB RA.out.lt)
    have RT := Lib.hid (RT.out.below hB RT.out.lt)
    have RR := Lib.hid (RR.out.below hB RR.out.lt)
    have RG := Lib.hid (RG.out.below hB RG.out.lt)
    have RP := Lib.hid (RP.out.below hB RP.out.lt)
    have RQ := Lib.hid (RQ.out.below hB RQ.out.lt)
    have RS := Lib.hid (RS.out.below hB RS.out.lt)
    have OA := Lib.hid (OwnsP.below OA.out hB (Nat.le_refl _))
    have OE := Lib.hid (OwnsP.below OE.out hB (Nat.le_refl _))
    have OT := Lib.hid (OwnsP.below OT.out hB (Nat.le_refl _))
    have OK := Lib.hid (OwnsP.below OK.out hB (Nat.le_refl _))
    have OR := Lib.hid (OwnsP.below OR.out hB (Nat.le_refl _))
    have OG := Lib.hid (OwnsP.below OG.out hB (Nat.le_refl _))
    have B0 := Lib.hid (B0.out.trans (hB.mono B0.out.size))
    have p16 := Lib.hid (PAt.below p16.out hB)
    have p17 := Lib.hid (PAt.below p17.out hB)
    have p18 := Lib.hid (PAt.below p18.out hB)
    have p19 := Lib.hid (PAt.below p19.out hB)
    clear hB HCL cb0 lb0 cb1 lb1
    have cb0 : y3.cell? ⟨u9.heap.size, 0, none⟩ = some (.slice a14 k14 c14) := RG.out.cell 0
    have lb0 := RG.out.lt
    have cb1 : y3.cell? ⟨u10.heap.size + 1 + 1, 0, none⟩ = some (.slice a18 n18 c18) := RS.out.cell 0
    have lb1 := RS.out.lt
    have HCL := Lib.hid (Try.refSame_any _ _ _ _ _ _ T3 T3 y3 (OG.out.at) p18.out l14 z18)
    rw [decide_eq_true rfl] at HCL
    go_wp2_with fail
    refine HCL.out.mono ?_
    rintro e y4 ⟨rfl, hB⟩
    have RX := Lib.hid (RX.out.below hB RX.out.lt)
    have RA := Lib.hid (RA.out.below hB RA.out.lt)
    have RT := Lib.hid (RT.out.below hB RT.out.lt)
    have RR := Lib.hid (RR.out.below hB RR.out.lt)
    have RG := Lib.hid (RG.out.below hB RG.out.lt)
    have RP := Lib.hid (RP.out.below hB RP.out.lt)
    have RQ := Lib.hid (RQ.out.below hB RQ.out.lt)
    have RS := Lib.hid (RS.out.below hB RS.out.lt)
    have OA := Lib.hid (OwnsP.below OA.out hB (Nat.le_refl _))
    have OE := Lib.hid (OwnsP.below OE.out hB (Nat.le_refl _))
    have OT := Lib.hid (OwnsP.below OT.out hB (Nat.le_refl _))
    have OK := Lib.hid (OwnsP.below OK.out hB (Nat.le_refl _))
    have OR := Lib.hid (OwnsP.below OR.out hB (Nat.le_refl _))
    have OG := Lib.hid (OwnsP.below OG.out hB (Nat.le_refl _))
    have B0 := Lib.hid (B0.out.trans (hB.mono B0.out.size))
    have p16 := Lib.hid (PAt.below p16.out hB)
    have p17 := Lib.hid (PAt.below p17.out hB)
    have p18 := Lib.hid (PAt.below p18.out hB)
    have p19 := Lib.hid (PAt.below p19.out hB)
    clear hB HCL cb0 lb0 cb1 lb1
    clear p16 p17 p18 p19
    go_upto_region 17 with fail
    have cb0 : y4.cell? ⟨u5.heap.size, 0, none⟩ = some (.slice a9 k9 c9) := RT.out.cell 0
    have lb0 := RT.out.lt
    have HCL := Lib.hid (Try.spoil2_any _ _ _ (by have := Z.out; first | omega | (simp only [List.length_nil]; omega) | exact Nat.zero_le _) y4 OT.out)
    go_wp2_with fail
    refine HCL.out.mono ?_
    rintro e s18 ⟨rfl, hS⟩
    have RXn := Lib.hid (hS.rows OT.out RX.out (by decide))
    have RAn := Lib.hid (hS.rows OT.out RA.out (by decide))
    have RTn := Lib.hid (hS.rows OT.out RT.out (by decide))
    have RRn := Lib.hid (hS.rows OT.out RR.out (by decide))
    have RGn := Lib.hid (hS.rows OT.out RG.out (by decide))
    have RPn := Lib.hid (hS.rows OT.out RP.out (by decide))
    have RQn := Lib.hid (hS.rows OT.out RQ.out (by decide))
    have RSn := Lib.hid (hS.rows OT.out RS.out (by decide))
    have OAn : Hid (OwnsP _ _ _ _ s18) := Lib.hid (hS.owns OA.out neAT.out)
    have OEn : Hid (OwnsP _ _ _ _ s18) := Lib.hid (hS.owns OE.out (owns_ne OE.out OT.out (by decide)))
    have OKn : Hid (OwnsP _ _ _ _ s18) := Lib.hid (hS.owns OK.out (owns_ne OK.out OT.out (by decide)))
    have ORn : Hid (OwnsP _ _ _ _ s18) := Lib.hid (hS.owns OR.out (ne_symm neTR.out))
    have OGn : Hid (OwnsP _ _ _ _ s18) := Lib.hid (hS.owns OG.out (ne_symm neTG.out))
    have B0n := Lib.hid (hS.below B0.out B0.out.size bT.out)
    clear hS HCL cb0 lb0 RX RA RT RR RG RP RQ RS OA OE OK OR OG B0 OT
    have RX := RXn
    have RA := RAn
    have RT := RTn
    have RR := RRn
    have RG := RGn
    have RP := RPn
    have RQ := RQn
    have RS := RSn
    have OA := OAn
    have OE := OEn
    have OK := OKn
    have OR := ORn
    have OG := OGn
    have B0 := B0n
    clear RXn RAn RTn RRn RGn RPn RQn RSn OAn OEn OKn ORn OGn B0n
    go_upto_region 18 with fail
    have cb0 : s18.cell? ⟨u7.heap.size, 0, none⟩ = some (.slice a12 k12 c12) := RR.out.cell 0
    have lb0 := RR.out.lt
    have HCL := Lib.hid (Try.spoil2_any _ _ _ (by have := Z.out; first | omega | (simp only [List.length_nil]; omega) | exact Nat.zero_le _) s18 OR.out)
    go_wp2_with fail
    refine HCL.out.mono ?_
    rintro e s19 ⟨rfl, hS⟩
    have RXn := Lib.hid (hS.rows OR.out RX.out (by decide))
    have RAn := Lib.hid (hS.rows OR.out RA.out (by decide))
    have RTn := Lib.hid (hS.rows OR.out RT.out (by decide))
    have RRn := Lib.hid (hS.rows OR.out RR.out (by decide))
    have RGn := Lib.hid (hS.rows OR.out RG.out (by decide))
    have RPn := Lib.hid (hS.rows OR.out RP.out (by decide))
    have RQn := Lib.hid (hS.rows OR.out RQ.out (by decide))
    have RSn := Lib.hid (hS.rows OR.out RS.out (by decide))
    have OAn : Hid (OwnsP _ _ _ _ s19) := Lib.hid (hS.owns OA.out neAR.out)
    have OEn : Hid (OwnsP _ _ _ _ s19) := Lib.hid (hS.owns OE.out (owns_ne OE.out OR.out (by decide)))
    have OKn : Hid (OwnsP _ _ _ _ s19) := Lib.hid (hS.owns OK.out (owns_ne OK.out OR.out (by decide)))
    have OGn : Hid (OwnsP _ _ _ _ s19) := Lib.hid (hS.owns OG.out (ne_symm neRG.out))
    have B0n := Lib.hid (hS.below B0.out B0.out.size bR.out)
    clear hS HCL cb0 lb0 RX RA RT RR RG RP RQ RS OA OE OK OG B0 OR
    have RX := RXn
    have RA := RAn
    have RT := RTn
    have RR := RRn
    have RG := RGn
    have RP := RPn
    have RQ := RQn
    have RS := RSn
    have OA := OAn
    have OE := OEn
    have OK := OKn
    have OG := OGn
    have B0 := B0n
    clear RXn RAn RTn RRn RGn RPn RQn RSn OAn OEn OKn OGn B0n
    go_upto_region 19 with fail
    have cb0 : s19.cell? ⟨u9.heap.size, 0, none⟩ = some (.slice a14 k14 c14) := RG.out.cell 0
    have lb0 := RG.out.lt
    have HCL := Lib.hid (Try.spoil2_any _ _ _ (by have := Z.out; first | omega | (simp only [List.length_nil]; omega) | exact Nat.zero_le _) s19 OG.out)
    go_wp2_with fail
    refine HCL.out.mono ?_
    rintro e s20 ⟨rfl, hS⟩
    have RXn := Lib.hid (hS.rows OG.out RX.out (by decide))
    have RAn := Lib.hid (hS.rows OG.out RA.out (by decide))
    have RTn := Lib.hid (hS.rows OG.out RT.out (by decide))
    have RRn := Lib.hid (hS.rows OG.out RR.out (by decide))
    have RGn := Lib.hid (hS.rows OG.out RG.out (by decide))
    have RPn := Lib.hid (hS.rows OG.out RP.out (by decide))
    have RQn := Lib.hid (hS.rows OG.out RQ.out (by decide))
    have RSn := Lib.hid (hS.rows OG.out RS.out (by decide))
    have OAn : Hid (OwnsP _ _ _ _ s20) := Lib.hid (hS.owns OA.out neAG.out)
    have OEn : Hid (OwnsP _ _ _ _ s20) := Lib.hid (hS.owns OE.out (owns_ne OE.out OG.out (by decide)))
    have OKn : Hid (OwnsP _ _ _ _ s20) := Lib.hid (hS.owns OK.out (owns_ne OK.out OG.out (by decide)))
    have B0n := Lib.hid (hS.below B0.out B0.out.size bG.out)
    clear hS HCL cb0 lb0 RX RA RT RR RG RP RQ RS OA OE OK B0 OG
    have RX := RXn
    have RA := RAn
    have RT := RTn
    have RR := RRn
    have RG := RGn
    have RP := RPn
    have RQ := RQn
    have RS := RSn
    have OA := OAn
    have OE := OEn
    have OK := OKn
    have B0 := B0n
    clear RXn RAn RTn RRn RGn RPn RQn RSn OAn OEn OKn B0n
    go_upto_region 20 with fail
    refine wp_region_X (fun W' => Rows8 W' (u2.heap.size) 24 #[.slice a7 n7 c7] ∧ Rows8 W' w.heap.size 24 #[.slice a n c]) 13 (by kernel_rfl) ?_
    have hS0 : (fun W' => Rows8 W' (u2.heap.size) 24 #[.slice a7 n7 c7] ∧ Rows8 W' w.heap.size 24 #[.slice a n c]) s20.drew := ⟨RA.out.drewA, RX.out.drewA⟩
    have OAd : Hid (OwnsP 44 _ L (.slice a7 n7 c7) s20.drew) := Lib.hid OA.out
    have OEd : Hid (OwnsP 37 _ es (.slice b8 m c8) s20.drew) := Lib.hid OE.out
    have B0d := Lib.hid B0.out.drew
    generalize s20.drew = Wd at *
    refine wpAnyN_take (i := 0) (oi := { dst := some 116, op := Go.Op.load 24 (Go.Operand.tmp 7), type := 24, pos := "law.go:106", after := #[], guard := none }) (v := .agg #[.slice a7 n7 c7]) rfl (by decide) (by kernel_rfl) (by kernel_rfl) (by kernel_rfl) (fun _ _ _ h => h) (Or.inl ⟨by rfl, ?_⟩) hS0 ?_
    · intro W9 hS9
      obtain ⟨q0, q1⟩ := hS9
      have s0 : W9.cell? ⟨u2.heap.size, 0, none⟩ = some (.slice a7 n7 c7) := q0.cell 0
      have s1 : W9.cell? ⟨w.heap.size, 0, none⟩ = some (.slice a n c) := q1.cell 0
      clear q0 q1
      go_simp
    try simp only [Act.put, List.setIfInBounds_toArray, List.set_cons_zero, List.set_cons_succ]
    refine wpAnyN_take (i := 1) (oi := { dst := some 117, op := Go.Op.load 24 (Go.Operand.tmp 3), type := 24, pos := "law.go:106", after := #[], guard := none }) (v := .agg #[.slice a n c]) rfl (by decide) (by kernel_rfl) (by kernel_rfl) (by kernel_rfl) (fun _ _ _ h => h) (Or.inl ⟨by rfl, ?_⟩) hS0 ?_
    · intro W9 hS9
      obtain ⟨q0, q1⟩ := hS9
      have s0 : W9.cell? ⟨u2.heap.size, 0, none⟩ = some (.slice a7 n7 c7) := q0.cell 0
      have s1 : W9.cell? ⟨w.heap.size, 0, none⟩ = some (.slice a n c) := q1.cell 0
      clear q0 q1
      go_simp
    try simp only [Act.put, List.setIfInBounds_toArray, List.set_cons_zero, List.set_cons_succ]
    refine wpAnyX_one (i := 2) (o := { dst := some 118, op := Go.Op.call { callee := Go.Callee.value (Go.Operand.func 8), args := #[Go.Operand.tmp 117], argTypes := #[24] }, type := 24, pos := "law.go:106", after := #[{ on := 1, ground := Go.Ground.data }], guard := none }) (by kernel_rfl) rfl (fun K hK => ?_)
    refine step_call_g (by rfl) 8 _ _ rfl (fun _ _ => by kernel_rfl) #[.agg #[.slice a n c]] (by simp [go_sem]) _ (HOw Wd (PAt.below HI.out B0d.out)).out ?_
    rintro e W1 ⟨ax, nx, cx, rfl, hx130, hO, hB⟩
    refine ⟨_, rfl, ?_⟩
    have hS1 : (fun W' => Rows8 W' (u2.heap.size) 24 #[.slice a7 n7 c7] ∧ Rows8 W' w.heap.size 24 #[.slice a n c]) W1 := ⟨hS0.1.below hB hS0.1.lt, hS0.2.below hB hS0.2.lt⟩
    have OA1 := Lib.hid (OwnsP.below OAd.out hB (Nat.le_refl _))
    have OE1 := Lib.hid (OwnsP.below OEd.out hB (Nat.le_refl _))
    have B1 := Lib.hid (B0d.out.trans (hB.mono B0d.out.size))
    have OX1 := Lib.hid hO
    have hx10 : nx ≤ 10000 := by omega
    clear hO hB
    refine hK.out _ _ (fun _ => hS1) ?_
    clear hK K
    try simp only [Act.put, List.setIfInBounds_toArray, List.set_cons_zero, List.set_cons_succ]
    refine wpAnyX_one (i := 3) (o := { dst := some 119, op := Go.Op.call { callee := Go.Callee.value (Go.Operand.func 12), args := #[Go.Operand.tmp 116, Go.Operand.tmp 118], argTypes := #[24, 24] }, type := 4, pos := "law.go:106", after := #[{ on := 0, ground := Go.Ground.data }, { on := 2, ground := Go.Ground.data }, { on := 2, ground := Go.Ground.chain }], guard := none }) (by kernel_rfl) rfl (fun K hK => ?_)
    have hsm := Try.refSame_any _ _ _ _ _ _ L L W1 OA1.out.at OX1.out.at h7 hx10
    rw [decide_eq_true (rfl : L = L)] at hsm
    refine step_call_g (by rfl) 12 _ _ rfl (fun _ _ => by kernel_rfl) #[.agg #[.slice a7 n7 c7], .agg #[.slice ax nx cx]] (by simp [go_sem]) _ hsm ?_
    rintro e W2 ⟨rfl, hB⟩
    refine ⟨_, rfl, ?_⟩
    have hS2 : (fun W' => Rows8 W' (u2.heap.size) 24 #[.slice a7 n7 c7] ∧ Rows8 W' w.heap.size 24 #[.slice a n c]) W2 := ⟨hS1.1.below hB hS1.1.lt, hS1.2.below hB hS1.2.lt⟩
    have OE2 := Lib.hid (OwnsP.below OE1.out hB (Nat.le_refl _))
    have B2 := Lib.hid (B1.out.trans (hB.mono B1.out.size))
    clear hB hsm
    refine hK.out _ _ (fun _ => hS2) ?_
    clear hK K
    try simp only [Act.put, List.setIfInBounds_toArray, List.set_cons_zero, List.set_cons_succ]
    refine wpAnyN_take (i := 4) (oi := { dst := some 120, op := Go.Op.move (Go.Operand.tmp 119), type := 4, pos := "law.go:106", after := #[{ on := 3, ground := Go.Ground.data }, { on := 3, ground := Go.Ground.chain }], guard := none }) (v := .bool true) rfl (by decide) (by kernel_rfl) (by kernel_rfl) (by kernel_rfl) (fun _ _ _ h => h) (Or.inl ⟨by rfl, ?_⟩) hS2 ?_
    · intro W9 hS9
      obtain ⟨q0, q1⟩ := hS9
      have s0 : W9.cell? ⟨u2.heap.size, 0, none⟩ = some (.slice a7 n7 c7) := q0.cell 0
      have s1 : W9.cell? ⟨w.heap.size, 0, none⟩ = some (.slice a n c) := q1.cell 0
      clear q0 q1
      go_simp
    try simp only [Act.put, List.setIfInBounds_toArray, List.set_cons_zero, List.set_cons_succ]
    refine wpAnyN_take (i := 5) (oi := { dst := some 121, op := Go.Op.move (Go.Operand.tmp 8), type := 25, pos := "law.go:106", after := #[{ on := 4, ground := Go.Ground.guard }], guard := some (4, true) }) (v := .slice b8 m c8) rfl (by decide) (by kernel_rfl) (by kernel_rfl) (by kernel_rfl) (fun _ _ _ h => h) (Or.inl ⟨by rfl, ?_⟩) hS2 ?_
    · intro W9 hS9
      obtain ⟨q0, q1⟩ := hS9
      have s0 : W9.cell? ⟨u2.heap.size, 0, none⟩ = some (.slice a7 n7 c7) := q0.cell 0
      have s1 : W9.cell? ⟨w.heap.size, 0, none⟩ = some (.slice a n c) := q1.cell 0
      clear q0 q1
      go_simp
    try simp only [Act.put, List.setIfInBounds_toArray, List.set_cons_zero, List.set_cons_succ]
    refine wpAnyN_take (i := 6) (oi := { dst := some 122, op := Go.Op.move (Go.Operand.tmp 2), type := 25, pos := "law.go:106", after := #[{ on := 4, ground := Go.Ground.guard }], guard := some (4, true) }) (v := .slice ay ny cy) rfl (by decide) (by kernel_rfl) (by kernel_rfl) (by kernel_rfl) (fun _ _ _ h => h) (Or.inl ⟨by rfl, ?_⟩) hS2 ?_
    · intro W9 hS9
      obtain ⟨q0, q1⟩ := hS9
      have s0 : W9.cell? ⟨u2.heap.size, 0, none⟩ = some (.slice a7 n7 c7) := q0.cell 0
      have s1 : W9.cell? ⟨w.heap.size, 0, none⟩ = some (.slice a n c) := q1.cell 0
      clear q0 q1
      go_simp
    try simp only [Act.put, List.setIfInBounds_toArray, List.set_cons_zero, List.set_cons_succ]
    refine wpAnyN_take (i := 7) (oi := { dst := some 123, op := Go.Op.move (Go.Operand.tmp 8), type := 25, pos := "law.go:106", after := #[{ on := 4, ground := Go.Ground.guard }], guard := some (4, true) }) (v := .slice b8 m c8) rfl (by decide) (by kernel_rfl) (by kernel_rfl) (by kernel_rfl) (fun _ _ _ h => h) (Or.inl ⟨by rfl, ?_⟩) hS2 ?_
    · intro W9 hS9
      obtain ⟨q0, q1⟩ := hS9
      have s0 : W9.cell? ⟨u2.heap.size, 0, none⟩ = some (.slice a7 n7 c7) := q0.cell 0
      have s1 : W9.cell? ⟨w.heap.size, 0, none⟩ = some (.slice a n c) := q1.cell 0
      clear q0 q1
      go_simp
    try simp only [Act.put, List.setIfInBounds_toArray, List.set_cons_zero, List.set_cons_succ]
    refine wpAnyN_take (i := 8) (oi := { dst := some 124, op := Go.Op.call { callee := Go.Callee.builtin Go.Builtin.len, args := #[Go.Operand.tmp 123], argTypes := #[25] }, type := 3, pos := "law.go:106", after := #[{ on := 7, ground := Go.Ground.data }, { on := 4, ground := Go.Ground.guard }], guard := some (4, true) }) (v := .int .i64 (m : Nat)) rfl (by decide) (by kernel_rfl) (by kernel_rfl) (by kernel_rfl) (fun _ _ _ h => h) (Or.inl ⟨by rfl, ?_⟩) hS2 ?_
    · intro W9 hS9
      obtain ⟨q0, q1⟩ := hS9
      have s0 : W9.cell? ⟨u2.heap.size, 0, none⟩ = some (.slice a7 n7 c7) := q0.cell 0
      have s1 : W9.cell? ⟨w.heap.size, 0, none⟩ = some (.slice a n c) := q1.cell 0
      clear q0 q1
      go_simp
    try simp only [Act.put, List.setIfInBounds_toArray, List.set_cons_zero, List.set_cons_succ]
    refine wpAnyN_take (i := 9) (oi := { dst := some 125, op := Go.Op.slice 25 (Go.Operand.tmp 122) none (some (Go.Operand.tmp 124)) none, type := 25, pos := "law.go:106", after := #[{ on := 6, ground := Go.Ground.data }, { on := 8, ground := Go.Ground.data }, { on := 4, ground := Go.Ground.guard }], guard := some (4, true) }) (v := .slice ay m cy) rfl (by decide) (by kernel_rfl) (by kernel_rfl) (by kernel_rfl) (fun _ _ _ h => h) (Or.inl ⟨by rfl, ?_⟩) hS2 ?_
    · intro W9 hS9
      obtain ⟨q0, q1⟩ := hS9
      have s0 : W9.cell? ⟨u2.heap.size, 0, none⟩ = some (.slice a7 n7 c7) := q0.cell 0
      have s1 : W9.cell? ⟨w.heap.size, 0, none⟩ = some (.slice a n c) := q1.cell 0
      clear q0 q1
      go_simp
    try simp only [Act.put, List.setIfInBounds_toArray, List.set_cons_zero, List.set_cons_succ]
    refine wpAnyX_one (i := 10) (o := { dst := some 126, op := Go.Op.call { callee := Go.Callee.value (Go.Operand.func 14), args := #[Go.Operand.tmp 121, Go.Operand.tmp 125], argTypes := #[25, 25] }, type := 4, pos := "law.go:106", after := #[{ on := 5, ground := Go.Ground.data }, { on := 9, ground := Go.Ground.data }, { on := 4, ground := Go.Ground.chain }, { on := 4, ground := Go.Ground.guard }], guard := some (4, true) }) (by kernel_rfl) rfl (fun K hK => ?_)
    have heq := Try.equalEntry_any _ _ _ _ _ _ es es W2 OE2.out.at (PAt.below HYM.out B2.out) (by omega) (by omega)
    rw [decide_eq_true (rfl : es = es)] at heq
    refine step_call_g (by rfl) 14 _ _ rfl (fun _ _ => by kernel_rfl) #[.slice b8 m c8, .slice ay m cy] (by simp [go_sem]) _ heq ?_
    rintro e W3 ⟨rfl, hB⟩
    refine ⟨_, rfl, ?_⟩
    have hS3 : (fun W' => Rows8 W' (u2.heap.size) 24 #[.slice a7 n7 c7] ∧ Rows8 W' w.heap.size 24 #[.slice a n c]) W3 := ⟨hS2.1.below hB hS2.1.lt, hS2.2.below hB hS2.2.lt⟩
    have B3 := Lib.hid (B2.out.trans (hB.mono B2.out.size))
    clear hB heq
    refine hK.out _ _ (fun _ => hS3) ?_
    clear hK K
    try simp only [Act.put, List.setIfInBounds_toArray, List.set_cons_zero, List.set_cons_succ]
    refine wpAnyN_take (i := 11) (oi := { dst := some 127, op := Go.Op.pick (Go.Operand.tmp 120) (Go.Operand.tmp 126) (Go.Operand.const (Go.Value.bool false)), type := 4, pos := "law.go:106", after := #[{ on := 4, ground := Go.Ground.data }, { on := 10, ground := Go.Ground.data }], guard := none }) (v := .bool true) rfl (by decide) (by kernel_rfl) (by kernel_rfl) (by kernel_rfl) (fun _ _ _ h => h) (Or.inl ⟨by rfl, ?_⟩) hS3 ?_
    · intro W9 hS9
      obtain ⟨q0, q1⟩ := hS9
      have s0 : W9.cell? ⟨u2.heap.size, 0, none⟩ = some (.slice a7 n7 c7) := q0.cell 0
      have s1 : W9.cell? ⟨w.heap.size, 0, none⟩ = some (.slice a n c) := q1.cell 0
      clear q0 q1
      go_simp
    try simp only [Act.put, List.setIfInBounds_toArray, List.set_cons_zero, List.set_cons_succ]
    refine wpAnyN_take (i := 12) (oi := { dst := some 6, op := Go.Op.assign (Go.Operand.tmp 127), type := 4, pos := "law.go:106", after := #[{ on := 11, ground := Go.Ground.data }, { on := 10, ground := Go.Ground.chain }, { on := 0, ground := Go.Ground.phase }, { on := 1, ground := Go.Ground.phase }, { on := 2, ground := Go.Ground.phase }, { on := 3, ground := Go.Ground.phase }, { on := 4, ground := Go.Ground.phase }, { on := 5, ground := Go.Ground.phase }, { on := 6, ground := Go.Ground.phase }, { on := 7, ground := Go.Ground.phase }, { on := 8, ground := Go.Ground.phase }, { on := 9, ground := Go.Ground.phase }, { on := 10, ground := Go.Ground.phase }, { on := 11, ground := Go.Ground.phase }], guard := none }) (v := .bool true) rfl (by decide) (by kernel_rfl) (by kernel_rfl) (by kernel_rfl) (fun _ _ _ h => h) (Or.inl ⟨by rfl, ?_⟩) hS3 ?_
    · intro W9 hS9
      obtain ⟨q0, q1⟩ := hS9
      have s0 : W9.cell? ⟨u2.heap.size, 0, none⟩ = some (.slice a7 n7 c7) := q0.cell 0
      have s1 : W9.cell? ⟨w.heap.size, 0, none⟩ = some (.slice a n c) := q1.cell 0
      clear q0 q1
      go_simp
    try simp only [Act.put, List.setIfInBounds_toArray, List.set_cons_zero, List.set_cons_succ]
    refine wpAnyX_end (by kernel_rfl) ?_
    clear hS0 hS1 hS2 hS3
    go_wp2_with fail
    go_ret
    exact ⟨rfl, B3.out⟩
end Go.Proofs
namespace Go.Proofs.Yteldjolofglnpaa.arenaTurns
open Go.ChangeShapes Go.WideShapes Go.ChangeAt Go.RowKit Go.Shelf

theorem own : ownKnob Try.prog.godebug = none := by kernel_rfl
theorem walk (g : Arv) (many : Int) (a2 : Option Addr) (len2 cap2 : Nat) (z2 : List Pr) (w : World) (hg : PAt w (.slice g.a g.n g.c) g.l) (_ : (Lit.int .i64 many).wf = true) (_ : len2 = z2.length) (w2 : PAt w (.slice a2 len2 cap2) z2) :
    Calls Try.prog 4 #[.agg #[.slice g.a g.n g.c], .int .i64 many, .slice a2 len2 cap2] w fun e w' => e = .returned (.bool true) ∧ Below w.heap.size w w' := Try.turns_any g.a g.n g.c g.l many a2 len2 cap2 z2 w hg w2
theorem laidOut : laidOutB Try.prog = true := by kernel_rfl
set_option maxRecDepth 100000 in
theorem lifted (os : Os) (started : os.Started) (H : Type) (enc : TypeId × Value → H) :
    ReturnsInHanded {} Try.checked os 4 .any (Rows.arenaTurnsSpec.pre6 enc Try.prog Try.f4 Rows.arenaTurnsRow.domain false) (Rows.arenaTurnsSpec.post enc Try.prog Try.f4 false true false false) := by
  refine returnsInHanded_of_change (C := Try.checked) own started (by kernel_rfl) Try.func4
    (ChangeSpec.witness6 (enc := enc) (C := Try.checked) false ⟨#[], #[.agg #[.slice none 0 0], .int .i64 0, .slice none 0 0], []⟩ 8 (by kernel_rfl) (by kernel_rfl) (by kernel_rfl) (by kernel_rfl)) ?_
  intro W base args ds gs before hval0 hW hcnd _
  have hval : ∀ (j : Nat) t v, Try.f4.params[j]? = some t → args[j]? = some v → Value.okWide Try.prog W .any base t v := hval0
  have hW' := hW
  obtain ⟨p, q, hA0, hV, rfl, hfz, hnd⟩ := hW
  have hA : DataW.TrodAll enc Try.prog W 0 (fun _ => true) true Try.f4.params.toList args.toList ds p := hA0
  rw [Try.params4] at hA hval
  obtain ⟨v0, vs0, d0, ds0, p0, q0, hargs, rfl, rfl, h0, r0⟩ := trodAll_cons hA
  obtain ⟨v1, vs1, d1, ds1, p1, q1, rfl, rfl, rfl, h1, r1⟩ := trodAll_cons r0
  obtain ⟨v2, vs2, d2, ds2, p2, q2, rfl, rfl, rfl, h2, r2⟩ := trodAll_cons r1
  obtain ⟨rfl, rfl, rfl⟩ := trodAll_nil r2
  obtain rfl : args = #[v0, v1, v2] := by cases args; simp_all
  obtain ⟨rfl, rfl⟩ := trodVars_none hV
  have k0 := h0
  have lt0 : ∀ x ∈ p0, x.block < W.heap.size := by obtain ⟨m, hm⟩ := k0; exact DataW.trod_lt m _ _ _ hm
  obtain ⟨g0, rfl, w0⟩ := open_arena (hval 0 24 v0 rfl rfl) h0
  obtain ⟨a1, rfl, rfl, rfl, w1⟩ := open_int Try.underlying3 (hval 1 3 v1 rfl rfl) h1
  obtain ⟨a2, len2, cap2, rfl⟩ := okWide_slice Try.underlying25 (hval 2 25 v2 rfl rfl)
  have k2 := h2
  have lt2 : ∀ x ∈ p2, x.block < W.heap.size := by obtain ⟨m, hm⟩ := k2; exact DataW.trod_lt m _ _ _ hm
  obtain ⟨z2, n2, w2⟩ : ∃ zs, len2 = zs.length ∧ PAt W (.slice a2 len2 cap2) zs := by
    obtain ⟨fuel, hf⟩ := h2
    exact open_ents hf
  clear hA0 hval0
  refine (walk g0 a1 a2 len2 cap2 z2 W w0 w1 n2 w2).mono fun e W' ⟨he, bel⟩ => ?_
  subst he
  exact ⟨_, rfl, _, _, _, [], _, [], hW', trodAll_mk1 (shut_bool Try.underlying4 _), (trodAll_cons_mk (Below.trod laidOut (by kernel_rfl) (of_decide_eq_true (by kernel_rfl)) k0 bel lt0) (trodAll_cons_mk (shut_int Try.underlying3 w1) (trodAll_cons_mk (Below.trod laidOut (by kernel_rfl) (of_decide_eq_true (by kernel_rfl)) k2 bel lt2) trodAll_mk0))), rfl, bel.frame _, fun h => by cases h⟩

theorem over : Rows.arenaTurnsRow.holds Try.pinned (OpenSpec.ofChange Rows.arenaTurnsSpec) :=
  OpenClaim.holds_of_wide 4 Try.f4 rfl rfl rfl rfl rfl rfl rfl ⟨rfl, rfl, rfl, rfl, rfl⟩ rfl rfl rfl rfl rfl (by kernel_rfl) Try.func4 (by kernel_rfl)
    (of_decide_eq_true (by kernel_rfl)) (by unfold Func.isWrapper; first | (rw [if_pos (by decide +kernel)]; kernel_rfl) | (rw [if_neg (by decide +kernel)]; exact ⟨rfl, rfl⟩))
    (fun os started H enc _ => lifted os started H enc)

theorem proved : Rows.ArenaTurnsSaid := over
end Go.Proofs.Yteldjolofglnpaa.arenaTurns
