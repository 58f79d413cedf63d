/- The document's Run. -/
import Derived.Test.YtafccppobhhelaaDd
namespace Go.Proofs
open Go.RowKit Go.Shelf
attribute [local go_sem] Oper.semAt_some

def RefRunQ (n₀ : Nat) (ws : List Int) (l : List Acc) (w : World) (e : Ending) (w' : World) : Prop :=
  (errOf ws.length l ≠ 0 ∧ e = .returned (.tuple #[.slice none 0 0, .slice none 0 0, .slice none 0 0, .int .i64 (errOf ws.length l)]) ∧ Below w.heap.size w w') ∨
  (errOf ws.length l = 0 ∧ ∃ v1 v2 v3, e = .returned (.tuple #[v1, v2, v3, .int .i64 0]) ∧ OwnsWords n₀ (runTo ws l l.length).ws v1 w' ∧ OwnsSeens w.heap.size (runTo ws l l.length).seens v2 w' ∧ OwnsMarks w.heap.size (runTo ws l l.length).marks v3 w' ∧ Below w.heap.size w w')

set_option maxRecDepth 100000 in
set_option maxHeartbeats 8000000 in
theorem Try.refRun2_any (n₀ : Nat) (ws : List Int) (l : List Acc) (hl : l.length ≤ 100) (v : Value) (x : Option Addr) (nL capL : Nat) (hnL : nL = l.length) (w : World) (hn₀ : n₀ ≤ w.heap.size) (hI : OwnsWords n₀ ws v w) (hL : AccsAt w (.slice x nL capL) l) :
    Calls Try.prog 25 #[v, .slice x nL capL] w (RefRunQ n₀ ws l w) := by
  obtain ⟨iS, hiS, hS0, hS1, hS2⟩ := info_parts Try.infoSeen
  obtain ⟨iM, hiM, hM0, hM1, hM2⟩ := info_parts Try.infoMark
  obtain ⟨_, a, cap, rfl, _⟩ := rowAt_own hI
  have hr := Try.refRight2_any a ws.length cap w
  have HI := Lib.hid hI
  have HL := Lib.hid hL
  have HNL := Lib.hid hnL
  clear hI hL
  by_cases hn : ws.length < 1 ∨ 8192 < ws.length
  · have he : errOf ws.length l = 120 := if_pos hn
    have HE := Lib.hid he
    rw [decide_eq_false (by omega)] at hr
    have HR := Lib.hid hr
    clear hr he hn hnL
    go_enter Try.func25, Try.ntmps25
    go_wp2_with fail
    refine HR.out.mono ?_
    rintro e w' ⟨rfl, rfl⟩
    go_wp2_with fail
    refine bodyPost_ret (results_tmp4 rfl _ _ _) rfl ?_
    unfold RefRunQ
    rw [HE.out]
    exact .inl ⟨by decide, rfl, Below.refl _ _⟩
  · have he : errOf ws.length l = errRow ws.length l := if_neg hn
    have HE := Lib.hid he
    rw [decide_eq_true (by omega)] at hr
    have HR := Lib.hid hr
    have hl1 : 0 < ws.length ∧ ws.length ≤ 8192 := by omega
    clear hr he hn
    go_enter Try.func25, Try.ntmps25
    go_wp2_with fail
    refine HR.out.mono ?_
    rintro e w' ⟨rfl, rfl⟩
    go_wp2_with fail
    go_loopw [0, 8, 9, 10, 11, 12, 13, 14, 20] (fun s0 va vm _ _ _ _ _ j wr => ∃ (k : Nat) (a0 : Option Addr) (c0 : Nat), k ≤ l.length ∧ j = .int .i64 k ∧ s0 = .slice a0 ws.length c0 ∧ errRow ws.length (l.take k) = 0 ∧ OwnsWords n₀ (runTo ws l k).ws (.slice a0 ws.length c0) wr ∧ OwnsSeens w.heap.size (runTo ws l k).seens va wr ∧ OwnsMarks w.heap.size (runTo ws l k).marks vm wr ∧ Below w.heap.size w wr) (fun _ _ _ _ _ _ _ _ j _ => l.length - (intOf j).toNat)
    case atStart => exact ⟨0, a, cap, Nat.zero_le _, rfl, rfl, rfl, HI.out, World.ownsRow_nil _ _ _ _, World.ownsRow_nil _ _ _ _, Below.refl _ _⟩
    case round =>
      obtain ⟨k, a0, c0, hk, rfl, rfl, herr, hOW, hOS, hOM, hB⟩ := hrel
      by_cases hlt : k < l.length
      · obtain ⟨b, off, rfl, hb, q0, q1, q2, q3, q4⟩ := accsAt_get (RowAt.below HL.out hB) k hlt
        have hki : (k : Int) < (nL : Int) := by omega
        obtain ⟨he1, he2⟩ := errRow_at ws.length l k hlt herr
        have hst := runTo_succ ws l k hlt
        obtain ⟨hn1, hn2, hn3⟩ := runTo_lens ws l k hk
        generalize l[k] = ac at *
        obtain ⟨who, kind, pl, old, new⟩ := ac
        dsimp only at q0 q1 q2 q3 q4
        unfold whyOf at he1 he2
        dsimp only at he1 he2
        have HST := Lib.hid hst
        have HE1 := Lib.hid he1
        have HE2 := Lib.hid he2
        have HHN1 := Lib.hid hn1
        have HHN2 := Lib.hid hn2
        have HHNL := Lib.hid hnL
        clear hst he1 he2
        generalize runTo ws l k = s at *
        go_wp2_with fail
        have r11 := Rows8.new wr 32 #[.int .i64 who, .int .i64 kind, .int .i64 pl, .int .u64 old, .int .u64 new]
        have hBr2 : Below wr.heap.size wr (wr.alloc (.cells #[.int .i64 who, .int .i64 kind, .int .i64 pl, .int .u64 old, .int .u64 new] 32)) := (Below.refl _ _).alloc (Nat.le_refl _) _
        have hbs : w.heap.size ≤ wr.heap.size := hB.size
        generalize (wr.alloc (.cells #[.int .i64 who, .int .i64 kind, .int .i64 pl, .int .u64 old, .int .u64 new] 32)) = W2 at *
        clear q0 q1 q2 q3 q4
        refine (Try.refWhy2_any a0 ws.length c0 who kind pl old new W2).mono ?_
        rintro e W3 ⟨rfl, hB3⟩
        have x11 := r11.below hB3 r11.lt
        have hB23 := hBr2.trans (hB3.mono hBr2.size)
        have hB4 := hB.trans (hB23.mono hB.size)
        have HOW3 := Lib.hid (owns_keep hOW hB23 (Nat.le_refl _))
        have HOS3 := Lib.hid (owns_keep hOS hB23 (Nat.le_refl _))
        have HOM3 := Lib.hid (owns_keep hOM hB23 (Nat.le_refl _))
        have HB4 := Lib.hid hB4
        have hz3 := x11.lt
        have hz4 := hB4.size
        obtain ⟨l0, l1, l2, l3, l4⟩ := five x11
        have X11 := Lib.hid x11
        clear hOW hOS hOM hB23 hB hB3 hBr2 r11 hB4 x11
        by_cases hz : why ws.length who kind pl = 0
        · rw [hz]
          have hd : ((0 : Int) != 0) = false := rfl
          obtain ⟨k1, k2, k3, k4, k5, k6⟩ := why_ok hz
          have hdo := Try.refDoOwn_any n₀ (.slice a0 ws.length c0) s.ws (by rw [hn1]; omega) who kind pl old new ⟨k3, k4⟩ k5 (by rw [hn1]; exact k6) W3 (by omega) HOW3.out
          rw [hn1] at hdo
          have hstep : s.step ⟨who, kind, pl, old, new⟩ = St.mk (wordsOf s.ws kind pl old new) (s.seens ++ [(s.ws[pl.toNat]?.getD 0, doneOf kind old (s.ws[pl.toNat]?.getD 0))]) (if (doneOf kind old (s.ws[pl.toNat]?.getD 0) && kind != 1) = true then s.marks ++ [⟨s.seens.length, pl, s.ws[pl.toNat]?.getD 0, (wordsOf s.ws kind pl old new)[pl.toNat]?.getD 0⟩] else s.marks) := rfl
          have hlw := wordsOf_length s.ws kind pl old new
          rw [hn1] at hlw
          rw [hn2] at hstep
          have HDO := Lib.hid hdo
          have HSTEP := Lib.hid hstep
          have HLW := Lib.hid hlw
          have hpl : pl.toNat < ws.length := by omega
          clear hdo hstep HE2 hn1 hn2 hlw
          generalize wordsOf s.ws kind pl old new = ws' at *
          generalize s.ws[pl.toNat]?.getD 0 = h at *
          generalize doneOf kind old h = dn at *
          go_wp2_with fail
          refine HDO.out.mono ?_
          rintro e W4 ⟨a1, c1, rfl, o4, hB5⟩
          have y11 := X11.out.below hB5 X11.out.lt
          have hz5 := hB5.size
          have hOS4 := owns_keep HOS3.out hB5 (Nat.le_refl _)
          have hOM4 := owns_keep HOM3.out hB5 (Nat.le_refl _)
          have hB6 := HB4.out.trans (hB5.mono hz4)
          obtain ⟨g, cg, e, hg1, hg2⟩ := World.ownsRow.form o4 (by rw [HLW.out]; exact hl1.1)
          injection e with e1 e2 e3
          subst e1 e3
          clear e2
          obtain ⟨n0, n1, n2, n3, n4⟩ := five y11
          have HOW5 := Lib.hid (World.ownsRow.alloc o4 (.cells #[.int .u64 h, .bool dn] 27))
          have HOS5 := Lib.hid (World.ownsRow.alloc hOS4 (.cells #[.int .u64 h, .bool dn] 27))
          have HOM5 := Lib.hid (World.ownsRow.alloc hOM4 (.cells #[.int .u64 h, .bool dn] 27))
          have HB5 := Lib.hid (hB6.alloc hB6.size (.cells #[.int .u64 h, .bool dn] 27))
          have R11 := Lib.hid (y11.alloc (.cells #[.int .u64 h, .bool dn] 27))
          have R14 := Lib.hid (Rows8.new W4 27 #[.int .u64 h, .bool dn])
          have hz6 : W4.heap.size < (W4.alloc (.cells #[.int .u64 h, .bool dn] 27)).heap.size := by simp
          have hz7 : wr.heap.size < W4.heap.size := y11.lt
          have hz8 : w.heap.size ≤ W4.heap.size := hB6.size
          clear hB5 hB6 o4 y11 hOS4 hOM4 HOW3 HOS3 HOM3 HB4 X11 l0 l1 l2 l3 l4 HDO
          obtain ⟨ws9, hws9⟩ : ∃ z, z = ws'[pl.toNat]?.getD 0 := ⟨_, rfl⟩
          have hcw : ∀ {W : World}, OwnsWords n₀ ws' (.slice (some ⟨g, 0, none⟩) ws.length c1) W → W.cell? ⟨g, pl.toNat, none⟩ = some (.int .u64 ws9) := fun {W} h9 => by
            rw [← HLW.out] at h9
            rw [hws9]
            exact words_cell h9 pl.toNat (by rw [HLW.out]; exact hpl)
          rw [← hws9] at HSTEP
          have HCW := Lib.hid (fun (W : World) h => @hcw W h)
          clear hcw hws9
          have hk11 : ((1 : Int) != 1) = false := rfl
          cases dn with
          | false =>
            rw [if_neg (by simp)] at HSTEP
            go_wp2_with (at_builtin; refine wpList_append_own _ rfl _ _ 39 rfl w.heap.size 27 iS (.agg #[.int .u64 0, .bool false]) 2 16 Try.underlying39 hiS hS0 hS1 hS2 rfl (by decide) _ _ _ rfl (World.ownsRow.alloc HOS5.out _) ⟨W4.heap.size + 1, 0, none⟩ 1 1 [.int .u64 h, .bool false] rfl rfl (by have h9 := cells_new (W4.alloc (.cells #[.int .u64 h, .bool false] 27)) 27 [.int .u64 h, .bool false]; rw [World.size_alloc] at h9; exact h9) (by simp [Value.oneCell']) (by have := HHN2.out; unfold maxLen; omega) (by have := HHN2.out; omega) (by simp; omega) ?_)
            intro v' w1 hown' hgrow _
            have hSa := World.ownsRow.alloc HOS5.out (.cells #[.int .u64 h, .bool false] 27)
            have hS5 : OwnsSeens w.heap.size (s.seens ++ [(h, false)]) v' w1 := by
              unfold OwnsSeens
              rw [← seenVals_snoc, List.length_append]
              exact hown'
            have HW6 := Lib.hid (grown_ne (World.ownsRow.alloc HOW5.out _) hSa (by decide) hgrow)
            have HM6 := Lib.hid (grown_ne (World.ownsRow.alloc HOM5.out _) hSa (by decide) hgrow)
            have HB6 := Lib.hid ((HB5.out.alloc HB5.out.size _).grown hgrow (by simp; omega) (fun j ej => (World.ownsRow.lt hSa j ej).1))
            have HS6 := Lib.hid hS5
            clear hown' hgrow hSa hS5
            go_wp2_with fail
            exact ⟨⟨k + 1, _, _, by omega, by go_num, rfl, HE1.out.trans hz, by rw [HST.out, HSTEP.out]; have h9 := HW6.out; rw [HLW.out] at h9; unfold OwnsWords; dsimp only; rw [HLW.out]; exact h9, by rw [HST.out, HSTEP.out]; exact HS6.out, by rw [HST.out, HSTEP.out]; exact HM6.out, HB6.out⟩, by simp [intOf]; omega⟩
          | true =>
            by_cases hk1 : kind = 1
            · subst hk1
              rw [if_neg (by simp)] at HSTEP
              go_wp2_with (at_builtin; refine wpList_append_own _ rfl _ _ 39 rfl w.heap.size 27 iS (.agg #[.int .u64 0, .bool false]) 2 16 Try.underlying39 hiS hS0 hS1 hS2 rfl (by decide) _ _ _ rfl (World.ownsRow.alloc HOS5.out _) ⟨W4.heap.size + 1, 0, none⟩ 1 1 [.int .u64 h, .bool true] rfl rfl (by have h9 := cells_new (W4.alloc (.cells #[.int .u64 h, .bool true] 27)) 27 [.int .u64 h, .bool true]; rw [World.size_alloc] at h9; exact h9) (by simp [Value.oneCell']) (by have := HHN2.out; unfold maxLen; omega) (by have := HHN2.out; omega) (by simp; omega) ?_)
              intro v' w1 hown' hgrow _
              have hSa := World.ownsRow.alloc HOS5.out (.cells #[.int .u64 h, .bool true] 27)
              have hS5 : OwnsSeens w.heap.size (s.seens ++ [(h, true)]) v' w1 := by
                unfold OwnsSeens
                rw [← seenVals_snoc, List.length_append]
                exact hown'
              have HW6 := Lib.hid (grown_ne (World.ownsRow.alloc HOW5.out _) hSa (by decide) hgrow)
              have HM6 := Lib.hid (grown_ne (World.ownsRow.alloc HOM5.out _) hSa (by decide) hgrow)
              have HB6 := Lib.hid ((HB5.out.alloc HB5.out.size _).grown hgrow (by simp; omega) (fun j ej => (World.ownsRow.lt hSa j ej).1))
              have HS6 := Lib.hid hS5
              clear hown' hgrow hSa hS5
              go_wp2_with fail
              exact ⟨⟨k + 1, _, _, by omega, by go_num, rfl, HE1.out.trans hz, by rw [HST.out, HSTEP.out]; have h9 := HW6.out; rw [HLW.out] at h9; unfold OwnsWords; dsimp only; rw [HLW.out]; exact h9, by rw [HST.out, HSTEP.out]; exact HS6.out, by rw [HST.out, HSTEP.out]; exact HM6.out, HB6.out⟩, by simp [intOf]; omega⟩
            · have hk2 : (kind != 1) = true := by simp [hk1]
              rw [if_pos (by simp [hk1])] at HSTEP
              go_wp2_with fail
              obtain ⟨W5, hW5⟩ : ∃ W5, W5 = (W4.alloc (.cells #[.int .u64 h, .bool true] 27)) := ⟨_, rfl⟩
              rw [← hW5] at HOW5 HOS5 HOM5 HB5 R11 R14 hz6 ⊢
              clear hW5 n0 n1 n2 n3 n4
              have hpp : 0 ≤ pl ∧ pl < (ws.length : Int) := ⟨k5, k6⟩
              have hpc : W5.cell? ⟨wr.heap.size, 2, none⟩ = some (.int .i64 pl) ∧ W5.cell? ⟨W4.heap.size, 0, none⟩ = some (.int .u64 h) ∧ W5.cell? ⟨g, pl.toNat, none⟩ = some (.int .u64 ws9) := ⟨R11.out.cell 2, R14.out.cell 0, HCW.out W5 HOW5.out⟩
              have hpe : ∀ o, (W5.alloc o).cell? ⟨wr.heap.size, 2, none⟩ = some (.int .i64 pl) ∧ (W5.alloc o).cell? ⟨W4.heap.size, 0, none⟩ = some (.int .u64 h) ∧ (W5.alloc o).cell? ⟨g, pl.toNat, none⟩ = some (.int .u64 ws9) := fun o => ⟨(R11.out.alloc o).cell 2, (R14.out.alloc o).cell 0, HCW.out _ (World.ownsRow.alloc HOW5.out o)⟩
              have hwy := HB5.out.size
              go_region_held3 (fun W' => W'.cell? ⟨wr.heap.size, 2, none⟩ = some (.int .i64 pl) ∧ W'.cell? ⟨W4.heap.size, 0, none⟩ = some (.int .u64 h) ∧ W'.cell? ⟨g, pl.toNat, none⟩ = some (.int .u64 ws9)) (first | exact hpc | exact hpd | exact hpe _ | (simp [*]; done)) (first | (refine step_append_lies _ rfl _ _ 40 rfl w.heap.size 47 iM (.agg #[.int .i64 0, .int .i64 0, .int .u64 0, .int .u64 0]) 4 32 Try.underlying40 hiM hM0 hM1 hM2 rfl (by decide) _ _ _ rfl (drew_own (World.ownsRow.alloc HOM5.out _)) ⟨W5.heap.size, 0, none⟩ 1 1 [.int .i64 k, .int .i64 pl, .int .u64 h, .int .u64 ws9] rfl rfl (drew_new W5 _ [.int .i64 k, .int .i64 pl, .int .u64 h, .int .u64 ws9]) (by simp [Value.oneCell']) (by decide) (by unfold maxLen; omega) (by omega) (by simp; omega) _ rfl ?_; intro g5 cap5 w3 hown' hgrow hat hlt5; have hMa := drew_own (World.ownsRow.alloc HOM5.out (.cells #[.int .i64 k, .int .i64 pl, .int .u64 h, .int .u64 ws9] 47)); have hA6 := grown_rows (R11.out.alloc _).drew hMa (by decide) hgrow; have hB6 := grown_rows (R14.out.alloc _).drew hMa (by decide) hgrow; have hW6 := grown_ne (drew_own (World.ownsRow.alloc HOW5.out _)) hMa (by decide) hgrow; have hpd : w3.cell? ⟨wr.heap.size, 2, none⟩ = some (.int .i64 pl) ∧ w3.cell? ⟨W4.heap.size, 0, none⟩ = some (.int .u64 h) ∧ w3.cell? ⟨g, pl.toNat, none⟩ = some (.int .u64 ws9) := ⟨hA6.cell 2, hB6.cell 0, HCW.out w3 hW6⟩; have hS6 := grown_ne (drew_own (World.ownsRow.alloc HOS5.out _)) hMa (by decide) hgrow; have hBe6 := ((HB5.out.alloc hwy _).drew).grown hgrow (by simp; omega) (fun j ej => (World.ownsRow.lt hMa j ej).1); have hM6 := markOwn hown'))
              have t0 := hB6.cell 0
              have t1 := hB6.cell 1
              simp at t0 t1
              have HW6 := Lib.hid hW6
              have HS6 := Lib.hid hS6
              have HM6 := Lib.hid hM6
              have HB6 := Lib.hid hBe6
              have hz9 := hB6.lt
              clear hW6 hS6 hM6 hBe6 hB6 hA6 hMa hown' hgrow hat hpc hpe hpd HOW5 HOS5 HOM5 HB5 R11 R14
              go_wp2_with (at_builtin; refine wpList_append_own _ rfl _ _ 39 rfl w.heap.size 27 iS (.agg #[.int .u64 0, .bool false]) 2 16 Try.underlying39 hiS hS0 hS1 hS2 rfl (by decide) _ _ _ rfl (World.ownsRow.alloc HS6.out _) ⟨w3.heap.size, 0, none⟩ 1 1 [.int .u64 h, .bool true] rfl rfl (cells_new w3 _ [.int .u64 h, .bool true]) (by simp [Value.oneCell']) (by have := HHN2.out; unfold maxLen; omega) (by have := HHN2.out; omega) (by have := HB6.out.size; simp; omega) ?_)
              intro v' w4 hown' hgrow _
              have hSa := World.ownsRow.alloc HS6.out (.cells #[.int .u64 h, .bool true] 27)
              have hS5 : OwnsSeens w.heap.size (s.seens ++ [(h, true)]) v' w4 := by
                unfold OwnsSeens
                rw [← seenVals_snoc, List.length_append]
                exact hown'
              have HW7 := Lib.hid (grown_ne (World.ownsRow.alloc HW6.out _) hSa (by decide) hgrow)
              have HM7 := Lib.hid (grown_ne (World.ownsRow.alloc HM6.out _) hSa (by decide) hgrow)
              have HB7 := Lib.hid ((HB6.out.alloc HB6.out.size _).grown hgrow (by have := HB6.out.size; simp; omega) (fun j ej => (World.ownsRow.lt hSa j ej).1))
              have HS7 := Lib.hid hS5
              clear hown' hgrow hSa hS5
              go_wp2_with fail
              exact ⟨⟨k + 1, _, _, by omega, by go_num, rfl, HE1.out.trans hz, by rw [HST.out, HSTEP.out]; have h9 := HW7.out; rw [HLW.out] at h9; unfold OwnsWords; dsimp only; rw [HLW.out]; exact h9, by rw [HST.out, HSTEP.out]; exact HS7.out, by rw [HST.out, HSTEP.out]; exact HM7.out, HB7.out⟩, by simp [intOf]; omega⟩
        · have hd : (why ws.length who kind pl != 0) = true := by simp [hz]
          have he := HE2.out hz
          have HEE := Lib.hid (HE.out.trans he)
          clear he HOW3 HOS3 HOM3 HE HE1 HE2
          generalize why ws.length who kind pl = q at *
          go_wp2_with fail
          refine bodyPost_ret (results_tmp4 rfl _ _ _) rfl ?_
          unfold RefRunQ
          rw [HEE.out]
          exact .inl ⟨hz, rfl, HB4.out⟩
      · obtain rfl : k = l.length := by omega
        rw [List.take_length] at herr
        have HER := Lib.hid (HE.out.trans herr)
        have HOW := Lib.hid hOW
        have HOS := Lib.hid hOS
        have HOM := Lib.hid hOM
        clear hOW hOS hOM herr HE
        have hki : ¬ ((l.length : Int) < (nL : Int)) := by omega
        go_wp2_with fail
        refine bodyPost_ret (results_tmp4 rfl _ _ _) rfl ?_
        unfold RefRunQ
        exact .inr ⟨HER.out, _, _, _, rfl, HOW.out, HOS.out, HOM.out, hB⟩
end Go.Proofs
