/- Proved: for every words, number and row of numbers, honeycomblaw02.CellsAdds returns true, and its arguments read as they did; no condition. -/
import Derived.Test.YtafccppobhhelaaDj
import Derived.Test.YtafccppobhhelaaDi
import Derived.Test.YtafccppobhhelaaDf
import Derived.BigQuiet
import Derived.ChangeAt
import Derived.JoinedAt
import Derived.ProofKit
import Derived.OpenShut
import Derived.Test.YtafccppobhhelaaRows
namespace Go.Proofs.Ytafccppobhhelaa.cellsAdds
open Go.ChangeShapes Go.WideShapes Go.ChangeAt Go.RowKit Go.Shelf
attribute [local go_sem] Oper.semAt_some

theorem own : ownKnob Try.prog.godebug = none := by kernel_rfl
set_option maxRecDepth 100000 in
set_option maxHeartbeats 16000000 in
theorem walk (a : Option Addr) (n cap : Nat) (xs : List Int) (at_ : Int) (an : Option Addr) (nn cn : Nat) (zs : List Int) (w : World) (hn : n = xs.length) (hI : WordsAt w (.slice a n cap) xs) (hnn : nn = zs.length) (hZ : WordsAt w (.slice an nn cn) zs) :
    Calls Try.prog 7 #[.slice a n cap, .int .i64 at_, .slice an nn cn] w fun e w' => e = .returned (.bool true) ∧ Below w.heap.size w w' := by
  obtain ⟨iA, hiA, hA0, hA1, hA2⟩ := info_parts Try.infoAccess
  have HI := Lib.hid hI
  have HZ := Lib.hid hZ
  have HN := Lib.hid hn
  have HNN := Lib.hid hnn
  have hlw : (xs.take 40).length ≤ 40 := by rw [List.length_take]; omega
  clear hI hZ hn hnn
  have FEW := Lib.hid fun W (hB : Below w.heap.size w W) => Try.few_any a n cap xs HN.out W (RowAt.below HI.out hB)
  generalize xs.take 40 = ws at *
  by_cases h0 : ws.length = 0
  · have h00 : ((ws.length : Int) == 0) = true := by simp [h0]
    have H0 := Lib.hid h0
    clear h0
    go_enter Try.func7, Try.ntmps7
    go_wp2_with fail
    refine (Try.wakes_any _).mono ?_
    rintro e w1 ⟨rfl, B1⟩
    go_wp2_with fail
    refine (FEW.out w1 B1).mono ?_
    rintro e w2 ⟨v, rfl, hO, B2⟩
    obtain ⟨_, a2, c2, rfl, _⟩ := rowAt_own hO
    have HB := Lib.hid (B1.trans (B2.mono B1.size))
    clear hO B2
    go_wp2_with fail
    go_ret
    exact ⟨rfl, HB.out⟩
  · have h00 : ((ws.length : Int) == 0) = false := by simp; intro h; exact h0 (by simp [h])
    have hpos : 0 < ws.length := by omega
    clear h0
    obtain ⟨p, hp, hpl⟩ : ∃ p : Nat, wrap64 ((IntKind.u64.wrap at_).tmod (ws.length : Int)) = (p : Int) ∧ p < ws.length := by
      have h1 : 0 ≤ IntKind.u64.wrap at_ := by rw [IntKind.wrap_u64]; omega
      have h2 : (IntKind.u64.wrap at_).tmod (ws.length : Int) = IntKind.u64.wrap at_ % (ws.length : Int) := Int.tmod_eq_emod_of_nonneg h1
      have h3 : 0 ≤ IntKind.u64.wrap at_ % (ws.length : Int) := Int.emod_nonneg _ (by omega)
      have h4 : IntKind.u64.wrap at_ % (ws.length : Int) < ws.length := Int.emod_lt_of_pos _ (by omega)
      refine ⟨(IntKind.u64.wrap at_ % (ws.length : Int)).toNat, ?_, by omega⟩
      rw [h2]
      generalize IntKind.u64.wrap at_ % (ws.length : Int) = q at *
      have : wrap64 q = q := IntWalk.wrap64_in _ ⟨by omega, by omega⟩
      omega
    go_enter Try.func7, Try.ntmps7
    go_wp2_with fail
    refine (Try.wakes_any _).mono ?_
    rintro e w1 ⟨rfl, B1⟩
    go_wp2_with fail
    refine (FEW.out w1 B1).mono ?_
    rintro e w2 ⟨v, rfl, hO, B2⟩
    obtain ⟨_, a2, c2, rfl, _⟩ := rowAt_own hO
    have hcp := fun W h => wordsAt_get (W := W) (x := a2) (n := ws.length) (cap := c2) (l := ws) h p hpl
    obtain ⟨b2, off2, rfl, hb2, x2⟩ := hcp w2 (rowAt_own hO)
    clear hcp
    have hpi : (p : Int) < (ws.length : Int) := by omega
    have B02 := B1.trans (B2.mono B1.size)
    have HO := Lib.hid hO
    clear hO
    have ht0 : ∃ t0, t0 = ws[p]?.getD 0 := ⟨_, rfl⟩
    obtain ⟨t0, ht0⟩ := ht0
    rw [← ht0] at x2
    have HT0 := Lib.hid ht0
    clear ht0
    go_wp2_with fail
    simp only [hp]
    clear hp x2
    go_loopw [8, 9, 10, 11, 12, 13, 49] (fun s8 s9 s10 _ _ _ j wr => ∃ k : Nat, k ≤ 12 ∧ k ≤ nn ∧ j = .int .i64 k ∧ OwnsAccs w2.heap.size (addsTo p zs k) s8 wr ∧ OwnsAccs w2.heap.size (addsTo p zs k).reverse s9 wr ∧ s10 = .int .u64 (tot t0 (zs.take k)) ∧ (s8.ownBlock = none ∨ s8.ownBlock ≠ s9.ownBlock) ∧ Below w2.heap.size w2 wr) (fun _ _ _ _ _ _ j _ => nn - (intOf j).toNat)
    case atStart => exact ⟨0, Nat.zero_le _, Nat.zero_le _, rfl, World.ownsRow_nil _ _ _ _, World.ownsRow_nil _ _ _ _, rfl, .inl rfl, Below.refl _ _⟩
    case round =>
      obtain ⟨k, hk12, hk, rfl, hT, hK, rfl, hap, hB⟩ := hrel
      by_cases hgo : k < nn ∧ k < 12
      · obtain ⟨hlt, hlt12⟩ := hgo
        have hki : (k : Int) < (nn : Int) := by omega
        have hkn : ((k : Int) == 12) = false := by simp; omega
        have hkz : k < zs.length := by rw [← HNN.out]; exact hlt
        obtain ⟨b3, off3, rfl, hb3, x3⟩ := wordsAt_get (RowAt.below HZ.out (B02.trans (hB.mono B02.size))) k hkz
        have hsn := tot_snoc t0 (zs.take k) (zs[k]?.getD 0)
        have htk : zs.take (k + 1) = zs.take k ++ [zs[k]?.getD 0] := by rw [List.take_succ_eq_append_getElem hkz]; simp [hkz]
        rw [← htk] at hsn
        have hss := addsTo_succ p zs k
        have hrs : (addsTo p zs (k + 1)).reverse = [addOf p k (zs[k]?.getD 0)] ++ (addsTo p zs k).reverse := by rw [hss]; simp
        have hlen := addsTo_length p zs k
        have HSN := Lib.hid hsn
        have HSS := Lib.hid hss
        have HRS := Lib.hid hrs
        have HLEN := Lib.hid hlen
        clear hsn hss hrs hlen htk
        generalize zs[k]?.getD 0 = z at *
        generalize tot t0 (zs.take k) = t at *
        go_wp2_with fail
        have hzr := hB.size
        obtain ⟨W1, hW1⟩ : ∃ W1, W1 = wr.alloc (.cells #[.int .i64 ((k : Int) % 8), .int .i64 4, .int .i64 (p : Int), .int .u64 0, .int .u64 z] 32) := ⟨_, rfl⟩
        have r13 : Rows8 W1 wr.heap.size 32 #[.int .i64 ((k : Int) % 8), .int .i64 4, .int .i64 (p : Int), .int .u64 0, .int .u64 z] := by rw [hW1]; exact Rows8.new wr _ _
        have hBr1 : Below wr.heap.size wr W1 := by rw [hW1]; exact (Below.refl _ wr).alloc (Nat.le_refl _) _
        have hz1 : W1.heap.size = wr.heap.size + 1 := by rw [hW1]; simp
        have hT1 := owns_keep hT hBr1 (Nat.le_refl _)
        have hK1 := owns_keep hK hBr1 (Nat.le_refl _)
        rw [HLEN.out] at hT1
        rw [List.length_reverse, HLEN.out] at hK1
        have hn8 : u8.ownBlock ≠ some wr.heap.size := owns_new hT (Nat.le_refl _)
        have hn9 : u9.ownBlock ≠ some wr.heap.size := owns_new hK (Nat.le_refl _)
        have hB1 := hB.trans (hBr1.mono hzr)
        rw [← hW1]
        have hap' : u9.ownBlock = none ∨ u9.ownBlock ≠ u8.ownBlock := by
          rcases hap with h | h
          · rw [h]
            cases u9.ownBlock with
            | none => exact .inl rfl
            | some j => exact .inr (by simp)
          · exact .inr fun e2 => h e2.symm
        have HT1 := Lib.hid hT1
        have HK1 := Lib.hid hK1
        have HB1 := Lib.hid hB1
        have HAP := Lib.hid hap'
        have HZ1 := Lib.hid hz1
        have hzW : wr.heap.size < W1.heap.size := by omega
        have hzw2 : w2.heap.size ≤ W1.heap.size := by omega
        have hsz : ∀ {X : World}, Below W1.heap.size W1 X → w2.heap.size ≤ X.heap.size := fun hb => Nat.le_trans hzw2 hb.size
        clear hW1 hT hK hT1 hK1 hB hBr1 hap hap' hB1 x3 hz1
        go_region_held3 (fun W' => W'.cell? ⟨wr.heap.size, 0, none⟩ = some (.int .i64 ((k : Int) % 8)) ∧ W'.cell? ⟨wr.heap.size, 1, none⟩ = some (.int .i64 4) ∧ W'.cell? ⟨wr.heap.size, 2, none⟩ = some (.int .i64 (p : Int)) ∧ W'.cell? ⟨wr.heap.size, 3, none⟩ = some (.int .u64 0) ∧ W'.cell? ⟨wr.heap.size, 4, none⟩ = some (.int .u64 z)) (first | exact five r13 | exact five (r13.alloc _) | exact five ((r13.alloc _).alloc _) | exact five s13 | exact five (s13.alloc _) | exact five (s13.alloc _).drew | exact five s13.drew | exact five t13 | exact five t13.drew) (first
          | (refine step_append_row _ rfl _ _ 23 rfl w2.heap.size 32 iA (.agg #[.int .i64 0, .int .i64 0, .int .i64 0, .int .u64 0, .int .u64 0]) 5 40 Try.underlying23 hiA hA0 hA1 hA2 rfl (by decide) (.slice (some ⟨_, 0, none⟩) 1 1) 1 [.int .i64 ((k : Int) % 8), .int .i64 4, .int .i64 (p : Int), .int .u64 0, .int .u64 z] rfl (by first | exact own1 (Rows8.new wx _ _) ha1d rfl | exact own1 (ha1.news _ _ _ ((Rows8.new W1 _ _).alloc _) (Nat.le_refl _)) hzw2 rfl | exact own1 (ha1.news _ _ _ (rows_new2 W1 _ _ _) (by first | omega | (simp; omega) | simp)) (by first | omega | (simp; omega) | simp) rfl | exact own1 (ha1.news _ _ _ ((Rows8.new W1 _ _).alloc _).drew (Nat.le_refl _)) hzw2 rfl | exact own1 (ha1.news _ _ _ (rows_new2 W1 _ _ _).drew (by first | omega | (simp; omega) | simp)) (by first | omega | (simp; omega) | simp) rfl | exact drew_own (own1 (Rows8.new wx _ _) ha1d rfl) | exact drew_own (own1 (ha1.news _ _ _ ((Rows8.new W1 _ _).alloc _) (Nat.le_refl _)) hzw2 rfl) | exact drew_own (own1 (ha1.news _ _ _ (rows_new2 W1 _ _ _) (by first | omega | (simp; omega) | simp)) (by first | omega | (simp; omega) | simp) rfl) | exact drew_own (own1 (ha1.news _ _ _ ((Rows8.new W1 _ _).alloc _).drew (Nat.le_refl _)) hzw2 rfl) | exact drew_own (own1 (ha1.news _ _ _ (rows_new2 W1 _ _ _).drew (by first | omega | (simp; omega) | simp)) (by first | omega | (simp; omega) | simp) rfl)) _ k (accVals (addsTo p zs k).reverse) rfl (by first | exact rowAt_own (World.ownsRow.alloc hk9 _) | exact rowAt_own hk9 | exact rowAt_own (drew_own (World.ownsRow.alloc hk9 _)) | exact rowAt_own (drew_own hk9)) (accVals_one _) (by unfold maxLen; omega) (by omega) (by first | omega | (simp; omega) | simp) ?_; intro v9 wy ho9 hg9 hb9; have t13 : Rows8 wy wr.heap.size 32 #[.int .i64 ((k : Int) % 8), .int .i64 4, .int .i64 (p : Int), .int .u64 0, .int .u64 z] := (hg9.block _ (by first | omega | (simp; omega) | simp) (by first | (simp [Value.ownBlock]; omega) | (simp [Value.ownBlock]; done))).trans (by first | exact s13 | exact s13.alloc _ | exact s13.drew | exact (s13.alloc _).drew))
          | (refine step_append_row _ rfl _ _ 23 rfl w2.heap.size 32 iA (.agg #[.int .i64 0, .int .i64 0, .int .i64 0, .int .u64 0, .int .u64 0]) 5 40 Try.underlying23 hiA hA0 hA1 hA2 rfl (by decide) u8 k (accVals (addsTo p zs k)) rfl (owns_keep (A := W1) HT1.out (by first | exact ((Below.refl _ W1).alloc (Nat.le_refl _) _).drew | exact (((Below.refl _ W1).alloc (Nat.le_refl _) _).alloc (by simp) _).drew) (Nat.le_refl _)) _ 1 [.int .i64 ((k : Int) % 8), .int .i64 4, .int .i64 (p : Int), .int .u64 0, .int .u64 z] rfl (by first | exact rowAt_own (own1 (n₀ := 0) (Rows8.new W1 _ _) (Nat.zero_le _) rfl) | exact rowAt_own (own1 (n₀ := 0) ((Rows8.new W1 _ _).alloc _) (Nat.zero_le _) rfl) | exact rowAt_own (own1 (n₀ := 0) (rows_new2 W1 _ _ _) (Nat.zero_le _) rfl) | exact rowAt_own (own1 (n₀ := 0) (Rows8.new W1 _ _).drew (Nat.zero_le _) rfl) | exact rowAt_own (own1 (n₀ := 0) ((Rows8.new W1 _ _).alloc _).drew (Nat.zero_le _) rfl) | exact rowAt_own (own1 (n₀ := 0) (rows_new2 W1 _ _ _).drew (Nat.zero_le _) rfl)) (by simp [Value.oneCell']) (by unfold maxLen; omega) (by omega) (by simp; omega) ?_; intro v8 wx ho8 hg8 hb8; have ha1 := after1 HT1.out hzw2 (by first | exact ((Below.refl _ W1).alloc (Nat.le_refl _) _).drew | exact (((Below.refl _ W1).alloc (Nat.le_refl _) _).alloc (by simp) _).drew) hg8 hb8; have s13 := ha1.olds _ _ _ r13 hn8; have hk9 := ha1.own _ _ _ _ _ _ HK1.out HAP.out; have ha1s := ha1.size.1; have ha1t := ha1.size.2; have ha1d : w2.heap.size ≤ wx.heap.size := Nat.le_trans hzw2 (Nat.le_trans ha1s ha1t)))
        all_goals go_wp2_with fail
        all_goals
          obtain ⟨qa, qb, qc⟩ := after2 ha1 ho8 (by first | exact Below.refl _ _ | exact (Below.refl _ _).alloc (Nat.le_refl _) _ | exact ((Below.refl _ _).alloc (Nat.le_refl _) _).drew) ha1d hg9 hb9 (by first | exact .inl rfl | exact .inr ⟨by first | omega | (simp; done) | (simp; omega), by first | omega | (simp; done) | (simp; omega)⟩) (by first | omega | (simp; omega))
          have ea : accVals (addsTo p zs k ++ [addOf p k z]) = accVals (addsTo p zs k) ++ [.int .i64 ((k : Int) % 8), .int .i64 4, .int .i64 (p : Int), .int .u64 0, .int .u64 z] := by simp [accVals, addOf, Acc.cells]
          have eb : accVals ([addOf p k z] ++ (addsTo p zs k).reverse) = [.int .i64 ((k : Int) % 8), .int .i64 4, .int .i64 (p : Int), .int .u64 0, .int .u64 z] ++ accVals (addsTo p zs k).reverse := by simp [accVals, addOf, Acc.cells]
          exact ⟨⟨k + 1, by omega, by omega, by go_num, by unfold OwnsAccs; rw [HSS.out, List.length_append, HLEN.out, ea]; exact qa, by unfold OwnsAccs; rw [HRS.out, List.length_append, List.length_reverse, HLEN.out, eb]; exact ho9, by rw [HSN.out], qb, HB1.out.trans qc⟩, by simp [intOf]; omega⟩
      · have hzr := hB.size
        have hadds := addsTo_adds p zs k
        have hkz : k ≤ zs.length := by rw [← HNN.out]; exact hk
        have hnew := addsTo_new p zs k hkz
        have hlen := addsTo_length p zs k
        generalize zs.take k = zk at *
        generalize addsTo p zs k = L at *
        have hL12 : L.length ≤ 12 := by rw [hlen]; exact hk12
        have hr1 : (runTo ws L L.length).ws = ws.set p (tot t0 zk) := by rw [hadds.total ws hpl, hnew, HT0.out]
        have hr2 : (runTo ws L.reverse L.reverse.length).ws = ws.set p (tot t0 zk) := by rw [hadds.reverse.total ws hpl, List.map_reverse, hnew, tot_reverse, HT0.out]
        have he1 : errOf ws.length L = 0 := hadds.err hpos (by omega) hpl
        have he2 : errOf ws.length L.reverse = 0 := hadds.reverse.err hpos (by omega) hpl
        generalize tot t0 zk = t at *
        obtain ⟨_, a8, c8, rfl, _⟩ := rowAt_own hT
        have HTT := Lib.hid hT
        have HKK := Lib.hid hK
        have HBB := Lib.hid hB
        have HR1 := Lib.hid hr1
        have HR2 := Lib.hid hr2
        have HE1 := Lib.hid he1
        have HE2 := Lib.hid he2
        have HAD := Lib.hid hadds
        have hkey : k = nn ∨ (k < nn ∧ k = 12) := by omega
        clear hT hK hB hr1 hr2 he1 he2 hadds hnew hlen hap hgo
        rcases hkey with rfl | ⟨hlt, rfl⟩
        all_goals first
          | (have hki : ((12 : Nat) : Int) < (nn : Int) := by omega
             obtain ⟨b3, off3, rfl, hb3, x3⟩ := wordsAt_get (RowAt.below HZ.out (B02.trans (HBB.out.mono B02.size))) 12 (by rw [← HNN.out]; exact hlt)
             go_wp2_with fail
             clear x3)
          | go_wp2_with fail
        all_goals
          refine (Try.Run_any ws L (by omega) _ _ wr (RowAt.below (rowAt_own HO.out) HBB.out) (rowAt_own HTT.out)).mono ?_
          rintro e x1 (⟨he, _⟩ | ⟨he, v1, v2, v3, rfl, o1, o2, o3, C1⟩)
          · exact absurd HE1.out he
          rw [HR1.out] at o1
          obtain ⟨g1, d1, rfl, hg1, hgl1⟩ := World.ownsRow.form o1 (by rw [List.length_set]; exact hpos)
          rw [List.length_set] at o1 ⊢
          have HO1 := Lib.hid o1
          have HK1 := Lib.hid (owns_keep HKK.out C1 (Nat.le_refl _))
          have HT1 := Lib.hid (owns_keep HTT.out C1 (Nat.le_refl _))
          have HW1 := Lib.hid (RowAt.below (rowAt_own HO.out) (HBB.out.trans (C1.mono hzr)))
          have HB1 := Lib.hid (HBB.out.trans (C1.mono hzr))
          have hz1 := C1.size
          clear o1 o2 o3 C1 he
          go_wp2_with fail
          refine (Try.Run_any ws L.reverse (by rw [List.length_reverse]; omega) _ _ x1 HW1.out (rowAt_own HK1.out)).mono ?_
          rintro e x2 (⟨he, _⟩ | ⟨he, v4, v5, v6, rfl, o1, o2, o3, C2⟩)
          · exact absurd HE2.out he
          rw [HR2.out] at o1
          obtain ⟨g2, d2, rfl, hg2, hgl2⟩ := World.ownsRow.form o1 (by rw [List.length_set]; exact hpos)
          rw [List.length_set] at o1 ⊢
          have HO2 := Lib.hid (owns_keep HO1.out C2 (Nat.le_refl _))
          have HT2 := Lib.hid (owns_keep HT1.out C2 (Nat.le_refl _))
          have HW2 := Lib.hid (RowAt.below HW1.out C2)
          have HB2 := Lib.hid (HB1.out.trans (C2.mono HB1.out.size))
          have hsl : (ws.set p t).length = ws.length := List.length_set
          have HEQ := Lib.hid (Try.equalWords_any (some ⟨g1, 0, none⟩) (some ⟨g2, 0, none⟩) ws.length ws.length d1 d2 (ws.set p t) (ws.set p t) hsl.symm hsl.symm (by omega) (by omega) x2 (rowAt_own HO2.out) (rowAt_own o1))
          have hd0 : ((0 : Int) != 0) = false := rfl
          have htt : (t != t) = false := by simp
          have HSL := Lib.hid hsl
          clear o1 o2 o3 C2 he HO1 HT1 HW1 HB1 HK1 hsl
          go_wp2_with fail
          refine HEQ.out.mono ?_
          rintro e x3 ⟨rfl, C3⟩
          have hO3 := owns_keep HO2.out C3 (Nat.le_refl _)
          have HT3 := Lib.hid (owns_keep HT2.out C3 (Nat.le_refl _))
          have HW3 := Lib.hid (RowAt.below HW2.out C3)
          have HB3 := Lib.hid (HB2.out.trans (C3.mono HB2.out.size))
          have hzx := C3.size
          have hcl : x3.cell? ⟨g1, p, none⟩ = some (.int .u64 t) := by
            have h9 : OwnsWords wr.heap.size (ws.set p t) (.slice (some ⟨g1, 0, none⟩) (ws.set p t).length d1) x3 := by rw [HSL.out]; exact hO3
            rw [words_cell h9 p (by rw [HSL.out]; exact hpl)]
            simp [hpl]
          obtain ⟨q, hq, hqf⟩ : ∃ q : Nat, ((p : Int) + 1) % (ws.length : Int) = (q : Int) ∧ q = (p + 1) % ws.length := ⟨(p + 1) % ws.length, by first | rfl | (push_cast; rfl) | simp, rfl⟩
          have hql : q < ws.length := by rw [hqf]; exact Nat.mod_lt _ hpos
          have HQ := Lib.hid hq
          clear hqf hO3 C3 HEQ HO2 HT2 HW2 HB2 hq
          go_wp2_with fail
          go_loopw [22, 24, 115] (fun s22 _ j wz => ∃ i : Nat, i ≤ L.length ∧ j = .int .i64 i ∧ OwnsAccs x3.heap.size (storeTo p q t (L.take i)) s22 wz ∧ Below x3.heap.size x3 wz) (fun _ _ j _ => L.length - (intOf j).toNat)
          case atStart =>
            refine ⟨0, Nat.zero_le _, rfl, ?_, (Below.refl _ _).alloc (Nat.le_refl _) _⟩
            have e9 : storeTo p q t (L.take 0) = [⟨0, 2, (p : Nat), 0, t⟩] := by simp [storeTo]
            rw [e9]
            exact World.ownsRow_lit x3 #[.int .i64 0, .int .i64 2, .int .i64 (p : Int), .int .u64 0, .int .u64 t] 1 (Nat.le_refl _) (by unfold maxLen; omega) rfl
          case round =>
            obtain ⟨i, hi, rfl, hOs, hBs⟩ := hrel
            by_cases hil : i < L.length
            · have hii : (i : Int) < (L.length : Int) := by omega
              obtain ⟨b8, off8, rfl, hb8, y0, y1, y2, y3, y4⟩ := accsAt_get (RowAt.below (rowAt_own HT3.out) hBs) i hil
              have htk : L.take (i + 1) = L.take i ++ [L[i]] := List.take_succ_eq_append_getElem hil
              have hold := (HAD.out.each L[i] (List.getElem_mem _)).2.2.2.2
              have hsl9 := storeTo_length p q t (L.take i)
              have hti : (L.take i).length ≤ 12 := by rw [List.length_take]; omega
              obtain ⟨_, a9, c9, rfl, _⟩ := rowAt_own hOs
              generalize L[i] = ac at *
              obtain ⟨who, kind, pl, old, new⟩ := ac
              dsimp only at y0 y1 y2 y3 y4 hold
              subst hold
              have hq1 := HQ.out
              have hzs := hBs.size
              have HTK := Lib.hid htk
              have HOS := Lib.hid hOs
              have HBS := Lib.hid hBs
              clear htk hOs hBs
              by_cases hqp : q = p
              · have hne : ((q : Int) != (p : Int)) = false := by simp [hqp]
                have HSM := Lib.hid (storeTo_same hqp t (L.take i) ⟨who, kind, pl, 0, new⟩)
                clear hqp
                go_wp2_with fail
                exact ⟨⟨i + 1, by omega, by go_num, by rw [HTK.out, HSM.out]; exact World.ownsRow.alloc HOS.out _, HBS.out.alloc HBS.out.size _⟩, by simp [intOf]; omega⟩
              · have hne : ((q : Int) != (p : Int)) = true := by simp; omega
                have HSM := Lib.hid (storeTo_more hqp t (L.take i) ⟨who, kind, pl, 0, new⟩)
                clear hqp
                go_wp2_with (at_builtin; refine wpList_append_own _ rfl _ _ 23 rfl x3.heap.size 32 iA (.agg #[.int .i64 0, .int .i64 0, .int .i64 0, .int .u64 0, .int .u64 0]) 5 40 Try.underlying23 hiA hA0 hA1 hA2 rfl (by decide) _ _ _ rfl (World.ownsRow.alloc (World.ownsRow.alloc HOS.out _) _) ⟨wr.heap.size + 1, 0, none⟩ 1 1 [.int .i64 who, .int .i64 3, .int .i64 (q : Int), .int .u64 0, .int .u64 new] rfl rfl (by have h9 := cells_new (wr.alloc (.cells #[.int .i64 who, .int .i64 3, .int .i64 (q : Int), .int .u64 0, .int .u64 new] 32)) 32 [.int .i64 who, .int .i64 3, .int .i64 (q : Int), .int .u64 0, .int .u64 new]; rw [World.size_alloc] at h9; exact h9) (by simp [Value.oneCell']) (by unfold maxLen; omega) (by omega) (by simp; omega) ?_)
                intro v' w9 hown' hgrow _
                have hoa := World.ownsRow.alloc (World.ownsRow.alloc HOS.out (.cells #[.int .i64 who, .int .i64 3, .int .i64 (q : Int), .int .u64 0, .int .u64 new] 32)) (.cells #[.int .i64 who, .int .i64 3, .int .i64 (q : Int), .int .u64 0, .int .u64 new] 32)
                have hB9 := ((HBS.out.alloc hzs (.cells #[.int .i64 who, .int .i64 3, .int .i64 (q : Int), .int .u64 0, .int .u64 new] 32)).alloc (by simp; omega) (.cells #[.int .i64 who, .int .i64 3, .int .i64 (q : Int), .int .u64 0, .int .u64 new] 32)).grown hgrow (by simp; omega) (fun j ej => (World.ownsRow.lt hoa j ej).1)
                have hO9 : OwnsAccs x3.heap.size (storeTo p q t (L.take i) ++ [swOf q ⟨who, kind, pl, 0, new⟩]) v' w9 := by
                  unfold OwnsAccs
                  rw [List.length_append, show accVals (storeTo p q t (L.take i) ++ [swOf q ⟨who, kind, pl, 0, new⟩]) = accVals (storeTo p q t (L.take i)) ++ [.int .i64 who, .int .i64 3, .int .i64 (q : Int), .int .u64 0, .int .u64 new] by simp [accVals, swOf, Acc.cells]]
                  exact hown'
                have HO9 := Lib.hid hO9
                have HB9 := Lib.hid hB9
                clear hown' hgrow hoa hO9 hB9
                go_wp2_with fail
                exact ⟨⟨i + 1, by omega, by go_num, by rw [HTK.out, HSM.out]; exact HO9.out, HB9.out⟩, by simp [intOf]; omega⟩
            · obtain rfl : i = L.length := by omega
              rw [List.take_length] at hOs
              have HOS := Lib.hid hOs
              have HBS := Lib.hid hBs
              have hzs := hBs.size
              have hsl9 := storeTo_length p q t L
              obtain ⟨_, a9, c9, rfl, _⟩ := rowAt_own hOs
              clear hOs hBs
              obtain ⟨LL, hLL⟩ : ∃ LL, LL = storeTo p q t L ++ [⟨0, 1, (p : Nat), 0, 0⟩] := ⟨_, rfl⟩
              have hkeep := storeTo_keeps (t := t) HAD.out hpl hql
              rw [← hLL] at hkeep
              have hlast := storeTo_last (t := t) HAD.out hpl hql LL hLL
              have hel := hkeep.err hpos (by omega) hpl
              have hll : LL.length = (storeTo p q t L).length + 1 := by rw [hLL]; simp
              have hsn : (runTo ws LL LL.length).seens.length = (storeTo p q t L).length + 1 := ((runTo_lens ws LL LL.length (Nat.le_refl _)).2.1).trans hll
              rw [hll, Nat.add_sub_cancel, ← hll] at hlast
              generalize storeTo p q t L = S at *
              have hS13 : S.length ≤ 13 := by omega
              have HLL := Lib.hid hLL
              have HEL := Lib.hid hel
              have HLN := Lib.hid hll
              have HLAST := Lib.hid hlast
              have HSN := Lib.hid hsn
              have hl100 : LL.length ≤ 100 := by omega
              clear hLL hkeep hlast hel hll hsn
              go_wp2_with (at_builtin; refine wpList_append_own _ rfl _ _ 23 rfl x3.heap.size 32 iA (.agg #[.int .i64 0, .int .i64 0, .int .i64 0, .int .u64 0, .int .u64 0]) 5 40 Try.underlying23 hiA hA0 hA1 hA2 rfl (by decide) _ _ _ rfl (World.ownsRow.alloc HOS.out _) ⟨wr.heap.size, 0, none⟩ 1 1 [.int .i64 0, .int .i64 1, .int .i64 (p : Int), .int .u64 0, .int .u64 0] rfl rfl (cells_new wr _ [.int .i64 0, .int .i64 1, .int .i64 (p : Int), .int .u64 0, .int .u64 0]) (by simp [Value.oneCell']) (by unfold maxLen; omega) (by omega) (by simp; omega) ?_)
              intro v' w9 hown' hgrow _
              have hoa := World.ownsRow.alloc HOS.out (.cells ([.int .i64 0, .int .i64 1, .int .i64 (p : Int), .int .u64 0, .int .u64 0] : List Value).toArray 32)
              have hB9 := (HBS.out.alloc hzs (.cells ([.int .i64 0, .int .i64 1, .int .i64 (p : Int), .int .u64 0, .int .u64 0] : List Value).toArray 32)).grown hgrow (by simp; omega) (fun j ej => (World.ownsRow.lt hoa j ej).1)
              have hO9 : OwnsAccs x3.heap.size LL v' w9 := by
                unfold OwnsAccs
                rw [HLL.out, List.length_append, show accVals (S ++ [(⟨0, 1, (p : Nat), 0, 0⟩ : Acc)]) = accVals S ++ [.int .i64 0, .int .i64 1, .int .i64 (p : Int), .int .u64 0, .int .u64 0] by simp [accVals, Acc.cells]]
                exact hown'
              have HO9 := Lib.hid hO9
              have HB9 := Lib.hid hB9
              clear hown' hgrow hoa hO9 hB9
              go_wp2_with fail
              refine (Try.Run_any ws LL hl100 _ v' w9 (RowAt.below HW3.out HB9.out) (rowAt_own HO9.out)).mono ?_
              rintro e x4 (⟨he, _⟩ | ⟨he, v1, v2, v3, rfl, o1, o2, o3, C4⟩)
              · exact absurd HEL.out he
              obtain ⟨g5, d5, rfl, hg5, hgl5⟩ := World.ownsRow.form o2 (by rw [HSN.out]; omega)
              have hcell : x4.cell? ⟨g5, S.length * 2, none⟩ = some (.int .u64 t) := by
                rw [World.ownsRow.cellAt o2 (S.length * 2) (by rw [HSN.out]; omega)]
                have hi9 : S.length < (runTo ws LL LL.length).seens.length := by rw [HSN.out]; omega
                have h1 := flat_get seenCells 2 (fun _ => rfl) (runTo ws LL LL.length).seens S.length 0 hi9 (by decide)
                rw [Nat.add_zero] at h1
                refine Eq.trans h1 ?_
                have h2 := HLAST.out
                rw [List.getElem?_eq_getElem hi9] at h2
                injection h2 with h2
                show some (Value.int .u64 _) = _
                rw [h2]
              rw [HSN.out]
              have hB4 := HB9.out.trans (C4.mono HB9.out.size)
              have HBE := Lib.hid (B02.trans ((HB3.out.trans (hB4.mono HB3.out.size)).mono B02.size))
              have hdd : ((0 : Int) == 0) = true := rfl
              have htq : (t == t) = true := by simp
              clear o1 o2 o3 C4 he hB4
              go_wp2_with fail
              go_ret
              exact ⟨by first | rfl | simp, HBE.out⟩
theorem laidOut : laidOutB Try.prog = true := by kernel_rfl
set_option maxRecDepth 100000 in
theorem lifted (os : Os) (started : os.Started) (H : Type) (enc : TypeId × Value → H) :
    ReturnsInHanded {} Try.checked os 7 .any (Rows.cellsAddsSpec.pre6 enc Try.prog Try.f7 Rows.cellsAddsRow.domain false) (Rows.cellsAddsSpec.post enc Try.prog Try.f7 false true false false) := by
  refine returnsInHanded_of_change (C := Try.checked) own started (by kernel_rfl) Try.func7
    (ChangeSpec.witness6 (enc := enc) (C := Try.checked) false ⟨#[], #[.slice none 0 0, .int .i64 0, .slice none 0 0], []⟩ 8 (by kernel_rfl) (by kernel_rfl) (by kernel_rfl) (by kernel_rfl)) ?_
  intro W base args ds gs before hval0 hW hcnd _
  have hval : ∀ (j : Nat) t v, Try.f7.params[j]? = some t → args[j]? = some v → Value.okWide Try.prog W .any base t v := hval0
  have hW' := hW
  obtain ⟨p, q, hA0, hV, rfl, hfz, hnd⟩ := hW
  have hA : DataW.TrodAll enc Try.prog W 0 (fun _ => true) true Try.f7.params.toList args.toList ds p := hA0
  rw [Try.params7] at hA hval
  obtain ⟨v0, vs0, d0, ds0, p0, q0, hargs, rfl, rfl, h0, r0⟩ := trodAll_cons hA
  obtain ⟨v1, vs1, d1, ds1, p1, q1, rfl, rfl, rfl, h1, r1⟩ := trodAll_cons r0
  obtain ⟨v2, vs2, d2, ds2, p2, q2, rfl, rfl, rfl, h2, r2⟩ := trodAll_cons r1
  obtain ⟨rfl, rfl, rfl⟩ := trodAll_nil r2
  obtain rfl : args = #[v0, v1, v2] := by cases args; simp_all
  obtain ⟨rfl, rfl⟩ := trodVars_none hV
  obtain ⟨a0, len0, cap0, rfl⟩ := okWide_slice Try.underlying22 (hval 0 22 v0 rfl rfl)
  have k0 := h0
  have lt0 : ∀ x ∈ p0, x.block < W.heap.size := by obtain ⟨m, hm⟩ := k0; exact DataW.trod_lt m _ _ _ hm
  obtain ⟨z0, n0, w0⟩ : ∃ zs, len0 = zs.length ∧ WordsAt W (.slice a0 len0 cap0) zs := by
    obtain ⟨fuel, hf⟩ := h0
    exact open_words hf
  obtain ⟨a1, rfl, rfl, rfl, w1⟩ := open_int Try.underlying3 (hval 1 3 v1 rfl rfl) h1
  obtain ⟨a2, len2, cap2, rfl⟩ := okWide_slice Try.underlying22 (hval 2 22 v2 rfl rfl)
  have k2 := h2
  have lt2 : ∀ x ∈ p2, x.block < W.heap.size := by obtain ⟨m, hm⟩ := k2; exact DataW.trod_lt m _ _ _ hm
  obtain ⟨z2, n2, w2⟩ : ∃ zs, len2 = zs.length ∧ WordsAt W (.slice a2 len2 cap2) zs := by
    obtain ⟨fuel, hf⟩ := h2
    exact open_words hf
  clear hA0 hval0
  refine (walk a0 len0 cap0 z0 a1 a2 len2 cap2 z2 W n0 w0 n2 w2).mono fun e W' ⟨he, bel⟩ => ?_
  subst he
  exact ⟨_, rfl, _, _, _, [], _, [], hW', trodAll_mk1 (shut_bool Try.underlying4 _), (trodAll_cons_mk (Below.trod laidOut (by kernel_rfl) (of_decide_eq_true (by kernel_rfl)) k0 bel lt0) (trodAll_cons_mk (shut_int Try.underlying3 w1) (trodAll_cons_mk (Below.trod laidOut (by kernel_rfl) (of_decide_eq_true (by kernel_rfl)) k2 bel lt2) trodAll_mk0))), rfl, bel.frame _, fun h => by cases h⟩

theorem over : Rows.cellsAddsRow.holds Try.pinned (OpenSpec.ofChange Rows.cellsAddsSpec) :=
  OpenClaim.holds_of_wide 7 Try.f7 rfl rfl rfl rfl rfl rfl rfl ⟨rfl, rfl, rfl, rfl, rfl⟩ rfl rfl rfl rfl rfl (by kernel_rfl) Try.func7 (by kernel_rfl)
    (of_decide_eq_true (by kernel_rfl)) (by unfold Func.isWrapper; first | (rw [if_pos (by decide +kernel)]; kernel_rfl) | (rw [if_neg (by decide +kernel)]; exact ⟨rfl, rfl⟩))
    (fun os started H enc _ => lifted os started H enc)

theorem proved : Rows.CellsAddsSaid := over
end Go.Proofs.Ytafccppobhhelaa.cellsAdds
