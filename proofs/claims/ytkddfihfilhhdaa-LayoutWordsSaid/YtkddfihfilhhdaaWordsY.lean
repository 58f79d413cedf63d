/- Proved: for every table, directory, and row of words, honeycomblaw16.LayoutWords returns true, and its arguments read as they did; no condition. -/
import Derived.Test.YtkddfihfilhhdaaWza
import Derived.BigQuiet
import Derived.Deep.CutBlock
namespace Go.Proofs.Ytkddfihfilhhdaa.layoutWords
set_option maxRecDepth 100000
open Go.ChangeShapes Go.WideShapes Go.ChangeAt Go.RowKit Go.Shelf
attribute [local go_sem] Oper.semAt_some

theorem own : ownKnob Try.prog.godebug = none := by kernel_rfl
theorem words_40 {W : World} {B : Nat} {l : List Int} (h : Rows8 W B 34 (wordVals l).toArray) (hl : l.length = 40) : WordsAt W (.slice (some ⟨B, 0, none⟩) 40 40) l :=
  words_in h l 40 hl (by omega) (fun j _ => by simp)
theorem put_table (W : World) (t : Tb) (hl : t.ws.length = 34) : ∃ W', (storeVar 49 ⟨W.heap.size, 0, none⟩ (.agg (tc t))).run Try.prog (W.alloc (.cells (tc tZ) 49)) = .ok () W' ∧ Below W.heap.size W W' ∧ Rows8 W' W.heap.size 49 (tc t) := by
  have hz : Rows8 (W.alloc (.cells (tc tZ) 49)) W.heap.size 49 (tc tZ) := Rows8.new _ _ _
  exact ⟨_, run_storeVar_row (P := Try.prog) _ W.heap.size 49 49 (tc tZ) (tc t) hz (by rw [tc_size t hl]; exact Try.infoTable) (by rw [tc_size t hl, tc_size tZ rfl]) (tc_all t),
    below_setRow Rows8.newB (Nat.le_refl _) _, setRow_heap _ _ _ _ _ _ hz⟩
theorem words_cut {W : World} {a : Option Addr} {n c : Nat} {ws : List Int} (h : WordsAt W (.slice a n c) ws) (m : Nat) (hm : m ≤ n) : WordsAt W (.slice a m c) (ws.take m) := by
  have hn := (words_len h).1
  subst hn
  have h2 := RowAt.cut h m hm
  unfold WordsAt
  rw [List.length_take, Nat.min_eq_left hm, wordVals_take]
  simpa using h2
/-- What stands all along. -/
structure Sd (w : World) (t : Tb) (bd : Nat) (d : Int) (b : Option Addr) (n' c' : Nat) (l : List Pr) (a : Option Addr) (n c : Nat) (ws : List Int) (W : World) : Prop where
  ht : Rows8 W w.heap.size 49 (tc t)
  hd : Rows8 W bd 64 #[.int .i64 d, .slice b n' c']
  he : PAt W (.slice b n' c') l
  hw : WordsAt W (.slice a n c) ws
  hb : Below w.heap.size w W
theorem Sd.below {w : World} {t : Tb} {bd : Nat} {d : Int} {b : Option Addr} {n' c' : Nat} {l : List Pr} {a : Option Addr} {n c : Nat} {ws : List Int} {A W : World} (s : Sd w t bd d b n' c' l a n c ws A) (p : Below A.heap.size A W) : Sd w t bd d b n' c' l a n c ws W :=
  ⟨s.ht.below p s.ht.lt, s.hd.below p s.hd.lt, PAt.below s.he p, RowAt.below s.hw p, s.hb.trans (p.mono s.hb.size)⟩
theorem TwQ.form {t : Tb} {n₀ : Nat} {e : Ending} {w : World} (h : TwQ t n₀ e w) : ∃ (v : Value) (z : Int), e = .returned (.tuple #[v, .int .i64 z]) ∧ ((okT t = true ∧ z = 0 ∧ ∃ B, v = .slice (some ⟨B, 0, none⟩) 40 40 ∧ Rows8 w B 34 (wordVals (twords t)).toArray) ∨ (okT t = false ∧ z = 260)) := by
  rcases h with ⟨ho, B, rfl, _, hr⟩ | ⟨ho, rfl⟩
  · exact ⟨_, 0, rfl, .inl ⟨ho, rfl, B, rfl, hr⟩⟩
  · exact ⟨_, 260, rfl, .inr ⟨ho, rfl⟩⟩
theorem DwQ.form {d : Int} {l : List Pr} {n₀ : Nat} {e : Ending} {w : World} (h : DwQ d l n₀ e w) : ∃ (v : Value) (z : Int), e = .returned (.tuple #[v, .int .i64 z]) ∧ ((okD d l = true ∧ z = 0 ∧ ∃ B, v = .slice (some ⟨B, 0, none⟩) 40 40 ∧ Rows8 w B 34 (wordVals (dwords d l)).toArray) ∨ (okD d l = false ∧ z = 261)) := by
  rcases h with ⟨ho, B, rfl, _, hr⟩ | ⟨ho, rfl⟩
  · exact ⟨_, 0, rfl, .inl ⟨ho, rfl, B, rfl, hr⟩⟩
  · exact ⟨_, 261, rfl, .inr ⟨ho, rfl⟩⟩
set_option maxHeartbeats 16000000 in
theorem law_any (t : Tb) (hk : TbK t) (g : Dv) (a : Option Addr) (n c : Nat) (ws : List Int) (w : World) (hg : DvK w g) (hw : WordsK w (.slice a n c) ws) : Calls Try.prog 7 #[.agg (tc t), .agg (dc g), .slice a n c] w fun e w' => e = .returned (.bool true) ∧ Below w.heap.size w w' := by
  obtain ⟨W0, hW0⟩ : ∃ W, W = (w.alloc (.cells (tc t) 49)).alloc (.cells (dc g) 64) := ⟨_, rfl⟩
  have hB : Below w.heap.size w W0 := by rw [hW0]; exact (Rows8.newB).alloc (by simp) _
  have hT : Rows8 W0 w.heap.size 49 (tc t) := by rw [hW0]; exact (Rows8.new _ _ _).alloc _
  have hX : Rows8 W0 (w.heap.size + 1) 64 (dc g) := by rw [hW0]; exact rows_new2 _ _ _ _
  have hnl := (words_len hw.1).1
  have hnc := (words_len hw.1).2.1
  have hcm := (words_len hw.1).2.2
  have HT := Lib.hid hT
  have HX := Lib.hid hX
  have HG := Lib.hid (PAt.below hg.2.1 hB)
  have HW := Lib.hid (RowAt.below hw.1 hB)
  have HOK := Lib.hid hw.2
  have HGD := Lib.hid (And.intro hg.1 hg.2.2)
  have HN := Lib.hid (And.intro hnl (And.intro hnc hcm))
  have HK := Lib.hid hk
  have HB := Lib.hid hB
  have HQ := Lib.hid (Try.wakes_any W0)
  clear hB hT hX hnl hnc hcm hk hg hw
  go_enter Try.func7, Try.ntmps7
  go_upto_region 1 with fail
  rw [← hW0]
  clear hW0
  go_wp2_with fail
  refine HQ.out.mono ?_
  rintro e W1 ⟨rfl, hC⟩
  have HT := Lib.hid (HT.out.below hC HT.out.lt)
  have HX := Lib.hid (HX.out.below hC HX.out.lt)
  have HW := Lib.hid (RowAt.below HW.out hC)
  have HG := Lib.hid (PAt.below HG.out hC)
  have HB := Lib.hid (HB.out.trans (hC.mono HB.out.size))
  clear hC HQ
  have c0 : W1.cell? ⟨w.heap.size + 1, 0, none⟩ = some (.int .i64 g.d) := HX.out.cell 0
  have c1 : W1.cell? ⟨w.heap.size + 1, 1, none⟩ = some (.slice g.a g.n g.c) := HX.out.cell 1
  have HQ := Lib.hid (Try.own_any g.d g.a g.n g.c g.l W1 HG.out)
  go_wp2_with fail
  refine HQ.out.mono ?_
  rintro e W2 ⟨b, n', c', rfl, hO, hC⟩
  clear c0 c1 HQ HX HG
  have HT := Lib.hid (HT.out.below hC HT.out.lt)
  have HW := Lib.hid (RowAt.below HW.out hC)
  have HB := Lib.hid (HB.out.trans (hC.mono HB.out.size))
  obtain ⟨L, hL⟩ : ∃ L, L = g.l.take 40 := ⟨_, rfl⟩
  rw [← hL] at hO
  have HLP : Hid (∀ p ∈ L, I64 p.1) := Lib.hid (fun p hp => (HGD.out.2 p (by rw [hL] at hp; exact List.mem_of_mem_take hp)).1)
  have HD := Lib.hid hO.at
  have HLN : Hid (n' = L.length ∧ L.length ≤ 40) := Lib.hid ⟨(pAt_len hO.at).1, by rw [hL, List.length_take]; omega⟩
  clear hC hO hL
  obtain ⟨W3, hW3⟩ : ∃ W, W = W2.alloc (.cells #[.int .i64 g.d, .slice b n' c'] 64) := ⟨_, rfl⟩
  obtain ⟨bd, hbd⟩ : ∃ b, b = W2.heap.size := ⟨_, rfl⟩
  have hC : Below W2.heap.size W2 W3 := by rw [hW3]; exact Rows8.newB
  have HS : Hid (Sd w t bd g.d b n' c' L a n c ws W3) := Lib.hid ⟨HT.out.below hC HT.out.lt, by rw [hW3, hbd]; exact Rows8.new _ _ _, PAt.below HD.out hC, RowAt.below HW.out hC, HB.out.trans (hC.mono HB.out.size)⟩
  clear hC HT HW HD HB
  go_upto_region 4 with fail
  rw [← hbd, ← hW3]
  clear hW3 hbd
  have HQ := Lib.hid (Try.TableWords_any t HK.out.1 HK.out.2.2.2.2 W3)
  have HLD := Lib.hid (Try.load_table (t := t) HK.out.1 HS.out.ht)
  go_wp2_with (refine wpList_loadV rfl _ _ rfl _ _ rfl HLD.out ?_)
  refine HQ.out.mono ?_
  rintro e W4 ⟨hq, hC⟩
  obtain ⟨v, z, rfl, hz⟩ := TwQ.form hq
  have HZ := Lib.hid hz
  have HS := Lib.hid (HS.out.below hC)
  clear hC HQ HLD hz hq
  go_upto_if 34 with fail
  go_cut [] from 8 to 51 (fun wc => Hid (Sd w t bd g.d b n' c' L a n c ws wc))
  case first =>
    rcases HZ.out with ⟨ho, rfl, B, rfl, hr⟩ | ⟨ho, rfl⟩
    rotate_left
    · go_wp2_with fail
      go_meet
      exact HS
    obtain ⟨x1, x2, x3⟩ := words_table t HK.out ho
    have HQ := Lib.hid (Try.Table_any (some ⟨B, 0, none⟩) 40 40 (twords t) x1 _ (words_40 hr (twords_len t HK.out.1)))
    rw [x2, x3] at HQ
    clear x1 x2 x3 hr ho HZ
    go_wp2_with fail
    refine HQ.out.mono ?_
    rintro e W5 ⟨⟨_, rfl⟩ | ⟨h9, _⟩, hC⟩
    rotate_left
    · cases h9
    have HS := Lib.hid (HS.out.below hC)
    clear hC HQ
    obtain ⟨W6, hst, hC, hr⟩ := put_table W5 t HK.out.1
    have HST := Lib.hid hst
    have HS := Lib.hid (HS.out.below hC)
    have HLD := Lib.hid (Try.load_table (t := t) HK.out.1 HS.out.ht)
    have HLD2 := Lib.hid (Try.load_table (t := t) HK.out.1 hr)
    have HEQ := Lib.hid (Try.eqTable t HK.out.1 W6)
    clear hst hC hr
    go_upto_region 7 with (refine wpList_storeVar rfl _ _ _ rfl _ _ rfl rfl HST.out ?_)
    clear HST
    go_wp2_with (first | (refine wpList_loadVG _ _ rfl _ _ rfl HLD.out (by rfl) ?_) | (refine wpList_loadVG _ _ rfl _ _ rfl HLD2.out (by rfl) ?_) | (refine wpList_neqV _ _ _ rfl _ _ rfl rfl Try.grdTable true HEQ.out (by rfl) ?_))
    go_meet
    exact HS
  case rest =>
    clear HZ HS
    rename Hid (Sd _ _ _ _ _ _ _ _ _ _ _ _ _) => hcut
    rename World => wc
    have HS := hcut
    clear hcut
    have c0 : wc.cell? ⟨bd, 0, none⟩ = some (.int .i64 g.d) := HS.out.hd.cell 0
    have c1 : wc.cell? ⟨bd, 1, none⟩ = some (.slice b n' c') := HS.out.hd.cell 1
    have HQ := Lib.hid (Try.DirWords_any g.d b n' c' L HGD.out.1 HLP.out wc HS.out.he)
    go_wp2_with fail
    refine HQ.out.mono ?_
    rintro e W4 ⟨hq, hC⟩
    obtain ⟨v, z, rfl, hz⟩ := DwQ.form hq
    have HZ := Lib.hid hz
    have HS := Lib.hid (HS.out.below hC)
    clear hC HQ hz hq c0 c1
    go_upto_if 58 with fail
    go_cut [] from 12 to 76 (fun wc => Hid (Sd w t bd g.d b n' c' L a n c ws wc))
    case first =>
      rcases HZ.out with ⟨ho, rfl, B, rfl, hr⟩ | ⟨ho, rfl⟩
      rotate_left
      · go_wp2_with fail
        go_meet
        exact HS
      obtain ⟨x1, x2, x3, x4, x5⟩ := words_dir g.d L ho
      have x6 : (wd (dwords g.d L) 0).toNat = g.d.toNat := by omega
      have x7 : ((g.d.toNat : Nat) : Int) = g.d := by omega
      have HQ := Lib.hid (Try.Dir_any (some ⟨B, 0, none⟩) 40 40 (dwords g.d L) x1 g.d.toNat x6.symm _ (words_40 hr (dw_len _ _ _ (Nat.le_refl _) (by omega))))
      unfold DrQ at HQ
      rw [x2, x4, x7] at HQ
      clear x1 x2 x3 x4 x5 x6 x7 hr ho HZ
      go_wp2_with fail
      refine HQ.out.mono ?_
      rintro e W5 ⟨⟨_, a1, n1, c1', rfl, hO⟩ | ⟨h9, _⟩, hC⟩
      rotate_left
      · cases h9
      have HS := Lib.hid (HS.out.below hC)
      have HO := Lib.hid hO.at
      clear hC HQ hO
      obtain ⟨W6, hW6⟩ : ∃ W, W = W5.alloc (.cells #[.int .i64 g.d, .slice a1 n1 c1'] 64) := ⟨_, rfl⟩
      obtain ⟨be, hbe⟩ : ∃ b, b = W5.heap.size := ⟨_, rfl⟩
      have hC : Below W5.heap.size W5 W6 := by rw [hW6]; exact Rows8.newB
      have HE : Hid (Rows8 W6 be 64 #[.int .i64 g.d, .slice a1 n1 c1']) := Lib.hid (by rw [hW6, hbe]; exact Rows8.new _ _ _)
      have HS := Lib.hid (HS.out.below hC)
      have HO := Lib.hid (PAt.below HO.out hC)
      clear hC
      go_upto_region 12 with fail
      rw [← hbe, ← hW6]
      clear hbe hW6
      have c0 : W6.cell? ⟨bd, 0, none⟩ = some (.int .i64 g.d) := HS.out.hd.cell 0
      have c1 : W6.cell? ⟨bd, 1, none⟩ = some (.slice b n' c') := HS.out.hd.cell 1
      have c2 : W6.cell? ⟨be, 0, none⟩ = some (.int .i64 g.d) := HE.out.cell 0
      have c3 : W6.cell? ⟨be, 1, none⟩ = some (.slice a1 n1 c1') := HE.out.cell 1
      have HQ := Lib.hid (Try.SameD_any g.d g.d a1 b n1 n' c1' c' L L W6 HO.out HS.out.he (by have := (pAt_len HO.out).1; have := HLN.out; omega) (by have := HLN.out; omega))
      rw [show sameD g.d L g.d L = true by simp [sameD]] at HQ
      go_wp2_with fail
      refine HQ.out.mono ?_
      rintro e W7 ⟨rfl, hC⟩
      have HS := Lib.hid (HS.out.below hC)
      clear hC HQ c0 c1 c2 c3
      go_wp2_with fail
      go_meet
      exact HS
    case rest =>
      clear HZ HS
      rename Hid (Sd _ _ _ _ _ _ _ _ _ _ _ _ _) => hcut
      rename World => wc2
      have HS := hcut
      clear hcut
      obtain ⟨m, hm⟩ : ∃ m, m = min n 44 := ⟨_, rfl⟩
      have hmn : m ≤ n := by omega
      have hm44 : m ≤ 44 := by omega
      have hnc : n ≤ c := HN.out.2.1
      have hcm := HN.out.2.2
      have hreach : c ≤ 9223372036854775807 := by unfold maxLen at hcm; omega
      have hmi : min (n : Int) 44 = (m : Int) := by omega
      have hmi2 : (if (n : Int) ≤ 44 then (n : Int) else 44) = (m : Int) := by split <;> omega
      have hmi3 : (if (n : Int) < 44 then (n : Int) else 44) = (m : Int) := by split <;> omega
      have hmi4 : (if (44 : Int) < (n : Int) then (44 : Int) else (n : Int)) = (m : Int) := by split <;> omega
      obtain ⟨V, hV⟩ : ∃ V, V = ws.take m := ⟨_, rfl⟩
      have HVL : Hid (m = V.length ∧ m ≤ 44) := Lib.hid ⟨by rw [hV, List.length_take]; have := HN.out.1; omega, hm44⟩
      have HVK : Hid (okW V) := Lib.hid (by rw [hV]; exact fun z hz => HOK.out z (List.mem_of_mem_take hz))
      have HS : Hid (Sd w t bd g.d b n' c' L a m c V wc2) := Lib.hid ⟨HS.out.ht, HS.out.hd, HS.out.he, by rw [hV]; exact words_cut HS.out.hw m hmn, HS.out.hb⟩
      clear hm hV hcm
      go_upto_region 15 with fail
      clear hmn hnc hreach hmi hmi2 hmi3 hmi4 hm44 HN HOK
      have HQ := Lib.hid (Try.Table_any a m c V HVK.out wc2 HS.out.hw)
      go_wp2_with fail
      refine HQ.out.mono ?_
      rintro e W4 ⟨hq, hC⟩
      have hq2 : ∃ (T : Tb) (z : Int), e = .returned (.tuple #[.agg (tc T), .int .i64 z]) ∧ T.ws.length = 34 ∧ ((okR V = true ∧ z = 0 ∧ T = tabR V) ∨ (okR V = false ∧ z = 260)) := by
        rcases hq with ⟨h, rfl⟩ | ⟨h, rfl⟩
        · exact ⟨tabR V, 0, rfl, (table_words V HVK.out h).1.1, .inl ⟨h, rfl, rfl⟩⟩
        · exact ⟨tZ, 260, rfl, rfl, .inr ⟨h, rfl⟩⟩
      obtain ⟨T, z, rfl, hl, hz⟩ := hq2
      have HZ := Lib.hid hz
      have HS := Lib.hid (HS.out.below hC)
      clear hC HQ hz hq
      obtain ⟨W6, hst, hC, hr⟩ := put_table W4 T hl
      have HST := Lib.hid hst
      have HS := Lib.hid (HS.out.below hC)
      have HR := Lib.hid hr
      have HL := Lib.hid hl
      clear hst hC hr hl
      go_upto_if 88 with (refine wpList_storeVar rfl _ _ _ rfl _ _ rfl rfl HST.out ?_)
      clear HST
      go_cut [] from 16 to 101 (fun wc => Hid (Sd w t bd g.d b n' c' L a m c V wc))
      case first =>
        rcases HZ.out with ⟨ho, rfl, rfl⟩ | ⟨ho, rfl⟩
        rotate_left
        · go_wp2_with fail
          go_meet
          exact HS
        obtain ⟨x1, x2, x3⟩ := table_words V HVK.out ho
        have HLD := Lib.hid (Try.load_table HL.out HR.out)
        have HQ := Lib.hid (Try.TableWords_any (tabR V) HL.out x1.2.2.2.2 W6)
        unfold TwQ at HQ
        rw [x2, x3] at HQ
        have HL40 : Hid (V.length = 40) := Lib.hid (by rw [← x3]; exact twords_len _ HL.out)
        clear x1 x2 x3 ho HZ HR
        go_wp2_with (refine wpList_loadV rfl _ _ rfl _ _ rfl HLD.out ?_)
        refine HQ.out.mono ?_
        rintro e W7 ⟨⟨_, B, rfl, _, hr⟩ | ⟨h9, _⟩, hC⟩
        rotate_left
        · cases h9
        have HS := Lib.hid (HS.out.below hC)
        clear hC HQ HLD
        have hl40 := HL40.out
        have HQ := Lib.hid (Try.equalWords_any (some ⟨B, 0, none⟩) a 40 m 40 c V V hl40.symm HVL.out.1 (by omega) (by have := HVL.out; omega) W7 (words_40 hr hl40) HS.out.hw)
        rw [decide_eq_true (rfl : V = V)] at HQ
        clear hr hl40
        go_wp2_with fail
        refine HQ.out.mono ?_
        rintro e W8 ⟨rfl, hC⟩
        have HS := Lib.hid (HS.out.below hC)
        clear hC HQ
        go_wp2_with fail
        go_meet
        exact HS
      case rest =>
        clear HZ HS HR HL
        rename Hid (Sd _ _ _ _ _ _ _ _ _ _ _ _ _) => hcut
        rename World => wc3
        have HS := hcut
        clear hcut
        obtain ⟨d, hd⟩ : ∃ d, d = (wd V 0).toNat := ⟨_, rfl⟩
        have HQ := Lib.hid (Try.Dir_any a m c V HVK.out d hd wc3 HS.out.hw)
        have HDD := Lib.hid hd
        clear hd
        go_wp2_with fail
        refine HQ.out.mono ?_
        rintro e W7 ⟨⟨ho, a1, n1, c1, rfl, hO⟩ | ⟨ho, rfl⟩, hC⟩
        · have HS := Lib.hid (HS.out.below hC)
          have HO := Lib.hid hO.at
          have HOO := Lib.hid ho
          clear hC HQ hO ho
          obtain ⟨W8, hW8⟩ : ∃ W, W = W7.alloc (.cells #[.int .i64 (d : Nat), .slice a1 n1 c1] 64) := ⟨_, rfl⟩
          obtain ⟨be, hbe⟩ : ∃ b, b = W7.heap.size := ⟨_, rfl⟩
          have hC : Below W7.heap.size W7 W8 := by rw [hW8]; exact Rows8.newB
          have HE : Hid (Rows8 W8 be 64 #[.int .i64 (d : Nat), .slice a1 n1 c1]) := Lib.hid (by rw [hW8, hbe]; exact Rows8.new _ _ _)
          have HS := Lib.hid (HS.out.below hC)
          have HO := Lib.hid (PAt.below HO.out hC)
          clear hC
          go_upto_region 23 with fail
          rw [← hbe, ← hW8]
          clear hbe hW8
          have c2 : W8.cell? ⟨be, 0, none⟩ = some (.int .i64 (d : Nat)) := HE.out.cell 0
          have c3 : W8.cell? ⟨be, 1, none⟩ = some (.slice a1 n1 c1) := HE.out.cell 1
          obtain ⟨y1, y2, y3, y4, y5⟩ := dir_words V HVK.out HOO.out d HDD.out
          have HQ := Lib.hid (Try.DirWords_any (d : Nat) a1 n1 c1 (entsDw d V) (by unfold I64; omega) (fun p hp => (y4 p hp).1) W8 HO.out)
          unfold DwQ at HQ
          rw [y2, y3] at HQ
          have hl40 : V.length = 40 := by rw [← y3]; exact dw_len _ _ _ (Nat.le_refl _) (by rw [y5]; exact Nat.le_trans (Nat.pow_le_pow_right (by decide) y1 : 2 ^ d ≤ 2 ^ 5) (by decide))
          have HL40 := Lib.hid hl40
          clear y1 y2 y3 y4 y5 hl40
          go_wp2_with fail
          refine HQ.out.mono ?_
          rintro e W9 ⟨⟨_, B, rfl, _, hr⟩ | ⟨h9, _⟩, hC⟩
          rotate_left
          · cases h9
          have HS := Lib.hid (HS.out.below hC)
          clear hC HQ c2 c3
          have HQ := Lib.hid (Try.equalWords_any (some ⟨B, 0, none⟩) a 40 m 40 c V V HL40.out.symm HVL.out.1 (by omega) (by have := HVL.out; omega) W9 (words_40 hr HL40.out) HS.out.hw)
          rw [decide_eq_true (rfl : V = V)] at HQ
          clear hr
          go_wp2_with fail
          refine HQ.out.mono ?_
          rintro e W10 ⟨rfl, hC⟩
          have HS := Lib.hid (HS.out.below hC)
          clear hC HQ
          go_wp2_with fail
          go_ret
          exact ⟨rfl, HS.out.hb⟩
        · have HS := Lib.hid (HS.out.below hC)
          clear hC HQ ho
          obtain ⟨W8, hW8⟩ : ∃ W, W = W7.alloc (.cells #[.int .i64 0, .slice none 0 0] 64) := ⟨_, rfl⟩
          obtain ⟨be, hbe⟩ : ∃ b, b = W7.heap.size := ⟨_, rfl⟩
          have hC : Below W7.heap.size W7 W8 := by rw [hW8]; exact Rows8.newB
          have HE : Hid (Rows8 W8 be 64 #[.int .i64 0, .slice none 0 0]) := Lib.hid (by rw [hW8, hbe]; exact Rows8.new _ _ _)
          have HS := Lib.hid (HS.out.below hC)
          clear hC
          go_upto_region 21 with fail
          rw [← hbe, ← hW8]
          clear hbe hW8
          have c3 : W8.cell? ⟨be, 1, none⟩ = some (.slice none 0 0) := HE.out.cell 1
          go_wp2_with fail
          go_ret
          exact ⟨rfl, HS.out.hb⟩
theorem walk (t : Tb) (g : Dv) (a : Option Addr) (n c : Nat) (ws : List Int) (w : World) (hk : TbK t) (hg : DvK w g) (_hn : n = ws.length) (hw : WordsK w (.slice a n c) ws) : Calls Try.prog 7 #[.agg (tc t), .agg (dc g), .slice a n c] w fun e w' => e = .returned (.bool true) ∧ Below w.heap.size w w' := law_any t hk g a n c ws w hg hw
theorem laidOut : laidOutB Try.prog = true := by kernel_rfl
set_option maxRecDepth 100000 in
theorem lifted (os : Os) (started : os.Started) (H : Type) (enc : TypeId × Value → H) :
    ReturnsInHanded {} Try.checked os 7 .any (Rows.layoutWordsSpec.pre6 enc Try.prog Try.f7 Rows.layoutWordsRow.domain false) (Rows.layoutWordsSpec.post enc Try.prog Try.f7 false true false false) := by
  refine returnsInHanded_of_change (C := Try.checked) own started (by kernel_rfl) Try.func7
    (ChangeSpec.witness6 (enc := enc) (C := Try.checked) false ⟨#[], #[.agg (tc tZ), .agg #[.int .i64 0, .slice none 0 0], .slice none 0 0], []⟩ 8 (by kernel_rfl) (by kernel_rfl) (by kernel_rfl) (by kernel_rfl)) ?_
  intro W base args ds gs before hval0 hW hcnd _
  have hval : ∀ (j : Nat) t v, Try.f7.params[j]? = some t → args[j]? = some v → Value.okWide Try.prog W .any base t v := hval0
  have hW' := hW
  obtain ⟨p, q, hA0, hV, rfl, hfz, hnd⟩ := hW
  have hA : DataW.TrodAll enc Try.prog W 0 (fun _ => true) true Try.f7.params.toList args.toList ds p := hA0
  rw [Try.params7] at hA hval
  obtain ⟨v0, vs0, d0, ds0, p0, q0, hargs, rfl, rfl, h0, r0⟩ := trodAll_cons hA
  obtain ⟨v1, vs1, d1, ds1, p1, q1, rfl, rfl, rfl, h1, r1⟩ := trodAll_cons r0
  obtain ⟨v2, vs2, d2, ds2, p2, q2, rfl, rfl, rfl, h2, r2⟩ := trodAll_cons r1
  obtain ⟨rfl, rfl, rfl⟩ := trodAll_nil r2
  obtain rfl : args = #[v0, v1, v2] := by cases args; simp_all
  obtain ⟨rfl, rfl⟩ := trodVars_none hV
  have k0 := h0
  have lt0 : ∀ x ∈ p0, x.block < W.heap.size := by obtain ⟨m, hm⟩ := k0; exact DataW.trod_lt m _ _ _ hm
  obtain ⟨g0, rfl, w0⟩ := open_table (hval 0 49 v0 rfl rfl) h0
  have k1 := h1
  have lt1 : ∀ x ∈ p1, x.block < W.heap.size := by obtain ⟨m, hm⟩ := k1; exact DataW.trod_lt m _ _ _ hm
  obtain ⟨g1, rfl, w1⟩ := open_dir (hval 1 64 v1 rfl rfl) h1
  obtain ⟨a2, len2, cap2, rfl⟩ := okWide_slice Try.underlying24 (hval 2 24 v2 rfl rfl)
  have k2 := h2
  have lt2 : ∀ x ∈ p2, x.block < W.heap.size := by obtain ⟨m, hm⟩ := k2; exact DataW.trod_lt m _ _ _ hm
  obtain ⟨z2, n2, w2⟩ : ∃ zs, len2 = zs.length ∧ WordsK W (.slice a2 len2 cap2) zs := by
    obtain ⟨fuel, hf⟩ := h2
    exact open_wordsK hf
  clear hA0 hval0
  refine (walk g0 g1 a2 len2 cap2 z2 W w0 w1 n2 w2).mono fun e W' ⟨he, bel⟩ => ?_
  subst he
  exact ⟨_, rfl, _, _, _, [], _, [], hW', trodAll_mk1 (shut_bool Try.underlying4 _), (trodAll_cons_mk (Below.trod laidOut (by kernel_rfl) (of_decide_eq_true (by kernel_rfl)) k0 bel lt0) (trodAll_cons_mk (Below.trod laidOut (by kernel_rfl) (of_decide_eq_true (by kernel_rfl)) k1 bel lt1) (trodAll_cons_mk (Below.trod laidOut (by kernel_rfl) (of_decide_eq_true (by kernel_rfl)) k2 bel lt2) trodAll_mk0))), rfl, bel.frame _, fun h => by cases h⟩

theorem over : Rows.layoutWordsRow.holds Try.pinned (OpenSpec.ofChange Rows.layoutWordsSpec) :=
  OpenClaim.holds_of_wide 7 Try.f7 rfl rfl rfl rfl rfl rfl rfl ⟨rfl, rfl, rfl, rfl, rfl⟩ rfl rfl rfl rfl rfl (by kernel_rfl) Try.func7 (by kernel_rfl)
    (of_decide_eq_true (by kernel_rfl)) (by unfold Func.isWrapper; first | (rw [if_pos (by decide +kernel)]; kernel_rfl) | (rw [if_neg (by decide +kernel)]; exact ⟨rfl, rfl⟩))
    (fun os started H enc _ => lifted os started H enc)

theorem proved : Rows.LayoutWordsSaid := over
end Go.Proofs.Ytkddfihfilhhdaa.layoutWords
