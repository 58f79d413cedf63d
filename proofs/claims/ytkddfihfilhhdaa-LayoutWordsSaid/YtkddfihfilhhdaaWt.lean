/- Layout: readerOf, table, Table. -/
import Derived.Test.YtkddfihfilhhdaaWs
import Derived.Deep.MidRow
namespace Go.Proofs
set_option maxRecDepth 100000
open Go.RowKit Go.Shelf
attribute [local go_sem] Oper.semAt_some

/-- What the words say. -/
def okTw (z x y : Nat) (ws : List Int) : Bool := (okPl z && okFi x y) && zeroB (ws.drop 38)
def tabOf (z x y : Nat) (ws : List Int) : Tb := ⟨wd ws 0, ((z % 256 : Nat) : Int), z / 256, (x : Nat), (y : Nat), (ws.drop 4).take 34⟩
theorem slots_all (ws : List Int) (hl : ws.length = 40) : splice (splice (splice (List.replicate 34 0) 0 ((ws.drop 4).take 2)) 2 ((ws.drop 6).take 16)) 18 ((ws.drop 22).take 16) = (ws.drop 4).take 34 := by
  obtain _ | ⟨y0, ws⟩ := ws
  · simp at hl
  obtain _ | ⟨y1, ws⟩ := ws
  · simp at hl
  obtain _ | ⟨y2, ws⟩ := ws
  · simp at hl
  obtain _ | ⟨y3, ws⟩ := ws
  · simp at hl
  obtain _ | ⟨y4, ws⟩ := ws
  · simp at hl
  obtain _ | ⟨y5, ws⟩ := ws
  · simp at hl
  obtain _ | ⟨y6, ws⟩ := ws
  · simp at hl
  obtain _ | ⟨y7, ws⟩ := ws
  · simp at hl
  obtain _ | ⟨y8, ws⟩ := ws
  · simp at hl
  obtain _ | ⟨y9, ws⟩ := ws
  · simp at hl
  obtain _ | ⟨y10, ws⟩ := ws
  · simp at hl
  obtain _ | ⟨y11, ws⟩ := ws
  · simp at hl
  obtain _ | ⟨y12, ws⟩ := ws
  · simp at hl
  obtain _ | ⟨y13, ws⟩ := ws
  · simp at hl
  obtain _ | ⟨y14, ws⟩ := ws
  · simp at hl
  obtain _ | ⟨y15, ws⟩ := ws
  · simp at hl
  obtain _ | ⟨y16, ws⟩ := ws
  · simp at hl
  obtain _ | ⟨y17, ws⟩ := ws
  · simp at hl
  obtain _ | ⟨y18, ws⟩ := ws
  · simp at hl
  obtain _ | ⟨y19, ws⟩ := ws
  · simp at hl
  obtain _ | ⟨y20, ws⟩ := ws
  · simp at hl
  obtain _ | ⟨y21, ws⟩ := ws
  · simp at hl
  obtain _ | ⟨y22, ws⟩ := ws
  · simp at hl
  obtain _ | ⟨y23, ws⟩ := ws
  · simp at hl
  obtain _ | ⟨y24, ws⟩ := ws
  · simp at hl
  obtain _ | ⟨y25, ws⟩ := ws
  · simp at hl
  obtain _ | ⟨y26, ws⟩ := ws
  · simp at hl
  obtain _ | ⟨y27, ws⟩ := ws
  · simp at hl
  obtain _ | ⟨y28, ws⟩ := ws
  · simp at hl
  obtain _ | ⟨y29, ws⟩ := ws
  · simp at hl
  obtain _ | ⟨y30, ws⟩ := ws
  · simp at hl
  obtain _ | ⟨y31, ws⟩ := ws
  · simp at hl
  obtain _ | ⟨y32, ws⟩ := ws
  · simp at hl
  obtain _ | ⟨y33, ws⟩ := ws
  · simp at hl
  obtain _ | ⟨y34, ws⟩ := ws
  · simp at hl
  obtain _ | ⟨y35, ws⟩ := ws
  · simp at hl
  obtain _ | ⟨y36, ws⟩ := ws
  · simp at hl
  obtain _ | ⟨y37, ws⟩ := ws
  · simp at hl
  obtain _ | ⟨y38, ws⟩ := ws
  · simp at hl
  obtain _ | ⟨y39, ws⟩ := ws
  · simp at hl
  obtain _ | ⟨_, _⟩ := ws
  rotate_left
  · simp at hl
  rfl
def stT (z x y : Nat) (ws : List Int) : Nat → Tb
  | 0 => tZ
  | 1 => ⟨wd ws 0, 0, 0, 0, 0, List.replicate 34 0⟩
  | 2 => ⟨wd ws 0, ((z % 256 : Nat) : Int), z / 256, 0, 0, List.replicate 34 0⟩
  | 3 => ⟨wd ws 0, ((z % 256 : Nat) : Int), z / 256, (x : Nat), (y : Nat), List.replicate 34 0⟩
  | _ => ⟨wd ws 0, ((z % 256 : Nat) : Int), z / 256, (x : Nat), (y : Nat), splice (splice (splice (List.replicate 34 0) 0 ((ws.drop 4).take 2)) 2 ((ws.drop 6).take 16)) 18 ((ws.drop 22).take 16)⟩
set_option maxHeartbeats 1000000 in
theorem Try.readerOf_yes (B off n c : Nat) (hn : n = 40) (w : World) : Calls Try.prog 57 #[.slice (some ⟨B, off, none⟩) n c] w fun e w' => ∃ Br, e = .returned (.pointer (some ⟨Br, 0, none⟩)) ∧ w.heap.size ≤ Br ∧ Rows8 w' Br 115 (rd B off n c tZ) ∧ Below w.heap.size w w' := by
  have HQ := Lib.hid (Try.rowOf_any (some ⟨B, off, none⟩) n c 260 w (by rw [hn]; decide))
  subst hn
  go_enter Try.func57, Try.ntmps57
  go_wp2_with fail
  refine HQ.out.mono ?_
  rintro e W1 ⟨hC, ⟨_, rfl⟩ | ⟨h, _⟩⟩
  rotate_left
  · first | exact absurd rfl h | exact h.elim
  have HB := Lib.hid hC
  clear hC HQ
  go_wp2_with fail
  go_ret
  exact ⟨W1.heap.size, rfl, HB.out.size, Rows8.new _ _ _, HB.out.alloc HB.out.size _⟩
theorem Try.readerOf_no (a : Option Addr) (n c : Nat) (hn : n ≠ 40) (h5 : n ≤ maxLen) (w : World) : Calls Try.prog 57 #[.slice a n c] w fun e w' => e = .panicked (panicA 260) ∧ Below w.heap.size w w' := by
  have HQ := Lib.hid (Try.rowOf_any a n c 260 w h5)
  have HN := Lib.hid hn
  clear hn h5
  go_enter Try.func57, Try.ntmps57
  go_wp2_with fail
  refine HQ.out.mono ?_
  rintro e W1 ⟨hC, ⟨h, _⟩ | ⟨_, rfl⟩⟩
  · exact absurd h HN.out
  have HB := Lib.hid hC
  clear hC HQ
  unfold panicA
  go_wp2_with fail
  exact ⟨(by first | rfl | trivial), rfl, HB.out⟩
set_option maxHeartbeats 8000000 in
theorem Try.table_any (w₀ W : World) (Br B off n c : Nat) (ws : List Int) (z x y : Nat) (hw : WordsAt w₀ (.slice (some ⟨B, off, none⟩) n c) ws) (hn : n = 40) (hz : z < 18446744073709551616) (hz1 : wd ws 1 = (z : Nat)) (hx1 : wd ws 2 = (x : Nat)) (hy1 : wd ws 3 = (y : Nat))
    (hr : Rows8 W Br 115 (rd B off n c tZ)) (hfar : w₀.heap.size ≤ Br) (hbel : Below w₀.heap.size w₀ W) : Calls Try.prog 58 #[.pointer (some ⟨Br, 0, none⟩)] W fun e w' =>
    (okTw z x y ws = true ∧ e = .returned (.agg (tc (tabOf z x y ws))) ∧ Below w₀.heap.size w₀ w') ∨ (okTw z x y ws = false ∧ e = .panicked (panicA 260) ∧ Below w₀.heap.size w₀ w') := by
  obtain ⟨bt, hbt⟩ : ∃ b, b = W.heap.size := ⟨_, rfl⟩
  obtain ⟨W4, hW4⟩ : ∃ X, X = W.alloc (.cells (tc tZ) 49) := ⟨_, rfl⟩
  have r4 : Rows8 W4 bt 49 (tc tZ) := by rw [hW4, hbt]; exact Rows8.new _ _ _
  obtain ⟨bf, hbf⟩ : ∃ b, b = W4.heap.size := ⟨_, rfl⟩
  obtain ⟨W5, hW5⟩ : ∃ X, X = W4.alloc (.cells #[.func (.func 81) #[.pointer (some ⟨Br, 0, none⟩)] #[], .func (.func 82) #[.pointer (some ⟨Br, 0, none⟩)] #[], .func (.func 83) #[.pointer (some ⟨Br, 0, none⟩)] #[], .func (.func 84) #[.pointer (some ⟨Br, 0, none⟩)] #[]] 1) := ⟨_, rfl⟩
  have HT5 : Hid (Rows8 W5 bt 49 (tc tZ)) := Lib.hid (by rw [hW5]; exact r4.alloc _)
  have HF5 : Hid (Rows8 W5 bf 1 #[.func (.func 81) #[.pointer (some ⟨Br, 0, none⟩)] #[], .func (.func 82) #[.pointer (some ⟨Br, 0, none⟩)] #[], .func (.func 83) #[.pointer (some ⟨Br, 0, none⟩)] #[], .func (.func 84) #[.pointer (some ⟨Br, 0, none⟩)] #[]]) := Lib.hid (by rw [hW5, hbf]; exact Rows8.new _ _ _)
  have HR5 : Hid (Rows8 W5 Br 115 (rd B off n c tZ)) := Lib.hid (by rw [hW5, hW4]; exact (hr.alloc _).alloc _)
  have HB5 : Hid (Below w₀.heap.size w₀ W5) := Lib.hid (by rw [hW5, hW4]; exact (hbel.alloc hbel.size _).alloc (by have := hbel.size; simp; omega) _)
  have hs4 : W4.heap.size = W.heap.size + 1 := by rw [hW4]; simp
  have hBr := hr.lt
  have HFL : Hid (bf < W5.heap.size ∧ bf ≠ Br ∧ bt < W5.heap.size ∧ bt ≠ Br ∧ w₀.heap.size ≤ bt) := Lib.hid ⟨HF5.out.lt, by omega, HT5.out.lt, by omega, by have := hbel.size; omega⟩
  have HFAR := Lib.hid hfar
  have HW := Lib.hid hw
  have HN := Lib.hid hn
  have HZ := Lib.hid (And.intro hz (And.intro hz1 (And.intro hx1 hy1)))
  have HCC : Hid (n ≤ c ∧ c ≤ maxLen) := Lib.hid ⟨(words_len hw).2.1, (words_len hw).2.2⟩
  clear hw hn hz hz1 hx1 hy1 hr hfar hbel r4 hs4 hBr
  go_enter Try.func58, Try.ntmps58
  go_upto_region 1 with fail
  change Code.wp _ _ _ _ (W.alloc (.cells (tc tZ) 49))
  rw [← hW4, ← hbt]
  clear hW4 hbt
  go_wp2_with fail
  rw [← hbf, ← hW5]
  clear hW5 hbf
  go_loopw [4, 15] (fun _ j wr => ∃ k : Nat, k ≤ 4 ∧ j = .int .i64 k ∧ Hid (2 ≤ k → okPl z = true) ∧ Hid (3 ≤ k → okFi x y = true) ∧ Hid (RdK w₀ W5 wr Br B off n c (stT z x y ws k)) ∧ Hid (Rows8 wr bf 1 #[.func (.func 81) #[.pointer (some ⟨Br, 0, none⟩)] #[], .func (.func 82) #[.pointer (some ⟨Br, 0, none⟩)] #[], .func (.func 83) #[.pointer (some ⟨Br, 0, none⟩)] #[], .func (.func 84) #[.pointer (some ⟨Br, 0, none⟩)] #[]])) (fun _ j _ => 4 - (intOf j).toNat)
  case atStart => exact ⟨0, by omega, rfl, Lib.hid (fun h => absurd h (by omega)), Lib.hid (fun h => absurd h (by omega)), Lib.hid ⟨HR5.out, HFAR.out, HB5.out, But.refl _ _ _⟩, HF5⟩
  case round =>
    obtain ⟨k, hk, rfl, HP, HG, HK, HF⟩ := hrel
    by_cases hlt : k < 4
    · rcases (by omega : k = 0 ∨ k = 1 ∨ k = 2 ∨ k = 3) with rfl | rfl | rfl | rfl
      · have e0 : wr.cell? ⟨bf, 0, none⟩ = some (.func (.func 81) #[.pointer (some ⟨Br, 0, none⟩)] #[]) := HF.out.cell 0
        have HQ := Lib.hid (Try.count_any w₀ W5 wr Br B off n c (stT z x y ws 0) ws HW.out HN.out HK.out)
        go_wp2_with fail
        refine HQ.out.mono ?_
        clear HQ e0
        rintro e X1 ⟨rfl, hk9⟩
        have HK2 := Lib.hid (show RdK w₀ W5 X1 Br B off n c (stT z x y ws 1) from hk9)
        have HF2 := Lib.hid (show Rows8 X1 bf 1 #[.func (.func 81) #[.pointer (some ⟨Br, 0, none⟩)] #[], .func (.func 82) #[.pointer (some ⟨Br, 0, none⟩)] #[], .func (.func 83) #[.pointer (some ⟨Br, 0, none⟩)] #[], .func (.func 84) #[.pointer (some ⟨Br, 0, none⟩)] #[]] from (HK2.out.but.block bf HFL.out.1 HFL.out.2.1).trans HF5.out)
        clear hk9 HK HF
        go_wp2_with fail
        exact ⟨⟨1, by omega, by first | rfl | go_num, Lib.hid (fun h => absurd h (by omega)), Lib.hid (fun h => absurd h (by omega)), HK2, HF2⟩, by simp [intOf]⟩
      · have e0 : wr.cell? ⟨bf, 1, none⟩ = some (.func (.func 82) #[.pointer (some ⟨Br, 0, none⟩)] #[]) := HF.out.cell 1
        have HQ := Lib.hid (Try.place_any w₀ W5 wr Br B off n c (stT z x y ws 1) ws HW.out HN.out HK.out z HZ.out.1 HZ.out.2.1)
        go_wp2_with fail
        refine HQ.out.mono ?_
        clear HQ e0
        rintro e X1 (⟨hok, rfl, hk9⟩ | ⟨hok, rfl, hb9⟩)
        rotate_left
        · have HBX := Lib.hid hb9
          have HNOK := Lib.hid hok
          clear hok hb9
          unfold panicA
          go_wp2_with fail
          exact ⟨(by first | rfl | trivial), .inr ⟨by unfold okTw; rw [HNOK.out]; rfl, rfl, HBX.out⟩⟩
        have HK2 := Lib.hid (show RdK w₀ W5 X1 Br B off n c (stT z x y ws 2) from hk9)
        have HF2 := Lib.hid (show Rows8 X1 bf 1 #[.func (.func 81) #[.pointer (some ⟨Br, 0, none⟩)] #[], .func (.func 82) #[.pointer (some ⟨Br, 0, none⟩)] #[], .func (.func 83) #[.pointer (some ⟨Br, 0, none⟩)] #[], .func (.func 84) #[.pointer (some ⟨Br, 0, none⟩)] #[]] from (HK2.out.but.block bf HFL.out.1 HFL.out.2.1).trans HF5.out)
        have HP2 : Hid (2 ≤ 1 + 1 → okPl z = true) := Lib.hid (fun _ => hok)
        clear hok
        clear hk9 HK HF
        go_wp2_with fail
        exact ⟨⟨2, by omega, by first | rfl | go_num, HP2, Lib.hid (fun h => absurd h (by omega)), HK2, HF2⟩, by simp [intOf]⟩
      · have e0 : wr.cell? ⟨bf, 2, none⟩ = some (.func (.func 83) #[.pointer (some ⟨Br, 0, none⟩)] #[]) := HF.out.cell 2
        have HQ := Lib.hid (Try.fill_any w₀ W5 wr Br B off n c (stT z x y ws 2) ws HW.out HN.out HK.out x y HZ.out.2.2.1 HZ.out.2.2.2)
        go_wp2_with fail
        refine HQ.out.mono ?_
        clear HQ e0
        rintro e X1 (⟨hok, rfl, hk9⟩ | ⟨hok, rfl, hb9⟩)
        rotate_left
        · have HBX := Lib.hid hb9
          have HNOK := Lib.hid hok
          clear hok hb9
          unfold panicA
          go_wp2_with fail
          exact ⟨(by first | rfl | trivial), .inr ⟨by unfold okTw; rw [HNOK.out, Bool.and_false]; rfl, rfl, HBX.out⟩⟩
        have HK2 := Lib.hid (show RdK w₀ W5 X1 Br B off n c (stT z x y ws 3) from hk9)
        have HF2 := Lib.hid (show Rows8 X1 bf 1 #[.func (.func 81) #[.pointer (some ⟨Br, 0, none⟩)] #[], .func (.func 82) #[.pointer (some ⟨Br, 0, none⟩)] #[], .func (.func 83) #[.pointer (some ⟨Br, 0, none⟩)] #[], .func (.func 84) #[.pointer (some ⟨Br, 0, none⟩)] #[]] from (HK2.out.but.block bf HFL.out.1 HFL.out.2.1).trans HF5.out)
        have HG2 : Hid (3 ≤ 2 + 1 → okFi x y = true) := Lib.hid (fun _ => hok)
        clear hok
        clear hk9 HK HF
        go_wp2_with fail
        exact ⟨⟨3, by omega, by first | rfl | go_num, Lib.hid (fun _ => HP.out (by omega)), HG2, HK2, HF2⟩, by simp [intOf]⟩
      · have e0 : wr.cell? ⟨bf, 3, none⟩ = some (.func (.func 84) #[.pointer (some ⟨Br, 0, none⟩)] #[]) := HF.out.cell 3
        have HQ := Lib.hid (Try.slots_any w₀ W5 wr Br B off n c (stT z x y ws 3) ws HW.out HN.out HK.out HCC.out rfl)
        go_wp2_with fail
        refine HQ.out.mono ?_
        clear HQ e0
        rintro e X1 ⟨rfl, hk9⟩
        have HK2 := Lib.hid (show RdK w₀ W5 X1 Br B off n c (stT z x y ws 4) from hk9)
        have HF2 := Lib.hid (show Rows8 X1 bf 1 #[.func (.func 81) #[.pointer (some ⟨Br, 0, none⟩)] #[], .func (.func 82) #[.pointer (some ⟨Br, 0, none⟩)] #[], .func (.func 83) #[.pointer (some ⟨Br, 0, none⟩)] #[], .func (.func 84) #[.pointer (some ⟨Br, 0, none⟩)] #[]] from (HK2.out.but.block bf HFL.out.1 HFL.out.2.1).trans HF5.out)
        clear hk9 HK HF
        go_wp2_with fail
        exact ⟨⟨4, by omega, by first | rfl | go_num, Lib.hid (fun _ => HP.out (by omega)), Lib.hid (fun _ => HG.out (by omega)), HK2, HF2⟩, by simp [intOf]⟩
    · obtain rfl : k = 4 := by omega
      have hl40 : ws.length = 40 := by rw [← (words_len HW.out).1]; exact HN.out
      have hsl := slots_all ws hl40
      have HR9 := Lib.hid HK.out.row
      have HT9 := Lib.hid (show Rows8 wr bt 49 (tc tZ) from (HK.out.but.block bt HFL.out.2.2.1 HFL.out.2.2.2.1).trans HT5.out)
      have HB9 := Lib.hid HK.out.below
      have HQ := Lib.hid (Try.endsAt_any B off n c 38 260 ws wr (RowAt.below HW.out HK.out.below) (by have := HN.out; omega) (by have := HN.out; omega))
      have HSL := Lib.hid hsl
      clear HK hsl hl40
      have c0 : wr.cell? ⟨Br, 0, none⟩ = some (.slice (some ⟨B, off, none⟩) n c) := HR9.out.cell 0
      have c1 : wr.cell? ⟨Br, 1, none⟩ = some (.int .i64 260) := HR9.out.cell 1
      go_wp2_with fail
      refine HQ.out.mono ?_
      rintro e X1 ⟨hC, ⟨h9, rfl⟩ | ⟨h9, rfl⟩⟩
      rotate_left
      · have HB := Lib.hid (HB9.out.trans (hC.mono HB9.out.size))
        have H9 := Lib.hid h9
        clear hC h9 HQ c0 c1
        unfold panicA
        go_wp2_with fail
        exact ⟨(by first | rfl | trivial), .inr ⟨by unfold okTw; rw [H9.out, Bool.and_false], rfl, HB.out⟩⟩
      have HB := Lib.hid (HB9.out.trans (hC.mono HB9.out.size))
      have HR := Lib.hid (HR9.out.below hC HR9.out.lt)
      have HT := Lib.hid (HT9.out.below hC HT9.out.lt)
      have H9 := Lib.hid h9
      clear hC h9 HQ c0 c1 HR9 HT9 HB9
      have htab : stT z x y ws 4 = tabOf z x y ws := by
        have h1 : stT z x y ws 4 = ⟨wd ws 0, ((z % 256 : Nat) : Int), z / 256, (x : Nat), (y : Nat), splice (splice (splice (List.replicate 34 0) 0 ((ws.drop 4).take 2)) 2 ((ws.drop 6).take 16)) 18 ((ws.drop 22).take 16)⟩ := rfl
        rw [h1, HSL.out]
        rfl
      have hr9 := HR.out
      rw [htab] at hr9
      obtain ⟨T, hT⟩ : ∃ T, T = tabOf z x y ws := ⟨_, rfl⟩
      have hTl : T.ws.length = 34 := by rw [hT]; simp [tabOf, (words_len HW.out).1.symm.trans HN.out]
      rw [← hT] at hr9
      have HTE := Lib.hid hT
      have hrng : X1.rangeAt Br 2 (tcL T) := by
        intro j v hv
        rw [hr9.cell]
        have : (rd B off n c T)[2 + j]? = (tcL T)[j]? := by
          rw [Nat.add_comm 2 j]
          simp [rd, rdL]
        rw [this]
        exact hv
      have hld := run_loadVar_mid (P := Try.prog) X1 Br 2 49 (tcL T) _ hrng Try.underlying49 rfl (by
        have h1 := tc_size T hTl
        have h2 : (tcL T).length = 39 := by simpa [tc] using h1
        rw [h2]
        exact Try.infoTable)
      have hst := run_storeVar_row (P := Try.prog) X1 bt 49 49 (tc tZ) (tc T) HT.out (by rw [tc_size T hTl]; exact Try.infoTable) (by rw [tc_size T hTl, tc_size tZ rfl]) (tc_all T)
      have hrw := setRow_heap X1 bt (tc tZ) (tc T) 49 (0, 0) HT.out
      have hbb := below_setRow HB.out HFL.out.2.2.2.2 (tc T)
      obtain ⟨X2, hX2⟩ : ∃ X, X = X1.setRow bt (tc T) := ⟨_, rfl⟩
      rw [← hX2] at hst hrw hbb
      have HLD := Lib.hid hld
      have HST := Lib.hid hst
      have HTT := Lib.hid (show Rows8 X2 bt 49 (tc T) from hrw)
      have HLT := Lib.hid hTl
      have HBB := Lib.hid hbb
      clear hrng hld hst hrw hbb hX2 hr9 htab hTl hT HT HR HB
      go_wp2_with (first | (refine wpList_loadV rfl _ _ rfl _ _ rfl HLD.out ?_) | (refine wpList_storeVar rfl _ _ _ rfl _ _ rfl rfl HST.out ?_))
      refine bodyPost_ret (results_c1 rfl _ _ bt _ rfl (Try.load_table HLT.out HTT.out)) rfl ?_
      exact .inl ⟨by unfold okTw; rw [HP.out (by omega), HG.out (by omega), H9.out]; rfl, by rw [← HTE.out], HBB.out⟩
end Go.Proofs
