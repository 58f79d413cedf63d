/- Proved: for every number and row of deeds, honeycomblaw05.MutexOrder returns true, and its arguments read as they did; no condition. -/
import Derived.Test.YtliecdpgajchbaaNc
import Derived.ChangeAt
import Derived.JoinedAt
import Derived.ProofKit
import Derived.OpenShut
import Derived.BigQuiet
import Derived.Test.YtliecdpgajchbaaRows
namespace Go.Proofs.Ytliecdpgajchbaa.mutexOrder
open Go.ChangeShapes Go.WideShapes Go.ChangeAt Go.RowKit Go.Shelf
attribute [local go_sem] Oper.semAt_some

theorem own : ownKnob Try.prog.godebug = none := by kernel_rfl
theorem mod_in (x : Int) (n : Nat) (h : 1 ≤ n ∧ n ≤ 200) : ∃ p : Nat, wrap64 ((IntKind.u64.wrap x).tmod (n : Int)) = (p : Int) ∧ IntKind.i64.wrap ((IntKind.u64.wrap x).tmod (n : Int)) = (p : Int) ∧ p < n := by
  have h1 : 0 ≤ IntKind.u64.wrap x := by rw [IntKind.wrap_u64]; omega
  have h2 : (IntKind.u64.wrap x).tmod (n : Int) = IntKind.u64.wrap x % (n : Int) := Int.tmod_eq_emod_of_nonneg h1
  have h3 : 0 ≤ IntKind.u64.wrap x % (n : Int) := Int.emod_nonneg _ (by omega)
  have h4 : IntKind.u64.wrap x % (n : Int) < n := Int.emod_lt_of_pos _ (by omega)
  refine ⟨(IntKind.u64.wrap x % (n : Int)).toNat, ?_, ?_, by omega⟩
  all_goals
    rw [h2]
    generalize IntKind.u64.wrap x % (n : Int) = q at *
  · have : wrap64 q = q := IntWalk.wrap64_in _ ⟨by omega, by omega⟩
    omega
  · have : IntKind.i64.wrap q = q := IntWalk.i64_in _ ⟨by omega, by omega⟩
    omega

theorem hasF_len (g : Int) (ms : List Mx) (k : Nat) : (hasF g k ms).length ≤ ms.length := by
  induction ms generalizing k with
  | nil => simp [hasF]
  | cons m t ih =>
    have := ih (k + 1)
    unfold hasF
    split
    · simp; omega
    · simp; omega
theorem hasR_len (g : Int) (ms : List Mx) : (hasR ms g).length ≤ ms.length := by
  unfold hasR hasB
  split
  · exact hasF_len _ _ _
  · simp
theorem waitsR_right {ms : List Mx} (h : rightB ms = true) (g : Int) : (waitsB ms g = -1 ∧ waitsR ms g = (0, false)) ∨ (waitsB ms g ≠ -1 ∧ ∃ i : Nat, waitsR ms g = ((i : Int), true)) := by
  unfold waitsR waitsP
  rw [if_pos h]
  rcases waitsB_le ms g with e | e
  · exact .inl ⟨e, by rw [if_pos e]⟩
  · refine .inr ⟨by omega, (waitsB ms g).toNat, ?_⟩
    rw [if_neg (by omega), show (((waitsB ms g).toNat : Nat) : Int) = waitsB ms g by omega]
theorem dd_one {W : World} {B : Nat} {lv : Bool} {g h : Int} (r : Rows8 W B 42 #[.bool lv, .int .i64 g, .int .i64 h]) : DdAt W (.slice (some ⟨B, 0, none⟩) 1 1) [⟨lv, g, h⟩] := rowAt_own (own1 (n₀ := 0) r (Nat.zero_le _) rfl)

set_option maxRecDepth 100000 in
set_option maxHeartbeats 8000000 in
theorem walk (many : Int) (a : Option Addr) (n cap : Nat) (ds : List Dd) (w : World) (_ : (Lit.int .i64 many).wf = true) (hn : n = ds.length) (hD : DdAt w (.slice a n cap) ds) :
    Calls Try.prog 6 #[.int .i64 many, .slice a n cap] w fun e w' => e = .returned (.bool true) ∧ Below w.heap.size w w' := by
  obtain ⟨p0, hp0, hp0', hp0l⟩ := mod_in many 6 (by omega)
  have hreach : n ≤ maxLen := by have := ddAt_len hD; omega
  unfold maxLen at hreach
  have HD := Lib.hid hD
  have HN := Lib.hid hn
  clear hD hn
  go_enter Try.func6, Try.ntmps6
  go_wp2_with fail
  refine (Try.wakes_any w).mono ?_
  rintro e w1 ⟨rfl, b1⟩
  have B := Lib.hid b1
  clear b1
  go_wp2_with fail
  have hp6 : wrap64 ((IntKind.u64.wrap many).tmod 6) = (p0 : Int) := hp0
  obtain ⟨N, hN⟩ : ∃ N : Nat, N = p0 + 1 := ⟨_, rfl⟩
  rw [show wrap64 (1 + wrap64 ((IntKind.u64.wrap many).tmod 6)) = (N : Int) by rw [hp6, IntWalk.wrap64_in _ ⟨by omega, by omega⟩]; omega]
  refine (Try.new_ok N (by omega) w1).mono ?_
  rintro e w2 ⟨r, rfl, hM, b2⟩
  have hN6 : 1 ≤ N ∧ N ≤ 6 := by omega
  have B2 := Lib.hid (B.out.trans (b2.mono B.out.size))
  have M2 := Lib.hid hM
  have O2 := Lib.hid (ord_free N (by omega))
  have hL2 : (freeM N).length = N := List.length_replicate
  have L2 := Lib.hid hL2
  generalize freeM N = ms0 at *
  have HN6 := Lib.hid hN6
  clear b2 hM hL2 hp6 hp0 hp0' hp0l hN B hN6
  go_wp2_with fail
  go_loopw [5, 32] (fun l j wr => ∃ (k r : Nat) (ms : List Mx), k ≤ n ∧ k ≤ 60 ∧ j = .int .i64 k ∧ l = .slice (some ⟨r, 0, none⟩) N N ∧ Hid (OrdB ms) ∧ Hid (ms.length = N) ∧ Hid (MxAt wr (.slice (some ⟨r, 0, none⟩) N N) ms) ∧ Hid (Below w.heap.size w wr)) (fun _ j _ => n - (intOf j).toNat)
  case atStart => exact ⟨0, r, ms0, Nat.zero_le _, by omega, rfl, rfl, O2, L2, M2, B2⟩
  case round =>
    obtain ⟨k, r, ms, hk, hk60, rfl, rfl, hO, hL, hM, hB⟩ := hrel
    have hfin : n = k ∨ k < n ∧ k = 60 ∨ k < n ∧ k < 60 := by omega
    rcases hfin with hfk | ⟨hlt, hfk⟩ | ⟨hlt, h60⟩
    case inl =>
      subst hfk
      go_wp2_with fail
      go_ret
      exact ⟨rfl, hB.out⟩
    case inr.inl =>
      subst hfk
      obtain ⟨b, off, rfl, hb, x0, x1, x2⟩ := ddAt_get (RowAt.below HD.out hB.out) 60 (by rw [← HN.out]; exact hlt)
      generalize ds[60] = d at *
      obtain ⟨lv, go, wh⟩ := d
      dsimp only at x0 x1 x2
      have hki : (60 : Int) < (n : Int) := by omega
      have hB1 : Below wr.heap.size wr (wr.alloc (.cells #[.bool lv, .int .i64 go, .int .i64 wh] 42)) := Rows8.newB
      have HB := Lib.hid (hB.out.trans (hB1.mono hB.out.size))
      clear hB1
      go_wp2_with fail
      go_ret
      exact ⟨rfl, HB.out⟩
    case inr.inr =>
      obtain ⟨b, off, rfl, hb, x0, x1, x2⟩ := ddAt_get (RowAt.below HD.out hB.out) k (by rw [← HN.out]; exact hlt)
      generalize ds[k]'(by rw [← HN.out]; exact hlt) = d at *
      obtain ⟨lv, go, wh⟩ := d
      dsimp only at x0 x1 x2
      have hki : (k : Int) < (n : Int) := by omega
      have hkt : ((k : Int) == 60) = false := by simp; omega
      obtain ⟨gg, hg1', hg2, hg3⟩ := mod_in go 8 (by omega)
      have hg1 : wrap64 ((IntKind.u64.wrap go).tmod 8) = (gg : Int) := hg1'
      obtain ⟨ww, hw1, hw2, hw3⟩ := mod_in wh N (by have := HN6.out; omega)
      have hu : IntKind.u64.wrap (N : Int) = (N : Int) := by rw [IntKind.wrap_u64]; have := HN6.out; omega
      have hnz : ¬ (N : Int) = 0 := by have := HN6.out; omega
      have hnz2 : ((N : Int) == 0) = false := by simp; have := HN6.out; omega
      clear hg1' hg2 hw2
      go_wp2_with fail
      have hB1 : Below wr.heap.size wr (wr.alloc (.cells #[.bool lv, .int .i64 (gg : Int), .int .i64 (ww : Int)] 42)) := Rows8.newB
      have HB1 := Lib.hid (hB.out.trans (hB1.mono hB.out.size))
      have HM1 := Lib.hid (hM.out.below hB1)
      have r1 := Rows8.new wr 42 #[.bool lv, .int .i64 (gg : Int), .int .i64 (ww : Int)]
      obtain ⟨W1, hW1⟩ : ∃ W1, W1 = wr.alloc (.cells #[.bool lv, .int .i64 (gg : Int), .int .i64 (ww : Int)] 42) := ⟨_, rfl⟩
      rw [← hW1] at HB1 HM1 r1 ⊢
      have R1 := Lib.hid r1
      obtain ⟨D, hDD⟩ : ∃ D, D = wr.heap.size := ⟨_, rfl⟩
      rw [← hDD] at R1 ⊢
      have hor := ord_play hO.out ⟨lv, gg, ww⟩ (show (0 : Int) ≤ (gg : Int) ∧ (gg : Int) ≤ 7 by omega) (show (0 : Int) ≤ (ww : Int) ∧ (ww : Int) < ms.length by have := hL.out; omega)
      have hhl := hasR_len gg ms
      rw [hL.out] at hhl
      have hH := Try.Has_any gg (some ⟨r, 0, none⟩) N N ms W1 HM1.out
      generalize hasR ms gg = hs at *
      have HOR := Lib.hid hor
      have HHL := Lib.hid hhl
      have HH := Lib.hid hH
      clear hB1 hW1 r1 hDD hor hhl hH x0 x1 x2 hb hB hM
      refine HH.out.mono ?_
      rintro e w3 ⟨xa, xc, rfl, h3, b3⟩
      have B3 := Lib.hid (HB1.out.trans (b3.mono HB1.out.size))
      have M3 := Lib.hid (HM1.out.below b3)
      have r3 : Rows8 w3 D 42 #[.bool lv, .int .i64 (gg : Int), .int .i64 (ww : Int)] := R1.out.below b3 R1.out.lt
      have R3 := Lib.hid r3
      have y0 : w3.cell? ⟨D, 0, none⟩ = some (.bool lv) := r3.cell 0
      have y1 : w3.cell? ⟨D, 1, none⟩ = some (.int .i64 (gg : Int)) := r3.cell 1
      have y2 : w3.cell? ⟨D, 2, none⟩ = some (.int .i64 (ww : Int)) := r3.cell 2
      have hget := fun j hj => intsAt_get h3 j hj
      obtain ⟨hl, hhl⟩ : ∃ hl, hl = hs.length := ⟨_, rfl⟩
      rw [← hhl] at HHL HOR hget ⊢
      clear b3 HB1 HM1 R1 r3 HH h3
      have hpo : ∀ ms' p, playP ms [⟨lv, gg, ww⟩] = (0, ms', p) → ∀ X, Below w3.heap.size w3 X → ∀ B2, B2 = X.heap.size → Calls Try.prog 28 #[.slice (some ⟨r, 0, none⟩) N N, .slice (some ⟨B2, 0, none⟩) 1 1] (X.alloc (.cells #[.bool lv, .int .i64 (gg : Int), .int .i64 (ww : Int)] 42)) fun e w' => ∃ r', e = .returned (.tuple #[.slice (some ⟨r', 0, none⟩) N N, .int .i64 (p : Nat), .int .i64 0]) ∧ MxAt w' (.slice (some ⟨r', 0, none⟩) N N) ms' ∧ Below w.heap.size w w' := fun ms' p h1 X hX B2 e => by
        subst e
        have hXa : Below w3.heap.size w3 (X.alloc (.cells #[.bool lv, .int .i64 (gg : Int), .int .i64 (ww : Int)] 42)) := hX.alloc hX.size _
        exact (Try.play_ok (some ⟨r, 0, none⟩) N N ms ms' p (some ⟨X.heap.size, 0, none⟩) 1 1 _ (by decide) h1 _ (M3.out.below hXa) (dd_one (Rows8.new X _ _))).mono fun e w' ⟨r', q1, q2, q3⟩ => ⟨r', q1, q2, (B3.out.trans (hXa.mono B3.out.size)).trans (q3.mono (Nat.le_trans B3.out.size hXa.size))⟩
      have hpe : ∀ E, E ≠ 0 → (playP ms [⟨lv, gg, ww⟩]).1 = E → ∀ X, Below w3.heap.size w3 X → ∀ B2, B2 = X.heap.size → Calls Try.prog 28 #[.slice (some ⟨r, 0, none⟩) N N, .slice (some ⟨B2, 0, none⟩) 1 1] (X.alloc (.cells #[.bool lv, .int .i64 (gg : Int), .int .i64 (ww : Int)] 42)) fun e w' => e = .returned (.tuple #[.slice none 0 0, .int .i64 0, .int .i64 E]) ∧ MxAt w' (.slice (some ⟨r, 0, none⟩) N N) ms ∧ Below w.heap.size w w' := fun E hE h1 X hX B2 e => by
        subst e
        have hXa : Below w3.heap.size w3 (X.alloc (.cells #[.bool lv, .int .i64 (gg : Int), .int .i64 (ww : Int)] 42)) := hX.alloc hX.size _
        have hM := M3.out.below hXa
        exact (Try.play_err (some ⟨r, 0, none⟩) N N ms E hE (some ⟨X.heap.size, 0, none⟩) 1 1 _ (by decide) h1 _ hM (dd_one (Rows8.new X _ _))).mono fun e w' ⟨q1, q3⟩ => ⟨q1, hM.below q3, (B3.out.trans (hXa.mono B3.out.size)).trans (q3.mono (Nat.le_trans B3.out.size hXa.size))⟩
      have HPO := Lib.hid hpo
      have HPE := Lib.hid hpe
      clear hpo hpe
      have hway : lv = true ∨ (lv = false ∧ hl = 0) ∨ (lv = false ∧ ∃ c, hl = c + 1 ∧ (hs[c]?.getD 0 < (ww : Int) ∨ ¬ hs[c]?.getD 0 < (ww : Int))) := by
        cases lv with
        | true => exact .inl rfl
        | false =>
          refine .inr ?_
          rcases Nat.eq_zero_or_pos hl with h | h
          · exact .inl ⟨rfl, h⟩
          · exact .inr ⟨rfl, hl - 1, by omega, by omega⟩
      rcases hway with rfl | ⟨rfl, rfl⟩ | ⟨rfl, c, hc, hcw | hcw⟩
      case' inl =>
        have hcas := Lib.hid (HOR.out (.inl rfl))
        clear HOR hget hhl
      case' inr.inl =>
        have hcas := Lib.hid (HOR.out (.inr (.inl rfl)))
        clear HOR hget hhl
      case' inr.inr.inl =>
        have hcas := Lib.hid (HOR.out (.inr (.inr (by rw [hc, Nat.add_sub_cancel]; exact hcw))))
        obtain ⟨xb, xo, rfl, hxb, xz⟩ := hget c (by omega)
        generalize hs[c]?.getD 0 = z at *
        have hcz : (c : Int) < (hl : Int) := by omega
        have hc0 : (0 : Int) < (hl : Int) := by omega
        have hc1 : decide ((0 : Int) < (hl : Int)) = true := decide_eq_true hc0
        have hc2 : 0 < hl := by omega
        have hc3 : decide (0 < hl) = true := decide_eq_true hc2
        have hc4 : decide ((hl : Int) > 0) = true := decide_eq_true hc0
        have hwc : IntKind.i64.wrap ((hl : Int) - 1) = (c : Int) := by rw [show (hl : Int) - 1 = (c : Int) by omega]; exact IntWalk.i64_in _ (by have := HHL.out; have := HN6.out; omega)
        have hwc2 : wrap64 ((hl : Int) - 1) = (c : Int) := by rw [show (hl : Int) - 1 = (c : Int) by omega]; exact IntWalk.wrap64_in _ (by have := HHL.out; have := HN6.out; omega)
        have hge : ¬ (ww : Int) ≤ z := by omega
        have hge2 : decide ((ww : Int) ≤ z) = false := decide_eq_false hge
        clear HOR hget hhl hc
      case' inr.inr.inr =>
        obtain ⟨xb, xo, rfl, hxb, xz⟩ := hget c (by omega)
        generalize hs[c]?.getD 0 = z at *
        have hcz : (c : Int) < (hl : Int) := by omega
        have hc0 : (0 : Int) < (hl : Int) := by omega
        have hc1 : decide ((0 : Int) < (hl : Int)) = true := decide_eq_true hc0
        have hc2 : 0 < hl := by omega
        have hc3 : decide (0 < hl) = true := decide_eq_true hc2
        have hc4 : decide ((hl : Int) > 0) = true := decide_eq_true hc0
        have hwc : IntKind.i64.wrap ((hl : Int) - 1) = (c : Int) := by rw [show (hl : Int) - 1 = (c : Int) by omega]; exact IntWalk.i64_in _ (by have := HHL.out; have := HN6.out; omega)
        have hwc2 : wrap64 ((hl : Int) - 1) = (c : Int) := by rw [show (hl : Int) - 1 = (c : Int) by omega]; exact IntWalk.wrap64_in _ (by have := HHL.out; have := HN6.out; omega)
        have hge : (ww : Int) ≤ z := by omega
        have hge2 : decide ((ww : Int) ≤ z) = true := decide_eq_true hge
        clear HOR hget hhl hc
        go_wp2_with fail
        go_quiet (fail)
        go_wp2_with fail
        exact ⟨⟨k + 1, r, ms, by omega, by omega, by go_num, rfl, hO, hL, Lib.hid (M3.out.below ⟨rfl, rfl, rfl, Nat.le_refl _, fun _ _ => rfl⟩), Lib.hid (B3.out.trans ⟨rfl, rfl, rfl, Nat.le_refl _, fun _ _ => rfl⟩)⟩, by simp [intOf]; omega⟩
      all_goals
        go_wp2_with fail
        go_quiet (fail)
        rcases hcas.out with ⟨ms', p, h1, h2, h3⟩ | h1 | h1
        case inr.inl =>
          go_wp2_with fail
          refine (HPE.out 4 (by decide) h1 (w3.drewN nq) ⟨rfl, rfl, rfl, Nat.le_refl _, fun _ _ => rfl⟩ _ rfl).mono ?_
          rintro e w5 ⟨rfl, m5, b5⟩
          have M5 := Lib.hid m5
          have B5 := Lib.hid b5
          clear m5 b5
          go_wp2_with fail
          exact ⟨⟨k + 1, r, ms, by omega, by omega, by go_num, rfl, hO, hL, M5, B5⟩, by simp [intOf]; omega⟩
        case inr.inr =>
          go_wp2_with fail
          refine (HPE.out 151 (by decide) h1 (w3.drewN nq) ⟨rfl, rfl, rfl, Nat.le_refl _, fun _ _ => rfl⟩ _ rfl).mono ?_
          rintro e w5 ⟨rfl, m5, b5⟩
          have M5 := Lib.hid m5
          have B5 := Lib.hid b5
          clear m5 b5
          go_wp2_with fail
          exact ⟨⟨k + 1, r, ms, by omega, by omega, by go_num, rfl, hO, hL, M5, B5⟩, by simp [intOf]; omega⟩
        case inl =>
          obtain ⟨g0, hg0, hg0w⟩ := ord_free_one h2
          have hrg := ord_ring h2
          have HW0 := Lib.hid hg0w
          have HRR := Lib.hid hrg
          have H1 := Lib.hid h1
          have H2 := Lib.hid h2
          have H3 := Lib.hid (h3.trans hL.out)
          clear h1 h2 h3 hrg hg0w
          go_wp2_with fail
          refine (HPO.out ms' p H1.out (w3.drewN nq) ⟨rfl, rfl, rfl, Nat.le_refl _, fun _ _ => rfl⟩ _ rfl).mono ?_
          rintro e w5 ⟨r', rfl, m5, b5⟩
          have M5 := Lib.hid m5
          have B5 := Lib.hid b5
          clear m5 b5
          go_wp2_with fail
          obtain ⟨we, rfl⟩ : ∃ x, x = wr := ⟨_, rfl⟩
          go_loopw [13, 94] (fun c j wr => ∃ g cnt : Nat, g ≤ 8 ∧ cnt ≤ g ∧ c = .int .i64 cnt ∧ j = .int .i64 g ∧ Hid (g0 < g → 0 < cnt) ∧ Hid (MxAt wr (.slice (some ⟨r', 0, none⟩) N N) ms') ∧ Hid (Below w.heap.size w wr)) (fun _ j _ => 8 - (intOf j).toNat)
          case atStart => exact ⟨0, 0, by omega, by omega, rfl, rfl, Lib.hid (fun h => absurd h (Nat.not_lt_zero _)), M5, B5⟩
          case round =>
            obtain ⟨g, cnt, hg8, hcg, rfl, rfl, hgz, hM, hB⟩ := hrel
            by_cases hlt8 : g < 8
            · have hgi : (g : Int) < 8 := by omega
              have hWt := Try.Waits_any g (some ⟨r', 0, none⟩) N N ms' wr hM.out
              rcases waitsR_right H2.out.1 g with ⟨e1, e2⟩ | ⟨e1, i, e2⟩
              · rw [e2] at hWt
                have HW := Lib.hid hWt
                clear hWt e2 e1
                go_wp2_with fail
                refine HW.out.mono ?_
                rintro e w6 ⟨rfl, b6⟩
                have B6 := Lib.hid (hB.out.trans (b6.mono hB.out.size))
                have M6 := Lib.hid (hM.out.below b6)
                clear b6
                go_wp2_with fail
                exact ⟨⟨g + 1, cnt + 1, by omega, by omega, by go_num, by go_num, Lib.hid (fun _ => by omega), M6, B6⟩, by simp [intOf]; omega⟩
              · rw [e2] at hWt
                have HW := Lib.hid hWt
                have hgz2 : Hid (g0 < g + 1 → 0 < cnt) := Lib.hid (fun h => hgz.out (by
                  have : g0 ≠ g := fun e => e1 (by rw [← e]; exact HW0.out)
                  omega))
                clear hWt e2 e1
                go_wp2_with fail
                refine HW.out.mono ?_
                rintro e w6 ⟨rfl, b6⟩
                have B6 := Lib.hid (hB.out.trans (b6.mono hB.out.size))
                have M6 := Lib.hid (hM.out.below b6)
                clear b6
                go_wp2_with fail
                exact ⟨⟨g + 1, cnt, by omega, by omega, rfl, by go_num, hgz2, M6, B6⟩, by simp [intOf]; omega⟩
            · obtain rfl : g = 8 := by omega
              have hcnt : 0 < cnt := hgz.out hg0
              have hcz0 : ((cnt : Int) == 0) = false := by simp; omega
              have hck := Try.Check_any (some ⟨r', 0, none⟩) N N ms' wr hM.out
              rw [show errB ms' = 0 from by unfold errB; rw [if_pos H2.out.1]] at hck
              have hra := fun W (h : MxAt W (.slice (some ⟨r', 0, none⟩) N N) ms') => Try.Ring_any (some ⟨r', 0, none⟩) N N ms' W h
              rw [HRR.out] at hra
              have HCK := Lib.hid hck
              have HRA := Lib.hid hra
              clear hck hra
              go_wp2_with fail
              refine HCK.out.mono ?_
              rintro e w7 ⟨rfl, b7⟩
              have B7 := Lib.hid (hB.out.trans (b7.mono hB.out.size))
              have M7 := Lib.hid (hM.out.below b7)
              clear b7
              go_wp2_with fail
              refine (HRA.out w7 M7.out).mono ?_
              rintro e w8 ⟨ya, yc, rfl, -, b8⟩
              have B8 := Lib.hid (B7.out.trans (b8.mono B7.out.size))
              have M8 := Lib.hid (M7.out.below b8)
              clear b8
              go_wp2_with fail
              exact ⟨⟨k + 1, r', ms', by omega, by omega, by go_num, rfl, H2, H3, M8, B8⟩, by simp [intOf]; omega⟩
theorem laidOut : laidOutB Try.prog = true := by kernel_rfl
set_option maxRecDepth 100000 in
theorem lifted (os : Os) (started : os.Started) (H : Type) (enc : TypeId × Value → H) :
    ReturnsInHanded {} Try.checked os 6 .any (Rows.mutexOrderSpec.pre6 enc Try.prog Try.f6 Rows.mutexOrderRow.domain false) (Rows.mutexOrderSpec.post enc Try.prog Try.f6 false true false false) := by
  refine returnsInHanded_of_change (C := Try.checked) own started (by kernel_rfl) Try.func6
    (ChangeSpec.witness6 (enc := enc) (C := Try.checked) false ⟨#[], #[.int .i64 0, .slice none 0 0], []⟩ 8 (by kernel_rfl) (by kernel_rfl) (by kernel_rfl) (by kernel_rfl)) ?_
  intro W base args ds gs before hval0 hW hcnd _
  have hval : ∀ (j : Nat) t v, Try.f6.params[j]? = some t → args[j]? = some v → Value.okWide Try.prog W .any base t v := hval0
  have hW' := hW
  obtain ⟨p, q, hA0, hV, rfl, hfz, hnd⟩ := hW
  have hA : DataW.TrodAll enc Try.prog W 0 (fun _ => true) true Try.f6.params.toList args.toList ds p := hA0
  rw [Try.params6] at hA hval
  obtain ⟨v0, vs0, d0, ds0, p0, q0, hargs, rfl, rfl, h0, r0⟩ := trodAll_cons hA
  obtain ⟨v1, vs1, d1, ds1, p1, q1, rfl, rfl, rfl, h1, r1⟩ := trodAll_cons r0
  obtain ⟨rfl, rfl, rfl⟩ := trodAll_nil r1
  obtain rfl : args = #[v0, v1] := by cases args; simp_all
  obtain ⟨rfl, rfl⟩ := trodVars_none hV
  obtain ⟨a0, rfl, rfl, rfl, w0⟩ := open_int Try.underlying3 (hval 0 3 v0 rfl rfl) h0
  obtain ⟨a1, len1, cap1, rfl⟩ := okWide_slice Try.underlying39 (hval 1 39 v1 rfl rfl)
  have k1 := h1
  have lt1 : ∀ x ∈ p1, x.block < W.heap.size := by obtain ⟨m, hm⟩ := k1; exact DataW.trod_lt m _ _ _ hm
  obtain ⟨z1, n1, w1⟩ : ∃ zs, len1 = zs.length ∧ DdAt W (.slice a1 len1 cap1) zs := by
    obtain ⟨fuel, hf⟩ := h1
    exact open_deeds hf
  clear hA0 hval0
  refine (walk a0 a1 len1 cap1 z1 W w0 n1 w1).mono fun e W' ⟨he, bel⟩ => ?_
  subst he
  exact ⟨_, rfl, _, _, _, [], _, [], hW', trodAll_mk1 (shut_bool Try.underlying4 _), (trodAll_cons_mk (shut_int Try.underlying3 w0) (trodAll_cons_mk (Below.trod laidOut (by kernel_rfl) (of_decide_eq_true (by kernel_rfl)) k1 bel lt1) trodAll_mk0)), rfl, bel.frame _, fun h => by cases h⟩

theorem over : Rows.mutexOrderRow.holds Try.pinned (OpenSpec.ofChange Rows.mutexOrderSpec) :=
  OpenClaim.holds_of_wide 6 Try.f6 rfl rfl rfl rfl rfl rfl rfl ⟨rfl, rfl, rfl, rfl, rfl⟩ rfl rfl rfl rfl rfl (by kernel_rfl) Try.func6 (by kernel_rfl)
    (of_decide_eq_true (by kernel_rfl)) (by unfold Func.isWrapper; first | (rw [if_pos (by decide +kernel)]; kernel_rfl) | (rw [if_neg (by decide +kernel)]; exact ⟨rfl, rfl⟩))
    (fun os started H enc _ => lifted os started H enc)

theorem proved : Rows.MutexOrderSaid := over
end Go.Proofs.Ytliecdpgajchbaa.mutexOrder
