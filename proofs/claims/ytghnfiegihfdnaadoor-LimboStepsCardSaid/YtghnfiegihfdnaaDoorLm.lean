/- Limbo: a hand: steps, one behind the other; what is handed to try. -/
import Derived.Test.YtghnfiegihfdnaaDoorLl
namespace Go.Proofs
set_option maxRecDepth 100000
open Go.RowKit Go.Shelf
attribute [local go_sem] Oper.semAt_some

set_option maxHeartbeats 8000000 in
theorem Tryd.step_any (H n₀ E : Nat) (r : Rw3) (p : Pr) (s : Ls) (w : World) (h : Hl H n₀ E r s w) (hE : E ≤ 4611686018427387904) (hn0 : n₀ ≤ w.heap.size) (hH : n₀ ≤ H) (hl : totL r ≤ 900000) :
    (p.1 < 0 → Calls Tryd.prog 56 #[.pointer (some ⟨H, 0, none⟩), .agg #[.int .i64 p.1, .int .u64 (p.2 : Nat)]] w (HdQ H n₀ w (stepN E r p))) ∧ (¬ p.1 < 0 → Calls Tryd.prog 43 #[.pointer (some ⟨H, 0, none⟩), .agg #[.int .i64 p.1, .int .u64 (p.2 : Nat)]] w (HdQ H n₀ w (stepN E r p))) := by
  refine ⟨fun hp => ?_, fun hp => ?_⟩
  · have e : stepN E r p = onN E r := if_pos hp
    rw [e]
    exact Tryd.goOn_any H n₀ E r p s w h hE hn0 hH hl
  · have e : stepN E r p = retN E r p := if_neg hp
    rw [e]
    exact Tryd.retire_any H n₀ E r p s w h hE hn0 hH (fun k hk => Nat.le_trans (totL_le r k (by omega)) hl)
set_option maxHeartbeats 8000000 in
theorem Tryd.run_any (H n₀ E : Nat) (r : Rw3) (a : Option Addr) (n c : Nat) (l : List Pr) (s : Ls) (w₀ w : World) (h : Hl H n₀ E r s w) (hE : E ≤ 4611686018427387904) (hn0 : n₀ ≤ w.heap.size) (hH : n₀ ≤ H) (hl : totL r ≤ 1000) (hI : PAt w₀ (.slice a n c) l) (hn : n ≤ 100000) (hw : Below w₀.heap.size w₀ w) (hw0 : w₀.heap.size ≤ n₀) :
    Calls Tryd.prog 48 #[.pointer (some ⟨H, 0, none⟩), .slice a n c] w (HdQ H n₀ w (runL E r l)) := by
  obtain ⟨R, hR⟩ : ∃ R, R = runL E r l := ⟨_, rfl⟩
  rw [← hR]
  have HR := Lib.hid (show R = runL E r (l.drop 0) from hR)
  have hnl := (pAt_len hI).1
  have HNL := Lib.hid hnl
  have HI := Lib.hid hI
  have HW := Lib.hid hw
  have HX := Lib.hid h
  have HEE := Lib.hid hE
  have HLL := Lib.hid (show totL r ≤ 1000 + 0 from hl)
  have hmf : ∀ (fn : Fn) (first cap : Array Value) (w : World), (Instr.makeFunc fn first cap).run Tryd.prog w = .ok (.func fn first cap) w := fun _ _ _ _ => rfl
  clear h hE hR hl hI hw hnl
  go_enter Tryd.func48, Tryd.ntmps48
  go_wp2_with fail
  go_loopw [5, 6, 9] (fun _ _ j wr => ∃ (k F : Nat) (u : Rw3) (s' : Ls), k ≤ n ∧ j = .int .i64 k ∧ Hid (R = runL F u (l.drop k)) ∧ Hid (Hl H n₀ F u s' wr) ∧ Hid (F ≤ 4611686018427387904) ∧ Hid (totL u ≤ 1000 + k) ∧ Hid (Below n₀ w wr) ∧ Hid (Kf tL w wr)) (fun _ _ j _ => n - (intOf j).toNat)
  case atStart => exact ⟨0, E, r, s, Nat.zero_le _, rfl, HR, HX, HEE, HLL, Lib.hid (Below.refl _ _), Lib.hid (Kf.refl _ _)⟩
  case round =>
    obtain ⟨k, F, u, s', hk, rfl, hr, hx, hf, ht, hb, hkf⟩ := hrel
    clear HR HX HEE HLL
    by_cases hlt : k < n
    · have hkl : k < l.length := by rw [← HNL.out]; exact hlt
      have hbw : Below w₀.heap.size w₀ wr := HW.out.trans (hb.out.mono hw0)
      obtain ⟨b, off, rfl, hb2, z0, z1⟩ := pAt_get (HI.out.below hbw) k hkl
      have hr2 := hr.out
      rw [runL_next F u l k hkl] at hr2
      generalize l[k] = p at *
      have hal : Below wr.heap.size wr (wr.alloc (.cells #[.int .i64 p.1, .int .u64 (p.2 : Nat)] 38)) := Rows8.newB
      have hsz := hb.out.size
      have hst := Tryd.step_any H n₀ F u p s' (wr.alloc (.cells #[.int .i64 p.1, .int .u64 (p.2 : Nat)] 38)) (hx.out.below hal) hf.out (by have := hal.size; omega) hH (by have := ht.out; omega)
      have hto := totL_step F u p
      have hfe := stepN_E hf.out u p
      obtain ⟨T, hT⟩ : ∃ T, T = stepN F u p := ⟨_, rfl⟩
      rw [← hT] at hst hr2 hto hfe
      have HR2 := Lib.hid hr2
      have HST := Lib.hid hst
      have HTO := Lib.hid (show totL T.2.2 ≤ 1000 + (k + 1) by have := ht.out; omega)
      have HFE := Lib.hid hfe
      have HB2 := Lib.hid (hb.out.trans (hal.mono (Nat.le_trans hn0 hsz)))
      have HK2 := Lib.hid (hkf.out.trans (Kf.of_below (T := tL) hal))
      have hki : (k : Int) < (n : Int) := by omega
      clear hr2 hst hto hfe hal hbw hkl hr hx hf ht hb hkf hT hsz
      by_cases hp : p.1 < 0
      · have d0 : decide (p.1 < 0) = true := decide_eq_true hp
        have HC := Lib.hid (HST.out.1 hp)
        clear HST hp
        go_wp2_with fail
        refine HC.out.mono ?_
        rintro e w3 hQ
        have hQ2 := HdQ.behind HB2.out HK2.out hQ
        clear hQ
        rcases hQ2 with ⟨⟨hr, rfl⟩ | ⟨hr, rfl⟩, ⟨s3, hx3⟩, hb3, hk3⟩
        · have HR3 := Lib.hid (HR2.out.trans (if_pos hr))
          have HX3 := Lib.hid hx3
          have HB3 := Lib.hid hb3
          have HK3 := Lib.hid hk3
          clear hr hx3 hb3 hk3
          go_wp2_with fail
          exact ⟨⟨k + 1, _, _, s3, by omega, by go_num, HR3, HX3, HFE, HTO, HB3, HK3⟩, by simp [intOf]; omega⟩
        · have HR3 := Lib.hid (HR2.out.trans (if_neg hr))
          have HX3 := Lib.hid hx3
          have HB3 := Lib.hid hb3
          have HK3 := Lib.hid hk3
          have HN := Lib.hid hr
          clear hr hx3 hb3 hk3
          unfold panicA
          go_wp2_with fail
          refine ⟨rfl, ?_⟩
          rw [HR3.out]
          exact ⟨.inr ⟨HN.out, rfl⟩, ⟨_, HX3.out⟩, HB3.out, HK3.out⟩
      · have d0 : decide (p.1 < 0) = false := decide_eq_false hp
        have HC := Lib.hid (HST.out.2 hp)
        clear HST hp
        go_wp2_with fail
        refine HC.out.mono ?_
        rintro e w3 hQ
        have hQ2 := HdQ.behind HB2.out HK2.out hQ
        clear hQ
        rcases hQ2 with ⟨⟨hr, rfl⟩ | ⟨hr, rfl⟩, ⟨s3, hx3⟩, hb3, hk3⟩
        · have HR3 := Lib.hid (HR2.out.trans (if_pos hr))
          have HX3 := Lib.hid hx3
          have HB3 := Lib.hid hb3
          have HK3 := Lib.hid hk3
          clear hr hx3 hb3 hk3
          go_wp2_with fail
          exact ⟨⟨k + 1, _, _, s3, by omega, by go_num, HR3, HX3, HFE, HTO, HB3, HK3⟩, by simp [intOf]; omega⟩
        · have HR3 := Lib.hid (HR2.out.trans (if_neg hr))
          have HX3 := Lib.hid hx3
          have HB3 := Lib.hid hb3
          have HK3 := Lib.hid hk3
          have HN := Lib.hid hr
          clear hr hx3 hb3 hk3
          unfold panicA
          go_wp2_with fail
          refine ⟨rfl, ?_⟩
          rw [HR3.out]
          exact ⟨.inr ⟨HN.out, rfl⟩, ⟨_, HX3.out⟩, HB3.out, HK3.out⟩
    · obtain rfl : k = n := by omega
      have hki : ¬ (k : Int) < (k : Int) := by omega
      have HR3 := Lib.hid (show R = (0, F, u) by rw [hr.out, List.drop_of_length_le (Nat.le_of_eq HNL.out.symm)]; rfl)
      go_wp2_with fail
      go_end0
      rw [HR3.out]
      exact ⟨.inl ⟨rfl, rfl⟩, ⟨_, hx.out⟩, hb.out, hkf.out⟩
set_option maxHeartbeats 2000000 in
theorem Tryd.Retire1_any (B1 B2 H n₀ E : Nat) (r : Rw3) (p : Pr) (s : Ls) (w : World) (h1 : Rows8 w B1 62 #[.pointer (some ⟨H, 0, none⟩)]) (h2 : Rows8 w B2 38 #[.int .i64 p.1, .int .u64 (p.2 : Nat)]) (h : Hl H n₀ E r s w) (hE : E ≤ 4611686018427387904) (hn0 : n₀ ≤ w.heap.size) (hH : n₀ ≤ H) (hl : totL r ≤ 1000) :
    Calls Tryd.prog 42 #[.pointer (some ⟨B1, 0, none⟩), .pointer (some ⟨B2, 0, none⟩)] w (HdQ H n₀ w (retN E r p)) := by
  have HC := Lib.hid (Tryd.retire_any H n₀ E r p s w h hE hn0 hH (fun k hk => by have := totL_le r k (by omega); omega))
  have c0 : w.cell? ⟨B1, 0, none⟩ = some (.pointer (some ⟨H, 0, none⟩)) := h1.cell 0
  have c1 : w.cell? ⟨B2, 0, none⟩ = some (.int .i64 p.1) := h2.cell 0
  have c2 : w.cell? ⟨B2, 1, none⟩ = some (.int .u64 (p.2 : Nat)) := h2.cell 1
  have l1 := h1.lt
  have l2 := h2.lt
  generalize retN E r p = R at *
  clear h h1 h2 hE
  go_enter Tryd.func42, Tryd.ntmps42
  go_wp2_with fail
  refine HC.out.mono ?_
  rintro e w3 hQ2
  rcases hQ2 with ⟨⟨hr, rfl⟩ | ⟨hr, rfl⟩, hq⟩
  · have HQ := Lib.hid (show HdQ H n₀ w R (.returned (.tuple #[])) w3 from ⟨.inl ⟨hr, rfl⟩, hq⟩)
    clear hq hr
    go_wp2_with fail
    go_end0
    exact HQ.out
  · have HQ := Lib.hid (show HdQ H n₀ w R (.panicked (panicA R.1)) w3 from ⟨.inr ⟨hr, rfl⟩, hq⟩)
    clear hq hr
    unfold panicA
    go_wp2_with fail
    exact ⟨rfl, HQ.out⟩
set_option maxHeartbeats 2000000 in
theorem Tryd.Run1_any (B1 B2 H n₀ E : Nat) (r : Rw3) (a : Option Addr) (n c : Nat) (l : List Pr) (s : Ls) (w₀ w : World) (h1 : Rows8 w B1 62 #[.pointer (some ⟨H, 0, none⟩)]) (h2 : Rows8 w B2 23 #[.slice a n c]) (h : Hl H n₀ E r s w) (hE : E ≤ 4611686018427387904) (hn0 : n₀ ≤ w.heap.size) (hH : n₀ ≤ H) (hl : totL r ≤ 1000) (hI : PAt w₀ (.slice a n c) l) (hn : n ≤ 100000) (hw : Below w₀.heap.size w₀ w) (hw0 : w₀.heap.size ≤ n₀) :
    Calls Tryd.prog 47 #[.pointer (some ⟨B1, 0, none⟩), .pointer (some ⟨B2, 0, none⟩)] w (HdQ H n₀ w (runL E r l)) := by
  have HC := Lib.hid (Tryd.run_any H n₀ E r a n c l s w₀ w h hE hn0 hH hl hI hn hw hw0)
  have c0 : w.cell? ⟨B1, 0, none⟩ = some (.pointer (some ⟨H, 0, none⟩)) := h1.cell 0
  have c1 : w.cell? ⟨B2, 0, none⟩ = some (.slice a n c) := h2.cell 0
  have l1 := h1.lt
  have l2 := h2.lt
  generalize runL E r l = R at *
  clear h h1 h2 hE hI hw
  go_enter Tryd.func47, Tryd.ntmps47
  go_wp2_with fail
  refine HC.out.mono ?_
  rintro e w3 hQ2
  rcases hQ2 with ⟨⟨hr, rfl⟩ | ⟨hr, rfl⟩, hq⟩
  · have HQ := Lib.hid (show HdQ H n₀ w R (.returned (.tuple #[])) w3 from ⟨.inl ⟨hr, rfl⟩, hq⟩)
    clear hq hr
    go_wp2_with fail
    go_end0
    exact HQ.out
  · have HQ := Lib.hid (show HdQ H n₀ w R (.panicked (panicA R.1)) w3 from ⟨.inr ⟨hr, rfl⟩, hq⟩)
    clear hq hr
    unfold panicA
    go_wp2_with fail
    exact ⟨rfl, HQ.out⟩
end Go.Proofs
