/- Pins: Run. -/
import Derived.Test.YtdkpenfgeohddaaPi
namespace Go.Proofs
set_option maxRecDepth 100000
open Go.RowKit Go.Shelf
attribute [local go_sem] Oper.semAt_some

/-- What comes of ops, the Epoch, the Slots, and how many were passed over. -/
abbrev Sn := Int × Int × List Int × Int
def runN : Int → List Int → Int → List Po → Sn
  | E, S, p, [] => (0, E, S, p)
  | E, S, p, o :: l => if (stepP E S o).1 = 0 then runN (stepP E S o).2.1 (stepP E S o).2.2 p l else if (stepP E S o).1 = 2 then (2, 0, [], 0) else runN (stepP E S o).2.1 (stepP E S o).2.2 (p + 1) l
def runP (E : Int) (S : List Int) (l : List Po) : Sn := if rightN E S = true then runN E S 0 l else (230, 0, [], 0)
theorem runN_next (E : Int) (S : List Int) (p : Int) (l : List Po) (k : Nat) (h : k < l.length) : runN E S p (l.drop k) = if (stepP E S l[k]).1 = 0 then runN (stepP E S l[k]).2.1 (stepP E S l[k]).2.2 p (l.drop (k + 1)) else if (stepP E S l[k]).1 = 2 then (2, 0, [], 0) else runN (stepP E S l[k]).2.1 (stepP E S l[k]).2.2 (p + 1) (l.drop (k + 1)) := by
  rw [List.drop_eq_getElem_cons h]
  rfl
def RunQ (n₀ : Nat) (R : Sn) (e : Ending) (w' : World) : Prop :=
  ∃ v, e = .returned (.tuple #[.agg #[.int .u64 R.2.1, v], .int .i64 R.2.2.2, .int .i64 R.1]) ∧ OwnsWords n₀ R.2.2.1 v w'
theorem results_ctt {P : Program} {fn : Func} {p q r : Tmp} {ty : TypeId} (h : fn.results = #[.cell p ty, .tmp q, .tmp r]) (tmps : Array Value) (w : World) (B : Nat) (u x y : Value)
    (hp : tmps.getD p undef = .pointer (some ⟨B, 0, none⟩)) (hx : tmps.getD q undef = x) (hy : tmps.getD r undef = y) (h1 : (loadVar ty ⟨B, 0, none⟩).run P w = .ok u w) :
    (results fn tmps).run P w = .ok (.tuple #[u, x, y]) w := by
  have hp' : tmps[p]?.getD undef = .pointer (some ⟨B, 0, none⟩) := by simpa using hp
  have hx' : tmps[q]?.getD undef = x := by simpa using hx
  have hy' : tmps[r]?.getD undef = y := by simpa using hy
  simp [results, h, hp', hx', hy', asAddr, h1]
set_option maxHeartbeats 16000000 in
theorem Try.RunP_any (E : Int) (a : Option Addr) (n c : Nat) (S : List Int) (al : Option Addr) (nl cl : Nat) (l : List Po) (w : World) (hI : WordsAt w (.slice a n c) S) (hk : Okp E S) (hL : PoAt w (.slice al nl cl) l) (hl : ∀ o ∈ l, 0 ≤ o.by_) (hl9 : l.length ≤ 100000) :
    Calls Try.prog 26 #[.agg #[.int .u64 E, .slice a n c], .slice al nl cl] w fun e w' => RunQ w.heap.size (runP E S l) e w' ∧ Below w.heap.size w w' := by
  obtain ⟨R, hR⟩ : ∃ R, R = runP E S l := ⟨_, rfl⟩
  rw [← hR]
  unfold runP at hR
  have hnl := (poAt_len hL).1
  obtain ⟨u0, hu0⟩ : ∃ u, u = (w.alloc (.cells #[.int .u64 E, .slice a n c] 25)).alloc (.cells #[.int .u64 0, .slice none 0 0] 25) := ⟨_, rfl⟩
  have hB0 : Below w.heap.size w u0 := by rw [hu0]; exact (Rows8.newB).alloc (by simp) _
  have hP0 : Rows8 u0 w.heap.size 25 #[.int .u64 E, .slice a n c] := by rw [hu0]; exact (Rows8.new _ _ _).alloc _
  have hR0 : Rows8 u0 (w.heap.size + 1) 25 #[.int .u64 0, .slice none 0 0] := by rw [hu0]; exact rows_new2 _ _ _ _
  have hsz : u0.heap.size = w.heap.size + 1 + 1 := by rw [hu0]; simp only [World.size_alloc]
  have hho := Try.handOf_any E hk.e.1 a n c S u0 (RowAt.below hI hB0)
  rw [hsz] at hho
  have HHO := Lib.hid hho
  have HR := Lib.hid hR
  have HB0 := Lib.hid hB0
  have HR0 := Lib.hid hR0
  have HKK := Lib.hid hk
  have HL := Lib.hid hL
  have HLB := Lib.hid hl
  have HNL := Lib.hid hnl
  have HL9 := Lib.hid hl9
  have hnl9 : nl ≤ 100000 := by omega
  have c0 : u0.cell? ⟨w.heap.size, 0, none⟩ = some (.int .u64 E) := hP0.cell 0
  have c1 : u0.cell? ⟨w.heap.size, 1, none⟩ = some (.slice a n c) := hP0.cell 1
  clear hB0 hP0 hR0 hho hR hI hk hL hl hnl hl9
  subst hu0
  go_enter Try.func26, Try.ntmps26
  go_wp2_with fail
  refine HHO.out.mono ?_
  rintro e w1 ⟨hq, hB1⟩
  unfold HofQ at hq
  have r1 := HR0.out.below hB1 (by omega)
  have hb1 := HB0.out.trans (hB1.mono (by omega))
  have hs1 : w.heap.size + 1 + 1 ≤ w1.heap.size := by have := hB1.size; rw [hsz] at this; exact this
  by_cases hr : rightN E S = true
  · rw [if_pos hr] at hq
    obtain ⟨g, m, rfl, ho⟩ := hq
    have hal : Below w1.heap.size w1 (w1.alloc (.cells #[.int .u64 E, .slice (some ⟨g, 0, none⟩) m m] 67)) := Rows8.newB
    have r2 := r1.below hal r1.lt
    have hd : Hd w1.heap.size (w.heap.size + 1 + 1) E S (w1.alloc (.cells #[.int .u64 E, .slice (some ⟨g, 0, none⟩) m m] 67)) := ⟨g, m, Rows8.new _ _ _, owns_keep ho hal (Nat.le_refl _)⟩
    have hbw := hb1.trans (hal.mono hb1.size)
    have hzz : (w1.alloc (.cells #[.int .u64 E, .slice (some ⟨g, 0, none⟩) m m] 67)).heap.size = w1.heap.size + 1 := by simp
    have HRR := Lib.hid (HR.out.trans (if_pos hr))
    have HBW := Lib.hid hbw
    have HR2 := Lib.hid r2
    have HD := Lib.hid hd
    have HRT := Lib.hid hr
    clear r1 hb1 ho hal r2 hd hbw hr hB1 HHO HR HB0 HR0 c0 c1
    go_wp2_with fail
    generalize w1.alloc (.cells #[.int .u64 E, .slice (some ⟨g, 0, none⟩) m m] 67) = W0 at *
    go_loopw [9, 23] (fun pz j wr => ∃ (k : Nat) (p : Nat) (F : Int) (U : List Int), k ≤ nl ∧ p ≤ k ∧ pz = .int .i64 p ∧ j = .int .i64 k ∧ Hid (R = runN F U p (l.drop k)) ∧ Hid (Hd w1.heap.size (w.heap.size + 1 + 1) F U wr) ∧ Hid (Okp F U ∧ rightN F U = true) ∧ Hid (Rows8 wr (w.heap.size + 1) 25 #[.int .u64 0, .slice none 0 0]) ∧ Hid (Below w.heap.size w wr) ∧ Hid (w1.heap.size < wr.heap.size)) (fun _ j _ => nl - (intOf j).toNat)
    case atStart => exact ⟨0, 0, E, S, Nat.zero_le _, Nat.le_refl _, rfl, rfl, HRR, HD, Lib.hid ⟨HKK.out, HRT.out⟩, HR2, HBW, Lib.hid (by omega)⟩
    case round =>
      obtain ⟨k, p, F, U, hkn, hpk, rfl, rfl, hRk, hd, hok, hrb, hB, hsw⟩ := hrel
      clear HD HR2 HBW HRR HRT HKK hzz hsz
      by_cases hlt : k < nl
      · have hki : (k : Int) < (nl : Int) := by omega
        have hki0 : (0 : Int) ≤ (k : Int) := by omega
        have hkl : k < l.length := by rw [← HNL.out]; exact hlt
        have hR2 := hRk.out
        rw [runN_next F U p l k hkl] at hR2
        obtain ⟨b, off, rfl, hb2, z0, z1, z2⟩ := poAt_get HL.out k hkl
        have p0 := (hB.out.cell (p := ⟨b, off + k * 3, none⟩) hb2).trans z0
        have p1 := (hB.out.cell (p := ⟨b, off + k * 3 + 1, none⟩) hb2).trans z1
        have p2 := (hB.out.cell (p := ⟨b, off + k * 3 + 2, none⟩) hb2).trans z2
        have hby := HLB.out l[k] (List.getElem_mem hkl)
        clear z0 z1 z2
        obtain ⟨t, ht⟩ : ∃ t, t = l[k] := ⟨_, rfl⟩
        rw [← ht] at p0 p1 p2 hR2 hby
        obtain ⟨kd, gr, by_⟩ := t
        dsimp only at p0 p1 p2 hby
        have hal : Below wr.heap.size wr (wr.alloc (.cells #[.int .i64 kd, .int .i64 gr, .int .u64 by_] 44)) := Rows8.newB
        have hn0 : w.heap.size + 1 + 1 ≤ w1.heap.size := hs1
        have htr := Try.try_any w1.heap.size (w.heap.size + 1 + 1) F U ⟨kd, gr, by_⟩ _ (hd.out.below hal) hok.out.1 hok.out.2 hby (by have := hal.size; have := hsw.out; omega) hn0
        dsimp only at htr
        have hso := stepP_ok hok.out.1 hok.out.2 ⟨kd, gr, by_⟩ hby
        obtain ⟨T, hT⟩ : ∃ T, T = stepP F U ⟨kd, gr, by_⟩ := ⟨_, rfl⟩
        rw [← hT] at htr hR2 hso
        obtain ⟨t1, TE, TS⟩ := T
        dsimp only at htr hR2 hso
        have HTR := Lib.hid htr
        have HR2 := Lib.hid hR2
        have HSO := Lib.hid hso
        have HB2 := Lib.hid (hB.out.trans (hal.mono hB.out.size))
        have HRB := Lib.hid (hrb.out.below hal hrb.out.lt)
        have hwl : w1.heap.size < (wr.alloc (.cells #[.int .i64 kd, .int .i64 gr, .int .u64 by_] 44)).heap.size := by have := hal.size; have := hsw.out; omega
        have HWL := Lib.hid hwl
        have hbr : b < wr.heap.size := by have := hB.out.size; omega
        clear htr hR2 hso hal hn0 hT ht hkl hRk hd hok hrb hB hsw hby hb2 hwl
        go_wp2_with fail
        refine HTR.out.mono ?_
        rintro e w3 ⟨rfl, hd3, hb3, hk3⟩
        have HD3 := Lib.hid hd3
        have HB3 := Lib.hid (HB2.out.trans (hb3.mono (by omega)))
        have r3 := hk3.rows HRB.out (by decide)
        have HR3 := Lib.hid r3
        have HW3 := Lib.hid (Nat.lt_of_lt_of_le HWL.out hb3.size)
        clear hd3 hb3 hk3 p0 p1 p2 HTR HB2 HRB HWL hbr
        by_cases h0 : t1 = 0
        · as_aux_lemma =>
            have HR4 := Lib.hid (HR2.out.trans (if_pos h0))
            have d0 : (t1 == 0) = true := by simp [h0]
            clear HR2 h0 r3
            go_wp2_with fail
            exact ⟨⟨k + 1, p, TE, TS, by omega, by omega, rfl, by go_num, HR4, HD3, HSO, HR3, HB3, HW3⟩, by simp [intOf]; omega⟩
        · have d0 : (t1 == 0) = false := by simp [h0]
          by_cases h2 : t1 = 2
          · as_aux_lemma =>
              have HR4 := Lib.hid (HR2.out.trans ((if_neg h0).trans (if_pos h2)))
              have d2 : (t1 == 2) = true := by simp [h2]
              have q0 : w3.cell? ⟨w.heap.size + 1, 0, none⟩ = some (.int .u64 0) := r3.cell 0
              have q1 : w3.cell? ⟨w.heap.size + 1, 1, none⟩ = some (.slice none 0 0) := r3.cell 1
              have f0 := r3.frozen 0
              have f1 := r3.frozen 1
              have lr := r3.lt
              have HS := Lib.hid (r3.set2 (.int .u64 0) (.slice none 0 0))
              have HB := Lib.hid ((HB3.out.setCell (p := ⟨w.heap.size + 1, 0, none⟩) (by show w.heap.size ≤ w.heap.size + 1; omega) (.int .u64 0)).setCell (p := ⟨w.heap.size + 1, 1, none⟩) (by show w.heap.size ≤ w.heap.size + 1; omega) (.slice none 0 0))
              clear HR2 h0 h2 r3
              go_wp2_with fail
              first | rw [Exit.noGoto_ret] | skip
              refine bodyPost_ret (results_ctt rfl _ _ (w.heap.size + 1) _ _ _ rfl rfl rfl (load_row HS.out Try.underlying25 rfl (by kernel_rfl))) rfl ?_
              exact ⟨⟨_, by rw [HR4.out]; rfl, by rw [HR4.out]; exact World.ownsRow_nil _ _ _ _⟩, HB.out⟩
          · as_aux_lemma =>
              have HR4 : Hid (R = runN TE TS ((p + 1 : Nat) : Int) (l.drop (k + 1))) := Lib.hid (HR2.out.trans ((if_neg h0).trans (if_neg h2)))
              have d2 : (t1 == 2) = false := by simp [h2]
              have hp9 : (p : Int) ≤ 100000 := by have := HL9.out; have := HNL.out; omega
              clear HR2 h0 h2 r3
              go_wp2_with fail
              exact ⟨⟨k + 1, p + 1, TE, TS, by omega, by omega, by go_num, by go_num, HR4, HD3, HSO, HR3, HB3, HW3⟩, by simp [intOf]; omega⟩
      · as_aux_lemma =>
          obtain rfl : k = nl := by omega
          have hki : ¬ (k : Int) < (k : Int) := by omega
          have HR4 : Hid (R = (0, F, U, (p : Int))) := Lib.hid (by rw [hRk.out, List.drop_of_length_le (Nat.le_of_eq HNL.out.symm)]; rfl)
          obtain ⟨g3, m3, h3⟩ := hd.out
          have r3 := hrb.out
          have y0 : wr.cell? ⟨w1.heap.size, 0, none⟩ = some (.int .u64 F) := h3.bx.cell 0
          have y1 : wr.cell? ⟨w1.heap.size, 1, none⟩ = some (.slice (some ⟨g3, 0, none⟩) m3 m3) := h3.bx.cell 1
          have q0 : wr.cell? ⟨w.heap.size + 1, 0, none⟩ = some (.int .u64 0) := r3.cell 0
          have q1 : wr.cell? ⟨w.heap.size + 1, 1, none⟩ = some (.slice none 0 0) := r3.cell 1
          have f0 := r3.frozen 0
          have f1 := r3.frozen 1
          have lr := r3.lt
          have HS := Lib.hid (r3.set2 (.int .u64 F) (.slice (some ⟨g3, 0, none⟩) m3 m3))
          have HO := Lib.hid (owns_setLow (owns_setLow h3.o (show w.heap.size + 1 < w.heap.size + 1 + 1 by omega) 0 (.int .u64 F)) (show w.heap.size + 1 < w.heap.size + 1 + 1 by omega) 1 (.slice (some ⟨g3, 0, none⟩) m3 m3))
          have HB := Lib.hid ((hB.out.setCell (p := ⟨w.heap.size + 1, 0, none⟩) (by show w.heap.size ≤ w.heap.size + 1; omega) (.int .u64 F)).setCell (p := ⟨w.heap.size + 1, 1, none⟩) (by show w.heap.size ≤ w.heap.size + 1; omega) (.slice (some ⟨g3, 0, none⟩) m3 m3))
          clear h3 r3 hRk hd hok hrb hB
          go_wp2_with fail
          refine bodyPost_ret (results_ctt rfl _ _ (w.heap.size + 1) _ _ _ rfl rfl rfl (load_row HS.out Try.underlying25 rfl (by kernel_rfl))) rfl ?_
          exact ⟨⟨_, by rw [HR4.out]; rfl, by rw [HR4.out]; exact owns_mono HO.out (by omega)⟩, HB.out⟩
  · as_aux_lemma =>
      rw [if_neg hr] at hq
      obtain rfl := hq
      have hal : Below w1.heap.size w1 (w1.alloc (.cells #[.int .u64 0, .slice none 0 0] 67)) := Rows8.newB
      have r2 := r1.below hal r1.lt
      have hbw := hb1.trans (hal.mono hb1.size)
      have hfin : Hid (R = (230, 0, [], 0)) := Lib.hid (HR.out.trans (if_neg hr))
      have q0 : (w1.alloc (.cells #[.int .u64 0, .slice none 0 0] 67)).cell? ⟨w.heap.size + 1, 0, none⟩ = some (.int .u64 0) := r2.cell 0
      have q1 : (w1.alloc (.cells #[.int .u64 0, .slice none 0 0] 67)).cell? ⟨w.heap.size + 1, 1, none⟩ = some (.slice none 0 0) := r2.cell 1
      have f0 := r2.frozen 0
      have f1 := r2.frozen 1
      have lr := r2.lt
      have HS := Lib.hid (r2.set2 (.int .u64 0) (.slice none 0 0))
      have HB := Lib.hid ((hbw.setCell (p := ⟨w.heap.size + 1, 0, none⟩) (by show w.heap.size ≤ w.heap.size + 1; omega) (.int .u64 0)).setCell (p := ⟨w.heap.size + 1, 1, none⟩) (by show w.heap.size ≤ w.heap.size + 1; omega) (.slice none 0 0))
      clear r1 hb1 hal r2 hbw hr hB1 HHO HR HB0 HR0 c0 c1
      go_wp2_with fail
      refine bodyPost_ret (results_ctt rfl _ _ (w.heap.size + 1) _ _ _ rfl rfl rfl (load_row HS.out Try.underlying25 rfl (by kernel_rfl))) rfl ?_
      exact ⟨⟨_, by rw [hfin.out]; rfl, by rw [hfin.out]; exact World.ownsRow_nil _ _ _ _⟩, HB.out⟩
end Go.Proofs
