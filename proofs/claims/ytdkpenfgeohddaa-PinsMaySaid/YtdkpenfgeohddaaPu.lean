/- Pins: Clone of ops; spoil; the reference's Run. -/
import Derived.Test.YtdkpenfgeohddaaPt
namespace Go.Proofs
set_option maxRecDepth 100000
open Go.RowKit Go.Shelf
attribute [local go_sem] Oper.semAt_some

theorem Try.infoPo : (Try.prog.info? 44).map (fun i => (i.zero, i.size, i.bytes)) = some (some (.agg #[.int .i64 0, .int .i64 0, .int .u64 0]), 3, 24) := by kernel_rfl
def OwnsPo (n₀ : Nat) (ws : List Po) (v : Value) (W : World) : Prop := W.ownsRow n₀ 44 3 v ws.length (poVals ws)
set_option maxHeartbeats 2000000 in
theorem Try.clonePo_any (a : Option Addr) (n cap : Nat) (ws : List Po) (hn : n = ws.length) (hl : n ≤ 100000) (w : World) (hI : PoAt w (.slice a n cap) ws) :
    Calls Try.prog 22 #[.slice a n cap] w (fun e w' => ∃ v, e = .returned v ∧ OwnsPo w.heap.size ws v w' ∧ Below w.heap.size w w') := by
  obtain ⟨i0, hi, hz0, hz1, hz2⟩ := info_parts Try.infoPo
  cases a with
  | none =>
    obtain ⟨h0, a', cap', e, h1, h2, h3, h4⟩ := hI
    cases e
    have hc0 : cap = 0 := h3 rfl
    subst hc0
    have hw0 : ws = [] := List.eq_nil_of_length_eq_zero (by omega)
    subst hw0
    have hnil := fun wx : World => Lib.run_eql_slice_nil (P := Try.prog) wx 41 44 none 0 0 0 0 Try.underlying41
    simp only [List.length_nil]
    clear h0 h1 h2 h3 h4 hn hl
    go_enter Try.func22, Try.ntmps22
    go_wp2
    go_ret
    exact ⟨_, rfl, World.ownsRow_nil _ _ _ _, Below.refl _ _⟩
  | some x =>
    have hnil := fun wx : World => Lib.run_eql_slice_nil (P := Try.prog) wx 41 44 (some x) n cap 0 0 Try.underlying41
    subst hn
    have hsrc := row_src hI
    have HC := Lib.hid hsrc
    clear hI hsrc
    have hO : OwnsPo w.heap.size [] (.slice (some ⟨w.heap.size, 0, none⟩) 0 0) (w.alloc (.cells #[] 44)) := World.ownsRow_lit w #[] 0 (Nat.le_refl _) (by unfold maxLen; omega) rfl
    have hB : Below w.heap.size w (w.alloc (.cells #[] 44)) := (Below.refl _ w).alloc (Nat.le_refl _) _
    have HO := Lib.hid hO
    clear hO
    go_enter Try.func22, Try.ntmps22
    go_wp2_with (at_builtin; refine wpList_append_own _ rfl _ _ 41 rfl w.heap.size 44 i0 (.agg #[.int .i64 0, .int .i64 0, .int .u64 0]) 3 24 Try.underlying41 hi hz0 hz1 hz2 rfl (by decide) _ _ _ rfl HO.out x ws.length cap (poVals ws) rfl ?c1 ?c2 ?c3 ?c4 ?c5 ?c6 ?_)
    case c1 => rw [poVals_length]
    case c2 =>
      intro j u hu
      have h := HC.out j u hu
      have hlt : x.block < w.heap.size := by
        have hk := h
        unfold World.cell? at hk
        rcases Nat.lt_or_ge (x.add j).block w.heap.size with hq | hq
        · have : (x.add j).block = x.block := by unfold Addr.add; split <;> rfl
          omega
        · rw [Array.getElem?_eq_none hq] at hk
          cases hk
      have hblk : (x.add j).block = x.block := by unfold Addr.add; split <;> rfl
      exact (hB.cell (p := x.add j) (by rw [hblk]; exact hlt)).trans h
    case c3 => exact poVals_one ws
    case c4 => simp; unfold maxLen; omega
    case c5 => simp; omega
    case c6 => simp
    intro v' w1 hown' hgrow _
    have hB1 : Below w.heap.size w w1 := hB.grown hgrow (by simp) (fun j ej => (World.ownsRow.lt HO.out j ej).1)
    have hO2 : OwnsPo w.heap.size ws v' w1 := by
      unfold OwnsPo
      simpa [poVals] using hown'
    have HO2 := Lib.hid hO2
    clear hO2 hown' hgrow
    go_wp2
    go_ret
    exact ⟨_, rfl, HO2.out, hB1⟩

theorem stepP_err {E : Int} {S : List Int} {o : Po} (h : (stepP E S o).1 ≠ 0) : (stepP E S o).2 = (E, S) := by
  unfold stepP goN pinN unpinN at h ⊢
  repeat' split at h
  all_goals first | rfl | (exact absurd rfl h) | skip
  all_goals (repeat' split)
  all_goals first | rfl | (exfalso; simp_all; done) | omega
theorem incr_words {n₀ g n : Nat} {L : List Int} {W : World} (o : OwnsWords n₀ L (.slice (some ⟨g, 0, none⟩) n n) W) : True := trivial
/-- A row that the call owns, somewhere in its block's beginning. -/
theorem ownsWords_rows {n₀ n c : Nat} {a : Option Addr} {L : List Int} {W : World} (o : OwnsWords n₀ L (.slice a n c) W) (k : Nat) (hk : k < L.length) : ∃ g cur, a = some ⟨g, 0, none⟩ ∧ Rows8 W g 22 cur ∧ n₀ ≤ g ∧ W.cell? ⟨g, k, none⟩ = some (.int .u64 (L[k]?.getD 0)) := by
  have hr := rowAt_own o
  rcases o.2 with ⟨h0, h1⟩ | ⟨g, cap, cur, e, hg, hh, _⟩
  · rw [h1] at hk
    exact absurd hk (Nat.not_lt_zero _)
  · cases e
    obtain ⟨b, off, e, _, hc⟩ := wordsAt_get (show WordsAt W _ L from hr) k hk
    cases e
    rw [Nat.zero_add] at hc
    exact ⟨g, cur, rfl, hh, hg, hc⟩
theorem ownsWords_set2 {n₀ g n c : Nat} {S : List Int} {W : World} (o : OwnsWords n₀ S (.slice (some ⟨g, 0, none⟩) n c) W) (k : Nat) (z : Int) : OwnsWords n₀ (S.set k z) (.slice (some ⟨g, 0, none⟩) n c) (W.setCell ⟨g, k, none⟩ (.int .u64 z)) := by
  have hn := (wordsAt_len (rowAt_own o)).1
  subst hn
  unfold OwnsWords at o ⊢
  rw [List.length_set, wordVals_set]
  exact (World.ownsRow.stored o k (.int .u64 z)).1
set_option maxHeartbeats 4000000 in
theorem Try.spoil_any (E : Int) (a : Option Addr) (n c n₀ : Nat) (L : List Int) (hl : L.length ≤ 1000) (w : World) (hO : OwnsWords n₀ L (.slice a n c) w) (hn0 : n₀ ≤ w.heap.size) :
    Calls Try.prog 25 #[.agg #[.int .u64 E, .slice a n c]] w fun e w' => e = .returned (.tuple #[]) ∧ Below n₀ w w' := by
  have hn := (wordsAt_len (rowAt_own hO)).1
  have hn1 : n ≤ 1000 := by omega
  have hB0 : Below w.heap.size w (w.alloc (.cells #[.int .u64 E, .slice a n c] 25)) := Rows8.newB
  have P0 := Lib.hid (Rows8.new w 25 #[.int .u64 E, .slice a n c])
  have c1 : (w.alloc (.cells #[.int .u64 E, .slice a n c] 25)).cell? ⟨w.heap.size, 1, none⟩ = some (.slice a n c) := P0.out.cell 1
  have O0 : Hid (OwnsWords n₀ L (.slice a n c) (w.alloc (.cells #[.int .u64 E, .slice a n c] 25))) := Lib.hid (owns_keep hO hB0 (Nat.le_refl _))
  have HB0 := Lib.hid (hB0.mono hn0)
  have HN := Lib.hid hn
  clear hO hB0 hn hl
  go_enter Try.func25, Try.ntmps25
  go_wp2_with fail
  generalize w.alloc (.cells #[.int .u64 E, .slice a n c] 25) = W0 at *
  go_loopw [6] (fun j wr => ∃ (k : Nat) (M : List Int), k ≤ n ∧ j = .int .i64 k ∧ Hid (M.length = L.length) ∧ Hid (OwnsWords n₀ M (.slice a n c) wr) ∧ Hid (Rows8 wr w.heap.size 25 #[.int .u64 E, .slice a n c]) ∧ Hid (Below n₀ w wr)) (fun j _ => n - (intOf j).toNat)
  case atStart => exact ⟨0, L, Nat.zero_le _, rfl, Lib.hid rfl, O0, P0, HB0⟩
  case round =>
    obtain ⟨k, M, hk, rfl, hM, hO, hP, hB⟩ := hrel
    clear P0 O0 HB0 c1
    by_cases hlt : k < n
    · have hkl : k < M.length := by rw [hM.out, ← HN.out]; exact hlt
      obtain ⟨g, cur, rfl, rc, hg, cz⟩ := ownsWords_rows hO.out k hkl
      have c1 : wr.cell? ⟨w.heap.size, 1, none⟩ = some (.slice (some ⟨g, 0, none⟩) n c) := hP.out.cell 1
      have fz := rc.frozen k
      have lz := rc.lt
      have hki : (k : Int) < (n : Int) := by omega
      have hki0 : (0 : Int) ≤ (k : Int) := by omega
      obtain ⟨z, hz⟩ : ∃ z, z = IntKind.u64.wrap (M[k]?.getD 0 + 1) := ⟨_, rfl⟩
      generalize M[k]?.getD 0 = y at *
      have O2 := Lib.hid (ownsWords_set2 hO.out k z)
      have M2 : Hid ((M.set k z).length = L.length) := Lib.hid (by rw [List.length_set]; exact hM.out)
      have P2 := Lib.hid (hP.out.setOther (a := ⟨g, k, none⟩) (fun e => rows_apart hP.out rc (by decide) e.symm) (.int .u64 z))
      have B2 := Lib.hid (hB.out.setCell (p := ⟨g, k, none⟩) hg (.int .u64 z))
      have hw : IntKind.u64.wrap (y + 1) = z := hz.symm
      clear hz hkl rc hO hP hB hM hg
      go_wp2_with fail
      exact ⟨⟨k + 1, _, by omega, by go_num, M2, O2, P2, B2⟩, by simp [intOf]; omega⟩
    · obtain rfl : k = n := by omega
      have hki : ¬ (k : Int) < (k : Int) := by omega
      go_wp2_with fail
      go_end0
      exact ⟨rfl, hB.out⟩
set_option maxHeartbeats 16000000 in
theorem Try.refRun_any (E : Int) (a : Option Addr) (n c : Nat) (S : List Int) (al : Option Addr) (nl cl : Nat) (l : List Po) (w : World) (hI : WordsAt w (.slice a n c) S) (hk : Okp E S) (hr : rightN E S = true) (hL : PoAt w (.slice al nl cl) l) (hl : ∀ o ∈ l, okO o) (hl9 : l.length ≤ 100000) :
    Calls Try.prog 27 #[.agg #[.int .u64 E, .slice a n c], .slice al nl cl] w fun e w' => RunQ w.heap.size (runP E S l) e w' ∧ Below w.heap.size w w' := by
  obtain ⟨R, hR⟩ : ∃ R, R = runP E S l := ⟨_, rfl⟩
  rw [← hR]
  have hR1 : R = runN E S 0 l := hR.trans (if_pos hr)
  have h8 := right_len hr
  have hnl := (poAt_len hL).1
  have hnl9 : nl ≤ 100000 := by omega
  obtain ⟨u0, hu0⟩ : ∃ u, u = (w.alloc (.cells #[.int .u64 E, .slice a n c] 25)).alloc (.cells #[.int .u64 0, .slice none 0 0] 25) := ⟨_, rfl⟩
  have hB0 : Below w.heap.size w u0 := by rw [hu0]; exact (Rows8.newB).alloc (by simp) _
  have hP0 : Rows8 u0 w.heap.size 25 #[.int .u64 E, .slice a n c] := by rw [hu0]; exact (Rows8.new _ _ _).alloc _
  have hR0 : Rows8 u0 (w.heap.size + 1) 25 #[.int .u64 0, .slice none 0 0] := by rw [hu0]; exact rows_new2 _ _ _ _
  have hsz : u0.heap.size = w.heap.size + 1 + 1 := by rw [hu0]; simp only [World.size_alloc]
  have hwi := Try.with_any E a n c S (-1) 0 (by omega) u0 (RowAt.below hI hB0)
  rw [withL_none, hsz] at hwi
  have HWI := Lib.hid hwi
  have HR := Lib.hid hR1
  have HB0 := Lib.hid hB0
  have HP0 := Lib.hid hP0
  have HR0 := Lib.hid hR0
  have HKK := Lib.hid (And.intro hk hr)
  have HL := Lib.hid hL
  have HLB := Lib.hid hl
  have HNL := Lib.hid hnl
  have c0 : u0.cell? ⟨w.heap.size, 0, none⟩ = some (.int .u64 E) := hP0.cell 0
  have c1 : u0.cell? ⟨w.heap.size, 1, none⟩ = some (.slice a n c) := hP0.cell 1
  clear hB0 hP0 hR0 hwi hR hR1 hI hk hr hL hl hnl hl9 h8
  go_enter Try.func27, Try.ntmps27
  go_upto_region 1 with fail
  rw [← hu0]
  clear hu0
  go_wp2_with fail
  refine HWI.out.mono ?_
  rintro e w1 ⟨⟨v, rfl, ho⟩, hB1⟩
  obtain ⟨a1, n1, d1, rfl, -⟩ := ho.form2
  have p1 := HP0.out.below hB1 (by omega)
  have r1 := HR0.out.below hB1 (by omega)
  have b1 := HB0.out.trans (hB1.mono (by omega))
  have hs1 : w.heap.size + 1 + 1 ≤ w1.heap.size := by have := hB1.size; omega
  have k0 : w1.cell? ⟨w.heap.size, 0, none⟩ = some (.int .u64 E) := p1.cell 0
  have k1 : w1.cell? ⟨w.heap.size, 1, none⟩ = some (.slice a n c) := p1.cell 1
  have f0 := p1.frozen 0
  have f1 := p1.frozen 1
  have lp := p1.lt
  have P2 := Lib.hid (p1.set2 (.int .u64 E) (.slice a1 n1 d1))
  have R2 := Lib.hid ((r1.setOther (a := ⟨w.heap.size, 0, none⟩) (by simp) (.int .u64 E)).setOther (a := ⟨w.heap.size, 1, none⟩) (by simp) (.slice a1 n1 d1))
  have O2 : Hid (OwnsWords (w.heap.size + 1 + 1) S (.slice a1 n1 d1) _) := Lib.hid (owns_setLow (owns_setLow ho (show w.heap.size < w.heap.size + 1 + 1 by omega) 0 (.int .u64 E)) (show w.heap.size < w.heap.size + 1 + 1 by omega) 1 (.slice a1 n1 d1))
  have B2 := Lib.hid ((b1.setCell (p := ⟨w.heap.size, 0, none⟩) (Nat.le_refl _) (.int .u64 E)).setCell (p := ⟨w.heap.size, 1, none⟩) (Nat.le_refl _) (.slice a1 n1 d1))
  clear p1 r1 b1 ho hB1 HWI HB0 HP0 HR0 c0 c1
  go_upto_region 3 with fail
  have hz2 : w.heap.size + 1 + 1 ≤ ((w1.setCell ⟨w.heap.size, 0, none⟩ (.int .u64 E)).setCell ⟨w.heap.size, 1, none⟩ (.slice a1 n1 d1)).heap.size := by simpa [World.setCell] using hs1
  generalize ((w1.setCell ⟨w.heap.size, 0, none⟩ (.int .u64 E)).setCell ⟨w.heap.size, 1, none⟩ (.slice a1 n1 d1)) = W2 at *
  clear k0 k1 f0 f1 lp hs1
  go_wp2_with fail
  go_loopw [7, 16] (fun pz j wr => ∃ (k p : Nat) (F : Int) (X : List Int) (a3 : Option Addr) (n3 d3 : Nat), k ≤ nl ∧ p ≤ k ∧ pz = .int .i64 p ∧ j = .int .i64 k ∧ Hid (R = runN F X p (l.drop k)) ∧ Hid (Okp F X ∧ rightN F X = true) ∧ Hid (Rows8 wr w.heap.size 25 #[.int .u64 F, .slice a3 n3 d3]) ∧ Hid (Rows8 wr (w.heap.size + 1) 25 #[.int .u64 0, .slice none 0 0]) ∧ Hid (OwnsWords (w.heap.size + 1 + 1) X (.slice a3 n3 d3) wr) ∧ Hid (Below w.heap.size w wr) ∧ Hid (w.heap.size + 1 + 1 ≤ wr.heap.size)) (fun _ j _ => nl - (intOf j).toNat)
  case atStart => exact ⟨0, 0, E, S, a1, n1, d1, Nat.zero_le _, Nat.le_refl _, rfl, rfl, HR, HKK, P2, R2, O2, B2, Lib.hid hz2⟩
  case round =>
    obtain ⟨k, p, F, X, a3, n3, d3, hkn, hpk, rfl, rfl, hRk, hok, hP, hRb, hO, hB, hz⟩ := hrel
    clear P2 R2 O2 B2 HR HKK hz2
    by_cases hlt : k < nl
    · have hki : (k : Int) < (nl : Int) := by omega
      have hki0 : (0 : Int) ≤ (k : Int) := by omega
      have hkl : k < l.length := by rw [← HNL.out]; exact hlt
      have hR2 := hRk.out
      rw [runN_next F X p l k hkl] at hR2
      obtain ⟨b, off, rfl, hb2, z0, z1, z2⟩ := poAt_get HL.out k hkl
      have p0 := (hB.out.cell (p := ⟨b, off + k * 3, none⟩) hb2).trans z0
      have p1 := (hB.out.cell (p := ⟨b, off + k * 3 + 1, none⟩) hb2).trans z1
      have p2 := (hB.out.cell (p := ⟨b, off + k * 3 + 2, none⟩) hb2).trans z2
      have hby := HLB.out l[k] (List.getElem_mem hkl)
      have hbr : b < wr.heap.size := by have := hB.out.size; omega
      clear z0 z1 z2
      obtain ⟨t, ht⟩ : ∃ t, t = l[k] := ⟨_, rfl⟩
      rw [← ht] at p0 p1 p2 hR2 hby
      obtain ⟨kd, gr, by_⟩ := t
      dsimp only at p0 p1 p2
      unfold okO at hby
      dsimp only at hby
      have hal : Below wr.heap.size wr (wr.alloc (.cells #[.int .i64 kd, .int .i64 gr, .int .u64 by_] 44)) := Rows8.newB
      have hO1 : OwnsWords (w.heap.size + 1 + 1) X (.slice a3 n3 d3) (wr.alloc (.cells #[.int .i64 kd, .int .i64 gr, .int .u64 by_] 44)) := owns_keep hO.out hal (Nat.le_refl _)
      have hdo := Try.refDo_any F a3 n3 d3 X ⟨kd, gr, by_⟩ _ hO1.at hok.out.1 hok.out.2 hby
      have hq1 := fun h => doP_ok (E := F) (S := X) (o := ⟨kd, gr, by_⟩) h
      have hq2 := fun h => doP_err (E := F) (S := X) (o := ⟨kd, gr, by_⟩) h
      have hso := stepP_ok hok.out.1 hok.out.2 ⟨kd, gr, by_⟩ hby.1
      have hse := fun h => stepP_err (E := F) (S := X) (o := ⟨kd, gr, by_⟩) h
      have hdd : (doP F X ⟨kd, gr, by_⟩).1 = (stepP F X ⟨kd, gr, by_⟩).1 := by rw [doP_of hok.out.2]; split <;> rfl
      dsimp only at hdo
      obtain ⟨ST, hST⟩ : ∃ T, T = stepP F X ⟨kd, gr, by_⟩ := ⟨_, rfl⟩
      obtain ⟨DT, hDT⟩ : ∃ T, T = doP F X ⟨kd, gr, by_⟩ := ⟨_, rfl⟩
      rw [← hDT] at hdo hq1 hq2 hdd
      rw [← hST] at hR2 hso hq1 hse hdd
      obtain ⟨t1, TE, TS⟩ := DT
      obtain ⟨s1, SE, SS⟩ := ST
      obtain rfl : t1 = s1 := hdd
      dsimp only at hR2 hso hse
      have HDO := Lib.hid hdo
      have HR2 := Lib.hid hR2
      have HSO := Lib.hid hso
      have HSE := Lib.hid hse
      have HQ1 := Lib.hid hq1
      have HO1 := Lib.hid hO1
      have HP1 := Lib.hid (hP.out.below hal hP.out.lt)
      have HR1 := Lib.hid (hRb.out.below hal hRb.out.lt)
      have HB1 := Lib.hid (hB.out.trans (hal.mono hB.out.size))
      have HOP := Lib.hid (Rows8.new wr 44 #[.int .i64 kd, .int .i64 gr, .int .u64 by_])
      have HZ1 := Lib.hid (Nat.le_trans hz.out hal.size)
      clear hdo hR2 hso hse hq1 hq2 hO1 hal hP hRb hB hO hz hRk hkl ht hby hb2 hST hDT
      go_upto_region 6 with fail
      generalize (wr.alloc (.cells #[.int .i64 kd, .int .i64 gr, .int .u64 by_] 44)) = W5 at *
      obtain ⟨b5, hb5⟩ : ∃ b, b = wr.heap.size := ⟨_, rfl⟩
      rw [← hb5] at HOP ⊢
      clear hb5 p0 p1 p2 hbr
      have e0 : W5.cell? ⟨b5, 0, none⟩ = some (.int .i64 kd) := HOP.out.cell 0
      have e1 : W5.cell? ⟨b5, 1, none⟩ = some (.int .i64 gr) := HOP.out.cell 1
      have e2 : W5.cell? ⟨b5, 2, none⟩ = some (.int .u64 by_) := HOP.out.cell 2
      have k0 : W5.cell? ⟨w.heap.size, 0, none⟩ = some (.int .u64 F) := HP1.out.cell 0
      have k1 : W5.cell? ⟨w.heap.size, 1, none⟩ = some (.slice a3 n3 d3) := HP1.out.cell 1
      go_wp2_with fail
      refine HDO.out.mono ?_
      rintro e w7 ⟨⟨v, rfl, hv⟩, hB⟩
      obtain ⟨a5, n5, d5, rfl, -⟩ := hv.form2
      have hal : Below w7.heap.size w7 (w7.alloc (.cells #[.int .u64 TE, .slice a5 n5 d5] 25)) := Rows8.newB
      have hB5 := hB.trans (hal.mono hB.size)
      have V5 : Hid (OwnsWords (w.heap.size + 1 + 1) TS (.slice a5 n5 d5) (w7.alloc (.cells #[.int .u64 TE, .slice a5 n5 d5] 25))) := Lib.hid (owns_keep (owns_mono hv HZ1.out) hal (Nat.le_refl _))
      have P5 := Lib.hid (HP1.out.below hB5 HP1.out.lt)
      have R5 := Lib.hid (HR1.out.below hB5 HR1.out.lt)
      have N5 := Lib.hid (Rows8.new w7 25 #[.int .u64 TE, .slice a5 n5 d5])
      have O5 : Hid (OwnsWords (w.heap.size + 1 + 1) X (.slice a3 n3 d3) (w7.alloc (.cells #[.int .u64 TE, .slice a5 n5 d5] 25))) := Lib.hid (owns_keep HO1.out hB5 (Nat.le_refl _))
      have B5 := Lib.hid (HB1.out.trans (hB5.mono HB1.out.size))
      have Z5 := Lib.hid (Nat.le_trans HZ1.out hB5.size)
      clear hv hB hal hB5 HP1 HR1 HO1 HB1 HOP HZ1 HDO e0 e1 e2 k0 k1
      go_upto_region 7 with fail
      generalize (w7.alloc (.cells #[.int .u64 TE, .slice a5 n5 d5] 25)) = W8 at *
      obtain ⟨b8, hb8⟩ : ∃ b, b = w7.heap.size := ⟨_, rfl⟩
      rw [← hb8] at N5 ⊢
      clear hb8
      have l5 := P5.out.lt
      by_cases h0 : t1 = 0
      · as_aux_lemma =>
          have d0 : (t1 == 0) = true := by simp [h0]
          obtain ⟨_, _, hse⟩ := HQ1.out h0
          obtain ⟨rfl, rfl⟩ : TE = SE ∧ TS = SS := by injection hse with _ h; injection h with h1 h2; exact ⟨h1, h2⟩
          have HR4 := Lib.hid (HR2.out.trans (if_pos h0))
          have e0 : W8.cell? ⟨b8, 0, none⟩ = some (.int .u64 TE) := N5.out.cell 0
          have e1 : W8.cell? ⟨b8, 1, none⟩ = some (.slice a5 n5 d5) := N5.out.cell 1
          have k0 : W8.cell? ⟨w.heap.size, 0, none⟩ = some (.int .u64 F) := P5.out.cell 0
          have k1 : W8.cell? ⟨w.heap.size, 1, none⟩ = some (.slice a3 n3 d3) := P5.out.cell 1
          have f0 := P5.out.frozen 0
          have f1 := P5.out.frozen 1
          have P9 := Lib.hid (P5.out.set2 (.int .u64 TE) (.slice a5 n5 d5))
          have R9 := Lib.hid ((R5.out.setOther (a := ⟨w.heap.size, 0, none⟩) (by simp) (.int .u64 TE)).setOther (a := ⟨w.heap.size, 1, none⟩) (by simp) (.slice a5 n5 d5))
          have O9 : Hid (OwnsWords (w.heap.size + 1 + 1) TS (.slice a5 n5 d5) _) := Lib.hid (owns_setLow (owns_setLow V5.out (show w.heap.size < w.heap.size + 1 + 1 by omega) 0 (.int .u64 TE)) (show w.heap.size < w.heap.size + 1 + 1 by omega) 1 (.slice a5 n5 d5))
          have B9 := Lib.hid ((B5.out.setCell (p := ⟨w.heap.size, 0, none⟩) (Nat.le_refl _) (.int .u64 TE)).setCell (p := ⟨w.heap.size, 1, none⟩) (Nat.le_refl _) (.slice a5 n5 d5))
          have Z9 : Hid (w.heap.size + 1 + 1 ≤ ((W8.setCell ⟨w.heap.size, 0, none⟩ (.int .u64 TE)).setCell ⟨w.heap.size, 1, none⟩ (.slice a5 n5 d5)).heap.size) := Lib.hid (by have := Z5.out; simpa [World.setCell] using this)
          clear HR2 h0 hse HQ1 HSE P5 R5 O5 V5 B5 N5 Z5
          go_wp2_with fail
          exact ⟨⟨k + 1, p, TE, TS, a5, n5, d5, by omega, by omega, rfl, by go_num, HR4, HSO, P9, R9, O9, B9, Z9⟩, by simp [intOf]; omega⟩
      · have d0 : (t1 == 0) = false := by simp [h0]
        by_cases h2 : t1 = 2
        · as_aux_lemma =>
            have HR4 := Lib.hid (HR2.out.trans ((if_neg h0).trans (if_pos h2)))
            have d2 : (t1 == 2) = true := by simp [h2]
            have q0 : W8.cell? ⟨w.heap.size + 1, 0, none⟩ = some (.int .u64 0) := R5.out.cell 0
            have q1 : W8.cell? ⟨w.heap.size + 1, 1, none⟩ = some (.slice none 0 0) := R5.out.cell 1
            have f0 := R5.out.frozen 0
            have f1 := R5.out.frozen 1
            have lr := R5.out.lt
            have HS := Lib.hid (R5.out.set2 (.int .u64 0) (.slice none 0 0))
            have HB := Lib.hid ((B5.out.setCell (p := ⟨w.heap.size + 1, 0, none⟩) (by show w.heap.size ≤ w.heap.size + 1; omega) (.int .u64 0)).setCell (p := ⟨w.heap.size + 1, 1, none⟩) (by show w.heap.size ≤ w.heap.size + 1; omega) (.slice none 0 0))
            have HT2 := Lib.hid h2
            clear HR2 h0 h2 HQ1 HSE HSO P5 R5 O5 V5 B5 N5 Z5
            go_wp2_with fail
            first | rw [Exit.noGoto_ret] | skip
            refine bodyPost_ret (results_ctt rfl _ _ (w.heap.size + 1) _ _ _ rfl rfl rfl (load_row HS.out Try.underlying25 rfl (by kernel_rfl))) rfl ?_
            exact ⟨⟨_, by rw [HR4.out, HT2.out]; rfl, by rw [HR4.out]; exact World.ownsRow_nil _ _ _ _⟩, HB.out⟩
        · as_aux_lemma =>
            have hsame := HSE.out h0
            obtain ⟨rfl, rfl⟩ : SE = F ∧ SS = X := by injection hsame with h1 h2; exact ⟨h1, h2⟩
            have HR4 : Hid (R = runN SE SS ((p + 1 : Nat) : Int) (l.drop (k + 1))) := Lib.hid (HR2.out.trans ((if_neg h0).trans (if_neg h2)))
            have d2 : (t1 == 2) = false := by simp [h2]
            have hp9 : (p : Int) ≤ 100000 := by omega
            clear HR2 h0 h2 HQ1 HSE hsame
            go_wp2_with fail
            exact ⟨⟨k + 1, p + 1, SE, SS, a3, n3, d3, by omega, by omega, by go_num, by go_num, HR4, HSO, P5, R5, O5, B5, Z5⟩, by simp [intOf]; omega⟩
    · as_aux_lemma =>
        obtain rfl : k = nl := by omega
        have hki : ¬ (k : Int) < (k : Int) := by omega
        have HR4 : Hid (R = (0, F, X, (p : Int))) := Lib.hid (by rw [hRk.out, List.drop_of_length_le (Nat.le_of_eq HNL.out.symm)]; rfl)
        have r3 := hRb.out
        have y0 : wr.cell? ⟨w.heap.size, 0, none⟩ = some (.int .u64 F) := hP.out.cell 0
        have y1 : wr.cell? ⟨w.heap.size, 1, none⟩ = some (.slice a3 n3 d3) := hP.out.cell 1
        have q0 : wr.cell? ⟨w.heap.size + 1, 0, none⟩ = some (.int .u64 0) := r3.cell 0
        have q1 : wr.cell? ⟨w.heap.size + 1, 1, none⟩ = some (.slice none 0 0) := r3.cell 1
        have f0 := r3.frozen 0
        have f1 := r3.frozen 1
        have lr := r3.lt
        have HS := Lib.hid (r3.set2 (.int .u64 F) (.slice a3 n3 d3))
        have HO := Lib.hid (owns_mono (n₀ := w.heap.size) (owns_setLow (owns_setLow hO.out (show w.heap.size + 1 < w.heap.size + 1 + 1 by omega) 0 (.int .u64 F)) (show w.heap.size + 1 < w.heap.size + 1 + 1 by omega) 1 (.slice a3 n3 d3)) (by omega))
        have HB := Lib.hid ((hB.out.setCell (p := ⟨w.heap.size + 1, 0, none⟩) (by show w.heap.size ≤ w.heap.size + 1; omega) (.int .u64 F)).setCell (p := ⟨w.heap.size + 1, 1, none⟩) (by show w.heap.size ≤ w.heap.size + 1; omega) (.slice a3 n3 d3))
        clear r3 hRk hok hP hRb hO hB hz
        go_wp2_with fail
        refine bodyPost_ret (results_ctt rfl _ _ (w.heap.size + 1) _ _ _ rfl rfl rfl (load_row HS.out Try.underlying25 rfl (by kernel_rfl))) rfl ?_
        exact ⟨⟨_, by rw [HR4.out]; rfl, by rw [HR4.out]; exact HO.out⟩, HB.out⟩
end Go.Proofs
