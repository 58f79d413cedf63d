/- The document's answers of cells, as functions: with, Do. -/
import Derived.Test.YtafccppobhhelaaDa
import Derived.Test.YtafccppobhhelaaCn
import Derived.Test.YtafccppobhhelaaCt
namespace Go.Proofs
open Go.RowKit Go.Shelf
attribute [local go_sem] Oper.semAt_some

set_option maxRecDepth 100000 in
set_option maxHeartbeats 1000000 in
theorem Try.refWith2_any (a : Option Addr) (n cap : Nat) (ws : List Int) (hn : n = ws.length) (hl : n ≤ 10000) (k : Int) (hk0 : 0 ≤ k) (hk : k < n) (y : Int) (w : World) (hI : WordsAt w (.slice a n cap) ws) :
    Calls Try.prog 67 #[.slice a n cap, .int .i64 k, .int .u64 y] w (WordsQ (ws.set k.toNat y) w) := by
  obtain ⟨i0, hi, hz0, hz1, hz2⟩ := info_parts Try.infoWord
  subst hn
  cases a with
  | none =>
    obtain ⟨h0, a', cap', e, h1, h2, h3, h4⟩ := hI
    cases e
    have hc0 : cap = 0 := h3 rfl
    omega
  | some x =>
    have hsrc := row_src hI
    have HC := Lib.hid hsrc
    clear hI hsrc
    have hO : OwnsWords w.heap.size [] (.slice (some ⟨w.heap.size, 0, none⟩) 0 0) (w.alloc (.cells #[] 25)) := World.ownsRow_lit w #[] 0 (Nat.le_refl _) (by unfold maxLen; omega) rfl
    have hB : Below w.heap.size w (w.alloc (.cells #[] 25)) := (Below.refl _ w).alloc (Nat.le_refl _) _
    have HO := Lib.hid hO
    clear hO
    go_enter Try.func67, Try.ntmps67
    go_wp2_with (at_builtin; refine wpList_append_own _ rfl _ _ 22 rfl w.heap.size 25 i0 (.int .u64 0) 1 8 Try.underlying22 hi hz0 hz1 hz2 rfl (by decide) _ _ _ rfl HO.out x ws.length cap (wordVals ws) rfl ?c1 ?c2 ?c3 ?c4 ?c5 ?c6 ?_)
    case c1 => rw [wordVals_length]; omega
    case c2 =>
      intro j u hu
      have h := HC.out j u hu
      have hlt : x.block < w.heap.size := by
        have hk := h
        unfold World.cell? at hk
        rcases Nat.lt_or_ge (x.add j).block w.heap.size with hq | hq
        · have : (x.add j).block = x.block := by unfold Addr.add; split <;> rfl
          omega
        · rw [Array.getElem?_eq_none hq] at hk
          cases hk
      have hblk : (x.add j).block = x.block := by unfold Addr.add; split <;> rfl
      exact (hB.cell (p := x.add j) (by rw [hblk]; exact hlt)).trans h
    case c3 => exact wordVals_one ws
    case c4 => simp; unfold maxLen; omega
    case c5 => simp; omega
    case c6 => simp
    intro v' w1 hown' hgrow _
    have hB1 : Below w.heap.size w w1 := hB.grown hgrow (by simp) (fun j ej => (World.ownsRow.lt HO.out j ej).1)
    have hO2 : OwnsWords w.heap.size ws v' w1 := by
      unfold OwnsWords
      simpa [wordVals] using hown'
    obtain ⟨g, cg, rfl, hg1, hg2⟩ := World.ownsRow.form hO2 (by omega)
    have hcl := words_cell hO2 k.toNat (by omega)
    have hfr := words_frozen hO2 k.toNat
    have hset := words_set hO2 k.toNat y
    have hBs := hB1.setCell (p := ⟨g, k.toNat, none⟩) hg1 (.int .u64 y)
    have HSET := Lib.hid hset
    have HBS := Lib.hid hBs
    clear hO2 hown' hgrow hset hBs hB hB1
    generalize ws[k.toNat]?.getD 0 = old at *
    go_wp2
    go_ret
    refine ⟨_, rfl, ?_, HBS.out⟩
    have h := HSET.out
    have hq : OwnsWords w.heap.size (ws.set k.toNat y) (.slice (some ⟨g, 0, none⟩) ws.length cg) (w1.setCell ⟨g, k.toNat, none⟩ (.int .u64 y)) := h
    exact hq

theorem results_tc {P : Program} {fn : Func} {p q : Tmp} {ty : TypeId} (h : fn.results = #[.tmp q, .cell p ty]) (tmps : Array Value) (w : World) (g : Nat) (t : TypeId) (cs : Array Value) (fr : Nat × Nat) (d : TypeDesc)
    (hp : tmps.getD p undef = .pointer (some ⟨g, 0, none⟩)) (hg : w.heap[g]? = some (.cells cs t fr))
    (hu : P.underlying ty = some d) (hd : (match d with | .struct _ | .array _ _ => true | _ => false) = true) (hi : (P.info? ty).map (·.size) = some cs.size) :
    (results fn tmps).run P w = .ok (.tuple #[tmps.getD q undef, .agg cs]) w := by
  have hp' : tmps[p]?.getD undef = .pointer (some ⟨g, 0, none⟩) := by simpa using hp
  simp [results, h, hp', asAddr, run_loadVar_row w g t ty cs fr d hg hu hd hi, Result.andThen]
def RefDoQ (v0 : Value) (ws : List Int) (kind pl old new : Int) (w : World) (e : Ending) (w' : World) : Prop :=
  ∃ v, e = .returned (.tuple #[v, .agg #[.int .u64 (ws[pl.toNat]?.getD 0), .bool (doneOf kind old (ws[pl.toNat]?.getD 0))]]) ∧ ((v = v0 ∧ wordsOf ws kind pl old new = ws) ∨ OwnsWords w.heap.size (wordsOf ws kind pl old new) v w') ∧ Below w.heap.size w w'
set_option maxRecDepth 100000 in
set_option maxHeartbeats 4000000 in
theorem Try.refDo2_any (a : Option Addr) (n cap : Nat) (ws : List Int) (hn : n = ws.length) (hl : n ≤ 10000) (who kind pl old new : Int) (hk : 1 ≤ kind ∧ kind ≤ 4) (hp0 : 0 ≤ pl) (hp : pl < (n : Int)) (w : World) (hI : WordsAt w (.slice a n cap) ws) :
    Calls Try.prog 21 #[.slice a n cap, .agg #[.int .i64 who, .int .i64 kind, .int .i64 pl, .int .u64 old, .int .u64 new]] w (RefDoQ (.slice a n cap) ws kind pl old new w) := by
  subst hn
  have hset := fun z W (hW : WordsAt W (.slice a ws.length cap) ws) => Try.refWith2_any a ws.length cap ws rfl hl pl hp0 hp z W hW
  have hI0 := hI
  obtain ⟨b, off, rfl, hb, hc⟩ := wordsAt_get hI pl.toNat (by omega)
  have HSET := Lib.hid hset
  have HI := Lib.hid hI0
  have hnb : ((3 : Int) != 3) = false := rfl
  have hnb1 : ((1 : Int) != 3) = true := rfl
  have hnb2 : ((2 : Int) != 3) = true := rfl
  have hnb4 : ((4 : Int) != 3) = true := rfl
  clear hset hI hI0
  unfold RefDoQ
  have hlt : pl.toNat < ws.length := by omega
  by_cases hnone : kind = 1 ∨ (kind = 3 ∧ ¬ ws[pl.toNat]?.getD 0 = old)
  · have hw : wordsOf ws kind pl old new = ws := by
      refine wordsOf_still ws kind pl old new hk ?_
      unfold doneOf
      rcases hnone with rfl | ⟨rfl, h⟩
      · simp
      · simp [h]
    rw [hw]
    generalize ws[pl.toNat]?.getD 0 = h at *
    unfold doneOf
    rcases hnone with rfl | ⟨rfl, hne⟩
    · go_enter Try.func21, Try.ntmps21
      go_wp2_with fail
      obtain ⟨W3, h3⟩ : ∃ W3, W3 = (((w.alloc (.cells #[.int .i64 who, .int .i64 1, .int .i64 pl, .int .u64 old, .int .u64 new] 32)).alloc (.cells #[.int .u64 0, .bool false] 27)).alloc (.cells #[.int .u64 h, .bool true] 27)) := ⟨_, rfl⟩
      have B3 : Below w.heap.size w W3 := by rw [h3]; exact (((Below.refl _ w).alloc (Nat.le_refl _) _).alloc (by simp) _).alloc (by simp; omega) _
      have r5 : Rows8 W3 (w.heap.size + 1) 27 #[.int .u64 0, .bool false] := by
        rw [h3]
        have q := (Rows8.new (w.alloc (.cells #[.int .i64 who, .int .i64 1, .int .i64 pl, .int .u64 old, .int .u64 new] 32)) 27 #[.int .u64 0, .bool false]).alloc (.cells #[.int .u64 h, .bool true] 27)
        rwa [World.size_alloc] at q
      have r7 : Rows8 W3 (w.heap.size + 1 + 1) 27 #[.int .u64 h, .bool true] := by
        rw [h3]
        have q := Rows8.new ((w.alloc (.cells #[.int .i64 who, .int .i64 1, .int .i64 pl, .int .u64 old, .int .u64 new] 32)).alloc (.cells #[.int .u64 0, .bool false] 27)) 27 #[.int .u64 h, .bool true]
        rwa [World.size_alloc, World.size_alloc] at q
      rw [← h3]
      clear h3
      have s0 := r7.cell 0
      have s1 := r7.cell 1
      have t0 := r5.cell 0
      have t1 := r5.cell 1
      have f0 := r5.frozen 0
      have f1 := r5.frozen 1
      simp at s0 s1 t0 t1
      have cE := r5.set2 (.int .u64 h) (.bool true)
      have HE := Lib.hid cE
      have HB := Lib.hid ((B3.setCell (p := ⟨w.heap.size + 1, 0, none⟩) (by simp) (.int .u64 h)).setCell (p := ⟨w.heap.size + 1, 1, none⟩) (by simp) (.bool true))
      clear cE r5 r7 B3
      go_region
      go_wp2_with fail
      refine bodyPost_ret (results_tc rfl _ _ (w.heap.size + 1) 27 _ (0, 0) _ rfl HE.out.drew Try.underlying27 rfl (by kernel_rfl)) rfl ?_
      exact ⟨_, by first | rfl | simp, (by first | exact .inl ⟨rfl, rfl⟩ | exact .inl ⟨rfl, trivial⟩), HB.out.drew⟩
    · have hne1 : (h == old) = false := by simp [hne]
      go_enter Try.func21, Try.ntmps21
      go_wp2_with fail
      obtain ⟨W3, h3⟩ : ∃ W3, W3 = (((w.alloc (.cells #[.int .i64 who, .int .i64 3, .int .i64 pl, .int .u64 old, .int .u64 new] 32)).alloc (.cells #[.int .u64 0, .bool false] 27)).alloc (.cells #[.int .u64 h, .bool false] 27)) := ⟨_, rfl⟩
      have B3 : Below w.heap.size w W3 := by rw [h3]; exact (((Below.refl _ w).alloc (Nat.le_refl _) _).alloc (by simp) _).alloc (by simp; omega) _
      have r5 : Rows8 W3 (w.heap.size + 1) 27 #[.int .u64 0, .bool false] := by
        rw [h3]
        have q := (Rows8.new (w.alloc (.cells #[.int .i64 who, .int .i64 3, .int .i64 pl, .int .u64 old, .int .u64 new] 32)) 27 #[.int .u64 0, .bool false]).alloc (.cells #[.int .u64 h, .bool false] 27)
        rwa [World.size_alloc] at q
      have r7 : Rows8 W3 (w.heap.size + 1 + 1) 27 #[.int .u64 h, .bool false] := by
        rw [h3]
        have q := Rows8.new ((w.alloc (.cells #[.int .i64 who, .int .i64 3, .int .i64 pl, .int .u64 old, .int .u64 new] 32)).alloc (.cells #[.int .u64 0, .bool false] 27)) 27 #[.int .u64 h, .bool false]
        rwa [World.size_alloc, World.size_alloc] at q
      rw [← h3]
      clear h3
      have s0 := r7.cell 0
      have s1 := r7.cell 1
      have t0 := r5.cell 0
      have t1 := r5.cell 1
      have f0 := r5.frozen 0
      have f1 := r5.frozen 1
      simp at s0 s1 t0 t1
      have cE := r5.set2 (.int .u64 h) (.bool false)
      have HE := Lib.hid cE
      have HB := Lib.hid ((B3.setCell (p := ⟨w.heap.size + 1, 0, none⟩) (by simp) (.int .u64 h)).setCell (p := ⟨w.heap.size + 1, 1, none⟩) (by simp) (.bool false))
      clear cE r5 r7 B3
      go_region
      go_wp2_with fail
      refine bodyPost_ret (results_tc rfl _ _ (w.heap.size + 1) 27 _ (0, 0) _ rfl HE.out.drew Try.underlying27 rfl (by kernel_rfl)) rfl ?_
      exact ⟨.slice (some ⟨b, off, none⟩) ws.length cap, by simp [hne], (by first | exact .inl ⟨rfl, rfl⟩ | exact .inl ⟨rfl, trivial⟩), HB.out.drew⟩
  · have hdone : doneOf kind old (ws[pl.toNat]?.getD 0) = true := by
      unfold doneOf
      by_cases h3 : kind = 3
      · have := fun h => hnone (.inr ⟨h3, h⟩)
        simp at this
        simp [this]
      · simp [h3]
    have hk1 : ¬ kind = 1 := fun h => hnone (.inl h)
    by_cases h4 : kind = 4
    · subst h4
      have hw : wordsOf ws 4 pl old new = ws.set pl.toNat (IntKind.u64.wrap (ws[pl.toNat]?.getD 0 + new)) := rfl
      rw [hw, hdone]
      have hset := HSET.out (IntKind.u64.wrap (ws[pl.toNat]?.getD 0 + new))
      generalize ws[pl.toNat]?.getD 0 = h at *
      have HS := Lib.hid hset
      clear HSET hset hnone hdone hw
      go_enter Try.func21, Try.ntmps21
      go_wp2_with fail
      obtain ⟨W3, h3⟩ : ∃ W3, W3 = (((w.alloc (.cells #[.int .i64 who, .int .i64 4, .int .i64 pl, .int .u64 old, .int .u64 new] 32)).alloc (.cells #[.int .u64 0, .bool false] 27)).alloc (.cells #[.int .u64 h, .bool true] 27)) := ⟨_, rfl⟩
      have B3 : Below w.heap.size w W3 := by rw [h3]; exact (((Below.refl _ w).alloc (Nat.le_refl _) _).alloc (by simp) _).alloc (by simp; omega) _
      have r3 : Rows8 W3 w.heap.size 32 #[.int .i64 who, .int .i64 4, .int .i64 pl, .int .u64 old, .int .u64 new] := by
        rw [h3]
        exact ((Rows8.new w 32 #[.int .i64 who, .int .i64 4, .int .i64 pl, .int .u64 old, .int .u64 new]).alloc _).alloc _
      have r5 : Rows8 W3 (w.heap.size + 1) 27 #[.int .u64 0, .bool false] := by
        rw [h3]
        have q := (Rows8.new (w.alloc (.cells #[.int .i64 who, .int .i64 4, .int .i64 pl, .int .u64 old, .int .u64 new] 32)) 27 #[.int .u64 0, .bool false]).alloc (.cells #[.int .u64 h, .bool true] 27)
        rwa [World.size_alloc] at q
      have r7 : Rows8 W3 (w.heap.size + 1 + 1) 27 #[.int .u64 h, .bool true] := by
        rw [h3]
        have q := Rows8.new ((w.alloc (.cells #[.int .i64 who, .int .i64 4, .int .i64 pl, .int .u64 old, .int .u64 new] 32)).alloc (.cells #[.int .u64 0, .bool false] 27)) 27 #[.int .u64 h, .bool true]
        rwa [World.size_alloc, World.size_alloc] at q
      rw [← h3]
      clear h3
      have hz3 := r7.lt
      have hz5 := r5.lt
      have l2 := r3.cell 2
      have l4 := r3.cell 4
      have s0 := r7.cell 0
      have s1 := r7.cell 1
      have f0 := r5.frozen 0
      have f1 := r5.frozen 1
      simp at l2 l4 s0 s1
      have hkp : W3.cell? ⟨w.heap.size, 2, none⟩ = some (.int .i64 pl) ∧ W3.cell? ⟨w.heap.size, 4, none⟩ = some (.int .u64 new) ∧ W3.cell? ⟨w.heap.size + 1 + 1, 0, none⟩ = some (.int .u64 h) ∧ W3.cell? ⟨w.heap.size + 1 + 1, 1, none⟩ = some (.bool true) := ⟨l2, l4, s0, s1⟩
      go_region_held3 (fun W' => W'.cell? ⟨w.heap.size, 2, none⟩ = some (.int .i64 pl) ∧ W'.cell? ⟨w.heap.size, 4, none⟩ = some (.int .u64 new) ∧ W'.cell? ⟨w.heap.size + 1 + 1, 0, none⟩ = some (.int .u64 h) ∧ W'.cell? ⟨w.heap.size + 1 + 1, 1, none⟩ = some (.bool true)) (first | exact hkp | exact hkq | exact hks _ _) (first | (go_at_call 67; refine (HS.out _ (RowAt.below HI.out B3.drew)).mono ?_; rintro e w' ⟨v, rfl, ho, hB⟩; have q3 := (Rows8.drew r3).below hB (Rows8.drew r3).lt; have q7 := (Rows8.drew r7).below hB (Rows8.drew r7).lt; have hkq : w'.cell? ⟨w.heap.size, 2, none⟩ = some (.int .i64 pl) ∧ w'.cell? ⟨w.heap.size, 4, none⟩ = some (.int .u64 new) ∧ w'.cell? ⟨w.heap.size + 1 + 1, 0, none⟩ = some (.int .u64 h) ∧ w'.cell? ⟨w.heap.size + 1 + 1, 1, none⟩ = some (.bool true) := ⟨q3.cell 2, q3.cell 4, q7.cell 0, q7.cell 1⟩; have hks : ∀ u v, ((w'.setCell ⟨w.heap.size + 1, 0, none⟩ u).setCell ⟨w.heap.size + 1, 1, none⟩ v).cell? ⟨w.heap.size, 2, none⟩ = some (.int .i64 pl) ∧ ((w'.setCell ⟨w.heap.size + 1, 0, none⟩ u).setCell ⟨w.heap.size + 1, 1, none⟩ v).cell? ⟨w.heap.size, 4, none⟩ = some (.int .u64 new) ∧ ((w'.setCell ⟨w.heap.size + 1, 0, none⟩ u).setCell ⟨w.heap.size + 1, 1, none⟩ v).cell? ⟨w.heap.size + 1 + 1, 0, none⟩ = some (.int .u64 h) ∧ ((w'.setCell ⟨w.heap.size + 1, 0, none⟩ u).setCell ⟨w.heap.size + 1, 1, none⟩ v).cell? ⟨w.heap.size + 1 + 1, 1, none⟩ = some (.bool true) := (fun u v => ⟨((q3.setOther (a := ⟨w.heap.size + 1, 0, none⟩) (by simp) u).setOther (a := ⟨w.heap.size + 1, 1, none⟩) (by simp) v).cell 2, ((q3.setOther (a := ⟨w.heap.size + 1, 0, none⟩) (by simp) u).setOther (a := ⟨w.heap.size + 1, 1, none⟩) (by simp) v).cell 4, ((q7.setOther (a := ⟨w.heap.size + 1, 0, none⟩) (by simp) u).setOther (a := ⟨w.heap.size + 1, 1, none⟩) (by simp) v).cell 0, ((q7.setOther (a := ⟨w.heap.size + 1, 0, none⟩) (by simp) u).setOther (a := ⟨w.heap.size + 1, 1, none⟩) (by simp) v).cell 1⟩); have q5 := (Rows8.drew r5).below hB (Rows8.drew r5).lt; have g0 := q5.cell 0; have g1 := q5.cell 1; have g2 := q5.frozen 0; have g3 := q5.frozen 1; simp at g0 g1))
      go_wp2_with fail
      have qz := q5.set2 (.int .u64 h) (.bool true)
      have hno : v.ownBlock ≠ some (w.heap.size + 1) := fun e2 => by
        have h9 : W3.heap.size ≤ w.heap.size + 1 := (World.ownsRow.lt ho _ e2).1
        omega
      refine bodyPost_ret (results_tc rfl _ _ (w.heap.size + 1) 27 _ (0, 0) _ rfl qz Try.underlying27 rfl (by kernel_rfl)) rfl ?_
      refine ⟨v, rfl, .inr (owns_mono (ownsRow_setCell_other (ownsRow_setCell_other ho hno _) hno _) B3.size), ((B3.drew.trans (hB.mono (Nat.le_trans (Nat.le_add_right _ 1) (Nat.le_of_lt hz5)))).setCell (p := ⟨w.heap.size + 1, 0, none⟩) (by simp) _).setCell (p := ⟨w.heap.size + 1, 1, none⟩) (by simp) _⟩
    · have hset := HSET.out new
      by_cases h2 : kind = 2
      · subst h2
        have hw : wordsOf ws 2 pl old new = ws.set pl.toNat new := rfl
        rw [hw, hdone]
        generalize ws[pl.toNat]?.getD 0 = h at *
        have HS := Lib.hid hset
        clear HSET hset hnone hdone hw
        go_enter Try.func21, Try.ntmps21
        go_wp2_with fail
        obtain ⟨W3, h3⟩ : ∃ W3, W3 = (((w.alloc (.cells #[.int .i64 who, .int .i64 2, .int .i64 pl, .int .u64 old, .int .u64 new] 32)).alloc (.cells #[.int .u64 0, .bool false] 27)).alloc (.cells #[.int .u64 h, .bool true] 27)) := ⟨_, rfl⟩
        have B3 : Below w.heap.size w W3 := by rw [h3]; exact (((Below.refl _ w).alloc (Nat.le_refl _) _).alloc (by simp) _).alloc (by simp; omega) _
        have r3 : Rows8 W3 w.heap.size 32 #[.int .i64 who, .int .i64 2, .int .i64 pl, .int .u64 old, .int .u64 new] := by
          rw [h3]
          exact ((Rows8.new w 32 #[.int .i64 who, .int .i64 2, .int .i64 pl, .int .u64 old, .int .u64 new]).alloc _).alloc _
        have r5 : Rows8 W3 (w.heap.size + 1) 27 #[.int .u64 0, .bool false] := by
          rw [h3]
          have q := (Rows8.new (w.alloc (.cells #[.int .i64 who, .int .i64 2, .int .i64 pl, .int .u64 old, .int .u64 new] 32)) 27 #[.int .u64 0, .bool false]).alloc (.cells #[.int .u64 h, .bool true] 27)
          rwa [World.size_alloc] at q
        have r7 : Rows8 W3 (w.heap.size + 1 + 1) 27 #[.int .u64 h, .bool true] := by
          rw [h3]
          have q := Rows8.new ((w.alloc (.cells #[.int .i64 who, .int .i64 2, .int .i64 pl, .int .u64 old, .int .u64 new] 32)).alloc (.cells #[.int .u64 0, .bool false] 27)) 27 #[.int .u64 h, .bool true]
          rwa [World.size_alloc, World.size_alloc] at q
        rw [← h3]
        clear h3
        have hz3 := r7.lt
        have hz5 := r5.lt
        have l2 := r3.cell 2
        have l4 := r3.cell 4
        have s0 := r7.cell 0
        have s1 := r7.cell 1
        have f0 := r5.frozen 0
        have f1 := r5.frozen 1
        simp at l2 l4 s0 s1
        have hkp : W3.cell? ⟨w.heap.size, 2, none⟩ = some (.int .i64 pl) ∧ W3.cell? ⟨w.heap.size, 4, none⟩ = some (.int .u64 new) ∧ W3.cell? ⟨w.heap.size + 1 + 1, 0, none⟩ = some (.int .u64 h) ∧ W3.cell? ⟨w.heap.size + 1 + 1, 1, none⟩ = some (.bool true) := ⟨l2, l4, s0, s1⟩
        go_region_held3 (fun W' => W'.cell? ⟨w.heap.size, 2, none⟩ = some (.int .i64 pl) ∧ W'.cell? ⟨w.heap.size, 4, none⟩ = some (.int .u64 new) ∧ W'.cell? ⟨w.heap.size + 1 + 1, 0, none⟩ = some (.int .u64 h) ∧ W'.cell? ⟨w.heap.size + 1 + 1, 1, none⟩ = some (.bool true)) (first | exact hkp | exact hkq | exact hks _ _) (first | (go_at_call 67; refine (HS.out _ (RowAt.below HI.out B3.drew)).mono ?_; rintro e w' ⟨v, rfl, ho, hB⟩; have q3 := (Rows8.drew r3).below hB (Rows8.drew r3).lt; have q7 := (Rows8.drew r7).below hB (Rows8.drew r7).lt; have hkq : w'.cell? ⟨w.heap.size, 2, none⟩ = some (.int .i64 pl) ∧ w'.cell? ⟨w.heap.size, 4, none⟩ = some (.int .u64 new) ∧ w'.cell? ⟨w.heap.size + 1 + 1, 0, none⟩ = some (.int .u64 h) ∧ w'.cell? ⟨w.heap.size + 1 + 1, 1, none⟩ = some (.bool true) := ⟨q3.cell 2, q3.cell 4, q7.cell 0, q7.cell 1⟩; have hks : ∀ u v, ((w'.setCell ⟨w.heap.size + 1, 0, none⟩ u).setCell ⟨w.heap.size + 1, 1, none⟩ v).cell? ⟨w.heap.size, 2, none⟩ = some (.int .i64 pl) ∧ ((w'.setCell ⟨w.heap.size + 1, 0, none⟩ u).setCell ⟨w.heap.size + 1, 1, none⟩ v).cell? ⟨w.heap.size, 4, none⟩ = some (.int .u64 new) ∧ ((w'.setCell ⟨w.heap.size + 1, 0, none⟩ u).setCell ⟨w.heap.size + 1, 1, none⟩ v).cell? ⟨w.heap.size + 1 + 1, 0, none⟩ = some (.int .u64 h) ∧ ((w'.setCell ⟨w.heap.size + 1, 0, none⟩ u).setCell ⟨w.heap.size + 1, 1, none⟩ v).cell? ⟨w.heap.size + 1 + 1, 1, none⟩ = some (.bool true) := (fun u v => ⟨((q3.setOther (a := ⟨w.heap.size + 1, 0, none⟩) (by simp) u).setOther (a := ⟨w.heap.size + 1, 1, none⟩) (by simp) v).cell 2, ((q3.setOther (a := ⟨w.heap.size + 1, 0, none⟩) (by simp) u).setOther (a := ⟨w.heap.size + 1, 1, none⟩) (by simp) v).cell 4, ((q7.setOther (a := ⟨w.heap.size + 1, 0, none⟩) (by simp) u).setOther (a := ⟨w.heap.size + 1, 1, none⟩) (by simp) v).cell 0, ((q7.setOther (a := ⟨w.heap.size + 1, 0, none⟩) (by simp) u).setOther (a := ⟨w.heap.size + 1, 1, none⟩) (by simp) v).cell 1⟩); have q5 := (Rows8.drew r5).below hB (Rows8.drew r5).lt; have g0 := q5.cell 0; have g1 := q5.cell 1; have g2 := q5.frozen 0; have g3 := q5.frozen 1; simp at g0 g1))
        go_wp2_with fail
        have qz := q5.set2 (.int .u64 h) (.bool true)
        have hno : v.ownBlock ≠ some (w.heap.size + 1) := fun e2 => by
          have h9 : W3.heap.size ≤ w.heap.size + 1 := (World.ownsRow.lt ho _ e2).1
          omega
        refine bodyPost_ret (results_tc rfl _ _ (w.heap.size + 1) 27 _ (0, 0) _ rfl qz Try.underlying27 rfl (by kernel_rfl)) rfl ?_
        refine ⟨v, rfl, .inr (owns_mono (ownsRow_setCell_other (ownsRow_setCell_other ho hno _) hno _) B3.size), ((B3.drew.trans (hB.mono (Nat.le_trans (Nat.le_add_right _ 1) (Nat.le_of_lt hz5)))).setCell (p := ⟨w.heap.size + 1, 0, none⟩) (by simp) _).setCell (p := ⟨w.heap.size + 1, 1, none⟩) (by simp) _⟩
      · have h3 : kind = 3 := by omega
        subst h3
        have ho : ws[pl.toNat]?.getD 0 = old := by
          have := fun h => hnone (.inr ⟨rfl, h⟩)
          simpa using this
        have hw : wordsOf ws 3 pl old new = ws.set pl.toNat new := by
          unfold wordsOf nextOf
          simp [ho]
        rw [hw, hdone]
        have ho1 : (ws[pl.toNat]?.getD 0 == old) = true := by simp [ho]
        have HO := Lib.hid ho
        clear ho
        generalize ws[pl.toNat]?.getD 0 = h at *
        have HS := Lib.hid hset
        clear HSET hset hnone hdone hw HO
        go_enter Try.func21, Try.ntmps21
        go_wp2_with fail
        obtain ⟨W3, h3⟩ : ∃ W3, W3 = (((w.alloc (.cells #[.int .i64 who, .int .i64 3, .int .i64 pl, .int .u64 old, .int .u64 new] 32)).alloc (.cells #[.int .u64 0, .bool false] 27)).alloc (.cells #[.int .u64 h, .bool true] 27)) := ⟨_, rfl⟩
        have B3 : Below w.heap.size w W3 := by rw [h3]; exact (((Below.refl _ w).alloc (Nat.le_refl _) _).alloc (by simp) _).alloc (by simp; omega) _
        have r3 : Rows8 W3 w.heap.size 32 #[.int .i64 who, .int .i64 3, .int .i64 pl, .int .u64 old, .int .u64 new] := by
          rw [h3]
          exact ((Rows8.new w 32 #[.int .i64 who, .int .i64 3, .int .i64 pl, .int .u64 old, .int .u64 new]).alloc _).alloc _
        have r5 : Rows8 W3 (w.heap.size + 1) 27 #[.int .u64 0, .bool false] := by
          rw [h3]
          have q := (Rows8.new (w.alloc (.cells #[.int .i64 who, .int .i64 3, .int .i64 pl, .int .u64 old, .int .u64 new] 32)) 27 #[.int .u64 0, .bool false]).alloc (.cells #[.int .u64 h, .bool true] 27)
          rwa [World.size_alloc] at q
        have r7 : Rows8 W3 (w.heap.size + 1 + 1) 27 #[.int .u64 h, .bool true] := by
          rw [h3]
          have q := Rows8.new ((w.alloc (.cells #[.int .i64 who, .int .i64 3, .int .i64 pl, .int .u64 old, .int .u64 new] 32)).alloc (.cells #[.int .u64 0, .bool false] 27)) 27 #[.int .u64 h, .bool true]
          rwa [World.size_alloc, World.size_alloc] at q
        rw [← h3]
        clear h3
        have hz3 := r7.lt
        have hz5 := r5.lt
        have l2 := r3.cell 2
        have l4 := r3.cell 4
        have s0 := r7.cell 0
        have s1 := r7.cell 1
        have f0 := r5.frozen 0
        have f1 := r5.frozen 1
        simp at l2 l4 s0 s1
        have hkp : W3.cell? ⟨w.heap.size, 2, none⟩ = some (.int .i64 pl) ∧ W3.cell? ⟨w.heap.size, 4, none⟩ = some (.int .u64 new) ∧ W3.cell? ⟨w.heap.size + 1 + 1, 0, none⟩ = some (.int .u64 h) ∧ W3.cell? ⟨w.heap.size + 1 + 1, 1, none⟩ = some (.bool true) := ⟨l2, l4, s0, s1⟩
        go_region_held3 (fun W' => W'.cell? ⟨w.heap.size, 2, none⟩ = some (.int .i64 pl) ∧ W'.cell? ⟨w.heap.size, 4, none⟩ = some (.int .u64 new) ∧ W'.cell? ⟨w.heap.size + 1 + 1, 0, none⟩ = some (.int .u64 h) ∧ W'.cell? ⟨w.heap.size + 1 + 1, 1, none⟩ = some (.bool true)) (first | exact hkp | exact hkq | exact hks _ _) (first | (go_at_call 67; refine (HS.out _ (RowAt.below HI.out B3.drew)).mono ?_; rintro e w' ⟨v, rfl, ho, hB⟩; have q3 := (Rows8.drew r3).below hB (Rows8.drew r3).lt; have q7 := (Rows8.drew r7).below hB (Rows8.drew r7).lt; have hkq : w'.cell? ⟨w.heap.size, 2, none⟩ = some (.int .i64 pl) ∧ w'.cell? ⟨w.heap.size, 4, none⟩ = some (.int .u64 new) ∧ w'.cell? ⟨w.heap.size + 1 + 1, 0, none⟩ = some (.int .u64 h) ∧ w'.cell? ⟨w.heap.size + 1 + 1, 1, none⟩ = some (.bool true) := ⟨q3.cell 2, q3.cell 4, q7.cell 0, q7.cell 1⟩; have hks : ∀ u v, ((w'.setCell ⟨w.heap.size + 1, 0, none⟩ u).setCell ⟨w.heap.size + 1, 1, none⟩ v).cell? ⟨w.heap.size, 2, none⟩ = some (.int .i64 pl) ∧ ((w'.setCell ⟨w.heap.size + 1, 0, none⟩ u).setCell ⟨w.heap.size + 1, 1, none⟩ v).cell? ⟨w.heap.size, 4, none⟩ = some (.int .u64 new) ∧ ((w'.setCell ⟨w.heap.size + 1, 0, none⟩ u).setCell ⟨w.heap.size + 1, 1, none⟩ v).cell? ⟨w.heap.size + 1 + 1, 0, none⟩ = some (.int .u64 h) ∧ ((w'.setCell ⟨w.heap.size + 1, 0, none⟩ u).setCell ⟨w.heap.size + 1, 1, none⟩ v).cell? ⟨w.heap.size + 1 + 1, 1, none⟩ = some (.bool true) := (fun u v => ⟨((q3.setOther (a := ⟨w.heap.size + 1, 0, none⟩) (by simp) u).setOther (a := ⟨w.heap.size + 1, 1, none⟩) (by simp) v).cell 2, ((q3.setOther (a := ⟨w.heap.size + 1, 0, none⟩) (by simp) u).setOther (a := ⟨w.heap.size + 1, 1, none⟩) (by simp) v).cell 4, ((q7.setOther (a := ⟨w.heap.size + 1, 0, none⟩) (by simp) u).setOther (a := ⟨w.heap.size + 1, 1, none⟩) (by simp) v).cell 0, ((q7.setOther (a := ⟨w.heap.size + 1, 0, none⟩) (by simp) u).setOther (a := ⟨w.heap.size + 1, 1, none⟩) (by simp) v).cell 1⟩); have q5 := (Rows8.drew r5).below hB (Rows8.drew r5).lt; have g0 := q5.cell 0; have g1 := q5.cell 1; have g2 := q5.frozen 0; have g3 := q5.frozen 1; simp at g0 g1))
        go_wp2_with fail
        have qz := q5.set2 (.int .u64 h) (.bool true)
        have hno : v.ownBlock ≠ some (w.heap.size + 1) := fun e2 => by
          have h9 : W3.heap.size ≤ w.heap.size + 1 := (World.ownsRow.lt ho _ e2).1
          omega
        refine bodyPost_ret (results_tc rfl _ _ (w.heap.size + 1) 27 _ (0, 0) _ rfl qz Try.underlying27 rfl (by kernel_rfl)) rfl ?_
        refine ⟨v, rfl, .inr (owns_mono (ownsRow_setCell_other (ownsRow_setCell_other ho hno _) hno _) B3.size), ((B3.drew.trans (hB.mono (Nat.le_trans (Nat.le_add_right _ 1) (Nat.le_of_lt hz5)))).setCell (p := ⟨w.heap.size + 1, 0, none⟩) (by simp) _).setCell (p := ⟨w.heap.size + 1, 1, none⟩) (by simp) _⟩
/-- The same, where the cells are the caller's own. -/
theorem Try.refDoOwn_any (n₀ : Nat) (v0 : Value) (ws : List Int) (hl : ws.length ≤ 10000) (who kind pl old new : Int) (hk : 1 ≤ kind ∧ kind ≤ 4) (hp0 : 0 ≤ pl) (hp : pl < (ws.length : Int)) (w : World) (hn : n₀ ≤ w.heap.size) (hI : OwnsWords n₀ ws v0 w) :
    Calls Try.prog 21 #[v0, .agg #[.int .i64 who, .int .i64 kind, .int .i64 pl, .int .u64 old, .int .u64 new]] w fun e w' =>
      ∃ a cap, e = .returned (.tuple #[.slice a ws.length cap, .agg #[.int .u64 (ws[pl.toNat]?.getD 0), .bool (doneOf kind old (ws[pl.toNat]?.getD 0))]]) ∧ OwnsWords n₀ (wordsOf ws kind pl old new) (.slice a ws.length cap) w' ∧ Below w.heap.size w w' := by
  obtain ⟨_, a, cap, rfl, _⟩ := rowAt_own hI
  refine (Try.refDo2_any a _ cap ws rfl hl who kind pl old new hk hp0 hp w (rowAt_own hI)).mono ?_
  rintro e w' ⟨v, rfl, ⟨rfl, h⟩ | h, hB⟩
  · rw [h]
    exact ⟨_, _, rfl, owns_keep hI hB (Nat.le_refl _), hB⟩
  · obtain ⟨_, a2, c2, rfl, _⟩ := rowAt_own h
    rw [wordsOf_length] at h ⊢
    exact ⟨_, _, rfl, owns_mono h hn, hB⟩
end Go.Proofs
