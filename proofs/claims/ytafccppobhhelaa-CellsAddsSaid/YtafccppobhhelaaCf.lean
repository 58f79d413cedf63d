/- Share, its Do and Words. -/
import Derived.Test.YtafccppobhhelaaCe
namespace Go.Proofs
open Go.RowKit Go.Shelf
attribute [local go_sem] Oper.semAt_some

theorem Try.infoAtom : (Try.prog.info? 124).map (fun i => (i.zero, i.size, i.bytes)) = some (some (.agg #[.int .u64 0]), 1, 8) := by kernel_rfl

/-- A thing that has these words. -/
structure Shr (n₀ : Nat) (ws : List Int) (B g cap : Nat) (W : World) : Prop where
  blk : Rows8 W B 119 #[.slice (some ⟨g, 0, none⟩) ws.length cap]
  own : W.ownsRow n₀ 124 1 (.slice (some ⟨g, 0, none⟩) ws.length cap) ws.length (wordVals ws)
  le : n₀ ≤ B
theorem Shr.ne {n₀ : Nat} {ws : List Int} {B g cap : Nat} {W : World} (h : Shr n₀ ws B g cap W) : g ≠ B := fun e => by
  have := owns_not h.own h.blk (by decide)
  simp [Value.ownBlock] at this
  exact this e
theorem Shr.lt {n₀ : Nat} {ws : List Int} {B g cap : Nat} {W : World} (h : Shr n₀ ws B g cap W) : n₀ ≤ g ∧ g < W.heap.size := World.ownsRow.lt h.own g rfl
theorem Shr.keep {n₀ n₁ : Nat} {ws : List Int} {B g cap : Nat} {A W : World} (h : Shr n₀ ws B g cap A) (hB : Below n₁ A W) (hn : A.heap.size ≤ n₁) : Shr n₀ ws B g cap W :=
  ⟨h.blk.below hB (Nat.lt_of_lt_of_le h.blk.lt hn), owns_keep h.own hB hn, h.le⟩
theorem Shr.mono {n₀ n₁ : Nat} {ws : List Int} {B g cap : Nat} {W : World} (h : Shr n₁ ws B g cap W) (hn : n₀ ≤ n₁) : Shr n₀ ws B g cap W := ⟨h.blk, owns_mono h.own hn, Nat.le_trans hn h.le⟩
theorem Shr.cell {n₀ : Nat} {ws : List Int} {B g cap : Nat} {W : World} (h : Shr n₀ ws B g cap W) (j : Nat) (hj : j < ws.length) : W.cell? ⟨g, j, none⟩ = some (.int .u64 (ws[j]?.getD 0)) := by
  rw [World.ownsRow.cellAt h.own j (by omega)]
  exact wordVals_get ws j hj
theorem Shr.set {n₀ : Nat} {ws : List Int} {B g cap : Nat} {W : World} (h : Shr n₀ ws B g cap W) (k : Nat) (z : Int) : Shr n₀ (ws.set k z) B g cap (W.setCell ⟨g, k, none⟩ (.int .u64 z)) := by
  refine ⟨?_, ?_, h.le⟩
  · rw [List.length_set]; exact h.blk.setOther h.ne _
  · have hs := (World.ownsRow.stored h.own k (.int .u64 z)).1
    rw [List.length_set]
    have e : wordVals (ws.set k z) = (wordVals ws).set k (.int .u64 z) := by simp [wordVals, List.map_set]
    rw [e]
    exact hs
theorem Shr.after {n₀ : Nat} {ws : List Int} {B g cap k : Nat} {kind old new : Int} {W w' : World} (hk : 1 ≤ kind ∧ kind ≤ 4) (h : Shr n₀ ws B g cap W) (hl : k < ws.length)
    (hB : Below W.heap.size (afterOf kind old new (ws[k]?.getD 0) ⟨g, k, none⟩ W) w') : Shr n₀ (ws.set k (nextOf kind old new (ws[k]?.getD 0))) B g cap w' := by
  unfold afterOf at hB
  split at hB
  · exact (h.set k _).keep hB (by simp [World.setCell])
  · rename_i hn
    rw [nextOf_same hk hn]
    have e : ws.set k (ws[k]?.getD 0) = ws := by
      apply List.ext_getElem
      · simp
      · intro i h1 h2
        rw [List.getElem_set]
        split
        · rename_i e; subst e; simp [hl]
        · rfl
    rw [e]
    exact h.keep hB (Nat.le_refl _)

theorem Shr.setOther {n₀ : Nat} {ws : List Int} {B g cap : Nat} {W : World} (h : Shr n₀ ws B g cap W) {a : Addr} (h1 : a.block ≠ B) (h2 : a.block ≠ g) (v : Value) : Shr n₀ ws B g cap (W.setCell a v) :=
  ⟨h.blk.setOther h1 v, ownsRow_setCell_other h.own (by simp [Value.ownBlock]; exact fun e => h2 e.symm) v, h.le⟩
/-- The first k of these words, all others being 0. -/
def fillTo (ws : List Int) (k : Nat) : List Int := ws.take k ++ List.replicate (ws.length - k) 0
theorem fillTo_length (ws : List Int) (k : Nat) (h : k ≤ ws.length) : (fillTo ws k).length = ws.length := by simp [fillTo]; omega
theorem fillTo_zero (ws : List Int) : wordVals (fillTo ws 0) = List.replicate ws.length (.int .u64 0) := by simp [fillTo, wordVals]
theorem fillTo_all (ws : List Int) : fillTo ws ws.length = ws := by simp [fillTo]
theorem fillTo_succ (ws : List Int) (k : Nat) (h : k < ws.length) : (fillTo ws k).set k (ws[k]?.getD 0) = fillTo ws (k + 1) := by
  apply List.ext_getElem?
  intro i
  have hl : (fillTo ws k).length = ws.length := fillTo_length _ _ (by omega)
  rw [List.getElem?_set, hl]
  unfold fillTo
  simp only [List.getElem?_append, List.length_take, List.getElem?_take, List.getElem?_replicate]
  by_cases e : k = i
  · subst e
    have h4 : k < min (k + 1) ws.length := by omega
    simp [h, h4]
  · rw [if_neg e]
    by_cases h3 : i < k
    · have h4 : i < min k ws.length := by omega
      have h5 : i < min (k + 1) ws.length := by omega
      have h6 : i < k + 1 := by omega
      simp [h4, h5, h3, h6]
    · have h4 : ¬ i < min k ws.length := by omega
      have h5 : ¬ i < min (k + 1) ws.length := by omega
      rw [if_neg h4, if_neg h5]
      by_cases h7 : i < ws.length
      · rw [if_pos (by omega), if_pos (by omega)]
      · rw [if_neg (by omega), if_neg (by omega)]

def ShareQ (ws : List Int) (w : World) (e : Ending) (w' : World) : Prop :=
  ((ws.length < 1 ∨ 8192 < ws.length) ∧ e = .returned (.tuple #[.pointer none, .int .i64 120]) ∧ Below w.heap.size w w') ∨
  (¬ (ws.length < 1 ∨ 8192 < ws.length) ∧ ∃ B g cap, e = .returned (.tuple #[.pointer (some ⟨B, 0, none⟩), .int .i64 0]) ∧ Shr w.heap.size ws B g cap w' ∧ Below w.heap.size w w')

set_option maxRecDepth 100000 in
set_option maxHeartbeats 4000000 in
theorem Try.Share_any (ws : List Int) (v : Value) (w : World) (hI : WordsAt w v ws) :
    Calls Try.prog 36 #[v] w (ShareQ ws w) := by
  obtain ⟨i0, hi, hz0, hz1, hz2⟩ := info_parts Try.infoAtom
  have hI0 := hI
  obtain ⟨_, a, cap, rfl, hlc, hcm, _, _⟩ := hI
  have hnc := Try.noCells_any ws.length
  have HI := Lib.hid hI0
  clear hI0
  unfold ShareQ
  by_cases hn : ws.length < 1 ∨ 8192 < ws.length
  · rw [decide_eq_true hn] at hnc
    have HNC := Lib.hid hnc
    have HN := Lib.hid hn
    clear hnc hn
    go_enter Try.func36, Try.ntmps36
    go_wp2_with fail
    refine (HNC.out _).mono ?_
    rintro e w' ⟨rfl, rfl⟩
    go_wp2_with fail
    go_ret2
    exact .inl ⟨HN.out, rfl, Below.refl _ _⟩
  · rw [decide_eq_false hn] at hnc
    have HNC := Lib.hid hnc
    have HN := Lib.hid hn
    have hl1 : 0 < ws.length := by omega
    have hl2 : ws.length ≤ 8192 := by omega
    clear hnc hn
    go_enter Try.func36, Try.ntmps36
    go_wp2_with fail
    refine (HNC.out _).mono ?_
    rintro e w' ⟨rfl, rfl⟩
    go_wp2_with (at_make; refine wpList_make_full _ rfl _ _ 117 rfl w.heap.size 124 i0 (.agg #[.int .u64 0]) 1 Try.underlying117 hi hz0 hz1 .i64 .i64 _ _ ws.length rfl rfl rfl rfl ?c1 ?c2 ?c3 ?_)
    case c1 => rw [hz2]; omega
    case c2 => unfold maxLen; omega
    case c3 => exact Nat.le_refl _
    intro w1 hown hgrow
    have hB1 : Below w.heap.size w w1 := (Below.refl _ w).grown hgrow (Nat.le_refl _) (fun j ej => by cases ej)
    have hO1 : w1.ownsRow w.heap.size 124 1 (.slice (some ⟨w.heap.size, 0, none⟩) (fillTo ws 0).length ws.length) (fillTo ws 0).length (wordVals (fillTo ws 0)) := by
      rw [fillTo_zero, fillTo_length _ _ (Nat.zero_le _)]
      have e : (madeCells #[Value.int .u64 0] ws.length).toList = List.replicate ws.length (.int .u64 0) := toList_madeCells_one _ _
      rw [e] at hown
      exact hown
    have HO1 := Lib.hid hO1
    have HB1 := Lib.hid hB1
    clear hown hgrow hO1 hB1
    go_wp2_with fail
    have hbk := Rows8.new w1 119 #[.slice (some ⟨w.heap.size, 0, none⟩) ws.length ws.length]
    have hS1 : Shr w.heap.size (fillTo ws 0) w1.heap.size w.heap.size ws.length (w1.alloc (.cells #[.slice (some ⟨w.heap.size, 0, none⟩) ws.length ws.length] 119)) :=
      ⟨by rw [fillTo_length _ _ (Nat.zero_le _)]; exact hbk, World.ownsRow.alloc HO1.out _, HB1.out.size⟩
    have hB2 := HB1.out.alloc HB1.out.size (.cells #[.slice (some ⟨w.heap.size, 0, none⟩) ws.length ws.length] 119)
    go_loopw [5, 6, 17] (fun _ _ j wr => ∃ k : Nat, k ≤ ws.length ∧ j = .int .i64 k ∧ Shr w.heap.size (fillTo ws k) w1.heap.size w.heap.size ws.length wr ∧ Below w.heap.size w wr) (fun _ _ j _ => ws.length - (intOf j).toNat)
    case atStart => exact ⟨0, Nat.zero_le _, rfl, hS1, hB2⟩
    case round =>
      obtain ⟨k, hk, rfl, hS, hB⟩ := hrel
      clear hS1 hB2 hbk
      by_cases hlt : k < ws.length
      · have hki : (k : Int) < (ws.length : Int) := by omega
        obtain ⟨h0, a', cap', e1, h1, h2, h3, h4⟩ := RowAt.below HI.out hB
        cases e1
        obtain ⟨b, off, rfl, hb, hc⟩ := h4 k (by rw [wordVals_length]; exact hlt)
        rw [wordVals_get ws k hlt] at hc
        have hfl := fillTo_length ws k hk
        have hbc := hS.blk.cell 0
        simp [hfl] at hbc
        have hcc := hS.cell k (by omega)
        have hff := World.ownsRow.frozenAt hS.own k
        have hset := hS.set k (ws[k]?.getD 0)
        rw [fillTo_succ ws k hlt] at hset
        have hst := Try.atomStore_any w.heap.size k _ (ws[k]?.getD 0) wr hcc hff
        generalize ws[k]?.getD 0 = z at *
        have HSET := Lib.hid hset
        have HST := Lib.hid hst
        clear hset hst hS hcc hff h4
        go_wp2_with fail
        refine HST.out.mono ?_
        rintro e w2 ⟨⟨v2, rfl⟩, rfl⟩
        go_wp2_with fail
        exact ⟨⟨k + 1, by omega, by go_num, HSET.out, hB.setCell (p := ⟨w.heap.size, k, none⟩) (Nat.le_refl _) _⟩, by simp [intOf]; omega⟩
      · obtain rfl : k = ws.length := by omega
        rw [fillTo_all] at hS
        have HS := Lib.hid hS
        clear hS
        go_wp2_with fail
        go_ret2
        exact .inr ⟨HN.out, _, _, _, rfl, HS.out, hB⟩

theorem Try.wordsNil_any (w : World) : Calls Try.prog 39 #[.pointer none] w fun e w' => e = .returned (.slice none 0 0) ∧ w = w' := by
  go_enter Try.func39, Try.ntmps39
  go_wp2
  go_ret
  exact ⟨rfl, rfl⟩

set_option maxRecDepth 100000 in
set_option maxHeartbeats 4000000 in
theorem Try.Words_any (n₀ : Nat) (ws : List Int) (B g cap : Nat) (hl1 : 0 < ws.length) (hl2 : ws.length ≤ 8192) (w : World) (hS : Shr n₀ ws B g cap w) :
    Calls Try.prog 39 #[.pointer (some ⟨B, 0, none⟩)] w (WordsQ ws w) := by
  obtain ⟨i0, hi, hz0, hz1, hz2⟩ := info_parts Try.infoWord
  have hbl := hS.blk.lt
  have hgl := hS.lt.2
  have hbc := hS.blk.cell 0
  simp at hbc
  have HS := Lib.hid hS
  clear hS
  go_enter Try.func39, Try.ntmps39
  go_wp2_with (at_make; refine wpList_make_full _ rfl _ _ 22 rfl w.heap.size 25 i0 (.int .u64 0) 1 Try.underlying22 hi hz0 hz1 .i64 .i64 _ _ ws.length rfl rfl rfl rfl ?c1 ?c2 ?c3 ?_)
  case c1 => rw [hz2]; omega
  case c2 => unfold maxLen; omega
  case c3 => exact Nat.le_refl _
  intro w1 hown hgrow
  have hB1 : Below w.heap.size w w1 := (Below.refl _ w).grown hgrow (Nat.le_refl _) (fun j ej => by cases ej)
  have hO1 : OwnsWords w.heap.size (fillTo ws 0) (.slice (some ⟨w.heap.size, 0, none⟩) ws.length ws.length) w1 := by
    unfold OwnsWords
    rw [fillTo_zero, fillTo_length _ _ (Nat.zero_le _)]
    have e : (madeCells #[Value.int .u64 0] ws.length).toList = List.replicate ws.length (.int .u64 0) := toList_madeCells_one _ _
    rw [e] at hown
    exact hown
  have hbc1 := (hB1.cell (p := ⟨B, 0, none⟩) hbl).trans hbc
  have HO1 := Lib.hid hO1
  clear hown hgrow hO1 hbc
  go_wp2_with fail
  go_loopw [4, 18] (fun _ j wr => ∃ k : Nat, k ≤ ws.length ∧ j = .int .i64 k ∧ OwnsWords w.heap.size (fillTo ws k) (.slice (some ⟨w.heap.size, 0, none⟩) ws.length ws.length) wr ∧ Below w.heap.size w wr) (fun _ j _ => ws.length - (intOf j).toNat)
  case atStart => exact ⟨0, Nat.zero_le _, rfl, HO1.out, hB1⟩
  case round =>
    obtain ⟨k, hk, rfl, hO, hB⟩ := hrel
    clear hbc1
    by_cases hlt : k < ws.length
    · have hki : (k : Int) < (ws.length : Int) := by omega
      have hfl := fillTo_length ws k hk
      have hbc2 := (hB.cell (p := ⟨B, 0, none⟩) hbl).trans (HS.out.blk.cell 0)
      have hcc := (hB.cell (p := ⟨g, k, none⟩) hgl).trans (HS.out.cell k hlt)
      simp at hbc2
      have hO' := hO
      rw [← hfl] at hO'
      have hce := words_cell hO' k (by omega)
      have hff := words_frozen hO' k
      have hset := words_set hO' k (ws[k]?.getD 0)
      rw [fillTo_succ ws k hlt, hfl] at hset
      generalize ws[k]?.getD 0 = z at *
      have hld := Try.atomLoad_any g k z wr hcc
      have HSET := Lib.hid hset
      have HLD := Lib.hid hld
      clear hset hld hO hO' hcc
      go_wp2_with fail
      refine HLD.out.mono ?_
      rintro e w2 ⟨rfl, rfl⟩
      go_wp2_with fail
      exact ⟨⟨k + 1, by omega, by go_num, HSET.out, hB.setCell (p := ⟨w.heap.size, k, none⟩) (Nat.le_refl _) _⟩, by simp [intOf]; omega⟩
    · obtain rfl : k = ws.length := by omega
      rw [fillTo_all] at hO
      have HO := Lib.hid hO
      clear hO
      go_wp2_with fail
      go_ret
      exact ⟨_, rfl, HO.out, hB⟩

theorem results_ct {P : Program} {fn : Func} {p u : Tmp} {ty : TypeId} (h : fn.results = #[.cell p ty, .tmp u]) (tmps : Array Value) (w : World) (g : Nat) (t : TypeId) (cs : Array Value) (fr : Nat × Nat) (d : TypeDesc)
    (hp : tmps.getD p undef = .pointer (some ⟨g, 0, none⟩)) (hg : w.heap[g]? = some (.cells cs t fr))
    (hu : P.underlying ty = some d) (hd : (match d with | .struct _ | .array _ _ => true | _ => false) = true) (hi : (P.info? ty).map (·.size) = some cs.size) :
    (results fn tmps).run P w = .ok (.tuple #[.agg cs, tmps.getD u undef]) w := by
  have hp' : tmps[p]?.getD undef = .pointer (some ⟨g, 0, none⟩) := by simpa using hp
  simp [results, h, hp', asAddr, run_loadVar_row w g t ty cs fr d hg hu hd hi, Result.andThen]

set_option maxHeartbeats 1000000 in
theorem Try.sDoNil_any (who kind pl old new : Int) (w : World) :
    Calls Try.prog 38 #[.pointer none, .agg #[.int .i64 who, .int .i64 kind, .int .i64 pl, .int .u64 old, .int .u64 new]] w fun e w' => e = .returned (.tuple #[.agg #[.int .u64 0, .bool false], .int .i64 1]) ∧ Below w.heap.size w w' := by
  have b1 := Rows8.new (w.alloc (.cells #[.int .i64 who, .int .i64 kind, .int .i64 pl, .int .u64 old, .int .u64 new] 32)) 27 #[.int .u64 0, .bool false]
  have hB0 : Below w.heap.size w ((w.alloc (.cells #[.int .i64 who, .int .i64 kind, .int .i64 pl, .int .u64 old, .int .u64 new] 32)).alloc (.cells #[.int .u64 0, .bool false] 27)) := ((Below.refl _ w).alloc (Nat.le_refl _) _).alloc (by simp) _
  rw [World.size_alloc] at b1
  go_enter Try.func38, Try.ntmps38
  go_wp2_with fail
  refine bodyPost_ret (results_ct rfl _ _ (w.heap.size + 1) 27 _ (0, 0) _ rfl b1 Try.underlying27 rfl (by kernel_rfl)) rfl ?_
  exact ⟨rfl, hB0⟩

def SDoQ (n₀ : Nat) (ws : List Int) (B g cap : Nat) (who kind pl old new : Int) (w : World) (e : Ending) (w' : World) : Prop :=
  (why ws.length who kind pl ≠ 0 ∧ e = .returned (.tuple #[.agg #[.int .u64 0, .bool false], .int .i64 (why ws.length who kind pl)]) ∧ Below w.heap.size w w') ∨
  (why ws.length who kind pl = 0 ∧ e = .returned (.tuple #[.agg #[.int .u64 (ws[pl.toNat]?.getD 0), .bool (doneOf kind old (ws[pl.toNat]?.getD 0))], .int .i64 0]) ∧ Shr n₀ (wordsOf ws kind pl old new) B g cap w' ∧ Below n₀ w w')

set_option maxRecDepth 100000 in
set_option maxHeartbeats 4000000 in
theorem Try.sDo_any (n₀ : Nat) (ws : List Int) (B g cap : Nat) (who kind pl old new : Int) (w : World) (hn : n₀ ≤ w.heap.size) (hS : Shr n₀ ws B g cap w) :
    Calls Try.prog 38 #[.pointer (some ⟨B, 0, none⟩), .agg #[.int .i64 who, .int .i64 kind, .int .i64 pl, .int .u64 old, .int .u64 new]] w (SDoQ n₀ ws B g cap who kind pl old new w) := by
  have hnil : ∀ (a : Addr) (W : World), (binOp .eql 58 (.pointer (some a)) (.pointer none)).run Try.prog W = .ok (.bool false) W := fun _ _ => rfl
  have b0 := Rows8.new w 32 #[.int .i64 who, .int .i64 kind, .int .i64 pl, .int .u64 old, .int .u64 new]
  have b1 := Rows8.new (w.alloc (.cells #[.int .i64 who, .int .i64 kind, .int .i64 pl, .int .u64 old, .int .u64 new] 32)) 27 #[.int .u64 0, .bool false]
  have b0' := b0.alloc (.cells #[.int .u64 0, .bool false] 27)
  have hB0 : Below w.heap.size w ((w.alloc (.cells #[.int .i64 who, .int .i64 kind, .int .i64 pl, .int .u64 old, .int .u64 new] 32)).alloc (.cells #[.int .u64 0, .bool false] 27)) := ((Below.refl _ w).alloc (Nat.le_refl _) _).alloc (by simp) _
  rw [World.size_alloc] at b1
  have hS0 := hS.keep hB0 (Nat.le_refl _)
  have hwr := Try.wrong_any ws.length who kind pl old new
  have hgl := hS.lt.2
  have hbl := hS.blk.lt
  have HW := Lib.hid (fun h => why_ok (n := ws.length) (who := who) (kind := kind) (pl := pl) h)
  have hdo : ∀ W, Shr n₀ ws B g cap W → why ws.length who kind pl = 0 → Calls Try.prog 66 #[.agg #[.int .i64 who, .int .i64 kind, .int .i64 pl, .int .u64 old, .int .u64 new, .iface 126 (.pointer (some ⟨g, pl.toNat, none⟩))]] W fun e w' =>
      e = .returned (.agg #[.int .u64 (ws[pl.toNat]?.getD 0), .bool (doneOf kind old (ws[pl.toNat]?.getD 0))]) ∧ (∀ B t cs, Rows8 W B t cs → g ≠ B → Rows8 w' B t cs) ∧ Shr n₀ (wordsOf ws kind pl old new) B g cap w' ∧ (∀ W1, n₀ ≤ W.heap.size → Below n₀ W1 W → Below n₀ W1 w') := by
    intro W h hz
    obtain ⟨k1, k2, k3, k4, k5, k6⟩ := why_ok hz
    have hl : pl.toNat < ws.length := by omega
    refine (Try.do_any _ _ g pl.toNat (.inr ⟨rfl, rfl⟩) (ws[pl.toNat]?.getD 0) who kind pl old new ⟨k3, k4⟩ W h.lt.2 (h.cell _ hl) (World.ownsRow.frozenAt h.own _)).mono ?_
    rintro e w' ⟨rfl, hB⟩
    exact ⟨rfl, fun B t cs hR hne => after_rows hB hR hne, h.after ⟨k3, k4⟩ hl hB, fun W1 hn1 h1 => after_below h.lt.1 hn1 h1 hB⟩
  unfold SDoQ
  generalize why ws.length who kind pl = q at *
  generalize wordsOf ws kind pl old new = ws' at *
  generalize ws[pl.toNat]?.getD 0 = h at *
  generalize doneOf kind old h = dn at *
  have HWR := Lib.hid hwr
  have HDO := Lib.hid hdo
  clear hwr hdo hS
  go_enter Try.func38, Try.ntmps38
  go_wp2_with fail
  generalize ((w.alloc (.cells #[.int .i64 who, .int .i64 kind, .int .i64 pl, .int .u64 old, .int .u64 new] 32)).alloc (.cells #[.int .u64 0, .bool false] 27)) = W0 at *
  have hbc := hS0.blk.cell 0
  obtain ⟨l0, l1, l2, l3, l4⟩ := five b0'
  simp at hbc
  have HS0 := Lib.hid hS0
  clear hS0 b0
  go_still_tail 6, (by kernel_rfl)
  change wpList _ _ _ _ _ W0.drew
  go_wp2_with fail
  refine (HWR.out _).mono ?_
  rintro e W1 ⟨rfl, hB1⟩
  have hB2 : Below w.heap.size w W1 := hB0.drew.trans (hB1.mono hB0.size)
  have c0 : Rows8 W1 w.heap.size 32 #[.int .i64 who, .int .i64 kind, .int .i64 pl, .int .u64 old, .int .u64 new] := Rows8.below (A := W0.drew) b0' hB1 b0'.lt
  have c1 : Rows8 W1 (w.heap.size + 1) 27 #[.int .u64 0, .bool false] := Rows8.below (A := W0.drew) b1 hB1 b1.lt
  have hS1 : Shr n₀ ws B g cap W1 := Shr.keep (A := W0.drew) ⟨HS0.out.blk, HS0.out.own, HS0.out.le⟩ hB1 (Nat.le_refl _)
  clear b0' b1 hB0 hB1 HS0 hbc l0 l1 l2 l3 l4 HWR
  have hbc := hS1.blk.cell 0
  obtain ⟨l0, l1, l2, l3, l4⟩ := five c0
  have s0 := c1.cell 0
  have s1 := c1.cell 1
  have f0 := c1.frozen 0
  have f1 := c1.frozen 1
  simp at hbc s0 s1
  have HS1 := Lib.hid hS1
  clear hS1
  by_cases hz : q = 0
  · subst hz
    obtain ⟨k1, k2, k3, k4, k5, k6⟩ := HW.out rfl
    have hd : ((0 : Int) != 0) = false := rfl
    have hpp : 0 ≤ pl ∧ pl < (ws.length : Int) := ⟨k5, k6⟩
    go_wp2_with fail
    go_still_tail 10, (by kernel_rfl)
    change wpList _ _ _ _ _ W1.drew
    have hc1' : Rows8 W1.drew (w.heap.size + 1) 27 #[.int .u64 0, .bool false] := c1
    have hSd : Shr n₀ ws B g cap W1.drew := ⟨HS1.out.blk, HS1.out.own, HS1.out.le⟩
    have hB3 := hB2.drew
    clear c0 c1 s0 s1 f0 f1 l0 l1 l2 l3 l4 hbc HS1 hB2
    generalize W1.drew = W2 at *
    have HSD := Lib.hid hSd
    clear hSd
    go_wp2_with fail
    refine (HDO.out _ HSD.out trivial).mono ?_
    rintro e W3 ⟨rfl, hR, hSh, hBl⟩
    have c1 := hR _ _ _ hc1' (by omega)
    have hB4 := hBl w (Nat.le_trans hn hB3.size) (hB3.mono hn)
    have s0 := c1.cell 0
    have s1 := c1.cell 1
    have f0 := c1.frozen 0
    have f1 := c1.frozen 1
    simp at s0 s1
    have hSe := (hSh.setOther (a := ⟨w.heap.size + 1, 0, none⟩) (by simp; omega) (by simp; omega) (.int .u64 h)).setOther (a := ⟨w.heap.size + 1, 1, none⟩) (by simp; omega) (by simp; omega) (.bool dn)
    have HSE := Lib.hid hSe
    have hB5 := (hB4.setCell (p := ⟨w.heap.size + 1, 0, none⟩) (by simp; omega) (.int .u64 h)).setCell (p := ⟨w.heap.size + 1, 1, none⟩) (by simp; omega) (.bool dn)
    have HB5 := Lib.hid hB5
    have cE := c1.set2 (.int .u64 h) (.bool dn)
    have HCE := Lib.hid cE
    clear hR hSh hBl hSe hB5 cE hB4 hB3 hc1' HDO HSD
    go_wp2_with fail
    refine bodyPost_ret (results_ct rfl _ _ (w.heap.size + 1) 27 _ (0, 0) _ rfl HCE.out Try.underlying27 rfl (by kernel_rfl)) rfl ?_
    exact ⟨rfl, HSE.out, HB5.out⟩
  · have hd : (q != 0) = true := by simp [hz]
    have cE := c1.set2 (.int .u64 0) (.bool false)
    go_wp2_with fail
    refine bodyPost_ret (results_ct rfl _ _ (w.heap.size + 1) 27 _ (0, 0) _ rfl cE Try.underlying27 rfl (by kernel_rfl)) rfl ?_
    exact .inl ⟨hz, rfl, (hB2.setCell (p := ⟨w.heap.size + 1, 0, none⟩) (by simp) _).setCell (p := ⟨w.heap.size + 1, 1, none⟩) (by simp) _⟩
end Go.Proofs
