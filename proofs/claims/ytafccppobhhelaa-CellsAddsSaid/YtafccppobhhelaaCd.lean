/- cells.Do. -/
import Derived.Test.YtafccppobhhelaaCc
import Derived.Deep.RegionWith
import Derived.Deep.Cut
namespace Go.Proofs
open Go.RowKit Go.Shelf
attribute [local go_sem] Oper.semAt_some

theorem Rows8.drew {W : World} {B : Nat} {t : TypeId} {cs : Array Value} (h : Rows8 W B t cs) : Rows8 W.drew B t cs := h
theorem why_ok {n : Nat} {who kind pl : Int} (h : why n who kind pl = 0) : 1 ≤ n ∧ n ≤ 8192 ∧ 1 ≤ kind ∧ kind ≤ 4 ∧ 0 ≤ pl ∧ pl < n := by
  unfold why at h
  split at h
  · omega
  · split at h
    · omega
    · split at h
      · omega
      · omega
theorem words_set {n₀ : Nat} {ws : List Int} {g cap : Nat} {W : World} (h : OwnsWords n₀ ws (.slice (some ⟨g, 0, none⟩) ws.length cap) W) (k : Nat) (z : Int) : OwnsWords n₀ (ws.set k z) (.slice (some ⟨g, 0, none⟩) ws.length cap) (W.setCell ⟨g, k, none⟩ (.int .u64 z)) := by
  have hs := (World.ownsRow.stored h k (.int .u64 z)).1
  unfold OwnsWords
  rw [List.length_set]
  have e : wordVals (ws.set k z) = (wordVals ws).set k (.int .u64 z) := by simp [wordVals, List.map_set]
  rw [e]
  exact hs
/-- The words behind an access that may be. -/
def wordsOf (ws : List Int) (kind pl old new : Int) : List Int := ws.set pl.toNat (nextOf kind old new (ws[pl.toNat]?.getD 0))
theorem wordsOf_length (ws : List Int) (kind pl old new : Int) : (wordsOf ws kind pl old new).length = ws.length := by simp [wordsOf]
theorem nextOf_same {kind old new h : Int} (hk : 1 ≤ kind ∧ kind ≤ 4) (hn : ¬ (kind ≠ 1 ∧ doneOf kind old h = true)) : nextOf kind old new h = h := by
  unfold doneOf at hn
  unfold nextOf
  by_cases k1 : kind = 1
  · subst k1; simp
  · have h3 : kind = 3 ∧ ¬ h = old := by
      simp [k1] at hn
      exact hn
    simp [h3.1, h3.2]
theorem words_after {n₀ : Nat} {ws : List Int} {g cap k : Nat} {kind old new : Int} {W w' : World} (hk : 1 ≤ kind ∧ kind ≤ 4) (h : OwnsWords n₀ ws (.slice (some ⟨g, 0, none⟩) ws.length cap) W) (hl : k < ws.length)
    (hB : Below W.heap.size (afterOf kind old new (ws[k]?.getD 0) ⟨g, k, none⟩ W) w') : OwnsWords n₀ (ws.set k (nextOf kind old new (ws[k]?.getD 0))) (.slice (some ⟨g, 0, none⟩) ws.length cap) w' := by
  have hz : (ws.set k (nextOf kind old new (ws[k]?.getD 0))).length = ws.length := by simp
  unfold afterOf at hB
  split at hB
  · refine owns_keep (words_set h k _) hB ?_
    simp [World.setCell]
  · rename_i hn
    rw [nextOf_same hk hn]
    have e : ws.set k (ws[k]?.getD 0) = ws := by
      apply List.ext_getElem
      · simp
      · intro i h1 h2
        rw [List.getElem_set]
        split
        · rename_i e; subst e; simp [hl]
        · rfl
    rw [e]
    exact owns_keep h hB (Nat.le_refl _)
theorem after_below {n₀ : Nat} {kind old new h : Int} {a : Addr} {w W w' : World} (hb : n₀ ≤ a.block) (hn : n₀ ≤ W.heap.size) (h1 : Below n₀ w W) (h2 : Below W.heap.size (afterOf kind old new h a W) w') : Below n₀ w w' := by
  unfold afterOf at h2
  split at h2
  · exact (h1.setCell (p := a) hb _).trans (h2.mono hn)
  · exact h1.trans (h2.mono hn)
theorem after_rows {kind old new h : Int} {a : Addr} {W w' : World} (h2 : Below W.heap.size (afterOf kind old new h a W) w') {B : Nat} {t : TypeId} {cs : Array Value} (hR : Rows8 W B t cs) (hne : a.block ≠ B) : Rows8 w' B t cs := by
  unfold afterOf at h2
  split at h2
  · exact (Rows8.setOther hR hne _).below h2 hR.lt
  · exact hR.below h2 hR.lt

/-- What stands ahead of a hand's deed: the words are owned, all that is older is as it was. -/
structure Ready (w : World) (ws : List Int) (g cap : Nat) (W : World) : Prop where
  own : OwnsWords w.heap.size ws (.slice (some ⟨g, 0, none⟩) ws.length cap) W
  below : Below w.heap.size w W
theorem Ready.alloc {w : World} {ws : List Int} {g cap : Nat} {W : World} (h : Ready w ws g cap W) (o : Obj) : Ready w ws g cap (W.alloc o) := ⟨World.ownsRow.alloc h.own o, h.below.alloc h.below.size o⟩
theorem Ready.drew {w : World} {ws : List Int} {g cap : Nat} {W : World} (h : Ready w ws g cap W) : Ready w ws g cap W.drew := ⟨h.own, h.below.drew⟩
theorem Ready.set {w : World} {ws : List Int} {g cap : Nat} {W : World} (h : Ready w ws g cap W) {a : Addr} (h1 : w.heap.size ≤ a.block) (h2 : a.block ≠ g) (v : Value) : Ready w ws g cap (W.setCell a v) :=
  ⟨ownsRow_setCell_other h.own (by simp [Value.ownBlock]; exact fun e => h2 e.symm) v, h.below.setCell (p := a) h1 v⟩
theorem Ready.words {w : World} {ws : List Int} {g cap : Nat} {W : World} (h : Ready w ws g cap W) : w.heap.size ≤ g ∧ g < W.heap.size := by
  have := World.ownsRow.lt h.own g (by simp [Value.ownBlock])
  exact this

set_option maxHeartbeats 1000000 in
theorem Try.deed_any (w : World) (ws : List Int) (g cap : Nat) (who kind pl old new : Int) (hw : why ws.length who kind pl = 0) (W : World) (hR : Ready w ws g cap W) :
    Calls Try.prog 66 #[.agg #[.int .i64 who, .int .i64 kind, .int .i64 pl, .int .u64 old, .int .u64 new, .iface 101 (.slice (some ⟨g, pl.toNat, none⟩) 1 1)]] W fun e w' =>
      e = .returned (.agg #[.int .u64 (ws[pl.toNat]?.getD 0), .bool (doneOf kind old (ws[pl.toNat]?.getD 0))]) ∧ (∃ W0, W0 = W ∧ ∀ B t cs, Rows8 W0 B t cs → g ≠ B → Rows8 w' B t cs) ∧ Ready w (wordsOf ws kind pl old new) g cap w' := by
  obtain ⟨k1, k2, k3, k4, k5, k6⟩ := why_ok hw
  have hl : pl.toNat < ws.length := by omega
  refine (Try.do_any _ _ g pl.toNat (.inl ⟨rfl, rfl⟩) (ws[pl.toNat]?.getD 0) who kind pl old new ⟨k3, k4⟩ W hR.words.2 (words_cell hR.own _ hl) (words_frozen hR.own _)).mono ?_
  rintro e w' ⟨rfl, hB⟩
  refine ⟨rfl, ⟨W, rfl, fun B t cs h hne => after_rows hB h hne⟩, ?_, after_below hR.words.1 hR.below.size hR.below hB⟩
  have := words_after ⟨k3, k4⟩ hR.own hl hB
  rw [wordsOf_length]
  exact this

def DoQ (ws : List Int) (who kind pl old new : Int) (w : World) (e : Ending) (w' : World) : Prop :=
  (why ws.length who kind pl ≠ 0 ∧ e = .returned (.tuple #[.slice none 0 0, .agg #[.int .u64 0, .bool false], .int .i64 (why ws.length who kind pl)]) ∧ Below w.heap.size w w') ∨
  (why ws.length who kind pl = 0 ∧ ∃ v, e = .returned (.tuple #[v, .agg #[.int .u64 (ws[pl.toNat]?.getD 0), .bool (doneOf kind old (ws[pl.toNat]?.getD 0))], .int .i64 0]) ∧ OwnsWords w.heap.size (wordsOf ws kind pl old new) v w' ∧ Below w.heap.size w w')

theorem results_tct {P : Program} {fn : Func} {p q u : Tmp} {ty : TypeId} (h : fn.results = #[.tmp q, .cell p ty, .tmp u]) (tmps : Array Value) (w : World) (g : Nat) (t : TypeId) (cs : Array Value) (fr : Nat × Nat) (d : TypeDesc)
    (hp : tmps.getD p undef = .pointer (some ⟨g, 0, none⟩)) (hg : w.heap[g]? = some (.cells cs t fr))
    (hu : P.underlying ty = some d) (hd : (match d with | .struct _ | .array _ _ => true | _ => false) = true) (hi : (P.info? ty).map (·.size) = some cs.size) :
    (results fn tmps).run P w = .ok (.tuple #[tmps.getD q undef, .agg cs, tmps.getD u undef]) w := by
  have hp' : tmps[p]?.getD undef = .pointer (some ⟨g, 0, none⟩) := by simpa using hp
  simp [results, h, hp', asAddr, run_loadVar_row w g t ty cs fr d hg hu hd hi, Result.andThen]

set_option maxRecDepth 100000 in
set_option maxHeartbeats 4000000 in
theorem Try.Do_any (ws : List Int) (v : Value) (who kind pl old new : Int) (w : World) (hI : WordsAt w v ws) :
    Calls Try.prog 16 #[v, .agg #[.int .i64 who, .int .i64 kind, .int .i64 pl, .int .u64 old, .int .u64 new]] w (DoQ ws who kind pl old new w) := by
  have hwr := Try.wrong_any ws.length who kind pl old new
  have hcp := fun h1 h2 W hW => Try.copied_any ws h1 h2 v W hW
  have hI0 := hI
  obtain ⟨_, a, cap, rfl, hlc, hcm, _, hc⟩ := hI
  have b0 := Rows8.new w 32 #[.int .i64 who, .int .i64 kind, .int .i64 pl, .int .u64 old, .int .u64 new]
  have b1 := Rows8.new (w.alloc (.cells #[.int .i64 who, .int .i64 kind, .int .i64 pl, .int .u64 old, .int .u64 new] 32)) 27 #[.int .u64 0, .bool false]
  have b0' := b0.alloc (.cells #[.int .u64 0, .bool false] 27)
  have hB0 : Below w.heap.size w ((w.alloc (.cells #[.int .i64 who, .int .i64 kind, .int .i64 pl, .int .u64 old, .int .u64 new] 32)).alloc (.cells #[.int .u64 0, .bool false] 27)) := ((Below.refl _ w).alloc (Nat.le_refl _) _).alloc (by simp) _
  rw [World.size_alloc] at b1
  have hI1 : WordsAt ((w.alloc (.cells #[.int .i64 who, .int .i64 kind, .int .i64 pl, .int .u64 old, .int .u64 new] 32)).alloc (.cells #[.int .u64 0, .bool false] 27)) (.slice a ws.length cap) ws := RowAt.below hI0 hB0
  have HWR := Lib.hid hwr
  have HCP := Lib.hid hcp
  have HI1 := Lib.hid hI1
  clear hwr hcp hI1 hI0 hc
  unfold DoQ
  have HW := Lib.hid (fun h => why_ok (n := ws.length) (who := who) (kind := kind) (pl := pl) h)
  have HD := Lib.hid (fun g cap h => Try.deed_any w ws g cap who kind pl old new h)
  generalize why ws.length who kind pl = q at *
  have HLW := Lib.hid (wordsOf_length ws kind pl old new)
  generalize wordsOf ws kind pl old new = ws' at *
  generalize ws[pl.toNat]?.getD 0 = h at *
  generalize doneOf kind old h = dn at *
  go_enter Try.func16, Try.ntmps16
  go_wp2_with fail
  generalize ((w.alloc (.cells #[.int .i64 who, .int .i64 kind, .int .i64 pl, .int .u64 old, .int .u64 new] 32)).alloc (.cells #[.int .u64 0, .bool false] 27)) = W0 at *
  have l0 := b0'.cell 0
  have l1 := b0'.cell 1
  have l2 := b0'.cell 2
  have l3 := b0'.cell 3
  have l4 := b0'.cell 4
  simp at l0 l1 l2 l3 l4
  clear b0
  refine (HWR.out _).mono ?_
  rintro e W1 ⟨rfl, hB1⟩
  have hB2 := hB0.trans (hB1.mono hB0.size)
  have c0 := b0'.below hB1 b0'.lt
  have c1 := b1.below hB1 b1.lt
  have hI2 := RowAt.below HI1.out hB1
  have hl1 := b1.lt
  clear b0' b1 hB0 l0 l1 l2 l3 l4 HI1
  have l0 := c0.cell 0
  have l1 := c0.cell 1
  have l2 := c0.cell 2
  have l3 := c0.cell 3
  have l4 := c0.cell 4
  have s0 := c1.cell 0
  have s1 := c1.cell 1
  have f0 := c1.frozen 0
  have f1 := c1.frozen 1
  simp at l0 l1 l2 l3 l4 s0 s1
  have HI2 := Lib.hid hI2
  have HB2 := Lib.hid hB2
  clear hI2 hB2 HWR
  by_cases hz : q = 0
  · subst hz
    obtain ⟨k1, k2, k3, k4, k5, k6⟩ := HW.out rfl
    have hd : ((0 : Int) != 0) = false := rfl
    go_wp2_with fail
    refine (HCP.out k1 k2 W1 HI2.out).mono ?_
    rintro e W2 ⟨v, rfl, hO, hB3⟩
    have hO2 := owns_mono hO (HB2.out.size)
    obtain ⟨g, cp, rfl, hg, hgl, hlc2, hcm2⟩ := words_cells hO k1
    have hB4 := HB2.out.trans (hB3.mono HB2.out.size)
    have r0 := c0.below hB3 c0.lt
    have r1 := c1.below hB3 c1.lt
    have hRy : Ready w ws g cp W2 := ⟨hO2, hB4⟩
    have hl2 := c1.lt
    clear c0 c1 l0 l1 l2 l3 l4 s0 s1 f0 f1 hO hO2 hB3 hB4 hB1
    have l0 := r0.cell 0
    have l1 := r0.cell 1
    have l2 := r0.cell 2
    have l3 := r0.cell 3
    have l4 := r0.cell 4
    have ra := r0.alloc (.cells #[.int .u64 0, .bool false] 27)
    have m0 := ra.cell 0
    have m1 := ra.cell 1
    have m2 := ra.cell 2
    have m3 := ra.cell 3
    have m4 := ra.cell 4
    simp at l0 l1 l2 l3 l4 m0 m1 m2 m3 m4
    have hal := fun W => Try.alone_any g ws.length cp pl.toNat (by omega) hlc2 hcm2 W
    rw [show ((pl.toNat : Nat) : Int) = pl by omega] at hal
    have HAL := Lib.hid hal
    have HD2 := Lib.hid (HD.out g cp trivial)
    have HRY := Lib.hid hRy
    clear hal HD HCP HW hd hRy
    go_wp2_with fail
    go_cut [9] from 20 (fun s9 wc => ∃ B, s9 = .pointer (some ⟨B, 0, none⟩) ∧ Rows8 wc B 27 #[.int .u64 h, .bool dn] ∧ Rows8 wc (w.heap.size + 1) 27 #[.int .u64 0, .bool false] ∧ Ready w ws' g cp wc)
    case first =>
      go_region_with (first | (go_at_call 65; refine (HAL.out _).mono ?_; rintro e w' ⟨rfl, rfl⟩) | (go_at_call 66; refine (HD2.out _ (by first | exact HRY.out.drew | exact HRY.out.drew.alloc _)).mono ?_; rintro e w' ⟨rfl, ⟨W9, hW9, hrows⟩, hrdy⟩; (have hy : Rows8 w' (w.heap.size + 1) 27 #[.int .u64 0, .bool false] := hrows _ _ _ (by rw [hW9]; first | exact r1 | exact r1.alloc _) (by omega)); (first | (have hx : Rows8 W9 W2.heap.size 27 #[.int .u64 0, .bool false] := (by rw [hW9]; exact Rows8.new W2 _ _); have hx2 := hrows _ _ _ hx (by omega); have q0 := hx2.cell 0; have q1 := hx2.cell 1; have g0 := hx2.frozen 0; have g1 := hx2.frozen 1; simp at q0 q1) | skip)))
      all_goals (go_wp2_with fail; go_meet)
      all_goals try (show ∃ B, _)
      all_goals first
        | exact ⟨_, rfl, Rows8.new w' _ _, hy.alloc _, hrdy.alloc _⟩
        | exact ⟨_, rfl, hx2.set2 _ _, (hy.setOther (by simp; omega) _).setOther (by simp; omega) _, (hrdy.set (by simp; omega) (by simp; omega) _).set (by simp; omega) (by simp; omega) _⟩
    case rest =>
      obtain ⟨B, rfl, hR1, hR2, hRdy⟩ := hcut
      have s0 := hR1.cell 0
      have s1 := hR1.cell 1
      have t0 := hR2.cell 0
      have t1 := hR2.cell 1
      have f0 := hR2.frozen 0
      have f1 := hR2.frozen 1
      simp at s0 s1 t0 t1
      have cE := hR2.set2 (.int .u64 h) (.bool dn)
      have hRz := (hRdy.set (a := ⟨w.heap.size + 1, 0, none⟩) (by simp) (by simp; omega) (.int .u64 h)).set (a := ⟨w.heap.size + 1, 1, none⟩) (by simp) (by simp; omega) (.bool dn)
      have HE := Lib.hid cE
      have HZ := Lib.hid hRz
      clear cE hRz hR1 hR2 hRdy
      go_wp2_with fail
      go_region
      go_wp2_with fail
      refine bodyPost_ret (results_tct rfl _ _ (w.heap.size + 1) 27 _ (0, 0) _ rfl HE.out.drew Try.underlying27 rfl (by kernel_rfl)) rfl ?_
      refine ⟨_, rfl, ?_, HZ.out.below.drew⟩
      have hO := HZ.out.own
      rw [HLW.out] at hO
      exact hO
  · have hd : (q != 0) = true := by simp [hz]
    have cE := c1.set2 (.int .u64 0) (.bool false)
    go_wp2_with fail
    refine bodyPost_ret (results_tct rfl _ _ (w.heap.size + 1) 27 _ (0, 0) _ rfl cE Try.underlying27 rfl (by kernel_rfl)) rfl ?_
    exact .inl ⟨hz, rfl, (HB2.out.setCell (p := ⟨w.heap.size + 1, 0, none⟩) (by simp) _).setCell (p := ⟨w.heap.size + 1, 1, none⟩) (by simp) _⟩
end Go.Proofs
