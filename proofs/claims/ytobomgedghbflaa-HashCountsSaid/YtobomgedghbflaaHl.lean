/- wakes. -/
import Derived.Test.YtobomgedghbflaaHk
namespace Go.Proofs
open Go.RowKit Go.Shelf Go.Deep Go.Maps
attribute [local go_sem] Oper.semAt_some

theorem rising_eq : ∀ {l l' : List Int}, l.Pairwise (fun x y => x < y) → l'.Pairwise (fun x y => x < y) → (∀ x, x ∈ l ↔ x ∈ l') → l = l'
  | [], [], _, _, _ => rfl
  | [], y :: t, _, _, h => absurd ((h y).2 List.mem_cons_self) (by simp)
  | x :: t, [], _, _, h => absurd ((h x).1 List.mem_cons_self) (by simp)
  | x :: t, y :: s, h1, h2, h => by
    obtain ⟨a1, b1⟩ := List.pairwise_cons.1 h1
    obtain ⟨a2, b2⟩ := List.pairwise_cons.1 h2
    have e : x = y := by
      rcases List.mem_cons.1 ((h x).1 List.mem_cons_self) with e | hx
      · exact e
      · rcases List.mem_cons.1 ((h y).2 List.mem_cons_self) with e | hy
        · exact e.symm
        · have := a1 y hy; have := a2 x hx; omega
    subst e
    rw [rising_eq b1 b2 (fun z => ?_)]
    constructor
    · intro hz
      rcases List.mem_cons.1 ((h z).1 (List.mem_cons_of_mem _ hz)) with e | hz2
      · have := a1 z hz; omega
      · exact hz2
    · intro hz
      rcases List.mem_cons.1 ((h z).2 (List.mem_cons_of_mem _ hz)) with e | hz2
      · have := a2 z hz; omega
      · exact hz2
theorem once343 : onceW [3, 4, 3] = [3, 4] := rising_eq (onceW_lt _) (by simp) fun x => by
  rw [onceW_mem]
  simp
  omega
theorem prefs0 (s : Nat) (ks : List Int) : prefsB s 0 ks = ks.map fun _ => 0 := by
  unfold prefsB
  refine List.map_congr_left fun k _ => ?_
  have := ofB_lt s k.toNat
  generalize ofB s k.toNat = h at *
  unfold prefixB
  rw [Nat.sub_zero]
  exact Nat.div_eq_of_lt this
/-- How many keys it has: as many as there are different words. -/
theorem CntAt.len {W : World} {b n : Nat} {ps : List Nat} (h : CntAt W b n ps) (q : List Nat) (hq : q.Nodup) (hm : ∀ x, x ∈ q ↔ x ∈ ps) (ty : TypeId) :
    (Builtin.len_ #[30] ty #[.map (some b)]).run Try.prog W = .ok (.int .i64 (q.length : Int)) W := by
  obtain ⟨D, h1, h2⟩ := h
  obtain ⟨es, he, hp, hk⟩ := h1.entries Try.lawU
  have hl := h1.len Try.underlying30 ty
  have hs : Maps.size D = q.length := by
    have hE : Maps.Tidy (DataW.map (q.map fun (p : Nat) => ((Lit.int .u64 (p : Int)), (DataW.lit (.int .i64 0) : DataW Unit)))) := ⟨_, rfl, List.pairwise_map.2 (hq.imp fun hne => key_ne hne)⟩
    rw [size_same h2.1 hE (by subst he; exact hk) (fun p hp => by obtain ⟨x, _, rfl⟩ := List.mem_map.1 hp; trivial) (fun kl => ?_)]
    · simp [Maps.size]
    · rw [Bool.eq_iff_iff, h2.2.1, Maps.has_eq, List.any_eq_true]
      constructor
      · rintro ⟨p, hp, rfl⟩
        exact ⟨_, List.mem_map.2 ⟨p, (hm p).2 hp, rfl⟩, WideAt.sameKey_self trivial⟩
      · rintro ⟨x, hx, e⟩
        obtain ⟨p, hp, rfl⟩ := List.mem_map.1 hx
        exact ⟨p, (hm p).1 hp, (WideAt.sameKey_eq e).symm⟩
  rw [hs] at hl
  exact hl
theorem CntAt.get {W : World} {b n : Nat} {ps : List Nat} (h : CntAt W b n ps) (p : Nat) (hp : p < 18446744073709551616) :
    (Instr.lookup 30 (.map (some b)) (.int .u64 (p : Int)) false).run Try.prog W = .ok (.int .i64 (ps.count p : Int)) W := by
  obtain ⟨D, h1, h2⟩ := h
  obtain ⟨c, hrun, hat, _⟩ := h1.lookup_int Try.lawU Try.underlying30 Try.underlying3 (Try.zeroI _) (Try.keyU hp)
  rw [cnt_get h2] at hat
  have hc : c = (ps.count p : Int) := by injection hat with hat; injection hat with _ hat; exact hat.symm
  subst hc
  exact hrun
theorem words_lit {W : World} {B : Nat} (ws : List Int) (h : Rows8 W B 22 (wordVals ws).toArray) (hl : ws.length ≤ maxLen) : WordsAt W (.slice (some ⟨B, 0, none⟩) ws.length ws.length) ws :=
  ⟨by rw [wordVals_length, Nat.mul_one], _, ws.length, rfl, Nat.le_refl _, hl, (fun e => by cases e), fun j hj => ⟨B, 0, rfl, h.lt, by rw [Nat.zero_add, Rows8.cell h]; simp⟩⟩
set_option maxRecDepth 100000 in
set_option maxHeartbeats 8000000 in
theorem Try.wakes_any (w : World) : Calls Try.prog 4 #[] w fun e w' => e = .returned (.bool true) ∧ Below w.heap.size w w' := by
  have e1 : prefE 9223372036854775808 1 = (1, 0) := by decide +kernel
  have e2 : prefE 1 65 = (0, 2) := by decide +kernel
  have hp1 : ∀ w : World, Calls Try.prog 10 #[.int .u64 9223372036854775808, .int .i64 1] w fun e w' => e = .returned (.tuple #[.int .u64 1, .int .i64 0]) ∧ w = w' := fun w => by
    have h := Try.Prefix_any 9223372036854775808 1 w
    rw [e1] at h
    exact h
  have hp2 : ∀ w : World, Calls Try.prog 10 #[.int .u64 1, .int .i64 65] w fun e w' => e = .returned (.tuple #[.int .u64 0, .int .i64 2]) ∧ w = w' := fun w => by
    have h := Try.Prefix_any 1 65 w
    rw [e2] at h
    exact h
  have hkk : KeysOk [3, 4, 3] := fun k hk => by simp at hk; omega
  have hl3 : ([3, 4, 3] : List Int).length ≤ maxLen := by unfold maxLen; decide
  have hC := Lib.hid fun (W : World) (B : Nat) (h : Rows8 W B 22 #[.int .u64 3, .int .u64 4, .int .u64 3]) => Try.Crowd_any 12 Try.sortOk12 1 (by decide) 0 (some ⟨B, 0, none⟩) 3 3 [3, 4, 3] rfl (by decide) (by decide) hkk W (words_lit [3, 4, 3] h hl3)
  have hD := Lib.hid fun (W : World) (B : Nat) (h : Rows8 W B 22 #[.int .u64 3, .int .u64 4, .int .u64 3]) => Try.Deepest_any 12 Try.sortOk12 1 (by decide) 1 (some ⟨B, 0, none⟩) 3 3 [3, 4, 3] rfl (by decide) (by decide) hkk W (words_lit [3, 4, 3] h hl3)
  have hOf : ∀ w : World, Calls Try.prog 11 #[.int .u64 5, .int .u64 5] w fun e w' => e = .returned (.int .u64 0) ∧ Below w.heap.size w w' := fun w => by
    have h := Try.Of_any 5 5 (by decide) (by decide) w
    rw [show ofB 5 5 = 0 by decide +kernel] at h
    exact h
  have hKey : ∀ w : World, Calls Try.prog 12 #[.int .u64 5, .int .u64 0] w fun e w' => e = .returned (.int .u64 5) ∧ Below w.heap.size w w' := fun w => by
    have h := Try.Key_any 5 0 (by decide) (by decide) w
    rw [show keyB 5 0 = 5 by decide +kernel] at h
    exact h
  have hH1 : ∀ w : World, Calls Try.prog 13 #[.int .u64 256] w fun e w' => e = .returned (.int .u64 2) ∧ w = w' := fun w => Try.H1_any 256 w
  have hH2 : ∀ w : World, Calls Try.prog 14 #[.int .u64 255] w fun e w' => e = .returned (.int .u8 127) ∧ w = w' := fun w => Try.H2_any 255 (by decide) w
  have hPa : ∀ w : World, Calls Try.prog 15 #[.int .u64 6, .int .u64 7] w fun e w' => e = .returned (.int .i64 63) ∧ w = w' := fun w => by
    have h := Try.Parts_any 6 7 (by decide) (by decide) w
    rw [show partsB 6 7 = 63 by decide +kernel] at h
    exact h
  clear hkk hl3 e1 e2
  go_enter Try.func4, Try.ntmps4
  go_wp2_with fail
  refine (hp1 _).mono ?_
  rintro e w' ⟨rfl, rfl⟩
  go_wp2_with fail
  refine (hp2 _).mono ?_
  rintro e w' ⟨rfl, rfl⟩
  have h1 := Rows8.new w 22 #[.int .u64 3, .int .u64 4, .int .u64 3]
  have HB1 : Hid (Below w.heap.size w (w.alloc (.cells #[.int .u64 3, .int .u64 4, .int .u64 3] 22))) := Lib.hid ((Below.refl _ w).alloc (Nat.le_refl _) _)
  have hC1 := hC.out _ _ h1
  clear h1 hp1 hp2 hC
  go_wp2_with fail
  generalize w.alloc (.cells #[.int .u64 3, .int .u64 4, .int .u64 3] 22) = w1 at *
  refine hC1.mono ?_
  rintro e w2 ⟨hB2, (⟨h, -⟩ | ⟨-, b, rfl, hbl, hc⟩)⟩
  · cases h
  rw [once343] at hc
  have hc' : CntAt w2 b 2 [0, 0] := by
    have h := hc
    rw [show prefsB 1 (0 : Int).toNat [3, 4] = [0, 0] from prefs0 1 [3, 4]] at h
    exact h
  have HB2 := Lib.hid (HB1.out.trans (hB2.mono HB1.out.size))
  have HC2 := Lib.hid hc'
  clear hc hc' hB2 hC1
  have h1 := Rows8.new w2 22 #[.int .u64 3, .int .u64 4, .int .u64 3]
  have HB3 : Hid (Below w2.heap.size w2 (w2.alloc (.cells #[.int .u64 3, .int .u64 4, .int .u64 3] 22))) := Lib.hid ((Below.refl _ w2).alloc (Nat.le_refl _) _)
  have hD1 := hD.out _ _ h1
  clear h1 hD
  go_wp2_with fail
  generalize w2.alloc (.cells #[.int .u64 3, .int .u64 4, .int .u64 3] 22) = w3 at *
  refine hD1.mono ?_
  rintro e w4 ⟨hB4, (⟨h, -⟩ | ⟨-, d, rfl, hd⟩)⟩
  · omega
  have hd0 : 0 < d := by
    rcases Nat.eq_zero_or_pos d with e0 | e0
    · subst e0
      have h2 := hd.2.1
      rw [once343, show prefsB 1 0 [3, 4] = [0, 0] from prefs0 1 [3, 4]] at h2
      exact absurd h2 (by decide)
    · exact e0
  have hc4 := (HC2.out.below HB3.out (Nat.le_refl _)).below hB4 (Nat.le_refl _)
  have hlen := hc4.len [0] (by simp) (by simp)
  have hget : (Instr.lookup 30 (.map (some b)) (.int .u64 0) false).run Try.prog w4 = .ok (.int .i64 (([0, 0] : List Nat).count 0 : Int)) w4 := hc4.get 0 (by decide)
  have hcn : ((([0, 0] : List Nat).count 0 : Nat) : Int) = 2 := by decide
  rw [hcn] at hget
  have hd1 : decide ((0 : Int) < (d : Int)) = true := by simp; omega
  have hd2 : (0 : Int) < (d : Int) := by omega
  have HB5 := Lib.hid ((HB2.out.trans (HB3.out.mono HB2.out.size)).trans (hB4.mono (Nat.le_trans HB2.out.size HB3.out.size)))
  clear hB4 hd hc4 hD1 hcn hbl
  go_wp2_with fail
  refine (hOf _).mono ?_
  rintro e w5 ⟨rfl, hB6⟩
  have HB6 := Lib.hid (HB5.out.trans (hB6.mono HB5.out.size))
  clear hB6 hOf
  go_wp2_with fail
  refine (hKey _).mono ?_
  rintro e w6 ⟨rfl, hB7⟩
  have HB7 := Lib.hid (HB6.out.trans (hB7.mono HB6.out.size))
  clear hB7 hKey
  go_wp2_with fail
  refine (hH1 _).mono ?_
  rintro e w7 ⟨rfl, rfl⟩
  go_wp2_with fail
  refine (hH2 _).mono ?_
  rintro e w7 ⟨rfl, rfl⟩
  go_wp2_with fail
  refine (hPa _).mono ?_
  rintro e w7 ⟨rfl, rfl⟩
  go_wp2_with fail
  go_ret
  exact ⟨rfl, HB7.out⟩
end Go.Proofs
