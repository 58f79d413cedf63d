/- Ctrl: the reference's Ready and Fills; rows of bytes, copied and compared. -/
import Derived.Test.YtmjlaienklheiaaJq
namespace Go.Proofs
set_option maxRecDepth 100000
open Go.RowKit Go.Shelf
attribute [local go_sem] Oper.semAt_some

theorem kd_layTo : ∀ (fr hs : List Nat) (x : Nat), fr.length ≤ hs.length → (∀ u ∈ hs.take fr.length, u ≤ 127) → ∀ k, (kd (byt (layTo x fr hs) k) = 0 ↔ kd (byt x k) = 0 ∨ k ∈ fr)
  | [], _, _, _, _, k => by simp [layTo]
  | j :: fr, [], _, h, _, _ => by simp at h
  | j :: fr, u :: hs, x, h, hu, k => by
    have hu0 : u ≤ 127 := hu u (by simp)
    have ih := kd_layTo fr hs (setB x j u) (by simpa using h) (fun v hv => hu v (by simp; exact .inr hv)) k
    have e : layTo x (j :: fr) (u :: hs) = layTo (setB x j u) fr hs := rfl
    rw [e, ih, byt_setB (by omega)]
    by_cases hk : k = j
    · have : kd u = 0 := by simp [kd, hu0]
      simp [hk, this]
    · simp [hk]
theorem fr_sorted (x : Nat) : (frTo x 8).Pairwise (· < ·) := List.Pairwise.filter _ List.pairwise_lt_range
theorem fr_mem {x k : Nat} (hk : k < 8) : k ∈ frTo x 8 ↔ kd (byt x k) ≠ 0 := by
  unfold frTo
  rw [List.mem_filter, List.mem_range]
  simp [hk]
/-- The least free slot, the first free ones filled. -/
theorem least_fr {x i lane : Nat} {hs : List Nat} (hi : i ≤ (frTo x 8).length) (hih : i ≤ hs.length) (hu : ∀ u ∈ hs.take i, u ≤ 127) (hl : lane ≤ 8)
    (hb : ∀ j, j < lane → kd (byt (layTo x ((frTo x 8).take i) hs) j) = 0) (he : lane = 8 ∨ kd (byt (layTo x ((frTo x 8).take i) hs) lane) ≠ 0) :
    (lane = 8 ∧ (frTo x 8).length = i) ∨ (lane < 8 ∧ ∃ h : i < (frTo x 8).length, (frTo x 8)[i] = lane) := by
  have hlen : ((frTo x 8).take i).length = i := by rw [List.length_take]; omega
  have hkd : ∀ k, (kd (byt (layTo x ((frTo x 8).take i) hs) k) = 0 ↔ kd (byt x k) = 0 ∨ k ∈ (frTo x 8).take i) := kd_layTo _ hs x (by omega) (by rw [hlen]; exact hu)
  obtain ⟨more, hm⟩ := frTo_pre x lane (8 - lane)
  rw [show lane + (8 - lane) = 8 by omega] at hm
  have hnd := List.pairwise_iff_getElem.1 (fr_sorted x)
  have hinj : ∀ a b (ha : a < (frTo x 8).length) (hb : b < (frTo x 8).length), (frTo x 8)[a] = (frTo x 8)[b] → a = b := fun a b ha hb h => by
    rcases Nat.lt_trichotomy a b with h1 | h1 | h1
    · have := hnd a b ha hb h1; omega
    · exact h1
    · have := hnd b a hb ha h1; omega
  have hmem : ∀ a (ha : a < (frTo x 8).length), (frTo x 8)[a] ∈ (frTo x 8).take i → a < i := fun a ha h => by
    obtain ⟨c, hc, e⟩ := List.getElem_of_mem h
    rw [List.getElem_take] at e
    rw [hlen] at hc
    have := hinj c a (by omega) ha e
    omega
  have hltl : (frTo x lane).length ≤ (frTo x 8).length := by rw [← hm, List.length_append]; omega
  have hget : ∀ a (ha : a < (frTo x lane).length), (frTo x 8)[a]'(by omega) = (frTo x lane)[a] := fun a ha => by
    simp only [← hm]
    exact List.getElem_append_left ha
  have h1 : (frTo x lane).length ≤ i := by
    rcases Nat.lt_or_ge i (frTo x lane).length with h | h
    · exfalso
      have h2 := hget i h
      have h3 : (frTo x lane)[i] ∈ frTo x lane := List.getElem_mem h
      have h4 := frTo_lt h3
      have h5 := (hkd _).1 (hb _ h4)
      have h6 : kd (byt x (frTo x lane)[i]) ≠ 0 := by
        have := (List.mem_filter.1 h3).2
        simpa using this
      rcases h5 with h5 | h5
      · exact h6 h5
      · rw [← h2] at h5
        have := hmem i (by omega) h5
        omega
    · exact h
  have h2 : lane = 8 ∨ (lane < 8 ∧ kd (byt x lane) ≠ 0 ∧ lane ∉ (frTo x 8).take i) := by
    rcases he with he | he
    · exact .inl he
    · rcases Nat.lt_or_ge lane 8 with h | h
      · refine .inr ⟨h, fun e => he ((hkd lane).2 (.inl e)), fun e => he ((hkd lane).2 (.inr e))⟩
      · exact .inl (by omega)
  rcases h2 with h8 | ⟨h8, hx, hn⟩
  · left
    subst h8
    exact ⟨rfl, by omega⟩
  · right
    have hy : frTo x (lane + 1) = frTo x lane ++ [lane] := frTo_yes (by simpa using hx)
    obtain ⟨more2, hm2⟩ := frTo_pre x (lane + 1) (8 - (lane + 1))
    rw [show lane + 1 + (8 - (lane + 1)) = 8 by omega, hy, List.append_assoc] at hm2
    have hlt : (frTo x lane).length < (frTo x 8).length := by rw [← hm2]; simp
    have hg : (frTo x 8)[(frTo x lane).length] = lane := by
      simp only [← hm2]
      rw [List.getElem_append_right (Nat.le_refl _)]
      simp
    have h3 : i ≤ (frTo x lane).length := by
      rcases Nat.lt_or_ge (frTo x lane).length i with h | h
      · exfalso
        refine hn ?_
        have : ((frTo x 8).take i)[(frTo x lane).length]'(by omega) = lane := by rw [List.getElem_take]; exact hg
        rw [← this]
        exact List.getElem_mem _
      · exact h
    obtain rfl : i = (frTo x lane).length := by omega
    exact ⟨h8, hlt, hg⟩
theorem lay_next {x i lane u : Nat} {hs : List Nat} (hi : i < (frTo x 8).length) (hg : (frTo x 8)[i] = lane) (hih : i < hs.length) (hu : hs[i]? = some u) :
    layTo x ((frTo x 8).take (i + 1)) hs = setB (layTo x ((frTo x 8).take i) hs) lane u ∧ (frTo x 8).take (i + 1) = (frTo x 8).take i ++ [lane] := by
  have e : (frTo x 8).take (i + 1) = (frTo x 8).take i ++ [lane] := by rw [List.take_succ_eq_append_getElem hi, hg]
  refine ⟨?_, e⟩
  have hl : ((frTo x 8).take i).length = i := by rw [List.length_take]; omega
  rw [e, layTo_snoc _ _ _ _ (by omega), hl, hu]
  rfl
theorem lay_done {x : Nat} {hs : List Nat} (hn : hs.length ≤ (frTo x 8).length) : layTo x ((frTo x 8).take hs.length) hs = fillsS x hs := by
  unfold fillsS
  have e := List.take_append_drop hs.length (frTo x 8)
  have h := layTo_more x ((frTo x 8).take hs.length) ((frTo x 8).drop hs.length) hs (by rw [List.length_take]; omega)
  rw [e] at h
  exact h.symm
/-- Made ready, the first lanes. -/
def rdTo (x : Nat) : Nat → Nat
  | 0 => x
  | k + 1 => setB (rdTo x k) k (if kd (byt x k) = 0 then 254 else 128)
theorem rd_b (b : Nat) : (if kd b = 0 then 254 else 128) < 256 := by split <;> decide
theorem rdTo_lt {x : Nat} (hx : x < 18446744073709551616) : ∀ k, k ≤ 8 → rdTo x k < 18446744073709551616
  | 0, _ => hx
  | k + 1, h => setB_lt (rdTo_lt hx k (by omega)) (by omega) (rd_b _)
theorem byt_rdTo (x : Nat) : ∀ k j, byt (rdTo x k) j = if j < k then (if kd (byt x j) = 0 then 254 else 128) else byt x j
  | 0, j => by simp [rdTo]
  | k + 1, j => by
    rw [rdTo, byt_setB (rd_b _), byt_rdTo x k j]
    by_cases e : j = k
    · subst e; simp
    · rw [if_neg e]
      by_cases e2 : j < k
      · have e3 : j < k + 1 := by omega
        simp [e2, e3]
      · have e3 : ¬ j < k + 1 := by omega
        simp [e2, e3]
theorem rdTo_8 {x : Nat} (hx : x < 18446744073709551616) : rdTo x 8 = readyS x := byt_ext (rdTo_lt hx 8 (Nat.le_refl _)) (ready_lt x) fun k hk => by
  rw [byt_rdTo, if_pos hk]
  exact (ready_byt x ⟨k, hk⟩).symm
set_option maxHeartbeats 2000000 in
theorem Try.refReady_any (x : Nat) (hx : x < 18446744073709551616) (w : World) :
    Calls Try.prog 27 #[.int .u64 x] w fun e w' => e = .returned (.int .u64 (readyS x : Nat)) ∧ Below w.heap.size w w' := by
  rw [← rdTo_8 hx]
  have HX := Lib.hid hx
  clear hx
  go_enter Try.func27, Try.ntmps27
  go_wp2_with fail
  go_loopw [0, 5] (fun cv j wr => ∃ k : Nat, k ≤ 8 ∧ j = .int .i64 k ∧ cv = .int .u64 (rdTo x k : Nat) ∧ Below w.heap.size w wr) (fun _ j _ => 8 - (intOf j).toNat)
  case atStart => exact ⟨0, Nat.zero_le _, rfl, rfl, Below.refl _ _⟩
  case round =>
    obtain ⟨k, hk, rfl, rfl, hB⟩ := hrel
    by_cases hlt : k < 8
    · have hy := rdTo_lt HX.out k hk
      have HF := Lib.hid fun W => Try.refFull_any (rdTo x k) k hy (by omega) W
      have HP := Lib.hid fun b (hb : b < 256) W => Try.refPut_any (rdTo x k) b k hy hb hlt W
      have hbk : byt (rdTo x k) k = byt x k := by rw [byt_rdTo, if_neg (by omega)]
      rw [hbk] at HF
      have hki : (k : Int) < 8 := by omega
      have HB := Lib.hid hB
      by_cases h0 : kd (byt x k) = 0
      · rw [h0] at HF
        have HN : Hid (rdTo x (k + 1) = setB (rdTo x k) k 254) := Lib.hid (by rw [rdTo, if_pos h0])
        have HP2 := Lib.hid (HP.out 254 (by decide))
        clear hy hbk hB h0 HP
        generalize rdTo x k = y at *
        generalize setB y k 254 = z at *
        go_wp2_with (first
          | (go_at_call 47; refine (HF.out _).mono ?_; rintro e w' ⟨rfl, rfl⟩)
          | (go_at_call 48; refine (HP2.out _).mono ?_; rintro e w2 ⟨rfl, hB2⟩; have HB2 := Lib.hid (HB.out.trans (hB2.mono HB.out.size)); clear hB2))
        exact ⟨⟨k + 1, by omega, by go_num, by rw [HN.out], HB2.out⟩, by simp [intOf]; omega⟩
      · rw [beq_eq_false_iff_ne.2 h0] at HF
        have HN : Hid (rdTo x (k + 1) = setB (rdTo x k) k 128) := Lib.hid (by rw [rdTo, if_neg h0])
        have HP2 := Lib.hid (HP.out 128 (by decide))
        clear hy hbk hB h0 HP
        generalize rdTo x k = y at *
        generalize setB y k 128 = z at *
        go_wp2_with (first
          | (go_at_call 47; refine (HF.out _).mono ?_; rintro e w' ⟨rfl, rfl⟩)
          | (go_at_call 48; refine (HP2.out _).mono ?_; rintro e w2 ⟨rfl, hB2⟩; have HB2 := Lib.hid (HB.out.trans (hB2.mono HB.out.size)); clear hB2))
        exact ⟨⟨k + 1, by omega, by go_num, by rw [HN.out], HB2.out⟩, by simp [intOf]; omega⟩
    · obtain rfl : k = 8 := by omega
      go_wp2_with fail
      go_ret
      exact ⟨rfl, hB⟩
/-- Rows of bytes that came in, copied. -/
theorem Try.cloneB_any (a : Option Addr) (m cap : Nat) (bs : List Nat) (hm : m = bs.length) (hl : m ≤ 100) (w : World) (hR : RowI .u8 w (.slice a m cap) (bs.map fun (b : Nat) => (b : Int))) :
    Calls Try.prog 24 #[.slice a m cap] w (BytesQ bs w) := by
  have hR' := hR
  obtain ⟨_, a', c', e, h1, h2, h3, h4⟩ := hR
  simp only [Value.slice.injEq] at e
  obtain ⟨rfl, _, rfl⟩ := e
  by_cases h0 : m = 0
  · subst h0
    obtain rfl : bs = [] := List.eq_nil_of_length_eq_zero hm.symm
    cases a with
    | none => rw [h3 rfl]; exact Try.clone_any none 0 0 [] rfl (by decide) w (.inl ⟨rfl, rfl⟩)
    | some y => exact Try.cloneEmpty_any y cap w
  · refine Try.clone_any a m cap bs hm (by omega) w ?_
    obtain ⟨b, off, rfl, hb, _⟩ := hR'.get 0 (by rw [List.length_map]; omega)
    refine .inr ⟨b, off, cap, by rw [hm], hb, fun j hj => ?_⟩
    obtain ⟨b2, off2, e2, _, hc⟩ := hR'.get j (by rw [List.length_map]; omega)
    cases e2
    rw [hc, List.getElem?_map, List.getElem?_eq_getElem hj]
    rfl
theorem Try.equalB_any (v : Value) (a : Option Addr) (m cap n₀ : Nat) (bs : List Nat) (hm : m = bs.length) (hl : m ≤ 100) (w : World) (hO : OwnsBytes n₀ bs v w) (hR : RowI .u8 w (.slice a m cap) (bs.map fun (b : Nat) => (b : Int))) :
    Calls Try.prog 30 #[v, .slice a m cap] w fun e w' => e = .returned (.bool true) ∧ Below w.heap.size w w' := by
  obtain ⟨⟨av, cv, rfl⟩, hA⟩ := owns_bytesAt hO
  by_cases h0 : m = 0
  · subst h0
    obtain rfl : bs = [] := List.eq_nil_of_length_eq_zero hm.symm
    exact Try.equalEmpty_any _ _ _ _ w
  · subst hm
    refine Try.equalBytes_any av a _ cv cap bs rfl hl w hA ?_
    obtain ⟨b, off, rfl, hb, _⟩ := hR.get 0 (by rw [List.length_map]; omega)
    refine .inr ⟨b, off, cap, rfl, hb, fun j hj => ?_⟩
    obtain ⟨b2, off2, e2, _, hc⟩ := hR.get j (by rw [List.length_map]; omega)
    cases e2
    rw [hc, List.getElem?_map, List.getElem?_eq_getElem hj]
    rfl
end Go.Proofs
