/- The reference's once, Many. -/
import Derived.Test.YtdpjmabamjgmkaaHt
namespace Go.Proofs
open Go.RowKit Go.Shelf Go.Deep
attribute [local go_sem] Oper.semAt_some

/-- Each once, as it comes first. -/
def dedF (acc : List Int) (x : Int) : List Int := if x ∈ acc then acc else acc ++ [x]
def dedB (ks : List Int) : List Int := ks.foldl dedF []
theorem dedF_mem (acc : List Int) (x y : Int) : y ∈ dedF acc x ↔ y ∈ acc ∨ y = x := by
  unfold dedF
  split
  · rename_i h
    constructor
    · exact .inl
    · rintro (h2 | rfl)
      · exact h2
      · exact h
  · simp
theorem dedF_nodup {acc : List Int} (h : acc.Nodup) (x : Int) : (dedF acc x).Nodup := by
  unfold dedF
  split
  · exact h
  · rename_i hx
    rw [List.nodup_append]
    exact ⟨h, by simp, fun a ha b hb => by
      obtain rfl : b = x := by simpa using hb
      exact fun e => hx (e ▸ ha)⟩
theorem ded_fold (ks : List Int) : ∀ acc : List Int, acc.Nodup → (ks.foldl dedF acc).Nodup ∧ ∀ y, y ∈ ks.foldl dedF acc ↔ y ∈ acc ∨ y ∈ ks := by
  induction ks with
  | nil => intro acc h; exact ⟨h, fun y => by simp⟩
  | cons x t ih =>
    intro acc h
    obtain ⟨h1, h2⟩ := ih (dedF acc x) (dedF_nodup h x)
    refine ⟨h1, fun y => ?_⟩
    rw [List.foldl_cons, h2, dedF_mem, List.mem_cons, or_assoc]
theorem ded_perm (ks : List Int) : (dedB ks).Perm (onceW ks) := by
  obtain ⟨h1, h2⟩ := ded_fold ks [] List.nodup_nil
  refine (List.perm_ext_iff_of_nodup h1 (onceW_nodup ks)).2 fun y => ?_
  have := h2 y
  rw [this, onceW_mem]
  simp
theorem ded_count (s n : Nat) (ks : List Int) (p : Nat) : (prefsB s n (dedB ks)).count p = (prefsB s n (onceW ks)).count p := ((ded_perm ks).map _).count_eq p
theorem ded_take {ks : List Int} {k : Nat} (h : k < ks.length) : dedB (ks.take (k + 1)) = dedF (dedB (ks.take k)) ks[k] := by
  unfold dedB
  rw [List.take_succ_eq_append_getElem h, List.foldl_append]
  rfl
theorem dedF_len (acc : List Int) (x : Int) : (dedF acc x).length ≤ acc.length + 1 := by
  unfold dedF
  split <;> simp
theorem ded_len (ks : List Int) : (dedB ks).length ≤ ks.length := by
  rw [(ded_perm ks).length_eq]
  exact onceW_le ks
set_option maxRecDepth 100000 in
set_option maxHeartbeats 4000000 in
theorem Try.refOnce_any (a : Option Addr) (n cap : Nat) (ks : List Int) (hn : n = ks.length) (hn1 : n ≤ 1000) (w : World) (hI : WordsAt w (.slice a n cap) ks) :
    Calls Try.prog 46 #[.slice a n cap] w (WordsQ (dedB ks) w) := by
  obtain ⟨i0, hi, hz0, hz1, hz2⟩ := info_parts Try.infoWord
  have HI := Lib.hid hI
  have HN := Lib.hid hn
  clear hI hn
  go_enter Try.func46, Try.ntmps46
  go_wp2_with fail
  go_loopw [3, 11] (fun o j wr => ∃ (k m : Nat) (l : List Int) (ao : Option Addr) (co : Nat), o = .slice ao m co ∧ k ≤ n ∧ m ≤ k ∧ Hid (m = l.length) ∧ j = .int .i64 (k : Int) ∧ Hid (l = dedB (ks.take k)) ∧ Hid (OwnsWords w.heap.size l (.slice ao m co) wr) ∧ Hid (Below w.heap.size w wr)) (fun _ j _ => n - (intOf j).toNat)
  case atStart => exact ⟨0, 0, [], none, 0, rfl, Nat.zero_le _, Nat.le_refl _, Lib.hid rfl, rfl, Lib.hid rfl, Lib.hid (World.ownsRow_nil _ _ _ _), Lib.hid (Below.refl _ _)⟩
  case round =>
    obtain ⟨k, m, l, ao, co, rfl, hk, hmk, HM, rfl, hl, HO, HB⟩ := hrel
    by_cases hlt : k < n
    · have hki : (k : Int) < (n : Int) := by omega
      have hkl : k < ks.length := by rw [← HN.out]; exact hlt
      obtain ⟨b, off, rfl, hb, hc⟩ := wordsAt_get (RowAt.below HI.out HB.out) k hkl
      have hnx := ded_take hkl
      rw [show ks[k] = ks[k]?.getD 0 by simp [hkl], ← hl.out] at hnx
      have HNX := Lib.hid hnx
      clear hnx
      generalize ks[k]?.getD 0 = x at *
      obtain ⟨we, rfl⟩ : ∃ z, z = wr := ⟨_, rfl⟩
      have HA := Lib.hid (show WordsAt we (.slice ao m co) l from by have h := rowAt_own HO.out; rw [← HM.out] at h; unfold WordsAt; rw [← HM.out]; exact h)
      go_wp2_with fail
      go_loopw [6, 17] (fun tv jv wr => ∃ j : Nat, j ≤ m ∧ jv = .int .i64 (j : Int) ∧ tv = .bool (decide (x ∈ l.take j)) ∧ we = wr) (fun _ jv _ => m - (intOf jv).toNat)
      case atStart => exact ⟨0, Nat.zero_le _, rfl, by simp, rfl⟩
      case round =>
        obtain ⟨j, hj, rfl, rfl, rfl⟩ := hrel
        by_cases hjm : j < m
        · have hji : (j : Int) < (m : Int) := by omega
          have hjl : j < l.length := by rw [← HM.out]; exact hjm
          obtain ⟨b2, off2, rfl, hb2, hc2⟩ := wordsAt_get HA.out j hjl
          have hT : decide (x ∈ l.take (j + 1)) = (decide (x ∈ l.take j) || (l[j]?.getD 0 == x)) := by
            rw [List.take_succ_eq_append_getElem hjl, show l[j] = l[j]?.getD 0 by simp [hjl]]
            rw [Bool.eq_iff_iff, Bool.or_eq_true, decide_eq_true_iff, decide_eq_true_iff, beq_iff_eq, List.mem_append, List.mem_singleton]
            exact ⟨fun h => h.elim .inl (fun h => .inr h.symm), fun h => h.elim .inl (fun h => .inr h.symm)⟩
          have HT := Lib.hid hT
          clear hT
          generalize l[j]?.getD 0 = y at *
          cases hd : decide (x ∈ l.take j) with
          | true =>
            rw [hd] at HT
            go_wp2_with fail
            exact ⟨⟨j + 1, by omega, by go_num, by rw [HT.out]; rfl, by first | trivial | rfl⟩, by simp [intOf]; omega⟩
          | false =>
            rw [hd] at HT
            go_wp2_with fail
            exact ⟨⟨j + 1, by omega, by go_num, by rw [HT.out]; simp, by first | trivial | rfl⟩, by simp [intOf]; omega⟩
        · obtain rfl : j = m := by omega
          have hfull : decide (x ∈ l.take j) = decide (x ∈ l) := by rw [HM.out, List.take_length]
          rw [hfull]
          clear hfull
          cases hd : decide (x ∈ l) with
          | true =>
            have hnew : Hid (l = dedB (ks.take (k + 1))) := Lib.hid (by rw [HNX.out, dedF, if_pos (of_decide_eq_true hd)])
            clear hd
            go_wp2_with fail
            exact ⟨⟨k + 1, j, l, ao, co, rfl, by omega, by omega, HM, by go_num, hnew, HO, HB⟩, by simp [intOf]; omega⟩
          | false =>
            have hnew : Hid (l ++ [x] = dedB (ks.take (k + 1))) := Lib.hid (by rw [HNX.out, dedF, if_neg (of_decide_eq_false hd)])
            clear hd
            have HOa := Lib.hid (show OwnsWords w.heap.size l (.slice ao j co) (we.alloc (.cells #[.int .u64 x] 22)) from owns_keep HO.out ((Below.refl _ we).alloc (Nat.le_refl _) _) (Nat.le_refl _))
            have hBs := HB.out.size
            have hl1000 : Hid (l.length ≤ 1000) := Lib.hid (by have := HM.out; omega)
            have HR1 := Lib.hid (rowAt_own (own1 (n₀ := 0) (Rows8.new we 22 #[.int .u64 x]) (Nat.zero_le _) rfl))
            have HBa := Lib.hid (HB.out.alloc HB.out.size (.cells #[.int .u64 x] 22))
            go_wp2_with (at_builtin; refine wpList_append_row _ rfl _ _ 23 rfl w.heap.size 22 i0 (.int .u64 0) 1 8 Try.underlying23 hi hz0 hz1 hz2 rfl (by decide) _ _ _ rfl HOa.out _ 1 [.int .u64 x] rfl HR1.out (by simp [Value.oneCell']) (by have := hl1000.out; unfold maxLen; omega) (by have := hl1000.out; omega) (by have := hl1000.out; simp; omega) ?_)
            intro v6 w6 hown6 hg6 _
            have hO6 : OwnsWords w.heap.size (l ++ [x]) v6 w6 := by
              unfold OwnsWords
              simpa [wordVals] using hown6
            have HO6 := Lib.hid hO6
            have HB6 := Lib.hid (HBa.out.grown hg6 HBa.out.size (fun j ej => (World.ownsRow.lt HOa.out j ej).1))
            have hlen2 : Hid (j + 1 = (l ++ [x]).length) := Lib.hid (by rw [HM.out]; simp)
            clear hown6 hg6
            obtain ⟨a6, c6, rfl⟩ : ∃ a6 c6, v6 = .slice a6 (j + 1) c6 := by
              obtain ⟨_, a, cap, h, _⟩ := rowAt_own hO6
              rw [← hlen2.out] at h
              exact ⟨a, cap, h⟩
            clear hO6
            go_wp2_with fail
            exact ⟨⟨k + 1, j + 1, l ++ [x], a6, c6, rfl, by omega, by omega, hlen2, by go_num, hnew, HO6, HB6⟩, by simp [intOf]; omega⟩
    · obtain rfl : k = n := by omega
      have hfin : Hid (l = dedB ks) := Lib.hid (by rw [hl.out, HN.out, List.take_length])
      go_wp2_with fail
      go_ret
      exact ⟨_, rfl, by rw [← hfin.out]; exact HO.out, HB.out⟩
end Go.Proofs
