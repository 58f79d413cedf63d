/- Waits and many of the reference; isOf. -/
import Derived.Test.YtliecdpgajchbaaMc
namespace Go.Proofs
open Go.RowKit Go.Shelf
attribute [local go_sem] Oper.semAt_some

theorem Rows8.newB {W : World} {t : TypeId} {cs : Array Value} : Below W.heap.size W (W.alloc (.cells cs t)) := (Below.refl _ W).alloc (Nat.le_refl _) _
theorem waitI_no {g : Int} {l : List Mx} {k : Nat} (hk : k < l.length) (h : g ∉ (l[k]).q) : waitI g (l.drop k) k = waitI g (l.drop (k + 1)) (k + 1) := by
  rw [drop_next l k hk]
  simp [waitI, h]
theorem waitI_yes {g : Int} {l : List Mx} {k : Nat} (hk : k < l.length) (h : g ∈ (l[k]).q) : waitI g (l.drop k) k = (k : Int) := by
  rw [drop_next l k hk]
  simp [waitI, h]
theorem waitI_end {g : Int} {l : List Mx} {k : Nat} (hk : l.length ≤ k) : waitI g (l.drop k) k = -1 := by
  rw [List.drop_of_length_le hk]
  rfl

set_option maxRecDepth 100000 in
set_option maxHeartbeats 1000000 in
theorem Try.refWaits_any (g : Int) (a : Option Addr) (n cap : Nat) (ms : List Mx) (w : World) (hI : MxAt w (.slice a n cap) ms) :
    Calls Try.prog 16 #[.slice a n cap, .int .i64 g] w fun e w' => e = .returned (.int .i64 (waitsB ms g)) ∧ Below w.heap.size w w' := by
  obtain ⟨hn, hnc, hcm⟩ := mxAt_len hI
  have hreach : n ≤ maxLen := by omega
  unfold maxLen at hreach
  have HI := Lib.hid hI
  have HN := Lib.hid hn
  clear hI hn hnc hcm
  go_enter Try.func16, Try.ntmps16
  go_wp2
  go_loopw [11] (fun j wr => ∃ k : Nat, k ≤ n ∧ j = .int .i64 k ∧ Hid (waitsB ms g = waitI g (ms.drop k) k) ∧ Below w.heap.size w wr) (fun j _ => n - (intOf j).toNat)
  case atStart => exact ⟨0, Nat.zero_le _, rfl, Lib.hid rfl, Below.refl _ _⟩
  case round =>
    obtain ⟨k, hk, rfl, hx, hB⟩ := hrel
    by_cases hlt : k < n
    · have hkl : k < ms.length := by rw [← HN.out]; exact hlt
      obtain ⟨b, off, a', c', rfl, hb, hc1, hc2, hin⟩ := mxAt_get (HI.out.below hB) k hkl
      have hyes := @waitI_yes g ms k hkl
      have hno := @waitI_no g ms k hkl
      generalize ms[k] = m at *
      obtain ⟨o, q⟩ := m
      dsimp only at hc1 hc2 hin hyes hno
      obtain ⟨hql, hqc, hqm⟩ := ints_len hin
      generalize hqn : q.length = ql at *
      have HQN := Lib.hid hqn
      clear hqn hql
      have hql63 : ql ≤ maxLen := by omega
      unfold maxLen at hql63
      have hki : (k : Int) < (n : Int) := by omega
      have HX := Lib.hid hx
      have HB := Lib.hid hB
      have HIN := Lib.hid hin
      have HY := Lib.hid hyes
      have HNO := Lib.hid hno
      clear hx hB hin hyes hno hkl
      go_wp2
      obtain ⟨W1, hW1⟩ : ∃ W1, W1 = wr.alloc (.cells #[.int .i64 o, .slice a' ql c'] 53) := ⟨_, rfl⟩
      rw [← hW1]
      have hB1 : Below wr.heap.size wr W1 := by rw [hW1]; exact Rows8.newB
      have HB1 := Lib.hid (HB.out.trans (hB1.mono HB.out.size))
      have HIN1 := Lib.hid (RowAt.below HIN.out hB1)
      clear hW1 hB1
      go_loop [19] (fun j => ∃ i : Nat, i ≤ ql ∧ j = .int .i64 i ∧ Hid (g ∉ q.take i)) (fun j => ql - (intOf j).toNat)
      case atStart => exact ⟨0, Nat.zero_le _, rfl, Lib.hid (by simp)⟩
      case round =>
        obtain ⟨i, hi, rfl, hni⟩ := hrel
        by_cases hil : i < ql
        · have hiq : i < q.length := by rw [HQN.out]; exact hil
          obtain ⟨b2, off2, rfl, hb2, hc⟩ := intsAt_get HIN1.out i hiq
          have hsn := take_snoc q i hiq
          have hmem : q[i] ∈ q := List.getElem_mem _
          rw [getD_int q i hiq] at hc
          generalize q[i] = z at *
          have HSN := Lib.hid hsn
          have HMEM := Lib.hid hmem
          have hii : (i : Int) < (ql : Int) := by omega
          clear hsn hiq hmem
          by_cases he : z = g
          · subst he
            have hq : (z == z) = true := by simp
            have hfin : Hid (waitsB ms z = (k : Int)) := Lib.hid (by rw [HX.out]; exact HY.out HMEM.out)
            go_wp2
            go_ret
            exact ⟨by rw [hfin.out]; rfl, HB1.out⟩
          · have hq : (z == g) = false := by simp [he]
            have HE := Lib.hid he
            clear he
            go_wp2
            go_round
            case rel => exact ⟨i + 1, by omega, by go_num, Lib.hid (by rw [HSN.out, List.mem_append, not_or]; exact ⟨hni.out, by simp; exact fun e => HE.out e.symm⟩)⟩
            case measure => simp [intOf]; omega
        · obtain rfl : i = ql := by omega
          have hfin : Hid (waitsB ms g = waitI g (ms.drop (k + 1)) (k + 1)) := Lib.hid (by
            rw [HX.out]
            refine HNO.out ?_
            have := hni.out
            rwa [List.take_of_length_le (Nat.le_of_eq HQN.out)] at this)
          go_wp2
          exact ⟨⟨k + 1, by omega, by go_num, hfin, HB1.out⟩, by simp [intOf]; omega⟩
    · obtain rfl : k = n := by omega
      have hfin : Hid (waitsB ms g = -1) := Lib.hid (by rw [hx.out]; exact waitI_end (Nat.le_of_eq HN.out.symm))
      go_wp2
      go_ret
      exact ⟨by rw [hfin.out]; rfl, hB⟩

theorem manyB_snoc (ms : List Mx) (g : Int) (k : Nat) (hk : k < ms.length) : manyB (ms.take (k + 1)) g = manyB (ms.take k) g + (ms[k]).q.count g := by
  unfold manyB flatQ
  rw [take_snoc ms k hk, List.flatMap_append, List.count_append]
  simp
theorem manyB_le (ms : List Mx) (g : Int) (k : Nat) : manyB (ms.take k) g ≤ (flatQ ms).length := by
  unfold manyB
  refine Nat.le_trans List.count_le_length ?_
  unfold flatQ
  conv => rhs; rw [← List.take_append_drop k ms, List.flatMap_append, List.length_append]
  omega
theorem mxq_le (g : Int) (ms : List Mx) (k : Nat) (hk : k < ms.length) : manyB (ms.take k) g + (ms[k]).q.count g ≤ (flatQ ms).length := by
  rw [← manyB_snoc ms g k hk]
  exact manyB_le ms g (k + 1)
theorem count_take_snoc (q : List Int) (i : Nat) (g : Int) (hi : i < q.length) : (q.take (i + 1)).count g = (q.take i).count g + if q[i] = g then 1 else 0 := by
  rw [take_snoc q i hi, List.count_append]
  simp [List.count_singleton]
theorem count_take_le (q : List Int) (i : Nat) (g : Int) : (q.take i).count g ≤ q.count g := by
  conv => rhs; rw [← List.take_append_drop i q, List.count_append]
  omega

set_option maxRecDepth 100000 in
set_option maxHeartbeats 1000000 in
theorem Try.many_any (g : Int) (a : Option Addr) (n cap : Nat) (ms : List Mx) (hs : (flatQ ms).length ≤ 100000) (w : World) (hI : MxAt w (.slice a n cap) ms) :
    Calls Try.prog 33 #[.slice a n cap, .int .i64 g] w fun e w' => e = .returned (.int .i64 (manyB ms g : Nat)) ∧ Below w.heap.size w w' := by
  obtain ⟨hn, hnc, hcm⟩ := mxAt_len hI
  have hreach : n ≤ maxLen := by omega
  unfold maxLen at hreach
  have HI := Lib.hid hI
  have HN := Lib.hid hn
  have HS := Lib.hid hs
  clear hI hn hnc hcm hs
  go_enter Try.func33, Try.ntmps33
  go_wp2
  go_loopw [5, 12] (fun c j wr => ∃ k : Nat, k ≤ n ∧ j = .int .i64 k ∧ c = .int .i64 (manyB (ms.take k) g : Nat) ∧ Below w.heap.size w wr) (fun _ j _ => n - (intOf j).toNat)
  case atStart => exact ⟨0, Nat.zero_le _, rfl, rfl, Below.refl _ _⟩
  case round =>
    obtain ⟨k, hk, rfl, rfl, hB⟩ := hrel
    by_cases hlt : k < n
    · have hkl : k < ms.length := by rw [← HN.out]; exact hlt
      obtain ⟨b, off, a', c', rfl, hb, hc1, hc2, hin⟩ := mxAt_get (HI.out.below hB) k hkl
      have hsn := manyB_snoc ms g k hkl
      have hle := mxq_le g ms k hkl
      have hs := HS.out
      generalize ms[k] = m at *
      obtain ⟨o, q⟩ := m
      dsimp only at hc1 hc2 hin hsn hle
      obtain ⟨hql, hqc, hqm⟩ := ints_len hin
      generalize hqn : q.length = ql at *
      have HQN := Lib.hid hqn
      clear hqn hql
      have hql63 : ql ≤ maxLen := by omega
      unfold maxLen at hql63
      have hki : (k : Int) < (n : Int) := by omega
      generalize manyB (ms.take k) g = c0 at *
      have hle2 : c0 + q.count g ≤ 100000 := by omega
      have HB := Lib.hid hB
      have HIN := Lib.hid hin
      have HSN := Lib.hid hsn
      clear hB hin hsn hkl hle hs
      go_wp2
      obtain ⟨W1, hW1⟩ : ∃ W1, W1 = wr.alloc (.cells #[.int .i64 o, .slice a' ql c'] 53) := ⟨_, rfl⟩
      rw [← hW1]
      have hB1 : Below wr.heap.size wr W1 := by rw [hW1]; exact Rows8.newB
      have HB1 := Lib.hid (HB.out.trans (hB1.mono HB.out.size))
      have HIN1 := Lib.hid (RowAt.below HIN.out hB1)
      clear hW1 hB1
      go_loop [5, 19] (fun c j => ∃ i : Nat, i ≤ ql ∧ j = .int .i64 i ∧ c = .int .i64 ((c0 + (q.take i).count g : Nat) : Int)) (fun _ j => ql - (intOf j).toNat)
      case atStart => exact ⟨0, Nat.zero_le _, rfl, by simp⟩
      case round =>
        obtain ⟨i, hi, rfl, rfl⟩ := hrel
        by_cases hil : i < ql
        · have hiq : i < q.length := by rw [HQN.out]; exact hil
          obtain ⟨b2, off2, rfl, hb2, hc⟩ := intsAt_get HIN1.out i hiq
          have hsn := count_take_snoc q i g hiq
          have hct := count_take_le q i g
          rw [getD_int q i hiq] at hc
          generalize q[i] = z at *
          generalize (q.take i).count g = c1 at *
          have HSN2 := Lib.hid hsn
          have hii : (i : Int) < (ql : Int) := by omega
          clear hsn hiq
          obtain ⟨c2, hc2e⟩ : ∃ c2, c2 = c0 + c1 := ⟨_, rfl⟩
          rw [← hc2e]
          have hw1 : IntKind.i64.wrap ((c2 : Int) + 1) = (c2 : Int) + 1 := IntWalk.i64_in _ (by omega)
          have HC2 := Lib.hid hc2e
          clear hc2e hct
          by_cases he : z = g
          · subst he
            have hq : (z == z) = true := by simp
            go_wp2
            go_round
            case rel => exact ⟨i + 1, by omega, by go_num, by rw [HSN2.out, if_pos rfl, ← Nat.add_assoc, ← HC2.out]; rfl⟩
            case measure => simp [intOf]; omega
          · have hq : (z == g) = false := by simp [he]
            have HE := Lib.hid he
            clear he
            go_wp2
            go_round
            case rel => exact ⟨i + 1, by omega, by go_num, by rw [HSN2.out, if_neg HE.out, Nat.add_zero, ← HC2.out]⟩
            case measure => simp [intOf]; omega
        · obtain rfl : i = ql := by omega
          have hfin : (q.take i) = q := List.take_of_length_le (Nat.le_of_eq HQN.out)
          rw [hfin]
          have HSNF := HSN.out
          have HF := Lib.hid HSNF
          clear HSNF hfin
          generalize c0 + q.count g = c3 at *
          go_wp2
          exact ⟨⟨k + 1, by omega, by go_num, by rw [HF.out], HB1.out⟩, by simp [intOf]; omega⟩
    · obtain rfl : k = n := by omega
      rw [List.take_of_length_le (Nat.le_of_eq HN.out.symm)]
      go_wp2
      go_ret
      exact ⟨rfl, hB⟩

theorem Try.isOf_any (i : Nat) (g : Int) (hg : -1 ≤ g ∧ g ≤ 100) (a : Option Addr) (n cap : Nat) (ms : List Mx) (hi : i < ms.length) (w : World) (hI : MxAt w (.slice a n cap) ms) :
    Calls Try.prog 44 #[.slice a n cap, .int .i64 i, .int .i64 g] w fun e w' => e = .returned (.bool (decide (ms[i].own = g + 1))) ∧ w = w' := by
  obtain ⟨hn, hnc, hcm⟩ := mxAt_len hI
  obtain ⟨b, off, a', c', rfl, hb, hc1, -, -⟩ := mxAt_get hI i hi
  generalize ms[i] = m at *
  obtain ⟨o, q⟩ := m
  dsimp only at hc1
  have hii : (i : Int) < (n : Int) := by omega
  have HI := Lib.hid hI
  clear hI
  go_enter Try.func44, Try.ntmps44
  by_cases he : o = g + 1
  · have hq : (o == g + 1) = true := by simp [he]
    have hd : decide (o = g + 1) = true := decide_eq_true he
    have HD := Lib.hid hd
    clear hd he hn hi
    go_wp2
    go_ret
    exact ⟨by rw [HD.out]; rfl, rfl⟩
  · have hq : (o == g + 1) = false := by simp [he]
    have hd : decide (o = g + 1) = false := decide_eq_false he
    have HD := Lib.hid hd
    clear hd he hn hi
    go_wp2
    go_ret
    exact ⟨by rw [HD.out]; rfl, rfl⟩
end Go.Proofs
