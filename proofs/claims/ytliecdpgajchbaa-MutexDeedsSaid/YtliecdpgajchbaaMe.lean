/- Right of the reference. -/
import Derived.Test.YtliecdpgajchbaaMd
namespace Go.Proofs
open Go.RowKit Go.Shelf
attribute [local go_sem] Oper.semAt_some

theorem all_drop {α : Type} (p : α → Bool) (l : List α) (k : Nat) (h : k < l.length) : (l.drop k).all p = (p l[k] && (l.drop (k + 1)).all p) := by
  rw [drop_next l k h, List.all_cons]
theorem all_dropE {α : Type} (p : α → Bool) (l : List α) (k : Nat) (h : l.length ≤ k) : (l.drop k).all p = true := by
  rw [List.drop_of_length_le h]
  rfl
set_option maxRecDepth 100000 in
set_option maxHeartbeats 2000000 in
theorem Try.refRight_any (a : Option Addr) (n cap : Nat) (ms : List Mx) (hs : (flatQ ms).length ≤ 100000) (w : World) (hI : MxAt w (.slice a n cap) ms) :
    Calls Try.prog 10 #[.slice a n cap] w fun e w' => e = .returned (.bool (rightB ms)) ∧ Below w.heap.size w w' := by
  obtain ⟨hn, hnc, hcm⟩ := mxAt_len hI
  have hreach : n ≤ maxLen := by omega
  unfold maxLen at hreach
  have hmany := fun (g : Int) (wr : World) (hB : Below w.heap.size w wr) => Try.many_any g a n cap ms hs wr (hI.below hB)
  have hrb : rightB ms = (decide (1 ≤ n ∧ n ≤ 160) && ms.all (oneB ms)) := by unfold rightB; rw [hn]
  have HMANY := Lib.hid hmany
  have HRB := Lib.hid hrb
  have HI := Lib.hid hI
  have HN := Lib.hid hn
  clear hI hn hnc hcm hs hmany hrb
  go_enter Try.func10, Try.ntmps10
  go_wp2
  go_loopw [9] (fun j wr => ∃ k : Nat, k ≤ n ∧ j = .int .i64 k ∧ Hid (ms.all (oneB ms) = (ms.drop k).all (oneB ms)) ∧ Below w.heap.size w wr) (fun j _ => n - (intOf j).toNat)
  case atStart => exact ⟨0, Nat.zero_le _, rfl, Lib.hid rfl, Below.refl _ _⟩
  case round =>
    obtain ⟨k, hk, rfl, hx, hB⟩ := hrel
    by_cases hlt : k < n
    · have hkl : k < ms.length := by rw [← HN.out]; exact hlt
      obtain ⟨b, off, a', c', rfl, hb, hc1, hc2, hin⟩ := mxAt_get (HI.out.below hB) k hkl
      have hall := hx.out.trans (all_drop (oneB ms) ms k hkl)
      have hone : oneB ms ms[k] = (okB ms[k] && (ms[k]).q.all (elB ms ms[k])) := rfl
      rw [hone] at hall
      generalize hm : ms[k] = m at *
      obtain ⟨o, q⟩ := m
      dsimp only at hc1 hc2 hin hall
      have hokd : okB ⟨o, q⟩ = decide (0 ≤ o ∧ o ≤ 8 ∧ (o = 0 → q.length = 0)) := rfl
      rw [hokd] at hall
      obtain ⟨hql, hqc, hqm⟩ := ints_len hin
      generalize hqn : q.length = ql at *
      have HQN := Lib.hid hqn
      clear hqn hql hm hone hokd
      have hql63 : ql ≤ maxLen := by omega
      unfold maxLen at hql63
      have hki : (k : Int) < (n : Int) := by omega
      have HB := Lib.hid hB
      have HIN := Lib.hid hin
      have HALL := Lib.hid hall
      clear hB hin hkl hall hx
      have nok : ¬ (0 ≤ o ∧ o ≤ 8 ∧ (o = 0 → ql = 0)) → Hid (rightB ms = false) := fun h => Lib.hid (by rw [HRB.out, HALL.out, decide_eq_false h]; simp)
      have NOK := Lib.hid nok
      clear nok
      have hBx := HB.out.trans ((Rows8.newB (W := wr) (t := 53) (cs := #[.int .i64 o, .slice a' ql c'])).mono HB.out.size)
      have HBX := Lib.hid hBx
      clear hBx
      by_cases h1 : o < 0
      · have hf := NOK.out (by omega)
        go_wp2
        go_ret
        exact ⟨by rw [hf.out]; rfl, HBX.out⟩
      by_cases h2 : 8 < o
      · have hf := NOK.out (by omega)
        go_wp2
        go_ret
        exact ⟨by rw [hf.out]; rfl, HBX.out⟩
      have h2n : ¬ (8 < o) := h2
      by_cases h3 : o = 0 ∧ 0 < ql
      · obtain ⟨rfl, h4⟩ := h3
        have hf := NOK.out (by omega)
        have h4i : (0 : Int) < (ql : Int) := by omega
        go_wp2
        go_ret
        exact ⟨by rw [hf.out]; rfl, HBX.out⟩
      have hok : Hid (ms.all (oneB ms) = (q.all (elB ms ⟨o, q⟩) && (ms.drop (k + 1)).all (oneB ms))) := Lib.hid (by rw [HALL.out, decide_eq_true (by omega)]; simp)
      clear NOK HALL
      have h5 : o = 0 ∧ ql = 0 ∨ ¬ o = 0 := by omega
      have h6 : 0 ≤ o ∧ o ≤ 8 := by omega
      have H6 := Lib.hid h6
      clear h6
      obtain ⟨we, rfl⟩ : ∃ x, x = wr := ⟨_, rfl⟩
      rcases h5 with ⟨h5, h7⟩ | h5
      all_goals first
        | (have f1 : (o == 0) = true := by simp [h5]
           have f2 : ¬ (0 : Int) < (ql : Int) := by omega
           clear h5 h7 h3 h2n
           go_wp2)
        | (have f1 : (o == 0) = false := by simp [h5]
           clear h5 h3 h2n
           go_wp2)
      all_goals
        generalize hW1 : we.alloc _ = W1 at *
        have hB1 : Below we.heap.size we W1 := by rw [← hW1]; exact Rows8.newB
        have r1 : Rows8 W1 we.heap.size 53 #[.int .i64 o, .slice a' ql c'] := by rw [← hW1]; exact Rows8.new _ _ _
        have HIN1 := Lib.hid (RowAt.below HIN.out hB1)
        have R1 := Lib.hid r1
        clear hW1 hB1 r1
        go_loopw [35] (fun j wq => ∃ i : Nat, i ≤ ql ∧ j = .int .i64 i ∧ Hid (q.all (elB ms ⟨o, q⟩) = (q.drop i).all (elB ms ⟨o, q⟩)) ∧ Below W1.heap.size W1 wq) (fun j _ => ql - (intOf j).toNat)
        case atStart => exact ⟨0, Nat.zero_le _, rfl, Lib.hid rfl, Below.refl _ _⟩
        case round =>
          obtain ⟨i, hi, rfl, hni, hBq⟩ := hrel
          have hBB := HBX.out.trans (hBq.mono HBX.out.size)
          by_cases hil : i < ql
          case' pos => first | (exfalso; omega) | (
            have hiq : i < q.length := by rw [HQN.out]; exact hil
            obtain ⟨b2, off2, rfl, hb2, hc⟩ := intsAt_get (RowAt.below HIN1.out hBq) i hiq
            have hal := hni.out.trans (all_drop (elB ms ⟨o, q⟩) q i hiq)
            rw [getD_int q i hiq] at hc
            generalize q[i] = z at *
            have hel : elB ms ⟨o, q⟩ z = (goerB z && !(decide (z + 1 = o)) && decide (manyB ms z = 1)) := rfl
            rw [hel] at hal
            have hno : elB ms ⟨o, q⟩ z = false → Hid (rightB ms = false) := fun h => Lib.hid (by rw [HRB.out, hok.out, hal, ← hel, h]; simp)
            have hyes : elB ms ⟨o, q⟩ z = true → Hid (q.all (elB ms ⟨o, q⟩) = (q.drop (i + 1)).all (elB ms ⟨o, q⟩)) := fun h => Lib.hid (by rw [hal, ← hel, h, Bool.true_and])
            rw [hel] at hno hyes
            have HNO := Lib.hid hno
            have HYES := Lib.hid hyes
            have hii : (i : Int) < (ql : Int) := by omega
            have r2 := R1.out.below hBq R1.out.lt
            have c0 : wr.cell? ⟨we.heap.size, 0, none⟩ = some (.int .i64 o) := r2.cell 0
            have hlt1 := r2.lt
            have HMG := Lib.hid (HMANY.out z wr hBB)
            have HBB := Lib.hid hBB
            clear hal hiq hel r2 hBB hno hyes hni
            go_wp2_with fail
            refine (Try.goer_any z wr).mono ?_
            rintro e w' ⟨rfl, rfl⟩
            cases hg : goerB z with
            | false =>
              have hf := HNO.out (by rw [hg]; rfl)
              go_wp2_with fail
              go_ret
              exact ⟨by rw [hf.out]; rfl, HBB.out⟩
            | true =>
              have hzr : 0 ≤ z ∧ z ≤ 7 := by simpa [goerB] using hg
              by_cases he : z + 1 = o
              · have hf := HNO.out (by rw [decide_eq_true he]; simp)
                have hq : (z + 1 == o) = true := by simp [he]
                clear he
                go_wp2_with fail
                go_ret
                exact ⟨by rw [hf.out]; rfl, HBB.out⟩
              · have hq : (z + 1 == o) = false := by simp [he]
                have HE := Lib.hid he
                clear he
                go_wp2_with fail
                refine HMG.out.mono ?_
                rintro e w' ⟨rfl, hB9⟩
                have HB9 := Lib.hid (HBB.out.trans (hB9.mono HBB.out.size))
                have hBq2 := hBq.trans (hB9.mono hBq.size)
                have HBQ2 := Lib.hid hBq2
                clear hB9 hBq hBq2
                by_cases hm1 : manyB ms z = 1
                · have hf := HYES.out (by rw [hg, decide_eq_false HE.out, decide_eq_true hm1]; rfl)
                  rw [hm1]
                  have hn1 : (((1 : Nat) : Int) != 1) = false := by simp
                  clear hm1
                  go_wp2_with fail
                  exact ⟨⟨i + 1, by omega, by go_num, hf, HBQ2.out⟩, by simp [intOf]; omega⟩
                · have hf := HNO.out (by rw [decide_eq_false hm1]; simp)
                  generalize manyB ms z = mm at *
                  have hn1 : ((mm : Int) != 1) = true := by simp; omega
                  clear hm1
                  go_wp2_with fail
                  go_ret
                  exact ⟨by rw [hf.out]; rfl, HB9.out⟩)
          case neg =>
            obtain rfl : i = ql := by omega
            have hfin : Hid (ms.all (oneB ms) = (ms.drop (k + 1)).all (oneB ms)) := Lib.hid (by
              rw [hok.out, hni.out, all_dropE _ _ _ (Nat.le_of_eq HQN.out), Bool.true_and])
            go_wp2
            exact ⟨⟨k + 1, by omega, by go_num, hfin, hBB⟩, by simp [intOf]; omega⟩
    · obtain rfl : k = n := by omega
      have hfin : Hid (rightB ms = decide (1 ≤ k ∧ k ≤ 160)) := Lib.hid (by rw [HRB.out, hx.out, all_dropE _ _ _ (Nat.le_of_eq HN.out.symm), Bool.and_true])
      by_cases h1 : k = 0
      · subst h1
        go_wp2
        go_ret
        exact ⟨by rw [hfin.out]; rfl, hB⟩
      · have h2 : ¬ (k : Int) < 1 := by omega
        have h3 : (1 : Int) ≤ (k : Int) := by omega
        by_cases h4 : k ≤ 160
        · have h5 : (k : Int) ≤ 160 := by omega
          rw [decide_eq_true (show 1 ≤ k ∧ k ≤ 160 by omega)] at hfin
          go_wp2
          go_ret
          exact ⟨by rw [hfin.out]; rfl, hB⟩
        · have h5 : ¬ (k : Int) ≤ 160 := by omega
          rw [decide_eq_false (show ¬ (1 ≤ k ∧ k ≤ 160) by omega)] at hfin
          go_wp2
          go_ret
          exact ⟨by rw [hfin.out]; rfl, hB⟩
end Go.Proofs
