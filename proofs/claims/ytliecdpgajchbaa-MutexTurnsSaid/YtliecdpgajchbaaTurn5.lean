/- Proved: for every row of goroutines, honeycomblaw05.MutexTurns returns true, and its argument reads as it did; no condition. -/
import Derived.Test.YtliecdpgajchbaaMw
import Derived.ChangeAt
import Derived.JoinedAt
import Derived.ProofKit
import Derived.OpenShut
import Derived.Test.YtliecdpgajchbaaRows
namespace Go.Proofs.Ytliecdpgajchbaa.mutexTurns
open Go.ChangeShapes Go.WideShapes Go.ChangeAt Go.RowKit Go.Shelf
attribute [local go_sem] Oper.semAt_some

theorem own : ownKnob Try.prog.godebug = none := by kernel_rfl
/-- One mutex, by who asked for it. -/
def stT : List Int → List Mx
  | [] => [⟨0, []⟩]
  | g :: t => [⟨g + 1, t⟩]
def headB : List Int → Int
  | [] => -1
  | g :: _ => g
theorem stT_len (o : List Int) : (stT o).length = 1 := by cases o <;> rfl
theorem right_st {o : List Int} (hn : o.Nodup) (h : ∀ g ∈ o, 0 ≤ g ∧ g ≤ 7) : rightB (stT o) = true := by
  rw [rightB_iff]
  cases o with
  | nil => exact ⟨⟨by decide, by decide⟩, by simp [stT, okB], by simp [stT, flatQ]⟩
  | cons g t =>
    rw [List.nodup_cons] at hn
    have hg := h g (by simp)
    refine ⟨⟨by simp [stT], by simp [stT]⟩, fun m hm => ?_, by simpa [stT, flatQ] using hn.2⟩
    simp [stT] at hm
    subst hm
    refine ⟨decide_eq_true ⟨by show (0 : Int) ≤ g + 1; omega, by show g + 1 ≤ 8; omega, fun e => by have : g + 1 = 0 := e; omega⟩, fun x hx => ⟨?_, fun e => ?_⟩⟩
    · have := h x (by simp [show x ∈ t from hx])
      simp [goerB]
      omega
    · have : x = g := by have : x + 1 = g + 1 := e; omega
      subst this
      exact hn.1 hx
theorem res_right {ms : List Mx} (h : rightB ms = true) (P : Int × List Mx × Nat) : resR ms P = P := by
  unfold resR
  rw [if_pos h]
theorem argT (o : List Int) (g : Int) : argB (stT o) 0 g = goerB g := by
  unfold argB
  rw [stT_len]
  rfl
theorem ask_arg {o : List Int} (hn : o.Nodup) (h : ∀ g ∈ o, 0 ≤ g ∧ g ≤ 7) {g : Int} (hg : ¬ (0 ≤ g ∧ g ≤ 7)) : (askR (stT o) 0 g).1 = 2 := by
  unfold askR
  rw [res_right (right_st hn h)]
  show askE (stT o) 0 g = 2
  unfold askE
  rw [argT, if_neg (by simpa [goerB] using hg)]
theorem ask_own {o : List Int} (hn : o.Nodup) (h : ∀ g ∈ o, 0 ≤ g ∧ g ≤ 7) {g : Int} (hg : g ∈ o) : (askR (stT o) 0 g).1 = 151 := by
  unfold askR
  rw [res_right (right_st hn h)]
  show askE (stT o) 0 g = 151
  have hr := h g hg
  unfold askE
  rw [argT, if_pos (by simpa [goerB] using hr), if_pos]
  cases o with
  | nil => cases hg
  | cons x t =>
    rcases List.mem_cons.1 hg with rfl | hg
    · exact .inl rfl
    · refine .inr fun e => ?_
      exact (waitsB_none.1 e) (by simpa [stT, flatQ] using hg)
theorem ask_new {o : List Int} (hn : o.Nodup) (h : ∀ g ∈ o, 0 ≤ g ∧ g ≤ 7) {g : Int} (hr : 0 ≤ g ∧ g ≤ 7) (hg : g ∉ o) : askR (stT o) 0 g = (0, stT (o ++ [g]), 0) ∧ gotB (stT o) 0 = decide (o.length = 0) := by
  have hE : askE (stT o) 0 g = 0 := by
    unfold askE
    rw [argT, if_pos (by simpa [goerB] using hr), if_neg]
    rw [not_or, Decidable.not_not]
    cases o with
    | nil =>
      refine ⟨fun e => ?_, rfl⟩
      have : (0 : Int) = g + 1 := e
      omega
    | cons x t =>
      simp at hg
      refine ⟨fun e => hg.1 ?_, waitsB_none.2 (by simpa [stT, flatQ] using hg.2)⟩
      have : x + 1 = g + 1 := e
      omega
  unfold askR
  rw [res_right (right_st hn h), hE]
  cases o with
  | nil => exact ⟨rfl, rfl⟩
  | cons x t =>
    have hx := h x (by simp)
    have hx0 : ¬ (x + 1 = 0) := by omega
    constructor
    · show (0, askS (stT (x :: t)) 0 g, 0) = _
      unfold askS
      show (0, [⟨x + 1, t⟩].set 0 (if (x + 1 : Int) = 0 then _ else _), 0) = _
      rw [if_neg hx0]
      rfl
    · show decide (x + 1 = 0) = _
      rw [decide_eq_false hx0]
      rfl
theorem leave_st {g : Int} {t : List Int} (hn : (g :: t).Nodup) (h : ∀ x ∈ g :: t, 0 ≤ x ∧ x ≤ 7) : leaveR (stT (g :: t)) 0 g = (0, stT t, 0) ∧ nextB (stT (g :: t)) 0 = headB t := by
  have hr := h g (by simp)
  have hE : leaveE (stT (g :: t)) 0 g = 0 := by
    unfold leaveE
    rw [argT, if_pos (by simpa [goerB] using hr), if_pos (show (atM (stT (g :: t)) 0).own = g + 1 from rfl)]
  unfold leaveR
  rw [res_right (right_st hn h), hE]
  cases t with
  | nil => exact ⟨rfl, rfl⟩
  | cons y t => exact ⟨rfl, rfl⟩
theorem err_st {o : List Int} (hn : o.Nodup) (h : ∀ g ∈ o, 0 ≤ g ∧ g ≤ 7) : errB (stT o) = 0 := by
  unfold errB
  rw [if_pos (right_st hn h)]

set_option maxRecDepth 100000 in
set_option maxHeartbeats 8000000 in
theorem walk (a : Option Addr) (n cap : Nat) (gs : List Int) (w : World) (hn : n = gs.length) (hI : IntsAt w (.slice a n cap) gs) :
    Calls Try.prog 5 #[.slice a n cap] w fun e w' => e = .returned (.bool true) ∧ Below w.heap.size w w' := by
  obtain ⟨j0, hj, hy0, hy1, hy2⟩ := info_parts Try.infoInt
  have hreach : n ≤ maxLen := by have := ints_len hI; omega
  unfold maxLen at hreach
  have HI := Lib.hid hI
  have HN := Lib.hid hn
  clear hI hn
  go_enter Try.func5, Try.ntmps5
  go_wp2_with fail
  refine (Try.wakes_any w).mono ?_
  rintro e w1 ⟨rfl, b1⟩
  have B := Lib.hid b1
  clear b1
  go_wp2_with fail
  refine (Try.new_ok 1 (by decide) w1).mono ?_
  rintro e w2 ⟨r, rfl, h1, b1⟩
  have H := Lib.hid h1
  have B1 := Lib.hid (B.out.trans (b1.mono B.out.size))
  clear b1 h1 B
  go_wp2_with fail
  go_loopw [3, 5, 27] (fun l o j wr => ∃ (k r : Nat) (oa : Option Addr) (oc : Nat) (os : List Int), k ≤ n ∧ j = .int .i64 k ∧ l = .slice (some ⟨r, 0, none⟩) 1 1 ∧ o = .slice oa os.length oc ∧ Hid (os.Nodup ∧ ∀ g ∈ os, 0 ≤ g ∧ g ≤ 7) ∧ Hid (MxAt wr (.slice (some ⟨r, 0, none⟩) 1 1) (stT os)) ∧ Hid (OwnsInts w.heap.size os (.slice oa os.length oc) wr) ∧ Hid (Below w.heap.size w wr)) (fun _ _ j _ => n - (intOf j).toNat)
  case atStart => exact ⟨0, r, none, 0, [], Nat.zero_le _, rfl, rfl, rfl, Lib.hid ⟨List.nodup_nil, by simp⟩, H, Lib.hid (World.ownsRow_nil _ _ _ _), B1⟩
  case round =>
    obtain ⟨k, r, oa, oc, os, hk, rfl, rfl, rfl, hok, hM, hO, hB⟩ := hrel
    obtain ⟨N, hN⟩ : ∃ N, N = os.length := ⟨_, rfl⟩
    have hN8 : N ≤ 8 := by rw [hN]; exact nodup_len 8 _ hok.out.1 (fun g hg => by have := hok.out.2 g hg; omega)
    rw [← hN] at hO ⊢
    have HNN := Lib.hid hN
    clear hN
    by_cases hlt : k < n
    · obtain ⟨b, off, rfl, hb, hz⟩ := intsAt_get (RowAt.below HI.out hB.out) k (by rw [← HN.out]; exact hlt)
      generalize gs[k]?.getD 0 = g at *
      have hki : (k : Int) < (n : Int) := by omega
      by_cases hg : 0 ≤ g ∧ g ≤ 7
      · have hg1 : ¬ g < 0 := by omega
        have hg2 : ¬ 8 ≤ g := by omega
        by_cases hm : g ∈ os
        · have hc := Try.ask_err 0 g _ 1 1 (stT os) 151 (by decide) (ask_own hok.out.1 hok.out.2 hm) wr hM.out
          have HC := Lib.hid hc
          have HMEM := Lib.hid (decide_eq_true hm)
          clear hc hm hg
          go_wp2_with fail
          refine HC.out.mono ?_
          rintro e w3 ⟨rfl, b3⟩
          have hcon := Try.contains_any oa N oc os HNN.out g w3 (rowAt_own (owns_keep hO.out b3 (Nat.le_refl _)) |> fun h => by rw [← HNN.out] at h; exact (show IntsAt w3 _ os from by unfold IntsAt; rw [← HNN.out]; exact h))
          rw [HMEM.out] at hcon
          have HCON := Lib.hid hcon
          have M3 := Lib.hid (hM.out.below b3)
          have O3 := Lib.hid (owns_keep hO.out b3 (Nat.le_refl _))
          have B3 := Lib.hid (hB.out.trans (b3.mono hB.out.size))
          clear hcon b3
          go_wp2_with fail
          refine HCON.out.mono ?_
          rintro e w' ⟨rfl, rfl⟩
          go_wp2_with fail
          exact ⟨⟨k + 1, r, oa, oc, os, by omega, by go_num, rfl, by rw [HNN.out], hok, M3, by rw [← HNN.out]; exact O3, B3⟩, by simp [intOf]; omega⟩
        · obtain ⟨he, hgt⟩ := ask_new hok.out.1 hok.out.2 hg hm
          rw [← HNN.out] at hgt
          have hnd2 : (os ++ [g]).Nodup := by
            rw [List.nodup_append]
            exact ⟨hok.out.1, by simp, fun x hx y hy e => by simp at hy; subst hy e; exact hm hx⟩
          have hra2 : ∀ x ∈ os ++ [g], 0 ≤ x ∧ x ≤ 7 := fun x hx => by
            rcases List.mem_append.1 hx with hx | hx
            · exact hok.out.2 x hx
            · simp at hx; subst hx; exact hg
          have hok2 := Lib.hid (And.intro hnd2 hra2)
          have hck := fun (r : Nat) (W : World) (hM : MxAt W (.slice (some ⟨r, 0, none⟩) 1 1) (stT (os ++ [g]))) => Try.Check_any _ 1 1 (stT (os ++ [g])) W hM
          rw [err_st hnd2 hra2] at hck
          have hc := Try.ask_okO 0 g _ 1 1 (stT os) (stT (os ++ [g])) _ he hgt wr hM.out
          have HC := Lib.hid hc
          have HCK := Lib.hid hck
          have HMEM := Lib.hid (decide_eq_false hm)
          have hlen2 : Hid ((os ++ [g]).length = N + 1) := Lib.hid (by rw [List.length_append, ← HNN.out]; rfl)
          have hiv : Hid (intVals (os ++ [g]) = intVals os ++ [.int .i64 g]) := Lib.hid (by simp [intVals])
          clear hc hck hm hg he hgt hnd2 hra2
          have hN0 : N = 0 ∨ (¬ N = 0 ∧ ¬ (N : Int) = 0) := by omega
          go_wp2_with fail
          refine HC.out.mono ?_
          rintro e w3 ⟨r3, rfl, m3, b3⟩
          have hO3 := owns_keep hO.out b3 (Nat.le_refl _)
          have hcon := Try.contains_any oa N oc os HNN.out g w3 (by unfold IntsAt; rw [← HNN.out]; have h := rowAt_own hO3; rw [← HNN.out] at h; exact h)
          rw [HMEM.out] at hcon
          have HCON := Lib.hid hcon
          have M3 := Lib.hid m3
          have hjw : ∀ j, (Value.slice oa N oc).ownBlock = some j → j < wr.heap.size := fun j ej => (World.ownsRow.lt hO.out j ej).2
          have HJW := Lib.hid hjw
          have O3 := Lib.hid hO3
          have B3 := Lib.hid (hB.out.trans (b3.mono hB.out.size))
          clear hcon b3 m3 hO3 hjw
          go_wp2_with fail
          refine HCON.out.mono ?_
          rintro e w' ⟨rfl, rfl⟩
          rcases hN0 with rfl | ⟨hN1, hN2⟩
          all_goals first
            | (rw [show decide ((0 : Nat) = 0) = true from rfl])
            | (rw [decide_eq_false hN1]; have hN3 : ((N : Int) == 0) = false := by simp [hN1])
          all_goals
            go_wp2_with fail
            refine (HCK.out r3 _ M3.out.at).mono ?_
            rintro e w5 ⟨rfl, b5⟩
            have M5 := Lib.hid (M3.out.keep b5 (Nat.le_refl _))
            have O5 := Lib.hid (owns_keep O3.out b5 (Nat.le_refl _))
            have B5 := Lib.hid (B3.out.trans (b5.mono B3.out.size))
            clear b5
            have hBa : Below w5.heap.size w5 (w5.alloc (.cells #[.int .i64 g] 3)) := Rows8.newB
            have MA := Lib.hid (M5.out.keep hBa (Nat.le_refl _))
            have OA := Lib.hid (owns_keep O5.out hBa (Nat.le_refl _))
            have BA := Lib.hid (B5.out.trans (hBa.mono B5.out.size))
            have hza : w.heap.size ≤ (w5.alloc (.cells #[.int .i64 g] 3)).heap.size := BA.out.size
            clear hBa M5 O5 B5
            go_wp2_with (at_builtin; refine wpList_append_row _ rfl _ _ 23 rfl w.heap.size 3 j0 (.int .i64 0) 1 8 Try.underlying23 hj hy0 hy1 hy2 rfl (by decide) _ _ _ rfl (by have h := OA.out; unfold OwnsInts at h; rw [← HNN.out] at h; exact h) _ 1 [.int .i64 g] rfl (rowAt_own (own1 (n₀ := 0) (Rows8.new w5 _ _) (Nat.zero_le _) rfl)) (by simp [Value.oneCell']) (by unfold maxLen; omega) (by omega) hza ?_)
            intro v9 w9 ho9 hg9 _
            have hB9 : Below w.heap.size w w9 := BA.out.grown hg9 hza (fun j ej => (World.ownsRow.lt OA.out j ej).1)
            have hM9 : MxAt w9 (.slice (some ⟨r3, 0, none⟩) 1 1) (stT (os ++ [g])) := (MA.out.grown hg9 HJW.out).at
            obtain ⟨_, ax, cx, rfl, _⟩ := rowAt_own ho9
            have hO9 : OwnsInts w.heap.size (os ++ [g]) (.slice ax (os ++ [g]).length cx) w9 := by
              unfold OwnsInts
              rw [hiv.out, hlen2.out]
              exact ho9
            have H9 := Lib.hid hM9
            have HO9 := Lib.hid hO9
            have HB9 := Lib.hid hB9
            clear ho9 hg9 hB9 hM9 hO9
            go_wp2_with fail
            exact ⟨⟨k + 1, r3, ax, cx, os ++ [g], by omega, by go_num, rfl, by rw [hlen2.out], hok2, H9, HO9, HB9⟩, by simp [intOf]; omega⟩
      · have hc := Try.ask_err 0 g _ 1 1 (stT os) 2 (by decide) (ask_arg hok.out.1 hok.out.2 hg) wr hM.out
        have HC := Lib.hid hc
        clear hc
        have hg3 : g < 0 ∨ (¬ g < 0 ∧ 8 ≤ g) := by omega
        clear hg
        rcases hg3 with hg3 | ⟨hg4, hg5⟩
        all_goals
          go_wp2_with fail
          refine HC.out.mono ?_
          rintro e w3 ⟨rfl, b3⟩
          have M3 := Lib.hid (hM.out.below b3)
          have O3 := Lib.hid (owns_keep hO.out b3 (Nat.le_refl _))
          have B3 := Lib.hid (hB.out.trans (b3.mono hB.out.size))
          clear b3
          go_wp2_with fail
          exact ⟨⟨k + 1, r, oa, oc, os, by omega, by go_num, rfl, by rw [HNN.out], hok, M3, by rw [← HNN.out]; exact O3, B3⟩, by simp [intOf]; omega⟩
    · obtain rfl : k = n := by omega
      go_wp2_with fail
      obtain ⟨we, rfl⟩ : ∃ x, x = wr := ⟨_, rfl⟩
      go_loopw [3, 78] (fun l j wr => ∃ (i r : Nat), i ≤ N ∧ j = .int .i64 i ∧ l = .slice (some ⟨r, 0, none⟩) 1 1 ∧ Hid (MxAt wr (.slice (some ⟨r, 0, none⟩) 1 1) (stT (os.drop i))) ∧ Hid (OwnsInts w.heap.size os (.slice oa N oc) wr) ∧ Hid (Below w.heap.size w wr)) (fun _ j _ => N - (intOf j).toNat)
      case atStart => exact ⟨0, r, Nat.zero_le _, rfl, rfl, hM, hO, hB⟩
      case round =>
        obtain ⟨i, r, hi, rfl, rfl, hM, hO, hB⟩ := hrel
        by_cases hil : i < N
        · have hio : i < os.length := by rw [← HNN.out]; exact hil
          have hIO : IntsAt wr (.slice oa N oc) os := by
            have h := rowAt_own hO.out
            rw [← HNN.out] at h
            unfold IntsAt
            rw [← HNN.out]
            exact h
          obtain ⟨b, off, rfl, hb, hz⟩ := intsAt_get hIO i hio
          rw [getD_int os i hio] at hz
          have hnx := fun h => intsAt_get hIO (i + 1) h
          have hd := drop_next os i hio
          have hnd : (os.drop i).Nodup := hok.out.1.sublist (List.drop_sublist _ _)
          have hra : ∀ x ∈ os.drop i, 0 ≤ x ∧ x ≤ 7 := fun x hx => hok.out.2 x (List.mem_of_mem_drop hx)
          have hM' := hM.out
          rw [hd] at hnd hra hM'
          obtain ⟨he, hnxt⟩ := leave_st hnd hra
          have hnd2 : (os.drop (i + 1)).Nodup := hok.out.1.sublist (List.drop_sublist _ _)
          have hra2 : ∀ x ∈ os.drop (i + 1), 0 ≤ x ∧ x ≤ 7 := fun x hx => hok.out.2 x (List.mem_of_mem_drop hx)
          have hc := Try.leave_ok 0 (os[i]) _ 1 1 (stT (os[i] :: os.drop (i + 1))) (stT (os.drop (i + 1))) _ he hnxt wr hM'
          have hck := fun (r : Nat) (W : World) (hM : MxAt W (.slice (some ⟨r, 0, none⟩) 1 1) (stT (os.drop (i + 1)))) => Try.Check_any _ 1 1 (stT (os.drop (i + 1))) W hM
          rw [err_st hnd2 hra2] at hck
          have hhd : (¬ i + 1 < N ∧ headB (os.drop (i + 1)) = -1) ∨ (i + 1 < N ∧ ∃ z, headB (os.drop (i + 1)) = z ∧ ∀ W, IntsAt W (.slice (some ⟨b, off, none⟩) N oc) os → W.cell? ⟨b, off + (i + 1), none⟩ = some (.int .i64 z)) := by
            by_cases h : i + 1 < N
            · have h1 : i + 1 < os.length := by rw [← HNN.out]; exact h
              refine .inr ⟨h, os[i + 1], by rw [drop_next os (i + 1) h1]; rfl, fun W hW => ?_⟩
              obtain ⟨b', off', e', _, h2⟩ := intsAt_get hW (i + 1) h1
              cases e'
              rw [getD_int os (i + 1) h1] at h2
              exact h2
            · refine .inl ⟨h, ?_⟩
              rw [List.drop_of_length_le (by rw [← HNN.out]; omega)]
              rfl
          generalize headB (os.drop (i + 1)) = hb2 at *
          generalize os[i] = g at *
          have HC := Lib.hid hc
          have HCK := Lib.hid hck
          have hii : (i : Int) < (N : Int) := by omega
          clear hc hck hnd hra hM' hM hd he hnxt hnd2 hra2 hnx hIO hio
          go_wp2_with fail
          refine HC.out.mono ?_
          rintro e w3 ⟨r3, rfl, m3, b3⟩
          have M3 := Lib.hid m3
          have O3 := Lib.hid (owns_keep hO.out b3 (Nat.le_refl _))
          have B3 := Lib.hid (hB.out.trans (b3.mono hB.out.size))
          clear b3 m3
          rcases hhd with ⟨h1, rfl⟩ | ⟨h1, z, rfl, h2⟩
          all_goals first
            | (have h1i : ¬ ((i : Int) + 1 < (N : Int)) := by omega
               clear h1
               go_wp2_with fail)
            | (have h1i : ((i : Int) + 1 < (N : Int)) := by omega
               have hcz := h2 w3 (by unfold IntsAt; rw [← HNN.out]; have h := rowAt_own O3.out; rw [← HNN.out] at h; exact h)
               have hq : (hb2 != hb2) = false := by simp
               clear h2 h1
               go_wp2_with fail)
          all_goals
            refine (HCK.out r3 _ M3.out).mono ?_
            rintro e w5 ⟨rfl, b5⟩
            have M5 := Lib.hid (M3.out.below b5)
            have O5 := Lib.hid (owns_keep O3.out b5 (Nat.le_refl _))
            have B5 := Lib.hid (B3.out.trans (b5.mono B3.out.size))
            clear b5
            go_wp2_with fail
            exact ⟨⟨i + 1, r3, by omega, by go_num, rfl, M5, O5, B5⟩, by simp [intOf]; omega⟩
        · obtain rfl : i = N := by omega
          have hM' := hM.out
          rw [List.drop_of_length_le (Nat.le_of_eq HNN.out.symm)] at hM'
          have hR := Try.Ring_any _ 1 1 (stT []) wr hM'
          rw [show ringR (stT []) = [] by decide] at hR
          have HR := Lib.hid hR
          have HM := Lib.hid hM'
          clear hR hM'
          go_wp2_with fail
          refine HR.out.mono ?_
          rintro e w9 ⟨rb, rc, rfl, _, b9⟩
          have hM9 := HM.out.below b9
          obtain ⟨b, off, a', c', e5, hb5, s1, s2, _⟩ := mxAt_get hM9 0 (by decide)
          cases e5
          simp only [stT, List.getElem_cons_zero, Nat.zero_mul, Nat.add_zero, Nat.zero_add, List.length_nil] at s1 s2
          have B9 := Lib.hid (hB.out.trans (b9.mono hB.out.size))
          clear b9 hM9
          simp only [List.length_nil]
          go_wp2_with fail
          go_ret
          exact ⟨by simp, B9.out⟩
theorem laidOut : laidOutB Try.prog = true := by kernel_rfl
set_option maxRecDepth 100000 in
theorem lifted (os : Os) (started : os.Started) (H : Type) (enc : TypeId × Value → H) :
    ReturnsInHanded {} Try.checked os 5 .any (Rows.mutexTurnsSpec.pre6 enc Try.prog Try.f5 Rows.mutexTurnsRow.domain false) (Rows.mutexTurnsSpec.post enc Try.prog Try.f5 false true false false) := by
  refine returnsInHanded_of_change (C := Try.checked) own started (by kernel_rfl) Try.func5
    (ChangeSpec.witness6 (enc := enc) (C := Try.checked) false ⟨#[], #[.slice none 0 0], []⟩ 8 (by kernel_rfl) (by kernel_rfl) (by kernel_rfl) (by kernel_rfl)) ?_
  intro W base args ds gs before hval0 hW hcnd _
  have hval : ∀ (j : Nat) t v, Try.f5.params[j]? = some t → args[j]? = some v → Value.okWide Try.prog W .any base t v := hval0
  have hW' := hW
  obtain ⟨p, q, hA0, hV, rfl, hfz, hnd⟩ := hW
  have hA : DataW.TrodAll enc Try.prog W 0 (fun _ => true) true Try.f5.params.toList args.toList ds p := hA0
  rw [Try.params5] at hA hval
  obtain ⟨v0, vs0, d0, ds0, p0, q0, hargs, rfl, rfl, h0, r0⟩ := trodAll_cons hA
  obtain ⟨rfl, rfl, rfl⟩ := trodAll_nil r0
  obtain rfl : args = #[v0] := by cases args; simp_all
  obtain ⟨rfl, rfl⟩ := trodVars_none hV
  obtain ⟨a0, len0, cap0, rfl⟩ := okWide_slice Try.underlying23 (hval 0 23 v0 rfl rfl)
  have k0 := h0
  have lt0 : ∀ x ∈ p0, x.block < W.heap.size := by obtain ⟨m, hm⟩ := k0; exact DataW.trod_lt m _ _ _ hm
  obtain ⟨z0, n0, w0⟩ : ∃ zs, len0 = zs.length ∧ IntsAt W (.slice a0 len0 cap0) zs := by
    obtain ⟨fuel, hf⟩ := h0
    exact open_intRow hf
  clear hA0 hval0
  refine (walk a0 len0 cap0 z0 W n0 w0).mono fun e W' ⟨he, bel⟩ => ?_
  subst he
  exact ⟨_, rfl, _, _, _, [], _, [], hW', trodAll_mk1 (shut_bool Try.underlying4 _), (trodAll_cons_mk (Below.trod laidOut (by kernel_rfl) (of_decide_eq_true (by kernel_rfl)) k0 bel lt0) trodAll_mk0), rfl, bel.frame _, fun h => by cases h⟩

theorem over : Rows.mutexTurnsRow.holds Try.pinned (OpenSpec.ofChange Rows.mutexTurnsSpec) :=
  OpenClaim.holds_of_wide 5 Try.f5 rfl rfl rfl rfl rfl rfl rfl ⟨rfl, rfl, rfl, rfl, rfl⟩ rfl rfl rfl rfl rfl (by kernel_rfl) Try.func5 (by kernel_rfl)
    (of_decide_eq_true (by kernel_rfl)) (by unfold Func.isWrapper; first | (rw [if_pos (by decide +kernel)]; kernel_rfl) | (rw [if_neg (by decide +kernel)]; exact ⟨rfl, rfl⟩))
    (fun os started H enc _ => lifted os started H enc)

theorem proved : Rows.MutexTurnsSaid := over
end Go.Proofs.Ytliecdpgajchbaa.mutexTurns
