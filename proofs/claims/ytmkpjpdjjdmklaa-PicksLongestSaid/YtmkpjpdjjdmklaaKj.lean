/- Least. -/
import Derived.Test.YtmkpjpdjjdmklaaKi
namespace Go.Proofs
open Go.RowKit Go.Shelf
attribute [local go_sem] Oper.semAt_some

/-- What Least tells. -/
def leastR (N : Int) (ts : List Tn) : Int := if rightB N ts = true then (leastB N.toNat ts : Nat) else 0
theorem rightB_n {N : Int} {ts : List Tn} (h : rightB N ts = true) : ∃ m : Nat, N = m ∧ 1 ≤ m ∧ m ≤ 8 := by
  unfold rightB at h
  rw [Bool.and_eq_true, decide_eq_true_iff] at h
  exact ⟨N.toNat, by omega, by omega, by omega⟩

set_option maxRecDepth 100000 in
set_option maxHeartbeats 2000000 in
theorem Try.Least_any (N : Int) (a : Option Addr) (n cap : Nat) (ts : List Tn) (hlen : n ≤ 1000) (w : World) (hI : TurnsAt w (.slice a n cap) ts) :
    Calls Try.prog 26 #[.int .i64 N, .slice a n cap] w fun e w' => e = .returned (.int .i64 (leastR N ts)) ∧ Below w.heap.size w w' := by
  have hC := Try.Check_any N a n cap ts w hI
  have HC := Lib.hid hC
  have HI := Lib.hid hI
  have hn := (turnsAt_len hI).1
  clear hC hI
  cases hr : rightB N ts with
  | false =>
    have e1 : leastR N ts = 0 := by unfold leastR; rw [if_neg (by rw [hr]; decide)]
    have e2 : checkB N ts = 140 := by unfold checkB; rw [if_neg (by rw [hr]; decide)]
    rw [e1]
    rw [e2] at HC
    clear hr e1 e2 hn
    go_enter Try.func26, Try.ntmps26
    go_wp2_with fail
    refine HC.out.mono ?_
    rintro e w' ⟨rfl, hB⟩
    have HB := Lib.hid hB
    clear hB
    go_wp2_with fail
    go_ret
    exact ⟨rfl, HB.out⟩
  | true =>
    obtain ⟨m, rfl, hm1, hm8⟩ := rightB_n hr
    have e1 : leastR m ts = (leastB m ts : Nat) := by unfold leastR; rw [if_pos hr]; rfl
    have e2 : checkB m ts = 0 := by unfold checkB; rw [if_pos hr]
    rw [e1]
    rw [e2] at HC
    have hmx := maxI_upTo m hm8 (fun g => lonB g ts)
    have hml := maxLon_le m ts
    have hlb : leastB m ts = 1 + maxB (fun g => lonB g ts) m := rfl
    rw [← hn] at hml
    rw [hlb]
    have HL := Lib.hid (fun W h => Try.longest_any m hm8 a n cap ts W h)
    have HMX := Lib.hid hmx
    clear hr e1 e2 hmx hlb hn
    generalize maxB (fun g => lonB g ts) m = M at *
    generalize upTo m (fun g => lonB g ts) = q at *
    go_enter Try.func26, Try.ntmps26
    go_wp2_with fail
    refine HC.out.mono ?_
    rintro e w1 ⟨rfl, hB⟩
    have HB := Lib.hid hB
    clear hB
    go_wp2_with fail
    refine (HL.out w1 (HI.out.below HB.out)).mono ?_
    rintro e w2 ⟨rfl, hB⟩
    have HB2 := Lib.hid (HB.out.trans (hB.mono HB.out.size))
    clear hB
    unfold arr8I
    go_wp2_with fail
    have r1 : Rows8 (w2.alloc (.cells #[.int .i64 (q 0), .int .i64 (q 1), .int .i64 (q 2), .int .i64 (q 3), .int .i64 (q 4), .int .i64 (q 5), .int .i64 (q 6), .int .i64 (q 7)] 59)) w2.heap.size 59 (arr8I q) := Rows8.new w2 _ _
    have HR := Lib.hid (arr8I_at r1)
    have HB3 := Lib.hid (HB2.out.alloc HB2.out.size (.cells #[.int .i64 (q 0), .int .i64 (q 1), .int .i64 (q 2), .int .i64 (q 3), .int .i64 (q 4), .int .i64 (q 5), .int .i64 (q 6), .int .i64 (q 7)] 59))
    clear r1
    refine (Try.Max_any (some ⟨w2.heap.size, 0, none⟩) 8 8 (lst8 q) rfl (by omega) _ HR.out).mono ?_
    rintro e w3 ⟨rfl, rfl⟩
    rw [HMX.out]
    have hMi : (M : Int) ≤ (n : Int) := by omega
    go_wp2_with fail
    go_ret
    exact ⟨by simp, HB3.out⟩

/-- A row of numbers that is told. -/
def IntsR (ws : List Int) (w : World) (e : Ending) (w' : World) : Prop := ∃ a c, e = .returned (.slice a ws.length c) ∧ IntsAt w' (.slice a ws.length c) ws ∧ Below w.heap.size w w'
theorem ints_none (W : World) : IntsAt W (.slice none 0 0) [] := ⟨rfl, none, 0, rfl, Nat.le_refl _, Nat.zero_le _, fun _ => rfl, fun j hj => by simp [intVals] at hj⟩
def hungryR (N : Int) (ts : List Tn) (q : Int) : List Int := if rightB N ts = true then hungryB N.toNat ts q else []
theorem hungryB_low (n : Nat) (ts : List Tn) (q : Int) (h : q < 1) : hungryB n ts q = [] := by
  unfold hungryB
  rw [List.filter_eq_nil_iff]
  intro g _ e
  rw [decide_eq_true_iff] at e
  omega
def padL (l : List Int) (n : Nat) : Int := l[n]?.getD 0
theorem padL_snoc (l : List Int) (z : Int) : (fun n => if n = l.length then z else padL l n) = padL (l ++ [z]) := by
  funext n
  unfold padL
  by_cases e : n = l.length
  · subst e; simp
  · rw [if_neg e]
    by_cases h : n < l.length
    · rw [List.getElem?_append_left h]
    · rw [List.getElem?_eq_none (by omega), List.getElem?_eq_none (by simp; omega)]
theorem padL_nil : arr8I (padL []) = #[.int .i64 0, .int .i64 0, .int .i64 0, .int .i64 0, .int .i64 0, .int .i64 0, .int .i64 0, .int .i64 0] := rfl

set_option maxRecDepth 100000 in
set_option maxHeartbeats 4000000 in
theorem Try.Hungry_any (N : Int) (q : Int) (a : Option Addr) (n cap : Nat) (ts : List Tn) (w : World) (hI : TurnsAt w (.slice a n cap) ts) :
    Calls Try.prog 24 #[.int .i64 N, .slice a n cap, .int .i64 q] w (IntsR (hungryR N ts q) w) := by
  have hC := Try.Check_any N a n cap ts w hI
  have HC := Lib.hid hC
  have HI := Lib.hid hI
  clear hC hI
  by_cases hq : q < 1
  · have e1 : hungryR N ts q = [] := by
      unfold hungryR
      rw [hungryB_low _ _ _ hq]
      split <;> rfl
    rw [e1]
    clear e1
    go_enter Try.func24, Try.ntmps24
    go_wp2_with fail
    go_ret
    exact ⟨_, _, rfl, ints_none _, Below.refl _ _⟩
  · have hqd : decide (q < 1) = false := decide_eq_false hq
    cases hr : rightB N ts with
    | false =>
      have e1 : hungryR N ts q = [] := by unfold hungryR; rw [if_neg (by rw [hr]; decide)]
      have e2 : checkB N ts = 140 := by unfold checkB; rw [if_neg (by rw [hr]; decide)]
      rw [e1]
      rw [e2] at HC
      clear hr e1 e2
      go_enter Try.func24, Try.ntmps24
      go_wp2_with fail
      refine HC.out.mono ?_
      rintro e w' ⟨rfl, hB⟩
      have HB := Lib.hid hB
      clear hB
      go_wp2_with fail
      go_ret
      exact ⟨_, _, rfl, ints_none _, HB.out⟩
    | true =>
      obtain ⟨m, rfl, hm1, hm8⟩ := rightB_n hr
      have e1 : hungryR m ts q = hungryB m ts q := by unfold hungryR; rw [if_pos hr]; rfl
      have e2 : checkB m ts = 0 := by unfold checkB; rw [if_pos hr]
      rw [e1]
      rw [e2] at HC
      have HL := Lib.hid (fun W h => Try.longest_any m hm8 a n cap ts W h)
      have HSU := Lib.hid (fun k => hungryB_succ k ts q)
      have HLE := Lib.hid (fun k => hungryB_length k ts q)
      have HH0 := Lib.hid (show hungryB 0 ts q = [] from rfl)
      clear hr e1 e2
      generalize hfl : (fun g => lonB g ts) = fl at *
      have HFL := Lib.hid hfl
      clear hfl
      go_enter Try.func24, Try.ntmps24
      go_wp2_with fail
      refine HC.out.mono ?_
      rintro e w1 ⟨rfl, hB⟩
      have HB := Lib.hid hB
      clear hB
      go_wp2_with fail
      refine (HL.out w1 (HI.out.below HB.out)).mono ?_
      rintro e w2 ⟨rfl, hB⟩
      have HB2 := Lib.hid (HB.out.trans (hB.mono HB.out.size))
      clear hB
      unfold arr8I
      go_wp2_with fail
      have r1 : Rows8 (w2.alloc (.cells #[.int .i64 (upTo m fl 0), .int .i64 (upTo m fl 1), .int .i64 (upTo m fl 2), .int .i64 (upTo m fl 3), .int .i64 (upTo m fl 4), .int .i64 (upTo m fl 5), .int .i64 (upTo m fl 6), .int .i64 (upTo m fl 7)] 59)) w2.heap.size 59 (arr8I (upTo m fl)) := Rows8.new w2 _ _
      have HB3 := HB2.out.alloc HB2.out.size (.cells #[.int .i64 (upTo m fl 0), .int .i64 (upTo m fl 1), .int .i64 (upTo m fl 2), .int .i64 (upTo m fl 3), .int .i64 (upTo m fl 4), .int .i64 (upTo m fl 5), .int .i64 (upTo m fl 6), .int .i64 (upTo m fl 7)] 59)
      have r1' := r1.alloc (.cells #[.int .i64 0, .int .i64 0, .int .i64 0, .int .i64 0, .int .i64 0, .int .i64 0, .int .i64 0, .int .i64 0] 59)
      have r2 := Rows8.new (w2.alloc (.cells #[.int .i64 (upTo m fl 0), .int .i64 (upTo m fl 1), .int .i64 (upTo m fl 2), .int .i64 (upTo m fl 3), .int .i64 (upTo m fl 4), .int .i64 (upTo m fl 5), .int .i64 (upTo m fl 6), .int .i64 (upTo m fl 7)] 59)) 59 #[.int .i64 0, .int .i64 0, .int .i64 0, .int .i64 0, .int .i64 0, .int .i64 0, .int .i64 0, .int .i64 0]
      have HB4 := HB3.alloc HB3.size (.cells #[.int .i64 0, .int .i64 0, .int .i64 0, .int .i64 0, .int .i64 0, .int .i64 0, .int .i64 0, .int .i64 0] 59)
      rw [World.size_alloc] at r2
      have hz2 := HB2.out.size
      have HH0' := HH0.out
      generalize ((w2.alloc (.cells #[.int .i64 (upTo m fl 0), .int .i64 (upTo m fl 1), .int .i64 (upTo m fl 2), .int .i64 (upTo m fl 3), .int .i64 (upTo m fl 4), .int .i64 (upTo m fl 5), .int .i64 (upTo m fl 6), .int .i64 (upTo m fl 7)] 59)).alloc (.cells #[.int .i64 0, .int .i64 0, .int .i64 0, .int .i64 0, .int .i64 0, .int .i64 0, .int .i64 0, .int .i64 0] 59)) = W0 at *
      rw [← padL_nil, ← HH0'] at r2
      have R1 := Lib.hid r1'
      have R2 := Lib.hid r2
      have HB5 := Lib.hid HB4
      have HHL : Hid ((hungryB 0 ts q).length = 0) := Lib.hid (by rw [HH0']; rfl)
      clear r1 HB3 r1' r2 HB4 HH0'
      go_loopw [9, 23] (fun mv j wr => ∃ k : Nat, k ≤ m ∧ j = .int .i64 k ∧ mv = .int .i64 ((hungryB k ts q).length : Nat) ∧ Rows8 wr w2.heap.size 59 (arr8I (upTo m fl)) ∧ Rows8 wr (w2.heap.size + 1) 59 (arr8I (padL (hungryB k ts q))) ∧ Below w.heap.size w wr) (fun _ j _ => m - (intOf j).toNat)
      case atStart => exact ⟨0, Nat.zero_le _, rfl, by rw [HHL.out]; rfl, R1.out, R2.out, HB5.out⟩
      case round =>
        obtain ⟨k, hk, rfl, rfl, r1, r2, hB⟩ := hrel
        by_cases hlt : k < m
        · have hki : (k : Int) < (m : Int) := by omega
          have hk8 : k < 8 := by omega
          have hk8i : (k : Int) < 8 := by omega
          have hc := r1.cell k
          rw [arr8I_get _ k hk8, show upTo m fl k = (fl k : Int) from if_pos hlt, ← HFL.out] at hc
          dsimp only at hc
          have hsu := HSU.out k
          have hle := HLE.out k
          generalize hungryB k ts q = pre at *
          have hpl : pre.length < 8 := by omega
          have hpli : (pre.length : Int) < 8 := by omega
          have hz1 := r2.lt
          by_cases hx : q ≤ (lonB k ts : Int)
          · rw [if_pos ⟨by omega, hx⟩] at hsu
            have hxd := decide_eq_true hx
            have hf2 := r2.frozen pre.length
            have hc2 := r2.cell pre.length
            rw [arr8I_get _ pre.length hpl] at hc2
            have r2s := r2.setI pre.length hpl (k : Int)
            have r1s := r1.setOther (a := ⟨w2.heap.size + 1, pre.length, none⟩) (by simp) (.int .i64 (k : Int))
            have hBs := hB.setCell (p := ⟨w2.heap.size + 1, pre.length, none⟩) (by show w.heap.size ≤ w2.heap.size + 1; omega) (.int .i64 (k : Int))
            rw [padL_snoc, ← hsu] at r2s
            have hln : Hid ((hungryB (k + 1) ts q).length = pre.length + 1) := Lib.hid (by rw [hsu]; simp)
            have R1 := Lib.hid r1s
            have R2 := Lib.hid r2s
            have HBS := Lib.hid hBs
            clear r1 r2 hB r1s r2s hBs hsu
            generalize lonB (k : Int) ts = L at *
            go_wp2_with fail
            exact ⟨⟨k + 1, by omega, by go_num, by rw [hln.out]; go_num, R1.out, R2.out, HBS.out⟩, by simp [intOf]; omega⟩
          · rw [if_neg (fun h => hx h.2)] at hsu
            have R1 := Lib.hid r1
            have R2 := Lib.hid r2
            have HBS := Lib.hid hB
            have HS := Lib.hid hsu
            clear r1 r2 hB hsu
            generalize lonB (k : Int) ts = L at *
            go_wp2_with fail
            exact ⟨⟨k + 1, by omega, by go_num, by rw [HS.out], R1.out, by rw [HS.out]; exact R2.out, HBS.out⟩, by simp [intOf]; omega⟩
        · obtain rfl : k = m := by omega
          have hle := HLE.out k
          have hat := arr8I_cut (l := hungryB k ts q) r2 rfl (by omega) (fun j _ => rfl)
          have HAT := Lib.hid hat
          have HBS := Lib.hid hB
          clear r1 r2 hB hat
          generalize hungryB k ts q = hs at *
          have h8i : (hs.length : Int) ≤ 8 := by omega
          have h8n : ¬ (8 : Int) < (hs.length : Int) := by omega
          go_wp2_with fail
          go_ret
          exact ⟨_, _, rfl, HAT.out, HBS.out⟩
end Go.Proofs
