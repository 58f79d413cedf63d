/- The section that could tell, sought by halves; Clear. -/
import Derived.Test.YtbipekpohocjdaaDoorGc
namespace Go.Proofs
open Go.RowKit Go.Shelf
attribute [local go_sem] Oper.semAt_some

theorem below_drewN {h : Nat} {A B : World} (p : Below h A B) (n : Nat) : Below h A (B.drewN n) := ⟨p.os, p.tape, p.output, p.size, p.block⟩
set_option maxRecDepth 100000 in
set_option maxHeartbeats 2000000 in
/-- Whether the section at a place is still open, or begins later. -/
theorem Tryd.stops_any (i : Nat) (f g : Int) (Bl Bk : Nat) (x : Option Addr) (n cap : Nat) (l : List (Int × Int)) (hi : i < l.length) (w : World) (hl : Rows8 w Bl 23 #[.slice x n cap]) (hk : Rows8 w Bk 44 #[.int .i64 f, .int .i64 g]) (hI : PAt w (.slice x n cap) l) :
    Calls Tryd.prog 51 #[.int .i64 i, .pointer (some ⟨Bl, 0, none⟩), .pointer (some ⟨Bk, 0, none⟩)] w fun e w' => e = .returned (.bool (stopB f l[i])) ∧ Below w.heap.size w w' := by
  obtain ⟨hn, hnc, hcm⟩ := pAt_len hI
  unfold maxLen at hcm
  obtain ⟨b, off, rfl, hb, p0, p1⟩ := pAt_get hI i hi
  have c0 := hl.cell 0
  have c1 := hk.cell 0
  simp at c0 c1
  have hin : (i : Int) < (n : Int) := by omega
  rcases hs : l[i] with ⟨s, t⟩
  rw [hs] at p0 p1
  dsimp only at p0 p1
  have hbl := hl.lt
  have hbk := hk.lt
  clear hI hl hk hn hnc hcm hs
  by_cases ht : t = 0
  · subst ht
    have hr : Hid (stopB f (s, 0) = true) := Lib.hid (by simp [stopB])
    have q0 : ((0 : Int) == 0) = true := by simp
    go_enter Tryd.func51, Tryd.ntmps51
    go_wp2
    go_quiet (fail)
    go_wp2
    go_ret
    exact ⟨by rw [hr.out]; rfl, below_drewN (Below.refl _ w) _⟩
  · have q0 : (t == 0) = false := by simp [ht]
    by_cases hf : f < t
    · have hr : Hid (stopB f (s, t) = true) := Lib.hid (by simp [stopB, hf])
      clear ht
      go_enter Tryd.func51, Tryd.ntmps51
      go_wp2
      go_quiet (fail)
      go_wp2
      go_ret
      exact ⟨by rw [hr.out]; rfl, below_drewN (Below.refl _ w) _⟩
    · have hr : Hid (stopB f (s, t) = false) := Lib.hid (by simp [stopB, ht]; omega)
      have q1 : decide (f < t) = false := decide_eq_false hf
      clear ht
      go_enter Tryd.func51, Tryd.ntmps51
      go_wp2
      go_quiet (fail)
      go_wp2
      go_ret
      exact ⟨by rw [hr.out]; rfl, below_drewN (Below.refl _ w) _⟩

set_option maxRecDepth 100000 in
set_option maxHeartbeats 2000000 in
theorem Tryd.search_any (f g : Int) (Bl Bk : Nat) (x : Option Addr) (n cap : Nat) (l : List (Int × Int)) (hr : rightB l = true) (hs : n ≤ 1000000) (w : World) (hl : Rows8 w Bl 23 #[.slice x n cap]) (hk : Rows8 w Bk 44 #[.int .i64 f, .int .i64 g]) (hI : PAt w (.slice x n cap) l) :
    Calls Tryd.prog 50 #[.int .i64 n, .func (.func 51) #[] #[.pointer (some ⟨Bl, 0, none⟩), .pointer (some ⟨Bk, 0, none⟩)]] w fun e w' => e = .returned (.int .i64 (stopN f l : Nat)) ∧ Below w.heap.size w w' := by
  have hsl := stopN_le f l
  have hlt := fun j (hj : j < l.length) (h : j < stopN f l) => stopN_lt (z := f) hj h
  have hge := fun j (hj : j < l.length) (h : stopN f l ≤ j) => stopN_ge hr (z := f) hj h
  have hn := (pAt_len hI).1
  have HS := fun i (hi : i < l.length) w' (hB : Below w.heap.size w w') => Lib.hid (Tryd.stops_any i f g Bl Bk x n cap l hi w' (hl.below hB hl.lt) (hk.below hB hk.lt) (hI.below hB))
  have HLT := Lib.hid hlt
  have HGE := Lib.hid hge
  have HN := Lib.hid hn
  rw [← hn] at hsl
  clear hl hk hI hlt hge hn
  generalize stopN f l = q at *
  go_enter Tryd.func50, Tryd.ntmps50
  go_wp2
  go_loopw [5, 6] (fun iv jv wr => ∃ i j : Nat, iv = .int .i64 i ∧ jv = .int .i64 j ∧ i ≤ q ∧ q ≤ j ∧ j ≤ n ∧ Below w.heap.size w wr) (fun iv jv _ => (intOf jv).toNat - (intOf iv).toNat)
  case atStart => exact ⟨0, n, rfl, rfl, Nat.zero_le _, hsl, Nat.le_refl _, Below.refl _ _⟩
  case round =>
    obtain ⟨i, j, rfl, rfl, h1, h2, h3, hB⟩ := hrel
    by_cases hij : i < j
    · have hiji : (i : Int) < (j : Int) := by omega
      obtain ⟨m, hm⟩ : ∃ m : Nat, m = (i + j) / 2 := ⟨_, rfl⟩
      have hmn : m < n := by omega
      have hmi : i ≤ m := by omega
      have hmj : m < j := by omega
      have e1 : ((i : Int) + (j : Int)) / 2 = (m : Int) := by omega
      have hw1 : IntKind.i64.wrap ((i : Int) + (j : Int)) = (i : Int) + (j : Int) := IntWalk.i64_in _ (by omega)
      have hw2 : IntKind.i64.wrap ((m : Int) + 1) = (m : Int) + 1 := IntWalk.i64_in _ (by omega)
      have hml : m < l.length := by rw [← HN.out]; exact hmn
      have HB := Lib.hid hB
      have HC := HS m hml wr hB
      have HM := Lib.hid hm
      clear hm hB
      cases hst : stopB f l[m] with
      | true =>
        rw [hst] at HC
        have hqm : q ≤ m := by
          rcases Nat.lt_or_ge m q with h | h
          · have := HLT.out m hml h
            rw [hst] at this
            cases this
          · exact h
        clear hst
        go_wp2_with fail
        refine HC.out.mono ?_
        rintro e w' ⟨rfl, hB2⟩
        have HB3 := Lib.hid (HB.out.trans (hB2.mono HB.out.size))
        clear hB2
        go_wp2_with fail
        exact ⟨⟨i, m, rfl, by first | rfl | go_num, h1, hqm, by omega, HB3.out⟩, by simp [intOf]; omega⟩
      | false =>
        rw [hst] at HC
        have hqm : m + 1 ≤ q := by
          rcases Nat.lt_or_ge m q with h | h
          · exact h
          · have := HGE.out m hml h
            rw [hst] at this
            cases this
        clear hst
        go_wp2_with fail
        refine HC.out.mono ?_
        rintro e w' ⟨rfl, hB2⟩
        have HB3 := Lib.hid (HB.out.trans (hB2.mono HB.out.size))
        clear hB2
        go_wp2_with fail
        exact ⟨⟨m + 1, j, by go_num, rfl, hqm, h2, h3, HB3.out⟩, by simp [intOf]; omega⟩
    · obtain rfl : i = q := by omega
      go_wp2
      go_ret
      exact ⟨rfl, hB⟩

set_option maxRecDepth 100000 in
set_option maxHeartbeats 2000000 in
theorem Tryd.clearIn1_any (f g : Int) (Bl : Nat) (x : Option Addr) (n cap : Nat) (l : List (Int × Int)) (hr : rightB l = true) (hs : n ≤ 1000000) (w : World) (hl : Rows8 w Bl 23 #[.slice x n cap]) (hI : PAt w (.slice x n cap) l) :
    Calls Tryd.prog 49 #[.agg #[.int .i64 f, .int .i64 g], .pointer (some ⟨Bl, 0, none⟩)] w fun e w' => e = .returned (.bool (clearB l f g)) ∧ Below w.heap.size w w' := by
  have hB : Below w.heap.size w (w.alloc (.cells #[.int .i64 f, .int .i64 g] 44)) := Rows8.newB
  have hk := Rows8.new w 44 #[.int .i64 f, .int .i64 g]
  have hl0 := hl.below hB hl.lt
  have hI0 := hI.below hB
  have hc := clearB_stopN l f g
  have hsl := stopN_le f l
  have hn := (pAt_len hI).1
  have hnc := (pAt_len hI).2
  have HSE := Lib.hid (Tryd.search_any f g Bl w.heap.size x n cap l hr hs _ hl0 hk hI0)
  have c0 := hl0.cell 0
  simp at c0
  have hbl := hl.lt
  rw [← hn] at hsl
  have HB := Lib.hid hB
  have HL := Lib.hid hl0
  have HK := Lib.hid hk
  have HI := Lib.hid hI0
  have HN := Lib.hid hn
  clear hl0 hk hI0 hB hl hI hn
  by_cases hq : stopN f l < l.length
  · rw [dif_pos hq] at hc
    have HG := fun w' (hB : Below (w.alloc (.cells #[.int .i64 f, .int .i64 g] 44)).heap.size (w.alloc (.cells #[.int .i64 f, .int .i64 g] 44)) w') => Lib.hid (pAt_get (HI.out.below hB) (stopN f l) hq)
    rcases hs1 : l[stopN f l] with ⟨s, t⟩
    rw [hs1] at hc HG
    dsimp only at hc HG
    generalize stopN f l = q at *
    have e1 : ((q : Int) == (n : Int)) = false := by have := HN.out; simp; omega
    have e2 : (q : Int) < (n : Int) := by have := HN.out; omega
    rw [hc]
    by_cases hgs : g < s
    · have e3 : decide (g < s) = true := decide_eq_true hgs
      clear hc hs1
      go_enter Tryd.func49, Tryd.ntmps49
      go_wp2_with fail
      refine HSE.out.mono ?_
      rintro e w1 ⟨rfl, hB1⟩
      have l1 := (HL.out.below hB1 HL.out.lt).cell 0
      have k1 := (HK.out.below hB1 HK.out.lt).cell 1
      have HB1 := Lib.hid (HB.out.trans (hB1.mono HB.out.size))
      obtain ⟨b, off, rfl, hb, p0, p1⟩ := (HG w1 hB1).out
      simp at l1 k1
      clear hB1
      go_wp2
      go_quiet (fail)
      go_wp2
      go_ret
      exact ⟨by simp [e3], below_drewN HB1.out _⟩
    · have e3 : decide (g < s) = false := decide_eq_false hgs
      clear hc hs1
      go_enter Tryd.func49, Tryd.ntmps49
      go_wp2_with fail
      refine HSE.out.mono ?_
      rintro e w1 ⟨rfl, hB1⟩
      have l1 := (HL.out.below hB1 HL.out.lt).cell 0
      have k1 := (HK.out.below hB1 HK.out.lt).cell 1
      have HB1 := Lib.hid (HB.out.trans (hB1.mono HB.out.size))
      obtain ⟨b, off, rfl, hb, p0, p1⟩ := (HG w1 hB1).out
      simp at l1 k1
      clear hB1
      go_wp2
      go_quiet (fail)
      go_wp2
      go_ret
      exact ⟨by simp [e3], below_drewN HB1.out _⟩
  · rw [dif_neg hq] at hc
    generalize stopN f l = q at *
    obtain rfl : q = n := by have := HN.out; omega
    have e1 : ((q : Int) == (q : Int)) = true := by simp
    rw [hc]
    clear hc
    go_enter Tryd.func49, Tryd.ntmps49
    go_wp2_with fail
    refine HSE.out.mono ?_
    rintro e w1 ⟨rfl, hB1⟩
    have l1 := (HL.out.below hB1 HL.out.lt).cell 0
    have HB1 := Lib.hid (HB.out.trans (hB1.mono HB.out.size))
    have hbl1 := (HL.out.below hB1 HL.out.lt).lt
    simp at l1
    clear hB1
    go_wp2
    go_quiet (fail)
    go_wp2
    go_ret
    exact ⟨by simp, below_drewN HB1.out _⟩
theorem Tryd.clearIn_any (x : Option Addr) (n cap : Nat) (w : World) :
    Calls Tryd.prog 37 #[.slice x n cap] w fun e w' => e = .returned (.func (.func 49) #[] #[.pointer (some ⟨w.heap.size, 0, none⟩)]) ∧ w' = w.alloc (.cells #[.slice x n cap] 23) := by
  go_enter Tryd.func37, Tryd.ntmps37
  go_wp2
  go_ret
  exact ⟨rfl, rfl⟩
end Go.Proofs
