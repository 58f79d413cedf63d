/- Arena: how many there are of each tag. -/
import Derived.Test.YtmcancccihffhaaAd
namespace Go.Proofs
set_option maxRecDepth 100000
open Go.RowKit Go.Shelf
attribute [local go_sem] Oper.semAt_some

def arr3 (f : Nat → Nat) : Array Value := #[.int .i64 (f 0 : Nat), .int .i64 (f 1 : Nat), .int .i64 (f 2 : Nat)]
theorem arr3_get (f : Nat → Nat) (k : Nat) (h : k < 3) : (arr3 f)[k]? = some (.int .i64 (f k : Nat)) := by
  rcases (by omega : k = 0 ∨ k = 1 ∨ k = 2) with rfl | rfl | rfl <;> rfl
theorem arr3_set (f : Nat → Nat) (k : Nat) (h : k < 3) : (arr3 f).setIfInBounds k (.int .i64 ((f k : Nat) + 1)) = arr3 (fun n => f n + if n = k then 1 else 0) := by
  rcases (by omega : k = 0 ∨ k = 1 ∨ k = 2) with rfl | rfl | rfl <;> simp [arr3]
set_option maxRecDepth 100000 in
set_option maxHeartbeats 2000000 in
theorem Try.counts_any (a : Option Addr) (n cap : Nat) (l : List Pr) (w : World) (hI : PAt w (.slice a n cap) l) (hl : n ≤ 10000) (hok : ∀ s ∈ l, okS s = true) :
    Calls Try.prog 17 #[.agg #[.slice a n cap]] w fun e w' => e = .returned (.agg (arr3 fun t => cnt l t)) ∧ Below w.heap.size w w' := by
  have hlen := (pAt_len hI).1
  have hB0 : Below w.heap.size w (((w.alloc (.cells #[.slice a n cap] 54)).alloc (.cells #[.int .i64 0, .int .i64 0, .int .i64 0] 55)).alloc (.cells #[.int .i64 0, .int .i64 0, .int .i64 0] 55)) := ((Rows8.newB).alloc (by simp) _).alloc (by simp <;> omega) _
  have h1 : Rows8 (((w.alloc (.cells #[.slice a n cap] 54)).alloc (.cells #[.int .i64 0, .int .i64 0, .int .i64 0] 55)).alloc (.cells #[.int .i64 0, .int .i64 0, .int .i64 0] 55)) (w.heap.size + 1) 55 #[.int .i64 0, .int .i64 0, .int .i64 0] := (rows_new2 _ _ _ _).alloc _
  have h2 := Rows8.new ((w.alloc (.cells #[.slice a n cap] 54)).alloc (.cells #[.int .i64 0, .int .i64 0, .int .i64 0] 55)) 55 #[.int .i64 0, .int .i64 0, .int .i64 0]
  have hsz : ((w.alloc (.cells #[.slice a n cap] 54)).alloc (.cells #[.int .i64 0, .int .i64 0, .int .i64 0] 55)).heap.size = w.heap.size + 1 + 1 := by simp
  rw [hsz] at h2
  have HI := Lib.hid hI
  have HL := Lib.hid hlen
  have HOK := Lib.hid hok
  have HB0 := Lib.hid hB0
  have H1 := Lib.hid h1
  have H2 := Lib.hid h2
  clear hlen hB0 h1 h2 hI hsz hok
  go_enter Try.func17, Try.ntmps17
  go_wp2_with fail
  generalize (((w.alloc (.cells #[.slice a n cap] 54)).alloc (.cells #[.int .i64 0, .int .i64 0, .int .i64 0] 55)).alloc (.cells #[.int .i64 0, .int .i64 0, .int .i64 0] 55)) = W0 at *
  go_loopw [10] (fun j wr => ∃ k : Nat, k ≤ n ∧ j = .int .i64 k ∧ Rows8 wr (w.heap.size + 1 + 1) 55 (arr3 fun t => cnt (l.take k) t) ∧ Rows8 wr (w.heap.size + 1) 55 #[.int .i64 0, .int .i64 0, .int .i64 0] ∧ Below w.heap.size w wr) (fun j _ => n - (intOf j).toNat)
  case atStart => exact ⟨0, Nat.zero_le _, rfl, H2.out, H1.out, HB0.out⟩
  case round =>
    obtain ⟨k, hk, rfl, hm, hz, hB⟩ := hrel
    by_cases hlt : k < n
    · have hkl : k < l.length := by rw [← HL.out]; exact hlt
      obtain ⟨b, off, rfl, hb2, c0, c1⟩ := pAt_get (PAt.below HI.out hB) k hkl
      have hs := okS_iff.1 (HOK.out _ (List.getElem_mem hkl))
      have hct := fun t => cnt_take l t k hkl
      rcases hq : l[k] with ⟨t, g⟩
      rw [hq] at c0 c1 hs hct
      dsimp only at c0 c1 hs hct
      obtain ⟨t, rfl⟩ : ∃ t' : Nat, t = t' := ⟨t.toNat, by omega⟩
      have ht3 : t < 3 := by omega
      have hki : (k : Int) < (n : Int) := by omega
      have hti : (t : Int) < 3 := by omega
      have hal : Below wr.heap.size wr (wr.alloc (.cells #[.int .i64 (t : Int), .int .u64 (g : Nat)] 52)) := Rows8.newB
      have hlm := hm.lt
      have hm2 := hm.below hal hm.lt
      have hz2 := hz.below hal hz.lt
      have hB2 := hB.trans (hal.mono hB.size)
      have cm : (wr.alloc (.cells #[.int .i64 (t : Int), .int .u64 (g : Nat)] 52)).cell? ⟨w.heap.size + 1 + 1, t, none⟩ = some (.int .i64 (cnt (l.take k) (t : Nat) : Nat)) := (hm2.cell t).trans (arr3_get _ t ht3)
      have fm := hm2.frozen t
      have hcl : cnt (l.take k) (t : Nat) ≤ n := Nat.le_trans (cnt_le _ _) (by rw [List.length_take]; omega)
      have hm3 := (hm.set t (.int .i64 ((cnt (l.take k) (t : Nat) : Nat) + 1))).alloc (.cells #[.int .i64 (t : Int), .int .u64 (g : Nat)] 52)
      rw [arr3_set (fun t => cnt (l.take k) t) t ht3] at hm3
      have hz3 := (hz.setOther (a := ⟨w.heap.size + 1 + 1, t, none⟩) (by simp) (.int .i64 ((cnt (l.take k) (t : Nat) : Nat) + 1))).alloc (.cells #[.int .i64 (t : Int), .int .u64 (g : Nat)] 52)
      have hB3 := (hB.setCell (p := ⟨w.heap.size + 1 + 1, t, none⟩) (by simp <;> omega) (.int .i64 ((cnt (l.take k) (t : Nat) : Nat) + 1))).alloc (by have := hB.size; simpa [World.setCell] using this) (.cells #[.int .i64 (t : Int), .int .u64 (g : Nat)] 52)
      have he : (fun n => cnt (l.take k) ((n : Nat) : Int) + if n = t then 1 else 0) = fun n => cnt (l.take (k + 1)) ((n : Nat) : Int) := by
        funext n
        rw [hct]
        by_cases h : n = t
        · subst h; simp
        · rw [if_neg h, if_neg (by omega)]
      rw [he] at hm3
      have HM3 := Lib.hid hm3
      have HZ3 := Lib.hid hz3
      have HB3 := Lib.hid hB3
      clear hq hct he hm3 hz3 hB3 hm hz hm2 hz2 hB2 hB hal hs
      generalize cnt (l.take k) ((t : Nat) : Int) = q at *
      go_wp2_with fail
      exact ⟨⟨k + 1, by omega, by go_num, HM3.out, HZ3.out, HB3.out⟩, by simp [intOf]; omega⟩
    · obtain rfl : k = n := by omega
      rw [List.take_of_length_le (Nat.le_of_eq HL.out.symm)] at hm
      have c0 : wr.cell? ⟨w.heap.size + 1 + 1, 0, none⟩ = some (.int .i64 (cnt l (0 : Nat) : Nat)) := hm.cell 0
      have c1 : wr.cell? ⟨w.heap.size + 1 + 1, 1, none⟩ = some (.int .i64 (cnt l (1 : Nat) : Nat)) := hm.cell 1
      have c2 : wr.cell? ⟨w.heap.size + 1 + 1, 2, none⟩ = some (.int .i64 (cnt l (2 : Nat) : Nat)) := hm.cell 2
      have d0 : wr.cell? ⟨w.heap.size + 1, 0, none⟩ = some (.int .i64 0) := hz.cell 0
      have d1 : wr.cell? ⟨w.heap.size + 1, 1, none⟩ = some (.int .i64 0) := hz.cell 1
      have d2 : wr.cell? ⟨w.heap.size + 1, 2, none⟩ = some (.int .i64 0) := hz.cell 2
      have g0 := hz.frozen 0
      have g1 := hz.frozen 1
      have g2 := hz.frozen 2
      have hs := ((hz.set 0 (.int .i64 (cnt l (0 : Nat) : Nat))).set 1 (.int .i64 (cnt l (1 : Nat) : Nat))).set 2 (.int .i64 (cnt l (2 : Nat) : Nat))
      simp only [List.setIfInBounds_toArray, List.set_cons_zero, List.set_cons_succ] at hs
      have hB2 := ((hB.setCell (p := ⟨w.heap.size + 1, 0, none⟩) (by simp) (.int .i64 (cnt l (0 : Nat) : Nat))).setCell (p := ⟨w.heap.size + 1, 1, none⟩) (by simp) (.int .i64 (cnt l (1 : Nat) : Nat))).setCell (p := ⟨w.heap.size + 1, 2, none⟩) (by simp) (.int .i64 (cnt l (2 : Nat) : Nat))
      have HS := Lib.hid hs
      have HB2 := Lib.hid hB2
      clear hs hB2 hm hz hB
      obtain ⟨q0, hq0⟩ : ∃ q, q = cnt l ((0 : Nat) : Int) := ⟨_, rfl⟩
      obtain ⟨q1, hq1⟩ : ∃ q, q = cnt l ((1 : Nat) : Int) := ⟨_, rfl⟩
      obtain ⟨q2, hq2⟩ : ∃ q, q = cnt l ((2 : Nat) : Int) := ⟨_, rfl⟩
      rw [← hq0] at c0
      rw [← hq1] at c1
      rw [← hq2] at c2
      rw [← hq0, ← hq1, ← hq2] at HS HB2
      have HQ0 := Lib.hid hq0
      have HQ1 := Lib.hid hq1
      have HQ2 := Lib.hid hq2
      clear hq0 hq1 hq2
      go_wp2_with fail
      refine bodyPost_ret (results_c rfl _ _ (w.heap.size + 1) 55 _ (0, 0) _ rfl HS.out Try.underlying55 rfl (by kernel_rfl)) rfl ?_
      exact ⟨by rw [HQ0.out, HQ1.out, HQ2.out]; rfl, HB2.out⟩


end Go.Proofs
