/- Arena: the reference's Entries, New, with; spoil. -/
import Derived.Test.YtahcghppmhlebaaAu
namespace Go.Proofs
set_option maxRecDepth 100000
open Go.RowKit Go.Shelf
attribute [local go_sem] Oper.semAt_some

set_option maxRecDepth 100000 in
set_option maxHeartbeats 4000000 in
theorem Try.refEntries_any (a : Option Addr) (n cap : Nat) (l : List Pr) (t : Int) (w : World) (hI : PAt w (.slice a n cap) l) (hl : n ≤ 10000) :
    Calls Try.prog 11 #[.agg #[.slice a n cap], .int .i64 t] w (EntQ (ents l t) w) := by
  obtain ⟨i0, hi, hz0, hz1, hz2⟩ := info_parts Try.infoEntry
  have hlen := (pAt_len hI).1
  have hB0 : Below w.heap.size w (w.alloc (.cells #[.slice a n cap] 24)) := Rows8.newB
  have HI := Lib.hid hI
  have HN := Lib.hid hlen
  have HB0 := Lib.hid hB0
  have O0 := Lib.hid (ownsP_nil 37 w.heap.size (w.alloc (.cells #[.slice a n cap] 24)))
  clear hI hlen hB0
  go_enter Try.func11, Try.ntmps11
  go_wp2_with fail
  go_loopw [5, 11] (fun v j wr => ∃ (k : Nat) (av : Option Addr) (kv cv : Nat), k ≤ n ∧ j = .int .i64 k ∧ v = .slice av kv cv ∧ Hid (kv = (ents (l.take k) t).length) ∧ kv ≤ k ∧ Hid (wr.ownsRow w.heap.size 37 2 (.slice av kv cv) kv (pVals (ents (l.take k) t))) ∧ Hid (Below w.heap.size w wr)) (fun _ j _ => n - (intOf j).toNat)
  case atStart => exact ⟨0, none, 0, 0, Nat.zero_le _, rfl, rfl, Lib.hid rfl, Nat.le_refl _, O0, HB0⟩
  case round =>
    obtain ⟨k, av, kv, cv, hk, rfl, rfl, hkv, hkk, hO, hB⟩ := hrel
    by_cases hlt : k < n
    · have hkl : k < l.length := by rw [← HN.out]; exact hlt
      obtain ⟨b, off, rfl, hb2, c0, c1⟩ := pAt_get (PAt.below HI.out hB.out) k hkl
      have het := ents_take l t k hkl
      rcases hq : l[k] with ⟨s, g⟩
      rw [hq] at c0 c1 het
      dsimp only at c0 c1 het
      have hki : (k : Int) < (n : Int) := by omega
      have hal : Below wr.heap.size wr (wr.alloc (.cells #[.int .i64 s, .int .u64 (g : Nat)] 44)) := Rows8.newB
      have HB1 := Lib.hid (hB.out.trans (hal.mono hB.out.size))
      have HO0 := Lib.hid (owns_keep hO.out hal (Nat.le_refl _))
      have hsz1 : w.heap.size ≤ wr.heap.size := hB.out.size
      clear hq hal hO hB
      by_cases ht : s = t
      · subst ht
        rw [if_pos rfl] at het
        have deq : (s == s) = true := by simp
        have hal2 : Below (wr.alloc (.cells #[.int .i64 s, .int .u64 (g : Nat)] 44)).heap.size (wr.alloc (.cells #[.int .i64 s, .int .u64 (g : Nat)] 44)) ((wr.alloc (.cells #[.int .i64 s, .int .u64 (g : Nat)] 44)).alloc (.cells #[.int .i64 (k : Nat), .int .u64 (g : Nat)] 37)) := Rows8.newB
        have HO1 := Lib.hid (owns_keep HO0.out hal2 (Nat.le_refl _))
        have HB2 := Lib.hid (HB1.out.trans (hal2.mono HB1.out.size))
        have HET := Lib.hid het
        have hzz : (wr.alloc (.cells #[.int .i64 s, .int .u64 (g : Nat)] 44)).heap.size = wr.heap.size + 1 := by simp
        have HZ := Lib.hid hzz
        have hcn := cells_new (wr.alloc (.cells #[.int .i64 s, .int .u64 (g : Nat)] 44)) 37 [.int .i64 (k : Nat), .int .u64 (g : Nat)]
        rw [hzz] at hcn
        have HCN := Lib.hid hcn
        clear het hal2 HO0 HB1 hzz hcn
        go_wp2_with (at_builtin; refine wpList_append_own _ rfl _ _ 25 rfl w.heap.size 37 i0 (.agg #[.int .i64 0, .int .u64 0]) 2 16 Try.underlying25 hi hz0 hz1 hz2 rfl (by decide) _ _ _ rfl HO1.out ⟨wr.heap.size + 1, 0, none⟩ 1 1 [.int .i64 (k : Nat), .int .u64 (g : Nat)] rfl rfl HCN.out (by simp [Value.oneCell']) (by unfold maxLen; omega) (by omega) (by simp; omega) ?_; intro v9 w9 hown hgrow _; have hb9 := HB2.out.grown hgrow HB2.out.size (fun j e => (World.ownsRow.lt HO1.out j e).1); have HB9 := Lib.hid hb9; obtain ⟨g9, c9, rfl⟩ := ownsRow_succ hown; have HOW := Lib.hid hown; clear hown hgrow hb9)
        exact ⟨⟨k + 1, _, _, _, by omega, by go_num, rfl, Lib.hid (by rw [HET.out, List.length_append, ← hkv.out]; rfl), by omega, Lib.hid (by rw [HET.out, pVals_snoc]; exact HOW.out), HB9⟩, by simp [intOf]; omega⟩
      · rw [if_neg ht, List.append_nil] at het
        have dne : (s == t) = false := by simp [ht]
        have HET := Lib.hid het
        clear het ht
        go_wp2_with fail
        exact ⟨⟨k + 1, av, kv, cv, by omega, by go_num, rfl, Lib.hid (by rw [HET.out]; exact hkv.out), by omega, Lib.hid (by rw [HET.out]; exact HO0.out), HB1⟩, by simp [intOf]; omega⟩
    · obtain rfl : k = n := by omega
      have hki : ¬ (k : Int) < (k : Int) := by omega
      have HO9 : Hid (OwnsP 37 w.heap.size (ents l t) (.slice av kv cv) wr) := Lib.hid (by
        have h := hO.out
        have h2 := hkv.out
        have hf : l.take k = l := List.take_of_length_le (Nat.le_of_eq HN.out.symm)
        rw [hf] at h h2
        unfold OwnsP
        rw [← h2]
        exact h)
      clear hkv hO
      go_wp2_with fail
      go_ret
      exact ⟨_, rfl, HO9.out, hB.out⟩

set_option maxRecDepth 100000 in
set_option maxHeartbeats 4000000 in
theorem Try.refNew_any (N : Nat) (hN : N ≤ 10000) (w : World) :
    Calls Try.prog 19 #[.int .i64 (N : Nat)] w fun e w' => ∃ v, e = .returned (.agg #[v]) ∧ OwnsP 44 w.heap.size (List.replicate N (0, 0)) v w' ∧ Below w.heap.size w w' := by
  obtain ⟨i0, hi, hz0, hz1, hz2⟩ := info_parts Try.infoSlab
  have hB0 : Below w.heap.size w ((w.alloc (.cells #[.slice none 0 0] 24)).alloc (.cells #[.slice none 0 0] 24)) := (Rows8.newB).alloc (by simp) _
  have r0 := (Rows8.new w 24 #[.slice none 0 0]).alloc (.cells #[.slice none 0 0] 24)
  have r1 := Rows8.new (w.alloc (.cells #[.slice none 0 0] 24)) 24 #[.slice none 0 0]
  rw [World.size_alloc] at r1
  have R0 := Lib.hid r0
  have R1 := Lib.hid r1
  have HB0 := Lib.hid hB0
  have O0 := Lib.hid (ownsP_nil 44 w.heap.size ((w.alloc (.cells #[.slice none 0 0] 24)).alloc (.cells #[.slice none 0 0] 24)))
  clear r0 r1 hB0
  go_enter Try.func19, Try.ntmps19
  go_wp2_with fail
  go_loopw [5] (fun j wr => ∃ (k : Nat) (av : Option Addr) (cv : Nat), k ≤ N ∧ j = .int .i64 k ∧ Hid (Rows8 wr w.heap.size 24 #[.slice none 0 0]) ∧ Hid (Rows8 wr (w.heap.size + 1) 24 #[.slice av k cv]) ∧ Hid (wr.ownsRow w.heap.size 44 2 (.slice av k cv) k (pVals (List.replicate k (0, 0)))) ∧ Hid (Below w.heap.size w wr)) (fun j _ => N - (intOf j).toNat)
  case atStart => exact ⟨0, none, 0, Nat.zero_le _, rfl, R0, R1, O0, HB0⟩
  case round =>
    obtain ⟨k, av, cv, hk, rfl, hR0, hR1, hO, hB⟩ := hrel
    have cR : wr.cell? ⟨w.heap.size + 1, 0, none⟩ = some (.slice av k cv) := hR1.out.cell 0
    have lR := hR1.out.lt
    by_cases hlt : k < N
    · have hki : (k : Int) < (N : Int) := by omega
      have hal : Below wr.heap.size wr (wr.alloc (.cells #[.int .i64 0, .int .u64 0] 44)) := Rows8.newB
      have HO1 := Lib.hid (owns_keep hO.out hal (Nat.le_refl _))
      have HR0 := Lib.hid (hR0.out.below hal hR0.out.lt)
      have HR1 := Lib.hid (hR1.out.below hal hR1.out.lt)
      have HB2 := Lib.hid (hB.out.trans (hal.mono hB.out.size))
      have hsz1 : w.heap.size ≤ wr.heap.size := hB.out.size
      clear hal hO hR0 hR1 hB
      go_wp2_with (at_builtin; refine wpList_append_own _ rfl _ _ 22 rfl w.heap.size 44 i0 (.agg #[.int .i64 0, .int .u64 0]) 2 16 Try.underlying22 hi hz0 hz1 hz2 rfl (by decide) _ _ _ rfl HO1.out ⟨wr.heap.size, 0, none⟩ 1 1 [.int .i64 0, .int .u64 0] rfl rfl (cells_new wr _ [.int .i64 0, .int .u64 0]) (by simp [Value.oneCell']) (by unfold maxLen; omega) (by omega) (by simp; omega) ?_; intro v9 w9 hown hgrow _; have hb9 := HB2.out.grown hgrow HB2.out.size (fun j e => (World.ownsRow.lt HO1.out j e).1); have q0 := rows_grownA HO1.out (by decide) hgrow HR0.out; have q1 := rows_grownA HO1.out (by decide) hgrow HR1.out; obtain ⟨g9, c9, rfl⟩ := ownsRow_succ hown; have cq : w9.cell? ⟨w.heap.size + 1, 0, none⟩ = some (.slice av k cv) := q1.cell 0; have fq := q1.frozen 0; have HB9 := Lib.hid (hb9.setCell (p := ⟨w.heap.size + 1, 0, none⟩) (by simp) (.slice (some ⟨g9, 0, none⟩) (k + 1) c9)); have HQ0 := Lib.hid (q0.setOther (a := ⟨w.heap.size + 1, 0, none⟩) (by simp) (.slice (some ⟨g9, 0, none⟩) (k + 1) c9)); have HQ1 := Lib.hid (q1.set 0 (.slice (some ⟨g9, 0, none⟩) (k + 1) c9)); have HOW := Lib.hid (ownsRow_setCell_other hown (a := ⟨w.heap.size + 1, 0, none⟩) (owns_not hown q1 (by decide)) (.slice (some ⟨g9, 0, none⟩) (k + 1) c9)); clear hown hgrow hb9 q0 q1)
      exact ⟨⟨k + 1, _, _, by omega, by go_num, HQ0, HQ1, Lib.hid (by rw [List.replicate_succ', pVals_snoc]; exact HOW.out), HB9⟩, by simp [intOf]; omega⟩
    · obtain rfl : k = N := by omega
      have hki : ¬ (k : Int) < (k : Int) := by omega
      have c0 : wr.cell? ⟨w.heap.size, 0, none⟩ = some (.slice none 0 0) := hR0.out.cell 0
      have f0 := hR0.out.frozen 0
      have r2 := hR0.out.set 0 (.slice av k cv)
      simp only [List.setIfInBounds_toArray, List.set_cons_zero] at r2
      have R2 := Lib.hid r2
      have O2 := Lib.hid (ownsRow_setCell_other hO.out (a := ⟨w.heap.size, 0, none⟩) (owns_not hO.out hR0.out (by decide)) (.slice av k cv))
      have HB2 := Lib.hid (hB.out.setCell (p := ⟨w.heap.size, 0, none⟩) (Nat.le_refl _) (.slice av k cv))
      clear r2
      go_wp2_with fail
      refine bodyPost_ret (results_c rfl _ _ w.heap.size 24 _ (0, 0) _ rfl R2.out Try.underlying24 rfl (by kernel_rfl)) rfl ?_
      exact ⟨_, rfl, by unfold OwnsP; rw [List.length_replicate]; exact O2.out, HB2.out⟩

end Go.Proofs
