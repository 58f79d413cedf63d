/- Arena: a draft that gives back. -/
import Derived.Test.YtmcancccihffhaaAi
namespace Go.Proofs
set_option maxRecDepth 100000
open Go.RowKit Go.Shelf
attribute [local go_sem] Oper.semAt_some

theorem OwnsP.setBoth {T : TypeId} {n₀ : Nat} {l : List Pr} {g n c : Nat} {W : World} (o : OwnsP T n₀ l (.slice (some ⟨g, 0, none⟩) n c) W) (hn : n = l.length) (j : Nat) (hj : j < l.length) (t : Int) (x : Nat) :
    OwnsP T n₀ (l.set j (t, x)) (.slice (some ⟨g, 0, none⟩) n c) ((W.setCell ⟨g, j * 2, none⟩ (.int .i64 t)).setCell ⟨g, j * 2 + 1, none⟩ (.int .u64 (x : Nat))) := by
  have h := (o.set0 hn j hj t).set1 (by rw [List.length_set]; exact hn) j (by rw [List.length_set]; exact hj) x
  rw [List.set_set, List.getElem_set_self] at h
  exact h
set_option maxRecDepth 100000 in
set_option maxHeartbeats 4000000 in
theorem Try.give_any (D n₀ : Nat) (l : List Pr) (vs vt : Value) (e : Pr) (hok : ∀ s ∈ l, okS s = true) (w : World) (hD : Dr D n₀ l vs vt w) (hn₀ : n₀ ≤ w.heap.size) :
    Calls Try.prog 27 #[.pointer (some ⟨D, 0, none⟩), .agg #[.int .i64 e.1, .int .u64 (e.2 : Nat)]] w (StepQ D n₀ vs vt w (givE l e) (givS l e)) := by
  obtain ⟨a, c, hvs⟩ := hD.o.form
  obtain ⟨n, hn⟩ : ∃ n, n = l.length := ⟨_, rfl⟩
  rw [← hn] at hvs
  have hT := fun (W : World) (h : PAt W vs l) => Try.tag_any a n c l e W (by rw [← hvs]; exact h)
  have hB0 : Below w.heap.size w (w.alloc (.cells #[.int .i64 e.1, .int .u64 (e.2 : Nat)] 41)) := Rows8.newB
  have hE0 := Rows8.new w 41 #[.int .i64 e.1, .int .u64 (e.2 : Nat)]
  have hD0 := hD.below hB0
  have hne := @tagA_ne l e
  have htb := @tagB_iff l e
  have hre : givE l e = if tagA l e = 0 then 4 else if e.2 = 1099511627775 then 6 else 0 := rfl
  obtain ⟨E, hE⟩ : ∃ E, E = givE l e := ⟨_, rfl⟩
  rw [← hE] at hre ⊢
  have hrs : givS l e = l.set e.1.toNat (0, e.2 + 1) := rfl
  obtain ⟨L, hL⟩ : ∃ L, L = givS l e := ⟨_, rfl⟩
  rw [← hL] at hrs ⊢
  obtain ⟨t, ht⟩ : ∃ t, t = tagA l e := ⟨_, rfl⟩
  rw [← ht] at hT hne hre
  obtain ⟨i, g⟩ := e
  dsimp only at hB0 hE0 hD0 hT hne hrs hre ⊢
  generalize tagB l (i, g) = b at *
  have HOK := Lib.hid hok
  clear hok
  have HT := fun W h => Lib.hid (hT W h)
  have HNE := Lib.hid hne
  have HRE := Lib.hid hre
  have HRS := Lib.hid hrs
  have HB0 := Lib.hid hB0
  have HE0 := Lib.hid hE0
  have HD0 := Lib.hid hD0
  have HN := Lib.hid hn
  have hsz := hD.d.lt
  clear hT hne hre hrs hB0 hE0 hD0 hn hD hE hL ht htb
  subst hvs
  go_enter Try.func27, Try.ntmps27
  go_wp2_with fail
  generalize (w.alloc (.cells #[.int .i64 i, .int .u64 (g : Nat)] 41)) = W0 at *
  have hc0 : W0.cell? ⟨D, 0, none⟩ = some (.slice a n c) := HD0.out.d.cell 0
  have hc1 : W0.cell? ⟨w.heap.size, 0, none⟩ = some (.int .i64 i) := HE0.out.cell 0
  have hc2 : W0.cell? ⟨w.heap.size, 1, none⟩ = some (.int .u64 (g : Nat)) := HE0.out.cell 1
  go_region_held3 (fun W' => W'.cell? ⟨D, 0, none⟩ = some (.slice a n c) ∧ W'.cell? ⟨w.heap.size, 0, none⟩ = some (.int .i64 i) ∧ W'.cell? ⟨w.heap.size, 1, none⟩ = some (.int .u64 (g : Nat))) (first | exact ⟨hc0, hc1, hc2⟩ | exact hkeep) (first
    | (go_at_call 28; refine (HT _ HD0.out.drew.o.at).out.mono ?_; rintro r w2 ⟨rfl, hB2⟩; have hD2 := HD0.out.drew.below hB2; have hE2 := HE0.out.drewA.below hB2 HE0.out.lt; have hkeep : w2.cell? ⟨D, 0, none⟩ = some (.slice a n c) ∧ w2.cell? ⟨w.heap.size, 0, none⟩ = some (.int .i64 i) ∧ w2.cell? ⟨w.heap.size, 1, none⟩ = some (.int .u64 (g : Nat)) := ⟨hD2.d.cell 0, hE2.cell 0, hE2.cell 1⟩; have HD2 := Lib.hid hD2; have HE2 := Lib.hid hE2; have HB2 := Lib.hid (HB0.out.drew.trans (hB2.mono HB0.out.size)); clear hB2 hD2 hE2))
  have hB2 := HB2.out
  by_cases h1 : t = 0
  · have hne1 : (t == 0) = true := by simp [h1]
    have hE : Hid (E = 4) := Lib.hid (by rw [HRE.out, if_pos h1])
    have HB3 := Lib.hid hB2
    clear hB2
    go_wp2_with fail
    exact ⟨rfl, Or.inr ⟨by rw [hE.out]; decide, by rw [hE.out]; rfl, HB3.out.mono hn₀, .of_below HB3.out⟩⟩
  · have hne1 : (t == 0) = false := by simp [h1]
    obtain ⟨j, rfl, hj, hg, htj⟩ := HNE.out h1
    have hgm := (okS_iff.1 (HOK.out _ (List.getElem_mem hj))).2.2
    rw [hg] at hgm
    have pe1 : w2.cell? ⟨w.heap.size, 1, none⟩ = some (.int .u64 (g : Nat)) := HE2.out.cell 1
    by_cases h2 : g = 1099511627775
    · have hg1 : (((g : Nat) : Int) == 1099511627775) = true := by simp; omega
      have hE : Hid (E = 6) := Lib.hid (by rw [HRE.out, if_neg h1, if_pos h2])
      have HB3 := Lib.hid hB2
      clear hB2 hg htj h2
      go_wp2_with fail
      exact ⟨rfl, Or.inr ⟨by rw [hE.out]; decide, by rw [hE.out]; rfl, HB3.out.mono hn₀, .of_below HB3.out⟩⟩
    · have hg1 : (((g : Nat) : Int) == 1099511627775) = false := by simp; omega
      obtain ⟨b0, cs, rfl, hb0, hnl2, hrow, p0, p1⟩ := HD2.out.o.block j hj
      have hnl := HN.out
      have hji : (j : Int) < (n : Int) := by omega
      have hj0 : (0 : Int) ≤ (j : Int) := by omega
      have pd0 : w2.cell? ⟨D, 0, none⟩ = some (.slice (some ⟨b0, 0, none⟩) n c) := HD2.out.d.cell 0
      have pe0 : w2.cell? ⟨w.heap.size, 0, none⟩ = some (.int .i64 (j : Nat)) := HE2.out.cell 0
      have fr0 := hrow.frozen (j * 2)
      have fr1 := hrow.frozen (j * 2 + 1)
      have hlb := hrow.lt
      have hE : Hid (E = 0) := Lib.hid (by rw [HRE.out, if_neg h1, if_neg h2])
      have hset2 := HD2.out.o.setBoth HN.out j hj 0 (g + 1)
      have hDb : D ≠ b0 := rows_apart HD2.out.d hrow (by decide)
      have hds := (HD2.out.d.setOther (a := ⟨b0, j * 2, none⟩) (fun e => hDb e.symm) (.int .i64 0)).setOther (a := ⟨b0, j * 2 + 1, none⟩) (fun e => hDb e.symm) (.int .u64 ((g + 1 : Nat) : Int))
      have hL : L = l.set j (0, g + 1) := by rw [HRS.out, Int.toNat_natCast]
      rw [← hL] at hset2
      have hks := (Ks.set (T := 52) w2 (a := ⟨b0, j * 2, none⟩) hrow (.int .i64 0)).trans (Ks.set (T := 52) _ (a := ⟨b0, j * 2 + 1, none⟩) (hrow.set (j * 2) (.int .i64 0)) (.int .u64 ((g + 1 : Nat) : Int)))
      have hB3 := ((hB2.mono hn₀).setCell (p := ⟨b0, j * 2, none⟩) hb0 (.int .i64 0)).setCell (p := ⟨b0, j * 2 + 1, none⟩) hb0 (.int .u64 ((g + 1 : Nat) : Int))
      have hcast : ((g + 1 : Nat) : Int) = (g : Int) + 1 := by omega
      rw [hcast] at hset2 hds hks hB3
      have HKS := Lib.hid hks
      have HSET := Lib.hid hset2
      have HDS := Lib.hid hds
      have HB3 := Lib.hid hB3
      have HKB := Lib.hid (Ks.of_below (T := 52) hB2)
      have hgb : g ≤ 1099511627774 := by omega
      generalize l[j].1 = tt at *
      generalize l[j].2 = gg at *
      clear hL hset2 hds hks hB2 hB3 hg HNE h1 h2 hnl hnl2 htj hgm hcast
      go_wp2_with fail
      go_region
      go_end0
      exact Or.inl ⟨hE.out, rfl, ⟨HDS.out, HSET.out⟩, HB3.out.drew, (HKB.out.trans HKS.out).drew⟩
end Go.Proofs
