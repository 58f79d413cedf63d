/- Monitor: who has what, and which touches are good. -/
import Derived.Test.YtkghlcoancfnfaaBf
namespace Go.Proofs
set_option maxRecDepth 100000
open Go.RowKit Go.Shelf
attribute [local go_sem] Oper.semAt_some

/-- Where it stands first, or -1. -/
def idxE (z : Pr) : List Pr → Nat → Int
  | [], _ => -1
  | x :: t, k => if z = x then (k : Int) else idxE z t (k + 1)
theorem idxE_has (z : Pr) (l : List Pr) (k : Nat) : 0 ≤ idxE z l k ↔ z ∈ l := by
  induction l generalizing k with
  | nil => simp [idxE]
  | cons x t ih =>
    unfold idxE
    by_cases h : z = x
    · simp [h]
    · simp [h, ih]
set_option maxHeartbeats 2000000 in
theorem Try.indexE_any (a : Option Addr) (n cap : Nat) (l : List Pr) (z : Pr) (w : World) (hI : PAt w (.slice a n cap) l) :
    Calls Try.prog 58 #[.slice a n cap, .agg #[.int .i64 z.1, .int .u64 (z.2 : Nat)]] w fun e w' => e = .returned (.int .i64 (idxE z l 0)) ∧ Below w.heap.size w w' := by
  have hreach : n ≤ maxLen := by have := pAt_len hI; omega
  unfold maxLen at hreach
  have HN := Lib.hid (pAt_len hI).1
  have HI := Lib.hid hI
  obtain ⟨z0, z1⟩ := z
  have hB0 : Below w.heap.size w (w.alloc (.cells #[.int .i64 z0, .int .u64 (z1 : Nat)] 38)) := Rows8.newB
  have hE0 := Rows8.new w 38 #[.int .i64 z0, .int .u64 (z1 : Nat)]
  have HB0 := Lib.hid hB0
  have HE0 := Lib.hid hE0
  clear hI hB0 hE0
  dsimp only
  go_enter Try.func58, Try.ntmps58
  go_wp2_with fail
  generalize w.alloc (.cells #[.int .i64 z0, .int .u64 (z1 : Nat)] 38) = W0 at *
  go_loopw [5, 8] (fun _ j wr => ∃ k : Nat, k ≤ n ∧ j = .int .i64 k ∧ Hid (idxE (z0, z1) l 0 = idxE (z0, z1) (l.drop k) k) ∧ Hid (Rows8 wr w.heap.size 38 #[.int .i64 z0, .int .u64 (z1 : Nat)]) ∧ Hid (Below w.heap.size w wr)) (fun _ j _ => n - (intOf j).toNat)
  case atStart => exact ⟨0, Nat.zero_le _, rfl, Lib.hid rfl, HE0, HB0⟩
  case round =>
    obtain ⟨k, hk, rfl, hx, hE, hB⟩ := hrel
    by_cases hlt : k < n
    · have hkl : k < l.length := by rw [← HN.out]; exact hlt
      obtain ⟨b, off, rfl, hb, p0, p1⟩ := pAt_get (PAt.below HI.out hB.out) k hkl
      have hd := drop_next l k hkl
      have e0 : wr.cell? ⟨w.heap.size, 0, none⟩ = some (.int .i64 z0) := hE.out.cell 0
      have e1 : wr.cell? ⟨w.heap.size, 1, none⟩ = some (.int .u64 (z1 : Nat)) := hE.out.cell 1
      have hmx : Try.prog.follows .mixedOrders = true := by kernel_rfl
      have hki : (k : Int) < (n : Int) := by omega
      have hki0 : (0 : Int) ≤ (k : Int) := by omega
      rcases hq : l[k] with ⟨y0, y1⟩
      rw [hq] at p0 p1 hd
      dsimp only at p0 p1
      have HD := Lib.hid hd
      clear hd hkl hq
      by_cases h0 : z0 = y0
      · subst h0
        have d0 : (z0 == z0) = true := by simp
        by_cases h1 : z1 = y1
        · subst h1
          have d1 : (((z1 : Nat) : Int) == ((z1 : Nat) : Int)) = true := by simp
          go_wp2_with fail
          go_region
          go_wp2_with fail
          go_ret
          exact ⟨by rw [hx.out, HD.out]; simp [idxE], hB.out.drew⟩
        · have d1 : (((z1 : Nat) : Int) == ((y1 : Nat) : Int)) = false := by simp; omega
          have HE := Lib.hid (show (z0, z1) ≠ (z0, y1) from fun e => h1 (by injection e))
          clear h1
          go_wp2_with fail
          go_region
          go_wp2_with fail
          go_roundw
          case rel => exact ⟨k + 1, by omega, by go_num, Lib.hid (by rw [hx.out, HD.out, idxE, if_neg HE.out]), Lib.hid hE.out.drewA, Lib.hid hB.out.drew⟩
          case measure => simp [intOf]; omega
      · have d0 : (z0 == y0) = false := by simp [h0]
        have HE := Lib.hid (show (z0, z1) ≠ (y0, y1) from fun e => h0 (by injection e))
        clear h0
        go_wp2_with fail
        go_region
        go_wp2_with fail
        go_roundw
        case rel => exact ⟨k + 1, by omega, by go_num, Lib.hid (by rw [hx.out, HD.out, idxE, if_neg HE.out]), Lib.hid hE.out.drewA, Lib.hid hB.out.drew⟩
        case measure => simp [intOf]; omega
    · obtain rfl : k = n := by omega
      have hki : ¬ (k : Int) < (k : Int) := by omega
      go_wp2_with fail
      go_ret
      exact ⟨by rw [hx.out, HN.out, List.drop_length]; rfl, hB.out⟩
theorem Try.containsE_any (a : Option Addr) (n cap : Nat) (l : List Pr) (z : Pr) (w : World) (hI : PAt w (.slice a n cap) l) :
    Calls Try.prog 25 #[.slice a n cap, .agg #[.int .i64 z.1, .int .u64 (z.2 : Nat)]] w fun e w' => e = .returned (.bool (decide (z ∈ l))) ∧ Below w.heap.size w w' := by
  have hB0 : Below w.heap.size w (w.alloc (.cells #[.int .i64 z.1, .int .u64 (z.2 : Nat)] 38)) := Rows8.newB
  have H := Lib.hid (Try.indexE_any a n cap l z _ (hI.below hB0))
  have HH := Lib.hid (idxE_has z l 0)
  have HB0 := Lib.hid hB0
  clear hI hB0
  generalize idxE z l 0 = r at *
  obtain ⟨z0, z1⟩ := z
  dsimp only at *
  go_enter Try.func25, Try.ntmps25
  go_wp2_with fail
  refine H.out.mono ?_
  rintro e w' ⟨rfl, hB⟩
  have HB := Lib.hid (HB0.out.trans (hB.mono HB0.out.size))
  clear hB
  go_wp2_with fail
  go_ret
  exact ⟨by rw [show decide ((z0, z1) ∈ l) = decide (0 ≤ r) by rw [decide_eq_decide]; exact HH.out.symm]; rfl, HB.out⟩
def hasM (m : Mn) (g : Int) (e : Pr) : Bool := decide (e ∈ m.has[g.toNat]?.getD [])
def tagM (m : Mn) (e : Pr) : Int := if rightA m.sl then tagA m.sl e else 0
def goodT (h : Bool) (t k : Int) : Bool := h && (decide (t = 1) || (decide (t = 2) && decide (k = 4)))
def goodM (m : Mn) (x : Wt) : Bool := goodT (hasM m x.goer x.ent) (tagM m x.ent) x.kind
set_option maxHeartbeats 4000000 in
theorem Try.has_any (x : Mv) (m : Mn) (g : Nat) (e : Pr) (w : World) (hM : MonAt w x m) (hg : g < m.has.length) :
    Calls Try.prog 67 #[.agg #[.slice x.sa x.sn x.sc, .slice x.pa x.pn x.pc, .slice x.ha x.hn x.hc, .slice x.ba x.bn x.bc], .int .i64 (g : Nat), .agg #[.int .i64 e.1, .int .u64 (e.2 : Nat)]] w fun r w' => r = .returned (.bool (hasM m (g : Nat) e)) ∧ Below w.heap.size w w' := by
  obtain ⟨b, off, ar, cr, hpa, hb, hc, hp⟩ := hasAt_get hM.h g hg
  have hz : hasM m (g : Nat) e = decide (e ∈ m.has[g]) := by unfold hasM; rw [Int.toNat_natCast, List.getElem?_eq_getElem hg]; rfl
  rw [hz]
  obtain ⟨row, hrow⟩ : ∃ r, r = m.has[g] := ⟨_, rfl⟩
  rw [← hrow] at hc hp ⊢
  obtain ⟨k, hk⟩ : ∃ k, k = row.length := ⟨_, rfl⟩
  rw [← hk] at hc hp
  have hxl : x.hn = m.has.length := hM.lens.2.2.1
  have hgi : ((g : Nat) : Int) < ((x.hn : Nat) : Int) := by omega
  have hgi0 : (0 : Int) ≤ ((g : Nat) : Int) := by omega
  obtain ⟨e0, e1⟩ := e
  obtain ⟨W, hW⟩ : ∃ W, W = (w.alloc (.cells #[.slice x.sa x.sn x.sc, .slice x.pa x.pn x.pc, .slice x.ha x.hn x.hc, .slice x.ba x.bn x.bc] 79)).alloc (.cells #[.int .i64 e0, .int .u64 (e1 : Nat)] 38) := ⟨_, rfl⟩
  have hB0 : Below w.heap.size w W := by rw [hW]; exact (Rows8.newB).alloc (by simp) _
  have r0 : Rows8 W w.heap.size 79 #[.slice x.sa x.sn x.sc, .slice x.pa x.pn x.pc, .slice x.ha x.hn x.hc, .slice x.ba x.bn x.bc] := by rw [hW]; exact (Rows8.new _ _ _).alloc _
  have r1 : Rows8 W (w.heap.size + 1) 38 #[.int .i64 e0, .int .u64 (e1 : Nat)] := by rw [hW]; exact rows_new2 _ _ _ _
  have c2 : W.cell? ⟨w.heap.size, 2, none⟩ = some (.slice x.ha x.hn x.hc) := r0.cell 2
  rw [hpa] at c2
  have cr0 : W.cell? ⟨b, off + g, none⟩ = some (.slice ar k cr) := (hB0.cell (p := ⟨b, off + g, none⟩) hb).trans hc
  have k0 : W.cell? ⟨w.heap.size + 1, 0, none⟩ = some (.int .i64 e0) := r1.cell 0
  have k1 : W.cell? ⟨w.heap.size + 1, 1, none⟩ = some (.int .u64 (e1 : Nat)) := r1.cell 1
  have HC := Lib.hid (Try.containsE_any ar k cr row (e0, e1) W.drew (hp.below hB0.drew))
  have HB0 := Lib.hid hB0
  have h0 : w.heap.size < W.heap.size := r0.lt
  have h1 : w.heap.size + 1 < W.heap.size := r1.lt
  have h2 : b < W.heap.size := by have := hB0.size; omega
  clear hM hg hz hk hrow hc hp hxl hB0 r0 r1 hpa hb
  dsimp only at HC
  generalize decide ((e0, e1) ∈ row) = z at *
  go_enter Try.func67, Try.ntmps67
  go_wp2_with fail
  rw [← hW]
  clear hW
  go_region_held3 (fun W' => W'.cell? ⟨w.heap.size, 2, none⟩ = some (.slice (some ⟨b, off, none⟩) x.hn x.hc) ∧ W'.cell? ⟨b, off + g, none⟩ = some (.slice ar k cr) ∧ W'.cell? ⟨w.heap.size + 1, 0, none⟩ = some (.int .i64 e0) ∧ W'.cell? ⟨w.heap.size + 1, 1, none⟩ = some (.int .u64 (e1 : Nat))) (first | exact ⟨c2, cr0, k0, k1⟩ | exact hkeep) (first
    | (go_at_call 25; refine HC.out.mono ?_; rintro r w2 ⟨rfl, hB2⟩; have HB2 := Lib.hid (HB0.out.drew.trans (hB2.mono HB0.out.size)); have hkeep := And.intro ((hB2.cell (p := ⟨w.heap.size, 2, none⟩) h0).trans c2) (And.intro ((hB2.cell (p := ⟨b, off + g, none⟩) h2).trans cr0) (And.intro ((hB2.cell (p := ⟨w.heap.size + 1, 0, none⟩) h1).trans k0) ((hB2.cell (p := ⟨w.heap.size + 1, 1, none⟩) h1).trans k1))); clear hB2))
  go_wp2_with fail
  go_ret
  exact ⟨rfl, HB2.out⟩
set_option maxHeartbeats 8000000 in
theorem Try.good_any (x : Mv) (m : Mn) (t : Wt) (w : World) (hM : MonAt w x m) (hg : 0 ≤ t.goer ∧ t.goer < m.has.length) :
    Calls Try.prog 49 #[.agg #[.slice x.sa x.sn x.sc, .slice x.pa x.pn x.pc, .slice x.ha x.hn x.hc, .slice x.ba x.bn x.bc], .agg #[.int .i64 t.kind, .int .i64 t.goer, .int .i64 t.slab, .int .u64 (t.gen : Nat)]] w fun r w' => r = .returned (.bool (goodM m t)) ∧ Below w.heap.size w w' := by
  obtain ⟨z, hz⟩ : ∃ z, z = goodM m t := ⟨_, rfl⟩
  rw [← hz]
  unfold goodM at hz
  obtain ⟨kd, gr, i, q⟩ := t
  dsimp only [Wt.ent] at hz hg ⊢
  obtain ⟨g, rfl⟩ : ∃ g : Nat, gr = g := ⟨gr.toNat, by omega⟩
  obtain ⟨W, hW⟩ : ∃ W, W = (w.alloc (.cells #[.slice x.sa x.sn x.sc, .slice x.pa x.pn x.pc, .slice x.ha x.hn x.hc, .slice x.ba x.bn x.bc] 79)).alloc (.cells #[.int .i64 kd, .int .i64 (g : Nat), .int .i64 i, .int .u64 (q : Nat)] 40) := ⟨_, rfl⟩
  have hB0 : Below w.heap.size w W := by rw [hW]; exact (Rows8.newB).alloc (by simp) _
  have r0 : Rows8 W w.heap.size 79 #[.slice x.sa x.sn x.sc, .slice x.pa x.pn x.pc, .slice x.ha x.hn x.hc, .slice x.ba x.bn x.bc] := by rw [hW]; exact (Rows8.new _ _ _).alloc _
  have r1 : Rows8 W (w.heap.size + 1) 40 #[.int .i64 kd, .int .i64 (g : Nat), .int .i64 i, .int .u64 (q : Nat)] := by rw [hW]; exact rows_new2 _ _ _ _
  have HH := Lib.hid (Try.has_any x m g (i, q) W (hM.below hB0) (by omega))
  have HT := fun (W : World) (h : MonAt W x m) => Lib.hid (Try.Tag_any x.sa x.sn x.sc m.sl (i, q) W h.s)
  have htg : (if rightA m.sl then tagA m.sl (i, q) else 0) = tagM m (i, q) := rfl
  rw [htg] at HT
  obtain ⟨tb, htb⟩ : ∃ b, b = (rightA m.sl && tagB m.sl (i, q)) := ⟨_, rfl⟩
  obtain ⟨zh, hzh⟩ : ∃ b, b = hasM m ((g : Nat) : Int) (i, q) := ⟨_, rfl⟩
  obtain ⟨tg, htg2⟩ : ∃ b, b = tagM m (i, q) := ⟨_, rfl⟩
  rw [← htb] at HT
  rw [← htg2] at HT hz
  rw [← hzh] at HH hz
  have HZ := Lib.hid hz
  have HM0 := Lib.hid (hM.below hB0)
  have HB0 := Lib.hid hB0
  have HR0 := Lib.hid r0
  have HR1 := Lib.hid r1
  have c0 : W.cell? ⟨w.heap.size, 0, none⟩ = some (.slice x.sa x.sn x.sc) := r0.cell 0
  have c1 : W.cell? ⟨w.heap.size, 1, none⟩ = some (.slice x.pa x.pn x.pc) := r0.cell 1
  have c2 : W.cell? ⟨w.heap.size, 2, none⟩ = some (.slice x.ha x.hn x.hc) := r0.cell 2
  have c3 : W.cell? ⟨w.heap.size, 3, none⟩ = some (.slice x.ba x.bn x.bc) := r0.cell 3
  have k1 : W.cell? ⟨w.heap.size + 1, 1, none⟩ = some (.int .i64 (g : Nat)) := r1.cell 1
  have k2 : W.cell? ⟨w.heap.size + 1, 2, none⟩ = some (.int .i64 i) := r1.cell 2
  have k3 : W.cell? ⟨w.heap.size + 1, 3, none⟩ = some (.int .u64 (q : Nat)) := r1.cell 3
  clear hz htg htb hzh htg2 hB0 r0 r1 hM hg
  go_enter Try.func49, Try.ntmps49
  go_wp2_with fail
  rw [← hW]
  clear hW
  refine HH.out.mono ?_
  rintro r W1 ⟨rfl, hB1⟩
  have HR2 := Lib.hid (HR0.out.below hB1 HR0.out.lt)
  have HR3 := Lib.hid (HR1.out.below hB1 HR1.out.lt)
  have HM1 := Lib.hid (HM0.out.below hB1)
  have HB1 := Lib.hid (HB0.out.trans (hB1.mono HB0.out.size))
  have b0 : W1.cell? ⟨w.heap.size, 0, none⟩ = some (.slice x.sa x.sn x.sc) := HR2.out.cell 0
  have k2 : W1.cell? ⟨w.heap.size + 1, 2, none⟩ = some (.int .i64 i) := HR3.out.cell 2
  have k3 : W1.cell? ⟨w.heap.size + 1, 3, none⟩ = some (.int .u64 (q : Nat)) := HR3.out.cell 3
  clear hB1 c0 c1 c2 c3 k1
  cases zh with
  | false =>
    have hzz : Hid (z = false) := Lib.hid (by rw [HZ.out]; rfl)
    go_wp2_with fail
    go_ret
    exact ⟨by rw [hzz.out]; rfl, HB1.out⟩
  | true =>
    go_wp2_with fail
    refine (HT W1 HM1.out).out.mono ?_
    rintro r W2 ⟨rfl, hB2⟩
    have HR4 := Lib.hid (HR3.out.below hB2 HR3.out.lt)
    have HB2 := Lib.hid (HB1.out.trans (hB2.mono HB1.out.size))
    have k0 : W2.cell? ⟨w.heap.size + 1, 0, none⟩ = some (.int .i64 kd) := HR4.out.cell 0
    clear hB2 b0 k2 k3
    by_cases h1 : tg = 1
    · subst h1
      have hzz : Hid (z = true) := Lib.hid (by rw [HZ.out]; rfl)
      go_wp2_with fail
      go_ret
      exact ⟨by rw [hzz.out]; rfl, HB2.out⟩
    · have h1b : (tg == 1) = false := by simp [h1]
      by_cases h2 : tg = 2
      · subst h2
        by_cases h4 : kd = 4
        · subst h4
          have hzz : Hid (z = true) := Lib.hid (by rw [HZ.out]; rfl)
          clear h1
          go_wp2_with fail
          go_ret
          exact ⟨by rw [hzz.out]; rfl, HB2.out⟩
        · have h4b : (kd == 4) = false := by simp [h4]
          have hzz : Hid (z = false) := Lib.hid (by rw [HZ.out]; unfold goodT; simp [h4])
          clear h1 h4
          go_wp2_with fail
          go_ret
          exact ⟨by rw [hzz.out]; rfl, HB2.out⟩
      · have h2b : (tg == 2) = false := by simp [h2]
        have hzz : Hid (z = false) := Lib.hid (by rw [HZ.out]; unfold goodT; simp [h1, h2])
        clear h1 h2
        go_wp2_with fail
        go_ret
        exact ⟨by rw [hzz.out]; rfl, HB2.out⟩
end Go.Proofs
