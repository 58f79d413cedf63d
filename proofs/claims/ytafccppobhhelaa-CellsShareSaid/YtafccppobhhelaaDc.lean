/- Do of a thing that has cells, and what it leaves alone. -/
import Derived.Test.YtafccppobhhelaaDb
namespace Go.Proofs
open Go.RowKit Go.Shelf
attribute [local go_sem] Oper.semAt_some

def SDoF (n₀ : Nat) (ws : List Int) (B g cap : Nat) (who kind pl old new : Int) (w : World) (e : Ending) (w' : World) : Prop :=
  (why ws.length who kind pl ≠ 0 ∧ e = .returned (.tuple #[.agg #[.int .u64 0, .bool false], .int .i64 (why ws.length who kind pl)]) ∧ Below w.heap.size w w') ∨
  (why ws.length who kind pl = 0 ∧ e = .returned (.tuple #[.agg #[.int .u64 (ws[pl.toNat]?.getD 0), .bool (doneOf kind old (ws[pl.toNat]?.getD 0))], .int .i64 0]) ∧ Shr n₀ (wordsOf ws kind pl old new) B g cap w' ∧ Below n₀ w w' ∧ ∀ C t cs, Rows8 w C t cs → g ≠ C → Rows8 w' C t cs)

set_option maxRecDepth 100000 in
set_option maxHeartbeats 4000000 in
theorem Try.sDoF_any (n₀ : Nat) (ws : List Int) (B g cap : Nat) (who kind pl old new : Int) (w : World) (hn : n₀ ≤ w.heap.size) (hS : Shr n₀ ws B g cap w) :
    Calls Try.prog 38 #[.pointer (some ⟨B, 0, none⟩), .agg #[.int .i64 who, .int .i64 kind, .int .i64 pl, .int .u64 old, .int .u64 new]] w (SDoF n₀ ws B g cap who kind pl old new w) := by
  have hnil : ∀ (a : Addr) (W : World), (binOp .eql 58 (.pointer (some a)) (.pointer none)).run Try.prog W = .ok (.bool false) W := fun _ _ => rfl
  have b0 := Rows8.new w 32 #[.int .i64 who, .int .i64 kind, .int .i64 pl, .int .u64 old, .int .u64 new]
  have b1 := Rows8.new (w.alloc (.cells #[.int .i64 who, .int .i64 kind, .int .i64 pl, .int .u64 old, .int .u64 new] 32)) 27 #[.int .u64 0, .bool false]
  have b0' := b0.alloc (.cells #[.int .u64 0, .bool false] 27)
  have hB0 : Below w.heap.size w ((w.alloc (.cells #[.int .i64 who, .int .i64 kind, .int .i64 pl, .int .u64 old, .int .u64 new] 32)).alloc (.cells #[.int .u64 0, .bool false] 27)) := ((Below.refl _ w).alloc (Nat.le_refl _) _).alloc (by simp) _
  rw [World.size_alloc] at b1
  have hS0 := hS.keep hB0 (Nat.le_refl _)
  have hwr := Try.wrong_any ws.length who kind pl old new
  have hgl := hS.lt.2
  have hbl := hS.blk.lt
  have HW := Lib.hid (fun h => why_ok (n := ws.length) (who := who) (kind := kind) (pl := pl) h)
  have hdo : ∀ W, Shr n₀ ws B g cap W → why ws.length who kind pl = 0 → Calls Try.prog 66 #[.agg #[.int .i64 who, .int .i64 kind, .int .i64 pl, .int .u64 old, .int .u64 new, .iface 126 (.pointer (some ⟨g, pl.toNat, none⟩))]] W fun e w' =>
      e = .returned (.agg #[.int .u64 (ws[pl.toNat]?.getD 0), .bool (doneOf kind old (ws[pl.toNat]?.getD 0))]) ∧ (∀ B t cs, Rows8 W B t cs → g ≠ B → Rows8 w' B t cs) ∧ Shr n₀ (wordsOf ws kind pl old new) B g cap w' ∧ (∀ W1, n₀ ≤ W.heap.size → Below n₀ W1 W → Below n₀ W1 w') := by
    intro W h hz
    obtain ⟨k1, k2, k3, k4, k5, k6⟩ := why_ok hz
    have hl : pl.toNat < ws.length := by omega
    refine (Try.do_any _ _ g pl.toNat (.inr ⟨rfl, rfl⟩) (ws[pl.toNat]?.getD 0) who kind pl old new ⟨k3, k4⟩ W h.lt.2 (h.cell _ hl) (World.ownsRow.frozenAt h.own _)).mono ?_
    rintro e w' ⟨rfl, hB⟩
    exact ⟨rfl, fun B t cs hR hne => after_rows hB hR hne, h.after ⟨k3, k4⟩ hl hB, fun W1 hn1 h1 => after_below h.lt.1 hn1 h1 hB⟩
  unfold SDoF
  generalize why ws.length who kind pl = q at *
  generalize wordsOf ws kind pl old new = ws' at *
  generalize ws[pl.toNat]?.getD 0 = h at *
  generalize doneOf kind old h = dn at *
  have HWR := Lib.hid hwr
  have HDO := Lib.hid hdo
  clear hwr hdo hS
  go_enter Try.func38, Try.ntmps38
  go_wp2_with fail
  generalize ((w.alloc (.cells #[.int .i64 who, .int .i64 kind, .int .i64 pl, .int .u64 old, .int .u64 new] 32)).alloc (.cells #[.int .u64 0, .bool false] 27)) = W0 at *
  have hbc := hS0.blk.cell 0
  obtain ⟨l0, l1, l2, l3, l4⟩ := five b0'
  simp at hbc
  have HS0 := Lib.hid hS0
  clear hS0 b0
  go_still_tail 6, (by kernel_rfl)
  change wpList _ _ _ _ _ W0.drew
  go_wp2_with fail
  refine (HWR.out _).mono ?_
  rintro e W1 ⟨rfl, hB1⟩
  have hB2 : Below w.heap.size w W1 := hB0.drew.trans (hB1.mono hB0.size)
  have c0 : Rows8 W1 w.heap.size 32 #[.int .i64 who, .int .i64 kind, .int .i64 pl, .int .u64 old, .int .u64 new] := Rows8.below (A := W0.drew) b0' hB1 b0'.lt
  have c1 : Rows8 W1 (w.heap.size + 1) 27 #[.int .u64 0, .bool false] := Rows8.below (A := W0.drew) b1 hB1 b1.lt
  have hS1 : Shr n₀ ws B g cap W1 := Shr.keep (A := W0.drew) ⟨HS0.out.blk, HS0.out.own, HS0.out.le⟩ hB1 (Nat.le_refl _)
  clear b0' b1 hB0 hB1 HS0 hbc l0 l1 l2 l3 l4 HWR
  have hbc := hS1.blk.cell 0
  obtain ⟨l0, l1, l2, l3, l4⟩ := five c0
  have s0 := c1.cell 0
  have s1 := c1.cell 1
  have f0 := c1.frozen 0
  have f1 := c1.frozen 1
  simp at hbc s0 s1
  have HS1 := Lib.hid hS1
  clear hS1
  by_cases hz : q = 0
  · subst hz
    obtain ⟨k1, k2, k3, k4, k5, k6⟩ := HW.out rfl
    have hd : ((0 : Int) != 0) = false := rfl
    have hpp : 0 ≤ pl ∧ pl < (ws.length : Int) := ⟨k5, k6⟩
    go_wp2_with fail
    go_still_tail 10, (by kernel_rfl)
    change wpList _ _ _ _ _ W1.drew
    have hc1' : Rows8 W1.drew (w.heap.size + 1) 27 #[.int .u64 0, .bool false] := c1
    have hSd : Shr n₀ ws B g cap W1.drew := ⟨HS1.out.blk, HS1.out.own, HS1.out.le⟩
    have hB3 := hB2.drew
    clear c0 c1 s0 s1 f0 f1 l0 l1 l2 l3 l4 hbc HS1 hB2
    generalize W1.drew = W2 at *
    have HSD := Lib.hid hSd
    clear hSd
    go_wp2_with fail
    refine (HDO.out _ HSD.out trivial).mono ?_
    rintro e W3 ⟨rfl, hR, hSh, hBl⟩
    have c1 := hR _ _ _ hc1' (by omega)
    have hB4 := hBl w (Nat.le_trans hn hB3.size) (hB3.mono hn)
    have s0 := c1.cell 0
    have s1 := c1.cell 1
    have f0 := c1.frozen 0
    have f1 := c1.frozen 1
    simp at s0 s1
    have hSe := (hSh.setOther (a := ⟨w.heap.size + 1, 0, none⟩) (by simp; omega) (by simp; omega) (.int .u64 h)).setOther (a := ⟨w.heap.size + 1, 1, none⟩) (by simp; omega) (by simp; omega) (.bool dn)
    have HSE := Lib.hid hSe
    have hB5 := (hB4.setCell (p := ⟨w.heap.size + 1, 0, none⟩) (by simp; omega) (.int .u64 h)).setCell (p := ⟨w.heap.size + 1, 1, none⟩) (by simp; omega) (.bool dn)
    have HB5 := Lib.hid hB5
    have cE := c1.set2 (.int .u64 h) (.bool dn)
    have HCE := Lib.hid cE
    have hRR : ∀ C t cs, Rows8 w C t cs → g ≠ C → Rows8 ((W3.setCell ⟨w.heap.size + 1, 0, none⟩ (.int .u64 h)).setCell ⟨w.heap.size + 1, 1, none⟩ (.bool dn)) C t cs := fun C t cs hC hne => ((hR _ _ _ (hC.below hB3 hC.lt) hne).setOther (a := ⟨w.heap.size + 1, 0, none⟩) (by have := hC.lt; simp; omega) _).setOther (a := ⟨w.heap.size + 1, 1, none⟩) (by have := hC.lt; simp; omega) _
    have HRR := Lib.hid hRR
    clear hRR hR hSh hBl hSe hB5 cE hB4 hB3 hc1' HDO HSD
    go_wp2_with fail
    refine bodyPost_ret (results_ct rfl _ _ (w.heap.size + 1) 27 _ (0, 0) _ rfl HCE.out Try.underlying27 rfl (by kernel_rfl)) rfl ?_
    exact ⟨rfl, HSE.out, HB5.out, HRR.out⟩
  · have hd : (q != 0) = true := by simp [hz]
    have cE := c1.set2 (.int .u64 0) (.bool false)
    go_wp2_with fail
    refine bodyPost_ret (results_ct rfl _ _ (w.heap.size + 1) 27 _ (0, 0) _ rfl cE Try.underlying27 rfl (by kernel_rfl)) rfl ?_
    exact .inl ⟨hz, rfl, (hB2.setCell (p := ⟨w.heap.size + 1, 0, none⟩) (by simp) _).setCell (p := ⟨w.heap.size + 1, 1, none⟩) (by simp) _⟩
end Go.Proofs
