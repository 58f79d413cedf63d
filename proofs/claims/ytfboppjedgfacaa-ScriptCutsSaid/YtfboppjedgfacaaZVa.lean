/- Rows of words that are sorted in place: the row, Less. -/
import Derived.Test.YtfboppjedgfacaaZKa
import Derived.Sort.AssemblyPlain
import Derived.LoopN
namespace Go.Proofs
open Go.RowKit Go.Shelf
attribute [local go_sem] Oper.semAt_some

/-- Block B, of so many cells, begins with these words. -/
def SRow (W : World) (B cap : Nat) (d : Array Int) : Prop :=
  ∃ cs : Array Value, Rows8 W B 22 cs ∧ cs.size = cap ∧ d.size ≤ cap ∧ ∀ i, i < d.size → cs[i]? = some (.int .u64 d[i]!)
theorem SRow.lt {W : World} {B cap : Nat} {d : Array Int} (h : SRow W B cap d) : B < W.heap.size := let ⟨_, hR, _⟩ := h; hR.lt
theorem SRow.cell {W : World} {B cap : Nat} {d : Array Int} (h : SRow W B cap d) (i : Nat) (hi : i < d.size) : W.cell? ⟨B, i, none⟩ = some (.int .u64 d[i]!) := by
  obtain ⟨cs, hR, _, _, hc⟩ := h
  rw [Rows8.cell hR, hc i hi]
theorem SRow.frozen {W : World} {B cap : Nat} {d : Array Int} (h : SRow W B cap d) (i : Nat) : W.frozen? ⟨B, i, none⟩ = false := by
  obtain ⟨cs, hR, _⟩ := h
  exact Rows8.frozen hR i
theorem SRow.drew {W : World} {B cap : Nat} {d : Array Int} (h : SRow W B cap d) : SRow W.drew B cap d := h
theorem SRow.drewN {W : World} {B cap : Nat} {d : Array Int} (h : SRow W B cap d) (n : Nat) : SRow (W.drewN n) B cap d := by
  exact h
theorem SRow.set {W : World} {B cap : Nat} {d : Array Int} (h : SRow W B cap d) (i : Nat) (z : Int) (hi : i < d.size) : SRow (W.setCell ⟨B, i, none⟩ (.int .u64 z)) B cap (d.setIfInBounds i z) := by
  obtain ⟨cs, hR, h1, h2, h3⟩ := h
  refine ⟨cs.setIfInBounds i (.int .u64 z), Rows8.set hR i _, by simpa using h1, by simpa using h2, fun k hk => ?_⟩
  simp only [Array.size_setIfInBounds] at hk
  by_cases e : k = i
  · subst e
    rw [Array.getElem?_setIfInBounds_self, if_pos (by omega)]
    simp [hk]
  · rw [Array.getElem?_setIfInBounds_ne (fun e2 => e e2.symm), h3 k hk]
    have hk2 : k < (d.setIfInBounds i z).size := by simpa using hk
    rw [getElem!_pos d k hk, getElem!_pos _ k hk2, Array.getElem_setIfInBounds_ne _ (fun e2 => e e2.symm)]
theorem SRow.below {A W : World} {B cap h : Nat} {d : Array Int} (r : SRow A B cap d) (p : Below h A W) (h1 : B < h) : SRow W B cap d := by
  obtain ⟨cs, hR, h2⟩ := r
  exact ⟨cs, hR.below p h1, h2⟩
theorem size_swp (d : Array Int) (i j : Nat) : (Sort.swp d i j).size = d.size := by simp [Sort.swp]
theorem SRow.swp {W : World} {B cap : Nat} {d : Array Int} (h : SRow W B cap d) (i j : Nat) (hi : i < d.size) (hj : j < d.size) :
    SRow ((W.setCell ⟨B, i, none⟩ (.int .u64 d[j]!)).setCell ⟨B, j, none⟩ (.int .u64 d[i]!)) B cap (Sort.swp d i j) :=
  (h.set i d[j]! hi).set j d[i]! (by simpa using hj)
theorem grown_set (W : World) (B i : Nat) (v : Value) : W.grownBy (W.setCell ⟨B, i, none⟩ v) (some B) := by
  refine ⟨rfl, rfl, rfl, by simp [World.setCell], fun k hk hne => ?_⟩
  show (W.heap.modify B _)[k]? = _
  rw [Array.getElem?_modify, if_neg (fun e => hne (by rw [e]))]
theorem grown_set2 (W : World) (B i j : Nat) (u v : Value) : W.grownBy ((W.setCell ⟨B, i, none⟩ u).setCell ⟨B, j, none⟩ v) (some B) := (grown_set W B i u).trans (grown_set _ B j v)
theorem grown_drew' {A B : World} {r : Option Nat} (h : A.grownBy B r) : A.grownBy B.drew r := ⟨h.os, h.tape, h.output, h.size, h.block⟩
theorem grown_drewN (A : World) (n : Nat) (r : Option Nat) : A.grownBy (A.drewN n) r := ⟨rfl, rfl, rfl, Nat.le_refl _, fun _ _ _ => rfl⟩

set_option maxRecDepth 100000 in
set_option maxHeartbeats 1000000 in
theorem Try.isNaN_any (x : Int) (w : World) : Calls Try.prog 67 #[.int .u64 x] w fun e w' => e = .returned (.bool false) ∧ w = w' := by
  have hx : (x != x) = false := by simp
  go_enter Try.func67, Try.ntmps67
  go_wp2
  go_ret
  exact ⟨rfl, rfl⟩
def ltB (x y : Int) : Bool := decide (x < y)
set_option maxRecDepth 100000 in
set_option maxHeartbeats 1000000 in
theorem Try.less_any (x y : Int) (w : World) : Calls Try.prog 49 #[.int .u64 x, .int .u64 y] w fun e w' => e = .returned (.bool (ltB x y)) ∧ w = w' := by
  have hr : decide (x < y) = ltB x y := rfl
  generalize ltB x y = b at *
  go_enter Try.func49, Try.ntmps49
  go_wp2_with (go_at_call 67; refine (Try.isNaN_any _ _).mono ?_; rintro e w'' ⟨rfl, rfl⟩)
  go_ret
  exact ⟨rfl, rfl⟩
end Go.Proofs

/- insertionSort of rows of words. -/
namespace Go.Proofs
open Go.RowKit Go.Shelf
attribute [local go_sem] Oper.semAt_some

theorem size_insInner (lt : Int → Int → Bool) (a : Nat) : ∀ (j : Nat) (d : Array Int), (Sort.insInner lt a j d).size = d.size
  | 0, d => rfl
  | j + 1, d => by
    unfold Sort.insInner
    split
    · rw [size_insInner lt a j, size_swp]
    · rfl
theorem quiet_same {P : Program} {f : FuncId} {args : Array Value} {w : World} {n : Nat} {v : Value} (h : Calls P f args (w.drewN n) fun e w' => e = .returned v ∧ w.drewN n = w') : Calls P f args (w.drewN n) fun e w'' => e = .returned v ∧ ∃ m, w'' = w.drewN m :=
  h.mono fun _ _ ⟨he, hm⟩ => ⟨he, n, hm.symm⟩
set_option maxRecDepth 100000 in
set_option maxHeartbeats 4000000 in
theorem Try.insertionSort_any (B cap a b n cp : Nat) (d : Array Int) (hd : d.size ≤ 100000000) (hn : n = d.size) (ha : a ≤ b) (hb : b ≤ n) (w : World) (hS : SRow w B cap d) :
    Calls Try.prog 75 #[.slice (some ⟨B, 0, none⟩) n cp, .int .i64 (a : Int), .int .i64 (b : Int)] w fun e w' => e = .returned (.tuple #[]) ∧ SRow w' B cap (Sort.insertionSort ltB d a b) ∧ w.grownBy w' (some B) := by
  have HN := Lib.hid hn
  have hn' : n ≤ 100000000 := by omega
  have hmx : Try.prog.follows .mixedOrders = true := by kernel_rfl
  obtain ⟨r, hr⟩ : ∃ r, r = Sort.insertionSort ltB d a b := ⟨_, rfl⟩
  rw [← hr]
  have HR := Lib.hid hr
  clear hr hn hd
  have hS0 := Lib.hid hS
  clear hS
  go_enter Try.func75, Try.ntmps75
  go_wp2_with fail
  go_loopw [6] (fun i wr => ∃ (k : Nat) (dk : Array Int), i = .int .i64 (k : Int) ∧ a + 1 ≤ k ∧ k ≤ 100000002 ∧ Hid (Sort.insOuter ltB a b k dk = r) ∧ Hid (dk.size = n) ∧ Hid (SRow wr B cap dk) ∧ Hid (w.grownBy wr (some B))) (fun i _ => 100000003 - (intOf i).toNat)
  case atStart => exact ⟨a + 1, d, by go_num, Nat.le_refl _, by omega, Lib.hid HR.out.symm, Lib.hid HN.out.symm, hS0, Lib.hid (World.grownBy.refl _ _)⟩
  case round =>
    obtain ⟨k, dk, rfl, hk, hk2, hx, hsz, hS, hG⟩ := hrel
    by_cases hkb : k < b
    · have hki : (k : Int) < (b : Int) := by omega
      have hx2 : Hid (Sort.insOuter ltB a b (k + 1) (Sort.insInner ltB a k dk) = r) := Lib.hid (by rw [← hx.out, Sort.insOuter.eq_1 ltB a b k, if_pos hkb])
      obtain ⟨q, hq⟩ : ∃ q, q = Sort.insInner ltB a k dk := ⟨_, rfl⟩
      rw [← hq] at hx2
      have HQ := Lib.hid hq
      clear hq hx
      obtain ⟨we, rfl⟩ : ∃ x, x = wr := ⟨_, rfl⟩
      go_wp2_with fail
      go_loopw [7] (fun jv wr => ∃ (j : Nat) (dj : Array Int), jv = .int .i64 (j : Int) ∧ a ≤ j ∧ j ≤ k ∧ Hid (Sort.insInner ltB a j dj = q) ∧ Hid (dj.size = n) ∧ Hid (SRow wr B cap dj) ∧ Hid (w.grownBy wr (some B))) (fun jv _ => (intOf jv).toNat)
      case atStart => exact ⟨k, dk, rfl, by omega, Nat.le_refl _, Lib.hid HQ.out.symm, hsz, hS, hG⟩
      case round =>
        obtain ⟨j, dj, rfl, hj, hjk, hx3, hsz3, hS3, hG3⟩ := hrel
        by_cases hja : a < j
        · have hja1 : (a : Int) < (j : Int) := by omega
          have hj1 : 0 < j := by omega
          have c1 := hS3.out.cell j (by rw [hsz3.out]; omega)
          have c0 := hS3.out.cell (j - 1) (by rw [hsz3.out]; omega)
          have f1 := hS3.out.frozen j
          have f0 := hS3.out.frozen (j - 1)
          have hi1 : (j : Int) < (n : Int) := by omega
          have hi0 : (j : Int) - 1 < (n : Int) := by omega
          have hi2 : 0 ≤ (j : Int) - 1 := by omega
          cases hlt : ltB dj[j]! dj[j - 1]! with
          | true =>
            have hx4 : Hid (Sort.insInner ltB a (j - 1) (Sort.swp dj j (j - 1)) = q) := Lib.hid (by
              rw [← hx3.out]
              obtain ⟨m, rfl⟩ : ∃ m, j = m + 1 := ⟨j - 1, by omega⟩
              conv => rhs; unfold Sort.insInner
              rw [Nat.add_sub_cancel] at hlt ⊢
              rw [hlt, if_pos (by simp; omega)])
            have hS4 := Lib.hid (hS3.out.swp j (j - 1) (by rw [hsz3.out]; omega) (by rw [hsz3.out]; omega))
            have hsz4 : Hid ((Sort.swp dj j (j - 1)).size = n) := Lib.hid (by rw [size_swp]; exact hsz3.out)
            have hl := fun w => Try.less_any dj[j]! dj[j - 1]! w
            rw [hlt] at hl
            generalize dj[j]! = x at *
            generalize dj[j - 1]! = y at *
            clear hlt hx3 hsz3 hS3
            go_wp2_with fail
            go_quiet (first | (go_at_call 49; refine quiet_same (hl _)))
            go_wp2_with fail
            go_region
            all_goals go_wp2_with fail
            refine ⟨⟨j - 1, _, by go_num, by omega, by omega, hx4, hsz4, Lib.hid hS4.out, Lib.hid (hG3.out.trans ((grown_drewN _ _ _).trans (grown_set2 _ _ _ _ _ _)))⟩, by simp [intOf]; omega⟩
          | false =>
            have hx4 : Hid (dj = q) := Lib.hid (by
              rw [← hx3.out]
              obtain ⟨m, rfl⟩ : ∃ m, j = m + 1 := ⟨j - 1, by omega⟩
              conv => rhs; unfold Sort.insInner
              rw [Nat.add_sub_cancel] at hlt
              rw [hlt, if_neg (by simp)])
            have hl := fun w => Try.less_any dj[j]! dj[j - 1]! w
            rw [hlt] at hl
            generalize dj[j]! = x at *
            generalize dj[j - 1]! = y at *
            clear hlt hx3
            go_wp2_with fail
            go_quiet (first | (go_at_call 49; refine quiet_same (hl _)))
            go_wp2_with fail
            exact ⟨⟨k + 1, dj, by go_num, by omega, by omega, by rw [hx4.out]; exact hx2, hsz3, Lib.hid (hS3.out.drewN _), Lib.hid (hG3.out.trans (grown_drewN _ _ _))⟩, by simp [intOf]; omega⟩
        · have hja2 : decide ((a : Int) < (j : Int)) = false := by simp; omega
          obtain rfl : j = a := by omega
          have hx4 : Hid (dj = q) := Lib.hid (by
              rw [← hx3.out]
              cases j with
              | zero => rfl
              | succ m =>
                conv => rhs; unfold Sort.insInner
                rw [if_neg (by simp)])
          clear hx3
          go_wp2_with fail
          go_quiet (fail)
          go_wp2_with fail
          exact ⟨⟨k + 1, dj, by go_num, by omega, by omega, by rw [hx4.out]; exact hx2, hsz3, Lib.hid (hS3.out.drewN _), Lib.hid (hG3.out.trans (grown_drewN _ _ _))⟩, by simp [intOf]; omega⟩
    · go_wp2_with fail
      go_end0
      exact ⟨rfl, by have e : dk = r := by { rw [← hx.out, Sort.insOuter.eq_1, if_neg hkb] }
                     exact e ▸ hS.out, hG.out⟩
end Go.Proofs
