/- Monitor: maths; what a monitor is in memory. -/
import Derived.Test.YtkghlcoancfnfaaBc
namespace Go.Proofs
open Go.RowKit Go.Shelf
attribute [local go_sem] Oper.semAt_some

def touchB (k : Int) : Bool := decide (k = 4 ∨ k = 5)
def entB (e : Pr) : Bool := decide (0 ≤ e.1 ∧ e.1 < 128 ∧ e.2 ≤ 1099511627775)
theorem entB_iff {e : Pr} : entB e = true ↔ 0 ≤ e.1 ∧ e.1 < 128 ∧ e.2 ≤ 1099511627775 := by unfold entB; simp
theorem entB_wf {e : Pr} (h : entB e = true) : wfE e := by
  have := entB_iff.1 h
  unfold wfE
  omega
def oneB (n : Nat) (g : Int) : Bool := decide (0 ≤ g ∧ g < n)
def goersM (n : Int) : Bool := decide (1 ≤ n ∧ n ≤ 8)
/-- Nothing in a row is wrong, behind what came ahead of it. -/
def fitRow {α : Type} (bad : List α → α → Bool) : List α → List α → Bool
  | _, [] => true
  | pre, x :: l => !bad pre x && fitRow bad (pre ++ [x]) l
def fitFrom {α : Type} (bad : Nat → List α → α → Bool) : Nat → List (List α) → Bool
  | _, [] => true
  | n, l :: L => fitRow (bad n) [] l && fitFrom bad (n + 1) L
structure Mn where
  sl : List Pr
  pin : List Bool
  has : List (List Pr)
  bad : List Wt
  deriving DecidableEq
def badH (m : Mn) (n : Nat) (pre : List Pr) (x : Pr) : Bool := !(m.pin[n]?.getD false) || !entB x || decide (x ∈ pre)
def badT (m : Mn) (_ : Nat) (_ : List Wt) (x : Wt) : Bool := !touchB x.kind || !oneB m.pin.length x.goer || !entB x.ent
def rightM (m : Mn) : Bool := rightA m.sl && (goersM m.pin.length && (decide (m.has.length = m.pin.length) && (decide (m.bad.length ≤ 16) && (fitFrom (badH m) 0 m.has && fitFrom (badT m) 0 [m.bad]))))

/-- The four rows of a monitor. -/
structure Mv where
  sa : Option Addr
  sn : Nat
  sc : Nat
  pa : Option Addr
  pn : Nat
  pc : Nat
  ha : Option Addr
  hn : Nat
  hc : Nat
  ba : Option Addr
  bn : Nat
  bc : Nat
/-- Rows of entries, in a row. -/
def HasAt (W : World) (v : Value) (L : List (List Pr)) : Prop := ∃ vs : List Value, RowAt W v L.length 1 vs ∧ ∀ i (h : i < L.length), ∃ a c, vs[i]? = some (.slice a L[i].length c) ∧ PAt W (.slice a L[i].length c) L[i]
theorem HasAt.below {W W' : World} {v : Value} {L : List (List Pr)} (h : HasAt W v L) (hB : Below W.heap.size W W') : HasAt W' v L := by
  obtain ⟨vs, h1, h2⟩ := h
  exact ⟨vs, h1.below hB, fun i hi => by obtain ⟨a, c, e, h3⟩ := h2 i hi; exact ⟨a, c, e, h3.below hB⟩⟩
theorem hasAt_len {W : World} {x : Option Addr} {n cap : Nat} {L : List (List Pr)} (h : HasAt W (.slice x n cap) L) : n = L.length ∧ n ≤ cap ∧ cap ≤ maxLen := by
  obtain ⟨vs, ⟨h0, a, c, e, h1, h2, _⟩, _⟩ := h
  cases e
  exact ⟨rfl, h1, h2⟩
theorem hasAt_get {W : World} {x : Option Addr} {n cap : Nat} {L : List (List Pr)} (h : HasAt W (.slice x n cap) L) (j : Nat) (hj : j < L.length) :
    ∃ b off a c, x = some ⟨b, off, none⟩ ∧ b < W.heap.size ∧ W.cell? ⟨b, off + j, none⟩ = some (.slice a L[j].length c) ∧ PAt W (.slice a L[j].length c) L[j] := by
  obtain ⟨vs, ⟨h0, a, cap', e, _, _, _, hc⟩, h2⟩ := h
  cases e
  obtain ⟨b, off, e, hb, g⟩ := hc j (by omega)
  obtain ⟨a, c, e2, h3⟩ := h2 j hj
  exact ⟨b, off, a, c, e, hb, g.trans e2, h3⟩
/-- A monitor in memory, of no great rows. -/
structure MonAt (W : World) (x : Mv) (m : Mn) : Prop where
  s : PAt W (.slice x.sa x.sn x.sc) m.sl
  p : BAt W (.slice x.pa x.pn x.pc) m.pin
  h : HasAt W (.slice x.ha x.hn x.hc) m.has
  b : WAt W (.slice x.ba x.bn x.bc) m.bad
  w : ∀ l ∈ m.has, ∀ e ∈ l, wfE e
  z : m.sl.length ≤ 1000 ∧ m.pin.length ≤ 1000 ∧ m.has.length ≤ 1000 ∧ m.bad.length ≤ 1000 ∧ ∀ l ∈ m.has, l.length ≤ 9000
theorem MonAt.below {W W' : World} {x : Mv} {m : Mn} (h : MonAt W x m) (hB : Below W.heap.size W W') : MonAt W' x m := ⟨h.s.below hB, RowAt.below h.p hB, h.h.below hB, h.b.below hB, h.w, h.z⟩
theorem MonAt.lens {W : World} {x : Mv} {m : Mn} (h : MonAt W x m) : x.sn = m.sl.length ∧ x.pn = m.pin.length ∧ x.hn = m.has.length ∧ x.bn = m.bad.length := ⟨(pAt_len h.s).1, (bAt_len h.p).1, (hasAt_len h.h).1, (wAt_len h.b).1⟩

set_option maxHeartbeats 1000000 in
theorem Try.isEntry_any (e : Pr) (w : World) : Calls Try.prog 78 #[.agg #[.int .i64 e.1, .int .u64 (e.2 : Nat)]] w fun r w' => r = .returned (.bool (entB e)) ∧ Below w.heap.size w w' := by
  obtain ⟨t, g⟩ := e
  dsimp only
  obtain ⟨b, hb⟩ : ∃ b, b = entB (t, g) := ⟨_, rfl⟩
  rw [← hb]
  unfold entB at hb
  dsimp only at hb
  have HB := Lib.hid hb
  have hB0 : Below w.heap.size w (w.alloc (.cells #[.int .i64 t, .int .u64 (g : Nat)] 38)) := Rows8.newB
  clear hb
  have hd : decide (0 ≤ t ∧ t < 128 ∧ g ≤ 1099511627775) = (decide (0 ≤ t) && (decide (t < 128) && decide (g ≤ 1099511627775))) := by simp
  have hdI : decide (((g : Nat) : Int) ≤ 1099511627775) = decide (g ≤ 1099511627775) := by simp; omega
  have HD := Lib.hid hd
  have HDI := Lib.hid hdI
  clear hd hdI
  by_cases h1 : 0 ≤ t
  · by_cases h2 : t < 128
    · by_cases h4 : ((g : Nat) : Int) ≤ 1099511627775
      · have h3 : Hid (b = true) := Lib.hid (by rw [HB.out, decide_eq_true_eq]; omega)
        go_enter Try.func78, Try.ntmps78
        go_wp2
        go_ret
        exact ⟨by rw [h3.out]; first | rfl | simp [h1, h2, h4], hB0⟩
      · have h3 : Hid (b = false) := Lib.hid (by rw [HB.out, decide_eq_false_iff_not]; omega)
        go_enter Try.func78, Try.ntmps78
        go_wp2
        go_ret
        exact ⟨by rw [h3.out]; first | rfl | simp [h1, h2, h4], hB0⟩
    · have h3 : Hid (b = false) := Lib.hid (by rw [HB.out, decide_eq_false_iff_not]; omega)
      go_enter Try.func78, Try.ntmps78
      go_wp2
      go_ret
      exact ⟨by rw [h3.out]; first | rfl | simp [h1, h2], hB0⟩
  · have h3 : Hid (b = false) := Lib.hid (by rw [HB.out, decide_eq_false_iff_not]; omega)
    go_enter Try.func78, Try.ntmps78
    go_wp2
    go_ret
    exact ⟨by rw [h3.out]; first | rfl | simp [h1], hB0⟩
theorem Try.mayHaveM_any (n : Int) (w : World) : Calls Try.prog 53 #[.int .i64 n] w fun e w' => e = .returned (.bool (goersM n)) ∧ w' = w := by
  obtain ⟨b, hb⟩ : ∃ b, b = goersM n := ⟨_, rfl⟩
  rw [← hb]
  unfold goersM at hb
  have HB := Lib.hid hb
  clear hb
  by_cases h1 : 1 ≤ n
  · by_cases h2 : n ≤ 8
    · have h3 : Hid (b = true) := Lib.hid (by rw [HB.out]; simp; omega)
      go_enter Try.func53, Try.ntmps53
      go_wp2
      go_ret
      exact ⟨by rw [h3.out]; first | rfl | simp [h1, h2], rfl⟩
    · have h3 : Hid (b = false) := Lib.hid (by rw [HB.out]; simp; omega)
      go_enter Try.func53, Try.ntmps53
      go_wp2
      go_ret
      exact ⟨by rw [h3.out]; first | rfl | simp [h1, h2], rfl⟩
  · have h3 : Hid (b = false) := Lib.hid (by rw [HB.out]; simp; omega)
    go_enter Try.func53, Try.ntmps53
    go_wp2
    go_ret
    exact ⟨by rw [h3.out]; first | rfl | simp [h1], rfl⟩
theorem Try.isTouch_any (n : Int) (w : World) : Calls Try.prog 47 #[.int .i64 n] w fun e w' => e = .returned (.bool (touchB n)) ∧ w' = w := by
  by_cases h1 : n = 4
  · subst h1
    go_enter Try.func47, Try.ntmps47
    go_wp2
    go_ret
    exact ⟨rfl, rfl⟩
  · have h1b : (n == 4) = false := by simp [h1]
    by_cases h2 : n = 5
    · subst h2
      go_enter Try.func47, Try.ntmps47
      go_wp2
      go_ret
      exact ⟨rfl, rfl⟩
    · have h2b : (n == 5) = false := by simp [h2]
      have h3 : Hid (touchB n = false) := Lib.hid (by unfold touchB; simp [h1, h2])
      generalize touchB n = b at *
      clear h1 h2
      go_enter Try.func47, Try.ntmps47
      go_wp2
      go_ret
      exact ⟨by rw [h3.out]; rfl, rfl⟩
def asksB (n : Int) : Bool := decide (n ≠ 1 ∧ n ≠ 2 ∧ n ≠ 6)
theorem Try.asks_any (n : Int) (w : World) : Calls Try.prog 85 #[.int .i64 n] w fun e w' => e = .returned (.bool (asksB n)) ∧ w' = w := by
  by_cases h1 : n = 1
  · subst h1
    go_enter Try.func85, Try.ntmps85
    go_wp2
    go_ret
    exact ⟨rfl, rfl⟩
  · have h1b : (n != 1) = true := by simp [h1]
    by_cases h2 : n = 2
    · subst h2
      go_enter Try.func85, Try.ntmps85
      go_wp2
      go_ret
      exact ⟨rfl, rfl⟩
    · have h2b : (n != 2) = true := by simp [h2]
      by_cases h4 : n = 6
      · subst h4
        go_enter Try.func85, Try.ntmps85
        go_wp2
        go_ret
        exact ⟨rfl, rfl⟩
      · have h4b : (n != 6) = true := by simp [h4]
        have h3 : Hid (asksB n = true) := Lib.hid (by unfold asksB; simp [h1, h2, h4])
        generalize asksB n = b at *
        clear h1 h2 h4
        go_enter Try.func85, Try.ntmps85
        go_wp2
        go_ret
        exact ⟨by rw [h3.out]; rfl, rfl⟩
set_option maxHeartbeats 1000000 in
theorem Try.isOne_any (x : Mv) (n : Int) (w : World) : Calls Try.prog 48 #[.agg #[.slice x.sa x.sn x.sc, .slice x.pa x.pn x.pc, .slice x.ha x.hn x.hc, .slice x.ba x.bn x.bc], .int .i64 n] w fun e w' => e = .returned (.bool (oneB x.pn n)) ∧ Below w.heap.size w w' := by
  have hB0 : Below w.heap.size w (w.alloc (.cells #[.slice x.sa x.sn x.sc, .slice x.pa x.pn x.pc, .slice x.ha x.hn x.hc, .slice x.ba x.bn x.bc] 79)) := Rows8.newB
  obtain ⟨b, hb⟩ : ∃ b, b = oneB x.pn n := ⟨_, rfl⟩
  rw [← hb]
  unfold oneB at hb
  have HB := Lib.hid hb
  clear hb
  by_cases h1 : 0 ≤ n
  · by_cases h2 : n < (x.pn : Nat)
    · have h3 : Hid (b = true) := Lib.hid (by rw [HB.out]; simp; omega)
      go_enter Try.func48, Try.ntmps48
      go_wp2
      go_ret
      exact ⟨by rw [h3.out]; first | rfl | simp [h1, h2], hB0⟩
    · have h3 : Hid (b = false) := Lib.hid (by rw [HB.out]; simp; omega)
      go_enter Try.func48, Try.ntmps48
      go_wp2
      go_ret
      exact ⟨by rw [h3.out]; first | rfl | simp [h1, h2], hB0⟩
  · have h3 : Hid (b = false) := Lib.hid (by rw [HB.out]; simp; omega)
    go_enter Try.func48, Try.ntmps48
    go_wp2
    go_ret
    exact ⟨by rw [h3.out]; first | rfl | simp [h1], hB0⟩
end Go.Proofs
