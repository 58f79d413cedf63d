/- Mutexes: the maths of what may be, and their rows. -/
import Derived.Test.YtliecdpgajchbaaMa
namespace Go.Proofs
open Go.RowKit Go.Shelf
attribute [local go_sem] Oper.semAt_some

structure Mx where
  own : Int
  q : List Int
deriving DecidableEq, Inhabited
def goerB (g : Int) : Bool := decide (0 ≤ g ∧ g ≤ 7)
def flatQ (l : List Mx) : List Int := l.flatMap Mx.q
def manyB (l : List Mx) (g : Int) : Nat := (flatQ l).count g
def okB (m : Mx) : Bool := decide (0 ≤ m.own ∧ m.own ≤ 8 ∧ (m.own = 0 → m.q.length = 0))
def elB (l : List Mx) (m : Mx) (g : Int) : Bool := goerB g && !(decide (g + 1 = m.own)) && decide (manyB l g = 1)
def oneB (l : List Mx) (m : Mx) : Bool := okB m && m.q.all (elB l m)
def rightB (l : List Mx) : Bool := decide (1 ≤ l.length ∧ l.length ≤ 160) && l.all (oneB l)
/-- The same, in turn. -/
def seqQ (o : Int) : List Int → List Int → Bool
  | _, [] => true
  | seen, g :: t => goerB g && !(decide (g + 1 = o)) && !(decide (g ∈ seen)) && seqQ o (g :: seen) t
def seqL : List Int → List Mx → Bool
  | _, [] => true
  | seen, m :: t => okB m && seqQ m.own seen m.q && seqL (m.q.reverse ++ seen) t

theorem seqQ_iff (o : Int) (seen q : List Int) : seqQ o seen q = true ↔ (∀ g ∈ q, goerB g = true ∧ g + 1 ≠ o) ∧ q.Nodup ∧ ∀ g ∈ q, g ∉ seen := by
  induction q generalizing seen with
  | nil => simp [seqQ]
  | cons g t ih =>
    simp only [seqQ, Bool.and_eq_true, ih, Bool.not_eq_true', decide_eq_false_iff_not, List.nodup_cons, List.mem_cons, forall_eq_or_imp, not_or]
    constructor
    · rintro ⟨⟨⟨h1, h2⟩, h3⟩, h4, h5, h6⟩
      exact ⟨⟨⟨h1, h2⟩, h4⟩, ⟨fun h => (h6 g h).1 rfl, h5⟩, h3, fun x hx => (h6 x hx).2⟩
    · rintro ⟨⟨⟨h1, h2⟩, h4⟩, ⟨h5, h6⟩, h3, h7⟩
      exact ⟨⟨⟨h1, h2⟩, h3⟩, h4, h6, fun x hx => ⟨fun e => h5 (e ▸ hx), h7 x hx⟩⟩
theorem seqL_iff (seen : List Int) (l : List Mx) : seqL seen l = true ↔ (∀ m ∈ l, okB m = true ∧ ∀ g ∈ m.q, goerB g = true ∧ g + 1 ≠ m.own) ∧ (flatQ l).Nodup ∧ ∀ g ∈ flatQ l, g ∉ seen := by
  induction l generalizing seen with
  | nil => simp [seqL, flatQ]
  | cons m t ih =>
    have e : flatQ (m :: t) = m.q ++ flatQ t := by simp [flatQ]
    rw [e]
    simp only [seqL, Bool.and_eq_true, ih, seqQ_iff, List.mem_cons, forall_eq_or_imp, List.nodup_append, List.mem_append, List.mem_reverse, not_or]
    constructor
    · rintro ⟨⟨h1, h2, h3, h4⟩, h5, h6, h7⟩
      exact ⟨⟨⟨h1, h2⟩, h5⟩, ⟨h3, h6, fun x hx y hy e => (h7 y hy).1 (e ▸ hx)⟩, fun g hg => hg.elim (h4 g) (fun h => (h7 g h).2)⟩
    · rintro ⟨⟨⟨h1, h2⟩, h5⟩, ⟨h3, h6, h8⟩, h9⟩
      exact ⟨⟨h1, h2, h3, fun g hg => h9 g (.inl hg)⟩, h5, h6, fun g hg => ⟨fun h => h8 g h g hg rfl, h9 g (.inr hg)⟩⟩
theorem mem_flatQ {l : List Mx} {g : Int} : g ∈ flatQ l ↔ ∃ m ∈ l, g ∈ m.q := by simp [flatQ]
theorem many_nodup (l : List Mx) : (∀ g ∈ flatQ l, manyB l g = 1) ↔ (flatQ l).Nodup := by
  rw [List.nodup_iff_count]
  unfold manyB
  constructor
  · intro h a
    by_cases ha : a ∈ flatQ l
    · exact Nat.le_of_eq (h a ha)
    · rw [List.count_eq_zero.2 ha]; omega
  · intro h g hg
    have := h g
    have := List.count_pos_iff.2 hg
    omega
theorem all_iff (l : List Mx) : l.all (oneB l) = true ↔ (∀ m ∈ l, okB m = true ∧ ∀ g ∈ m.q, goerB g = true ∧ g + 1 ≠ m.own) ∧ (flatQ l).Nodup := by
  rw [← many_nodup]
  simp only [List.all_eq_true, oneB, elB, Bool.and_eq_true, Bool.not_eq_true', decide_eq_false_iff_not, decide_eq_true_eq]
  constructor
  · intro h
    refine ⟨fun m hm => ⟨(h m hm).1, fun g hg => ((h m hm).2 g hg).1⟩, fun g hg => ?_⟩
    obtain ⟨m, hm, hq⟩ := mem_flatQ.1 hg
    exact ((h m hm).2 g hq).2
  · rintro ⟨h1, h2⟩ m hm
    exact ⟨(h1 m hm).1, fun g hg => ⟨(h1 m hm).2 g hg, h2 g (mem_flatQ.2 ⟨m, hm, hg⟩)⟩⟩
theorem seqL_all (l : List Mx) : seqL [] l = l.all (oneB l) := by
  rw [Bool.eq_iff_iff, seqL_iff, all_iff]
  simp
theorem rightB_iff (l : List Mx) : rightB l = true ↔ (1 ≤ l.length ∧ l.length ≤ 160) ∧ (∀ m ∈ l, okB m = true ∧ ∀ g ∈ m.q, goerB g = true ∧ g + 1 ≠ m.own) ∧ (flatQ l).Nodup := by
  unfold rightB
  rw [Bool.and_eq_true, all_iff, decide_eq_true_eq]
def errB (l : List Mx) : Int := if rightB l = true then 0 else 150

/-- For which mutex a goroutine waits. -/
def waitI (g : Int) : List Mx → Nat → Int
  | [], _ => -1
  | m :: t, k => if g ∈ m.q then (k : Int) else waitI g t (k + 1)
def waitsB (l : List Mx) (g : Int) : Int := waitI g l 0
theorem waitI_le (g : Int) (l : List Mx) (k : Nat) : waitI g l k = -1 ∨ ((k : Int) ≤ waitI g l k ∧ waitI g l k < k + l.length) := by
  induction l generalizing k with
  | nil => exact .inl rfl
  | cons m t ih =>
    unfold waitI
    split
    · refine .inr ⟨Int.le_refl _, ?_⟩
      simp
      omega
    · rcases ih (k + 1) with h | h
      · exact .inl h
      · refine .inr ⟨by omega, ?_⟩
        simp
        omega
theorem waitI_none (g : Int) (l : List Mx) (k : Nat) : waitI g l k = -1 ↔ g ∉ flatQ l := by
  induction l generalizing k with
  | nil => simp [waitI, flatQ]
  | cons m t ih =>
    have e : flatQ (m :: t) = m.q ++ flatQ t := by simp [flatQ]
    unfold waitI
    rw [e]
    split
    · rename_i h
      simp [h]
    · rename_i h
      rw [ih]
      simp [h]
theorem waitI_at (g : Int) (l : List Mx) (k : Nat) (i : Nat) (h : waitI g l k = ((k + i : Nat) : Int)) : ∃ hi : i < l.length, g ∈ (l[i]).q := by
  induction l generalizing k i with
  | nil =>
    simp [waitI] at h
    omega
  | cons m t ih =>
    unfold waitI at h
    split at h
    · rename_i hm
      obtain rfl : i = 0 := by omega
      exact ⟨by simp, hm⟩
    · cases i with
      | zero =>
        rcases waitI_le g t (k + 1) with h2 | h2 <;> omega
      | succ i =>
        obtain ⟨hi, hg⟩ := ih (k + 1) i (by rw [h]; congr 1; omega)
        exact ⟨by simpa using hi, by simpa using hg⟩
theorem waitsB_none {l : List Mx} {g : Int} : waitsB l g = -1 ↔ g ∉ flatQ l := waitI_none g l 0
theorem waitsB_at {l : List Mx} {g : Int} {i : Nat} (h : waitsB l g = (i : Int)) : ∃ hi : i < l.length, g ∈ (l[i]).q := waitI_at g l 0 i (by rw [Nat.zero_add]; exact h)
theorem waitsB_le (l : List Mx) (g : Int) : waitsB l g = -1 ∨ (0 ≤ waitsB l g ∧ waitsB l g < l.length) := by
  have h := waitI_le g l 0
  unfold waitsB
  simpa using h

/-- A row of mutexes. -/
def MxAt (W : World) (v : Value) (ms : List Mx) : Prop := ∃ vs : List Value, RowAt W v ms.length 2 vs ∧ ∀ i (h : i < ms.length), ∃ a cap, vs[i * 2]? = some (.int .i64 ms[i].own) ∧ vs[i * 2 + 1]? = some (.slice a ms[i].q.length cap) ∧ IntsAt W (.slice a ms[i].q.length cap) ms[i].q
theorem MxAt.below {W W' : World} {v : Value} {ms : List Mx} (h : MxAt W v ms) (hB : Below W.heap.size W W') : MxAt W' v ms := by
  obtain ⟨vs, h1, h2⟩ := h
  exact ⟨vs, RowAt.below h1 hB, fun i hi => by obtain ⟨a, cap, e, e2, hc⟩ := h2 i hi; exact ⟨a, cap, e, e2, RowAt.below hc hB⟩⟩
theorem mxAt_get {W : World} {x : Option Addr} {n cap : Nat} {ms : List Mx} (h : MxAt W (.slice x n cap) ms) (j : Nat) (hj : j < ms.length) :
    ∃ b off a c, x = some ⟨b, off, none⟩ ∧ b < W.heap.size ∧ W.cell? ⟨b, off + j * 2, none⟩ = some (.int .i64 ms[j].own) ∧ W.cell? ⟨b, off + j * 2 + 1, none⟩ = some (.slice a ms[j].q.length c) ∧ IntsAt W (.slice a ms[j].q.length c) ms[j].q := by
  obtain ⟨vs, h1, h2⟩ := h
  obtain ⟨a, c, e, e2, hc⟩ := h2 j hj
  obtain ⟨h0, a', cap', e', _, _, _, h4⟩ := h1
  cases e'
  obtain ⟨b, off, ex, hb, h5⟩ := h4 (j * 2) (by omega)
  obtain ⟨b', off', ex', _, h6⟩ := h4 (j * 2 + 1) (by omega)
  rw [ex] at ex'
  cases ex'
  exact ⟨b, off, a, c, ex, hb, h5.trans e, by rw [Nat.add_assoc]; exact h6.trans e2, hc⟩
theorem mxAt_len {W : World} {x : Option Addr} {n cap : Nat} {ms : List Mx} (h : MxAt W (.slice x n cap) ms) : n = ms.length ∧ n ≤ cap ∧ cap ≤ maxLen := by
  obtain ⟨vs, h1, _⟩ := h
  obtain ⟨_, a', cap', e', h2, h3, _⟩ := h1
  cases e'
  exact ⟨rfl, h2, h3⟩
theorem ints_len {W : World} {x : Option Addr} {n cap : Nat} {ws : List Int} (h : IntsAt W (.slice x n cap) ws) : n = ws.length ∧ n ≤ cap ∧ cap ≤ maxLen := by
  obtain ⟨_, a', cap', e', h2, h3, _⟩ := h
  cases e'
  exact ⟨rfl, h2, h3⟩
theorem mxAt_none (W : World) : MxAt W (.slice none 0 0) [] := ⟨[], ⟨rfl, none, 0, rfl, Nat.le_refl _, Nat.zero_le _, fun _ => rfl, fun _ hj => absurd hj (Nat.not_lt_zero _)⟩, fun _ hi => absurd hi (Nat.not_lt_zero _)⟩
theorem mx_form {W : World} {v : Value} {ms : List Mx} (h : MxAt W v ms) : ∃ a cap, v = .slice a ms.length cap := by
  obtain ⟨vs, ⟨_, a, cap, e, _⟩, _⟩ := h
  exact ⟨a, cap, e⟩

theorem Try.goer_any (g : Int) (w : World) : Calls Try.prog 32 #[.int .i64 g] w fun e w' => e = .returned (.bool (goerB g)) ∧ w = w' := by
  unfold goerB
  by_cases h1 : 0 ≤ g
  · by_cases h2 : g ≤ 7
    · rw [decide_eq_true ⟨h1, h2⟩]
      go_enter Try.func32, Try.ntmps32
      go_wp2
      go_ret
      exact ⟨rfl, rfl⟩
    · have h3 : ¬ (0 ≤ g ∧ g ≤ 7) := by omega
      rw [decide_eq_false h3]
      go_enter Try.func32, Try.ntmps32
      go_wp2
      go_ret
      exact ⟨rfl, rfl⟩
  · have h3 : ¬ (0 ≤ g ∧ g ≤ 7) := by omega
    rw [decide_eq_false h3]
    go_enter Try.func32, Try.ntmps32
    go_wp2
    go_ret
    exact ⟨rfl, rfl⟩
theorem Try.noGoer_any (g : Int) (w : World) : Calls Try.prog 38 #[.int .i64 g] w fun e w' => e = .returned (.bool (!goerB g)) ∧ w = w' := by
  unfold goerB
  by_cases h1 : g < 0
  · have h3 : ¬ (0 ≤ g ∧ g ≤ 7) := by omega
    rw [decide_eq_false h3]
    go_enter Try.func38, Try.ntmps38
    go_wp2
    go_ret
    exact ⟨rfl, rfl⟩
  · by_cases h2 : 8 ≤ g
    · have h3 : ¬ (0 ≤ g ∧ g ≤ 7) := by omega
      rw [decide_eq_false h3]
      go_enter Try.func38, Try.ntmps38
      go_wp2
      go_ret
      exact ⟨rfl, rfl⟩
    · have h3 : (0 ≤ g ∧ g ≤ 7) := by omega
      rw [decide_eq_true h3]
      go_enter Try.func38, Try.ntmps38
      go_wp2
      go_ret
      exact ⟨rfl, rfl⟩
end Go.Proofs
