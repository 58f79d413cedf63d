/- The document's answers: what is open; edges; what is clear. -/
import Derived.Test.YtbipekpohocjdaaDoorGp
namespace Go.Proofs
open Go.RowKit Go.Shelf
attribute [local go_sem] Oper.semAt_some

def openS (z : Int) (s : Int × Int) : Bool := decide (s.1 ≤ z) && (decide (s.2 = 0) || decide (z < s.2))
def openB (l : List (Int × Int)) (z : Int) : Bool := l.any (openS z)
theorem openB_cons (s : Int × Int) (t : List (Int × Int)) (z : Int) : openB (s :: t) z = (openS z s || openB t z) := rfl
set_option maxRecDepth 100000 in
set_option maxHeartbeats 2000000 in
theorem Tryd.refOpen_any (z : Int) (x : Option Addr) (n cap : Nat) (l : List (Int × Int)) (w : World) (hI : PAt w (.slice x n cap) l) :
    Calls Tryd.prog 42 #[.slice x n cap, .int .i64 z] w fun e w' => e = .returned (.bool (openB l z)) ∧ Below w.heap.size w w' := by
  obtain ⟨hn, hnc, hcm⟩ := pAt_len hI
  have hreach : n ≤ maxLen := by omega
  unfold maxLen at hreach
  have HI := Lib.hid hI
  have HN := Lib.hid hn
  clear hI hn hnc hcm
  go_enter Tryd.func42, Tryd.ntmps42
  go_wp2
  go_loopw [9] (fun j wr => ∃ k : Nat, k ≤ n ∧ j = .int .i64 k ∧ Hid (openB l z = openB (l.drop k) z) ∧ Below w.heap.size w wr) (fun j _ => n - (intOf j).toNat)
  case atStart => exact ⟨0, Nat.zero_le _, rfl, Lib.hid rfl, Below.refl _ _⟩
  case round =>
    obtain ⟨k, hk, rfl, hx, hB⟩ := hrel
    by_cases hlt : k < n
    · have hkl : k < l.length := by rw [← HN.out]; exact hlt
      obtain ⟨b, off, rfl, hb, p0, p1⟩ := pAt_get (HI.out.below hB) k hkl
      have hd := hx.out
      rw [drop_next l k hkl, openB_cons] at hd
      rcases hs : l[k] with ⟨f, t⟩
      rw [hs] at p0 p1 hd
      dsimp only at p0 p1
      unfold openS at hd
      dsimp only at hd
      have hB1 : Below wr.heap.size wr (wr.alloc (.cells #[.int .i64 f, .int .i64 t] 39)) := Rows8.newB
      have hki : (k : Int) < (n : Int) := by omega
      have HB2 := Lib.hid (hB.trans (hB1.mono hB.size))
      clear hB1 hs hkl hB hx
      by_cases h1 : f ≤ z
      · by_cases h2 : t = 0
        · subst h2
          have q2 : ((0 : Int) == 0) = true := by simp
          have hr : Hid (openB l z = true) := Lib.hid (by rw [hd, decide_eq_true h1]; simp)
          clear hd
          go_wp2
          go_ret
          exact ⟨by rw [hr.out]; rfl, HB2.out⟩
        · have q2 : (t == 0) = false := by simp [h2]
          by_cases h3 : z < t
          · have hr : Hid (openB l z = true) := Lib.hid (by rw [hd, decide_eq_true h1, decide_eq_true h3]; simp)
            clear hd h2
            go_wp2
            go_ret
            exact ⟨by rw [hr.out]; rfl, HB2.out⟩
          · have hr : Hid (openB l z = openB (l.drop (k + 1)) z) := Lib.hid (by rw [hd, decide_eq_false h2, decide_eq_false h3]; simp)
            clear hd h2
            go_wp2
            exact ⟨⟨k + 1, by omega, by go_num, hr, HB2.out⟩, by simp [intOf]; omega⟩
      · have hr : Hid (openB l z = openB (l.drop (k + 1)) z) := Lib.hid (by rw [hd, decide_eq_false h1]; simp)
        clear hd
        go_wp2
        exact ⟨⟨k + 1, by omega, by go_num, hr, HB2.out⟩, by simp [intOf]; omega⟩
    · obtain rfl : k = n := by omega
      have hr : Hid (openB l z = false) := Lib.hid (by rw [hx.out, List.drop_of_length_le (Nat.le_of_eq HN.out.symm)]; rfl)
      clear hx
      go_wp2
      go_ret
      exact ⟨by rw [hr.out]; rfl, hB⟩

def intVals (ws : List Int) : List Value := ws.map fun z => Value.int .i64 z
theorem intVals_length (ws : List Int) : (intVals ws).length = ws.length := by simp [intVals]
theorem intVals_snoc (ws : List Int) (z : Int) : intVals (ws ++ [z]) = intVals ws ++ [.int .i64 z] := by simp [intVals]
def IntsAt (W : World) (v : Value) (ws : List Int) : Prop := RowAt W v ws.length 1 (intVals ws)
theorem ints_len {W : World} {x : Option Addr} {n cap : Nat} {l : List Int} (h : IntsAt W (.slice x n cap) l) : n = l.length ∧ n ≤ cap ∧ cap ≤ maxLen := by
  obtain ⟨h0, a, c, e, h1, h2, _⟩ := h
  cases e
  exact ⟨rfl, h1, h2⟩
theorem ints_get {W : World} {x : Option Addr} {n cap : Nat} {l : List Int} (h : IntsAt W (.slice x n cap) l) (j : Nat) (hj : j < l.length) :
    ∃ b off, x = some ⟨b, off, none⟩ ∧ b < W.heap.size ∧ W.cell? ⟨b, off + j, none⟩ = some (.int .i64 l[j]) := by
  obtain ⟨h0, a, cap', e, _, _, _, hc⟩ := h
  cases e
  obtain ⟨b, off, e, hb, g⟩ := hc j (by rw [intVals_length]; exact hj)
  exact ⟨b, off, e, hb, by rw [g]; simp [intVals, hj]⟩
theorem Tryd.infoInt : (Tryd.prog.info? 3).map (fun i => (i.zero, i.size, i.bytes)) = some (some (.int .i64 0), 1, 8) := by kernel_rfl
/-- Edges within two steps, and these. -/
def inE (f g : Int) (s : Int × Int) : List Int := [s.1, s.2].filter fun n => decide (f ≤ n ∧ n ≤ g)
def edgR (l : List (Int × Int)) (f g : Int) : List Int := [f, g] ++ l.flatMap (inE f g)
theorem edgR_snoc (l : List (Int × Int)) (s : Int × Int) (f g : Int) : edgR (l ++ [s]) f g = edgR l f g ++ inE f g s := by simp [edgR]
theorem inE_len (f g : Int) (s : Int × Int) : (inE f g s).length ≤ 2 := List.length_filter_le _ _
theorem edgR_len (l : List (Int × Int)) (f g : Int) : (edgR l f g).length ≤ 2 + 2 * l.length := by
  induction l using snoc_ind with
  | h0 => simp [edgR]
  | h1 l s ih =>
    have := inE_len f g s
    rw [edgR_snoc, List.length_append, List.length_append]
    simp only [List.length_cons, List.length_nil]
    omega
theorem inE_one {f g n : Int} {r : List Int} : ([n].filter fun n => decide (f ≤ n ∧ n ≤ g)) = if f ≤ n ∧ n ≤ g then [n] else [] := by
  by_cases h : f ≤ n ∧ n ≤ g <;> simp [h]
def addE (f g n : Int) (r : List Int) : List Int := if f ≤ n ∧ n ≤ g then r ++ [n] else r
theorem inE_two (f g : Int) (s : Int × Int) (r : List Int) : r ++ inE f g s = addE f g s.2 (addE f g s.1 r) := by
  unfold inE addE
  by_cases h1 : f ≤ s.1 ∧ s.1 ≤ g
  · by_cases h2 : f ≤ s.2 ∧ s.2 ≤ g
    · simp [h1, h2]
    · simp [h1, h2]
  · by_cases h2 : f ≤ s.2 ∧ s.2 ≤ g
    · simp [h1, h2]
    · simp [h1, h2]
end Go.Proofs
