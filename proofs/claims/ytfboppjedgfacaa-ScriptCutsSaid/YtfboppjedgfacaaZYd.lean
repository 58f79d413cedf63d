/- Script: what wakes asks, call by call. -/
import Derived.Test.YtfboppjedgfacaaZYb
import Derived.Test.YtfboppjedgfacaaZUc
namespace Go.Proofs
set_option maxRecDepth 100000
open Go.RowKit Go.Shelf
attribute [local go_sem] Oper.semAt_some

theorem bytesOf_small : ∀ ns : List Int, (∀ n ∈ ns, 0 ≤ n ∧ n < 128) → bytesOf ns = ns
  | [], _ => rfl
  | n :: ns, h => by
    have h1 := h n (by simp)
    have h2 := bytesOf_small ns fun m hm => h m (List.mem_cons_of_mem _ hm)
    unfold bytesOf at h2 ⊢
    rw [List.flatMap_cons, h2, numB_small (by omega)]
    simp
    omega
def b11 : List Int := [1, 2, 5, 2, 2, 7, 9, 7, 2, 0, 1]
theorem nums1 : scrNums scr1 = b11 := by decide
theorem bytes1 : bytesOf (scrNums scr1) = b11 := by rw [nums1]; exact bytesOf_small _ (by decide)
theorem scr1_ok : scr1.ok := by refine ⟨by decide, by decide, by decide⟩
theorem scr1_may : mayBeB scr1 = true := by decide
theorem scr1_wf : scr1.wf := by
  refine ⟨by decide, by decide, by unfold W64; decide, ?_, ?_⟩
  · intro l hl c hc
    unfold Cl4.wf W64
    simp [scr1] at hl
    subst hl
    simp at hc
    rcases hc with rfl | rfl <;> decide
  · intro p hp
    unfold W64
    simp [scr1] at hp
    rcases hp with rfl | rfl <;> decide
/-- A script that was read is one. -/
theorem read_wf {s : Scr} (hm : mayBeB s = true) (h1 : W64 s.seed) (h2 : ∀ l ∈ s.lists, ∀ c ∈ l, c.wf) (h3 : ∀ p ∈ s.picks, W64 p) : s.wf := by
  rw [mayBeB_eq, Bool.and_eq_true, Bool.and_eq_true] at hm
  have hm1 := of_decide_eq_true hm.1
  refine ⟨?_, ?_, h1, h2, h3⟩
  · simp [Lit.wf, IntKind.min, IntKind.max, IntKind.bits, IntKind.signed]; omega
  · simp [Lit.wf, IntKind.min, IntKind.max, IntKind.bits, IntKind.signed]; omega
/-- Of a script's bytes but the last some nothing is read. -/
theorem decP_short {s : Scr} (hm : mayBeB s = true) (hw : s.wf) {bs more : List Int} (hb : bytesOf (scrNums s) = bs ++ more) (hmore : more ≠ []) : decP bs = none := by
  cases h : decP bs with
  | none => rfl
  | some p =>
    obtain ⟨t, r⟩ := p
    obtain ⟨t1, t2, t3, t4, t5⟩ := decP_back h
    have a1 := decP_app hm hw []
    have a2 := decP_app t1 (read_wf t1 t2 t3 t4) (r ++ more)
    rw [← List.append_assoc, ← t5, ← hb] at a2
    rw [List.append_nil] at a1
    rw [a1] at a2
    simp at a2
    exact absurd a2.2.2 hmore
theorem read1 : decP (b11 ++ [99]) = some (scr1, [99]) := by rw [← bytes1]; exact decP_app scr1_may scr1_wf [99]
theorem read1_no : decP [1, 2, 5, 2, 2, 7, 9, 7, 2, 0] = none := decP_short scr1_may scr1_wf (more := [1]) bytes1 (by simp)
theorem allBytes_of {l : List Int} (h : l.all (fun z => decide (0 ≤ z ∧ z < 256)) = true) : AllBytes l := fun x hx => of_decide_eq_true (List.all_eq_true.1 h x hx)
theorem all11 : AllBytes b11 := allBytes_of (by decide)
theorem num300 : numB 300 = [172, 2] := by rw [numB_big (by decide), numB_small (by decide)]; decide
theorem Try.wkEncode (w : World) (v : Value) (h : ScrAt w v scr1) : Calls Try.prog 23 #[v] w fun e w' => ∃ a c, e = .returned (.tuple #[.slice a 11 c, .int .i64 0]) ∧ OwnsBytes w.heap.size b11 (.slice a 11 c) w' ∧ Below w.heap.size w w' :=
  (Try.Encode_yes v scr1 scr1_ok scr1_wf scr1_may w h).mono fun e w' ⟨u, he, ho, hb⟩ => by
    rw [bytes1] at ho
    obtain ⟨_, a, c, rfl, _⟩ := rowAt_own ho
    exact ⟨a, c, he, ho, hb⟩
theorem bytesAt_addr {W : World} {a : Option Addr} {n c : Nat} {l : List Int} (h : BytesAt W (.slice a n c) l) (h0 : 0 < l.length) : ∀ b off, a = some ⟨b, off, none⟩ → b < W.heap.size := fun b off e => by
  obtain ⟨b2, o2, e2, hb, _⟩ := bytesAt_get h 0 h0
  rw [e] at e2
  cases e2
  exact hb
theorem Try.wkDecode (w : World) (a : Option Addr) (c : Nat) (h : BytesAt w (.slice a 12 c) (b11 ++ [99])) : Calls Try.prog 26 #[.slice a 12 c] w fun e w' => ∃ al cl ap cp, e = .returned (.tuple #[.agg #[.int .i64 1, .int .i64 2, .int .u64 5, .slice al 1 cl, .slice ap 2 cp], .int .i64 11, .int .i64 0]) ∧ ScrAt w' (.agg #[.int .i64 1, .int .i64 2, .int .u64 5, .slice al 1 cl, .slice ap 2 cp]) scr1 ∧ Below w.heap.size w w' := by
  refine (Try.Decode_any a 12 c (b11 ++ [99]) rfl (by decide) (allBytes_of (by decide)) w h (bytesAt_addr h (by decide))).mono ?_
  rintro e w' ⟨hb, (⟨s, r, vl, vp, h1, rfl, h2, h3⟩ | ⟨h1, _⟩)⟩
  · rw [read1] at h1
    injection h1 with h1
    injection h1 with h1 h4
    subst h1 h4
    have hA := h2.at
    obtain ⟨vs, hv, hr⟩ := hA
    have hv' := hv
    obtain ⟨_, al, cl, rfl, _⟩ := hv
    have hp := rowAt_own h3
    have hp' := hp
    obtain ⟨_, ap, cp, rfl, _⟩ := hp
    exact ⟨al, cl, ap, cp, rfl, ⟨al, cl, ap, cp, rfl, ⟨vs, hv', hr⟩, hp'⟩, hb⟩
  · rw [read1] at h1; cases h1
theorem Try.wkDecodeNo (w : World) (a : Option Addr) (c : Nat) (h : BytesAt w (.slice a 10 c) [1, 2, 5, 2, 2, 7, 9, 7, 2, 0]) : Calls Try.prog 26 #[.slice a 10 c] w fun e w' => e = .returned (.tuple #[.agg #[.int .i64 0, .int .i64 0, .int .u64 0, .slice none 0 0, .slice none 0 0], .int .i64 0, .int .i64 131]) ∧ Below w.heap.size w w' := by
  refine (Try.Decode_any a 10 c _ rfl (by decide) (allBytes_of (by decide)) w h (bytesAt_addr h (by decide))).mono ?_
  rintro e w' ⟨hb, (⟨s, r, vl, vp, h1, _⟩ | ⟨_, rfl⟩)⟩
  · rw [read1_no] at h1; cases h1
  · exact ⟨rfl, hb⟩
theorem Try.wkNumber (w : World) : Calls Try.prog 21 #[.int .u64 300] w fun e w' => ∃ a c, e = .returned (.slice a 2 c) ∧ OwnsBytes w.heap.size [172, 2] (.slice a 2 c) w' ∧ Below w.heap.size w w' :=
  (Try.Number_any 300 (by decide) w).mono fun e w' ⟨v, he, ho, hb⟩ => by
    rw [num300] at ho
    obtain ⟨_, a, c, rfl, _⟩ := rowAt_own ho
    exact ⟨a, c, he, ho, hb⟩
theorem Try.wkKeys (w : World) (v : Value) (h : ScrAt w v scr1) : Calls Try.prog 18 #[v] w fun e w' => ∃ a c, e = .returned (.slice a 1 c) ∧ OwnsWords w.heap.size [7] (.slice a 1 c) w' ∧ Below w.heap.size w w' :=
  (Try.Keys_any 12 Try.sortOk12 (by decide) v scr1 scr1_ok scr1_wf (by decide) w h).mono fun e w' ⟨xs, u, he, hr, hm, ho, hb⟩ => by
    have e7 : xs = [7] := rising_eq xs [7] hr (by simp [Rising]) fun z => by rw [hm z, show keysLs scr1.lists = [7] by decide]
    subst e7
    obtain ⟨_, a, c, rfl, _⟩ := rowAt_own ho
    exact ⟨a, c, he, ho, hb⟩
end Go.Proofs
