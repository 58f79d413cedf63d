/- Limbo: spoil. -/
import Derived.Test.YtghnfiegihfdnaaDoorLse
namespace Go.Proofs
set_option maxRecDepth 100000
open Go.RowKit Go.Shelf
attribute [local go_sem] Oper.semAt_some

/-- One Gen of an owned piece is another one. -/
theorem ownE_gen {n₀ : Nat} {q : List Pr} {a : Option Addr} {n c : Nat} {W : World} (h : OwnE n₀ q (.slice a n c) W) (j : Nat) (hj : j < q.length) : ∃ g o cs, a = some ⟨g, o, none⟩ ∧ n₀ ≤ g ∧ Rows8 W g tE cs ∧ W.cell? ⟨g, o + j * 2 + 1, none⟩ = some (.int .u64 ((q[j]).2 : Nat)) ∧ (Value.slice a n c).ownBlock = some g ∧
    ∀ y : Nat, OwnE n₀ (q.set j ((q[j]).1, y)) (.slice a n c) (W.setCell ⟨g, o + j * 2 + 1, none⟩ (.int .u64 (y : Nat))) := by
  have hat := h.at
  obtain ⟨b, off, ea, _, _, c1⟩ := pAt_get hat j hj
  rcases h with ⟨e, rfl⟩ | ⟨g, o, c', cs, e, h0, hR, hl, hm, hz, hc⟩
  · simp at hj
  · injection e with e1 e2 e3
    subst e1 e3
    injection ea with ea
    injection ea with eb eo
    subst eb eo
    refine ⟨g, o, cs, rfl, h0, hR, c1, rfl, fun y => .inr ⟨g, o, c, cs.setIfInBounds (o + j * 2 + 1) (.int .u64 (y : Nat)), by rw [List.length_set, e2], h0, hR.set _ _, by rw [List.length_set]; exact hl, hm, by simpa using hz, fun i hi => ?_⟩⟩
    rw [List.length_set] at hi
    rw [pVals_set1 q j hj, List.getElem?_set]
    by_cases hij : j * 2 + 1 = i
    · subst hij
      rw [if_pos rfl, if_pos (by rw [pVals_length]; omega), show o + (j * 2 + 1) = o + j * 2 + 1 by omega, Array.getElem?_setIfInBounds_self, if_pos (by omega)]
    · rw [if_neg hij, Array.getElem?_setIfInBounds_ne (by omega)]
      exact hc i hi
/-- All stays but what a limbo's rows own. -/
def SpK (s : Ls) (A B : World) : Prop := A.heap.size ≤ B.heap.size ∧ ∀ b, (∀ k, k < 3 → (s.v k).ownBlock ≠ some b) → b < A.heap.size → B.heap[b]? = A.heap[b]?
theorem SpK.set {s : Ls} {A B : World} (h : SpK s A B) {k g : Nat} (hk : k < 3) (e : (s.v k).ownBlock = some g) (o : Nat) (x : Value) : SpK s A (B.setCell ⟨g, o, none⟩ x) :=
  ⟨by simpa [World.setCell] using h.1, fun b hb hl => (Below.heap_setCell B ⟨g, o, none⟩ x b (fun e2 => hb k hk (by rw [e]; exact congrArg some e2.symm))).trans (h.2 b hb hl)⟩
theorem SpK.of {s : Ls} {A B : World} (h : Below A.heap.size A B) : SpK s A B := ⟨h.size, fun b _ hl => h.block b hl⟩
theorem LO.spk {n₁ : Nat} {r : Rw3} {s u : Ls} {A B : World} (h : LO n₁ r u A) (hS : SpK s A B) (hn : ∀ k j, k < 3 → (s.v k).ownBlock = some j → j < n₁) : LO n₁ r u B :=
  ⟨fun i hi => (h.1 i hi).kept fun m em => hS.2 m (fun k hk e => by have h1 := hn k m hk e; have h2 := ((h.1 i hi).lt m em).1; omega) ((h.1 i hi).lt m em).2, h.2⟩
theorem Rows8.spk {B : Nat} {t : TypeId} {cs : Array Value} {s : Ls} {W W' : World} (h : Rows8 W B t cs) (hS : SpK s W W') (hn : ∀ k j, k < 3 → (s.v k).ownBlock = some j → j < B) : Rows8 W' B t cs :=
  (hS.2 B (fun k hk e => Nat.lt_irrefl _ (hn k B hk e)) h.lt).trans h
theorem lo_gen {n₀ : Nat} {r : Rw3} {s : Ls} {W : World} (h : LO n₀ r s W) (k : Nat) (hk : k < 3) (j : Nat) (hj : j < (r k).length) : ∃ g o cs, s.a k = some ⟨g, o, none⟩ ∧ n₀ ≤ g ∧ (s.v k).ownBlock = some g ∧ Rows8 W g tE cs ∧ W.cell? ⟨g, o + j * 2 + 1, none⟩ = some (.int .u64 (((r k)[j]).2 : Nat)) ∧
    ∀ y : Nat, LO n₀ (updL r k ((r k).set j (((r k)[j]).1, y))) s (W.setCell ⟨g, o + j * 2 + 1, none⟩ (.int .u64 (y : Nat))) := by
  obtain ⟨g, o, cs, ea, hg, hR, c1, hb, hs⟩ := ownE_gen (show OwnE n₀ (r k) (.slice (s.a k) (s.n k) (s.c k)) W from h.1 k hk) j hj
  refine ⟨g, o, cs, ea, hg, hb, hR, c1, fun y => ⟨fun i hi => ?_, h.2⟩⟩
  by_cases e : i = k
  · subst e
    rw [updL_self]
    exact hs y
  · rw [updL_ne _ _ e]
    refine (h.1 i hi).kept fun m em => Below.heap_setCell W ⟨g, _, none⟩ _ m (fun e2 => ?_)
    have e3 : m = g := e2
    rcases h.2 i k hi hk e with h1 | h1
    · rw [h1] at em; cases em
    · exact h1 (by rw [em, e3]; exact hb.symm)
set_option maxHeartbeats 8000000 in
theorem Tryd.spoil_any (E : Nat) (s : Ls) (r : Rw3) (n₀ : Nat) (w : World) (h : LO n₀ r s w) (hn : n₀ ≤ w.heap.size) :
    Calls Tryd.prog 28 #[.agg #[.int .u64 (E : Nat), .slice (s.a 0) (s.n 0) (s.c 0), .slice (s.a 1) (s.n 1) (s.c 1), .slice (s.a 2) (s.n 2) (s.c 2)]] w fun e w' => e = .returned (.tuple #[]) ∧ Below n₀ w w' ∧ SpK s w w' := by
  have HK : Hid (Rows8 (w.alloc (.cells #[.int .u64 (E : Nat), .slice (s.a 0) (s.n 0) (s.c 0), .slice (s.a 1) (s.n 1) (s.c 1), .slice (s.a 2) (s.n 2) (s.c 2)] 26)) w.heap.size 26 #[.int .u64 (E : Nat), .slice (s.a 0) (s.n 0) (s.c 0), .slice (s.a 1) (s.n 1) (s.c 1), .slice (s.a 2) (s.n 2) (s.c 2)]) := Lib.hid (Rows8.new _ _ _)
  have hB0 : Below w.heap.size w (w.alloc (.cells #[.int .u64 (E : Nat), .slice (s.a 0) (s.n 0) (s.c 0), .slice (s.a 1) (s.n 1) (s.c 1), .slice (s.a 2) (s.n 2) (s.c 2)] 26)) := Rows8.newB
  have HB : Hid (Below n₀ w (w.alloc (.cells #[.int .u64 (E : Nat), .slice (s.a 0) (s.n 0) (s.c 0), .slice (s.a 1) (s.n 1) (s.c 1), .slice (s.a 2) (s.n 2) (s.c 2)] 26))) := Lib.hid (hB0.mono hn)
  have HS0 : Hid (SpK s w (w.alloc (.cells #[.int .u64 (E : Nat), .slice (s.a 0) (s.n 0) (s.c 0), .slice (s.a 1) (s.n 1) (s.c 1), .slice (s.a 2) (s.n 2) (s.c 2)] 26))) := Lib.hid (SpK.of hB0)
  have HN : Hid (∃ r1 : Rw3, (∀ k, k < 3 → (r1 k).length = s.n k) ∧ LO n₀ r1 s (w.alloc (.cells #[.int .u64 (E : Nat), .slice (s.a 0) (s.n 0) (s.c 0), .slice (s.a 1) (s.n 1) (s.c 1), .slice (s.a 2) (s.n 2) (s.c 2)] 26))) := Lib.hid ⟨r, fun k hk => ((h.at.len k hk).1).symm, h.below hB0⟩
  have hln : ∀ k, k < 3 → s.n k ≤ 9223372036854775807 := fun k hk => (h.at.len k hk).2
  have HLN := Lib.hid hln
  clear hB0 h hln hn
  go_enter Tryd.func28, Tryd.ntmps28
  go_wp2_with fail
  generalize w.alloc (.cells #[.int .u64 (E : Nat), .slice (s.a 0) (s.n 0) (s.c 0), .slice (s.a 1) (s.n 1) (s.c 1), .slice (s.a 2) (s.n 2) (s.c 2)] 26) = W0 at *
  clear HK
  go_loopw [7] (fun j wr => ∃ k : Nat, k ≤ 3 ∧ j = .int .i64 k ∧ Hid (∃ r1 : Rw3, (∀ k, k < 3 → (r1 k).length = s.n k) ∧ LO n₀ r1 s wr) ∧ Hid (Below n₀ w wr) ∧ Hid (SpK s w wr)) (fun j _ => 3 - (intOf j).toNat)
  case atStart => exact ⟨0, by omega, rfl, HN, HB, HS0⟩
  case round =>
    clear HN HB HS0
    obtain ⟨k, hk, rfl, hN, hB, hS⟩ := hrel
    by_cases hlt : k < 3
    · have hki : (k : Int) < 3 := by omega
      have hki0 : (0 : Int) ≤ (k : Int) := by omega
      have hix := Tryd.index_rows s k hlt wr
      go_wp2_with fail
      go_loopw [12] (fun j wr => ∃ i : Nat, i ≤ s.n k ∧ j = .int .i64 i ∧ Hid (∃ r1 : Rw3, (∀ k, k < 3 → (r1 k).length = s.n k) ∧ LO n₀ r1 s wr) ∧ Hid (Below n₀ w wr) ∧ Hid (SpK s w wr)) (fun j _ => s.n k - (intOf j).toNat)
      case atStart => exact ⟨0, Nat.zero_le _, rfl, hN, hB, hS⟩
      case round =>
        clear hN hB hS
        obtain ⟨i, hi, rfl, hN, hB, hS⟩ := hrel
        by_cases hlt2 : i < s.n k
        · obtain ⟨r1, hl1, hO⟩ := hN.out
          have hij : i < (r1 k).length := by rw [hl1 k hlt]; exact hlt2
          obtain ⟨g, o, cs, ea, hg, hob, hR, c1, hs⟩ := lo_gen hO k hlt i hij
          have hn9 := HLN.out k hlt
          obtain ⟨nk, hnk⟩ : ∃ m, m = s.n k := ⟨_, rfl⟩
          obtain ⟨x, hx⟩ : ∃ x, x = ((r1 k)[i]).2 := ⟨_, rfl⟩
          rw [← hx] at c1
          obtain ⟨y, hy⟩ : ∃ y, y = (x + 1) % 18446744073709551616 := ⟨_, rfl⟩
          have hw : IntKind.u64.wrap (((x : Nat) : Int) + 1) = ((y : Nat) : Int) := by rw [IntKind.wrap_u64]; omega
          have hki2 : (i : Int) < (s.n k : Int) := by omega
          have hki02 : (0 : Int) ≤ (i : Int) := by omega
          have f9 := hR.frozen (o + i * 2 + 1)
          have l9 := hR.lt
          have hN2 : Hid (∃ r2 : Rw3, (∀ k, k < 3 → (r2 k).length = s.n k) ∧ LO n₀ r2 s (wr.setCell ⟨g, o + i * 2 + 1, none⟩ (.int .u64 (y : Nat)))) := Lib.hid ⟨_, fun m hm => by
            by_cases e : m = k
            · rw [e, updL_self, List.length_set]; exact hl1 k hlt
            · rw [updL_ne _ _ e]; exact hl1 m hm, hs y⟩
          have hB2 := Lib.hid (hB.out.setCell (p := ⟨g, o + i * 2 + 1, none⟩) hg (.int .u64 (y : Nat)))
          have hS2 := Lib.hid (hS.out.set hlt hob (o + i * 2 + 1) (.int .u64 (y : Nat)))
          clear hN hB hS hob hs hR hO hl1 hij hx hy hnk
          go_wp2_with fail
          exact ⟨⟨i + 1, by omega, by go_num, hN2, hB2, hS2⟩, by simp [intOf]; omega⟩
        · obtain ⟨nk, hnk⟩ : ∃ m, m = s.n k := ⟨_, rfl⟩
          have hki2 : ¬ (i : Int) < (s.n k : Int) := by omega
          go_wp2_with fail
          exact ⟨⟨k + 1, by omega, by go_num, hN, hB, hS⟩, by simp [intOf]; omega⟩
    · have hki : ¬ (k : Int) < 3 := by omega
      go_wp2_with fail
      go_end0
      exact ⟨rfl, hB.out, hS.out⟩
end Go.Proofs
