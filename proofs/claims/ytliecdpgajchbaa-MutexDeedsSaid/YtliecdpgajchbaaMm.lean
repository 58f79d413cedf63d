/- Mutexes that the call owns. -/
import Derived.Test.YtliecdpgajchbaaMl
import Derived.ArgAppend
namespace Go.Proofs
open Go.RowKit Go.Shelf
attribute [local go_sem] Oper.semAt_some

theorem drew_own {W : World} {n₀ k n : Nat} {e : TypeId} {v : Value} {cs : List Value} (h : W.ownsRow n₀ e k v n cs) : W.drew.ownsRow n₀ e k v n cs := h
theorem Try.infoMx : (Try.prog.info? 53).map (fun i => (i.zero, i.size, i.bytes)) = some (some (.agg #[.int .i64 0, .slice none 0 0]), 2, 32) := by kernel_rfl

/-- A queue that lies in memory of the call's own: all of its block's, or the end of one, without room. -/
def OwnQ (n₀ : Nat) (q : List Int) (v : Value) (W : World) : Prop := OwnsInts n₀ q v W ∨
  ∃ g o cs, v = .slice (some ⟨g, o, none⟩) q.length q.length ∧ n₀ ≤ g ∧ Rows8 W g 3 cs ∧ q.length ≤ maxLen ∧ ∀ i, i < q.length → cs[o + i]? = some (.int .i64 (q[i]?.getD 0))
theorem OwnQ.at {n₀ : Nat} {q : List Int} {v : Value} {W : World} (h : OwnQ n₀ q v W) : IntsAt W v q := by
  rcases h with h | ⟨g, o, cs, rfl, hg, hR, hm, hc⟩
  · exact rowAt_own h
  · refine ⟨by rw [intVals_length, Nat.mul_one], some ⟨g, o, none⟩, q.length, rfl, Nat.le_refl _, hm, (fun e => by cases e), fun j hj => ⟨g, o, rfl, hR.lt, ?_⟩⟩
    rw [intVals_length] at hj
    rw [hR.cell, hc j hj, intVals_get q j hj]
theorem OwnQ.form {n₀ : Nat} {q : List Int} {v : Value} {W : World} (h : OwnQ n₀ q v W) : ∃ a c, v = .slice a q.length c ∧ q.length ≤ c ∧ c ≤ maxLen := by
  obtain ⟨_, a, c, h1, h2, h3, _⟩ := h.at
  exact ⟨a, c, h1, h2, h3⟩
theorem OwnQ.lt {n₀ : Nat} {q : List Int} {v : Value} {W : World} (h : OwnQ n₀ q v W) (j : Nat) (e : v.ownBlock = some j) : n₀ ≤ j ∧ j < W.heap.size := by
  rcases h with h | ⟨g, o, cs, rfl, hg, hR, hm, hc⟩
  · exact World.ownsRow.lt h j e
  · simp [Value.ownBlock] at e
    subst e
    exact ⟨hg, hR.lt⟩
theorem OwnQ.mono {n₀ n₁ : Nat} {q : List Int} {v : Value} {W : World} (h : OwnQ n₁ q v W) (hn : n₀ ≤ n₁) : OwnQ n₀ q v W := by
  rcases h with h | ⟨g, o, cs, h1, hg, h2⟩
  · exact .inl (owns_mono h hn)
  · exact .inr ⟨g, o, cs, h1, Nat.le_trans hn hg, h2⟩
/-- .. is kept where its block is. -/
theorem OwnQ.kept {n₀ : Nat} {q : List Int} {v : Value} {A B : World} {row : Option Nat} (h : OwnQ n₀ q v A) (hg : A.grownBy B row) (hne : v.ownBlock = none ∨ v.ownBlock ≠ row) : OwnQ n₀ q v B := by
  rcases h with h | ⟨g, o, cs, rfl, h0, hR, h2⟩
  · exact .inl (World.ownsRow.kept h hg hne)
  · refine .inr ⟨g, o, cs, rfl, h0, (hg.block g hR.lt (fun e => ?_)).trans hR, h2⟩
    rcases hne with h | h
    · simp [Value.ownBlock] at h
    · exact h (by simp [Value.ownBlock, e])
theorem OwnQ.keep {n₀ hh : Nat} {q : List Int} {v : Value} {A B : World} (h : OwnQ n₀ q v A) (hB : Below hh A B) (hA : A.heap.size ≤ hh) : OwnQ n₀ q v B :=
  h.kept (row := none) ⟨hB.os, hB.tape, hB.output, hB.size, fun k hk _ => hB.block k (Nat.lt_of_lt_of_le hk hA)⟩ (by cases e : v.ownBlock <;> simp)
/-- .. and where a cell of another block is written. -/
theorem OwnQ.setCell {n₀ : Nat} {q : List Int} {v : Value} {W : World} (h : OwnQ n₀ q v W) {B : Nat} (hne : v.ownBlock ≠ some B) (o : Nat) (u : Value) : OwnQ n₀ q v (W.setCell ⟨B, o, none⟩ u) :=
  h.kept (row := some B) ⟨rfl, rfl, rfl, by simp [World.setCell], fun k _ hk => Below.heap_setCell W ⟨B, o, none⟩ u k (fun e => hk (by simp [e]))⟩ (.inr hne)
theorem ownQ_nil (n₀ : Nat) (W : World) : OwnQ n₀ [] (.slice none 0 0) W := .inl (World.ownsRow_nil _ _ _ _)
/-- The block is one of numbers. -/
theorem OwnQ.ne {n₀ : Nat} {q : List Int} {v : Value} {W : World} (h : OwnQ n₀ q v W) {B : Nat} {t : TypeId} {ds : Array Value} (hR : Rows8 W B t ds) (hne : 3 ≠ t) : v.ownBlock ≠ some B := by
  rcases h with h | ⟨g, o, cs, rfl, h0, hQ, h2⟩
  · exact owns_not h hR hne
  · intro e
    simp [Value.ownBlock] at e
    subst e
    have hQ' : W.heap[g]? = _ := hQ
    rw [show W.heap[g]? = _ from hR] at hQ'
    injection hQ' with h1
    injection h1 with _ h2 _
    exact hne h2.symm
theorem ownQ_row {n₀ n₁ k n : Nat} {q : List Int} {v v' : Value} {e : TypeId} {cs : List Value} {W : World} (h : OwnQ n₀ q v W) (h' : W.ownsRow n₁ e k v' n cs) (hne : 3 ≠ e) : v.ownBlock = none ∨ v.ownBlock ≠ v'.ownBlock := by
  rcases h'.2 with ⟨rfl, _⟩ | ⟨g', cap', cur', rfl, _, hh', _⟩
  · cases hv : v.ownBlock with
    | none => exact .inl rfl
    | some j => exact .inr (by simp [Value.ownBlock])
  · exact .inr (by rw [show (Value.slice (some ⟨g', 0, none⟩) n cap').ownBlock = some g' from rfl]; exact h.ne (B := g') hh' hne)
/-- One is appended. -/
theorem run_append_q (w : World) (n₀ : Nat) (ty : TypeId) (q : List Int) (v : Value) (h : OwnQ n₀ q v w) (z : Int) (src : Value) (hs : RowAt w src 1 1 [.int .i64 z]) (hl : q.length + 1 ≤ 100000) (hbase : n₀ ≤ w.heap.size) :
    ∃ v' w', (Builtin.append_ #[23, 23] ty #[v, src]).run Try.prog w = .ok v' w' ∧ OwnQ n₀ (q ++ [z]) v' w' ∧ w.grownBy w' v.ownBlock ∧ (v'.ownBlock = v.ownBlock ∨ ∀ j, v'.ownBlock = some j → w.heap.size ≤ j) := by
  obtain ⟨i0, hi, hz0, hz1, hz2⟩ := info_parts Try.infoInt
  have e0 : intVals (q ++ [z]) = intVals q ++ [.int .i64 z] := by simp [intVals]
  rcases h with h | ⟨g, o, cs, rfl, h0, hR, hm, hc⟩
  · obtain ⟨v', w', h1, h2, h3, h4⟩ := run_append_row (P := Try.prog) w n₀ 23 ty 3 i0 (.int .i64 0) 1 8 Try.underlying23 hi hz0 hz1 hz2 rfl (by decide) v q.length (intVals q) h src 1 [.int .i64 z] hs (by simp [Value.oneCell']) (by unfold maxLen; omega) (by omega) hbase
    refine ⟨v', w', h1, .inl ?_, h3, h4.imp id fun e j ej => by rw [e] at ej; injection ej with ej; omega⟩
    unfold OwnsInts
    rw [e0, List.length_append]
    exact h2
  · have hat : IntsAt w (.slice (some ⟨g, o, none⟩) q.length q.length) q := OwnQ.at (.inr ⟨g, o, cs, rfl, h0, hR, hm, hc⟩)
    obtain ⟨a, c, e⟩ : ∃ a c, src = .slice (some a) 1 c := by
      obtain ⟨_, a, c, e, _, _, _, h5⟩ := hs
      obtain ⟨b, off, e2, _⟩ := h5 0 (by simp)
      exact ⟨_, c, by rw [e, e2]⟩
    subst e
    obtain ⟨v', w', h1, h2, h3⟩ := run_append_arg_grows (P := Try.prog) w 23 ty 3 i0 (.int .i64 0) 1 8 Try.underlying23 hi hz0 hz1 hz2 rfl (by decide) ⟨g, o, none⟩ q.length q.length (intVals q) (by rw [intVals_length, Nat.mul_one]) (row_src hat) a 1 c [.int .i64 z] rfl (row_src hs) (by omega) (by unfold maxLen; omega) (by omega)
    refine ⟨v', w', h1, .inl ?_, ⟨h3.os, h3.tape, h3.output, h3.size, fun k hk _ => h3.block k hk (by simp)⟩, .inr fun j ej => (World.ownsRow.lt h2 j ej).1⟩
    unfold OwnsInts
    rw [e0, List.length_append]
    exact owns_mono h2 hbase
/-- The first one is cut off. -/
theorem OwnQ.cut {n₀ : Nat} {z : Int} {q : List Int} {a : Addr} {c : Nat} {W : World} (h : OwnQ n₀ (z :: q) (.slice (some a) (q.length + 1) c) W) : OwnQ n₀ q (.slice (some (if q.length + 1 = 1 then a else a.add (1 * 1))) q.length q.length) W := by
  have hcut : ∀ g o cs, a = ⟨g, o, none⟩ → n₀ ≤ g → Rows8 W g 3 cs → q.length ≤ maxLen → (∀ i, i < (z :: q).length → cs[o + i]? = some (.int .i64 ((z :: q)[i]?.getD 0))) → OwnQ n₀ q (.slice (some (if q.length + 1 = 1 then a else a.add (1 * 1))) q.length q.length) W := by
    rintro g o cs rfl h0 hR hm hc
    by_cases hq : q.length + 1 = 1
    · rw [if_pos hq]
      exact .inr ⟨g, o, cs, rfl, h0, hR, hm, fun i hi => by omega⟩
    · rw [if_neg hq]
      have e : (⟨g, o, none⟩ : Addr).add (1 * 1) = ⟨g, o + 1, none⟩ := by simp [Addr.add]
      rw [e]
      refine .inr ⟨g, o + 1, cs, rfl, h0, hR, hm, fun i hi => ?_⟩
      have := hc (i + 1) (by simp; omega)
      rw [show o + 1 + i = o + (i + 1) by omega, this]
      simp
  rcases h with h | ⟨g, o, cs, e, h0, hR, hm, hc⟩
  · rcases h.2 with ⟨e, _⟩ | ⟨g, cap, cur, e, h0, hR, hl, hm, hz, ht⟩
    · cases e
    · injection e with e1 _ e3
      injection e1 with e1
      refine hcut g 0 cur e1 h0 hR (by simp at hl; omega) (fun i hi => ?_)
      have h2 : (intVals (z :: q))[i]? = some (.int .i64 ((z :: q)[i]?.getD 0)) := intVals_get _ i hi
      rw [← ht, List.getElem?_take_of_lt (by omega), Array.getElem?_toList] at h2
      rw [Nat.zero_add, h2]
  · injection e with e1 _ e3
    injection e1 with e1
    exact hcut g o cs e1 h0 hR (by simp at hm; omega) hc
end Go.Proofs
