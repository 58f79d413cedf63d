/- Arena: spoil, all but its row stays. -/
import Derived.Test.YteldjolofglnpaaAx
namespace Go.Proofs
open Go.RowKit Go.Shelf
attribute [local go_sem] Oper.semAt_some

/-- All but a row's own block is as it was. -/
structure Spo (v : Value) (A B : World) : Prop where
  os : B.os = A.os
  tape : B.tape = A.tape
  output : B.output = A.output
  size : A.heap.size ≤ B.heap.size
  block : ∀ k, k < A.heap.size → v.ownBlock ≠ some k → B.heap[k]? = A.heap[k]?
theorem Spo.of_below {v : Value} {A B : World} (p : Below A.heap.size A B) : Spo v A B := ⟨p.os, p.tape, p.output, p.size, fun k hk _ => p.block k hk⟩
theorem Spo.set {A B : World} {g n c : Nat} (p : Spo (.slice (some ⟨g, 0, none⟩) n c) A B) (o : Nat) (u : Value) : Spo (.slice (some ⟨g, 0, none⟩) n c) A (B.setCell ⟨g, o, none⟩ u) :=
  ⟨p.os, p.tape, p.output, by simpa [World.setCell] using p.size, fun k hk hne => (Below.heap_setCell B ⟨g, o, none⟩ u k (by show k ≠ g; intro e; subst e; exact hne (by simp [Value.ownBlock]))).trans (p.block k hk hne)⟩
theorem Spo.below {v : Value} {A B w : World} {h : Nat} (p : Spo v A B) (q : Below h w A) (hA : h ≤ A.heap.size) (hv : ∀ j, v.ownBlock = some j → h ≤ j) : Below h w B :=
  q.trans ⟨p.os, p.tape, p.output, p.size, fun k hk => p.block k (by omega) (fun e => by have := hv k e; omega)⟩
theorem Spo.rows {v : Value} {A B : World} (p : Spo v A B) {n₀ k n D : Nat} {e t : TypeId} {xs : List Value} {cs : Array Value} (o : A.ownsRow n₀ e k v n xs) (r : Rows8 A D t cs) (hne : e ≠ t) : Rows8 B D t cs :=
  (p.block D r.lt (owns_not o r hne)).trans r
theorem Spo.owns {v u : Value} {A B : World} (p : Spo v A B) {n₀ k n : Nat} {e : TypeId} {xs : List Value} (o : A.ownsRow n₀ e k u n xs) (hne : u.ownBlock = none ∨ u.ownBlock ≠ v.ownBlock) : B.ownsRow n₀ e k u n xs := by
  refine ⟨o.1, o.2.imp id fun ⟨g, cap, cur, h1, h2, h3, h4⟩ => ⟨g, cap, cur, h1, h2, ?_, h4⟩⟩
  subst h1
  refine (p.block g (Array.getElem?_eq_some_iff.1 h3).1 (fun e => ?_)).trans h3
  rcases hne with h | h
  · simp [Value.ownBlock] at h
  · exact h (by rw [e]; simp [Value.ownBlock])
/-- A row of pairs does not lie in a block that holds a slice. -/
theorem pAt_sep {W : World} {v : Value} {l : List Pr} (h : PAt W v l) {B : Nat} {t : TypeId} {x : Option Addr} {n c : Nat} (r : Rows8 W B t #[.slice x n c]) (u : Value) : PAt (W.setCell ⟨B, 0, none⟩ u) v l := by
  obtain ⟨h0, a, cap, e, h1, h2, h3, h4⟩ := h
  refine ⟨h0, _, _, e, h1, h2, h3, fun j hj => ?_⟩
  obtain ⟨b, off, e, hb, hc⟩ := h4 j hj
  refine ⟨b, off, e, by simpa [World.setCell] using hb, ?_⟩
  rw [cell_set_other (a := ⟨b, off + j, none⟩) (p := ⟨B, 0, none⟩) (fun hbB => ?_) u]
  · exact hc
  · have hbB' : b = B := hbB
    subst hbB'
    rw [r.cell (off + j), List.getElem?_eq_getElem hj] at hc
    have hm : (pVals l)[j] ∈ pVals l := List.getElem_mem hj
    generalize (pVals l)[j] = z at *
    cases hk : off + j with
    | zero =>
      rw [hk] at hc
      simp at hc
      subst hc
      simp only [pVals, List.mem_flatMap] at hm
      obtain ⟨d, _, hm⟩ := hm
      simp [pCells] at hm
    | succ k => rw [hk] at hc; simp at hc
theorem ne_symm {u v : Value} (h : u.ownBlock = none ∨ u.ownBlock ≠ v.ownBlock) : v.ownBlock = none ∨ v.ownBlock ≠ u.ownBlock := by
  rcases h with h | h
  · cases e : v.ownBlock with
    | none => exact .inl rfl
    | some j => exact .inr (by rw [h]; simp)
  · exact .inr fun e => h e.symm
/-- A row that was there ahead of a call is not what the call tells. -/
theorem apart {T S : TypeId} {n₀ : Nat} {l m : List Pr} {u v : Value} {A B : World} (o : OwnsP T n₀ l u A) (q : OwnsP S A.heap.size m v B) : u.ownBlock = none ∨ u.ownBlock ≠ v.ownBlock := by
  cases e : u.ownBlock with
  | none => exact .inl rfl
  | some j => exact .inr fun e2 => by have h1 := (World.ownsRow.lt o j e).2; have h2 := (World.ownsRow.lt q j e2.symm).1; omega
set_option maxRecDepth 100000 in
set_option maxHeartbeats 4000000 in
theorem Try.spoil2_any (n₀ : Nat) (v : Value) (l : List Pr) (hl : l.length ≤ 10000) (w : World) (hO : OwnsP 44 n₀ l v w) :
    Calls Try.prog 29 #[.agg #[v]] w fun e w' => e = .returned (.tuple #[]) ∧ Spo v w w' := by
  obtain ⟨a, c, hv⟩ := hO.form
  obtain ⟨n, hn⟩ : ∃ n, n = l.length := ⟨_, rfl⟩
  rw [← hn] at hv
  subst hv
  have hB0 : Below w.heap.size w (w.alloc (.cells #[.slice a n c] 24)) := Rows8.newB
  have R0 := Lib.hid (Rows8.new w 24 #[.slice a n c])
  have O0 := Lib.hid (OwnsP.below hO hB0 (Nat.le_refl _))
  have B0 := Lib.hid (Spo.of_below (v := .slice a n c) hB0)
  have HN := Lib.hid hn
  have hn10 : n ≤ 10000 := by omega
  clear hB0 hO hn
  go_enter Try.func29, Try.ntmps29
  go_wp2_with fail
  go_loopw [2, 6] (fun _ j wr => ∃ (k : Nat) (lk : List Pr), k ≤ n ∧ j = .int .i64 k ∧ Hid (n = lk.length) ∧ Hid (Rows8 wr w.heap.size 24 #[.slice a n c]) ∧ Hid (OwnsP 44 n₀ lk (.slice a n c) wr) ∧ Hid (Spo (.slice a n c) w wr)) (fun _ j _ => n - (intOf j).toNat)
  case atStart => exact ⟨0, l, Nat.zero_le _, rfl, HN, R0, O0, B0⟩
  case round =>
    obtain ⟨k, lk, hk, rfl, hnk, hR, hO, hB⟩ := hrel
    by_cases hlt : k < n
    · have hkl : k < lk.length := by rw [← hnk.out]; exact hlt
      obtain ⟨g, cs, rfl, hg, _, hrow, p0, p1⟩ := hO.out.block k hkl
      have hki : (k : Int) < (n : Int) := by omega
      have hk0 : (0 : Int) ≤ (k : Int) := by omega
      have cR : wr.cell? ⟨w.heap.size, 0, none⟩ = some (.slice (some ⟨g, 0, none⟩) n c) := hR.out.cell 0
      have lR := hR.out.lt
      have lg := hrow.lt
      have fg := hrow.frozen (k * 2 + 1)
      obtain ⟨x, hx⟩ : ∃ x : Nat, IntKind.u64.wrap (((lk[k].2 : Nat) : Int) + 1) = (x : Int) := ⟨(lk[k].2 + 1) % 18446744073709551616, by rw [IntKind.wrap_u64]; omega⟩
      have O1 := Lib.hid (hO.out.set1 hnk.out k hkl x)
      have R1 := Lib.hid (hR.out.setOther (a := ⟨g, k * 2 + 1, none⟩) (fun e => rows_apart hR.out hrow (by decide) e.symm) (.int .u64 (x : Nat)))
      have B1 := Lib.hid (hB.out.set (k * 2 + 1) (.int .u64 (x : Nat)))
      have HL := Lib.hid (show n = (lk.set k (lk[k].1, x)).length by rw [List.length_set]; exact hnk.out)
      generalize lk.set k (lk[k].1, x) = lk2 at *
      generalize lk[k].2 = y at *
      generalize lk[k].1 = z at *
      clear hrow hkl hO hR hB hnk
      go_wp2_with fail
      exact ⟨⟨k + 1, lk2, by omega, by go_num, HL, R1, O1, B1⟩, by simp [intOf]; omega⟩
    · obtain rfl : k = n := by omega
      have hki : ¬ (k : Int) < (k : Int) := by omega
      go_wp2_with fail
      go_end0
      exact ⟨rfl, hB.out⟩

end Go.Proofs
