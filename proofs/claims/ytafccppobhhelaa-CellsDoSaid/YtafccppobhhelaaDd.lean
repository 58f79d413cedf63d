/- The document's answers of cells: Last, Held, Back. -/
import Derived.Test.YtafccppobhhelaaDb
import Derived.Test.YtafccppobhhelaaCq
namespace Go.Proofs
open Go.RowKit Go.Shelf
attribute [local go_sem] Oper.semAt_some

theorem marksAt_at {W : World} {x : Option Addr} {n cap : Nat} {l : List Mk} (h : MarksAt W (.slice x n cap) l) (j : Nat) (hj : j < l.length) :
    ∃ b off, x = some ⟨b, off, none⟩ ∧ b < W.heap.size ∧ W.cell? ⟨b, off + j * 4, none⟩ = some (.int .i64 l[j].no) ∧ W.cell? ⟨b, off + j * 4 + 1, none⟩ = some (.int .i64 l[j].pl) ∧ W.cell? ⟨b, off + j * 4 + 2, none⟩ = some (.int .u64 l[j].was) ∧ W.cell? ⟨b, off + j * 4 + 3, none⟩ = some (.int .u64 l[j].is) := by
  obtain ⟨h0, a, cap', e, _, _, _, hc⟩ := h
  cases e
  obtain ⟨b, off, e, hb, _⟩ := hc (j * 4) (by rw [markVals_length]; omega)
  refine ⟨b, off, e, hb, ?_⟩
  have hh : ∀ i, i < 4 → W.cell? ⟨b, off + j * 4 + i, none⟩ = (l[j].cells)[i]? := by
    intro i hi
    obtain ⟨b', off', e', _, h3⟩ := hc (j * 4 + i) (by rw [markVals_length]; omega)
    rw [e] at e'
    cases e'
    rw [Nat.add_assoc, h3]
    exact flat_get Mk.cells 4 (fun _ => rfl) l j i hj hi
  exact ⟨hh 0 (by decide), hh 1 (by decide), hh 2 (by decide), hh 3 (by decide)⟩
theorem lastOf_snoc (at_ : Int) (l : List Mk) (m : Mk) : lastOf at_ (l ++ [m]) = if (m.pl == at_) = true then (m.no, true) else lastOf at_ l := by
  unfold lastOf
  rw [List.reverse_append]
  simp only [List.reverse_cons, List.reverse_nil, List.nil_append, List.singleton_append, List.filter_cons]
  by_cases h : (m.pl == at_) = true
  · rw [if_pos h, if_pos h]
  · rw [if_neg h, if_neg h]
theorem takeNext {α : Type} (l : List α) (k : Nat) (h : k < l.length) : l.take (k + 1) = l.take k ++ [l[k]] := by
  rw [List.take_succ_eq_append_getElem h]

set_option maxRecDepth 100000 in
set_option maxHeartbeats 2000000 in
theorem Try.refLast2_any (a : Option Addr) (n cap : Nat) (ms : List Mk) (hn : n = ms.length) (hl : n ≤ 1000) (at_ : Int) (w : World) (hI : MarksAt w (.slice a n cap) ms) :
    Calls Try.prog 33 #[.slice a n cap, .int .i64 at_] w fun e w' => e = .returned (.tuple #[.int .i64 (lastOf at_ ms).1, .bool (lastOf at_ ms).2]) ∧ Below w.heap.size w w' := by
  have HI := Lib.hid hI
  have HN := Lib.hid hn
  clear hI hn
  go_enter Try.func33, Try.ntmps33
  go_wp2
  go_loopw [6, 7, 9, 12] (fun s6 s7 _ j wr => ∃ k : Nat, k ≤ n ∧ j = .int .i64 k ∧ s6 = .int .i64 (lastOf at_ (ms.take k)).1 ∧ s7 = .bool (lastOf at_ (ms.take k)).2 ∧ Below w.heap.size w wr) (fun _ _ _ j _ => n - (intOf j).toNat)
  case atStart => exact ⟨0, Nat.zero_le _, rfl, rfl, rfl, Below.refl _ _⟩
  case round =>
    obtain ⟨k, hk, rfl, rfl, rfl, hB⟩ := hrel
    by_cases hlt : k < n
    · have hki : (k : Int) < (n : Int) := by omega
      have hkl : k < ms.length := by rw [← HN.out]; exact hlt
      obtain ⟨b, off, rfl, hb, y0, y1, y2, y3⟩ := marksAt_at (RowAt.below HI.out hB) k hkl
      have hsn := lastOf_snoc at_ (ms.take k) ms[k]
      rw [← takeNext ms k hkl] at hsn
      generalize ms[k] = m at *
      obtain ⟨no, pl, was, is⟩ := m
      dsimp only at y0 y1 y2 y3 hsn
      have HB := Lib.hid (hB.alloc hB.size (.cells #[.int .i64 no, .int .i64 pl, .int .u64 was, .int .u64 is] 47))
      generalize lastOf at_ (ms.take k) = la at *
      cases hq : (pl == at_) with
      | true =>
        rw [hq, if_pos rfl] at hsn
        have HSN := Lib.hid hsn
        clear hsn hB
        go_wp2
        exact ⟨⟨k + 1, by omega, by go_num, by rw [HSN.out], by rw [HSN.out], HB.out⟩, by simp [intOf]; omega⟩
      | false =>
        rw [hq, if_neg (by simp)] at hsn
        have HSN := Lib.hid hsn
        clear hsn hB
        go_wp2
        exact ⟨⟨k + 1, by omega, by go_num, by rw [HSN.out], by rw [HSN.out], HB.out⟩, by simp [intOf]; omega⟩
    · obtain rfl : k = n := by omega
      have ht : ms.take k = ms := List.take_of_length_le (by rw [HN.out]; exact Nat.le_refl _)
      rw [ht]
      clear ht
      go_wp2
      go_ret2
      exact ⟨rfl, hB⟩

set_option maxRecDepth 100000 in
set_option maxHeartbeats 4000000 in
theorem Try.refHeld2_any (a : Option Addr) (n cap : Nat) (ms : List Mk) (hn : n = ms.length) (hl : n ≤ 1000) (at_ : Int) (w : World) (hI : MarksAt w (.slice a n cap) ms) :
    Calls Try.prog 35 #[.slice a n cap, .int .i64 at_] w (HeldQ (heldOf (ms.filter fun m => m.pl == at_)) w) := by
  obtain ⟨i0, hi, hz0, hz1, hz2⟩ := info_parts Try.infoWord
  have HI := Lib.hid hI
  have HN := Lib.hid hn
  clear hI hn
  unfold HeldQ
  go_enter Try.func35, Try.ntmps35
  go_wp2
  go_loopw [5, 7, 10] (fun s5 _ j wr => ∃ k : Nat, k ≤ n ∧ j = .int .i64 k ∧ OwnsWords w.heap.size (heldOf ((ms.take k).filter fun m => m.pl == at_)) s5 wr ∧ Below w.heap.size w wr) (fun _ _ j _ => n - (intOf j).toNat)
  case atStart => exact ⟨0, Nat.zero_le _, rfl, World.ownsRow_nil _ _ _ _, Below.refl _ _⟩
  case round =>
    obtain ⟨k, hk, rfl, hO, hB⟩ := hrel
    by_cases hlt : k < n
    · have hki : (k : Int) < (n : Int) := by omega
      have hkl : k < ms.length := by rw [← HN.out]; exact hlt
      obtain ⟨b, off, rfl, hb, y0, y1, y2, y3⟩ := marksAt_at (RowAt.below HI.out hB) k hkl
      have htk := takeNext ms k hkl
      obtain ⟨_, a5, c5, rfl, _⟩ := rowAt_own hO
      have hfl := List.length_filter_le (fun m : Mk => m.pl == at_) (ms.take k)
      have hle := heldOf_length ((ms.take k).filter fun m => m.pl == at_)
      have hln : ((ms.take k).filter fun m => m.pl == at_).length ≤ 1000 := by rw [List.length_take] at hfl; omega
      have hlb : (heldOf ((ms.take k).filter fun m => m.pl == at_)).length ≤ 1001 := by omega
      have hfs : (ms.take (k + 1)).filter (fun m => m.pl == at_) = (ms.take k).filter (fun m => m.pl == at_) ++ (if (ms[k].pl == at_) = true then [ms[k]] else []) := by
        rw [htk, List.filter_append]
        simp [List.filter_cons]
      clear htk hfl hle hln
      generalize ms[k] = m at *
      obtain ⟨no, pl, was, is⟩ := m
      dsimp only at y0 y1 y2 y3 hfs
      have hB1 := hB.alloc hB.size (.cells #[.int .i64 no, .int .i64 pl, .int .u64 was, .int .u64 is] 47)
      have hO1 := World.ownsRow.alloc hO (.cells #[.int .i64 no, .int .i64 pl, .int .u64 was, .int .u64 is] 47)
      have hzr := hB.size
      have HB1 := Lib.hid hB1
      have HO1 := Lib.hid hO1
      cases hq : (pl == at_) with
      | false =>
        have hq2 : (pl != at_) = true := by simp at hq; simp [hq]
        rw [hq, if_neg (by simp), List.append_nil] at hfs
        have HFS := Lib.hid hfs
        clear hfs hB hO hB1 hO1
        go_wp2
        exact ⟨⟨k + 1, by omega, by go_num, by rw [HFS.out]; exact HO1.out, HB1.out⟩, by simp [intOf]; omega⟩
      | true =>
        have hq2 : (pl != at_) = false := by simp at hq; simp [hq]
        rw [hq, if_pos rfl] at hfs
        have HFS := Lib.hid hfs
        clear hfs hB hO hB1 hO1
        by_cases hf : (ms.take k).filter (fun m => m.pl == at_) = []
        · rw [hf] at HFS HO1
          rw [hf]
          simp only [heldOf_nil, List.length_nil] at HO1 ⊢
          clear hf hlb
          have HE := Lib.hid (heldOf_one ⟨no, pl, was, is⟩)
          go_wp2_with (at_builtin; refine wpList_append_own _ rfl _ _ 22 rfl w.heap.size 25 i0 (.int .u64 0) 1 8 Try.underlying22 hi hz0 hz1 hz2 rfl (by decide) _ _ _ rfl (World.ownsRow.alloc HO1.out _) ⟨wr.heap.size + 1, 0, none⟩ 1 1 [.int .u64 was] rfl rfl ?c1 ?c2 ?c3 ?c4 ?c5 ?_)
          try case c1 =>
            have h := cells_new (wr.alloc (.cells #[.int .i64 no, .int .i64 pl, .int .u64 was, .int .u64 is] 47)) 25 [.int .u64 was]
            rw [World.size_alloc] at h
            exact h
          case c2 => simp [Value.oneCell']
          case c3 => unfold maxLen; omega
          try case c4 => omega
          case c5 => first | omega | (simp; omega) | simp
          intro v' w1 hown' hgrow _
          have hx : Rows8 (((wr.alloc (.cells #[.int .i64 no, .int .i64 pl, .int .u64 was, .int .u64 is] 47)).alloc (.cells #[.int .u64 was] 25))) wr.heap.size 47 #[.int .i64 no, .int .i64 pl, .int .u64 was, .int .u64 is] := (Rows8.new wr _ _).alloc _
          have hoa := World.ownsRow.alloc HO1.out (.cells #[.int .u64 was] 25)
          have x1 := grown_rows hx hoa (by decide) hgrow
          have l3 := x1.cell 3
          simp at l3
          have hB2 : Below w.heap.size w w1 := (HB1.out.alloc (by simp; omega) _).grown hgrow (by simp; omega) (fun j ej => (World.ownsRow.lt hoa j ej).1)
          have hO2 : OwnsWords w.heap.size [was] v' w1 := hown'
          obtain ⟨a6, c6, rfl⟩ : ∃ a6 c6, v' = .slice a6 1 c6 := by
            obtain ⟨_, a, c, h, _⟩ := rowAt_own hO2
            exact ⟨a, c, h⟩
          have hzx := x1.lt
          have HO2 := Lib.hid hO2
          have HB2 := Lib.hid hB2
          clear hown' hgrow hx hoa x1 hO2 hB2
          go_wp2_with (at_builtin; refine wpList_append_own _ rfl _ _ 22 rfl w.heap.size 25 i0 (.int .u64 0) 1 8 Try.underlying22 hi hz0 hz1 hz2 rfl (by decide) _ _ _ rfl (World.ownsRow.alloc HO2.out _) ⟨w1.heap.size, 0, none⟩ 1 1 [.int .u64 is] rfl rfl ?b1 ?b2 ?b3 ?b4 ?b5 ?_)
          try case b1 => exact cells_new w1 _ [.int .u64 is]
          case b2 => simp [Value.oneCell']
          case b3 => simp; unfold maxLen; omega
          try case b4 => simp
          case b5 => first | omega | (simp; omega) | simp | (have := HB2.out.size; omega)
          intro v' w2 hown' hgrow _
          have hoa := World.ownsRow.alloc HO2.out (.cells #[.int .u64 is] 25)
          have hB3 : Below w.heap.size w w2 := (HB2.out.alloc HB2.out.size _).grown hgrow (by have := HB2.out.size; simp; omega) (fun j ej => (World.ownsRow.lt hoa j ej).1)
          have HO3 := Lib.hid hown'
          have HB3 := Lib.hid hB3
          clear hown' hgrow hoa hB3
          go_wp2_with fail
          exact ⟨⟨k + 1, by omega, by go_num, by rw [HFS.out]; exact HO3.out, HB3.out⟩, by simp [intOf]; omega⟩
        · have hne := heldOf_pos _ hf
          have hsn := heldOf_snoc _ ⟨no, pl, was, is⟩ hf
          rw [← HFS.out] at hsn
          generalize heldOf ((ms.take k).filter fun m => m.pl == at_) = hs at *
          have hln0 : ((hs.length : Int) == 0) = false := by simp; intro h; rw [h] at hne; simp at hne
          have HSN := Lib.hid hsn
          clear hsn hf HFS
          go_wp2_with (at_builtin; refine wpList_append_own _ rfl _ _ 22 rfl w.heap.size 25 i0 (.int .u64 0) 1 8 Try.underlying22 hi hz0 hz1 hz2 rfl (by decide) _ _ _ rfl (World.ownsRow.alloc HO1.out _) ⟨wr.heap.size + 1, 0, none⟩ 1 1 [.int .u64 is] rfl rfl ?d1 ?d2 ?d3 ?d4 ?d5 ?_)
          try case d1 =>
            have h := cells_new (wr.alloc (.cells #[.int .i64 no, .int .i64 pl, .int .u64 was, .int .u64 is] 47)) 25 [.int .u64 is]
            rw [World.size_alloc] at h
            exact h
          case d2 => simp [Value.oneCell']
          case d3 => unfold maxLen; omega
          try case d4 => omega
          case d5 => first | omega | (simp; omega)
          intro v' w1 hown' hgrow _
          have hoa := World.ownsRow.alloc HO1.out (.cells #[.int .u64 is] 25)
          have hB2 : Below w.heap.size w w1 := (HB1.out.alloc (by simp; omega) _).grown hgrow (by simp; omega) (fun j ej => (World.ownsRow.lt hoa j ej).1)
          have hO2 : OwnsWords w.heap.size (hs ++ [is]) v' w1 := by
            unfold OwnsWords
            rw [wordVals_snoc, List.length_append]
            exact hown'
          have HO2 := Lib.hid hO2
          have HB2 := Lib.hid hB2
          clear hown' hgrow hoa hO2 hB2
          go_wp2_with fail
          exact ⟨⟨k + 1, by omega, by go_num, by rw [HSN.out]; exact HO2.out, HB2.out⟩, by simp [intOf]; omega⟩
    · obtain rfl : k = n := by omega
      have ht : ms.take k = ms := List.take_of_length_le (by rw [HN.out]; exact Nat.le_refl _)
      rw [ht] at hO
      have HO := Lib.hid hO
      clear ht hO
      go_wp2
      go_ret
      exact ⟨_, rfl, HO.out, hB⟩
end Go.Proofs
