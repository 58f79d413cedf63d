/- The document's answers: edges; what is clear; and that it is what the section sought by halves says. -/
import Derived.Test.YtbipekpohocjdaaDoorGq
namespace Go.Proofs
open Go.RowKit Go.Shelf
attribute [local go_sem] Oper.semAt_some

theorem open_none {l : List (Int × Int)} {a n : Int} (hr : secB a l = true) (hn : n ≤ a) : openB l n = false := by
  induction l generalizing a with
  | nil => rfl
  | cons s t ih =>
    obtain ⟨h1, h2, h3⟩ := (secB_cons a s t).1 hr
    rw [openB_cons]
    have e : openS n s = false := by unfold openS; rw [decide_eq_false (by omega)]; rfl
    rw [e, Bool.false_or]
    rcases h3 with ⟨_, rfl⟩ | ⟨_, h4, _, h5⟩
    · rfl
    · exact ih h5 (by omega)
theorem clear_open {l : List (Int × Int)} {a f g n : Int} (hr : secB a l = true) (h : clearB l f g = true) (h1 : f ≤ n) (h2 : n ≤ g) : openB l n = false := by
  induction l generalizing a with
  | nil => rfl
  | cons s t ih =>
    obtain ⟨q1, q2, q3⟩ := (secB_cons a s t).1 hr
    rw [openB_cons]
    by_cases hs : s.2 = 0 ∨ f < s.2
    · rw [clearB_stop hs, decide_eq_true_eq] at h
      have e : openS n s = false := by unfold openS; rw [decide_eq_false (by omega)]; rfl
      rw [e, Bool.false_or]
      rcases q3 with ⟨_, rfl⟩ | ⟨_, h4, _, h5⟩
      · rfl
      · exact open_none h5 (by omega)
    · rw [clearB_go hs] at h
      have e : openS n s = false := by unfold openS; rw [decide_eq_false (p := s.2 = 0) (by omega), decide_eq_false (p := n < s.2) (by omega)]; simp
      rw [e, Bool.false_or]
      rcases q3 with ⟨h0, _⟩ | ⟨_, _, _, h5⟩
      · exact absurd (.inl h0) hs
      · exact ih h5 h
theorem sec_mem {l : List (Int × Int)} {a : Int} (hr : secB a l = true) {s : Int × Int} (hs : s ∈ l) : s.2 = 0 ∨ s.1 < s.2 := by
  induction l generalizing a with
  | nil => simp at hs
  | cons u t ih =>
    obtain ⟨q1, q2, q3⟩ := (secB_cons a u t).1 hr
    rcases List.mem_cons.1 hs with rfl | hs
    · rcases q3 with ⟨h, _⟩ | ⟨_, h, _⟩
      · exact .inl h
      · exact .inr h
    · rcases q3 with ⟨_, rfl⟩ | ⟨_, _, _, h5⟩
      · simp at hs
      · exact ih h5 hs
theorem not_clear {l : List (Int × Int)} {f g : Int} (h : clearB l f g = false) : ∃ s ∈ l, (s.2 = 0 ∨ f < s.2) ∧ s.1 ≤ g := by
  induction l with
  | nil => simp [clearB] at h
  | cons s t ih =>
    by_cases hs : s.2 = 0 ∨ f < s.2
    · rw [clearB_stop hs, decide_eq_false_iff_not] at h
      exact ⟨s, by simp, hs, by omega⟩
    · rw [clearB_go hs] at h
      obtain ⟨u, hu, h1⟩ := ih h
      exact ⟨u, by simp [hu], h1⟩
def refClearB (l : List (Int × Int)) (f g : Int) : Bool := (edgR l f g).all fun n => !openB l n
theorem edg_in {l : List (Int × Int)} {f g n : Int} (hfg : f ≤ g) (h : n ∈ edgR l f g) : f ≤ n ∧ n ≤ g := by
  unfold edgR at h
  rw [List.mem_append] at h
  rcases h with h | h
  · simp at h
    omega
  · rw [List.mem_flatMap] at h
    obtain ⟨s, _, h⟩ := h
    unfold inE at h
    simpa using (List.mem_filter.1 h).2
theorem refClear_clear {l : List (Int × Int)} (hr : rightB l = true) {f g : Int} (hfg : f ≤ g) : refClearB l f g = clearB l f g := by
  cases hc : clearB l f g with
  | true =>
    unfold refClearB
    rw [List.all_eq_true]
    intro n hn
    have := edg_in hfg hn
    rw [clear_open hr hc this.1 this.2]
    rfl
  | false =>
    obtain ⟨s, hs, h1, h2⟩ := not_clear hc
    have hm := sec_mem hr hs
    have key : ∃ n ∈ edgR l f g, openB l n = true := by
      by_cases hf : f ≤ s.1
      · refine ⟨s.1, ?_, List.any_eq_true.2 ⟨s, hs, ?_⟩⟩
        · unfold edgR
          rw [List.mem_append]
          refine .inr (List.mem_flatMap.2 ⟨s, hs, ?_⟩)
          unfold inE
          exact List.mem_filter.2 ⟨by simp, decide_eq_true ⟨hf, h2⟩⟩
        · unfold openS
          rw [decide_eq_true (Int.le_refl s.1)]
          rcases hm with h | h
          · simp [h]
          · simp [h]
      · refine ⟨f, by simp [edgR], List.any_eq_true.2 ⟨s, hs, ?_⟩⟩
        unfold openS
        rw [decide_eq_true (show s.1 ≤ f by omega)]
        rcases h1 with h | h
        · simp [h]
        · simp [h]
    obtain ⟨n, hn, ho⟩ := key
    cases hq : refClearB l f g with
    | false => rfl
    | true =>
      unfold refClearB at hq
      rw [List.all_eq_true] at hq
      have := hq n hn
      rw [ho] at this
      cases this

theorem intVals_one (ws : List Int) : ∀ u ∈ intVals ws, u.oneCell' = true := by
  intro u hu
  obtain ⟨b, _, rfl⟩ := List.mem_map.1 hu
  rfl
/-- A row of its first numbers, edge by edge. -/
def rowI (f g s1 s2 : Int) (r : List Int) (i : Nat) : List Int := if i = 0 then r else if i = 1 then addE f g s1 r else addE f g s2 (addE f g s1 r)
theorem addE_yes {f g n : Int} {r : List Int} (h : f ≤ n ∧ n ≤ g) : addE f g n r = r ++ [n] := if_pos h
theorem addE_no {f g n : Int} {r : List Int} (h : ¬ (f ≤ n ∧ n ≤ g)) : addE f g n r = r := if_neg h
theorem addE_len (f g n : Int) (r : List Int) : (addE f g n r).length ≤ r.length + 1 := by unfold addE; split <;> simp
set_option maxRecDepth 100000 in
set_option maxHeartbeats 4000000 in
theorem Tryd.refEdges_any (f g : Int) (x : Option Addr) (n cap : Nat) (l : List (Int × Int)) (hs : n ≤ 1000) (w : World) (hI : PAt w (.slice x n cap) l) :
    Calls Tryd.prog 41 #[.slice x n cap, .int .i64 f, .int .i64 g] w fun e w' => ∃ y c, e = .returned (.slice y (edgR l f g).length c) ∧ IntsAt w' (.slice y (edgR l f g).length c) (edgR l f g) ∧ Below w.heap.size w w' := by
  obtain ⟨i0, hi, hz0, hz1, hz2⟩ := info_parts Tryd.infoInt
  obtain ⟨hn, hnc, hcm⟩ := pAt_len hI
  have HI := Lib.hid hI
  have HN := Lib.hid hn
  have hO0 : (w.alloc (.cells #[.int .i64 f, .int .i64 g] 3)).ownsRow w.heap.size 3 1 (.slice (some ⟨w.heap.size, 0, none⟩) 2 2) 2 [.int .i64 f, .int .i64 g] := World.ownsRow_lit w #[.int .i64 f, .int .i64 g] 2 (Nat.le_refl _) (by unfold maxLen; omega) rfl
  have hB0 : Below w.heap.size w (w.alloc (.cells #[.int .i64 f, .int .i64 g] 3)) := Rows8.newB
  clear hI hn hnc hcm
  go_enter Tryd.func41, Tryd.ntmps41
  go_wp2
  generalize w.alloc (.cells #[.int .i64 f, .int .i64 g] 3) = W0 at *
  go_loopw [7, 17] (fun uv j wr => ∃ (k m : Nat) (r : List Int) (v : Value), k ≤ n ∧ j = .int .i64 k ∧ uv = v ∧ Hid (m = r.length) ∧ m ≤ 2 + 2 * k ∧ Hid (r = edgR (l.take k) f g) ∧ wr.ownsRow w.heap.size 3 1 v m (intVals r) ∧ Below w.heap.size w wr) (fun _ j _ => n - (intOf j).toNat)
  case atStart => exact ⟨0, 2, [f, g], _, Nat.zero_le _, rfl, rfl, Lib.hid rfl, by omega, Lib.hid (by simp [edgR]), hO0, hB0⟩
  case round =>
    obtain ⟨k, m, r, v, hk, rfl, hv, hm, hmk, hr, hO, hB⟩ := hrel
    replace hv := hv.symm
    subst hv
    by_cases hlt : k < n
    · have hkl : k < l.length := by rw [← HN.out]; exact hlt
      obtain ⟨b, off, rfl, hb, p0, p1⟩ := pAt_get (HI.out.below hB) k hkl
      have hsn : edgR (l.take (k + 1)) f g = addE f g (l[k]).2 (addE f g (l[k]).1 r) := by rw [take_snoc l k hkl, edgR_snoc, inE_two, hr.out]
      rcases hs1 : l[k] with ⟨s1, s2⟩
      rw [hs1] at p0 p1 hsn
      dsimp only at p0 p1 hsn
      have hki : (k : Int) < (n : Int) := by omega
      have HSN := Lib.hid hsn
      have HR := Lib.hid hr.out
      have HM := Lib.hid hm.out
      have hB1 : Below wr.heap.size wr (wr.alloc (.cells #[.int .i64 s1, .int .i64 s2] 39)) := Rows8.newB
      have hB2 := hB1.alloc (by simp) (.cells #[.int .i64 s1, .int .i64 s2] 3)
      have HB2 := Lib.hid (hB.trans (hB2.mono hB.size))
      have HO2 := Lib.hid (owns_keep hO hB2 (Nat.le_refl _))
      have hL := rows_new2 wr (.cells #[.int .i64 s1, .int .i64 s2] 39) 3 #[.int .i64 s1, .int .i64 s2]
      have hne : v.ownBlock ≠ some (wr.heap.size + 1) := fun e => by have := (World.ownsRow.lt hO _ e).2; omega
      have HL := Lib.hid hL
      have hsz := hB.size
      have HKN := Lib.hid (⟨hmk, hk⟩ : m ≤ 2 + 2 * k ∧ k ≤ n)
      clear hsn hs1 hkl hB hO hB1 hB2 hL hr hm
      obtain ⟨we, rfl⟩ : ∃ x, x = wr := ⟨_, rfl⟩
      go_wp2
      go_loopw [7, 27] (fun uv jv w2 => ∃ (i mi : Nat) (ri : List Int) (v2 : Value), i ≤ 2 ∧ jv = .int .i64 i ∧ uv = v2 ∧ Hid (ri = rowI f g s1 s2 r i) ∧ Hid (mi = ri.length) ∧ mi ≤ m + i ∧ w2.ownsRow w.heap.size 3 1 v2 mi (intVals ri) ∧ v2.ownBlock ≠ some (we.heap.size + 1) ∧ Rows8 w2 (we.heap.size + 1) 3 #[.int .i64 s1, .int .i64 s2] ∧ Below w.heap.size w w2) (fun _ jv _ => 2 - (intOf jv).toNat)
      case atStart => exact ⟨0, m, r, v, by omega, rfl, rfl, Lib.hid rfl, HM, by omega, HO2.out, hne, HL.out, HB2.out⟩
      case round =>
        obtain ⟨i, mi, ri, v2, hi2, rfl, hv2, hri, hmi, hmm, hO, hne2, hL2, hB⟩ := hrel
        replace hv2 := hv2.symm
        subst hv2
        by_cases hlt2 : i < 2
        · obtain ⟨nv, hnv⟩ : ∃ nv : Int, nv = if i = 0 then s1 else s2 := ⟨_, rfl⟩
          have hc : wr.cell? ⟨we.heap.size + 1, i, none⟩ = some (.int .i64 nv) := by
            rcases (by omega : i = 0 ∨ i = 1) with rfl | rfl
            · rw [hnv, if_pos rfl]; exact hL2.cell 0
            · rw [hnv, if_neg (by omega)]; exact hL2.cell 1
          have hrow : rowI f g s1 s2 r (i + 1) = addE f g nv ri := by
            rw [hri.out, hnv]
            rcases (by omega : i = 0 ∨ i = 1) with rfl | rfl
            · simp [rowI]
            · simp [rowI]
          have hii : (i : Int) < 2 := by omega
          have hll := hL2.lt
          have HRW := Lib.hid hrow
          have HO := Lib.hid hO
          have HL2 := Lib.hid hL2
          have HB := Lib.hid hB
          have HNE := Lib.hid hne2
          have hsz2 := hB.size
          clear hrow hnv hO hL2 hB hne2 hri
          by_cases h1 : f ≤ nv
          · by_cases h2 : nv ≤ g
            · have hadd : Hid (rowI f g s1 s2 r (i + 1) = ri ++ [nv]) := Lib.hid (by rw [HRW.out, addE_yes ⟨h1, h2⟩])
              have hbn := Rows8.new wr 3 #[.int .i64 nv]
              have hsrc : RowAt (wr.alloc (.cells #[.int .i64 nv] 3)) (.slice (some ⟨wr.heap.size, 0, none⟩) 1 1) 1 1 [.int .i64 nv] := rowAt_own (own1 hbn (Nat.zero_le _) rfl)
              have HSRC := Lib.hid hsrc
              have hmb : mi ≤ 10000 := by have := HKN.out; omega
              clear hbn hsrc
              go_wp2_with (at_builtin; refine wpList_append_row _ rfl _ _ 24 rfl w.heap.size 3 i0 (.int .i64 0) 1 8 Tryd.underlying24 hi hz0 hz1 hz2 rfl (by decide) _ _ _ rfl (HO.out.alloc _) _ 1 [.int .i64 nv] rfl HSRC.out (by simp [Value.oneCell']) (by unfold maxLen; omega) (by omega) (by simp; omega) ?_; intro v' w3 hown' hgrow hv')
              have hnew : v'.ownBlock ≠ some (we.heap.size + 1) := by
                rcases hv' with h | h
                · rw [h]; exact HNE.out
                · rw [h]; intro e; simp at e; omega
              have hL3 : Rows8 w3 (we.heap.size + 1) 3 #[.int .i64 s1, .int .i64 s2] := (hgrow.block _ (by simp; omega) (fun e => HNE.out e.symm)).trans (HL2.out.alloc _)
              have hB3 := (HB.out.alloc HB.out.size (.cells #[.int .i64 nv] 3)).grown hgrow (by simp; omega) (fun j ej => (World.ownsRow.lt (HO.out.alloc (.cells #[.int .i64 nv] 3)) j ej).1)
              exact ⟨⟨i + 1, mi + 1, ri ++ [nv], v', by omega, by go_num, rfl, Lib.hid hadd.out.symm, Lib.hid (by rw [hmi.out]; simp), by omega, by rw [intVals_snoc]; exact hown', hnew, hL3, hB3⟩, by simp [intOf]; omega⟩
            · have hadd : Hid (rowI f g s1 s2 r (i + 1) = ri) := Lib.hid (by rw [HRW.out, addE_no (fun h => h2 h.2)])
              go_wp2
              exact ⟨⟨i + 1, mi, ri, v2, by omega, by go_num, rfl, Lib.hid hadd.out.symm, hmi, by omega, HO.out, HNE.out, HL2.out, HB.out⟩, by simp [intOf]; omega⟩
          · have hadd : Hid (rowI f g s1 s2 r (i + 1) = ri) := Lib.hid (by rw [HRW.out, addE_no (fun h => h1 h.1)])
            go_wp2
            exact ⟨⟨i + 1, mi, ri, v2, by omega, by go_num, rfl, Lib.hid hadd.out.symm, hmi, by omega, HO.out, HNE.out, HL2.out, HB.out⟩, by simp [intOf]; omega⟩
        · obtain rfl : i = 2 := by omega
          have hfin : Hid (ri = edgR (l.take (k + 1)) f g) := Lib.hid (by rw [hri.out, HSN.out]; simp [rowI])
          clear hri
          go_wp2
          exact ⟨⟨k + 1, mi, ri, v2, by omega, by go_num, rfl, hmi, by have := HKN.out; omega, hfin, hO, hB⟩, by simp [intOf]; omega⟩
    · obtain rfl : k = n := by omega
      have hfin : Hid (r = edgR l f g) := Lib.hid (by rw [hr.out, List.take_of_length_le (Nat.le_of_eq HN.out.symm)])
      obtain ⟨_, y, c, rfl, _⟩ := rowAt_own hO
      have HO := Lib.hid hO
      clear hr hO
      go_wp2
      go_ret
      exact ⟨y, c, by rw [← hfin.out, ← hm.out]; rfl, by rw [← hfin.out]; unfold IntsAt; rw [← hm.out]; exact rowAt_own HO.out, hB⟩

set_option maxRecDepth 100000 in
set_option maxHeartbeats 2000000 in
theorem Tryd.refClear_any (f g : Int) (x : Option Addr) (n cap : Nat) (l : List (Int × Int)) (hs : n ≤ 1000) (w : World) (hI : PAt w (.slice x n cap) l) :
    Calls Tryd.prog 23 #[.slice x n cap, .int .i64 f, .int .i64 g] w fun e w' => e = .returned (.bool (refClearB l f g)) ∧ Below w.heap.size w w' := by
  have HE := Lib.hid (Tryd.refEdges_any f g x n cap l hs w hI)
  have HO := fun z w' (hB : Below w.heap.size w w') => Lib.hid (Tryd.refOpen_any z x n cap l w' (hI.below hB))
  have hd : refClearB l f g = (edgR l f g).all fun n => !openB l n := rfl
  rw [hd]
  clear hI hd
  generalize edgR l f g = es at *
  obtain ⟨m, hm⟩ : ∃ m, m = es.length := ⟨_, rfl⟩
  rw [← hm] at HE
  have HM := Lib.hid hm
  clear hm
  go_enter Tryd.func23, Tryd.ntmps23
  go_wp2_with fail
  refine HE.out.mono ?_
  rintro e w1 ⟨y, c, rfl, hI, hB⟩
  have hmb := (ints_len hI).2
  have hmb2 : m ≤ maxLen := by omega
  unfold maxLen at hmb2
  have HI := Lib.hid hI
  have HB := Lib.hid hB
  clear hI hB hmb HE
  go_wp2_with fail
  go_loopw [14] (fun jv wr => ∃ k : Nat, k ≤ m ∧ jv = .int .i64 k ∧ Hid ((es.all fun n => !openB l n) = ((es.drop k).all fun n => !openB l n)) ∧ Below w1.heap.size w1 wr) (fun jv _ => m - (intOf jv).toNat)
  case atStart => exact ⟨0, Nat.zero_le _, rfl, Lib.hid rfl, Below.refl _ _⟩
  case round =>
    obtain ⟨k, hk, rfl, hx, hB⟩ := hrel
    by_cases hlt : k < m
    · have hkl : k < es.length := by rw [← HM.out]; exact hlt
      obtain ⟨b, off, rfl, hb, p0⟩ := ints_get (RowAt.below HI.out hB) k hkl
      have hd := hx.out
      rw [drop_next es k hkl, List.all_cons] at hd
      have HC := HO es[k] wr (HB.out.trans (hB.mono HB.out.size))
      generalize es[k] = z at *
      have hki : (k : Int) < (m : Int) := by omega
      have HBB := Lib.hid hB
      cases ho : openB l z with
      | true =>
        rw [ho] at HC hd
        have hr : Hid ((es.all fun n => !openB l n) = false) := Lib.hid (by rw [hd]; rfl)
        clear hd ho hx hB hkl
        go_wp2_with fail
        refine HC.out.mono ?_
        rintro e w2 ⟨rfl, hB2⟩
        have HB2 := Lib.hid (HB.out.trans ((HBB.out.trans (hB2.mono HBB.out.size)).mono HB.out.size))
        clear hB2
        go_wp2_with fail
        go_ret
        exact ⟨by rw [hr.out]; rfl, HB2.out⟩
      | false =>
        rw [ho] at HC hd
        have hr : Hid ((es.all fun n => !openB l n) = ((es.drop (k + 1)).all fun n => !openB l n)) := Lib.hid (by rw [hd]; simp)
        clear hd ho hx hB hkl
        go_wp2_with fail
        refine HC.out.mono ?_
        rintro e w2 ⟨rfl, hB2⟩
        have HB2 := Lib.hid (HBB.out.trans (hB2.mono HBB.out.size))
        clear hB2
        go_wp2_with fail
        exact ⟨⟨k + 1, by omega, by go_num, hr, HB2.out⟩, by simp [intOf]; omega⟩
    · obtain rfl : k = m := by omega
      have hr : Hid ((es.all fun n => !openB l n) = true) := Lib.hid (by rw [hx.out, List.drop_of_length_le (Nat.le_of_eq HM.out.symm)]; rfl)
      clear hx
      go_wp2
      go_ret
      exact ⟨by rw [hr.out]; rfl, HB.out.trans (hB.mono HB.out.size)⟩
end Go.Proofs
