/- Who waits, told. -/
import Derived.Test.YtliecdpgajchbaaMg
namespace Go.Proofs
open Go.RowKit Go.Shelf
attribute [local go_sem] Oper.semAt_some

def pairsF : Nat → List Mx → List (Int × Nat)
  | _, [] => []
  | k, m :: t => (m.q.map fun g => (g, k)) ++ pairsF (k + 1) t
def pairsB (ms : List Mx) : List (Int × Nat) := pairsF 0 ms
def cntQ (ms : List Mx) (k : Nat) : Nat := (flatQ (ms.take k)).length
theorem pairsF_length (k : Nat) (ms : List Mx) : (pairsF k ms).length = (flatQ ms).length := by
  induction ms generalizing k with
  | nil => rfl
  | cons m t ih =>
    have e : flatQ (m :: t) = m.q ++ flatQ t := by simp [flatQ]
    rw [e, pairsF, List.length_append, List.length_append, List.length_map, ih]
theorem pairsF_get (j : Nat) (ms : List Mx) (k i : Nat) (hk : k < ms.length) (hi : i < (ms[k]).q.length) : (pairsF j ms)[cntQ ms k + i]? = some ((ms[k]).q[i], j + k) := by
  induction ms generalizing j k with
  | nil => simp at hk
  | cons m t ih =>
    cases k with
    | zero =>
      simp only [List.getElem_cons_zero] at hi ⊢
      have e0 : cntQ (m :: t) 0 = 0 := rfl
      rw [e0, Nat.zero_add, pairsF, List.getElem?_append_left (by rw [List.length_map]; exact hi)]
      simp [hi]
    | succ k =>
      simp only [List.getElem_cons_succ] at hi ⊢
      have e0 : cntQ (m :: t) (k + 1) = m.q.length + cntQ t k := by
        unfold cntQ
        rw [List.take_succ_cons]
        simp [flatQ]
      rw [e0, pairsF, List.getElem?_append_right (by rw [List.length_map]; omega), List.length_map, show m.q.length + cntQ t k + i - m.q.length = cntQ t k + i by omega, ih (j + 1) k (by simpa using hk) hi]
      congr 2
      omega
theorem cntQ_snoc (ms : List Mx) (k : Nat) (hk : k < ms.length) : cntQ ms (k + 1) = cntQ ms k + (ms[k]).q.length := by
  unfold cntQ flatQ
  rw [take_snoc ms k hk, List.flatMap_append, List.length_append]
  simp
theorem cntQ_le (ms : List Mx) (k : Nat) : cntQ ms k ≤ (flatQ ms).length := by
  have e : flatQ ms = flatQ (ms.take k) ++ flatQ (ms.drop k) := by
    unfold flatQ
    rw [← List.flatMap_append, List.take_append_drop]
  rw [e, List.length_append]
  exact Nat.le_add_right _ _
theorem find_map (q : List Int) (g : Int) (k : Nat) : (q.map fun z => (z, k)).find? (fun y => y.1 == g) = if g ∈ q then some (g, k) else none := by
  induction q with
  | nil => rfl
  | cons z t ih =>
    rw [List.map_cons, List.find?_cons]
    by_cases h : z = g
    · subst h; simp
    · have h2 : (z == g) = false := by simp [h]
      have h3 : g ∈ z :: t ↔ g ∈ t := by simp; exact fun e => absurd e.symm h
      simp only [h2, ih, h3]
theorem waitI_find (g : Int) (ms : List Mx) (k : Nat) : waitI g ms k = match (pairsF k ms).find? (fun y => y.1 == g) with
    | none => -1
    | some y => (y.2 : Int) := by
  induction ms generalizing k with
  | nil => rfl
  | cons m t ih =>
    rw [pairsF, List.find?_append, find_map, waitI]
    by_cases h : g ∈ m.q
    · rw [if_pos h, if_pos h]; rfl
    · rw [if_neg h, if_neg h, ih]; rfl
theorem waits_none {ms : List Mx} {g : Int} (h : ∀ y ∈ pairsB ms, y.1 ≠ g) : waitsB ms g = -1 := by
  unfold waitsB
  rw [waitI_find, List.find?_eq_none.2 (fun y hy => by simpa using h y hy)]
theorem waits_some {ms : List Mx} {g : Int} {p : List (Int × Nat)} {y : Int × Nat} (hp : p ++ [y] <+: pairsB ms) (h1 : ∀ u ∈ p, u.1 ≠ g) (h2 : y.1 = g) : waitsB ms g = y.2 := by
  obtain ⟨r, hr⟩ := hp
  have hf : (pairsF 0 ms).find? (fun y => y.1 == g) = some y := by
    rw [show pairsF 0 ms = _ from hr.symm, List.find?_append, List.find?_append, List.find?_eq_none.2 (fun u hu => by simpa using h1 u hu)]
    simp [h2]
  unfold waitsB
  rw [waitI_find, hf]

theorem Kb.mx {h x : Nat} {A B : World} (p : Kb h x A B) {v : Value} {ms : List Mx} (r : MxAt A v ms) (hA : A.heap.size ≤ h) (hx : A.heap.size ≤ x) : MxAt B v ms := by
  obtain ⟨vs, h1, h2⟩ := r
  exact ⟨vs, p.row h1 hA hx, fun i hi => by obtain ⟨a, cap, e, e2, hc⟩ := h2 i hi; exact ⟨a, cap, e, e2, p.row hc hA hx⟩⟩
def encW {α : Type} (val : α → Int × Nat) (y : α) : Array Value := #[.int .i64 (val y).1, .int .i64 ((val y).2 : Nat)]

theorem Try.waiting_any (a : Option Addr) (len cap : Nat) (w : World) :
    Calls Try.prog 55 #[.slice a len cap] w fun e w' => e = .returned (.func (.func 61) #[] #[.pointer (some ⟨w.heap.size, 0, none⟩)]) ∧ w' = w.alloc (.cells #[.slice a len cap] 60) := by
  go_enter Try.func55, Try.ntmps55
  go_wp2
  go_ret
  exact ⟨rfl, rfl⟩

set_option maxRecDepth 100000 in
set_option maxHeartbeats 2000000 in
theorem Try.waiting1_tells {α : Type} (val : α → Int × Nat) (ys : List α) (d : Nat) (hd : 1 ≤ d) (Bs x : Nat) (a : Option Addr) (n cap : Nat) (ms : List Mx) (hys : ys.map val = pairsB ms) (w₀ w : World) (hx : w₀.heap.size ≤ x) (hxw : x < w.heap.size) (hw₀ : Below w₀.heap.size w₀ w)
    (hBs : Rows8 w Bs 60 #[.slice a n cap]) (hI : MxAt w₀ (.slice a n cap) ms) :
    TellsB Fence.wide d Try.prog 61 #[.pointer (some ⟨Bs, 0, none⟩)] (encW val) (Kx x) (fun xs => xs = ys) (fun pre => pre <+: ys) ys.length w := fun l J Jx W hW hJ hJx hY h0 => by
  refine callsIn_of_wp Try.func61 rfl trivial ?_ rfl
  simp only [Try.ntmps61, List.size_toArray, List.length_cons, List.length_nil, Nat.reduceAdd, Nat.reduceSub, Array.replicate_succ, Array.replicate_zero, List.push_toArray, List.append_toArray, List.nil_append, List.cons_append]
  obtain ⟨hn, hnc, hcm⟩ := mxAt_len hI
  have hreach : n ≤ maxLen := by omega
  unfold maxLen at hreach
  have HY := Lib.hid hY
  have HJ := Lib.hid hJ
  have HI := Lib.hid hI
  have HN := Lib.hid hn
  have HYS := Lib.hid hys
  have bs := hBs.below hW hBs.lt
  have c0 : W.cell? ⟨Bs, 0, none⟩ = some (.slice a n cap) := bs.cell 0
  have hBL := bs.lt
  have hw0W : Below w₀.heap.size w₀ W := hw₀.trans (hW.mono hw₀.size)
  have hxW : x < W.heap.size := by have := hW.size; omega
  have HW0 := Lib.hid hw0W
  clear hY hJ hI hn bs hBs hw0W hys hnc hcm
  gi_wp2
  gi_loopw [9] (fun j wr => ∃ k : Nat, k ≤ n ∧ j = .int .i64 k ∧ J (ys.take (cntQ ms k)) wr ∧ Kb W.heap.size x W wr) (fun j _ => n - (intOf j).toNat)
  case atStart => exact ⟨0, Nat.zero_le _, rfl, h0, Kb.refl _ _ _⟩
  case round =>
    obtain ⟨k, hk, rfl, hJs, hK⟩ := hrel
    have hKw : Kb w₀.heap.size x w₀ wr := (Kb.of_below HW0.out).trans (hK.mono HW0.out.size)
    by_cases hlt : k < n
    · have hkl : k < ms.length := by rw [← HN.out]; exact hlt
      obtain ⟨b, off, a', c', rfl, hb, p1, p2, hin⟩ := mxAt_get HI.out k hkl
      have hc1 := hKw.cell (a := ⟨b, off + k * 2, none⟩) hb (by show b ≠ x; omega) p1
      have hc2 := hKw.cell (a := ⟨b, off + k * 2 + 1, none⟩) hb (by show b ≠ x; omega) p2
      have hget := fun i hi => pairsF_get 0 ms k i hkl hi
      have hsn := cntQ_snoc ms k hkl
      have hcl := cntQ_le ms (k + 1)
      have hyl : ys.length = (flatQ ms).length := by rw [← List.length_map (f := val), HYS.out]; exact pairsF_length 0 ms
      generalize ms[k] = m at *
      obtain ⟨o, q⟩ := m
      dsimp only at hc1 hc2 hin hget hsn p1 p2
      obtain ⟨ql, hql⟩ : ∃ ql, ql = q.length := ⟨_, rfl⟩
      rw [← hql] at hc2 hin hsn
      have hql2 := ints_len hin
      have hqlb : ql ≤ maxLen := by omega
      unfold maxLen at hqlb
      have hki : (k : Int) < (n : Int) := by omega
      have hB1 : Below wr.heap.size wr (wr.alloc (.cells #[.int .i64 o, .slice a' ql c'] 53)) := Rows8.newB
      have HJ1 := Lib.hid (HJ.out _ _ _ hJs (hB1.mono hK.size))
      have HK1 := Lib.hid (hK.trans (Kb.of_below (hB1.mono hK.size)))
      have HQL := Lib.hid hql
      have HGET := Lib.hid hget
      have HSN := Lib.hid hsn
      have HIN := Lib.hid hin
      have hcy : cntQ ms k + ql ≤ ys.length := by omega
      have hbr : b < wr.heap.size := by have := hKw.size; omega
      clear hJs hK hget hql hsn hcl hyl hql2 hin hkl hB1 p1 p2 hKw
      gi_wp2
      generalize (wr.alloc (.cells #[.int .i64 o, .slice a' ql c'] 53)) = W1 at *
      gi_loopw [17] (fun j wr => ∃ i : Nat, i ≤ ql ∧ j = .int .i64 i ∧ J (ys.take (cntQ ms k + i)) wr ∧ Kb W.heap.size x W wr) (fun j _ => ql - (intOf j).toNat)
      case atStart => exact ⟨0, Nat.zero_le _, rfl, HJ1.out, HK1.out⟩
      case round =>
        obtain ⟨i, hi, rfl, hJs, hK⟩ := hrel
        have hKw : Kb w₀.heap.size x w₀ wr := (Kb.of_below HW0.out).trans (hK.mono HW0.out.size)
        by_cases hil : i < ql
        · have hiq : i < q.length := by rw [← HQL.out]; exact hil
          have hin2 := hKw.row HIN.out (Nat.le_refl _) hx
          obtain ⟨b2, off2, rfl, hb2, hc⟩ := intsAt_get hin2 i hiq
          rw [getD_int q i hiq] at hc
          have hg := HGET.out i hiq
          rw [Nat.zero_add] at hg
          have hyl : cntQ ms k + i < ys.length := by omega
          have hyv : val (ys[cntQ ms k + i]) = (q[i], k) := by
            have h2 : (ys.map val)[cntQ ms k + i]? = some (val (ys[cntQ ms k + i])) := by rw [List.getElem?_map, List.getElem?_eq_getElem hyl]; rfl
            rw [HYS.out] at h2
            exact Option.some.inj (h2.symm.trans hg)
          have hts := take_snoc ys (cntQ ms k + i) hyl
          generalize q[i] = z at *
          generalize ys[cntQ ms k + i] = y at *
          obtain ⟨fn, tmps, assign, body, hy, hR⟩ := HY.out _ y wr hJs (by rw [List.length_take]; omega)
          unfold encW at hy
          rw [hyv] at hy
          dsimp only at hy
          have hii : (i : Int) < (ql : Int) := by omega
          have HTS := Lib.hid hts
          have HK := Lib.hid hK
          clear hts hg hyv hin2 hJs hKw hK hiq
          gi_wp2_with fail
          refine hR.mono ?_
          rintro e w5 (⟨rfl, hJ5, hk5, hx5⟩ | ⟨rfl, hJx5, hk5⟩)
          · have HK5 := Lib.hid (HK.out.trans (Kb.of_kx hx5))
            have HJ5 := Lib.hid hJ5
            clear hx5 hk5 hJ5
            gi_wp2_with fail
            go_roundw
            case rel => exact ⟨i + 1, by omega, by go_num, by rw [← Nat.add_assoc, HTS.out]; exact HJ5.out, HK5.out⟩
            case measure => simp [intOf]; omega
          · have HJ5 := Lib.hid hJx5
            clear hk5 hJx5
            gi_wp2_with fail
            refine bodyPost_ret (results_none rfl _ _ _) rfl ?_
            exact ⟨⟨_, rfl⟩, .inr ⟨_, List.take_prefix (cntQ ms k + i + 1) ys, by rw [HTS.out]; exact HJ5.out⟩⟩
        · obtain rfl : i = ql := by omega
          have HJ5 := Lib.hid hJs
          have HK5 := Lib.hid hK
          clear hJs hK hKw
          gi_wp2
          go_roundw
          case rel => exact ⟨k + 1, by omega, by go_num, by rw [HSN.out]; exact HJ5.out, HK5.out⟩
          case measure => simp [intOf]; omega
    · obtain rfl : k = n := by omega
      have hfin : Hid (ys.take (cntQ ms k) = ys) := Lib.hid (by
        refine List.take_of_length_le ?_
        have hyl : ys.length = (flatQ ms).length := by rw [← List.length_map (f := val), HYS.out]; exact pairsF_length 0 ms
        rw [hyl]
        unfold cntQ
        rw [List.take_of_length_le (Nat.le_of_eq HN.out.symm)]
        exact Nat.le_refl _)
      gi_wp2
      go_end0
      exact ⟨⟨_, rfl⟩, .inl ⟨_, rfl, by rw [hfin.out] at hJs; exact hJs⟩⟩
end Go.Proofs
