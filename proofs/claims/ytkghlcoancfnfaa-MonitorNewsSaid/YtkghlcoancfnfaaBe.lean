/- Monitor: whether all rows fit; which monitors may be. -/
import Derived.Test.YtkghlcoancfnfaaBd
namespace Go.Proofs
set_option maxRecDepth 100000
open Go.RowKit Go.Shelf
attribute [local go_sem] Oper.semAt_some

theorem fitRow_next {α : Type} {bad : List α → α → Bool} (l : List α) (k : Nat) (h : k < l.length) (pre : List α) : fitRow bad pre (l.drop k) = (!bad pre l[k] && fitRow bad (pre ++ [l[k]]) (l.drop (k + 1))) := by
  rw [List.drop_eq_getElem_cons h]; rfl
theorem fitFrom_next {α : Type} {bad : Nat → List α → α → Bool} (L : List (List α)) (k : Nat) (h : k < L.length) : fitFrom bad k (L.drop k) = (fitRow (bad k) [] L[k] && fitFrom bad (k + 1) (L.drop (k + 1))) := by
  rw [List.drop_eq_getElem_cons h]; rfl
set_option maxHeartbeats 8000000 in
theorem Try.fitE_any (g G : FuncId) (fst : Array Value) (St : Nat → List Pr → Array Value → World → Prop) (bad : Nat → List Pr → Pr → Bool) (a : Option Addr) (n cap : Nat) (L : List (List Pr)) (w : World) (hI : HasAt w (.slice a n cap) L) (hn9 : n ≤ 10000) (hz9 : ∀ l ∈ L, l.length ≤ 10000)
    (eg : ∀ args w, (callFunc g args).run Try.prog w = .ok (.enter g args) w) (eG : ∀ args w, (callFunc G args).run Try.prog w = .ok (.enter G args) w)
    (hin : ∀ (k : Nat) (W : World), k < L.length → Below w.heap.size w W → Calls Try.prog g (fst.push (.int .i64 (k : Nat))) W fun e w' => ∃ cp, e = .returned (.func (.func G) #[] cp) ∧ St k [] cp w' ∧ Below w.heap.size W w')
    (hst : ∀ (k : Nat) (pre : List Pr) (x : Pr) (cp : Array Value) (W : World), (h : k < L.length) → x ∈ L[k] → pre.length ≤ L[k].length → Below w.heap.size w W → St k pre cp W → Calls Try.prog G (#[.agg #[.int .i64 x.1, .int .u64 (x.2 : Nat)]] ++ cp) W fun e w' => e = .returned (.bool (bad k pre x)) ∧ St k (pre ++ [x]) cp w' ∧ Below w.heap.size W w')
    (hb : ∀ (k : Nat) (pre : List Pr) (cp : Array Value) (A B : World), St k pre cp A → Below A.heap.size A B → St k pre cp B) :
    Calls Try.prog 61 #[.func (.func g) fst #[], .slice a n cap] w fun e w' => e = .returned (.bool (fitFrom bad 0 L)) ∧ Below w.heap.size w w' := by
  obtain ⟨R, hR⟩ : ∃ R, R = fitFrom bad 0 L := ⟨_, rfl⟩
  rw [← hR]
  have HR := Lib.hid hR
  have HN := Lib.hid (hasAt_len hI).1
  have HI := Lib.hid hI
  have HIN := Lib.hid hin
  have HST := Lib.hid hst
  have HBB := Lib.hid hb
  clear hR hI hin hst hb
  go_enter Try.func61, Try.ntmps61
  go_wp2_with fail
  go_step3
  go_wp2_with fail
  go_step3
  go_wp2_with fail
  go_loopw [5, 13] (fun f i wr => ∃ k : Nat, k ≤ n ∧ f = .bool true ∧ i = .int .i64 k ∧ Hid (R = fitFrom bad k (L.drop k)) ∧ Hid (Below w.heap.size w wr)) (fun _ i _ => n - (intOf i).toNat)
  case atStart => exact ⟨0, Nat.zero_le _, rfl, rfl, HR, Lib.hid (Below.refl _ _)⟩
  case round =>
    obtain ⟨k, hk, rfl, rfl, hr, hB⟩ := hrel
    by_cases hlt : k < n
    · have hkl : k < L.length := by rw [← HN.out]; exact hlt
      have hki : (k : Int) < (n : Int) := by omega
      have hki0 : (0 : Int) ≤ (k : Int) := by omega
      obtain ⟨b, off, ar, cr, rfl, hb2, hc, hp⟩ := hasAt_get HI.out k hkl
      have hr2 := hr.out
      rw [fitFrom_next L k hkl] at hr2
      have hst2 := fun pre x cp W => HST.out k pre x cp W hkl
      obtain ⟨row, hrow⟩ : ∃ r, r = L[k] := ⟨_, rfl⟩
      rw [← hrow] at hc hp hr2 hst2
      have hc := (hB.out.cell (p := ⟨b, off + k, none⟩) hb2).trans hc
      obtain ⟨m, hm⟩ : ∃ m, m = row.length := ⟨_, rfl⟩
      rw [← hm] at hc hp
      have hm9 : m ≤ 10000 := by rw [hm, hrow]; exact hz9 _ (List.getElem_mem hkl)
      have HP := Lib.hid hp
      have HR2 := Lib.hid hr2
      have HS2 := Lib.hid hst2
      have HM := Lib.hid hm
      have HIk := Lib.hid (HIN.out k wr hkl hB.out)
      clear hp hr2 hst2 hm hr hrow hkl hb2
      go_wp2_with fail
      refine HIk.out.mono ?_
      rintro e w1 ⟨cp, rfl, hs, hB1⟩
      have HB1 := Lib.hid (hB.out.trans hB1)
      have HS1 := Lib.hid hs
      clear hs hB1 hc
      go_wp2_with fail
      go_loopw [5, 23] (fun f i wx => ∃ j : Nat, j ≤ m ∧ f = .bool true ∧ i = .int .i64 j ∧ Hid (R = (fitRow (bad k) (row.take j) (row.drop j) && fitFrom bad (k + 1) (L.drop (k + 1)))) ∧ Hid (St k (row.take j) cp wx) ∧ Hid (Below w.heap.size w wx)) (fun _ i _ => m - (intOf i).toNat)
      case atStart => exact ⟨0, Nat.zero_le _, rfl, rfl, HR2, HS1, HB1⟩
      case round =>
        obtain ⟨j, hj, rfl, rfl, hx, hs, hBx⟩ := hrel
        by_cases hjt : j < m
        · have hjl : j < row.length := by rw [← HM.out]; exact hjt
          have hji : (j : Int) < (m : Int) := by omega
          have hji0 : (0 : Int) ≤ (j : Int) := by omega
          obtain ⟨b1, o1, rfl, hb1, z0, z1⟩ := pAt_get HP.out j hjl
          have p0 := (hBx.out.cell (p := ⟨b1, o1 + j * 2, none⟩) hb1).trans z0
          have p1 := (hBx.out.cell (p := ⟨b1, o1 + j * 2 + 1, none⟩) hb1).trans z1
          clear z0 z1
          have hx2 := hx.out
          rw [fitRow_next row j hjl] at hx2
          have htk : row.take (j + 1) = row.take j ++ [row[j]] := List.take_succ_eq_append_getElem hjl
          have hel : row[j] ∈ row := List.getElem_mem hjl
          obtain ⟨e, he⟩ : ∃ e, e = row[j] := ⟨_, rfl⟩
          rw [← he] at p0 p1 hx2 htk hel
          obtain ⟨i, q⟩ := e
          dsimp only at p0 p1
          have hal : Below wr.heap.size wr (wr.alloc (.cells #[.int .i64 i, .int .u64 (q : Nat)] 38)) := Rows8.newB
          have hcl := HS2.out (row.take j) (i, q) cp (wr.alloc (.cells #[.int .i64 i, .int .u64 (q : Nat)] 38)) hel (by rw [List.length_take]; omega) (hBx.out.trans (hal.mono hBx.out.size)) (HBB.out _ _ _ _ _ hs.out hal)
          dsimp only at hcl
          have HCL := Lib.hid hcl
          have HX2 := Lib.hid hx2
          have HTK := Lib.hid htk
          have HBx := Lib.hid (hBx.out.trans (hal.mono hBx.out.size))
          clear hx2 htk hel he hal hcl hx hs hBx hjl hb1 hc
          go_wp2_with fail
          refine HCL.out.mono ?_
          rintro r w2 ⟨rfl, hs2, hB2⟩
          have HB2 := Lib.hid (HBx.out.trans hB2)
          have HS2b := Lib.hid (show St k (row.take (j + 1)) cp w2 by rw [HTK.out]; exact hs2)
          clear hs2 hB2
          cases hbd : bad k (row.take j) (i, q) with
          | false =>
            have HX3 := Lib.hid (show R = (fitRow (bad k) (row.take (j + 1)) (row.drop (j + 1)) && fitFrom bad (k + 1) (L.drop (k + 1))) by rw [HX2.out, HTK.out, hbd]; rfl)
            clear hbd
            go_wp2_with fail
            exact ⟨⟨j + 1, by omega, rfl, by go_num, HX3, HS2b, HB2⟩, by simp [intOf]; omega⟩
          | true =>
            have h9 : Hid (R = false) := Lib.hid (by rw [HX2.out, hbd]; rfl)
            clear hbd
            go_wp2_with fail
            rw [Exit.noGoto_ret]
            go_ret
            exact ⟨by rw [h9.out]; rfl, HB2.out⟩
        · obtain rfl : j = m := by omega
          have hji : ¬ (j : Int) < (j : Int) := by omega
          have HR3 : Hid (R = fitFrom bad (k + 1) (L.drop (k + 1))) := Lib.hid (by have h := hx.out; rw [List.drop_of_length_le (Nat.le_of_eq HM.out.symm)] at h; rw [h]; rfl)
          go_wp2_with fail
          go_roundw
          case rel => exact ⟨k + 1, by omega, rfl, by go_num, HR3, hBx⟩
          case measure => simp [intOf]; omega
    · obtain rfl : k = n := by omega
      have hki : ¬ (k : Int) < (k : Int) := by omega
      have h9 : Hid (R = true) := Lib.hid (by have := hr.out; rwa [List.drop_of_length_le (Nat.le_of_eq HN.out.symm)] at this)
      go_wp2_with fail
      first | rw [Exit.noGoto_ret] | skip
      go_ret
      exact ⟨by rw [h9.out]; rfl, hB.out⟩

/-- Rows of watches, in a row. -/
def HasWAt (W : World) (v : Value) (L : List (List Wt)) : Prop := ∃ vs : List Value, RowAt W v L.length 1 vs ∧ ∀ i (h : i < L.length), ∃ a c, vs[i]? = some (.slice a L[i].length c) ∧ WAt W (.slice a L[i].length c) L[i]
theorem hasWAt_len {W : World} {x : Option Addr} {n cap : Nat} {L : List (List Wt)} (h : HasWAt W (.slice x n cap) L) : n = L.length ∧ n ≤ cap ∧ cap ≤ maxLen := by
  obtain ⟨vs, ⟨h0, a, c, e, h1, h2, _⟩, _⟩ := h
  cases e
  exact ⟨rfl, h1, h2⟩
theorem hasWAt_get {W : World} {x : Option Addr} {n cap : Nat} {L : List (List Wt)} (h : HasWAt W (.slice x n cap) L) (j : Nat) (hj : j < L.length) :
    ∃ b off a c, x = some ⟨b, off, none⟩ ∧ b < W.heap.size ∧ W.cell? ⟨b, off + j, none⟩ = some (.slice a L[j].length c) ∧ WAt W (.slice a L[j].length c) L[j] := by
  obtain ⟨vs, ⟨h0, a, cap', e, _, _, _, hc⟩, h2⟩ := h
  cases e
  obtain ⟨b, off, e, hb, g⟩ := hc j (by omega)
  obtain ⟨a, c, e2, h3⟩ := h2 j hj
  exact ⟨b, off, a, c, e, hb, g.trans e2, h3⟩
set_option maxHeartbeats 8000000 in
theorem Try.fitW_any (g G : FuncId) (fst : Array Value) (St : Nat → List Wt → Array Value → World → Prop) (bad : Nat → List Wt → Wt → Bool) (a : Option Addr) (n cap : Nat) (L : List (List Wt)) (w : World) (hI : HasWAt w (.slice a n cap) L) (hn9 : n ≤ 10000) (hz9 : ∀ l ∈ L, l.length ≤ 10000)
    (eg : ∀ args w, (callFunc g args).run Try.prog w = .ok (.enter g args) w) (eG : ∀ args w, (callFunc G args).run Try.prog w = .ok (.enter G args) w)
    (hin : ∀ (k : Nat) (W : World), k < L.length → Below w.heap.size w W → Calls Try.prog g (fst.push (.int .i64 (k : Nat))) W fun e w' => ∃ cp, e = .returned (.func (.func G) #[] cp) ∧ St k [] cp w' ∧ Below w.heap.size W w')
    (hst : ∀ (k : Nat) (pre : List Wt) (x : Wt) (cp : Array Value) (W : World), (h : k < L.length) → x ∈ L[k] → pre.length ≤ L[k].length → Below w.heap.size w W → St k pre cp W → Calls Try.prog G (#[.agg #[.int .i64 x.kind, .int .i64 x.goer, .int .i64 x.slab, .int .u64 (x.gen : Nat)]] ++ cp) W fun e w' => e = .returned (.bool (bad k pre x)) ∧ St k (pre ++ [x]) cp w' ∧ Below w.heap.size W w')
    (hb : ∀ (k : Nat) (pre : List Wt) (cp : Array Value) (A B : World), St k pre cp A → Below A.heap.size A B → St k pre cp B) :
    Calls Try.prog 63 #[.func (.func g) fst #[], .slice a n cap] w fun e w' => e = .returned (.bool (fitFrom bad 0 L)) ∧ Below w.heap.size w w' := by
  obtain ⟨R, hR⟩ : ∃ R, R = fitFrom bad 0 L := ⟨_, rfl⟩
  rw [← hR]
  have HR := Lib.hid hR
  have HN := Lib.hid (hasWAt_len hI).1
  have HI := Lib.hid hI
  have HIN := Lib.hid hin
  have HST := Lib.hid hst
  have HBB := Lib.hid hb
  clear hR hI hin hst hb
  go_enter Try.func63, Try.ntmps63
  go_wp2_with fail
  go_step3
  go_wp2_with fail
  go_step3
  go_wp2_with fail
  go_loopw [5, 13] (fun f i wr => ∃ k : Nat, k ≤ n ∧ f = .bool true ∧ i = .int .i64 k ∧ Hid (R = fitFrom bad k (L.drop k)) ∧ Hid (Below w.heap.size w wr)) (fun _ i _ => n - (intOf i).toNat)
  case atStart => exact ⟨0, Nat.zero_le _, rfl, rfl, HR, Lib.hid (Below.refl _ _)⟩
  case round =>
    obtain ⟨k, hk, rfl, rfl, hr, hB⟩ := hrel
    by_cases hlt : k < n
    · have hkl : k < L.length := by rw [← HN.out]; exact hlt
      have hki : (k : Int) < (n : Int) := by omega
      have hki0 : (0 : Int) ≤ (k : Int) := by omega
      obtain ⟨b, off, ar, cr, rfl, hb2, hc, hp⟩ := hasWAt_get HI.out k hkl
      have hr2 := hr.out
      rw [fitFrom_next L k hkl] at hr2
      have hst2 := fun pre x cp W => HST.out k pre x cp W hkl
      obtain ⟨row, hrow⟩ : ∃ r, r = L[k] := ⟨_, rfl⟩
      rw [← hrow] at hc hp hr2 hst2
      have hc := (hB.out.cell (p := ⟨b, off + k, none⟩) hb2).trans hc
      obtain ⟨m, hm⟩ : ∃ m, m = row.length := ⟨_, rfl⟩
      rw [← hm] at hc hp
      have hm9 : m ≤ 10000 := by rw [hm, hrow]; exact hz9 _ (List.getElem_mem hkl)
      have HP := Lib.hid hp
      have HR2 := Lib.hid hr2
      have HS2 := Lib.hid hst2
      have HM := Lib.hid hm
      have HIk := Lib.hid (HIN.out k wr hkl hB.out)
      clear hp hr2 hst2 hm hr hrow hkl hb2
      go_wp2_with fail
      refine HIk.out.mono ?_
      rintro e w1 ⟨cp, rfl, hs, hB1⟩
      have HB1 := Lib.hid (hB.out.trans hB1)
      have HS1 := Lib.hid hs
      clear hs hB1 hc
      go_wp2_with fail
      go_loopw [5, 23] (fun f i wx => ∃ j : Nat, j ≤ m ∧ f = .bool true ∧ i = .int .i64 j ∧ Hid (R = (fitRow (bad k) (row.take j) (row.drop j) && fitFrom bad (k + 1) (L.drop (k + 1)))) ∧ Hid (St k (row.take j) cp wx) ∧ Hid (Below w.heap.size w wx)) (fun _ i _ => m - (intOf i).toNat)
      case atStart => exact ⟨0, Nat.zero_le _, rfl, rfl, HR2, HS1, HB1⟩
      case round =>
        obtain ⟨j, hj, rfl, rfl, hx, hs, hBx⟩ := hrel
        by_cases hjt : j < m
        · have hjl : j < row.length := by rw [← HM.out]; exact hjt
          have hji : (j : Int) < (m : Int) := by omega
          have hji0 : (0 : Int) ≤ (j : Int) := by omega
          obtain ⟨b1, o1, rfl, hb1, z0, z1, z2, z3⟩ := wAt_get HP.out j hjl
          have p0 := (hBx.out.cell (p := ⟨b1, o1 + j * 4, none⟩) hb1).trans z0
          have p1 := (hBx.out.cell (p := ⟨b1, o1 + j * 4 + 1, none⟩) hb1).trans z1
          have p2 := (hBx.out.cell (p := ⟨b1, o1 + j * 4 + 2, none⟩) hb1).trans z2
          have p3 := (hBx.out.cell (p := ⟨b1, o1 + j * 4 + 3, none⟩) hb1).trans z3
          clear z0 z1 z2 z3
          have hx2 := hx.out
          rw [fitRow_next row j hjl] at hx2
          have htk : row.take (j + 1) = row.take j ++ [row[j]] := List.take_succ_eq_append_getElem hjl
          have hel : row[j] ∈ row := List.getElem_mem hjl
          obtain ⟨e, he⟩ : ∃ e, e = row[j] := ⟨_, rfl⟩
          rw [← he] at p0 p1 p2 p3 hx2 htk hel
          obtain ⟨kd, gr, i, q⟩ := e
          dsimp only at p0 p1 p2 p3
          have hal : Below wr.heap.size wr (wr.alloc (.cells #[.int .i64 kd, .int .i64 gr, .int .i64 i, .int .u64 (q : Nat)] 40)) := Rows8.newB
          have hcl := HS2.out (row.take j) ⟨kd, gr, i, q⟩ cp (wr.alloc (.cells #[.int .i64 kd, .int .i64 gr, .int .i64 i, .int .u64 (q : Nat)] 40)) hel (by rw [List.length_take]; omega) (hBx.out.trans (hal.mono hBx.out.size)) (HBB.out _ _ _ _ _ hs.out hal)
          dsimp only at hcl
          have HCL := Lib.hid hcl
          have HX2 := Lib.hid hx2
          have HTK := Lib.hid htk
          have HBx := Lib.hid (hBx.out.trans (hal.mono hBx.out.size))
          clear hx2 htk hel he hal hcl hx hs hBx hjl hb1 hc
          go_wp2_with fail
          refine HCL.out.mono ?_
          rintro r w2 ⟨rfl, hs2, hB2⟩
          have HB2 := Lib.hid (HBx.out.trans hB2)
          have HS2b := Lib.hid (show St k (row.take (j + 1)) cp w2 by rw [HTK.out]; exact hs2)
          clear hs2 hB2
          cases hbd : bad k (row.take j) ⟨kd, gr, i, q⟩ with
          | false =>
            have HX3 := Lib.hid (show R = (fitRow (bad k) (row.take (j + 1)) (row.drop (j + 1)) && fitFrom bad (k + 1) (L.drop (k + 1))) by rw [HX2.out, HTK.out, hbd]; rfl)
            clear hbd
            go_wp2_with fail
            exact ⟨⟨j + 1, by omega, rfl, by go_num, HX3, HS2b, HB2⟩, by simp [intOf]; omega⟩
          | true =>
            have h9 : Hid (R = false) := Lib.hid (by rw [HX2.out, hbd]; rfl)
            clear hbd
            go_wp2_with fail
            rw [Exit.noGoto_ret]
            go_ret
            exact ⟨by rw [h9.out]; rfl, HB2.out⟩
        · obtain rfl : j = m := by omega
          have hji : ¬ (j : Int) < (j : Int) := by omega
          have HR3 : Hid (R = fitFrom bad (k + 1) (L.drop (k + 1))) := Lib.hid (by have h := hx.out; rw [List.drop_of_length_le (Nat.le_of_eq HM.out.symm)] at h; rw [h]; rfl)
          go_wp2_with fail
          go_roundw
          case rel => exact ⟨k + 1, by omega, rfl, by go_num, HR3, hBx⟩
          case measure => simp [intOf]; omega
    · obtain rfl : k = n := by omega
      have hki : ¬ (k : Int) < (k : Int) := by omega
      have h9 : Hid (R = true) := Lib.hid (by have := hr.out; rwa [List.drop_of_length_le (Nat.le_of_eq HN.out.symm)] at this)
      go_wp2_with fail
      first | rw [Exit.noGoto_ret] | skip
      go_ret
      exact ⟨by rw [h9.out]; rfl, hB.out⟩
end Go.Proofs
