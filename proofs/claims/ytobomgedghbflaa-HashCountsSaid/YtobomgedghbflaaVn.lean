/- breakPatterns of rows of words. -/
import Derived.Test.YtobomgedghbflaaVu
import Derived.Test.YtobomgedghbflaaVb
import Derived.Sort.Walk7
namespace Go.Proofs
open Go.RowKit Go.Shelf
attribute [local go_sem] Oper.semAt_some

theorem Rows8.drewN {W : World} {B : Nat} {t : TypeId} {cs : Array Value} (h : Rows8 W B t cs) (n : Nat) : Rows8 (W.drewN n) B t cs := by
  unfold Rows8 at h ⊢; exact h

theorem Rows8.set1 {W : World} {B : Nat} {t : TypeId} {v : Value} (h : Rows8 W B t #[v]) (u : Value) : Rows8 (W.setCell ⟨B, 0, none⟩ u) B t #[u] := by
  have := h.set 0 u
  simpa using this
theorem SRow.other {W : World} {B cap : Nat} {d : Array Int} (h : SRow W B cap d) {a : Addr} (ha : a.block ≠ B) (v : Value) : SRow (W.setCell a v) B cap d := by
  obtain ⟨cs, hR, h2⟩ := h
  exact ⟨cs, hR.setOther ha v, h2⟩
theorem SRow.alloc {W : World} {B cap : Nat} {d : Array Int} (h : SRow W B cap d) (o : Obj) : SRow (W.alloc o) B cap d := by
  obtain ⟨cs, hR, h2⟩ := h
  exact ⟨cs, hR.alloc o, h2⟩
theorem grown_other {A W : World} {B : Nat} (h : A.grownBy W (some B)) {a : Addr} (ha : A.heap.size ≤ a.block) (v : Value) : A.grownBy (W.setCell a v) (some B) :=
  ⟨h.os, h.tape, h.output, by simpa [World.setCell] using h.size, fun k hk hne => (Below.heap_setCell W a v k (by omega)).trans (h.block k hk hne)⟩
set_option maxRecDepth 100000 in
set_option maxHeartbeats 8000000 in
theorem Try.breakPatterns_any (B cap a L n cp : Nat) (d : Array Int) (hd : d.size ≤ 1000000) (hn : n = d.size) (h8 : 8 ≤ L) (hb : a + L ≤ n) (w : World) (hS : SRow w B cap d) :
    Calls Try.prog 31 #[.slice (some ⟨B, 0, none⟩) n cp, .int .i64 (a : Int), .int .i64 ((a + L : Nat) : Int)] w fun e w' => e = .returned (.tuple #[]) ∧ SRow w' B cap (Sort.breakPatterns d a (a + L)) ∧ w.grownBy w' (some B) := by
  rw [breakPatterns_eq d a L h8]
  obtain ⟨M, hM⟩ : ∃ M : Nat, M = 1 <<< Sort.bitsLen L := ⟨_, rfl⟩
  have hM1 : 1 ≤ M := by rw [hM, Nat.one_shiftLeft]; exact Nat.two_pow_pos _
  have hM2 : M ≤ 2 * L := by rw [hM, Nat.one_shiftLeft]; exact Sort.two_pow_bitsLen_le (by omega)
  have hNP : ∀ w, Hid (Calls Try.prog 49 #[.int .i64 (L : Int)] w fun e w' => e = .returned (.int .u64 (M : Int)) ∧ w' = w) := fun w => Lib.hid (by rw [hM]; exact Try.nextPowerOfTwo L (by omega) w)
  rw [← hM]
  clear hM
  have hn' : n ≤ 1000000 := by omega
  have hBl := hS.lt
  have HN := Lib.hid hn
  obtain ⟨I0, hI0⟩ : ∃ I0, I0 = a + L / 4 * 2 - 1 := ⟨_, rfl⟩
  have hI1 : (a : Int) + (L : Int) / 4 * 2 - 1 = (I0 : Int) := by omega
  have hI2 : (a : Int) + (L : Int) / 4 * 2 + 1 = (I0 : Int) + 2 := by omega
  have hI3 : a ≤ I0 ∧ I0 + 3 ≤ a + L := by omega
  rw [← hI0]
  clear hI0
  have hSa := hS.alloc (.cells #[.int .u64 (L : Int)] 74)
  have hGa : w.grownBy (w.alloc (.cells #[.int .u64 (L : Int)] 74)) (some B) := World.grownBy_alloc w _ _
  have hRa := Rows8.new w 74 #[.int .u64 (L : Int)]
  obtain ⟨r, hr⟩ : ∃ r, r = bpRest a L M I0 3 0 (UInt64.ofNat L, d) := ⟨_, rfl⟩
  rw [← hr]
  have HR := Lib.hid hr
  have HSa := Lib.hid hSa
  have HGa := Lib.hid hGa
  have HRa := Lib.hid hRa
  clear hr hS hSa hGa hRa hn
  go_enter Try.func31, Try.ntmps31
  go_wp2_with (first | (go_at_call 49; rw [show ((a : Int) + (L : Int) - (a : Int)) = (L : Int) by omega]; refine ((hNP _).out).mono ?_; rintro e w' ⟨rfl, rfl⟩))
  go_loopw [9] (fun vi wr => ∃ (t : Nat) (r1 : UInt64) (dk : Array Int), vi = .int .i64 ((I0 + t : Nat) : Int) ∧ t ≤ 3 ∧ Hid (dk.size = n) ∧ Hid (SRow wr B cap dk) ∧ Hid (w.grownBy wr (some B)) ∧
      Hid (Rows8 wr w.heap.size 74 #[.int .u64 (r1.toNat : Int)]) ∧ Hid (bpRest a L M I0 (3 - t) t (r1, dk) = r)) (fun vi _ => I0 + 4 - (intOf vi).toNat)
  case atStart => 
    refine ⟨0, UInt64.ofNat L, d, by congr 1 <;> omega, by omega, Lib.hid HN.out.symm, HSa, HGa, ?_, Lib.hid HR.out.symm⟩
    rw [show (UInt64.ofNat L).toNat = L from by simp; omega]
    exact HRa
  case round =>
    obtain ⟨t, r1, dk, rfl, ht, hsk, hS, hG, hX, hRR⟩ := hrel
    obtain ⟨R, hRr⟩ : ∃ R : Nat, R = r1.toNat := ⟨_, rfl⟩
    have lR : R < 18446744073709551616 := by rw [hRr]; exact r1.toNat_lt
    obtain ⟨R', hR'⟩ : ∃ R' : Nat, R' = Sort.xorNextN R := ⟨_, rfl⟩
    have lR' : R' < 18446744073709551616 := by rw [hR']; exact Sort.xorNextN_lt R lR
    obtain ⟨O, hO⟩ : ∃ O : Nat, O = R' &&& (M - 1) := ⟨_, rfl⟩
    have lO : O ≤ M - 1 := by rw [hO]; exact Nat.and_le_right
    have eAnd : bits .and .u64 (R' : Int) ((M : Int) - 1) = (O : Int) := by
      rw [show ((M : Int) - 1) = ((M - 1 : Nat) : Int) by omega, bits_and_u64_nat _ _ lR' (by omega), hO]
    have hcB : wr.cell? ⟨w.heap.size, 0, none⟩ = some (.int .u64 (R : Int)) := by rw [hX.out.cell, hRr]; rfl
    have hfB : wr.frozen? ⟨w.heap.size, 0, none⟩ = false := hX.out.frozen 0
    have hNext : Hid (Calls Try.prog 50 #[.pointer (some ⟨w.heap.size, 0, none⟩)] wr fun e w' => e = .returned (.int .u64 (R' : Int)) ∧ Hid (SRow w' B cap dk) ∧ Hid (w.grownBy w' (some B)) ∧ Hid (Rows8 w' w.heap.size 74 #[.int .u64 (R' : Int)])) := Lib.hid (by
      rw [hR']
      refine (Try.xorshift_Next _ _ R lR wr hcB hfB).mono ?_
      rintro e w' ⟨rfl, rfl⟩
      exact ⟨rfl, Lib.hid ((hS.out.other (by simp; omega) _).drewN _), Lib.hid ((grown_other hG.out (Nat.le_refl _) _).trans (grown_drewN _ _ _)), Lib.hid ((Rows8.set1 hX.out _).drewN _)⟩)
    have HN2 : Hid (R' = (Sort.xorNext r1).toNat ∧ O = (Sort.xorNext r1).toNat &&& (M - 1)) := Lib.hid (by
      have e : R' = (Sort.xorNext r1).toNat := by rw [hR', hRr, Sort.xorNext_toNat]
      exact ⟨e, by rw [hO, e]⟩)
    have HI0 := Lib.hid (show (a : Int) + (L : Int) / 4 * 2 - 1 = (I0 : Int) ∧ (a : Int) + (L : Int) / 4 * 2 + 1 = (I0 : Int) + 2 from ⟨hI1, hI2⟩)
    clear hRr hR' hO hcB hfB
    go_wp2_with (first | (go_at_call 50; refine (hNext.out).mono ?_; rintro e w' ⟨rfl, hS', hG', hX'⟩; clear hS hG hX))
    · have hLO : L ≤ O := by omega
      have e1 := hS'.out.cell (I0 + t) (by rw [hsk.out]; omega)
      have e2 := hS'.out.cell (a + (O - L)) (by rw [hsk.out]; omega)
      have f1 := hS'.out.frozen (I0 + t)
      have f2 := hS'.out.frozen (a + (O - L))
      have k1 : 0 ≤ (I0 : Int) + (t : Int) ∧ (I0 : Int) + (t : Int) < (n : Int) := by omega
      have k2 : 0 ≤ (a : Int) + ((O : Int) - (L : Int)) ∧ (a : Int) + ((O : Int) - (L : Int)) < (n : Int) := by omega
      have HS4 := Lib.hid (hS'.out.swp (I0 + t) (a + (O - L)) (by rw [hsk.out]; omega) (by rw [hsk.out]; omega))
      have HZ4 : Hid ((Sort.swp dk (I0 + t) (a + (O - L))).size = n) := Lib.hid (by rw [size_swp]; exact hsk.out)
      have HG4 := Lib.hid (hG'.out.trans (grown_set2 w' B (I0 + t) (a + (O - L)) (.int .u64 dk[a + (O - L)]!) (.int .u64 dk[I0 + t]!)))
      have HX4 := Lib.hid ((hX'.out.setOther (a := ⟨B, I0 + t, none⟩) (by simp; omega) (.int .u64 dk[a + (O - L)]!)).setOther (a := ⟨B, a + (O - L), none⟩) (by simp; omega) (.int .u64 dk[I0 + t]!))
      have HB4 : Hid (bpRest a L M I0 (3 - (t + 1)) (t + 1) (Sort.xorNext r1, Sort.swp dk (I0 + t) (a + (O - L))) = r) := Lib.hid (by rw [← hRR.out, bp_step a L M _ t r1 dk (O - L) (by omega) (by rw [← HN2.out.2, if_pos (by omega)])])
      by_cases hEq : I0 + t = a + (O - L)
      · rw [← hEq] at HS4 HG4 HX4 HB4 HZ4
        have hEqI : (a : Int) + ((O : Int) - (L : Int)) = (I0 : Int) + (t : Int) := by omega
        clear hEq e2 f2 k2 hS' hG' hX'
        go_region
        all_goals go_wp2_with fail
        exact ⟨⟨t + 1, Sort.xorNext r1, _, by first | rfl | (congr 1 <;> omega), by omega, HZ4, Lib.hid HS4.out, Lib.hid (grown_drew' HG4.out), Lib.hid (by rw [← HN2.out.1]; exact HX4.out), HB4⟩, by simp [intOf]; omega⟩
      · clear hS' hG' hX'
        go_region
        all_goals go_wp2_with fail
        exact ⟨⟨t + 1, Sort.xorNext r1, _, by first | rfl | (congr 1 <;> omega), by omega, HZ4, Lib.hid HS4.out, Lib.hid (grown_drew' HG4.out), Lib.hid (by rw [← HN2.out.1]; exact HX4.out), HB4⟩, by simp [intOf]; omega⟩
    · have hLO : ¬ L ≤ O := by omega
      have e1 := hS'.out.cell (I0 + t) (by rw [hsk.out]; omega)
      have e2 := hS'.out.cell (a + O) (by rw [hsk.out]; omega)
      have f1 := hS'.out.frozen (I0 + t)
      have f2 := hS'.out.frozen (a + O)
      have k1 : 0 ≤ (I0 : Int) + (t : Int) ∧ (I0 : Int) + (t : Int) < (n : Int) := by omega
      have k2 : 0 ≤ (a : Int) + (O : Int) ∧ (a : Int) + (O : Int) < (n : Int) := by omega
      have HS4 := Lib.hid (hS'.out.swp (I0 + t) (a + O) (by rw [hsk.out]; omega) (by rw [hsk.out]; omega))
      have HZ4 : Hid ((Sort.swp dk (I0 + t) (a + O)).size = n) := Lib.hid (by rw [size_swp]; exact hsk.out)
      have HG4 := Lib.hid (hG'.out.trans (grown_set2 w' B (I0 + t) (a + O) (.int .u64 dk[a + O]!) (.int .u64 dk[I0 + t]!)))
      have HX4 := Lib.hid ((hX'.out.setOther (a := ⟨B, I0 + t, none⟩) (by simp; omega) (.int .u64 dk[a + O]!)).setOther (a := ⟨B, a + O, none⟩) (by simp; omega) (.int .u64 dk[I0 + t]!))
      have HB4 : Hid (bpRest a L M I0 (3 - (t + 1)) (t + 1) (Sort.xorNext r1, Sort.swp dk (I0 + t) (a + O)) = r) := Lib.hid (by rw [← hRR.out, bp_step a L M _ t r1 dk O (by omega) (by rw [← HN2.out.2, if_neg (by omega)])])
      by_cases hEq : I0 + t = a + O
      · rw [← hEq] at HS4 HG4 HX4 HB4 HZ4
        have hEqI : (a : Int) + (O : Int) = (I0 : Int) + (t : Int) := by omega
        clear hEq e2 f2 k2 hS' hG' hX'
        go_region
        all_goals go_wp2_with fail
        exact ⟨⟨t + 1, Sort.xorNext r1, _, by first | rfl | (congr 1 <;> omega), by omega, HZ4, Lib.hid HS4.out, Lib.hid (grown_drew' HG4.out), Lib.hid (by rw [← HN2.out.1]; exact HX4.out), HB4⟩, by simp [intOf]; omega⟩
      · clear hS' hG' hX'
        go_region
        all_goals go_wp2_with fail
        exact ⟨⟨t + 1, Sort.xorNext r1, _, by first | rfl | (congr 1 <;> omega), by omega, HZ4, Lib.hid HS4.out, Lib.hid (grown_drew' HG4.out), Lib.hid (by rw [← HN2.out.1]; exact HX4.out), HB4⟩, by simp [intOf]; omega⟩
    · obtain rfl : t = 3 := by omega
      go_end0
      exact ⟨rfl, by have e : dk = r := by { rw [← hRR.out]; rfl }
                     exact e ▸ hS.out, hG.out⟩
end Go.Proofs
