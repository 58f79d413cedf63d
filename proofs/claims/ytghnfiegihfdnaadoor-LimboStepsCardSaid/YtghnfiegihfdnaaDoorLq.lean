/- Limbo: own. -/
import Derived.Test.YtghnfiegihfdnaaDoorLp
namespace Go.Proofs
set_option maxRecDepth 100000
open Go.RowKit Go.Shelf
attribute [local go_sem] Oper.semAt_some

theorem setLim (e : Value) (s : Ls) (k : Nat) (hk : k < 3) (a : Option Addr) (n c : Nat) : (#[e, .slice (s.a 0) (s.n 0) (s.c 0), .slice (s.a 1) (s.n 1) (s.c 1), .slice (s.a 2) (s.n 2) (s.c 2)] : Array Value).setIfInBounds (1 + k) (.slice a n c) = #[e, .slice ((s.upd k a n c).a 0) ((s.upd k a n c).n 0) ((s.upd k a n c).c 0), .slice ((s.upd k a n c).a 1) ((s.upd k a n c).n 1) ((s.upd k a n c).c 1), .slice ((s.upd k a n c).a 2) ((s.upd k a n c).n 2) ((s.upd k a n c).c 2)] := by
  rcases three hk with rfl | rfl | rfl <;> rfl
/-- The rows' copies, so far. -/
structure Co (B n₀ E : Nat) (r : Rw3) (s : Ls) (k : Nat) (W : World) : Prop where
  bx : Rows8 W B 26 #[.int .u64 (E : Nat), .slice (s.a 0) (s.n 0) (s.c 0), .slice (s.a 1) (s.n 1) (s.c 1), .slice (s.a 2) (s.n 2) (s.c 2)]
  o : ∀ j, j < k → OwnE n₀ (r j) (s.v j) W
  ap : ∀ i j, i < k → j < k → i ≠ j → (s.v i).ownBlock = none ∨ (s.v i).ownBlock ≠ (s.v j).ownBlock
theorem Co.below {B n₀ E k : Nat} {r : Rw3} {s : Ls} {A C : World} (h : Co B n₀ E r s k A) (hB : Below A.heap.size A C) : Co B n₀ E r s k C := ⟨h.bx.below hB h.bx.lt, fun j hj => (h.o j hj).keep hB (Nat.le_refl _), h.ap⟩
theorem Co.next {B n₀ E k : Nat} {r : Rw3} {s : Ls} {W W1 : World} (h : Co B n₀ E r s k W) (hB : Below W.heap.size W W1) (hk : k < 3) (hn : n₀ ≤ W.heap.size) (a : Option Addr) (n c : Nat) (ho : OwnsP tE W.heap.size (r k) (.slice a n c) W1) :
    Co B n₀ E r (s.upd k a n c) (k + 1) (W1.setCell ⟨B, 1 + k, none⟩ (.slice a n c)) := by
  have h1 := h.below hB
  have hoe := OwnE.of ho
  have hj : ∀ j, j < k → ∀ b, (s.v j).ownBlock = some b → (Value.slice a n c).ownBlock ≠ some b := fun j hj b e e2 => by have h2 := ((h.o j hj).lt b e).2; have h3 := (hoe.lt b e2).1; omega
  refine ⟨?_, fun j hj => ?_, fun i j hi hj' hne => ?_⟩
  · rw [← setLim _ _ k (by omega)]
    exact h1.bx.set _ _
  · by_cases e : j = k
    · subst e
      rw [Ls.upd_self]
      exact (hoe.mono hn).setCell h1.bx (by decide) _ _
    · rw [Ls.upd_ne _ _ _ _ e]
      exact (h1.o j (by omega)).setCell h1.bx (by decide) _ _
  · by_cases e : i = k
    · subst e
      rw [Ls.upd_self, Ls.upd_ne _ _ _ _ (fun e => hne e.symm)]
      cases hv : (Value.slice a n c).ownBlock with
      | none => exact .inl rfl
      | some b => exact .inr fun e2 => hj j (by omega) b e2.symm hv
    · rw [Ls.upd_ne _ _ _ _ e]
      by_cases e2 : j = k
      · subst e2
        rw [Ls.upd_self]
        cases hv : (s.v i).ownBlock with
        | none => exact .inl rfl
        | some b => exact .inr fun e3 => hj i (by omega) b hv e3.symm
      · rw [Ls.upd_ne _ _ _ _ e2]
        exact h1.ap i j (by omega) (by omega) hne
theorem Co.lo {B n₀ E : Nat} {r : Rw3} {s : Ls} {W : World} (h : Co B n₀ E r s 3 W) : LO n₀ r s W := ⟨h.o, h.ap⟩
/-- What own takes. -/
def ownR (r : Rw3) : Rw3 := fun k => if k < 3 then (r k).take 12 else []
theorem ownR_at (r : Rw3) (k : Nat) (hk : k < 3) : ownR r k = (r k).take 12 := if_pos hk
theorem ownR_3 (r : Rw3) : ownR r 3 = [] := rfl
theorem ownR_len (r : Rw3) (k : Nat) (hk : k < 3) : (ownR r k).length ≤ 12 := by
  rw [ownR_at r k hk, List.length_take]
  omega
set_option maxHeartbeats 8000000 in
theorem Tryd.own_any (E : Nat) (s : Ls) (r : Rw3) (w : World) (hI : LAt w s r) :
    Calls Tryd.prog 8 #[.agg #[.int .u64 (E : Nat), .slice (s.a 0) (s.n 0) (s.c 0), .slice (s.a 1) (s.n 1) (s.c 1), .slice (s.a 2) (s.n 2) (s.c 2)]] w fun e w' => ∃ s', e = .returned (.agg #[.int .u64 (E : Nat), .slice (s'.a 0) (s'.n 0) (s'.c 0), .slice (s'.a 1) (s'.n 1) (s'.c 1), .slice (s'.a 2) (s'.n 2) (s'.c 2)]) ∧ LO w.heap.size (ownR r) s' w' ∧ Below w.heap.size w w' := by
  obtain ⟨W0, hW0⟩ : ∃ W, W = (w.alloc (.cells #[.int .u64 (E : Nat), .slice (s.a 0) (s.n 0) (s.c 0), .slice (s.a 1) (s.n 1) (s.c 1), .slice (s.a 2) (s.n 2) (s.c 2)] 26)).alloc (.cells #[.int .u64 0, .slice none 0 0, .slice none 0 0, .slice none 0 0] 26) := ⟨_, rfl⟩
  have hB0 : Below w.heap.size w W0 := by rw [hW0]; exact (Rows8.newB).alloc (by simp) _
  have hA0 : Rows8 W0 w.heap.size 26 #[.int .u64 (E : Nat), .slice (s.a 0) (s.n 0) (s.c 0), .slice (s.a 1) (s.n 1) (s.c 1), .slice (s.a 2) (s.n 2) (s.c 2)] := by rw [hW0]; exact (Rows8.new _ _ _).alloc _
  have hR0 : Rows8 W0 (w.heap.size + 1) 26 #[.int .u64 0, .slice none 0 0, .slice none 0 0, .slice none 0 0] := by rw [hW0]; exact rows_new2 _ _ _ _
  have c0 : W0.cell? ⟨w.heap.size, 0, none⟩ = some (.int .u64 (E : Nat)) := hA0.cell 0
  have c1 : W0.cell? ⟨w.heap.size, 1, none⟩ = some (.slice (s.a 0) (s.n 0) (s.c 0)) := hA0.cell 1
  have c2 : W0.cell? ⟨w.heap.size, 2, none⟩ = some (.slice (s.a 1) (s.n 1) (s.c 1)) := hA0.cell 2
  have c3 : W0.cell? ⟨w.heap.size, 3, none⟩ = some (.slice (s.a 2) (s.n 2) (s.c 2)) := hA0.cell 3
  have hix := fun (k : Nat) (h : k < 3) (W : World) => Lib.hid (Tryd.index_rows s k h W)
  have HLEN := fun (k : Nat) (h : k < 3) => Lib.hid (pAt_len (hI k h))
  have HCL := Lib.hid (fun (k m : Nat) (hk : k < 3) (hm : m ≤ s.n k) (he : (r k).take m = (r k).take 12) (h12 : m ≤ 12) (X : World) (h : Below w.heap.size w X) => Tryd.cloneEntry_any (s.a k) m (s.c k) ((r k).take 12) (by rw [← he, List.length_take]; have := (pAt_len (hI k hk)).1; omega) (by omega) X (by rw [← he]; exact pAt_cut ((hI k hk).below h) m hm))
  have HB0 := Lib.hid hB0
  have HC0 : Hid (Co w.heap.size w.heap.size E (ownR r) s 0 W0) := Lib.hid ⟨hA0, fun j hj => absurd hj (Nat.not_lt_zero _), fun i j hi => absurd hi (Nat.not_lt_zero _)⟩
  have HR0 := Lib.hid hR0
  clear hB0 hA0 hR0 hI
  go_enter Tryd.func8, Tryd.ntmps8
  subst hW0
  go_wp2_with fail
  generalize (w.alloc (.cells #[.int .u64 (E : Nat), .slice (s.a 0) (s.n 0) (s.c 0), .slice (s.a 1) (s.n 1) (s.c 1), .slice (s.a 2) (s.n 2) (s.c 2)] 26)).alloc (.cells #[.int .u64 0, .slice none 0 0, .slice none 0 0, .slice none 0 0] 26) = W0 at *
  go_loopw [3, 4, 7] (fun _ _ j wr => ∃ (k : Nat) (s' : Ls), k ≤ 3 ∧ j = .int .i64 k ∧ Hid (Co w.heap.size w.heap.size E (ownR r) s' k wr) ∧ Hid (Rows8 wr (w.heap.size + 1) 26 #[.int .u64 0, .slice none 0 0, .slice none 0 0, .slice none 0 0]) ∧ Hid (Below w.heap.size w wr)) (fun _ _ j _ => 3 - (intOf j).toNat)
  case atStart => exact ⟨0, s, Nat.zero_le _, rfl, HC0, HR0, HB0⟩
  case round =>
    obtain ⟨k, s', hk, rfl, hc, hr, hb⟩ := hrel
    clear c0 c1 c2 c3 HC0 HR0 HB0
    by_cases hlt : k < 3
    · have hki : (k : Int) < 3 := by omega
      have hki0 : (0 : Int) ≤ (k : Int) := by omega
      have hx := (hix k hlt wr).out
      obtain ⟨n, hn⟩ : ∃ n, n = s.n k := ⟨_, rfl⟩
      obtain ⟨cp, hcp⟩ : ∃ n, n = s.c k := ⟨_, rfl⟩
      have hlen := (HLEN k hlt).out
      rw [← hn, ← hcp] at hlen
      obtain ⟨m, hm⟩ : ∃ m, m = min n 12 := ⟨_, rfl⟩
      have hmn : m ≤ n := by omega
      have hm12 : m ≤ 12 := by omega
      have htk : (r k).take m = (r k).take 12 := by
        rcases Nat.le_total n 12 with h | h
        · rw [List.take_of_length_le (by omega), List.take_of_length_le (by omega)]
        · rw [show m = 12 by omega]
      have HCC := Lib.hid (HCL.out k m hlt (by omega) htk hm12 wr hb.out)
      rw [← hcp] at HCC
      rw [← hn, ← hcp] at hx
      have hreach : cp ≤ 9223372036854775807 := by have := hlen.2.2; unfold maxLen at this; exact this
      have hmc : m ≤ cp := by omega
      have hmi : min (n : Int) 12 = (m : Int) := by omega
      have hmi2 : (if (n : Int) ≤ 12 then (n : Int) else 12) = (m : Int) := by split <;> omega
      have hmi3 : (if (n : Int) < 12 then (n : Int) else 12) = (m : Int) := by split <;> omega
      have hmi4 : (if (12 : Int) < (n : Int) then (12 : Int) else (n : Int)) = (m : Int) := by split <;> omega
      have hnn : n ≤ cp := hlen.2.1
      have HOR := Lib.hid (ownR_at r k hlt)
      clear hlen htk hm hn hcp
      go_wp2_with fail
      refine HCC.out.mono ?_
      rintro e w1 ⟨a2, c2, rfl, hO, hB1⟩
      have hbx := hc.out.bx.below hB1 hc.out.bx.lt
      have ck := cellK hbx k hlt
      have fk := hbx.frozen (1 + k)
      have lk := hbx.lt
      have HNX := Lib.hid (hc.out.next hB1 hlt hb.out.size a2 m c2 (by rw [HOR.out]; exact hO))
      have HR2 := Lib.hid ((hr.out.below hB1 hr.out.lt).setOther (a := ⟨w.heap.size, 1 + k, none⟩) (by simp) (.slice a2 m c2))
      have HB2 := Lib.hid ((hb.out.trans (hB1.mono hb.out.size)).setCell (p := ⟨w.heap.size, 1 + k, none⟩) (Nat.le_refl _) (.slice a2 m c2))
      clear hO hB1 hbx hc hr hb HCC
      go_wp2_with fail
      exact ⟨⟨k + 1, _, by omega, by go_num, HNX, HR2, HB2⟩, by simp [intOf]; omega⟩
    · obtain rfl : k = 3 := by omega
      have k0 : wr.cell? ⟨w.heap.size, 0, none⟩ = some (.int .u64 (E : Nat)) := hc.out.bx.cell 0
      have k1 : wr.cell? ⟨w.heap.size, 1, none⟩ = some (.slice (s'.a 0) (s'.n 0) (s'.c 0)) := hc.out.bx.cell 1
      have k2 : wr.cell? ⟨w.heap.size, 2, none⟩ = some (.slice (s'.a 1) (s'.n 1) (s'.c 1)) := hc.out.bx.cell 2
      have k3 : wr.cell? ⟨w.heap.size, 3, none⟩ = some (.slice (s'.a 2) (s'.n 2) (s'.c 2)) := hc.out.bx.cell 3
      have z0 : wr.cell? ⟨w.heap.size + 1, 0, none⟩ = some (.int .u64 0) := hr.out.cell 0
      have f0 := hr.out.frozen 0
      have z1 : wr.cell? ⟨w.heap.size + 1, 1, none⟩ = some (.slice none 0 0) := hr.out.cell 1
      have f1 := hr.out.frozen 1
      have z2 : wr.cell? ⟨w.heap.size + 1, 2, none⟩ = some (.slice none 0 0) := hr.out.cell 2
      have f2 := hr.out.frozen 2
      have z3 : wr.cell? ⟨w.heap.size + 1, 3, none⟩ = some (.slice none 0 0) := hr.out.cell 3
      have f3 := hr.out.frozen 3
      have l0 := hc.out.bx.lt
      have l1 := hr.out.lt
      have HS := Lib.hid (rows4 hr.out (.int .u64 (E : Nat)) (.slice (s'.a 0) (s'.n 0) (s'.c 0)) (.slice (s'.a 1) (s'.n 1) (s'.c 1)) (.slice (s'.a 2) (s'.n 2) (s'.c 2)))
      have hlo := hc.out.lo
      have HL : Hid (LO w.heap.size (ownR r) s' ((((wr.setCell ⟨w.heap.size + 1, 0, none⟩ (.int .u64 (E : Nat))).setCell ⟨w.heap.size + 1, 1, none⟩ (.slice (s'.a 0) (s'.n 0) (s'.c 0))).setCell ⟨w.heap.size + 1, 2, none⟩ (.slice (s'.a 1) (s'.n 1) (s'.c 1))).setCell ⟨w.heap.size + 1, 3, none⟩ (.slice (s'.a 2) (s'.n 2) (s'.c 2)))) := Lib.hid ⟨fun k hk => ((((hlo.1 k hk).setCell hr.out (by decide) 0 _).setCell (hr.out.set 0 _) (by decide) 1 _).setCell ((hr.out.set 0 _).set 1 _) (by decide) 2 _).setCell (((hr.out.set 0 _).set 1 _).set 2 _) (by decide) 3 _, hlo.2⟩
      have HB5 := Lib.hid (below4 hb.out (B := w.heap.size + 1) (by omega) (.int .u64 (E : Nat)) (.slice (s'.a 0) (s'.n 0) (s'.c 0)) (.slice (s'.a 1) (s'.n 1) (s'.c 1)) (.slice (s'.a 2) (s'.n 2) (s'.c 2)))
      clear hlo
      go_wp2_with fail
      refine bodyPost_ret (results_c1 rfl _ _ (w.heap.size + 1) _ rfl (load_row HS.out Tryd.underlying26 rfl (by kernel_rfl))) rfl ?_
      exact ⟨s', rfl, HL.out, HB5.out⟩
end Go.Proofs
