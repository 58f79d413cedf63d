/- Proved: for every limbo and row of steps, honeycomblaw14.LimboWaits returns true, and its arguments read as they did; the listed variable reads as the program's text lays it. -/
import Derived.Test.YteamlomcdiomkaaDoorLw
import Derived.Deep.CutBlock
import Derived.SevenTiedAt
import Derived.Stop.Joined
import Derived.Test.YteamlomcdiomkaaDoorCards
import Derived.Test.YteamlomcdiomkaaDoorTie
namespace Go.Proofs.YteamlomcdiomkaaDoor.limboWaits
open Go.ChangeShapes Go.WideShapes Go.ChangeAt Go.RowKit Go.Shelf
attribute [local go_sem] Oper.semAt_some

/-- What stands while the steps are gone through: the limbo in its box, and what waits. -/
structure WtI (w : World) (B E : Nat) (s : Ls) (r : Rw3) (a : Option Addr) (n c : Nat) (W : World) : Prop where
  bx : Rows8 W B 26 #[.int .u64 (E : Nat), .slice (s.a 0) (s.n 0) (s.c 0), .slice (s.a 1) (s.n 1) (s.c 1), .slice (s.a 2) (s.n 2) (s.c 2)]
  at_ : LAt W s r
  ow : OwnE w.heap.size (heldL E r) (.slice a n c) W
  bl : Below w.heap.size w W
  rt : rightL E r = true
  r3 : r 3 = []
theorem WtI.below {w : World} {B E : Nat} {s : Ls} {r : Rw3} {a : Option Addr} {n c : Nat} {W W' : World} (h : WtI w B E s r a n c W) (hB : Below W.heap.size W W') : WtI w B E s r a n c W' :=
  ⟨h.bx.below hB h.bx.lt, h.at_.below hB, h.ow.keep hB (Nat.le_refl _), h.bl.trans (hB.mono h.bl.size), h.rt, h.r3⟩
theorem WtI.drew {w : World} {B E : Nat} {s : Ls} {r : Rw3} {a : Option Addr} {n c : Nat} {W : World} (h : WtI w B E s r a n c W) : WtI w B E s r a n c W.drew := ⟨h.bx, fun k hk => h.at_ k hk, h.ow.drew, h.bl.drew, h.rt, h.r3⟩
theorem lo_drew {n₀ : Nat} {r : Rw3} {s : Ls} {W : World} (h : LO n₀ r s W) : LO n₀ r s W.drew := ⟨fun k hk => (h.1 k hk).drew, h.2⟩
theorem exec_slice1 {P : Program} {ev : Operand → Value} {o : Oper} {w : World} (t : TypeId) (x lo : Operand) (ho : o.op = .slice t x (some lo) none none) (v : Value) (h : (Instr.sliceAt t (ev x) (some (ev lo)) none none).run P w = .ok v w) : (execOp ev o).run P w = .ok (.value v) w := by
  unfold execOp
  simp only [ho, Option.map_some, Option.map_none, Sem.run_bind, h, Result.andThen_ok, Sem.run_pure]
theorem cut1 {n₀ : Nat} {z : Pr} {l : List Pr} {b off m c : Nat} {W : World} (h : OwnE n₀ (z :: l) (.slice (some ⟨b, off, none⟩) (m + 1) (c + 1)) W) : OwnE n₀ l (.slice (some ⟨b, if c = 0 then off else off + 2, none⟩) m c) W := by
  have hf := h.form
  obtain ⟨_, _, e, h1, h2⟩ := hf
  injection e with e1 e2 e3
  simp only [List.length_cons] at e2 h1
  obtain rfl : m = l.length := by omega
  by_cases hc : c = 0
  · subst hc
    obtain rfl : l = [] := List.eq_nil_of_length_eq_zero (by omega)
    rw [if_pos rfl]
    exact h.cut0
  · rw [if_neg hc]
    exact h.cut c (Nat.le_refl _) (by omega)
theorem slice1 (x : World) (b off m c : Nat) : (Instr.sliceAt 23 (.slice (some ⟨b, off, none⟩) (m + 1) (c + 1)) (some (.int .i64 1)) none none).run Tryd.prog x = .ok (.slice (some ⟨b, if c = 0 then off else off + 2, none⟩) m c) x := by
  rw [run_sliceAt_slice _ _ _ _ _ _ Tryd.underlying23, run_slice_l x 23 (some ⟨b, off, none⟩) (m + 1) (c + 1) Tryd.underlying23 .i64 1 (by omega) (by omega)]
  by_cases hc : c = 0
  · simp [go_sem, sliced, hc]
  · simp [go_sem, sliced, hc]
theorem takR_at {E : Nat} {r : Rw3} {z : Pr} {t : List Pr} (hz : readyL E r = z :: t) (k : Nat) (hk : k < 3) : takR E r k = updL r ((E + 1) % 3) t k := by
  unfold takR
  rw [hz]
  by_cases e : k = (E + 1) % 3
  · rw [e, updL_self, updL_self]; rfl
  · rw [updL_ne _ _ e, updL_ne _ _ e, updL_ne _ _ (by omega)]
theorem WtI.n_eq {w : World} {B E : Nat} {s : Ls} {r : Rw3} {a : Option Addr} {n c : Nat} {W : World} (h : WtI w B E s r a n c W) : n = (heldL E r).length ∧ n ≤ 128 := by
  obtain ⟨_, _, e, _⟩ := h.ow.form
  injection e with _ e _
  exact ⟨e, by rw [e]; exact ends_len h.rt⟩
theorem WtI.lE {w : World} {B E : Nat} {s : Ls} {r : Rw3} {a : Option Addr} {n c : Nat} {W : World} (h : WtI w B E s r a n c W) : E < 18446744073709551616 := by
  have := (rightL_iff.1 h.rt).1.1
  omega
set_option maxRecDepth 100000 in
set_option maxHeartbeats 64000000 in
theorem walk (E : Nat) (s : Ls) (r : Rw3) (a : Option Addr) (n c : Nat) (ps : List Pr) (w : World) (hT : OnAt w) (hI : LAt w s r) (hE : E < 18446744073709551616) (_ : r 3 = []) (hn : n = ps.length) (hP : PAt w (.slice a n c) ps) :
    Calls Tryd.prog 5 #[.agg #[.int .u64 (E : Nat), .slice (s.a 0) (s.n 0) (s.c 0), .slice (s.a 1) (s.n 1) (s.c 1), .slice (s.a 2) (s.n 2) (s.c 2)], .slice a n c] w fun e w' => e = .returned (.bool true) ∧ Below w.heap.size w w' := by
  obtain ⟨W0, hW0⟩ : ∃ W, W = w.alloc (.cells #[.int .u64 (E : Nat), .slice (s.a 0) (s.n 0) (s.c 0), .slice (s.a 1) (s.n 1) (s.c 1), .slice (s.a 2) (s.n 2) (s.c 2)] 26) := ⟨_, rfl⟩
  have hB0 : Below w.heap.size w W0 := by rw [hW0]; exact Rows8.newB
  have hk0 : Rows8 W0 w.heap.size 26 #[.int .u64 (E : Nat), .slice (s.a 0) (s.n 0) (s.c 0), .slice (s.a 1) (s.n 1) (s.c 1), .slice (s.a 2) (s.n 2) (s.c 2)] := by rw [hW0]; exact Rows8.new _ _ _
  have HW := Lib.hid (Tryd.wakes_any W0 (hT.below hB0))
  have HI := Lib.hid (hI.below hB0)
  have HK := Lib.hid hk0
  have HB := Lib.hid hB0
  have HE := Lib.hid hE
  have HP := Lib.hid hP
  have HN := Lib.hid hn
  clear hT hI hk0 hB0 hE hP hn
  go_enter Tryd.func5, Tryd.ntmps5
  go_wp2_with fail
  rw [← hW0]
  clear hW0
  refine HW.out.mono ?_
  rintro e W1 ⟨rfl, hB1⟩
  have hk := HK.out.below hB1 HK.out.lt
  have hi := HI.out.below hB1
  have HB1 := Lib.hid (HB.out.trans (hB1.mono HB.out.size))
  have c0 : W1.cell? ⟨w.heap.size, 0, none⟩ = some (.int .u64 (E : Nat)) := hk.cell 0
  have c1 : W1.cell? ⟨w.heap.size, 1, none⟩ = some (.slice (s.a 0) (s.n 0) (s.c 0)) := hk.cell 1
  have c2 : W1.cell? ⟨w.heap.size, 2, none⟩ = some (.slice (s.a 1) (s.n 1) (s.c 1)) := hk.cell 2
  have c3 : W1.cell? ⟨w.heap.size, 3, none⟩ = some (.slice (s.a 2) (s.n 2) (s.c 2)) := hk.cell 3
  have lt1 := hk.lt
  have HO := Lib.hid (Tryd.own_any E s r W1 hi)
  clear hB1 hk hi HK HI HB HW
  go_wp2_with fail
  refine HO.out.mono ?_
  rintro e W2 ⟨s2, rfl, hl, hB2⟩
  have HL2 := Lib.hid hl
  have HB2 := Lib.hid (HB1.out.trans (hB2.mono HB1.out.size))
  clear hl hB2 HO c0 c1 c2 c3 lt1 HB1
  obtain ⟨u, hu⟩ : ∃ u, u = ownR r := ⟨_, rfl⟩
  have U3 := Lib.hid (show u 3 = [] by rw [hu]; rfl)
  rw [← hu] at HL2
  clear hu
  go_wp2_with fail
  obtain ⟨W3, hW3⟩ : ∃ W, W = W2.alloc (.cells #[.int .u64 (E : Nat), .slice (s2.a 0) (s2.n 0) (s2.c 0), .slice (s2.a 1) (s2.n 1) (s2.c 1), .slice (s2.a 2) (s2.n 2) (s2.c 2)] 26) := ⟨_, rfl⟩
  rw [← hW3]
  have hB3 : Below W2.heap.size W2 W3 := by rw [hW3]; exact Rows8.newB
  have R3 : Hid (Rows8 W3 W2.heap.size 26 #[.int .u64 (E : Nat), .slice (s2.a 0) (s2.n 0) (s2.c 0), .slice (s2.a 1) (s2.n 1) (s2.c 1), .slice (s2.a 2) (s2.n 2) (s2.c 2)]) := Lib.hid (by rw [hW3]; exact Rows8.new _ _ _)
  have HL3 := Lib.hid (HL2.out.below hB3).at
  have HB3 := Lib.hid (HB2.out.trans (hB3.mono HB2.out.size))
  have HBG : Hid (w.heap.size ≤ W2.heap.size) := Lib.hid HB2.out.size
  have HC := Lib.hid (Tryd.Check_any E s2 u W3 HL3.out HE.out)
  clear hB3 hW3 HL2 HB2
  generalize W2.heap.size = B at *
  refine HC.out.mono ?_
  rintro e W4 ⟨rfl, hB⟩
  have hr := R3.out.below hB R3.out.lt
  have HL4 := Lib.hid (HL3.out.below hB)
  have HB4 := Lib.hid (HB3.out.trans (hB.mono HB3.out.size))
  have c0 : W4.cell? ⟨B, 0, none⟩ = some (.int .u64 (E : Nat)) := hr.cell 0
  have c1 : W4.cell? ⟨B, 1, none⟩ = some (.slice (s2.a 0) (s2.n 0) (s2.c 0)) := hr.cell 1
  have c2 : W4.cell? ⟨B, 2, none⟩ = some (.slice (s2.a 1) (s2.n 1) (s2.c 1)) := hr.cell 2
  have c3 : W4.cell? ⟨B, 3, none⟩ = some (.slice (s2.a 2) (s2.n 2) (s2.c 2)) := hr.cell 3
  have lt4 := hr.lt
  have R4 := Lib.hid hr
  have HH := Lib.hid (Tryd.Held_any E s2 u W4 HL4.out HE.out)
  clear hB HC R3 HL3 HB3 hr
  cases hq : rightL E u with
  | false =>
    rw [hq] at HH
    go_wp2_with fail
    refine HH.out.mono ?_
    rintro e W5 ⟨v, rfl, hv, hB⟩
    obtain ⟨a5, c5, rfl⟩ := hv.form
    have HB5 := Lib.hid (HB4.out.trans (hB.mono HB4.out.size))
    clear hv hB HH c0 c1 c2 c3 lt4
    go_wp2_with fail
    go_ret
    exact ⟨rfl, HB5.out⟩
  | true =>
    rw [hq, if_pos rfl] at HH
    have HQ := Lib.hid hq
    clear hq
    go_wp2_with fail
    refine HH.out.mono ?_
    rintro e W5 ⟨v, rfl, hv, hB⟩
    obtain ⟨a5, c5, rfl⟩ := hv.form
    have HI5 : Hid (WtI w B E s2 u a5 (heldL E u).length c5 W5) := Lib.hid ⟨R4.out.below hB R4.out.lt, HL4.out.below hB, (OwnE.of hv).mono HB4.out.size, HB4.out.trans (hB.mono HB4.out.size), HQ.out, U3.out⟩
    generalize (heldL E u).length = n5 at HI5 ⊢
    clear hv hB HH c0 c1 c2 c3 lt4 R4 HL4 HB4 HQ U3 HE
    go_upto_block 0 with fail
    go_cut [6] from 7 to 140 (fun v6 wc => ∃ (E : Nat) (r : Rw3) (s : Ls) (a6 : Option Addr) (n6 c6 : Nat), v6 = .slice a6 n6 c6 ∧ Hid (WtI w B E s r a6 n6 c6 wc))
    case first =>
      go_wp2_with fail
      go_loopw [6, 39] (fun v6 j wr => ∃ (k E : Nat) (r : Rw3) (s : Ls) (a6 : Option Addr) (n6 c6 : Nat), k ≤ n ∧ k ≤ 30 ∧ j = .int .i64 k ∧ v6 = .slice a6 n6 c6 ∧ Hid (WtI w B E s r a6 n6 c6 wr)) (fun _ j _ => n - (intOf j).toNat)
      case atStart => exact ⟨0, E, u, s2, a5, n5, c5, by omega, by omega, rfl, rfl, HI5⟩
      case round =>
        obtain ⟨k, E, r, s, a6, n6, c6, hk, hk30, rfl, rfl, hW⟩ := hrel
        clear HI5
        by_cases hlt : k < n
        · have hkl : k < ps.length := by rw [← HN.out]; exact hlt
          have hki : (k : Int) < (n : Int) := by omega
          have hki0 : (0 : Int) ≤ (k : Int) := by omega
          obtain ⟨b, off, rfl, hb3, z0, z1⟩ := pAt_get (HP.out.below hW.out.bl) k hkl
          generalize ps[k] = p at z0 z1
          have HW1 : Hid (WtI w B E s r a6 n6 c6 (wr.alloc (.cells #[.int .i64 p.1, .int .u64 (p.2 : Nat)] 38))) := Lib.hid (hW.out.below Rows8.newB)
          have P8 : Hid (Rows8 (wr.alloc (.cells #[.int .i64 p.1, .int .u64 (p.2 : Nat)] 38)) wr.heap.size 38 #[.int .i64 p.1, .int .u64 (p.2 : Nat)]) := Lib.hid (Rows8.new wr 38 #[.int .i64 p.1, .int .u64 (p.2 : Nat)])
          have HSW := Lib.hid hW.out.bl.size
          have HOW := Lib.hid (fun j (e : (Value.slice a6 n6 c6).ownBlock = some j) => (hW.out.ow.lt j e).2)
          clear hW
          by_cases h30 : k = 30
          · subst h30
            go_wp2_with fail
            go_meet
            exact ⟨E, r, s, a6, n6, c6, rfl, HW1⟩
          · have d30 : ((k : Int) == 30) = false := by simp; omega
            by_cases ht : 0 ≤ p.1
            · have ht2 : p.1 ≥ 0 := ht
              as_aux_lemma =>
                obtain ⟨T, hT⟩ : ∃ T, T = tryL E r (retN E r p) := ⟨_, rfl⟩
                have HR := Lib.hid (Tryd.Retire_any E s r p (wr.alloc (.cells #[.int .i64 p.1, .int .u64 (p.2 : Nat)] 38)) HW1.out.at_ HW1.out.lE HW1.out.r3)
                rw [← hT] at HR
                have HC : Hid ((T.1 = 0 ∧ T.2.1 = E ∧ T.2.2 = updL r (E % 3) (r (E % 3) ++ [p]) ∧ okE p = true ∧ whenL E r p.1 = none) ∨ ((T.1 = 2 ∨ T.1 = 5) ∧ T.2.1 = 0)) := Lib.hid (by
                  have hr := HW1.out.rt
                  rw [hT]
                  unfold tryL retN
                  rw [hr, if_pos rfl]
                  cases ho : okE p with
                  | false => exact .inr ⟨.inl rfl, rfl⟩
                  | true =>
                    cases hw : whenL E r p.1 with
                    | none => exact .inl ⟨rfl, rfl, rfl, rfl, rfl⟩
                    | some z => exact .inr ⟨.inr rfl, rfl⟩)
                have hbx := HW1.out.bx
                have c0 : (wr.alloc (.cells #[.int .i64 p.1, .int .u64 (p.2 : Nat)] 38)).cell? ⟨B, 0, none⟩ = some (.int .u64 (E : Nat)) := hbx.cell 0
                have c1 : (wr.alloc (.cells #[.int .i64 p.1, .int .u64 (p.2 : Nat)] 38)).cell? ⟨B, 1, none⟩ = some (.slice (s.a 0) (s.n 0) (s.c 0)) := hbx.cell 1
                have c2 : (wr.alloc (.cells #[.int .i64 p.1, .int .u64 (p.2 : Nat)] 38)).cell? ⟨B, 2, none⟩ = some (.slice (s.a 1) (s.n 1) (s.c 1)) := hbx.cell 2
                have c3 : (wr.alloc (.cells #[.int .i64 p.1, .int .u64 (p.2 : Nat)] 38)).cell? ⟨B, 3, none⟩ = some (.slice (s.a 2) (s.n 2) (s.c 2)) := hbx.cell 3
                have ltB := hbx.lt
                have e0 : (wr.alloc (.cells #[.int .i64 p.1, .int .u64 (p.2 : Nat)] 38)).cell? ⟨wr.heap.size, 0, none⟩ = some (.int .i64 p.1) := P8.out.cell 0
                have e1 : (wr.alloc (.cells #[.int .i64 p.1, .int .u64 (p.2 : Nat)] 38)).cell? ⟨wr.heap.size, 1, none⟩ = some (.int .u64 (p.2 : Nat)) := P8.out.cell 1
                have lt8 := P8.out.lt
                clear hT hbx
                go_wp2_with fail
                refine HR.out.mono ?_
                rintro e W6 ⟨⟨s3, rfl, hl⟩, hB6⟩
                have HW6 := Lib.hid (HW1.out.below hB6)
                have P86 := Lib.hid (P8.out.below hB6 P8.out.lt)
                have HL6 := Lib.hid hl
                have HSL6 := Lib.hid (Nat.lt_of_lt_of_le P8.out.lt hB6.size)
                obtain ⟨t1, t2, t3⟩ := T
                clear hl hB6 HR HW1 P8 c0 c1 c2 c3 ltB e0 e1 lt8
                have hal : Below W6.heap.size W6 (W6.alloc (.cells #[.int .u64 (t2 : Nat), .slice (s3.a 0) (s3.n 0) (s3.c 0), .slice (s3.a 1) (s3.n 1) (s3.c 1), .slice (s3.a 2) (s3.n 2) (s3.c 2)] 26)) := Rows8.newB
                have HW7 := Lib.hid (HW6.out.below hal)
                have P87 := Lib.hid (P86.out.below hal P86.out.lt)
                have R97 := Lib.hid (Rows8.new W6 26 #[.int .u64 (t2 : Nat), .slice (s3.a 0) (s3.n 0) (s3.c 0), .slice (s3.a 1) (s3.n 1) (s3.c 1), .slice (s3.a 2) (s3.n 2) (s3.c 2)])
                have HL7 := Lib.hid (HL6.out.below hal)
                have HWn := fun h => Lib.hid (Tryd.When_any t2 s3 t3 p.1 (W6.alloc (.cells #[.int .u64 (t2 : Nat), .slice (s3.a 0) (s3.n 0) (s3.c 0), .slice (s3.a 1) (s3.n 1) (s3.c 1), .slice (s3.a 2) (s3.n 2) (s3.c 2)] 26)) HL7.out.at h)
                have c0 : (W6.alloc (.cells #[.int .u64 (t2 : Nat), .slice (s3.a 0) (s3.n 0) (s3.c 0), .slice (s3.a 1) (s3.n 1) (s3.c 1), .slice (s3.a 2) (s3.n 2) (s3.c 2)] 26)).cell? ⟨W6.heap.size, 0, none⟩ = some (.int .u64 (t2 : Nat)) := R97.out.cell 0
                have c1 : (W6.alloc (.cells #[.int .u64 (t2 : Nat), .slice (s3.a 0) (s3.n 0) (s3.c 0), .slice (s3.a 1) (s3.n 1) (s3.c 1), .slice (s3.a 2) (s3.n 2) (s3.c 2)] 26)).cell? ⟨W6.heap.size, 1, none⟩ = some (.slice (s3.a 0) (s3.n 0) (s3.c 0)) := R97.out.cell 1
                have c2 : (W6.alloc (.cells #[.int .u64 (t2 : Nat), .slice (s3.a 0) (s3.n 0) (s3.c 0), .slice (s3.a 1) (s3.n 1) (s3.c 1), .slice (s3.a 2) (s3.n 2) (s3.c 2)] 26)).cell? ⟨W6.heap.size, 2, none⟩ = some (.slice (s3.a 1) (s3.n 1) (s3.c 1)) := R97.out.cell 2
                have c3 : (W6.alloc (.cells #[.int .u64 (t2 : Nat), .slice (s3.a 0) (s3.n 0) (s3.c 0), .slice (s3.a 1) (s3.n 1) (s3.c 1), .slice (s3.a 2) (s3.n 2) (s3.c 2)] 26)).cell? ⟨W6.heap.size, 3, none⟩ = some (.slice (s3.a 2) (s3.n 2) (s3.c 2)) := R97.out.cell 3
                have e0 : (W6.alloc (.cells #[.int .u64 (t2 : Nat), .slice (s3.a 0) (s3.n 0) (s3.c 0), .slice (s3.a 1) (s3.n 1) (s3.c 1), .slice (s3.a 2) (s3.n 2) (s3.c 2)] 26)).cell? ⟨wr.heap.size, 0, none⟩ = some (.int .i64 p.1) := P87.out.cell 0
                have lt8 := P87.out.lt
                have lt9 := R97.out.lt
                clear hal HW6 P86 HL6
                rcases HC.out with ⟨h1, h2, h3, h4, h5⟩ | ⟨h1, h2⟩
                · simp only at h1 h2 h3
                  subst h1 h2 h3
                  have HWm := HWn HW7.out.lE
                  rw [ret_right HW7.out.rt h4 h5, if_pos rfl, ret_when h5] at HWm
                  have HWm : Hid (Calls Tryd.prog 18 #[.agg #[.int .u64 (t2 : Nat), .slice (s3.a 0) (s3.n 0) (s3.c 0), .slice (s3.a 1) (s3.n 1) (s3.c 1), .slice (s3.a 2) (s3.n 2) (s3.c 2)], .int .i64 p.1] (W6.alloc (.cells #[.int .u64 (t2 : Nat), .slice (s3.a 0) (s3.n 0) (s3.c 0), .slice (s3.a 1) (s3.n 1) (s3.c 1), .slice (s3.a 2) (s3.n 2) (s3.c 2)] 26)) fun e w' => e = .returned (.tuple #[.int .u64 ((t2 : Nat) : Int), .bool true]) ∧ Below (W6.alloc (.cells #[.int .u64 (t2 : Nat), .slice (s3.a 0) (s3.n 0) (s3.c 0), .slice (s3.a 1) (s3.n 1) (s3.c 1), .slice (s3.a 2) (s3.n 2) (s3.c 2)] 26)).heap.size (W6.alloc (.cells #[.int .u64 (t2 : Nat), .slice (s3.a 0) (s3.n 0) (s3.c 0), .slice (s3.a 1) (s3.n 1) (s3.c 1), .slice (s3.a 2) (s3.n 2) (s3.c 2)] 26)) w') := HWm
                  have H4 := Lib.hid h4
                  have H5 := Lib.hid h5
                  clear HC HWn h4 h5
                  go_wp2_with fail
                  refine HWm.out.mono ?_
                  rintro e W8 ⟨rfl, hB8⟩
                  have HW8 := Lib.hid (HW7.out.below hB8)
                  have P88 := Lib.hid (P87.out.below hB8 P87.out.lt)
                  have R98 := Lib.hid (R97.out.below hB8 R97.out.lt)
                  have HL8 := Lib.hid (HL7.out.below hB8)
                  have HSL := Lib.hid HSL6.out
                  have HS8 := Lib.hid True.intro
                  clear hB8 HWm HW7 P87 R97 HL7 c0 c1 c2 c3 e0 lt8 lt9
                  have hbx := HW8.out.bx
                  have d0 : W8.cell? ⟨B, 0, none⟩ = some (.int .u64 (t2 : Nat)) := hbx.cell 0
                  have ltB := hbx.lt
                  clear hbx
                  go_upto_region 17 with fail
                  clear d0 ltB
                  refine wp_region_L (fun W' => Rows8 W' W6.heap.size 26 #[.int .u64 (t2 : Nat), .slice (s3.a 0) (s3.n 0) (s3.c 0), .slice (s3.a 1) (s3.n 1) (s3.c 1), .slice (s3.a 2) (s3.n 2) (s3.c 2)] ∧ Rows8 W' wr.heap.size 38 #[.int .i64 p.1, .int .u64 (p.2 : Nat)]) 5 (by kernel_rfl) ?_
                  have hS0 : Rows8 W8.drew W6.heap.size 26 #[.int .u64 (t2 : Nat), .slice (s3.a 0) (s3.n 0) (s3.c 0), .slice (s3.a 1) (s3.n 1) (s3.c 1), .slice (s3.a 2) (s3.n 2) (s3.c 2)] ∧ Rows8 W8.drew wr.heap.size 38 #[.int .i64 p.1, .int .u64 (p.2 : Nat)] := ⟨R98.out.drewA, P88.out.drewA⟩
                  have HWD : Hid (WtI w B t2 s r a6 n6 c6 W8.drew) := Lib.hid HW8.out.drew
                  have HLD : Hid (LO (wr.alloc (.cells #[.int .i64 p.1, .int .u64 (p.2 : Nat)] 38)).heap.size (updL r (t2 % 3) (r (t2 % 3) ++ [p])) s3 W8.drew) := Lib.hid (lo_drew HL8.out)
                  have HSD : Hid (wr.heap.size < W8.drew.heap.size) := Lib.hid P88.out.lt
                  clear HW8 P88 R98 HL8 HS8
                  generalize W8.drew = Wd at *
                  refine wpAnyL_takeT (i := 0) (oi := { dst := some 76, op := Go.Op.load 26 (Go.Operand.tmp 9), type := 26, pos := "outright.go:30", after := #[], guard := none }) (v := .agg #[.int .u64 (t2 : Nat), .slice (s3.a 0) (s3.n 0) (s3.c 0), .slice (s3.a 1) (s3.n 1) (s3.c 1), .slice (s3.a 2) (s3.n 2) (s3.c 2)]) [5, 6] rfl (by kernel_rfl) (by kernel_rfl) (by kernel_rfl) (by kernel_rfl) (fun _ _ _ h => h) (Or.inl ⟨by rfl, ?_⟩) hS0 ?_
                  · intro W9 hS9
                    obtain ⟨q0, q1⟩ := hS9
                    have s0 : W9.cell? ⟨W6.heap.size, 0, none⟩ = some (.int .u64 (t2 : Nat)) := q0.cell 0
                    have s1 : W9.cell? ⟨W6.heap.size, 1, none⟩ = some (.slice (s3.a 0) (s3.n 0) (s3.c 0)) := q0.cell 1
                    have s2 : W9.cell? ⟨W6.heap.size, 2, none⟩ = some (.slice (s3.a 1) (s3.n 1) (s3.c 1)) := q0.cell 2
                    have s3 : W9.cell? ⟨W6.heap.size, 3, none⟩ = some (.slice (s3.a 2) (s3.n 2) (s3.c 2)) := q0.cell 3
                    clear q0 q1
                    go_simp
                  try simp only [Act.put, List.setIfInBounds_toArray, List.set_cons_zero, List.set_cons_succ]
                  refine wpAnyL_takeT (i := 1) (oi := { dst := some 77, op := Go.Op.move (Go.Operand.tmp 6), type := 23, pos := "outright.go:30", after := #[], guard := none }) (v := .slice a6 n6 c6) [4, 5, 6] rfl (by kernel_rfl) (by kernel_rfl) (by kernel_rfl) (by kernel_rfl) (fun _ _ _ h => h) (Or.inl ⟨by rfl, ?_⟩) hS0 ?_
                  · intro W9 hS9
                    obtain ⟨q0, q1⟩ := hS9
                    clear q0 q1
                    go_simp
                  try simp only [Act.put, List.setIfInBounds_toArray, List.set_cons_zero, List.set_cons_succ]
                  refine wpAnyL_takeT (i := 2) (oi := { dst := some 78, op := Go.Op.load 38 (Go.Operand.tmp 8), type := 38, pos := "outright.go:30", after := #[], guard := none }) (v := .agg #[.int .i64 p.1, .int .u64 (p.2 : Nat)]) [3, 4, 5, 6] rfl (by kernel_rfl) (by kernel_rfl) (by kernel_rfl) (by kernel_rfl) (fun _ _ _ h => h) (Or.inl ⟨by rfl, ?_⟩) hS0 ?_
                  · intro W9 hS9
                    obtain ⟨q0, q1⟩ := hS9
                    have s0 : W9.cell? ⟨wr.heap.size, 0, none⟩ = some (.int .i64 p.1) := q1.cell 0
                    have s1 : W9.cell? ⟨wr.heap.size, 1, none⟩ = some (.int .u64 (p.2 : Nat)) := q1.cell 1
                    clear q0 q1
                    go_simp
                  try simp only [Act.put, List.setIfInBounds_toArray, List.set_cons_zero, List.set_cons_succ]
                  refine wpAnyL_one (i := 3) (o := { dst := some 79, op := Go.Op.buildSlice 23 1 #[(0, Go.Operand.tmp 78)], type := 23, pos := "outright.go:30", after := #[{ on := 2, ground := Go.Ground.data }], guard := none }) (by kernel_rfl) rfl (fun K hK => ?_)
                  refine step_value_g (by rfl) (.slice (some ⟨Wd.heap.size, 0, none⟩) 1 1) (w' := Wd.alloc (.cells #[.int .i64 p.1, .int .u64 (p.2 : Nat)] 38)) (by go_simp) ?_
                  have hal4 : Below Wd.heap.size Wd (Wd.alloc (.cells #[.int .i64 p.1, .int .u64 (p.2 : Nat)] 38)) := Rows8.newB
                  have hS4 : Rows8 (Wd.alloc (.cells #[.int .i64 p.1, .int .u64 (p.2 : Nat)] 38)) W6.heap.size 26 #[.int .u64 (t2 : Nat), .slice (s3.a 0) (s3.n 0) (s3.c 0), .slice (s3.a 1) (s3.n 1) (s3.c 1), .slice (s3.a 2) (s3.n 2) (s3.c 2)] ∧ Rows8 (Wd.alloc (.cells #[.int .i64 p.1, .int .u64 (p.2 : Nat)] 38)) wr.heap.size 38 #[.int .i64 p.1, .int .u64 (p.2 : Nat)] := ⟨hS0.1.alloc _, hS0.2.alloc _⟩
                  have hcn := cells_new Wd 38 [.int .i64 p.1, .int .u64 (p.2 : Nat)]
                  have HW4 := Lib.hid (HWD.out.below hal4)
                  have HL4 := Lib.hid (HLD.out.below hal4)
                  have HOB := Lib.hid (show ∀ j, (Value.slice a6 n6 c6).ownBlock = some j → j < wr.heap.size from HOW.out)
                  obtain ⟨W4, hW4⟩ : ∃ W, W = Wd.alloc (.cells #[.int .i64 p.1, .int .u64 (p.2 : Nat)] 38) := ⟨_, rfl⟩
                  have hcn2 : ∀ j u, (pCells p)[j]? = some u → W4.cell? ((⟨Wd.heap.size, 0, none⟩ : Addr).add j) = some u := by rw [hW4]; exact hcn
                  rw [← hW4] at hS4 HW4 HL4 ⊢
                  clear hal4 hcn hW4 HWD HLD HSD
                  refine hK.out _ _ (fun _ => hS4) ?_
                  clear hK K
                  try simp only [Act.put, List.setIfInBounds_toArray, List.set_cons_zero, List.set_cons_succ]
                  refine wpAnyL_one (i := 4) (o := { dst := some 80, op := Go.Op.call { callee := Go.Callee.builtin Go.Builtin.append, args := #[Go.Operand.tmp 77, Go.Operand.tmp 79], argTypes := #[23, 23] }, type := 23, pos := "outright.go:30", after := #[{ on := 1, ground := Go.Ground.data }, { on := 3, ground := Go.Ground.data }], guard := none }) (by kernel_rfl) rfl (fun K hK => ?_)
                  obtain ⟨v5, w5, hrun, ho5, hg5, hv5⟩ := Tryd.append_e W4 w.heap.size 23 (heldL t2 r) (.slice a6 n6 c6) HW4.out.ow p ⟨Wd.heap.size, 0, none⟩ 1 hcn2 (by have h9 := HW4.out.n_eq; omega) HW4.out.bl.size
                  refine step_value_g (by rfl) v5 (w' := w5) (exec_append _ _ _ rfl _ _ _ rfl rfl hrun) ?_
                  have hn4 := HW4.out.n_eq
                  have hS5 : Rows8 w5 W6.heap.size 26 #[.int .u64 (t2 : Nat), .slice (s3.a 0) (s3.n 0) (s3.c 0), .slice (s3.a 1) (s3.n 1) (s3.c 1), .slice (s3.a 2) (s3.n 2) (s3.c 2)] ∧ Rows8 w5 wr.heap.size 38 #[.int .i64 p.1, .int .u64 (p.2 : Nat)] := ⟨(hg5.block _ hS4.1.lt (fun e => by have h1 := HOB.out _ e.symm; have h2 := HSL.out; omega)).trans hS4.1, (hg5.block _ hS4.2.lt (fun e => by have h1 := HOB.out _ e.symm; omega)).trans hS4.2⟩
                  have hbx5 : Rows8 w5 B 26 #[.int .u64 (t2 : Nat), .slice (s.a 0) (s.n 0) (s.c 0), .slice (s.a 1) (s.n 1) (s.c 1), .slice (s.a 2) (s.n 2) (s.c 2)] := (hg5.block _ HW4.out.bx.lt (fun e => (HW4.out.ow.ne HW4.out.bx (by decide)) e.symm)).trans HW4.out.bx
                  have hl5 : LO (wr.alloc (.cells #[.int .i64 p.1, .int .u64 (p.2 : Nat)] 38)).heap.size (updL r (t2 % 3) (r (t2 % 3) ++ [p])) s3 w5 := ⟨fun k hk => (HL4.out.1 k hk).grown hg5 (by
                    rcases hob : (Ls.v s3 k).ownBlock with _ | j
                    · exact .inl rfl
                    · refine .inr fun e => ?_
                      have h1 := HOB.out _ e.symm
                      have h2 := ((HL4.out.1 k hk).lt j hob).1
                      rw [World.size_alloc] at h2
                      omega), HL4.out.2⟩
                  obtain ⟨a5, c5, rfl, _⟩ := ho5.form
                  have HB5 := Lib.hid (HW4.out.bl.grown hg5 HW4.out.bl.size (fun j ej => (HW4.out.ow.lt j ej).1))
                  have HX5 := Lib.hid hbx5
                  have HL5 := Lib.hid hl5
                  have HO5 := Lib.hid ho5
                  have HR4 := Lib.hid (And.intro HW4.out.rt HW4.out.r3)
                  clear hrun hg5 hv5 hbx5 hl5 ho5 HW4 HL4 hcn2 hn4 HOB
                  generalize (heldL t2 r ++ [p]).length = n5 at *
                  refine hK.out _ _ (fun _ => hS5) ?_
                  clear hK K
                  try simp only [Act.put, List.setIfInBounds_toArray, List.set_cons_zero, List.set_cons_succ]
                  refine wpAnyL_one (i := 5) (o := { dst := none, op := Go.Op.store 26 (Go.Operand.tmp 5) (Go.Operand.tmp 76), type := 0, pos := "outright.go:30", after := #[{ on := 0, ground := Go.Ground.data }, { on := 4, ground := Go.Ground.chain }, { on := 0, ground := Go.Ground.phase }, { on := 1, ground := Go.Ground.textOnly Go.Departure.lateStores }, { on := 2, ground := Go.Ground.textOnly Go.Departure.lateStores }, { on := 3, ground := Go.Ground.textOnly Go.Departure.lateStores }, { on := 4, ground := Go.Ground.textOnly Go.Departure.lateStoresUnsure }], guard := none }) (by kernel_rfl) rfl (fun K hK => ?_)
                  have c0 : w5.cell? ⟨B, 0, none⟩ = some (.int .u64 (t2 : Nat)) := HX5.out.cell 0
                  have c1 : w5.cell? ⟨B, 1, none⟩ = some (.slice (s.a 0) (s.n 0) (s.c 0)) := HX5.out.cell 1
                  have c2 : w5.cell? ⟨B, 2, none⟩ = some (.slice (s.a 1) (s.n 1) (s.c 1)) := HX5.out.cell 2
                  have c3 : w5.cell? ⟨B, 3, none⟩ = some (.slice (s.a 2) (s.n 2) (s.c 2)) := HX5.out.cell 3
                  have f0 := HX5.out.frozen 0
                  have f1 := HX5.out.frozen 1
                  have f2 := HX5.out.frozen 2
                  have f3 := HX5.out.frozen 3
                  have ltB := HX5.out.lt
                  refine step_skip_g (by rfl) (w' := ((((w5.setCell ⟨B, 0, none⟩ (.int .u64 (t2 : Nat))).setCell ⟨B, 1, none⟩ (.slice (s3.a 0) (s3.n 0) (s3.c 0))).setCell ⟨B, 2, none⟩ (.slice (s3.a 1) (s3.n 1) (s3.c 1))).setCell ⟨B, 3, none⟩ (.slice (s3.a 2) (s3.n 2) (s3.c 2)))) (by go_simp) ?_
                  have HI6 : Hid (WtI w B t2 s3 (updL r (t2 % 3) (r (t2 % 3) ++ [p])) a5 n5 c5 ((((w5.setCell ⟨B, 0, none⟩ (.int .u64 (t2 : Nat))).setCell ⟨B, 1, none⟩ (.slice (s3.a 0) (s3.n 0) (s3.c 0))).setCell ⟨B, 2, none⟩ (.slice (s3.a 1) (s3.n 1) (s3.c 1))).setCell ⟨B, 3, none⟩ (.slice (s3.a 2) (s3.n 2) (s3.c 2)))) := Lib.hid ⟨rows4 HX5.out (.int .u64 (t2 : Nat)) (.slice (s3.a 0) (s3.n 0) (s3.c 0)) (.slice (s3.a 1) (s3.n 1) (s3.c 1)) (.slice (s3.a 2) (s3.n 2) (s3.c 2)), (LO.setT HL5.out HX5.out (.int .u64 (t2 : Nat)) (.slice (s3.a 0) (s3.n 0) (s3.c 0)) (.slice (s3.a 1) (s3.n 1) (s3.c 1)) (.slice (s3.a 2) (s3.n 2) (s3.c 2))).at, by rw [(ret_held HR4.out.1 p).2.2]; exact HO5.out.setT HX5.out (.int .u64 (t2 : Nat)) (.slice (s3.a 0) (s3.n 0) (s3.c 0)) (.slice (s3.a 1) (s3.n 1) (s3.c 1)) (.slice (s3.a 2) (s3.n 2) (s3.c 2)), below4 HB5.out HBG.out (.int .u64 (t2 : Nat)) (.slice (s3.a 0) (s3.n 0) (s3.c 0)) (.slice (s3.a 1) (s3.n 1) (s3.c 1)) (.slice (s3.a 2) (s3.n 2) (s3.c 2)), ret_right HR4.out.1 H4.out H5.out, by rw [updL_ne _ _ (by omega)]; exact HR4.out.2⟩
                  clear c0 c1 c2 c3 f0 f1 f2 f3 ltB HX5 HL5 HO5 HB5 HR4 H4 H5
                  refine hK.out _ _ (fun h => absurd h (by decide)) ?_
                  clear hK K
                  try simp only [Act.put, List.setIfInBounds_toArray, List.set_cons_zero, List.set_cons_succ]
                  refine wpAnyL_one (i := 6) (o := { dst := some 6, op := Go.Op.assign (Go.Operand.tmp 80), type := 23, pos := "outright.go:30", after := #[{ on := 4, ground := Go.Ground.data }, { on := 5, ground := Go.Ground.chain }, { on := 0, ground := Go.Ground.phase }, { on := 1, ground := Go.Ground.phase }, { on := 2, ground := Go.Ground.phase }, { on := 3, ground := Go.Ground.phase }, { on := 4, ground := Go.Ground.phase }, { on := 5, ground := Go.Ground.phase }], guard := none }) (by kernel_rfl) rfl (fun K hK => ?_)
                  refine step_value_g (by rfl) (.slice a5 n5 c5) (w' := ((((w5.setCell ⟨B, 0, none⟩ (.int .u64 (t2 : Nat))).setCell ⟨B, 1, none⟩ (.slice (s3.a 0) (s3.n 0) (s3.c 0))).setCell ⟨B, 2, none⟩ (.slice (s3.a 1) (s3.n 1) (s3.c 1))).setCell ⟨B, 3, none⟩ (.slice (s3.a 2) (s3.n 2) (s3.c 2)))) (by go_simp) ?_
                  refine hK.out _ _ (fun h => absurd h (by decide)) ?_
                  clear hK K
                  try simp only [Act.put, List.setIfInBounds_toArray, List.set_cons_zero, List.set_cons_succ]
                  refine wpAnyL_end (by kernel_rfl) ?_
                  go_wp2_with fail
                  exact ⟨⟨k + 1, t2, _, s3, a5, n5, c5, by omega, by omega, by go_num, rfl, HI6⟩, by simp [intOf]; omega⟩
                · simp only at h1 h2
                  have H2 := Lib.hid h2
                  have HWm := HWn (by rw [h2]; omega)
                  clear HC HWn h2
                  have h10 : (t1 == 0) = false := by rcases h1 with rfl | rfl <;> rfl
                  obtain ⟨o, ho⟩ : ∃ o, o = (if rightL t2 t3 then whenL t2 t3 p.1 else none) := ⟨_, rfl⟩
                  rw [← ho] at HWm
                  clear ho
                  go_wp2_with fail
                  refine HWm.out.mono ?_
                  rintro e W8 ⟨rfl, hB8⟩
                  have HW8 := Lib.hid (HW7.out.below hB8)
                  clear hB8 HWm HW7 P87 R97 HL7 c0 c1 c2 c3 e0 lt8 lt9
                  rcases h1 with rfl | rfl
                  · go_wp2_with fail
                    exact ⟨⟨k + 1, E, r, s, a6, n6, c6, by omega, by omega, by go_num, rfl, HW8⟩, by simp [intOf]; omega⟩
                  · go_wp2_with fail
                    exact ⟨⟨k + 1, E, r, s, a6, n6, c6, by omega, by omega, by go_num, rfl, HW8⟩, by simp [intOf]; omega⟩
            · have ht2 : ¬ p.1 ≥ 0 := ht
              have hbx := HW1.out.bx
              have c0 : (wr.alloc (.cells #[.int .i64 p.1, .int .u64 (p.2 : Nat)] 38)).cell? ⟨B, 0, none⟩ = some (.int .u64 (E : Nat)) := hbx.cell 0
              have c1 : (wr.alloc (.cells #[.int .i64 p.1, .int .u64 (p.2 : Nat)] 38)).cell? ⟨B, 1, none⟩ = some (.slice (s.a 0) (s.n 0) (s.c 0)) := hbx.cell 1
              have c2 : (wr.alloc (.cells #[.int .i64 p.1, .int .u64 (p.2 : Nat)] 38)).cell? ⟨B, 2, none⟩ = some (.slice (s.a 1) (s.n 1) (s.c 1)) := hbx.cell 2
              have c3 : (wr.alloc (.cells #[.int .i64 p.1, .int .u64 (p.2 : Nat)] 38)).cell? ⟨B, 3, none⟩ = some (.slice (s.a 2) (s.n 2) (s.c 2)) := hbx.cell 3
              have ltB := hbx.lt
              have e0 : (wr.alloc (.cells #[.int .i64 p.1, .int .u64 (p.2 : Nat)] 38)).cell? ⟨wr.heap.size, 0, none⟩ = some (.int .i64 p.1) := P8.out.cell 0
              have lt8 := P8.out.lt
              have HRd := Lib.hid (Tryd.Ready_any E s r (wr.alloc (.cells #[.int .i64 p.1, .int .u64 (p.2 : Nat)] 38)) HW1.out.at_ HW1.out.lE)
              rw [HW1.out.rt, if_pos rfl] at HRd
              clear hbx
              go_wp2_with fail
              refine HRd.out.mono ?_
              rintro e W6 ⟨v, rfl, hv, hB6⟩
              obtain ⟨ar, cr, rfl⟩ := hv.form
              have HW6 := Lib.hid (HW1.out.below hB6)
              obtain ⟨m, hm⟩ : ∃ m, m = (readyL E r).length := ⟨_, rfl⟩
              have hm9 : m ≤ 128 := by rw [hm]; exact rightL_lenk HW6.out.rt _ (Nat.mod_lt _ (by omega))
              rw [← hm]
              have HM := Lib.hid hm
              clear hm
              clear hv hB6 HRd c0 c1 c2 c3 ltB e0 lt8 HW1 P8 z0 z1 hb3 HOW HSW
              go_wp2_with fail
              go_loopw [6, 84] (fun v6 j wr => ∃ (i : Nat) (r2 : Rw3) (s2 : Ls) (a7 : Option Addr) (n7 c7 : Nat), i + (readyL E r2).length = m ∧ j = .int .i64 i ∧ v6 = .slice a7 n7 c7 ∧ Hid (WtI w B E s2 r2 a7 n7 c7 wr)) (fun _ j _ => m - (intOf j).toNat)
              case atStart => exact ⟨0, r, s, a6, n6, c6, by have := HM.out; omega, rfl, rfl, HW6⟩
              case round =>
                clear HW6 HM
                obtain ⟨i, r2, s4, a7, n7, c7, hi, rfl, rfl, hX⟩ := hrel
                by_cases hlt2 : i < m
                · cases hz : readyL E r2 with
                  | nil => rw [hz] at hi; simp at hi; omega
                  | cons z t2 =>
                    have hat := hX.out.ow.at
                    have hnn := hX.out.n_eq
                    rw [rdy_held hX.out.rt hz] at hat hnn
                    obtain ⟨b7, off7, rfl, hb7, y0, y1⟩ := pAt_get hat 0 (by simp)
                    simp only [List.getElem_cons_zero, Nat.zero_mul, Nat.add_zero] at y0 y1
                    have hcap := (pAt_len hat).2
                    simp only [List.length_cons] at hnn
                    obtain ⟨m7, rfl⟩ : ∃ m7, n7 = m7 + 1 := ⟨n7 - 1, by omega⟩
                    obtain ⟨d7, rfl⟩ : ∃ d7, c7 = d7 + 1 := ⟨c7 - 1, by omega⟩
                    have hmd : m7 ≤ d7 := by omega
                    have hE2 := rdy_two hX.out.rt (by rw [hz]; exact List.cons_ne_nil _ _)
                    obtain ⟨A, hA⟩ : ∃ A, A + 2 = E := ⟨E - 2, by omega⟩
                    have hwn : whenL E r2 z.1 = some A := by rw [rdy_when hX.out.rt hz, show E - 2 = A by omega]
                    have hki2 : (i : Int) < (m : Int) := by omega
                    have Hi := Lib.hid (show i + 1 + t2.length = m by rw [hz] at hi; simp at hi; omega)
                    have HZ := Lib.hid hz
                    clear hat hi hnn
                    as_aux_lemma =>
                      go_upto_region 20 with fail
                      refine wp_region_L (fun W' => Rows8 W' B 26 #[.int .u64 (E : Nat), .slice (s4.a 0) (s4.n 0) (s4.c 0), .slice (s4.a 1) (s4.n 1) (s4.c 1), .slice (s4.a 2) (s4.n 2) (s4.c 2)] ∧ W'.cell? ⟨b7, off7, none⟩ = some (.int .i64 z.1)) 5 (by kernel_rfl) ?_
                      have hS0 : Rows8 wr.drew B 26 #[.int .u64 (E : Nat), .slice (s4.a 0) (s4.n 0) (s4.c 0), .slice (s4.a 1) (s4.n 1) (s4.c 1), .slice (s4.a 2) (s4.n 2) (s4.c 2)] ∧ wr.drew.cell? ⟨b7, off7, none⟩ = some (.int .i64 z.1) := ⟨hX.out.bx.drewA, y0⟩
                      have HX0 : Hid (WtI w B E s4 r2 (some ⟨b7, off7, none⟩) (m7 + 1) (d7 + 1) wr.drew) := Lib.hid hX.out.drew
                      have hb7d : Hid (b7 < wr.drew.heap.size) := Lib.hid hb7
                      have Y0 : Hid (wr.drew.cell? ⟨b7, off7, none⟩ = some (.int .i64 z.1)) := Lib.hid y0
                      have Y1 : Hid (wr.drew.cell? ⟨b7, off7 + 1, none⟩ = some (.int .u64 (z.2 : Nat))) := Lib.hid y1
                      clear hX hb7 y0 y1 hz
                      generalize wr.drew = Wd at *
                      refine wpAnyL_takeT (i := 0) (oi := { dst := some 87, op := Go.Op.load 26 (Go.Operand.tmp 5), type := 26, pos := "outright.go:35", after := #[], guard := none }) (v := .agg #[.int .u64 (E : Nat), .slice (s4.a 0) (s4.n 0) (s4.c 0), .slice (s4.a 1) (s4.n 1) (s4.c 1), .slice (s4.a 2) (s4.n 2) (s4.c 2)]) [5, 6, 7, 8, 9, 10] rfl (by kernel_rfl) (by kernel_rfl) (by kernel_rfl) (by kernel_rfl) (fun _ _ _ h => h) (Or.inl ⟨by rfl, ?_⟩) hS0 ?_
                      · intro W9 hS9
                        obtain ⟨q0, q1⟩ := hS9
                        have s0 : W9.cell? ⟨B, 0, none⟩ = some (.int .u64 (E : Nat)) := q0.cell 0
                        have s1 : W9.cell? ⟨B, 1, none⟩ = some (.slice (s4.a 0) (s4.n 0) (s4.c 0)) := q0.cell 1
                        have s2 : W9.cell? ⟨B, 2, none⟩ = some (.slice (s4.a 1) (s4.n 1) (s4.c 1)) := q0.cell 2
                        have s3 : W9.cell? ⟨B, 3, none⟩ = some (.slice (s4.a 2) (s4.n 2) (s4.c 2)) := q0.cell 3
                        clear q0 q1
                        go_simp
                      try simp only [Act.put, List.setIfInBounds_toArray, List.set_cons_zero, List.set_cons_succ]
                      refine wpAnyL_takeT (i := 1) (oi := { dst := some 88, op := Go.Op.move (Go.Operand.tmp 6), type := 23, pos := "outright.go:35", after := #[], guard := none }) (v := .slice (some ⟨b7, off7, none⟩) (m7 + 1) (d7 + 1)) [2, 3, 4, 5, 6, 7, 8, 9, 10] rfl (by kernel_rfl) (by kernel_rfl) (by kernel_rfl) (by kernel_rfl) (fun _ _ _ h => h) (Or.inl ⟨by rfl, ?_⟩) hS0 ?_
                      · intro W9 hS9
                        obtain ⟨q0, q1⟩ := hS9
                        clear q0 q1
                        go_simp
                      try simp only [Act.put, List.setIfInBounds_toArray, List.set_cons_zero, List.set_cons_succ]
                      refine wpAnyL_takeT (i := 2) (oi := { dst := some 89, op := Go.Op.indexAddr 23 (Go.Operand.tmp 88) (Go.Operand.const (Go.Value.int Go.IntKind.i64 0)), type := 0, pos := "outright.go:35", after := #[{ on := 1, ground := Go.Ground.data }], guard := none }) (v := .pointer (some ⟨b7, off7, none⟩)) [3, 4, 5, 6, 7, 8, 9, 10] rfl (by kernel_rfl) (by kernel_rfl) (by kernel_rfl) (by kernel_rfl) (fun _ _ _ h => h) (Or.inl ⟨by rfl, ?_⟩) hS0 ?_
                      · intro W9 hS9
                        obtain ⟨q0, q1⟩ := hS9
                        clear q0 q1
                        have h9 : (0 : Int) < ((m7 : Nat) : Int) + 1 := by omega
                        go_simp
                      try simp only [Act.put, List.setIfInBounds_toArray, List.set_cons_zero, List.set_cons_succ]
                      refine wpAnyL_takeT (i := 3) (oi := { dst := some 90, op := Go.Op.fieldAddr 38 (Go.Operand.tmp 89) 0, type := 0, pos := "outright.go:35", after := #[{ on := 2, ground := Go.Ground.data }], guard := none }) (v := .pointer (some ⟨b7, off7, none⟩)) [4, 5, 6, 7, 8, 9, 10] rfl (by kernel_rfl) (by kernel_rfl) (by kernel_rfl) (by kernel_rfl) (fun _ _ _ h => h) (Or.inl ⟨by rfl, ?_⟩) hS0 ?_
                      · intro W9 hS9
                        obtain ⟨q0, q1⟩ := hS9
                        clear q0 q1
                        go_simp
                      try simp only [Act.put, List.setIfInBounds_toArray, List.set_cons_zero, List.set_cons_succ]
                      refine wpAnyL_takeT (i := 4) (oi := { dst := some 91, op := Go.Op.load 3 (Go.Operand.tmp 90), type := 3, pos := "outright.go:35", after := #[{ on := 3, ground := Go.Ground.data }], guard := none }) (v := .int .i64 z.1) [5, 6, 7, 8, 9, 10] rfl (by kernel_rfl) (by kernel_rfl) (by kernel_rfl) (by kernel_rfl) (fun _ _ _ h => h) (Or.inl ⟨by rfl, ?_⟩) hS0 ?_
                      · intro W9 hS9
                        obtain ⟨q0, q1⟩ := hS9
                        have s0 := q1
                        clear q0 q1
                        go_simp
                      try simp only [Act.put, List.setIfInBounds_toArray, List.set_cons_zero, List.set_cons_succ]
                      refine wpAnyL_one (i := 5) (o := { dst := some 92, op := Go.Op.call { callee := Go.Callee.value (Go.Operand.func 18), args := #[Go.Operand.tmp 87, Go.Operand.tmp 91], argTypes := #[26, 3] }, type := 39, pos := "outright.go:35", after := #[{ on := 0, ground := Go.Ground.data }, { on := 4, ground := Go.Ground.data }], guard := none }) (by kernel_rfl) rfl (fun K hK => ?_)
                      have HWn := Tryd.When_any E s4 r2 z.1 Wd HX0.out.at_ HX0.out.lE
                      rw [HX0.out.rt, if_pos rfl, hwn] at HWn
                      have HWn : Calls Tryd.prog 18 #[.agg #[.int .u64 (E : Nat), .slice (s4.a 0) (s4.n 0) (s4.c 0), .slice (s4.a 1) (s4.n 1) (s4.c 1), .slice (s4.a 2) (s4.n 2) (s4.c 2)], .int .i64 z.1] Wd fun e w' => e = .returned (.tuple #[.int .u64 ((A : Nat) : Int), .bool true]) ∧ Below Wd.heap.size Wd w' := HWn
                      refine step_call_g (by rfl) 18 _ _ rfl (fun _ _ => by kernel_rfl) #[.agg #[.int .u64 (E : Nat), .slice (s4.a 0) (s4.n 0) (s4.c 0), .slice (s4.a 1) (s4.n 1) (s4.c 1), .slice (s4.a 2) (s4.n 2) (s4.c 2)], .int .i64 z.1] (by simp [go_sem]) _ HWn ?_
                      rintro e W1x ⟨rfl, hC⟩
                      have HX1 := Lib.hid (HX0.out.below hC)
                      have Y0 := Lib.hid ((hC.cell (p := ⟨b7, off7, none⟩) hb7d.out).trans Y0.out)
                      have Y1 := Lib.hid ((hC.cell (p := ⟨b7, off7 + 1, none⟩) hb7d.out).trans Y1.out)
                      have hb7d := Lib.hid (Nat.lt_of_lt_of_le hb7d.out hC.size)
                      clear hC HX0 hS0 HWn
                      refine ⟨_, rfl, ?_⟩
                      refine hK.out _ _ (fun h => absurd h (by decide)) ?_
                      clear hK K
                      try simp only [Act.put, List.setIfInBounds_toArray, List.set_cons_zero, List.set_cons_succ]
                      refine wpAnyL_one (i := 6) (o := { dst := some 86, op := Go.Op.move (Go.Operand.tmp 92), type := 39, pos := "outright.go:35", after := #[{ on := 5, ground := Go.Ground.data }], guard := none }) (by kernel_rfl) rfl (fun K hK => ?_)
                      refine step_value_g (by rfl) (.tuple #[.int .u64 ((A : Nat) : Int), .bool true]) (w' := W1x) (by go_simp) ?_
                      refine hK.out _ _ (fun h => absurd h (by decide)) ?_
                      clear hK K
                      try simp only [Act.put, List.setIfInBounds_toArray, List.set_cons_zero, List.set_cons_succ]
                      refine wpAnyL_takeP (i := 7) (oi := { dst := some 93, op := Go.Op.extract (Go.Operand.tmp 86) 0, type := 22, pos := "outright.go:35", after := #[{ on := 6, ground := Go.Ground.data }], guard := none }) (v := .int .u64 ((A : Nat) : Int)) rfl (by kernel_rfl) (by kernel_rfl) (by kernel_rfl) (by kernel_rfl) (fun _ _ _ h => h) (Or.inl ⟨by rfl, ?_⟩) ?_
                      · intro W9 _
                        go_simp
                      try simp only [Act.put, List.setIfInBounds_toArray, List.set_cons_zero, List.set_cons_succ]
                      refine wpAnyL_takeP (i := 8) (oi := { dst := some 94, op := Go.Op.extract (Go.Operand.tmp 86) 1, type := 4, pos := "outright.go:35", after := #[{ on := 6, ground := Go.Ground.data }, { on := 9, ground := Go.Ground.gcOnly Go.Departure.lateStores }], guard := none }) (v := .bool true) rfl (by kernel_rfl) (by kernel_rfl) (by kernel_rfl) (by kernel_rfl) (fun _ _ _ h => h) (Or.inl ⟨by rfl, ?_⟩) ?_
                      · intro W9 _
                        go_simp
                      try simp only [Act.put, List.setIfInBounds_toArray, List.set_cons_zero, List.set_cons_succ]
                      refine wpAnyL_one (i := 9) (o := { dst := some 13, op := Go.Op.assign (Go.Operand.tmp 93), type := 22, pos := "outright.go:35", after := #[{ on := 7, ground := Go.Ground.data }, { on := 5, ground := Go.Ground.chain }, { on := 0, ground := Go.Ground.phase }, { on := 1, ground := Go.Ground.phase }, { on := 2, ground := Go.Ground.phase }, { on := 3, ground := Go.Ground.phase }, { on := 4, ground := Go.Ground.phase }, { on := 5, ground := Go.Ground.phase }, { on := 6, ground := Go.Ground.phase }, { on := 7, ground := Go.Ground.phase }, { on := 8, ground := Go.Ground.textOnly Go.Departure.lateStores }], guard := none }) (by kernel_rfl) rfl (fun K hK => ?_)
                      refine step_value_g (by rfl) (.int .u64 ((A : Nat) : Int)) (w' := W1x) (by go_simp) ?_
                      refine hK.out _ _ (fun h => absurd h (by decide)) ?_
                      clear hK K
                      try simp only [Act.put, List.setIfInBounds_toArray, List.set_cons_zero, List.set_cons_succ]
                      refine wpAnyL_one (i := 10) (o := { dst := some 14, op := Go.Op.assign (Go.Operand.tmp 94), type := 4, pos := "outright.go:35", after := #[{ on := 8, ground := Go.Ground.data }, { on := 9, ground := Go.Ground.chain }, { on := 0, ground := Go.Ground.phase }, { on := 1, ground := Go.Ground.phase }, { on := 2, ground := Go.Ground.phase }, { on := 3, ground := Go.Ground.phase }, { on := 4, ground := Go.Ground.phase }, { on := 5, ground := Go.Ground.phase }, { on := 6, ground := Go.Ground.phase }, { on := 7, ground := Go.Ground.phase }, { on := 8, ground := Go.Ground.phase }, { on := 9, ground := Go.Ground.phase }], guard := none }) (by kernel_rfl) rfl (fun K hK => ?_)
                      refine step_value_g (by rfl) (.bool true) (w' := W1x) (by go_simp) ?_
                      refine hK.out _ _ (fun h => absurd h (by decide)) ?_
                      clear hK K
                      try simp only [Act.put, List.setIfInBounds_toArray, List.set_cons_zero, List.set_cons_succ]
                      refine wpAnyL_end (by kernel_rfl) ?_
                      have hbx := HX1.out.bx
                      have c0 : W1x.cell? ⟨B, 0, none⟩ = some (.int .u64 (E : Nat)) := hbx.cell 0
                      have c1 : W1x.cell? ⟨B, 1, none⟩ = some (.slice (s4.a 0) (s4.n 0) (s4.c 0)) := hbx.cell 1
                      have c2 : W1x.cell? ⟨B, 2, none⟩ = some (.slice (s4.a 1) (s4.n 1) (s4.c 1)) := hbx.cell 2
                      have c3 : W1x.cell? ⟨B, 3, none⟩ = some (.slice (s4.a 2) (s4.n 2) (s4.c 2)) := hbx.cell 3
                      have ltB := hbx.lt
                      have hT : tryL E r2 (takN E r2) = (0, E, takR E r2) := by
                        unfold tryL takN
                        have hne : readyL E r2 ≠ [] := by rw [HZ.out]; exact List.cons_ne_nil _ _
                        rw [HX1.out.rt, if_pos rfl, if_neg hne, if_pos rfl]
                      have h3 : takR E r2 3 = [z] := by rw [takR_3, HX1.out.r3, HZ.out]; rfl
                      have HTk := Lib.hid (Tryd.Take_any E s4 r2 W1x HX1.out.at_ HX1.out.lE HX1.out.r3)
                      rw [hT] at HTk
                      clear hT hbx
                      go_wp2_with fail
                      refine HTk.out.mono ?_
                      rintro e W8 ⟨⟨s8, he, hl⟩, hB8⟩
                      obtain rfl : e = .returned (.tuple #[.agg #[.int .u64 (E : Nat), .slice (s8.a 0) (s8.n 0) (s8.c 0), .slice (s8.a 1) (s8.n 1) (s8.c 1), .slice (s8.a 2) (s8.n 2) (s8.c 2)], .agg #[.int .i64 z.1, .int .u64 (z.2 : Nat)], .int .i64 0]) := by rw [he]; simp only [h3]; rfl
                      have HX8 := Lib.hid (HX1.out.below hB8)
                      have Y0 := Lib.hid ((hB8.cell (p := ⟨b7, off7, none⟩) hb7d.out).trans Y0.out)
                      have Y1 := Lib.hid ((hB8.cell (p := ⟨b7, off7 + 1, none⟩) hb7d.out).trans Y1.out)
                      have hb7d := Lib.hid (Nat.lt_of_lt_of_le hb7d.out hB8.size)
                      have HA8 : Hid (LO W1x.heap.size (updL r2 ((E + 1) % 3) t2) s8 W8) := Lib.hid ⟨fun k hk => by rw [← takR_at HZ.out k hk]; exact hl.1 k hk, hl.2⟩
                      clear he hl hB8 HTk c0 c1 c2 c3 ltB h3 HX1
                      go_upto_region 22 with fail
                      obtain ⟨Wx, hWx⟩ : ∃ W, W = ((W8.alloc (.cells #[.int .u64 (E : Nat), .slice (s8.a 0) (s8.n 0) (s8.c 0), .slice (s8.a 1) (s8.n 1) (s8.c 1), .slice (s8.a 2) (s8.n 2) (s8.c 2)] 26)).alloc (.cells #[.int .i64 z.1, .int .u64 (z.2 : Nat)] 38)) := ⟨_, rfl⟩
                      have hBx : Below W8.heap.size W8 Wx := by rw [hWx]; exact (Rows8.newB).alloc (by simp) _
                      have R15 : Hid (Rows8 Wx W8.heap.size 26 #[.int .u64 (E : Nat), .slice (s8.a 0) (s8.n 0) (s8.c 0), .slice (s8.a 1) (s8.n 1) (s8.c 1), .slice (s8.a 2) (s8.n 2) (s8.c 2)]) := Lib.hid (by rw [hWx]; exact (Rows8.new _ _ _).alloc _)
                      have R16 : Hid (Rows8 Wx (W8.heap.size + 1) 38 #[.int .i64 z.1, .int .u64 (z.2 : Nat)]) := Lib.hid (by rw [hWx]; exact rows_new2 _ _ _ _)
                      rw [← hWx]
                      have HXx := Lib.hid (HX8.out.below hBx)
                      have HAx := Lib.hid (HA8.out.below hBx)
                      have Y0 := Lib.hid ((hBx.cell (p := ⟨b7, off7, none⟩) hb7d.out).trans Y0.out)
                      have Y1 := Lib.hid ((hBx.cell (p := ⟨b7, off7 + 1, none⟩) hb7d.out).trans Y1.out)
                      have HNB := Lib.hid (show B ≠ W8.heap.size from Nat.ne_of_lt HX8.out.bx.lt)
                      clear hBx hWx HX8 HA8
                      generalize W8.heap.size = b15 at *
                      refine wp_region_L (fun W' => Rows8 W' (b15 + 1) 38 #[.int .i64 z.1, .int .u64 (z.2 : Nat)] ∧ W'.cell? ⟨b7, off7, none⟩ = some (.int .i64 z.1) ∧ W'.cell? ⟨b7, off7 + 1, none⟩ = some (.int .u64 (z.2 : Nat)) ∧ Rows8 W' B 26 #[.int .u64 (E : Nat), .slice (s4.a 0) (s4.n 0) (s4.c 0), .slice (s4.a 1) (s4.n 1) (s4.c 1), .slice (s4.a 2) (s4.n 2) (s4.c 2)]) 20 (by kernel_rfl) ?_
                      have hS0 : Rows8 Wx.drew (b15 + 1) 38 #[.int .i64 z.1, .int .u64 (z.2 : Nat)] ∧ Wx.drew.cell? ⟨b7, off7, none⟩ = some (.int .i64 z.1) ∧ Wx.drew.cell? ⟨b7, off7 + 1, none⟩ = some (.int .u64 (z.2 : Nat)) ∧ Rows8 Wx.drew B 26 #[.int .u64 (E : Nat), .slice (s4.a 0) (s4.n 0) (s4.c 0), .slice (s4.a 1) (s4.n 1) (s4.c 1), .slice (s4.a 2) (s4.n 2) (s4.c 2)] := ⟨R16.out.drewA, Y0.out, Y1.out, HXx.out.bx.drewA⟩
                      have R15 : Hid (Rows8 Wx.drew b15 26 #[.int .u64 (E : Nat), .slice (s8.a 0) (s8.n 0) (s8.c 0), .slice (s8.a 1) (s8.n 1) (s8.c 1), .slice (s8.a 2) (s8.n 2) (s8.c 2)]) := Lib.hid R15.out.drewA
                      have HXd : Hid (WtI w B E s4 r2 (some ⟨b7, off7, none⟩) (m7 + 1) (d7 + 1) Wx.drew) := Lib.hid HXx.out.drew
                      have HAd : Hid (LO W1x.heap.size (updL r2 ((E + 1) % 3) t2) s8 Wx.drew) := Lib.hid (lo_drew HAx.out)
                      clear HXx HAx R16 Y0 Y1 hb7d
                      generalize Wx.drew = Wd at *
                      refine wpAnyL_takeT (i := 0) (oi := { dst := some 101, op := Go.Op.move (Go.Operand.tmp 17), type := 31, pos := "outright.go:37", after := #[], guard := none }) (v := .int .i64 0) [1, 2, 3, 4, 5, 6, 7, 8, 9, 10, 11, 12, 13, 14, 15, 16, 17, 18, 19] rfl (by kernel_rfl) (by kernel_rfl) (by kernel_rfl) (by kernel_rfl) (fun _ _ _ h => h) (Or.inl ⟨by rfl, ?_⟩) hS0 ?_
                      · intro W9 hS9
                        obtain ⟨q0, q1, q2, q3⟩ := hS9
                        clear q0 q1 q2 q3
                        go_simp
                      try simp only [Act.put, List.setIfInBounds_toArray, List.set_cons_zero, List.set_cons_succ]
                      refine wpAnyL_takeT (i := 1) (oi := { dst := some 102, op := Go.Op.binOp Go.BinOp.neq 31 (Go.Operand.tmp 101) (Go.Operand.const (Go.Value.int Go.IntKind.i64 0)) 31, type := 4, pos := "outright.go:37", after := #[{ on := 0, ground := Go.Ground.data }], guard := none }) (v := .bool false) [2, 3, 4, 5, 6, 7, 8, 9, 10, 11, 12, 13, 14, 15, 16, 17, 18, 19] rfl (by kernel_rfl) (by kernel_rfl) (by kernel_rfl) (by kernel_rfl) (fun _ _ _ h => h) (Or.inl ⟨by rfl, ?_⟩) hS0 ?_
                      · intro W9 hS9
                        obtain ⟨q0, q1, q2, q3⟩ := hS9
                        clear q0 q1 q2 q3
                        go_simp
                      try simp only [Act.put, List.setIfInBounds_toArray, List.set_cons_zero, List.set_cons_succ]
                      refine wpAnyL_takeT (i := 2) (oi := { dst := some 103, op := Go.Op.move (Go.Operand.tmp 102), type := 4, pos := "outright.go:37", after := #[{ on := 1, ground := Go.Ground.data }], guard := none }) (v := .bool false) [3, 4, 5, 6, 7, 8, 9, 10, 11, 12, 13, 14, 15, 16, 17, 18, 19] rfl (by kernel_rfl) (by kernel_rfl) (by kernel_rfl) (by kernel_rfl) (fun _ _ _ h => h) (Or.inl ⟨by rfl, ?_⟩) hS0 ?_
                      · intro W9 hS9
                        obtain ⟨q0, q1, q2, q3⟩ := hS9
                        clear q0 q1 q2 q3
                        go_simp
                      try simp only [Act.put, List.setIfInBounds_toArray, List.set_cons_zero, List.set_cons_succ]
                      refine wpAnyL_takeT (i := 3) (oi := { dst := some 104, op := Go.Op.load 38 (Go.Operand.tmp 16), type := 38, pos := "outright.go:37", after := #[{ on := 2, ground := Go.Ground.guard }], guard := some (2, false) }) (v := .agg #[.int .i64 z.1, .int .u64 (z.2 : Nat)]) [7, 8, 9, 10, 11, 12, 13, 14, 15, 16, 17, 18, 19] rfl (by kernel_rfl) (by kernel_rfl) (by kernel_rfl) (by kernel_rfl) (fun _ _ _ h => h) (Or.inl ⟨by rfl, ?_⟩) hS0 ?_
                      · intro W9 hS9
                        obtain ⟨q0, q1, q2, q3⟩ := hS9
                        have s0 : W9.cell? ⟨b15 + 1, 0, none⟩ = some (.int .i64 z.1) := q0.cell 0
                        have s1 : W9.cell? ⟨b15 + 1, 1, none⟩ = some (.int .u64 (z.2 : Nat)) := q0.cell 1
                        clear q0 q1 q2 q3
                        go_simp
                      try simp only [Act.put, List.setIfInBounds_toArray, List.set_cons_zero, List.set_cons_succ]
                      refine wpAnyL_takeT (i := 4) (oi := { dst := some 105, op := Go.Op.move (Go.Operand.tmp 6), type := 23, pos := "outright.go:37", after := #[{ on := 2, ground := Go.Ground.guard }], guard := some (2, false) }) (v := .slice (some ⟨b7, off7, none⟩) (m7 + 1) (d7 + 1)) [5, 6, 7, 8, 9, 10, 11, 12, 13, 14, 15, 16, 17, 18, 19] rfl (by kernel_rfl) (by kernel_rfl) (by kernel_rfl) (by kernel_rfl) (fun _ _ _ h => h) (Or.inl ⟨by rfl, ?_⟩) hS0 ?_
                      · intro W9 hS9
                        obtain ⟨q0, q1, q2, q3⟩ := hS9
                        clear q0 q1 q2 q3
                        go_simp
                      try simp only [Act.put, List.setIfInBounds_toArray, List.set_cons_zero, List.set_cons_succ]
                      refine wpAnyL_takeT (i := 5) (oi := { dst := some 106, op := Go.Op.indexAddr 23 (Go.Operand.tmp 105) (Go.Operand.const (Go.Value.int Go.IntKind.i64 0)), type := 0, pos := "outright.go:37", after := #[{ on := 4, ground := Go.Ground.data }, { on := 2, ground := Go.Ground.guard }], guard := some (2, false) }) (v := .pointer (some ⟨b7, off7, none⟩)) [6, 7, 8, 9, 10, 11, 12, 13, 14, 15, 16, 17, 18, 19] rfl (by kernel_rfl) (by kernel_rfl) (by kernel_rfl) (by kernel_rfl) (fun _ _ _ h => h) (Or.inl ⟨by rfl, ?_⟩) hS0 ?_
                      · intro W9 hS9
                        obtain ⟨q0, q1, q2, q3⟩ := hS9
                        clear q0 q1 q2 q3
                        have h9 : (0 : Int) < ((m7 : Nat) : Int) + 1 := by omega
                        go_simp
                      try simp only [Act.put, List.setIfInBounds_toArray, List.set_cons_zero, List.set_cons_succ]
                      refine wpAnyL_takeT (i := 6) (oi := { dst := some 107, op := Go.Op.load 38 (Go.Operand.tmp 106), type := 38, pos := "outright.go:37", after := #[{ on := 5, ground := Go.Ground.data }, { on := 2, ground := Go.Ground.guard }], guard := some (2, false) }) (v := .agg #[.int .i64 z.1, .int .u64 (z.2 : Nat)]) [7, 8, 9, 10, 11, 12, 13, 14, 15, 16, 17, 18, 19] rfl (by kernel_rfl) (by kernel_rfl) (by kernel_rfl) (by kernel_rfl) (fun _ _ _ h => h) (Or.inl ⟨by rfl, ?_⟩) hS0 ?_
                      · intro W9 hS9
                        obtain ⟨q0, q1, q2, q3⟩ := hS9
                        have s0 := q1
                        have s1 := q2
                        clear q0 q1 q2 q3
                        go_simp
                      try simp only [Act.put, List.setIfInBounds_toArray, List.set_cons_zero, List.set_cons_succ]
                      refine wpAnyL_takeT (i := 7) (oi := { dst := some 108, op := Go.Op.binOp Go.BinOp.neq 38 (Go.Operand.tmp 104) (Go.Operand.tmp 107) 38, type := 4, pos := "outright.go:37", after := #[{ on := 3, ground := Go.Ground.data }, { on := 6, ground := Go.Ground.data }, { on := 2, ground := Go.Ground.guard }], guard := some (2, false) }) (v := .bool false) [8, 9, 10, 11, 12, 13, 14, 15, 16, 17, 18, 19] rfl (by kernel_rfl) (by kernel_rfl) (by kernel_rfl) (by kernel_rfl) (fun _ _ _ h => h) (Or.inl ⟨by rfl, ?_⟩) hS0 ?_
                      · intro W9 hS9
                        obtain ⟨q0, q1, q2, q3⟩ := hS9
                        clear q0 q1 q2 q3
                        go_simp
                      try simp only [Act.put, List.setIfInBounds_toArray, List.set_cons_zero, List.set_cons_succ]
                      refine wpAnyL_takeT (i := 8) (oi := { dst := some 109, op := Go.Op.pick (Go.Operand.tmp 103) (Go.Operand.const (Go.Value.bool true)) (Go.Operand.tmp 108), type := 4, pos := "outright.go:37", after := #[{ on := 2, ground := Go.Ground.data }, { on := 7, ground := Go.Ground.data }], guard := none }) (v := .bool false) [9, 10, 11, 12, 13, 14, 15, 16, 17, 18, 19] rfl (by kernel_rfl) (by kernel_rfl) (by kernel_rfl) (by kernel_rfl) (fun _ _ _ h => h) (Or.inl ⟨by rfl, ?_⟩) hS0 ?_
                      · intro W9 hS9
                        obtain ⟨q0, q1, q2, q3⟩ := hS9
                        clear q0 q1 q2 q3
                        go_simp
                      try simp only [Act.put, List.setIfInBounds_toArray, List.set_cons_zero, List.set_cons_succ]
                      refine wpAnyL_takeT (i := 9) (oi := { dst := some 110, op := Go.Op.move (Go.Operand.tmp 109), type := 4, pos := "outright.go:37", after := #[{ on := 8, ground := Go.Ground.data }, { on := 2, ground := Go.Ground.chain }], guard := none }) (v := .bool false) [10, 11, 12, 13, 14, 15, 16, 17, 18, 19] rfl (by kernel_rfl) (by kernel_rfl) (by kernel_rfl) (by kernel_rfl) (fun _ _ _ h => h) (Or.inl ⟨by rfl, ?_⟩) hS0 ?_
                      · intro W9 hS9
                        obtain ⟨q0, q1, q2, q3⟩ := hS9
                        clear q0 q1 q2 q3
                        go_simp
                      try simp only [Act.put, List.setIfInBounds_toArray, List.set_cons_zero, List.set_cons_succ]
                      refine wpAnyL_takeT (i := 10) (oi := { dst := some 111, op := Go.Op.move (Go.Operand.tmp 14), type := 4, pos := "outright.go:37", after := #[{ on := 9, ground := Go.Ground.guard }], guard := some (9, false) }) (v := .bool true) [11, 12, 13, 14, 15, 16, 17, 18, 19] rfl (by kernel_rfl) (by kernel_rfl) (by kernel_rfl) (by kernel_rfl) (fun _ _ _ h => h) (Or.inl ⟨by rfl, ?_⟩) hS0 ?_
                      · intro W9 hS9
                        obtain ⟨q0, q1, q2, q3⟩ := hS9
                        clear q0 q1 q2 q3
                        go_simp
                      try simp only [Act.put, List.setIfInBounds_toArray, List.set_cons_zero, List.set_cons_succ]
                      refine wpAnyL_takeT (i := 11) (oi := { dst := some 112, op := Go.Op.unOp Go.UnOp.not 4 (Go.Operand.tmp 111), type := 4, pos := "outright.go:37", after := #[{ on := 10, ground := Go.Ground.data }, { on := 9, ground := Go.Ground.guard }], guard := some (9, false) }) (v := .bool false) [12, 13, 14, 15, 16, 17, 18, 19] rfl (by kernel_rfl) (by kernel_rfl) (by kernel_rfl) (by kernel_rfl) (fun _ _ _ h => h) (Or.inl ⟨by rfl, ?_⟩) hS0 ?_
                      · intro W9 hS9
                        obtain ⟨q0, q1, q2, q3⟩ := hS9
                        clear q0 q1 q2 q3
                        go_simp
                      try simp only [Act.put, List.setIfInBounds_toArray, List.set_cons_zero, List.set_cons_succ]
                      refine wpAnyL_takeT (i := 12) (oi := { dst := some 113, op := Go.Op.pick (Go.Operand.tmp 110) (Go.Operand.const (Go.Value.bool true)) (Go.Operand.tmp 112), type := 4, pos := "outright.go:37", after := #[{ on := 9, ground := Go.Ground.data }, { on := 11, ground := Go.Ground.data }], guard := none }) (v := .bool false) [13, 14, 15, 16, 17, 18, 19] rfl (by kernel_rfl) (by kernel_rfl) (by kernel_rfl) (by kernel_rfl) (fun _ _ _ h => h) (Or.inl ⟨by rfl, ?_⟩) hS0 ?_
                      · intro W9 hS9
                        obtain ⟨q0, q1, q2, q3⟩ := hS9
                        clear q0 q1 q2 q3
                        go_simp
                      try simp only [Act.put, List.setIfInBounds_toArray, List.set_cons_zero, List.set_cons_succ]
                      refine wpAnyL_takeT (i := 13) (oi := { dst := some 114, op := Go.Op.move (Go.Operand.tmp 113), type := 4, pos := "outright.go:37", after := #[{ on := 12, ground := Go.Ground.data }, { on := 9, ground := Go.Ground.chain }], guard := none }) (v := .bool false) [14, 15, 16, 17, 18, 19] rfl (by kernel_rfl) (by kernel_rfl) (by kernel_rfl) (by kernel_rfl) (fun _ _ _ h => h) (Or.inl ⟨by rfl, ?_⟩) hS0 ?_
                      · intro W9 hS9
                        obtain ⟨q0, q1, q2, q3⟩ := hS9
                        clear q0 q1 q2 q3
                        go_simp
                      try simp only [Act.put, List.setIfInBounds_toArray, List.set_cons_zero, List.set_cons_succ]
                      refine wpAnyL_takeT (i := 14) (oi := { dst := some 115, op := Go.Op.move (Go.Operand.tmp 13), type := 22, pos := "outright.go:37", after := #[{ on := 13, ground := Go.Ground.guard }], guard := some (13, false) }) (v := .int .u64 ((A : Nat) : Int)) [15, 18, 19] rfl (by kernel_rfl) (by kernel_rfl) (by kernel_rfl) (by kernel_rfl) (fun _ _ _ h => h) (Or.inl ⟨by rfl, ?_⟩) hS0 ?_
                      · intro W9 hS9
                        obtain ⟨q0, q1, q2, q3⟩ := hS9
                        clear q0 q1 q2 q3
                        go_simp
                      try simp only [Act.put, List.setIfInBounds_toArray, List.set_cons_zero, List.set_cons_succ]
                      refine wpAnyL_takeT (i := 15) (oi := { dst := some 116, op := Go.Op.binOp Go.BinOp.add 22 (Go.Operand.tmp 115) (Go.Operand.const (Go.Value.int Go.IntKind.u64 2)) 22, type := 22, pos := "outright.go:37", after := #[{ on := 14, ground := Go.Ground.data }, { on := 13, ground := Go.Ground.guard }], guard := some (13, false) }) (v := .int .u64 ((E : Nat) : Int)) [18, 19] rfl (by kernel_rfl) (by kernel_rfl) (by kernel_rfl) (by kernel_rfl) (fun _ _ _ h => h) (Or.inl ⟨by rfl, ?_⟩) hS0 ?_
                      · intro W9 hS9
                        obtain ⟨q0, q1, q2, q3⟩ := hS9
                        clear q0 q1 q2 q3
                        have h9 : ((A : Nat) : Int) + 2 = ((E : Nat) : Int) := by omega
                        have h8 : ((E : Nat) : Int) < 18446744073709551616 := by have := HXd.out.lE; omega
                        have h7 : IntKind.u64.wrap ((E : Nat) : Int) = ((E : Nat) : Int) := by rw [IntKind.wrap_u64]; omega
                        go_simp
                      try simp only [Act.put, List.setIfInBounds_toArray, List.set_cons_zero, List.set_cons_succ]
                      refine wpAnyL_takeT (i := 16) (oi := { dst := some 117, op := Go.Op.fieldAddr 26 (Go.Operand.tmp 5) 0, type := 0, pos := "outright.go:37", after := #[{ on := 13, ground := Go.Ground.guard }], guard := some (13, false) }) (v := .pointer (some ⟨B, 0, none⟩)) [17, 18, 19] rfl (by kernel_rfl) (by kernel_rfl) (by kernel_rfl) (by kernel_rfl) (fun _ _ _ h => h) (Or.inl ⟨by rfl, ?_⟩) hS0 ?_
                      · intro W9 hS9
                        obtain ⟨q0, q1, q2, q3⟩ := hS9
                        clear q0 q1 q2 q3
                        go_simp
                      try simp only [Act.put, List.setIfInBounds_toArray, List.set_cons_zero, List.set_cons_succ]
                      refine wpAnyL_takeT (i := 17) (oi := { dst := some 118, op := Go.Op.load 22 (Go.Operand.tmp 117), type := 22, pos := "outright.go:37", after := #[{ on := 16, ground := Go.Ground.data }, { on := 13, ground := Go.Ground.guard }], guard := some (13, false) }) (v := .int .u64 ((E : Nat) : Int)) [18, 19] rfl (by kernel_rfl) (by kernel_rfl) (by kernel_rfl) (by kernel_rfl) (fun _ _ _ h => h) (Or.inl ⟨by rfl, ?_⟩) hS0 ?_
                      · intro W9 hS9
                        obtain ⟨q0, q1, q2, q3⟩ := hS9
                        have s0 : W9.cell? ⟨B, 0, none⟩ = some (.int .u64 (E : Nat)) := q3.cell 0
                        clear q0 q1 q2 q3
                        go_simp
                      try simp only [Act.put, List.setIfInBounds_toArray, List.set_cons_zero, List.set_cons_succ]
                      refine wpAnyL_takeT (i := 18) (oi := { dst := some 119, op := Go.Op.binOp Go.BinOp.neq 22 (Go.Operand.tmp 116) (Go.Operand.tmp 118) 22, type := 4, pos := "outright.go:37", after := #[{ on := 15, ground := Go.Ground.data }, { on := 17, ground := Go.Ground.data }, { on := 13, ground := Go.Ground.guard }], guard := some (13, false) }) (v := .bool false) [19] rfl (by kernel_rfl) (by kernel_rfl) (by kernel_rfl) (by kernel_rfl) (fun _ _ _ h => h) (Or.inl ⟨by rfl, ?_⟩) hS0 ?_
                      · intro W9 hS9
                        obtain ⟨q0, q1, q2, q3⟩ := hS9
                        clear q0 q1 q2 q3
                        go_simp
                      try simp only [Act.put, List.setIfInBounds_toArray, List.set_cons_zero, List.set_cons_succ]
                      refine wpAnyL_takeT (i := 19) (oi := { dst := some 120, op := Go.Op.pick (Go.Operand.tmp 114) (Go.Operand.const (Go.Value.bool true)) (Go.Operand.tmp 119), type := 4, pos := "outright.go:37", after := #[{ on := 13, ground := Go.Ground.data }, { on := 18, ground := Go.Ground.data }], guard := none }) (v := .bool false) [] rfl (by kernel_rfl) (by kernel_rfl) (by kernel_rfl) (by kernel_rfl) (fun _ _ _ h => h) (Or.inl ⟨by rfl, ?_⟩) hS0 ?_
                      · intro W9 hS9
                        obtain ⟨q0, q1, q2, q3⟩ := hS9
                        clear q0 q1 q2 q3
                        go_simp
                      try simp only [Act.put, List.setIfInBounds_toArray, List.set_cons_zero, List.set_cons_succ]
                      refine wpAnyL_end (by kernel_rfl) ?_
                      as_aux_lemma =>
                        go_upto_region 24 with fail
                        refine wp_region_L (fun W' => Rows8 W' b15 26 #[.int .u64 (E : Nat), .slice (s8.a 0) (s8.n 0) (s8.c 0), .slice (s8.a 1) (s8.n 1) (s8.c 1), .slice (s8.a 2) (s8.n 2) (s8.c 2)]) 4 (by kernel_rfl) ?_
                        have hS1 : Rows8 Wd.drew b15 26 #[.int .u64 (E : Nat), .slice (s8.a 0) (s8.n 0) (s8.c 0), .slice (s8.a 1) (s8.n 1) (s8.c 1), .slice (s8.a 2) (s8.n 2) (s8.c 2)] := R15.out.drewA
                        have HXe : Hid (WtI w B E s4 r2 (some ⟨b7, off7, none⟩) (m7 + 1) (d7 + 1) Wd.drew) := Lib.hid HXd.out.drew
                        have HAe : Hid (LO W1x.heap.size (updL r2 ((E + 1) % 3) t2) s8 Wd.drew) := Lib.hid (lo_drew HAd.out)
                        clear HXd HAd R15 hS0
                        generalize Wd.drew = We at *
                        refine wpAnyL_takeT (i := 0) (oi := { dst := some 121, op := Go.Op.load 26 (Go.Operand.tmp 15), type := 26, pos := "outright.go:40", after := #[], guard := none }) (v := .agg #[.int .u64 (E : Nat), .slice (s8.a 0) (s8.n 0) (s8.c 0), .slice (s8.a 1) (s8.n 1) (s8.c 1), .slice (s8.a 2) (s8.n 2) (s8.c 2)]) [3, 4] rfl (by kernel_rfl) (by kernel_rfl) (by kernel_rfl) (by kernel_rfl) (fun _ _ _ h => h) (Or.inl ⟨by rfl, ?_⟩) hS1 ?_
                        · intro W9 hS9
                          have s0 : W9.cell? ⟨b15, 0, none⟩ = some (.int .u64 (E : Nat)) := hS9.cell 0
                          have s1 : W9.cell? ⟨b15, 1, none⟩ = some (.slice (s8.a 0) (s8.n 0) (s8.c 0)) := hS9.cell 1
                          have s2 : W9.cell? ⟨b15, 2, none⟩ = some (.slice (s8.a 1) (s8.n 1) (s8.c 1)) := hS9.cell 2
                          have s3 : W9.cell? ⟨b15, 3, none⟩ = some (.slice (s8.a 2) (s8.n 2) (s8.c 2)) := hS9.cell 3
                          clear hS9
                          go_simp
                        try simp only [Act.put, List.setIfInBounds_toArray, List.set_cons_zero, List.set_cons_succ]
                        refine wpAnyL_takeT (i := 1) (oi := { dst := some 122, op := Go.Op.move (Go.Operand.tmp 6), type := 23, pos := "outright.go:40", after := #[], guard := none }) (v := .slice (some ⟨b7, off7, none⟩) (m7 + 1) (d7 + 1)) [2, 4] rfl (by kernel_rfl) (by kernel_rfl) (by kernel_rfl) (by kernel_rfl) (fun _ _ _ h => h) (Or.inl ⟨by rfl, ?_⟩) hS1 ?_
                        · intro W9 hS9
                          clear hS9
                          go_simp
                        try simp only [Act.put, List.setIfInBounds_toArray, List.set_cons_zero, List.set_cons_succ]
                        refine wpAnyL_takeT (i := 2) (oi := { dst := some 123, op := Go.Op.slice 23 (Go.Operand.tmp 122) (some (Go.Operand.const (Go.Value.int Go.IntKind.i64 1))) none none, type := 23, pos := "outright.go:40", after := #[{ on := 1, ground := Go.Ground.data }], guard := none }) (v := .slice (some ⟨b7, if d7 = 0 then off7 else off7 + 2, none⟩) m7 d7) [4] rfl (by kernel_rfl) (by kernel_rfl) (by kernel_rfl) (by kernel_rfl) (fun _ _ _ h => h) (Or.inl ⟨by rfl, ?_⟩) hS1 ?_
                        · intro W9 hS9
                          exact exec_slice1 _ _ _ rfl _ (slice1 W9 b7 off7 m7 d7)
                        try simp only [Act.put, List.setIfInBounds_toArray, List.set_cons_zero, List.set_cons_succ]
                        refine wpAnyL_one (i := 3) (o := { dst := none, op := Go.Op.store 26 (Go.Operand.tmp 5) (Go.Operand.tmp 121), type := 0, pos := "outright.go:40", after := #[{ on := 0, ground := Go.Ground.data }, { on := 0, ground := Go.Ground.phase }, { on := 1, ground := Go.Ground.textOnly Go.Departure.lateStores }, { on := 2, ground := Go.Ground.textOnly Go.Departure.lateStoresUnsure }], guard := none }) (by kernel_rfl) rfl (fun K hK => ?_)
                        have c0 : We.cell? ⟨B, 0, none⟩ = some (.int .u64 (E : Nat)) := HXe.out.bx.cell 0
                        have c1 : We.cell? ⟨B, 1, none⟩ = some (.slice (s4.a 0) (s4.n 0) (s4.c 0)) := HXe.out.bx.cell 1
                        have c2 : We.cell? ⟨B, 2, none⟩ = some (.slice (s4.a 1) (s4.n 1) (s4.c 1)) := HXe.out.bx.cell 2
                        have c3 : We.cell? ⟨B, 3, none⟩ = some (.slice (s4.a 2) (s4.n 2) (s4.c 2)) := HXe.out.bx.cell 3
                        have f0 := HXe.out.bx.frozen 0
                        have f1 := HXe.out.bx.frozen 1
                        have f2 := HXe.out.bx.frozen 2
                        have f3 := HXe.out.bx.frozen 3
                        have ltB := HXe.out.bx.lt
                        refine step_skip_g (by rfl) (w' := ((((We.setCell ⟨B, 0, none⟩ (.int .u64 (E : Nat))).setCell ⟨B, 1, none⟩ (.slice (s8.a 0) (s8.n 0) (s8.c 0))).setCell ⟨B, 2, none⟩ (.slice (s8.a 1) (s8.n 1) (s8.c 1))).setCell ⟨B, 3, none⟩ (.slice (s8.a 2) (s8.n 2) (s8.c 2)))) (by go_simp) ?_
                        have hbx := HXe.out.bx
                        have how : OwnE w.heap.size (z :: heldL E (updL r2 ((E + 1) % 3) t2)) (.slice (some ⟨b7, off7, none⟩) (m7 + 1) (d7 + 1)) We := by rw [← rdy_held HXe.out.rt HZ.out]; exact HXe.out.ow
                        have HI6 : Hid (WtI w B E s8 (updL r2 ((E + 1) % 3) t2) (some ⟨b7, if d7 = 0 then off7 else off7 + 2, none⟩) m7 d7 ((((We.setCell ⟨B, 0, none⟩ (.int .u64 (E : Nat))).setCell ⟨B, 1, none⟩ (.slice (s8.a 0) (s8.n 0) (s8.c 0))).setCell ⟨B, 2, none⟩ (.slice (s8.a 1) (s8.n 1) (s8.c 1))).setCell ⟨B, 3, none⟩ (.slice (s8.a 2) (s8.n 2) (s8.c 2)))) := Lib.hid ⟨rows4 hbx (.int .u64 (E : Nat)) (.slice (s8.a 0) (s8.n 0) (s8.c 0)) (.slice (s8.a 1) (s8.n 1) (s8.c 1)) (.slice (s8.a 2) (s8.n 2) (s8.c 2)), (LO.setT HAe.out hbx (.int .u64 (E : Nat)) (.slice (s8.a 0) (s8.n 0) (s8.c 0)) (.slice (s8.a 1) (s8.n 1) (s8.c 1)) (.slice (s8.a 2) (s8.n 2) (s8.c 2))).at, (cut1 how).setT hbx (.int .u64 (E : Nat)) (.slice (s8.a 0) (s8.n 0) (s8.c 0)) (.slice (s8.a 1) (s8.n 1) (s8.c 1)) (.slice (s8.a 2) (s8.n 2) (s8.c 2)), below4 HXe.out.bl HBG.out (.int .u64 (E : Nat)) (.slice (s8.a 0) (s8.n 0) (s8.c 0)) (.slice (s8.a 1) (s8.n 1) (s8.c 1)) (.slice (s8.a 2) (s8.n 2) (s8.c 2)), rdy_right HXe.out.rt HZ.out, by rw [updL_ne _ _ (by omega)]; exact HXe.out.r3⟩
                        have hS2 := Rows8.oth4 hS1 HNB.out (.int .u64 (E : Nat)) (.slice (s8.a 0) (s8.n 0) (s8.c 0)) (.slice (s8.a 1) (s8.n 1) (s8.c 1)) (.slice (s8.a 2) (s8.n 2) (s8.c 2))
                        clear c0 c1 c2 c3 f0 f1 f2 f3 ltB hbx how HXe HAe
                        refine hK.out _ _ (fun _ => hS2) ?_
                        clear hK K
                        try simp only [Act.put, List.setIfInBounds_toArray, List.set_cons_zero, List.set_cons_succ]
                        refine wpAnyL_one (i := 4) (o := { dst := some 6, op := Go.Op.assign (Go.Operand.tmp 123), type := 23, pos := "outright.go:40", after := #[{ on := 2, ground := Go.Ground.data }, { on := 3, ground := Go.Ground.chain }, { on := 0, ground := Go.Ground.phase }, { on := 1, ground := Go.Ground.phase }, { on := 2, ground := Go.Ground.phase }, { on := 3, ground := Go.Ground.phase }], guard := none }) (by kernel_rfl) rfl (fun K hK => ?_)
                        refine step_value_g (by rfl) (.slice (some ⟨b7, if d7 = 0 then off7 else off7 + 2, none⟩) m7 d7) (w' := ((((We.setCell ⟨B, 0, none⟩ (.int .u64 (E : Nat))).setCell ⟨B, 1, none⟩ (.slice (s8.a 0) (s8.n 0) (s8.c 0))).setCell ⟨B, 2, none⟩ (.slice (s8.a 1) (s8.n 1) (s8.c 1))).setCell ⟨B, 3, none⟩ (.slice (s8.a 2) (s8.n 2) (s8.c 2)))) (by go_simp) ?_
                        refine hK.out _ _ (fun h => absurd h (by decide)) ?_
                        clear hK K
                        try simp only [Act.put, List.setIfInBounds_toArray, List.set_cons_zero, List.set_cons_succ]
                        refine wpAnyL_end (by kernel_rfl) ?_
                        have hrl : i + 1 + (readyL E (updL r2 ((E + 1) % 3) t2)).length = m := by rw [show readyL E (updL r2 ((E + 1) % 3) t2) = t2 from updL_self _ _ _]; exact Hi.out
                        go_wp2_with fail
                        exact ⟨⟨i + 1, _, s8, _, m7, d7, hrl, by go_num, rfl, HI6⟩, by simp [intOf]; omega⟩
                · have hz : readyL E r2 = [] := List.eq_nil_of_length_eq_zero (by omega)
                  obtain rfl : i = m := by omega
                  have hki2 : ¬ (i : Int) < (i : Int) := by omega
                  as_aux_lemma =>
                    obtain ⟨T, hT⟩ : ∃ T, T = tryL E r2 (advN E r2) := ⟨_, rfl⟩
                    have HAv := Lib.hid (Tryd.Advance_any E s4 r2 wr hX.out.at_ hX.out.lE hX.out.r3)
                    rw [← hT] at HAv
                    have HC : Hid ((E = 4611686018427387904 ∧ T.1 = 6) ∨ (E ≠ 4611686018427387904 ∧ T.1 = 0 ∧ T.2.1 = E + 1 ∧ T.2.2 = r2)) := Lib.hid (by
                      have hne : ¬ readyL E r2 ≠ [] := fun h => h hz
                      rw [hT]
                      unfold tryL advN
                      rw [hX.out.rt, if_pos rfl, if_neg hne]
                      by_cases hM : E = 4611686018427387904
                      · rw [if_pos hM]; exact .inl ⟨hM, rfl⟩
                      · rw [if_neg hM]; exact .inr ⟨hM, rfl, rfl, rfl⟩)
                    have HZ := Lib.hid hz
                    have hbx := hX.out.bx
                    have c0 : wr.cell? ⟨B, 0, none⟩ = some (.int .u64 (E : Nat)) := hbx.cell 0
                    have c1 : wr.cell? ⟨B, 1, none⟩ = some (.slice (s4.a 0) (s4.n 0) (s4.c 0)) := hbx.cell 1
                    have c2 : wr.cell? ⟨B, 2, none⟩ = some (.slice (s4.a 1) (s4.n 1) (s4.c 1)) := hbx.cell 2
                    have c3 : wr.cell? ⟨B, 3, none⟩ = some (.slice (s4.a 2) (s4.n 2) (s4.c 2)) := hbx.cell 3
                    have ltB := hbx.lt
                    clear hT hbx hz hi
                    go_wp2_with fail
                    refine HAv.out.mono ?_
                    rintro e W6 ⟨⟨s6, rfl, hl⟩, hB6⟩
                    have HX6 := Lib.hid (hX.out.below hB6)
                    have HL6 := Lib.hid hl
                    obtain ⟨t1, t3, t4⟩ := T
                    clear hl hB6 HAv hX c0 c1 c2 c3 ltB
                    have hal : Below W6.heap.size W6 (W6.alloc (.cells #[.int .u64 (t3 : Nat), .slice (s6.a 0) (s6.n 0) (s6.c 0), .slice (s6.a 1) (s6.n 1) (s6.c 1), .slice (s6.a 2) (s6.n 2) (s6.c 2)] 26)) := Rows8.newB
                    have HX7 := Lib.hid (HX6.out.below hal)
                    have HL7 := Lib.hid (HL6.out.below hal)
                    have hbx := HX7.out.bx
                    have hnw := Rows8.new W6 26 #[.int .u64 (t3 : Nat), .slice (s6.a 0) (s6.n 0) (s6.c 0), .slice (s6.a 1) (s6.n 1) (s6.c 1), .slice (s6.a 2) (s6.n 2) (s6.c 2)]
                    have c0 : (W6.alloc (.cells #[.int .u64 (t3 : Nat), .slice (s6.a 0) (s6.n 0) (s6.c 0), .slice (s6.a 1) (s6.n 1) (s6.c 1), .slice (s6.a 2) (s6.n 2) (s6.c 2)] 26)).cell? ⟨B, 0, none⟩ = some (.int .u64 (E : Nat)) := hbx.cell 0
                    have c1 : (W6.alloc (.cells #[.int .u64 (t3 : Nat), .slice (s6.a 0) (s6.n 0) (s6.c 0), .slice (s6.a 1) (s6.n 1) (s6.c 1), .slice (s6.a 2) (s6.n 2) (s6.c 2)] 26)).cell? ⟨B, 1, none⟩ = some (.slice (s4.a 0) (s4.n 0) (s4.c 0)) := hbx.cell 1
                    have c2 : (W6.alloc (.cells #[.int .u64 (t3 : Nat), .slice (s6.a 0) (s6.n 0) (s6.c 0), .slice (s6.a 1) (s6.n 1) (s6.c 1), .slice (s6.a 2) (s6.n 2) (s6.c 2)] 26)).cell? ⟨B, 2, none⟩ = some (.slice (s4.a 1) (s4.n 1) (s4.c 1)) := hbx.cell 2
                    have c3 : (W6.alloc (.cells #[.int .u64 (t3 : Nat), .slice (s6.a 0) (s6.n 0) (s6.c 0), .slice (s6.a 1) (s6.n 1) (s6.c 1), .slice (s6.a 2) (s6.n 2) (s6.c 2)] 26)).cell? ⟨B, 3, none⟩ = some (.slice (s4.a 2) (s4.n 2) (s4.c 2)) := hbx.cell 3
                    have k0 : (W6.alloc (.cells #[.int .u64 (t3 : Nat), .slice (s6.a 0) (s6.n 0) (s6.c 0), .slice (s6.a 1) (s6.n 1) (s6.c 1), .slice (s6.a 2) (s6.n 2) (s6.c 2)] 26)).cell? ⟨W6.heap.size, 0, none⟩ = some (.int .u64 (t3 : Nat)) := hnw.cell 0
                    have k1 : (W6.alloc (.cells #[.int .u64 (t3 : Nat), .slice (s6.a 0) (s6.n 0) (s6.c 0), .slice (s6.a 1) (s6.n 1) (s6.c 1), .slice (s6.a 2) (s6.n 2) (s6.c 2)] 26)).cell? ⟨W6.heap.size, 1, none⟩ = some (.slice (s6.a 0) (s6.n 0) (s6.c 0)) := hnw.cell 1
                    have k2 : (W6.alloc (.cells #[.int .u64 (t3 : Nat), .slice (s6.a 0) (s6.n 0) (s6.c 0), .slice (s6.a 1) (s6.n 1) (s6.c 1), .slice (s6.a 2) (s6.n 2) (s6.c 2)] 26)).cell? ⟨W6.heap.size, 2, none⟩ = some (.slice (s6.a 1) (s6.n 1) (s6.c 1)) := hnw.cell 2
                    have k3 : (W6.alloc (.cells #[.int .u64 (t3 : Nat), .slice (s6.a 0) (s6.n 0) (s6.c 0), .slice (s6.a 1) (s6.n 1) (s6.c 1), .slice (s6.a 2) (s6.n 2) (s6.c 2)] 26)).cell? ⟨W6.heap.size, 3, none⟩ = some (.slice (s6.a 2) (s6.n 2) (s6.c 2)) := hnw.cell 3
                    have f0 := hbx.frozen 0
                    have f1 := hbx.frozen 1
                    have f2 := hbx.frozen 2
                    have f3 := hbx.frozen 3
                    have ltB := hbx.lt
                    have ltN := hnw.lt
                    have HBX := Lib.hid hbx
                    clear hal hbx hnw HX6 HL6
                    rcases HC.out with ⟨hM, h1⟩ | ⟨hM, h1, h2, h3⟩
                    · simp only at h1
                      subst h1
                      have hMi : ((E : Nat) : Int) = 4611686018427387904 := by omega
                      clear HC hM
                      go_wp2_with fail
                      go_ret
                      exact ⟨rfl, HX7.out.bl⟩
                    · simp only at h1 h2 h3
                      subst h1 h3
                      have HH := Lib.hid (And.intro hM h2)
                      have hhe := adv_held HX7.out.rt HZ.out
                      have HI6 : Hid (WtI w B t3 s6 t4 a7 n7 c7 (((((W6.alloc (.cells #[.int .u64 (t3 : Nat), .slice (s6.a 0) (s6.n 0) (s6.c 0), .slice (s6.a 1) (s6.n 1) (s6.c 1), .slice (s6.a 2) (s6.n 2) (s6.c 2)] 26)).setCell ⟨B, 0, none⟩ (.int .u64 (t3 : Nat))).setCell ⟨B, 1, none⟩ (.slice (s6.a 0) (s6.n 0) (s6.c 0))).setCell ⟨B, 2, none⟩ (.slice (s6.a 1) (s6.n 1) (s6.c 1))).setCell ⟨B, 3, none⟩ (.slice (s6.a 2) (s6.n 2) (s6.c 2)))) := Lib.hid ⟨rows4 HBX.out (.int .u64 (t3 : Nat)) (.slice (s6.a 0) (s6.n 0) (s6.c 0)) (.slice (s6.a 1) (s6.n 1) (s6.c 1)) (.slice (s6.a 2) (s6.n 2) (s6.c 2)), (LO.setT HL7.out HBX.out (.int .u64 (t3 : Nat)) (.slice (s6.a 0) (s6.n 0) (s6.c 0)) (.slice (s6.a 1) (s6.n 1) (s6.c 1)) (.slice (s6.a 2) (s6.n 2) (s6.c 2))).at, by have e5 : heldL t3 t4 = heldL E t4 := (by rw [h2]; exact hhe.1); rw [e5]; exact HX7.out.ow.setT HBX.out (.int .u64 (t3 : Nat)) (.slice (s6.a 0) (s6.n 0) (s6.c 0)) (.slice (s6.a 1) (s6.n 1) (s6.c 1)) (.slice (s6.a 2) (s6.n 2) (s6.c 2)), below4 HX7.out.bl HBG.out (.int .u64 (t3 : Nat)) (.slice (s6.a 0) (s6.n 0) (s6.c 0)) (.slice (s6.a 1) (s6.n 1) (s6.c 1)) (.slice (s6.a 2) (s6.n 2) (s6.c 2)), by rw [h2]; exact adv_right HX7.out.rt HZ.out hM, HX7.out.r3⟩
                      clear HC hM h2 hhe HX7 HL7 HBX
                      go_wp2_with fail
                      exact ⟨⟨k + 1, t3, t4, s6, a7, n7, c7, by omega, by omega, by go_num, rfl, HI6⟩, by simp [intOf]; omega⟩
        · have hki : ¬ (k : Int) < (n : Int) := by omega
          go_wp2_with fail
          go_meet
          exact ⟨E, r, s, a6, n6, c6, rfl, hW⟩
    case rest =>
      obtain ⟨E, r, s, a6, n6, c6, rfl, hW⟩ := hcut
      have hbx := hW.out.bx
      have HHe := Lib.hid (Tryd.Held_any E s r wc hW.out.at_ hW.out.lE)
      rw [hW.out.rt, if_pos rfl] at HHe
      have c0 : wc.cell? ⟨B, 0, none⟩ = some (.int .u64 (E : Nat)) := hbx.cell 0
      have c1 : wc.cell? ⟨B, 1, none⟩ = some (.slice (s.a 0) (s.n 0) (s.c 0)) := hbx.cell 1
      have c2 : wc.cell? ⟨B, 2, none⟩ = some (.slice (s.a 1) (s.n 1) (s.c 1)) := hbx.cell 2
      have c3 : wc.cell? ⟨B, 3, none⟩ = some (.slice (s.a 2) (s.n 2) (s.c 2)) := hbx.cell 3
      have ltB := hbx.lt
      clear hbx
      go_wp2_with fail
      refine HHe.out.mono ?_
      rintro e W6 ⟨v, rfl, hv, hB6⟩
      obtain ⟨ah, ch, rfl⟩ := hv.form
      have hX6 := hW.out.below hB6
      have HX6 := Lib.hid hX6
      have hn6 := hX6.n_eq
      have HEq := Lib.hid (Tryd.equalEntry_any ah a6 (heldL E r).length n6 ch c6 (heldL E r) (heldL E r) W6 (OwnsP.at hv) hX6.ow.at (by omega) (by omega))
      rw [decide_eq_true (rfl : heldL E r = heldL E r)] at HEq
      have HN6 := Lib.hid hn6
      clear hX6 hn6 hv hB6 HHe hW c0 c1 c2 c3 ltB
      generalize (heldL E r).length = nh at HEq ⊢
      go_wp2_with fail
      refine HEq.out.mono ?_
      rintro e W7 ⟨rfl, hB7⟩
      have HX7 := Lib.hid (HX6.out.below hB7)
      have hbx := HX7.out.bx
      have HCk := Lib.hid (Tryd.Check_any E s r W7 HX7.out.at_ HX7.out.lE)
      rw [HX7.out.rt, if_pos rfl] at HCk
      have c0 : W7.cell? ⟨B, 0, none⟩ = some (.int .u64 (E : Nat)) := hbx.cell 0
      have c1 : W7.cell? ⟨B, 1, none⟩ = some (.slice (s.a 0) (s.n 0) (s.c 0)) := hbx.cell 1
      have c2 : W7.cell? ⟨B, 2, none⟩ = some (.slice (s.a 1) (s.n 1) (s.c 1)) := hbx.cell 2
      have c3 : W7.cell? ⟨B, 3, none⟩ = some (.slice (s.a 2) (s.n 2) (s.c 2)) := hbx.cell 3
      have ltB := hbx.lt
      clear hbx hB7 HX6 HEq
      go_wp2_with fail
      refine HCk.out.mono ?_
      rintro e W8 ⟨rfl, hB8⟩
      have HX8 := Lib.hid (HX7.out.below hB8)
      clear hB8 HX7 HCk c0 c1 c2 c3 ltB
      go_wp2_with fail
      go_loopw [153] (fun j wr => ∃ (k : Nat), k ≤ n6 ∧ j = .int .i64 k ∧ Hid (WtI w B E s r a6 n6 c6 wr)) (fun j _ => n6 - (intOf j).toNat)
      case atStart => exact ⟨0, Nat.zero_le _, rfl, HX8⟩
      case round =>
        clear HX8
        obtain ⟨k, hk, rfl, hX⟩ := hrel
        by_cases hlt : k < n6
        · have hkl : k < (heldL E r).length := by have := HN6.out; omega
          have hki : (k : Int) < (n6 : Int) := by omega
          have hki0 : (0 : Int) ≤ (k : Int) := by omega
          obtain ⟨n9, hn9, hn1, hn2, hn3⟩ := last_when hX.out.rt k hkl
          obtain ⟨b6, off6, rfl, hb6, z0, z1⟩ := pAt_get hX.out.ow.at k hkl
          have HNE := Lib.hid HN6.out.2
          clear HN6
          generalize (heldL E r)[k] = p at z0 z1 hn9
          have HX1 : Hid (WtI w B E s r (some ⟨b6, off6, none⟩) n6 c6 (wr.alloc (.cells #[.int .i64 p.1, .int .u64 (p.2 : Nat)] 38))) := Lib.hid (hX.out.below Rows8.newB)
          have P8 := Rows8.new wr 38 #[.int .i64 p.1, .int .u64 (p.2 : Nat)]
          have e0 : (wr.alloc (.cells #[.int .i64 p.1, .int .u64 (p.2 : Nat)] 38)).cell? ⟨wr.heap.size, 0, none⟩ = some (.int .i64 p.1) := P8.cell 0
          have lt8 := P8.lt
          have hbx := HX1.out.bx
          have HWn := Tryd.When_any E s r p.1 (wr.alloc (.cells #[.int .i64 p.1, .int .u64 (p.2 : Nat)] 38)) HX1.out.at_ HX1.out.lE
          rw [HX1.out.rt, if_pos rfl, hn9] at HWn
          have HWn : Hid (Calls Tryd.prog 18 #[.agg #[.int .u64 (E : Nat), .slice (s.a 0) (s.n 0) (s.c 0), .slice (s.a 1) (s.n 1) (s.c 1), .slice (s.a 2) (s.n 2) (s.c 2)], .int .i64 p.1] (wr.alloc (.cells #[.int .i64 p.1, .int .u64 (p.2 : Nat)] 38)) fun e w' => e = .returned (.tuple #[.int .u64 ((n9 : Nat) : Int), .bool true]) ∧ Below (wr.alloc (.cells #[.int .i64 p.1, .int .u64 (p.2 : Nat)] 38)).heap.size (wr.alloc (.cells #[.int .i64 p.1, .int .u64 (p.2 : Nat)] 38)) w') := Lib.hid HWn
          have c0 : (wr.alloc (.cells #[.int .i64 p.1, .int .u64 (p.2 : Nat)] 38)).cell? ⟨B, 0, none⟩ = some (.int .u64 (E : Nat)) := hbx.cell 0
          have c1 : (wr.alloc (.cells #[.int .i64 p.1, .int .u64 (p.2 : Nat)] 38)).cell? ⟨B, 1, none⟩ = some (.slice (s.a 0) (s.n 0) (s.c 0)) := hbx.cell 1
          have c2 : (wr.alloc (.cells #[.int .i64 p.1, .int .u64 (p.2 : Nat)] 38)).cell? ⟨B, 2, none⟩ = some (.slice (s.a 1) (s.n 1) (s.c 1)) := hbx.cell 2
          have c3 : (wr.alloc (.cells #[.int .i64 p.1, .int .u64 (p.2 : Nat)] 38)).cell? ⟨B, 3, none⟩ = some (.slice (s.a 2) (s.n 2) (s.c 2)) := hbx.cell 3
          have ltB := hbx.lt
          clear hbx P8 hX hkl hb6 hn9
          go_wp2_with fail
          refine HWn.out.mono ?_
          rintro e W9x ⟨rfl, hB9⟩
          have HX9 := Lib.hid (HX1.out.below hB9)
          clear hB9 HX1 HWn c0 c1 c2 c3 ltB e0 lt8 z0 z1
          go_upto_region 37 with fail
          refine wp_region_L (fun W' => Rows8 W' B 26 #[.int .u64 (E : Nat), .slice (s.a 0) (s.n 0) (s.c 0), .slice (s.a 1) (s.n 1) (s.c 1), .slice (s.a 2) (s.n 2) (s.c 2)]) 26 (by kernel_rfl) ?_
          have hS0 : Rows8 W9x.drew B 26 #[.int .u64 (E : Nat), .slice (s.a 0) (s.n 0) (s.c 0), .slice (s.a 1) (s.n 1) (s.c 1), .slice (s.a 2) (s.n 2) (s.c 2)] := HX9.out.bx.drewA
          have HXd : Hid (WtI w B E s r (some ⟨b6, off6, none⟩) n6 c6 W9x.drew) := Lib.hid HX9.out.drew
          obtain ⟨m9, hm9⟩ : ∃ m, m = (readyL E r).length := ⟨_, rfl⟩
          rw [← hm9] at hn3
          obtain ⟨x1, hx1⟩ : ∃ x1 : Bool, x1 = decide (n9 + 2 = E) := ⟨_, rfl⟩
          have hq1 : (((n9 : Nat) : Int) + 2 == ((E : Nat) : Int)) = x1 := by rw [hx1, Bool.eq_iff_iff, beq_iff_eq, decide_eq_true_eq]; omega
          have hq2 : decide (((n9 : Nat) : Int) + 2 = ((E : Nat) : Int)) = x1 := by rw [hx1, Bool.eq_iff_iff, decide_eq_true_eq, decide_eq_true_eq]; omega
          have hq3 : decide (((k : Nat) : Int) < ((m9 : Nat) : Int)) = x1 := by rw [hx1, Bool.eq_iff_iff, decide_eq_true_eq, decide_eq_true_eq, hn3]; omega
          have hq4 : decide (k < m9) = x1 := by rw [hx1, Bool.eq_iff_iff, decide_eq_true_eq, decide_eq_true_eq, hn3]
          have hxx : (x1 != x1) = false := by cases x1 <;> rfl
          have hEb : ((E : Nat) : Int) < 18446744073709551616 := by have := HX9.out.lE; omega
          have hEm : ((E : Nat) : Int) ≤ 4611686018427387904 := by have := (rightL_iff.1 HX9.out.rt).1.1; omega
          have hw9 : IntKind.u64.wrap (((n9 : Nat) : Int) + 2) = ((n9 : Nat) : Int) + 2 := by rw [IntKind.wrap_u64]; omega
          have hg9 : ¬ ((n9 : Nat) : Int) > ((E : Nat) : Int) := by omega
          have hl9 : ¬ ((n9 : Nat) : Int) + 2 < ((E : Nat) : Int) := by omega
          have HM9 := Lib.hid hm9
          clear HX9 hx1 hn3 hn1 hn2 hm9
          generalize W9x.drew = Wd at *
          as_aux_lemma =>
            refine wpAnyL_takeT (i := 0) (oi := { dst := some 165, op := Go.Op.move (Go.Operand.tmp 23), type := 4, pos := "outright.go:54", after := #[], guard := none }) (v := .bool true) [1, 2, 3, 4, 5, 6, 7, 8, 9, 10, 11, 12, 13, 14, 15, 16, 17, 18, 19, 20, 21, 22, 23, 24, 25, 26, 27] rfl (by kernel_rfl) (by kernel_rfl) (by kernel_rfl) (by kernel_rfl) (fun _ _ _ h => h) (Or.inl ⟨by rfl, ?_⟩) hS0 ?_
            · intro W9 hS9
              clear hS9
              go_simp
            try simp only [Act.put, List.setIfInBounds_toArray, List.set_cons_zero, List.set_cons_succ]
            refine wpAnyL_takeT (i := 1) (oi := { dst := some 166, op := Go.Op.unOp Go.UnOp.not 4 (Go.Operand.tmp 165), type := 4, pos := "outright.go:54", after := #[{ on := 0, ground := Go.Ground.data }], guard := none }) (v := .bool false) [2, 3, 4, 5, 6, 7, 8, 9, 10, 11, 12, 13, 14, 15, 16, 17, 18, 19, 20, 21, 22, 23, 24, 25, 26, 27] rfl (by kernel_rfl) (by kernel_rfl) (by kernel_rfl) (by kernel_rfl) (fun _ _ _ h => h) (Or.inl ⟨by rfl, ?_⟩) hS0 ?_
            · intro W9 hS9
              clear hS9
              go_simp
            try simp only [Act.put, List.setIfInBounds_toArray, List.set_cons_zero, List.set_cons_succ]
            refine wpAnyL_takeT (i := 2) (oi := { dst := some 167, op := Go.Op.move (Go.Operand.tmp 166), type := 4, pos := "outright.go:54", after := #[{ on := 1, ground := Go.Ground.data }], guard := none }) (v := .bool false) [3, 4, 5, 6, 7, 8, 9, 10, 11, 12, 13, 14, 15, 16, 17, 18, 19, 20, 21, 22, 23, 24, 25, 26, 27] rfl (by kernel_rfl) (by kernel_rfl) (by kernel_rfl) (by kernel_rfl) (fun _ _ _ h => h) (Or.inl ⟨by rfl, ?_⟩) hS0 ?_
            · intro W9 hS9
              clear hS9
              go_simp
            try simp only [Act.put, List.setIfInBounds_toArray, List.set_cons_zero, List.set_cons_succ]
            refine wpAnyL_takeT (i := 3) (oi := { dst := some 168, op := Go.Op.move (Go.Operand.tmp 22), type := 22, pos := "outright.go:54", after := #[{ on := 2, ground := Go.Ground.guard }], guard := some (2, false) }) (v := .int .u64 ((n9 : Nat) : Int)) [6, 7, 8, 9, 10, 11, 12, 13, 14, 15, 16, 17, 18, 19, 20, 21, 22, 23, 24, 25, 26, 27] rfl (by kernel_rfl) (by kernel_rfl) (by kernel_rfl) (by kernel_rfl) (fun _ _ _ h => h) (Or.inl ⟨by rfl, ?_⟩) hS0 ?_
            · intro W9 hS9
              clear hS9
              go_simp
            try simp only [Act.put, List.setIfInBounds_toArray, List.set_cons_zero, List.set_cons_succ]
            refine wpAnyL_takeT (i := 4) (oi := { dst := some 169, op := Go.Op.fieldAddr 26 (Go.Operand.tmp 5) 0, type := 0, pos := "outright.go:54", after := #[{ on := 2, ground := Go.Ground.guard }], guard := some (2, false) }) (v := .pointer (some ⟨B, 0, none⟩)) [5, 6, 7, 8, 9, 10, 11, 12, 13, 14, 15, 16, 17, 18, 19, 20, 21, 22, 23, 24, 25, 26, 27] rfl (by kernel_rfl) (by kernel_rfl) (by kernel_rfl) (by kernel_rfl) (fun _ _ _ h => h) (Or.inl ⟨by rfl, ?_⟩) hS0 ?_
            · intro W9 hS9
              clear hS9
              go_simp
            try simp only [Act.put, List.setIfInBounds_toArray, List.set_cons_zero, List.set_cons_succ]
            refine wpAnyL_takeT (i := 5) (oi := { dst := some 170, op := Go.Op.load 22 (Go.Operand.tmp 169), type := 22, pos := "outright.go:54", after := #[{ on := 4, ground := Go.Ground.data }, { on := 2, ground := Go.Ground.guard }], guard := some (2, false) }) (v := .int .u64 ((E : Nat) : Int)) [6, 7, 8, 9, 10, 11, 12, 13, 14, 15, 16, 17, 18, 19, 20, 21, 22, 23, 24, 25, 26, 27] rfl (by kernel_rfl) (by kernel_rfl) (by kernel_rfl) (by kernel_rfl) (fun _ _ _ h => h) (Or.inl ⟨by rfl, ?_⟩) hS0 ?_
            · intro W9 hS9
              have s0 : W9.cell? ⟨B, 0, none⟩ = some (.int .u64 (E : Nat)) := hS9.cell 0
              clear hS9
              go_simp
            try simp only [Act.put, List.setIfInBounds_toArray, List.set_cons_zero, List.set_cons_succ]
            refine wpAnyL_takeT (i := 6) (oi := { dst := some 171, op := Go.Op.binOp Go.BinOp.gtr 22 (Go.Operand.tmp 168) (Go.Operand.tmp 170) 22, type := 4, pos := "outright.go:54", after := #[{ on := 3, ground := Go.Ground.data }, { on := 5, ground := Go.Ground.data }, { on := 2, ground := Go.Ground.guard }], guard := some (2, false) }) (v := .bool false) [7, 8, 9, 10, 11, 12, 13, 14, 15, 16, 17, 18, 19, 20, 21, 22, 23, 24, 25, 26, 27] rfl (by kernel_rfl) (by kernel_rfl) (by kernel_rfl) (by kernel_rfl) (fun _ _ _ h => h) (Or.inl ⟨by rfl, ?_⟩) hS0 ?_
            · intro W9 hS9
              clear hS9
              go_simp
            try simp only [Act.put, List.setIfInBounds_toArray, List.set_cons_zero, List.set_cons_succ]
            refine wpAnyL_takeT (i := 7) (oi := { dst := some 172, op := Go.Op.pick (Go.Operand.tmp 167) (Go.Operand.const (Go.Value.bool true)) (Go.Operand.tmp 171), type := 4, pos := "outright.go:54", after := #[{ on := 2, ground := Go.Ground.data }, { on := 6, ground := Go.Ground.data }], guard := none }) (v := .bool false) [8, 9, 10, 11, 12, 13, 14, 15, 16, 17, 18, 19, 20, 21, 22, 23, 24, 25, 26, 27] rfl (by kernel_rfl) (by kernel_rfl) (by kernel_rfl) (by kernel_rfl) (fun _ _ _ h => h) (Or.inl ⟨by rfl, ?_⟩) hS0 ?_
            · intro W9 hS9
              clear hS9
              go_simp
            try simp only [Act.put, List.setIfInBounds_toArray, List.set_cons_zero, List.set_cons_succ]
            refine wpAnyL_takeT (i := 8) (oi := { dst := some 173, op := Go.Op.move (Go.Operand.tmp 172), type := 4, pos := "outright.go:54", after := #[{ on := 7, ground := Go.Ground.data }, { on := 2, ground := Go.Ground.chain }], guard := none }) (v := .bool false) [9, 10, 11, 12, 13, 14, 15, 16, 17, 18, 19, 20, 21, 22, 23, 24, 25, 26, 27] rfl (by kernel_rfl) (by kernel_rfl) (by kernel_rfl) (by kernel_rfl) (fun _ _ _ h => h) (Or.inl ⟨by rfl, ?_⟩) hS0 ?_
            · intro W9 hS9
              clear hS9
              go_simp
            try simp only [Act.put, List.setIfInBounds_toArray, List.set_cons_zero, List.set_cons_succ]
            refine wpAnyL_takeT (i := 9) (oi := { dst := some 174, op := Go.Op.move (Go.Operand.tmp 22), type := 22, pos := "outright.go:54", after := #[{ on := 8, ground := Go.Ground.guard }], guard := some (8, false) }) (v := .int .u64 ((n9 : Nat) : Int)) [10, 13, 14, 15, 16, 17, 18, 19, 20, 21, 22, 23, 24, 25, 26, 27] rfl (by kernel_rfl) (by kernel_rfl) (by kernel_rfl) (by kernel_rfl) (fun _ _ _ h => h) (Or.inl ⟨by rfl, ?_⟩) hS0 ?_
            · intro W9 hS9
              clear hS9
              go_simp
            try simp only [Act.put, List.setIfInBounds_toArray, List.set_cons_zero, List.set_cons_succ]
            refine wpAnyL_takeT (i := 10) (oi := { dst := some 175, op := Go.Op.binOp Go.BinOp.add 22 (Go.Operand.tmp 174) (Go.Operand.const (Go.Value.int Go.IntKind.u64 2)) 22, type := 22, pos := "outright.go:54", after := #[{ on := 9, ground := Go.Ground.data }, { on := 8, ground := Go.Ground.guard }], guard := some (8, false) }) (v := .int .u64 (((n9 : Nat) : Int) + 2)) [13, 14, 15, 16, 17, 18, 19, 20, 21, 22, 23, 24, 25, 26, 27] rfl (by kernel_rfl) (by kernel_rfl) (by kernel_rfl) (by kernel_rfl) (fun _ _ _ h => h) (Or.inl ⟨by rfl, ?_⟩) hS0 ?_
            · intro W9 hS9
              clear hS9
              go_simp
            try simp only [Act.put, List.setIfInBounds_toArray, List.set_cons_zero, List.set_cons_succ]
            refine wpAnyL_takeT (i := 11) (oi := { dst := some 176, op := Go.Op.fieldAddr 26 (Go.Operand.tmp 5) 0, type := 0, pos := "outright.go:54", after := #[{ on := 8, ground := Go.Ground.guard }], guard := some (8, false) }) (v := .pointer (some ⟨B, 0, none⟩)) [12, 13, 14, 15, 16, 17, 18, 19, 20, 21, 22, 23, 24, 25, 26, 27] rfl (by kernel_rfl) (by kernel_rfl) (by kernel_rfl) (by kernel_rfl) (fun _ _ _ h => h) (Or.inl ⟨by rfl, ?_⟩) hS0 ?_
            · intro W9 hS9
              clear hS9
              go_simp
            try simp only [Act.put, List.setIfInBounds_toArray, List.set_cons_zero, List.set_cons_succ]
            refine wpAnyL_takeT (i := 12) (oi := { dst := some 177, op := Go.Op.load 22 (Go.Operand.tmp 176), type := 22, pos := "outright.go:54", after := #[{ on := 11, ground := Go.Ground.data }, { on := 8, ground := Go.Ground.guard }], guard := some (8, false) }) (v := .int .u64 ((E : Nat) : Int)) [13, 14, 15, 16, 17, 18, 19, 20, 21, 22, 23, 24, 25, 26, 27] rfl (by kernel_rfl) (by kernel_rfl) (by kernel_rfl) (by kernel_rfl) (fun _ _ _ h => h) (Or.inl ⟨by rfl, ?_⟩) hS0 ?_
            · intro W9 hS9
              have s0 : W9.cell? ⟨B, 0, none⟩ = some (.int .u64 (E : Nat)) := hS9.cell 0
              clear hS9
              go_simp
            try simp only [Act.put, List.setIfInBounds_toArray, List.set_cons_zero, List.set_cons_succ]
            refine wpAnyL_takeT (i := 13) (oi := { dst := some 178, op := Go.Op.binOp Go.BinOp.lss 22 (Go.Operand.tmp 175) (Go.Operand.tmp 177) 22, type := 4, pos := "outright.go:54", after := #[{ on := 10, ground := Go.Ground.data }, { on := 12, ground := Go.Ground.data }, { on := 8, ground := Go.Ground.guard }], guard := some (8, false) }) (v := .bool false) [14, 15, 16, 17, 18, 19, 20, 21, 22, 23, 24, 25, 26, 27] rfl (by kernel_rfl) (by kernel_rfl) (by kernel_rfl) (by kernel_rfl) (fun _ _ _ h => h) (Or.inl ⟨by rfl, ?_⟩) hS0 ?_
            · intro W9 hS9
              clear hS9
              go_simp
            try simp only [Act.put, List.setIfInBounds_toArray, List.set_cons_zero, List.set_cons_succ]
            refine wpAnyL_takeT (i := 14) (oi := { dst := some 179, op := Go.Op.pick (Go.Operand.tmp 173) (Go.Operand.const (Go.Value.bool true)) (Go.Operand.tmp 178), type := 4, pos := "outright.go:54", after := #[{ on := 8, ground := Go.Ground.data }, { on := 13, ground := Go.Ground.data }], guard := none }) (v := .bool false) [15, 16, 17, 18, 19, 20, 21, 22, 23, 24, 25, 26, 27] rfl (by kernel_rfl) (by kernel_rfl) (by kernel_rfl) (by kernel_rfl) (fun _ _ _ h => h) (Or.inl ⟨by rfl, ?_⟩) hS0 ?_
            · intro W9 hS9
              clear hS9
              go_simp
            try simp only [Act.put, List.setIfInBounds_toArray, List.set_cons_zero, List.set_cons_succ]
            refine wpAnyL_takeT (i := 15) (oi := { dst := some 180, op := Go.Op.move (Go.Operand.tmp 179), type := 4, pos := "outright.go:54", after := #[{ on := 14, ground := Go.Ground.data }, { on := 8, ground := Go.Ground.chain }], guard := none }) (v := .bool false) [16, 17, 18, 19, 20, 21, 22, 23, 24, 25, 26, 27] rfl (by kernel_rfl) (by kernel_rfl) (by kernel_rfl) (by kernel_rfl) (fun _ _ _ h => h) (Or.inl ⟨by rfl, ?_⟩) hS0 ?_
            · intro W9 hS9
              clear hS9
              go_simp
            try simp only [Act.put, List.setIfInBounds_toArray, List.set_cons_zero, List.set_cons_succ]
            refine wpAnyL_takeT (i := 16) (oi := { dst := some 181, op := Go.Op.move (Go.Operand.tmp 22), type := 22, pos := "outright.go:54", after := #[{ on := 15, ground := Go.Ground.guard }], guard := some (15, false) }) (v := .int .u64 ((n9 : Nat) : Int)) [17, 20, 26, 27] rfl (by kernel_rfl) (by kernel_rfl) (by kernel_rfl) (by kernel_rfl) (fun _ _ _ h => h) (Or.inl ⟨by rfl, ?_⟩) hS0 ?_
            · intro W9 hS9
              clear hS9
              go_simp
            try simp only [Act.put, List.setIfInBounds_toArray, List.set_cons_zero, List.set_cons_succ]
            refine wpAnyL_takeT (i := 17) (oi := { dst := some 182, op := Go.Op.binOp Go.BinOp.add 22 (Go.Operand.tmp 181) (Go.Operand.const (Go.Value.int Go.IntKind.u64 2)) 22, type := 22, pos := "outright.go:54", after := #[{ on := 16, ground := Go.Ground.data }, { on := 15, ground := Go.Ground.guard }], guard := some (15, false) }) (v := .int .u64 (((n9 : Nat) : Int) + 2)) [20, 26, 27] rfl (by kernel_rfl) (by kernel_rfl) (by kernel_rfl) (by kernel_rfl) (fun _ _ _ h => h) (Or.inl ⟨by rfl, ?_⟩) hS0 ?_
            · intro W9 hS9
              clear hS9
              go_simp
            try simp only [Act.put, List.setIfInBounds_toArray, List.set_cons_zero, List.set_cons_succ]
            refine wpAnyL_takeT (i := 18) (oi := { dst := some 183, op := Go.Op.fieldAddr 26 (Go.Operand.tmp 5) 0, type := 0, pos := "outright.go:54", after := #[{ on := 15, ground := Go.Ground.guard }], guard := some (15, false) }) (v := .pointer (some ⟨B, 0, none⟩)) [19, 20, 26, 27] rfl (by kernel_rfl) (by kernel_rfl) (by kernel_rfl) (by kernel_rfl) (fun _ _ _ h => h) (Or.inl ⟨by rfl, ?_⟩) hS0 ?_
            · intro W9 hS9
              clear hS9
              go_simp
            try simp only [Act.put, List.setIfInBounds_toArray, List.set_cons_zero, List.set_cons_succ]
            refine wpAnyL_takeT (i := 19) (oi := { dst := some 184, op := Go.Op.load 22 (Go.Operand.tmp 183), type := 22, pos := "outright.go:54", after := #[{ on := 18, ground := Go.Ground.data }, { on := 15, ground := Go.Ground.guard }], guard := some (15, false) }) (v := .int .u64 ((E : Nat) : Int)) [20, 26, 27] rfl (by kernel_rfl) (by kernel_rfl) (by kernel_rfl) (by kernel_rfl) (fun _ _ _ h => h) (Or.inl ⟨by rfl, ?_⟩) hS0 ?_
            · intro W9 hS9
              have s0 : W9.cell? ⟨B, 0, none⟩ = some (.int .u64 (E : Nat)) := hS9.cell 0
              clear hS9
              go_simp
            try simp only [Act.put, List.setIfInBounds_toArray, List.set_cons_zero, List.set_cons_succ]
            refine wpAnyL_takeT (i := 20) (oi := { dst := some 185, op := Go.Op.binOp Go.BinOp.eql 22 (Go.Operand.tmp 182) (Go.Operand.tmp 184) 22, type := 4, pos := "outright.go:54", after := #[{ on := 17, ground := Go.Ground.data }, { on := 19, ground := Go.Ground.data }, { on := 15, ground := Go.Ground.guard }], guard := some (15, false) }) (v := .bool x1) [26, 27] rfl (by kernel_rfl) (by kernel_rfl) (by kernel_rfl) (by kernel_rfl) (fun _ _ _ h => h) (Or.inl ⟨by rfl, ?_⟩) hS0 ?_
            · intro W9 hS9
              clear hS9
              go_simp
            try simp only [Act.put, List.setIfInBounds_toArray, List.set_cons_zero, List.set_cons_succ]
            refine wpAnyL_takeT (i := 21) (oi := { dst := some 186, op := Go.Op.move (Go.Operand.tmp 20), type := 3, pos := "outright.go:54", after := #[{ on := 15, ground := Go.Ground.guard }], guard := some (15, false) }) (v := .int .i64 (k : Nat)) [25, 26, 27] rfl (by kernel_rfl) (by kernel_rfl) (by kernel_rfl) (by kernel_rfl) (fun _ _ _ h => h) (Or.inl ⟨by rfl, ?_⟩) hS0 ?_
            · intro W9 hS9
              clear hS9
              go_simp
            try simp only [Act.put, List.setIfInBounds_toArray, List.set_cons_zero, List.set_cons_succ]
            refine wpAnyL_takeT (i := 22) (oi := { dst := some 187, op := Go.Op.load 26 (Go.Operand.tmp 5), type := 26, pos := "outright.go:54", after := #[{ on := 15, ground := Go.Ground.guard }], guard := some (15, false) }) (v := .agg #[.int .u64 (E : Nat), .slice (s.a 0) (s.n 0) (s.c 0), .slice (s.a 1) (s.n 1) (s.c 1), .slice (s.a 2) (s.n 2) (s.c 2)]) [23, 24, 25, 26, 27] rfl (by kernel_rfl) (by kernel_rfl) (by kernel_rfl) (by kernel_rfl) (fun _ _ _ h => h) (Or.inl ⟨by rfl, ?_⟩) hS0 ?_
            · intro W9 hS9
              have s0 : W9.cell? ⟨B, 0, none⟩ = some (.int .u64 (E : Nat)) := hS9.cell 0
              have s1 : W9.cell? ⟨B, 1, none⟩ = some (.slice (s.a 0) (s.n 0) (s.c 0)) := hS9.cell 1
              have s2 : W9.cell? ⟨B, 2, none⟩ = some (.slice (s.a 1) (s.n 1) (s.c 1)) := hS9.cell 2
              have s3 : W9.cell? ⟨B, 3, none⟩ = some (.slice (s.a 2) (s.n 2) (s.c 2)) := hS9.cell 3
              clear hS9
              go_simp
            try simp only [Act.put, List.setIfInBounds_toArray, List.set_cons_zero, List.set_cons_succ]
            refine wpAnyL_one (i := 23) (o := { dst := some 188, op := Go.Op.call { callee := Go.Callee.value (Go.Operand.func 15), args := #[Go.Operand.tmp 187], argTypes := #[26] }, type := 23, pos := "outright.go:54", after := #[{ on := 22, ground := Go.Ground.data }, { on := 15, ground := Go.Ground.chain }, { on := 15, ground := Go.Ground.guard }], guard := some (15, false) }) (by kernel_rfl) rfl (fun K hK => ?_)
            have HRd := Tryd.Ready_any E s r Wd HXd.out.at_ HXd.out.lE
            rw [HXd.out.rt, if_pos rfl] at HRd
            refine step_call_g (by rfl) 15 _ _ rfl (fun _ _ => by kernel_rfl) #[.agg #[.int .u64 (E : Nat), .slice (s.a 0) (s.n 0) (s.c 0), .slice (s.a 1) (s.n 1) (s.c 1), .slice (s.a 2) (s.n 2) (s.c 2)]] (by simp [go_sem]) _ HRd ?_
            rintro e W1y ⟨v, rfl, hv, hC⟩
            obtain ⟨ay, cy, rfl⟩ := hv.form
            rw [← HM9.out]
            have HXy := Lib.hid (HXd.out.below hC)
            have hS1 := hS0.below hC hS0.lt
            clear hC HXd hS0 HRd hv
            refine ⟨_, rfl, ?_⟩
            refine hK.out _ _ (fun _ => hS1) ?_
            clear hK K
            try simp only [Act.put, List.setIfInBounds_toArray, List.set_cons_zero, List.set_cons_succ]
            refine wpAnyL_one (i := 24) (o := { dst := some 189, op := Go.Op.call { callee := Go.Callee.builtin Go.Builtin.len, args := #[Go.Operand.tmp 188], argTypes := #[23] }, type := 3, pos := "outright.go:54", after := #[{ on := 23, ground := Go.Ground.data }, { on := 15, ground := Go.Ground.guard }], guard := some (15, false) }) (by kernel_rfl) rfl (fun K hK => ?_)
            refine step_value_g (by rfl) (.int .i64 ((m9 : Nat) : Int)) (w' := W1y) (by go_simp) ?_
            refine hK.out _ _ (fun _ => hS1) ?_
            clear hK K
            try simp only [Act.put, List.setIfInBounds_toArray, List.set_cons_zero, List.set_cons_succ]
            refine wpAnyL_one (i := 25) (o := { dst := some 190, op := Go.Op.binOp Go.BinOp.lss 3 (Go.Operand.tmp 186) (Go.Operand.tmp 189) 3, type := 4, pos := "outright.go:54", after := #[{ on := 21, ground := Go.Ground.data }, { on := 24, ground := Go.Ground.data }, { on := 15, ground := Go.Ground.guard }], guard := some (15, false) }) (by kernel_rfl) rfl (fun K hK => ?_)
            refine step_value_g (by rfl) (.bool x1) (w' := W1y) (by go_simp) ?_
            refine hK.out _ _ (fun _ => hS1) ?_
            clear hK K
            try simp only [Act.put, List.setIfInBounds_toArray, List.set_cons_zero, List.set_cons_succ]
            refine wpAnyL_one (i := 26) (o := { dst := some 191, op := Go.Op.binOp Go.BinOp.neq 4 (Go.Operand.tmp 185) (Go.Operand.tmp 190) 4, type := 4, pos := "outright.go:54", after := #[{ on := 20, ground := Go.Ground.data }, { on := 25, ground := Go.Ground.data }, { on := 15, ground := Go.Ground.guard }], guard := some (15, false) }) (by kernel_rfl) rfl (fun K hK => ?_)
            refine step_value_g (by rfl) (.bool false) (w' := W1y) (by go_simp) ?_
            refine hK.out _ _ (fun h => absurd h (by decide)) ?_
            clear hK K
            try simp only [Act.put, List.setIfInBounds_toArray, List.set_cons_zero, List.set_cons_succ]
            refine wpAnyL_one (i := 27) (o := { dst := some 192, op := Go.Op.pick (Go.Operand.tmp 180) (Go.Operand.const (Go.Value.bool true)) (Go.Operand.tmp 191), type := 4, pos := "outright.go:54", after := #[{ on := 15, ground := Go.Ground.data }, { on := 26, ground := Go.Ground.data }], guard := none }) (by kernel_rfl) rfl (fun K hK => ?_)
            refine step_value_g (by rfl) (.bool false) (w' := W1y) (by go_simp) ?_
            refine hK.out _ _ (fun h => absurd h (by decide)) ?_
            clear hK K
            try simp only [Act.put, List.setIfInBounds_toArray, List.set_cons_zero, List.set_cons_succ]
            refine wpAnyL_end (by kernel_rfl) ?_
            clear hS1 hq1 hq2 hq3 hq4 hxx hEb hEm hw9 hg9 hl9
            have h128 := HNE.out
            go_wp2_with fail
            exact ⟨⟨k + 1, by omega, by go_num, HXy⟩, by simp [intOf]; omega⟩
        · obtain rfl : k = n6 := by omega
          have hki : ¬ (k : Int) < (k : Int) := by omega
          go_wp2_with fail
          go_ret
          exact ⟨rfl, hX.out.bl⟩
theorem own : ownKnob Tryd.prog.godebug = none := by kernel_rfl
theorem laidOut : laidOutB Tryd.prog = true := by kernel_rfl
set_option maxRecDepth 100000 in
theorem lifted (os : Os) (started : os.Started) (H : Type) (enc : TypeId × Value → H) :
    ReturnsInHanded {} Tryd.checked os 5 .any (fun w args => (Rows.limboWaitsSpec.pre enc Tryd.prog Tryd.f5 [] false w args ∧ laidMetH Tryd.prog [("honeycomb/honeycomblaw14.on", Rows.laid_honeycomb_honeycomblaw14_on)] w) ∧ sizedMet enc Tryd.prog Tryd.f5 (OpenSpec.ofChange Rows.limboWaitsSpec) false w args)
      (Rows.limboWaitsSpec.post enc Tryd.prog Tryd.f5 false true false false) := by
  refine returnsInHanded_of_change_and (C := Tryd.checked) (X := fun w _ => laidMetH Tryd.prog [("honeycomb/honeycomblaw14.on", Rows.laid_honeycomb_honeycomblaw14_on)] w) (fun _ _ _ hh h => h.of_heap hh) own started (by kernel_rfl) Tryd.func5
    (ChangeSpec.witness_shaped (enc := enc) (C := Tryd.checked) (os := os) (X := fun w _ => laidMetH Tryd.prog [("honeycomb/honeycomblaw14.on", Rows.laid_honeycomb_honeycomblaw14_on)] w) false (World.laidAll Tryd.prog os [("honeycomb/honeycomblaw14.on", Rows.laid_honeycomb_honeycomblaw14_on)]) #[.agg #[.int .u64 0, .slice none 0 0, .slice none 0 0, .slice none 0 0], .slice none 0 0] 8 (World.laidAll_os _ _ _)
      (World.shaped_of_ZipB (by kernel_rfl) (by kernel_rfl)) (by kernel_rfl) (by kernel_rfl) (by kernel_rfl)
      (by rw [MakeChecks.laidMetH_plain _ _ _ (by kernel_rfl)]; exact laidMet_laidAll _ (by kernel_rfl) (by kernel_rfl))) ?_
  intro W base args ds gs before hval0 hW _ _ hL _
  have hval : ∀ (j : Nat) t v, Tryd.f5.params[j]? = some t → args[j]? = some v → Value.okWide Tryd.prog W .any base t v := hval0
  have hW' := hW
  obtain ⟨p, q, hA0, hV, rfl, _, _⟩ := hW
  have hA : DataW.TrodAll enc Tryd.prog W 0 (fun _ => true) true Tryd.f5.params.toList args.toList ds p := hA0
  rw [Tryd.params5] at hA hval
  have hT := of_laid hL
  obtain ⟨v0, vs0, d0, ds0, p0, q0, hargs, rfl, rfl, h0, r0⟩ := trodAll_cons hA
  obtain ⟨v1, vs1, d1, ds1, p1, q1, rfl, rfl, rfl, h1, r1⟩ := trodAll_cons r0
  obtain ⟨rfl, rfl, rfl⟩ := trodAll_nil r1
  obtain rfl : args = #[v0, v1] := by cases args; simp_all
  obtain ⟨rfl, rfl⟩ := trodVars_none hV
  have k0 := h0
  have lt0 : ∀ x ∈ p0, x.block < W.heap.size := by obtain ⟨m, hm⟩ := k0; exact DataW.trod_lt m _ _ _ hm
  obtain ⟨a0, rfl, w0, u0, t0⟩ := open_limbo (hval 0 26 v0 rfl rfl) h0
  obtain ⟨a1, len1, cap1, rfl⟩ := okWide_slice Tryd.underlying23 (hval 1 23 v1 rfl rfl)
  have k1 := h1
  have lt1 : ∀ x ∈ p1, x.block < W.heap.size := by obtain ⟨m, hm⟩ := k1; exact DataW.trod_lt m _ _ _ hm
  obtain ⟨z1, n1, w1⟩ : ∃ zs, len1 = zs.length ∧ PAt W (.slice a1 len1 cap1) zs := by
    obtain ⟨fuel, hf⟩ := h1
    exact open_ents hf
  clear hA0 hval0
  refine (walk a0.e a0.s a0.r a1 len1 cap1 z1 W hT w0 u0 t0 n1 w1).mono fun e W' ⟨he, bel⟩ => ?_
  subst he
  exact ⟨_, rfl, _, _, _, [], _, [], hW', trodAll_mk1 (shut_bool Tryd.underlying4 _), (trodAll_cons_mk (Below.trod laidOut (by kernel_rfl) (of_decide_eq_true (by kernel_rfl)) k0 bel lt0) (trodAll_cons_mk (Below.trod laidOut (by kernel_rfl) (of_decide_eq_true (by kernel_rfl)) k1 bel lt1) trodAll_mk0)), rfl, bel.frame _, fun h => by cases h⟩
theorem said : Rows.LimboWaitsSaid :=
  OpenClaim.holds_of_wide 5 Tryd.f5 rfl rfl rfl rfl rfl rfl rfl ⟨rfl, rfl, rfl, rfl, rfl⟩ rfl rfl rfl rfl rfl (by kernel_rfl) Tryd.func5 (by kernel_rfl)
    (of_decide_eq_true (by kernel_rfl)) (by unfold Func.isWrapper; first | (rw [if_pos (by decide +kernel)]; kernel_rfl) | (rw [if_neg (by decide +kernel)]; exact ⟨rfl, rfl⟩))
    (fun os started H enc _ => lifted os started H enc)
theorem proved : Rows.LimboWaitsCardSaid :=
  Claim7.holds_tied_plain_at .later [] [.data] true _ true said (fun _ h => by cases h) (by kernel_rfl) (fun _ h => by cases h) limboWaits_row_tie rfl ⟨rfl, rfl⟩ (by kernel_rfl) rfl
    (fun f fn hf hfn => by
      obtain rfl : f = 5 := Option.some.inj ((show Tryd.prog.funcNamed "honeycomb/honeycomblaw14.LimboWaits" = some 5 by kernel_rfl).symm.trans hf) |>.symm
      obtain rfl : fn = Tryd.f5 := (Option.some.inj (Tryd.func5.symm.trans hfn)).symm
      exact ⟨by kernel_rfl, fun j t ht => by
        rw [Tryd.params5] at ht
        have hm : t ∈ [26, 23] := by simpa using Array.mem_of_getElem? ht
        have hall : ([26, 23].all fun u => !Tryd.prog.wantsStandIn u) = true := by kernel_rfl
        exact (show Tryd.prog.wantsStandIn t = false by simpa using List.all_eq_true.1 hall t hm)⟩)
    (by kernel_rfl)
end Go.Proofs.YteamlomcdiomkaaDoor.limboWaits
