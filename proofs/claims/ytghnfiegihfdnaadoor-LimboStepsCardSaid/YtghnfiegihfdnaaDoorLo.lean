/- Limbo: Retire, Advance. -/
import Derived.Test.YtghnfiegihfdnaaDoorLn
namespace Go.Proofs
set_option maxRecDepth 100000
open Go.RowKit Go.Shelf
attribute [local go_sem] Oper.semAt_some

/-- A limbo that the call owns. -/
def LO (n₀ : Nat) (r : Rw3) (s : Ls) (W : World) : Prop := (∀ k, k < 3 → OwnE n₀ (r k) (s.v k) W) ∧ ∀ i j, i < 3 → j < 3 → i ≠ j → (s.v i).ownBlock = none ∨ (s.v i).ownBlock ≠ (s.v j).ownBlock
theorem LO.at {n₀ : Nat} {r : Rw3} {s : Ls} {W : World} (h : LO n₀ r s W) : LAt W s r := fun k hk => (h.1 k hk).at
theorem LO.below {n₀ : Nat} {r : Rw3} {s : Ls} {A B : World} (h : LO n₀ r s A) (hB : Below A.heap.size A B) : LO n₀ r s B := ⟨fun k hk => (h.1 k hk).keep hB (Nat.le_refl _), h.2⟩
theorem LO.mono {n₀ n₁ : Nat} {r : Rw3} {s : Ls} {W : World} (h : LO n₁ r s W) (hn : n₀ ≤ n₁) : LO n₀ r s W := ⟨fun k hk => (h.1 k hk).mono hn, h.2⟩
theorem Hl.lo {H n₀ E : Nat} {r : Rw3} {s : Ls} {W : World} (h : Hl H n₀ E r s W) : LO n₀ r s W := ⟨fun k hk => h.o k (by omega), fun i j hi hj hne => h.ap i j (by omega) (by omega) hne⟩
theorem LO.setLow {n₀ : Nat} {r : Rw3} {s : Ls} {W : World} (h : LO n₀ r s W) {B : Nat} (hB : B < n₀) (o : Nat) (u : Value) : LO n₀ r s (W.setCell ⟨B, o, none⟩ u) := ⟨fun k hk => (h.1 k hk).setLow hB o u, h.2⟩
/-- A limbo, and an error. -/
def LimQ (n₀ : Nat) (R : Rl) (e : Ending) (w' : World) : Prop := ∃ s, e = .returned (.tuple #[.agg #[.int .u64 (R.2.1 : Nat), .slice (s.a 0) (s.n 0) (s.c 0), .slice (s.a 1) (s.n 1) (s.c 1), .slice (s.a 2) (s.n 2) (s.c 2)], .int .i64 R.1]) ∧ LO n₀ R.2.2 s w'
theorem rows4 {W : World} {B : Nat} {t : TypeId} {u0 u1 u2 u3 : Value} (h : Rows8 W B t #[u0, u1, u2, u3]) (v0 v1 v2 v3 : Value) : Rows8 ((((W.setCell ⟨B, 0, none⟩ v0).setCell ⟨B, 1, none⟩ v1).setCell ⟨B, 2, none⟩ v2).setCell ⟨B, 3, none⟩ v3) B t #[v0, v1, v2, v3] := by
  have h1 := (((h.set 0 v0).set 1 v1).set 2 v2).set 3 v3
  simp only [List.setIfInBounds_toArray, List.set_cons_zero, List.set_cons_succ] at h1
  exact h1
theorem below4 {h : Nat} {A W : World} (p : Below h A W) {B : Nat} (hB : h ≤ B) (v0 v1 v2 v3 : Value) : Below h A ((((W.setCell ⟨B, 0, none⟩ v0).setCell ⟨B, 1, none⟩ v1).setCell ⟨B, 2, none⟩ v2).setCell ⟨B, 3, none⟩ v3) :=
  (((p.setCell (p := ⟨B, 0, none⟩) hB v0).setCell (p := ⟨B, 1, none⟩) hB v1).setCell (p := ⟨B, 2, none⟩) hB v2).setCell (p := ⟨B, 3, none⟩) hB v3
theorem LO.set4 {n₀ : Nat} {r : Rw3} {s : Ls} {W : World} (h : LO n₀ r s W) {B : Nat} (hB : B < n₀) (v0 v1 v2 v3 : Value) : LO n₀ r s ((((W.setCell ⟨B, 0, none⟩ v0).setCell ⟨B, 1, none⟩ v1).setCell ⟨B, 2, none⟩ v2).setCell ⟨B, 3, none⟩ v3) :=
  (((h.setLow hB 0 v0).setLow hB 1 v1).setLow hB 2 v2).setLow hB 3 v3
theorem tot_right {E : Nat} {r : Rw3} (h : rightL E r = true) (h3 : r 3 = []) : totL r ≤ 1000 := by
  have := rightL_len h
  unfold totL
  rw [h3]
  simp
  omega
set_option maxHeartbeats 8000000 in
theorem Tryd.Retire_any (E : Nat) (s : Ls) (r : Rw3) (p : Pr) (w : World) (hI : LAt w s r) (hE : E < 18446744073709551616) (h3 : r 3 = []) :
    Calls Tryd.prog 22 #[.agg #[.int .u64 (E : Nat), .slice (s.a 0) (s.n 0) (s.c 0), .slice (s.a 1) (s.n 1) (s.c 1), .slice (s.a 2) (s.n 2) (s.c 2)], .agg #[.int .i64 p.1, .int .u64 (p.2 : Nat)]] w fun e w' => LimQ w.heap.size (tryL E r (retN E r p)) e w' ∧ Below w.heap.size w w' := by
  obtain ⟨T, hT⟩ : ∃ T, T = tryL E r (retN E r p) := ⟨_, rfl⟩
  rw [← hT]
  have HT := Lib.hid hT
  obtain ⟨W0, hW0⟩ : ∃ W, W = ((w.alloc (.cells #[.int .u64 (E : Nat), .slice (s.a 0) (s.n 0) (s.c 0), .slice (s.a 1) (s.n 1) (s.c 1), .slice (s.a 2) (s.n 2) (s.c 2)] 26)).alloc (.cells #[.int .i64 p.1, .int .u64 (p.2 : Nat)] 38)).alloc (.cells #[.int .u64 0, .slice none 0 0, .slice none 0 0, .slice none 0 0] 26) := ⟨_, rfl⟩
  have hB0 : Below w.heap.size w W0 := by rw [hW0]; exact ((Rows8.newB).alloc (by simp) _).alloc (by simp <;> omega) _
  have hE0 : Rows8 W0 (w.heap.size + 1) 38 #[.int .i64 p.1, .int .u64 (p.2 : Nat)] := by rw [hW0]; exact (rows_new2 _ _ _ _).alloc _
  have hR0 : Rows8 W0 (w.heap.size + 1 + 1) 26 #[.int .u64 0, .slice none 0 0, .slice none 0 0, .slice none 0 0] := by
    have h := Rows8.new ((w.alloc (.cells #[.int .u64 (E : Nat), .slice (s.a 0) (s.n 0) (s.c 0), .slice (s.a 1) (s.n 1) (s.c 1), .slice (s.a 2) (s.n 2) (s.c 2)] 26)).alloc (.cells #[.int .i64 p.1, .int .u64 (p.2 : Nat)] 38)) 26 #[.int .u64 0, .slice none 0 0, .slice none 0 0, .slice none 0 0]
    rw [World.size_alloc, World.size_alloc] at h
    rw [hW0]; exact h
  have hsz : W0.heap.size = w.heap.size + 1 + 1 + 1 := by rw [hW0]; simp only [World.size_alloc]
  have hho := Tryd.handOf_any E s W0
  rw [hsz] at hho
  have HHO := Lib.hid hho
  have HI := Lib.hid hI
  have HEE := Lib.hid hE
  have H3 := Lib.hid h3
  have HB0 := Lib.hid hB0
  have HE0 := Lib.hid hE0
  have HR0 := Lib.hid hR0
  have hmf : ∀ (fn : Fn) (first cap : Array Value) (w : World), (Instr.makeFunc fn first cap).run Tryd.prog w = .ok (.func fn first cap) w := fun _ _ _ _ => rfl
  have HSZ := Lib.hid hsz
  clear hho hI hE h3 hB0 hE0 hR0 hT hsz
  go_enter Tryd.func22, Tryd.ntmps22
  go_wp2_with fail
  rw [← hW0]
  clear hW0
  refine HHO.out.mono ?_
  rintro e w1 ⟨rfl, hh1, hB1, hz1⟩
  have e1 := HE0.out.below hB1 (by omega)
  have r1 := HR0.out.below hB1 (by omega)
  have hal : Below w1.heap.size w1 (w1.alloc (.cells #[.pointer (some ⟨w.heap.size + 1 + 1 + 1 + 1, 0, none⟩)] 62)) := Rows8.newB
  have hp2 := Rows8.new w1 62 #[.pointer (some ⟨w.heap.size + 1 + 1 + 1 + 1, 0, none⟩)]
  rw [hz1] at hp2
  have hh2 := hh1.below hal hh1.lt
  have e2 := e1.below hal e1.lt
  have r2 := r1.below hal r1.lt
  have hB2 := (HB0.out.trans (hB1.mono (by omega))).trans (hal.mono (by omega))
  obtain ⟨w2, hw2⟩ : ∃ W, W = w1.alloc (.cells #[.pointer (some ⟨w.heap.size + 1 + 1 + 1 + 1, 0, none⟩)] 62) := ⟨_, rfl⟩
  rw [← hw2] at hp2 hh2 e2 r2 hB2
  have hz2 : w2.heap.size = w.heap.size + 1 + 1 + 1 + 1 + 1 + 1 := by rw [hw2]; simp [hz1]
  have HTR := Lib.hid (Tryd.try_any (w.heap.size + 1 + 1 + 1 + 1) (w.heap.size + 1 + 1 + 1) E s r 42 #[] #[.pointer (some ⟨w.heap.size + 1 + 1 + 1 + 1 + 1, 0, none⟩), .pointer (some ⟨w.heap.size + 1, 0, none⟩)] (retN E r p) w w2 hh2 HI.out hB2 (by omega) (by omega) HEE.out H3.out (fun _ _ => by kernel_rfl)
    (fun hr W s' hb hk hz hl => Tryd.Retire1_any (w.heap.size + 1 + 1 + 1 + 1 + 1) (w.heap.size + 1) (w.heap.size + 1 + 1 + 1 + 1) (w.heap.size + 1 + 1 + 1) E r p s' W (hk.rows hp2 (by decide)) (e2.below hb (by omega)) hl (rightL_iff.1 hr).1.1 hz (by omega) (tot_right hr H3.out)))
  have c6 : w2.cell? ⟨w.heap.size + 1 + 1 + 1 + 1 + 1, 0, none⟩ = some (.pointer (some ⟨w.heap.size + 1 + 1 + 1 + 1, 0, none⟩)) := hp2.cell 0
  have l6 := hp2.lt
  have HP2 := Lib.hid hp2
  have HR2 := Lib.hid r2
  have HB2 := Lib.hid hB2
  have HZ2 := Lib.hid hz2
  clear hh1 hB1 e1 r1 hal hp2 hh2 e2 r2 hB2 HHO HI HEE H3 HB0 HE0 HR0 HSZ
  rw [← HT.out] at HTR
  subst hw2
  go_wp2_with fail
  refine HTR.out.mono ?_
  rintro e w3 ⟨rfl, ⟨s3, hd⟩, hB3, hK3⟩
  have hp3 := hK3.rows HP2.out (by decide)
  have hr3 := HR2.out.below hB3 (by omega)
  have HB4 := Lib.hid (HB2.out.trans (hB3.mono (by omega)))
  obtain ⟨T1, F, u⟩ := T
  dsimp only at hd
  have HD := Lib.hid hd
  have HR4 := Lib.hid hr3
  have c7 : w3.cell? ⟨w.heap.size + 1 + 1 + 1 + 1 + 1, 0, none⟩ = some (.pointer (some ⟨w.heap.size + 1 + 1 + 1 + 1, 0, none⟩)) := hp3.cell 0
  have l7 := hp3.lt
  clear hd hr3 hp3 hB3 hK3 c6 l6
  have g0 : w3.cell? ⟨w.heap.size + 1 + 1 + 1 + 1, 0, none⟩ = some (.int .u64 (F : Nat)) := HD.out.bx.cell 0
  have g1 : w3.cell? ⟨w.heap.size + 1 + 1 + 1 + 1, 1, none⟩ = some (.slice (s3.a 0) (s3.n 0) (s3.c 0)) := HD.out.bx.cell 1
  have g2 : w3.cell? ⟨w.heap.size + 1 + 1 + 1 + 1, 2, none⟩ = some (.slice (s3.a 1) (s3.n 1) (s3.c 1)) := HD.out.bx.cell 2
  have g3 : w3.cell? ⟨w.heap.size + 1 + 1 + 1 + 1, 3, none⟩ = some (.slice (s3.a 2) (s3.n 2) (s3.c 2)) := HD.out.bx.cell 3
  have lh := HD.out.bx.lt
  have r0 : w3.cell? ⟨w.heap.size + 1 + 1, 0, none⟩ = some (.int .u64 0) := HR4.out.cell 0
  have fr0 := HR4.out.frozen 0
  have r1 : w3.cell? ⟨w.heap.size + 1 + 1, 1, none⟩ = some (.slice none 0 0) := HR4.out.cell 1
  have fr1 := HR4.out.frozen 1
  have r2 : w3.cell? ⟨w.heap.size + 1 + 1, 2, none⟩ = some (.slice none 0 0) := HR4.out.cell 2
  have fr2 := HR4.out.frozen 2
  have r3 : w3.cell? ⟨w.heap.size + 1 + 1, 3, none⟩ = some (.slice none 0 0) := HR4.out.cell 3
  have fr3 := HR4.out.frozen 3
  have lr := HR4.out.lt
  have HS := Lib.hid (rows4 HR4.out (.int .u64 (F : Nat)) (.slice (s3.a 0) (s3.n 0) (s3.c 0)) (.slice (s3.a 1) (s3.n 1) (s3.c 1)) (.slice (s3.a 2) (s3.n 2) (s3.c 2)))
  have HL := Lib.hid (HD.out.lo.set4 (B := w.heap.size + 1 + 1) (by omega) (.int .u64 (F : Nat)) (.slice (s3.a 0) (s3.n 0) (s3.c 0)) (.slice (s3.a 1) (s3.n 1) (s3.c 1)) (.slice (s3.a 2) (s3.n 2) (s3.c 2)))
  have HB5 := Lib.hid (below4 HB4.out (B := w.heap.size + 1 + 1) (by omega) (.int .u64 (F : Nat)) (.slice (s3.a 0) (s3.n 0) (s3.c 0)) (.slice (s3.a 1) (s3.n 1) (s3.c 1)) (.slice (s3.a 2) (s3.n 2) (s3.c 2)))
  go_wp2_with fail
  refine bodyPost_ret (results_ctA rfl _ _ (w.heap.size + 1 + 1) _ _ rfl rfl (load_row HS.out Tryd.underlying26 rfl (by kernel_rfl))) rfl ?_
  exact ⟨⟨s3, rfl, HL.out.mono (by omega)⟩, HB5.out⟩
set_option maxHeartbeats 8000000 in
theorem Tryd.Advance_any (E : Nat) (s : Ls) (r : Rw3) (w : World) (hI : LAt w s r) (hE : E < 18446744073709551616) (h3 : r 3 = []) :
    Calls Tryd.prog 23 #[.agg #[.int .u64 (E : Nat), .slice (s.a 0) (s.n 0) (s.c 0), .slice (s.a 1) (s.n 1) (s.c 1), .slice (s.a 2) (s.n 2) (s.c 2)]] w fun e w' => LimQ w.heap.size (tryL E r (advN E r)) e w' ∧ Below w.heap.size w w' := by
  obtain ⟨T, hT⟩ : ∃ T, T = tryL E r (advN E r) := ⟨_, rfl⟩
  rw [← hT]
  have HT := Lib.hid hT
  obtain ⟨W0, hW0⟩ : ∃ W, W = (w.alloc (.cells #[.int .u64 (E : Nat), .slice (s.a 0) (s.n 0) (s.c 0), .slice (s.a 1) (s.n 1) (s.c 1), .slice (s.a 2) (s.n 2) (s.c 2)] 26)).alloc (.cells #[.int .u64 0, .slice none 0 0, .slice none 0 0, .slice none 0 0] 26) := ⟨_, rfl⟩
  have hB0 : Below w.heap.size w W0 := by rw [hW0]; exact (Rows8.newB).alloc (by simp) _
  have HR0 : Hid (Rows8 W0 (w.heap.size + 1) 26 #[.int .u64 0, .slice none 0 0, .slice none 0 0, .slice none 0 0]) := Lib.hid (by rw [hW0]; exact rows_new2 _ _ _ _)
  have hsz : W0.heap.size = w.heap.size + 1 + 1 := by rw [hW0]; simp only [World.size_alloc]
  have hho := Tryd.handOf_any E s W0
  rw [hsz] at hho
  have HHO := Lib.hid hho
  have HI := Lib.hid hI
  have HEE := Lib.hid hE
  have H3 := Lib.hid h3
  have HB0 := Lib.hid hB0
  have hmf : ∀ (fn : Fn) (first cap : Array Value) (w : World), (Instr.makeFunc fn first cap).run Tryd.prog w = .ok (.func fn first cap) w := fun _ _ _ _ => rfl
  have HSZ := Lib.hid hsz
  clear hho hI hE h3 hB0 hT hsz
  go_enter Tryd.func23, Tryd.ntmps23
  go_wp2_with fail
  rw [← hW0]
  clear hW0
  refine HHO.out.mono ?_
  rintro e w1 ⟨rfl, hh1, hB1, hz1⟩
  have r1 := HR0.out.below hB1 (by omega)
  have hB2 := HB0.out.trans (hB1.mono (by omega))
  have HTR := Lib.hid (Tryd.try_any (w.heap.size + 1 + 1 + 1) (w.heap.size + 1 + 1) E s r 44 #[.pointer (some ⟨w.heap.size + 1 + 1 + 1, 0, none⟩)] #[] (advN E r) w w1 hh1 HI.out hB2 (by omega) (by omega) HEE.out H3.out (fun _ _ => by kernel_rfl)
    (fun hr W s' hb hk hz hl => Tryd.advance_any (w.heap.size + 1 + 1 + 1) (w.heap.size + 1 + 1) E r s' W hl (rightL_iff.1 hr).1.1 hz (by omega)))
  have HR2 := Lib.hid r1
  have HB2 := Lib.hid hB2
  clear hh1 hB1 r1 hB2 HHO HI HEE H3 HB0 HR0 HSZ
  rw [← HT.out] at HTR
  go_wp2_with fail
  refine HTR.out.mono ?_
  rintro e w3 ⟨rfl, ⟨s3, hd⟩, hB3, hK3⟩
  have hr3 := HR2.out.below hB3 (by omega)
  have HB4 := Lib.hid (HB2.out.trans (hB3.mono (by omega)))
  obtain ⟨T1, F, u⟩ := T
  dsimp only at hd
  have HD := Lib.hid hd
  have HR4 := Lib.hid hr3
  clear hd hr3 hB3 hK3
  have g0 : w3.cell? ⟨w.heap.size + 1 + 1 + 1, 0, none⟩ = some (.int .u64 (F : Nat)) := HD.out.bx.cell 0
  have g1 : w3.cell? ⟨w.heap.size + 1 + 1 + 1, 1, none⟩ = some (.slice (s3.a 0) (s3.n 0) (s3.c 0)) := HD.out.bx.cell 1
  have g2 : w3.cell? ⟨w.heap.size + 1 + 1 + 1, 2, none⟩ = some (.slice (s3.a 1) (s3.n 1) (s3.c 1)) := HD.out.bx.cell 2
  have g3 : w3.cell? ⟨w.heap.size + 1 + 1 + 1, 3, none⟩ = some (.slice (s3.a 2) (s3.n 2) (s3.c 2)) := HD.out.bx.cell 3
  have lh := HD.out.bx.lt
  have r0 : w3.cell? ⟨w.heap.size + 1, 0, none⟩ = some (.int .u64 0) := HR4.out.cell 0
  have fr0 := HR4.out.frozen 0
  have r1 : w3.cell? ⟨w.heap.size + 1, 1, none⟩ = some (.slice none 0 0) := HR4.out.cell 1
  have fr1 := HR4.out.frozen 1
  have r2 : w3.cell? ⟨w.heap.size + 1, 2, none⟩ = some (.slice none 0 0) := HR4.out.cell 2
  have fr2 := HR4.out.frozen 2
  have r3 : w3.cell? ⟨w.heap.size + 1, 3, none⟩ = some (.slice none 0 0) := HR4.out.cell 3
  have fr3 := HR4.out.frozen 3
  have lr := HR4.out.lt
  have HS := Lib.hid (rows4 HR4.out (.int .u64 (F : Nat)) (.slice (s3.a 0) (s3.n 0) (s3.c 0)) (.slice (s3.a 1) (s3.n 1) (s3.c 1)) (.slice (s3.a 2) (s3.n 2) (s3.c 2)))
  have HL := Lib.hid (HD.out.lo.set4 (B := w.heap.size + 1) (by omega) (.int .u64 (F : Nat)) (.slice (s3.a 0) (s3.n 0) (s3.c 0)) (.slice (s3.a 1) (s3.n 1) (s3.c 1)) (.slice (s3.a 2) (s3.n 2) (s3.c 2)))
  have HB5 := Lib.hid (below4 HB4.out (B := w.heap.size + 1) (by omega) (.int .u64 (F : Nat)) (.slice (s3.a 0) (s3.n 0) (s3.c 0)) (.slice (s3.a 1) (s3.n 1) (s3.c 1)) (.slice (s3.a 2) (s3.n 2) (s3.c 2)))
  go_wp2_with fail
  refine bodyPost_ret (results_ctA rfl _ _ (w.heap.size + 1) _ _ rfl rfl (load_row HS.out Tryd.underlying26 rfl (by kernel_rfl))) rfl ?_
  exact ⟨⟨s3, rfl, HL.out.mono (by omega)⟩, HB5.out⟩
end Go.Proofs
