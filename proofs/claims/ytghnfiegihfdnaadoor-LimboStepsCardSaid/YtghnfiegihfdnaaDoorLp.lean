/- Limbo: Take, Run. -/
import Derived.Test.YtghnfiegihfdnaaDoorLo
namespace Go.Proofs
set_option maxRecDepth 100000
open Go.RowKit Go.Shelf
attribute [local go_sem] Oper.semAt_some

theorem results_cct {P : Program} {fn : Func} {p q r : Tmp} {ty uy : TypeId} (h : fn.results = #[.cell p ty, .cell q uy, .tmp r]) (tmps : Array Value) (w : World) (B C : Nat) (u v x : Value)
    (hp : tmps.getD p undef = .pointer (some ⟨B, 0, none⟩)) (hq : tmps.getD q undef = .pointer (some ⟨C, 0, none⟩)) (hx : tmps.getD r undef = x) (h1 : (loadVar ty ⟨B, 0, none⟩).run P w = .ok u w) (h2 : (loadVar uy ⟨C, 0, none⟩).run P w = .ok v w) :
    (results fn tmps).run P w = .ok (.tuple #[u, v, x]) w := by
  have hp' : tmps[p]?.getD undef = .pointer (some ⟨B, 0, none⟩) := by simpa using hp
  have hq' : tmps[q]?.getD undef = .pointer (some ⟨C, 0, none⟩) := by simpa using hq
  have hx' : tmps[r]?.getD undef = x := by simpa using hx
  simp [results, h, hp', hq', hx', asAddr, h1, h2, Result.andThen]
/-- A limbo, an entry, and an error. -/
def TakQ (n₀ : Nat) (R : Rl) (e : Ending) (w' : World) : Prop := ∃ s, e = .returned (.tuple #[.agg #[.int .u64 (R.2.1 : Nat), .slice (s.a 0) (s.n 0) (s.c 0), .slice (s.a 1) (s.n 1) (s.c 1), .slice (s.a 2) (s.n 2) (s.c 2)], .agg #[.int .i64 ((R.2.2 3).headD (0, 0)).1, .int .u64 (((R.2.2 3).headD (0, 0)).2 : Nat)], .int .i64 R.1]) ∧ LO n₀ R.2.2 s w'
/-- A limbo, entries, and an error. -/
def RunQ (n₀ : Nat) (R : Rl) (e : Ending) (w' : World) : Prop := ∃ s v, e = .returned (.tuple #[.agg #[.int .u64 (R.2.1 : Nat), .slice (s.a 0) (s.n 0) (s.c 0), .slice (s.a 1) (s.n 1) (s.c 1), .slice (s.a 2) (s.n 2) (s.c 2)], v, .int .i64 R.1]) ∧ LO n₀ R.2.2 s w' ∧ OwnE n₀ (R.2.2 3) v w'
theorem tryTak {E : Nat} {r : Rw3} {F : Nat} {u : Rw3} (h : (0, F, u) = tryL E r (takN E r)) (h3 : r 3 = []) : ∃ z, u 3 = [z] := by
  unfold tryL at h
  split at h
  · unfold takN at h
    split at h
    · simp at h
    · rw [if_pos rfl] at h
      injection h with _ h
      injection h with _ h
      rw [h, takR_3, h3]
      exact ⟨_, rfl⟩
  · injection h with h; cases h
theorem tryErr {E : Nat} {r : Rw3} {R : Rl} {t : Int} {F : Nat} {u : Rw3} (h : (t, F, u) = tryL E r R) (ht : t ≠ 0) : F = 0 ∧ u = fun _ => [] := by
  unfold tryL at h
  split at h
  · split at h
    · rename_i h0
      have e : t = R.1 := congrArg Prod.fst h
      exact absurd (e.trans h0) ht
    · injection h with _ h; injection h with h1 h2; exact ⟨h1, h2⟩
  · injection h with _ h; injection h with h1 h2; exact ⟨h1, h2⟩
set_option maxHeartbeats 8000000 in
theorem Tryd.Take_any (E : Nat) (s : Ls) (r : Rw3) (w : World) (hI : LAt w s r) (hE : E < 18446744073709551616) (h3 : r 3 = []) :
    Calls Tryd.prog 24 #[.agg #[.int .u64 (E : Nat), .slice (s.a 0) (s.n 0) (s.c 0), .slice (s.a 1) (s.n 1) (s.c 1), .slice (s.a 2) (s.n 2) (s.c 2)]] w fun e w' => TakQ w.heap.size (tryL E r (takN E r)) e w' ∧ Below w.heap.size w w' := by
  obtain ⟨T, hT⟩ : ∃ T, T = tryL E r (takN E r) := ⟨_, rfl⟩
  rw [← hT]
  have HT := Lib.hid hT
  obtain ⟨W0, hW0⟩ : ∃ W, W = ((w.alloc (.cells #[.int .u64 (E : Nat), .slice (s.a 0) (s.n 0) (s.c 0), .slice (s.a 1) (s.n 1) (s.c 1), .slice (s.a 2) (s.n 2) (s.c 2)] 26)).alloc (.cells #[.int .u64 0, .slice none 0 0, .slice none 0 0, .slice none 0 0] 26)).alloc (.cells #[.int .i64 0, .int .u64 0] 38) := ⟨_, rfl⟩
  have hB0 : Below w.heap.size w W0 := by rw [hW0]; exact ((Rows8.newB).alloc (by simp) _).alloc (by simp <;> omega) _
  have HR0 : Hid (Rows8 W0 (w.heap.size + 1) 26 #[.int .u64 0, .slice none 0 0, .slice none 0 0, .slice none 0 0]) := Lib.hid (by rw [hW0]; exact (rows_new2 _ _ _ _).alloc _)
  have HE0 : Hid (Rows8 W0 (w.heap.size + 1 + 1) 38 #[.int .i64 0, .int .u64 0]) := Lib.hid (by
    have h := Rows8.new ((w.alloc (.cells #[.int .u64 (E : Nat), .slice (s.a 0) (s.n 0) (s.c 0), .slice (s.a 1) (s.n 1) (s.c 1), .slice (s.a 2) (s.n 2) (s.c 2)] 26)).alloc (.cells #[.int .u64 0, .slice none 0 0, .slice none 0 0, .slice none 0 0] 26)) 38 #[.int .i64 0, .int .u64 0]
    rw [World.size_alloc, World.size_alloc] at h
    rw [hW0]; exact h)
  have hsz : W0.heap.size = w.heap.size + 1 + 1 + 1 := by rw [hW0]; simp only [World.size_alloc]
  have hho := Tryd.handOf_any E s W0
  rw [hsz] at hho
  have HHO := Lib.hid hho
  have HI := Lib.hid hI
  have HEE := Lib.hid hE
  have H3 := Lib.hid h3
  have HB0 := Lib.hid hB0
  have hmf : ∀ (fn : Fn) (first cap : Array Value) (w : World), (Instr.makeFunc fn first cap).run Tryd.prog w = .ok (.func fn first cap) w := fun _ _ _ _ => rfl
  have HSZ := Lib.hid hsz
  clear hho hI hE h3 hB0 hT hsz
  go_enter Tryd.func24, Tryd.ntmps24
  go_wp2_with fail
  rw [← hW0]
  clear hW0
  refine HHO.out.mono ?_
  rintro e w1 ⟨rfl, hh1, hB1, hz1⟩
  have r1 := HR0.out.below hB1 (by omega)
  have e1 := HE0.out.below hB1 (by omega)
  have hB2 := HB0.out.trans (hB1.mono (by omega))
  have HTR := Lib.hid (Tryd.try_any (w.heap.size + 1 + 1 + 1 + 1) (w.heap.size + 1 + 1 + 1) E s r 45 #[.pointer (some ⟨w.heap.size + 1 + 1 + 1 + 1, 0, none⟩)] #[] (takN E r) w w1 hh1 HI.out hB2 (by omega) (by omega) HEE.out H3.out (fun _ _ => by kernel_rfl)
    (fun hr W s' hb hk hz hl => Tryd.take_any (w.heap.size + 1 + 1 + 1 + 1) (w.heap.size + 1 + 1 + 1) E r s' W hl (rightL_iff.1 hr).1.1 hz (by omega) (by rw [H3.out]; simp)))
  have HR2 := Lib.hid r1
  have HE2 := Lib.hid e1
  have HB2 := Lib.hid hB2
  clear hh1 hB1 r1 e1 hB2 HHO HI HEE HB0 HR0 HE0 HSZ
  rw [← HT.out] at HTR
  go_wp2_with fail
  refine HTR.out.mono ?_
  rintro e w3 ⟨rfl, ⟨s3, hd⟩, hB3, hK3⟩
  have hr3 := HR2.out.below hB3 (by omega)
  have he3 := HE2.out.below hB3 (by omega)
  have HB4 := Lib.hid (HB2.out.trans (hB3.mono (by omega)))
  obtain ⟨T1, F, u⟩ := T
  dsimp only at hd
  have HD := Lib.hid hd
  have HR4 := Lib.hid hr3
  have HE4 := Lib.hid he3
  clear hd hr3 he3 hB3 hK3
  have hRE := rows_apart HR4.out HE4.out (by decide)
  by_cases h0 : T1 = 0
  · subst h0
    obtain ⟨z, hz⟩ := tryTak HT.out H3.out
    have hoz := HD.out.o 3 (by omega)
    rw [hz] at hoz
    have haz := hoz.at
    unfold Ls.v at haz
    have hnz := (pAt_len haz)
    obtain ⟨b, off, ha, hbw, z0, z1⟩ := pAt_get haz 0 (by simp)
    simp only [List.getElem_cons_zero, Nat.zero_mul, Nat.add_zero] at z0 z1
    have hn1 : s3.n 3 = 1 := hnz.1
    have hblk : w.heap.size + 1 + 1 + 1 ≤ b := (hoz.lt b (by unfold Ls.v; rw [ha]; rfl)).1
    have HZC := Lib.hid (And.intro z0 z1)
    have HZU := Lib.hid hz
    have HV3 : Hid (s3.a 3 = some ⟨b, off, none⟩ ∧ s3.n 3 = 1) := Lib.hid ⟨ha, hn1⟩
    obtain ⟨c, hc⟩ : ∃ c, c = s3.c 3 := ⟨_, rfl⟩
    have HBX : Hid (Rows8 w3 (w.heap.size + 1 + 1 + 1 + 1) 67 #[.int .u64 (F : Nat), .slice (s3.a 0) (s3.n 0) (s3.c 0), .slice (s3.a 1) (s3.n 1) (s3.c 1), .slice (s3.a 2) (s3.n 2) (s3.c 2), .slice (some ⟨b, off, none⟩) 1 c]) := Lib.hid (by have h := HD.out.bx; rw [ha, hn1, ← hc] at h; exact h)
    have HBLK := Lib.hid hblk
    clear hz hoz haz hnz z0 z1 ha hn1 hbw hblk hc
    go_wp2_with fail
    refine wp_region_X (fun W' => Rows8 W' (w.heap.size + 1 + 1 + 1 + 1) 67 #[.int .u64 (F : Nat), .slice (s3.a 0) (s3.n 0) (s3.c 0), .slice (s3.a 1) (s3.n 1) (s3.c 1), .slice (s3.a 2) (s3.n 2) (s3.c 2), .slice (some ⟨b, off, none⟩) 1 c] ∧ (W'.cell? ⟨b, off, none⟩ = some (.int .i64 z.1) ∧ W'.cell? ⟨b, off + 1, none⟩ = some (.int .u64 (z.2 : Nat)))) 14 (by kernel_rfl) ?_
    have hS0 : Rows8 w3.drew (w.heap.size + 1 + 1 + 1 + 1) 67 #[.int .u64 (F : Nat), .slice (s3.a 0) (s3.n 0) (s3.c 0), .slice (s3.a 1) (s3.n 1) (s3.c 1), .slice (s3.a 2) (s3.n 2) (s3.c 2), .slice (some ⟨b, off, none⟩) 1 c] ∧ (w3.drew.cell? ⟨b, off, none⟩ = some (.int .i64 z.1) ∧ w3.drew.cell? ⟨b, off + 1, none⟩ = some (.int .u64 (z.2 : Nat))) := ⟨HBX.out.drewA, HZC.out⟩
    have HD0 := Lib.hid HD.out.drew
    have HR5 := Lib.hid HR4.out.drewA
    have HE5 := Lib.hid HE4.out.drewA
    have HB5 := Lib.hid HB4.out.drew
    clear HBX HZC HD HR4 HE4 HB4
    generalize w3.drew = Wd at *
    refine wpAnyN_take (i := 0) (oi := { dst := some 18, op := Go.Op.move (Go.Operand.tmp 5), type := 62, pos := "limbo.go:55", after := #[], guard := none }) (v := .pointer (some ⟨w.heap.size + 1 + 1 + 1 + 1, 0, none⟩)) rfl (by decide) (by kernel_rfl) (by kernel_rfl) (by kernel_rfl) (fun _ _ _ h => h) (Or.inl ⟨by rfl, ?_⟩) hS0 ?_
    · intro W9 hS9
      obtain ⟨q0, q1⟩ := hS9
      clear q0 q1
      go_simp
    try simp only [Act.put, List.setIfInBounds_toArray, List.set_cons_zero, List.set_cons_succ]
    refine wpAnyN_take (i := 1) (oi := { dst := some 19, op := Go.Op.nilCheck (Go.Operand.tmp 18), type := 0, pos := "limbo.go:55", after := #[{ on := 0, ground := Go.Ground.data }], guard := none }) (v := .pointer (some ⟨w.heap.size + 1 + 1 + 1 + 1, 0, none⟩)) rfl (by decide) (by kernel_rfl) (by kernel_rfl) (by kernel_rfl) (fun _ _ _ h => h) (Or.inl ⟨by rfl, ?_⟩) hS0 ?_
    · intro W9 hS9
      obtain ⟨q0, q1⟩ := hS9
      clear q0 q1
      go_simp
    try simp only [Act.put, List.setIfInBounds_toArray, List.set_cons_zero, List.set_cons_succ]
    refine wpAnyN_take (i := 2) (oi := { dst := some 20, op := Go.Op.fieldAddr 67 (Go.Operand.tmp 19) 0, type := 0, pos := "limbo.go:55", after := #[{ on := 1, ground := Go.Ground.data }], guard := none }) (v := .pointer (some ⟨w.heap.size + 1 + 1 + 1 + 1, 0, none⟩)) rfl (by decide) (by kernel_rfl) (by kernel_rfl) (by kernel_rfl) (fun _ _ _ h => h) (Or.inl ⟨by rfl, ?_⟩) hS0 ?_
    · intro W9 hS9
      obtain ⟨q0, q1⟩ := hS9
      clear q0 q1
      go_simp
    try simp only [Act.put, List.setIfInBounds_toArray, List.set_cons_zero, List.set_cons_succ]
    refine wpAnyN_take (i := 3) (oi := { dst := some 21, op := Go.Op.fieldAddr 57 (Go.Operand.tmp 20) 0, type := 0, pos := "limbo.go:55", after := #[{ on := 2, ground := Go.Ground.data }], guard := none }) (v := .pointer (some ⟨w.heap.size + 1 + 1 + 1 + 1, 0, none⟩)) rfl (by decide) (by kernel_rfl) (by kernel_rfl) (by kernel_rfl) (fun _ _ _ h => h) (Or.inl ⟨by rfl, ?_⟩) hS0 ?_
    · intro W9 hS9
      obtain ⟨q0, q1⟩ := hS9
      clear q0 q1
      go_simp
    try simp only [Act.put, List.setIfInBounds_toArray, List.set_cons_zero, List.set_cons_succ]
    refine wpAnyN_take (i := 4) (oi := { dst := some 22, op := Go.Op.load 26 (Go.Operand.tmp 21), type := 26, pos := "limbo.go:55", after := #[{ on := 3, ground := Go.Ground.data }], guard := none }) (v := .agg #[.int .u64 (F : Nat), .slice (s3.a 0) (s3.n 0) (s3.c 0), .slice (s3.a 1) (s3.n 1) (s3.c 1), .slice (s3.a 2) (s3.n 2) (s3.c 2)]) rfl (by decide) (by kernel_rfl) (by kernel_rfl) (by kernel_rfl) (fun _ _ _ h => h) (Or.inl ⟨by rfl, ?_⟩) hS0 ?_
    · intro W9 hS9
      obtain ⟨q0, q1⟩ := hS9
      have s0 : W9.cell? ⟨w.heap.size + 1 + 1 + 1 + 1, 0, none⟩ = some (.int .u64 (F : Nat)) := q0.cell 0
      have s1 : W9.cell? ⟨w.heap.size + 1 + 1 + 1 + 1, 1, none⟩ = some (.slice (s3.a 0) (s3.n 0) (s3.c 0)) := q0.cell 1
      have s2 : W9.cell? ⟨w.heap.size + 1 + 1 + 1 + 1, 2, none⟩ = some (.slice (s3.a 1) (s3.n 1) (s3.c 1)) := q0.cell 2
      have s3 : W9.cell? ⟨w.heap.size + 1 + 1 + 1 + 1, 3, none⟩ = some (.slice (s3.a 2) (s3.n 2) (s3.c 2)) := q0.cell 3
      clear q0 q1
      go_simp
    try simp only [Act.put, List.setIfInBounds_toArray, List.set_cons_zero, List.set_cons_succ]
    refine wpAnyN_take (i := 5) (oi := { dst := some 23, op := Go.Op.move (Go.Operand.tmp 5), type := 62, pos := "limbo.go:55", after := #[{ on := 11, ground := Go.Ground.gcOnly Go.Departure.lateStores }], guard := none }) (v := .pointer (some ⟨w.heap.size + 1 + 1 + 1 + 1, 0, none⟩)) rfl (by decide) (by kernel_rfl) (by kernel_rfl) (by kernel_rfl) (fun _ _ _ h => h) (Or.inl ⟨by rfl, ?_⟩) hS0 ?_
    · intro W9 hS9
      obtain ⟨q0, q1⟩ := hS9
      clear q0 q1
      go_simp
    try simp only [Act.put, List.setIfInBounds_toArray, List.set_cons_zero, List.set_cons_succ]
    refine wpAnyN_take (i := 6) (oi := { dst := some 24, op := Go.Op.nilCheck (Go.Operand.tmp 23), type := 0, pos := "limbo.go:55", after := #[{ on := 5, ground := Go.Ground.data }, { on := 11, ground := Go.Ground.gcOnly Go.Departure.lateStores }], guard := none }) (v := .pointer (some ⟨w.heap.size + 1 + 1 + 1 + 1, 0, none⟩)) rfl (by decide) (by kernel_rfl) (by kernel_rfl) (by kernel_rfl) (fun _ _ _ h => h) (Or.inl ⟨by rfl, ?_⟩) hS0 ?_
    · intro W9 hS9
      obtain ⟨q0, q1⟩ := hS9
      clear q0 q1
      go_simp
    try simp only [Act.put, List.setIfInBounds_toArray, List.set_cons_zero, List.set_cons_succ]
    refine wpAnyN_take (i := 7) (oi := { dst := some 25, op := Go.Op.fieldAddr 67 (Go.Operand.tmp 24) 1, type := 0, pos := "limbo.go:55", after := #[{ on := 6, ground := Go.Ground.data }, { on := 11, ground := Go.Ground.gcOnly Go.Departure.lateStores }], guard := none }) (v := .pointer (some ⟨w.heap.size + 1 + 1 + 1 + 1, 4, none⟩)) rfl (by decide) (by kernel_rfl) (by kernel_rfl) (by kernel_rfl) (fun _ _ _ h => h) (Or.inl ⟨by rfl, ?_⟩) hS0 ?_
    · intro W9 hS9
      obtain ⟨q0, q1⟩ := hS9
      clear q0 q1
      go_simp
    try simp only [Act.put, List.setIfInBounds_toArray, List.set_cons_zero, List.set_cons_succ]
    refine wpAnyN_take (i := 8) (oi := { dst := some 26, op := Go.Op.load 23 (Go.Operand.tmp 25), type := 23, pos := "limbo.go:55", after := #[{ on := 7, ground := Go.Ground.data }, { on := 11, ground := Go.Ground.gcOnly Go.Departure.lateStores }], guard := none }) (v := .slice (some ⟨b, off, none⟩) 1 c) rfl (by decide) (by kernel_rfl) (by kernel_rfl) (by kernel_rfl) (fun _ _ _ h => h) (Or.inl ⟨by rfl, ?_⟩) hS0 ?_
    · intro W9 hS9
      obtain ⟨q0, q1⟩ := hS9
      have s0 : W9.cell? ⟨w.heap.size + 1 + 1 + 1 + 1, 4, none⟩ = some (.slice (some ⟨b, off, none⟩) 1 c) := q0.cell 4
      clear q0 q1
      go_simp
    try simp only [Act.put, List.setIfInBounds_toArray, List.set_cons_zero, List.set_cons_succ]
    refine wpAnyN_take (i := 9) (oi := { dst := some 27, op := Go.Op.indexAddr 23 (Go.Operand.tmp 26) (Go.Operand.const (Go.Value.int Go.IntKind.i64 0)), type := 0, pos := "limbo.go:55", after := #[{ on := 8, ground := Go.Ground.data }, { on := 11, ground := Go.Ground.gcOnly Go.Departure.lateStores }], guard := none }) (v := .pointer (some ⟨b, off, none⟩)) rfl (by decide) (by kernel_rfl) (by kernel_rfl) (by kernel_rfl) (fun _ _ _ h => h) (Or.inl ⟨by rfl, ?_⟩) hS0 ?_
    · intro W9 hS9
      obtain ⟨q0, q1⟩ := hS9
      clear q0 q1
      go_simp
    try simp only [Act.put, List.setIfInBounds_toArray, List.set_cons_zero, List.set_cons_succ]
    refine wpAnyN_take (i := 10) (oi := { dst := some 28, op := Go.Op.load 38 (Go.Operand.tmp 27), type := 38, pos := "limbo.go:55", after := #[{ on := 9, ground := Go.Ground.data }, { on := 11, ground := Go.Ground.gcOnly Go.Departure.lateStores }], guard := none }) (v := .agg #[.int .i64 z.1, .int .u64 (z.2 : Nat)]) rfl (by decide) (by kernel_rfl) (by kernel_rfl) (by kernel_rfl) (fun _ _ _ h => h) (Or.inl ⟨by rfl, ?_⟩) hS0 ?_
    · intro W9 hS9
      obtain ⟨q0, q1⟩ := hS9
      obtain ⟨s0, s1⟩ := q1
      clear q0
      go_simp
    try simp only [Act.put, List.setIfInBounds_toArray, List.set_cons_zero, List.set_cons_succ]
    refine wpAnyX_one (i := 11) (o := { dst := none, op := Go.Op.store 26 (Go.Operand.tmp 2) (Go.Operand.tmp 22), type := 0, pos := "limbo.go:55", after := #[{ on := 4, ground := Go.Ground.data }, { on := 0, ground := Go.Ground.phase }, { on := 1, ground := Go.Ground.phase }, { on := 2, ground := Go.Ground.phase }, { on := 3, ground := Go.Ground.phase }, { on := 4, ground := Go.Ground.phase }, { on := 5, ground := Go.Ground.textOnly Go.Departure.lateStores }, { on := 6, ground := Go.Ground.textOnly Go.Departure.lateStores }, { on := 7, ground := Go.Ground.textOnly Go.Departure.lateStores }, { on := 8, ground := Go.Ground.textOnly Go.Departure.lateStores }, { on := 9, ground := Go.Ground.textOnly Go.Departure.lateStores }, { on := 10, ground := Go.Ground.textOnly Go.Departure.lateStores }], guard := none }) (by kernel_rfl) rfl (fun K hK => ?_)
    have r0 : Wd.cell? ⟨w.heap.size + 1, 0, none⟩ = some (.int .u64 0) := HR5.out.cell 0
    have fr0 := HR5.out.frozen 0
    have r1 : Wd.cell? ⟨w.heap.size + 1, 1, none⟩ = some (.slice none 0 0) := HR5.out.cell 1
    have fr1 := HR5.out.frozen 1
    have r2 : Wd.cell? ⟨w.heap.size + 1, 2, none⟩ = some (.slice none 0 0) := HR5.out.cell 2
    have fr2 := HR5.out.frozen 2
    have r3 : Wd.cell? ⟨w.heap.size + 1, 3, none⟩ = some (.slice none 0 0) := HR5.out.cell 3
    have fr3 := HR5.out.frozen 3
    have lr := HR5.out.lt
    refine step_skip_g (by rfl) (w' := ((((Wd.setCell ⟨w.heap.size + 1, 0, none⟩ (.int .u64 (F : Nat))).setCell ⟨w.heap.size + 1, 1, none⟩ (.slice (s3.a 0) (s3.n 0) (s3.c 0))).setCell ⟨w.heap.size + 1, 2, none⟩ (.slice (s3.a 1) (s3.n 1) (s3.c 1))).setCell ⟨w.heap.size + 1, 3, none⟩ (.slice (s3.a 2) (s3.n 2) (s3.c 2)))) (by go_simp) ?_
    have hHR := rows_apart hS0.1 HR5.out (by decide)
    have hbR : b ≠ w.heap.size + 1 := by have := HBLK.out; omega
    have k1 : ∀ (X : World) (o : Nat) (v : Value), X.cell? ⟨b, off, none⟩ = some (.int .i64 z.1) → (X.setCell ⟨w.heap.size + 1, o, none⟩ v).cell? ⟨b, off, none⟩ = some (.int .i64 z.1) := fun X o v h => (World.cell?_of_block (w := X) (a := ⟨b, off, none⟩) (Below.heap_setCell X ⟨w.heap.size + 1, o, none⟩ v b hbR)).trans h
    have k2 : ∀ (X : World) (o : Nat) (v : Value), X.cell? ⟨b, off + 1, none⟩ = some (.int .u64 (z.2 : Nat)) → (X.setCell ⟨w.heap.size + 1, o, none⟩ v).cell? ⟨b, off + 1, none⟩ = some (.int .u64 (z.2 : Nat)) := fun X o v h => (World.cell?_of_block (w := X) (a := ⟨b, off + 1, none⟩) (Below.heap_setCell X ⟨w.heap.size + 1, o, none⟩ v b hbR)).trans h
    have hS1 : Rows8 ((((Wd.setCell ⟨w.heap.size + 1, 0, none⟩ (.int .u64 (F : Nat))).setCell ⟨w.heap.size + 1, 1, none⟩ (.slice (s3.a 0) (s3.n 0) (s3.c 0))).setCell ⟨w.heap.size + 1, 2, none⟩ (.slice (s3.a 1) (s3.n 1) (s3.c 1))).setCell ⟨w.heap.size + 1, 3, none⟩ (.slice (s3.a 2) (s3.n 2) (s3.c 2))) (w.heap.size + 1 + 1 + 1 + 1) 67 #[.int .u64 (F : Nat), .slice (s3.a 0) (s3.n 0) (s3.c 0), .slice (s3.a 1) (s3.n 1) (s3.c 1), .slice (s3.a 2) (s3.n 2) (s3.c 2), .slice (some ⟨b, off, none⟩) 1 c] ∧ (((((Wd.setCell ⟨w.heap.size + 1, 0, none⟩ (.int .u64 (F : Nat))).setCell ⟨w.heap.size + 1, 1, none⟩ (.slice (s3.a 0) (s3.n 0) (s3.c 0))).setCell ⟨w.heap.size + 1, 2, none⟩ (.slice (s3.a 1) (s3.n 1) (s3.c 1))).setCell ⟨w.heap.size + 1, 3, none⟩ (.slice (s3.a 2) (s3.n 2) (s3.c 2))).cell? ⟨b, off, none⟩ = some (.int .i64 z.1) ∧ ((((Wd.setCell ⟨w.heap.size + 1, 0, none⟩ (.int .u64 (F : Nat))).setCell ⟨w.heap.size + 1, 1, none⟩ (.slice (s3.a 0) (s3.n 0) (s3.c 0))).setCell ⟨w.heap.size + 1, 2, none⟩ (.slice (s3.a 1) (s3.n 1) (s3.c 1))).setCell ⟨w.heap.size + 1, 3, none⟩ (.slice (s3.a 2) (s3.n 2) (s3.c 2))).cell? ⟨b, off + 1, none⟩ = some (.int .u64 (z.2 : Nat))) := ⟨(((hS0.1.setOther (a := ⟨w.heap.size + 1, 0, none⟩) (fun e => hHR e.symm) _).setOther (a := ⟨w.heap.size + 1, 1, none⟩) (fun e => hHR e.symm) _).setOther (a := ⟨w.heap.size + 1, 2, none⟩) (fun e => hHR e.symm) _).setOther (a := ⟨w.heap.size + 1, 3, none⟩) (fun e => hHR e.symm) _, k1 _ _ _ (k1 _ _ _ (k1 _ _ _ (k1 _ _ _ hS0.2.1))), k2 _ _ _ (k2 _ _ _ (k2 _ _ _ (k2 _ _ _ hS0.2.2)))⟩
    have HR6 := Lib.hid (rows4 HR5.out (.int .u64 (F : Nat)) (.slice (s3.a 0) (s3.n 0) (s3.c 0)) (.slice (s3.a 1) (s3.n 1) (s3.c 1)) (.slice (s3.a 2) (s3.n 2) (s3.c 2)))
    have HE6 := Lib.hid ((((HE5.out.setOther (a := ⟨w.heap.size + 1, 0, none⟩) hRE (.int .u64 (F : Nat))).setOther (a := ⟨w.heap.size + 1, 1, none⟩) hRE (.slice (s3.a 0) (s3.n 0) (s3.c 0))).setOther (a := ⟨w.heap.size + 1, 2, none⟩) hRE (.slice (s3.a 1) (s3.n 1) (s3.c 1))).setOther (a := ⟨w.heap.size + 1, 3, none⟩) hRE (.slice (s3.a 2) (s3.n 2) (s3.c 2)))
    have HL6 := Lib.hid (HD0.out.lo.set4 (B := w.heap.size + 1) (by omega) (.int .u64 (F : Nat)) (.slice (s3.a 0) (s3.n 0) (s3.c 0)) (.slice (s3.a 1) (s3.n 1) (s3.c 1)) (.slice (s3.a 2) (s3.n 2) (s3.c 2)))
    have HB6 := Lib.hid (below4 HB5.out (B := w.heap.size + 1) (by omega) (.int .u64 (F : Nat)) (.slice (s3.a 0) (s3.n 0) (s3.c 0)) (.slice (s3.a 1) (s3.n 1) (s3.c 1)) (.slice (s3.a 2) (s3.n 2) (s3.c 2)))
    clear HR5 HE5 HD0 HB5 k1 k2 hHR hbR r0 r1 r2 r3 fr0 fr1 fr2 fr3 lr
    generalize ((((Wd.setCell ⟨w.heap.size + 1, 0, none⟩ (.int .u64 (F : Nat))).setCell ⟨w.heap.size + 1, 1, none⟩ (.slice (s3.a 0) (s3.n 0) (s3.c 0))).setCell ⟨w.heap.size + 1, 2, none⟩ (.slice (s3.a 1) (s3.n 1) (s3.c 1))).setCell ⟨w.heap.size + 1, 3, none⟩ (.slice (s3.a 2) (s3.n 2) (s3.c 2))) = w6 at *
    refine hK.out _ _ (fun _ => hS1) ?_
    clear hK K
    try simp only [Act.put, List.setIfInBounds_toArray, List.set_cons_zero, List.set_cons_succ]
    refine wpAnyX_one (i := 12) (o := { dst := none, op := Go.Op.store 38 (Go.Operand.tmp 3) (Go.Operand.tmp 28), type := 0, pos := "limbo.go:55", after := #[{ on := 10, ground := Go.Ground.data }, { on := 11, ground := Go.Ground.chain }, { on := 0, ground := Go.Ground.phase }, { on := 1, ground := Go.Ground.phase }, { on := 2, ground := Go.Ground.phase }, { on := 3, ground := Go.Ground.phase }, { on := 4, ground := Go.Ground.phase }, { on := 5, ground := Go.Ground.phase }, { on := 6, ground := Go.Ground.phase }, { on := 7, ground := Go.Ground.phase }, { on := 8, ground := Go.Ground.phase }, { on := 9, ground := Go.Ground.phase }, { on := 10, ground := Go.Ground.phase }, { on := 11, ground := Go.Ground.phase }], guard := none }) (by kernel_rfl) rfl (fun K hK => ?_)
    have y0 : w6.cell? ⟨w.heap.size + 1 + 1, 0, none⟩ = some (.int .i64 0) := HE6.out.cell 0
    have y1 : w6.cell? ⟨w.heap.size + 1 + 1, 1, none⟩ = some (.int .u64 0) := HE6.out.cell 1
    have fy0 := HE6.out.frozen 0
    have fy1 := HE6.out.frozen 1
    have ly := HE6.out.lt
    refine step_skip_g (by rfl) (w' := (w6.setCell ⟨w.heap.size + 1 + 1, 0, none⟩ (.int .i64 z.1)).setCell ⟨w.heap.size + 1 + 1, 1, none⟩ (.int .u64 (z.2 : Nat))) (by go_simp) ?_
    have hHE := rows_apart hS1.1 HE6.out (by decide)
    have hbE : b ≠ w.heap.size + 1 + 1 := by have := HBLK.out; omega
    have k1 : ∀ (X : World) (o : Nat) (v : Value), X.cell? ⟨b, off, none⟩ = some (.int .i64 z.1) → (X.setCell ⟨w.heap.size + 1 + 1, o, none⟩ v).cell? ⟨b, off, none⟩ = some (.int .i64 z.1) := fun X o v h => (World.cell?_of_block (w := X) (a := ⟨b, off, none⟩) (Below.heap_setCell X ⟨w.heap.size + 1 + 1, o, none⟩ v b hbE)).trans h
    have k2 : ∀ (X : World) (o : Nat) (v : Value), X.cell? ⟨b, off + 1, none⟩ = some (.int .u64 (z.2 : Nat)) → (X.setCell ⟨w.heap.size + 1 + 1, o, none⟩ v).cell? ⟨b, off + 1, none⟩ = some (.int .u64 (z.2 : Nat)) := fun X o v h => (World.cell?_of_block (w := X) (a := ⟨b, off + 1, none⟩) (Below.heap_setCell X ⟨w.heap.size + 1 + 1, o, none⟩ v b hbE)).trans h
    have hS2 : Rows8 ((w6.setCell ⟨w.heap.size + 1 + 1, 0, none⟩ (.int .i64 z.1)).setCell ⟨w.heap.size + 1 + 1, 1, none⟩ (.int .u64 (z.2 : Nat))) (w.heap.size + 1 + 1 + 1 + 1) 67 #[.int .u64 (F : Nat), .slice (s3.a 0) (s3.n 0) (s3.c 0), .slice (s3.a 1) (s3.n 1) (s3.c 1), .slice (s3.a 2) (s3.n 2) (s3.c 2), .slice (some ⟨b, off, none⟩) 1 c] ∧ (((w6.setCell ⟨w.heap.size + 1 + 1, 0, none⟩ (.int .i64 z.1)).setCell ⟨w.heap.size + 1 + 1, 1, none⟩ (.int .u64 (z.2 : Nat))).cell? ⟨b, off, none⟩ = some (.int .i64 z.1) ∧ ((w6.setCell ⟨w.heap.size + 1 + 1, 0, none⟩ (.int .i64 z.1)).setCell ⟨w.heap.size + 1 + 1, 1, none⟩ (.int .u64 (z.2 : Nat))).cell? ⟨b, off + 1, none⟩ = some (.int .u64 (z.2 : Nat))) := ⟨(hS1.1.setOther (a := ⟨w.heap.size + 1 + 1, 0, none⟩) (fun e => hHE e.symm) _).setOther (a := ⟨w.heap.size + 1 + 1, 1, none⟩) (fun e => hHE e.symm) _, k1 _ _ _ (k1 _ _ _ hS1.2.1), k2 _ _ _ (k2 _ _ _ hS1.2.2)⟩
    have HR7 := Lib.hid ((HR6.out.setOther (a := ⟨w.heap.size + 1 + 1, 0, none⟩) (fun e => hRE e.symm) (.int .i64 z.1)).setOther (a := ⟨w.heap.size + 1 + 1, 1, none⟩) (fun e => hRE e.symm) (.int .u64 (z.2 : Nat)))
    have HE7 := Lib.hid (HE6.out.set2 (.int .i64 z.1) (.int .u64 (z.2 : Nat)))
    have HL7 := Lib.hid ((HL6.out.setLow (B := w.heap.size + 1 + 1) (by omega) 0 (.int .i64 z.1)).setLow (B := w.heap.size + 1 + 1) (by omega) 1 (.int .u64 (z.2 : Nat)))
    have HB7 := Lib.hid ((HB6.out.setCell (p := ⟨w.heap.size + 1 + 1, 0, none⟩) (by show w.heap.size ≤ w.heap.size + 1 + 1; omega) (.int .i64 z.1)).setCell (p := ⟨w.heap.size + 1 + 1, 1, none⟩) (by show w.heap.size ≤ w.heap.size + 1 + 1; omega) (.int .u64 (z.2 : Nat)))
    clear HR6 HE6 HL6 HB6 k1 k2 hHE hbE y0 y1 fy0 fy1 ly
    refine hK.out _ _ (fun _ => hS2) ?_
    clear hK K
    try simp only [Act.put, List.setIfInBounds_toArray, List.set_cons_zero, List.set_cons_succ]
    refine wpAnyN_take (i := 13) (oi := { dst := some 4, op := Go.Op.assign (Go.Operand.const (Go.Value.int Go.IntKind.i64 0)), type := 31, pos := "limbo.go:55", after := #[{ on := 12, ground := Go.Ground.chain }, { on := 0, ground := Go.Ground.phase }, { on := 1, ground := Go.Ground.phase }, { on := 2, ground := Go.Ground.phase }, { on := 3, ground := Go.Ground.phase }, { on := 4, ground := Go.Ground.phase }, { on := 5, ground := Go.Ground.phase }, { on := 6, ground := Go.Ground.phase }, { on := 7, ground := Go.Ground.phase }, { on := 8, ground := Go.Ground.phase }, { on := 9, ground := Go.Ground.phase }, { on := 10, ground := Go.Ground.phase }, { on := 11, ground := Go.Ground.phase }, { on := 12, ground := Go.Ground.phase }], guard := none }) (v := .int .i64 0) rfl (by decide) (by kernel_rfl) (by kernel_rfl) (by kernel_rfl) (fun _ _ _ h => h) (Or.inl ⟨by rfl, ?_⟩) hS2 ?_
    · intro W9 hS9
      obtain ⟨q0, q1⟩ := hS9
      clear q0 q1
      go_simp
    try simp only [Act.put, List.setIfInBounds_toArray, List.set_cons_zero, List.set_cons_succ]
    refine wpAnyX_end (by kernel_rfl) ?_
    clear hS0 hS1 hS2
    go_wp2_with fail
    refine bodyPost_ret (results_cct rfl _ _ (w.heap.size + 1) (w.heap.size + 1 + 1) _ _ _ rfl rfl rfl (load_row HR7.out Tryd.underlying26 rfl (by kernel_rfl)) (load_row HE7.out Tryd.underlying38 rfl (by kernel_rfl))) rfl ?_
    refine ⟨⟨s3, ?_, HL7.out.mono (by omega)⟩, HB7.out⟩
    dsimp only
    rw [HZU.out]
    rfl
  · obtain ⟨rfl, rfl⟩ := tryErr HT.out h0
    have d0 : (T1 != 0) = true := by simp [h0]
    have hne0 : T1 ≠ 0 := h0
    have r0 : w3.cell? ⟨w.heap.size + 1, 0, none⟩ = some (.int .u64 0) := HR4.out.cell 0
    have fr0 := HR4.out.frozen 0
    have r1 : w3.cell? ⟨w.heap.size + 1, 1, none⟩ = some (.slice none 0 0) := HR4.out.cell 1
    have fr1 := HR4.out.frozen 1
    have r2 : w3.cell? ⟨w.heap.size + 1, 2, none⟩ = some (.slice none 0 0) := HR4.out.cell 2
    have fr2 := HR4.out.frozen 2
    have r3 : w3.cell? ⟨w.heap.size + 1, 3, none⟩ = some (.slice none 0 0) := HR4.out.cell 3
    have fr3 := HR4.out.frozen 3
    have lr := HR4.out.lt
    have y0 : w3.cell? ⟨w.heap.size + 1 + 1, 0, none⟩ = some (.int .i64 0) := HE4.out.cell 0
    have y1 : w3.cell? ⟨w.heap.size + 1 + 1, 1, none⟩ = some (.int .u64 0) := HE4.out.cell 1
    have fy0 := HE4.out.frozen 0
    have fy1 := HE4.out.frozen 1
    have ly := HE4.out.lt
    have h1 := rows4 HR4.out (.int .u64 0) (.slice none 0 0) (.slice none 0 0) (.slice none 0 0)
    have h2 := (((HE4.out.setOther (a := ⟨w.heap.size + 1, 0, none⟩) hRE (.int .u64 0)).setOther (a := ⟨w.heap.size + 1, 1, none⟩) hRE (.slice none 0 0)).setOther (a := ⟨w.heap.size + 1, 2, none⟩) hRE (.slice none 0 0)).setOther (a := ⟨w.heap.size + 1, 3, none⟩) hRE (.slice none 0 0)
    have HR7 := Lib.hid ((h1.setOther (a := ⟨w.heap.size + 1 + 1, 0, none⟩) (fun e => hRE e.symm) (.int .i64 0)).setOther (a := ⟨w.heap.size + 1 + 1, 1, none⟩) (fun e => hRE e.symm) (.int .u64 0))
    have HE7 := Lib.hid (h2.set2 (.int .i64 0) (.int .u64 0))
    have HB7 := Lib.hid (((below4 HB4.out (B := w.heap.size + 1) (by omega) (.int .u64 0) (.slice none 0 0) (.slice none 0 0) (.slice none 0 0)).setCell (p := ⟨w.heap.size + 1 + 1, 0, none⟩) (by show w.heap.size ≤ w.heap.size + 1 + 1; omega) (.int .i64 0)).setCell (p := ⟨w.heap.size + 1 + 1, 1, none⟩) (by show w.heap.size ≤ w.heap.size + 1 + 1; omega) (.int .u64 0))
    clear h1 h2 h0
    go_wp2_with fail
    refine bodyPost_ret (results_cct rfl _ _ (w.heap.size + 1) (w.heap.size + 1 + 1) _ _ _ rfl rfl rfl (load_row HR7.out Tryd.underlying26 rfl (by kernel_rfl)) (load_row HE7.out Tryd.underlying38 rfl (by kernel_rfl))) rfl ?_
    exact ⟨⟨zLs, rfl, fun k _ => ownE_nil _ _, fun i j _ _ _ => .inl rfl⟩, HB7.out⟩
set_option maxHeartbeats 8000000 in
theorem Tryd.Run_any (E : Nat) (s : Ls) (r : Rw3) (a : Option Addr) (n c : Nat) (l : List Pr) (w : World) (hI : LAt w s r) (hE : E < 18446744073709551616) (h3 : r 3 = []) (hL : PAt w (.slice a n c) l) (hn : n ≤ 100000) :
    Calls Tryd.prog 29 #[.agg #[.int .u64 (E : Nat), .slice (s.a 0) (s.n 0) (s.c 0), .slice (s.a 1) (s.n 1) (s.c 1), .slice (s.a 2) (s.n 2) (s.c 2)], .slice a n c] w fun e w' => RunQ w.heap.size (tryL E r (runL E r l)) e w' ∧ Below w.heap.size w w' := by
  obtain ⟨T, hT⟩ : ∃ T, T = tryL E r (runL E r l) := ⟨_, rfl⟩
  rw [← hT]
  have HT := Lib.hid hT
  obtain ⟨W0, hW0⟩ : ∃ W, W = ((w.alloc (.cells #[.int .u64 (E : Nat), .slice (s.a 0) (s.n 0) (s.c 0), .slice (s.a 1) (s.n 1) (s.c 1), .slice (s.a 2) (s.n 2) (s.c 2)] 26)).alloc (.cells #[.slice a n c] 23)).alloc (.cells #[.int .u64 0, .slice none 0 0, .slice none 0 0, .slice none 0 0] 26) := ⟨_, rfl⟩
  have hB0 : Below w.heap.size w W0 := by rw [hW0]; exact ((Rows8.newB).alloc (by simp) _).alloc (by simp <;> omega) _
  have HS0 : Hid (Rows8 W0 (w.heap.size + 1) 23 #[.slice a n c]) := Lib.hid (by rw [hW0]; exact (rows_new2 _ _ _ _).alloc _)
  have HR0 : Hid (Rows8 W0 (w.heap.size + 1 + 1) 26 #[.int .u64 0, .slice none 0 0, .slice none 0 0, .slice none 0 0]) := Lib.hid (by
    have h := Rows8.new ((w.alloc (.cells #[.int .u64 (E : Nat), .slice (s.a 0) (s.n 0) (s.c 0), .slice (s.a 1) (s.n 1) (s.c 1), .slice (s.a 2) (s.n 2) (s.c 2)] 26)).alloc (.cells #[.slice a n c] 23)) 26 #[.int .u64 0, .slice none 0 0, .slice none 0 0, .slice none 0 0]
    rw [World.size_alloc, World.size_alloc] at h
    rw [hW0]; exact h)
  have HLA := Lib.hid hL
  clear hL
  have hsz : W0.heap.size = w.heap.size + 1 + 1 + 1 := by rw [hW0]; simp only [World.size_alloc]
  have hho := Tryd.handOf_any E s W0
  rw [hsz] at hho
  have HHO := Lib.hid hho
  have HI := Lib.hid hI
  have HEE := Lib.hid hE
  have H3 := Lib.hid h3
  have HB0 := Lib.hid hB0
  have hmf : ∀ (fn : Fn) (first cap : Array Value) (w : World), (Instr.makeFunc fn first cap).run Tryd.prog w = .ok (.func fn first cap) w := fun _ _ _ _ => rfl
  have HSZ := Lib.hid hsz
  clear hho hI hE h3 hB0 hT hsz
  go_enter Tryd.func29, Tryd.ntmps29
  go_wp2_with fail
  rw [← hW0]
  clear hW0
  refine HHO.out.mono ?_
  rintro e w1 ⟨rfl, hh1, hB1, hz1⟩
  have r1 := HR0.out.below hB1 (by omega)
  have b1 := HS0.out.below hB1 (by omega)
  have hal : Below w1.heap.size w1 (w1.alloc (.cells #[.pointer (some ⟨w.heap.size + 1 + 1 + 1 + 1, 0, none⟩)] 62)) := Rows8.newB
  have hp2 := Rows8.new w1 62 #[.pointer (some ⟨w.heap.size + 1 + 1 + 1 + 1, 0, none⟩)]
  rw [hz1] at hp2
  have hh2 := hh1.below hal hh1.lt
  have b2 := b1.below hal b1.lt
  have r2 := r1.below hal r1.lt
  have hB2 := (HB0.out.trans (hB1.mono (by omega))).trans (hal.mono (by omega))
  obtain ⟨w2, hw2⟩ : ∃ W, W = w1.alloc (.cells #[.pointer (some ⟨w.heap.size + 1 + 1 + 1 + 1, 0, none⟩)] 62) := ⟨_, rfl⟩
  rw [← hw2] at hp2 hh2 b2 r2 hB2
  have hz2 : w2.heap.size = w.heap.size + 1 + 1 + 1 + 1 + 1 + 1 := by rw [hw2]; simp [hz1]
  have HTR := Lib.hid (Tryd.try_any (w.heap.size + 1 + 1 + 1 + 1) (w.heap.size + 1 + 1 + 1) E s r 47 #[] #[.pointer (some ⟨w.heap.size + 1 + 1 + 1 + 1 + 1, 0, none⟩), .pointer (some ⟨w.heap.size + 1, 0, none⟩)] (runL E r l) w w2 hh2 HI.out hB2 (by omega) (by omega) HEE.out H3.out (fun _ _ => by kernel_rfl)
    (fun hr W s' hb hk hz hl => Tryd.Run1_any (w.heap.size + 1 + 1 + 1 + 1 + 1) (w.heap.size + 1) (w.heap.size + 1 + 1 + 1 + 1) (w.heap.size + 1 + 1 + 1) E r a n c l s' w W (hk.rows hp2 (by decide)) (b2.below hb (by omega)) hl (rightL_iff.1 hr).1.1 hz (by omega) (tot_right hr H3.out) HLA.out hn (hB2.trans (hb.mono (by omega))) (by omega)))
  have c6 : w2.cell? ⟨w.heap.size + 1 + 1 + 1 + 1 + 1, 0, none⟩ = some (.pointer (some ⟨w.heap.size + 1 + 1 + 1 + 1, 0, none⟩)) := hp2.cell 0
  have l6 := hp2.lt
  have HP2 := Lib.hid hp2
  have HR2 := Lib.hid r2
  have HB2 := Lib.hid hB2
  clear hh1 hB1 b1 r1 hal hp2 hh2 b2 r2 hB2 HHO HI HEE H3 HB0 HS0 HR0 HSZ HLA
  rw [← HT.out] at HTR
  subst hw2
  go_wp2_with fail
  refine HTR.out.mono ?_
  rintro e w3 ⟨rfl, ⟨s3, hd⟩, hB3, hK3⟩
  have hp3 := hK3.rows HP2.out (by decide)
  have hr3 := HR2.out.below hB3 (by omega)
  have HB4 := Lib.hid (HB2.out.trans (hB3.mono (by omega)))
  obtain ⟨T1, F, u⟩ := T
  dsimp only at hd
  have HD := Lib.hid hd
  have HR4 := Lib.hid hr3
  have HP4 := Lib.hid hp3
  clear hd hr3 hp3 hB3 hK3 c6 l6 HP2 HR2 HTR
  go_wp2_with fail
  refine wp_region_X (fun W' => Rows8 W' (w.heap.size + 1 + 1 + 1 + 1 + 1) 62 #[.pointer (some ⟨w.heap.size + 1 + 1 + 1 + 1, 0, none⟩)] ∧ Rows8 W' (w.heap.size + 1 + 1 + 1 + 1) 67 #[.int .u64 (F : Nat), .slice (s3.a 0) (s3.n 0) (s3.c 0), .slice (s3.a 1) (s3.n 1) (s3.c 1), .slice (s3.a 2) (s3.n 2) (s3.c 2), .slice (s3.a 3) (s3.n 3) (s3.c 3)]) 13 (by kernel_rfl) ?_
  have hS0 : Rows8 w3.drew (w.heap.size + 1 + 1 + 1 + 1 + 1) 62 #[.pointer (some ⟨w.heap.size + 1 + 1 + 1 + 1, 0, none⟩)] ∧ Rows8 w3.drew (w.heap.size + 1 + 1 + 1 + 1) 67 #[.int .u64 (F : Nat), .slice (s3.a 0) (s3.n 0) (s3.c 0), .slice (s3.a 1) (s3.n 1) (s3.c 1), .slice (s3.a 2) (s3.n 2) (s3.c 2), .slice (s3.a 3) (s3.n 3) (s3.c 3)] := ⟨HP4.out.drewA, HD.out.bx.drewA⟩
  have HD0 := Lib.hid HD.out.drew
  have HR5 := Lib.hid HR4.out.drewA
  have HB5 := Lib.hid HB4.out.drew
  clear HP4 HD HR4 HB4
  generalize w3.drew = Wd at *
  refine wpAnyN_take (i := 0) (oi := { dst := some 14, op := Go.Op.load 62 (Go.Operand.tmp 7), type := 62, pos := "limbo.go:80", after := #[], guard := none }) (v := .pointer (some ⟨w.heap.size + 1 + 1 + 1 + 1, 0, none⟩)) rfl (by decide) (by kernel_rfl) (by kernel_rfl) (by kernel_rfl) (fun _ _ _ h => h) (Or.inl ⟨by rfl, ?_⟩) hS0 ?_
  · intro W9 hS9
    obtain ⟨q0, q1⟩ := hS9
    have s0 : W9.cell? ⟨w.heap.size + 1 + 1 + 1 + 1 + 1, 0, none⟩ = some (.pointer (some ⟨w.heap.size + 1 + 1 + 1 + 1, 0, none⟩)) := q0.cell 0
    clear q0 q1
    go_simp
  try simp only [Act.put, List.setIfInBounds_toArray, List.set_cons_zero, List.set_cons_succ]
  refine wpAnyN_take (i := 1) (oi := { dst := some 15, op := Go.Op.nilCheck (Go.Operand.tmp 14), type := 0, pos := "limbo.go:80", after := #[{ on := 0, ground := Go.Ground.data }], guard := none }) (v := .pointer (some ⟨w.heap.size + 1 + 1 + 1 + 1, 0, none⟩)) rfl (by decide) (by kernel_rfl) (by kernel_rfl) (by kernel_rfl) (fun _ _ _ h => h) (Or.inl ⟨by rfl, ?_⟩) hS0 ?_
  · intro W9 hS9
    obtain ⟨q0, q1⟩ := hS9
    clear q0 q1
    go_simp
  try simp only [Act.put, List.setIfInBounds_toArray, List.set_cons_zero, List.set_cons_succ]
  refine wpAnyN_take (i := 2) (oi := { dst := some 16, op := Go.Op.fieldAddr 67 (Go.Operand.tmp 15) 0, type := 0, pos := "limbo.go:80", after := #[{ on := 1, ground := Go.Ground.data }], guard := none }) (v := .pointer (some ⟨w.heap.size + 1 + 1 + 1 + 1, 0, none⟩)) rfl (by decide) (by kernel_rfl) (by kernel_rfl) (by kernel_rfl) (fun _ _ _ h => h) (Or.inl ⟨by rfl, ?_⟩) hS0 ?_
  · intro W9 hS9
    obtain ⟨q0, q1⟩ := hS9
    clear q0 q1
    go_simp
  try simp only [Act.put, List.setIfInBounds_toArray, List.set_cons_zero, List.set_cons_succ]
  refine wpAnyN_take (i := 3) (oi := { dst := some 17, op := Go.Op.fieldAddr 57 (Go.Operand.tmp 16) 0, type := 0, pos := "limbo.go:80", after := #[{ on := 2, ground := Go.Ground.data }], guard := none }) (v := .pointer (some ⟨w.heap.size + 1 + 1 + 1 + 1, 0, none⟩)) rfl (by decide) (by kernel_rfl) (by kernel_rfl) (by kernel_rfl) (fun _ _ _ h => h) (Or.inl ⟨by rfl, ?_⟩) hS0 ?_
  · intro W9 hS9
    obtain ⟨q0, q1⟩ := hS9
    clear q0 q1
    go_simp
  try simp only [Act.put, List.setIfInBounds_toArray, List.set_cons_zero, List.set_cons_succ]
  refine wpAnyN_take (i := 4) (oi := { dst := some 18, op := Go.Op.load 26 (Go.Operand.tmp 17), type := 26, pos := "limbo.go:80", after := #[{ on := 3, ground := Go.Ground.data }], guard := none }) (v := .agg #[.int .u64 (F : Nat), .slice (s3.a 0) (s3.n 0) (s3.c 0), .slice (s3.a 1) (s3.n 1) (s3.c 1), .slice (s3.a 2) (s3.n 2) (s3.c 2)]) rfl (by decide) (by kernel_rfl) (by kernel_rfl) (by kernel_rfl) (fun _ _ _ h => h) (Or.inl ⟨by rfl, ?_⟩) hS0 ?_
  · intro W9 hS9
    obtain ⟨q0, q1⟩ := hS9
    have s0 : W9.cell? ⟨w.heap.size + 1 + 1 + 1 + 1, 0, none⟩ = some (.int .u64 (F : Nat)) := q1.cell 0
    have s1 : W9.cell? ⟨w.heap.size + 1 + 1 + 1 + 1, 1, none⟩ = some (.slice (s3.a 0) (s3.n 0) (s3.c 0)) := q1.cell 1
    have s2 : W9.cell? ⟨w.heap.size + 1 + 1 + 1 + 1, 2, none⟩ = some (.slice (s3.a 1) (s3.n 1) (s3.c 1)) := q1.cell 2
    have s3 : W9.cell? ⟨w.heap.size + 1 + 1 + 1 + 1, 3, none⟩ = some (.slice (s3.a 2) (s3.n 2) (s3.c 2)) := q1.cell 3
    clear q0 q1
    go_simp
  try simp only [Act.put, List.setIfInBounds_toArray, List.set_cons_zero, List.set_cons_succ]
  refine wpAnyN_take (i := 5) (oi := { dst := some 19, op := Go.Op.load 62 (Go.Operand.tmp 7), type := 62, pos := "limbo.go:80", after := #[{ on := 10, ground := Go.Ground.gcOnly Go.Departure.lateStores }], guard := none }) (v := .pointer (some ⟨w.heap.size + 1 + 1 + 1 + 1, 0, none⟩)) rfl (by decide) (by kernel_rfl) (by kernel_rfl) (by kernel_rfl) (fun _ _ _ h => h) (Or.inl ⟨by rfl, ?_⟩) hS0 ?_
  · intro W9 hS9
    obtain ⟨q0, q1⟩ := hS9
    have s0 : W9.cell? ⟨w.heap.size + 1 + 1 + 1 + 1 + 1, 0, none⟩ = some (.pointer (some ⟨w.heap.size + 1 + 1 + 1 + 1, 0, none⟩)) := q0.cell 0
    clear q0 q1
    go_simp
  try simp only [Act.put, List.setIfInBounds_toArray, List.set_cons_zero, List.set_cons_succ]
  refine wpAnyN_take (i := 6) (oi := { dst := some 20, op := Go.Op.nilCheck (Go.Operand.tmp 19), type := 0, pos := "limbo.go:80", after := #[{ on := 5, ground := Go.Ground.data }, { on := 10, ground := Go.Ground.gcOnly Go.Departure.lateStores }], guard := none }) (v := .pointer (some ⟨w.heap.size + 1 + 1 + 1 + 1, 0, none⟩)) rfl (by decide) (by kernel_rfl) (by kernel_rfl) (by kernel_rfl) (fun _ _ _ h => h) (Or.inl ⟨by rfl, ?_⟩) hS0 ?_
  · intro W9 hS9
    obtain ⟨q0, q1⟩ := hS9
    clear q0 q1
    go_simp
  try simp only [Act.put, List.setIfInBounds_toArray, List.set_cons_zero, List.set_cons_succ]
  refine wpAnyN_take (i := 7) (oi := { dst := some 21, op := Go.Op.fieldAddr 67 (Go.Operand.tmp 20) 1, type := 0, pos := "limbo.go:80", after := #[{ on := 6, ground := Go.Ground.data }, { on := 10, ground := Go.Ground.gcOnly Go.Departure.lateStores }], guard := none }) (v := .pointer (some ⟨w.heap.size + 1 + 1 + 1 + 1, 4, none⟩)) rfl (by decide) (by kernel_rfl) (by kernel_rfl) (by kernel_rfl) (fun _ _ _ h => h) (Or.inl ⟨by rfl, ?_⟩) hS0 ?_
  · intro W9 hS9
    obtain ⟨q0, q1⟩ := hS9
    clear q0 q1
    go_simp
  try simp only [Act.put, List.setIfInBounds_toArray, List.set_cons_zero, List.set_cons_succ]
  refine wpAnyN_take (i := 8) (oi := { dst := some 22, op := Go.Op.load 23 (Go.Operand.tmp 21), type := 23, pos := "limbo.go:80", after := #[{ on := 7, ground := Go.Ground.data }, { on := 10, ground := Go.Ground.gcOnly Go.Departure.lateStores }], guard := none }) (v := .slice (s3.a 3) (s3.n 3) (s3.c 3)) rfl (by decide) (by kernel_rfl) (by kernel_rfl) (by kernel_rfl) (fun _ _ _ h => h) (Or.inl ⟨by rfl, ?_⟩) hS0 ?_
  · intro W9 hS9
    obtain ⟨q0, q1⟩ := hS9
    have s0 : W9.cell? ⟨w.heap.size + 1 + 1 + 1 + 1, 4, none⟩ = some (.slice (s3.a 3) (s3.n 3) (s3.c 3)) := q1.cell 4
    clear q0 q1
    go_simp
  try simp only [Act.put, List.setIfInBounds_toArray, List.set_cons_zero, List.set_cons_succ]
  refine wpAnyN_take (i := 9) (oi := { dst := some 23, op := Go.Op.move (Go.Operand.tmp 8), type := 31, pos := "limbo.go:80", after := #[{ on := 11, ground := Go.Ground.gcOnly Go.Departure.lateStores }], guard := none }) (v := .int .i64 T1) rfl (by decide) (by kernel_rfl) (by kernel_rfl) (by kernel_rfl) (fun _ _ _ h => h) (Or.inl ⟨by rfl, ?_⟩) hS0 ?_
  · intro W9 hS9
    obtain ⟨q0, q1⟩ := hS9
    clear q0 q1
    go_simp
  try simp only [Act.put, List.setIfInBounds_toArray, List.set_cons_zero, List.set_cons_succ]
  refine wpAnyX_one (i := 10) (o := { dst := none, op := Go.Op.store 26 (Go.Operand.tmp 4) (Go.Operand.tmp 18), type := 0, pos := "limbo.go:80", after := #[{ on := 4, ground := Go.Ground.data }, { on := 0, ground := Go.Ground.phase }, { on := 1, ground := Go.Ground.phase }, { on := 2, ground := Go.Ground.phase }, { on := 3, ground := Go.Ground.phase }, { on := 4, ground := Go.Ground.phase }, { on := 5, ground := Go.Ground.textOnly Go.Departure.lateStores }, { on := 6, ground := Go.Ground.textOnly Go.Departure.lateStores }, { on := 7, ground := Go.Ground.textOnly Go.Departure.lateStores }, { on := 8, ground := Go.Ground.textOnly Go.Departure.lateStores }, { on := 9, ground := Go.Ground.textOnly Go.Departure.lateStores }], guard := none }) (by kernel_rfl) rfl (fun K hK => ?_)
  have r0 : Wd.cell? ⟨w.heap.size + 1 + 1, 0, none⟩ = some (.int .u64 0) := HR5.out.cell 0
  have fr0 := HR5.out.frozen 0
  have r1 : Wd.cell? ⟨w.heap.size + 1 + 1, 1, none⟩ = some (.slice none 0 0) := HR5.out.cell 1
  have fr1 := HR5.out.frozen 1
  have r2 : Wd.cell? ⟨w.heap.size + 1 + 1, 2, none⟩ = some (.slice none 0 0) := HR5.out.cell 2
  have fr2 := HR5.out.frozen 2
  have r3 : Wd.cell? ⟨w.heap.size + 1 + 1, 3, none⟩ = some (.slice none 0 0) := HR5.out.cell 3
  have fr3 := HR5.out.frozen 3
  have lr := HR5.out.lt
  refine step_skip_g (by rfl) (w' := ((((Wd.setCell ⟨w.heap.size + 1 + 1, 0, none⟩ (.int .u64 (F : Nat))).setCell ⟨w.heap.size + 1 + 1, 1, none⟩ (.slice (s3.a 0) (s3.n 0) (s3.c 0))).setCell ⟨w.heap.size + 1 + 1, 2, none⟩ (.slice (s3.a 1) (s3.n 1) (s3.c 1))).setCell ⟨w.heap.size + 1 + 1, 3, none⟩ (.slice (s3.a 2) (s3.n 2) (s3.c 2)))) (by go_simp) ?_
  have hHR := rows_apart hS0.2 HR5.out (by decide)
  have hPR := rows_apart hS0.1 HR5.out (by decide)
  have hS1 : Rows8 ((((Wd.setCell ⟨w.heap.size + 1 + 1, 0, none⟩ (.int .u64 (F : Nat))).setCell ⟨w.heap.size + 1 + 1, 1, none⟩ (.slice (s3.a 0) (s3.n 0) (s3.c 0))).setCell ⟨w.heap.size + 1 + 1, 2, none⟩ (.slice (s3.a 1) (s3.n 1) (s3.c 1))).setCell ⟨w.heap.size + 1 + 1, 3, none⟩ (.slice (s3.a 2) (s3.n 2) (s3.c 2))) (w.heap.size + 1 + 1 + 1 + 1 + 1) 62 #[.pointer (some ⟨w.heap.size + 1 + 1 + 1 + 1, 0, none⟩)] ∧ Rows8 ((((Wd.setCell ⟨w.heap.size + 1 + 1, 0, none⟩ (.int .u64 (F : Nat))).setCell ⟨w.heap.size + 1 + 1, 1, none⟩ (.slice (s3.a 0) (s3.n 0) (s3.c 0))).setCell ⟨w.heap.size + 1 + 1, 2, none⟩ (.slice (s3.a 1) (s3.n 1) (s3.c 1))).setCell ⟨w.heap.size + 1 + 1, 3, none⟩ (.slice (s3.a 2) (s3.n 2) (s3.c 2))) (w.heap.size + 1 + 1 + 1 + 1) 67 #[.int .u64 (F : Nat), .slice (s3.a 0) (s3.n 0) (s3.c 0), .slice (s3.a 1) (s3.n 1) (s3.c 1), .slice (s3.a 2) (s3.n 2) (s3.c 2), .slice (s3.a 3) (s3.n 3) (s3.c 3)] := ⟨(((hS0.1.setOther (a := ⟨w.heap.size + 1 + 1, 0, none⟩) (fun e => hPR e.symm) _).setOther (a := ⟨w.heap.size + 1 + 1, 1, none⟩) (fun e => hPR e.symm) _).setOther (a := ⟨w.heap.size + 1 + 1, 2, none⟩) (fun e => hPR e.symm) _).setOther (a := ⟨w.heap.size + 1 + 1, 3, none⟩) (fun e => hPR e.symm) _, (((hS0.2.setOther (a := ⟨w.heap.size + 1 + 1, 0, none⟩) (fun e => hHR e.symm) _).setOther (a := ⟨w.heap.size + 1 + 1, 1, none⟩) (fun e => hHR e.symm) _).setOther (a := ⟨w.heap.size + 1 + 1, 2, none⟩) (fun e => hHR e.symm) _).setOther (a := ⟨w.heap.size + 1 + 1, 3, none⟩) (fun e => hHR e.symm) _⟩
  have HR6 := Lib.hid (rows4 HR5.out (.int .u64 (F : Nat)) (.slice (s3.a 0) (s3.n 0) (s3.c 0)) (.slice (s3.a 1) (s3.n 1) (s3.c 1)) (.slice (s3.a 2) (s3.n 2) (s3.c 2)))
  have HL6 := Lib.hid (HD0.out.lo.set4 (B := w.heap.size + 1 + 1) (by omega) (.int .u64 (F : Nat)) (.slice (s3.a 0) (s3.n 0) (s3.c 0)) (.slice (s3.a 1) (s3.n 1) (s3.c 1)) (.slice (s3.a 2) (s3.n 2) (s3.c 2)))
  have HT6 := Lib.hid (((((HD0.out.o 3 (by omega)).setLow (B := w.heap.size + 1 + 1) (by omega) 0 (.int .u64 (F : Nat))).setLow (B := w.heap.size + 1 + 1) (by omega) 1 (.slice (s3.a 0) (s3.n 0) (s3.c 0))).setLow (B := w.heap.size + 1 + 1) (by omega) 2 (.slice (s3.a 1) (s3.n 1) (s3.c 1))).setLow (B := w.heap.size + 1 + 1) (by omega) 3 (.slice (s3.a 2) (s3.n 2) (s3.c 2)))
  have HB6 := Lib.hid (below4 HB5.out (B := w.heap.size + 1 + 1) (by omega) (.int .u64 (F : Nat)) (.slice (s3.a 0) (s3.n 0) (s3.c 0)) (.slice (s3.a 1) (s3.n 1) (s3.c 1)) (.slice (s3.a 2) (s3.n 2) (s3.c 2)))
  clear HR5 HD0 HB5 hHR hPR r0 r1 r2 r3 fr0 fr1 fr2 fr3 lr
  generalize ((((Wd.setCell ⟨w.heap.size + 1 + 1, 0, none⟩ (.int .u64 (F : Nat))).setCell ⟨w.heap.size + 1 + 1, 1, none⟩ (.slice (s3.a 0) (s3.n 0) (s3.c 0))).setCell ⟨w.heap.size + 1 + 1, 2, none⟩ (.slice (s3.a 1) (s3.n 1) (s3.c 1))).setCell ⟨w.heap.size + 1 + 1, 3, none⟩ (.slice (s3.a 2) (s3.n 2) (s3.c 2))) = w6 at *
  refine hK.out _ _ (fun _ => hS1) ?_
  clear hK K
  try simp only [Act.put, List.setIfInBounds_toArray, List.set_cons_zero, List.set_cons_succ]
  refine wpAnyN_take (i := 11) (oi := { dst := some 5, op := Go.Op.assign (Go.Operand.tmp 22), type := 23, pos := "limbo.go:80", after := #[{ on := 8, ground := Go.Ground.data }, { on := 10, ground := Go.Ground.chain }, { on := 0, ground := Go.Ground.phase }, { on := 1, ground := Go.Ground.phase }, { on := 2, ground := Go.Ground.phase }, { on := 3, ground := Go.Ground.phase }, { on := 4, ground := Go.Ground.phase }, { on := 5, ground := Go.Ground.phase }, { on := 6, ground := Go.Ground.phase }, { on := 7, ground := Go.Ground.phase }, { on := 8, ground := Go.Ground.phase }, { on := 9, ground := Go.Ground.textOnly Go.Departure.lateStores }, { on := 10, ground := Go.Ground.phase }], guard := none }) (v := .slice (s3.a 3) (s3.n 3) (s3.c 3)) rfl (by decide) (by kernel_rfl) (by kernel_rfl) (by kernel_rfl) (fun _ _ _ h => h) (Or.inl ⟨by rfl, ?_⟩) hS1 ?_
  · intro W9 hS9
    obtain ⟨q0, q1⟩ := hS9
    clear q0 q1
    go_simp
  try simp only [Act.put, List.setIfInBounds_toArray, List.set_cons_zero, List.set_cons_succ]
  refine wpAnyN_take (i := 12) (oi := { dst := some 6, op := Go.Op.assign (Go.Operand.tmp 23), type := 31, pos := "limbo.go:80", after := #[{ on := 9, ground := Go.Ground.data }, { on := 11, ground := Go.Ground.chain }, { on := 0, ground := Go.Ground.phase }, { on := 1, ground := Go.Ground.phase }, { on := 2, ground := Go.Ground.phase }, { on := 3, ground := Go.Ground.phase }, { on := 4, ground := Go.Ground.phase }, { on := 5, ground := Go.Ground.phase }, { on := 6, ground := Go.Ground.phase }, { on := 7, ground := Go.Ground.phase }, { on := 8, ground := Go.Ground.phase }, { on := 9, ground := Go.Ground.phase }, { on := 10, ground := Go.Ground.phase }, { on := 11, ground := Go.Ground.phase }], guard := none }) (v := .int .i64 T1) rfl (by decide) (by kernel_rfl) (by kernel_rfl) (by kernel_rfl) (fun _ _ _ h => h) (Or.inl ⟨by rfl, ?_⟩) hS1 ?_
  · intro W9 hS9
    obtain ⟨q0, q1⟩ := hS9
    clear q0 q1
    go_simp
  try simp only [Act.put, List.setIfInBounds_toArray, List.set_cons_zero, List.set_cons_succ]
  refine wpAnyX_end (by kernel_rfl) ?_
  clear hS0 hS1
  go_wp2_with fail
  refine bodyPost_ret (results_ctt rfl _ _ (w.heap.size + 1 + 1) _ _ _ rfl rfl rfl (load_row HR6.out Tryd.underlying26 rfl (by kernel_rfl))) rfl ?_
  exact ⟨⟨s3, s3.v 3, rfl, HL6.out.mono (by omega), HT6.out.mono (by omega)⟩, HB6.out⟩
end Go.Proofs
