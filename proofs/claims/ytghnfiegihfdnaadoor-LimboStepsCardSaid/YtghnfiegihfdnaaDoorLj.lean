/- Limbo: a hand; what is retired. -/
import Derived.Test.YtghnfiegihfdnaaDoorLi
namespace Go.Proofs
set_option maxRecDepth 100000
open Go.RowKit Go.Shelf
attribute [local go_sem] Oper.semAt_some

/-- Slice k is another one. -/
def Ls.upd (s : Ls) (k : Nat) (a : Option Addr) (n c : Nat) : Ls := ⟨fun j => if j = k then a else s.a j, fun j => if j = k then n else s.n j, fun j => if j = k then c else s.c j⟩
def Ls.v (s : Ls) (k : Nat) : Value := .slice (s.a k) (s.n k) (s.c k)
theorem Ls.upd_self (s : Ls) (k : Nat) (a : Option Addr) (n c : Nat) : (s.upd k a n c).v k = .slice a n c := by simp [Ls.upd, Ls.v]
theorem Ls.upd_ne (s : Ls) {k j : Nat} (a : Option Addr) (n c : Nat) (h : j ≠ k) : (s.upd k a n c).v j = s.v j := by simp [Ls.upd, Ls.v, h]
theorem four {k : Nat} (h : k < 4) : k = 0 ∨ k = 1 ∨ k = 2 ∨ k = 3 := by omega
theorem setHan (e : Value) (s : Ls) (k : Nat) (hk : k < 4) (a : Option Addr) (n c : Nat) : (#[e, .slice (s.a 0) (s.n 0) (s.c 0), .slice (s.a 1) (s.n 1) (s.c 1), .slice (s.a 2) (s.n 2) (s.c 2), .slice (s.a 3) (s.n 3) (s.c 3)] : Array Value).setIfInBounds (1 + k) (.slice a n c) = #[e, .slice ((s.upd k a n c).a 0) ((s.upd k a n c).n 0) ((s.upd k a n c).c 0), .slice ((s.upd k a n c).a 1) ((s.upd k a n c).n 1) ((s.upd k a n c).c 1), .slice ((s.upd k a n c).a 2) ((s.upd k a n c).n 2) ((s.upd k a n c).c 2), .slice ((s.upd k a n c).a 3) ((s.upd k a n c).n 3) ((s.upd k a n c).c 3)] := by
  rcases four hk with rfl | rfl | rfl | rfl <;> rfl
theorem cellH {W : World} {B : Nat} {t : TypeId} {e : Value} {s : Ls} (h : Rows8 W B t #[e, .slice (s.a 0) (s.n 0) (s.c 0), .slice (s.a 1) (s.n 1) (s.c 1), .slice (s.a 2) (s.n 2) (s.c 2), .slice (s.a 3) (s.n 3) (s.c 3)]) (k : Nat) (hk : k < 4) : W.cell? ⟨B, 1 + k, none⟩ = some (.slice (s.a k) (s.n k) (s.c k)) := by
  rcases four hk with rfl | rfl | rfl | rfl <;> exact h.cell _
/-- A hand: a limbo of its own in a box, and what was taken. -/
structure Hl (H n₀ : Nat) (E : Nat) (r : Rw3) (s : Ls) (W : World) : Prop where
  bx : Rows8 W H 67 #[.int .u64 (E : Nat), .slice (s.a 0) (s.n 0) (s.c 0), .slice (s.a 1) (s.n 1) (s.c 1), .slice (s.a 2) (s.n 2) (s.c 2), .slice (s.a 3) (s.n 3) (s.c 3)]
  o : ∀ k, k < 4 → OwnE n₀ (r k) (s.v k) W
  ap : ∀ i j, i < 4 → j < 4 → i ≠ j → (s.v i).ownBlock = none ∨ (s.v i).ownBlock ≠ (s.v j).ownBlock
theorem Hl.below {H n₀ E : Nat} {r : Rw3} {s : Ls} {A B : World} (h : Hl H n₀ E r s A) (hB : Below A.heap.size A B) : Hl H n₀ E r s B := ⟨h.bx.below hB h.bx.lt, fun k hk => (h.o k hk).keep hB (Nat.le_refl _), h.ap⟩
theorem Hl.drew {H n₀ E : Nat} {r : Rw3} {s : Ls} {A : World} (h : Hl H n₀ E r s A) : Hl H n₀ E r s A.drew := ⟨h.bx, fun k hk => (h.o k hk).drew, h.ap⟩
theorem Hl.at {H n₀ E : Nat} {r : Rw3} {s : Ls} {A : World} (h : Hl H n₀ E r s A) : LAt A s r := fun k hk => (h.o k (by omega)).at
theorem Hl.len {H n₀ E : Nat} {r : Rw3} {s : Ls} {A : World} (h : Hl H n₀ E r s A) (k : Nat) (hk : k < 4) : s.n k = (r k).length := by
  obtain ⟨a, c, e, _⟩ := (h.o k hk).form
  unfold Ls.v at e
  injection e
theorem Hl.put {H n₀ E : Nat} {r : Rw3} {s : Ls} {W : World} (bx : Rows8 W H 67 #[.int .u64 (E : Nat), .slice (s.a 0) (s.n 0) (s.c 0), .slice (s.a 1) (s.n 1) (s.c 1), .slice (s.a 2) (s.n 2) (s.c 2), .slice (s.a 3) (s.n 3) (s.c 3)]) (k : Nat) (hk : k < 4) (o : ∀ j, j < 4 → j ≠ k → OwnE n₀ (r j) (s.v j) W)
    (ap : ∀ i j, i < 4 → j < 4 → i ≠ j → (s.v i).ownBlock = none ∨ (s.v i).ownBlock ≠ (s.v j).ownBlock) (l : List Pr) (a : Option Addr) (n c : Nat) (ho : OwnE n₀ l (.slice a n c) W)
    (hap : ∀ j, j < 4 → j ≠ k → (Value.slice a n c).ownBlock = none ∨ (Value.slice a n c).ownBlock ≠ (s.v j).ownBlock) : Hl H n₀ E (updL r k l) (s.upd k a n c) (W.setCell ⟨H, 1 + k, none⟩ (.slice a n c)) := by
  refine ⟨?_, fun j hj => ?_, fun i j hi hj hne => ?_⟩
  · rw [← setHan _ _ k hk]
    exact bx.set _ _
  · by_cases e : j = k
    · subst e
      rw [Ls.upd_self, updL_self]
      exact ho.setCell bx (by decide) _ _
    · rw [Ls.upd_ne _ _ _ _ e, updL_ne _ _ e]
      exact (o j hj e).setCell bx (by decide) _ _
  · by_cases e : i = k
    · subst e
      rw [Ls.upd_self, Ls.upd_ne _ _ _ _ (fun e => hne e.symm)]
      exact hap j hj (fun e => hne e.symm)
    · rw [Ls.upd_ne _ _ _ _ e]
      by_cases e2 : j = k
      · subst e2
        rw [Ls.upd_self]
        rcases hap i hi e with h | h
        · cases hv : (s.v i).ownBlock with
          | none => exact .inl rfl
          | some g => exact .inr (by rw [h]; simp)
        · exact .inr (fun h2 => h h2.symm)
      · rw [Ls.upd_ne _ _ _ _ e2]
        exact ap i j hi hj hne
theorem Hl.setE {H n₀ E : Nat} {r : Rw3} {s : Ls} {W : World} (h : Hl H n₀ E r s W) (F : Nat) : Hl H n₀ F r s (W.setCell ⟨H, 0, none⟩ (.int .u64 (F : Nat))) := by
  refine ⟨?_, fun k hk => (h.o k hk).setCell h.bx (by decide) _ _, h.ap⟩
  have h2 := h.bx.set 0 (.int .u64 (F : Nat))
  simp only [List.setIfInBounds_toArray, List.set_cons_zero] at h2
  exact h2
/-- One was appended to row k, and is not stored yet. -/
theorem Hl.appended {H n₀ E : Nat} {r : Rw3} {s : Ls} {W W1 : World} (h : Hl H n₀ E r s W) (k : Nat) (hk : k < 4) (hg : W.grownBy W1 (s.v k).ownBlock) : Rows8 W1 H 67 #[.int .u64 (E : Nat), .slice (s.a 0) (s.n 0) (s.c 0), .slice (s.a 1) (s.n 1) (s.c 1), .slice (s.a 2) (s.n 2) (s.c 2), .slice (s.a 3) (s.n 3) (s.c 3)] ∧ (∀ j, j < 4 → j ≠ k → OwnE n₀ (r j) (s.v j) W1) :=
  ⟨(hg.block H h.bx.lt (fun e => (h.o k hk).ne h.bx (by decide) e.symm)).trans h.bx, fun j hj hne => (h.o j hj).grown hg (h.ap j k hj hk hne)⟩
theorem Hl.apNew {H n₀ E : Nat} {r : Rw3} {s : Ls} {W : World} (h : Hl H n₀ E r s W) (k : Nat) (hk : k < 4) (v : Value) (hv : v.ownBlock = (s.v k).ownBlock ∨ ∀ j, v.ownBlock = some j → W.heap.size ≤ j) (j : Nat) (hj : j < 4) (hne : j ≠ k) : v.ownBlock = none ∨ v.ownBlock ≠ (s.v j).ownBlock := by
  rcases hv with hv | hv
  · rw [hv]
    exact h.ap k j hk hj (fun e => hne e.symm)
  · cases e : v.ownBlock with
    | none => exact .inl rfl
    | some g =>
      refine .inr fun e2 => ?_
      have h1 := hv g e
      have h2 := ((h.o j hj).lt g e2.symm).2
      omega
def tL : TypeId → Bool := fun t => t == 38 || t == 67
/-- What is done to a hand. -/
def HdQ (H n₀ : Nat) (w : World) (R : Rl) (e : Ending) (w' : World) : Prop :=
  ((R.1 = 0 ∧ e = .returned (.tuple #[])) ∨ (R.1 ≠ 0 ∧ e = .panicked (panicA R.1))) ∧ (∃ s, Hl H n₀ R.2.1 R.2.2 s w') ∧ Below n₀ w w' ∧ Kf tL w w'
theorem HdQ.behind {H n₀ : Nat} {w w1 w' : World} {R : Rl} {e : Ending} (hB : Below n₀ w w1) (hK : Kf tL w w1) (h : HdQ H n₀ w1 R e w') : HdQ H n₀ w R e w' := ⟨h.1, h.2.1, hB.trans h.2.2.1, hK.trans h.2.2.2⟩
theorem exec_slice3 {P : Program} {ev : Operand → Value} {o : Oper} {w : World} (t : TypeId) (x lo hi mx : Operand) (ho : o.op = .slice t x (some lo) (some hi) (some mx)) (v : Value) (h : (Instr.sliceAt t (ev x) (some (ev lo)) (some (ev hi)) (some (ev mx))).run P w = .ok v w) : (execOp ev o).run P w = .ok (.value v) w := by
  unfold execOp
  simp only [ho, Option.map_some, Sem.run_bind, h, Result.andThen_ok, Sem.run_pure]
theorem exec_append {P : Program} {ev : Operand → Value} {o : Oper} {w w' : World} (s x : Operand) (t : TypeId) (ho : o.op = .call { callee := .builtin .append, args := #[s, x], argTypes := #[t, t] }) (v src v' : Value) (hs : ev s = v) (hx : ev x = src)
    (hrun : (Builtin.append_ #[t, t] o.type #[v, src]).run P w = .ok v' w') : (execOp ev o).run P w = .ok (.value v') w' := by
  unfold execOp
  simp [ho, resolve, invoke, builtin, hs, hx, hrun, Result.andThen]
set_option maxHeartbeats 1000000 in
theorem Tryd.handOf_any (E : Nat) (s : Ls) (w : World) : Calls Tryd.prog 40 #[.agg #[.int .u64 (E : Nat), .slice (s.a 0) (s.n 0) (s.c 0), .slice (s.a 1) (s.n 1) (s.c 1), .slice (s.a 2) (s.n 2) (s.c 2)]] w fun e w' => e = .returned (.pointer (some ⟨w.heap.size + 1, 0, none⟩)) ∧ Rows8 w' (w.heap.size + 1) 67 #[.int .u64 (E : Nat), .slice (s.a 0) (s.n 0) (s.c 0), .slice (s.a 1) (s.n 1) (s.c 1), .slice (s.a 2) (s.n 2) (s.c 2), .slice none 0 0] ∧ Below w.heap.size w w' ∧ w'.heap.size = w.heap.size + 1 + 1 := by
  have r1 := rows_new2 w (.cells #[.int .u64 (E : Nat), .slice (s.a 0) (s.n 0) (s.c 0), .slice (s.a 1) (s.n 1) (s.c 1), .slice (s.a 2) (s.n 2) (s.c 2)] 26) 67 #[.int .u64 (E : Nat), .slice (s.a 0) (s.n 0) (s.c 0), .slice (s.a 1) (s.n 1) (s.c 1), .slice (s.a 2) (s.n 2) (s.c 2), .slice none 0 0]
  have hB : Below w.heap.size w ((w.alloc (.cells #[.int .u64 (E : Nat), .slice (s.a 0) (s.n 0) (s.c 0), .slice (s.a 1) (s.n 1) (s.c 1), .slice (s.a 2) (s.n 2) (s.c 2)] 26)).alloc (.cells #[.int .u64 (E : Nat), .slice (s.a 0) (s.n 0) (s.c 0), .slice (s.a 1) (s.n 1) (s.c 1), .slice (s.a 2) (s.n 2) (s.c 2), .slice none 0 0] 67)) := (Rows8.newB).alloc (by simp) _
  have hz : ((w.alloc (.cells #[.int .u64 (E : Nat), .slice (s.a 0) (s.n 0) (s.c 0), .slice (s.a 1) (s.n 1) (s.c 1), .slice (s.a 2) (s.n 2) (s.c 2)] 26)).alloc (.cells #[.int .u64 (E : Nat), .slice (s.a 0) (s.n 0) (s.c 0), .slice (s.a 1) (s.n 1) (s.c 1), .slice (s.a 2) (s.n 2) (s.c 2), .slice none 0 0] 67)).heap.size = w.heap.size + 1 + 1 := by simp
  have HR := Lib.hid r1
  have HB := Lib.hid hB
  have HZ := Lib.hid hz
  clear r1 hB hz
  go_enter Tryd.func40, Tryd.ntmps40
  go_wp2_with fail
  go_ret
  exact ⟨rfl, HR.out, HB.out, HZ.out⟩
set_option maxHeartbeats 8000000 in
theorem Tryd.retire_any (H n₀ E : Nat) (r : Rw3) (p : Pr) (s : Ls) (w : World) (h : Hl H n₀ E r s w) (hE : E ≤ 4611686018427387904) (hn0 : n₀ ≤ w.heap.size) (hH : n₀ ≤ H) (hl : ∀ k, k < 3 → (r k).length ≤ 900000) :
    Calls Tryd.prog 43 #[.pointer (some ⟨H, 0, none⟩), .agg #[.int .i64 p.1, .int .u64 (p.2 : Nat)]] w (HdQ H n₀ w (retN E r p)) := by
  obtain ⟨R, hR⟩ : ∃ R, R = retN E r p := ⟨_, rfl⟩
  rw [← hR]
  unfold retN at hR
  have HR := Lib.hid hR
  clear hR
  obtain ⟨W, hW⟩ : ∃ W, W = w.alloc (.cells #[.int .i64 p.1, .int .u64 (p.2 : Nat)] 38) := ⟨_, rfl⟩
  have hal : Below w.heap.size w W := by rw [hW]; exact Rows8.newB
  have rw0 : Rows8 W w.heap.size 38 #[.int .i64 p.1, .int .u64 (p.2 : Nat)] := by rw [hW]; exact Rows8.new _ _ _
  have hHne : H ≠ w.heap.size := Nat.ne_of_lt h.bx.lt
  have hsz : W.heap.size = w.heap.size + 1 := by rw [hW]; simp
  have HIE := fun W => Lib.hid (Tryd.isEntry_any p W)
  have HX := Lib.hid (h.below hal)
  have HAL := Lib.hid (hal.mono hn0)
  have HKF := Lib.hid (Kf.of_below (T := tL) hal)
  have HR0 := Lib.hid rw0
  have c0 : W.cell? ⟨w.heap.size, 0, none⟩ = some (.int .i64 p.1) := rw0.cell 0
  have c1 : W.cell? ⟨w.heap.size, 1, none⟩ = some (.int .u64 (p.2 : Nat)) := rw0.cell 1
  have HSZ := Lib.hid hsz
  obtain ⟨q, hq⟩ : ∃ q, q = okE p := ⟨_, rfl⟩
  rw [← hq] at HIE HR
  have HLL := Lib.hid hl
  have HEE := Lib.hid hE
  have HN0 := Lib.hid hn0
  have hbk0 : ∀ k, k < 4 → (s.v k).ownBlock ≠ some w.heap.size := fun k hk e => by have := ((h.o k hk).lt _ e).2; omega
  clear h hal rw0 hq hl hE hsz
  go_enter Tryd.func43, Tryd.ntmps43
  go_wp2_with fail
  rw [← hW]
  clear hW
  refine (HIE _).out.mono ?_
  rintro e w1 ⟨rfl, hC⟩
  have HX1 := Lib.hid (HX.out.below hC)
  have HB1 := Lib.hid (HAL.out.trans (hC.mono (Nat.le_trans hn0 HAL.out.size)))
  have HK1 := Lib.hid (HKF.out.trans (Kf.of_below (T := tL) hC))
  have HO1 := Lib.hid (HR0.out.below hC HR0.out.lt)
  have HS1 := Lib.hid (show w.heap.size < w1.heap.size by have := hC.size; have := HSZ.out; omega)
  clear hC HX HAL HKF HR0 HIE c0 c1 HSZ
  cases q with
  | false =>
    have HRR := Lib.hid (HR.out.trans (if_pos rfl))
    clear HR
    go_wp2_with fail
    refine ⟨rfl, ?_⟩
    rw [HRR.out]
    exact ⟨.inr ⟨by simp, rfl⟩, ⟨_, HX1.out⟩, HB1.out, HK1.out⟩
  | true =>
    have HR1 := Lib.hid (HR.out.trans (if_neg (by decide)))
    clear HR
    go_wp2_with fail
    have HWH := fun W (h : LAt W s r) => Lib.hid (Tryd.whenV_any E s r p.1 W h HEE.out)
    obtain ⟨o, ho⟩ : ∃ o, o = whenL E r p.1 := ⟨_, rfl⟩
    rw [← ho] at HWH HR1
    obtain ⟨y, hy⟩ : ∃ y, y = optV o := ⟨_, rfl⟩
    rw [← hy] at HWH
    have hy2 : y.2 = o.isSome := by rw [hy]; cases o <;> rfl
    obtain ⟨y1, y2⟩ := y
    dsimp only at hy2 HWH
    subst hy2
    clear hy ho
    refine wp_region_X (fun W' => Rows8 W' H 67 #[.int .u64 (E : Nat), .slice (s.a 0) (s.n 0) (s.c 0), .slice (s.a 1) (s.n 1) (s.c 1), .slice (s.a 2) (s.n 2) (s.c 2), .slice (s.a 3) (s.n 3) (s.c 3)] ∧ Rows8 W' w.heap.size 38 #[.int .i64 p.1, .int .u64 (p.2 : Nat)]) 12 (by kernel_rfl) ?_
    have hS0 : Rows8 w1.drew H 67 #[.int .u64 (E : Nat), .slice (s.a 0) (s.n 0) (s.c 0), .slice (s.a 1) (s.n 1) (s.c 1), .slice (s.a 2) (s.n 2) (s.c 2), .slice (s.a 3) (s.n 3) (s.c 3)] ∧ Rows8 w1.drew w.heap.size 38 #[.int .i64 p.1, .int .u64 (p.2 : Nat)] := ⟨HX1.out.bx.drewA, HO1.out.drewA⟩
    have HX0 := Lib.hid HX1.out.drew
    have HB0 := Lib.hid HB1.out.drew
    have HK0 := Lib.hid HK1.out.drew
    have HS0 := Lib.hid (show w.heap.size < w1.drew.heap.size from HS1.out)
    clear HX1 HB1 HK1 HO1 HS1
    generalize w1.drew = Wd at *
    refine wpAnyN_take (i := 0) (oi := { dst := some 12, op := Go.Op.move (Go.Operand.tmp 0), type := 62, pos := "hand.go:39", after := #[], guard := none }) (v := .pointer (some ⟨H, 0, none⟩)) rfl (by decide) (by kernel_rfl) (by kernel_rfl) (by kernel_rfl) (fun _ _ _ h => h) (Or.inl ⟨by rfl, ?_⟩) hS0 ?_
    · intro W9 hS9
      obtain ⟨q0, q1⟩ := hS9
      clear q0 q1
      go_simp
    try simp only [Act.put, List.setIfInBounds_toArray, List.set_cons_zero, List.set_cons_succ]
    refine wpAnyN_take (i := 1) (oi := { dst := some 13, op := Go.Op.nilCheck (Go.Operand.tmp 12), type := 0, pos := "hand.go:39", after := #[{ on := 0, ground := Go.Ground.data }], guard := none }) (v := .pointer (some ⟨H, 0, none⟩)) rfl (by decide) (by kernel_rfl) (by kernel_rfl) (by kernel_rfl) (fun _ _ _ h => h) (Or.inl ⟨by rfl, ?_⟩) hS0 ?_
    · intro W9 hS9
      obtain ⟨q0, q1⟩ := hS9
      clear q0 q1
      go_simp
    try simp only [Act.put, List.setIfInBounds_toArray, List.set_cons_zero, List.set_cons_succ]
    refine wpAnyN_take (i := 2) (oi := { dst := some 14, op := Go.Op.fieldAddr 67 (Go.Operand.tmp 13) 0, type := 0, pos := "hand.go:39", after := #[{ on := 1, ground := Go.Ground.data }], guard := none }) (v := .pointer (some ⟨H, 0, none⟩)) rfl (by decide) (by kernel_rfl) (by kernel_rfl) (by kernel_rfl) (fun _ _ _ h => h) (Or.inl ⟨by rfl, ?_⟩) hS0 ?_
    · intro W9 hS9
      obtain ⟨q0, q1⟩ := hS9
      clear q0 q1
      go_simp
    try simp only [Act.put, List.setIfInBounds_toArray, List.set_cons_zero, List.set_cons_succ]
    refine wpAnyN_take (i := 3) (oi := { dst := some 15, op := Go.Op.load 57 (Go.Operand.tmp 14), type := 57, pos := "hand.go:39", after := #[{ on := 2, ground := Go.Ground.data }], guard := none }) (v := .agg #[.int .u64 (E : Nat), .slice (s.a 0) (s.n 0) (s.c 0), .slice (s.a 1) (s.n 1) (s.c 1), .slice (s.a 2) (s.n 2) (s.c 2)]) rfl (by decide) (by kernel_rfl) (by kernel_rfl) (by kernel_rfl) (fun _ _ _ h => h) (Or.inl ⟨by rfl, ?_⟩) hS0 ?_
    · intro W9 hS9
      obtain ⟨q0, q1⟩ := hS9
      have s0 : W9.cell? ⟨H, 0, none⟩ = some (.int .u64 (E : Nat)) := q0.cell 0
      have s1 : W9.cell? ⟨H, 1, none⟩ = some (.slice (s.a 0) (s.n 0) (s.c 0)) := q0.cell 1
      have s2 : W9.cell? ⟨H, 2, none⟩ = some (.slice (s.a 1) (s.n 1) (s.c 1)) := q0.cell 2
      have s3 : W9.cell? ⟨H, 3, none⟩ = some (.slice (s.a 2) (s.n 2) (s.c 2)) := q0.cell 3
      clear q0 q1
      go_simp
    try simp only [Act.put, List.setIfInBounds_toArray, List.set_cons_zero, List.set_cons_succ]
    refine wpAnyN_take (i := 4) (oi := { dst := some 16, op := Go.Op.fieldAddr 38 (Go.Operand.tmp 3) 0, type := 0, pos := "hand.go:39", after := #[], guard := none }) (v := .pointer (some ⟨w.heap.size, 0, none⟩)) rfl (by decide) (by kernel_rfl) (by kernel_rfl) (by kernel_rfl) (fun _ _ _ h => h) (Or.inl ⟨by rfl, ?_⟩) hS0 ?_
    · intro W9 hS9
      obtain ⟨q0, q1⟩ := hS9
      clear q0 q1
      go_simp
    try simp only [Act.put, List.setIfInBounds_toArray, List.set_cons_zero, List.set_cons_succ]
    refine wpAnyN_take (i := 5) (oi := { dst := some 17, op := Go.Op.load 3 (Go.Operand.tmp 16), type := 3, pos := "hand.go:39", after := #[{ on := 4, ground := Go.Ground.data }], guard := none }) (v := .int .i64 p.1) rfl (by decide) (by kernel_rfl) (by kernel_rfl) (by kernel_rfl) (fun _ _ _ h => h) (Or.inl ⟨by rfl, ?_⟩) hS0 ?_
    · intro W9 hS9
      obtain ⟨q0, q1⟩ := hS9
      have s0 : W9.cell? ⟨w.heap.size, 0, none⟩ = some (.int .i64 p.1) := q1.cell 0
      clear q0 q1
      go_simp
    try simp only [Act.put, List.setIfInBounds_toArray, List.set_cons_zero, List.set_cons_succ]
    refine wpAnyX_one (i := 6) (o := { dst := some 18, op := Go.Op.call { callee := Go.Callee.value (Go.Operand.func 39), args := #[Go.Operand.tmp 15, Go.Operand.tmp 17], argTypes := #[57, 3] }, type := 39, pos := "hand.go:39", after := #[{ on := 3, ground := Go.Ground.data }, { on := 5, ground := Go.Ground.data }], guard := none }) (by kernel_rfl) rfl (fun K hK => ?_)
    refine step_call_g (by rfl) 39 _ _ rfl (fun _ _ => by kernel_rfl) #[.agg #[.int .u64 (E : Nat), .slice (s.a 0) (s.n 0) (s.c 0), .slice (s.a 1) (s.n 1) (s.c 1), .slice (s.a 2) (s.n 2) (s.c 2)], .int .i64 p.1] (by simp [go_sem]) _ (HWH Wd HX0.out.at).out ?_
    rintro e w2 ⟨rfl, hC⟩
    refine ⟨_, rfl, ?_⟩
    have hS1 : Rows8 w2 H 67 #[.int .u64 (E : Nat), .slice (s.a 0) (s.n 0) (s.c 0), .slice (s.a 1) (s.n 1) (s.c 1), .slice (s.a 2) (s.n 2) (s.c 2), .slice (s.a 3) (s.n 3) (s.c 3)] ∧ Rows8 w2 w.heap.size 38 #[.int .i64 p.1, .int .u64 (p.2 : Nat)] := ⟨hS0.1.below hC hS0.1.lt, hS0.2.below hC hS0.2.lt⟩
    have HX2 := Lib.hid (HX0.out.below hC)
    have HB2 := Lib.hid (HB0.out.trans (hC.mono (Nat.le_trans HN0.out HB0.out.size)))
    have HK2 := Lib.hid (HK0.out.trans (Kf.of_below (T := tL) hC))
    have HS2 := Lib.hid (Nat.lt_of_lt_of_le HS0.out hC.size)
    clear hC HX0 HB0 HK0 HS0 HWH
    refine hK.out _ _ (fun _ => hS1) ?_
    clear hK K
    try simp only [Act.put, List.setIfInBounds_toArray, List.set_cons_zero, List.set_cons_succ]
    refine wpAnyN_take (i := 7) (oi := { dst := some 11, op := Go.Op.move (Go.Operand.tmp 18), type := 39, pos := "hand.go:39", after := #[{ on := 6, ground := Go.Ground.data }], guard := none }) (v := .tuple #[.int .u64 y1, .bool o.isSome]) rfl (by decide) (by kernel_rfl) (by kernel_rfl) (by kernel_rfl) (fun _ _ _ h => h) (Or.inl ⟨by rfl, ?_⟩) hS1 ?_
    · intro W9 hS9
      obtain ⟨q0, q1⟩ := hS9
      clear q0 q1
      go_simp
    try simp only [Act.put, List.setIfInBounds_toArray, List.set_cons_zero, List.set_cons_succ]
    refine wpAnyN_take (i := 8) (oi := { dst := some 19, op := Go.Op.extract (Go.Operand.tmp 11) 0, type := 22, pos := "hand.go:39", after := #[{ on := 7, ground := Go.Ground.data }], guard := none }) (v := .int .u64 y1) rfl (by decide) (by kernel_rfl) (by kernel_rfl) (by kernel_rfl) (fun _ _ _ h => h) (Or.inl ⟨by rfl, ?_⟩) hS1 ?_
    · intro W9 hS9
      obtain ⟨q0, q1⟩ := hS9
      clear q0 q1
      go_simp
    try simp only [Act.put, List.setIfInBounds_toArray, List.set_cons_zero, List.set_cons_succ]
    refine wpAnyN_take (i := 9) (oi := { dst := some 20, op := Go.Op.extract (Go.Operand.tmp 11) 1, type := 4, pos := "hand.go:39", after := #[{ on := 7, ground := Go.Ground.data }, { on := 10, ground := Go.Ground.gcOnly Go.Departure.lateStores }], guard := none }) (v := .bool o.isSome) rfl (by decide) (by kernel_rfl) (by kernel_rfl) (by kernel_rfl) (fun _ _ _ h => h) (Or.inl ⟨by rfl, ?_⟩) hS1 ?_
    · intro W9 hS9
      obtain ⟨q0, q1⟩ := hS9
      clear q0 q1
      go_simp
    try simp only [Act.put, List.setIfInBounds_toArray, List.set_cons_zero, List.set_cons_succ]
    refine wpAnyN_take (i := 10) (oi := { dst := some 4, op := Go.Op.assign (Go.Operand.tmp 19), type := 22, pos := "hand.go:39", after := #[{ on := 8, ground := Go.Ground.data }, { on := 6, ground := Go.Ground.chain }, { on := 0, ground := Go.Ground.phase }, { on := 1, ground := Go.Ground.phase }, { on := 2, ground := Go.Ground.phase }, { on := 3, ground := Go.Ground.phase }, { on := 4, ground := Go.Ground.phase }, { on := 5, ground := Go.Ground.phase }, { on := 6, ground := Go.Ground.phase }, { on := 7, ground := Go.Ground.phase }, { on := 8, ground := Go.Ground.phase }, { on := 9, ground := Go.Ground.textOnly Go.Departure.lateStores }], guard := none }) (v := .int .u64 y1) rfl (by decide) (by kernel_rfl) (by kernel_rfl) (by kernel_rfl) (fun _ _ _ h => h) (Or.inl ⟨by rfl, ?_⟩) hS1 ?_
    · intro W9 hS9
      obtain ⟨q0, q1⟩ := hS9
      clear q0 q1
      go_simp
    try simp only [Act.put, List.setIfInBounds_toArray, List.set_cons_zero, List.set_cons_succ]
    refine wpAnyN_take (i := 11) (oi := { dst := some 5, op := Go.Op.assign (Go.Operand.tmp 20), type := 4, pos := "hand.go:39", after := #[{ on := 9, ground := Go.Ground.data }, { on := 10, ground := Go.Ground.chain }, { on := 0, ground := Go.Ground.phase }, { on := 1, ground := Go.Ground.phase }, { on := 2, ground := Go.Ground.phase }, { on := 3, ground := Go.Ground.phase }, { on := 4, ground := Go.Ground.phase }, { on := 5, ground := Go.Ground.phase }, { on := 6, ground := Go.Ground.phase }, { on := 7, ground := Go.Ground.phase }, { on := 8, ground := Go.Ground.phase }, { on := 9, ground := Go.Ground.phase }, { on := 10, ground := Go.Ground.phase }], guard := none }) (v := .bool o.isSome) rfl (by decide) (by kernel_rfl) (by kernel_rfl) (by kernel_rfl) (fun _ _ _ h => h) (Or.inl ⟨by rfl, ?_⟩) hS1 ?_
    · intro W9 hS9
      obtain ⟨q0, q1⟩ := hS9
      clear q0 q1
      go_simp
    try simp only [Act.put, List.setIfInBounds_toArray, List.set_cons_zero, List.set_cons_succ]
    refine wpAnyX_end (by kernel_rfl) ?_
    have HO2 := Lib.hid hS1.2
    clear hS0 hS1
    obtain ⟨z, hz⟩ : ∃ z, z = o.isSome := ⟨_, rfl⟩
    rw [← hz] at HR1 ⊢
    clear hz
    cases z with
    | true =>
      have HRR := Lib.hid (HR1.out.trans (if_pos rfl))
      clear HR1
      go_wp2_with fail
      refine ⟨rfl, ?_⟩
      rw [HRR.out]
      exact ⟨.inr ⟨by simp, rfl⟩, ⟨_, HX2.out⟩, HB2.out, HK2.out⟩
    | false =>
      have HRR := Lib.hid (HR1.out.trans (if_neg (by decide)))
      clear HR1
      have k0 : w2.cell? ⟨H, 0, none⟩ = some (.int .u64 (E : Nat)) := HX2.out.bx.cell 0
      have HRO := fun W => Lib.hid (Tryd.rowOf_any E W)
      have hk : E % 3 < 3 := Nat.mod_lt _ (by decide)
      generalize E % 3 = k at *
      go_wp2_with fail
      refine (HRO _).out.mono ?_
      rintro e w3 ⟨rfl, rfl⟩
      have hki : (k : Int) < 3 := by omega
      have hki0 : (0 : Int) ≤ (k : Int) := by omega
      clear HRO k0
      go_wp2_with fail
      refine wp_region_L (fun W' => Rows8 W' H 67 #[.int .u64 (E : Nat), .slice (s.a 0) (s.n 0) (s.c 0), .slice (s.a 1) (s.n 1) (s.c 1), .slice (s.a 2) (s.n 2) (s.c 2), .slice (s.a 3) (s.n 3) (s.c 3)] ∧ Rows8 W' w.heap.size 38 #[.int .i64 p.1, .int .u64 (p.2 : Nat)]) 18 (by kernel_rfl) ?_
      have hS3 : Rows8 w3.drew H 67 #[.int .u64 (E : Nat), .slice (s.a 0) (s.n 0) (s.c 0), .slice (s.a 1) (s.n 1) (s.c 1), .slice (s.a 2) (s.n 2) (s.c 2), .slice (s.a 3) (s.n 3) (s.c 3)] ∧ Rows8 w3.drew w.heap.size 38 #[.int .i64 p.1, .int .u64 (p.2 : Nat)] := ⟨HX2.out.bx.drewA, HO2.out.drewA⟩
      have HX3 := Lib.hid HX2.out.drew
      have HB3 := Lib.hid HB2.out.drew
      have HK3 := Lib.hid HK2.out.drew
      have HS3 := Lib.hid (show w.heap.size < w3.drew.heap.size from HS2.out)
      clear HX2 HB2 HK2 HO2 HS2
      generalize w3.drew = We at *
      refine wpAnyL_takeT (i := 0) (oi := { dst := some 30, op := Go.Op.move (Go.Operand.tmp 0), type := 62, pos := "hand.go:43", after := #[], guard := none }) (v := .pointer (some ⟨H, 0, none⟩)) [13, 14, 15, 16, 17, 18] rfl (by kernel_rfl) (by kernel_rfl) (by kernel_rfl) (by kernel_rfl) (fun _ _ _ h => h) (Or.inl ⟨by rfl, ?_⟩) hS3 ?_
      · intro W9 hS9
        obtain ⟨q0, q1⟩ := hS9
        clear q0 q1
        go_simp
      try simp only [Act.put, List.setIfInBounds_toArray, List.set_cons_zero, List.set_cons_succ]
      refine wpAnyL_takeT (i := 1) (oi := { dst := some 31, op := Go.Op.move (Go.Operand.tmp 6), type := 3, pos := "hand.go:43", after := #[], guard := none }) (v := .int .i64 (k : Nat)) [17, 18] rfl (by kernel_rfl) (by kernel_rfl) (by kernel_rfl) (by kernel_rfl) (fun _ _ _ h => h) (Or.inl ⟨by rfl, ?_⟩) hS3 ?_
      · intro W9 hS9
        obtain ⟨q0, q1⟩ := hS9
        clear q0 q1
        go_simp
      try simp only [Act.put, List.setIfInBounds_toArray, List.set_cons_zero, List.set_cons_succ]
      refine wpAnyL_takeT (i := 2) (oi := { dst := some 32, op := Go.Op.move (Go.Operand.tmp 0), type := 62, pos := "hand.go:43", after := #[], guard := none }) (v := .pointer (some ⟨H, 0, none⟩)) [4, 5, 6, 7, 8, 9, 12, 17, 18] rfl (by kernel_rfl) (by kernel_rfl) (by kernel_rfl) (by kernel_rfl) (fun _ _ _ h => h) (Or.inl ⟨by rfl, ?_⟩) hS3 ?_
      · intro W9 hS9
        obtain ⟨q0, q1⟩ := hS9
        clear q0 q1
        go_simp
      try simp only [Act.put, List.setIfInBounds_toArray, List.set_cons_zero, List.set_cons_succ]
      refine wpAnyL_takeT (i := 3) (oi := { dst := some 33, op := Go.Op.move (Go.Operand.tmp 6), type := 3, pos := "hand.go:43", after := #[], guard := none }) (v := .int .i64 (k : Nat)) [8, 9, 12, 17, 18] rfl (by kernel_rfl) (by kernel_rfl) (by kernel_rfl) (by kernel_rfl) (fun _ _ _ h => h) (Or.inl ⟨by rfl, ?_⟩) hS3 ?_
      · intro W9 hS9
        obtain ⟨q0, q1⟩ := hS9
        clear q0 q1
        go_simp
      try simp only [Act.put, List.setIfInBounds_toArray, List.set_cons_zero, List.set_cons_succ]
      refine wpAnyL_takeT (i := 4) (oi := { dst := some 34, op := Go.Op.nilCheck (Go.Operand.tmp 32), type := 0, pos := "hand.go:43", after := #[{ on := 2, ground := Go.Ground.data }], guard := none }) (v := .pointer (some ⟨H, 0, none⟩)) [5, 6, 7, 8, 9, 12, 17, 18] rfl (by kernel_rfl) (by kernel_rfl) (by kernel_rfl) (by kernel_rfl) (fun _ _ _ h => h) (Or.inl ⟨by rfl, ?_⟩) hS3 ?_
      · intro W9 hS9
        obtain ⟨q0, q1⟩ := hS9
        clear q0 q1
        go_simp
      try simp only [Act.put, List.setIfInBounds_toArray, List.set_cons_zero, List.set_cons_succ]
      refine wpAnyL_takeT (i := 5) (oi := { dst := some 35, op := Go.Op.fieldAddr 67 (Go.Operand.tmp 34) 0, type := 0, pos := "hand.go:43", after := #[{ on := 4, ground := Go.Ground.data }], guard := none }) (v := .pointer (some ⟨H, 0, none⟩)) [6, 7, 8, 9, 12, 17, 18] rfl (by kernel_rfl) (by kernel_rfl) (by kernel_rfl) (by kernel_rfl) (fun _ _ _ h => h) (Or.inl ⟨by rfl, ?_⟩) hS3 ?_
      · intro W9 hS9
        obtain ⟨q0, q1⟩ := hS9
        clear q0 q1
        go_simp
      try simp only [Act.put, List.setIfInBounds_toArray, List.set_cons_zero, List.set_cons_succ]
      refine wpAnyL_takeT (i := 6) (oi := { dst := some 36, op := Go.Op.fieldAddr 57 (Go.Operand.tmp 35) 0, type := 0, pos := "hand.go:43", after := #[{ on := 5, ground := Go.Ground.data }], guard := none }) (v := .pointer (some ⟨H, 0, none⟩)) [7, 8, 9, 12, 17, 18] rfl (by kernel_rfl) (by kernel_rfl) (by kernel_rfl) (by kernel_rfl) (fun _ _ _ h => h) (Or.inl ⟨by rfl, ?_⟩) hS3 ?_
      · intro W9 hS9
        obtain ⟨q0, q1⟩ := hS9
        clear q0 q1
        go_simp
      try simp only [Act.put, List.setIfInBounds_toArray, List.set_cons_zero, List.set_cons_succ]
      refine wpAnyL_takeT (i := 7) (oi := { dst := some 37, op := Go.Op.fieldAddr 26 (Go.Operand.tmp 36) 1, type := 0, pos := "hand.go:43", after := #[{ on := 6, ground := Go.Ground.data }], guard := none }) (v := .pointer (some ⟨H, 1, none⟩)) [8, 9, 12, 17, 18] rfl (by kernel_rfl) (by kernel_rfl) (by kernel_rfl) (by kernel_rfl) (fun _ _ _ h => h) (Or.inl ⟨by rfl, ?_⟩) hS3 ?_
      · intro W9 hS9
        obtain ⟨q0, q1⟩ := hS9
        clear q0 q1
        go_simp
      try simp only [Act.put, List.setIfInBounds_toArray, List.set_cons_zero, List.set_cons_succ]
      refine wpAnyL_takeT (i := 8) (oi := { dst := some 38, op := Go.Op.indexAddr 24 (Go.Operand.tmp 37) (Go.Operand.tmp 33), type := 0, pos := "hand.go:43", after := #[{ on := 7, ground := Go.Ground.data }, { on := 3, ground := Go.Ground.data }], guard := none }) (v := .pointer (some ⟨H, 1 + k, none⟩)) [9, 12, 17, 18] rfl (by kernel_rfl) (by kernel_rfl) (by kernel_rfl) (by kernel_rfl) (fun _ _ _ h => h) (Or.inl ⟨by rfl, ?_⟩) hS3 ?_
      · intro W9 hS9
        obtain ⟨q0, q1⟩ := hS9
        clear q0 q1
        go_simp
      try simp only [Act.put, List.setIfInBounds_toArray, List.set_cons_zero, List.set_cons_succ]
      refine wpAnyL_takeT (i := 9) (oi := { dst := some 39, op := Go.Op.load 23 (Go.Operand.tmp 38), type := 23, pos := "hand.go:43", after := #[{ on := 8, ground := Go.Ground.data }], guard := none }) (v := .slice (s.a k) (s.n k) (s.c k)) [12, 17, 18] rfl (by kernel_rfl) (by kernel_rfl) (by kernel_rfl) (by kernel_rfl) (fun _ _ _ h => h) (Or.inl ⟨by rfl, ?_⟩) hS3 ?_
      · intro W9 hS9
        obtain ⟨q0, q1⟩ := hS9
        have s0 : W9.cell? ⟨H, 1 + k, none⟩ = some (.slice (s.a k) (s.n k) (s.c k)) := cellH q0 k (Nat.lt_succ_of_lt hk)
        clear q0 q1
        go_simp
      try simp only [Act.put, List.setIfInBounds_toArray, List.set_cons_zero, List.set_cons_succ]
      refine wpAnyL_takeT (i := 10) (oi := { dst := some 40, op := Go.Op.load 38 (Go.Operand.tmp 3), type := 38, pos := "hand.go:43", after := #[], guard := none }) (v := .agg #[.int .i64 p.1, .int .u64 (p.2 : Nat)]) [11, 12, 17, 18] rfl (by kernel_rfl) (by kernel_rfl) (by kernel_rfl) (by kernel_rfl) (fun _ _ _ h => h) (Or.inl ⟨by rfl, ?_⟩) hS3 ?_
      · intro W9 hS9
        obtain ⟨q0, q1⟩ := hS9
        have s0 : W9.cell? ⟨w.heap.size, 0, none⟩ = some (.int .i64 p.1) := q1.cell 0
        have s1 : W9.cell? ⟨w.heap.size, 1, none⟩ = some (.int .u64 (p.2 : Nat)) := q1.cell 1
        clear q0 q1
        go_simp
      try simp only [Act.put, List.setIfInBounds_toArray, List.set_cons_zero, List.set_cons_succ]
      refine wpAnyL_takeT (i := 13) (oi := { dst := some 43, op := Go.Op.nilCheck (Go.Operand.tmp 30), type := 0, pos := "hand.go:43", after := #[{ on := 0, ground := Go.Ground.data }], guard := none }) (v := .pointer (some ⟨H, 0, none⟩)) [14, 15, 16, 17, 18] rfl (by kernel_rfl) (by kernel_rfl) (by kernel_rfl) (by kernel_rfl) (fun _ _ _ h => h) (Or.inl ⟨by rfl, ?_⟩) hS3 ?_
      · intro W9 hS9
        obtain ⟨q0, q1⟩ := hS9
        clear q0 q1
        go_simp
      try simp only [Act.put, List.setIfInBounds_toArray, List.set_cons_zero, List.set_cons_succ]
      refine wpAnyL_takeT (i := 14) (oi := { dst := some 44, op := Go.Op.fieldAddr 67 (Go.Operand.tmp 43) 0, type := 0, pos := "hand.go:43", after := #[{ on := 13, ground := Go.Ground.data }], guard := none }) (v := .pointer (some ⟨H, 0, none⟩)) [15, 16, 17, 18] rfl (by kernel_rfl) (by kernel_rfl) (by kernel_rfl) (by kernel_rfl) (fun _ _ _ h => h) (Or.inl ⟨by rfl, ?_⟩) hS3 ?_
      · intro W9 hS9
        obtain ⟨q0, q1⟩ := hS9
        clear q0 q1
        go_simp
      try simp only [Act.put, List.setIfInBounds_toArray, List.set_cons_zero, List.set_cons_succ]
      refine wpAnyL_takeT (i := 15) (oi := { dst := some 45, op := Go.Op.fieldAddr 57 (Go.Operand.tmp 44) 0, type := 0, pos := "hand.go:43", after := #[{ on := 14, ground := Go.Ground.data }], guard := none }) (v := .pointer (some ⟨H, 0, none⟩)) [16, 17, 18] rfl (by kernel_rfl) (by kernel_rfl) (by kernel_rfl) (by kernel_rfl) (fun _ _ _ h => h) (Or.inl ⟨by rfl, ?_⟩) hS3 ?_
      · intro W9 hS9
        obtain ⟨q0, q1⟩ := hS9
        clear q0 q1
        go_simp
      try simp only [Act.put, List.setIfInBounds_toArray, List.set_cons_zero, List.set_cons_succ]
      refine wpAnyL_takeT (i := 16) (oi := { dst := some 46, op := Go.Op.fieldAddr 26 (Go.Operand.tmp 45) 1, type := 0, pos := "hand.go:43", after := #[{ on := 15, ground := Go.Ground.data }], guard := none }) (v := .pointer (some ⟨H, 1, none⟩)) [17, 18] rfl (by kernel_rfl) (by kernel_rfl) (by kernel_rfl) (by kernel_rfl) (fun _ _ _ h => h) (Or.inl ⟨by rfl, ?_⟩) hS3 ?_
      · intro W9 hS9
        obtain ⟨q0, q1⟩ := hS9
        clear q0 q1
        go_simp
      try simp only [Act.put, List.setIfInBounds_toArray, List.set_cons_zero, List.set_cons_succ]
      refine wpAnyL_one (i := 11) (o := { dst := some 41, op := Go.Op.buildSlice 23 1 #[(0, Go.Operand.tmp 40)], type := 23, pos := "hand.go:43", after := #[{ on := 10, ground := Go.Ground.data }], guard := none }) (by kernel_rfl) rfl (fun K hK => ?_)
      refine step_value_g (by rfl) (.slice (some ⟨We.heap.size, 0, none⟩) 1 1) (w' := We.alloc (.cells #[.int .i64 p.1, .int .u64 (p.2 : Nat)] 38)) (by go_simp) ?_
      have hal4 : Below We.heap.size We (We.alloc (.cells #[.int .i64 p.1, .int .u64 (p.2 : Nat)] 38)) := Rows8.newB
      have hS4 : Rows8 (We.alloc (.cells #[.int .i64 p.1, .int .u64 (p.2 : Nat)] 38)) H 67 #[.int .u64 (E : Nat), .slice (s.a 0) (s.n 0) (s.c 0), .slice (s.a 1) (s.n 1) (s.c 1), .slice (s.a 2) (s.n 2) (s.c 2), .slice (s.a 3) (s.n 3) (s.c 3)] ∧ Rows8 (We.alloc (.cells #[.int .i64 p.1, .int .u64 (p.2 : Nat)] 38)) w.heap.size 38 #[.int .i64 p.1, .int .u64 (p.2 : Nat)] := ⟨hS3.1.alloc _, hS3.2.alloc _⟩
      have hcn := cells_new We 38 [.int .i64 p.1, .int .u64 (p.2 : Nat)]
      have HX4 := Lib.hid (HX3.out.below hal4)
      have HB4 := Lib.hid (HB3.out.trans (hal4.mono (Nat.le_trans HN0.out HB3.out.size)))
      have HK4 := Lib.hid (HK3.out.trans (Kf.of_below (T := tL) hal4))
      obtain ⟨W4, hW4⟩ : ∃ W, W = We.alloc (.cells #[.int .i64 p.1, .int .u64 (p.2 : Nat)] 38) := ⟨_, rfl⟩
      have hcn2 : ∀ j u, (pCells p)[j]? = some u → W4.cell? ((⟨We.heap.size, 0, none⟩ : Addr).add j) = some u := by rw [hW4]; exact hcn
      rw [← hW4] at hS4 HX4 HB4 HK4 ⊢
      have HS4 := Lib.hid (show w.heap.size < W4.heap.size by rw [hW4, World.size_alloc]; have := HS3.out; omega)
      clear hal4 hcn hW4 HX3 HB3 HK3 HS3
      refine hK.out _ _ (fun _ => hS4) ?_
      clear hK K
      try simp only [Act.put, List.setIfInBounds_toArray, List.set_cons_zero, List.set_cons_succ]
      refine wpAnyL_one (i := 12) (o := { dst := some 42, op := Go.Op.call { callee := Go.Callee.builtin Go.Builtin.append, args := #[Go.Operand.tmp 39, Go.Operand.tmp 41], argTypes := #[23, 23] }, type := 23, pos := "hand.go:43", after := #[{ on := 9, ground := Go.Ground.data }, { on := 11, ground := Go.Ground.data }], guard := none }) (by kernel_rfl) rfl (fun K hK => ?_)
      obtain ⟨v5, w5, hrun, ho5, hg5, hv5⟩ := Tryd.append_e W4 n₀ 23 (r k) (.slice (s.a k) (s.n k) (s.c k)) (HX4.out.o k (Nat.lt_succ_of_lt hk)) p ⟨We.heap.size, 0, none⟩ 1 hcn2 (by have := HLL.out k hk; omega) (Nat.le_trans HN0.out HB4.out.size)
      refine step_value_g (by rfl) v5 (w' := w5) (exec_append _ _ _ rfl _ _ _ rfl rfl hrun) ?_
      have hap5 := HX4.out.appended k (Nat.lt_succ_of_lt hk) hg5
      have hst5 : Rows8 w5 w.heap.size 38 #[.int .i64 p.1, .int .u64 (p.2 : Nat)] := (hg5.block _ hS4.2.lt (fun e => by exact hbk0 k (Nat.lt_succ_of_lt hk) e.symm)).trans hS4.2
      have hS5 : Rows8 w5 H 67 #[.int .u64 (E : Nat), .slice (s.a 0) (s.n 0) (s.c 0), .slice (s.a 1) (s.n 1) (s.c 1), .slice (s.a 2) (s.n 2) (s.c 2), .slice (s.a 3) (s.n 3) (s.c 3)] ∧ Rows8 w5 w.heap.size 38 #[.int .i64 p.1, .int .u64 (p.2 : Nat)] := ⟨hap5.1, hst5⟩
      obtain ⟨a5, c5, rfl, _⟩ := ho5.form
      have hnap := HX4.out.apNew k (Nat.lt_succ_of_lt hk) _ hv5
      have H5 := Lib.hid (And.intro hap5 (And.intro ho5 hnap))
      have HAP4 := Lib.hid HX4.out.ap
      have HB5 := Lib.hid (HB4.out.grown hg5 (Nat.le_trans HN0.out HB4.out.size) (fun j ej => ((HX4.out.o k (Nat.lt_succ_of_lt hk)).lt j ej).1))
      have HK5 := Lib.hid (HK4.out.trans (Kf.grownT (T := tL) (t := 38) (by decide) hg5 (fun j ej => (HX4.out.o k (Nat.lt_succ_of_lt hk)).rows j ej)))
      clear hrun hg5 hv5 hap5 hst5 ho5 hnap HX4 HB4 HK4 hcn2 HS4
      generalize (r k ++ [p]).length = n5 at *
      refine hK.out _ _ (fun _ => hS5) ?_
      clear hK K
      try simp only [Act.put, List.setIfInBounds_toArray, List.set_cons_zero, List.set_cons_succ]
      refine wpAnyL_takeT (i := 17) (oi := { dst := some 47, op := Go.Op.indexAddr 24 (Go.Operand.tmp 46) (Go.Operand.tmp 31), type := 0, pos := "hand.go:43", after := #[{ on := 16, ground := Go.Ground.data }, { on := 1, ground := Go.Ground.data }, { on := 0, ground := Go.Ground.phase }, { on := 1, ground := Go.Ground.phase }, { on := 2, ground := Go.Ground.phase }, { on := 3, ground := Go.Ground.phase }, { on := 4, ground := Go.Ground.phase }, { on := 5, ground := Go.Ground.phase }, { on := 6, ground := Go.Ground.phase }, { on := 7, ground := Go.Ground.phase }, { on := 8, ground := Go.Ground.phase }, { on := 9, ground := Go.Ground.phase }, { on := 10, ground := Go.Ground.phase }, { on := 11, ground := Go.Ground.phase }, { on := 12, ground := Go.Ground.phase }], guard := none }) (v := .pointer (some ⟨H, 1 + k, none⟩)) [18] rfl (by kernel_rfl) (by kernel_rfl) (by kernel_rfl) (by kernel_rfl) (fun _ _ _ h => h) (Or.inl ⟨by rfl, ?_⟩) hS5 ?_
      · intro W9 hS9
        obtain ⟨q0, q1⟩ := hS9
        clear q0 q1
        go_simp
      try simp only [Act.put, List.setIfInBounds_toArray, List.set_cons_zero, List.set_cons_succ]
      refine wpAnyL_one (i := 18) (o := { dst := none, op := Go.Op.store 23 (Go.Operand.tmp 47) (Go.Operand.tmp 42), type := 0, pos := "hand.go:43", after := #[{ on := 17, ground := Go.Ground.data }, { on := 12, ground := Go.Ground.data }, { on := 12, ground := Go.Ground.chain }, { on := 0, ground := Go.Ground.phase }, { on := 1, ground := Go.Ground.phase }, { on := 2, ground := Go.Ground.phase }, { on := 3, ground := Go.Ground.phase }, { on := 4, ground := Go.Ground.phase }, { on := 5, ground := Go.Ground.phase }, { on := 6, ground := Go.Ground.phase }, { on := 7, ground := Go.Ground.phase }, { on := 8, ground := Go.Ground.phase }, { on := 9, ground := Go.Ground.phase }, { on := 10, ground := Go.Ground.phase }, { on := 11, ground := Go.Ground.phase }, { on := 12, ground := Go.Ground.phase }], guard := none }) (by kernel_rfl) rfl (fun K hK => ?_)
      have hK5 := cellH H5.out.1.1 k (Nat.lt_succ_of_lt hk)
      have f5 := H5.out.1.1.frozen (1 + k)
      refine step_skip_g (by rfl) (w' := w5.setCell ⟨H, 1 + k, none⟩ (.slice a5 n5 c5)) (by go_simp) ?_
      have HX6 := Lib.hid (Hl.put H5.out.1.1 k (Nat.lt_succ_of_lt hk) H5.out.1.2 HAP4.out _ a5 n5 c5 H5.out.2.1 H5.out.2.2)
      have HB6 := Lib.hid (HB5.out.setCell (p := ⟨H, 1 + k, none⟩) hH (.slice a5 n5 c5))
      have HK6 := Lib.hid (HK5.out.trans (Kf.set (T := tL) (t := 67) (by decide) w5 (a := ⟨H, 1 + k, none⟩) H5.out.1.1 (.slice a5 n5 c5)))
      clear hK5 f5 H5 HB5 HK5 HAP4
      refine hK.out _ _ (fun h => absurd h (by decide)) ?_
      clear hK K
      try simp only [Act.put, List.setIfInBounds_toArray, List.set_cons_zero, List.set_cons_succ]
      refine wpAnyL_end (by kernel_rfl) ?_
      go_end0
      rw [HRR.out]
      exact ⟨.inl ⟨rfl, rfl⟩, ⟨_, HX6.out⟩, HB6.out, HK6.out⟩
end Go.Proofs
