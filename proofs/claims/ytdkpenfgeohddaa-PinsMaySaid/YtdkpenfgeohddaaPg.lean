/- Pins: a hand, and what changes it. -/
import Derived.Test.YtdkpenfgeohddaaPf
namespace Go.Proofs
set_option maxRecDepth 100000
open Go.RowKit Go.Shelf
attribute [local go_sem] Oper.semAt_some

/-- All but blocks of these types is as it was. -/
structure Kf (T : TypeId → Bool) (A B : World) : Prop where
  size : A.heap.size ≤ B.heap.size
  same : ∀ (k : Nat) (cs : Array Value) (t : TypeId) (fr : Nat × Nat), A.heap[k]? = some (Obj.cells cs t fr) → T t = false → B.heap[k]? = some (Obj.cells cs t fr)
theorem Kf.refl (T : TypeId → Bool) (A : World) : Kf T A A := ⟨Nat.le_refl _, fun _ _ _ _ h _ => h⟩
theorem Kf.trans {T : TypeId → Bool} {A B C : World} (p : Kf T A B) (q : Kf T B C) : Kf T A C := ⟨Nat.le_trans p.size q.size, fun k cs t fr h ht => q.same k cs t fr (p.same k cs t fr h ht) ht⟩
theorem Kf.of_below {T : TypeId → Bool} {A B : World} (p : Below A.heap.size A B) : Kf T A B := ⟨p.size, fun k _ _ _ h _ => (p.block k (Array.getElem?_eq_some_iff.1 h).1).trans h⟩
theorem Kf.rows {T : TypeId → Bool} {t : TypeId} {A B : World} (p : Kf T A B) {k : Nat} {cs : Array Value} (r : Rows8 A k t cs) (ht : T t = false) : Rows8 B k t cs := p.same k cs t (0, 0) r ht
theorem Kf.drew {T : TypeId → Bool} {A B : World} (p : Kf T A B) : Kf T A B.drew := ⟨p.size, p.same⟩
theorem Kf.set {T : TypeId → Bool} {t : TypeId} (ht : T t = true) (A : World) {a : Addr} {cs : Array Value} (r : Rows8 A a.block t cs) (v : Value) : Kf T A (A.setCell a v) :=
  ⟨by simp [World.setCell], fun k cs' t' fr hk hf => by
    have hne : a.block ≠ k := fun e => by
      subst e
      rw [show A.heap[a.block]? = _ from r] at hk
      injection hk with hk
      injection hk with _ hk _
      rw [← hk, ht] at hf
      cases hf
    show (A.heap.modify a.block _)[k]? = _
    rw [Array.getElem?_modify, if_neg hne]
    exact hk⟩
def panicA (n : Int) : List PanicEntry := [{ v := .iface 29 (.int .i64 n), recovered := false }]
theorem Try.neq_nil (n : Int) (W : World) : (binOp BinOp.neq 20 (.iface 29 (.int .i64 n)) .nilIface).run Try.prog W = .ok (.bool true) W := by kernel_rfl
theorem Try.assert_yes (v : Value) (W : World) : (Instr.typeAssert (.iface 29 v) 20 29 true).run Try.prog W = .ok (.tuple #[v, .bool true]) W := by kernel_rfl
theorem Try.nil_nil (W : World) : (binOp BinOp.neq 20 .nilIface .nilIface).run Try.prog W = .ok (.bool false) W := by kernel_rfl
section
variable {P : Program} {ops : Array Oper} {Q : Exit → Act → World → Prop}
theorem step_call_v {o : Oper} {a : Act} {w : World} {K : Act → World → Prop} {E : Prop} (hw : Region.wanted o (yielded ops a.tmps) = true) (f : FuncId) (x : Nat) (xs : Array Operand) (ts : Array TypeId)
    (ho : o.op = .call { callee := .value (.tmp x), args := xs, argTypes := ts }) (fs : Array Value) (hx : a.tmps[x]?.getD undef = .func (.func f) fs #[]) (eg : ∀ args w, (callFunc f args).run P w = .ok (.enter f args) w) (vs : Array Value) (hv : fs ++ xs.map a.eval = vs) (R : Ending → World → Prop) (hc : Calls P f vs w R)
    (hR : ∀ e w', R e w' → (∃ v, e = .returned v ∧ K (a.put o.dst v) w') ∨ ∃ c, e = .panicked c ∧ Q (.panic c) a w') : if Region.wanted o (yielded ops a.tmps) = true then Oper.wp P o a w K Q else E := by
  rw [if_pos hw]
  unfold Oper.wp execOp
  simp only [ho]
  simp [go_sem, resolve, invoke, hx, hv, eg]
  refine hc.mono (fun e w' he => ?_)
  rcases hR e w' he with ⟨v, rfl, hk⟩ | ⟨c, rfl, hk⟩
  · exact hk
  · exact hk
end
/-- What is asked for: its kind, the goroutine, how far back. -/
structure Po where
  kind : Int
  goer : Int
  by_ : Int
def isOneN (S : List Int) (g : Int) : Bool := decide (0 ≤ g ∧ g < S.length)
def heldB (E : Int) (S : List Int) : Bool := bkB E S 0 || bkB E S 1 || bkB E S 2 || bkB E S 3 || bkB E S 4 || bkB E S 5 || bkB E S 6 || bkB E S 7
def pinN (E : Int) (S : List Int) (o : Po) : Rn := if S[o.goer.toNat]?.getD 0 ≠ 0 then (5, E, S) else if E < o.by_ then (4, E, S) else (0, E, S.set o.goer.toNat (E - o.by_ + 1))
def unpinN (E : Int) (S : List Int) (o : Po) : Rn := if S[o.goer.toNat]?.getD 0 = 0 then (4, E, S) else (0, E, S.set o.goer.toNat 0)
def goN (E : Int) (S : List Int) : Rn := if heldB E S = true then (231, E, S) else if E = 4611686018427387904 then (6, E, S) else (0, E + 1, S)
def stepP (E : Int) (S : List Int) (o : Po) : Rn :=
  if o.kind < 1 ∨ 3 < o.kind then (2, E, S) else
  if o.kind = 3 then goN E S else
  if isOneN S o.goer = false then (2, E, S) else
  if o.kind = 1 then pinN E S o else unpinN E S o
/-- A hand: pins of its own in a box. -/
structure Hp (H n₀ g n : Nat) (E : Int) (S : List Int) (W : World) : Prop where
  bx : Rows8 W H 67 #[.int .u64 E, .slice (some ⟨g, 0, none⟩) n n]
  o : OwnsWords n₀ S (.slice (some ⟨g, 0, none⟩) n n) W
theorem Hp.below {H n₀ g n : Nat} {E : Int} {S : List Int} {A B : World} (h : Hp H n₀ g n E S A) (hB : Below A.heap.size A B) : Hp H n₀ g n E S B := ⟨h.bx.below hB h.bx.lt, owns_keep h.o hB (Nat.le_refl _)⟩
theorem Hp.drew {H n₀ g n : Nat} {E : Int} {S : List Int} {A : World} (h : Hp H n₀ g n E S A) : Hp H n₀ g n E S A.drew := ⟨h.bx, h.o⟩
theorem Hp.len {H n₀ g n : Nat} {E : Int} {S : List Int} {A : World} (h : Hp H n₀ g n E S A) : n = S.length := (wordsAt_len (rowAt_own h.o)).1
theorem Hp.rows {H n₀ g n : Nat} {E : Int} {S : List Int} {A : World} (h : Hp H n₀ g n E S A) : ∃ cur, Rows8 A g 22 cur ∧ n₀ ≤ g ∧ ∀ j, j < S.length → A.cell? ⟨g, j, none⟩ = some (.int .u64 (S[j]?.getD 0)) := by
  obtain ⟨cur, h1, _, h2, h3⟩ := own_rows h.o
  exact ⟨cur, h1, h2, fun j hj => by rw [h3 j (by rw [wordVals_length]; exact hj)]; exact wordVals_get S j hj⟩
theorem wordVals_set (S : List Int) (k : Nat) (z : Int) : wordVals (S.set k z) = (wordVals S).set k (.int .u64 z) := by simp [wordVals, List.map_set]
theorem ownsWords_set {n₀ g n : Nat} {S : List Int} {W : World} (o : OwnsWords n₀ S (.slice (some ⟨g, 0, none⟩) n n) W) (k : Nat) (z : Int) : OwnsWords n₀ (S.set k z) (.slice (some ⟨g, 0, none⟩) n n) (W.setCell ⟨g, k, none⟩ (.int .u64 z)) := by
  have hn := (wordsAt_len (rowAt_own o)).1
  subst hn
  unfold OwnsWords at o ⊢
  rw [List.length_set, wordVals_set]
  exact (World.ownsRow.stored o k (.int .u64 z)).1
theorem Hp.set {H n₀ g n : Nat} {E : Int} {S : List Int} {W : World} (h : Hp H n₀ g n E S W) {cur : Array Value} (r : Rows8 W g 22 cur) (k : Nat) (z : Int) : Hp H n₀ g n E (S.set k z) (W.setCell ⟨g, k, none⟩ (.int .u64 z)) :=
  ⟨h.bx.setOther (a := ⟨g, k, none⟩) (fun e => rows_apart h.bx r (by decide) e.symm) _, ownsWords_set h.o k z⟩
theorem Hp.setE {H n₀ g n : Nat} {E : Int} {S : List Int} {W : World} (h : Hp H n₀ g n E S W) (F : Int) : Hp H n₀ g n F S (W.setCell ⟨H, 0, none⟩ (.int .u64 F)) := by
  have h2 := h.bx.set 0 (.int .u64 F)
  simp only [List.setIfInBounds_toArray, List.set_cons_zero] at h2
  exact ⟨h2, owns_setT h.o (a := ⟨H, 0, none⟩) h.bx (by decide) _⟩
def Hd (H n₀ : Nat) (E : Int) (S : List Int) (W : World) : Prop := ∃ g n, Hp H n₀ g n E S W
theorem Hd.below {H n₀ : Nat} {E : Int} {S : List Int} {A B : World} (h : Hd H n₀ E S A) (hB : Below A.heap.size A B) : Hd H n₀ E S B := by
  obtain ⟨g, n, h⟩ := h
  exact ⟨g, n, h.below hB⟩
theorem Hd.drew {H n₀ : Nat} {E : Int} {S : List Int} {A : World} (h : Hd H n₀ E S A) : Hd H n₀ E S A.drew := by
  obtain ⟨g, n, h⟩ := h
  exact ⟨g, n, h.drew⟩
def tP : TypeId → Bool := fun t => t == 22 || t == 67
/-- What is done to a hand. -/
def HdQ (H n₀ : Nat) (w : World) (R : Rn) (e : Ending) (w' : World) : Prop :=
  ((R.1 = 0 ∧ e = .returned (.tuple #[])) ∨ (R.1 ≠ 0 ∧ e = .panicked (panicA R.1))) ∧ Hd H n₀ R.2.1 R.2.2 w' ∧ Below n₀ w w' ∧ Kf tP w w'
theorem HdQ.behind {H n₀ : Nat} {w w1 w' : World} {R : Rn} {e : Ending} (hB : Below n₀ w w1) (hK : Kf tP w w1) (h : HdQ H n₀ w1 R e w') : HdQ H n₀ w R e w' := ⟨h.1, h.2.1, hB.trans h.2.2.1, hK.trans h.2.2.2⟩
set_option maxHeartbeats 8000000 in
theorem Try.pin_any (H n₀ : Nat) (E : Int) (S : List Int) (o : Po) (w : World) (h : Hd H n₀ E S w) (hE : 0 ≤ E ∧ E ≤ 4611686018427387904) (hg : 0 ≤ o.goer ∧ o.goer < S.length) (hb : 0 ≤ o.by_) (hn0 : n₀ ≤ w.heap.size) :
    Calls Try.prog 46 #[.pointer (some ⟨H, 0, none⟩), .agg #[.int .i64 o.kind, .int .i64 o.goer, .int .u64 o.by_]] w (HdQ H n₀ w (pinN E S o)) := by
  obtain ⟨kd, gr, by_⟩ := o
  dsimp only at *
  obtain ⟨k, rfl⟩ : ∃ k : Nat, gr = k := ⟨gr.toNat, by omega⟩
  have hk : k < S.length := by omega
  obtain ⟨R, hR⟩ : ∃ R, R = pinN E S ⟨kd, (k : Int), by_⟩ := ⟨_, rfl⟩
  rw [← hR]
  have HR := Lib.hid hR
  clear hR
  unfold pinN at HR
  dsimp only at HR
  rw [Int.toNat_natCast] at HR
  obtain ⟨g, n, h⟩ := h
  have hal : Below w.heap.size w (w.alloc (.cells #[.int .i64 kd, .int .i64 (k : Nat), .int .u64 by_] 44)) := Rows8.newB
  have rw0 := Rows8.new w 44 #[.int .i64 kd, .int .i64 (k : Nat), .int .u64 by_]
  obtain ⟨W, hW⟩ : ∃ W, W = w.alloc (.cells #[.int .i64 kd, .int .i64 (k : Nat), .int .u64 by_] 44) := ⟨_, rfl⟩
  rw [← hW] at hal rw0
  have h1 := h.below hal
  have hnl := h1.len
  have HX := Lib.hid h1
  have HAL := Lib.hid (hal.mono hn0)
  have HKF := Lib.hid (Kf.of_below (T := tP) hal)
  have HR0 := Lib.hid rw0
  have HPV := fun (W : World) (h : Hp H n₀ g n E S W) => Lib.hid (Try.pinsV_any E k (some ⟨g, 0, none⟩) n n S W (rowAt_own h.o) (by omega))
  have HK9 := Lib.hid hk
  have hkn : (k : Int) < (n : Int) := by omega
  have hk0 : (0 : Int) ≤ (k : Int) := by omega
  have HNL := Lib.hid hnl
  obtain ⟨z, hz⟩ : ∃ z, z = S[k]?.getD 0 := ⟨_, rfl⟩
  rw [← hz] at HPV HR
  have HZ := Lib.hid hz
  clear h h1 hal rw0 hg hnl hk hz
  go_enter Try.func46, Try.ntmps46
  go_wp2_with fail
  rw [← hW]
  clear hW
  by_cases hz : z = 0
  · have HR1 := Lib.hid (HR.out.trans (if_neg (by rw [hz]; decide)))
    have hzb : (z != 0) = false := by rw [hz]; rfl
    rw [hzb] at HPV
    clear hz hzb HR
    refine wp_region_X (fun W' => Rows8 W' H 67 #[.int .u64 E, .slice (some ⟨g, 0, none⟩) n n] ∧ Rows8 W' w.heap.size 44 #[.int .i64 kd, .int .i64 (k : Nat), .int .u64 by_]) 7 (by kernel_rfl) ?_
    have hS0 : Rows8 W.drew H 67 #[.int .u64 E, .slice (some ⟨g, 0, none⟩) n n] ∧ Rows8 W.drew w.heap.size 44 #[.int .i64 kd, .int .i64 (k : Nat), .int .u64 by_] := ⟨HX.out.bx.drewA, HR0.out.drewA⟩
    have HX0 := Lib.hid HX.out.drew
    have HB0 := Lib.hid HAL.out.drew
    have HK0 := Lib.hid HKF.out.drew
    clear HX HAL HKF HR0
    generalize W.drew = Wd at *
    refine wpAnyN_take (i := 0) (oi := { dst := some 4, op := Go.Op.move (Go.Operand.tmp 0), type := 76, pos := "hand.go:46", after := #[], guard := none }) (v := .pointer (some ⟨H, 0, none⟩)) rfl (by decide) (by kernel_rfl) (by kernel_rfl) (by kernel_rfl) (fun _ _ _ h => h) (Or.inl ⟨by rfl, ?_⟩) hS0 ?_
    · intro W9 hS9
      obtain ⟨q0, q1⟩ := hS9
      clear q0 q1
      go_simp
    try simp only [Act.put, List.setIfInBounds_toArray, List.set_cons_zero, List.set_cons_succ]
    refine wpAnyN_take (i := 1) (oi := { dst := some 5, op := Go.Op.nilCheck (Go.Operand.tmp 4), type := 0, pos := "hand.go:46", after := #[{ on := 0, ground := Go.Ground.data }], guard := none }) (v := .pointer (some ⟨H, 0, none⟩)) rfl (by decide) (by kernel_rfl) (by kernel_rfl) (by kernel_rfl) (fun _ _ _ h => h) (Or.inl ⟨by rfl, ?_⟩) hS0 ?_
    · intro W9 hS9
      obtain ⟨q0, q1⟩ := hS9
      clear q0 q1
      go_simp
    try simp only [Act.put, List.setIfInBounds_toArray, List.set_cons_zero, List.set_cons_succ]
    refine wpAnyN_take (i := 2) (oi := { dst := some 6, op := Go.Op.fieldAddr 67 (Go.Operand.tmp 5) 0, type := 0, pos := "hand.go:46", after := #[{ on := 1, ground := Go.Ground.data }], guard := none }) (v := .pointer (some ⟨H, 0, none⟩)) rfl (by decide) (by kernel_rfl) (by kernel_rfl) (by kernel_rfl) (fun _ _ _ h => h) (Or.inl ⟨by rfl, ?_⟩) hS0 ?_
    · intro W9 hS9
      obtain ⟨q0, q1⟩ := hS9
      clear q0 q1
      go_simp
    try simp only [Act.put, List.setIfInBounds_toArray, List.set_cons_zero, List.set_cons_succ]
    refine wpAnyN_take (i := 3) (oi := { dst := some 7, op := Go.Op.load 57 (Go.Operand.tmp 6), type := 57, pos := "hand.go:46", after := #[{ on := 2, ground := Go.Ground.data }], guard := none }) (v := .agg #[.int .u64 E, .slice (some ⟨g, 0, none⟩) n n]) rfl (by decide) (by kernel_rfl) (by kernel_rfl) (by kernel_rfl) (fun _ _ _ h => h) (Or.inl ⟨by rfl, ?_⟩) hS0 ?_
    · intro W9 hS9
      obtain ⟨q0, q1⟩ := hS9
      have s0 : W9.cell? ⟨H, 0, none⟩ = some (.int .u64 E) := q0.cell 0
      have s1 : W9.cell? ⟨H, 1, none⟩ = some (.slice (some ⟨g, 0, none⟩) n n) := q0.cell 1
      clear q0 q1
      go_simp
    try simp only [Act.put, List.setIfInBounds_toArray, List.set_cons_zero, List.set_cons_succ]
    refine wpAnyN_take (i := 4) (oi := { dst := some 8, op := Go.Op.fieldAddr 44 (Go.Operand.tmp 3) 1, type := 0, pos := "hand.go:46", after := #[], guard := none }) (v := .pointer (some ⟨w.heap.size, 1, none⟩)) rfl (by decide) (by kernel_rfl) (by kernel_rfl) (by kernel_rfl) (fun _ _ _ h => h) (Or.inl ⟨by rfl, ?_⟩) hS0 ?_
    · intro W9 hS9
      obtain ⟨q0, q1⟩ := hS9
      clear q0 q1
      go_simp
    try simp only [Act.put, List.setIfInBounds_toArray, List.set_cons_zero, List.set_cons_succ]
    refine wpAnyN_take (i := 5) (oi := { dst := some 9, op := Go.Op.load 3 (Go.Operand.tmp 8), type := 3, pos := "hand.go:46", after := #[{ on := 4, ground := Go.Ground.data }], guard := none }) (v := .int .i64 (k : Nat)) rfl (by decide) (by kernel_rfl) (by kernel_rfl) (by kernel_rfl) (fun _ _ _ h => h) (Or.inl ⟨by rfl, ?_⟩) hS0 ?_
    · intro W9 hS9
      obtain ⟨q0, q1⟩ := hS9
      have s0 : W9.cell? ⟨w.heap.size, 1, none⟩ = some (.int .i64 (k : Nat)) := q1.cell 1
      clear q0 q1
      go_simp
    try simp only [Act.put, List.setIfInBounds_toArray, List.set_cons_zero, List.set_cons_succ]
    refine wpAnyX_one (i := 6) (o := { dst := some 10, op := Go.Op.call { callee := Go.Callee.value (Go.Operand.func 49), args := #[Go.Operand.tmp 7, Go.Operand.tmp 9], argTypes := #[57, 3] }, type := 4, pos := "hand.go:46", after := #[{ on := 3, ground := Go.Ground.data }, { on := 5, ground := Go.Ground.data }], guard := none }) (by kernel_rfl) rfl (fun K hK => ?_)
    refine step_call_g (by rfl) 49 _ _ rfl (fun _ _ => by kernel_rfl) #[.agg #[.int .u64 E, .slice (some ⟨g, 0, none⟩) n n], .int .i64 (k : Nat)] (by simp [go_sem]) _ (HPV Wd HX0.out).out ?_
    rintro e w1 ⟨rfl, hC⟩
    refine ⟨_, rfl, ?_⟩
    have hS1 : Rows8 w1 H 67 #[.int .u64 E, .slice (some ⟨g, 0, none⟩) n n] ∧ Rows8 w1 w.heap.size 44 #[.int .i64 kd, .int .i64 (k : Nat), .int .u64 by_] := ⟨hS0.1.below hC hS0.1.lt, hS0.2.below hC hS0.2.lt⟩
    have HX1 := Lib.hid (HX0.out.below hC)
    have HB1 := Lib.hid (HB0.out.trans (hC.mono (Nat.le_trans hn0 HB0.out.size)))
    have HK1 := Lib.hid (HK0.out.trans (Kf.of_below (T := tP) hC))
    clear hC HX0 HB0 HK0
    refine hK.out _ _ (fun _ => hS1) ?_
    clear hK K
    try simp only [Act.put, List.setIfInBounds_toArray, List.set_cons_zero, List.set_cons_succ]
    refine wpAnyX_end (by kernel_rfl) ?_
    have HS := Lib.hid hS1
    clear hS0 hS1
    have HX := HX1
    have HAL := HB1
    have HKF := HK1
    clear HX1 HB1 HK1
    generalize w1 = W at *
    have HR0 : Hid (Rows8 W w.heap.size 44 #[.int .i64 kd, .int .i64 (k : Nat), .int .u64 by_]) := Lib.hid HS.out.2
    clear HS
    go_wp2_with fail
    by_cases hlt : E < by_
    · have HRR := Lib.hid (HR1.out.trans (if_pos hlt))
      have hd : decide (E < by_) = true := decide_eq_true hlt
      clear hlt HR1
      refine wp_region_X (fun W' => Rows8 W' H 67 #[.int .u64 E, .slice (some ⟨g, 0, none⟩) n n] ∧ Rows8 W' w.heap.size 44 #[.int .i64 kd, .int .i64 (k : Nat), .int .u64 by_]) 9 (by kernel_rfl) ?_
      have hS0 : Rows8 W.drew H 67 #[.int .u64 E, .slice (some ⟨g, 0, none⟩) n n] ∧ Rows8 W.drew w.heap.size 44 #[.int .i64 kd, .int .i64 (k : Nat), .int .u64 by_] := ⟨HX.out.bx.drewA, HR0.out.drewA⟩
      have HX0 := Lib.hid HX.out.drew
      have HB0 := Lib.hid HAL.out.drew
      have HK0 := Lib.hid HKF.out.drew
      clear HX HAL HKF HR0
      generalize W.drew = Wd at *
      refine wpAnyN_take (i := 0) (oi := { dst := some 12, op := Go.Op.fieldAddr 44 (Go.Operand.tmp 3) 2, type := 0, pos := "hand.go:49", after := #[], guard := none }) (v := .pointer (some ⟨w.heap.size, 2, none⟩)) rfl (by decide) (by kernel_rfl) (by kernel_rfl) (by kernel_rfl) (fun _ _ _ h => h) (Or.inl ⟨by rfl, ?_⟩) hS0 ?_
      · intro W9 hS9
        obtain ⟨q0, q1⟩ := hS9
        clear q0 q1
        go_simp
      try simp only [Act.put, List.setIfInBounds_toArray, List.set_cons_zero, List.set_cons_succ]
      refine wpAnyN_take (i := 1) (oi := { dst := some 13, op := Go.Op.load 22 (Go.Operand.tmp 12), type := 22, pos := "hand.go:49", after := #[{ on := 0, ground := Go.Ground.data }], guard := none }) (v := .int .u64 by_) rfl (by decide) (by kernel_rfl) (by kernel_rfl) (by kernel_rfl) (fun _ _ _ h => h) (Or.inl ⟨by rfl, ?_⟩) hS0 ?_
      · intro W9 hS9
        obtain ⟨q0, q1⟩ := hS9
        have s0 : W9.cell? ⟨w.heap.size, 2, none⟩ = some (.int .u64 by_) := q1.cell 2
        clear q0 q1
        go_simp
      try simp only [Act.put, List.setIfInBounds_toArray, List.set_cons_zero, List.set_cons_succ]
      refine wpAnyN_take (i := 2) (oi := { dst := some 14, op := Go.Op.move (Go.Operand.tmp 0), type := 76, pos := "hand.go:49", after := #[], guard := none }) (v := .pointer (some ⟨H, 0, none⟩)) rfl (by decide) (by kernel_rfl) (by kernel_rfl) (by kernel_rfl) (fun _ _ _ h => h) (Or.inl ⟨by rfl, ?_⟩) hS0 ?_
      · intro W9 hS9
        obtain ⟨q0, q1⟩ := hS9
        clear q0 q1
        go_simp
      try simp only [Act.put, List.setIfInBounds_toArray, List.set_cons_zero, List.set_cons_succ]
      refine wpAnyN_take (i := 3) (oi := { dst := some 15, op := Go.Op.nilCheck (Go.Operand.tmp 14), type := 0, pos := "hand.go:49", after := #[{ on := 2, ground := Go.Ground.data }], guard := none }) (v := .pointer (some ⟨H, 0, none⟩)) rfl (by decide) (by kernel_rfl) (by kernel_rfl) (by kernel_rfl) (fun _ _ _ h => h) (Or.inl ⟨by rfl, ?_⟩) hS0 ?_
      · intro W9 hS9
        obtain ⟨q0, q1⟩ := hS9
        clear q0 q1
        go_simp
      try simp only [Act.put, List.setIfInBounds_toArray, List.set_cons_zero, List.set_cons_succ]
      refine wpAnyN_take (i := 4) (oi := { dst := some 16, op := Go.Op.fieldAddr 67 (Go.Operand.tmp 15) 0, type := 0, pos := "hand.go:49", after := #[{ on := 3, ground := Go.Ground.data }], guard := none }) (v := .pointer (some ⟨H, 0, none⟩)) rfl (by decide) (by kernel_rfl) (by kernel_rfl) (by kernel_rfl) (fun _ _ _ h => h) (Or.inl ⟨by rfl, ?_⟩) hS0 ?_
      · intro W9 hS9
        obtain ⟨q0, q1⟩ := hS9
        clear q0 q1
        go_simp
      try simp only [Act.put, List.setIfInBounds_toArray, List.set_cons_zero, List.set_cons_succ]
      refine wpAnyN_take (i := 5) (oi := { dst := some 17, op := Go.Op.fieldAddr 57 (Go.Operand.tmp 16) 0, type := 0, pos := "hand.go:49", after := #[{ on := 4, ground := Go.Ground.data }], guard := none }) (v := .pointer (some ⟨H, 0, none⟩)) rfl (by decide) (by kernel_rfl) (by kernel_rfl) (by kernel_rfl) (fun _ _ _ h => h) (Or.inl ⟨by rfl, ?_⟩) hS0 ?_
      · intro W9 hS9
        obtain ⟨q0, q1⟩ := hS9
        clear q0 q1
        go_simp
      try simp only [Act.put, List.setIfInBounds_toArray, List.set_cons_zero, List.set_cons_succ]
      refine wpAnyN_take (i := 6) (oi := { dst := some 18, op := Go.Op.fieldAddr 25 (Go.Operand.tmp 17) 0, type := 0, pos := "hand.go:49", after := #[{ on := 5, ground := Go.Ground.data }], guard := none }) (v := .pointer (some ⟨H, 0, none⟩)) rfl (by decide) (by kernel_rfl) (by kernel_rfl) (by kernel_rfl) (fun _ _ _ h => h) (Or.inl ⟨by rfl, ?_⟩) hS0 ?_
      · intro W9 hS9
        obtain ⟨q0, q1⟩ := hS9
        clear q0 q1
        go_simp
      try simp only [Act.put, List.setIfInBounds_toArray, List.set_cons_zero, List.set_cons_succ]
      refine wpAnyN_take (i := 7) (oi := { dst := some 19, op := Go.Op.load 22 (Go.Operand.tmp 18), type := 22, pos := "hand.go:49", after := #[{ on := 6, ground := Go.Ground.data }], guard := none }) (v := .int .u64 E) rfl (by decide) (by kernel_rfl) (by kernel_rfl) (by kernel_rfl) (fun _ _ _ h => h) (Or.inl ⟨by rfl, ?_⟩) hS0 ?_
      · intro W9 hS9
        obtain ⟨q0, q1⟩ := hS9
        have s0 : W9.cell? ⟨H, 0, none⟩ = some (.int .u64 E) := q0.cell 0
        have s1 : W9.cell? ⟨H, 1, none⟩ = some (.slice (some ⟨g, 0, none⟩) n n) := q0.cell 1
        clear q0 q1
        go_simp
      try simp only [Act.put, List.setIfInBounds_toArray, List.set_cons_zero, List.set_cons_succ]
      refine wpAnyN_take (i := 8) (oi := { dst := some 20, op := Go.Op.binOp Go.BinOp.gtr 22 (Go.Operand.tmp 13) (Go.Operand.tmp 19) 22, type := 4, pos := "hand.go:49", after := #[{ on := 1, ground := Go.Ground.data }, { on := 7, ground := Go.Ground.data }], guard := none }) (v := .bool true) rfl (by decide) (by kernel_rfl) (by kernel_rfl) (by kernel_rfl) (fun _ _ _ h => h) (Or.inl ⟨by rfl, ?_⟩) hS0 ?_
      · intro W9 hS9
        obtain ⟨q0, q1⟩ := hS9
        clear q0 q1
        go_simp
      try simp only [Act.put, List.setIfInBounds_toArray, List.set_cons_zero, List.set_cons_succ]
      refine wpAnyX_end (by kernel_rfl) ?_
      have HS := Lib.hid hS0
      clear hS0
      have HX := HX0
      have HAL := HB0
      have HKF := HK0
      clear HX0 HB0 HK0
      generalize Wd = W at *
      have HR0 : Hid (Rows8 W w.heap.size 44 #[.int .i64 kd, .int .i64 (k : Nat), .int .u64 by_]) := Lib.hid HS.out.2
      clear HS
      go_wp2_with fail
      refine ⟨rfl, ?_⟩
      rw [HRR.out]
      exact ⟨.inr ⟨by simp, rfl⟩, ⟨_, _, HX.out⟩, HAL.out, HKF.out⟩
    · have HRR := Lib.hid (HR1.out.trans (if_neg hlt))
      have hd : decide (E < by_) = false := decide_eq_false hlt
      have hw1 : IntKind.u64.wrap (E - by_) = E - by_ := wrap_u _ (by omega) (by omega)
      have hw2 : IntKind.u64.wrap (E - by_ + 1) = E - by_ + 1 := wrap_u _ (by omega) (by omega)
      clear hlt HR1
      refine wp_region_X (fun W' => Rows8 W' H 67 #[.int .u64 E, .slice (some ⟨g, 0, none⟩) n n] ∧ Rows8 W' w.heap.size 44 #[.int .i64 kd, .int .i64 (k : Nat), .int .u64 by_]) 9 (by kernel_rfl) ?_
      have hS0 : Rows8 W.drew H 67 #[.int .u64 E, .slice (some ⟨g, 0, none⟩) n n] ∧ Rows8 W.drew w.heap.size 44 #[.int .i64 kd, .int .i64 (k : Nat), .int .u64 by_] := ⟨HX.out.bx.drewA, HR0.out.drewA⟩
      have HX0 := Lib.hid HX.out.drew
      have HB0 := Lib.hid HAL.out.drew
      have HK0 := Lib.hid HKF.out.drew
      clear HX HAL HKF HR0
      generalize W.drew = Wd at *
      refine wpAnyN_take (i := 0) (oi := { dst := some 12, op := Go.Op.fieldAddr 44 (Go.Operand.tmp 3) 2, type := 0, pos := "hand.go:49", after := #[], guard := none }) (v := .pointer (some ⟨w.heap.size, 2, none⟩)) rfl (by decide) (by kernel_rfl) (by kernel_rfl) (by kernel_rfl) (fun _ _ _ h => h) (Or.inl ⟨by rfl, ?_⟩) hS0 ?_
      · intro W9 hS9
        obtain ⟨q0, q1⟩ := hS9
        clear q0 q1
        go_simp
      try simp only [Act.put, List.setIfInBounds_toArray, List.set_cons_zero, List.set_cons_succ]
      refine wpAnyN_take (i := 1) (oi := { dst := some 13, op := Go.Op.load 22 (Go.Operand.tmp 12), type := 22, pos := "hand.go:49", after := #[{ on := 0, ground := Go.Ground.data }], guard := none }) (v := .int .u64 by_) rfl (by decide) (by kernel_rfl) (by kernel_rfl) (by kernel_rfl) (fun _ _ _ h => h) (Or.inl ⟨by rfl, ?_⟩) hS0 ?_
      · intro W9 hS9
        obtain ⟨q0, q1⟩ := hS9
        have s0 : W9.cell? ⟨w.heap.size, 2, none⟩ = some (.int .u64 by_) := q1.cell 2
        clear q0 q1
        go_simp
      try simp only [Act.put, List.setIfInBounds_toArray, List.set_cons_zero, List.set_cons_succ]
      refine wpAnyN_take (i := 2) (oi := { dst := some 14, op := Go.Op.move (Go.Operand.tmp 0), type := 76, pos := "hand.go:49", after := #[], guard := none }) (v := .pointer (some ⟨H, 0, none⟩)) rfl (by decide) (by kernel_rfl) (by kernel_rfl) (by kernel_rfl) (fun _ _ _ h => h) (Or.inl ⟨by rfl, ?_⟩) hS0 ?_
      · intro W9 hS9
        obtain ⟨q0, q1⟩ := hS9
        clear q0 q1
        go_simp
      try simp only [Act.put, List.setIfInBounds_toArray, List.set_cons_zero, List.set_cons_succ]
      refine wpAnyN_take (i := 3) (oi := { dst := some 15, op := Go.Op.nilCheck (Go.Operand.tmp 14), type := 0, pos := "hand.go:49", after := #[{ on := 2, ground := Go.Ground.data }], guard := none }) (v := .pointer (some ⟨H, 0, none⟩)) rfl (by decide) (by kernel_rfl) (by kernel_rfl) (by kernel_rfl) (fun _ _ _ h => h) (Or.inl ⟨by rfl, ?_⟩) hS0 ?_
      · intro W9 hS9
        obtain ⟨q0, q1⟩ := hS9
        clear q0 q1
        go_simp
      try simp only [Act.put, List.setIfInBounds_toArray, List.set_cons_zero, List.set_cons_succ]
      refine wpAnyN_take (i := 4) (oi := { dst := some 16, op := Go.Op.fieldAddr 67 (Go.Operand.tmp 15) 0, type := 0, pos := "hand.go:49", after := #[{ on := 3, ground := Go.Ground.data }], guard := none }) (v := .pointer (some ⟨H, 0, none⟩)) rfl (by decide) (by kernel_rfl) (by kernel_rfl) (by kernel_rfl) (fun _ _ _ h => h) (Or.inl ⟨by rfl, ?_⟩) hS0 ?_
      · intro W9 hS9
        obtain ⟨q0, q1⟩ := hS9
        clear q0 q1
        go_simp
      try simp only [Act.put, List.setIfInBounds_toArray, List.set_cons_zero, List.set_cons_succ]
      refine wpAnyN_take (i := 5) (oi := { dst := some 17, op := Go.Op.fieldAddr 57 (Go.Operand.tmp 16) 0, type := 0, pos := "hand.go:49", after := #[{ on := 4, ground := Go.Ground.data }], guard := none }) (v := .pointer (some ⟨H, 0, none⟩)) rfl (by decide) (by kernel_rfl) (by kernel_rfl) (by kernel_rfl) (fun _ _ _ h => h) (Or.inl ⟨by rfl, ?_⟩) hS0 ?_
      · intro W9 hS9
        obtain ⟨q0, q1⟩ := hS9
        clear q0 q1
        go_simp
      try simp only [Act.put, List.setIfInBounds_toArray, List.set_cons_zero, List.set_cons_succ]
      refine wpAnyN_take (i := 6) (oi := { dst := some 18, op := Go.Op.fieldAddr 25 (Go.Operand.tmp 17) 0, type := 0, pos := "hand.go:49", after := #[{ on := 5, ground := Go.Ground.data }], guard := none }) (v := .pointer (some ⟨H, 0, none⟩)) rfl (by decide) (by kernel_rfl) (by kernel_rfl) (by kernel_rfl) (fun _ _ _ h => h) (Or.inl ⟨by rfl, ?_⟩) hS0 ?_
      · intro W9 hS9
        obtain ⟨q0, q1⟩ := hS9
        clear q0 q1
        go_simp
      try simp only [Act.put, List.setIfInBounds_toArray, List.set_cons_zero, List.set_cons_succ]
      refine wpAnyN_take (i := 7) (oi := { dst := some 19, op := Go.Op.load 22 (Go.Operand.tmp 18), type := 22, pos := "hand.go:49", after := #[{ on := 6, ground := Go.Ground.data }], guard := none }) (v := .int .u64 E) rfl (by decide) (by kernel_rfl) (by kernel_rfl) (by kernel_rfl) (fun _ _ _ h => h) (Or.inl ⟨by rfl, ?_⟩) hS0 ?_
      · intro W9 hS9
        obtain ⟨q0, q1⟩ := hS9
        have s0 : W9.cell? ⟨H, 0, none⟩ = some (.int .u64 E) := q0.cell 0
        have s1 : W9.cell? ⟨H, 1, none⟩ = some (.slice (some ⟨g, 0, none⟩) n n) := q0.cell 1
        clear q0 q1
        go_simp
      try simp only [Act.put, List.setIfInBounds_toArray, List.set_cons_zero, List.set_cons_succ]
      refine wpAnyN_take (i := 8) (oi := { dst := some 20, op := Go.Op.binOp Go.BinOp.gtr 22 (Go.Operand.tmp 13) (Go.Operand.tmp 19) 22, type := 4, pos := "hand.go:49", after := #[{ on := 1, ground := Go.Ground.data }, { on := 7, ground := Go.Ground.data }], guard := none }) (v := .bool false) rfl (by decide) (by kernel_rfl) (by kernel_rfl) (by kernel_rfl) (fun _ _ _ h => h) (Or.inl ⟨by rfl, ?_⟩) hS0 ?_
      · intro W9 hS9
        obtain ⟨q0, q1⟩ := hS9
        clear q0 q1
        go_simp
      try simp only [Act.put, List.setIfInBounds_toArray, List.set_cons_zero, List.set_cons_succ]
      refine wpAnyX_end (by kernel_rfl) ?_
      have HS := Lib.hid hS0
      clear hS0
      have HX := HX0
      have HAL := HB0
      have HKF := HK0
      clear HX0 HB0 HK0
      generalize Wd = W at *
      have HR0 : Hid (Rows8 W w.heap.size 44 #[.int .i64 kd, .int .i64 (k : Nat), .int .u64 by_]) := Lib.hid HS.out.2
      clear HS
      go_wp2_with fail
      refine wp_region_L (fun W' => Rows8 W' H 67 #[.int .u64 E, .slice (some ⟨g, 0, none⟩) n n] ∧ Rows8 W' w.heap.size 44 #[.int .i64 kd, .int .i64 (k : Nat), .int .u64 by_]) 20 (by kernel_rfl) ?_
      have hS0 : Rows8 W.drew H 67 #[.int .u64 E, .slice (some ⟨g, 0, none⟩) n n] ∧ Rows8 W.drew w.heap.size 44 #[.int .i64 kd, .int .i64 (k : Nat), .int .u64 by_] := ⟨HX.out.bx.drewA, HR0.out.drewA⟩
      have HX0 := Lib.hid HX.out.drew
      have HB0 := Lib.hid HAL.out.drew
      have HK0 := Lib.hid HKF.out.drew
      clear HX HAL HKF HR0
      generalize W.drew = Wd at *
      refine wpAnyL_take (i := 0) (oi := { dst := some 22, op := Go.Op.move (Go.Operand.tmp 0), type := 76, pos := "hand.go:52", after := #[], guard := none }) (v := .pointer (some ⟨H, 0, none⟩)) rfl (by kernel_rfl) (by kernel_rfl) (by kernel_rfl) (by kernel_rfl) (fun _ _ _ h => h) (Or.inl ⟨by rfl, ?_⟩) hS0 ?_
      · intro W9 hS9
        obtain ⟨q0, q1⟩ := hS9
        clear q0 q1
        go_simp
      try simp only [Act.put, List.setIfInBounds_toArray, List.set_cons_zero, List.set_cons_succ]
      refine wpAnyL_take (i := 1) (oi := { dst := some 23, op := Go.Op.nilCheck (Go.Operand.tmp 22), type := 0, pos := "hand.go:52", after := #[{ on := 0, ground := Go.Ground.data }], guard := none }) (v := .pointer (some ⟨H, 0, none⟩)) rfl (by kernel_rfl) (by kernel_rfl) (by kernel_rfl) (by kernel_rfl) (fun _ _ _ h => h) (Or.inl ⟨by rfl, ?_⟩) hS0 ?_
      · intro W9 hS9
        obtain ⟨q0, q1⟩ := hS9
        clear q0 q1
        go_simp
      try simp only [Act.put, List.setIfInBounds_toArray, List.set_cons_zero, List.set_cons_succ]
      refine wpAnyL_take (i := 2) (oi := { dst := some 24, op := Go.Op.fieldAddr 67 (Go.Operand.tmp 23) 0, type := 0, pos := "hand.go:52", after := #[{ on := 1, ground := Go.Ground.data }], guard := none }) (v := .pointer (some ⟨H, 0, none⟩)) rfl (by kernel_rfl) (by kernel_rfl) (by kernel_rfl) (by kernel_rfl) (fun _ _ _ h => h) (Or.inl ⟨by rfl, ?_⟩) hS0 ?_
      · intro W9 hS9
        obtain ⟨q0, q1⟩ := hS9
        clear q0 q1
        go_simp
      try simp only [Act.put, List.setIfInBounds_toArray, List.set_cons_zero, List.set_cons_succ]
      refine wpAnyL_take (i := 3) (oi := { dst := some 25, op := Go.Op.fieldAddr 57 (Go.Operand.tmp 24) 0, type := 0, pos := "hand.go:52", after := #[{ on := 2, ground := Go.Ground.data }], guard := none }) (v := .pointer (some ⟨H, 0, none⟩)) rfl (by kernel_rfl) (by kernel_rfl) (by kernel_rfl) (by kernel_rfl) (fun _ _ _ h => h) (Or.inl ⟨by rfl, ?_⟩) hS0 ?_
      · intro W9 hS9
        obtain ⟨q0, q1⟩ := hS9
        clear q0 q1
        go_simp
      try simp only [Act.put, List.setIfInBounds_toArray, List.set_cons_zero, List.set_cons_succ]
      refine wpAnyL_take (i := 4) (oi := { dst := some 26, op := Go.Op.fieldAddr 25 (Go.Operand.tmp 25) 1, type := 0, pos := "hand.go:52", after := #[{ on := 3, ground := Go.Ground.data }], guard := none }) (v := .pointer (some ⟨H, 1, none⟩)) rfl (by kernel_rfl) (by kernel_rfl) (by kernel_rfl) (by kernel_rfl) (fun _ _ _ h => h) (Or.inl ⟨by rfl, ?_⟩) hS0 ?_
      · intro W9 hS9
        obtain ⟨q0, q1⟩ := hS9
        clear q0 q1
        go_simp
      try simp only [Act.put, List.setIfInBounds_toArray, List.set_cons_zero, List.set_cons_succ]
      refine wpAnyL_take (i := 5) (oi := { dst := some 27, op := Go.Op.load 23 (Go.Operand.tmp 26), type := 23, pos := "hand.go:52", after := #[{ on := 4, ground := Go.Ground.data }], guard := none }) (v := .slice (some ⟨g, 0, none⟩) n n) rfl (by kernel_rfl) (by kernel_rfl) (by kernel_rfl) (by kernel_rfl) (fun _ _ _ h => h) (Or.inl ⟨by rfl, ?_⟩) hS0 ?_
      · intro W9 hS9
        obtain ⟨q0, q1⟩ := hS9
        have s0 : W9.cell? ⟨H, 0, none⟩ = some (.int .u64 E) := q0.cell 0
        have s1 : W9.cell? ⟨H, 1, none⟩ = some (.slice (some ⟨g, 0, none⟩) n n) := q0.cell 1
        clear q0 q1
        go_simp
      try simp only [Act.put, List.setIfInBounds_toArray, List.set_cons_zero, List.set_cons_succ]
      refine wpAnyL_take (i := 6) (oi := { dst := some 28, op := Go.Op.fieldAddr 44 (Go.Operand.tmp 3) 1, type := 0, pos := "hand.go:52", after := #[], guard := none }) (v := .pointer (some ⟨w.heap.size, 1, none⟩)) rfl (by kernel_rfl) (by kernel_rfl) (by kernel_rfl) (by kernel_rfl) (fun _ _ _ h => h) (Or.inl ⟨by rfl, ?_⟩) hS0 ?_
      · intro W9 hS9
        obtain ⟨q0, q1⟩ := hS9
        clear q0 q1
        go_simp
      try simp only [Act.put, List.setIfInBounds_toArray, List.set_cons_zero, List.set_cons_succ]
      refine wpAnyL_take (i := 7) (oi := { dst := some 29, op := Go.Op.load 3 (Go.Operand.tmp 28), type := 3, pos := "hand.go:52", after := #[{ on := 6, ground := Go.Ground.data }], guard := none }) (v := .int .i64 (k : Nat)) rfl (by kernel_rfl) (by kernel_rfl) (by kernel_rfl) (by kernel_rfl) (fun _ _ _ h => h) (Or.inl ⟨by rfl, ?_⟩) hS0 ?_
      · intro W9 hS9
        obtain ⟨q0, q1⟩ := hS9
        have s0 : W9.cell? ⟨w.heap.size, 1, none⟩ = some (.int .i64 (k : Nat)) := q1.cell 1
        clear q0 q1
        go_simp
      try simp only [Act.put, List.setIfInBounds_toArray, List.set_cons_zero, List.set_cons_succ]
      refine wpAnyL_take (i := 8) (oi := { dst := some 30, op := Go.Op.move (Go.Operand.tmp 0), type := 76, pos := "hand.go:52", after := #[], guard := none }) (v := .pointer (some ⟨H, 0, none⟩)) rfl (by kernel_rfl) (by kernel_rfl) (by kernel_rfl) (by kernel_rfl) (fun _ _ _ h => h) (Or.inl ⟨by rfl, ?_⟩) hS0 ?_
      · intro W9 hS9
        obtain ⟨q0, q1⟩ := hS9
        clear q0 q1
        go_simp
      try simp only [Act.put, List.setIfInBounds_toArray, List.set_cons_zero, List.set_cons_succ]
      refine wpAnyL_take (i := 9) (oi := { dst := some 31, op := Go.Op.nilCheck (Go.Operand.tmp 30), type := 0, pos := "hand.go:52", after := #[{ on := 8, ground := Go.Ground.data }], guard := none }) (v := .pointer (some ⟨H, 0, none⟩)) rfl (by kernel_rfl) (by kernel_rfl) (by kernel_rfl) (by kernel_rfl) (fun _ _ _ h => h) (Or.inl ⟨by rfl, ?_⟩) hS0 ?_
      · intro W9 hS9
        obtain ⟨q0, q1⟩ := hS9
        clear q0 q1
        go_simp
      try simp only [Act.put, List.setIfInBounds_toArray, List.set_cons_zero, List.set_cons_succ]
      refine wpAnyL_take (i := 10) (oi := { dst := some 32, op := Go.Op.fieldAddr 67 (Go.Operand.tmp 31) 0, type := 0, pos := "hand.go:52", after := #[{ on := 9, ground := Go.Ground.data }], guard := none }) (v := .pointer (some ⟨H, 0, none⟩)) rfl (by kernel_rfl) (by kernel_rfl) (by kernel_rfl) (by kernel_rfl) (fun _ _ _ h => h) (Or.inl ⟨by rfl, ?_⟩) hS0 ?_
      · intro W9 hS9
        obtain ⟨q0, q1⟩ := hS9
        clear q0 q1
        go_simp
      try simp only [Act.put, List.setIfInBounds_toArray, List.set_cons_zero, List.set_cons_succ]
      refine wpAnyL_take (i := 11) (oi := { dst := some 33, op := Go.Op.fieldAddr 57 (Go.Operand.tmp 32) 0, type := 0, pos := "hand.go:52", after := #[{ on := 10, ground := Go.Ground.data }], guard := none }) (v := .pointer (some ⟨H, 0, none⟩)) rfl (by kernel_rfl) (by kernel_rfl) (by kernel_rfl) (by kernel_rfl) (fun _ _ _ h => h) (Or.inl ⟨by rfl, ?_⟩) hS0 ?_
      · intro W9 hS9
        obtain ⟨q0, q1⟩ := hS9
        clear q0 q1
        go_simp
      try simp only [Act.put, List.setIfInBounds_toArray, List.set_cons_zero, List.set_cons_succ]
      refine wpAnyL_take (i := 12) (oi := { dst := some 34, op := Go.Op.fieldAddr 25 (Go.Operand.tmp 33) 0, type := 0, pos := "hand.go:52", after := #[{ on := 11, ground := Go.Ground.data }], guard := none }) (v := .pointer (some ⟨H, 0, none⟩)) rfl (by kernel_rfl) (by kernel_rfl) (by kernel_rfl) (by kernel_rfl) (fun _ _ _ h => h) (Or.inl ⟨by rfl, ?_⟩) hS0 ?_
      · intro W9 hS9
        obtain ⟨q0, q1⟩ := hS9
        clear q0 q1
        go_simp
      try simp only [Act.put, List.setIfInBounds_toArray, List.set_cons_zero, List.set_cons_succ]
      refine wpAnyL_take (i := 13) (oi := { dst := some 35, op := Go.Op.load 22 (Go.Operand.tmp 34), type := 22, pos := "hand.go:52", after := #[{ on := 12, ground := Go.Ground.data }], guard := none }) (v := .int .u64 E) rfl (by kernel_rfl) (by kernel_rfl) (by kernel_rfl) (by kernel_rfl) (fun _ _ _ h => h) (Or.inl ⟨by rfl, ?_⟩) hS0 ?_
      · intro W9 hS9
        obtain ⟨q0, q1⟩ := hS9
        have s0 : W9.cell? ⟨H, 0, none⟩ = some (.int .u64 E) := q0.cell 0
        have s1 : W9.cell? ⟨H, 1, none⟩ = some (.slice (some ⟨g, 0, none⟩) n n) := q0.cell 1
        clear q0 q1
        go_simp
      try simp only [Act.put, List.setIfInBounds_toArray, List.set_cons_zero, List.set_cons_succ]
      refine wpAnyL_take (i := 14) (oi := { dst := some 36, op := Go.Op.fieldAddr 44 (Go.Operand.tmp 3) 2, type := 0, pos := "hand.go:52", after := #[], guard := none }) (v := .pointer (some ⟨w.heap.size, 2, none⟩)) rfl (by kernel_rfl) (by kernel_rfl) (by kernel_rfl) (by kernel_rfl) (fun _ _ _ h => h) (Or.inl ⟨by rfl, ?_⟩) hS0 ?_
      · intro W9 hS9
        obtain ⟨q0, q1⟩ := hS9
        clear q0 q1
        go_simp
      try simp only [Act.put, List.setIfInBounds_toArray, List.set_cons_zero, List.set_cons_succ]
      refine wpAnyL_take (i := 15) (oi := { dst := some 37, op := Go.Op.load 22 (Go.Operand.tmp 36), type := 22, pos := "hand.go:52", after := #[{ on := 14, ground := Go.Ground.data }], guard := none }) (v := .int .u64 by_) rfl (by kernel_rfl) (by kernel_rfl) (by kernel_rfl) (by kernel_rfl) (fun _ _ _ h => h) (Or.inl ⟨by rfl, ?_⟩) hS0 ?_
      · intro W9 hS9
        obtain ⟨q0, q1⟩ := hS9
        have s0 : W9.cell? ⟨w.heap.size, 2, none⟩ = some (.int .u64 by_) := q1.cell 2
        clear q0 q1
        go_simp
      try simp only [Act.put, List.setIfInBounds_toArray, List.set_cons_zero, List.set_cons_succ]
      refine wpAnyL_take (i := 16) (oi := { dst := some 38, op := Go.Op.binOp Go.BinOp.sub 22 (Go.Operand.tmp 35) (Go.Operand.tmp 37) 22, type := 22, pos := "hand.go:52", after := #[{ on := 13, ground := Go.Ground.data }, { on := 15, ground := Go.Ground.data }], guard := none }) (v := .int .u64 (E - by_)) rfl (by kernel_rfl) (by kernel_rfl) (by kernel_rfl) (by kernel_rfl) (fun _ _ _ h => h) (Or.inl ⟨by rfl, ?_⟩) hS0 ?_
      · intro W9 hS9
        obtain ⟨q0, q1⟩ := hS9
        clear q0 q1
        go_simp
      try simp only [Act.put, List.setIfInBounds_toArray, List.set_cons_zero, List.set_cons_succ]
      refine wpAnyL_take (i := 17) (oi := { dst := some 39, op := Go.Op.binOp Go.BinOp.add 22 (Go.Operand.tmp 38) (Go.Operand.const (Go.Value.int Go.IntKind.u64 1)) 22, type := 22, pos := "hand.go:52", after := #[{ on := 16, ground := Go.Ground.data }], guard := none }) (v := .int .u64 (E - by_ + 1)) rfl (by kernel_rfl) (by kernel_rfl) (by kernel_rfl) (by kernel_rfl) (fun _ _ _ h => h) (Or.inl ⟨by rfl, ?_⟩) hS0 ?_
      · intro W9 hS9
        obtain ⟨q0, q1⟩ := hS9
        clear q0 q1
        go_simp
      try simp only [Act.put, List.setIfInBounds_toArray, List.set_cons_zero, List.set_cons_succ]
      refine wpAnyL_take (i := 18) (oi := { dst := some 40, op := Go.Op.indexAddr 23 (Go.Operand.tmp 27) (Go.Operand.tmp 29), type := 0, pos := "hand.go:52", after := #[{ on := 5, ground := Go.Ground.data }, { on := 7, ground := Go.Ground.data }, { on := 0, ground := Go.Ground.phase }, { on := 1, ground := Go.Ground.phase }, { on := 2, ground := Go.Ground.phase }, { on := 3, ground := Go.Ground.phase }, { on := 4, ground := Go.Ground.phase }, { on := 5, ground := Go.Ground.phase }, { on := 6, ground := Go.Ground.phase }, { on := 7, ground := Go.Ground.phase }, { on := 8, ground := Go.Ground.phase }, { on := 9, ground := Go.Ground.phase }, { on := 10, ground := Go.Ground.phase }, { on := 11, ground := Go.Ground.phase }, { on := 12, ground := Go.Ground.phase }, { on := 13, ground := Go.Ground.phase }, { on := 14, ground := Go.Ground.phase }, { on := 15, ground := Go.Ground.phase }, { on := 16, ground := Go.Ground.phase }, { on := 17, ground := Go.Ground.phase }], guard := none }) (v := .pointer (some ⟨g, k, none⟩)) rfl (by kernel_rfl) (by kernel_rfl) (by kernel_rfl) (by kernel_rfl) (fun _ _ _ h => h) (Or.inl ⟨by rfl, ?_⟩) hS0 ?_
      · intro W9 hS9
        obtain ⟨q0, q1⟩ := hS9
        clear q0 q1
        go_simp
      try simp only [Act.put, List.setIfInBounds_toArray, List.set_cons_zero, List.set_cons_succ]
      refine wpAnyL_one (i := 19) (o := { dst := none, op := Go.Op.store 22 (Go.Operand.tmp 40) (Go.Operand.tmp 39), type := 0, pos := "hand.go:52", after := #[{ on := 18, ground := Go.Ground.data }, { on := 17, ground := Go.Ground.data }, { on := 0, ground := Go.Ground.phase }, { on := 1, ground := Go.Ground.phase }, { on := 2, ground := Go.Ground.phase }, { on := 3, ground := Go.Ground.phase }, { on := 4, ground := Go.Ground.phase }, { on := 5, ground := Go.Ground.phase }, { on := 6, ground := Go.Ground.phase }, { on := 7, ground := Go.Ground.phase }, { on := 8, ground := Go.Ground.phase }, { on := 9, ground := Go.Ground.phase }, { on := 10, ground := Go.Ground.phase }, { on := 11, ground := Go.Ground.phase }, { on := 12, ground := Go.Ground.phase }, { on := 13, ground := Go.Ground.phase }, { on := 14, ground := Go.Ground.phase }, { on := 15, ground := Go.Ground.phase }, { on := 16, ground := Go.Ground.phase }, { on := 17, ground := Go.Ground.phase }], guard := none }) (by kernel_rfl) rfl (fun K hK => ?_)
      obtain ⟨cur, rc, hg0, hcells⟩ := HX0.out.rows
      have cK : Wd.cell? ⟨g, k, none⟩ = some (.int .u64 (S[k]?.getD 0)) := hcells k HK9.out
      have fK := rc.frozen k
      refine step_skip_g (by rfl) (w' := Wd.setCell ⟨g, k, none⟩ (.int .u64 (E - by_ + 1))) (by go_simp) ?_
      have hX1 := HX0.out.set rc k (E - by_ + 1)
      have hS1 : Rows8 (Wd.setCell ⟨g, k, none⟩ (.int .u64 (E - by_ + 1))) H 67 #[.int .u64 E, .slice (some ⟨g, 0, none⟩) n n] ∧ Rows8 (Wd.setCell ⟨g, k, none⟩ (.int .u64 (E - by_ + 1))) w.heap.size 44 #[.int .i64 kd, .int .i64 (k : Nat), .int .u64 by_] := ⟨hX1.bx, hS0.2.setOther (a := ⟨g, k, none⟩) (fun e => rows_apart hS0.2 rc (by decide) e.symm) _⟩
      have HX1 := Lib.hid hX1
      have HB1 := Lib.hid (HB0.out.setCell (p := ⟨g, k, none⟩) hg0 (.int .u64 (E - by_ + 1)))
      have HK1 := Lib.hid (HK0.out.trans (Kf.set (T := tP) (t := 22) (by decide) Wd (a := ⟨g, k, none⟩) rc (.int .u64 (E - by_ + 1))))
      clear cK fK hX1 HX0 HB0 HK0
      refine hK.out _ _ (fun _ => hS1) ?_
      clear hK K
      try simp only [Act.put, List.setIfInBounds_toArray, List.set_cons_zero, List.set_cons_succ]
      refine wpAnyL_end (by kernel_rfl) ?_
      go_end0
      rw [HRR.out]
      exact ⟨.inl ⟨rfl, rfl⟩, ⟨_, _, HX1.out⟩, HB1.out, HK1.out⟩
  · have HRR := Lib.hid (HR.out.trans (if_pos hz))
    have hzb : (z != 0) = true := by simp [hz]
    rw [hzb] at HPV
    clear hz hzb HR
    refine wp_region_X (fun W' => Rows8 W' H 67 #[.int .u64 E, .slice (some ⟨g, 0, none⟩) n n] ∧ Rows8 W' w.heap.size 44 #[.int .i64 kd, .int .i64 (k : Nat), .int .u64 by_]) 7 (by kernel_rfl) ?_
    have hS0 : Rows8 W.drew H 67 #[.int .u64 E, .slice (some ⟨g, 0, none⟩) n n] ∧ Rows8 W.drew w.heap.size 44 #[.int .i64 kd, .int .i64 (k : Nat), .int .u64 by_] := ⟨HX.out.bx.drewA, HR0.out.drewA⟩
    have HX0 := Lib.hid HX.out.drew
    have HB0 := Lib.hid HAL.out.drew
    have HK0 := Lib.hid HKF.out.drew
    clear HX HAL HKF HR0
    generalize W.drew = Wd at *
    refine wpAnyN_take (i := 0) (oi := { dst := some 4, op := Go.Op.move (Go.Operand.tmp 0), type := 76, pos := "hand.go:46", after := #[], guard := none }) (v := .pointer (some ⟨H, 0, none⟩)) rfl (by decide) (by kernel_rfl) (by kernel_rfl) (by kernel_rfl) (fun _ _ _ h => h) (Or.inl ⟨by rfl, ?_⟩) hS0 ?_
    · intro W9 hS9
      obtain ⟨q0, q1⟩ := hS9
      clear q0 q1
      go_simp
    try simp only [Act.put, List.setIfInBounds_toArray, List.set_cons_zero, List.set_cons_succ]
    refine wpAnyN_take (i := 1) (oi := { dst := some 5, op := Go.Op.nilCheck (Go.Operand.tmp 4), type := 0, pos := "hand.go:46", after := #[{ on := 0, ground := Go.Ground.data }], guard := none }) (v := .pointer (some ⟨H, 0, none⟩)) rfl (by decide) (by kernel_rfl) (by kernel_rfl) (by kernel_rfl) (fun _ _ _ h => h) (Or.inl ⟨by rfl, ?_⟩) hS0 ?_
    · intro W9 hS9
      obtain ⟨q0, q1⟩ := hS9
      clear q0 q1
      go_simp
    try simp only [Act.put, List.setIfInBounds_toArray, List.set_cons_zero, List.set_cons_succ]
    refine wpAnyN_take (i := 2) (oi := { dst := some 6, op := Go.Op.fieldAddr 67 (Go.Operand.tmp 5) 0, type := 0, pos := "hand.go:46", after := #[{ on := 1, ground := Go.Ground.data }], guard := none }) (v := .pointer (some ⟨H, 0, none⟩)) rfl (by decide) (by kernel_rfl) (by kernel_rfl) (by kernel_rfl) (fun _ _ _ h => h) (Or.inl ⟨by rfl, ?_⟩) hS0 ?_
    · intro W9 hS9
      obtain ⟨q0, q1⟩ := hS9
      clear q0 q1
      go_simp
    try simp only [Act.put, List.setIfInBounds_toArray, List.set_cons_zero, List.set_cons_succ]
    refine wpAnyN_take (i := 3) (oi := { dst := some 7, op := Go.Op.load 57 (Go.Operand.tmp 6), type := 57, pos := "hand.go:46", after := #[{ on := 2, ground := Go.Ground.data }], guard := none }) (v := .agg #[.int .u64 E, .slice (some ⟨g, 0, none⟩) n n]) rfl (by decide) (by kernel_rfl) (by kernel_rfl) (by kernel_rfl) (fun _ _ _ h => h) (Or.inl ⟨by rfl, ?_⟩) hS0 ?_
    · intro W9 hS9
      obtain ⟨q0, q1⟩ := hS9
      have s0 : W9.cell? ⟨H, 0, none⟩ = some (.int .u64 E) := q0.cell 0
      have s1 : W9.cell? ⟨H, 1, none⟩ = some (.slice (some ⟨g, 0, none⟩) n n) := q0.cell 1
      clear q0 q1
      go_simp
    try simp only [Act.put, List.setIfInBounds_toArray, List.set_cons_zero, List.set_cons_succ]
    refine wpAnyN_take (i := 4) (oi := { dst := some 8, op := Go.Op.fieldAddr 44 (Go.Operand.tmp 3) 1, type := 0, pos := "hand.go:46", after := #[], guard := none }) (v := .pointer (some ⟨w.heap.size, 1, none⟩)) rfl (by decide) (by kernel_rfl) (by kernel_rfl) (by kernel_rfl) (fun _ _ _ h => h) (Or.inl ⟨by rfl, ?_⟩) hS0 ?_
    · intro W9 hS9
      obtain ⟨q0, q1⟩ := hS9
      clear q0 q1
      go_simp
    try simp only [Act.put, List.setIfInBounds_toArray, List.set_cons_zero, List.set_cons_succ]
    refine wpAnyN_take (i := 5) (oi := { dst := some 9, op := Go.Op.load 3 (Go.Operand.tmp 8), type := 3, pos := "hand.go:46", after := #[{ on := 4, ground := Go.Ground.data }], guard := none }) (v := .int .i64 (k : Nat)) rfl (by decide) (by kernel_rfl) (by kernel_rfl) (by kernel_rfl) (fun _ _ _ h => h) (Or.inl ⟨by rfl, ?_⟩) hS0 ?_
    · intro W9 hS9
      obtain ⟨q0, q1⟩ := hS9
      have s0 : W9.cell? ⟨w.heap.size, 1, none⟩ = some (.int .i64 (k : Nat)) := q1.cell 1
      clear q0 q1
      go_simp
    try simp only [Act.put, List.setIfInBounds_toArray, List.set_cons_zero, List.set_cons_succ]
    refine wpAnyX_one (i := 6) (o := { dst := some 10, op := Go.Op.call { callee := Go.Callee.value (Go.Operand.func 49), args := #[Go.Operand.tmp 7, Go.Operand.tmp 9], argTypes := #[57, 3] }, type := 4, pos := "hand.go:46", after := #[{ on := 3, ground := Go.Ground.data }, { on := 5, ground := Go.Ground.data }], guard := none }) (by kernel_rfl) rfl (fun K hK => ?_)
    refine step_call_g (by rfl) 49 _ _ rfl (fun _ _ => by kernel_rfl) #[.agg #[.int .u64 E, .slice (some ⟨g, 0, none⟩) n n], .int .i64 (k : Nat)] (by simp [go_sem]) _ (HPV Wd HX0.out).out ?_
    rintro e w1 ⟨rfl, hC⟩
    refine ⟨_, rfl, ?_⟩
    have hS1 : Rows8 w1 H 67 #[.int .u64 E, .slice (some ⟨g, 0, none⟩) n n] ∧ Rows8 w1 w.heap.size 44 #[.int .i64 kd, .int .i64 (k : Nat), .int .u64 by_] := ⟨hS0.1.below hC hS0.1.lt, hS0.2.below hC hS0.2.lt⟩
    have HX1 := Lib.hid (HX0.out.below hC)
    have HB1 := Lib.hid (HB0.out.trans (hC.mono (Nat.le_trans hn0 HB0.out.size)))
    have HK1 := Lib.hid (HK0.out.trans (Kf.of_below (T := tP) hC))
    clear hC HX0 HB0 HK0
    refine hK.out _ _ (fun _ => hS1) ?_
    clear hK K
    try simp only [Act.put, List.setIfInBounds_toArray, List.set_cons_zero, List.set_cons_succ]
    refine wpAnyX_end (by kernel_rfl) ?_
    clear hS0 hS1
    have HX := HX1
    have HAL := HB1
    have HKF := HK1
    clear HX1 HB1 HK1
    generalize w1 = W at *
    go_wp2_with fail
    refine ⟨rfl, ?_⟩
    rw [HRR.out]
    exact ⟨.inr ⟨by simp, rfl⟩, ⟨_, _, HX.out⟩, HAL.out, HKF.out⟩
set_option maxHeartbeats 8000000 in
theorem Try.unpin_any (H n₀ : Nat) (E : Int) (S : List Int) (o : Po) (w : World) (h : Hd H n₀ E S w) (hg : 0 ≤ o.goer ∧ o.goer < S.length) (hn0 : n₀ ≤ w.heap.size) :
    Calls Try.prog 47 #[.pointer (some ⟨H, 0, none⟩), .agg #[.int .i64 o.kind, .int .i64 o.goer, .int .u64 o.by_]] w (HdQ H n₀ w (unpinN E S o)) := by
  obtain ⟨kd, gr, by_⟩ := o
  dsimp only at *
  obtain ⟨k, rfl⟩ : ∃ k : Nat, gr = k := ⟨gr.toNat, by omega⟩
  have hk : k < S.length := by omega
  obtain ⟨R, hR⟩ : ∃ R, R = unpinN E S ⟨kd, (k : Int), by_⟩ := ⟨_, rfl⟩
  rw [← hR]
  have HR := Lib.hid hR
  clear hR
  unfold unpinN at HR
  dsimp only at HR
  rw [Int.toNat_natCast] at HR
  obtain ⟨g, n, h⟩ := h
  have hal : Below w.heap.size w (w.alloc (.cells #[.int .i64 kd, .int .i64 (k : Nat), .int .u64 by_] 44)) := Rows8.newB
  have rw0 := Rows8.new w 44 #[.int .i64 kd, .int .i64 (k : Nat), .int .u64 by_]
  obtain ⟨W, hW⟩ : ∃ W, W = w.alloc (.cells #[.int .i64 kd, .int .i64 (k : Nat), .int .u64 by_] 44) := ⟨_, rfl⟩
  rw [← hW] at hal rw0
  have h1 := h.below hal
  have hnl := h1.len
  have HX := Lib.hid h1
  have HAL := Lib.hid (hal.mono hn0)
  have HKF := Lib.hid (Kf.of_below (T := tP) hal)
  have HR0 := Lib.hid rw0
  have HPV := fun (W : World) (h : Hp H n₀ g n E S W) => Lib.hid (Try.pinsV_any E k (some ⟨g, 0, none⟩) n n S W (rowAt_own h.o) (by omega))
  have HK9 := Lib.hid hk
  have hkn : (k : Int) < (n : Int) := by omega
  have hk0 : (0 : Int) ≤ (k : Int) := by omega
  have HNL := Lib.hid hnl
  obtain ⟨z, hz⟩ : ∃ z, z = S[k]?.getD 0 := ⟨_, rfl⟩
  rw [← hz] at HPV HR
  have HZ := Lib.hid hz
  clear h h1 hal rw0 hg hnl hk hz
  go_enter Try.func47, Try.ntmps47
  go_wp2_with fail
  rw [← hW]
  clear hW
  by_cases hz : z = 0
  · have HRR := Lib.hid (HR.out.trans (if_pos hz))
    have hzb : (z != 0) = false := by rw [hz]; rfl
    rw [hzb] at HPV
    clear hz hzb HR
    refine wp_region_X (fun W' => Rows8 W' H 67 #[.int .u64 E, .slice (some ⟨g, 0, none⟩) n n] ∧ Rows8 W' w.heap.size 44 #[.int .i64 kd, .int .i64 (k : Nat), .int .u64 by_]) 8 (by kernel_rfl) ?_
    have hS0 : Rows8 W.drew H 67 #[.int .u64 E, .slice (some ⟨g, 0, none⟩) n n] ∧ Rows8 W.drew w.heap.size 44 #[.int .i64 kd, .int .i64 (k : Nat), .int .u64 by_] := ⟨HX.out.bx.drewA, HR0.out.drewA⟩
    have HX0 := Lib.hid HX.out.drew
    have HB0 := Lib.hid HAL.out.drew
    have HK0 := Lib.hid HKF.out.drew
    clear HX HAL HKF HR0
    generalize W.drew = Wd at *
    refine wpAnyN_take (i := 0) (oi := { dst := some 4, op := Go.Op.move (Go.Operand.tmp 0), type := 76, pos := "hand.go:56", after := #[], guard := none }) (v := .pointer (some ⟨H, 0, none⟩)) rfl (by decide) (by kernel_rfl) (by kernel_rfl) (by kernel_rfl) (fun _ _ _ h => h) (Or.inl ⟨by rfl, ?_⟩) hS0 ?_
    · intro W9 hS9
      obtain ⟨q0, q1⟩ := hS9
      clear q0 q1
      go_simp
    try simp only [Act.put, List.setIfInBounds_toArray, List.set_cons_zero, List.set_cons_succ]
    refine wpAnyN_take (i := 1) (oi := { dst := some 5, op := Go.Op.nilCheck (Go.Operand.tmp 4), type := 0, pos := "hand.go:56", after := #[{ on := 0, ground := Go.Ground.data }], guard := none }) (v := .pointer (some ⟨H, 0, none⟩)) rfl (by decide) (by kernel_rfl) (by kernel_rfl) (by kernel_rfl) (fun _ _ _ h => h) (Or.inl ⟨by rfl, ?_⟩) hS0 ?_
    · intro W9 hS9
      obtain ⟨q0, q1⟩ := hS9
      clear q0 q1
      go_simp
    try simp only [Act.put, List.setIfInBounds_toArray, List.set_cons_zero, List.set_cons_succ]
    refine wpAnyN_take (i := 2) (oi := { dst := some 6, op := Go.Op.fieldAddr 67 (Go.Operand.tmp 5) 0, type := 0, pos := "hand.go:56", after := #[{ on := 1, ground := Go.Ground.data }], guard := none }) (v := .pointer (some ⟨H, 0, none⟩)) rfl (by decide) (by kernel_rfl) (by kernel_rfl) (by kernel_rfl) (fun _ _ _ h => h) (Or.inl ⟨by rfl, ?_⟩) hS0 ?_
    · intro W9 hS9
      obtain ⟨q0, q1⟩ := hS9
      clear q0 q1
      go_simp
    try simp only [Act.put, List.setIfInBounds_toArray, List.set_cons_zero, List.set_cons_succ]
    refine wpAnyN_take (i := 3) (oi := { dst := some 7, op := Go.Op.load 57 (Go.Operand.tmp 6), type := 57, pos := "hand.go:56", after := #[{ on := 2, ground := Go.Ground.data }], guard := none }) (v := .agg #[.int .u64 E, .slice (some ⟨g, 0, none⟩) n n]) rfl (by decide) (by kernel_rfl) (by kernel_rfl) (by kernel_rfl) (fun _ _ _ h => h) (Or.inl ⟨by rfl, ?_⟩) hS0 ?_
    · intro W9 hS9
      obtain ⟨q0, q1⟩ := hS9
      have s0 : W9.cell? ⟨H, 0, none⟩ = some (.int .u64 E) := q0.cell 0
      have s1 : W9.cell? ⟨H, 1, none⟩ = some (.slice (some ⟨g, 0, none⟩) n n) := q0.cell 1
      clear q0 q1
      go_simp
    try simp only [Act.put, List.setIfInBounds_toArray, List.set_cons_zero, List.set_cons_succ]
    refine wpAnyN_take (i := 4) (oi := { dst := some 8, op := Go.Op.fieldAddr 44 (Go.Operand.tmp 3) 1, type := 0, pos := "hand.go:56", after := #[], guard := none }) (v := .pointer (some ⟨w.heap.size, 1, none⟩)) rfl (by decide) (by kernel_rfl) (by kernel_rfl) (by kernel_rfl) (fun _ _ _ h => h) (Or.inl ⟨by rfl, ?_⟩) hS0 ?_
    · intro W9 hS9
      obtain ⟨q0, q1⟩ := hS9
      clear q0 q1
      go_simp
    try simp only [Act.put, List.setIfInBounds_toArray, List.set_cons_zero, List.set_cons_succ]
    refine wpAnyN_take (i := 5) (oi := { dst := some 9, op := Go.Op.load 3 (Go.Operand.tmp 8), type := 3, pos := "hand.go:56", after := #[{ on := 4, ground := Go.Ground.data }], guard := none }) (v := .int .i64 (k : Nat)) rfl (by decide) (by kernel_rfl) (by kernel_rfl) (by kernel_rfl) (fun _ _ _ h => h) (Or.inl ⟨by rfl, ?_⟩) hS0 ?_
    · intro W9 hS9
      obtain ⟨q0, q1⟩ := hS9
      have s0 : W9.cell? ⟨w.heap.size, 1, none⟩ = some (.int .i64 (k : Nat)) := q1.cell 1
      clear q0 q1
      go_simp
    try simp only [Act.put, List.setIfInBounds_toArray, List.set_cons_zero, List.set_cons_succ]
    refine wpAnyX_one (i := 6) (o := { dst := some 10, op := Go.Op.call { callee := Go.Callee.value (Go.Operand.func 49), args := #[Go.Operand.tmp 7, Go.Operand.tmp 9], argTypes := #[57, 3] }, type := 4, pos := "hand.go:56", after := #[{ on := 3, ground := Go.Ground.data }, { on := 5, ground := Go.Ground.data }], guard := none }) (by kernel_rfl) rfl (fun K hK => ?_)
    refine step_call_g (by rfl) 49 _ _ rfl (fun _ _ => by kernel_rfl) #[.agg #[.int .u64 E, .slice (some ⟨g, 0, none⟩) n n], .int .i64 (k : Nat)] (by simp [go_sem]) _ (HPV Wd HX0.out).out ?_
    rintro e w1 ⟨rfl, hC⟩
    refine ⟨_, rfl, ?_⟩
    have hS1 : Rows8 w1 H 67 #[.int .u64 E, .slice (some ⟨g, 0, none⟩) n n] ∧ Rows8 w1 w.heap.size 44 #[.int .i64 kd, .int .i64 (k : Nat), .int .u64 by_] := ⟨hS0.1.below hC hS0.1.lt, hS0.2.below hC hS0.2.lt⟩
    have HX1 := Lib.hid (HX0.out.below hC)
    have HB1 := Lib.hid (HB0.out.trans (hC.mono (Nat.le_trans hn0 HB0.out.size)))
    have HK1 := Lib.hid (HK0.out.trans (Kf.of_below (T := tP) hC))
    clear hC HX0 HB0 HK0
    refine hK.out _ _ (fun _ => hS1) ?_
    clear hK K
    try simp only [Act.put, List.setIfInBounds_toArray, List.set_cons_zero, List.set_cons_succ]
    refine wpAnyN_take (i := 7) (oi := { dst := some 11, op := Go.Op.unOp Go.UnOp.not 4 (Go.Operand.tmp 10), type := 4, pos := "hand.go:56", after := #[{ on := 6, ground := Go.Ground.data }], guard := none }) (v := .bool true) rfl (by decide) (by kernel_rfl) (by kernel_rfl) (by kernel_rfl) (fun _ _ _ h => h) (Or.inl ⟨by rfl, ?_⟩) hS1 ?_
    · intro W9 hS9
      obtain ⟨q0, q1⟩ := hS9
      clear q0 q1
      go_simp
    try simp only [Act.put, List.setIfInBounds_toArray, List.set_cons_zero, List.set_cons_succ]
    refine wpAnyX_end (by kernel_rfl) ?_
    clear hS0 hS1
    have HX := HX1
    have HAL := HB1
    have HKF := HK1
    clear HX1 HB1 HK1
    generalize w1 = W at *
    go_wp2_with fail
    refine ⟨rfl, ?_⟩
    rw [HRR.out]
    exact ⟨.inr ⟨by simp, rfl⟩, ⟨_, _, HX.out⟩, HAL.out, HKF.out⟩
  · have HRR := Lib.hid (HR.out.trans (if_neg hz))
    have hzb : (z != 0) = true := by simp [hz]
    rw [hzb] at HPV
    clear hz hzb HR
    refine wp_region_X (fun W' => Rows8 W' H 67 #[.int .u64 E, .slice (some ⟨g, 0, none⟩) n n] ∧ Rows8 W' w.heap.size 44 #[.int .i64 kd, .int .i64 (k : Nat), .int .u64 by_]) 8 (by kernel_rfl) ?_
    have hS0 : Rows8 W.drew H 67 #[.int .u64 E, .slice (some ⟨g, 0, none⟩) n n] ∧ Rows8 W.drew w.heap.size 44 #[.int .i64 kd, .int .i64 (k : Nat), .int .u64 by_] := ⟨HX.out.bx.drewA, HR0.out.drewA⟩
    have HX0 := Lib.hid HX.out.drew
    have HB0 := Lib.hid HAL.out.drew
    have HK0 := Lib.hid HKF.out.drew
    clear HX HAL HKF HR0
    generalize W.drew = Wd at *
    refine wpAnyN_take (i := 0) (oi := { dst := some 4, op := Go.Op.move (Go.Operand.tmp 0), type := 76, pos := "hand.go:56", after := #[], guard := none }) (v := .pointer (some ⟨H, 0, none⟩)) rfl (by decide) (by kernel_rfl) (by kernel_rfl) (by kernel_rfl) (fun _ _ _ h => h) (Or.inl ⟨by rfl, ?_⟩) hS0 ?_
    · intro W9 hS9
      obtain ⟨q0, q1⟩ := hS9
      clear q0 q1
      go_simp
    try simp only [Act.put, List.setIfInBounds_toArray, List.set_cons_zero, List.set_cons_succ]
    refine wpAnyN_take (i := 1) (oi := { dst := some 5, op := Go.Op.nilCheck (Go.Operand.tmp 4), type := 0, pos := "hand.go:56", after := #[{ on := 0, ground := Go.Ground.data }], guard := none }) (v := .pointer (some ⟨H, 0, none⟩)) rfl (by decide) (by kernel_rfl) (by kernel_rfl) (by kernel_rfl) (fun _ _ _ h => h) (Or.inl ⟨by rfl, ?_⟩) hS0 ?_
    · intro W9 hS9
      obtain ⟨q0, q1⟩ := hS9
      clear q0 q1
      go_simp
    try simp only [Act.put, List.setIfInBounds_toArray, List.set_cons_zero, List.set_cons_succ]
    refine wpAnyN_take (i := 2) (oi := { dst := some 6, op := Go.Op.fieldAddr 67 (Go.Operand.tmp 5) 0, type := 0, pos := "hand.go:56", after := #[{ on := 1, ground := Go.Ground.data }], guard := none }) (v := .pointer (some ⟨H, 0, none⟩)) rfl (by decide) (by kernel_rfl) (by kernel_rfl) (by kernel_rfl) (fun _ _ _ h => h) (Or.inl ⟨by rfl, ?_⟩) hS0 ?_
    · intro W9 hS9
      obtain ⟨q0, q1⟩ := hS9
      clear q0 q1
      go_simp
    try simp only [Act.put, List.setIfInBounds_toArray, List.set_cons_zero, List.set_cons_succ]
    refine wpAnyN_take (i := 3) (oi := { dst := some 7, op := Go.Op.load 57 (Go.Operand.tmp 6), type := 57, pos := "hand.go:56", after := #[{ on := 2, ground := Go.Ground.data }], guard := none }) (v := .agg #[.int .u64 E, .slice (some ⟨g, 0, none⟩) n n]) rfl (by decide) (by kernel_rfl) (by kernel_rfl) (by kernel_rfl) (fun _ _ _ h => h) (Or.inl ⟨by rfl, ?_⟩) hS0 ?_
    · intro W9 hS9
      obtain ⟨q0, q1⟩ := hS9
      have s0 : W9.cell? ⟨H, 0, none⟩ = some (.int .u64 E) := q0.cell 0
      have s1 : W9.cell? ⟨H, 1, none⟩ = some (.slice (some ⟨g, 0, none⟩) n n) := q0.cell 1
      clear q0 q1
      go_simp
    try simp only [Act.put, List.setIfInBounds_toArray, List.set_cons_zero, List.set_cons_succ]
    refine wpAnyN_take (i := 4) (oi := { dst := some 8, op := Go.Op.fieldAddr 44 (Go.Operand.tmp 3) 1, type := 0, pos := "hand.go:56", after := #[], guard := none }) (v := .pointer (some ⟨w.heap.size, 1, none⟩)) rfl (by decide) (by kernel_rfl) (by kernel_rfl) (by kernel_rfl) (fun _ _ _ h => h) (Or.inl ⟨by rfl, ?_⟩) hS0 ?_
    · intro W9 hS9
      obtain ⟨q0, q1⟩ := hS9
      clear q0 q1
      go_simp
    try simp only [Act.put, List.setIfInBounds_toArray, List.set_cons_zero, List.set_cons_succ]
    refine wpAnyN_take (i := 5) (oi := { dst := some 9, op := Go.Op.load 3 (Go.Operand.tmp 8), type := 3, pos := "hand.go:56", after := #[{ on := 4, ground := Go.Ground.data }], guard := none }) (v := .int .i64 (k : Nat)) rfl (by decide) (by kernel_rfl) (by kernel_rfl) (by kernel_rfl) (fun _ _ _ h => h) (Or.inl ⟨by rfl, ?_⟩) hS0 ?_
    · intro W9 hS9
      obtain ⟨q0, q1⟩ := hS9
      have s0 : W9.cell? ⟨w.heap.size, 1, none⟩ = some (.int .i64 (k : Nat)) := q1.cell 1
      clear q0 q1
      go_simp
    try simp only [Act.put, List.setIfInBounds_toArray, List.set_cons_zero, List.set_cons_succ]
    refine wpAnyX_one (i := 6) (o := { dst := some 10, op := Go.Op.call { callee := Go.Callee.value (Go.Operand.func 49), args := #[Go.Operand.tmp 7, Go.Operand.tmp 9], argTypes := #[57, 3] }, type := 4, pos := "hand.go:56", after := #[{ on := 3, ground := Go.Ground.data }, { on := 5, ground := Go.Ground.data }], guard := none }) (by kernel_rfl) rfl (fun K hK => ?_)
    refine step_call_g (by rfl) 49 _ _ rfl (fun _ _ => by kernel_rfl) #[.agg #[.int .u64 E, .slice (some ⟨g, 0, none⟩) n n], .int .i64 (k : Nat)] (by simp [go_sem]) _ (HPV Wd HX0.out).out ?_
    rintro e w1 ⟨rfl, hC⟩
    refine ⟨_, rfl, ?_⟩
    have hS1 : Rows8 w1 H 67 #[.int .u64 E, .slice (some ⟨g, 0, none⟩) n n] ∧ Rows8 w1 w.heap.size 44 #[.int .i64 kd, .int .i64 (k : Nat), .int .u64 by_] := ⟨hS0.1.below hC hS0.1.lt, hS0.2.below hC hS0.2.lt⟩
    have HX1 := Lib.hid (HX0.out.below hC)
    have HB1 := Lib.hid (HB0.out.trans (hC.mono (Nat.le_trans hn0 HB0.out.size)))
    have HK1 := Lib.hid (HK0.out.trans (Kf.of_below (T := tP) hC))
    clear hC HX0 HB0 HK0
    refine hK.out _ _ (fun _ => hS1) ?_
    clear hK K
    try simp only [Act.put, List.setIfInBounds_toArray, List.set_cons_zero, List.set_cons_succ]
    refine wpAnyN_take (i := 7) (oi := { dst := some 11, op := Go.Op.unOp Go.UnOp.not 4 (Go.Operand.tmp 10), type := 4, pos := "hand.go:56", after := #[{ on := 6, ground := Go.Ground.data }], guard := none }) (v := .bool false) rfl (by decide) (by kernel_rfl) (by kernel_rfl) (by kernel_rfl) (fun _ _ _ h => h) (Or.inl ⟨by rfl, ?_⟩) hS1 ?_
    · intro W9 hS9
      obtain ⟨q0, q1⟩ := hS9
      clear q0 q1
      go_simp
    try simp only [Act.put, List.setIfInBounds_toArray, List.set_cons_zero, List.set_cons_succ]
    refine wpAnyX_end (by kernel_rfl) ?_
    have HS := Lib.hid hS1
    clear hS0 hS1
    have HX := HX1
    have HAL := HB1
    have HKF := HK1
    clear HX1 HB1 HK1
    generalize w1 = W at *
    have HR0 : Hid (Rows8 W w.heap.size 44 #[.int .i64 kd, .int .i64 (k : Nat), .int .u64 by_]) := Lib.hid HS.out.2
    clear HS
    go_wp2_with fail
    refine wp_region_L (fun W' => Rows8 W' H 67 #[.int .u64 E, .slice (some ⟨g, 0, none⟩) n n] ∧ Rows8 W' w.heap.size 44 #[.int .i64 kd, .int .i64 (k : Nat), .int .u64 by_]) 10 (by kernel_rfl) ?_
    have hS0 : Rows8 W.drew H 67 #[.int .u64 E, .slice (some ⟨g, 0, none⟩) n n] ∧ Rows8 W.drew w.heap.size 44 #[.int .i64 kd, .int .i64 (k : Nat), .int .u64 by_] := ⟨HX.out.bx.drewA, HR0.out.drewA⟩
    have HX0 := Lib.hid HX.out.drew
    have HB0 := Lib.hid HAL.out.drew
    have HK0 := Lib.hid HKF.out.drew
    clear HX HAL HKF HR0
    generalize W.drew = Wd at *
    refine wpAnyL_take (i := 0) (oi := { dst := some 13, op := Go.Op.move (Go.Operand.tmp 0), type := 76, pos := "hand.go:59", after := #[], guard := none }) (v := .pointer (some ⟨H, 0, none⟩)) rfl (by kernel_rfl) (by kernel_rfl) (by kernel_rfl) (by kernel_rfl) (fun _ _ _ h => h) (Or.inl ⟨by rfl, ?_⟩) hS0 ?_
    · intro W9 hS9
      obtain ⟨q0, q1⟩ := hS9
      clear q0 q1
      go_simp
    try simp only [Act.put, List.setIfInBounds_toArray, List.set_cons_zero, List.set_cons_succ]
    refine wpAnyL_take (i := 1) (oi := { dst := some 14, op := Go.Op.nilCheck (Go.Operand.tmp 13), type := 0, pos := "hand.go:59", after := #[{ on := 0, ground := Go.Ground.data }], guard := none }) (v := .pointer (some ⟨H, 0, none⟩)) rfl (by kernel_rfl) (by kernel_rfl) (by kernel_rfl) (by kernel_rfl) (fun _ _ _ h => h) (Or.inl ⟨by rfl, ?_⟩) hS0 ?_
    · intro W9 hS9
      obtain ⟨q0, q1⟩ := hS9
      clear q0 q1
      go_simp
    try simp only [Act.put, List.setIfInBounds_toArray, List.set_cons_zero, List.set_cons_succ]
    refine wpAnyL_take (i := 2) (oi := { dst := some 15, op := Go.Op.fieldAddr 67 (Go.Operand.tmp 14) 0, type := 0, pos := "hand.go:59", after := #[{ on := 1, ground := Go.Ground.data }], guard := none }) (v := .pointer (some ⟨H, 0, none⟩)) rfl (by kernel_rfl) (by kernel_rfl) (by kernel_rfl) (by kernel_rfl) (fun _ _ _ h => h) (Or.inl ⟨by rfl, ?_⟩) hS0 ?_
    · intro W9 hS9
      obtain ⟨q0, q1⟩ := hS9
      clear q0 q1
      go_simp
    try simp only [Act.put, List.setIfInBounds_toArray, List.set_cons_zero, List.set_cons_succ]
    refine wpAnyL_take (i := 3) (oi := { dst := some 16, op := Go.Op.fieldAddr 57 (Go.Operand.tmp 15) 0, type := 0, pos := "hand.go:59", after := #[{ on := 2, ground := Go.Ground.data }], guard := none }) (v := .pointer (some ⟨H, 0, none⟩)) rfl (by kernel_rfl) (by kernel_rfl) (by kernel_rfl) (by kernel_rfl) (fun _ _ _ h => h) (Or.inl ⟨by rfl, ?_⟩) hS0 ?_
    · intro W9 hS9
      obtain ⟨q0, q1⟩ := hS9
      clear q0 q1
      go_simp
    try simp only [Act.put, List.setIfInBounds_toArray, List.set_cons_zero, List.set_cons_succ]
    refine wpAnyL_take (i := 4) (oi := { dst := some 17, op := Go.Op.fieldAddr 25 (Go.Operand.tmp 16) 1, type := 0, pos := "hand.go:59", after := #[{ on := 3, ground := Go.Ground.data }], guard := none }) (v := .pointer (some ⟨H, 1, none⟩)) rfl (by kernel_rfl) (by kernel_rfl) (by kernel_rfl) (by kernel_rfl) (fun _ _ _ h => h) (Or.inl ⟨by rfl, ?_⟩) hS0 ?_
    · intro W9 hS9
      obtain ⟨q0, q1⟩ := hS9
      clear q0 q1
      go_simp
    try simp only [Act.put, List.setIfInBounds_toArray, List.set_cons_zero, List.set_cons_succ]
    refine wpAnyL_take (i := 5) (oi := { dst := some 18, op := Go.Op.load 23 (Go.Operand.tmp 17), type := 23, pos := "hand.go:59", after := #[{ on := 4, ground := Go.Ground.data }], guard := none }) (v := .slice (some ⟨g, 0, none⟩) n n) rfl (by kernel_rfl) (by kernel_rfl) (by kernel_rfl) (by kernel_rfl) (fun _ _ _ h => h) (Or.inl ⟨by rfl, ?_⟩) hS0 ?_
    · intro W9 hS9
      obtain ⟨q0, q1⟩ := hS9
      have s0 : W9.cell? ⟨H, 0, none⟩ = some (.int .u64 E) := q0.cell 0
      have s1 : W9.cell? ⟨H, 1, none⟩ = some (.slice (some ⟨g, 0, none⟩) n n) := q0.cell 1
      clear q0 q1
      go_simp
    try simp only [Act.put, List.setIfInBounds_toArray, List.set_cons_zero, List.set_cons_succ]
    refine wpAnyL_take (i := 6) (oi := { dst := some 19, op := Go.Op.fieldAddr 44 (Go.Operand.tmp 3) 1, type := 0, pos := "hand.go:59", after := #[], guard := none }) (v := .pointer (some ⟨w.heap.size, 1, none⟩)) rfl (by kernel_rfl) (by kernel_rfl) (by kernel_rfl) (by kernel_rfl) (fun _ _ _ h => h) (Or.inl ⟨by rfl, ?_⟩) hS0 ?_
    · intro W9 hS9
      obtain ⟨q0, q1⟩ := hS9
      clear q0 q1
      go_simp
    try simp only [Act.put, List.setIfInBounds_toArray, List.set_cons_zero, List.set_cons_succ]
    refine wpAnyL_take (i := 7) (oi := { dst := some 20, op := Go.Op.load 3 (Go.Operand.tmp 19), type := 3, pos := "hand.go:59", after := #[{ on := 6, ground := Go.Ground.data }], guard := none }) (v := .int .i64 (k : Nat)) rfl (by kernel_rfl) (by kernel_rfl) (by kernel_rfl) (by kernel_rfl) (fun _ _ _ h => h) (Or.inl ⟨by rfl, ?_⟩) hS0 ?_
    · intro W9 hS9
      obtain ⟨q0, q1⟩ := hS9
      have s0 : W9.cell? ⟨w.heap.size, 1, none⟩ = some (.int .i64 (k : Nat)) := q1.cell 1
      clear q0 q1
      go_simp
    try simp only [Act.put, List.setIfInBounds_toArray, List.set_cons_zero, List.set_cons_succ]
    refine wpAnyL_take (i := 8) (oi := { dst := some 21, op := Go.Op.indexAddr 23 (Go.Operand.tmp 18) (Go.Operand.tmp 20), type := 0, pos := "hand.go:59", after := #[{ on := 5, ground := Go.Ground.data }, { on := 7, ground := Go.Ground.data }, { on := 0, ground := Go.Ground.phase }, { on := 1, ground := Go.Ground.phase }, { on := 2, ground := Go.Ground.phase }, { on := 3, ground := Go.Ground.phase }, { on := 4, ground := Go.Ground.phase }, { on := 5, ground := Go.Ground.phase }, { on := 6, ground := Go.Ground.phase }, { on := 7, ground := Go.Ground.phase }], guard := none }) (v := .pointer (some ⟨g, k, none⟩)) rfl (by kernel_rfl) (by kernel_rfl) (by kernel_rfl) (by kernel_rfl) (fun _ _ _ h => h) (Or.inl ⟨by rfl, ?_⟩) hS0 ?_
    · intro W9 hS9
      obtain ⟨q0, q1⟩ := hS9
      clear q0 q1
      go_simp
    try simp only [Act.put, List.setIfInBounds_toArray, List.set_cons_zero, List.set_cons_succ]
    refine wpAnyL_one (i := 9) (o := { dst := none, op := Go.Op.store 22 (Go.Operand.tmp 21) (Go.Operand.const (Go.Value.int Go.IntKind.u64 0)), type := 0, pos := "hand.go:59", after := #[{ on := 8, ground := Go.Ground.data }, { on := 0, ground := Go.Ground.phase }, { on := 1, ground := Go.Ground.phase }, { on := 2, ground := Go.Ground.phase }, { on := 3, ground := Go.Ground.phase }, { on := 4, ground := Go.Ground.phase }, { on := 5, ground := Go.Ground.phase }, { on := 6, ground := Go.Ground.phase }, { on := 7, ground := Go.Ground.phase }], guard := none }) (by kernel_rfl) rfl (fun K hK => ?_)
    obtain ⟨cur, rc, hg0, hcells⟩ := HX0.out.rows
    have cK : Wd.cell? ⟨g, k, none⟩ = some (.int .u64 (S[k]?.getD 0)) := hcells k HK9.out
    have fK := rc.frozen k
    refine step_skip_g (by rfl) (w' := Wd.setCell ⟨g, k, none⟩ (.int .u64 0)) (by go_simp) ?_
    have hX1 := HX0.out.set rc k 0
    have hS1 : Rows8 (Wd.setCell ⟨g, k, none⟩ (.int .u64 0)) H 67 #[.int .u64 E, .slice (some ⟨g, 0, none⟩) n n] ∧ Rows8 (Wd.setCell ⟨g, k, none⟩ (.int .u64 0)) w.heap.size 44 #[.int .i64 kd, .int .i64 (k : Nat), .int .u64 by_] := ⟨hX1.bx, hS0.2.setOther (a := ⟨g, k, none⟩) (fun e => rows_apart hS0.2 rc (by decide) e.symm) _⟩
    have HX1 := Lib.hid hX1
    have HB1 := Lib.hid (HB0.out.setCell (p := ⟨g, k, none⟩) hg0 (.int .u64 0))
    have HK1 := Lib.hid (HK0.out.trans (Kf.set (T := tP) (t := 22) (by decide) Wd (a := ⟨g, k, none⟩) rc (.int .u64 0)))
    clear cK fK hX1 HX0 HB0 HK0
    refine hK.out _ _ (fun _ => hS1) ?_
    clear hK K
    try simp only [Act.put, List.setIfInBounds_toArray, List.set_cons_zero, List.set_cons_succ]
    refine wpAnyL_end (by kernel_rfl) ?_
    go_end0
    rw [HRR.out]
    exact ⟨.inl ⟨rfl, rfl⟩, ⟨_, _, HX1.out⟩, HB1.out, HK1.out⟩
end Go.Proofs
