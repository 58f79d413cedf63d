/- Layout: Cell, Of, Pack, Unpack. -/
import Derived.Test.YtkddfihfilhhdaaWe
import Derived.Laws.BitsAllLaws
namespace Go.Proofs
set_option maxRecDepth 100000
open Go.RowKit Go.Shelf
attribute [local go_sem] Oper.semAt_some

theorem results_c1 {P : Program} {fn : Func} {p : Tmp} {ty : TypeId} (h : fn.results = #[.cell p ty]) (tmps : Array Value) (w : World) (B : Nat) (u : Value)
    (hp : tmps.getD p undef = .pointer (some ⟨B, 0, none⟩)) (h1 : (loadVar ty ⟨B, 0, none⟩).run P w = .ok u w) : (results fn tmps).run P w = .ok u w := by
  have hp' : tmps[p]?.getD undef = .pointer (some ⟨B, 0, none⟩) := by simpa using hp
  simp [results, h, hp', asAddr, h1]
theorem results_ct1 {P : Program} {fn : Func} {p q : Tmp} {ty : TypeId} (h : fn.results = #[.cell p ty, .tmp q]) (tmps : Array Value) (w : World) (B : Nat) (u x : Value)
    (hp : tmps.getD p undef = .pointer (some ⟨B, 0, none⟩)) (hx : tmps.getD q undef = x) (h1 : (loadVar ty ⟨B, 0, none⟩).run P w = .ok u w) :
    (results fn tmps).run P w = .ok (.tuple #[u, x]) w := by
  have hp' : tmps[p]?.getD undef = .pointer (some ⟨B, 0, none⟩) := by simpa using hp
  have hx' : tmps[q]?.getD undef = x := by simpa using hx
  simp [results, h, hp', hx', asAddr, h1]
set_option maxHeartbeats 1000000 in
theorem Try.Cell_any (n k : Int) (hn : I64 n) (hk : I64 k) (w : World) : Calls Try.prog 10 #[.int .i64 n, .int .i64 k] w fun e w' => (((slabB n && wordB k) = true ∧ e = .returned (.tuple #[.int .i64 (16 + n * 40 + k), .int .i64 0])) ∨ ((slabB n && wordB k) = false ∧ e = .returned (.tuple #[.int .i64 0, .int .i64 2]))) ∧ Below w.heap.size w w' := by
  have hE : Below w.heap.size w ((w.alloc (.cells #[.int .i64 n] 3)).alloc (.cells #[.int .i64 k] 3)) := (Rows8.newB).alloc (by simp) _
  have r1 : Rows8 ((w.alloc (.cells #[.int .i64 n] 3)).alloc (.cells #[.int .i64 k] 3)) w.heap.size 3 #[.int .i64 n] := (Rows8.new _ _ _).alloc _
  have r2 : Rows8 ((w.alloc (.cells #[.int .i64 n] 3)).alloc (.cells #[.int .i64 k] 3)) (w.heap.size + 1) 3 #[.int .i64 k] := rows_new2 _ _ _ _
  have hT := Try.caughtI_any 38 #[.pointer (some ⟨w.heap.size, 0, none⟩), .pointer (some ⟨w.heap.size + 1, 0, none⟩)] ((w.alloc (.cells #[.int .i64 n] 3)).alloc (.cells #[.int .i64 k] 3)) (fun x _ => x = .int .i64 (16 + n * 40 + k) ∧ (slabB n && wordB k) = true) (fun q => q = 2 ∧ (slabB n && wordB k) = false) (fun _ _ => by kernel_rfl)
    (Try.Cell1_any n k _ _ _ (r1.alloc _) (r2.alloc _) hn hk) (fun _ _ _ _ h => h)
  have HT := Lib.hid hT
  have HE := Lib.hid hE
  clear hT hE r1 r2
  obtain ⟨z, hz⟩ : ∃ z, z = (slabB n && wordB k) := ⟨_, rfl⟩
  rw [← hz] at HT ⊢
  clear hz
  go_enter Try.func10, Try.ntmps10
  go_wp2_with fail
  refine HT.out.mono ?_
  rintro e W1 ⟨hC, ⟨x, rfl, rfl, rfl⟩ | ⟨q, rfl, rfl, rfl⟩⟩
  · have HB := Lib.hid (HE.out.trans (hC.mono HE.out.size))
    clear hC HT HE
    go_wp2_with fail
    go_ret2
    exact ⟨(by first | exact .inl ⟨rfl, rfl⟩ | exact rfl), HB.out⟩
  · have HB := Lib.hid (HE.out.trans (hC.mono HE.out.size))
    clear hC HT HE
    go_wp2_with fail
    go_ret2
    exact ⟨(by first | exact .inr ⟨rfl, rfl⟩ | exact rfl), HB.out⟩
/-- Is this one of a slab's cells? -/
def cellB (n : Int) : Bool := decide (16 ≤ n) && decide (n ≤ 5135)
theorem bt_cell {n : Int} (h : I64 n) : (decide (16 ≤ IntKind.u64.wrap n) && decide (IntKind.u64.wrap n ≤ 5135)) = cellB n := by
  unfold I64 at h
  unfold cellB
  rw [IntKind.wrap_u64]
  by_cases h0 : 0 ≤ n
  · have : n % 18446744073709551616 = n := by omega
    rw [this]
  · have : n % 18446744073709551616 = n + 18446744073709551616 := by omega
    rw [this, decide_eq_false (p := n + 18446744073709551616 ≤ 5135) (by omega), decide_eq_false (p := 16 ≤ n) (by omega), Bool.and_false]; rfl
set_option maxHeartbeats 1000000 in
theorem Try.Of1_any (n : Int) (hn : I64 n) (B : Nat) (w : World) (hr : Rows8 w B 3 #[.int .i64 n]) : Calls Try.prog 42 #[.pointer (some ⟨B, 0, none⟩)] w fun e w' => Below w.heap.size w w' ∧ ((∃ x, e = .returned x ∧ x = .int .i64 (n - 16) ∧ cellB n = true) ∨ ∃ q, e = .panicked (panicA q) ∧ q = 2 ∧ cellB n = false) := by
  have HR := Lib.hid hr
  have HI := Lib.hid hn
  have HF := Lib.hid (Try.firstOf_any 128 (by decide) w)
  have hw1 : IntKind.u64.wrap (16 + 128 * 40) = 5136 := by rfl
  have hw2 : IntKind.u64.wrap (5136 - 1) = 5135 := by rfl
  clear hr hn
  go_enter Try.func42, Try.ntmps42
  go_wp2_with fail
  refine HF.out.mono ?_
  rintro e w9 ⟨rfl, hw9⟩
  subst w9
  have HQ := Lib.hid (Try.between_any 16 5135 w)
  clear HF
  go_wp2_with fail
  refine HQ.out.mono ?_
  rintro e W1 ⟨v, rfl, hm, hC⟩
  have HN := Lib.hid (Try.numII_any n 2 v _ W1 hm)
  have hr := HR.out.below hC HR.out.lt
  have c0 : W1.cell? ⟨B, 0, none⟩ = some (.int .i64 n) := hr.cell 0
  have HB := Lib.hid hC
  clear hC hm hr HQ HR
  go_wp2_with fail
  refine HN.out.mono ?_
  rintro e w9 ⟨hw9, hq9⟩
  subst w9
  rw [bt_cell HI.out] at hq9
  rcases hq9 with ⟨h, rfl⟩ | ⟨h, rfl⟩
  · have hwr : IntKind.i64.wrap (n - 16) = n - 16 := IntWalk.i64_in _ (by simp [cellB] at h; omega)
    have H := Lib.hid h
    clear h HN
    go_wp2_with fail
    go_ret
    exact ⟨HB.out, .inl ⟨_, rfl, rfl, H.out⟩⟩
  · have H := Lib.hid h
    clear h HN
    go_wp2_with fail
    exact ⟨(by first | rfl | trivial), HB.out, .inr ⟨2, rfl, rfl, H.out⟩⟩
set_option maxHeartbeats 1000000 in
theorem Try.Of_any (n : Int) (hn : I64 n) (w : World) : Calls Try.prog 13 #[.int .i64 n] w fun e w' => ((cellB n = true ∧ e = .returned (.tuple #[.int .i64 ((n - 16) / 40), .int .i64 ((n - 16) % 40), .int .i64 0])) ∨ (cellB n = false ∧ e = .returned (.tuple #[.int .i64 0, .int .i64 0, .int .i64 2]))) ∧ Below w.heap.size w w' := by
  have hT := Try.caughtI_any 42 #[.pointer (some ⟨w.heap.size, 0, none⟩)] (w.alloc (.cells #[.int .i64 n] 3)) (fun x _ => x = .int .i64 (n - 16) ∧ cellB n = true) (fun q => q = 2 ∧ cellB n = false) (fun _ _ => by kernel_rfl)
    (Try.Of1_any n hn _ _ ((Rows8.new _ _ _).alloc _)) (fun _ _ _ _ h => h)
  have HT := Lib.hid hT
  have HE : Hid (Below w.heap.size w (w.alloc (.cells #[.int .i64 n] 3))) := Lib.hid Rows8.newB
  clear hT
  go_enter Try.func13, Try.ntmps13
  go_wp2_with fail
  refine HT.out.mono ?_
  rintro e W1 ⟨hC, ⟨x, rfl, rfl, h⟩ | ⟨q, rfl, rfl, h⟩⟩
  · have HB := Lib.hid (HE.out.trans (hC.mono HE.out.size))
    have H := Lib.hid h
    have hw : 16 ≤ n ∧ n ≤ 5135 := by simpa [cellB] using h
    have hd : (n - 16).tdiv 40 = (n - 16) / 40 := Int.tdiv_eq_ediv_of_nonneg (by omega)
    have hm : (n - 16).tmod 40 = (n - 16) % 40 := Int.tmod_eq_emod_of_nonneg (by omega)
    have h1 : IntKind.i64.wrap ((n - 16) / 40) = (n - 16) / 40 := IntWalk.i64_in _ (by omega)
    have h2 : IntKind.i64.wrap ((n - 16) % 40) = (n - 16) % 40 := IntWalk.i64_in _ (by omega)
    clear hC HT HE h hw
    go_wp2_with fail
    refine bodyPost_ret (results_tmp3 rfl _ _ _) rfl ?_
    exact ⟨.inl ⟨H.out, rfl⟩, HB.out⟩
  · have HB := Lib.hid (HE.out.trans (hC.mono HE.out.size))
    have H := Lib.hid h
    clear hC HT HE h
    go_wp2_with fail
    refine bodyPost_ret (results_tmp3 rfl _ _ _) rfl ?_
    exact ⟨.inr ⟨H.out, rfl⟩, HB.out⟩
/-- May this be an entry? -/
def entB (x : Int) (y : Nat) : Bool := slabB x && decide (y < 1099511627776)
/-- An entry's word. -/
def packV (x : Int) (y : Nat) : Nat := x.toNat + 1 + 65536 * y
theorem up_gen (y : Nat) : decide ((y : Int) ≤ 1099511627775) = decide (y < 1099511627776) := decide_eq_decide.2 (by omega)
theorem pack_or {x : Int} {y : Nat} (hx : 0 ≤ x ∧ x < 128) (hy : y < 1099511627776) : bits .or .u64 (x + 1) ((y : Int) * 65536) = (packV x y : Nat) := by
  obtain ⟨m, rfl⟩ := Int.eq_ofNat_of_zero_le hx.1
  rw [show ((m : Int) + 1) = ((m + 1 : Nat) : Int) by omega, show ((y : Int) * 65536) = ((y * 65536 : Nat) : Int) by omega, u64_or_nat _ _ (by omega) (by omega), Nat.or_comm]
  unfold packV
  rw [show y * 65536 = 2 ^ 16 * y by omega, ← Nat.two_pow_add_eq_or_of_lt (by omega)]
  congr 1
  simp
  omega
set_option maxHeartbeats 2000000 in
theorem Try.packed_any (x : Int) (y : Nat) (q : Int) (hx : I64 x) (w : World) : Calls Try.prog 46 #[.agg #[.int .i64 x, .int .u64 (y : Nat)], .int .i64 q] w fun e w' => Below w.heap.size w w' ∧ ((∃ v, e = .returned v ∧ v = .int .u64 (packV x y : Nat) ∧ entB x y = true) ∨ ∃ q', e = .panicked (panicA q') ∧ q' = q ∧ entB x y = false) := by
  obtain ⟨W0, hW0⟩ : ∃ W, W = w.alloc (.cells #[.int .i64 x, .int .u64 (y : Nat)] 36) := ⟨_, rfl⟩
  have HR : Hid (Rows8 W0 w.heap.size 36 #[.int .i64 x, .int .u64 (y : Nat)]) := Lib.hid (by rw [hW0]; exact Rows8.new _ _ _)
  have HB : Hid (Below w.heap.size w W0) := Lib.hid (by rw [hW0]; exact Rows8.newB)
  have HI := Lib.hid hx
  clear hx
  go_enter Try.func46, Try.ntmps46
  go_upto_region 1 with fail
  rw [← hW0]
  clear hW0
  refine wp_region_X (fun W' => Rows8 W' w.heap.size 36 #[.int .i64 x, .int .u64 (y : Nat)]) 6 (by kernel_rfl) ?_
  have hC0 : Below W0.heap.size W0 W0.drew := (Below.refl _ _).drew
  have HR := Lib.hid (HR.out.below hC0 HR.out.lt)
  have HB := Lib.hid (HB.out.trans (hC0.mono HB.out.size))
  clear hC0
  generalize W0.drew = W at *
  refine wpAnyN_take (i := 0) (oi := { dst := some 6, op := Go.Op.fieldAddr 36 (Go.Operand.tmp 2) 0, type := 0, pos := "row.go:68", after := #[], guard := none }) (v := .pointer (some ⟨w.heap.size, 0, none⟩)) rfl (by decide) (by kernel_rfl) (by kernel_rfl) (by kernel_rfl) (fun _ _ _ h => h) (Or.inl ⟨by rfl, ?_⟩) HR.out ?_
  · intro W9 hS9
    go_simp
  try simp only [Act.put, List.setIfInBounds_toArray, List.set_cons_zero, List.set_cons_succ]
  refine wpAnyN_take (i := 1) (oi := { dst := some 7, op := Go.Op.load 3 (Go.Operand.tmp 6), type := 3, pos := "row.go:68", after := #[{ on := 0, ground := Go.Ground.data }], guard := none }) (v := .int .i64 x) rfl (by decide) (by kernel_rfl) (by kernel_rfl) (by kernel_rfl) (fun _ _ _ h => h) (Or.inl ⟨by rfl, ?_⟩) HR.out ?_
  · intro W9 hS9
    have s0 : W9.cell? ⟨w.heap.size, 0, none⟩ = some (.int .i64 x) := hS9.cell 0
    go_simp
  try simp only [Act.put, List.setIfInBounds_toArray, List.set_cons_zero, List.set_cons_succ]
  refine wpAnyN_take (i := 3) (oi := { dst := some 9, op := Go.Op.move (Go.Operand.tmp 1), type := 27, pos := "row.go:68", after := #[], guard := none }) (v := .int .i64 q) rfl (by decide) (by kernel_rfl) (by kernel_rfl) (by kernel_rfl) (fun _ _ _ h => h) (Or.inl ⟨by rfl, ?_⟩) HR.out ?_
  · intro W9 hS9
    go_simp
  try simp only [Act.put, List.setIfInBounds_toArray, List.set_cons_zero, List.set_cons_succ]
  refine wpAnyX_one (i := 2) (o := { dst := some 8, op := Go.Op.call { callee := Go.Callee.value (Go.Operand.func 41), args := #[Go.Operand.const (Go.Value.int Go.IntKind.u64 127)], argTypes := #[34] }, type := 83, pos := "row.go:68", after := #[], guard := none }) (by kernel_rfl) rfl (fun K hK => ?_)
  have HN := Try.upTo_any 127 W
  refine step_call_g (by rfl) 41 _ _ rfl (fun _ _ => by kernel_rfl) #[.int .u64 127] (by simp [go_sem]) _ HN ?_
  rintro e W1 ⟨v, rfl, hm, hC⟩
  have HM := Lib.hid hm
  have HR := Lib.hid (HR.out.below hC HR.out.lt)
  have HB := Lib.hid (HB.out.trans (hC.mono HB.out.size))
  clear hC HN hm
  refine ⟨_, rfl, ?_⟩
  refine hK.out _ _ (fun _ => HR.out) ?_
  clear hK K
  try simp only [Act.put, List.setIfInBounds_toArray, List.set_cons_zero, List.set_cons_succ]
  refine wpAnyX_one (i := 4) (o := { dst := some 10, op := Go.Op.call { callee := Go.Callee.value (Go.Operand.func 72), args := #[Go.Operand.tmp 7, Go.Operand.tmp 8, Go.Operand.tmp 9], argTypes := #[3, 83, 27] }, type := 34, pos := "row.go:68", after := #[{ on := 1, ground := Go.Ground.data }, { on := 2, ground := Go.Ground.data }, { on := 3, ground := Go.Ground.data }, { on := 2, ground := Go.Ground.chain }], guard := none }) (by kernel_rfl) rfl (fun K hK => ?_)
  have HN := Try.numUI_any x q v _ W1 HM.out
  refine step_callP_g (by rfl) 72 _ _ rfl (fun _ _ => by kernel_rfl) #[.int .i64 x, v, .int .i64 q] (by simp [go_sem]) _ HN ?_
  clear HN
  rintro e w9 ⟨hw9, hq9⟩
  subst w9
  rcases hq9 with ⟨h, rfl⟩ | ⟨h, rfl⟩
  rotate_left
  · refine .inr ⟨_, rfl, ?_⟩
    rw [up_slab HI.out] at h
    exact ⟨by trivial, HB.out, .inr ⟨q, rfl, rfl, by unfold entB; rw [h]; rfl⟩⟩
  rw [up_slab HI.out] at h
  have HS := Lib.hid h
  clear h HM
  have hwx : IntKind.u64.wrap x = x := by
    rw [IntKind.wrap_u64]
    have := slabB_yes HS.out
    omega
  rw [hwx]
  clear hwx
  refine .inl ⟨_, rfl, ?_⟩
  refine hK.out _ _ (fun _ => HR.out) ?_
  clear hK K
  try simp only [Act.put, List.setIfInBounds_toArray, List.set_cons_zero, List.set_cons_succ]
  refine wpAnyN_take (i := 5) (oi := { dst := some 5, op := Go.Op.assign (Go.Operand.tmp 10), type := 34, pos := "row.go:68", after := #[{ on := 4, ground := Go.Ground.data }, { on := 4, ground := Go.Ground.chain }, { on := 0, ground := Go.Ground.phase }, { on := 1, ground := Go.Ground.phase }, { on := 2, ground := Go.Ground.phase }, { on := 3, ground := Go.Ground.phase }, { on := 4, ground := Go.Ground.phase }], guard := none }) (v := .int .u64 x) rfl (by decide) (by kernel_rfl) (by kernel_rfl) (by kernel_rfl) (fun _ _ _ h => h) (Or.inl ⟨by rfl, ?_⟩) HR.out ?_
  · intro W9 hS9
    go_simp
  try simp only [Act.put, List.setIfInBounds_toArray, List.set_cons_zero, List.set_cons_succ]
  refine wpAnyX_end (by kernel_rfl) ?_
  go_upto_region 2 with fail
  refine wp_region_X (fun W' => Rows8 W' w.heap.size 36 #[.int .i64 x, .int .u64 (y : Nat)]) 10 (by kernel_rfl) ?_
  have hC0 : Below W1.heap.size W1 W1.drew := (Below.refl _ _).drew
  have HR := Lib.hid (HR.out.below hC0 HR.out.lt)
  have HB := Lib.hid (HB.out.trans (hC0.mono HB.out.size))
  clear hC0
  generalize W1.drew = W2 at *
  have hw1 : IntKind.u64.wrap (x + 1) = x + 1 := by
    rw [IntKind.wrap_u64]
    have := slabB_yes HS.out
    omega
  refine wpAnyN_take (i := 0) (oi := { dst := some 11, op := Go.Op.move (Go.Operand.tmp 5), type := 34, pos := "row.go:69", after := #[], guard := none }) (v := .int .u64 x) rfl (by decide) (by kernel_rfl) (by kernel_rfl) (by kernel_rfl) (fun _ _ _ h => h) (Or.inl ⟨by rfl, ?_⟩) HR.out ?_
  · intro W9 hS9
    go_simp
  try simp only [Act.put, List.setIfInBounds_toArray, List.set_cons_zero, List.set_cons_succ]
  refine wpAnyN_take (i := 1) (oi := { dst := some 12, op := Go.Op.binOp Go.BinOp.add 34 (Go.Operand.tmp 11) (Go.Operand.const (Go.Value.int Go.IntKind.u64 1)) 34, type := 34, pos := "row.go:69", after := #[{ on := 0, ground := Go.Ground.data }], guard := none }) (v := .int .u64 (x + 1)) rfl (by decide) (by kernel_rfl) (by kernel_rfl) (by kernel_rfl) (fun _ _ _ h => h) (Or.inl ⟨by rfl, ?_⟩) HR.out ?_
  · intro W9 hS9
    go_simp
  try simp only [Act.put, List.setIfInBounds_toArray, List.set_cons_zero, List.set_cons_succ]
  refine wpAnyN_take (i := 2) (oi := { dst := some 13, op := Go.Op.fieldAddr 36 (Go.Operand.tmp 2) 1, type := 0, pos := "row.go:69", after := #[], guard := none }) (v := .pointer (some ⟨w.heap.size, 1, none⟩)) rfl (by decide) (by kernel_rfl) (by kernel_rfl) (by kernel_rfl) (fun _ _ _ h => h) (Or.inl ⟨by rfl, ?_⟩) HR.out ?_
  · intro W9 hS9
    go_simp
  try simp only [Act.put, List.setIfInBounds_toArray, List.set_cons_zero, List.set_cons_succ]
  refine wpAnyN_take (i := 3) (oi := { dst := some 14, op := Go.Op.load 34 (Go.Operand.tmp 13), type := 34, pos := "row.go:69", after := #[{ on := 2, ground := Go.Ground.data }], guard := none }) (v := .int .u64 (y : Nat)) rfl (by decide) (by kernel_rfl) (by kernel_rfl) (by kernel_rfl) (fun _ _ _ h => h) (Or.inl ⟨by rfl, ?_⟩) HR.out ?_
  · intro W9 hS9
    have s0 : W9.cell? ⟨w.heap.size, 1, none⟩ = some (.int .u64 (y : Nat)) := hS9.cell 1
    go_simp
  try simp only [Act.put, List.setIfInBounds_toArray, List.set_cons_zero, List.set_cons_succ]
  refine wpAnyN_take (i := 5) (oi := { dst := some 16, op := Go.Op.move (Go.Operand.tmp 1), type := 27, pos := "row.go:69", after := #[], guard := none }) (v := .int .i64 q) rfl (by decide) (by kernel_rfl) (by kernel_rfl) (by kernel_rfl) (fun _ _ _ h => h) (Or.inl ⟨by rfl, ?_⟩) HR.out ?_
  · intro W9 hS9
    go_simp
  try simp only [Act.put, List.setIfInBounds_toArray, List.set_cons_zero, List.set_cons_succ]
  refine wpAnyX_one (i := 4) (o := { dst := some 15, op := Go.Op.call { callee := Go.Callee.value (Go.Operand.func 41), args := #[Go.Operand.const (Go.Value.int Go.IntKind.u64 1099511627775)], argTypes := #[34] }, type := 83, pos := "row.go:69", after := #[], guard := none }) (by kernel_rfl) rfl (fun K hK => ?_)
  have HN := Try.upTo_any 1099511627775 W2
  refine step_call_g (by rfl) 41 _ _ rfl (fun _ _ => by kernel_rfl) #[.int .u64 1099511627775] (by simp [go_sem]) _ HN ?_
  rintro e W3 ⟨v, rfl, hm, hC⟩
  have HM := Lib.hid hm
  have HR := Lib.hid (HR.out.below hC HR.out.lt)
  have HB := Lib.hid (HB.out.trans (hC.mono HB.out.size))
  clear hC HN hm
  refine ⟨_, rfl, ?_⟩
  refine hK.out _ _ (fun _ => HR.out) ?_
  clear hK K
  try simp only [Act.put, List.setIfInBounds_toArray, List.set_cons_zero, List.set_cons_succ]
  refine wpAnyX_one (i := 6) (o := { dst := some 17, op := Go.Op.call { callee := Go.Callee.value (Go.Operand.func 73), args := #[Go.Operand.tmp 14, Go.Operand.tmp 15, Go.Operand.tmp 16], argTypes := #[34, 83, 27] }, type := 34, pos := "row.go:69", after := #[{ on := 3, ground := Go.Ground.data }, { on := 4, ground := Go.Ground.data }, { on := 5, ground := Go.Ground.data }, { on := 4, ground := Go.Ground.chain }], guard := none }) (by kernel_rfl) rfl (fun K hK => ?_)
  have HN := Try.numUU_any (y : Nat) q v _ W3 HM.out
  refine step_callP_g (by rfl) 73 _ _ rfl (fun _ _ => by kernel_rfl) #[.int .u64 (y : Nat), v, .int .i64 q] (by simp [go_sem]) _ HN ?_
  clear HN
  rintro e w9 ⟨hw9, hq9⟩
  subst w9
  rcases hq9 with ⟨h, rfl⟩ | ⟨h, rfl⟩
  rotate_left
  · refine .inr ⟨_, rfl, ?_⟩
    rw [up_gen] at h
    exact ⟨by trivial, HB.out, .inr ⟨q, rfl, rfl, by unfold entB; rw [HS.out, h]; rfl⟩⟩
  rw [up_gen] at h
  have HS2 := Lib.hid h
  clear h HM
  refine .inl ⟨_, rfl, ?_⟩
  refine hK.out _ _ (fun _ => HR.out) ?_
  clear hK K
  try simp only [Act.put, List.setIfInBounds_toArray, List.set_cons_zero, List.set_cons_succ]
  have hw2 : IntKind.u64.wrap ((y : Int) * 65536) = (y : Int) * 65536 := by
    rw [IntKind.wrap_u64]
    have := of_decide_eq_true HS2.out
    omega
  have hor := pack_or (slabB_yes HS.out) (of_decide_eq_true HS2.out)
  refine wpAnyN_take (i := 7) (oi := { dst := some 18, op := Go.Op.binOp Go.BinOp.shl 34 (Go.Operand.tmp 17) (Go.Operand.const (Go.Value.int Go.IntKind.u64 16)) 78, type := 34, pos := "row.go:69", after := #[{ on := 6, ground := Go.Ground.data }], guard := none }) (v := .int .u64 ((y : Int) * 65536)) rfl (by decide) (by kernel_rfl) (by kernel_rfl) (by kernel_rfl) (fun _ _ _ h => h) (Or.inl ⟨by rfl, ?_⟩) HR.out ?_
  · intro W9 hS9
    go_simp
  try simp only [Act.put, List.setIfInBounds_toArray, List.set_cons_zero, List.set_cons_succ]
  refine wpAnyN_take (i := 8) (oi := { dst := some 19, op := Go.Op.binOp Go.BinOp.or 34 (Go.Operand.tmp 12) (Go.Operand.tmp 18) 34, type := 34, pos := "row.go:69", after := #[{ on := 1, ground := Go.Ground.data }, { on := 7, ground := Go.Ground.data }], guard := none }) (v := .int .u64 (packV x y : Nat)) rfl (by decide) (by kernel_rfl) (by kernel_rfl) (by kernel_rfl) (fun _ _ _ h => h) (Or.inl ⟨by rfl, ?_⟩) HR.out ?_
  · intro W9 hS9
    go_simp
  try simp only [Act.put, List.setIfInBounds_toArray, List.set_cons_zero, List.set_cons_succ]
  refine wpAnyN_take (i := 9) (oi := { dst := some 4, op := Go.Op.assign (Go.Operand.tmp 19), type := 34, pos := "row.go:69", after := #[{ on := 8, ground := Go.Ground.data }, { on := 6, ground := Go.Ground.chain }, { on := 0, ground := Go.Ground.phase }, { on := 1, ground := Go.Ground.phase }, { on := 2, ground := Go.Ground.phase }, { on := 3, ground := Go.Ground.phase }, { on := 4, ground := Go.Ground.phase }, { on := 5, ground := Go.Ground.phase }, { on := 6, ground := Go.Ground.phase }, { on := 7, ground := Go.Ground.phase }, { on := 8, ground := Go.Ground.phase }], guard := none }) (v := .int .u64 (packV x y : Nat)) rfl (by decide) (by kernel_rfl) (by kernel_rfl) (by kernel_rfl) (fun _ _ _ h => h) (Or.inl ⟨by rfl, ?_⟩) HR.out ?_
  · intro W9 hS9
    go_simp
  try simp only [Act.put, List.setIfInBounds_toArray, List.set_cons_zero, List.set_cons_succ]
  refine wpAnyX_end (by kernel_rfl) ?_
  clear HR hw1 hw2 hor
  go_wp2_with fail
  go_ret
  exact ⟨HB.out, .inl ⟨_, rfl, rfl, by unfold entB; rw [HS.out, HS2.out]; rfl⟩⟩
set_option maxHeartbeats 1000000 in
theorem Try.Pack1_any (x : Int) (y : Nat) (hx : I64 x) (B : Nat) (w : World) (hr : Rows8 w B 36 #[.int .i64 x, .int .u64 (y : Nat)]) : Calls Try.prog 45 #[.pointer (some ⟨B, 0, none⟩)] w fun e w' => Below w.heap.size w w' ∧ ((∃ v, e = .returned v ∧ v = .int .u64 (packV x y : Nat) ∧ entB x y = true) ∨ ∃ q', e = .panicked (panicA q') ∧ q' = 262 ∧ entB x y = false) := by
  have HQ := Lib.hid (Try.packed_any x y 262 hx w)
  have c0 : w.cell? ⟨B, 0, none⟩ = some (.int .i64 x) := hr.cell 0
  have c1 : w.cell? ⟨B, 1, none⟩ = some (.int .u64 (y : Nat)) := hr.cell 1
  clear hr hx
  go_enter Try.func45, Try.ntmps45
  go_wp2_with fail
  refine HQ.out.mono ?_
  rintro e W1 ⟨hC, ⟨v, rfl, rfl, h⟩ | ⟨q, rfl, rfl, h⟩⟩
  · have HB := Lib.hid hC
    have H := Lib.hid h
    clear hC h HQ c0 c1
    go_wp2_with fail
    go_ret
    exact ⟨HB.out, .inl ⟨_, rfl, rfl, H.out⟩⟩
  · have HB := Lib.hid hC
    have H := Lib.hid h
    clear hC h HQ c0 c1
    unfold panicA
    go_wp2_with fail
    exact ⟨(by first | rfl | trivial), HB.out, .inr ⟨_, rfl, rfl, H.out⟩⟩
set_option maxHeartbeats 1000000 in
theorem Try.Pack_any (x : Int) (y : Nat) (hx : I64 x) (w : World) : Calls Try.prog 14 #[.agg #[.int .i64 x, .int .u64 (y : Nat)]] w fun e w' => ((entB x y = true ∧ e = .returned (.tuple #[.int .u64 (packV x y : Nat), .int .i64 0])) ∨ (entB x y = false ∧ e = .returned (.tuple #[.int .u64 0, .int .i64 262]))) ∧ Below w.heap.size w w' := by
  have hT := Try.caughtU_any 45 #[.pointer (some ⟨w.heap.size, 0, none⟩)] (w.alloc (.cells #[.int .i64 x, .int .u64 (y : Nat)] 36)) (fun v _ => v = .int .u64 (packV x y : Nat) ∧ entB x y = true) (fun q => q = 262 ∧ entB x y = false) (fun _ _ => by kernel_rfl)
    (Try.Pack1_any x y hx _ _ ((Rows8.new _ _ _).alloc _)) (fun _ _ _ _ h => h)
  have HT := Lib.hid hT
  have HE : Hid (Below w.heap.size w (w.alloc (.cells #[.int .i64 x, .int .u64 (y : Nat)] 36))) := Lib.hid Rows8.newB
  clear hT hx
  go_enter Try.func14, Try.ntmps14
  go_wp2_with fail
  refine HT.out.mono ?_
  rintro e W1 ⟨hC, ⟨v, rfl, rfl, h⟩ | ⟨q, rfl, rfl, h⟩⟩
  · have HB := Lib.hid (HE.out.trans (hC.mono HE.out.size))
    have H := Lib.hid h
    clear hC HT HE h
    go_wp2_with fail
    go_ret2
    exact ⟨.inl ⟨H.out, rfl⟩, HB.out⟩
  · have HB := Lib.hid (HE.out.trans (hC.mono HE.out.size))
    have H := Lib.hid h
    clear hC HT HE h
    go_wp2_with fail
    go_ret2
    exact ⟨.inr ⟨H.out, rfl⟩, HB.out⟩
/-- Is this an entry's word? -/
def okU (z : Nat) : Bool := (decide (1 ≤ z % 65536) && decide (z % 65536 ≤ 128)) && decide (z / 65536 < 1099511627776)
theorem and_65535 (z : Nat) (hz : z < 18446744073709551616) : bits .and .u64 (z : Int) 65535 = ((z % 65536 : Nat) : Int) := by
  rw [show (65535 : Int) = ((65535 : Nat) : Int) from rfl, u64_and_nat _ _ hz (by decide)]
  exact congrArg _ (Nat.and_two_pow_sub_one_eq_mod z 16)
theorem bt_slab (m : Nat) : (decide (1 ≤ (m : Int)) && decide ((m : Int) ≤ 128)) = (decide (1 ≤ m) && decide (m ≤ 128)) := by
  rw [show decide (1 ≤ (m : Int)) = decide (1 ≤ m) from decide_eq_decide.2 (by omega), show decide ((m : Int) ≤ 128) = decide (m ≤ 128) from decide_eq_decide.2 (by omega)]
theorem up_gen' (m : Nat) : decide ((m : Int) ≤ 1099511627775) = decide (m < 1099511627776) := decide_eq_decide.2 (by omega)
set_option maxHeartbeats 2000000 in
theorem Try.unpacked_any (z : Nat) (hz : z < 18446744073709551616) (q : Int) (w : World) : Calls Try.prog 50 #[.int .u64 (z : Nat), .int .i64 q] w fun e w' => Below w.heap.size w w' ∧ ((∃ x y : Int, e = .returned (.agg #[.int .i64 x, .int .u64 y]) ∧ x = (z % 65536 : Nat) - 1 ∧ y = (z / 65536 : Nat) ∧ okU z = true) ∨ ∃ q', e = .panicked (panicA q') ∧ q' = q ∧ okU z = false) := by
  obtain ⟨W0, hW0⟩ : ∃ W, W = w.alloc (.cells #[.int .i64 0, .int .u64 0] 36) := ⟨_, rfl⟩
  have HR : Hid (Rows8 W0 w.heap.size 36 #[.int .i64 0, .int .u64 0]) := Lib.hid (by rw [hW0]; exact Rows8.new _ _ _)
  have HB : Hid (Below w.heap.size w W0) := Lib.hid (by rw [hW0]; exact Rows8.newB)
  have hand := and_65535 z hz
  have HQ := Lib.hid (Try.between_any 1 128 W0)
  have hdv : ((z : Int) / 65536) = ((z / 65536 : Nat) : Int) := by omega
  have hmd := Nat.mod_lt z (show 0 < 65536 by decide)
  obtain ⟨g, hg⟩ : ∃ g, g = z / 65536 := ⟨_, rfl⟩
  obtain ⟨m, hm⟩ : ∃ m, m = z % 65536 := ⟨_, rfl⟩
  have hok : okU z = ((decide (1 ≤ m) && decide (m ≤ 128)) && decide (g < 1099511627776)) := by rw [hm, hg]; rfl
  rw [← hg, ← hm, hok]
  rw [← hg] at hdv
  rw [← hm] at hand hmd
  clear hg hm hok hz
  go_enter Try.func50, Try.ntmps50
  go_wp2_with fail
  rw [← hW0]
  clear hW0
  refine HQ.out.mono ?_
  rintro e W1 ⟨v, rfl, hm, hC⟩
  have HN := Lib.hid (Try.numIU_any m q v _ W1 hm)
  have HR := Lib.hid (HR.out.below hC HR.out.lt)
  have HB := Lib.hid (HB.out.trans (hC.mono HB.out.size))
  clear hC hm HQ
  go_wp2_with fail
  refine HN.out.mono ?_
  rintro e w9 ⟨hw9, hq9⟩
  subst w9
  rw [bt_slab] at hq9
  rcases hq9 with ⟨h, rfl⟩ | ⟨h, rfl⟩
  rotate_left
  · have H := Lib.hid h
    clear h HN hand hdv hmd
    go_wp2_with fail
    exact ⟨(by first | rfl | trivial), HB.out, .inr ⟨q, rfl, rfl, by rw [H.out]; rfl⟩⟩
  · have hml : 1 ≤ m ∧ m ≤ 128 := by simpa using h
    have hw0 : wrap64 (m : Int) = (m : Int) := IntWalk.wrap64_in _ ⟨by omega, by omega⟩
    have hw1 : IntKind.i64.wrap ((m : Int) - 1) = (m : Int) - 1 := IntWalk.i64_in _ (by omega)
    rw [hw0]
    have H := Lib.hid h
    have HQ := Lib.hid (Try.upTo_any 1099511627775 W1)
    clear h HN hand hml hw0
    go_wp2_with fail
    refine HQ.out.mono ?_
    rintro e W2 ⟨v2, rfl, hm, hC⟩
    have HN := Lib.hid (Try.numUU_any g q v2 _ W2 hm)
    have HR := Lib.hid (HR.out.below hC HR.out.lt)
    have HB := Lib.hid (HB.out.trans (hC.mono HB.out.size))
    clear hC hm HQ
    go_wp2_with fail
    refine HN.out.mono ?_
    rintro e w9 ⟨hw9, hq9⟩
    subst w9
    rw [up_gen'] at hq9
    rcases hq9 with ⟨h, rfl⟩ | ⟨h, rfl⟩
    rotate_left
    · have H2 := Lib.hid h
      clear h HN hdv hmd
      unfold panicA
      go_wp2_with fail
      exact ⟨(by first | rfl | trivial), HB.out, .inr ⟨q, rfl, rfl, by rw [H.out, H2.out]; rfl⟩⟩
    · have H2 := Lib.hid h
      clear h HN hdv hmd
      have c0 : W2.cell? ⟨w.heap.size, 0, none⟩ = some (.int .i64 0) := HR.out.cell 0
      have c1 : W2.cell? ⟨w.heap.size, 1, none⟩ = some (.int .u64 0) := HR.out.cell 1
      have f0 := HR.out.frozen 0
      have f1 := HR.out.frozen 1
      have l0 := HR.out.lt
      have t2 := HR.out.set2 (.int .i64 ((m : Int) - 1)) (.int .u64 (g : Int))
      have HT := Lib.hid t2
      clear t2
      go_wp2_with fail
      refine bodyPost_ret (results_c1 rfl _ _ (w.heap.size) _ rfl (load_row HT.out Try.underlying36 rfl (by kernel_rfl))) rfl ?_
      exact ⟨(HB.out.setCell (Nat.le_refl _) _).setCell (Nat.le_refl _) _, .inl ⟨_, _, rfl, rfl, rfl, by rw [H.out, H2.out]; rfl⟩⟩
end Go.Proofs
