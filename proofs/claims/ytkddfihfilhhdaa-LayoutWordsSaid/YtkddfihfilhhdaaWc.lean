/- Layout: what a word may be, numbers, and what is caught. -/
import Derived.Test.YtkddfihfilhhdaaRz
import Derived.Test.YtkddfihfilhhdaaAa
import Derived.Test.YtkddfihfilhhdaaWa
import Derived.Defers
import Derived.Recover
namespace Go.Proofs
set_option maxRecDepth 100000
open Go.RowKit Go.Shelf
attribute [local go_sem] Oper.semAt_some

theorem load_row {P : Program} {W : World} {B : Nat} {t : TypeId} {cs : Array Value} (h : Rows8 W B t cs) {d : TypeDesc} (hu : P.underlying t = some d) (hd : (match d with | .struct _ | .array _ _ => true | _ => false) = true) (hi : (P.info? t).map (·.size) = some cs.size) :
    (loadVar t ⟨B, 0, none⟩).run P W = .ok (.agg cs) W := run_loadVar_row W B t t cs (0, 0) d h hu hd hi
def panicA (n : Int) : List PanicEntry := [{ v := .iface 27 (.int .i64 n), recovered := false }]
theorem Try.neq_nil (n : Int) (W : World) : (binOp BinOp.neq 20 (.iface 27 (.int .i64 n)) .nilIface).run Try.prog W = .ok (.bool true) W := by kernel_rfl
theorem Try.assert_yes (v : Value) (W : World) : (Instr.typeAssert (.iface 27 v) 20 27 true).run Try.prog W = .ok (.tuple #[v, .bool true]) W := by kernel_rfl
theorem Try.nil_nil (W : World) : (binOp BinOp.neq 20 .nilIface .nilIface).run Try.prog W = .ok (.bool false) W := by kernel_rfl
theorem results_tc {P : Program} {fn : Func} {p q : Tmp} {ty : TypeId} (h : fn.results = #[.tmp p, .cell q ty]) (tmps : Array Value) (w : World) (B : Nat) (u x : Value)
    (hp : tmps.getD p undef = x) (hq : tmps.getD q undef = .pointer (some ⟨B, 0, none⟩)) (h1 : (loadVar ty ⟨B, 0, none⟩).run P w = .ok u w) :
    (results fn tmps).run P w = .ok (.tuple #[x, u]) w := by
  have hq' : tmps[q]?.getD undef = .pointer (some ⟨B, 0, none⟩) := by simpa using hq
  have hp' : tmps[p]?.getD undef = x := by simpa using hp
  simp [results, h, hp', hq', asAddr, h1, Result.andThen]
/-- A function value that says of each word whether it may be. -/
def Try.MayAt (W : World) (v : Value) (p : Int → Bool) : Prop := ∃ (f : FuncId) (cs : Array Value), v = .func (.func f) #[] cs ∧ (∀ args w, (callFunc f args).run Try.prog w = .ok (.enter f args) w) ∧
  ∀ W', Below W.heap.size W W' → ∀ x : Int, Calls Try.prog f (#[] ++ #[.int .u64 x] ++ cs) W' fun e w' => e = .returned (.bool (p x)) ∧ w' = W'
theorem Try.MayAt.below {W W1 : World} {v : Value} {p : Int → Bool} (h : Try.MayAt W v p) (hB : Below W.heap.size W W1) : Try.MayAt W1 v p := by
  obtain ⟨f, cs, h1, h2, h3⟩ := h
  exact ⟨f, cs, h1, h2, fun W' hW => h3 W' (hB.trans (hW.mono hB.size))⟩
theorem Try.upTo1_any (x last : Int) (B : Nat) (w : World) (h : Rows8 w B 34 #[.int .u64 last]) :
    Calls Try.prog 69 #[.int .u64 x, .pointer (some ⟨B, 0, none⟩)] w fun e w' => e = .returned (.bool (decide (x ≤ last))) ∧ w' = w := by
  have c0 : w.cell? ⟨B, 0, none⟩ = some (.int .u64 last) := h.cell 0
  clear h
  go_enter Try.func69, Try.ntmps69
  go_wp2_with fail
  go_ret
  exact ⟨rfl, rfl⟩
theorem Try.upTo_any (last : Int) (w : World) : Calls Try.prog 41 #[.int .u64 last] w fun e w' => ∃ v, e = .returned v ∧ Try.MayAt w' v (fun x => decide (x ≤ last)) ∧ Below w.heap.size w w' := by
  have hn := Rows8.new w 34 #[.int .u64 last]
  have HQ := Lib.hid (fun W' (h : Below (w.alloc (.cells #[.int .u64 last] 34)).heap.size (w.alloc (.cells #[.int .u64 last] 34)) W') x => Try.upTo1_any x last w.heap.size W' (hn.below h hn.lt))
  clear hn
  go_enter Try.func41, Try.ntmps41
  go_wp2_with fail
  go_ret
  exact ⟨_, rfl, ⟨_, _, rfl, fun _ _ => by kernel_rfl, fun W' h x => HQ.out W' h x⟩, Rows8.newB⟩
theorem Try.between1_any (x fst last : Int) (B C : Nat) (w : World) (h : Rows8 w B 34 #[.int .u64 fst]) (h2 : Rows8 w C 34 #[.int .u64 last]) :
    Calls Try.prog 70 #[.int .u64 x, .pointer (some ⟨B, 0, none⟩), .pointer (some ⟨C, 0, none⟩)] w fun e w' => e = .returned (.bool (decide (fst ≤ x) && decide (x ≤ last))) ∧ w' = w := by
  have c0 : w.cell? ⟨B, 0, none⟩ = some (.int .u64 fst) := h.cell 0
  have c1 : w.cell? ⟨C, 0, none⟩ = some (.int .u64 last) := h2.cell 0
  clear h h2
  cases hz : decide (fst ≤ x) with
  | true =>
    go_enter Try.func70, Try.ntmps70
    go_wp2_with fail
    go_ret
    exact ⟨(by simp), rfl⟩
  | false =>
    go_enter Try.func70, Try.ntmps70
    go_wp2_with fail
    go_ret
    exact ⟨(by simp), rfl⟩
theorem Try.between_any (fst last : Int) (w : World) : Calls Try.prog 43 #[.int .u64 fst, .int .u64 last] w fun e w' => ∃ v, e = .returned v ∧ Try.MayAt w' v (fun x => decide (fst ≤ x) && decide (x ≤ last)) ∧ Below w.heap.size w w' := by
  have hn := (Rows8.new w 34 #[.int .u64 fst]).alloc (.cells #[.int .u64 last] 34)
  have hm := rows_new2 w (.cells #[.int .u64 fst] 34) 34 #[.int .u64 last]
  have HQ := Lib.hid (fun W' (h : Below ((w.alloc (.cells #[.int .u64 fst] 34)).alloc (.cells #[.int .u64 last] 34)).heap.size ((w.alloc (.cells #[.int .u64 fst] 34)).alloc (.cells #[.int .u64 last] 34)) W') x => Try.between1_any x fst last w.heap.size (w.heap.size + 1) W' (hn.below h hn.lt) (hm.below h hm.lt))
  clear hn hm
  go_enter Try.func43, Try.ntmps43
  go_wp2_with fail
  go_ret
  exact ⟨_, rfl, ⟨_, _, rfl, fun _ _ => by kernel_rfl, fun W' h x => HQ.out W' h x⟩, (Rows8.newB).alloc (by simp) _⟩
theorem Try.numII_any (n q : Int) (v : Value) (p : Int → Bool) (w : World) (h : Try.MayAt w v p) :
    Calls Try.prog 40 #[.int .i64 n, v, .int .i64 q] w fun e w' => w' = w ∧ ((p (IntKind.u64.wrap n) = true ∧ e = .returned (.int .i64 n)) ∨ (p (IntKind.u64.wrap n) = false ∧ e = .panicked (panicA q))) := by
  obtain ⟨f, cs, rfl, eg, hc⟩ := h
  have HC := Lib.hid (hc w (Below.refl _ _) (IntKind.u64.wrap n))
  clear hc
  go_enter Try.func40, Try.ntmps40
  go_wp2_with fail
  refine HC.out.mono ?_
  rintro e w' ⟨rfl, rfl⟩
  cases hz : p (IntKind.u64.wrap n) with
  | true =>
    have HZ := Lib.hid hz
    clear hz
    go_wp2_with fail
    go_ret
    exact ⟨rfl, .inl ⟨HZ.out, rfl⟩⟩
  | false =>
    have HZ := Lib.hid hz
    clear hz
    go_wp2_with fail
    exact ⟨(by first | rfl | trivial), rfl, .inr ⟨HZ.out, rfl⟩⟩
theorem Try.numUI_any (n q : Int) (v : Value) (p : Int → Bool) (w : World) (h : Try.MayAt w v p) :
    Calls Try.prog 72 #[.int .i64 n, v, .int .i64 q] w fun e w' => w' = w ∧ ((p (IntKind.u64.wrap n) = true ∧ e = .returned (.int .u64 (IntKind.u64.wrap n))) ∨ (p (IntKind.u64.wrap n) = false ∧ e = .panicked (panicA q))) := by
  obtain ⟨f, cs, rfl, eg, hc⟩ := h
  have HC := Lib.hid (hc w (Below.refl _ _) (IntKind.u64.wrap n))
  clear hc
  go_enter Try.func72, Try.ntmps72
  go_wp2_with fail
  refine HC.out.mono ?_
  rintro e w' ⟨rfl, rfl⟩
  cases hz : p (IntKind.u64.wrap n) with
  | true =>
    have HZ := Lib.hid hz
    clear hz
    go_wp2_with fail
    go_ret
    exact ⟨rfl, .inl ⟨HZ.out, rfl⟩⟩
  | false =>
    have HZ := Lib.hid hz
    clear hz
    go_wp2_with fail
    exact ⟨(by first | rfl | trivial), rfl, .inr ⟨HZ.out, rfl⟩⟩
theorem Try.numUU_any (n q : Int) (v : Value) (p : Int → Bool) (w : World) (h : Try.MayAt w v p) :
    Calls Try.prog 73 #[.int .u64 n, v, .int .i64 q] w fun e w' => w' = w ∧ ((p n = true ∧ e = .returned (.int .u64 n)) ∨ (p n = false ∧ e = .panicked (panicA q))) := by
  obtain ⟨f, cs, rfl, eg, hc⟩ := h
  have HC := Lib.hid (hc w (Below.refl _ _) n)
  clear hc
  go_enter Try.func73, Try.ntmps73
  go_wp2_with fail
  refine HC.out.mono ?_
  rintro e w' ⟨rfl, rfl⟩
  cases hz : p n with
  | true =>
    have HZ := Lib.hid hz
    clear hz
    go_wp2_with fail
    go_ret
    exact ⟨rfl, .inl ⟨HZ.out, rfl⟩⟩
  | false =>
    have HZ := Lib.hid hz
    clear hz
    go_wp2_with fail
    exact ⟨(by first | rfl | trivial), rfl, .inr ⟨HZ.out, rfl⟩⟩
theorem Try.numIU_any (n q : Int) (v : Value) (p : Int → Bool) (w : World) (h : Try.MayAt w v p) :
    Calls Try.prog 75 #[.int .u64 n, v, .int .i64 q] w fun e w' => w' = w ∧ ((p n = true ∧ e = .returned (.int .i64 (wrap64 n))) ∨ (p n = false ∧ e = .panicked (panicA q))) := by
  obtain ⟨f, cs, rfl, eg, hc⟩ := h
  have HC := Lib.hid (hc w (Below.refl _ _) n)
  clear hc
  go_enter Try.func75, Try.ntmps75
  go_wp2_with fail
  refine HC.out.mono ?_
  rintro e w' ⟨rfl, rfl⟩
  cases hz : p n with
  | true =>
    have HZ := Lib.hid hz
    clear hz
    go_wp2_with fail
    go_ret
    exact ⟨rfl, .inl ⟨HZ.out, rfl⟩⟩
  | false =>
    have HZ := Lib.hid hz
    clear hz
    go_wp2_with fail
    exact ⟨(by first | rfl | trivial), rfl, .inr ⟨HZ.out, rfl⟩⟩
end Go.Proofs
