/- Ctrl: a draft filled, erased, made ready. -/
import Derived.Test.YtacphakpmmickaaGreatZJf
import Derived.Test.YtacphakpmmickaaGreatZRi
namespace Go.Proofs
set_option maxRecDepth 100000
set_option maxRecDepth 100000
open Go.RowKit Go.Shelf
attribute [local go_sem] Oper.semAt_some

/-- What a change comes to. -/
def ChQ (D : Nat) (t : TypeId) (cs : Array Value) (E : Int) (y : Nat) (w : World) (e : Ending) (w' : World) : Prop :=
  (E = 0 ∧ (∃ v, e = .returned v) ∧ Rows8 w' D t (cs.setIfInBounds 0 (.int .u64 (y : Nat))) ∧ But w.heap.size D w w') ∨ (E ≠ 0 ∧ e = .panicked (panic1 E) ∧ Below w.heap.size w w')
def fillE (x : Nat) (lane : Int) (h : Nat) : Int := if lane < 0 ∨ 8 ≤ lane then 110 else if 127 < h then 2 else if kd (byt x lane.toNat) = 0 then 5 else 0
def fillS (x : Nat) (lane : Int) (h : Nat) : Nat := setB x lane.toNat h
def eraseE (x : Nat) (lane : Int) : Int := if lane < 0 ∨ 8 ≤ lane then 110 else if kd (byt x lane.toNat) = 0 then 0 else 4
def eraseS (x : Nat) (lane : Int) : Nat := setB x lane.toNat (if stopsC x then 128 else 254)
theorem kd_no {h : Nat} (hh : 127 < h) : kd h ≠ 0 := by
  unfold kd
  rw [if_neg (by omega)]
  repeat' split
  all_goals decide
theorem kd_yes {h : Nat} (hh : ¬ 127 < h) : kd h = 0 := by simp [kd, Nat.not_lt.1 hh]
theorem kdi {k : Nat} {b : Bool} (h : (k == 0) = b) : (((k : Nat) : Int) == 0) = b := by rw [← h]; exact natEq_walk _ 0

set_option maxHeartbeats 2000000 in
theorem Tryz.cfill_any (x : Nat) (lane : Int) (h D : Nat) (hx : x < 18446744073709551616) (hh : h < 256) (t : TypeId) (cs : Array Value) (w : World) (hD : Draft w D t cs x lane h) :
    Calls Tryz.prog 72 #[.pointer (some ⟨D, 0, none⟩)] w (ChQ D t cs (fillE x lane h) (fillS x lane h) w) := by
  have HI := Lib.hid (Tryz.is_any x lane h D t cs w hD)
  have HD := Lib.hid hD
  have hl := hD.row.lt
  have HSD := Lib.hid fun W => Tryz.said_any h W
  have HX := Lib.hid hx
  have HH := Lib.hid hh
  clear hD hx hh
  go_enter Tryz.func72, Tryz.ntmps72
  go_wp2_with fail
  refine HI.out.mono ?_
  rintro e w1 ⟨hB, _, hc⟩
  rcases hc with ⟨k, rfl, hk, rfl⟩ | ⟨hb, rfl⟩
  · have hfE : fillE x k h = if 127 < h then 2 else if kd (byt x k) = 0 then 5 else 0 := by
      unfold fillE
      rw [if_neg (by omega), Int.toNat_natCast]
    have HFE := Lib.hid hfE
    have HK := Lib.hid hk
    have d1 := HD.out.below hB hl
    have c2 := d1.c2
    have HD1 := Lib.hid d1
    have HB := Lib.hid hB
    clear hfE hk d1 hB
    by_cases h1 : 127 < h
    · have h2 := kdi (beq_eq_false_iff_ne.2 (kd_no h1))
      have H1 := Lib.hid h1
      clear h1
      go_wp2_with (go_at_call 55; refine (HSD.out _).mono ?_; rintro e w' ⟨rfl, rfl⟩)
      exact ⟨rfl, .inr ⟨by rw [HFE.out, if_pos H1.out]; decide, by rw [HFE.out, if_pos H1.out]; rfl, HB.out⟩⟩
    · have h2 := kdi (k := kd h) (b := true) (by rw [kd_yes h1]; rfl)
      have H1 := Lib.hid h1
      clear h1
      cases h3 : (kd (byt x k) == 0)
      · have h4 := kdi h3
        have H3 := Lib.hid h3
        have HP := Lib.hid (Tryz.cput_any x h k h D HK.out HX.out HH.out t cs w1 HD1.out)
        clear h3
        generalize kd (byt x k) = kx at *
        go_wp2_with (go_at_call 55; refine (HSD.out _).mono ?_; rintro e w' ⟨rfl, rfl⟩)
        refine HP.out.mono ?_
        rintro e w2 ⟨⟨v, rfl⟩, hr, hbt⟩
        have HR := Lib.hid hr
        have HBT := Lib.hid hbt
        clear hr hbt
        go_wp2_with fail
        go_end0
        refine .inl ⟨by rw [HFE.out, if_neg H1.out, if_neg (by simpa using H3.out)], ⟨_, rfl⟩, ?_, (But.of_below HB.out).trans ⟨HBT.out.os, HBT.out.tape, HBT.out.output, HBT.out.size, fun j a b => HBT.out.block j (Nat.lt_of_lt_of_le a HB.out.size) b⟩⟩
        unfold fillS
        rw [Int.toNat_natCast]
        exact HR.out
      · have h4 := kdi h3
        have H3 := Lib.hid h3
        clear h3
        generalize kd (byt x k) = kx at *
        go_wp2_with (go_at_call 55; refine (HSD.out _).mono ?_; rintro e w' ⟨rfl, rfl⟩)
        have he : (if 127 < h then (2 : Int) else if kx = 0 then 5 else 0) = 5 := by rw [if_neg H1.out, if_pos (by simpa using H3.out)]
        exact ⟨rfl, .inr ⟨by rw [HFE.out, he]; decide, by rw [HFE.out, he]; rfl, HB.out⟩⟩
  · have he : fillE x lane h = 110 := by unfold fillE; rw [if_pos hb]
    have HE := Lib.hid he
    have HB := Lib.hid hB
    clear he hB hb
    unfold panic1
    go_wp2_with fail
    exact ⟨rfl, .inr ⟨by rw [HE.out]; decide, by rw [HE.out]; rfl, HB.out⟩⟩

set_option maxHeartbeats 2000000 in
theorem Tryz.cerase_any (x : Nat) (lane : Int) (h D : Nat) (hx : x < 18446744073709551616) (t : TypeId) (cs : Array Value) (w : World) (hD : Draft w D t cs x lane h) :
    Calls Tryz.prog 69 #[.pointer (some ⟨D, 0, none⟩)] w (ChQ D t cs (eraseE x lane) (eraseS x lane) w) := by
  have HI := Lib.hid (Tryz.is_any x lane h D t cs w hD)
  have HD := Lib.hid hD
  have hl := hD.row.lt
  have HX := Lib.hid hx
  clear hD hx
  go_enter Tryz.func69, Tryz.ntmps69
  go_wp2_with fail
  refine HI.out.mono ?_
  rintro e w1 ⟨hB, _, hc⟩
  rcases hc with ⟨k, rfl, hk, rfl⟩ | ⟨hb, rfl⟩
  · have hfE : eraseE x k = if kd (byt x k) = 0 then 0 else 4 := by
      unfold eraseE
      rw [if_neg (by omega), Int.toNat_natCast]
    have HFE := Lib.hid hfE
    have HK := Lib.hid hk
    have d1 := HD.out.below hB hl
    have c0 := d1.c0
    have HD1 := Lib.hid d1
    have HB := Lib.hid hB
    have HS := Lib.hid (Tryz.stops_any x w1)
    clear hfE hk d1 hB
    cases h3 : (kd (byt x k) == 0)
    · have h4 := kdi h3
      have H3 := Lib.hid h3
      clear h3
      generalize kd (byt x k) = kx at *
      go_wp2_with fail
      have he : (if kx = 0 then (0 : Int) else 4) = 4 := by rw [if_neg (by simpa using H3.out)]
      exact ⟨rfl, .inr ⟨by rw [HFE.out, he]; decide, by rw [HFE.out, he]; rfl, HB.out⟩⟩
    · have h4 := kdi h3
      have H3 := Lib.hid h3
      clear h3
      have hS : Hid (eraseS x k = setB x k (if stopsC x then 128 else 254)) := Lib.hid (by unfold eraseS; rw [Int.toNat_natCast])
      cases hs : stopsC x
      · have HP := Lib.hid fun W (b : Below w1.heap.size w1 W) => Tryz.cput_any x 254 k h D HK.out HX.out (by decide) t cs W (HD1.out.below b (Nat.lt_of_lt_of_le hl HB.out.size))
        rw [hs] at HS hS
        generalize kd (byt x k) = kx at *
        go_wp2_with (first
          | (go_at_call 89; refine HS.out.mono ?_; rintro e w2 ⟨rfl, hB2⟩)
          | (go_at_call 90; refine (HP.out _ hB2).mono ?_; rintro e w3 ⟨⟨v, rfl⟩, hr, hbt⟩; have HR := Lib.hid hr; have HBT := Lib.hid hbt; clear hr hbt))
        go_end0
        have hB3 := HB.out.trans (hB2.mono HB.out.size)
        refine .inl ⟨by rw [HFE.out, if_pos (by simpa using H3.out)], ⟨_, rfl⟩, ?_, (But.of_below hB3).trans ⟨HBT.out.os, HBT.out.tape, HBT.out.output, HBT.out.size, fun j a b => HBT.out.block j (Nat.lt_of_lt_of_le a hB3.size) b⟩⟩
        rw [hS.out]
        exact HR.out
      · have HP := Lib.hid fun W (b : Below w1.heap.size w1 W) => Tryz.cput_any x 128 k h D HK.out HX.out (by decide) t cs W (HD1.out.below b (Nat.lt_of_lt_of_le hl HB.out.size))
        rw [hs] at HS hS
        generalize kd (byt x k) = kx at *
        go_wp2_with (first
          | (go_at_call 89; refine HS.out.mono ?_; rintro e w2 ⟨rfl, hB2⟩)
          | (go_at_call 90; refine (HP.out _ hB2).mono ?_; rintro e w3 ⟨⟨v, rfl⟩, hr, hbt⟩; have HR := Lib.hid hr; have HBT := Lib.hid hbt; clear hr hbt))
        first | go_end0 | refine bodyPost_ret (results_none rfl _ _ _) rfl ?_
        have hB3 := HB.out.trans (hB2.mono HB.out.size)
        refine .inl ⟨by rw [HFE.out, if_pos (by simpa using H3.out)], ⟨_, rfl⟩, ?_, (But.of_below hB3).trans ⟨HBT.out.os, HBT.out.tape, HBT.out.output, HBT.out.size, fun j a b => HBT.out.block j (Nat.lt_of_lt_of_le a hB3.size) b⟩⟩
        rw [hS.out]
        exact HR.out
  · have he : eraseE x lane = 110 := by unfold eraseE; rw [if_pos hb]
    have HE := Lib.hid he
    have HB := Lib.hid hB
    clear he hB hb
    unfold panic1
    go_wp2_with fail
    exact ⟨rfl, .inr ⟨by rw [HE.out]; decide, by rw [HE.out]; rfl, HB.out⟩⟩

def readyS (x : Nat) : Nat := setAll (byt (ofB fun _ => 254)) (ofB fun _ => 128) (lanesOf (setK x 0))
end Go.Proofs

/- Ctrl: tried: a panic of ours that is recovered. -/
namespace Go.Proofs
set_option maxRecDepth 100000
set_option maxRecDepth 100000
open Go.RowKit Go.Shelf
attribute [local go_sem] Oper.semAt_some

theorem Tryz.neq_nil (n : Int) (W : World) : (binOp BinOp.neq 20 (.iface 34 (.int .i64 n)) .nilIface).run Tryz.prog W = .ok (.bool true) W := by kernel_rfl
theorem Tryz.assert_yes (v : Value) (W : World) : (Instr.typeAssert (.iface 34 v) 20 34 true).run Tryz.prog W = .ok (.tuple #[v, .bool true]) W := by kernel_rfl
set_option maxHeartbeats 1000000 in
theorem Tryz.catch_panicking (E : Nat) (n z : Int) (older : List PanicEntry) (w : World) (hE : Rows8 w E 34 #[.int .i64 z]) :
    CallsD Tryz.prog 87 #[.pointer (some ⟨E, 0, none⟩)] (.panicking ({ v := .iface 34 (.int .i64 n), recovered := false } :: older)) w fun e u' w' =>
      e = .returned (.tuple #[]) ∧ u' = .panicking ({ v := .iface 34 (.int .i64 n), recovered := true } :: older) ∧ w' = w.setCell ⟨E, 0, none⟩ (.int .i64 n) := by
  have c2 : w.cell? ⟨E, 0, none⟩ = some (.int .i64 z) := hE.cell 0
  have f2 := hE.frozen 0
  refine callsD_of_wpS Tryz.func87 rfl fun c₀ cs hu => ?_
  apply wpS_seq
  apply wpS_region
  simp [wpOpsS, go_sem, recoverD, hu, Tryz.ntmps87, Exit.thenS]
  have hne := Tryz.neq_nil n
  have hta := Tryz.assert_yes (.int .i64 n)
  apply wpS_seq
  apply wpS_region
  simp [wpOpsS, go_sem, Exit.thenS, hne]
  refine wpS_cond (t := true) (by simp [Act.eval, Array.replicate]) ?_
  simp only [if_true]
  apply wpS_seq
  apply wpS_region
  simp [wpOpsS, go_sem, Exit.thenS, hta]
  apply wpS_seq
  apply wpS_seq
  apply wpS_region
  simp [wpOpsS, go_sem, Exit.thenS]
  refine wpS_cond (t := false) (by simp [Act.eval, Array.replicate]) ?_
  simp only [Bool.false_eq_true, if_false]
  refine wpS_of_wp (wp_skip ?_)
  simp only [Exit.thenS]
  apply wpS_region
  simp [wpOpsS, go_sem, c2, f2, bodyPostS, results, Tryz.results87]
theorem Tryz.nil_nil (W : World) : (binOp BinOp.neq 20 .nilIface .nilIface).run Tryz.prog W = .ok (.bool false) W := by kernel_rfl
theorem Tryz.catch_idle (q : Addr) (w : World) :
    CallsD Tryz.prog 87 #[.pointer (some q)] .returning w fun e u' w' => e = .returned (.tuple #[]) ∧ u' = .returning ∧ w' = w := by
  have hne := Tryz.nil_nil
  refine callsD_of_wpS Tryz.func87 rfl fun c₀ cs hu => ?_
  apply wpS_seq
  apply wpS_region
  simp [wpOpsS, go_sem, recoverD, hu, Tryz.ntmps87, Exit.thenS]
  apply wpS_seq
  apply wpS_region
  simp [wpOpsS, go_sem, Exit.thenS, hne]
  refine wpS_cond (t := false) (by simp [Act.eval, Array.replicate]) ?_
  simp only [Bool.false_eq_true, if_false]
  refine wpS_of_wp (wp_skip ?_)
  cases c₀
  simp_all [bodyPostS, results, Tryz.results87]
theorem results_tc1 {P : Program} {fn : Func} {p q : Tmp} {ty : TypeId} (h : fn.results = #[.tmp q, .cell p ty]) (tmps : Array Value) (w : World) (B : Nat) (u : Value)
    (hp : tmps.getD p undef = .pointer (some ⟨B, 0, none⟩)) (h1 : (loadVar ty ⟨B, 0, none⟩).run P w = .ok u w) : (results fn tmps).run P w = .ok (.tuple #[tmps.getD q undef, u]) w := by
  have hp' : tmps[p]?.getD undef = .pointer (some ⟨B, 0, none⟩) := by simpa using hp
  simp [results, h, hp', asAddr, h1, Result.andThen]

set_option maxHeartbeats 2000000 in
/-- .. of a word that may not be. -/
theorem Tryz.tried_no (x : Nat) (hr : rightC x = false) (lane : Int) (h D : Nat) (t : TypeId) (cs : Array Value) (f : FuncId) (fb fc : Array Value) (w : World) (hD : Draft w D t cs x lane h) :
    Calls Tryz.prog 68 #[.pointer (some ⟨D, 0, none⟩), .func (.func f) fb fc] w fun e w' => e = .returned (.tuple #[.int .u64 0, .int .i64 190]) ∧ Below w.heap.size w w' := by
  have hB0 : Below w.heap.size w (w.alloc (.cells #[.int .i64 0] 34)) := (Below.refl _ w).alloc (Nat.le_refl _) _
  have d0 := hD.below hB0 hD.row.lt
  have hM := Tryz.mayBe_any x (w.alloc (.cells #[.int .i64 0] 34))
  rw [hr] at hM
  have h1 := Rows8.new w 34 #[.int .i64 0]
  have hmf : ∀ (fn : Fn) (first cap : Array Value) (w : World), (Instr.makeFunc fn first cap).run Tryz.prog w = .ok (.func fn first cap) w := fun _ _ _ _ => rfl
  have HM := Lib.hid hM
  have HB0 := Lib.hid hB0
  have H1 := Lib.hid h1
  have c0 := d0.c0
  clear hM hB0 h1 hD d0 hr
  go_enter_defers Tryz.func68, Tryz.ntmps68
  go_wp2_with fail
  refine HM.out.mono ?_
  rintro e w1 ⟨rfl, hB1⟩
  have g1 := H1.out.below hB1 H1.out.lt
  have hcatch := Tryz.catch_panicking w.heap.size 190 0 [] w1 g1
  have s1 := g1.set 0 (.int .i64 190)
  simp only [List.setIfInBounds_toArray, List.set_cons_zero] at s1
  have hB2 := (HB0.out.trans (hB1.mono HB0.out.size)).setCell (p := ⟨w.heap.size, 0, none⟩) (Nat.le_refl _) (.int .i64 190)
  have S1 := Lib.hid s1
  have HB2 := Lib.hid hB2
  have HCT := Lib.hid hcatch
  clear hB1 g1 s1 hB2 hcatch
  go_wp2_with fail
  refine leaves_cons (f := 87) (args := #[.pointer (some ⟨w.heap.size, 0, none⟩)]) (by simp) (by simp [go_sem]) ?_
  refine HCT.out.mono ?_
  rintro e u' w'' ⟨rfl, rfl, rfl⟩
  refine ⟨_, results_tc1 rfl _ _ w.heap.size _ rfl (load_one S1.out (by kernel_rfl)), ?_⟩
  exact ⟨rfl, HB2.out⟩

set_option maxHeartbeats 2000000 in
theorem Tryz.tried_yes (x : Nat) (hr : rightC x = true) (lane : Int) (h D : Nat) (t : TypeId) (cs : Array Value) (f : FuncId) (fb fc : Array Value) (w : World) (hD : Draft w D t cs x lane h)
    (eg : ∀ args w, (callFunc f args).run Tryz.prog w = .ok (.enter f args) w) (Good : Nat → World → Prop) (Bad : Int → World → Prop)
    (hwork : ∀ W : World, Below w.heap.size w W → Rows8 W w.heap.size 34 #[.int .i64 0] → Calls Tryz.prog f (fb ++ fc) W fun e W' => Rows8 W' w.heap.size 34 #[.int .i64 0] ∧
      ((∃ (v : Value) (y : Nat), e = .returned v ∧ W'.cell? ⟨D, 0, none⟩ = some (.int .u64 y) ∧ Good y W') ∨ (∃ E, e = .panicked (panic1 E) ∧ Bad E W'))) :
    Calls Tryz.prog 68 #[.pointer (some ⟨D, 0, none⟩), .func (.func f) fb fc] w fun e w' =>
      (∃ (y : Nat) (W1 : World), e = .returned (.tuple #[.int .u64 y, .int .i64 0]) ∧ Good y W1 ∧ w' = W1.setCell ⟨w.heap.size, 0, none⟩ (.int .i64 0)) ∨
      (∃ (E : Int) (W1 : World), e = .returned (.tuple #[.int .u64 0, .int .i64 E]) ∧ Bad E W1 ∧ w' = W1.setCell ⟨w.heap.size, 0, none⟩ (.int .i64 E)) := by
  have hB0 : Below w.heap.size w (w.alloc (.cells #[.int .i64 0] 34)) := (Below.refl _ w).alloc (Nat.le_refl _) _
  have d0 := hD.below hB0 hD.row.lt
  have hM := Tryz.mayBe_any x (w.alloc (.cells #[.int .i64 0] 34))
  rw [hr] at hM
  have h1 := Rows8.new w 34 #[.int .i64 0]
  have hmf : ∀ (fn : Fn) (first cap : Array Value) (w : World), (Instr.makeFunc fn first cap).run Tryz.prog w = .ok (.func fn first cap) w := fun _ _ _ _ => rfl
  have HM := Lib.hid hM
  have HB0 := Lib.hid hB0
  have H1 := Lib.hid h1
  have HW := Lib.hid hwork
  have c0 := d0.c0
  have hDl := hD.row.lt
  clear hM hB0 h1 hD d0 hr hwork
  go_enter_defers Tryz.func68, Tryz.ntmps68
  go_wp2_with fail
  refine HM.out.mono ?_
  rintro e w1 ⟨rfl, hB1⟩
  have HWK := Lib.hid (HW.out w1 (HB0.out.trans (hB1.mono HB0.out.size)) (H1.out.below hB1 H1.out.lt))
  clear hB1 HW HM
  go_wp2_with fail
  refine HWK.out.mono ?_
  clear HWK
  rintro e w2 ⟨hE, hc⟩
  rcases hc with ⟨v, y, rfl, hcy, hg⟩ | ⟨E, rfl, hb⟩
  · have c1 : w2.cell? ⟨w.heap.size, 0, none⟩ = some (.int .i64 0) := hE.cell 0
    have f1 := hE.frozen 0
    have s1 := hE.set 0 (.int .i64 0)
    simp only [List.setIfInBounds_toArray, List.set_cons_zero] at s1
    have S1 := Lib.hid s1
    have HG := Lib.hid hg
    clear hE hg s1 c0
    go_wp2_with (go_at_call 78; refine (Tryz.cnumber_any _ _).mono ?_; rintro e w' ⟨rfl, rfl⟩)
    refine leaves_cons (f := 87) (args := #[.pointer (some ⟨w.heap.size, 0, none⟩)]) (by simp) (by simp [go_sem]) ?_
    refine (Tryz.catch_idle ⟨w.heap.size, 0, none⟩ _).mono ?_
    rintro e u' w'' ⟨rfl, rfl, rfl⟩
    refine ⟨_, results_tc1 rfl _ _ w.heap.size _ rfl (load_one S1.out (by kernel_rfl)), ?_⟩
    exact .inl ⟨y, w2, rfl, HG.out, rfl⟩
  · have hcatch := Tryz.catch_panicking w.heap.size E 0 [] w2 hE
    have s1 := hE.set 0 (.int .i64 E)
    simp only [List.setIfInBounds_toArray, List.set_cons_zero] at s1
    have S1 := Lib.hid s1
    have HBD := Lib.hid hb
    have HCT := Lib.hid hcatch
    clear hE hb s1 hcatch c0
    unfold panic1
    go_wp2_with fail
    refine leaves_cons (f := 87) (args := #[.pointer (some ⟨w.heap.size, 0, none⟩)]) (by simp) (by simp [go_sem]) ?_
    refine HCT.out.mono ?_
    rintro e u' w'' ⟨rfl, rfl, rfl⟩
    refine ⟨_, results_tc1 rfl _ _ w.heap.size _ rfl (load_one S1.out (by kernel_rfl)), ?_⟩
    exact .inr ⟨E, w2, rfl, HBD.out, rfl⟩
end Go.Proofs

/- Ctrl: Fill, Erase, Ready. -/
namespace Go.Proofs
set_option maxRecDepth 100000
set_option maxRecDepth 100000
open Go.RowKit Go.Shelf
attribute [local go_sem] Oper.semAt_some

def resY (x : Nat) (E : Int) (y : Nat) : Nat := if rightC x then (if E = 0 then y else 0) else 0
def resE (x : Nat) (E : Int) : Int := if rightC x then E else 190
theorem Tryz.chTried (x : Nat) (lane : Int) (h D : Nat) (t : TypeId) (ht : t ≠ 34) (cs : Array Value) (f : FuncId) (E : Int) (y : Nat) (w : World) (hD : Draft w D t cs x lane h) (eg : ∀ args w, (callFunc f args).run Tryz.prog w = .ok (.enter f args) w)
    (hwork : ∀ W, Draft W D t cs x lane h → Calls Tryz.prog f #[.pointer (some ⟨D, 0, none⟩)] W (ChQ D t cs E y W)) :
    Calls Tryz.prog 68 #[.pointer (some ⟨D, 0, none⟩), .func (.func f) #[.pointer (some ⟨D, 0, none⟩)] #[]] w fun e w' => e = .returned (.tuple #[.int .u64 (resY x E y : Nat), .int .i64 (resE x E)]) ∧ But w.heap.size D w w' := by
  unfold resY resE
  have hl := hD.row.lt
  cases hr : rightC x
  · exact (Tryz.tried_no x hr lane h D t cs f _ _ w hD).mono fun e w' ⟨h1, h2⟩ => ⟨h1, But.of_below h2⟩
  · have hsz : ∀ {i : Nat} {v : Value}, cs[i]? = some v → i < cs.size := fun h => (Array.getElem?_eq_some_iff.1 h).1
    refine (Tryz.tried_yes x hr lane h D t cs f _ _ w hD eg (fun y' W' => E = 0 ∧ y' = y ∧ But w.heap.size D w W') (fun E' W' => E ≠ 0 ∧ E' = E ∧ But w.heap.size D w W') fun W hW hE => ?_).mono ?_
    · refine (hwork W (hD.below hW hl)).mono ?_
      have hne : w.heap.size ≠ D := by omega
      rintro e w' (⟨h1, ⟨v, rfl⟩, h3, h4⟩ | ⟨h1, rfl, h3⟩)
      · refine ⟨(h4.block _ hE.lt hne).trans hE, .inl ⟨v, y, rfl, ?_, h1, rfl, (But.of_below hW).trans ⟨h4.os, h4.tape, h4.output, h4.size, fun j a b => h4.block j (Nat.lt_of_lt_of_le a hW.size) b⟩⟩⟩
        rw [h3.cell 0]
        simp [hsz hD.e0]
      · exact ⟨hE.below h3 hE.lt, .inr ⟨E, rfl, h1, rfl, But.of_below (hW.trans (h3.mono hW.size))⟩⟩
    · rintro e w' (⟨y', W1, rfl, ⟨h1, rfl, h3⟩, rfl⟩ | ⟨E', W1, rfl, ⟨h1, rfl, h3⟩, rfl⟩)
      · subst h1
        refine ⟨rfl, h3.trans ⟨rfl, rfl, rfl, by simp [World.setCell], fun k a _ => Below.heap_setCell _ _ _ _ (by show k ≠ w.heap.size; omega)⟩⟩
      · refine ⟨by rw [if_neg h1]; rfl, h3.trans ⟨rfl, rfl, rfl, by simp [World.setCell], fun k a _ => Below.heap_setCell _ _ _ _ (by show k ≠ w.heap.size; omega)⟩⟩

set_option maxHeartbeats 1000000 in
theorem Tryz.cFill_any (x : Nat) (lane : Int) (h : Nat) (hx : x < 18446744073709551616) (hh : h < 256) (w : World) :
    Calls Tryz.prog 51 #[.int .u64 x, .int .i64 lane, .int .u8 h] w fun e w' => e = .returned (.tuple #[.int .u64 (resY x (fillE x lane h) (fillS x lane h) : Nat), .int .i64 (resE x (fillE x lane h))]) ∧ Below w.heap.size w w' := by
  have d0 : Draft (w.alloc (.cells #[.int .u64 x, .int .i64 lane, .int .u8 h] 118)) w.heap.size 118 #[.int .u64 x, .int .i64 lane, .int .u8 h] x (lane) (h) := ⟨Rows8.new w _ _, rfl, rfl, rfl⟩
  have hB0 : Below w.heap.size w (w.alloc (.cells #[.int .u64 x, .int .i64 lane, .int .u8 h] 118)) := (Below.refl _ w).alloc (Nat.le_refl _) _
  have hC := Tryz.chTried x (lane) (h) _ _ (by decide) _ 72 (fillE x lane h) (fillS x lane h) _ d0 (enters_of Tryz.func72 (by kernel_rfl) rfl) (fun W hW => Tryz.cfill_any x (lane) (h) w.heap.size hx hh _ _ W hW)
  have hmf : ∀ (fn : Fn) (first cap : Array Value) (w : World), (Instr.makeFunc fn first cap).run Tryz.prog w = .ok (.func fn first cap) w := fun _ _ _ _ => rfl
  have HC := Lib.hid hC
  generalize resY x (fillE x lane h) (fillS x lane h) = ry, resE x (fillE x lane h) = re at *
  clear d0 hC hx hh
  go_enter Tryz.func51, Tryz.ntmps51
  go_wp2_with (go_at_call 68; refine HC.out.mono ?_; rintro e w2 ⟨rfl, hB2⟩)
  go_ret2
  exact ⟨rfl, hB0.trans (hB2.below hB0.size (Nat.le_refl _))⟩

set_option maxHeartbeats 1000000 in
theorem Tryz.cErase_any (x : Nat) (lane : Int) (hx : x < 18446744073709551616) (w : World) :
    Calls Tryz.prog 45 #[.int .u64 x, .int .i64 lane] w fun e w' => e = .returned (.tuple #[.int .u64 (resY x (eraseE x lane) (eraseS x lane) : Nat), .int .i64 (resE x (eraseE x lane))]) ∧ Below w.heap.size w w' := by
  have d0 : Draft (w.alloc (.cells #[.int .u64 x, .int .i64 lane, .int .u8 0] 118)) w.heap.size 118 #[.int .u64 x, .int .i64 lane, .int .u8 0] x (lane) (0) := ⟨Rows8.new w _ _, rfl, rfl, rfl⟩
  have hB0 : Below w.heap.size w (w.alloc (.cells #[.int .u64 x, .int .i64 lane, .int .u8 0] 118)) := (Below.refl _ w).alloc (Nat.le_refl _) _
  have hC := Tryz.chTried x (lane) (0) _ _ (by decide) _ 69 (eraseE x lane) (eraseS x lane) _ d0 (enters_of Tryz.func69 (by kernel_rfl) rfl) (fun W hW => Tryz.cerase_any x (lane) (0) w.heap.size hx _ _ W hW)
  have hmf : ∀ (fn : Fn) (first cap : Array Value) (w : World), (Instr.makeFunc fn first cap).run Tryz.prog w = .ok (.func fn first cap) w := fun _ _ _ _ => rfl
  have HC := Lib.hid hC
  generalize resY x (eraseE x lane) (eraseS x lane) = ry, resE x (eraseE x lane) = re at *
  clear d0 hC hx
  go_enter Tryz.func45, Tryz.ntmps45
  go_wp2_with (go_at_call 68; refine HC.out.mono ?_; rintro e w2 ⟨rfl, hB2⟩)
  go_ret2
  exact ⟨rfl, hB0.trans (hB2.below hB0.size (Nat.le_refl _))⟩

end Go.Proofs
