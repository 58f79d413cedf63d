/- Ctrl: a draft filled, erased, made ready. -/
import Derived.Test.YtmjlaienklheiaaJg
import Derived.Test.YtmjlaienklheiaaRx
namespace Go.Proofs
set_option maxRecDepth 100000
open Go.RowKit Go.Shelf
attribute [local go_sem] Oper.semAt_some

/-- What a change comes to. -/
def ChQ (D : Nat) (t : TypeId) (cs : Array Value) (E : Int) (y : Nat) (w : World) (e : Ending) (w' : World) : Prop :=
  (E = 0 ∧ (∃ v, e = .returned v) ∧ Rows8 w' D t (cs.setIfInBounds 0 (.int .u64 (y : Nat))) ∧ But w.heap.size D w w') ∨ (E ≠ 0 ∧ e = .panicked (panic1 E) ∧ Below w.heap.size w w')
def fillE (x : Nat) (lane : Int) (h : Nat) : Int := if lane < 0 ∨ 8 ≤ lane then 110 else if 127 < h then 2 else if kd (byt x lane.toNat) = 0 then 5 else 0
def fillS (x : Nat) (lane : Int) (h : Nat) : Nat := setB x lane.toNat h
def eraseE (x : Nat) (lane : Int) : Int := if lane < 0 ∨ 8 ≤ lane then 110 else if kd (byt x lane.toNat) = 0 then 0 else 4
def eraseS (x : Nat) (lane : Int) : Nat := setB x lane.toNat (if stopsC x then 128 else 254)
theorem kd_no {h : Nat} (hh : 127 < h) : kd h ≠ 0 := by
  unfold kd
  rw [if_neg (by omega)]
  repeat' split
  all_goals decide
theorem kd_yes {h : Nat} (hh : ¬ 127 < h) : kd h = 0 := by simp [kd, Nat.not_lt.1 hh]
theorem kdi {k : Nat} {b : Bool} (h : (k == 0) = b) : (((k : Nat) : Int) == 0) = b := by rw [← h]; exact natEq_walk _ 0

set_option maxHeartbeats 2000000 in
theorem Try.cfill_any (x : Nat) (lane : Int) (h D : Nat) (hx : x < 18446744073709551616) (hh : h < 256) (t : TypeId) (cs : Array Value) (w : World) (hD : Draft w D t cs x lane h) :
    Calls Try.prog 44 #[.pointer (some ⟨D, 0, none⟩)] w (ChQ D t cs (fillE x lane h) (fillS x lane h) w) := by
  have HI := Lib.hid (Try.is_any x lane h D t cs w hD)
  have HD := Lib.hid hD
  have hl := hD.row.lt
  have HSD := Lib.hid fun W => Try.said_any h W
  have HX := Lib.hid hx
  have HH := Lib.hid hh
  clear hD hx hh
  go_enter Try.func44, Try.ntmps44
  go_wp2_with fail
  refine HI.out.mono ?_
  rintro e w1 ⟨hB, _, hc⟩
  rcases hc with ⟨k, rfl, hk, rfl⟩ | ⟨hb, rfl⟩
  · have hfE : fillE x k h = if 127 < h then 2 else if kd (byt x k) = 0 then 5 else 0 := by
      unfold fillE
      rw [if_neg (by omega), Int.toNat_natCast]
    have HFE := Lib.hid hfE
    have HK := Lib.hid hk
    have d1 := HD.out.below hB hl
    have c2 := d1.c2
    have HD1 := Lib.hid d1
    have HB := Lib.hid hB
    clear hfE hk d1 hB
    by_cases h1 : 127 < h
    · have h2 := kdi (beq_eq_false_iff_ne.2 (kd_no h1))
      have H1 := Lib.hid h1
      clear h1
      go_wp2_with (go_at_call 38; refine (HSD.out _).mono ?_; rintro e w' ⟨rfl, rfl⟩)
      exact ⟨rfl, .inr ⟨by rw [HFE.out, if_pos H1.out]; decide, by rw [HFE.out, if_pos H1.out]; rfl, HB.out⟩⟩
    · have h2 := kdi (k := kd h) (b := true) (by rw [kd_yes h1]; rfl)
      have H1 := Lib.hid h1
      clear h1
      cases h3 : (kd (byt x k) == 0)
      · have h4 := kdi h3
        have H3 := Lib.hid h3
        have HP := Lib.hid (Try.cput_any x h k h D HK.out HX.out HH.out t cs w1 HD1.out)
        clear h3
        generalize kd (byt x k) = kx at *
        go_wp2_with (go_at_call 38; refine (HSD.out _).mono ?_; rintro e w' ⟨rfl, rfl⟩)
        refine HP.out.mono ?_
        rintro e w2 ⟨⟨v, rfl⟩, hr, hbt⟩
        have HR := Lib.hid hr
        have HBT := Lib.hid hbt
        clear hr hbt
        go_wp2_with fail
        go_end0
        refine .inl ⟨by rw [HFE.out, if_neg H1.out, if_neg (by simpa using H3.out)], ⟨_, rfl⟩, ?_, (But.of_below HB.out).trans ⟨HBT.out.os, HBT.out.tape, HBT.out.output, HBT.out.size, fun j a b => HBT.out.block j (Nat.lt_of_lt_of_le a HB.out.size) b⟩⟩
        unfold fillS
        rw [Int.toNat_natCast]
        exact HR.out
      · have h4 := kdi h3
        have H3 := Lib.hid h3
        clear h3
        generalize kd (byt x k) = kx at *
        go_wp2_with (go_at_call 38; refine (HSD.out _).mono ?_; rintro e w' ⟨rfl, rfl⟩)
        have he : (if 127 < h then (2 : Int) else if kx = 0 then 5 else 0) = 5 := by rw [if_neg H1.out, if_pos (by simpa using H3.out)]
        exact ⟨rfl, .inr ⟨by rw [HFE.out, he]; decide, by rw [HFE.out, he]; rfl, HB.out⟩⟩
  · have he : fillE x lane h = 110 := by unfold fillE; rw [if_pos hb]
    have HE := Lib.hid he
    have HB := Lib.hid hB
    clear he hB hb
    unfold panic1
    go_wp2_with fail
    exact ⟨rfl, .inr ⟨by rw [HE.out]; decide, by rw [HE.out]; rfl, HB.out⟩⟩

set_option maxHeartbeats 2000000 in
theorem Try.cerase_any (x : Nat) (lane : Int) (h D : Nat) (hx : x < 18446744073709551616) (t : TypeId) (cs : Array Value) (w : World) (hD : Draft w D t cs x lane h) :
    Calls Try.prog 45 #[.pointer (some ⟨D, 0, none⟩)] w (ChQ D t cs (eraseE x lane) (eraseS x lane) w) := by
  have HI := Lib.hid (Try.is_any x lane h D t cs w hD)
  have HD := Lib.hid hD
  have hl := hD.row.lt
  have HX := Lib.hid hx
  clear hD hx
  go_enter Try.func45, Try.ntmps45
  go_wp2_with fail
  refine HI.out.mono ?_
  rintro e w1 ⟨hB, _, hc⟩
  rcases hc with ⟨k, rfl, hk, rfl⟩ | ⟨hb, rfl⟩
  · have hfE : eraseE x k = if kd (byt x k) = 0 then 0 else 4 := by
      unfold eraseE
      rw [if_neg (by omega), Int.toNat_natCast]
    have HFE := Lib.hid hfE
    have HK := Lib.hid hk
    have d1 := HD.out.below hB hl
    have c0 := d1.c0
    have HD1 := Lib.hid d1
    have HB := Lib.hid hB
    have HS := Lib.hid (Try.stops_any x w1)
    clear hfE hk d1 hB
    cases h3 : (kd (byt x k) == 0)
    · have h4 := kdi h3
      have H3 := Lib.hid h3
      clear h3
      generalize kd (byt x k) = kx at *
      go_wp2_with fail
      have he : (if kx = 0 then (0 : Int) else 4) = 4 := by rw [if_neg (by simpa using H3.out)]
      exact ⟨rfl, .inr ⟨by rw [HFE.out, he]; decide, by rw [HFE.out, he]; rfl, HB.out⟩⟩
    · have h4 := kdi h3
      have H3 := Lib.hid h3
      clear h3
      have hS : Hid (eraseS x k = setB x k (if stopsC x then 128 else 254)) := Lib.hid (by unfold eraseS; rw [Int.toNat_natCast])
      cases hs : stopsC x
      · have HP := Lib.hid fun W (b : Below w1.heap.size w1 W) => Try.cput_any x 254 k h D HK.out HX.out (by decide) t cs W (HD1.out.below b (Nat.lt_of_lt_of_le hl HB.out.size))
        rw [hs] at HS hS
        generalize kd (byt x k) = kx at *
        go_wp2_with (first
          | (go_at_call 37; refine HS.out.mono ?_; rintro e w2 ⟨rfl, hB2⟩)
          | (go_at_call 60; refine (HP.out _ hB2).mono ?_; rintro e w3 ⟨⟨v, rfl⟩, hr, hbt⟩; have HR := Lib.hid hr; have HBT := Lib.hid hbt; clear hr hbt))
        go_end0
        have hB3 := HB.out.trans (hB2.mono HB.out.size)
        refine .inl ⟨by rw [HFE.out, if_pos (by simpa using H3.out)], ⟨_, rfl⟩, ?_, (But.of_below hB3).trans ⟨HBT.out.os, HBT.out.tape, HBT.out.output, HBT.out.size, fun j a b => HBT.out.block j (Nat.lt_of_lt_of_le a hB3.size) b⟩⟩
        rw [hS.out]
        exact HR.out
      · have HP := Lib.hid fun W (b : Below w1.heap.size w1 W) => Try.cput_any x 128 k h D HK.out HX.out (by decide) t cs W (HD1.out.below b (Nat.lt_of_lt_of_le hl HB.out.size))
        rw [hs] at HS hS
        generalize kd (byt x k) = kx at *
        go_wp2_with (first
          | (go_at_call 37; refine HS.out.mono ?_; rintro e w2 ⟨rfl, hB2⟩)
          | (go_at_call 60; refine (HP.out _ hB2).mono ?_; rintro e w3 ⟨⟨v, rfl⟩, hr, hbt⟩; have HR := Lib.hid hr; have HBT := Lib.hid hbt; clear hr hbt))
        first | go_end0 | refine bodyPost_ret (results_none rfl _ _ _) rfl ?_
        have hB3 := HB.out.trans (hB2.mono HB.out.size)
        refine .inl ⟨by rw [HFE.out, if_pos (by simpa using H3.out)], ⟨_, rfl⟩, ?_, (But.of_below hB3).trans ⟨HBT.out.os, HBT.out.tape, HBT.out.output, HBT.out.size, fun j a b => HBT.out.block j (Nat.lt_of_lt_of_le a hB3.size) b⟩⟩
        rw [hS.out]
        exact HR.out
  · have he : eraseE x lane = 110 := by unfold eraseE; rw [if_pos hb]
    have HE := Lib.hid he
    have HB := Lib.hid hB
    clear he hB hb
    unfold panic1
    go_wp2_with fail
    exact ⟨rfl, .inr ⟨by rw [HE.out]; decide, by rw [HE.out]; rfl, HB.out⟩⟩

def readyS (x : Nat) : Nat := setAll (byt (ofB fun _ => 254)) (ofB fun _ => 128) (lanesOf (setK x 0))
set_option maxHeartbeats 2000000 in
theorem Try.cready_any (x : Nat) (lane : Int) (h D : Nat) (t : TypeId) (cs : Array Value) (w : World) (hD : Draft w D t cs x lane h) :
    Calls Try.prog 49 #[.pointer (some ⟨D, 0, none⟩)] w (ChQ D t cs 0 (readyS x) w) := by
  have hl := hD.row.lt
  have HD := Lib.hid fun W (b : Below w.heap.size w W) => hD.below b hl
  have c0 := hD.c0
  have hmx : Try.prog.follows .mixedOrders = true := by kernel_rfl
  have HN := Lib.hid fun W => Try.New_any W
  have HF := Lib.hid fun W => Try.Fill_any 254 (by decide) W
  have HA := Lib.hid fun W => Try.are_any x 0 W
  have HBL := Lib.hid fun W => Try.Blend_any (ofB fun _ => 128) (ofB fun _ => 254) (setK x 0) (ofB_lt fun _ => by decide) (setK_lt x 0) W
  have hk : ∀ W, Below w.heap.size w W → W.cell? ⟨D, 0, none⟩ = some (.int .u64 x) ∧ W.frozen? ⟨D, 0, none⟩ = false := fun W b => ⟨(HD.out W b).c0, (HD.out W b).row.frozen 0⟩
  have f0 := hD.row.frozen 0
  have HK := Lib.hid hk
  have b0 : Below w.heap.size w w.drew := (Below.refl _ w).drew
  have hS : Hid (readyS x = setAll (byt (ofB fun _ => 254)) (ofB fun _ => 128) (lanesOf (setK x 0))) := Lib.hid rfl
  clear hD hk
  go_enter Try.func49, Try.ntmps49
  go_wp2_with fail
  have hC1 : Below w.heap.size w w.drew := b0
  refine wp_region_X (fun W' => W'.cell? ⟨D, 0, none⟩ = some (.int .u64 x)) 11 hmx ?_
  generalize w.drew = W1 at *
  refine wpAnyX_take (i := 0) (oi := { dst := some 2, op := Go.Op.move (Go.Operand.tmp 0), type := 86, pos := "draft.go:74", after := #[], guard := none }) (oX := { dst := none, op := Go.Op.store 59 (Go.Operand.tmp 12) (Go.Operand.tmp 10), type := 0, pos := "draft.go:74", after := #[{ on := 10, ground := Go.Ground.data }, { on := 8, ground := Go.Ground.data }, { on := 8, ground := Go.Ground.chain }, { on := 0, ground := Go.Ground.phase }, { on := 1, ground := Go.Ground.phase }, { on := 2, ground := Go.Ground.phase }, { on := 3, ground := Go.Ground.phase }, { on := 4, ground := Go.Ground.phase }, { on := 5, ground := Go.Ground.phase }, { on := 6, ground := Go.Ground.phase }, { on := 7, ground := Go.Ground.phase }, { on := 8, ground := Go.Ground.phase }], guard := none }) (v := .pointer (some ⟨D, 0, none⟩)) rfl rfl (by kernel_rfl) (by kernel_rfl) (by kernel_rfl) (by kernel_rfl) (fun _ _ _ h => h) (Or.inl ⟨by rfl, ?_⟩) (HK.out _ hC1).1 ?_
  · intro W9 hS9
    go_simp
  try simp only [Act.put, List.setIfInBounds_toArray, List.set_cons_zero, List.set_cons_succ]
  refine wpAnyX_take (i := 3) (oi := { dst := some 5, op := Go.Op.move (Go.Operand.tmp 0), type := 86, pos := "draft.go:74", after := #[], guard := none }) (oX := { dst := none, op := Go.Op.store 59 (Go.Operand.tmp 12) (Go.Operand.tmp 10), type := 0, pos := "draft.go:74", after := #[{ on := 10, ground := Go.Ground.data }, { on := 8, ground := Go.Ground.data }, { on := 8, ground := Go.Ground.chain }, { on := 0, ground := Go.Ground.phase }, { on := 1, ground := Go.Ground.phase }, { on := 2, ground := Go.Ground.phase }, { on := 3, ground := Go.Ground.phase }, { on := 4, ground := Go.Ground.phase }, { on := 5, ground := Go.Ground.phase }, { on := 6, ground := Go.Ground.phase }, { on := 7, ground := Go.Ground.phase }, { on := 8, ground := Go.Ground.phase }], guard := none }) (v := .pointer (some ⟨D, 0, none⟩)) rfl rfl (by kernel_rfl) (by kernel_rfl) (by kernel_rfl) (by kernel_rfl) (fun _ _ _ h => h) (Or.inl ⟨by rfl, ?_⟩) (HK.out _ hC1).1 ?_
  · intro W9 hS9
    go_simp
  try simp only [Act.put, List.setIfInBounds_toArray, List.set_cons_zero, List.set_cons_succ]
  refine wpAnyX_take (i := 4) (oi := { dst := some 6, op := Go.Op.nilCheck (Go.Operand.tmp 5), type := 0, pos := "draft.go:74", after := #[{ on := 3, ground := Go.Ground.data }], guard := none }) (oX := { dst := none, op := Go.Op.store 59 (Go.Operand.tmp 12) (Go.Operand.tmp 10), type := 0, pos := "draft.go:74", after := #[{ on := 10, ground := Go.Ground.data }, { on := 8, ground := Go.Ground.data }, { on := 8, ground := Go.Ground.chain }, { on := 0, ground := Go.Ground.phase }, { on := 1, ground := Go.Ground.phase }, { on := 2, ground := Go.Ground.phase }, { on := 3, ground := Go.Ground.phase }, { on := 4, ground := Go.Ground.phase }, { on := 5, ground := Go.Ground.phase }, { on := 6, ground := Go.Ground.phase }, { on := 7, ground := Go.Ground.phase }, { on := 8, ground := Go.Ground.phase }], guard := none }) (v := .pointer (some ⟨D, 0, none⟩)) rfl rfl (by kernel_rfl) (by kernel_rfl) (by kernel_rfl) (by kernel_rfl) (fun _ _ _ h => h) (Or.inl ⟨by rfl, ?_⟩) (HK.out _ hC1).1 ?_
  · intro W9 hS9
    go_simp
  try simp only [Act.put, List.setIfInBounds_toArray, List.set_cons_zero, List.set_cons_succ]
  refine wpAnyX_take (i := 5) (oi := { dst := some 7, op := Go.Op.fieldAddr 72 (Go.Operand.tmp 6) 0, type := 0, pos := "draft.go:74", after := #[{ on := 4, ground := Go.Ground.data }], guard := none }) (oX := { dst := none, op := Go.Op.store 59 (Go.Operand.tmp 12) (Go.Operand.tmp 10), type := 0, pos := "draft.go:74", after := #[{ on := 10, ground := Go.Ground.data }, { on := 8, ground := Go.Ground.data }, { on := 8, ground := Go.Ground.chain }, { on := 0, ground := Go.Ground.phase }, { on := 1, ground := Go.Ground.phase }, { on := 2, ground := Go.Ground.phase }, { on := 3, ground := Go.Ground.phase }, { on := 4, ground := Go.Ground.phase }, { on := 5, ground := Go.Ground.phase }, { on := 6, ground := Go.Ground.phase }, { on := 7, ground := Go.Ground.phase }, { on := 8, ground := Go.Ground.phase }], guard := none }) (v := .pointer (some ⟨D, 0, none⟩)) rfl rfl (by kernel_rfl) (by kernel_rfl) (by kernel_rfl) (by kernel_rfl) (fun _ _ _ h => h) (Or.inl ⟨by rfl, ?_⟩) (HK.out _ hC1).1 ?_
  · intro W9 hS9
    go_simp
  try simp only [Act.put, List.setIfInBounds_toArray, List.set_cons_zero, List.set_cons_succ]
  refine wpAnyX_take (i := 6) (oi := { dst := some 8, op := Go.Op.load 59 (Go.Operand.tmp 7), type := 59, pos := "draft.go:74", after := #[{ on := 5, ground := Go.Ground.data }], guard := none }) (oX := { dst := none, op := Go.Op.store 59 (Go.Operand.tmp 12) (Go.Operand.tmp 10), type := 0, pos := "draft.go:74", after := #[{ on := 10, ground := Go.Ground.data }, { on := 8, ground := Go.Ground.data }, { on := 8, ground := Go.Ground.chain }, { on := 0, ground := Go.Ground.phase }, { on := 1, ground := Go.Ground.phase }, { on := 2, ground := Go.Ground.phase }, { on := 3, ground := Go.Ground.phase }, { on := 4, ground := Go.Ground.phase }, { on := 5, ground := Go.Ground.phase }, { on := 6, ground := Go.Ground.phase }, { on := 7, ground := Go.Ground.phase }, { on := 8, ground := Go.Ground.phase }], guard := none }) (v := .int .u64 x) rfl rfl (by kernel_rfl) (by kernel_rfl) (by kernel_rfl) (by kernel_rfl) (fun _ _ _ h => h) (Or.inl ⟨by rfl, ?_⟩) (HK.out _ hC1).1 ?_
  · intro W9 hS9
    go_simp
  try simp only [Act.put, List.setIfInBounds_toArray, List.set_cons_zero, List.set_cons_succ]
  refine wpAnyX_one (i := 1) (o := { dst := some 3, op := Go.Op.call { callee := Go.Callee.value (Go.Operand.func 18), args := #[], argTypes := #[] }, type := 25, pos := "draft.go:74", after := #[], guard := none }) (by kernel_rfl) rfl (fun K hK => ?_)
  refine step_call_fn rfl 18 _ _ rfl (fun _ _ => by kernel_rfl) #[] (by simp [go_sem]) (fun e w' => e = .returned (.int .u64 (ofB fun _ => 128 : Nat)) ∧ Below W1.heap.size W1 w') (HN.out _) ?_
  rintro e W2 ⟨rfl, hB⟩
  refine ⟨_, rfl, ?_⟩
  have hC2 := hC1.trans (hB.mono hC1.size)
  clear hB
  refine hK.out _ _ (fun _ => (HK.out _ hC2).1) ?_
  clear hK K
  try simp only [Act.put, List.setIfInBounds_toArray, List.set_cons_zero, List.set_cons_succ]
  refine wpAnyX_one (i := 2) (o := { dst := some 4, op := Go.Op.call { callee := Go.Callee.value (Go.Operand.func 42), args := #[Go.Operand.const (Go.Value.int Go.IntKind.u8 254)], argTypes := #[5] }, type := 25, pos := "draft.go:74", after := #[{ on := 1, ground := Go.Ground.chain }], guard := none }) (by kernel_rfl) rfl (fun K hK => ?_)
  refine step_call_fn rfl 42 _ _ rfl (fun _ _ => by kernel_rfl) #[.int .u8 254] (by simp [go_sem]) (fun e w' => e = .returned (.int .u64 (ofB fun _ => 254 : Nat)) ∧ Below W2.heap.size W2 w') (HF.out _) ?_
  rintro e W3 ⟨rfl, hB⟩
  refine ⟨_, rfl, ?_⟩
  have hC3 := hC2.trans (hB.mono hC2.size)
  clear hB
  refine hK.out _ _ (fun _ => (HK.out _ hC3).1) ?_
  clear hK K
  try simp only [Act.put, List.setIfInBounds_toArray, List.set_cons_zero, List.set_cons_succ]
  refine wpAnyX_one (i := 7) (o := { dst := some 9, op := Go.Op.call { callee := Go.Callee.value (Go.Operand.func 51), args := #[Go.Operand.tmp 8, Go.Operand.const (Go.Value.int Go.IntKind.i64 0)], argTypes := #[59, 63] }, type := 29, pos := "draft.go:74", after := #[{ on := 6, ground := Go.Ground.data }, { on := 2, ground := Go.Ground.chain }], guard := none }) (by kernel_rfl) rfl (fun K hK => ?_)
  refine step_call_fn rfl 51 _ _ rfl (fun _ _ => by kernel_rfl) #[.int .u64 x, .int .i64 0] (by simp [go_sem]) (fun e w' => e = .returned (.int .u8 (setK x 0 : Nat)) ∧ Below W3.heap.size W3 w') (HA.out _) ?_
  rintro e W4 ⟨rfl, hB⟩
  refine ⟨_, rfl, ?_⟩
  have hC4 := hC3.trans (hB.mono hC3.size)
  clear hB
  refine hK.out _ _ (fun _ => (HK.out _ hC4).1) ?_
  clear hK K
  try simp only [Act.put, List.setIfInBounds_toArray, List.set_cons_zero, List.set_cons_succ]
  refine wpAnyX_one (i := 8) (o := { dst := some 10, op := Go.Op.call { callee := Go.Callee.value (Go.Operand.func 61), args := #[Go.Operand.tmp 3, Go.Operand.tmp 4, Go.Operand.tmp 9], argTypes := #[25, 25, 29] }, type := 25, pos := "draft.go:74", after := #[{ on := 1, ground := Go.Ground.data }, { on := 2, ground := Go.Ground.data }, { on := 7, ground := Go.Ground.data }, { on := 7, ground := Go.Ground.chain }], guard := none }) (by kernel_rfl) rfl (fun K hK => ?_)
  refine step_call_fn rfl 61 _ _ rfl (fun _ _ => by kernel_rfl) #[.int .u64 (ofB fun _ => 128 : Nat), .int .u64 (ofB fun _ => 254 : Nat), .int .u8 (setK x 0 : Nat)] (by simp [go_sem]) (fun e w' => e = .returned (.int .u64 (setAll (byt (ofB fun _ => 254)) (ofB fun _ => 128) (lanesOf (setK x 0)) : Nat)) ∧ Below W4.heap.size W4 w') (HBL.out _) ?_
  rintro e W5 ⟨rfl, hB⟩
  refine ⟨_, rfl, ?_⟩
  have hC5 := hC4.trans (hB.mono hC4.size)
  clear hB
  refine hK.out _ _ (fun _ => (HK.out _ hC5).1) ?_
  clear hK K
  try simp only [Act.put, List.setIfInBounds_toArray, List.set_cons_zero, List.set_cons_succ]
  obtain ⟨l5, g5⟩ := HK.out _ hC5
  refine wpAnyX_one (i := 9) (o := { dst := some 11, op := Go.Op.nilCheck (Go.Operand.tmp 2), type := 0, pos := "draft.go:74", after := #[{ on := 0, ground := Go.Ground.data }, { on := 0, ground := Go.Ground.phase }, { on := 1, ground := Go.Ground.phase }, { on := 2, ground := Go.Ground.phase }, { on := 3, ground := Go.Ground.phase }, { on := 4, ground := Go.Ground.phase }, { on := 5, ground := Go.Ground.phase }, { on := 6, ground := Go.Ground.phase }, { on := 7, ground := Go.Ground.phase }, { on := 8, ground := Go.Ground.phase }], guard := none }) (by kernel_rfl) rfl (fun K hK => ?_)
  refine step_value rfl (.pointer (some ⟨D, 0, none⟩)) (w' := W5) (by go_simp) ?_
  refine hK.out _ _ (fun _ => l5) ?_
  clear hK K
  try simp only [Act.put, List.setIfInBounds_toArray, List.set_cons_zero, List.set_cons_succ]
  refine wpAnyX_one (i := 10) (o := { dst := some 12, op := Go.Op.fieldAddr 72 (Go.Operand.tmp 11) 0, type := 0, pos := "draft.go:74", after := #[{ on := 9, ground := Go.Ground.data }, { on := 0, ground := Go.Ground.phase }, { on := 1, ground := Go.Ground.phase }, { on := 2, ground := Go.Ground.phase }, { on := 3, ground := Go.Ground.phase }, { on := 4, ground := Go.Ground.phase }, { on := 5, ground := Go.Ground.phase }, { on := 6, ground := Go.Ground.phase }, { on := 7, ground := Go.Ground.phase }, { on := 8, ground := Go.Ground.phase }], guard := none }) (by kernel_rfl) rfl (fun K hK => ?_)
  refine step_value rfl (.pointer (some ⟨D, 0, none⟩)) (w' := W5) (by go_simp) ?_
  refine hK.out _ _ (fun _ => l5) ?_
  clear hK K
  try simp only [Act.put, List.setIfInBounds_toArray, List.set_cons_zero, List.set_cons_succ]
  refine wpAnyX_one (i := 11) (o := { dst := none, op := Go.Op.store 59 (Go.Operand.tmp 12) (Go.Operand.tmp 10), type := 0, pos := "draft.go:74", after := #[{ on := 10, ground := Go.Ground.data }, { on := 8, ground := Go.Ground.data }, { on := 8, ground := Go.Ground.chain }, { on := 0, ground := Go.Ground.phase }, { on := 1, ground := Go.Ground.phase }, { on := 2, ground := Go.Ground.phase }, { on := 3, ground := Go.Ground.phase }, { on := 4, ground := Go.Ground.phase }, { on := 5, ground := Go.Ground.phase }, { on := 6, ground := Go.Ground.phase }, { on := 7, ground := Go.Ground.phase }, { on := 8, ground := Go.Ground.phase }], guard := none }) (by kernel_rfl) rfl (fun K hK => ?_)
  refine step_skip rfl (w' := W5.setCell ⟨D, 0, none⟩ (.int .u64 (setAll (byt (ofB fun _ => 254)) (ofB fun _ => 128) (lanesOf (setK x 0)) : Nat))) (by go_simp) ?_
  refine hK.out _ _ (fun h => absurd rfl h) ?_
  clear hK K
  try simp only [Act.put, List.setIfInBounds_toArray, List.set_cons_zero, List.set_cons_succ]
  refine wpAnyX_end (by kernel_rfl) ?_
  go_wp2_with fail
  go_end0
  refine .inl ⟨rfl, ⟨_, rfl⟩, ?_, ?_⟩
  · rw [hS.out]; exact (HD.out _ hC5).row.set 0 _
  · exact (But.of_below hC5).setCell _ _
end Go.Proofs
