/- crowd: how many keys have each prefix. -/
import Derived.Test.YtobomgedghbflaaHn
import Derived.Test.YtobomgedghbflaaRi
namespace Go.Proofs
open Go.RowKit Go.Shelf Go.Deep Go.Maps
attribute [local go_sem] Oper.semAt_some

/-- The prefixes of these keys' hashes. -/
def prefsB (s n : Nat) (ks : List Int) : List Nat := ks.map fun k => prefixB (ofB s k.toNat) n
set_option maxRecDepth 100000 in
set_option maxHeartbeats 4000000 in
theorem Try.crowd_any (s n : Nat) (hs : s < 18446744073709551616) (hn : n ≤ 64) (dd : List Int) (hdl : dd.length ≤ 100000000) (hk : ∀ k ∈ dd, 0 ≤ k ∧ k < 18446744073709551616) (bx g c : Nat) (w : World) (hc : c = dd.length) (hB : Rows8 w bx 23 #[.slice (some ⟨g, 0, none⟩) c c]) (hS : SRow w g c dd.toArray) :
    Calls Try.prog 21 #[.int .u64 (s : Int), .int .i64 (n : Int), .func (.func 42) #[] #[.pointer (some ⟨bx, 0, none⟩)]] w
      fun e w' => ∃ b, e = .returned (.map (some b)) ∧ w.heap.size ≤ b ∧ CntAt w' b (onceB dd).length (prefsB s n (onceB dd)) ∧ Below w.heap.size w w' := by
  refine (callsIn_wide (n := 9)).1 ?_
  refine callsIn_of_wp_marks Try.func21 rfl trivial ?_ rfl
  simp only [Try.ntmps21, List.size_toArray, List.length_cons, List.length_nil, Nat.reduceAdd, Nat.reduceSub, Array.replicate_succ, Array.replicate_zero, List.push_toArray, List.append_toArray, List.nil_append, List.cons_append]
  have hmm := @run_makeMap Try.prog
  gi_wp2_with fail
  have hBc : Below w.heap.size w ((((w.alloc (.cells #[.int .u64 (s : Int)] 22)).alloc (.cells #[.int .i64 (n : Int)] 3)).alloc (.map #[] 0)).alloc (.cells #[.map (some (w.heap.size + 1 + 1))] 30)) := ((((Below.refl _ w).alloc (Nat.le_refl _) _).alloc (by simp) _).alloc (by simp; omega) _).alloc (by simp; omega) _
  have r0 := (((Rows8.new w 22 #[.int .u64 (s : Int)]).alloc (.cells #[.int .i64 (n : Int)] 3)).alloc (.map #[] 0)).alloc (.cells #[.map (some (w.heap.size + 1 + 1))] 30)
  have r1 := ((rows_new2 w (.cells #[.int .u64 (s : Int)] 22) 3 #[.int .i64 (n : Int)]).alloc (.map #[] 0)).alloc (.cells #[.map (some (w.heap.size + 1 + 1))] 30)
  have r3 := Rows8.new (((w.alloc (.cells #[.int .u64 (s : Int)] 22)).alloc (.cells #[.int .i64 (n : Int)] 3)).alloc (.map #[] 0)) 30 #[.map (some (w.heap.size + 1 + 1))]
  have m0 : CntAt ((((w.alloc (.cells #[.int .u64 (s : Int)] 22)).alloc (.cells #[.int .i64 (n : Int)] 3)).alloc (.map #[] 0)).alloc (.cells #[.map (some (w.heap.size + 1 + 1))] 30)) (w.heap.size + 1 + 1) 0 [] := by
    refine ⟨.map [], World.ownsMap.alloc ?_ _, cnt_nil⟩
    have h := World.ownsMap_made (H := Unit) ((w.alloc (.cells #[.int .u64 (s : Int)] 22)).alloc (.cells #[.int .i64 (n : Int)] 3)) Try.prog 22 (plainElem Try.prog 3)
    rw [World.size_alloc, World.size_alloc] at h
    exact h
  rw [World.size_alloc, World.size_alloc, World.size_alloc] at r3
  have hz : ((((w.alloc (.cells #[.int .u64 (s : Int)] 22)).alloc (.cells #[.int .i64 (n : Int)] 3)).alloc (.map #[] 0)).alloc (.cells #[.map (some (w.heap.size + 1 + 1))] 30)).heap.size = w.heap.size + 4 := by simp
  have hB' := hB.below hBc hB.lt
  have hS' := hS.below hBc hS.lt
  generalize ((((w.alloc (.cells #[.int .u64 (s : Int)] 22)).alloc (.cells #[.int .i64 (n : Int)] 3)).alloc (.map #[] 0)).alloc (.cells #[.map (some (w.heap.size + 1 + 1))] 30)) = W0 at *
  have HTL := Lib.hid (Try.once1_tells 8 (by decide) bx g c dd.toArray (by simpa using hc) (by omega) w.heap.size 3 3 (by decide) (by decide) (by decide) (by decide) W0 hB' hS')
  rw [show dd.toArray.toList = dd from rfl] at HTL
  have HK := Lib.hid hk
  have hol := toldFrom_le none dd
  have hol2 : (onceB dd).length ≤ 100000000 := by unfold onceB; omega
  clear hB hS hB' hS' hk hc hol hmm
  refine range_tellsE rfl (by decide) (gf := 42) (lb := #[.pointer (some ⟨bx, 0, none⟩)]) rfl trivial (fun _ _ => by kernel_rfl) HTL.out kt_t kt_b (Below.refl _ _) (fun _ => rfl)
    (fun pre W' => Rows8 W' w.heap.size 22 #[.int .u64 (s : Int)] ∧ Rows8 W' (w.heap.size + 1) 3 #[.int .i64 (n : Int)] ∧ Rows8 W' (w.heap.size + 1 + 1 + 1) 30 #[.map (some (w.heap.size + 1 + 1))] ∧ CntAt W' (w.heap.size + 1 + 1) pre.length (prefsB s n pre) ∧ Below w.heap.size w W')
    (OwnFrom.and (Own.from (Rows8.own _ _ _) _) (OwnFrom.and (Own.from (Rows8.own _ _ _) _) (OwnFrom.and (Own.from (Rows8.own _ _ _) _) (OwnFrom.and (ownFrom_mono (CntAt.own _ _ _) (by omega)) (ownFrom_below (Nat.le_refl _) (by omega))))))
    (fun s X Y hs hXY => ⟨hs.1.below hXY hs.1.lt, hs.2.1.below hXY hs.2.1.lt, hs.2.2.1.below hXY hs.2.2.1.lt, hs.2.2.2.1.below hXY (Nat.le_refl _), hs.2.2.2.2.trans (hXY.mono hs.2.2.2.2.size)⟩)
    ⟨r0, r1, r3, m0, hBc⟩
    (fun x a' W' => a' = { tmps := #[.int .u64 (s : Int), .int .i64 (n : Int), .func (.func 42) #[] #[.pointer (some ⟨bx, 0, none⟩)], .pointer (some ⟨w.heap.size, 0, none⟩), .pointer (some ⟨w.heap.size + 1, 0, none⟩), undef, .map none, .pointer (some ⟨w.heap.size + 1 + 1 + 1, 0, none⟩), .int .u64 x, .map (some (w.heap.size + 1 + 1)), .func (.func 42) #[] #[.pointer (some ⟨bx, 0, none⟩)], .int .u64 x, undef, undef, undef, undef, undef, undef, undef, undef, undef, undef], defers := [] })
    (fun x a' s X Y row hs hg hr => hs) ?assign ?body ?done
  case assign =>
    rintro l2 pre x W' K hI hK
    unfold encW
    gi_wp2
    exact hK _ _ (keepsFrom_below (Below.refl _ _)) (Kt.refl _ _ _ _) hI rfl
  case body =>
    rintro l2 pre x a' W' ⟨h0, h1, h3, hm, hB⟩ rfl hok
    have hxm : x ∈ dd := toldFrom_mem (hok.subset (by simp))
    have hpl := hok.length_le
    rw [List.length_append] at hpl
    obtain ⟨hx0, hx1⟩ := HK.out x hxm
    obtain ⟨k, rfl⟩ : ∃ k : Nat, x = (k : Int) := ⟨x.toNat, by omega⟩
    have hkl : k < 18446744073709551616 := by omega
    have hsn : Hid (prefsB s n (pre ++ [(k : Int)]) = prefsB s n pre ++ [prefixB (ofB s k) n]) := Lib.hid (by simp [prefsB])
    have hpl2 : (prefsB s n pre).length = pre.length := by simp [prefsB]
    have HM := Lib.hid fun W1 => Try.made_any s k hs hkl W1
    have HP := Lib.hid fun W1 => Try.prefix_any (ofB s k) n hn W1
    have hp64 : prefixB (ofB s k) n < 18446744073709551616 := prefixB_lt (ofB_lt s k)
    generalize prefixB (ofB s k) n = p at *
    generalize ofB s k = h at *
    have c0 : W'.cell? ⟨w.heap.size, 0, none⟩ = some (.int .u64 (s : Int)) := h0.cell 0
    have c1 : W'.cell? ⟨w.heap.size + 1, 0, none⟩ = some (.int .i64 (n : Int)) := h1.cell 0
    have c3 : W'.cell? ⟨w.heap.size + 1 + 1 + 1, 0, none⟩ = some (.map (some (w.heap.size + 1 + 1))) := h3.cell 0
    have H0 := Lib.hid h0
    have H1 := Lib.hid h1
    have H3 := Lib.hid h3
    have HMAP := Lib.hid hm
    have HB := Lib.hid hB
    have hpl3 : pre.length ≤ 100000000 := by omega
    clear h0 h1 h3 hm hB hok hxm hpl hx0 hx1 hol2
    gi_wp2_with fail
    refine wpIn_region_held (S := fun W9 => W9.cell? ⟨w.heap.size, 0, none⟩ = some (.int .u64 (s : Int)) ∧ W9.cell? ⟨w.heap.size + 1, 0, none⟩ = some (.int .i64 (n : Int)) ∧ W9.cell? ⟨w.heap.size + 1 + 1 + 1, 0, none⟩ = some (.map (some (w.heap.size + 1 + 1)))) (free2_round l2) (by rintro ⟨_, _, h⟩; exact h) (by kernel_rfl) (by kernel_rfl) ⟨c0, c1, c3⟩ (fun hHeld => ?_)
    refine wpAnyH_take (i := 0) (oi := { dst := some 12, op := Go.Op.load 30 (Go.Operand.tmp 7), type := 30, pos := "crowd.go:31", after := #[], guard := none }) (v := .map (some (w.heap.size + 1 + 1))) rfl (by kernel_rfl) (by kernel_rfl) (by kernel_rfl) (fun _ _ _ h => h) (Or.inl ⟨by rfl, ?_⟩) (by assumption) ?_
    · intro W9 hS9
      obtain ⟨q0, q1, q3⟩ := hS9
      go_simp
    try simp only [Act.put, List.setIfInBounds_toArray, List.set_cons_zero, List.set_cons_succ]
    refine wpAnyH_take (i := 1) (oi := { dst := some 13, op := Go.Op.load 22 (Go.Operand.tmp 3), type := 22, pos := "crowd.go:31", after := #[], guard := none }) (v := .int .u64 (s : Int)) rfl (by kernel_rfl) (by kernel_rfl) (by kernel_rfl) (fun _ _ _ h => h) (Or.inl ⟨by rfl, ?_⟩) (by assumption) ?_
    · intro W9 hS9
      obtain ⟨q0, q1, q3⟩ := hS9
      go_simp
    try simp only [Act.put, List.setIfInBounds_toArray, List.set_cons_zero, List.set_cons_succ]
    refine wpAnyH_take (i := 2) (oi := { dst := some 14, op := Go.Op.move (Go.Operand.tmp 8), type := 22, pos := "crowd.go:31", after := #[], guard := none }) (v := .int .u64 (k : Int)) rfl (by kernel_rfl) (by kernel_rfl) (by kernel_rfl) (fun _ _ _ h => h) (Or.inl ⟨by rfl, ?_⟩) (by assumption) ?_
    · intro W9 hS9
      obtain ⟨q0, q1, q3⟩ := hS9
      go_simp
    try simp only [Act.put, List.setIfInBounds_toArray, List.set_cons_zero, List.set_cons_succ]
    refine wpAnyH_take (i := 5) (oi := { dst := some 17, op := Go.Op.load 3 (Go.Operand.tmp 4), type := 3, pos := "crowd.go:31", after := #[], guard := none }) (v := .int .i64 (n : Int)) rfl (by kernel_rfl) (by kernel_rfl) (by kernel_rfl) (fun _ _ _ h => h) (Or.inl ⟨by rfl, ?_⟩) (by assumption) ?_
    · intro W9 hS9
      obtain ⟨q0, q1, q3⟩ := hS9
      go_simp
    try simp only [Act.put, List.setIfInBounds_toArray, List.set_cons_zero, List.set_cons_succ]
    refine wpAnyH_ready (rs := [3]) (by kernel_rfl) (by simp) ?_
    refine AllReadyH.cons (o := { dst := some 15, op := Go.Op.call { callee := Go.Callee.value (Go.Operand.func 23), args := #[Go.Operand.tmp 13, Go.Operand.tmp 14], argTypes := #[22, 22] }, type := 52, pos := "crowd.go:31", after := #[{ on := 1, ground := Go.Ground.data }, { on := 2, ground := Go.Ground.data }], guard := none }) rfl (fun K hK => ?_) AllReadyH.nil
    refine step_call_fn rfl 23 _ _ rfl (fun _ _ => by kernel_rfl) #[.int .u64 (s : Int), .int .u64 (k : Int)] (by simp [go_sem]) (fun e w' => e = .returned (draftV h) ∧ Below W'.drew.heap.size W'.drew w') (HM.out _) ?_
    rintro e W1 ⟨rfl, hB1⟩
    refine ⟨_, rfl, ?_⟩
    have hB1' : Below W'.heap.size W' W1 := (Below.refl _ W').drew.trans hB1
    have hlt0 := H0.out.lt
    have hlt1 := H1.out.lt
    have hlt3 := H3.out.lt
    refine hK.out _ _ ⟨(hB1'.cell (p := ⟨w.heap.size, 0, none⟩) hlt0).trans c0, (hB1'.cell (p := ⟨w.heap.size + 1, 0, none⟩) hlt1).trans c1, (hB1'.cell (p := ⟨w.heap.size + 1 + 1 + 1, 0, none⟩) hlt3).trans c3⟩ (fun hHeld2 => ?_)
    clear hK K hHeld hB1
    have HB1 := Lib.hid hB1'
    clear hB1' c0 c1 c3
    unfold draftV
    refine wpAnyH_take (i := 4) (oi := { dst := some 16, op := Go.Op.field 52 (Go.Operand.tmp 15) 0, type := 49, pos := "crowd.go:31", after := #[{ on := 3, ground := Go.Ground.data }], guard := none }) (v := .int .u64 (h : Int)) rfl (by kernel_rfl) (by kernel_rfl) (by kernel_rfl) (fun _ _ _ h => h) (Or.inl ⟨by rfl, ?_⟩) (by assumption) ?_
    · intro W9 hS9
      obtain ⟨q0, q1, q3⟩ := hS9
      have hfl := Try.fieldDraft
      go_simp
    try simp only [Act.put, List.setIfInBounds_toArray, List.set_cons_zero, List.set_cons_succ]
    refine wpAnyH_ready (rs := [6]) (by kernel_rfl) (by simp) ?_
    refine AllReadyH.cons (o := { dst := some 18, op := Go.Op.call { callee := Go.Callee.value (Go.Operand.func 22), args := #[Go.Operand.tmp 16, Go.Operand.tmp 17], argTypes := #[49, 3] }, type := 22, pos := "crowd.go:31", after := #[{ on := 4, ground := Go.Ground.data }, { on := 5, ground := Go.Ground.data }, { on := 3, ground := Go.Ground.chain }], guard := none }) rfl (fun K hK => ?_) AllReadyH.nil
    refine step_call_fn rfl 22 _ _ rfl (fun _ _ => by kernel_rfl) #[.int .u64 (h : Int), .int .i64 (n : Int)] (by simp [go_sem]) (fun e w' => e = .returned (.int .u64 (p : Int)) ∧ W1 = w') (HP.out _) ?_
    rintro e W2 ⟨rfl, rfl⟩
    refine ⟨_, rfl, ?_⟩
    refine hK.out _ _ hHeld2 (fun hHeld3 => ?_)
    clear hK K hHeld2
    try simp only [Act.put, List.setIfInBounds_toArray, List.set_cons_zero, List.set_cons_succ]
    have hm1 : CntAt W1 (w.heap.size + 1 + 1) pre.length (prefsB s n pre) := HMAP.out.below HB1.out (Nat.le_refl _)
    obtain ⟨hrunL, W3, hrunU, hm3, hg3⟩ := hm1.add p hp64 (by omega) (by omega)
    have hcl : (prefsB s n pre).count p ≤ 100000000 := Nat.le_trans List.count_le_length (by omega)
    have HM3 := Lib.hid hm3
    have HG3 := Lib.hid hg3
    have HM1 := Lib.hid hm1
    clear hm1 hm3 hg3
    generalize (prefsB s n pre).count p = cn at *
    have hwa : IntKind.i64.wrap ((cn : Int) + 1) = (cn : Int) + 1 := IntWalk.i64_in _ (by omega)
    refine wpAnyH_ready (rs := [7]) (by kernel_rfl) (by simp) ?_
    refine AllReadyH.cons (o := { dst := some 19, op := Go.Op.lookup 30 (Go.Operand.tmp 12) (Go.Operand.tmp 18) false, type := 3, pos := "crowd.go:31", after := #[{ on := 0, ground := Go.Ground.data }, { on := 6, ground := Go.Ground.data }], guard := none }) rfl (fun K hK => ?_) AllReadyH.nil
    go_wp2_with fail
    refine hK.out _ _ hHeld3 (fun _ => ?_)
    clear hK K
    try simp only [Act.put, List.setIfInBounds_toArray, List.set_cons_zero, List.set_cons_succ]
    refine wpAnyH_ready (rs := [8]) (by kernel_rfl) (by simp) ?_
    refine AllReadyH.cons (o := { dst := some 20, op := Go.Op.binOp Go.BinOp.add 3 (Go.Operand.tmp 19) (Go.Operand.const (Go.Value.int Go.IntKind.i64 1)) 3, type := 3, pos := "crowd.go:31", after := #[{ on := 7, ground := Go.Ground.data }], guard := none }) rfl (fun K hK => ?_) AllReadyH.nil
    refine step_value rfl (.int .i64 ((cn : Int) + 1)) (w' := W1) (by go_simp) ?_
    refine hK.out _ _ hHeld3 (fun _ => ?_)
    clear hK K
    try simp only [Act.put, List.setIfInBounds_toArray, List.set_cons_zero, List.set_cons_succ]
    refine wpAnyH_ready (rs := [9]) (by kernel_rfl) (by simp) ?_
    refine AllReadyH.cons (o := { dst := none, op := Go.Op.mapUpdate 30 (Go.Operand.tmp 12) (Go.Operand.tmp 18) (Go.Operand.tmp 20), type := 0, pos := "crowd.go:31", after := #[{ on := 0, ground := Go.Ground.data }, { on := 6, ground := Go.Ground.data }, { on := 8, ground := Go.Ground.data }, { on := 6, ground := Go.Ground.chain }, { on := 0, ground := Go.Ground.phase }, { on := 1, ground := Go.Ground.phase }, { on := 2, ground := Go.Ground.phase }, { on := 3, ground := Go.Ground.phase }, { on := 4, ground := Go.Ground.phase }, { on := 5, ground := Go.Ground.phase }, { on := 6, ground := Go.Ground.phase }, { on := 7, ground := Go.Ground.phase }, { on := 8, ground := Go.Ground.phase }], guard := none }) rfl (fun K hK => ?_) AllReadyH.nil
    refine step_skip rfl (w' := W3) (by go_simp) ?_
    have g0 := Rows8.grown (H0.out.below HB1.out hlt0) HG3.out (by omega)
    have g1 := Rows8.grown (H1.out.below HB1.out hlt1) HG3.out (by omega)
    have g3 := Rows8.grown (H3.out.below HB1.out hlt3) HG3.out (by omega)
    refine hK.out _ _ ⟨g0.cell 0, g1.cell 0, g3.cell 0⟩ (fun _ => ?_)
    clear hK K
    try simp only [Act.put, List.setIfInBounds_toArray, List.set_cons_zero, List.set_cons_succ]
    refine wpAnyH_done (by kernel_rfl) ?_ _
    refine ⟨keepsFrom_trans' (keepsFrom_below HB1.out) (KeepsFrom.of_grownBy HG3.out (fun j ej => by injection ej with ej; omega)), (Kt.of_below HB1.out).trans (kt_map HM1.out HG3.out), g0, g1, g3, ?_, (HB.out.trans (HB1.out.mono HB.out.size)).grown HG3.out (Nat.le_trans HB.out.size HB1.out.size) (fun j ej => by injection ej with ej; omega)⟩
    rw [hsn.out, List.length_append]
    exact HM3.out
  case done =>
    rintro D ys W' hD rfl ⟨h0, h1, h3, hm, hB⟩ hK
    have c3 : W'.cell? ⟨w.heap.size + 1 + 1 + 1, 0, none⟩ = some (.map (some (w.heap.size + 1 + 1))) := h3.cell 0
    have HB := Lib.hid (hB.trans (belowK_b (w := w) (Nat.le_refl _) W' D _ (.deferred none) (by omega) hK rfl rfl))
    have HM := Lib.hid (hm.kept (grownBy_putObj' W' D (.deferred none)) (fun e => by injection e with e; omega))
    clear hm hB h0 h1 h3
    gi_wp2
    refine ⟨by simp, .inl ⟨_, _, rfl, run_takeDeferred hK, ?_⟩⟩
    exact ⟨_, results_tmp rfl _ _ _, _, rfl, by omega, HM.out, HB.out⟩
end Go.Proofs
