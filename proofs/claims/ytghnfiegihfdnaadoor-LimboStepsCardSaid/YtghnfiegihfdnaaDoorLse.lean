/- Limbo: the reference: Retire, whole. -/
import Derived.Test.YtghnfiegihfdnaaDoorLsd
namespace Go.Proofs
set_option maxRecDepth 100000
open Go.RowKit Go.Shelf
attribute [local go_sem] Oper.semAt_some

set_option maxHeartbeats 64000000 in
theorem Tryd.refRetire_any (E : Nat) (s : Ls) (r : Rw3) (p : Pr) (w : World) (hI : LAt w s r) (hr : rightL E r = true) :
    Calls Tryd.prog 25 #[.agg #[.int .u64 (E : Nat), .slice (s.a 0) (s.n 0) (s.c 0), .slice (s.a 1) (s.n 1) (s.c 1), .slice (s.a 2) (s.n 2) (s.c 2)], .agg #[.int .i64 p.1, .int .u64 (p.2 : Nat)]] w fun e w' => RefQ w.heap.size s r (tryL E r (retN E r p)) e w' ∧ Below w.heap.size w w' := by
  obtain ⟨T, hTT⟩ : ∃ T, T = tryL E r (retN E r p) := ⟨_, rfl⟩
  rw [← hTT]
  have HTT := Lib.hid hTT
  clear hTT
  obtain ⟨W0, hW0⟩ : ∃ W, W = ((w.alloc (.cells #[.int .u64 (E : Nat), .slice (s.a 0) (s.n 0) (s.c 0), .slice (s.a 1) (s.n 1) (s.c 1), .slice (s.a 2) (s.n 2) (s.c 2)] 26)).alloc (.cells #[.int .i64 p.1, .int .u64 (p.2 : Nat)] 38)).alloc (.cells #[.int .u64 0, .slice none 0 0, .slice none 0 0, .slice none 0 0] 26) := ⟨_, rfl⟩
  have hB0 : Below w.heap.size w W0 := by rw [hW0]; exact ((Rows8.newB).alloc (by simp) _).alloc (by simp <;> omega) _
  have HK : Hid (Rows8 W0 w.heap.size 26 #[.int .u64 (E : Nat), .slice (s.a 0) (s.n 0) (s.c 0), .slice (s.a 1) (s.n 1) (s.c 1), .slice (s.a 2) (s.n 2) (s.c 2)]) := Lib.hid (by rw [hW0]; exact ((Rows8.new _ _ _).alloc _).alloc _)
  have HP : Hid (Rows8 W0 (w.heap.size + 1) 38 #[.int .i64 p.1, .int .u64 (p.2 : Nat)]) := Lib.hid (by rw [hW0]; exact (rows_new2 _ _ _ _).alloc _)
  have HZ : Hid (Rows8 W0 (w.heap.size + 1 + 1) 26 #[.int .u64 0, .slice none 0 0, .slice none 0 0, .slice none 0 0]) := Lib.hid (by
    have h := Rows8.new ((w.alloc (.cells #[.int .u64 (E : Nat), .slice (s.a 0) (s.n 0) (s.c 0), .slice (s.a 1) (s.n 1) (s.c 1), .slice (s.a 2) (s.n 2) (s.c 2)] 26)).alloc (.cells #[.int .i64 p.1, .int .u64 (p.2 : Nat)] 38)) 26 #[.int .u64 0, .slice none 0 0, .slice none 0 0, .slice none 0 0]
    rw [World.size_alloc, World.size_alloc] at h
    rw [hW0]; exact h)
  have HB := Lib.hid hB0
  have HI0 := Lib.hid hI
  have HE := Lib.hid (rightL_iff.1 hr).1.1
  have HR0 := Lib.hid hr
  have HL : Hid (∀ k, k < 3 → (r k).length ≤ 1000) := Lib.hid (fun k hk => Nat.le_trans (rightL_lenk hr k hk) (by decide))
  have HLO : Hid ((ofL E r 0).length ≤ 1000) := Lib.hid (by unfold ofL; rw [if_neg (Nat.not_lt_zero _)]; exact HL.out _ (Nat.mod_lt _ (by decide)))
  have HEn := Lib.hid (Tryd.refEntry_any p W0)
  have s0 : W0.cell? ⟨w.heap.size + 1, 0, none⟩ = some (.int .i64 p.1) := HP.out.cell 0
  have s1 : W0.cell? ⟨w.heap.size + 1, 1, none⟩ = some (.int .u64 (p.2 : Nat)) := HP.out.cell 1
  have lt := HP.out.lt
  clear hB0 hI hr
  go_enter Tryd.func25, Tryd.ntmps25
  go_upto_region 1 with fail
  rw [← hW0]
  clear hW0
  go_wp2_with fail
  refine HEn.out.mono ?_
  rintro e W1 ⟨rfl, hC⟩
  have HK := Lib.hid (HK.out.below hC HK.out.lt)
  have HP := Lib.hid (HP.out.below hC HP.out.lt)
  have HZ := Lib.hid (HZ.out.below hC HZ.out.lt)
  have HB := Lib.hid (HB.out.trans (hC.mono HB.out.size))
  clear hC HEn s0 s1 lt
  cases ho : okE p with
  | false =>
    have HOK := Lib.hid ho
    clear ho
    have hT : Hid (T = (2, 0, fun _ => [])) := Lib.hid (HTT.out.trans ((tryRet HR0.out p).1 HOK.out))
    have HR := Lib.hid (rows4 HZ.out (.int .u64 0) (.slice none 0 0) (.slice none 0 0) (.slice none 0 0))
    have HB3 := Lib.hid (below4 HB.out (B := w.heap.size + 1 + 1) (by show w.heap.size ≤ w.heap.size + 1 + 1; omega) (.int .u64 0) (.slice none 0 0) (.slice none 0 0) (.slice none 0 0))
    have z0 : W1.cell? ⟨w.heap.size + 1 + 1, 0, none⟩ = some (.int .u64 0) := HZ.out.cell 0
    have f0 := HZ.out.frozen 0
    have z1 : W1.cell? ⟨w.heap.size + 1 + 1, 1, none⟩ = some (.slice none 0 0) := HZ.out.cell 1
    have f1 := HZ.out.frozen 1
    have z2 : W1.cell? ⟨w.heap.size + 1 + 1, 2, none⟩ = some (.slice none 0 0) := HZ.out.cell 2
    have f2 := HZ.out.frozen 2
    have z3 : W1.cell? ⟨w.heap.size + 1 + 1, 3, none⟩ = some (.slice none 0 0) := HZ.out.cell 3
    have f3 := HZ.out.frozen 3
    have ltz := HZ.out.lt
    go_wp2_with fail
    refine bodyPost_ret (results_ctA rfl _ _ (w.heap.size + 1 + 1) _ _ rfl rfl (load_row HR.out Tryd.underlying26 rfl (by kernel_rfl))) rfl ?_
    exact ⟨⟨zLs, by rw [hT.out]; rfl, by rw [hT.out]; exact z3_at _, fun _ _ _ => by rw [hT.out]; exact notAt_z _ _⟩, HB3.out⟩
  | true =>
    have HOK := Lib.hid ho
    clear ho
    go_upto_region 3 with fail
    refine wp_region_L (fun W' => Rows8 W' w.heap.size 26 #[.int .u64 (E : Nat), .slice (s.a 0) (s.n 0) (s.c 0), .slice (s.a 1) (s.n 1) (s.c 1), .slice (s.a 2) (s.n 2) (s.c 2)] ∧ Rows8 W' (w.heap.size + 1) 38 #[.int .i64 p.1, .int .u64 (p.2 : Nat)]) 5 (by kernel_rfl) ?_
    have hS0 : Rows8 W1.drew w.heap.size 26 #[.int .u64 (E : Nat), .slice (s.a 0) (s.n 0) (s.c 0), .slice (s.a 1) (s.n 1) (s.c 1), .slice (s.a 2) (s.n 2) (s.c 2)] ∧ Rows8 W1.drew (w.heap.size + 1) 38 #[.int .i64 p.1, .int .u64 (p.2 : Nat)] := ⟨HK.out.drewA, HP.out.drewA⟩
    have HZ : Hid (Rows8 W1.drew (w.heap.size + 1 + 1) 26 #[.int .u64 0, .slice none 0 0, .slice none 0 0, .slice none 0 0]) := Lib.hid HZ.out.drewA
    have HB : Hid (Below w.heap.size w W1.drew) := Lib.hid HB.out.drew
    clear HK HP
    generalize W1.drew = Wd at *
    refine wpAnyL_takeT (i := 0) (oi := { dst := some 10, op := Go.Op.load 26 (Go.Operand.tmp 2), type := 26, pos := "ref.go:76", after := #[], guard := none }) (v := .agg #[.int .u64 (E : Nat), .slice (s.a 0) (s.n 0) (s.c 0), .slice (s.a 1) (s.n 1) (s.c 1), .slice (s.a 2) (s.n 2) (s.c 2)]) [1, 4] rfl (by kernel_rfl) (by kernel_rfl) (by kernel_rfl) (by kernel_rfl) (fun _ _ _ h => h) (Or.inl ⟨by rfl, ?_⟩) hS0 ?_
    · intro W9 hS9
      obtain ⟨q0, q1⟩ := hS9
      have k0 : W9.cell? ⟨w.heap.size, 0, none⟩ = some (.int .u64 (E : Nat)) := q0.cell 0
      have k1 : W9.cell? ⟨w.heap.size, 1, none⟩ = some (.slice (s.a 0) (s.n 0) (s.c 0)) := q0.cell 1
      have k2 : W9.cell? ⟨w.heap.size, 2, none⟩ = some (.slice (s.a 1) (s.n 1) (s.c 1)) := q0.cell 2
      have k3 : W9.cell? ⟨w.heap.size, 3, none⟩ = some (.slice (s.a 2) (s.n 2) (s.c 2)) := q0.cell 3
      clear q0 q1
      go_simp
    try simp only [Act.put, List.setIfInBounds_toArray, List.set_cons_zero, List.set_cons_succ]
    refine wpAnyL_takeT (i := 2) (oi := { dst := some 12, op := Go.Op.fieldAddr 38 (Go.Operand.tmp 3) 0, type := 0, pos := "ref.go:76", after := #[], guard := none }) (v := .pointer (some ⟨w.heap.size + 1, 0, none⟩)) [3, 4] rfl (by kernel_rfl) (by kernel_rfl) (by kernel_rfl) (by kernel_rfl) (fun _ _ _ h => h) (Or.inl ⟨by rfl, ?_⟩) hS0 ?_
    · intro W9 hS9
      obtain ⟨q0, q1⟩ := hS9
      clear q0 q1
      go_simp
    try simp only [Act.put, List.setIfInBounds_toArray, List.set_cons_zero, List.set_cons_succ]
    refine wpAnyL_takeT (i := 3) (oi := { dst := some 13, op := Go.Op.load 3 (Go.Operand.tmp 12), type := 3, pos := "ref.go:76", after := #[{ on := 2, ground := Go.Ground.data }], guard := none }) (v := .int .i64 p.1) [4] rfl (by kernel_rfl) (by kernel_rfl) (by kernel_rfl) (by kernel_rfl) (fun _ _ _ h => h) (Or.inl ⟨by rfl, ?_⟩) hS0 ?_
    · intro W9 hS9
      obtain ⟨q0, q1⟩ := hS9
      have s0 : W9.cell? ⟨w.heap.size + 1, 0, none⟩ = some (.int .i64 p.1) := q1.cell 0
      have s1 : W9.cell? ⟨w.heap.size + 1, 1, none⟩ = some (.int .u64 (p.2 : Nat)) := q1.cell 1
      clear q0 q1
      go_simp
    try simp only [Act.put, List.setIfInBounds_toArray, List.set_cons_zero, List.set_cons_succ]
    refine wpAnyL_one (i := 1) (o := { dst := some 11, op := Go.Op.call { callee := Go.Callee.value (Go.Operand.func 14), args := #[Go.Operand.tmp 10], argTypes := #[26] }, type := 23, pos := "ref.go:76", after := #[{ on := 0, ground := Go.Ground.data }], guard := none }) (by kernel_rfl) rfl (fun K hK => ?_)
    refine step_call_g (by rfl) 14 _ _ rfl (fun _ _ => by kernel_rfl) #[.agg #[.int .u64 (E : Nat), .slice (s.a 0) (s.n 0) (s.c 0), .slice (s.a 1) (s.n 1) (s.c 1), .slice (s.a 2) (s.n 2) (s.c 2)]] (by simp [go_sem]) _ (Tryd.refHeld_any E s r Wd (HI0.out.below HB.out) (by have := HE.out; omega) HL.out) ?_
    rintro e W2 ⟨vh, rfl, hvh, hC⟩
    obtain ⟨ah, ch, rfl⟩ := hvh.form
    have HZ := Lib.hid (HZ.out.below hC HZ.out.lt)
    have HB := Lib.hid (HB.out.trans (hC.mono HB.out.size))
    have hS0 : Rows8 W2 w.heap.size 26 #[.int .u64 (E : Nat), .slice (s.a 0) (s.n 0) (s.c 0), .slice (s.a 1) (s.n 1) (s.c 1), .slice (s.a 2) (s.n 2) (s.c 2)] ∧ Rows8 W2 (w.heap.size + 1) 38 #[.int .i64 p.1, .int .u64 (p.2 : Nat)] := ⟨hS0.1.below hC hS0.1.lt, hS0.2.below hC hS0.2.lt⟩
    have HV := Lib.hid (OwnsP.at hvh)
    clear hC hvh
    refine ⟨_, rfl, ?_⟩
    refine hK.out _ _ (fun _ => hS0) ?_
    clear hK K
    try simp only [Act.put, List.setIfInBounds_toArray, List.set_cons_zero, List.set_cons_succ]
    refine wpAnyL_one (i := 4) (o := { dst := some 14, op := Go.Op.call { callee := Go.Callee.value (Go.Operand.func 32), args := #[Go.Operand.tmp 11, Go.Operand.tmp 13], argTypes := #[23, 3] }, type := 4, pos := "ref.go:76", after := #[{ on := 1, ground := Go.Ground.data }, { on := 3, ground := Go.Ground.data }, { on := 1, ground := Go.Ground.chain }], guard := none }) (by kernel_rfl) rfl (fun K hK => ?_)
    refine step_call_g (by rfl) 32 _ _ rfl (fun _ _ => by kernel_rfl) #[.slice ah (heldL E r).length ch, .int .i64 p.1] (by simp [go_sem]) _ (Tryd.has_any ah (heldL E r).length ch (heldL E r) p.1 W2 HV.out (by have := ends_len HR0.out; omega)) ?_
    rintro e W3 ⟨rfl, hC⟩
    have HZ := Lib.hid (HZ.out.below hC HZ.out.lt)
    have HB := Lib.hid (HB.out.trans (hC.mono HB.out.size))
    have hS0 : Rows8 W3 w.heap.size 26 #[.int .u64 (E : Nat), .slice (s.a 0) (s.n 0) (s.c 0), .slice (s.a 1) (s.n 1) (s.c 1), .slice (s.a 2) (s.n 2) (s.c 2)] ∧ Rows8 W3 (w.heap.size + 1) 38 #[.int .i64 p.1, .int .u64 (p.2 : Nat)] := ⟨hS0.1.below hC hS0.1.lt, hS0.2.below hC hS0.2.lt⟩
    clear hC HV
    refine ⟨_, rfl, ?_⟩
    refine hK.out _ _ (fun _ => hS0) ?_
    clear hK K
    try simp only [Act.put, List.setIfInBounds_toArray, List.set_cons_zero, List.set_cons_succ]
    refine wpAnyL_end (by kernel_rfl) ?_
    cases hh : hasS (heldL E r) p.1 with
    | true =>
      have HHS := Lib.hid hh
      clear hh
      have hT : Hid (T = (5, 0, fun _ => [])) := Lib.hid (HTT.out.trans ((tryRet HR0.out p).2.1 HOK.out HHS.out))
      have HR := Lib.hid (rows4 HZ.out (.int .u64 0) (.slice none 0 0) (.slice none 0 0) (.slice none 0 0))
      have HB3 := Lib.hid (below4 HB.out (B := w.heap.size + 1 + 1) (by show w.heap.size ≤ w.heap.size + 1 + 1; omega) (.int .u64 0) (.slice none 0 0) (.slice none 0 0) (.slice none 0 0))
      have z0 : W3.cell? ⟨w.heap.size + 1 + 1, 0, none⟩ = some (.int .u64 0) := HZ.out.cell 0
      have f0 := HZ.out.frozen 0
      have z1 : W3.cell? ⟨w.heap.size + 1 + 1, 1, none⟩ = some (.slice none 0 0) := HZ.out.cell 1
      have f1 := HZ.out.frozen 1
      have z2 : W3.cell? ⟨w.heap.size + 1 + 1, 2, none⟩ = some (.slice none 0 0) := HZ.out.cell 2
      have f2 := HZ.out.frozen 2
      have z3 : W3.cell? ⟨w.heap.size + 1 + 1, 3, none⟩ = some (.slice none 0 0) := HZ.out.cell 3
      have f3 := HZ.out.frozen 3
      have ltz := HZ.out.lt
      go_wp2_with fail
      refine bodyPost_ret (results_ctA rfl _ _ (w.heap.size + 1 + 1) _ _ rfl rfl (load_row HR.out Tryd.underlying26 rfl (by kernel_rfl))) rfl ?_
      exact ⟨⟨zLs, by rw [hT.out]; rfl, by rw [hT.out]; exact z3_at _, fun _ _ _ => by rw [hT.out]; exact notAt_z _ _⟩, HB3.out⟩
    | false =>
      have hT : Hid (T = (0, E, updL r (E % 3) (r (E % 3) ++ [p]))) := Lib.hid (HTT.out.trans ((tryRet HR0.out p).2.2 HOK.out hh))
      have HK := Lib.hid hS0.1
      have HP := Lib.hid hS0.2
      have HSZ3 := Lib.hid (show w.heap.size ≤ W3.drew.heap.size from HB.out.size)
      clear hh hS0
      go_upto_region 5 with fail
      refine Tryd.ret_r5 w W3 E s r p _ HK HP HZ HI0 HB HE HLO (Lib.hid ?_) (fun c d v a w h => by cases d <;> exact h)
      intro X s' a5 n5 c5 z16 z17 z18 z19 z20 z21 z22 z23 z24 hR hs' hO hB
      have HR := Lib.hid hR
      have HSS := Lib.hid hs'
      have HO := Lib.hid hO
      have HB := Lib.hid hB
      clear hR hs' hO hB HK HP HZ
      go_wp2_with fail
      refine bodyPost_ret (results_ctA rfl _ _ (w.heap.size + 1 + 1) _ _ rfl rfl (load_row HR.out Tryd.underlying26 rfl (by kernel_rfl))) rfl ?_
      refine ⟨⟨s', by rw [hT.out]; rfl, ?_, fun B hB9 hN => by rw [hT.out, HSS.out]; exact hN.upd (E % 3) _ _ _ _ (fun e9 => by have h9 := (World.ownsRow.lt HO.out B e9).1; have h8 := HSZ3.out; omega)⟩, HB.out⟩
      rw [hT.out, HSS.out]
      have h9 := OwnsP.at HO.out
      rw [List.nil_append, show ofL E r 0 = r (E % 3) by unfold ofL; rw [if_neg (Nat.not_lt_zero _), Nat.sub_zero]] at h9
      exact lat_upd (HI0.out.below HB.out) (E % 3) a5 n5 c5 _ h9
end Go.Proofs
