/- Proved: for every group, lane and value, honeycomblaw10.GroupSets returns true, and its arguments read as they did; no condition. -/
import Derived.Test.YtldnmofihnfijaaZTw
import Derived.ShutString
import Derived.ChangeOld
import Derived.Below
namespace Go.Proofs
set_option maxRecDepth 100000
open Go.RowKit Go.Shelf
attribute [local go_sem] Oper.semAt_some

theorem setE_at {g : Gr} {lane : Int} (h : setE g lane = 0) : ∃ n : Fin 8, lane = (n : Nat) ∧ byt g.c n < 128 := by
  unfold setE at h
  split at h
  · cases h
  · rename_i h1
    split at h
    · cases h
    · rename_i h2
      exact ⟨⟨lane.toNat, by omega⟩, by show lane = ((lane.toNat : Nat) : Int); omega, by show byt g.c lane.toNat < 128; omega⟩
theorem fl_set (g : Gr) (lane : Int) (x : Nat) : fl (setG g lane x) = fl g := rfl
theorem liveG_get (g : Gr) (i : Nat) (h : i < (liveG g).length) : ∃ hi : i < (fl g).length, (liveG g)[i] = slotG g ((fl g)[i] : Fin 8) := by
  have hl : (liveG g).length = (fl g).length := by simp [liveG]
  exact ⟨by omega, by simp [liveG]⟩
theorem count_take (l : List (Fin 8)) (i : Nat) (h : i < l.length) (n : Fin 8) : (l.take (i + 1)).count n = (l.take i).count n + if l[i] = n then 1 else 0 := by
  rw [take_next l i h, List.count_append]
  simp [List.count_cons]
theorem count_one : ∀ {l : List (Fin 8)} {a : Fin 8}, l.Nodup → a ∈ l → l.count a = 1
  | [], _, _, h => by cases h
  | b :: l, a, hn, h => by
    rw [List.nodup_cons] at hn
    by_cases e : a = b
    · subst e
      rw [List.count_cons_self, List.count_eq_zero_of_not_mem hn.1]
    · rw [List.count_cons_of_ne (fun h => e h.symm)]
      exact count_one hn.2 ((List.mem_cons.1 h).resolve_left e)
theorem ne_selfN (a : Nat) : (((a : Nat) : Int) != ((a : Nat) : Int)) = false := by simp

set_option maxHeartbeats 4000000 in
theorem Try.sets_err (g : Gr) (lane : Int) (x : Nat) (hc : g.c < 18446744073709551616) (hE : ansE g (setE g lane) ≠ 0) (w : World) :
    Calls Try.prog 6 #[.agg (gc g), .int .i64 lane, .int .u64 (x : Nat)] w fun e w' => e = .returned (.bool true) ∧ Below w.heap.size w w' := by
  have HWk := fun W => Lib.hid (Try.wakes_any W)
  have HSet := fun W => Lib.hid (Try.gSet_any g hc lane x W)
  have hz : ansG g (setE g lane) (setG g lane x) = zG := by unfold ansG; rw [if_neg (fun h => hE (ansE_zero.2 h))]
  rw [hz] at HSet
  generalize ansE g (setE g lane) = E at *
  have hne : (E == 0) = false := by simpa using hE
  have h0 := Rows8.new w 25 (gc g)
  have hb := Lib.hid ((Below.refl w.heap.size w).alloc (Nat.le_refl _) (.cells (gc g) 25))
  clear hz hE
  go_enter Try.func6, Try.ntmps6
  go_wp2_with (first | (refine wpList_loadW (by rfl) _ _ rfl ⟨w.heap.size, 0, none⟩ _ rfl hld ?_) | (go_at_call 7; refine (HWk _).out.mono ?_; rintro e w1 ⟨rfl, hB1⟩; have hld := Try.load_group (h0.below hB1 h0.lt); have HB1 := Lib.hid (hb.out.trans (hB1.mono hb.out.size)); clear hB1))
  refine (HSet _).out.mono ?_
  rintro e w2 ⟨rfl, hB2⟩
  obtain ⟨w3, hst, hrn, hB3⟩ := Try.box_new zG w2
  have hldn := Try.load_group hrn
  have HB3 := Lib.hid ((HB1.out.trans (hB2.mono HB1.out.size)).trans (hB3.mono (Nat.le_trans HB1.out.size hB2.size)))
  have heq := Try.eqGroup zG w3
  clear hB2 hB3 hrn hld
  go_wp2_with (first | (refine wpList_storeW (by rfl) 25 _ _ rfl ⟨w2.heap.size, 0, none⟩ _ rfl rfl hst ?_) | (refine wpList_loadW (by rfl) _ _ rfl ⟨w2.heap.size, 0, none⟩ _ rfl hldn ?_) | (refine wpList_eqlW (by rfl) 25 _ _ rfl (gc zG) (gc zG) rfl rfl (by kernel_rfl) true heq ?_))
  go_ret
  exact ⟨rfl, HB3.out⟩

set_option maxHeartbeats 8000000 in
theorem Try.sets_ok (g : Gr) (l : Fin 8) (x : Nat) (hc : g.c < 18446744073709551616) (hr : rightG g = true) (hf : byt g.c l < 128) (w : World) :
    Calls Try.prog 6 #[.agg (gc g), .int .i64 (l : Nat), .int .u64 (x : Nat)] w fun e w' => e = .returned (.bool true) ∧ Below w.heap.size w w' := by
  have HWk := fun W => Lib.hid (Try.wakes_any W)
  have hE0 : setE g ((l : Nat) : Int) = 0 := by unfold setE; have := l.isLt; rw [if_neg (by omega), if_neg (by simpa using (by omega : ¬ 127 < byt g.c l))]
  have HSet := fun W => Lib.hid (Try.gSet_any g hc ((l : Nat) : Int) x W)
  rw [show ansE g (setE g ((l : Nat) : Int)) = 0 from ansE_zero.2 ⟨hr, hE0⟩, show ansG g (setE g ((l : Nat) : Int)) (setG g ((l : Nat) : Int) x) = setG g ((l : Nat) : Int) x from by unfold ansG; rw [if_pos ⟨hr, hE0⟩]] at HSet
  have hnc : (setG g ((l : Nat) : Int) x).c = g.c := rfl
  have hnk : (setG g ((l : Nat) : Int) x).k = g.k := rfl
  have hnv : ∀ y : Fin 8, (setG g ((l : Nat) : Int) x).v y = if y = l then x else g.v y := fun y => by
    show upd g.v (((l : Nat) : Int)).toNat x y = _
    unfold upd
    by_cases h : y = l
    · rw [if_pos h, if_pos (by rw [h]; simp)]
    · rw [if_neg h, if_neg (fun e => h (Fin.ext (by simpa using e)))]
  have hnr : rightG (setG g ((l : Nat) : Int) x) = true := hr
  have hfl : fl (setG g ((l : Nat) : Int) x) = fl g := rfl
  generalize setG g ((l : Nat) : Int) x = n at *
  have HLg := fun W => Lib.hid (Try.gLive_any g W)
  have HLn := fun W => Lib.hid (Try.gLive_any n W)
  have HFd : Hid (∀ (y : Fin 8), byt g.c y < 128 → ∀ W, ∃ N : Nat, Calls Try.prog 20 #[.agg (gc n), .int .u64 (g.k y : Nat), .int .u8 (byt g.c y : Nat)] W fun e w' => e = .returned (.tuple #[.int .i64 (y : Nat), .int .i64 (N : Nat), .int .i64 0]) ∧ Below W.heap.size W w') := Lib.hid fun y hy W => by
    have h := Try.gFind_any n (g.k y) (byt g.c y) W
    have hs := find_self hnr (y := y) (by rw [hnc]; exact hy)
    rw [hnk, hnc] at hs
    unfold gfindV findV at h
    rw [if_pos hnr, hs.1, hs.2.1] at h
    exact ⟨_, h⟩
  have hgl : gliveL g = liveG g := if_pos hr
  have hnl : gliveL n = liveG n := if_pos hnr
  have HLen : Hid ((liveG g).length = (fl g).length ∧ (liveG n).length = (fl g).length) := Lib.hid ⟨by simp [liveG], by simp [liveG, hfl]⟩
  have HGet : Hid (∀ (i : Nat) (h : i < (fl g).length), ∃ y : Fin 8, (fl g)[i] = y ∧ byt g.c y < 128 ∧ (∀ hg, (liveG g)[i]'hg = ⟨g.k y, g.v y, byt g.c y⟩) ∧ (∀ hg, (liveG n)[i]'hg = ⟨g.k y, if y = l then x else g.v y, byt g.c y⟩)) := Lib.hid fun i h => by
    refine ⟨(fl g)[i], rfl, (mem_fl g _).1 (List.getElem_mem h), fun hg => ?_, fun hg => ?_⟩
    · simp [liveG, slotG]
    · simp only [liveG, hfl, List.getElem_map, slotG, hnk, hnc, hnv]
  have HCt : Hid ((fl g).count l = 1) := Lib.hid (count_one (lanes_nodup _) ((mem_fl g l).2 hf))
  have HFl : Hid ((fl g).length ≤ 8) := Lib.hid (lanes_le _)
  rw [hgl] at HLg
  rw [hnl] at HLn
  have h0 := Rows8.new w 25 (gc g)
  have hb := Lib.hid ((Below.refl w.heap.size w).alloc (Nat.le_refl _) (.cells (gc g) 25))
  have HNC := Lib.hid hnc
  clear hE0 hnc hnk hnv hnr hgl hnl hr hc hf
  go_enter Try.func6, Try.ntmps6
  go_wp2_with (first | (refine wpList_loadW (by rfl) _ _ rfl ⟨w.heap.size, 0, none⟩ _ rfl hld ?_) | (go_at_call 7; refine (HWk _).out.mono ?_; rintro e w1 ⟨rfl, hB1⟩; have hr1 := h0.below hB1 h0.lt; have hld := Try.load_group hr1; have HR1 := Lib.hid hr1; have HB1 := Lib.hid (hb.out.trans (hB1.mono hb.out.size)); clear hB1 hr1))
  refine (HSet _).out.mono ?_
  rintro e w2 ⟨rfl, hB2⟩
  obtain ⟨w3, hst, hrn, hB3⟩ := Try.box_new n w2
  have HG3 := Lib.hid ((HR1.out.below hB2 HR1.out.lt).below hB3 (by have := HR1.out.lt; have := hB2.size; omega))
  have HN3 := Lib.hid hrn
  have HB3 := Lib.hid ((HB1.out.trans (hB2.mono HB1.out.size)).trans (hB3.mono (Nat.le_trans HB1.out.size hB2.size)))
  clear hB2 hB3 hrn hld h0
  go_wp2_with (first | (refine wpList_storeW (by rfl) 25 _ _ rfl ⟨w2.heap.size, 0, none⟩ _ rfl rfl hst ?_))
  refine wp_region_X (fun W' => Rows8 W' w.heap.size 25 (gc g) ∧ Rows8 W' w2.heap.size 25 (gc n)) 6 (by kernel_rfl) ?_
  have hS0 : Rows8 w3.drew w.heap.size 25 (gc g) ∧ Rows8 w3.drew w2.heap.size 25 (gc n) := ⟨HG3.out.drew, HN3.out.drew⟩
  have hB0 := HB3.out.drew
  generalize w3.drew = w4 at *
  refine wpAnyN_take (i := 0) (oi := { dst := some 31, op := Go.Op.load 25 (Go.Operand.tmp 3), type := 25, pos := "outright.go:90", after := #[], guard := none }) (v := .agg (gc g)) rfl (by decide) (by kernel_rfl) (by kernel_rfl) (by kernel_rfl) (fun _ _ _ h => h) (Or.inl ⟨by rfl, ?_⟩) hS0 ?_
  · intro W9 hS9
    obtain ⟨q0, q1⟩ := hS9
    exact exec_load 25 _ rfl ⟨w.heap.size, 0, none⟩ _ (by simp [go_sem]) (Try.load_group q0)
  try simp only [Act.put, List.setIfInBounds_toArray, List.set_cons_zero, List.set_cons_succ]
  refine wpAnyN_take (i := 2) (oi := { dst := some 33, op := Go.Op.load 25 (Go.Operand.tmp 7), type := 25, pos := "outright.go:90", after := #[], guard := none }) (v := .agg (gc n)) rfl (by decide) (by kernel_rfl) (by kernel_rfl) (by kernel_rfl) (fun _ _ _ h => h) (Or.inl ⟨by rfl, ?_⟩) hS0 ?_
  · intro W9 hS9
    obtain ⟨q0, q1⟩ := hS9
    exact exec_load 25 _ rfl ⟨w2.heap.size, 0, none⟩ _ (by simp [go_sem]) (Try.load_group q1)
  try simp only [Act.put, List.setIfInBounds_toArray, List.set_cons_zero, List.set_cons_succ]
  refine wpAnyX_one (i := 1) (o := { dst := some 32, op := Go.Op.call { callee := Go.Callee.value (Go.Operand.func 18), args := #[Go.Operand.tmp 31], argTypes := #[25] }, type := 26, pos := "outright.go:90", after := #[{ on := 0, ground := Go.Ground.data }], guard := none }) (by kernel_rfl) rfl (fun K hK => ?_)
  refine step_call_g (by rfl) 18 _ _ rfl (fun _ _ => by kernel_rfl) #[.agg (gc g)] (by simp [go_sem]) _ (HLg w4).out ?_
  rintro e w5 ⟨v1, rfl, hOv1, _, hCv1⟩
  refine ⟨_, rfl, ?_⟩
  have hS1 : Rows8 w5 w.heap.size 25 (gc g) ∧ Rows8 w5 w2.heap.size 25 (gc n) := ⟨hS0.1.below hCv1 hS0.1.lt, hS0.2.below hCv1 hS0.2.lt⟩
  have hB5 := hB0.trans (hCv1.mono hB0.size)
  refine hK.out _ _ (fun _ => hS1) ?_
  clear hK K
  try simp only [Act.put, List.setIfInBounds_toArray, List.set_cons_zero, List.set_cons_succ]
  refine wpAnyX_one (i := 3) (o := { dst := some 34, op := Go.Op.call { callee := Go.Callee.value (Go.Operand.func 18), args := #[Go.Operand.tmp 33], argTypes := #[25] }, type := 26, pos := "outright.go:90", after := #[{ on := 2, ground := Go.Ground.data }, { on := 1, ground := Go.Ground.chain }], guard := none }) (by kernel_rfl) rfl (fun K hK => ?_)
  refine step_call_g (by rfl) 18 _ _ rfl (fun _ _ => by kernel_rfl) #[.agg (gc n)] (by simp [go_sem]) _ (HLn w5).out ?_
  rintro e w6 ⟨v2, rfl, hOv2, _, hCv2⟩
  refine ⟨_, rfl, ?_⟩
  have hS2 : Rows8 w6 w.heap.size 25 (gc g) ∧ Rows8 w6 w2.heap.size 25 (gc n) := ⟨hS1.1.below hCv2 hS1.1.lt, hS1.2.below hCv2 hS1.2.lt⟩
  have hB6 := hB5.trans (hCv2.mono hB5.size)
  refine hK.out _ _ (fun _ => hS2) ?_
  clear hK K
  try simp only [Act.put, List.setIfInBounds_toArray, List.set_cons_zero, List.set_cons_succ]
  have hO1 : OwnsSlots w4.heap.size (liveG g) v1 w6 := ownsRow_below hOv1 hCv2 (Nat.le_refl _)
  refine wpAnyN_take (i := 4) (oi := { dst := some 9, op := Go.Op.assign (Go.Operand.tmp 32), type := 26, pos := "outright.go:90", after := #[{ on := 1, ground := Go.Ground.data }, { on := 3, ground := Go.Ground.chain }, { on := 0, ground := Go.Ground.phase }, { on := 1, ground := Go.Ground.phase }, { on := 2, ground := Go.Ground.textOnly Go.Departure.lateStores }, { on := 3, ground := Go.Ground.textOnly Go.Departure.lateStoresUnsure }], guard := none }) (v := v1) rfl (by decide) (by kernel_rfl) (by kernel_rfl) (by kernel_rfl) (fun _ _ _ h => h) (Or.inl ⟨by rfl, ?_⟩) hS2 ?_
  · intro W9 hS9
    obtain ⟨q0, q1⟩ := hS9
    go_simp
  try simp only [Act.put, List.setIfInBounds_toArray, List.set_cons_zero, List.set_cons_succ]
  refine wpAnyN_take (i := 5) (oi := { dst := some 10, op := Go.Op.assign (Go.Operand.tmp 34), type := 26, pos := "outright.go:90", after := #[{ on := 3, ground := Go.Ground.data }, { on := 4, ground := Go.Ground.chain }, { on := 0, ground := Go.Ground.phase }, { on := 1, ground := Go.Ground.phase }, { on := 2, ground := Go.Ground.phase }, { on := 3, ground := Go.Ground.phase }, { on := 4, ground := Go.Ground.phase }], guard := none }) (v := v2) rfl (by decide) (by kernel_rfl) (by kernel_rfl) (by kernel_rfl) (fun _ _ _ h => h) (Or.inl ⟨by rfl, ?_⟩) hS2 ?_
  · intro W9 hS9
    obtain ⟨q0, q1⟩ := hS9
    go_simp
  try simp only [Act.put, List.setIfInBounds_toArray, List.set_cons_zero, List.set_cons_succ]
  refine wpAnyX_end (by kernel_rfl) ?_
  obtain ⟨a1, c1, rfl⟩ : ∃ a c, v1 = .slice a (fl g).length c := by
    obtain ⟨_, a, cap, h, _⟩ := rowAt_own hO1
    rw [HLen.out.1] at h
    exact ⟨a, cap, h⟩
  obtain ⟨a2, c2, rfl⟩ : ∃ a c, v2 = .slice a (fl g).length c := by
    obtain ⟨_, a, cap, h, _⟩ := rowAt_own hOv2
    rw [HLen.out.2] at h
    exact ⟨a, cap, h⟩
  have hq1 := rowAt_own hO1
  have hq2 := rowAt_own hOv2
  rw [HLen.out.1] at hq1
  rw [HLen.out.2] at hq2
  obtain ⟨m, hm⟩ : ∃ m, m = (fl g).length := ⟨_, rfl⟩
  rw [← hm] at hq1 hq2 ⊢
  have HQ1 := Lib.hid hq1
  have HQ2 := Lib.hid hq2
  have HM := Lib.hid hm
  have HG6 := Lib.hid hS2.1
  have HN6 := Lib.hid hS2.2
  have HB6 := Lib.hid hB6
  have hm8 : m ≤ 8 := by rw [hm]; exact HFl.out
  clear hO1 hOv2 hq1 hq2 hm hS0 hS1 hS2 hB0 hB5 hB6 hCv1 hCv2 hst hOv1
  go_wp2_with fail
  go_loopw [11, 42] (fun mv i wr => ∃ k : Nat, k ≤ m ∧ i = .int .i64 k ∧ mv = .int .i64 (((fl g).take k).count l : Nat) ∧ Hid (Below w6.heap.size w6 wr)) (fun _ i _ => m - (intOf i).toNat)
  case atStart => exact ⟨0, Nat.zero_le _, rfl, rfl, Lib.hid (Below.refl _ _)⟩
  case round =>
    obtain ⟨k, hk, rfl, rfl, hBr⟩ := hrel
    by_cases hlt : k < m
    · have hkf : k < (fl g).length := by rw [← HM.out]; exact hlt
      obtain ⟨y, hy, hyb, hs1, hs2⟩ := HGet.out k hkf
      have hk1 : k < (liveG g).length := by rw [HLen.out.1]; exact hkf
      have hk2 : k < (liveG n).length := by rw [HLen.out.2]; exact hkf
      obtain ⟨b1, o1, rfl, hl1, p0, p1, p2⟩ := slotsAt_get HQ1.out k hk1
      obtain ⟨b2, o2, rfl, hl2, q0, q1, q2⟩ := slotsAt_get HQ2.out k hk2
      rw [hs1 hk1] at p0 p1 p2
      rw [hs2 hk2] at q0 q1 q2
      dsimp only at p0 p1 p2 q0 q1 q2
      have q0 := (hBr.out.cell (p := ⟨b2, o2 + k * 3, none⟩) hl2).trans q0
      have q1 := (hBr.out.cell (p := ⟨b2, o2 + k * 3 + 1, none⟩) hl2).trans q1
      have q2 := (hBr.out.cell (p := ⟨b2, o2 + k * 3 + 2, none⟩) hl2).trans q2
      have hki : (k : Int) < (m : Int) := by omega
      have hct : ((fl g).take (k + 1)).count l = ((fl g).take k).count l + if y = l then 1 else 0 := by rw [count_take _ k hkf, hy]
      have hcb : ((fl g).take k).count l ≤ 8 := Nat.le_trans List.count_le_length (by rw [List.length_take]; omega)
      have HFy := Lib.hid (HFd.out y hyb)
      have HP0 := Lib.hid p0
      have HP1 := Lib.hid p1
      have HP2 := Lib.hid p2
      have HCt2 := Lib.hid hct
      have hnl := hBr.out.size
      have hal : ∀ v, Below wr.heap.size wr (wr.alloc (.cells #[.int .u64 (g.k y : Nat), .int .u64 (v : Nat), .int .u8 (byt g.c y : Nat)] 38)) := fun v => (Below.refl _ _).alloc (Nat.le_refl _) _
      generalize ((fl g).take k).count l = ct at *
      generalize hvv : (if y = l then x else g.v y) = vv at *
      have HVV := Lib.hid hvv
      have hsl : Rows8 (wr.alloc (.cells #[.int .u64 (g.k y : Nat), .int .u64 (vv : Nat), .int .u8 (byt g.c y : Nat)] 38)) wr.heap.size 38 #[.int .u64 (g.k y : Nat), .int .u64 (vv : Nat), .int .u8 (byt g.c y : Nat)] := Rows8.new _ _ _
      have hnb := HN6.out.below (hBr.out.trans ((hal vv).mono hnl)) HN6.out.lt
      have hBr2 := hBr.out.trans ((hal vv).mono hnl)
      have HSL := Lib.hid hsl
      have HNB := Lib.hid hnb
      have HBR2 := Lib.hid hBr2
      have hldn := Try.load_group hnb
      have t0 : (wr.alloc (.cells #[.int .u64 (g.k y : Nat), .int .u64 (vv : Nat), .int .u8 (byt g.c y : Nat)] 38)).cell? ⟨wr.heap.size, 0, none⟩ = some (.int .u64 (g.k y : Nat)) := hsl.cell 0
      have t2 : (wr.alloc (.cells #[.int .u64 (g.k y : Nat), .int .u64 (vv : Nat), .int .u8 (byt g.c y : Nat)] 38)).cell? ⟨wr.heap.size, 2, none⟩ = some (.int .u8 (byt g.c y : Nat)) := hsl.cell 2
      clear hct hvv hsl hnb hBr2 hal p0 p1 p2 hs1 hs2 hk1 hk2 hy
      go_wp2_with (first | (refine wpList_loadW (by rfl) _ _ rfl ⟨w2.heap.size, 0, none⟩ _ rfl hldn ?_))
      obtain ⟨N, hFc⟩ := HFy.out (wr.alloc (.cells #[.int .u64 (g.k y : Nat), .int .u64 (vv : Nat), .int .u8 (byt g.c y : Nat)] 38))
      refine hFc.mono ?_
      rintro e W2 ⟨rfl, hB2⟩
      have hB3 := HBR2.out.trans (hB2.mono HBR2.out.size)
      have p0 := (hB3.cell (p := ⟨b1, o1 + k * 3, none⟩) hl1).trans HP0.out
      have p1 := (hB3.cell (p := ⟨b1, o1 + k * 3 + 1, none⟩) hl1).trans HP1.out
      have p2 := (hB3.cell (p := ⟨b1, o1 + k * 3 + 2, none⟩) hl1).trans HP2.out
      have hsl := HSL.out.below hB2 HSL.out.lt
      have t0 : W2.cell? ⟨wr.heap.size, 0, none⟩ = some (.int .u64 (g.k y : Nat)) := hsl.cell 0
      have t1 : W2.cell? ⟨wr.heap.size, 1, none⟩ = some (.int .u64 (vv : Nat)) := hsl.cell 1
      have t2 : W2.cell? ⟨wr.heap.size, 2, none⟩ = some (.int .u8 (byt g.c y : Nat)) := hsl.cell 2
      have HB3 := Lib.hid hB3
      clear hB2 hB3 hsl hldn q0 q1 q2 hFc
      have e1 := ne_selfN (g.k y)
      have e2 := ne_selfN (byt g.c y)
      go_wp2_with fail
      go_quiet (fail)
      have hBd : ∀ q : Nat, Hid (Below w6.heap.size w6 (W2.drewN q)) := fun q => Lib.hid (below_drewN HB3.out q)
      by_cases hyl : y = l
      · have hv : vv = x := by rw [← HVV.out, if_pos hyl]
        have hc2 := HCt2.out
        rw [if_pos hyl] at hc2
        subst hyl hv
        have HC3 := Lib.hid hc2
        have e3 := ne_selfN vv
        clear hc2
        go_wp2_with fail
        go_roundw
        case rel => exact ⟨k + 1, by omega, by go_num, by rw [HC3.out]; exact congrArg _ (by omega), by first | exact hBd _ | exact HB3⟩
        case measure => simp [intOf]; omega
      · have hv : vv = g.v y := by rw [← HVV.out, if_neg hyl]
        have hc2 := HCt2.out
        rw [if_neg hyl, Nat.add_zero] at hc2
        have hne : (((y : Nat) : Int) == ((l : Nat) : Int)) = false := by
          rw [natEq_walk]
          simp only [beq_eq_false_iff_ne, ne_eq]
          exact fun h => hyl (Fin.ext h)
        subst hv
        have HC3 := Lib.hid hc2
        have e3 := ne_selfN (g.v y)
        clear hc2
        go_wp2_with fail
        go_quiet (fail)
        go_wp2_with fail
        go_roundw
        case rel => exact ⟨k + 1, by omega, by go_num, by rw [HC3.out]; exact congrArg _ (by omega), by first | exact hBd _ | exact HB3 | exact Lib.hid (below_drewN (hBd _).out _)⟩
        case measure => simp [intOf]; omega
    · obtain rfl : k = m := by omega
      have hct : ((fl g).take k).count l = 1 := by rw [HM.out, List.take_of_length_le (Nat.le_refl _)]; exact HCt.out
      rw [hct]
      have hng := HN6.out.below hBr.out HN6.out.lt
      have hgg := HG6.out.below hBr.out HG6.out.lt
      have n0 : wr.cell? ⟨w2.heap.size, 0, none⟩ = some (.int .u64 (g.c : Nat)) := by
        rw [← HNC.out]
        exact (hng.cell 0).trans (gc_0 n)
      have g0 : wr.cell? ⟨w.heap.size, 0, none⟩ = some (.int .u64 (g.c : Nat)) := (hgg.cell 0).trans (gc_0 g)
      have HF := Lib.hid (HB6.out.trans (hBr.out.mono HB6.out.size))
      clear hng hgg hct
      go_wp2_with fail
      go_ret
      exact ⟨by simp, HF.out⟩
end Go.Proofs
namespace Go.Proofs.Ytldnmofihnfijaa.groupSets
open Go.ChangeShapes Go.WideShapes Go.ChangeAt Go.RowKit Go.Shelf

theorem own : ownKnob Try.prog.godebug = none := by kernel_rfl
theorem walk (g : Gr) (lane x : Int) (w : World) (hc : g.c < 18446744073709551616) (_ : (Lit.int .i64 lane).wf = true) (hx : (Lit.int .u64 x).wf = true) :
    Calls Try.prog 6 #[.agg (gc g), .int .i64 lane, .int .u64 x] w fun e w' => e = .returned (.bool true) ∧ Below w.heap.size w w' := by
  have h64 := wf64 hx
  obtain ⟨x, rfl⟩ : ∃ n : Nat, x = n := ⟨x.toNat, by omega⟩
  by_cases hE : ansE g (setE g lane) = 0
  · obtain ⟨hr, h0⟩ := ansE_zero.1 hE
    obtain ⟨l, rfl, hf⟩ := setE_at h0
    exact Try.sets_ok g l x hc hr hf w
  · exact Try.sets_err g lane x hc hE w
theorem laidOut : laidOutB Try.prog = true := by kernel_rfl
set_option maxRecDepth 100000 in
theorem lifted (os : Os) (started : os.Started) (H : Type) (enc : TypeId × Value → H) :
    ReturnsInHanded {} Try.checked os 6 .any (Rows.groupSetsSpec.pre6 enc Try.prog Try.f6 Rows.groupSetsRow.domain false) (Rows.groupSetsSpec.post enc Try.prog Try.f6 false true false false) := by
  refine returnsInHanded_of_change (C := Try.checked) own started (by kernel_rfl) Try.func6
    (ChangeSpec.witness6 (enc := enc) (C := Try.checked) false ⟨#[], #[.agg #[.int .u64 0, .int .u64 0, .int .u64 0, .int .u64 0, .int .u64 0, .int .u64 0, .int .u64 0, .int .u64 0, .int .u64 0, .int .u64 0, .int .u64 0, .int .u64 0, .int .u64 0, .int .u64 0, .int .u64 0, .int .u64 0, .int .u64 0], .int .i64 0, .int .u64 0], []⟩ 8 (by kernel_rfl) (by kernel_rfl) (by kernel_rfl) (by kernel_rfl)) ?_
  intro W base args ds gs before hval0 hW hcnd _
  have hval : ∀ (j : Nat) t v, Try.f6.params[j]? = some t → args[j]? = some v → Value.okWide Try.prog W .any base t v := hval0
  have hW' := hW
  obtain ⟨p, q, hA0, hV, rfl, hfz, hnd⟩ := hW
  have hA : DataW.TrodAll enc Try.prog W 0 (fun _ => true) true Try.f6.params.toList args.toList ds p := hA0
  rw [Try.params6] at hA hval
  obtain ⟨v0, vs0, d0, ds0, p0, q0, hargs, rfl, rfl, h0, r0⟩ := trodAll_cons hA
  obtain ⟨v1, vs1, d1, ds1, p1, q1, rfl, rfl, rfl, h1, r1⟩ := trodAll_cons r0
  obtain ⟨v2, vs2, d2, ds2, p2, q2, rfl, rfl, rfl, h2, r2⟩ := trodAll_cons r1
  obtain ⟨rfl, rfl, rfl⟩ := trodAll_nil r2
  obtain rfl : args = #[v0, v1, v2] := by cases args; simp_all
  obtain ⟨rfl, rfl⟩ := trodVars_none hV
  have k0 := h0
  have lt0 : ∀ x ∈ p0, x.block < W.heap.size := by obtain ⟨m, hm⟩ := k0; exact DataW.trod_lt m _ _ _ hm
  obtain ⟨g0, rfl, w0⟩ := open_group (hval 0 25 v0 rfl rfl) h0
  obtain ⟨a1, rfl, rfl, rfl, w1⟩ := open_int Try.underlying3 (hval 1 3 v1 rfl rfl) h1
  obtain ⟨a2, rfl, rfl, rfl, w2⟩ := open_int Try.underlying22 (hval 2 22 v2 rfl rfl) h2
  clear hA0 hval0
  refine (walk g0 a1 a2 W w0 w1 w2).mono fun e W' ⟨he, bel⟩ => ?_
  subst he
  exact ⟨_, rfl, _, _, _, [], _, [], hW', trodAll_mk1 (shut_bool Try.underlying4 _), (trodAll_cons_mk (Below.trod laidOut (by kernel_rfl) (of_decide_eq_true (by kernel_rfl)) k0 bel lt0) (trodAll_cons_mk (shut_int Try.underlying3 w1) (trodAll_cons_mk (shut_int Try.underlying22 w2) trodAll_mk0))), rfl, bel.frame _, fun h => by cases h⟩

theorem over : Rows.groupSetsRow.holds Try.pinned (OpenSpec.ofChange Rows.groupSetsSpec) :=
  OpenClaim.holds_of_wide 6 Try.f6 rfl rfl rfl rfl rfl rfl rfl ⟨rfl, rfl, rfl, rfl, rfl⟩ rfl rfl rfl rfl rfl (by kernel_rfl) Try.func6 (by kernel_rfl)
    (of_decide_eq_true (by kernel_rfl)) (by unfold Func.isWrapper; first | (rw [if_pos (by decide +kernel)]; kernel_rfl) | (rw [if_neg (by decide +kernel)]; exact ⟨rfl, rfl⟩))
    (fun os started H enc _ => lifted os started H enc)

theorem proved : Rows.GroupSetsSaid := over
end Go.Proofs.Ytldnmofihnfijaa.groupSets
