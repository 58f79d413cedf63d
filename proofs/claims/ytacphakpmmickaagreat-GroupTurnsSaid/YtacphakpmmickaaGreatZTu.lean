/- Group: the layer does what it is asked: the facts. -/
import Derived.Test.YtacphakpmmickaaGreatZTh
import Derived.KernelRfl
namespace Go.Proofs
set_option maxRecDepth 100000
set_option maxRecDepth 100000
open Go.RowKit Go.Shelf
attribute [local go_sem] Oper.semAt_some

def wk0 : Gr := ⟨ofB fun _ => 128, fun _ => 0, fun _ => 0⟩
def wk1 : Gr := ⟨9259542123265523969, upd (upd (upd (fun _ => 0) 0 5) 1 6) 2 7, upd (upd (upd (fun _ => 0) 0 50) 1 60) 2 70⟩
def wk2 : Gr := ⟨9259542123265524096, upd (upd (upd (fun _ => 0) 0 5) 1 6) 2 7, upd (upd (upd (fun _ => 0) 0 50) 1 60) 2 70⟩
def wkS : List Sl := [⟨5, 50, 1⟩, ⟨6, 60, 1⟩, ⟨7, 70, 2⟩]
theorem wk_puts : bG chPut (wk0, 0) wkS = wk1 ∧ bE chPut (wk0, 0) wkS = 0 := ⟨by kernel_rfl, by kernel_rfl⟩
theorem wk_looks : looksL wk1 1 = [0, 1] ∧ looksE wk1 1 = 0 := ⟨by decide +kernel, by decide +kernel⟩
theorem wk_find : gfindV wk1 6 1 = .tuple #[.int .i64 1, .int .i64 2, .int .i64 0] := by kernel_rfl
theorem wk_no : gfindV wk1 6 2 = .tuple #[.int .i64 0, .int .i64 0, .int .i64 4] := by kernel_rfl
theorem wk_drop : ansG wk1 (findE wk1 5 1) (dropG wk1 5 1) = wk2 ∧ ansL wk1 (findE wk1 5 1) (findL wk1 5 1) = 0 ∧ ansE wk1 (findE wk1 5 1) = 0 := ⟨by kernel_rfl, by decide +kernel, by decide +kernel⟩
theorem wk_free : freeN wk2 1 = 6 ∧ freeN wk2 2 = 0 := ⟨by decide +kernel, by decide +kernel⟩
theorem wk_put : ansL wk2 (putE wk2 ⟨8, 80, 3⟩) (putL wk2) = 0 ∧ ansE wk2 (putE wk2 ⟨8, 80, 3⟩) = 0 := ⟨by decide +kernel, by decide +kernel⟩
theorem wk_live : (gliveL wk1).length = 3 := by decide +kernel
theorem wk_lt : wk0.c < 18446744073709551616 ∧ wk1.c < 18446744073709551616 ∧ wk2.c < 18446744073709551616 := ⟨by decide +kernel, by decide +kernel, by decide +kernel⟩
/-- A group in a box of its own. -/
theorem Tryz.box_new (G : Gr) (W : World) : ∃ W', (storeVar 25 ⟨W.heap.size, 0, none⟩ (.agg (gc G))).run Tryz.prog (W.alloc (.cells #[.int .u64 0, .int .u64 0, .int .u64 0, .int .u64 0, .int .u64 0, .int .u64 0, .int .u64 0, .int .u64 0, .int .u64 0, .int .u64 0, .int .u64 0, .int .u64 0, .int .u64 0, .int .u64 0, .int .u64 0, .int .u64 0, .int .u64 0] 25)) = .ok () W' ∧ Rows8 W' W.heap.size 25 (gc G) ∧ Below W.heap.size W W' := by
  have h := Rows8.new W 25 #[.int .u64 0, .int .u64 0, .int .u64 0, .int .u64 0, .int .u64 0, .int .u64 0, .int .u64 0, .int .u64 0, .int .u64 0, .int .u64 0, .int .u64 0, .int .u64 0, .int .u64 0, .int .u64 0, .int .u64 0, .int .u64 0, .int .u64 0]
  exact ⟨_, Tryz.store_group G h rfl, setRow_heap _ _ _ _ _ _ h, below_setRow ((Below.refl _ W).alloc (Nat.le_refl _) _) (Nat.le_refl _) _⟩
end Go.Proofs

/- Group: wakes. -/
namespace Go.Proofs
set_option maxRecDepth 100000
open Go.RowKit Go.Shelf
attribute [local go_sem] Oper.semAt_some

set_option maxHeartbeats 8000000 in
theorem Tryz.wakes_any (w : World) : Calls Tryz.prog 4 #[] w fun e w' => e = .returned (.bool true) ∧ Below w.heap.size w w' := by
  have HNew : ∀ W, Hid (Calls Tryz.prog 14 #[] W fun e w' => e = .returned (.agg (gc wk0)) ∧ Below W.heap.size W w') := fun W => Lib.hid (Tryz.gNew_any W)
  have HPuts := fun (W : World) (a : Option Addr) => Lib.hid (fun (h : RowAt W (.slice a 3 3) 3 3 (slotVals wkS)) => Tryz.gPuts_any wk0 wk_lt.1 wkS (by decide) a 3 3 rfl (by omega) W h)
  rw [wk_puts.1, wk_puts.2] at HPuts
  have HLo := fun W => Lib.hid (Tryz.gLooks_any wk1 1 W)
  have HFi := fun W => Lib.hid (Tryz.gFind_any wk1 6 1 W)
  rw [wk_find] at HFi
  have HFn := fun W => Lib.hid (Tryz.gFind_any wk1 6 2 W)
  rw [wk_no] at HFn
  have HDr := fun W => Lib.hid (Tryz.gDrop_any wk1 wk_lt.2.1 5 1 W)
  rw [wk_drop.1, wk_drop.2.1, wk_drop.2.2] at HDr
  have HFr := fun W => Lib.hid (Tryz.gFree_any wk2 W)
  rw [wk_free.1, wk_free.2] at HFr
  have HPu := fun W => Lib.hid (Tryz.gPut_any wk2 wk_lt.2.2 ⟨8, 80, 3⟩ (by decide) W)
  rw [wk_put.1, wk_put.2] at HPu
  have HLi := fun W => Lib.hid (Tryz.gLive_any wk1 W)
  have HLL := Lib.hid wk_live
  have HLK := Lib.hid wk_looks
  generalize hG3 : ansG wk2 (putE wk2 ⟨8, 80, 3⟩) (putG wk2 ⟨8, 80, 3⟩) = wk3 at *
  clear hG3
  generalize hS : gliveL wk1 = sl at *
  clear hS
  generalize wk0 = g0 at *
  generalize wk1 = g1 at *
  generalize wk2 = g2 at *
  go_enter Tryz.func4, Tryz.ntmps4
  go_wp2_with fail
  go_at_call 14
  refine (HNew _).out.mono ?_
  rintro e w1 ⟨rfl, hB1⟩
  have hrw : RowAt (w1.alloc (.cells #[.int .u64 5, .int .u64 50, .int .u8 1, .int .u64 6, .int .u64 60, .int .u8 1, .int .u64 7, .int .u64 70, .int .u8 2] 30)) (.slice (some ⟨w1.heap.size, 0, none⟩) 3 3) 3 3 (slotVals wkS) := rowAt_rows (n := 3) (k := 3) (Rows8.new w1 30 #[.int .u64 5, .int .u64 50, .int .u8 1, .int .u64 6, .int .u64 60, .int .u8 1, .int .u64 7, .int .u64 70, .int .u8 2]) rfl (by unfold maxLen; omega)
  have HB1 := Lib.hid (hB1.alloc hB1.size (.cells #[.int .u64 5, .int .u64 50, .int .u8 1, .int .u64 6, .int .u64 60, .int .u8 1, .int .u64 7, .int .u64 70, .int .u8 2] 30))
  have HRW := Lib.hid hrw
  clear hB1 hrw
  go_wp2_with fail
  refine ((HPuts _ _).out HRW.out).mono ?_
  rintro e w2 ⟨rfl, hB2⟩
  obtain ⟨w3, hst1, hr1, hB3⟩ := Tryz.box_new g1 w2
  have hB3c := HB1.out.trans ((hB2.mono HB1.out.size).trans (hB3.mono (Nat.le_trans HB1.out.size hB2.size)))
  have HB3 := Lib.hid hB3c
  have hld1 := Tryz.load_group hr1
  have HR1 := Lib.hid hr1
  clear hB2 hB3 hB3c hr1
  go_wp2_with (first | (refine wpList_storeW (by rfl) 25 _ _ rfl ⟨w2.heap.size, 0, none⟩ _ rfl rfl hst1 ?_) | (refine wpList_loadW (by rfl) _ _ rfl ⟨w2.heap.size, 0, none⟩ _ rfl hld1 ?_))
  refine (HLo _).out.mono ?_
  rintro e w4 ⟨v4, rfl, hO4, hB4⟩
  rw [HLK.out.1] at hO4
  rw [HLK.out.2]
  obtain ⟨⟨a4, c4, rfl⟩, _⟩ := owns_intsAt hO4
  have hr1 := HR1.out.below hB4 HR1.out.lt
  have hld2 := Tryz.load_group hr1
  have HR4 := Lib.hid hr1
  have HO4 := Lib.hid hO4
  have HB4 := Lib.hid (HB3.out.trans (hB4.mono HB3.out.size))
  clear hB4 hr1 hO4 hst1 hld1
  simp only [List.length_cons, List.length_nil, Nat.reduceAdd]
  go_wp2_with (first | (refine wpList_loadW (by rfl) _ _ rfl ⟨w2.heap.size, 0, none⟩ _ rfl hld2 ?_))
  refine (HFi _).out.mono ?_
  rintro e w5 ⟨rfl, hB5⟩
  have hr1 := HR4.out.below hB5 HR4.out.lt
  have hld3 := Tryz.load_group hr1
  have HO5 := Lib.hid (HO4.out.below hB5 (Nat.le_refl _))
  have HR5 := Lib.hid hr1
  have HB5 := Lib.hid (HB4.out.trans (hB5.mono HB4.out.size))
  clear hB5 hr1 hld2
  go_wp2_with (first | (refine wpList_loadW (by rfl) _ _ rfl ⟨w2.heap.size, 0, none⟩ _ rfl hld3 ?_))
  refine (HFn _).out.mono ?_
  rintro e w6 ⟨rfl, hB6⟩
  have hr1 := HR5.out.below hB6 HR5.out.lt
  have hld4 := Tryz.load_group hr1
  have HO6 := Lib.hid (HO5.out.below hB6 (Nat.le_refl _))
  have HR6 := Lib.hid hr1
  have HB6 := Lib.hid (HB5.out.trans (hB6.mono HB5.out.size))
  clear hB6 hr1 hld3
  go_wp2_with (first | (refine wpList_loadW (by rfl) _ _ rfl ⟨w2.heap.size, 0, none⟩ _ rfl hld4 ?_))
  refine (HDr _).out.mono ?_
  rintro e w7 ⟨rfl, hB7⟩
  obtain ⟨w8, hst2, hr2, hB8⟩ := Tryz.box_new g2 w7
  have hr1 := (HR6.out.below hB7 HR6.out.lt).below hB8 (by have := HR6.out.lt; have := hB7.size; omega)
  have HO8 := Lib.hid ((HO6.out.below hB7 (Nat.le_refl _)).below hB8 (Nat.le_refl _))
  have HB8 := Lib.hid ((HB6.out.trans (hB7.mono HB6.out.size)).trans (hB8.mono (Nat.le_trans HB6.out.size hB7.size)))
  have hld5 := Tryz.load_group hr2
  have HR8 := Lib.hid hr1
  have HD8 := Lib.hid hr2
  clear hB7 hB8 hr1 hr2 hld4
  go_wp2_with (first | (refine wpList_storeW (by rfl) 25 _ _ rfl ⟨w7.heap.size, 0, none⟩ _ rfl rfl hst2 ?_) | (refine wpList_loadW (by rfl) _ _ rfl ⟨w7.heap.size, 0, none⟩ _ rfl hld5 ?_))
  refine (HFr _).out.mono ?_
  rintro e w9 ⟨rfl, hB9⟩
  have hr2 := HD8.out.below hB9 HD8.out.lt
  have hld6 := Tryz.load_group hr2
  have HR9 := Lib.hid (HR8.out.below hB9 HR8.out.lt)
  have HO9 := Lib.hid (HO8.out.below hB9 (Nat.le_refl _))
  have HB9 := Lib.hid (HB8.out.trans (hB9.mono HB8.out.size))
  clear hB9 hr2 hld5 hst2
  go_wp2_with (first | (refine wpList_loadW (by rfl) _ _ rfl ⟨w7.heap.size, 0, none⟩ _ rfl hld6 ?_))
  refine (HPu _).out.mono ?_
  rintro e wa ⟨rfl, hBa⟩
  obtain ⟨wb, hst3, hr3, hBb⟩ := Tryz.box_new wk3 wa
  have hr1 := (HR9.out.below hBa HR9.out.lt).below hBb (by have := HR9.out.lt; have := hBa.size; omega)
  have hO := (HO9.out.below hBa (Nat.le_refl _)).below hBb (Nat.le_refl _)
  have hBc := (HB9.out.trans (hBa.mono HB9.out.size)).trans (hBb.mono (Nat.le_trans HB9.out.size hBa.size))
  have HRb := Lib.hid hr1
  have HOb := Lib.hid hO
  have HBb := Lib.hid hBc
  clear hBa hBb hr1 hr3 hld6 hO hBc
  go_wp2_with (first | (refine wpList_storeW (by rfl) 25 _ _ rfl ⟨wa.heap.size, 0, none⟩ _ rfl rfl hst3 ?_))
  have hAl : Below wb.heap.size wb (wb.alloc (.cells #[.int .i64 0, .int .i64 1] 3)) := (Below.refl _ _).alloc (Nat.le_refl _) _
  have hI2 : IntsAt (wb.alloc (.cells #[.int .i64 0, .int .i64 1] 3)) (.slice (some ⟨wb.heap.size, 0, none⟩) 2 2) [0, 1] := .inr ⟨wb.heap.size, 0, 2, rfl, by simp, fun j hj => by
    have h := (Rows8.new wb 3 #[.int .i64 0, .int .i64 1]).cell j
    rw [Nat.zero_add, h]
    match j, hj with
    | 0, _ => rfl
    | 1, _ => rfl⟩
  have hI1 := (owns_intsAt (HOb.out.below hAl (Nat.le_refl _))).2
  have hEq := Tryz.equalInts_any a4 (some ⟨wb.heap.size, 0, none⟩) 2 c4 2 [0, 1] rfl (by omega) _ hI1 hI2
  have HEq := Lib.hid hEq
  have HRa := Lib.hid (HRb.out.below hAl HRb.out.lt)
  have HBa := Lib.hid (HBb.out.trans (hAl.mono HBb.out.size))
  clear hAl hI2 hI1 hEq hst3
  refine HEq.out.mono ?_
  rintro e wc ⟨rfl, hBd⟩
  have hr1 := HRa.out.below hBd HRa.out.lt
  have hld7 := Tryz.load_group hr1
  have HBd := Lib.hid (HBa.out.trans (hBd.mono HBa.out.size))
  clear hBd hr1
  go_wp2_with (first | (refine wpList_loadW (by rfl) _ _ rfl ⟨w2.heap.size, 0, none⟩ _ rfl hld7 ?_))
  refine (HLi _).out.mono ?_
  rintro e wd ⟨v9, rfl, hO9, _, hBe⟩
  obtain ⟨a9, c9, rfl⟩ : ∃ a c, v9 = .slice a 3 c := by
    obtain ⟨_, a, cap, h, _⟩ := rowAt_own hO9
    rw [HLL.out] at h
    exact ⟨a, cap, h⟩
  have HBe := Lib.hid (HBd.out.trans (hBe.mono HBd.out.size))
  clear hO9 hBe
  go_wp2_with fail
  go_ret
  exact ⟨rfl, HBe.out⟩
end Go.Proofs
