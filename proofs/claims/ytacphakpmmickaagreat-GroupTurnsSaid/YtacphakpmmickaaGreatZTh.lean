/- Group: what the slots of lanes come to: rows of slots, and whether all are alike. -/
import Derived.Test.YtacphakpmmickaaGreatZTe
import Derived.Test.YtacphakpmmickaaGreatZGx
import Derived.Maps.AppendAt
namespace Go.Proofs
set_option maxRecDepth 100000
set_option maxRecDepth 100000
open Go.RowKit Go.Shelf
attribute [local go_sem] Oper.semAt_some

theorem Tryz.infoSlot : (Tryz.prog.info? 30).map (fun i => (i.zero, i.size, i.bytes)) = some (some (.agg #[.int .u64 0, .int .u64 0, .int .u8 0]), 3, 24) := by kernel_rfl
def slotVals (l : List Sl) : List Value := l.flatMap fun s => [.int .u64 (s.key : Nat), .int .u64 (s.val : Nat), .int .u8 (s.h2 : Nat)]
theorem slotVals_snoc (l : List Sl) (s : Sl) : slotVals (l ++ [s]) = slotVals l ++ [.int .u64 (s.key : Nat), .int .u64 (s.val : Nat), .int .u8 (s.h2 : Nat)] := by simp [slotVals]
def OwnsSlots (n₀ : Nat) (l : List Sl) (v : Value) (W : World) : Prop := W.ownsRow n₀ 30 3 v l.length (slotVals l)
theorem ownsRow_below {n₀ h k n : Nat} {e : TypeId} {v : Value} {cs : List Value} {A B : World} (o : A.ownsRow n₀ e k v n cs) (hB : Below h A B) (hh : A.heap.size ≤ h) : B.ownsRow n₀ e k v n cs := by
  refine ⟨o.1, ?_⟩
  rcases o.2 with h | ⟨g, cap, cur, h1, h2, h3, h4⟩
  · exact .inl h
  · exact .inr ⟨g, cap, cur, h1, h2, (hB.block g (by have := (Array.getElem?_eq_some_iff.1 h3).1; omega)).trans h3, h4⟩
set_option maxHeartbeats 4000000 in
theorem Tryz.live1_any (g : Gr) (A n : Nat) (hn : n < 8) (n₀ : Nat) (l : List Sl) (hl : l.length ≤ 100) (v : Value) (w : World) (hA : Rows8 w A 57 (gc g)) (ho : OwnsSlots n₀ l v w) (hn₀ : n₀ ≤ w.heap.size) :
    Calls Tryz.prog 38 #[v, .int .i64 (n : Nat), .pointer (some ⟨A, 0, none⟩)] w fun e w' => ∃ v' w1, e = .returned v' ∧ OwnsSlots n₀ (l ++ [slotG g n]) v' w' ∧ Below w.heap.size w w1 ∧ OwnsSlots n₀ l v w1 ∧ w1.grownBy w' v.ownBlock := by
  obtain ⟨i0, hi, hz0, hz1, hz2⟩ := info_parts Tryz.infoSlot
  have HSg := fun W => Lib.hid (Tryz.slot_any g n hn W)
  go_enter Tryz.func38, Tryz.ntmps38
  have hld := Tryz.load_view hA
  have HO := Lib.hid ho
  clear ho hA
  go_wp2_with (refine wpList_loadV rfl _ _ rfl ⟨A, 0, none⟩ _ rfl hld ?_)
  go_at_call 39
  refine (HSg _).out.mono ?_
  rintro e w1 ⟨rfl, hB1⟩
  have hO1 : OwnsSlots n₀ l v w1 := ownsRow_below HO.out hB1 (Nat.le_refl _)
  have HO1 := Lib.hid hO1
  have HB1 := Lib.hid hB1
  have hzb := hB1.size
  clear hO1 hB1
  generalize hs : slotG g n = s at *
  have HSL := Lib.hid hs
  clear hs
  obtain ⟨s1, s2, s3⟩ := s
  unfold sc
  dsimp only
  have ho2 : OwnsSlots n₀ l v (w1.alloc (.cells #[.int .u64 (s1 : Nat), .int .u64 (s2 : Nat), .int .u8 (s3 : Nat)] 30)) := ownsRow_below HO1.out ((Below.refl _ _).alloc (Nat.le_refl _) _) (Nat.le_refl _)
  have HO2 := Lib.hid ho2
  clear ho2
  go_wp2_with (at_builtin; refine wpList_append_own _ rfl _ _ 28 rfl n₀ 30 i0 (.agg #[.int .u64 0, .int .u64 0, .int .u8 0]) 3 24 Tryz.underlying28 hi hz0 hz1 hz2 rfl (by decide) _ _ _ rfl HO2.out ⟨w1.heap.size, 0, none⟩ 1 1 [.int .u64 (s1 : Nat), .int .u64 (s2 : Nat), .int .u8 (s3 : Nat)] rfl rfl (cells_new w1 _ [.int .u64 (s1 : Nat), .int .u64 (s2 : Nat), .int .u8 (s3 : Nat)]) (by simp [Value.oneCell']) (by unfold maxLen; omega) (by omega) (by simp; omega) ?_; intro v' w3 hown' hgrow _; have HOW := Lib.hid hown'; have HGR := Lib.hid hgrow; clear hown' hgrow)
  go_ret
  refine ⟨v', _, rfl, ?_, HB1.out.trans (((Below.refl _ _).alloc (Nat.le_refl _) _).mono HB1.out.size), HO2.out, HGR.out⟩
  unfold OwnsSlots
  rw [HSL.out, slotVals_snoc, List.length_append]
  exact HOW.out

def sameB (g h : Gr) (l : List (Fin 8)) : Bool := l.all fun (n : Fin 8) => decide (slotG g n = slotG h n)
theorem sameB_snoc (g h : Gr) (l : List (Fin 8)) (n : Fin 8) : sameB g h (l ++ [n]) = (sameB g h l && decide (slotG g n = slotG h n)) := by simp [sameB]
def comeF2 (A : Nat) : Value := .func (.func 38) #[] #[.pointer (some ⟨A, 0, none⟩)]
def slotsOf (g : Gr) (l : List (Fin 8)) : List Sl := l.map fun (n : Fin 8) => slotG g n
theorem slotsOf_snoc (g : Gr) (l : List (Fin 8)) (n : Fin 8) : slotsOf g (l ++ [n]) = slotsOf g l ++ [slotG g n] := by simp [slotsOf]
/-- What lies there at the rounds. -/
structure CL (g : Gr) (A : Nat) (w : World) (l : List Sl) (W : World) : Prop where
  so : ∃ v, Rows8 W w.heap.size 28 #[v] ∧ OwnsSlots w.heap.size l v W ∧ (l = [] → v = .slice none 0 0)
  fn : Rows8 W (w.heap.size + 1) 79 #[comeF2 A]
  va : Rows8 W A 57 (gc g)
  bl : Below w.heap.size w W
theorem CL.below {g : Gr} {A : Nat} {w X Y : World} {l : List Sl} (p : CL g A w l X) (q : Below X.heap.size X Y) : CL g A w l Y :=
  ⟨by obtain ⟨v, h1, h2, h3⟩ := p.so; exact ⟨v, h1.below q h1.lt, ownsRow_below h2 q (Nat.le_refl _), h3⟩, p.fn.below q p.fn.lt, p.va.below q p.va.lt, p.bl.trans (q.mono p.bl.size)⟩
theorem ownsRow_own {n₀ k n : Nat} {e : TypeId} {v : Value} {cs : List Value} {X Y : World} {row : Option Nat} (o : X.ownsRow n₀ e k v n cs) (hg : X.grownBy Y row) (hr : ∀ r, row = some r → ∃ o : Obj, X.heap[r]? = some o ∧ o.isCells = false) : Y.ownsRow n₀ e k v n cs := by
  refine ⟨o.1, ?_⟩
  rcases o.2 with h | ⟨g, cap, cur, h1, h2, h3, h4⟩
  · exact .inl h
  · refine .inr ⟨g, cap, cur, h1, h2, (hg.block g (Array.getElem?_eq_some_iff.1 h3).1 fun e => ?_).trans h3, h4⟩
    obtain ⟨o, ho, hc⟩ := hr g e.symm
    rw [h3] at ho
    cases ho
    cases hc
theorem CL.own {g : Gr} {A H : Nat} {w X Y : World} {l : List Sl} {row : Option Nat} (p : CL g A w l X) (hH : w.heap.size ≤ H) (hg : X.grownBy Y row) (hr : ∀ r, row = some r → H ≤ r ∧ ∃ o : Obj, X.heap[r]? = some o ∧ o.isCells = false) : CL g A w l Y :=
  ⟨by obtain ⟨v, h1, h2, h3⟩ := p.so; exact ⟨v, h1.keep hg (fun r e => (hr r e).2), ownsRow_own h2 hg (fun r e => (hr r e).2), h3⟩, p.fn.keep hg (fun r e => (hr r e).2), p.va.keep hg (fun r e => (hr r e).2), (ownFrom_below (β := Unit) (Nat.le_refl _) hH) () X Y row p.bl hg hr⟩
/-- The types whose blocks are written. -/
def tySl (t : TypeId) : Bool := t == 30 || t == 28
/-- What a row of slots comes to. -/
def SlotsQ (l : List Sl) (w : World) (e : Ending) (w' : World) : Prop := ∃ v, e = .returned v ∧ OwnsSlots w.heap.size l v w' ∧ (l = [] → v = .slice none 0 0) ∧ Below w.heap.size w w'
set_option maxHeartbeats 4000000 in
theorem Tryz.comeL_any (m : Nat) (hm : m < 256) (g : Gr) (A : Nat) (w : World) (hA : Rows8 w A 57 (gc g)) :
    Calls Tryz.prog 36 #[.int .u8 m, .slice none 0 0, comeF2 A] w (SlotsQ (slotsOf g (lanesOf m)) w) := by
  unfold comeF2
  refine (callsIn_wide (n := 9)).1 ?_
  refine callsIn_of_wp_marks Tryz.func36 rfl trivial ?_ rfl
  simp only [Tryz.ntmps36, List.size_toArray, List.length_cons, List.length_nil, Nat.reduceAdd, Nat.reduceSub, Array.replicate_succ, Array.replicate_zero, List.push_toArray, List.append_toArray, List.nil_append, List.cons_append]
  have HIn := fun W => Lib.hid (Tryz.gin_any m hm W)
  have hi0 : CL g A w [] ((w.alloc (.cells #[.slice none 0 0] 28)).alloc (.cells #[comeF2 A] 79)) := by
    have z1 := Rows8.new (w.alloc (.cells #[.slice none 0 0] 28)) 79 #[comeF2 A]
    rw [World.size_alloc] at z1
    exact ⟨⟨_, (Rows8.new w _ _).alloc _, World.ownsRow_nil _ _ _ _, fun _ => rfl⟩, z1, (hA.alloc _).alloc _, ((Below.refl _ w).alloc (Nat.le_refl _) _).alloc (by simp) _⟩
  have hsz : ((w.alloc (.cells #[.slice none 0 0] 28)).alloc (.cells #[comeF2 A] 79)).heap.size = w.heap.size + 2 := by simp
  have hAl := hA.lt
  clear hA
  unfold comeF2 at hi0 hsz
  gi_wp2_with fail
  generalize ((w.alloc (.cells #[.slice none 0 0] 28)).alloc (.cells #[.func (.func 38) #[] #[.pointer (some ⟨A, 0, none⟩)]] 79)) = W0 at *
  refine ⟨trivial, ?_⟩
  gi_at_call 63
  refine (callsIn_wide.2 (HIn _).out).mono ?_
  rintro e w1 ⟨Bs, n, cap, a, rfl, hn, hBs, hsrc, hB1⟩
  have hi1 := hi0.below hB1
  have hB1s := hB1.size
  have HSR := Lib.hid hsrc
  have HI1 := Lib.hid hi1
  have HN := Lib.hid hn
  clear hi0 hi1 hsrc hn hB1
  gi_wp2_with fail
  have HT := Lib.hid (Tryz.values1_tells 8 (by decide) (Kq tySl) W0.heap.size Bs n cap a (lanesOf m) HN (lanes_le m) w1 HSR.out (fun A B hk hs => hs.kq hk (by decide) (by decide)))
  refine range_tellsD rfl (by decide) (gf := 99) (lb := #[.pointer (some ⟨Bs, 0, none⟩)]) rfl trivial (enters_of Tryz.func99 (by kernel_rfl) rfl) HT.out kq_t (kq_b (B := w1.heap.size)) (Below.refl _ _) (fun _ => rfl)
    (fun pre W => CL g A w (slotsOf g pre) W)
    (fun _ _ _ => False)
    (fun s X Y row hs hg hr => hs.own (by omega) hg hr)
    (fun _ _ _ _ _ hs _ _ => hs)
    (fun s X Y hs hXY => hs.below hXY)
    (fun _ _ _ _ hs _ => hs)
    HI1.out
    (fun y a' _ => a' = { tmps := #[.int .u8 m, .slice none 0 0, .func (.func 38) #[] #[.pointer (some ⟨A, 0, none⟩)], undef, .pointer (some ⟨w.heap.size, 0, none⟩), .pointer (some ⟨w.heap.size + 1, 0, none⟩), .slice none 0 0, .int .i64 (y : Nat), .int .u8 m, .func (.func 99) #[] #[.pointer (some ⟨Bs, 0, none⟩)], .int .i64 (y : Nat), undef, undef, undef, undef, undef], defers := [] })
    (fun y a' s X Y row hs hg hr => hs) ?assign ?body ?done ?stop
  case assign =>
    rintro l2 pre y W' K hj hK
    unfold enc1
    gi_wp2
    exact hK _ _ (KeepsFrom.refl _ _) (Kq.refl _ _) hj rfl
  case body =>
    rintro l2 pre y a' W hi rfl hok
    obtain ⟨v, hv, ho, _⟩ := hi.so
    have c0 : W.cell? ⟨w.heap.size, 0, none⟩ = some v := hv.cell 0
    have c1 : W.cell? ⟨w.heap.size + 1, 0, none⟩ = some (comeF2 A) := hi.fn.cell 0
    unfold comeF2 at c1
    have hpl : (slotsOf g pre).length ≤ 100 := by
      have h := hok.length_le
      have h8 := lanes_le m
      rw [List.length_append] at h
      unfold slotsOf
      rw [List.length_map]
      omega
    have hsm := Tryz.live1_any g A y y.isLt w.heap.size (slotsOf g pre) hpl v W hi.va ho hi.bl.size
    rw [← slotsOf_snoc] at hsm
    have HSM := Lib.hid hsm
    have HI := Lib.hid hi
    have HV := Lib.hid hv
    clear hi hok hsm hv ho hpl
    gi_wp2_with fail
    refine ⟨trivial, ?_⟩
    refine (CallsIn.inRound l2 (callsIn_wide.2 HSM.out)).mono ?_
    rintro e W3 ⟨v', W2, rfl, ho3, hB2, ho2, hg3⟩
    have hv2 := HV.out.below hB2 HV.out.lt
    have hv3 := rows_grown ho2 (by decide) hg3 hv2
    have hi2 := HI.out.below hB2
    have d0 : W3.cell? ⟨w.heap.size, 0, none⟩ = some v := hv3.cell 0
    have f0 := hv3.frozen 0
    have hfn := rows_grown ho2 (by decide) hg3 hi2.fn
    have hva := rows_grown ho2 (by decide) hg3 hi2.va
    have hbl : Below w.heap.size w W3 := hi2.bl.grown hg3 hi2.bl.size (fun j ej => (World.ownsRow.lt ho2 j ej).1)
    have hkq : Kq tySl W W3 := Kq.grown (Kq.of_below hB2) (by decide) ho2 hg3
    have hkf : KeepsFrom w1.heap.size W W3 := keepsFrom_trans' (keepsFrom_below hB2) ⟨hg3.size, fun k o hk ho hc => by
      refine (hg3.block k (Array.getElem?_eq_some_iff.1 ho).1 fun e => ?_).trans ho
      rcases ho2.2 with ⟨rfl, _⟩ | ⟨gg, cp, cur, rfl, _, h3, _⟩
      · simp [Value.ownBlock] at e
      · obtain rfl : k = gg := by simpa [Value.ownBlock] using e
        rw [h3] at ho
        cases ho
        cases hc⟩
    obtain ⟨a3, n3, c3, rfl⟩ : ∃ a n c, v' = .slice a n c := by
      obtain ⟨_, a, cap, h, _⟩ := rowAt_own ho3
      exact ⟨a, _, cap, h⟩
    have HV3 := Lib.hid hv3
    have HO3 := Lib.hid ho3
    have HFN := Lib.hid hfn
    have HVA := Lib.hid hva
    have HBL := Lib.hid hbl
    have HKQ := Lib.hid hkq
    have HKF := Lib.hid hkf
    clear hv3 ho3 hfn hva hbl hkq hkf hi2 hv2 hB2 ho2 hg3
    gi_wp2_with fail
    refine ⟨keepsFrom_trans' HKF.out ((KeepsOthers.setCell _ _ _).from _), Kq.set (a := ⟨w.heap.size, 0, none⟩) HKQ.out HV3.out (by decide) _, ?_⟩
    refine ⟨⟨_, HV3.out.set1 _, owns_set HO3.out (a := ⟨w.heap.size, 0, none⟩) HV3.out (by decide) _, fun h => ?_⟩, HFN.out.setOther (by simp) _, HVA.out.setOther (by simp; omega) _, HBL.out.setCell (by simp) _⟩
    simp [slotsOf] at h
  case done =>
    rintro D ys W hD rfl hi hK
    obtain ⟨v, hv, ho, hnil⟩ := hi.so
    have c0 : W.cell? ⟨w.heap.size, 0, none⟩ = some v := hv.cell 0
    have HB := Lib.hid hi.bl
    have HO := Lib.hid ho
    have HN2 := Lib.hid hnil
    clear hi hv ho hnil
    gi_wp2_with fail
    refine ⟨by simp, .inl ⟨_, _, rfl, run_takeDeferred hK, ?_⟩⟩
    exact ⟨_, results_tmp rfl _ _ _, v, rfl, ownsRow_putObj HO.out (.deferred none) hK rfl, HN2.out, HB.out.trans (belowK_b (w := w) (Nat.le_refl _) W D _ _ (by omega) hK rfl rfl)⟩
  case stop =>
    rintro D c pre W _ _ h _
    exact h.elim
end Go.Proofs

/- Group: whether the keys of full slots are apart. -/
namespace Go.Proofs
set_option maxRecDepth 100000
open Go.RowKit Go.Shelf
attribute [local go_sem] Oper.semAt_some

theorem lanesTo_lt (m : Nat) : ∀ k, k ≤ 8 → (lanesTo m k).Pairwise (fun (y x : Fin 8) => (y : Nat) < x)
  | 0, _ => by simp [lanesTo]
  | k + 1, h => by
    have ih := lanesTo_lt m k (by omega)
    cases hb : m.testBit k
    · rw [lanesTo_no hb]; exact ih
    · rw [lanesTo_yes (by omega) hb, List.pairwise_append]
      refine ⟨ih, List.pairwise_singleton _ _, fun y hy x hx => ?_⟩
      rw [List.mem_singleton.1 hx]
      exact ((mem_lanesTo m k y).1 hy).1
theorem lanes_lt (m : Nat) : (lanesOf m).Pairwise (fun (y x : Fin 8) => (y : Nat) < x) := lanesTo_lt m 8 (Nat.le_refl _)
theorem lanes_nodup (m : Nat) : (lanesOf m).Nodup := (lanes_lt m).imp fun h e => by subst e; omega
theorem apart_no {l pre q : List (Fin 8)} {x y : Fin 8} {R : Fin 8 → Fin 8 → Prop} (h1 : pre ++ [x] <+: l) (h2 : q ++ [y] <+: l) (hq : ∀ z ∈ q, z ≠ x) (hy : y ≠ x) (hR : ¬ R y x) : ¬ l.Pairwise R := fun hP => by
  have hpx := hP.sublist h1.sublist
  rw [List.pairwise_append] at hpx
  refine hR (hpx.2.2 y ?_ x (by simp))
  rcases List.prefix_or_prefix_of_prefix h1 h2 with h | h
  · exfalso
    have : x ∈ q ++ [y] := h.subset (by simp)
    rcases List.mem_append.1 this with h | h
    · exact hq x h rfl
    · exact hy (List.mem_singleton.1 h).symm
  · rcases List.prefix_concat_iff.1 h with h | h
    · exact absurd (by simpa using congrArg List.getLast? h : y = x) hy
    · exact h.subset (by simp)
theorem apart_on {l pre q : List (Fin 8)} {x : Fin 8} (hN : l.Nodup) (h1 : pre ++ [x] <+: l) (h2 : q ++ [x] <+: l) : q = pre := by
  have hn1 := hN.sublist h1.sublist
  have hn2 := hN.sublist h2.sublist
  rw [List.nodup_append] at hn1 hn2
  rcases List.prefix_or_prefix_of_prefix h1 h2 with h | h
  · rcases List.prefix_concat_iff.1 h with h | h
    · exact ((List.append_left_inj _).1 h).symm
    · exact absurd rfl (hn2.2.2 x (h.subset (by simp)) x (by simp))
  · rcases List.prefix_concat_iff.1 h with h | h
    · exact (List.append_left_inj _).1 h
    · exact absurd rfl (hn1.2.2 x (h.subset (by simp)) x (by simp))
theorem kx_own {x B : Nat} (W0 : World) : OwnFrom B (fun (_ : Unit) W => Kx x W0 W) := fun _ X Y row hs hg hr => ⟨Nat.le_trans hs.size hg.size, fun k o hk hc hx => by
  have h1 := hs.same k o hk hc hx
  refine (hg.block k (Array.getElem?_eq_some_iff.1 h1).1 fun e => ?_).trans h1
  obtain ⟨_, o', ho, hc'⟩ := hr k e.symm
  rw [h1] at ho
  cases ho
  rw [hc] at hc'
  cases hc'⟩
/-- What lies there at the outer rounds. -/
structure AP (g : Gr) (Bm : Nat) (w W : World) : Prop where
  va : Rows8 W w.heap.size 57 (gc g)
  re : Rows8 W (w.heap.size + 1) 4 #[.bool false]
  ma : Rows8 W Bm 69 #[.int .u8 (fm g : Nat)]
  bl : Below w.heap.size w W
theorem AP.below {g : Gr} {Bm : Nat} {w X Y : World} (p : AP g Bm w X) (q : Below X.heap.size X Y) : AP g Bm w Y :=
  ⟨p.va.below q p.va.lt, p.re.below q p.re.lt, p.ma.below q p.ma.lt, p.bl.trans (q.mono p.bl.size)⟩
theorem AP.own {g : Gr} {Bm H : Nat} {w X Y : World} {row : Option Nat} (p : AP g Bm w X) (hH : w.heap.size ≤ H) (hg : X.grownBy Y row) (hr : ∀ r, row = some r → H ≤ r ∧ ∃ o : Obj, X.heap[r]? = some o ∧ o.isCells = false) : AP g Bm w Y :=
  ⟨p.va.keep hg (fun r e => (hr r e).2), p.re.keep hg (fun r e => (hr r e).2), p.ma.keep hg (fun r e => (hr r e).2), (ownFrom_below (β := Unit) (Nat.le_refl _) hH) () X Y row p.bl hg hr⟩
/-- .. and at the inner ones, of a lane. -/
structure BP (g : Gr) (Bm Bl Bh Ba Bb B : Nat) (x : Fin 8) (w W0 W : World) : Prop where
  ap : AP g Bm w W
  la : Rows8 W Bl 3 #[.int .i64 (x : Nat)]
  ha : Rows8 W Bh 37 #[hasF Ba Bb]
  va : Rows8 W Ba 57 (gc g)
  ke : Rows8 W Bb 22 #[.int .u64 (g.k x : Nat)]
  kf : KeepsFrom B W0 W
  kx : Kx (w.heap.size + 1) W0 W
theorem BP.below {g : Gr} {Bm Bl Bh Ba Bb B : Nat} {x : Fin 8} {w W0 X Y : World} (p : BP g Bm Bl Bh Ba Bb B x w W0 X) (q : Below X.heap.size X Y) : BP g Bm Bl Bh Ba Bb B x w W0 Y :=
  ⟨p.ap.below q, p.la.below q p.la.lt, p.ha.below q p.ha.lt, p.va.below q p.va.lt, p.ke.below q p.ke.lt, keepsFrom_trans' p.kf (keepsFrom_below q), p.kx.trans (Kx.of_below q)⟩
theorem BP.own {g : Gr} {Bm Bl Bh Ba Bb B H : Nat} {x : Fin 8} {w W0 X Y : World} {row : Option Nat} (p : BP g Bm Bl Bh Ba Bb B x w W0 X) (hH : w.heap.size ≤ H) (hW : W0.heap.size ≤ H) (hg : X.grownBy Y row) (hr : ∀ r, row = some r → H ≤ r ∧ ∃ o : Obj, X.heap[r]? = some o ∧ o.isCells = false) : BP g Bm Bl Bh Ba Bb B x w W0 Y :=
  ⟨p.ap.own hH hg hr, p.la.keep hg (fun r e => (hr r e).2), p.ha.keep hg (fun r e => (hr r e).2), p.va.keep hg (fun r e => (hr r e).2), p.ke.keep hg (fun r e => (hr r e).2), (ownFrom_keepsFrom (β := Unit) hW) () X Y row p.kf hg hr, kx_own W0 () X Y row p.kx hg hr⟩
set_option maxHeartbeats 4000000 in
theorem Tryz.apart_any (g : Gr) (w : World) : Calls Tryz.prog 61 #[.agg (gc g)] w fun e w' => e = .returned (.bool (apartB g)) ∧ Below w.heap.size w w' := by
  refine (callsIn_wide (n := 20)).1 ?_
  refine callsIn_of_wp_marks Tryz.func61 rfl trivial ?_ rfl
  simp only [Tryz.ntmps61, List.size_toArray, List.length_cons, List.length_nil, Nat.reduceAdd, Nat.reduceSub, Array.replicate_succ, Array.replicate_zero, List.push_toArray, List.append_toArray, List.nil_append, List.cons_append]
  have HIn := fun W => Lib.hid (Tryz.gin_any (fm g) (fm_lt g) W)
  have HFu := fun W => Lib.hid (Tryz.vfull_any g W)
  have HHa := fun key W => Lib.hid (Tryz.has_any g key W)
  have h0 : Rows8 ((w.alloc (.cells (gc g) 57)).alloc (.cells #[.bool false] 4)) w.heap.size 57 (gc g) := (Rows8.new w _ _).alloc _
  have h1 : Rows8 ((w.alloc (.cells (gc g) 57)).alloc (.cells #[.bool false] 4)) (w.heap.size + 1) 4 #[.bool false] := by
    have z1 := Rows8.new (w.alloc (.cells (gc g) 57)) 4 #[.bool false]
    rw [World.size_alloc] at z1
    exact z1
  have hb : Below w.heap.size w ((w.alloc (.cells (gc g) 57)).alloc (.cells #[.bool false] 4)) := ((Below.refl _ w).alloc (Nat.le_refl _) _).alloc (by simp) _
  gi_wp2_with fail
  generalize ((w.alloc (.cells (gc g) 57)).alloc (.cells #[.bool false] 4)) = W0 at *
  have hld := Tryz.load_view h0
  have H0 := Lib.hid h0
  have H1 := Lib.hid h1
  have HB := Lib.hid hb
  clear h0 h1 hb
  refine wpIn_scope_straight rfl ?_
  gi_wp2_with (refine wpListIn_loadV rfl _ _ rfl ⟨w.heap.size, 0, none⟩ _ rfl hld ?_)
  refine ⟨trivial, ?_⟩
  gi_at_call 37
  refine (callsIn_wide.2 (HFu _).out).mono ?_
  rintro e W1 ⟨rfl, hB1⟩
  have hap : AP g W1.heap.size w (W1.alloc (.cells #[.int .u8 (fm g : Nat)] 69)) := ⟨(H0.out.below hB1 H0.out.lt).alloc _, (H1.out.below hB1 H1.out.lt).alloc _, Rows8.new _ _ _, (HB.out.trans (hB1.mono HB.out.size)).alloc (Nat.le_trans HB.out.size hB1.size) _⟩
  clear hB1
  gi_wp2_with fail
  generalize W1.heap.size = Bm at *
  generalize (W1.alloc (.cells #[.int .u8 (fm g : Nat)] 69)) = W2 at *
  refine wpIn_label ?_
  have cm : W2.cell? ⟨Bm, 0, none⟩ = some (.int .u8 (fm g : Nat)) := hap.ma.cell 0
  have hbl2 := hap.bl.size
  have h1lt := hap.re.lt
  have HAP := Lib.hid hap
  clear hap hld
  gi_wp2_with fail
  refine ⟨trivial, ?_⟩
  gi_at_call 63
  refine (callsIn_wide.2 (HIn _).out).mono ?_
  rintro e w1 ⟨Bs, n, cap, a, rfl, hn, hBs, hsrc, hB3⟩
  have hap1 := HAP.out.below hB3
  have hB1s := hB3.size
  have HSR := Lib.hid hsrc
  have HA1 := Lib.hid hap1
  have HN := Lib.hid hn
  clear hap1 hsrc hn hB3 cm
  gi_wp2_with fail
  have HT := Lib.hid (Tryz.values1_tells 19 (by decide) (Kx (w.heap.size + 1)) W2.heap.size Bs n cap a (fl g) HN (lanes_le _) w1 HSR.out (fun A B hk hs => hs.kx hk (by omega) (by omega)))
  refine range_tellsH rfl (by decide) (gf := 99) (lb := #[.pointer (some ⟨Bs, 0, none⟩)]) rfl trivial (enters_of Tryz.func99 (by kernel_rfl) rfl) HT.out kx_t kx_b (Below.refl _ _) (fun _ => rfl)
    (fun pre W => AP g Bm w W ∧ pre.Pairwise fun (y x : Fin 8) => g.k y ≠ g.k x)
    (fun c _ W => c = .ret ∧ AP g Bm w W ∧ apartB g = false)
    (fun s X Y row hs hg hr => ⟨hs.1.own (by omega) hg hr, hs.2⟩)
    (fun c s X Y row hs hg hr => ⟨hs.1, hs.2.1.own (by omega) hg hr, hs.2.2⟩)
    (fun s X Y hs hXY => ⟨hs.1.below hXY, hs.2⟩)
    (fun c s X Y hs hXY => ⟨hs.1, hs.2.1.below hXY, hs.2.2⟩)
    ⟨HA1.out, List.Pairwise.nil⟩
    (fun y a' W => ∃ Bl, Rows8 W Bl 3 #[.int .i64 (y : Nat)] ∧ a' = { tmps := #[.agg (gc g), .pointer (some ⟨w.heap.size, 0, none⟩), .pointer (some ⟨w.heap.size + 1, 0, none⟩), .pointer (some ⟨Bm, 0, none⟩), .pointer (some ⟨Bl, 0, none⟩), undef, undef, .agg (gc g), .int .u8 (fm g : Nat), .int .u8 (fm g : Nat), .func (.func 99) #[] #[.pointer (some ⟨Bs, 0, none⟩)], .int .i64 (y : Nat), undef, undef, undef, undef, undef, undef, undef, undef, undef, undef, undef, undef, undef, undef, undef, undef, undef, undef], defers := [] })
    (fun y a' s X Y row hs hg hr => by obtain ⟨Bl, h, e⟩ := hs; exact ⟨Bl, h.keep hg (fun r e => (hr r e).2), e⟩) ?assign ?body ?done ?stop
  case assign =>
    rintro l2 pre y W' K ⟨hj, hp⟩ hK
    unfold enc1
    gi_wp2
    have hb : Below W'.heap.size W' (W'.alloc (.cells #[.int .i64 (y : Nat)] 3)) := (Below.refl _ _).alloc (Nat.le_refl _) _
    exact hK _ _ (keepsFrom_below hb) (Kx.of_below hb) ⟨hj.below hb, hp⟩ ⟨W'.heap.size, Rows8.new _ _ _, rfl⟩
  case body =>
    rintro l2 pre y a' W hl2 hrec ⟨hap, hpw⟩ ⟨Bl, hla, rfl⟩ hok
    have hlt := hap.va.lt
    have hrl := hap.re.lt
    have hll := hla.lt
    have hyl : ¬ (8 : Int) ≤ ((y : Nat) : Int) := by have := y.isLt; omega
    have HS : Hid (∀ W' : World, Below W.heap.size W W' → W'.cell? ⟨Bl, 0, none⟩ = some (.int .i64 (y : Nat)) ∧ W'.cell? ⟨w.heap.size, 1 + (y : Nat), none⟩ = some (.int .u64 (g.k y : Nat)) ∧ Rows8 W' w.heap.size 57 (gc g)) := Lib.hid fun W' b =>
      ⟨(hla.below b hll).cell 0, ((hap.va.below b hlt).cell _).trans (gc_k g y y.isLt), hap.va.below b hlt⟩
    have HAPW := Lib.hid hap
    have HLA := Lib.hid hla
    have HPW := Lib.hid hpw
    have HOK := Lib.hid hok
    clear hap hla hpw hok
    gi_wp2_with fail
    refine wpIn_mono (Q := fun e a' W' => e = .normal ∧ ∃ Bh Ba Bb, Rows8 W' Bh 37 #[hasF Ba Bb] ∧ Rows8 W' Ba 57 (gc g) ∧ Rows8 W' Bb 22 #[.int .u64 (g.k y : Nat)] ∧ Below W.heap.size W W' ∧ a' = { tmps := #[.agg (gc g), .pointer (some ⟨w.heap.size, 0, none⟩), .pointer (some ⟨w.heap.size + 1, 0, none⟩), .pointer (some ⟨Bm, 0, none⟩), .pointer (some ⟨Bl, 0, none⟩), .pointer (some ⟨Bh, 0, none⟩), undef, .agg (gc g), .int .u8 (fm g : Nat), .int .u8 (fm g : Nat), .func (.func 99) #[] #[.pointer (some ⟨Bs, 0, none⟩)], .int .i64 (y : Nat), .agg (gc g), .int .i64 (y : Nat), .pointer (some ⟨w.heap.size, 0, none⟩), .pointer (some ⟨w.heap.size, 1, none⟩), .pointer (some ⟨w.heap.size, 1 + (y : Nat), none⟩), .int .u64 (g.k y : Nat), hasF Ba Bb, undef, undef, undef, undef, undef, undef, undef, undef, undef, undef, undef], defers := [] }) ?_ ?_
    · refine wpIn_region_X (free2_round l2) (fun W' => W'.cell? ⟨Bl, 0, none⟩ = some (.int .i64 (y : Nat)) ∧ W'.cell? ⟨w.heap.size, 1 + (y : Nat), none⟩ = some (.int .u64 (g.k y : Nat)) ∧ Rows8 W' w.heap.size 57 (gc g)) 9 (by rintro ⟨_, _, h, _⟩; cases h) (by kernel_rfl) (by kernel_rfl) ?_
      have hB0 : Below W.heap.size W W.drew := (Below.refl _ _).drew
      have hS0 := HS.out W.drew hB0
      generalize W.drew = Wd at *
      refine wpAnyN_take (i := 0) (oi := { dst := some 12, op := Go.Op.load 57 (Go.Operand.tmp 1), type := 57, pos := "view.go:37", after := #[], guard := none }) (v := .agg (gc g)) rfl (by decide) (by kernel_rfl) (by kernel_rfl) (by kernel_rfl) (fun _ _ _ h => nomatch h.1) (Or.inl ⟨by rfl, ?_⟩) hS0 ?_
      · intro W9 hS9
        obtain ⟨q0, q1, q2⟩ := hS9
        exact exec_load 57 _ rfl ⟨w.heap.size, 0, none⟩ _ (by simp [go_sem]) (Tryz.load_view q2)
      try simp only [Act.put, List.setIfInBounds_toArray, List.set_cons_zero, List.set_cons_succ]
      refine wpAnyN_take (i := 1) (oi := { dst := some 13, op := Go.Op.load 3 (Go.Operand.tmp 4), type := 3, pos := "view.go:37", after := #[], guard := none }) (v := .int .i64 (y : Nat)) rfl (by decide) (by kernel_rfl) (by kernel_rfl) (by kernel_rfl) (fun _ _ _ h => nomatch h.1) (Or.inl ⟨by rfl, ?_⟩) hS0 ?_
      · intro W9 hS9
        obtain ⟨q0, q1, q2⟩ := hS9
        go_simp
      try simp only [Act.put, List.setIfInBounds_toArray, List.set_cons_zero, List.set_cons_succ]
      refine wpAnyN_take (i := 2) (oi := { dst := some 14, op := Go.Op.fieldAddr 57 (Go.Operand.tmp 1) 0, type := 0, pos := "view.go:37", after := #[], guard := none }) (v := .pointer (some ⟨w.heap.size, 0, none⟩)) rfl (by decide) (by kernel_rfl) (by kernel_rfl) (by kernel_rfl) (fun _ _ _ h => nomatch h.1) (Or.inl ⟨by rfl, ?_⟩) hS0 ?_
      · intro W9 hS9
        obtain ⟨q0, q1, q2⟩ := hS9
        go_simp
      try simp only [Act.put, List.setIfInBounds_toArray, List.set_cons_zero, List.set_cons_succ]
      refine wpAnyN_take (i := 3) (oi := { dst := some 15, op := Go.Op.fieldAddr 25 (Go.Operand.tmp 14) 1, type := 0, pos := "view.go:37", after := #[{ on := 2, ground := Go.Ground.data }], guard := none }) (v := .pointer (some ⟨w.heap.size, 1, none⟩)) rfl (by decide) (by kernel_rfl) (by kernel_rfl) (by kernel_rfl) (fun _ _ _ h => nomatch h.1) (Or.inl ⟨by rfl, ?_⟩) hS0 ?_
      · intro W9 hS9
        obtain ⟨q0, q1, q2⟩ := hS9
        go_simp
      try simp only [Act.put, List.setIfInBounds_toArray, List.set_cons_zero, List.set_cons_succ]
      refine wpAnyN_take (i := 4) (oi := { dst := some 16, op := Go.Op.indexAddr 23 (Go.Operand.tmp 15) (Go.Operand.tmp 13), type := 0, pos := "view.go:37", after := #[{ on := 3, ground := Go.Ground.data }, { on := 1, ground := Go.Ground.data }], guard := none }) (v := .pointer (some ⟨w.heap.size, 1 + (y : Nat), none⟩)) rfl (by decide) (by kernel_rfl) (by kernel_rfl) (by kernel_rfl) (fun _ _ _ h => nomatch h.1) (Or.inl ⟨by rfl, ?_⟩) hS0 ?_
      · intro W9 hS9
        obtain ⟨q0, q1, q2⟩ := hS9
        go_simp
      try simp only [Act.put, List.setIfInBounds_toArray, List.set_cons_zero, List.set_cons_succ]
      refine wpAnyN_take (i := 5) (oi := { dst := some 17, op := Go.Op.load 22 (Go.Operand.tmp 16), type := 22, pos := "view.go:37", after := #[{ on := 4, ground := Go.Ground.data }], guard := none }) (v := .int .u64 (g.k y : Nat)) rfl (by decide) (by kernel_rfl) (by kernel_rfl) (by kernel_rfl) (fun _ _ _ h => nomatch h.1) (Or.inl ⟨by rfl, ?_⟩) hS0 ?_
      · intro W9 hS9
        obtain ⟨q0, q1, q2⟩ := hS9
        go_simp
      try simp only [Act.put, List.setIfInBounds_toArray, List.set_cons_zero, List.set_cons_succ]
      refine wpAnyX_two (i := 6) (j := 7) (oi := { dst := some 18, op := Go.Op.call { callee := Go.Callee.value (Go.Operand.func 49), args := #[Go.Operand.tmp 12, Go.Operand.tmp 17], argTypes := #[57, 22] }, type := 37, pos := "view.go:37", after := #[{ on := 0, ground := Go.Ground.data }, { on := 5, ground := Go.Ground.data }], guard := none }) (oj := { dst := some 5, op := Go.Op.alloc 37, type := 0, pos := "view.go:37", after := #[], guard := none }) (by kernel_rfl) rfl rfl (fun K hK => ?_) (fun K hK => ?_)
      · refine step_call_g (by rfl) 49 _ _ rfl (fun _ _ => by kernel_rfl) #[.agg (gc g), .int .u64 (g.k y : Nat)] (by simp [go_sem]) _ (HHa (g.k y) Wd).out ?_
        rintro e W3 ⟨rfl, hC1, hr1a, hr1b⟩
        refine ⟨_, rfl, ?_⟩
        have hB1 := hB0.trans (hC1.mono hB0.size)
        have hS1 := HS.out W3 hB1
        refine hK.out _ _ (fun _ => hS1) ?_
        clear hK K
        try simp only [Act.put, List.setIfInBounds_toArray, List.set_cons_zero, List.set_cons_succ]
        have hz0 := hB0.size
        have hz3 := hC1.size
        have hl3 := hr1b.lt
        refine wpAnyX_one (i := 7) (o := { dst := some 5, op := Go.Op.alloc 37, type := 0, pos := "view.go:37", after := #[], guard := none }) (by kernel_rfl) rfl (fun K hK => ?_)
        refine step_value_g (by rfl) (.pointer (some ⟨(W3).heap.size, 0, none⟩)) (w' := (W3).alloc (.cells #[.nilFunc] 37)) (by go_simp) ?_
        have hB2 := hB1.alloc hB1.size (.cells #[.nilFunc] 37)
        have hS2 := HS.out _ hB2
        refine hK.out _ _ (fun _ => hS2) ?_
        clear hK K
        try simp only [Act.put, List.setIfInBounds_toArray, List.set_cons_zero, List.set_cons_succ]
        have ro := Rows8.new W3 37 #[.nilFunc]
        have ra := hr1a.alloc (.cells #[.nilFunc] 37)
        have rb := hr1b.alloc (.cells #[.nilFunc] 37)
        refine wpAnyX_one (i := 8) (o := { dst := none, op := Go.Op.store 37 (Go.Operand.tmp 5) (Go.Operand.tmp 18), type := 0, pos := "view.go:37", after := #[{ on := 7, ground := Go.Ground.data }, { on := 6, ground := Go.Ground.data }, { on := 6, ground := Go.Ground.chain }, { on := 0, ground := Go.Ground.phase }, { on := 1, ground := Go.Ground.phase }, { on := 2, ground := Go.Ground.phase }, { on := 3, ground := Go.Ground.phase }, { on := 4, ground := Go.Ground.phase }, { on := 5, ground := Go.Ground.phase }, { on := 6, ground := Go.Ground.phase }, { on := 7, ground := Go.Ground.phase }], guard := none }) (by kernel_rfl) rfl (fun K hK => ?_)
        refine step_store_g (by rfl) 37 _ _ rfl ⟨W3.heap.size, 0, none⟩ (hasF Wd.heap.size (Wd.heap.size + 1)) (by simp [go_sem]) (by simp [go_sem, hasF]) (run_storeVar_row (P := Tryz.prog) (W3.alloc (.cells #[.nilFunc] 37)) W3.heap.size 37 37 _ #[hasF Wd.heap.size (Wd.heap.size + 1)] ro (by kernel_rfl) rfl (by simp [Value.oneCell', hasF])) ?_
        have hB9 := below_setRow hB2 (show W.heap.size ≤ W3.heap.size by omega) #[hasF Wd.heap.size (Wd.heap.size + 1)]
        have hS9 := HS.out _ hB9
        refine hK.out _ _ (fun _ => hS9) ?_
        clear hK K
        try simp only [Act.put, List.setIfInBounds_toArray, List.set_cons_zero, List.set_cons_succ]
        refine wpAnyX_end (by kernel_rfl) ?_
        exact ⟨rfl, W3.heap.size, Wd.heap.size, (Wd.heap.size + 1), setRow_heap _ _ _ _ _ _ ro, (setRow_other _ _ _ _ (by omega)).trans ra, (setRow_other _ _ _ _ (by omega)).trans rb, hB9, rfl⟩
      · refine step_value_g (by rfl) (.pointer (some ⟨(Wd).heap.size, 0, none⟩)) (w' := (Wd).alloc (.cells #[.nilFunc] 37)) (by go_simp) ?_
        have hB1 := hB0.alloc hB0.size (.cells #[.nilFunc] 37)
        have hS1 := HS.out _ hB1
        refine hK.out _ _ (fun _ => hS1) ?_
        clear hK K
        try simp only [Act.put, List.setIfInBounds_toArray, List.set_cons_zero, List.set_cons_succ]
        have ro := Rows8.new Wd 37 #[.nilFunc]
        have hz4 : (Wd.alloc (.cells #[.nilFunc] 37)).heap.size = Wd.heap.size + 1 := by simp
        generalize (Wd.alloc (.cells #[.nilFunc] 37)) = W3 at *
        have hz0 := hB0.size
        refine wpAnyX_one (i := 6) (o := { dst := some 18, op := Go.Op.call { callee := Go.Callee.value (Go.Operand.func 49), args := #[Go.Operand.tmp 12, Go.Operand.tmp 17], argTypes := #[57, 22] }, type := 37, pos := "view.go:37", after := #[{ on := 0, ground := Go.Ground.data }, { on := 5, ground := Go.Ground.data }], guard := none }) (by kernel_rfl) rfl (fun K hK => ?_)
        refine step_call_g (by rfl) 49 _ _ rfl (fun _ _ => by kernel_rfl) #[.agg (gc g), .int .u64 (g.k y : Nat)] (by simp [go_sem]) _ (HHa (g.k y) W3).out ?_
        rintro e W4 ⟨rfl, hC2, hr2a, hr2b⟩
        refine ⟨_, rfl, ?_⟩
        have hB2 := hB1.trans (hC2.mono hB1.size)
        have hS2 := HS.out W4 hB2
        refine hK.out _ _ (fun _ => hS2) ?_
        clear hK K
        try simp only [Act.put, List.setIfInBounds_toArray, List.set_cons_zero, List.set_cons_succ]
        have ro2 := ro.below hC2 ro.lt
        refine wpAnyX_one (i := 8) (o := { dst := none, op := Go.Op.store 37 (Go.Operand.tmp 5) (Go.Operand.tmp 18), type := 0, pos := "view.go:37", after := #[{ on := 7, ground := Go.Ground.data }, { on := 6, ground := Go.Ground.data }, { on := 6, ground := Go.Ground.chain }, { on := 0, ground := Go.Ground.phase }, { on := 1, ground := Go.Ground.phase }, { on := 2, ground := Go.Ground.phase }, { on := 3, ground := Go.Ground.phase }, { on := 4, ground := Go.Ground.phase }, { on := 5, ground := Go.Ground.phase }, { on := 6, ground := Go.Ground.phase }, { on := 7, ground := Go.Ground.phase }], guard := none }) (by kernel_rfl) rfl (fun K hK => ?_)
        refine step_store_g (by rfl) 37 _ _ rfl ⟨Wd.heap.size, 0, none⟩ (hasF W3.heap.size (W3.heap.size + 1)) (by simp [go_sem]) (by simp [go_sem, hasF]) (run_storeVar_row (P := Tryz.prog) W4 Wd.heap.size 37 37 _ #[hasF W3.heap.size (W3.heap.size + 1)] ro2 (by kernel_rfl) rfl (by simp [Value.oneCell', hasF])) ?_
        have hB9 := below_setRow hB2 (show W.heap.size ≤ Wd.heap.size by omega) #[hasF W3.heap.size (W3.heap.size + 1)]
        have hS9 := HS.out _ hB9
        refine hK.out _ _ (fun _ => hS9) ?_
        clear hK K
        try simp only [Act.put, List.setIfInBounds_toArray, List.set_cons_zero, List.set_cons_succ]
        refine wpAnyX_end (by kernel_rfl) ?_
        exact ⟨rfl, Wd.heap.size, W3.heap.size, (W3.heap.size + 1), setRow_heap _ _ _ _ _ _ ro2, (setRow_other _ _ _ _ (by omega)).trans hr2a, (setRow_other _ _ _ _ (by omega)).trans hr2b, hB9, rfl⟩
    · rintro e a' W3 ⟨rfl, Bh, Ba, Bb, hh, hva, hke, hB3, rfl⟩
      have hap3 := HAPW.out.below hB3
      have hla3 := HLA.out.below hB3 HLA.out.lt
      have hkf3 : KeepsFrom w1.heap.size W W3 := keepsFrom_below hB3
      have cm : W3.cell? ⟨Bm, 0, none⟩ = some (.int .u8 (fm g : Nat)) := hap3.ma.cell 0
      obtain ⟨r0, hr0⟩ := hrec
      have hr3 : W3.heap[l2]? = some (.loop r0) := (hB3.block l2 (Array.getElem?_eq_some_iff.1 hr0).1).trans hr0
      have hbp : BP g Bm Bl Bh Ba Bb w1.heap.size y w W W3 := ⟨hap3, hla3, hh, hva, hke, hkf3, Kx.of_below hB3⟩
      have hz3 := hB3.size
      have HBP := Lib.hid hbp
      have HR3 := Lib.hid hr3
      clear hap3 hla3 hkf3 hr0 hr3 hbp hh hva hke hB3
      unfold hasF
      gi_wp2_with fail
      refine ⟨trivial, ?_⟩
      gi_at_call 63
      refine (CallsIn.inRound l2 (callsIn_wide.2 (HIn _).out)).mono ?_
      rintro e w4 ⟨Bs2, n2, cap2, a2, rfl, hn2, hBs2, hsrc2, hB4⟩
      have hbp4 := HBP.out.below hB4
      have hr4 : w4.heap[l2]? = some (.loop r0) := (hB4.block l2 (Array.getElem?_eq_some_iff.1 HR3.out).1).trans HR3.out
      have hB4s := hB4.size
      have HSR2 := Lib.hid hsrc2
      have HBP4 := Lib.hid hbp4
      have HR4 := Lib.hid hr4
      have HN2 := Lib.hid hn2
      clear hbp4 hr4 hsrc2 hn2 hB4 cm
      gi_wp2_with fail
      have HT2 := Lib.hid (Tryz.values1_tells 17 (by decide) (Kx (w.heap.size + 1)) W3.heap.size Bs2 n2 cap2 a2 (fl g) HN2 (lanes_le _) w4 HSR2.out (fun A B hk hs => hs.kx hk (by omega) (by omega)))
      refine range_tellsN (l₀ := l2) (r₀ := r0) rfl HR4.out (by decide) (gf := 99) (lb := #[.pointer (some ⟨Bs2, 0, none⟩)]) rfl trivial (enters_of Tryz.func99 (by kernel_rfl) rfl) HT2.out kx_t kx_b (Below.refl _ _) (fun _ => rfl)
        (fun q W' => BP g Bm Bl Bh Ba Bb w1.heap.size y w W W' ∧ (∀ z ∈ q, z ≠ y) ∧ ∀ z ∈ q, g.k (z : Fin 8) ≠ g.k y)
        (fun c q W' => (c = .exit 1 ∧ BP g Bm Bl Bh Ba Bb w1.heap.size y w W W' ∧ ∃ q', q = q' ++ [y] ∧ ∀ z ∈ q', g.k (z : Fin 8) ≠ g.k y) ∨ (c = .ret ∧ KeepsFrom w1.heap.size W W' ∧ AP g Bm w W' ∧ apartB g = false))
        (fun s X Y row hs hg hr => ⟨hs.1.own (by omega) (by omega) hg hr, hs.2⟩)
        (fun c s X Y row hs hg hr => hs.elim (fun h => .inl ⟨h.1, h.2.1.own (by omega) (by omega) hg hr, h.2.2⟩) (fun h => .inr ⟨h.1, (ownFrom_keepsFrom (β := Unit) (by omega)) () X Y row h.2.1 hg hr, h.2.2.1.own (by omega) hg hr, h.2.2.2⟩))
        (fun s X Y hs hXY => ⟨hs.1.below hXY, hs.2⟩)
        (fun c s X Y hs hXY => hs.elim (fun h => .inl ⟨h.1, h.2.1.below hXY, h.2.2⟩) (fun h => .inr ⟨h.1, keepsFrom_trans' h.2.1 (keepsFrom_below hXY), h.2.2.1.below hXY, h.2.2.2⟩))
        ⟨HBP4.out, by simp, by simp⟩
        (fun z a' _ => a' = { tmps := #[.agg (gc g), .pointer (some ⟨w.heap.size, 0, none⟩), .pointer (some ⟨w.heap.size + 1, 0, none⟩), .pointer (some ⟨Bm, 0, none⟩), .pointer (some ⟨Bl, 0, none⟩), .pointer (some ⟨Bh, 0, none⟩), .int .i64 (z : Nat), .agg (gc g), .int .u8 (fm g : Nat), .int .u8 (fm g : Nat), .func (.func 99) #[] #[.pointer (some ⟨Bs, 0, none⟩)], .int .i64 (y : Nat), .agg (gc g), .int .i64 (y : Nat), .pointer (some ⟨w.heap.size, 0, none⟩), .pointer (some ⟨w.heap.size, 1, none⟩), .pointer (some ⟨w.heap.size, 1 + (y : Nat), none⟩), .int .u64 (g.k y : Nat), .func (.func 71) #[] #[.pointer (some ⟨Ba, 0, none⟩), .pointer (some ⟨Bb, 0, none⟩)], .int .u8 (fm g : Nat), .func (.func 99) #[] #[.pointer (some ⟨Bs2, 0, none⟩)], .int .i64 (z : Nat), undef, undef, undef, undef, undef, undef, undef, undef], defers := [] })
        (fun y a' s X Y row hs hg hr => hs) ?assign2 ?body2 ?done2 ?stop2
      case assign2 =>
        rintro l3 q z W' K hj hK
        unfold enc1
        gi_wp2
        exact hK _ _ (KeepsFrom.refl _ _) (Kx.refl _ _) hj rfl
      case body2 =>
        rintro l3 q z a' W' ⟨hb, hq1, hq2⟩ rfl hok2
        have d0 : W'.cell? ⟨Bl, 0, none⟩ = some (.int .i64 (y : Nat)) := hb.la.cell 0
        have d1 : W'.cell? ⟨Bh, 0, none⟩ = some (hasF Ba Bb) := hb.ha.cell 0
        have d2 : W'.cell? ⟨w.heap.size + 1, 0, none⟩ = some (.bool false) := hb.ap.re.cell 0
        have e2 := hb.ap.re.frozen 0
        unfold hasF at d1
        have hso := Tryz.has1_says g (g.k y) Ba Bb W' hb.va hb.ke z W' (Below.refl _ _)
        have HSO := Lib.hid hso
        have HB2 := Lib.hid hb
        have HQ1 := Lib.hid hq1
        have HQ2 := Lib.hid hq2
        have HOK2 := Lib.hid hok2
        clear hso hb hq1 hq2 hok2
        by_cases hzy : z = y
        · subst hzy
          gi_wp2_with fail
          exact ⟨KeepsFrom.refl _ _, .inl ⟨rfl, HB2.out, q, rfl, HQ2.out⟩⟩
        · have hne : (((z : Nat) : Int) == ((y : Nat) : Int)) = false := by
            rw [natEq_walk]
            simp only [beq_eq_false_iff_ne, ne_eq]
            exact fun h => hzy (Fin.ext h)
          gi_wp2_with fail
          refine ⟨trivial, ?_⟩
          refine (CallsIn.inRound l3 (CallsIn.inRound l2 (callsIn_wide.2 HSO.out))).mono ?_
          rintro e w5 ⟨rfl, q5, rfl⟩
          have hb5 := HB2.out.below (below_drewN (Below.refl _ _) q5)
          have f2 := hb5.ap.re.frozen 0
          have g2 : (W'.drewN q5).cell? ⟨w.heap.size + 1, 0, none⟩ = some (.bool false) := hb5.ap.re.cell 0
          have HB5 := Lib.hid hb5
          clear hb5
          cases hkk : (g.k z == g.k y)
          · have HKK := Lib.hid hkk
            clear hkk
            gi_wp2_with fail
            refine ⟨(KeepsOthers.drewN' _ _).from _, Kx.of_below (below_drewN (Below.refl _ _) q5), HB5.out, ?_, ?_⟩
            · intro u hu
              rcases List.mem_append.1 hu with h | h
              · exact HQ1.out u h
              · rw [List.mem_singleton.1 h]; exact hzy
            · intro u hu
              rcases List.mem_append.1 hu with h | h
              · exact HQ2.out u h
              · rw [List.mem_singleton.1 h]; simpa using HKK.out
          · have HKK := Lib.hid hkk
            clear hkk
            gi_wp2_with fail
            have hst := (KeepsOthers.drewN' W' q5).trans (KeepsOthers.setCell (W'.drewN q5) ⟨w.heap.size + 1, 0, none⟩ (.bool false))
            refine ⟨hst.from _, .inr ⟨rfl, keepsFrom_trans' HB2.out.kf (hst.from _), ?_, ?_⟩⟩
            · have hA := HB5.out.ap
              have hm : Bm ≠ w.heap.size + 1 := fun e => by
                have h1 := hA.ma
                have h2 := hA.re
                rw [e] at h1
                unfold Rows8 at h1 h2
                rw [h1] at h2
                cases h2
              exact ⟨hA.va.setOther (by simp) _, hA.re.set1 _, hA.ma.setOther (fun e => hm e.symm) _, hA.bl.setCell (by simp) _⟩
            · exact decide_eq_false (apart_no HOK.out HOK2.out HQ1.out hzy (fun h => h (by simpa using HKK.out)))
      case done2 =>
        rintro ys W' rfl ⟨hb, hq1, hq2⟩
        exact absurd rfl (hq1 y (HOK.out.subset (by simp)))
      case stop2 =>
        rintro c q W' hpre hx
        rcases hx with ⟨rfl, hb, q', rfl, hq2⟩ | ⟨rfl, hkf, hap, hno⟩
        · have hqp : q' = pre := apart_on (lanes_nodup _) HOK.out hpre
          subst hqp
          have HB2 := Lib.hid hb
          have HQ2 := Lib.hid hq2
          clear hb hq2 hpre
          gi_wp2_with fail
          refine ⟨HB2.out.kf, HB2.out.kx, HB2.out.ap, ?_⟩
          rw [List.pairwise_append]
          refine ⟨HPW.out, List.pairwise_singleton _ _, fun z hz x hx => ?_⟩
          rw [List.mem_singleton.1 hx]
          exact HQ2.out z hz
        · have HK2 := Lib.hid hkf
          have HA2 := Lib.hid hap
          have HN3 := Lib.hid hno
          clear hkf hap hno hpre
          gi_wp2_with fail
          exact ⟨HK2.out, rfl, HA2.out, HN3.out⟩
  case done =>
    rintro D ys W hD rfl ⟨hap, hpw⟩ hK
    have c1 : W.cell? ⟨w.heap.size + 1, 0, none⟩ = some (.bool false) := hap.re.cell 0
    have f1 := hap.re.frozen 0
    have HP := Lib.hid (show apartB g = true from decide_eq_true hpw)
    have HR := Lib.hid (hap.re.set1 (.bool true))
    have HBB := Lib.hid (hap.bl.setCell (p := ⟨w.heap.size + 1, 0, none⟩) (by simp) (.bool true))
    have HK := Lib.hid ((KeepsOthers.setCell W ⟨w.heap.size + 1, 0, none⟩ (.bool true)).same D _ hK rfl)
    clear hap hpw hK
    gi_wp2_with fail
    refine ⟨by simp, .inl ⟨_, _, rfl, run_takeDeferred HK.out, ?_⟩⟩
    refine ⟨_, results_cell1 rfl _ _ (w.heap.size + 1) _ rfl (load_one (rows_put HR.out HK.out) (by kernel_rfl)), by rw [HP.out], HBB.out.trans (belowK_b (w := w) (Nat.le_refl _) _ D _ _ (by omega) HK.out rfl rfl)⟩
  case stop =>
    rintro D c pre W hD _ ⟨rfl, hap, hno⟩ hK
    have HA := Lib.hid hap
    have HNo := Lib.hid hno
    clear hap hno
    gi_wp2_with fail
    refine ⟨by simp, .inl ⟨_, _, rfl, run_takeDeferred hK, ?_⟩⟩
    refine ⟨_, results_cell1 rfl _ _ (w.heap.size + 1) _ rfl (load_one (rows_put HA.out.re hK) (by kernel_rfl)), by rw [HNo.out], HA.out.bl.trans (belowK_b (w := w) (Nat.le_refl _) _ D _ _ (by omega) hK rfl rfl)⟩
end Go.Proofs

/- Group: Check, New, Looks, Free, find, Find. -/
namespace Go.Proofs
set_option maxRecDepth 100000
set_option maxRecDepth 100000
open Go.RowKit Go.Shelf
attribute [local go_sem] Oper.semAt_some

theorem wpList_loadW {P : Program} {ops : Array Oper} {rest : List Oper} {o : Oper} {a : Act} {w : World} {Q : Exit → Act → World → Prop} (hw : Region.wanted o (yielded ops a.tmps) = true) (ty : TypeId) (x : Operand) (ho : o.op = .load ty x)
    (p : Addr) (v : Value) (hx : a.eval x = .pointer (some p)) (hl : (loadVar ty p).run P w = .ok v w) (h : wpList P ops Q rest (a.put o.dst v) w) : wpList P ops Q (o :: rest) a w := by
  unfold wpList
  rw [if_pos hw]
  refine .inl ?_
  unfold Oper.wp
  simp only [execOp, ho, hx, Instr.loadAt, Instr.sureAddr, Sem.run_bind, Sem.run_pure, Result.andThen_ok, hl]
  exact h
set_option maxHeartbeats 4000000 in
theorem Tryz.vmayBe_any (g : Gr) (w : World) : Calls Tryz.prog 34 #[.agg (gc g)] w fun e w' => e = .returned (.bool (rightG g)) ∧ Below w.heap.size w w' := by
  have HC := fun W => Lib.hid (Tryz.Check_any g.c W)
  have HA := fun W => Lib.hid (Tryz.apart_any g W)
  have h0 := Rows8.new w 57 (gc g)
  have hb : Below w.heap.size w (w.alloc (.cells (gc g) 57)) := (Below.refl _ w).alloc (Nat.le_refl _) _
  have hcc : (w.alloc (.cells (gc g) 57)).cell? ⟨w.heap.size, 0, none⟩ = some (.int .u64 (g.c : Nat)) := (h0.cell 0).trans (gc_0 g)
  unfold rightG
  cases hr : rightC g.c
  · have HR := Lib.hid hr
    clear hr
    go_enter Tryz.func34, Tryz.ntmps34
    go_wp2_with (go_at_call 54; refine (HC _).out.mono ?_; rw [HR.out]; rintro e w1 ⟨rfl, hB1⟩; have HB1 := Lib.hid (hb.trans (hB1.mono hb.size)); clear hB1)
    go_ret
    exact ⟨rfl, HB1.out⟩
  · have HR := Lib.hid hr
    clear hr
    go_enter Tryz.func34, Tryz.ntmps34
    go_wp2_with (first | (refine wpList_loadW (by rfl) _ _ rfl ⟨w.heap.size, 0, none⟩ _ rfl hld ?_) | (go_at_call 54; refine (HC _).out.mono ?_; rw [HR.out]; rintro e w1 ⟨rfl, hB1⟩; have hld := Tryz.load_view (h0.below hB1 h0.lt); have HB1 := Lib.hid (hb.trans (hB1.mono hb.size)); clear hB1) | (go_at_call 61; refine (HA _).out.mono ?_; rintro e w2 ⟨rfl, hB2⟩; have HB2 := Lib.hid (HB1.out.trans (hB2.mono HB1.out.size)); clear hB2))
    go_ret
    exact ⟨by simp, HB2.out⟩
theorem fold_gc (g : Gr) : Array.foldl (fun (cs : Array Value) (x : Value × Nat) => cs.setIfInBounds x.snd x.fst) #[.int .u64 0, .int .u64 0, .int .u64 0, .int .u64 0, .int .u64 0, .int .u64 0, .int .u64 0, .int .u64 0, .int .u64 0, .int .u64 0, .int .u64 0, .int .u64 0, .int .u64 0, .int .u64 0, .int .u64 0, .int .u64 0, .int .u64 0] (gc g).zipIdx 0 17 = gc g := by unfold gc; kernel_rfl
set_option maxHeartbeats 4000000 in
theorem Tryz.gCheck_any (g : Gr) (w : World) : Calls Tryz.prog 30 #[.agg (gc g)] w fun e w' => e = .returned (.int .i64 (if rightG g then 0 else 200)) ∧ Below w.heap.size w w' := by
  have HM := fun W => Lib.hid (Tryz.vmayBe_any g W)
  have h0 := Rows8.new w 25 (gc g)
  have hb := Lib.hid ((Below.refl w.heap.size w).alloc (Nat.le_refl _) (.cells (gc g) 25))
  have hld := Tryz.load_group h0
  have hgs := gc_size g
  cases hr : rightG g
  all_goals
    have HR := Lib.hid hr
    clear hr
    go_enter Tryz.func30, Tryz.ntmps30
    go_wp2_with (refine wpList_loadW (by rfl) _ _ rfl ⟨w.heap.size, 0, none⟩ _ rfl hld ?_)
    simp only [fold_gc]
    refine (HM _).out.mono ?_
    rw [HR.out]
    rintro e w1 ⟨rfl, hB1⟩
    have HB1 := Lib.hid (hb.out.trans (hB1.mono hb.out.size))
    clear hB1
    go_wp2_with fail
    go_ret
    exact ⟨rfl, HB1.out⟩
theorem wpList_storeW {P : Program} {ops : Array Oper} {rest : List Oper} {o : Oper} {a : Act} {w w' : World} {Q : Exit → Act → World → Prop} (hw : Region.wanted o (yielded ops a.tmps) = true) (ty : TypeId) (x y : Operand) (ho : o.op = .store ty x y)
    (p : Addr) (v : Value) (hx : a.eval x = .pointer (some p)) (hy : a.eval y = v) (hl : (storeVar ty p v).run P w = .ok () w') (h : wpList P ops Q rest (a.put o.dst undef) w') : wpList P ops Q (o :: rest) a w := by
  unfold wpList
  rw [if_pos hw]
  refine .inl ?_
  unfold Oper.wp
  simp only [execOp, ho, hx, hy, Instr.storeAt, Instr.sureAddr, Sem.run_bind, Sem.run_pure, Result.andThen_ok, hl]
  exact h
/-- A group in a block is read, and written, whole. -/
theorem Tryz.store_group {W : World} {B : Nat} {cs : Array Value} (g : Gr) (h : Rows8 W B 25 cs) (hs : cs.size = 17) : (storeVar 25 ⟨B, 0, none⟩ (.agg (gc g))).run Tryz.prog W = .ok () (W.setRow B (gc g)) :=
  run_storeVar_row (P := Tryz.prog) W B 25 25 cs (gc g) h (by rw [gc_size]; exact Tryz.infoGroup) (by rw [hs]; rfl) (gc_one g)
def z17 : Array Value := gc zG
theorem Tryz.gNew_any (w : World) : Calls Tryz.prog 14 #[] w fun e w' => e = .returned (.agg (gc ⟨ofB fun _ => 128, fun _ => 0, fun _ => 0⟩)) ∧ Below w.heap.size w w' := by
  have HN := fun W => Lib.hid (Tryz.New_any W)
  have h0 : Rows8 (w.alloc (.cells (gc zG) 25)) w.heap.size 25 (gc zG) := Rows8.new w _ _
  have hb : Below w.heap.size w (w.alloc (.cells (gc zG) 25)) := (Below.refl w.heap.size w).alloc (Nat.le_refl _) _
  go_enter Tryz.func14, Tryz.ntmps14
  go_wp2_with fail
  go_at_call 29
  refine (HN _).out.mono ?_
  rintro e w1 ⟨rfl, hB1⟩
  have h1 := h0.below hB1 h0.lt
  have hst := Tryz.store_group ⟨ofB fun _ => 128, fun _ => 0, fun _ => 0⟩ h1 rfl
  have HR := Lib.hid (setRow_heap w1 w.heap.size (gc zG) (gc ⟨ofB fun _ => 128, fun _ => 0, fun _ => 0⟩) _ _ h1)
  have HB1 := Lib.hid (below_setRow (hb.trans (hB1.mono hb.size)) (Nat.le_refl _) (gc ⟨ofB fun _ => 128, fun _ => 0, fun _ => 0⟩))
  clear h0 hb hB1 h1
  unfold gc at hst
  dsimp only at hst
  generalize hxx : (ofB fun _ => 128) = x at *
  have HX := Lib.hid hxx
  clear hxx
  go_wp2_with (refine wpList_storeW (by rfl) _ _ _ rfl ⟨w.heap.size, 0, none⟩ _ rfl rfl hst ?_)
  refine bodyPost_ret (results_cell1 rfl _ _ w.heap.size _ rfl (run_loadVar_row (P := Tryz.prog) _ w.heap.size 25 25 _ (0, 0) _ HR.out Tryz.underlying25 rfl (by kernel_rfl))) rfl ?_
  exact ⟨by rw [HX.out], HB1.out⟩
end Go.Proofs

/- Group: Free, Looks, find, Find. -/
namespace Go.Proofs
set_option maxRecDepth 100000
set_option maxRecDepth 100000
open Go.RowKit Go.Shelf
attribute [local go_sem] Oper.semAt_some

/-- How many empty slots a group has, and how many deleted. -/
def freeN (g : Gr) (t : Nat) : Nat := if rightG g then (lanesOf (setK g.c t)).length else 0
theorem rightG_c {g : Gr} (h : rightG g = true) : rightC g.c = true := by
  unfold rightG at h
  rw [Bool.and_eq_true] at h
  exact h.1
theorem setsE_lt (x t : Nat) : setsE x t < 256 := by unfold setsE; split <;> first | exact setK_lt _ _ | decide
set_option maxHeartbeats 4000000 in
theorem Tryz.gFree_any (g : Gr) (w : World) : Calls Tryz.prog 17 #[.agg (gc g)] w fun e w' => e = .returned (.tuple #[.int .i64 (freeN g 1 : Nat), .int .i64 (freeN g 2 : Nat)]) ∧ Below w.heap.size w w' := by
  have HM := fun W => Lib.hid (Tryz.vmayBe_any g W)
  have HS := fun W => Lib.hid (Tryz.Sets_any g.c W)
  have HA1 := fun W => Lib.hid (Tryz.All_any (setsE g.c 1) (setsE_lt _ _) W)
  have HA2 := fun W => Lib.hid (Tryz.All_any (setsE g.c 2) (setsE_lt _ _) W)
  have h0 := Rows8.new w 25 (gc g)
  have hb := Lib.hid ((Below.refl w.heap.size w).alloc (Nat.le_refl _) (.cells (gc g) 25))
  have hld := Tryz.load_group h0
  have hgs := gc_size g
  unfold freeN
  cases hr : rightG g
  · have HR := Lib.hid hr
    clear hr
    go_enter Tryz.func17, Tryz.ntmps17
    go_wp2_with (refine wpList_loadW (by rfl) _ _ rfl ⟨w.heap.size, 0, none⟩ _ rfl hld ?_)
    simp only [fold_gc]
    refine (HM _).out.mono ?_
    rw [HR.out]
    rintro e w1 ⟨rfl, hB1⟩
    have HB1 := Lib.hid (hb.out.trans (hB1.mono hb.out.size))
    clear hB1
    go_wp2_with fail
    go_ret2
    exact ⟨rfl, HB1.out⟩
  · have hrc := rightG_c hr
    have e1 : setsE g.c 1 = setK g.c 1 := if_pos hrc
    have e2 : setsE g.c 2 = setK g.c 2 := if_pos hrc
    rw [e1] at HS HA1
    rw [e2] at HS HA2
    have HR := Lib.hid hr
    clear hr e1 e2 hrc
    generalize setK g.c 1 = s1 at *
    generalize setK g.c 2 = s2 at *
    go_enter Tryz.func17, Tryz.ntmps17
    go_wp2_with (refine wpList_loadW (by rfl) _ _ rfl ⟨w.heap.size, 0, none⟩ _ rfl hld ?_)
    simp only [fold_gc]
    refine (HM _).out.mono ?_
    rw [HR.out]
    rintro e w1 ⟨rfl, hB1⟩
    have hc1 : w1.cell? ⟨w.heap.size, 0, none⟩ = some (.int .u64 (g.c : Nat)) := ((h0.below hB1 h0.lt).cell 0).trans (gc_0 g)
    have HB1 := Lib.hid (hb.out.trans (hB1.mono hb.out.size))
    clear hB1 hld
    go_wp2_with (first | (go_at_call 35; refine (HS _).out.mono ?_; rintro e w2 ⟨rfl, hB2⟩; have HB2 := Lib.hid (HB1.out.trans (hB2.mono HB1.out.size)); clear hB2))
    refine (HA1 _).out.mono ?_
    rintro e w3 ⟨v1, rfl, hO1, hB3⟩
    obtain ⟨⟨a1, c1, rfl⟩, _⟩ := owns_intsAt hO1
    have HB3 := Lib.hid (HB2.out.trans (hB3.mono HB2.out.size))
    clear hB3 hO1
    generalize hn1 : (lanesOf s1).length = n1 at *
    have HN1 := Lib.hid hn1
    clear hn1
    go_wp2_with fail
    refine (HA2 _).out.mono ?_
    rintro e w4 ⟨v2, rfl, hO2, hB4⟩
    obtain ⟨⟨a2, c2, rfl⟩, _⟩ := owns_intsAt hO2
    have HB4 := Lib.hid (HB3.out.trans (hB4.mono HB3.out.size))
    clear hB4 hO2
    generalize hn2 : (lanesOf s2).length = n2 at *
    have HN2 := Lib.hid hn2
    clear hn2
    go_wp2_with fail
    go_ret2
    refine ⟨?_, HB4.out⟩
    rw [HN1.out, HN2.out]
    rfl

def looksE (g : Gr) (h : Nat) : Int := if rightG g then (if 127 < h then 2 else 0) else 200
def looksL (g : Gr) (h : Nat) : List (Fin 8) := if looksE g h = 0 then hl g h else []
def LooksQ (g : Gr) (h : Nat) (w : World) (e : Ending) (w' : World) : Prop := ∃ v, e = .returned (.tuple #[v, .int .i64 (looksE g h)]) ∧ OwnsLanes w.heap.size (looksL g h) v w' ∧ Below w.heap.size w w'
theorem lanesOf_0 : lanesOf 0 = [] := by decide
theorem owns_none (n₀ : Nat) (W : World) : OwnsLanes n₀ [] (.slice none 0 0) W := ⟨World.ownsRow_nil _ _ _ _, by simp⟩
theorem OwnsLanes.base {n₀ m : Nat} {xs : List (Fin 8)} {v : Value} {A : World} (o : OwnsLanes n₀ xs v A) (h : m ≤ n₀) : OwnsLanes m xs v A := by
  refine ⟨⟨o.1.1, ?_⟩, o.2⟩
  rcases o.1.2 with h' | ⟨g, cap, cur, h1, h2, h3, h4⟩
  · exact .inl h'
  · exact .inr ⟨g, cap, cur, h1, Nat.le_trans h h2, h3, h4⟩
set_option maxHeartbeats 4000000 in
theorem Tryz.gLooks_any (g : Gr) (h : Nat) (w : World) : Calls Tryz.prog 15 #[.agg (gc g), .int .u8 (h : Nat)] w (LooksQ g h w) := by
  have HC := fun W => Lib.hid (Tryz.gCheck_any g W)
  have HM := fun W => Lib.hid (Tryz.Match_any g.c h W)
  have h0 := Rows8.new w 25 (gc g)
  have hb := Lib.hid ((Below.refl w.heap.size w).alloc (Nat.le_refl _) (.cells (gc g) 25))
  have hld := Tryz.load_group h0
  cases hr : rightG g
  · have hE : looksE g h = 200 := by simp [looksE, hr]
    have hL : looksL g h = [] := by simp [looksL, hE]
    have HR := Lib.hid hr
    have HE := Lib.hid hE
    have HL := Lib.hid hL
    clear hr hE hL
    go_enter Tryz.func15, Tryz.ntmps15
    go_wp2_with (first | (refine wpList_loadW (by rfl) _ _ rfl ⟨w.heap.size, 0, none⟩ _ rfl hld ?_) | (go_at_call 30; refine (HC _).out.mono ?_; rw [HR.out]; rintro e w1 ⟨rfl, hB1⟩; have HB1 := Lib.hid (hb.out.trans (hB1.mono hb.out.size)); clear hB1))
    go_ret2
    refine ⟨_, by rw [HE.out]; rfl, ?_, HB1.out⟩
    rw [HL.out]
    exact owns_none _ _
  · have hM : looksE g h = matchE g.c h := by simp [looksE, hr, matchE, rightG_c hr]; split <;> split <;> first | rfl | omega
    have hL : looksL g h = lanesOf (matchM g.c h) := by
      unfold looksL looksE matchM
      simp only [hr, rightG_c hr, if_true]
      by_cases hh : h ≤ 127
      · simp [hh, show ¬ 127 < h from by omega, hl]
      · simp [hh, show 127 < h from by omega, lanesOf_0]
    have hm : matchM g.c h < 256 := by unfold matchM; split <;> (try split) <;> first | exact maskB_lt _ | decide
    have HA := fun W => Lib.hid (Tryz.All_any (matchM g.c h) hm W)
    have HR := Lib.hid hr
    have HE := Lib.hid hM
    have HL := Lib.hid hL
    clear hr hM hL hm
    generalize matchM g.c h = mm at *
    generalize matchE g.c h = me at *
    go_enter Tryz.func15, Tryz.ntmps15
    go_wp2_with (first | (refine wpList_loadW (by rfl) _ _ rfl ⟨w.heap.size, 0, none⟩ _ rfl hld ?_) | (go_at_call 30; refine (HC _).out.mono ?_; rw [HR.out]; rintro e w1 ⟨rfl, hB1⟩; have hc1 : w1.cell? ⟨w.heap.size, 0, none⟩ = some (.int .u64 (g.c : Nat)) := ((h0.below hB1 h0.lt).cell 0).trans (gc_0 g); have HB1 := Lib.hid (hb.out.trans (hB1.mono hb.out.size)); clear hB1 hld) | (go_at_call 31; refine (HM _).out.mono ?_; rintro e w2 ⟨rfl, hB2⟩; have HB2 := Lib.hid (HB1.out.trans (hB2.mono HB1.out.size)); clear hB2))
    refine (HA _).out.mono ?_
    rintro e w3 ⟨v1, rfl, hO1, hB3⟩
    have HO := Lib.hid (hO1.base HB2.out.size)
    have HB3 := Lib.hid (HB2.out.trans (hB3.mono HB2.out.size))
    clear hB3 hO1
    go_wp2_with fail
    go_ret2
    refine ⟨v1, by rw [HE.out]; rfl, ?_, HB3.out⟩
    rw [HL.out]
    exact HO.out

def findV (g : Gr) (key h : Nat) : Value := .tuple #[.int .i64 (findL g key h : Nat), .int .i64 (findN g key h : Nat), .int .i64 (findE g key h)]
set_option maxHeartbeats 4000000 in
theorem Tryz.vfind_any (g : Gr) (key h : Nat) (hr : rightC g.c = true) (w : World) : Calls Tryz.prog 33 #[.agg (gc g), .int .u64 (key : Nat), .int .u8 (h : Nat)] w fun e w' => e = .returned (findV g key h) ∧ Below w.heap.size w w' := by
  have HM := fun W => Lib.hid (Tryz.Match_any g.c h W)
  have HH := fun W => Lib.hid (Tryz.has_any g key W)
  have h0 := Rows8.new w 57 (gc g)
  have hb := Lib.hid ((Below.refl w.heap.size w).alloc (Nat.le_refl _) (.cells (gc g) 57))
  have hcc : (w.alloc (.cells (gc g) 57)).cell? ⟨w.heap.size, 0, none⟩ = some (.int .u64 (g.c : Nat)) := (h0.cell 0).trans (gc_0 g)
  unfold matchM matchE at HM
  simp only [hr, if_true] at HM
  by_cases hh : h ≤ 127
  · have hF := fun (B C : Nat) (W : World) (a : Rows8 W B 57 (gc g)) (b : Rows8 W C 22 #[.int .u64 (key : Nat)]) => Tryz.first_any (maskB fun k => byt g.c k == h) (maskB_lt _) B C (fun n => g.k n == key) W (Tryz.has1_says g key B C W a b)
    simp only [hh, if_true] at HM
    have HHl : Hid (hl g h = lanesOf (maskB fun k => byt g.c k == h)) := Lib.hid rfl
    have hn : ¬ 127 < h := by omega
    have HV : Hid (∀ r, firstL (fun n => g.k n == key) (lanesOf (maskB fun k => byt g.c k == h)) 0 = r → findV g key h = .tuple #[.int .i64 ((r.getD (0, 0)).1 : Nat), .int .i64 ((r.getD (0, 0)).2 : Nat), .int .i64 (if r.isNone then 4 else 0)]) := Lib.hid fun r e => by
      unfold findV findL findN findE findO hl
      rw [e]
      simp only [hn, if_false]
    have HFi := Lib.hid hF
    clear hF hn hr
    generalize (maskB fun k => byt g.c k == h) = mm at *
    go_enter Tryz.func33, Tryz.ntmps33
    go_wp2_with (first | (refine wpList_loadW (by rfl) _ _ rfl ⟨w.heap.size, 0, none⟩ _ rfl hld ?_) | (go_at_call 31; refine (HM _).out.mono ?_; rintro e w2 ⟨rfl, hB2⟩; have hld := Tryz.load_view (h0.below hB2 h0.lt); have HB2 := Lib.hid (hb.out.trans (hB2.mono hb.out.size)); clear hB2))
    go_at_call 49
    refine (HH _).out.mono ?_
    rintro e w3 ⟨rfl, hB3, hra, hrb⟩
    have HB3 := Lib.hid (HB2.out.trans (hB3.mono HB2.out.size))
    have HFF := Lib.hid (HFi.out _ _ _ hra hrb)
    clear hB3 hra hrb hld
    cases hfl : firstL (fun n => g.k n == key) (lanesOf mm) 0 with
    | none =>
      have HVV := Lib.hid (HV.out _ hfl)
      have HFL := Lib.hid hfl
      clear hfl
      go_wp2_with fail
      go_at_call 48
      refine HFF.out.mono ?_
      unfold firstR
      rw [HFL.out]
      rintro e w4 ⟨rfl, hB4⟩
      have HB4 := Lib.hid (HB3.out.trans (hB4.mono HB3.out.size))
      clear hB4
      go_wp2_with fail
      refine bodyPost_ret (results_tmp3 rfl _ _ _) rfl ?_
      exact ⟨by rw [HVV.out]; rfl, HB4.out⟩
    | some r =>
      obtain ⟨r1, r2⟩ := r
      have HVV := Lib.hid (HV.out _ hfl)
      have HFL := Lib.hid hfl
      clear hfl
      go_wp2_with fail
      go_at_call 48
      refine HFF.out.mono ?_
      unfold firstR
      rw [HFL.out]
      rintro e w4 ⟨rfl, hB4⟩
      have HB4 := Lib.hid (HB3.out.trans (hB4.mono HB3.out.size))
      clear hB4
      go_wp2_with fail
      refine bodyPost_ret (results_tmp3 rfl _ _ _) rfl ?_
      exact ⟨by rw [HVV.out]; rfl, HB4.out⟩
  · have hn : 127 < h := by omega
    have HV : Hid (findV g key h = .tuple #[.int .i64 0, .int .i64 0, .int .i64 2]) := Lib.hid (by
      unfold findV findL findN findE
      simp only [hn, if_true]
      rfl)
    simp only [hh, if_false] at HM
    go_enter Tryz.func33, Tryz.ntmps33
    go_wp2_with (go_at_call 31; refine (HM _).out.mono ?_; rintro e w2 ⟨rfl, hB2⟩; have HB2 := Lib.hid (hb.out.trans (hB2.mono hb.out.size)); clear hB2)
    refine bodyPost_ret (results_tmp3 rfl _ _ _) rfl ?_
    exact ⟨by rw [HV.out]; rfl, HB2.out⟩
end Go.Proofs

/- Group: Find. -/
namespace Go.Proofs
set_option maxRecDepth 100000
set_option maxRecDepth 100000
open Go.RowKit Go.Shelf
attribute [local go_sem] Oper.semAt_some

/-- What Find tells. -/
def gfindV (g : Gr) (key h : Nat) : Value := if rightG g then findV g key h else .tuple #[.int .i64 0, .int .i64 0, .int .i64 200]
set_option maxHeartbeats 4000000 in
theorem Tryz.gFind_any (g : Gr) (key h : Nat) (w : World) : Calls Tryz.prog 16 #[.agg (gc g), .int .u64 (key : Nat), .int .u8 (h : Nat)] w fun e w' => e = .returned (gfindV g key h) ∧ Below w.heap.size w w' := by
  have HC := fun W => Lib.hid (Tryz.gCheck_any g W)
  have h0 := Rows8.new w 25 (gc g)
  have hb := Lib.hid ((Below.refl w.heap.size w).alloc (Nat.le_refl _) (.cells (gc g) 25))
  have hld := Tryz.load_group h0
  have hgs := gc_size g
  unfold gfindV
  cases hr : rightG g
  · have HR := Lib.hid hr
    clear hr
    go_enter Tryz.func16, Tryz.ntmps16
    go_wp2_with (first | (refine wpList_loadW (by rfl) _ _ rfl ⟨w.heap.size, 0, none⟩ _ rfl hld ?_) | (go_at_call 30; refine (HC _).out.mono ?_; rw [HR.out]; rintro e w1 ⟨rfl, hB1⟩; have HB1 := Lib.hid (hb.out.trans (hB1.mono hb.out.size)); clear hB1))
    refine bodyPost_ret (results_tmp3 rfl _ _ _) rfl ?_
    exact ⟨rfl, HB1.out⟩
  · have HF := fun W => Lib.hid (Tryz.vfind_any g key h (rightG_c hr) W)
    have HR := Lib.hid hr
    clear hr
    rw [if_pos rfl]
    unfold findV at *
    generalize findL g key h = fl at *
    generalize findN g key h = fn at *
    generalize findE g key h = fe at *
    go_enter Tryz.func16, Tryz.ntmps16
    go_wp2_with (first | (refine wpList_loadW (by rfl) _ _ rfl ⟨w.heap.size, 0, none⟩ _ rfl hld ?_) | (go_at_call 30; refine (HC _).out.mono ?_; rw [HR.out]; rintro e w1 ⟨rfl, hB1⟩; have hld := Tryz.load_group (h0.below hB1 h0.lt); have HB1 := Lib.hid (hb.out.trans (hB1.mono hb.out.size)); clear hB1))
    simp only [fold_gc]
    refine (HF _).out.mono ?_
    rintro e w2 ⟨rfl, hB2⟩
    have HB2 := Lib.hid (HB1.out.trans (hB2.mono HB1.out.size))
    clear hB2
    go_wp2_with fail
    refine bodyPost_ret (results_tmp3 rfl _ _ _) rfl ?_
    exact ⟨rfl, HB2.out⟩
end Go.Proofs

/- Group: Live, Same. -/
namespace Go.Proofs
set_option maxRecDepth 100000
set_option maxRecDepth 100000
open Go.RowKit Go.Shelf
attribute [local go_sem] Oper.semAt_some

/-- What Live tells. -/
def gliveL (g : Gr) : List Sl := if rightG g then liveG g else []
theorem Tryz.build_view (g : Gr) (W : World) : (Instr.build 57 #[(0, .agg (gc g))]).run Tryz.prog W = .ok (.agg (gc g)) W := by
  unfold gc
  kernel_rfl
theorem wpList_buildW {P : Program} {ops : Array Oper} {rest : List Oper} {o : Oper} {a : Act} {w : World} {Q : Exit → Act → World → Prop} (hw : Region.wanted o (yielded ops a.tmps) = true) (t : TypeId) (ps : Array (Nat × Operand)) (ho : o.op = .build t ps) (vs : Array (Nat × Value)) (hv : (ps.map fun (i, x) => (i, a.eval x)) = vs) (v : Value)
    (hb : (Instr.build t vs).run P w = .ok v w) (h : wpList P ops Q rest (a.put o.dst v) w) : wpList P ops Q (o :: rest) a w := by
  unfold wpList
  rw [if_pos hw]
  refine .inl ?_
  unfold Oper.wp
  simp only [execOp, ho, hv, Sem.run_bind, Sem.run_pure, Result.andThen_ok, hb]
  exact h
theorem Tryz.store_view {W : World} {B : Nat} {cs : Array Value} (g : Gr) (h : Rows8 W B 57 cs) (hs : cs.size = 17) : (storeVar 57 ⟨B, 0, none⟩ (.agg (gc g))).run Tryz.prog W = .ok () (W.setRow B (gc g)) :=
  run_storeVar_row (P := Tryz.prog) W B 57 57 cs (gc g) h (by rw [gc_size]; exact Tryz.infoView) (by rw [hs]; rfl) (gc_one g)
theorem OwnsSlots.base {n₀ m : Nat} {xs : List Sl} {v : Value} {A : World} (o : OwnsSlots n₀ xs v A) (h : m ≤ n₀) : OwnsSlots m xs v A := by
  refine ⟨o.1, ?_⟩
  rcases o.2 with h' | ⟨g, cap, cur, h1, h2, h3, h4⟩
  · exact .inl h'
  · exact .inr ⟨g, cap, cur, h1, Nat.le_trans h h2, h3, h4⟩
set_option maxHeartbeats 4000000 in
theorem Tryz.gLive_any (g : Gr) (w : World) : Calls Tryz.prog 19 #[.agg (gc g)] w (SlotsQ (gliveL g) w) := by
  have HM := fun W => Lib.hid (Tryz.vmayBe_any g W)
  have HF := fun W => Lib.hid (Tryz.vfull_any g W)
  have h0 := Rows8.new w 25 (gc g)
  have hb := Lib.hid ((Below.refl w.heap.size w).alloc (Nat.le_refl _) (.cells (gc g) 25))
  have hld := Tryz.load_group h0
  have hgs := gc_size g
  have h1 : Rows8 ((w.alloc (.cells (gc g) 25)).alloc (.cells #[.int .u64 0, .int .u64 0, .int .u64 0, .int .u64 0, .int .u64 0, .int .u64 0, .int .u64 0, .int .u64 0, .int .u64 0, .int .u64 0, .int .u64 0, .int .u64 0, .int .u64 0, .int .u64 0, .int .u64 0, .int .u64 0, .int .u64 0] 57)) (w.heap.size + 1) 57 #[.int .u64 0, .int .u64 0, .int .u64 0, .int .u64 0, .int .u64 0, .int .u64 0, .int .u64 0, .int .u64 0, .int .u64 0, .int .u64 0, .int .u64 0, .int .u64 0, .int .u64 0, .int .u64 0, .int .u64 0, .int .u64 0, .int .u64 0] := by
    have h := Rows8.new (w.alloc (.cells (gc g) 25)) 57 #[.int .u64 0, .int .u64 0, .int .u64 0, .int .u64 0, .int .u64 0, .int .u64 0, .int .u64 0, .int .u64 0, .int .u64 0, .int .u64 0, .int .u64 0, .int .u64 0, .int .u64 0, .int .u64 0, .int .u64 0, .int .u64 0, .int .u64 0]
    rw [World.size_alloc] at h
    exact h
  have hst := Tryz.store_view g h1 rfl
  have HR1 := Lib.hid (setRow_heap _ (w.heap.size + 1) _ (gc g) _ _ h1)
  have HB1 := Lib.hid (below_setRow (hb.out.alloc hb.out.size (.cells #[.int .u64 0, .int .u64 0, .int .u64 0, .int .u64 0, .int .u64 0, .int .u64 0, .int .u64 0, .int .u64 0, .int .u64 0, .int .u64 0, .int .u64 0, .int .u64 0, .int .u64 0, .int .u64 0, .int .u64 0, .int .u64 0, .int .u64 0] 57)) (Nat.le_succ _) (gc g))
  generalize (((w.alloc (.cells (gc g) 25)).alloc (.cells #[.int .u64 0, .int .u64 0, .int .u64 0, .int .u64 0, .int .u64 0, .int .u64 0, .int .u64 0, .int .u64 0, .int .u64 0, .int .u64 0, .int .u64 0, .int .u64 0, .int .u64 0, .int .u64 0, .int .u64 0, .int .u64 0, .int .u64 0] 57)).setRow (w.heap.size + 1) (gc g)) = W1 at *
  have HR2 : Rows8 W1 (w.heap.size + 1) 57 (gc g) := HR1.out
  have hld2 := Tryz.load_view HR2
  have HRR := Lib.hid HR2
  clear h1 HR1 HR2
  unfold gliveL
  cases hr : rightG g
  · have HR := Lib.hid hr
    clear hr
    rw [if_neg (by decide)]
    go_enter Tryz.func19, Tryz.ntmps19
    go_wp2_with (first | (refine wpList_loadW (by rfl) _ _ rfl ⟨w.heap.size, 0, none⟩ _ rfl hld ?_) | (refine wpList_loadW (by rfl) _ _ rfl ⟨w.heap.size + 1, 0, none⟩ _ rfl hld2 ?_) | (refine wpList_buildW (by rfl) 57 _ rfl #[(0, .agg (gc g))] (by simp [go_sem]) _ (Tryz.build_view g _) ?_) | (refine wpList_storeW (by rfl) _ _ _ rfl ⟨w.heap.size + 1, 0, none⟩ _ rfl rfl hst ?_) | (go_at_call 34; refine (HM _).out.mono ?_; rw [HR.out]; rintro e w2 ⟨rfl, hB2⟩; have HB2 := Lib.hid (HB1.out.trans (hB2.mono HB1.out.size)); clear hB2))
    go_ret
    exact ⟨_, rfl, World.ownsRow_nil _ _ _ _, fun _ => rfl, HB2.out⟩
  · have HR := Lib.hid hr
    clear hr
    rw [if_pos rfl]
    have HLI := fun W => Lib.hid (Tryz.comeL_any (fm g) (fm_lt g) g (w.heap.size + 1) W)
    unfold comeF2 at HLI
    go_enter Tryz.func19, Tryz.ntmps19
    go_wp2_with (first | (refine wpList_loadW (by rfl) _ _ rfl ⟨w.heap.size, 0, none⟩ _ rfl hld ?_) | (refine wpList_loadW (by rfl) _ _ rfl ⟨w.heap.size + 1, 0, none⟩ _ rfl hld3 ?_) | (refine wpList_loadW (by rfl) _ _ rfl ⟨w.heap.size + 1, 0, none⟩ _ rfl hld2 ?_) | (refine wpList_buildW (by rfl) 57 _ rfl #[(0, .agg (gc g))] (by simp [go_sem]) _ (Tryz.build_view g _) ?_) | (refine wpList_storeW (by rfl) _ _ _ rfl ⟨w.heap.size + 1, 0, none⟩ _ rfl rfl hst ?_) | (go_at_call 34; refine (HM _).out.mono ?_; rw [HR.out]; rintro e w2 ⟨rfl, hB2⟩; have hr2 := HRR.out.below hB2 HRR.out.lt; have hld3 := Tryz.load_view hr2; have HB2 := Lib.hid (HB1.out.trans (hB2.mono HB1.out.size)); have HR2 := Lib.hid hr2; clear hB2 hr2) | (go_at_call 37; refine (HF _).out.mono ?_; rintro e w3 ⟨rfl, hB3⟩; have hr3 := HR2.out.below hB3 HR2.out.lt; have HB3 := Lib.hid (HB2.out.trans (hB3.mono HB2.out.size)); have HR3 := Lib.hid hr3; clear hB3 hr3))
    refine ((HLI w3).out HR3.out).mono ?_
    rintro e w4 ⟨v, rfl, hO, hnil, hB4⟩
    have HO := Lib.hid (hO.base HB3.out.size)
    have HNI := Lib.hid hnil
    have HB4 := Lib.hid (HB3.out.trans (hB4.mono HB3.out.size))
    clear hB4 hO hnil
    go_wp2_with fail
    go_ret
    exact ⟨v, rfl, HO.out, HNI.out, HB4.out⟩
end Go.Proofs

/- Group: a draft: loads, marks. -/
namespace Go.Proofs
set_option maxRecDepth 100000
set_option maxRecDepth 100000
open Go.RowKit Go.Shelf
attribute [local go_sem] Oper.semAt_some

/-- A draft's cells. -/
def dc (g : Gr) (lane : Int) : Array Value := #[.int .u64 (g.c : Nat), .int .u64 (g.k 0 : Nat), .int .u64 (g.k 1 : Nat), .int .u64 (g.k 2 : Nat), .int .u64 (g.k 3 : Nat), .int .u64 (g.k 4 : Nat), .int .u64 (g.k 5 : Nat), .int .u64 (g.k 6 : Nat), .int .u64 (g.k 7 : Nat),
  .int .u64 (g.v 0 : Nat), .int .u64 (g.v 1 : Nat), .int .u64 (g.v 2 : Nat), .int .u64 (g.v 3 : Nat), .int .u64 (g.v 4 : Nat), .int .u64 (g.v 5 : Nat), .int .u64 (g.v 6 : Nat), .int .u64 (g.v 7 : Nat), .int .i64 lane]
theorem dc_size (g : Gr) (l : Int) : (dc g l).size = 18 := rfl
theorem dc_0 (g : Gr) (l : Int) : (dc g l)[0]? = some (.int .u64 (g.c : Nat)) := rfl
theorem dc_17 (g : Gr) (l : Int) : (dc g l)[17]? = some (.int .i64 l) := rfl
theorem dc_k (g : Gr) (l : Int) : ∀ n, n < 8 → (dc g l)[1 + n]? = some (.int .u64 (g.k n : Nat))
  | 0, _ => rfl | 1, _ => rfl | 2, _ => rfl | 3, _ => rfl | 4, _ => rfl | 5, _ => rfl | 6, _ => rfl | 7, _ => rfl
  | n + 8, h => absurd h (by omega)
theorem dc_v (g : Gr) (l : Int) : ∀ n, n < 8 → (dc g l)[9 + n]? = some (.int .u64 (g.v n : Nat))
  | 0, _ => rfl | 1, _ => rfl | 2, _ => rfl | 3, _ => rfl | 4, _ => rfl | 5, _ => rfl | 6, _ => rfl | 7, _ => rfl
  | n + 8, h => absurd h (by omega)
theorem dc_gc (g : Gr) (l : Int) : ∀ j, j < 17 → (dc g l)[j]? = (gc g)[j]?
  | 0, _ => rfl | 1, _ => rfl | 2, _ => rfl | 3, _ => rfl | 4, _ => rfl | 5, _ => rfl | 6, _ => rfl | 7, _ => rfl | 8, _ => rfl | 9, _ => rfl | 10, _ => rfl | 11, _ => rfl | 12, _ => rfl | 13, _ => rfl | 14, _ => rfl | 15, _ => rfl | 16, _ => rfl
  | n + 17, h => absurd h (by omega)
theorem dc_set0 (g : Gr) (l : Int) (x : Nat) : (dc g l).setIfInBounds 0 (.int .u64 (x : Nat)) = dc ⟨x, g.k, g.v⟩ l := rfl
theorem dc_setL (g : Gr) (l m : Int) : (dc g l).setIfInBounds 17 (.int .i64 m) = dc g m := rfl
theorem dc_setK (g : Gr) (l : Int) (x : Nat) : ∀ n, n < 8 → (dc g l).setIfInBounds (1 + n) (.int .u64 (x : Nat)) = dc ⟨g.c, upd g.k n x, g.v⟩ l
  | 0, _ => rfl | 1, _ => rfl | 2, _ => rfl | 3, _ => rfl | 4, _ => rfl | 5, _ => rfl | 6, _ => rfl | 7, _ => rfl
  | n + 8, h => absurd h (by omega)
theorem dc_setV (g : Gr) (l : Int) (x : Nat) : ∀ n, n < 8 → (dc g l).setIfInBounds (9 + n) (.int .u64 (x : Nat)) = dc ⟨g.c, g.k, upd g.v n x⟩ l
  | 0, _ => rfl | 1, _ => rfl | 2, _ => rfl | 3, _ => rfl | 4, _ => rfl | 5, _ => rfl | 6, _ => rfl | 7, _ => rfl
  | n + 8, h => absurd h (by omega)
/-- The draft lies there. -/
def DAt (W : World) (D : Nat) (g : Gr) (lane : Int) : Prop := Rows8 W D 59 (dc g lane)
theorem DAt.range {W : World} {D : Nat} {g : Gr} {l : Int} (h : DAt W D g l) : W.rangeAt D 0 (gc g).toList := by
  intro j v hj
  have hlt : j < 17 := by
    have := (List.getElem?_eq_some_iff.1 hj).1
    simpa [gc] using this
  rw [Nat.zero_add]
  have h2 : Rows8 W D 59 (dc g l) := h
  rw [h2.cell j, dc_gc g l j hlt]
  simpa using hj
theorem Tryz.dload_view {W : World} {D : Nat} {g : Gr} {l : Int} (h : DAt W D g l) : (loadVar 57 ⟨D, 0, none⟩).run Tryz.prog W = .ok (.agg (gc g)) W := by
  have h2 := run_loadVar_mid (P := Tryz.prog) W D 0 57 (gc g).toList _ h.range Tryz.underlying57 rfl (by rw [Array.length_toList, gc_size]; exact Tryz.infoView)
  simpa using h2
theorem Tryz.dload_group {W : World} {D : Nat} {g : Gr} {l : Int} (h : DAt W D g l) : (loadVar 25 ⟨D, 0, none⟩).run Tryz.prog W = .ok (.agg (gc g)) W := by
  have h2 := run_loadVar_mid (P := Tryz.prog) W D 0 25 (gc g).toList _ h.range Tryz.underlying25 rfl (by rw [Array.length_toList, gc_size]; exact Tryz.infoGroup)
  simpa using h2
theorem Tryz.mark_any (g : Gr) (l : Int) (D x : Nat) (e0 : Int) (w : World) (hD : DAt w D g l) : Calls Tryz.prog 44 #[.pointer (some ⟨D, 0, none⟩), .int .u64 (x : Nat), .int .i64 e0] w fun e w' => e = .returned (.int .i64 e0) ∧ w' = w.setCell ⟨D, 0, none⟩ (.int .u64 (x : Nat)) := by
  have h2 : Rows8 w D 59 (dc g l) := hD
  have hc : w.cell? ⟨D, 0, none⟩ = some (.int .u64 (g.c : Nat)) := (h2.cell 0).trans (dc_0 g l)
  have hf := h2.frozen 0
  clear h2
  go_enter Tryz.func44, Tryz.ntmps44
  go_wp2
  go_ret
  exact ⟨rfl, rfl⟩
end Go.Proofs

/- Group: put. -/
namespace Go.Proofs
set_option maxRecDepth 100000
open Go.RowKit Go.Shelf
attribute [local go_sem] Oper.semAt_some

theorem firstR_form (p : Nat → Bool) (l : List (Fin 8)) : ∃ v1 v2 v3, firstR p l = .tuple #[v1, v2, .bool v3] ∧ v3 = (firstL p l 0).isSome := by
  unfold firstR
  cases h : firstL p l 0 with
  | none => exact ⟨_, _, _, rfl, rfl⟩
  | some r => exact ⟨_, _, _, rfl, rfl⟩
theorem DAt.below {A B : World} {D h : Nat} {g : Gr} {l : Int} (p : DAt A D g l) (q : Below h A B) (hD : D < h) : DAt B D g l := Rows8.below p q hD
theorem bit_not8 {a : Nat} (ha : a < 256) (k : Fin 8) : (255 - a).testBit k = !(a.testBit k) := by
  rw [show 255 - a = 2 ^ 8 - (a + 1) by omega, Nat.testBit_two_pow_sub_succ (by omega)]
  simp
theorem xor_mask {a : Nat} (ha : a < 256) : bits .xor .u8 IntKind.u8.max (a : Int) = ((255 - a : Nat) : Int) := by
  have h := u8_xor_nat 255 a (by decide) ha
  have e : 255 ^^^ a = 255 - a := mask_ext (Nat.xor_lt_two_pow (n := 8) (by decide) ha) (by omega) fun k => by
    rw [Nat.testBit_xor, bit_255, bit_not8 ha]
    cases a.testBit k <;> rfl
  rw [e] at h
  exact h
theorem mem_frl (g : Gr) (n : Fin 8) : n ∈ frl g ↔ ¬ byt g.c n < 128 := by
  unfold frl
  rw [mem_lanesOf, bit_not8 (fm_lt g)]
  unfold fm
  rw [testBit_maskB]
  simp
theorem fillE_free {g : Gr} {n : Fin 8} {h : Nat} (hn : n ∈ frl g) (hh : ¬ 127 < h) : fillE g.c ((n : Nat) : Int) h = 0 := by
  have hb := (mem_frl g n).1 hn
  have hk : kd (byt g.c n) ≠ 0 := by
    unfold kd
    rw [if_neg (by omega)]
    split <;> (try split) <;> decide
  unfold fillE
  have hl := n.isLt
  rw [if_neg (by omega), if_neg hh, if_neg]
  simpa using hk
theorem DAt.lane {W : World} {D : Nat} {g : Gr} {l : Int} (h : DAt W D g l) (m : Int) : DAt (W.setCell ⟨D, 17, none⟩ (.int .i64 m)) D g m := by
  have h2 := Rows8.set (show Rows8 W D 59 (dc g l) from h) 17 (.int .i64 m)
  rwa [dc_setL] at h2
theorem DAt.key {W : World} {D : Nat} {g : Gr} {l : Int} (h : DAt W D g l) (n : Nat) (hn : n < 8) (x : Nat) : DAt (W.setCell ⟨D, 1 + n, none⟩ (.int .u64 (x : Nat))) D ⟨g.c, upd g.k n x, g.v⟩ l := by
  have h2 := Rows8.set (show Rows8 W D 59 (dc g l) from h) (1 + n) (.int .u64 (x : Nat))
  rwa [dc_setK g l x n hn] at h2
theorem DAt.val {W : World} {D : Nat} {g : Gr} {l : Int} (h : DAt W D g l) (n : Nat) (hn : n < 8) (x : Nat) : DAt (W.setCell ⟨D, 9 + n, none⟩ (.int .u64 (x : Nat))) D ⟨g.c, g.k, upd g.v n x⟩ l := by
  have h2 := Rows8.set (show Rows8 W D 59 (dc g l) from h) (9 + n) (.int .u64 (x : Nat))
  rwa [dc_setV g l x n hn] at h2
theorem DAt.ctrl {W : World} {D : Nat} {g : Gr} {l : Int} (h : DAt W D g l) (x : Nat) : DAt (W.setCell ⟨D, 0, none⟩ (.int .u64 (x : Nat))) D ⟨x, g.k, g.v⟩ l := by
  have h2 := Rows8.set (show Rows8 W D 59 (dc g l) from h) 0 (.int .u64 (x : Nat))
  rwa [dc_set0] at h2
/-- What a change of a draft comes to. -/
def ChD (D : Nat) (E : Int) (g' : Gr) (l' : Int) (w : World) (e : Ending) (w' : World) : Prop := e = .returned (.int .i64 E) ∧ But w.heap.size D w w' ∧ (E = 0 → DAt w' D g' l')
set_option maxHeartbeats 8000000 in
theorem Tryz.dput_any (g : Gr) (hc : g.c < 18446744073709551616) (hr : rightG g = true) (lane : Int) (s : Sl) (hs : s.h2 < 256) (D : Nat) (w : World) (hD : DAt w D g lane) :
    Calls Tryz.prog 27 #[.pointer (some ⟨D, 0, none⟩), .agg (sc s)] w (ChD D (putE g s) (putG g s) (putL g) w) := by
  have HFu := fun W => Lib.hid (Tryz.vfull_any g W)
  have HHa := fun W => Lib.hid (Tryz.has_any g s.key W)
  have HFi := fun (B C : Nat) (W : World) => Lib.hid (fun (a : Rows8 W B 57 (gc g)) (b : Rows8 W C 22 #[.int .u64 (s.key : Nat)]) => Tryz.first_any (fm g) (fm_lt g) B C (fun n => g.k n == s.key) W (Tryz.has1_says g s.key B C W a b))
  have HFV := Lib.hid (firstR_form (fun n => g.k n == s.key) (fl g))
  have hDl : D < w.heap.size := Rows8.lt hD
  have h0 : Rows8 (w.alloc (.cells (sc s) 30)) w.heap.size 30 (sc s) := Rows8.new w _ _
  have hb : Below w.heap.size w (w.alloc (.cells (sc s) 30)) := (Below.refl _ w).alloc (Nat.le_refl _) _
  have hc2 : (w.alloc (.cells (sc s) 30)).cell? ⟨w.heap.size, 2, none⟩ = some (.int .u8 (s.h2 : Nat)) := h0.cell 2
  have hDa : DAt (w.alloc (.cells (sc s) 30)) D g lane := hD.below hb hDl
  have hz : (w.alloc (.cells (sc s) 30)).heap.size = w.heap.size + 1 := by simp
  by_cases h2 : 127 < s.h2
  · have hE : putE g s = 2 := by unfold putE; rw [if_pos h2]
    have HE := Lib.hid hE
    have HB := Lib.hid hb
    clear hE h0 hDa hb
    have hh2 : (127 : Int) < ((s.h2 : Nat) : Int) := by omega
    go_enter Tryz.func27, Tryz.ntmps27
    go_wp2_with fail
    go_ret
    exact ⟨by rw [HE.out]; rfl, But.of_below HB.out, by rw [HE.out]; intro h; cases h⟩
  · have hE : putE g s = if (firstL (fun n => g.k n == s.key) (fl g) 0).isSome then 5 else if frl g = [] then 6 else 0 := by unfold putE; rw [if_neg h2]
    have HE := Lib.hid hE
    have H2 := Lib.hid h2
    have hh2 : ¬ (127 : Int) < ((s.h2 : Nat) : Int) := by omega
    clear hE h2
    go_enter Tryz.func27, Tryz.ntmps27
    go_wp2_with fail
    generalize (w.alloc (.cells (sc s) 30)) = W1 at *
    have HB := Lib.hid hb
    have HS : Hid (∀ W' : World, Below W1.heap.size W1 W' → DAt W' D g lane ∧ Rows8 W' w.heap.size 30 (sc s)) := Lib.hid fun W' b => ⟨hDa.below b (by omega), h0.below b (by omega)⟩
    clear hb hDa h0 hc2
    refine wp_mono (Q := fun e a' W' => e = .normal ∧ ∃ Ba v1 v2 v3, v3 = (firstL (fun n => g.k n == s.key) (fl g) 0).isSome ∧ Below W1.heap.size W1 W' ∧ a' = { tmps := #[.pointer (some ⟨D, 0, none⟩), .agg (sc s), undef, .pointer (some ⟨w.heap.size, 0, none⟩), .int .i64 0, v1, v2, .bool v3, undef, undef, .pointer (some ⟨w.heap.size, 2, none⟩), .int .u8 (s.h2 : Nat), .bool false, .tuple #[v1, v2, .bool v3], .pointer (some ⟨D, 0, none⟩), .pointer (some ⟨D, 0, none⟩), .pointer (some ⟨D, 0, none⟩), .agg (gc g), .int .u8 (fm g : Nat), .pointer (some ⟨D, 0, none⟩), .pointer (some ⟨D, 0, none⟩), .pointer (some ⟨D, 0, none⟩), .agg (gc g), .pointer (some ⟨w.heap.size, 0, none⟩), .int .u64 (s.key : Nat), hasF Ba (Ba + 1), .tuple #[v1, v2, .bool v3], v1, v2, .bool v3, undef, undef, undef, undef, undef, undef, undef, undef, undef, undef, undef, undef, undef, undef, undef, undef, undef, undef, undef, undef, undef, undef, undef, undef, undef, undef, undef, undef, undef, undef, undef, undef, undef, undef, undef, undef, undef, undef, undef, undef, undef, undef, undef, undef, undef, undef, undef, undef, undef], defers := [] }) ?_ ?_
    · refine wp_region_X (fun W' => DAt W' D g lane ∧ Rows8 W' w.heap.size 30 (sc s)) 20 (by kernel_rfl) ?_
      have hS0 := HS.out W1.drew (Below.refl _ _).drew
      have hB0 : Below W1.heap.size W1 W1.drew := (Below.refl _ _).drew
      generalize W1.drew = Wd at *
      refine wpAnyN_take (i := 0) (oi := { dst := some 14, op := Go.Op.move (Go.Operand.tmp 0), type := 83, pos := "draft.go:33", after := #[], guard := none }) (v := .pointer (some ⟨D, 0, none⟩)) rfl (by decide) (by kernel_rfl) (by kernel_rfl) (by kernel_rfl) (fun _ _ _ h => nomatch h.1) (Or.inl ⟨by rfl, ?_⟩) hS0 ?_
      · intro W9 hS9
        obtain ⟨q0, q1⟩ := hS9
        have d0 := Rows8.cell (show Rows8 W9 D 59 (dc g lane) from q0) 0
        rw [dc_0] at d0
        have s0 : W9.cell? ⟨w.heap.size, 0, none⟩ = some (.int .u64 (s.key : Nat)) := q1.cell 0
        have s1 : W9.cell? ⟨w.heap.size, 1, none⟩ = some (.int .u64 (s.val : Nat)) := q1.cell 1
        have s2 : W9.cell? ⟨w.heap.size, 2, none⟩ = some (.int .u8 (s.h2 : Nat)) := q1.cell 2
        clear q0 q1
        go_simp
      try simp only [Act.put, List.setIfInBounds_toArray, List.set_cons_zero, List.set_cons_succ]
      refine wpAnyN_take (i := 1) (oi := { dst := some 15, op := Go.Op.nilCheck (Go.Operand.tmp 14), type := 0, pos := "draft.go:33", after := #[{ on := 0, ground := Go.Ground.data }], guard := none }) (v := .pointer (some ⟨D, 0, none⟩)) rfl (by decide) (by kernel_rfl) (by kernel_rfl) (by kernel_rfl) (fun _ _ _ h => nomatch h.1) (Or.inl ⟨by rfl, ?_⟩) hS0 ?_
      · intro W9 hS9
        obtain ⟨q0, q1⟩ := hS9
        have d0 := Rows8.cell (show Rows8 W9 D 59 (dc g lane) from q0) 0
        rw [dc_0] at d0
        have s0 : W9.cell? ⟨w.heap.size, 0, none⟩ = some (.int .u64 (s.key : Nat)) := q1.cell 0
        have s1 : W9.cell? ⟨w.heap.size, 1, none⟩ = some (.int .u64 (s.val : Nat)) := q1.cell 1
        have s2 : W9.cell? ⟨w.heap.size, 2, none⟩ = some (.int .u8 (s.h2 : Nat)) := q1.cell 2
        clear q0 q1
        go_simp
      try simp only [Act.put, List.setIfInBounds_toArray, List.set_cons_zero, List.set_cons_succ]
      refine wpAnyN_take (i := 2) (oi := { dst := some 16, op := Go.Op.fieldAddr 59 (Go.Operand.tmp 15) 0, type := 0, pos := "draft.go:33", after := #[{ on := 1, ground := Go.Ground.data }], guard := none }) (v := .pointer (some ⟨D, 0, none⟩)) rfl (by decide) (by kernel_rfl) (by kernel_rfl) (by kernel_rfl) (fun _ _ _ h => nomatch h.1) (Or.inl ⟨by rfl, ?_⟩) hS0 ?_
      · intro W9 hS9
        obtain ⟨q0, q1⟩ := hS9
        have d0 := Rows8.cell (show Rows8 W9 D 59 (dc g lane) from q0) 0
        rw [dc_0] at d0
        have s0 : W9.cell? ⟨w.heap.size, 0, none⟩ = some (.int .u64 (s.key : Nat)) := q1.cell 0
        have s1 : W9.cell? ⟨w.heap.size, 1, none⟩ = some (.int .u64 (s.val : Nat)) := q1.cell 1
        have s2 : W9.cell? ⟨w.heap.size, 2, none⟩ = some (.int .u8 (s.h2 : Nat)) := q1.cell 2
        clear q0 q1
        go_simp
      try simp only [Act.put, List.setIfInBounds_toArray, List.set_cons_zero, List.set_cons_succ]
      refine wpAnyN_take (i := 3) (oi := { dst := some 17, op := Go.Op.load 57 (Go.Operand.tmp 16), type := 57, pos := "draft.go:33", after := #[{ on := 2, ground := Go.Ground.data }], guard := none }) (v := .agg (gc g)) rfl (by decide) (by kernel_rfl) (by kernel_rfl) (by kernel_rfl) (fun _ _ _ h => nomatch h.1) (Or.inl ⟨by rfl, ?_⟩) hS0 ?_
      · intro W9 hS9
        obtain ⟨q0, q1⟩ := hS9
        exact exec_load 57 _ rfl ⟨D, 0, none⟩ _ (by simp [go_sem]) (Tryz.dload_view q0)
      try simp only [Act.put, List.setIfInBounds_toArray, List.set_cons_zero, List.set_cons_succ]
      refine wpAnyN_take (i := 5) (oi := { dst := some 19, op := Go.Op.move (Go.Operand.tmp 0), type := 83, pos := "draft.go:33", after := #[], guard := none }) (v := .pointer (some ⟨D, 0, none⟩)) rfl (by decide) (by kernel_rfl) (by kernel_rfl) (by kernel_rfl) (fun _ _ _ h => nomatch h.1) (Or.inl ⟨by rfl, ?_⟩) hS0 ?_
      · intro W9 hS9
        obtain ⟨q0, q1⟩ := hS9
        have d0 := Rows8.cell (show Rows8 W9 D 59 (dc g lane) from q0) 0
        rw [dc_0] at d0
        have s0 : W9.cell? ⟨w.heap.size, 0, none⟩ = some (.int .u64 (s.key : Nat)) := q1.cell 0
        have s1 : W9.cell? ⟨w.heap.size, 1, none⟩ = some (.int .u64 (s.val : Nat)) := q1.cell 1
        have s2 : W9.cell? ⟨w.heap.size, 2, none⟩ = some (.int .u8 (s.h2 : Nat)) := q1.cell 2
        clear q0 q1
        go_simp
      try simp only [Act.put, List.setIfInBounds_toArray, List.set_cons_zero, List.set_cons_succ]
      refine wpAnyN_take (i := 6) (oi := { dst := some 20, op := Go.Op.nilCheck (Go.Operand.tmp 19), type := 0, pos := "draft.go:33", after := #[{ on := 5, ground := Go.Ground.data }], guard := none }) (v := .pointer (some ⟨D, 0, none⟩)) rfl (by decide) (by kernel_rfl) (by kernel_rfl) (by kernel_rfl) (fun _ _ _ h => nomatch h.1) (Or.inl ⟨by rfl, ?_⟩) hS0 ?_
      · intro W9 hS9
        obtain ⟨q0, q1⟩ := hS9
        have d0 := Rows8.cell (show Rows8 W9 D 59 (dc g lane) from q0) 0
        rw [dc_0] at d0
        have s0 : W9.cell? ⟨w.heap.size, 0, none⟩ = some (.int .u64 (s.key : Nat)) := q1.cell 0
        have s1 : W9.cell? ⟨w.heap.size, 1, none⟩ = some (.int .u64 (s.val : Nat)) := q1.cell 1
        have s2 : W9.cell? ⟨w.heap.size, 2, none⟩ = some (.int .u8 (s.h2 : Nat)) := q1.cell 2
        clear q0 q1
        go_simp
      try simp only [Act.put, List.setIfInBounds_toArray, List.set_cons_zero, List.set_cons_succ]
      refine wpAnyN_take (i := 7) (oi := { dst := some 21, op := Go.Op.fieldAddr 59 (Go.Operand.tmp 20) 0, type := 0, pos := "draft.go:33", after := #[{ on := 6, ground := Go.Ground.data }], guard := none }) (v := .pointer (some ⟨D, 0, none⟩)) rfl (by decide) (by kernel_rfl) (by kernel_rfl) (by kernel_rfl) (fun _ _ _ h => nomatch h.1) (Or.inl ⟨by rfl, ?_⟩) hS0 ?_
      · intro W9 hS9
        obtain ⟨q0, q1⟩ := hS9
        have d0 := Rows8.cell (show Rows8 W9 D 59 (dc g lane) from q0) 0
        rw [dc_0] at d0
        have s0 : W9.cell? ⟨w.heap.size, 0, none⟩ = some (.int .u64 (s.key : Nat)) := q1.cell 0
        have s1 : W9.cell? ⟨w.heap.size, 1, none⟩ = some (.int .u64 (s.val : Nat)) := q1.cell 1
        have s2 : W9.cell? ⟨w.heap.size, 2, none⟩ = some (.int .u8 (s.h2 : Nat)) := q1.cell 2
        clear q0 q1
        go_simp
      try simp only [Act.put, List.setIfInBounds_toArray, List.set_cons_zero, List.set_cons_succ]
      refine wpAnyN_take (i := 8) (oi := { dst := some 22, op := Go.Op.load 57 (Go.Operand.tmp 21), type := 57, pos := "draft.go:33", after := #[{ on := 7, ground := Go.Ground.data }], guard := none }) (v := .agg (gc g)) rfl (by decide) (by kernel_rfl) (by kernel_rfl) (by kernel_rfl) (fun _ _ _ h => nomatch h.1) (Or.inl ⟨by rfl, ?_⟩) hS0 ?_
      · intro W9 hS9
        obtain ⟨q0, q1⟩ := hS9
        exact exec_load 57 _ rfl ⟨D, 0, none⟩ _ (by simp [go_sem]) (Tryz.dload_view q0)
      try simp only [Act.put, List.setIfInBounds_toArray, List.set_cons_zero, List.set_cons_succ]
      refine wpAnyN_take (i := 9) (oi := { dst := some 23, op := Go.Op.fieldAddr 30 (Go.Operand.tmp 3) 0, type := 0, pos := "draft.go:33", after := #[], guard := none }) (v := .pointer (some ⟨w.heap.size, 0, none⟩)) rfl (by decide) (by kernel_rfl) (by kernel_rfl) (by kernel_rfl) (fun _ _ _ h => nomatch h.1) (Or.inl ⟨by rfl, ?_⟩) hS0 ?_
      · intro W9 hS9
        obtain ⟨q0, q1⟩ := hS9
        have d0 := Rows8.cell (show Rows8 W9 D 59 (dc g lane) from q0) 0
        rw [dc_0] at d0
        have s0 : W9.cell? ⟨w.heap.size, 0, none⟩ = some (.int .u64 (s.key : Nat)) := q1.cell 0
        have s1 : W9.cell? ⟨w.heap.size, 1, none⟩ = some (.int .u64 (s.val : Nat)) := q1.cell 1
        have s2 : W9.cell? ⟨w.heap.size, 2, none⟩ = some (.int .u8 (s.h2 : Nat)) := q1.cell 2
        clear q0 q1
        go_simp
      try simp only [Act.put, List.setIfInBounds_toArray, List.set_cons_zero, List.set_cons_succ]
      refine wpAnyN_take (i := 10) (oi := { dst := some 24, op := Go.Op.load 22 (Go.Operand.tmp 23), type := 22, pos := "draft.go:33", after := #[{ on := 9, ground := Go.Ground.data }], guard := none }) (v := .int .u64 (s.key : Nat)) rfl (by decide) (by kernel_rfl) (by kernel_rfl) (by kernel_rfl) (fun _ _ _ h => nomatch h.1) (Or.inl ⟨by rfl, ?_⟩) hS0 ?_
      · intro W9 hS9
        obtain ⟨q0, q1⟩ := hS9
        have d0 := Rows8.cell (show Rows8 W9 D 59 (dc g lane) from q0) 0
        rw [dc_0] at d0
        have s0 : W9.cell? ⟨w.heap.size, 0, none⟩ = some (.int .u64 (s.key : Nat)) := q1.cell 0
        have s1 : W9.cell? ⟨w.heap.size, 1, none⟩ = some (.int .u64 (s.val : Nat)) := q1.cell 1
        have s2 : W9.cell? ⟨w.heap.size, 2, none⟩ = some (.int .u8 (s.h2 : Nat)) := q1.cell 2
        clear q0 q1
        go_simp
      try simp only [Act.put, List.setIfInBounds_toArray, List.set_cons_zero, List.set_cons_succ]
      refine wpAnyX_one (i := 4) (o := { dst := some 18, op := Go.Op.call { callee := Go.Callee.value (Go.Operand.func 37), args := #[Go.Operand.tmp 17], argTypes := #[57] }, type := 69, pos := "draft.go:33", after := #[{ on := 3, ground := Go.Ground.data }], guard := none }) (by kernel_rfl) rfl (fun K hK => ?_)
      refine step_call_g (by rfl) 37 _ _ rfl (fun _ _ => by kernel_rfl) #[.agg (gc g)] (by simp [go_sem]) _ (HFu Wd).out ?_
      rintro e W2 ⟨rfl, hC1⟩
      refine ⟨_, rfl, ?_⟩
      have hB1 := hB0.trans (hC1.mono hB0.size)
      have hS1 := HS.out W2 hB1
      refine hK.out _ _ (fun _ => hS1) ?_
      clear hK K
      try simp only [Act.put, List.setIfInBounds_toArray, List.set_cons_zero, List.set_cons_succ]
      refine wpAnyX_one (i := 11) (o := { dst := some 25, op := Go.Op.call { callee := Go.Callee.value (Go.Operand.func 49), args := #[Go.Operand.tmp 22, Go.Operand.tmp 24], argTypes := #[57, 22] }, type := 37, pos := "draft.go:33", after := #[{ on := 8, ground := Go.Ground.data }, { on := 10, ground := Go.Ground.data }, { on := 4, ground := Go.Ground.chain }], guard := none }) (by kernel_rfl) rfl (fun K hK => ?_)
      refine step_call_g (by rfl) 49 _ _ rfl (fun _ _ => by kernel_rfl) #[.agg (gc g), .int .u64 (s.key : Nat)] (by simp [go_sem]) _ (HHa W2).out ?_
      rintro e W3 ⟨rfl, hC2, hra, hrb⟩
      refine ⟨_, rfl, ?_⟩
      have hB2 := hB1.trans (hC2.mono hB1.size)
      have hS2 := HS.out W3 hB2
      refine hK.out _ _ (fun _ => hS2) ?_
      clear hK K
      try simp only [Act.put, List.setIfInBounds_toArray, List.set_cons_zero, List.set_cons_succ]
      refine wpAnyX_one (i := 12) (o := { dst := some 26, op := Go.Op.call { callee := Go.Callee.value (Go.Operand.func 48), args := #[Go.Operand.tmp 18, Go.Operand.tmp 25], argTypes := #[69, 37] }, type := 89, pos := "draft.go:33", after := #[{ on := 4, ground := Go.Ground.data }, { on := 11, ground := Go.Ground.data }, { on := 11, ground := Go.Ground.chain }], guard := none }) (by kernel_rfl) rfl (fun K hK => ?_)
      refine step_call_g (by rfl) 48 _ _ rfl (fun _ _ => by kernel_rfl) #[.int .u8 (fm g : Nat), hasF W2.heap.size (W2.heap.size + 1)] (by simp [go_sem, hasF]) _ ((HFi W2.heap.size (W2.heap.size + 1) W3).out hra hrb) ?_
      rintro e W4 ⟨rfl, hC3⟩
      refine ⟨_, rfl, ?_⟩
      have hB3 := hB2.trans (hC3.mono hB2.size)
      have hS3 := HS.out W4 hB3
      obtain ⟨v1, v2, v3, hv, hv3⟩ := HFV.out
      rw [show firstR (fun n => g.k n == s.key) (lanesOf (fm g)) = _ from hv]
      refine hK.out _ _ (fun _ => hS3) ?_
      clear hK K
      try simp only [Act.put, List.setIfInBounds_toArray, List.set_cons_zero, List.set_cons_succ]
      refine wpAnyN_take (i := 13) (oi := { dst := some 13, op := Go.Op.move (Go.Operand.tmp 26), type := 89, pos := "draft.go:33", after := #[{ on := 12, ground := Go.Ground.data }], guard := none }) (v := .tuple #[v1, v2, .bool v3]) rfl (by decide) (by kernel_rfl) (by kernel_rfl) (by kernel_rfl) (fun _ _ _ h => nomatch h.1) (Or.inl ⟨by rfl, ?_⟩) hS3 ?_
      · intro W9 hS9
        obtain ⟨q0, q1⟩ := hS9
        go_simp
      try simp only [Act.put, List.setIfInBounds_toArray, List.set_cons_zero, List.set_cons_succ]
      refine wpAnyN_take (i := 14) (oi := { dst := some 27, op := Go.Op.extract (Go.Operand.tmp 13) 0, type := 3, pos := "draft.go:33", after := #[{ on := 13, ground := Go.Ground.data }], guard := none }) (v := v1) rfl (by decide) (by kernel_rfl) (by kernel_rfl) (by kernel_rfl) (fun _ _ _ h => nomatch h.1) (Or.inl ⟨by rfl, ?_⟩) hS3 ?_
      · intro W9 hS9
        obtain ⟨q0, q1⟩ := hS9
        go_simp
      try simp only [Act.put, List.setIfInBounds_toArray, List.set_cons_zero, List.set_cons_succ]
      refine wpAnyN_take (i := 15) (oi := { dst := some 28, op := Go.Op.extract (Go.Operand.tmp 13) 1, type := 3, pos := "draft.go:33", after := #[{ on := 13, ground := Go.Ground.data }, { on := 17, ground := Go.Ground.gcOnly Go.Departure.lateStores }], guard := none }) (v := v2) rfl (by decide) (by kernel_rfl) (by kernel_rfl) (by kernel_rfl) (fun _ _ _ h => nomatch h.1) (Or.inl ⟨by rfl, ?_⟩) hS3 ?_
      · intro W9 hS9
        obtain ⟨q0, q1⟩ := hS9
        go_simp
      try simp only [Act.put, List.setIfInBounds_toArray, List.set_cons_zero, List.set_cons_succ]
      refine wpAnyN_take (i := 16) (oi := { dst := some 29, op := Go.Op.extract (Go.Operand.tmp 13) 2, type := 4, pos := "draft.go:33", after := #[{ on := 13, ground := Go.Ground.data }, { on := 18, ground := Go.Ground.gcOnly Go.Departure.lateStores }], guard := none }) (v := .bool v3) rfl (by decide) (by kernel_rfl) (by kernel_rfl) (by kernel_rfl) (fun _ _ _ h => nomatch h.1) (Or.inl ⟨by rfl, ?_⟩) hS3 ?_
      · intro W9 hS9
        obtain ⟨q0, q1⟩ := hS9
        go_simp
      try simp only [Act.put, List.setIfInBounds_toArray, List.set_cons_zero, List.set_cons_succ]
      refine wpAnyX_one (i := 17) (o := { dst := some 5, op := Go.Op.assign (Go.Operand.tmp 27), type := 3, pos := "draft.go:33", after := #[{ on := 14, ground := Go.Ground.data }, { on := 12, ground := Go.Ground.chain }, { on := 0, ground := Go.Ground.phase }, { on := 1, ground := Go.Ground.phase }, { on := 2, ground := Go.Ground.phase }, { on := 3, ground := Go.Ground.phase }, { on := 4, ground := Go.Ground.phase }, { on := 5, ground := Go.Ground.phase }, { on := 6, ground := Go.Ground.phase }, { on := 7, ground := Go.Ground.phase }, { on := 8, ground := Go.Ground.phase }, { on := 9, ground := Go.Ground.phase }, { on := 10, ground := Go.Ground.phase }, { on := 11, ground := Go.Ground.phase }, { on := 12, ground := Go.Ground.phase }, { on := 13, ground := Go.Ground.phase }, { on := 14, ground := Go.Ground.phase }, { on := 15, ground := Go.Ground.textOnly Go.Departure.lateStores }, { on := 16, ground := Go.Ground.textOnly Go.Departure.lateStores }], guard := none }) (by kernel_rfl) rfl (fun K hK => ?_)
      refine step_value_g (by rfl) (v1) (w' := W4) (by go_simp) ?_
      refine hK.out _ _ (fun _ => hS3) ?_
      clear hK K
      try simp only [Act.put, List.setIfInBounds_toArray, List.set_cons_zero, List.set_cons_succ]
      refine wpAnyX_one (i := 18) (o := { dst := some 6, op := Go.Op.assign (Go.Operand.tmp 28), type := 3, pos := "draft.go:33", after := #[{ on := 15, ground := Go.Ground.data }, { on := 17, ground := Go.Ground.chain }, { on := 0, ground := Go.Ground.phase }, { on := 1, ground := Go.Ground.phase }, { on := 2, ground := Go.Ground.phase }, { on := 3, ground := Go.Ground.phase }, { on := 4, ground := Go.Ground.phase }, { on := 5, ground := Go.Ground.phase }, { on := 6, ground := Go.Ground.phase }, { on := 7, ground := Go.Ground.phase }, { on := 8, ground := Go.Ground.phase }, { on := 9, ground := Go.Ground.phase }, { on := 10, ground := Go.Ground.phase }, { on := 11, ground := Go.Ground.phase }, { on := 12, ground := Go.Ground.phase }, { on := 13, ground := Go.Ground.phase }, { on := 14, ground := Go.Ground.phase }, { on := 15, ground := Go.Ground.phase }, { on := 16, ground := Go.Ground.textOnly Go.Departure.lateStores }, { on := 17, ground := Go.Ground.phase }], guard := none }) (by kernel_rfl) rfl (fun K hK => ?_)
      refine step_value_g (by rfl) (v2) (w' := W4) (by go_simp) ?_
      refine hK.out _ _ (fun _ => hS3) ?_
      clear hK K
      try simp only [Act.put, List.setIfInBounds_toArray, List.set_cons_zero, List.set_cons_succ]
      refine wpAnyX_one (i := 19) (o := { dst := some 7, op := Go.Op.assign (Go.Operand.tmp 29), type := 4, pos := "draft.go:33", after := #[{ on := 16, ground := Go.Ground.data }, { on := 18, ground := Go.Ground.chain }, { on := 0, ground := Go.Ground.phase }, { on := 1, ground := Go.Ground.phase }, { on := 2, ground := Go.Ground.phase }, { on := 3, ground := Go.Ground.phase }, { on := 4, ground := Go.Ground.phase }, { on := 5, ground := Go.Ground.phase }, { on := 6, ground := Go.Ground.phase }, { on := 7, ground := Go.Ground.phase }, { on := 8, ground := Go.Ground.phase }, { on := 9, ground := Go.Ground.phase }, { on := 10, ground := Go.Ground.phase }, { on := 11, ground := Go.Ground.phase }, { on := 12, ground := Go.Ground.phase }, { on := 13, ground := Go.Ground.phase }, { on := 14, ground := Go.Ground.phase }, { on := 15, ground := Go.Ground.phase }, { on := 16, ground := Go.Ground.phase }, { on := 17, ground := Go.Ground.phase }, { on := 18, ground := Go.Ground.phase }], guard := none }) (by kernel_rfl) rfl (fun K hK => ?_)
      refine step_value_g (by rfl) (.bool v3) (w' := W4) (by go_simp) ?_
      refine hK.out _ _ (fun _ => hS3) ?_
      clear hK K
      try simp only [Act.put, List.setIfInBounds_toArray, List.set_cons_zero, List.set_cons_succ]
      refine wpAnyX_end (by kernel_rfl) ?_
      exact ⟨rfl, W2.heap.size, v1, v2, v3, hv3, hB3, rfl⟩
    · rintro e a' W4 ⟨rfl, Ba, v1, v2, v3, hv3, hB3, rfl⟩
      dsimp only
      obtain ⟨hD4, hs4⟩ := HS.out W4 hB3
      have hld := Tryz.dload_view hD4
      have HB4 := Lib.hid (HB.out.trans (hB3.mono HB.out.size))
      have HD4 := Lib.hid hD4
      have HS4 := Lib.hid hs4
      have HV3 := Lib.hid hv3
      clear hB3 hD4 hs4 hv3
      cases v3
      · go_wp2_with (first | (refine wpList_loadW (by rfl) _ _ rfl ⟨D, 0, none⟩ _ rfl hld ?_) | (go_at_call 37; refine (HFu _).out.mono ?_; rintro e w5 ⟨rfl, hB5⟩))
        simp only [xor_mask (fm_lt g)]
        have hB5c := HB4.out.trans (hB5.mono HB4.out.size)
        have hD5 := HD4.out.below hB5 (Rows8.lt HD4.out)
        have hs5 := HS4.out.below hB5 HS4.out.lt
        have HB5 := Lib.hid hB5c
        have HD5 := Lib.hid hD5
        have HS5 := Lib.hid hs5
        have hfst := Tryz.First_any (255 - fm g) (by omega) w5
        rw [show lanesOf (255 - fm g) = frl g from rfl] at hfst
        clear hB5 hB5c hD5 hs5 hld
        cases hf : frl g with
        | nil =>
          have HE6 : Hid (putE g s = 6) := Lib.hid (by rw [HE.out, ← HV3.out, if_neg (by decide), if_pos hf])
          rw [hf] at hfst
          unfold firstV at hfst
          have HFst := Lib.hid hfst
          clear hf hfst
          refine HFst.out.mono ?_
          rintro e w6 ⟨rfl, hB6⟩
          have HB6 := Lib.hid (HB5.out.trans (hB6.mono HB5.out.size))
          clear hB6
          go_wp2_with fail
          go_ret
          exact ⟨by rw [HE6.out]; rfl, But.of_below HB6.out, by rw [HE6.out]; intro h; cases h⟩
        | cons y l =>
          have HE0 : Hid (putE g s = 0) := Lib.hid (by rw [HE.out, ← HV3.out, if_neg (by decide), if_neg (by rw [hf]; simp)])
          have HPL : Hid (putL g = (y : Nat)) := Lib.hid (by unfold putL; rw [hf])
          have HFE : Hid (fillE g.c ((y : Nat) : Int) s.h2 = 0) := Lib.hid (fillE_free (by rw [hf]; simp) H2.out)
          have HFS := Lib.hid (show fillS g.c ((y : Nat) : Int) s.h2 = setB g.c y s.h2 from by unfold fillS; simp)
          rw [hf] at hfst
          unfold firstV at hfst
          have HFst := Lib.hid hfst
          clear hf hfst
          refine HFst.out.mono ?_
          rintro e w6 ⟨rfl, hB6⟩
          have hD6 := HD5.out.below hB6 (Rows8.lt HD5.out)
          have hs6 := HS5.out.below hB6 HS5.out.lt
          have hB6c := HB5.out.trans (hB6.mono HB5.out.size)
          have hyl : ¬ (8 : Int) ≤ ((y : Nat) : Int) := by have := y.isLt; omega
          have hy8 : (y : Nat) < 8 := y.isLt
          clear hB6
          go_wp2_with fail
          refine wp_region_X (fun W' => Rows8 W' w.heap.size 30 (sc s)) 25 (by kernel_rfl) ?_
          have hD7 : DAt w6.drew D g lane := Rows8.drew hD6
          have hs7 := hs6.drew
          have hB7 := hB6c.drew
          generalize w6.drew = W7 at *
          clear hD6 hs6 hB6c
          refine wpAnyN_take (i := 0) (oi := { dst := some 43, op := Go.Op.move (Go.Operand.tmp 0), type := 83, pos := "draft.go:40", after := #[], guard := none }) (v := .pointer (some ⟨D, 0, none⟩)) rfl (by decide) (by kernel_rfl) (by kernel_rfl) (by kernel_rfl) (fun _ _ _ h => h) (Or.inl ⟨by rfl, ?_⟩) hs7 ?_
          · intro W9 hS9
            have s0 : W9.cell? ⟨w.heap.size, 0, none⟩ = some (.int .u64 (s.key : Nat)) := hS9.cell 0
            have s1 : W9.cell? ⟨w.heap.size, 1, none⟩ = some (.int .u64 (s.val : Nat)) := hS9.cell 1
            have s2 : W9.cell? ⟨w.heap.size, 2, none⟩ = some (.int .u8 (s.h2 : Nat)) := hS9.cell 2
            clear hS9
            go_simp
          try simp only [Act.put, List.setIfInBounds_toArray, List.set_cons_zero, List.set_cons_succ]
          refine wpAnyN_take (i := 1) (oi := { dst := some 44, op := Go.Op.move (Go.Operand.tmp 0), type := 83, pos := "draft.go:40", after := #[{ on := 12, ground := Go.Ground.gcOnly Go.Departure.lateStores }], guard := none }) (v := .pointer (some ⟨D, 0, none⟩)) rfl (by decide) (by kernel_rfl) (by kernel_rfl) (by kernel_rfl) (fun _ _ _ h => h) (Or.inl ⟨by rfl, ?_⟩) hs7 ?_
          · intro W9 hS9
            have s0 : W9.cell? ⟨w.heap.size, 0, none⟩ = some (.int .u64 (s.key : Nat)) := hS9.cell 0
            have s1 : W9.cell? ⟨w.heap.size, 1, none⟩ = some (.int .u64 (s.val : Nat)) := hS9.cell 1
            have s2 : W9.cell? ⟨w.heap.size, 2, none⟩ = some (.int .u8 (s.h2 : Nat)) := hS9.cell 2
            clear hS9
            go_simp
          try simp only [Act.put, List.setIfInBounds_toArray, List.set_cons_zero, List.set_cons_succ]
          refine wpAnyN_take (i := 2) (oi := { dst := some 45, op := Go.Op.move (Go.Operand.tmp 8), type := 3, pos := "draft.go:40", after := #[{ on := 12, ground := Go.Ground.gcOnly Go.Departure.lateStores }], guard := none }) (v := .int .i64 (y : Nat)) rfl (by decide) (by kernel_rfl) (by kernel_rfl) (by kernel_rfl) (fun _ _ _ h => h) (Or.inl ⟨by rfl, ?_⟩) hs7 ?_
          · intro W9 hS9
            have s0 : W9.cell? ⟨w.heap.size, 0, none⟩ = some (.int .u64 (s.key : Nat)) := hS9.cell 0
            have s1 : W9.cell? ⟨w.heap.size, 1, none⟩ = some (.int .u64 (s.val : Nat)) := hS9.cell 1
            have s2 : W9.cell? ⟨w.heap.size, 2, none⟩ = some (.int .u8 (s.h2 : Nat)) := hS9.cell 2
            clear hS9
            go_simp
          try simp only [Act.put, List.setIfInBounds_toArray, List.set_cons_zero, List.set_cons_succ]
          refine wpAnyN_take (i := 3) (oi := { dst := some 46, op := Go.Op.move (Go.Operand.tmp 0), type := 83, pos := "draft.go:40", after := #[{ on := 18, ground := Go.Ground.gcOnly Go.Departure.lateStores }], guard := none }) (v := .pointer (some ⟨D, 0, none⟩)) rfl (by decide) (by kernel_rfl) (by kernel_rfl) (by kernel_rfl) (fun _ _ _ h => h) (Or.inl ⟨by rfl, ?_⟩) hs7 ?_
          · intro W9 hS9
            have s0 : W9.cell? ⟨w.heap.size, 0, none⟩ = some (.int .u64 (s.key : Nat)) := hS9.cell 0
            have s1 : W9.cell? ⟨w.heap.size, 1, none⟩ = some (.int .u64 (s.val : Nat)) := hS9.cell 1
            have s2 : W9.cell? ⟨w.heap.size, 2, none⟩ = some (.int .u8 (s.h2 : Nat)) := hS9.cell 2
            clear hS9
            go_simp
          try simp only [Act.put, List.setIfInBounds_toArray, List.set_cons_zero, List.set_cons_succ]
          refine wpAnyN_take (i := 4) (oi := { dst := some 47, op := Go.Op.move (Go.Operand.tmp 8), type := 3, pos := "draft.go:40", after := #[{ on := 18, ground := Go.Ground.gcOnly Go.Departure.lateStores }], guard := none }) (v := .int .i64 (y : Nat)) rfl (by decide) (by kernel_rfl) (by kernel_rfl) (by kernel_rfl) (fun _ _ _ h => h) (Or.inl ⟨by rfl, ?_⟩) hs7 ?_
          · intro W9 hS9
            have s0 : W9.cell? ⟨w.heap.size, 0, none⟩ = some (.int .u64 (s.key : Nat)) := hS9.cell 0
            have s1 : W9.cell? ⟨w.heap.size, 1, none⟩ = some (.int .u64 (s.val : Nat)) := hS9.cell 1
            have s2 : W9.cell? ⟨w.heap.size, 2, none⟩ = some (.int .u8 (s.h2 : Nat)) := hS9.cell 2
            clear hS9
            go_simp
          try simp only [Act.put, List.setIfInBounds_toArray, List.set_cons_zero, List.set_cons_succ]
          refine wpAnyN_take (i := 5) (oi := { dst := some 48, op := Go.Op.move (Go.Operand.tmp 8), type := 3, pos := "draft.go:40", after := #[], guard := none }) (v := .int .i64 (y : Nat)) rfl (by decide) (by kernel_rfl) (by kernel_rfl) (by kernel_rfl) (fun _ _ _ h => h) (Or.inl ⟨by rfl, ?_⟩) hs7 ?_
          · intro W9 hS9
            have s0 : W9.cell? ⟨w.heap.size, 0, none⟩ = some (.int .u64 (s.key : Nat)) := hS9.cell 0
            have s1 : W9.cell? ⟨w.heap.size, 1, none⟩ = some (.int .u64 (s.val : Nat)) := hS9.cell 1
            have s2 : W9.cell? ⟨w.heap.size, 2, none⟩ = some (.int .u8 (s.h2 : Nat)) := hS9.cell 2
            clear hS9
            go_simp
          try simp only [Act.put, List.setIfInBounds_toArray, List.set_cons_zero, List.set_cons_succ]
          refine wpAnyN_take (i := 6) (oi := { dst := some 49, op := Go.Op.fieldAddr 30 (Go.Operand.tmp 3) 0, type := 0, pos := "draft.go:40", after := #[{ on := 12, ground := Go.Ground.gcOnly Go.Departure.lateStores }], guard := none }) (v := .pointer (some ⟨w.heap.size, 0, none⟩)) rfl (by decide) (by kernel_rfl) (by kernel_rfl) (by kernel_rfl) (fun _ _ _ h => h) (Or.inl ⟨by rfl, ?_⟩) hs7 ?_
          · intro W9 hS9
            have s0 : W9.cell? ⟨w.heap.size, 0, none⟩ = some (.int .u64 (s.key : Nat)) := hS9.cell 0
            have s1 : W9.cell? ⟨w.heap.size, 1, none⟩ = some (.int .u64 (s.val : Nat)) := hS9.cell 1
            have s2 : W9.cell? ⟨w.heap.size, 2, none⟩ = some (.int .u8 (s.h2 : Nat)) := hS9.cell 2
            clear hS9
            go_simp
          try simp only [Act.put, List.setIfInBounds_toArray, List.set_cons_zero, List.set_cons_succ]
          refine wpAnyN_take (i := 7) (oi := { dst := some 50, op := Go.Op.load 22 (Go.Operand.tmp 49), type := 22, pos := "draft.go:40", after := #[{ on := 6, ground := Go.Ground.data }, { on := 12, ground := Go.Ground.gcOnly Go.Departure.lateStores }], guard := none }) (v := .int .u64 (s.key : Nat)) rfl (by decide) (by kernel_rfl) (by kernel_rfl) (by kernel_rfl) (fun _ _ _ h => h) (Or.inl ⟨by rfl, ?_⟩) hs7 ?_
          · intro W9 hS9
            have s0 : W9.cell? ⟨w.heap.size, 0, none⟩ = some (.int .u64 (s.key : Nat)) := hS9.cell 0
            have s1 : W9.cell? ⟨w.heap.size, 1, none⟩ = some (.int .u64 (s.val : Nat)) := hS9.cell 1
            have s2 : W9.cell? ⟨w.heap.size, 2, none⟩ = some (.int .u8 (s.h2 : Nat)) := hS9.cell 2
            clear hS9
            go_simp
          try simp only [Act.put, List.setIfInBounds_toArray, List.set_cons_zero, List.set_cons_succ]
          refine wpAnyN_take (i := 8) (oi := { dst := some 51, op := Go.Op.fieldAddr 30 (Go.Operand.tmp 3) 1, type := 0, pos := "draft.go:40", after := #[{ on := 18, ground := Go.Ground.gcOnly Go.Departure.lateStores }], guard := none }) (v := .pointer (some ⟨w.heap.size, 1, none⟩)) rfl (by decide) (by kernel_rfl) (by kernel_rfl) (by kernel_rfl) (fun _ _ _ h => h) (Or.inl ⟨by rfl, ?_⟩) hs7 ?_
          · intro W9 hS9
            have s0 : W9.cell? ⟨w.heap.size, 0, none⟩ = some (.int .u64 (s.key : Nat)) := hS9.cell 0
            have s1 : W9.cell? ⟨w.heap.size, 1, none⟩ = some (.int .u64 (s.val : Nat)) := hS9.cell 1
            have s2 : W9.cell? ⟨w.heap.size, 2, none⟩ = some (.int .u8 (s.h2 : Nat)) := hS9.cell 2
            clear hS9
            go_simp
          try simp only [Act.put, List.setIfInBounds_toArray, List.set_cons_zero, List.set_cons_succ]
          refine wpAnyN_take (i := 9) (oi := { dst := some 52, op := Go.Op.load 22 (Go.Operand.tmp 51), type := 22, pos := "draft.go:40", after := #[{ on := 8, ground := Go.Ground.data }, { on := 18, ground := Go.Ground.gcOnly Go.Departure.lateStores }], guard := none }) (v := .int .u64 (s.val : Nat)) rfl (by decide) (by kernel_rfl) (by kernel_rfl) (by kernel_rfl) (fun _ _ _ h => h) (Or.inl ⟨by rfl, ?_⟩) hs7 ?_
          · intro W9 hS9
            have s0 : W9.cell? ⟨w.heap.size, 0, none⟩ = some (.int .u64 (s.key : Nat)) := hS9.cell 0
            have s1 : W9.cell? ⟨w.heap.size, 1, none⟩ = some (.int .u64 (s.val : Nat)) := hS9.cell 1
            have s2 : W9.cell? ⟨w.heap.size, 2, none⟩ = some (.int .u8 (s.h2 : Nat)) := hS9.cell 2
            clear hS9
            go_simp
          try simp only [Act.put, List.setIfInBounds_toArray, List.set_cons_zero, List.set_cons_succ]
          refine wpAnyN_take (i := 10) (oi := { dst := some 53, op := Go.Op.nilCheck (Go.Operand.tmp 43), type := 0, pos := "draft.go:40", after := #[{ on := 0, ground := Go.Ground.data }, { on := 0, ground := Go.Ground.phase }, { on := 1, ground := Go.Ground.textOnly Go.Departure.lateStores }, { on := 2, ground := Go.Ground.textOnly Go.Departure.lateStores }, { on := 3, ground := Go.Ground.textOnly Go.Departure.lateStores }, { on := 4, ground := Go.Ground.textOnly Go.Departure.lateStores }, { on := 5, ground := Go.Ground.phase }, { on := 6, ground := Go.Ground.textOnly Go.Departure.lateStores }, { on := 7, ground := Go.Ground.textOnly Go.Departure.lateStores }, { on := 8, ground := Go.Ground.textOnly Go.Departure.lateStores }, { on := 9, ground := Go.Ground.textOnly Go.Departure.lateStores }], guard := none }) (v := .pointer (some ⟨D, 0, none⟩)) rfl (by decide) (by kernel_rfl) (by kernel_rfl) (by kernel_rfl) (fun _ _ _ h => h) (Or.inl ⟨by rfl, ?_⟩) hs7 ?_
          · intro W9 hS9
            have s0 : W9.cell? ⟨w.heap.size, 0, none⟩ = some (.int .u64 (s.key : Nat)) := hS9.cell 0
            have s1 : W9.cell? ⟨w.heap.size, 1, none⟩ = some (.int .u64 (s.val : Nat)) := hS9.cell 1
            have s2 : W9.cell? ⟨w.heap.size, 2, none⟩ = some (.int .u8 (s.h2 : Nat)) := hS9.cell 2
            clear hS9
            go_simp
          try simp only [Act.put, List.setIfInBounds_toArray, List.set_cons_zero, List.set_cons_succ]
          refine wpAnyN_take (i := 11) (oi := { dst := some 54, op := Go.Op.fieldAddr 59 (Go.Operand.tmp 53) 1, type := 0, pos := "draft.go:40", after := #[{ on := 10, ground := Go.Ground.data }, { on := 0, ground := Go.Ground.phase }, { on := 1, ground := Go.Ground.textOnly Go.Departure.lateStores }, { on := 2, ground := Go.Ground.textOnly Go.Departure.lateStores }, { on := 3, ground := Go.Ground.textOnly Go.Departure.lateStores }, { on := 4, ground := Go.Ground.textOnly Go.Departure.lateStores }, { on := 5, ground := Go.Ground.phase }, { on := 6, ground := Go.Ground.textOnly Go.Departure.lateStores }, { on := 7, ground := Go.Ground.textOnly Go.Departure.lateStores }, { on := 8, ground := Go.Ground.textOnly Go.Departure.lateStores }, { on := 9, ground := Go.Ground.textOnly Go.Departure.lateStores }], guard := none }) (v := .pointer (some ⟨D, 17, none⟩)) rfl (by decide) (by kernel_rfl) (by kernel_rfl) (by kernel_rfl) (fun _ _ _ h => h) (Or.inl ⟨by rfl, ?_⟩) hs7 ?_
          · intro W9 hS9
            have s0 : W9.cell? ⟨w.heap.size, 0, none⟩ = some (.int .u64 (s.key : Nat)) := hS9.cell 0
            have s1 : W9.cell? ⟨w.heap.size, 1, none⟩ = some (.int .u64 (s.val : Nat)) := hS9.cell 1
            have s2 : W9.cell? ⟨w.heap.size, 2, none⟩ = some (.int .u8 (s.h2 : Nat)) := hS9.cell 2
            clear hS9
            go_simp
          try simp only [Act.put, List.setIfInBounds_toArray, List.set_cons_zero, List.set_cons_succ]
          refine wpAnyN_take (i := 13) (oi := { dst := some 55, op := Go.Op.nilCheck (Go.Operand.tmp 44), type := 0, pos := "draft.go:40", after := #[{ on := 1, ground := Go.Ground.data }], guard := none }) (v := .pointer (some ⟨D, 0, none⟩)) rfl (by decide) (by kernel_rfl) (by kernel_rfl) (by kernel_rfl) (fun _ _ _ h => h) (Or.inl ⟨by rfl, ?_⟩) hs7 ?_
          · intro W9 hS9
            have s0 : W9.cell? ⟨w.heap.size, 0, none⟩ = some (.int .u64 (s.key : Nat)) := hS9.cell 0
            have s1 : W9.cell? ⟨w.heap.size, 1, none⟩ = some (.int .u64 (s.val : Nat)) := hS9.cell 1
            have s2 : W9.cell? ⟨w.heap.size, 2, none⟩ = some (.int .u8 (s.h2 : Nat)) := hS9.cell 2
            clear hS9
            go_simp
          try simp only [Act.put, List.setIfInBounds_toArray, List.set_cons_zero, List.set_cons_succ]
          refine wpAnyN_take (i := 14) (oi := { dst := some 56, op := Go.Op.fieldAddr 59 (Go.Operand.tmp 55) 0, type := 0, pos := "draft.go:40", after := #[{ on := 13, ground := Go.Ground.data }], guard := none }) (v := .pointer (some ⟨D, 0, none⟩)) rfl (by decide) (by kernel_rfl) (by kernel_rfl) (by kernel_rfl) (fun _ _ _ h => h) (Or.inl ⟨by rfl, ?_⟩) hs7 ?_
          · intro W9 hS9
            have s0 : W9.cell? ⟨w.heap.size, 0, none⟩ = some (.int .u64 (s.key : Nat)) := hS9.cell 0
            have s1 : W9.cell? ⟨w.heap.size, 1, none⟩ = some (.int .u64 (s.val : Nat)) := hS9.cell 1
            have s2 : W9.cell? ⟨w.heap.size, 2, none⟩ = some (.int .u8 (s.h2 : Nat)) := hS9.cell 2
            clear hS9
            go_simp
          try simp only [Act.put, List.setIfInBounds_toArray, List.set_cons_zero, List.set_cons_succ]
          refine wpAnyN_take (i := 15) (oi := { dst := some 57, op := Go.Op.fieldAddr 57 (Go.Operand.tmp 56) 0, type := 0, pos := "draft.go:40", after := #[{ on := 14, ground := Go.Ground.data }], guard := none }) (v := .pointer (some ⟨D, 0, none⟩)) rfl (by decide) (by kernel_rfl) (by kernel_rfl) (by kernel_rfl) (fun _ _ _ h => h) (Or.inl ⟨by rfl, ?_⟩) hs7 ?_
          · intro W9 hS9
            have s0 : W9.cell? ⟨w.heap.size, 0, none⟩ = some (.int .u64 (s.key : Nat)) := hS9.cell 0
            have s1 : W9.cell? ⟨w.heap.size, 1, none⟩ = some (.int .u64 (s.val : Nat)) := hS9.cell 1
            have s2 : W9.cell? ⟨w.heap.size, 2, none⟩ = some (.int .u8 (s.h2 : Nat)) := hS9.cell 2
            clear hS9
            go_simp
          try simp only [Act.put, List.setIfInBounds_toArray, List.set_cons_zero, List.set_cons_succ]
          refine wpAnyN_take (i := 16) (oi := { dst := some 58, op := Go.Op.fieldAddr 25 (Go.Operand.tmp 57) 1, type := 0, pos := "draft.go:40", after := #[{ on := 15, ground := Go.Ground.data }], guard := none }) (v := .pointer (some ⟨D, 1, none⟩)) rfl (by decide) (by kernel_rfl) (by kernel_rfl) (by kernel_rfl) (fun _ _ _ h => h) (Or.inl ⟨by rfl, ?_⟩) hs7 ?_
          · intro W9 hS9
            have s0 : W9.cell? ⟨w.heap.size, 0, none⟩ = some (.int .u64 (s.key : Nat)) := hS9.cell 0
            have s1 : W9.cell? ⟨w.heap.size, 1, none⟩ = some (.int .u64 (s.val : Nat)) := hS9.cell 1
            have s2 : W9.cell? ⟨w.heap.size, 2, none⟩ = some (.int .u8 (s.h2 : Nat)) := hS9.cell 2
            clear hS9
            go_simp
          try simp only [Act.put, List.setIfInBounds_toArray, List.set_cons_zero, List.set_cons_succ]
          refine wpAnyN_take (i := 19) (oi := { dst := some 60, op := Go.Op.nilCheck (Go.Operand.tmp 46), type := 0, pos := "draft.go:40", after := #[{ on := 3, ground := Go.Ground.data }], guard := none }) (v := .pointer (some ⟨D, 0, none⟩)) rfl (by decide) (by kernel_rfl) (by kernel_rfl) (by kernel_rfl) (fun _ _ _ h => h) (Or.inl ⟨by rfl, ?_⟩) hs7 ?_
          · intro W9 hS9
            have s0 : W9.cell? ⟨w.heap.size, 0, none⟩ = some (.int .u64 (s.key : Nat)) := hS9.cell 0
            have s1 : W9.cell? ⟨w.heap.size, 1, none⟩ = some (.int .u64 (s.val : Nat)) := hS9.cell 1
            have s2 : W9.cell? ⟨w.heap.size, 2, none⟩ = some (.int .u8 (s.h2 : Nat)) := hS9.cell 2
            clear hS9
            go_simp
          try simp only [Act.put, List.setIfInBounds_toArray, List.set_cons_zero, List.set_cons_succ]
          refine wpAnyN_take (i := 20) (oi := { dst := some 61, op := Go.Op.fieldAddr 59 (Go.Operand.tmp 60) 0, type := 0, pos := "draft.go:40", after := #[{ on := 19, ground := Go.Ground.data }], guard := none }) (v := .pointer (some ⟨D, 0, none⟩)) rfl (by decide) (by kernel_rfl) (by kernel_rfl) (by kernel_rfl) (fun _ _ _ h => h) (Or.inl ⟨by rfl, ?_⟩) hs7 ?_
          · intro W9 hS9
            have s0 : W9.cell? ⟨w.heap.size, 0, none⟩ = some (.int .u64 (s.key : Nat)) := hS9.cell 0
            have s1 : W9.cell? ⟨w.heap.size, 1, none⟩ = some (.int .u64 (s.val : Nat)) := hS9.cell 1
            have s2 : W9.cell? ⟨w.heap.size, 2, none⟩ = some (.int .u8 (s.h2 : Nat)) := hS9.cell 2
            clear hS9
            go_simp
          try simp only [Act.put, List.setIfInBounds_toArray, List.set_cons_zero, List.set_cons_succ]
          refine wpAnyN_take (i := 21) (oi := { dst := some 62, op := Go.Op.fieldAddr 57 (Go.Operand.tmp 61) 0, type := 0, pos := "draft.go:40", after := #[{ on := 20, ground := Go.Ground.data }], guard := none }) (v := .pointer (some ⟨D, 0, none⟩)) rfl (by decide) (by kernel_rfl) (by kernel_rfl) (by kernel_rfl) (fun _ _ _ h => h) (Or.inl ⟨by rfl, ?_⟩) hs7 ?_
          · intro W9 hS9
            have s0 : W9.cell? ⟨w.heap.size, 0, none⟩ = some (.int .u64 (s.key : Nat)) := hS9.cell 0
            have s1 : W9.cell? ⟨w.heap.size, 1, none⟩ = some (.int .u64 (s.val : Nat)) := hS9.cell 1
            have s2 : W9.cell? ⟨w.heap.size, 2, none⟩ = some (.int .u8 (s.h2 : Nat)) := hS9.cell 2
            clear hS9
            go_simp
          try simp only [Act.put, List.setIfInBounds_toArray, List.set_cons_zero, List.set_cons_succ]
          refine wpAnyN_take (i := 22) (oi := { dst := some 63, op := Go.Op.fieldAddr 25 (Go.Operand.tmp 62) 2, type := 0, pos := "draft.go:40", after := #[{ on := 21, ground := Go.Ground.data }], guard := none }) (v := .pointer (some ⟨D, 9, none⟩)) rfl (by decide) (by kernel_rfl) (by kernel_rfl) (by kernel_rfl) (fun _ _ _ h => h) (Or.inl ⟨by rfl, ?_⟩) hs7 ?_
          · intro W9 hS9
            have s0 : W9.cell? ⟨w.heap.size, 0, none⟩ = some (.int .u64 (s.key : Nat)) := hS9.cell 0
            have s1 : W9.cell? ⟨w.heap.size, 1, none⟩ = some (.int .u64 (s.val : Nat)) := hS9.cell 1
            have s2 : W9.cell? ⟨w.heap.size, 2, none⟩ = some (.int .u8 (s.h2 : Nat)) := hS9.cell 2
            clear hS9
            go_simp
          try simp only [Act.put, List.setIfInBounds_toArray, List.set_cons_zero, List.set_cons_succ]
          refine wpAnyX_one (i := 12) (o := { dst := none, op := Go.Op.store 3 (Go.Operand.tmp 54) (Go.Operand.tmp 48), type := 0, pos := "draft.go:40", after := #[{ on := 11, ground := Go.Ground.data }, { on := 5, ground := Go.Ground.data }, { on := 0, ground := Go.Ground.phase }, { on := 1, ground := Go.Ground.textOnly Go.Departure.lateStores }, { on := 2, ground := Go.Ground.textOnly Go.Departure.lateStores }, { on := 3, ground := Go.Ground.textOnly Go.Departure.lateStores }, { on := 4, ground := Go.Ground.textOnly Go.Departure.lateStores }, { on := 5, ground := Go.Ground.phase }, { on := 6, ground := Go.Ground.textOnly Go.Departure.lateStores }, { on := 7, ground := Go.Ground.textOnly Go.Departure.lateStores }, { on := 8, ground := Go.Ground.textOnly Go.Departure.lateStores }, { on := 9, ground := Go.Ground.textOnly Go.Departure.lateStores }], guard := none }) (by kernel_rfl) rfl (fun K hK => ?_)
          have cD7 := (Rows8.cell (show Rows8 W7 D 59 _ from hD7) 17).trans (dc_17 _ _)
          have fD7 := Rows8.frozen (show Rows8 W7 D 59 _ from hD7) (17)
          refine step_skip_g (by rfl) (w' := (W7).setCell ⟨D, 17, none⟩ (.int .i64 (y : Nat))) (by go_simp) ?_
          have hD8 := hD7.lane (y : Nat)
          have hs8 := hs7.setOther (a := ⟨D, 17, none⟩) (by show D ≠ w.heap.size; omega) (.int .i64 (y : Nat))
          clear cD7 fD7
          refine hK.out _ _ (fun _ => hs8) ?_
          clear hK K
          try simp only [Act.put, List.setIfInBounds_toArray, List.set_cons_zero, List.set_cons_succ]
          refine wpAnyN_take (i := 17) (oi := { dst := some 59, op := Go.Op.indexAddr 23 (Go.Operand.tmp 58) (Go.Operand.tmp 45), type := 0, pos := "draft.go:40", after := #[{ on := 16, ground := Go.Ground.data }, { on := 2, ground := Go.Ground.data }, { on := 0, ground := Go.Ground.phase }, { on := 1, ground := Go.Ground.phase }, { on := 2, ground := Go.Ground.phase }, { on := 3, ground := Go.Ground.textOnly Go.Departure.lateStores }, { on := 4, ground := Go.Ground.textOnly Go.Departure.lateStores }, { on := 5, ground := Go.Ground.phase }, { on := 6, ground := Go.Ground.phase }, { on := 7, ground := Go.Ground.phase }, { on := 8, ground := Go.Ground.textOnly Go.Departure.lateStores }, { on := 9, ground := Go.Ground.textOnly Go.Departure.lateStores }, { on := 10, ground := Go.Ground.phase }, { on := 11, ground := Go.Ground.phase }, { on := 12, ground := Go.Ground.phase }], guard := none }) (v := .pointer (some ⟨D, 1 + (y : Nat), none⟩)) rfl (by decide) (by kernel_rfl) (by kernel_rfl) (by kernel_rfl) (fun _ _ _ h => h) (Or.inl ⟨by rfl, ?_⟩) hs8 ?_
          · intro W9 hS9
            have s0 : W9.cell? ⟨w.heap.size, 0, none⟩ = some (.int .u64 (s.key : Nat)) := hS9.cell 0
            have s1 : W9.cell? ⟨w.heap.size, 1, none⟩ = some (.int .u64 (s.val : Nat)) := hS9.cell 1
            have s2 : W9.cell? ⟨w.heap.size, 2, none⟩ = some (.int .u8 (s.h2 : Nat)) := hS9.cell 2
            clear hS9
            go_simp
          try simp only [Act.put, List.setIfInBounds_toArray, List.set_cons_zero, List.set_cons_succ]
          refine wpAnyX_one (i := 18) (o := { dst := none, op := Go.Op.store 22 (Go.Operand.tmp 59) (Go.Operand.tmp 50), type := 0, pos := "draft.go:40", after := #[{ on := 17, ground := Go.Ground.data }, { on := 7, ground := Go.Ground.data }, { on := 12, ground := Go.Ground.chain }, { on := 0, ground := Go.Ground.phase }, { on := 1, ground := Go.Ground.phase }, { on := 2, ground := Go.Ground.phase }, { on := 3, ground := Go.Ground.textOnly Go.Departure.lateStores }, { on := 4, ground := Go.Ground.textOnly Go.Departure.lateStores }, { on := 5, ground := Go.Ground.phase }, { on := 6, ground := Go.Ground.phase }, { on := 7, ground := Go.Ground.phase }, { on := 8, ground := Go.Ground.textOnly Go.Departure.lateStores }, { on := 9, ground := Go.Ground.textOnly Go.Departure.lateStores }, { on := 10, ground := Go.Ground.phase }, { on := 11, ground := Go.Ground.phase }, { on := 12, ground := Go.Ground.phase }], guard := none }) (by kernel_rfl) rfl (fun K hK => ?_)
          have cD8 := (Rows8.cell (show Rows8 (W7.setCell ⟨D, 17, none⟩ (.int .i64 (y : Nat))) D 59 _ from hD8) (1 + (y : Nat))).trans (dc_k _ _ y hy8)
          have fD8 := Rows8.frozen (show Rows8 (W7.setCell ⟨D, 17, none⟩ (.int .i64 (y : Nat))) D 59 _ from hD8) (1 + (y : Nat))
          refine step_skip_g (by rfl) (w' := ((W7.setCell ⟨D, 17, none⟩ (.int .i64 (y : Nat)))).setCell ⟨D, 1 + (y : Nat), none⟩ (.int .u64 (s.key : Nat))) (by go_simp) ?_
          have hD9 := hD8.key y hy8 s.key
          have hs9 := hs8.setOther (a := ⟨D, 1 + (y : Nat), none⟩) (by show D ≠ w.heap.size; omega) (.int .u64 (s.key : Nat))
          clear cD8 fD8
          refine hK.out _ _ (fun _ => hs9) ?_
          clear hK K
          try simp only [Act.put, List.setIfInBounds_toArray, List.set_cons_zero, List.set_cons_succ]
          refine wpAnyN_take (i := 23) (oi := { dst := some 64, op := Go.Op.indexAddr 23 (Go.Operand.tmp 63) (Go.Operand.tmp 47), type := 0, pos := "draft.go:40", after := #[{ on := 22, ground := Go.Ground.data }, { on := 4, ground := Go.Ground.data }, { on := 0, ground := Go.Ground.phase }, { on := 1, ground := Go.Ground.phase }, { on := 2, ground := Go.Ground.phase }, { on := 3, ground := Go.Ground.phase }, { on := 4, ground := Go.Ground.phase }, { on := 5, ground := Go.Ground.phase }, { on := 6, ground := Go.Ground.phase }, { on := 7, ground := Go.Ground.phase }, { on := 8, ground := Go.Ground.phase }, { on := 9, ground := Go.Ground.phase }, { on := 10, ground := Go.Ground.phase }, { on := 11, ground := Go.Ground.phase }, { on := 12, ground := Go.Ground.phase }, { on := 13, ground := Go.Ground.phase }, { on := 14, ground := Go.Ground.phase }, { on := 15, ground := Go.Ground.phase }, { on := 16, ground := Go.Ground.phase }, { on := 17, ground := Go.Ground.phase }, { on := 18, ground := Go.Ground.phase }], guard := none }) (v := .pointer (some ⟨D, 9 + (y : Nat), none⟩)) rfl (by decide) (by kernel_rfl) (by kernel_rfl) (by kernel_rfl) (fun _ _ _ h => h) (Or.inl ⟨by rfl, ?_⟩) hs9 ?_
          · intro W9 hS9
            have s0 : W9.cell? ⟨w.heap.size, 0, none⟩ = some (.int .u64 (s.key : Nat)) := hS9.cell 0
            have s1 : W9.cell? ⟨w.heap.size, 1, none⟩ = some (.int .u64 (s.val : Nat)) := hS9.cell 1
            have s2 : W9.cell? ⟨w.heap.size, 2, none⟩ = some (.int .u8 (s.h2 : Nat)) := hS9.cell 2
            clear hS9
            go_simp
          try simp only [Act.put, List.setIfInBounds_toArray, List.set_cons_zero, List.set_cons_succ]
          refine wpAnyX_one (i := 24) (o := { dst := none, op := Go.Op.store 22 (Go.Operand.tmp 64) (Go.Operand.tmp 52), type := 0, pos := "draft.go:40", after := #[{ on := 23, ground := Go.Ground.data }, { on := 9, ground := Go.Ground.data }, { on := 18, ground := Go.Ground.chain }, { on := 0, ground := Go.Ground.phase }, { on := 1, ground := Go.Ground.phase }, { on := 2, ground := Go.Ground.phase }, { on := 3, ground := Go.Ground.phase }, { on := 4, ground := Go.Ground.phase }, { on := 5, ground := Go.Ground.phase }, { on := 6, ground := Go.Ground.phase }, { on := 7, ground := Go.Ground.phase }, { on := 8, ground := Go.Ground.phase }, { on := 9, ground := Go.Ground.phase }, { on := 10, ground := Go.Ground.phase }, { on := 11, ground := Go.Ground.phase }, { on := 12, ground := Go.Ground.phase }, { on := 13, ground := Go.Ground.phase }, { on := 14, ground := Go.Ground.phase }, { on := 15, ground := Go.Ground.phase }, { on := 16, ground := Go.Ground.phase }, { on := 17, ground := Go.Ground.phase }, { on := 18, ground := Go.Ground.phase }], guard := none }) (by kernel_rfl) rfl (fun K hK => ?_)
          have cD9 := (Rows8.cell (show Rows8 ((W7.setCell ⟨D, 17, none⟩ (.int .i64 (y : Nat))).setCell ⟨D, 1 + (y : Nat), none⟩ (.int .u64 (s.key : Nat))) D 59 _ from hD9) (9 + (y : Nat))).trans (dc_v _ _ y hy8)
          have fD9 := Rows8.frozen (show Rows8 ((W7.setCell ⟨D, 17, none⟩ (.int .i64 (y : Nat))).setCell ⟨D, 1 + (y : Nat), none⟩ (.int .u64 (s.key : Nat))) D 59 _ from hD9) (9 + (y : Nat))
          refine step_skip_g (by rfl) (w' := (((W7.setCell ⟨D, 17, none⟩ (.int .i64 (y : Nat))).setCell ⟨D, 1 + (y : Nat), none⟩ (.int .u64 (s.key : Nat)))).setCell ⟨D, 9 + (y : Nat), none⟩ (.int .u64 (s.val : Nat))) (by go_simp) ?_
          have hD10 := hD9.val y hy8 s.val
          have hs10 := hs9.setOther (a := ⟨D, 9 + (y : Nat), none⟩) (by show D ≠ w.heap.size; omega) (.int .u64 (s.val : Nat))
          clear cD9 fD9
          refine hK.out _ _ (fun _ => hs10) ?_
          clear hK K
          try simp only [Act.put, List.setIfInBounds_toArray, List.set_cons_zero, List.set_cons_succ]
          refine wpAnyX_end (by kernel_rfl) ?_
          have hU10 : But w.heap.size D w (((W7.setCell ⟨D, 17, none⟩ (.int .i64 (y : Nat))).setCell ⟨D, 1 + (y : Nat), none⟩ (.int .u64 (s.key : Nat))).setCell ⟨D, 9 + (y : Nat), none⟩ (.int .u64 (s.val : Nat))) := (((But.of_below hB7).setCell 17 _).setCell (1 + (y : Nat)) _).setCell (9 + (y : Nat)) _
          generalize (((W7.setCell ⟨D, 17, none⟩ (.int .i64 (y : Nat))).setCell ⟨D, 1 + (y : Nat), none⟩ (.int .u64 (s.key : Nat))).setCell ⟨D, 9 + (y : Nat), none⟩ (.int .u64 (s.val : Nat))) = Wa at *
          clear hD7 hs7 hD8 hs8 hD9 hs9 hB7
          go_wp2_with fail
          refine wp_region_X (fun W' => Rows8 W' w.heap.size 30 (sc s)) 15 (by kernel_rfl) ?_
          have hDb : DAt Wa.drew D _ _ := Rows8.drew hD10
          have hsb := hs10.drew
          have hUb := hU10.drew
          generalize Wa.drew = Wb at *
          clear hD10 hs10 hU10
          refine wpAnyN_take (i := 0) (oi := { dst := some 65, op := Go.Op.move (Go.Operand.tmp 0), type := 83, pos := "draft.go:41", after := #[], guard := none }) (v := .pointer (some ⟨D, 0, none⟩)) rfl (by decide) (by kernel_rfl) (by kernel_rfl) (by kernel_rfl) (fun _ _ _ h => h) (Or.inl ⟨by rfl, ?_⟩) hsb ?_
          · intro W9 hS9
            have s0 : W9.cell? ⟨w.heap.size, 0, none⟩ = some (.int .u64 (s.key : Nat)) := hS9.cell 0
            have s1 : W9.cell? ⟨w.heap.size, 1, none⟩ = some (.int .u64 (s.val : Nat)) := hS9.cell 1
            have s2 : W9.cell? ⟨w.heap.size, 2, none⟩ = some (.int .u8 (s.h2 : Nat)) := hS9.cell 2
            clear hS9
            go_simp
          try simp only [Act.put, List.setIfInBounds_toArray, List.set_cons_zero, List.set_cons_succ]
          refine wpAnyN_take (i := 1) (oi := { dst := some 66, op := Go.Op.move (Go.Operand.tmp 0), type := 83, pos := "draft.go:41", after := #[], guard := none }) (v := .pointer (some ⟨D, 0, none⟩)) rfl (by decide) (by kernel_rfl) (by kernel_rfl) (by kernel_rfl) (fun _ _ _ h => h) (Or.inl ⟨by rfl, ?_⟩) hsb ?_
          · intro W9 hS9
            have s0 : W9.cell? ⟨w.heap.size, 0, none⟩ = some (.int .u64 (s.key : Nat)) := hS9.cell 0
            have s1 : W9.cell? ⟨w.heap.size, 1, none⟩ = some (.int .u64 (s.val : Nat)) := hS9.cell 1
            have s2 : W9.cell? ⟨w.heap.size, 2, none⟩ = some (.int .u8 (s.h2 : Nat)) := hS9.cell 2
            clear hS9
            go_simp
          try simp only [Act.put, List.setIfInBounds_toArray, List.set_cons_zero, List.set_cons_succ]
          refine wpAnyN_take (i := 2) (oi := { dst := some 67, op := Go.Op.nilCheck (Go.Operand.tmp 66), type := 0, pos := "draft.go:41", after := #[{ on := 1, ground := Go.Ground.data }], guard := none }) (v := .pointer (some ⟨D, 0, none⟩)) rfl (by decide) (by kernel_rfl) (by kernel_rfl) (by kernel_rfl) (fun _ _ _ h => h) (Or.inl ⟨by rfl, ?_⟩) hsb ?_
          · intro W9 hS9
            have s0 : W9.cell? ⟨w.heap.size, 0, none⟩ = some (.int .u64 (s.key : Nat)) := hS9.cell 0
            have s1 : W9.cell? ⟨w.heap.size, 1, none⟩ = some (.int .u64 (s.val : Nat)) := hS9.cell 1
            have s2 : W9.cell? ⟨w.heap.size, 2, none⟩ = some (.int .u8 (s.h2 : Nat)) := hS9.cell 2
            clear hS9
            go_simp
          try simp only [Act.put, List.setIfInBounds_toArray, List.set_cons_zero, List.set_cons_succ]
          refine wpAnyN_take (i := 3) (oi := { dst := some 68, op := Go.Op.fieldAddr 59 (Go.Operand.tmp 67) 0, type := 0, pos := "draft.go:41", after := #[{ on := 2, ground := Go.Ground.data }], guard := none }) (v := .pointer (some ⟨D, 0, none⟩)) rfl (by decide) (by kernel_rfl) (by kernel_rfl) (by kernel_rfl) (fun _ _ _ h => h) (Or.inl ⟨by rfl, ?_⟩) hsb ?_
          · intro W9 hS9
            have s0 : W9.cell? ⟨w.heap.size, 0, none⟩ = some (.int .u64 (s.key : Nat)) := hS9.cell 0
            have s1 : W9.cell? ⟨w.heap.size, 1, none⟩ = some (.int .u64 (s.val : Nat)) := hS9.cell 1
            have s2 : W9.cell? ⟨w.heap.size, 2, none⟩ = some (.int .u8 (s.h2 : Nat)) := hS9.cell 2
            clear hS9
            go_simp
          try simp only [Act.put, List.setIfInBounds_toArray, List.set_cons_zero, List.set_cons_succ]
          refine wpAnyN_take (i := 4) (oi := { dst := some 69, op := Go.Op.fieldAddr 57 (Go.Operand.tmp 68) 0, type := 0, pos := "draft.go:41", after := #[{ on := 3, ground := Go.Ground.data }], guard := none }) (v := .pointer (some ⟨D, 0, none⟩)) rfl (by decide) (by kernel_rfl) (by kernel_rfl) (by kernel_rfl) (fun _ _ _ h => h) (Or.inl ⟨by rfl, ?_⟩) hsb ?_
          · intro W9 hS9
            have s0 : W9.cell? ⟨w.heap.size, 0, none⟩ = some (.int .u64 (s.key : Nat)) := hS9.cell 0
            have s1 : W9.cell? ⟨w.heap.size, 1, none⟩ = some (.int .u64 (s.val : Nat)) := hS9.cell 1
            have s2 : W9.cell? ⟨w.heap.size, 2, none⟩ = some (.int .u8 (s.h2 : Nat)) := hS9.cell 2
            clear hS9
            go_simp
          try simp only [Act.put, List.setIfInBounds_toArray, List.set_cons_zero, List.set_cons_succ]
          refine wpAnyN_take (i := 5) (oi := { dst := some 70, op := Go.Op.fieldAddr 25 (Go.Operand.tmp 69) 0, type := 0, pos := "draft.go:41", after := #[{ on := 4, ground := Go.Ground.data }], guard := none }) (v := .pointer (some ⟨D, 0, none⟩)) rfl (by decide) (by kernel_rfl) (by kernel_rfl) (by kernel_rfl) (fun _ _ _ h => h) (Or.inl ⟨by rfl, ?_⟩) hsb ?_
          · intro W9 hS9
            have s0 : W9.cell? ⟨w.heap.size, 0, none⟩ = some (.int .u64 (s.key : Nat)) := hS9.cell 0
            have s1 : W9.cell? ⟨w.heap.size, 1, none⟩ = some (.int .u64 (s.val : Nat)) := hS9.cell 1
            have s2 : W9.cell? ⟨w.heap.size, 2, none⟩ = some (.int .u8 (s.h2 : Nat)) := hS9.cell 2
            clear hS9
            go_simp
          try simp only [Act.put, List.setIfInBounds_toArray, List.set_cons_zero, List.set_cons_succ]
          refine wpAnyN_take (i := 7) (oi := { dst := some 72, op := Go.Op.move (Go.Operand.tmp 8), type := 3, pos := "draft.go:41", after := #[], guard := none }) (v := .int .i64 (y : Nat)) rfl (by decide) (by kernel_rfl) (by kernel_rfl) (by kernel_rfl) (fun _ _ _ h => h) (Or.inl ⟨by rfl, ?_⟩) hsb ?_
          · intro W9 hS9
            have s0 : W9.cell? ⟨w.heap.size, 0, none⟩ = some (.int .u64 (s.key : Nat)) := hS9.cell 0
            have s1 : W9.cell? ⟨w.heap.size, 1, none⟩ = some (.int .u64 (s.val : Nat)) := hS9.cell 1
            have s2 : W9.cell? ⟨w.heap.size, 2, none⟩ = some (.int .u8 (s.h2 : Nat)) := hS9.cell 2
            clear hS9
            go_simp
          try simp only [Act.put, List.setIfInBounds_toArray, List.set_cons_zero, List.set_cons_succ]
          refine wpAnyN_take (i := 8) (oi := { dst := some 73, op := Go.Op.fieldAddr 30 (Go.Operand.tmp 3) 2, type := 0, pos := "draft.go:41", after := #[], guard := none }) (v := .pointer (some ⟨w.heap.size, 2, none⟩)) rfl (by decide) (by kernel_rfl) (by kernel_rfl) (by kernel_rfl) (fun _ _ _ h => h) (Or.inl ⟨by rfl, ?_⟩) hsb ?_
          · intro W9 hS9
            have s0 : W9.cell? ⟨w.heap.size, 0, none⟩ = some (.int .u64 (s.key : Nat)) := hS9.cell 0
            have s1 : W9.cell? ⟨w.heap.size, 1, none⟩ = some (.int .u64 (s.val : Nat)) := hS9.cell 1
            have s2 : W9.cell? ⟨w.heap.size, 2, none⟩ = some (.int .u8 (s.h2 : Nat)) := hS9.cell 2
            clear hS9
            go_simp
          try simp only [Act.put, List.setIfInBounds_toArray, List.set_cons_zero, List.set_cons_succ]
          refine wpAnyN_take (i := 9) (oi := { dst := some 74, op := Go.Op.load 5 (Go.Operand.tmp 73), type := 5, pos := "draft.go:41", after := #[{ on := 8, ground := Go.Ground.data }], guard := none }) (v := .int .u8 (s.h2 : Nat)) rfl (by decide) (by kernel_rfl) (by kernel_rfl) (by kernel_rfl) (fun _ _ _ h => h) (Or.inl ⟨by rfl, ?_⟩) hsb ?_
          · intro W9 hS9
            have s0 : W9.cell? ⟨w.heap.size, 0, none⟩ = some (.int .u64 (s.key : Nat)) := hS9.cell 0
            have s1 : W9.cell? ⟨w.heap.size, 1, none⟩ = some (.int .u64 (s.val : Nat)) := hS9.cell 1
            have s2 : W9.cell? ⟨w.heap.size, 2, none⟩ = some (.int .u8 (s.h2 : Nat)) := hS9.cell 2
            clear hS9
            go_simp
          try simp only [Act.put, List.setIfInBounds_toArray, List.set_cons_zero, List.set_cons_succ]
          refine wpAnyX_one (i := 6) (o := { dst := some 71, op := Go.Op.load 22 (Go.Operand.tmp 70), type := 22, pos := "draft.go:41", after := #[{ on := 5, ground := Go.Ground.data }], guard := none }) (by kernel_rfl) rfl (fun K hK => ?_)
          have cDb := (Rows8.cell (show Rows8 Wb D 59 _ from hDb) 0).trans (dc_0 _ _)
          dsimp only at cDb
          refine step_value_g (by rfl) (.int .u64 (g.c : Nat)) (w' := Wb) (by go_simp) ?_
          refine hK.out _ _ (fun _ => hsb) ?_
          clear hK K
          try simp only [Act.put, List.setIfInBounds_toArray, List.set_cons_zero, List.set_cons_succ]
          refine wpAnyX_one (i := 10) (o := { dst := some 75, op := Go.Op.call { callee := Go.Callee.value (Go.Operand.func 51), args := #[Go.Operand.tmp 71, Go.Operand.tmp 72, Go.Operand.tmp 74], argTypes := #[22, 3, 5] }, type := 64, pos := "draft.go:41", after := #[{ on := 6, ground := Go.Ground.data }, { on := 7, ground := Go.Ground.data }, { on := 9, ground := Go.Ground.data }], guard := none }) (by kernel_rfl) rfl (fun K hK => ?_)
          refine step_call_g (by rfl) 51 _ _ rfl (fun _ _ => by kernel_rfl) #[.int .u64 (g.c : Nat), .int .i64 (y : Nat), .int .u8 (s.h2 : Nat)] (by simp [go_sem]) _ (Tryz.cFill_any g.c (y : Nat) s.h2 hc hs Wb) ?_
          rw [HFE.out, HFS.out, show resY g.c 0 (setB g.c y s.h2) = setB g.c y s.h2 from by unfold resY; rw [if_pos (rightG_c hr), if_pos rfl], show resE g.c 0 = 0 from by unfold resE; rw [if_pos (rightG_c hr)]]
          rintro e Wc ⟨rfl, hBc⟩
          refine ⟨_, rfl, ?_⟩
          have hDc := hDb.below hBc (Rows8.lt hDb)
          have hsc := hsb.below hBc hsb.lt
          have hUc := hUb.trans (But.of_below (hBc.mono hUb.size))
          refine hK.out _ _ (fun _ => hsc) ?_
          clear hK K
          try simp only [Act.put, List.setIfInBounds_toArray, List.set_cons_zero, List.set_cons_succ]
          refine wpAnyN_take (i := 11) (oi := { dst := some 76, op := Go.Op.extract (Go.Operand.tmp 75) 0, type := 22, pos := "draft.go:41", after := #[{ on := 10, ground := Go.Ground.data }], guard := none }) (v := .int .u64 (setB g.c y s.h2 : Nat)) rfl (by decide) (by kernel_rfl) (by kernel_rfl) (by kernel_rfl) (fun _ _ _ h => h) (Or.inl ⟨by rfl, ?_⟩) hsc ?_
          · intro W9 hS9
            go_simp
          try simp only [Act.put, List.setIfInBounds_toArray, List.set_cons_zero, List.set_cons_succ]
          refine wpAnyN_take (i := 12) (oi := { dst := some 77, op := Go.Op.extract (Go.Operand.tmp 75) 1, type := 34, pos := "draft.go:41", after := #[{ on := 10, ground := Go.Ground.data }], guard := none }) (v := .int .i64 0) rfl (by decide) (by kernel_rfl) (by kernel_rfl) (by kernel_rfl) (fun _ _ _ h => h) (Or.inl ⟨by rfl, ?_⟩) hsc ?_
          · intro W9 hS9
            go_simp
          try simp only [Act.put, List.setIfInBounds_toArray, List.set_cons_zero, List.set_cons_succ]
          refine wpAnyX_one (i := 13) (o := { dst := some 78, op := Go.Op.call { callee := Go.Callee.value (Go.Operand.func 44), args := #[Go.Operand.tmp 65, Go.Operand.tmp 76, Go.Operand.tmp 77], argTypes := #[83, 22, 34] }, type := 34, pos := "draft.go:41", after := #[{ on := 0, ground := Go.Ground.data }, { on := 11, ground := Go.Ground.data }, { on := 12, ground := Go.Ground.data }, { on := 10, ground := Go.Ground.chain }], guard := none }) (by kernel_rfl) rfl (fun K hK => ?_)
          refine step_call_g (by rfl) 44 _ _ rfl (fun _ _ => by kernel_rfl) #[.pointer (some ⟨D, 0, none⟩), .int .u64 (setB g.c y s.h2 : Nat), .int .i64 0] (by simp [go_sem]) _ (Tryz.mark_any _ _ D (setB g.c y s.h2) 0 Wc hDc) ?_
          rintro e Wd ⟨rfl, rfl⟩
          refine ⟨_, rfl, ?_⟩
          have hDd := hDc.ctrl (setB g.c y s.h2)
          have hsd := hsc.setOther (a := ⟨D, 0, none⟩) (by show D ≠ w.heap.size; omega) (.int .u64 (setB g.c y s.h2 : Nat))
          have hUd := hUc.setCell 0 (.int .u64 (setB g.c y s.h2 : Nat))
          refine hK.out _ _ (fun _ => hsd) ?_
          clear hK K
          try simp only [Act.put, List.setIfInBounds_toArray, List.set_cons_zero, List.set_cons_succ]
          refine wpAnyX_one (i := 14) (o := { dst := some 4, op := Go.Op.assign (Go.Operand.tmp 78), type := 34, pos := "draft.go:41", after := #[{ on := 13, ground := Go.Ground.data }, { on := 13, ground := Go.Ground.chain }, { on := 0, ground := Go.Ground.phase }, { on := 1, ground := Go.Ground.phase }, { on := 2, ground := Go.Ground.phase }, { on := 3, ground := Go.Ground.phase }, { on := 4, ground := Go.Ground.phase }, { on := 5, ground := Go.Ground.phase }, { on := 6, ground := Go.Ground.phase }, { on := 7, ground := Go.Ground.phase }, { on := 8, ground := Go.Ground.phase }, { on := 9, ground := Go.Ground.phase }, { on := 10, ground := Go.Ground.phase }, { on := 11, ground := Go.Ground.phase }, { on := 12, ground := Go.Ground.phase }, { on := 13, ground := Go.Ground.phase }], guard := none }) (by kernel_rfl) rfl (fun K hK => ?_)
          refine step_value_g (by rfl) (.int .i64 0) (w' := Wc.setCell ⟨D, 0, none⟩ (.int .u64 (setB g.c y s.h2 : Nat))) (by go_simp) ?_
          refine hK.out _ _ (fun _ => hsd) ?_
          clear hK K
          try simp only [Act.put, List.setIfInBounds_toArray, List.set_cons_zero, List.set_cons_succ]
          refine wpAnyX_end (by kernel_rfl) ?_
          go_wp2_with fail
          go_ret
          refine ⟨by rw [HE0.out]; rfl, hUd, fun _ => ?_⟩
          unfold putG
          rw [HPL.out]
          exact hDd
      · have HE5 : Hid (putE g s = 5) := Lib.hid (by rw [HE.out, ← HV3.out]; rfl)
        clear hld
        go_wp2_with fail
        go_ret
        exact ⟨by rw [HE5.out]; rfl, But.of_below HB4.out, by rw [HE5.out]; intro h; cases h⟩
end Go.Proofs

/- Group: set, drop. -/
namespace Go.Proofs
set_option maxRecDepth 100000
open Go.RowKit Go.Shelf
attribute [local go_sem] Oper.semAt_some

theorem Tryz.Get_at (x : Nat) (lane : Int) : ∃ (b : Nat) (er : Int), (∀ w, Calls Tryz.prog 42 #[.int .u64 x, .int .i64 lane] w fun e w' => e = .returned (.tuple #[.int .u8 (b : Nat), .int .i64 er]) ∧ Below w.heap.size w w') ∧ ((er = 110 ∧ (lane < 0 ∨ 8 ≤ lane)) ∨ (er = 0 ∧ ¬ (lane < 0 ∨ 8 ≤ lane) ∧ b = byt x lane.toNat)) := by
  by_cases h : lane < 0 ∨ 8 ≤ lane
  · exact ⟨0, 110, fun w => (Tryz.Get_no x lane h w).mono fun e w' p => ⟨p.1, by rw [← p.2]; exact Below.refl _ _⟩, .inl ⟨rfl, h⟩⟩
  · obtain ⟨n, rfl⟩ : ∃ n : Nat, lane = n := ⟨lane.toNat, by omega⟩
    exact ⟨byt x n, 0, fun w => (Tryz.Get_yes x n (by omega) w).mono fun e w' p => ⟨p.1, by rw [← p.2]; exact Below.refl _ _⟩, .inr ⟨rfl, h, by simp⟩⟩
set_option maxHeartbeats 8000000 in
theorem Tryz.dset_any (g : Gr) (lane : Int) (s : Sl) (D : Nat) (w : World) (hD : DAt w D g lane) :
    Calls Tryz.prog 22 #[.pointer (some ⟨D, 0, none⟩), .agg (sc s)] w (ChD D (setE g lane) (setG g lane s.val) lane w) := by
  obtain ⟨b, er, hGet, hcase⟩ := Tryz.Get_at g.c lane
  have HGet := Lib.hid hGet
  have hDl : D < w.heap.size := Rows8.lt hD
  have h0 : Rows8 (w.alloc (.cells (sc s) 30)) w.heap.size 30 (sc s) := Rows8.new w _ _
  have hb : Below w.heap.size w (w.alloc (.cells (sc s) 30)) := (Below.refl _ w).alloc (Nat.le_refl _) _
  have hDa : DAt (w.alloc (.cells (sc s) 30)) D g lane := hD.below hb hDl
  have hz : (w.alloc (.cells (sc s) 30)).heap.size = w.heap.size + 1 := by simp
  have HCase := Lib.hid hcase
  clear hGet hcase hD
  go_enter Tryz.func22, Tryz.ntmps22
  go_wp2_with fail
  generalize (w.alloc (.cells (sc s) 30)) = W1 at *
  have HB := Lib.hid hb
  have HS : Hid (∀ W' : World, Below W1.heap.size W1 W' → DAt W' D g lane ∧ Rows8 W' w.heap.size 30 (sc s)) := Lib.hid fun W' b => ⟨hDa.below b (by omega), h0.below b (by omega)⟩
  clear hb hDa h0
  refine wp_mono (Q := fun e a' W' => e = .normal ∧ Below W1.heap.size W1 W' ∧ a' = { tmps := #[.pointer (some ⟨D, 0, none⟩), .agg (sc s), undef, .pointer (some ⟨w.heap.size, 0, none⟩), .int .i64 0, .int .u8 (b : Nat), .int .i64 er, .tuple #[.int .u8 (b : Nat), .int .i64 er], .pointer (some ⟨D, 0, none⟩), .pointer (some ⟨D, 0, none⟩), .pointer (some ⟨D, 0, none⟩), .pointer (some ⟨D, 0, none⟩), .pointer (some ⟨D, 0, none⟩), .int .u64 (g.c : Nat), .pointer (some ⟨D, 0, none⟩), .pointer (some ⟨D, 0, none⟩), .pointer (some ⟨D, 17, none⟩), .int .i64 lane, .tuple #[.int .u8 (b : Nat), .int .i64 er], .int .u8 (b : Nat), .int .i64 er, undef, undef, undef, undef, undef, undef, undef, undef, undef, undef, undef, undef, undef, undef, undef, undef, undef, undef, undef], defers := [] }) ?_ ?_
  · refine wp_region_X (fun W' => DAt W' D g lane ∧ Rows8 W' w.heap.size 30 (sc s)) 16 (by kernel_rfl) ?_
    have hS0 := HS.out W1.drew (Below.refl _ _).drew
    have hB0 : Below W1.heap.size W1 W1.drew := (Below.refl _ _).drew
    generalize W1.drew = Wd at *
    refine wpAnyN_take (i := 0) (oi := { dst := some 8, op := Go.Op.move (Go.Operand.tmp 0), type := 83, pos := "draft.go:46", after := #[], guard := none }) (v := .pointer (some ⟨D, 0, none⟩)) rfl (by decide) (by kernel_rfl) (by kernel_rfl) (by kernel_rfl) (fun _ _ _ h => nomatch h.1) (Or.inl ⟨by rfl, ?_⟩) hS0 ?_
    · intro W9 hS9
      obtain ⟨q0, q1⟩ := hS9
      have d0 := Rows8.cell (show Rows8 W9 D 59 (dc g lane) from q0) 0
      rw [dc_0] at d0
      have d17 := Rows8.cell (show Rows8 W9 D 59 (dc g lane) from q0) 17
      rw [dc_17] at d17
      have s0 : W9.cell? ⟨w.heap.size, 0, none⟩ = some (.int .u64 (s.key : Nat)) := q1.cell 0
      have s1 : W9.cell? ⟨w.heap.size, 1, none⟩ = some (.int .u64 (s.val : Nat)) := q1.cell 1
      have s2 : W9.cell? ⟨w.heap.size, 2, none⟩ = some (.int .u8 (s.h2 : Nat)) := q1.cell 2
      clear q0 q1
      go_simp
    try simp only [Act.put, List.setIfInBounds_toArray, List.set_cons_zero, List.set_cons_succ]
    refine wpAnyN_take (i := 1) (oi := { dst := some 9, op := Go.Op.nilCheck (Go.Operand.tmp 8), type := 0, pos := "draft.go:46", after := #[{ on := 0, ground := Go.Ground.data }], guard := none }) (v := .pointer (some ⟨D, 0, none⟩)) rfl (by decide) (by kernel_rfl) (by kernel_rfl) (by kernel_rfl) (fun _ _ _ h => nomatch h.1) (Or.inl ⟨by rfl, ?_⟩) hS0 ?_
    · intro W9 hS9
      obtain ⟨q0, q1⟩ := hS9
      have d0 := Rows8.cell (show Rows8 W9 D 59 (dc g lane) from q0) 0
      rw [dc_0] at d0
      have d17 := Rows8.cell (show Rows8 W9 D 59 (dc g lane) from q0) 17
      rw [dc_17] at d17
      have s0 : W9.cell? ⟨w.heap.size, 0, none⟩ = some (.int .u64 (s.key : Nat)) := q1.cell 0
      have s1 : W9.cell? ⟨w.heap.size, 1, none⟩ = some (.int .u64 (s.val : Nat)) := q1.cell 1
      have s2 : W9.cell? ⟨w.heap.size, 2, none⟩ = some (.int .u8 (s.h2 : Nat)) := q1.cell 2
      clear q0 q1
      go_simp
    try simp only [Act.put, List.setIfInBounds_toArray, List.set_cons_zero, List.set_cons_succ]
    refine wpAnyN_take (i := 2) (oi := { dst := some 10, op := Go.Op.fieldAddr 59 (Go.Operand.tmp 9) 0, type := 0, pos := "draft.go:46", after := #[{ on := 1, ground := Go.Ground.data }], guard := none }) (v := .pointer (some ⟨D, 0, none⟩)) rfl (by decide) (by kernel_rfl) (by kernel_rfl) (by kernel_rfl) (fun _ _ _ h => nomatch h.1) (Or.inl ⟨by rfl, ?_⟩) hS0 ?_
    · intro W9 hS9
      obtain ⟨q0, q1⟩ := hS9
      have d0 := Rows8.cell (show Rows8 W9 D 59 (dc g lane) from q0) 0
      rw [dc_0] at d0
      have d17 := Rows8.cell (show Rows8 W9 D 59 (dc g lane) from q0) 17
      rw [dc_17] at d17
      have s0 : W9.cell? ⟨w.heap.size, 0, none⟩ = some (.int .u64 (s.key : Nat)) := q1.cell 0
      have s1 : W9.cell? ⟨w.heap.size, 1, none⟩ = some (.int .u64 (s.val : Nat)) := q1.cell 1
      have s2 : W9.cell? ⟨w.heap.size, 2, none⟩ = some (.int .u8 (s.h2 : Nat)) := q1.cell 2
      clear q0 q1
      go_simp
    try simp only [Act.put, List.setIfInBounds_toArray, List.set_cons_zero, List.set_cons_succ]
    refine wpAnyN_take (i := 3) (oi := { dst := some 11, op := Go.Op.fieldAddr 57 (Go.Operand.tmp 10) 0, type := 0, pos := "draft.go:46", after := #[{ on := 2, ground := Go.Ground.data }], guard := none }) (v := .pointer (some ⟨D, 0, none⟩)) rfl (by decide) (by kernel_rfl) (by kernel_rfl) (by kernel_rfl) (fun _ _ _ h => nomatch h.1) (Or.inl ⟨by rfl, ?_⟩) hS0 ?_
    · intro W9 hS9
      obtain ⟨q0, q1⟩ := hS9
      have d0 := Rows8.cell (show Rows8 W9 D 59 (dc g lane) from q0) 0
      rw [dc_0] at d0
      have d17 := Rows8.cell (show Rows8 W9 D 59 (dc g lane) from q0) 17
      rw [dc_17] at d17
      have s0 : W9.cell? ⟨w.heap.size, 0, none⟩ = some (.int .u64 (s.key : Nat)) := q1.cell 0
      have s1 : W9.cell? ⟨w.heap.size, 1, none⟩ = some (.int .u64 (s.val : Nat)) := q1.cell 1
      have s2 : W9.cell? ⟨w.heap.size, 2, none⟩ = some (.int .u8 (s.h2 : Nat)) := q1.cell 2
      clear q0 q1
      go_simp
    try simp only [Act.put, List.setIfInBounds_toArray, List.set_cons_zero, List.set_cons_succ]
    refine wpAnyN_take (i := 4) (oi := { dst := some 12, op := Go.Op.fieldAddr 25 (Go.Operand.tmp 11) 0, type := 0, pos := "draft.go:46", after := #[{ on := 3, ground := Go.Ground.data }], guard := none }) (v := .pointer (some ⟨D, 0, none⟩)) rfl (by decide) (by kernel_rfl) (by kernel_rfl) (by kernel_rfl) (fun _ _ _ h => nomatch h.1) (Or.inl ⟨by rfl, ?_⟩) hS0 ?_
    · intro W9 hS9
      obtain ⟨q0, q1⟩ := hS9
      have d0 := Rows8.cell (show Rows8 W9 D 59 (dc g lane) from q0) 0
      rw [dc_0] at d0
      have d17 := Rows8.cell (show Rows8 W9 D 59 (dc g lane) from q0) 17
      rw [dc_17] at d17
      have s0 : W9.cell? ⟨w.heap.size, 0, none⟩ = some (.int .u64 (s.key : Nat)) := q1.cell 0
      have s1 : W9.cell? ⟨w.heap.size, 1, none⟩ = some (.int .u64 (s.val : Nat)) := q1.cell 1
      have s2 : W9.cell? ⟨w.heap.size, 2, none⟩ = some (.int .u8 (s.h2 : Nat)) := q1.cell 2
      clear q0 q1
      go_simp
    try simp only [Act.put, List.setIfInBounds_toArray, List.set_cons_zero, List.set_cons_succ]
    refine wpAnyN_take (i := 5) (oi := { dst := some 13, op := Go.Op.load 22 (Go.Operand.tmp 12), type := 22, pos := "draft.go:46", after := #[{ on := 4, ground := Go.Ground.data }], guard := none }) (v := .int .u64 (g.c : Nat)) rfl (by decide) (by kernel_rfl) (by kernel_rfl) (by kernel_rfl) (fun _ _ _ h => nomatch h.1) (Or.inl ⟨by rfl, ?_⟩) hS0 ?_
    · intro W9 hS9
      obtain ⟨q0, q1⟩ := hS9
      have d0 := Rows8.cell (show Rows8 W9 D 59 (dc g lane) from q0) 0
      rw [dc_0] at d0
      have d17 := Rows8.cell (show Rows8 W9 D 59 (dc g lane) from q0) 17
      rw [dc_17] at d17
      have s0 : W9.cell? ⟨w.heap.size, 0, none⟩ = some (.int .u64 (s.key : Nat)) := q1.cell 0
      have s1 : W9.cell? ⟨w.heap.size, 1, none⟩ = some (.int .u64 (s.val : Nat)) := q1.cell 1
      have s2 : W9.cell? ⟨w.heap.size, 2, none⟩ = some (.int .u8 (s.h2 : Nat)) := q1.cell 2
      clear q0 q1
      go_simp
    try simp only [Act.put, List.setIfInBounds_toArray, List.set_cons_zero, List.set_cons_succ]
    refine wpAnyN_take (i := 6) (oi := { dst := some 14, op := Go.Op.move (Go.Operand.tmp 0), type := 83, pos := "draft.go:46", after := #[], guard := none }) (v := .pointer (some ⟨D, 0, none⟩)) rfl (by decide) (by kernel_rfl) (by kernel_rfl) (by kernel_rfl) (fun _ _ _ h => nomatch h.1) (Or.inl ⟨by rfl, ?_⟩) hS0 ?_
    · intro W9 hS9
      obtain ⟨q0, q1⟩ := hS9
      have d0 := Rows8.cell (show Rows8 W9 D 59 (dc g lane) from q0) 0
      rw [dc_0] at d0
      have d17 := Rows8.cell (show Rows8 W9 D 59 (dc g lane) from q0) 17
      rw [dc_17] at d17
      have s0 : W9.cell? ⟨w.heap.size, 0, none⟩ = some (.int .u64 (s.key : Nat)) := q1.cell 0
      have s1 : W9.cell? ⟨w.heap.size, 1, none⟩ = some (.int .u64 (s.val : Nat)) := q1.cell 1
      have s2 : W9.cell? ⟨w.heap.size, 2, none⟩ = some (.int .u8 (s.h2 : Nat)) := q1.cell 2
      clear q0 q1
      go_simp
    try simp only [Act.put, List.setIfInBounds_toArray, List.set_cons_zero, List.set_cons_succ]
    refine wpAnyN_take (i := 7) (oi := { dst := some 15, op := Go.Op.nilCheck (Go.Operand.tmp 14), type := 0, pos := "draft.go:46", after := #[{ on := 6, ground := Go.Ground.data }], guard := none }) (v := .pointer (some ⟨D, 0, none⟩)) rfl (by decide) (by kernel_rfl) (by kernel_rfl) (by kernel_rfl) (fun _ _ _ h => nomatch h.1) (Or.inl ⟨by rfl, ?_⟩) hS0 ?_
    · intro W9 hS9
      obtain ⟨q0, q1⟩ := hS9
      have d0 := Rows8.cell (show Rows8 W9 D 59 (dc g lane) from q0) 0
      rw [dc_0] at d0
      have d17 := Rows8.cell (show Rows8 W9 D 59 (dc g lane) from q0) 17
      rw [dc_17] at d17
      have s0 : W9.cell? ⟨w.heap.size, 0, none⟩ = some (.int .u64 (s.key : Nat)) := q1.cell 0
      have s1 : W9.cell? ⟨w.heap.size, 1, none⟩ = some (.int .u64 (s.val : Nat)) := q1.cell 1
      have s2 : W9.cell? ⟨w.heap.size, 2, none⟩ = some (.int .u8 (s.h2 : Nat)) := q1.cell 2
      clear q0 q1
      go_simp
    try simp only [Act.put, List.setIfInBounds_toArray, List.set_cons_zero, List.set_cons_succ]
    refine wpAnyN_take (i := 8) (oi := { dst := some 16, op := Go.Op.fieldAddr 59 (Go.Operand.tmp 15) 1, type := 0, pos := "draft.go:46", after := #[{ on := 7, ground := Go.Ground.data }], guard := none }) (v := .pointer (some ⟨D, 17, none⟩)) rfl (by decide) (by kernel_rfl) (by kernel_rfl) (by kernel_rfl) (fun _ _ _ h => nomatch h.1) (Or.inl ⟨by rfl, ?_⟩) hS0 ?_
    · intro W9 hS9
      obtain ⟨q0, q1⟩ := hS9
      have d0 := Rows8.cell (show Rows8 W9 D 59 (dc g lane) from q0) 0
      rw [dc_0] at d0
      have d17 := Rows8.cell (show Rows8 W9 D 59 (dc g lane) from q0) 17
      rw [dc_17] at d17
      have s0 : W9.cell? ⟨w.heap.size, 0, none⟩ = some (.int .u64 (s.key : Nat)) := q1.cell 0
      have s1 : W9.cell? ⟨w.heap.size, 1, none⟩ = some (.int .u64 (s.val : Nat)) := q1.cell 1
      have s2 : W9.cell? ⟨w.heap.size, 2, none⟩ = some (.int .u8 (s.h2 : Nat)) := q1.cell 2
      clear q0 q1
      go_simp
    try simp only [Act.put, List.setIfInBounds_toArray, List.set_cons_zero, List.set_cons_succ]
    refine wpAnyN_take (i := 9) (oi := { dst := some 17, op := Go.Op.load 3 (Go.Operand.tmp 16), type := 3, pos := "draft.go:46", after := #[{ on := 8, ground := Go.Ground.data }], guard := none }) (v := .int .i64 lane) rfl (by decide) (by kernel_rfl) (by kernel_rfl) (by kernel_rfl) (fun _ _ _ h => nomatch h.1) (Or.inl ⟨by rfl, ?_⟩) hS0 ?_
    · intro W9 hS9
      obtain ⟨q0, q1⟩ := hS9
      have d0 := Rows8.cell (show Rows8 W9 D 59 (dc g lane) from q0) 0
      rw [dc_0] at d0
      have d17 := Rows8.cell (show Rows8 W9 D 59 (dc g lane) from q0) 17
      rw [dc_17] at d17
      have s0 : W9.cell? ⟨w.heap.size, 0, none⟩ = some (.int .u64 (s.key : Nat)) := q1.cell 0
      have s1 : W9.cell? ⟨w.heap.size, 1, none⟩ = some (.int .u64 (s.val : Nat)) := q1.cell 1
      have s2 : W9.cell? ⟨w.heap.size, 2, none⟩ = some (.int .u8 (s.h2 : Nat)) := q1.cell 2
      clear q0 q1
      go_simp
    try simp only [Act.put, List.setIfInBounds_toArray, List.set_cons_zero, List.set_cons_succ]
    refine wpAnyX_one (i := 10) (o := { dst := some 18, op := Go.Op.call { callee := Go.Callee.value (Go.Operand.func 42), args := #[Go.Operand.tmp 13, Go.Operand.tmp 17], argTypes := #[22, 3] }, type := 84, pos := "draft.go:46", after := #[{ on := 5, ground := Go.Ground.data }, { on := 9, ground := Go.Ground.data }], guard := none }) (by kernel_rfl) rfl (fun K hK => ?_)
    refine step_call_g (by rfl) 42 _ _ rfl (fun _ _ => by kernel_rfl) #[.int .u64 (g.c : Nat), .int .i64 lane] (by simp [go_sem]) _ (HGet.out Wd) ?_
    rintro e W2 ⟨rfl, hC1⟩
    refine ⟨_, rfl, ?_⟩
    have hB1 := hB0.trans (hC1.mono hB0.size)
    have hS1 := HS.out W2 hB1
    refine hK.out _ _ (fun _ => hS1) ?_
    clear hK K
    try simp only [Act.put, List.setIfInBounds_toArray, List.set_cons_zero, List.set_cons_succ]
    refine wpAnyN_take (i := 11) (oi := { dst := some 7, op := Go.Op.move (Go.Operand.tmp 18), type := 84, pos := "draft.go:46", after := #[{ on := 10, ground := Go.Ground.data }], guard := none }) (v := .tuple #[.int .u8 (b : Nat), .int .i64 er]) rfl (by decide) (by kernel_rfl) (by kernel_rfl) (by kernel_rfl) (fun _ _ _ h => nomatch h.1) (Or.inl ⟨by rfl, ?_⟩) hS1 ?_
    · intro W9 hS9
      obtain ⟨q0, q1⟩ := hS9
      go_simp
    try simp only [Act.put, List.setIfInBounds_toArray, List.set_cons_zero, List.set_cons_succ]
    refine wpAnyN_take (i := 12) (oi := { dst := some 19, op := Go.Op.extract (Go.Operand.tmp 7) 0, type := 5, pos := "draft.go:46", after := #[{ on := 11, ground := Go.Ground.data }], guard := none }) (v := .int .u8 (b : Nat)) rfl (by decide) (by kernel_rfl) (by kernel_rfl) (by kernel_rfl) (fun _ _ _ h => nomatch h.1) (Or.inl ⟨by rfl, ?_⟩) hS1 ?_
    · intro W9 hS9
      obtain ⟨q0, q1⟩ := hS9
      go_simp
    try simp only [Act.put, List.setIfInBounds_toArray, List.set_cons_zero, List.set_cons_succ]
    refine wpAnyN_take (i := 13) (oi := { dst := some 20, op := Go.Op.extract (Go.Operand.tmp 7) 1, type := 34, pos := "draft.go:46", after := #[{ on := 11, ground := Go.Ground.data }, { on := 14, ground := Go.Ground.gcOnly Go.Departure.lateStores }], guard := none }) (v := .int .i64 er) rfl (by decide) (by kernel_rfl) (by kernel_rfl) (by kernel_rfl) (fun _ _ _ h => nomatch h.1) (Or.inl ⟨by rfl, ?_⟩) hS1 ?_
    · intro W9 hS9
      obtain ⟨q0, q1⟩ := hS9
      go_simp
    try simp only [Act.put, List.setIfInBounds_toArray, List.set_cons_zero, List.set_cons_succ]
    refine wpAnyN_take (i := 14) (oi := { dst := some 5, op := Go.Op.assign (Go.Operand.tmp 19), type := 5, pos := "draft.go:46", after := #[{ on := 12, ground := Go.Ground.data }, { on := 10, ground := Go.Ground.chain }, { on := 0, ground := Go.Ground.phase }, { on := 1, ground := Go.Ground.phase }, { on := 2, ground := Go.Ground.phase }, { on := 3, ground := Go.Ground.phase }, { on := 4, ground := Go.Ground.phase }, { on := 5, ground := Go.Ground.phase }, { on := 6, ground := Go.Ground.phase }, { on := 7, ground := Go.Ground.phase }, { on := 8, ground := Go.Ground.phase }, { on := 9, ground := Go.Ground.phase }, { on := 10, ground := Go.Ground.phase }, { on := 11, ground := Go.Ground.phase }, { on := 12, ground := Go.Ground.phase }, { on := 13, ground := Go.Ground.textOnly Go.Departure.lateStores }], guard := none }) (v := .int .u8 (b : Nat)) rfl (by decide) (by kernel_rfl) (by kernel_rfl) (by kernel_rfl) (fun _ _ _ h => nomatch h.1) (Or.inl ⟨by rfl, ?_⟩) hS1 ?_
    · intro W9 hS9
      obtain ⟨q0, q1⟩ := hS9
      go_simp
    try simp only [Act.put, List.setIfInBounds_toArray, List.set_cons_zero, List.set_cons_succ]
    refine wpAnyN_take (i := 15) (oi := { dst := some 6, op := Go.Op.assign (Go.Operand.tmp 20), type := 34, pos := "draft.go:46", after := #[{ on := 13, ground := Go.Ground.data }, { on := 14, ground := Go.Ground.chain }, { on := 0, ground := Go.Ground.phase }, { on := 1, ground := Go.Ground.phase }, { on := 2, ground := Go.Ground.phase }, { on := 3, ground := Go.Ground.phase }, { on := 4, ground := Go.Ground.phase }, { on := 5, ground := Go.Ground.phase }, { on := 6, ground := Go.Ground.phase }, { on := 7, ground := Go.Ground.phase }, { on := 8, ground := Go.Ground.phase }, { on := 9, ground := Go.Ground.phase }, { on := 10, ground := Go.Ground.phase }, { on := 11, ground := Go.Ground.phase }, { on := 12, ground := Go.Ground.phase }, { on := 13, ground := Go.Ground.phase }, { on := 14, ground := Go.Ground.phase }], guard := none }) (v := .int .i64 er) rfl (by decide) (by kernel_rfl) (by kernel_rfl) (by kernel_rfl) (fun _ _ _ h => nomatch h.1) (Or.inl ⟨by rfl, ?_⟩) hS1 ?_
    · intro W9 hS9
      obtain ⟨q0, q1⟩ := hS9
      go_simp
    try simp only [Act.put, List.setIfInBounds_toArray, List.set_cons_zero, List.set_cons_succ]
    refine wpAnyX_end (by kernel_rfl) ?_
    exact ⟨rfl, hB1, rfl⟩
  · rintro e a' W2 ⟨rfl, hB2, rfl⟩
    obtain ⟨hD2, hs2⟩ := HS.out W2 hB2
    have HB2 := Lib.hid (HB.out.trans (hB2.mono HB.out.size))
    clear hB2
    rcases HCase.out with ⟨rfl, hl⟩ | ⟨rfl, hl, hbb⟩
    · have HE : Hid (setE g lane = 110) := Lib.hid (by unfold setE; rw [if_pos hl])
      clear hD2 hs2 HCase
      go_wp2_with fail
      go_ret
      exact ⟨by rw [HE.out]; rfl, But.of_below HB2.out, by rw [HE.out]; intro h; cases h⟩
    · obtain ⟨n, rfl⟩ : ∃ n : Nat, lane = n := ⟨lane.toNat, by omega⟩
      have hn : n < 8 := by omega
      rw [Int.toNat_natCast] at hbb
      clear HCase
      by_cases h127 : 127 < b
      · have HE : Hid (setE g (n : Nat) = 4) := Lib.hid (by unfold setE; rw [if_neg hl, if_pos (by simpa [← hbb] using h127)])
        have hbi : (127 : Int) < ((b : Nat) : Int) := by omega
        clear hD2 hs2
        go_wp2_with fail
        go_ret
        exact ⟨by rw [HE.out]; rfl, But.of_below HB2.out, by rw [HE.out]; intro h; cases h⟩
      · have HE : Hid (setE g (n : Nat) = 0) := Lib.hid (by unfold setE; rw [if_neg hl, if_neg (by simpa [← hbb] using h127)])
        have hbi : ¬ (127 : Int) < ((b : Nat) : Int) := by omega
        have hni : ¬ (8 : Int) ≤ ((n : Nat) : Int) := by omega
        go_wp2_with fail
        refine wp_region_X (fun W' => Rows8 W' w.heap.size 30 (sc s)) 13 (by kernel_rfl) ?_
        have hD7 : DAt W2.drew D g (n : Nat) := Rows8.drew hD2
        have hs7 := hs2.drew
        have hB7 := HB2.out.drew
        generalize W2.drew = W7 at *
        clear hD2 hs2
        refine wpAnyN_take (i := 0) (oi := { dst := some 28, op := Go.Op.move (Go.Operand.tmp 0), type := 83, pos := "draft.go:53", after := #[], guard := none }) (v := .pointer (some ⟨D, 0, none⟩)) rfl (by decide) (by kernel_rfl) (by kernel_rfl) (by kernel_rfl) (fun _ _ _ h => h) (Or.inl ⟨by rfl, ?_⟩) hs7 ?_
        · intro W9 hS9
          have s1 : W9.cell? ⟨w.heap.size, 1, none⟩ = some (.int .u64 (s.val : Nat)) := hS9.cell 1
          clear hS9
          go_simp
        try simp only [Act.put, List.setIfInBounds_toArray, List.set_cons_zero, List.set_cons_succ]
        refine wpAnyN_take (i := 1) (oi := { dst := some 29, op := Go.Op.move (Go.Operand.tmp 0), type := 83, pos := "draft.go:53", after := #[], guard := none }) (v := .pointer (some ⟨D, 0, none⟩)) rfl (by decide) (by kernel_rfl) (by kernel_rfl) (by kernel_rfl) (fun _ _ _ h => h) (Or.inl ⟨by rfl, ?_⟩) hs7 ?_
        · intro W9 hS9
          have s1 : W9.cell? ⟨w.heap.size, 1, none⟩ = some (.int .u64 (s.val : Nat)) := hS9.cell 1
          clear hS9
          go_simp
        try simp only [Act.put, List.setIfInBounds_toArray, List.set_cons_zero, List.set_cons_succ]
        refine wpAnyN_take (i := 2) (oi := { dst := some 30, op := Go.Op.nilCheck (Go.Operand.tmp 29), type := 0, pos := "draft.go:53", after := #[{ on := 1, ground := Go.Ground.data }], guard := none }) (v := .pointer (some ⟨D, 0, none⟩)) rfl (by decide) (by kernel_rfl) (by kernel_rfl) (by kernel_rfl) (fun _ _ _ h => h) (Or.inl ⟨by rfl, ?_⟩) hs7 ?_
        · intro W9 hS9
          have s1 : W9.cell? ⟨w.heap.size, 1, none⟩ = some (.int .u64 (s.val : Nat)) := hS9.cell 1
          clear hS9
          go_simp
        try simp only [Act.put, List.setIfInBounds_toArray, List.set_cons_zero, List.set_cons_succ]
        refine wpAnyN_take (i := 3) (oi := { dst := some 31, op := Go.Op.fieldAddr 59 (Go.Operand.tmp 30) 1, type := 0, pos := "draft.go:53", after := #[{ on := 2, ground := Go.Ground.data }], guard := none }) (v := .pointer (some ⟨D, 17, none⟩)) rfl (by decide) (by kernel_rfl) (by kernel_rfl) (by kernel_rfl) (fun _ _ _ h => h) (Or.inl ⟨by rfl, ?_⟩) hs7 ?_
        · intro W9 hS9
          have s1 : W9.cell? ⟨w.heap.size, 1, none⟩ = some (.int .u64 (s.val : Nat)) := hS9.cell 1
          clear hS9
          go_simp
        try simp only [Act.put, List.setIfInBounds_toArray, List.set_cons_zero, List.set_cons_succ]
        refine wpAnyN_take (i := 5) (oi := { dst := some 33, op := Go.Op.fieldAddr 30 (Go.Operand.tmp 3) 1, type := 0, pos := "draft.go:53", after := #[], guard := none }) (v := .pointer (some ⟨w.heap.size, 1, none⟩)) rfl (by decide) (by kernel_rfl) (by kernel_rfl) (by kernel_rfl) (fun _ _ _ h => h) (Or.inl ⟨by rfl, ?_⟩) hs7 ?_
        · intro W9 hS9
          have s1 : W9.cell? ⟨w.heap.size, 1, none⟩ = some (.int .u64 (s.val : Nat)) := hS9.cell 1
          clear hS9
          go_simp
        try simp only [Act.put, List.setIfInBounds_toArray, List.set_cons_zero, List.set_cons_succ]
        refine wpAnyN_take (i := 6) (oi := { dst := some 34, op := Go.Op.load 22 (Go.Operand.tmp 33), type := 22, pos := "draft.go:53", after := #[{ on := 5, ground := Go.Ground.data }], guard := none }) (v := .int .u64 (s.val : Nat)) rfl (by decide) (by kernel_rfl) (by kernel_rfl) (by kernel_rfl) (fun _ _ _ h => h) (Or.inl ⟨by rfl, ?_⟩) hs7 ?_
        · intro W9 hS9
          have s1 : W9.cell? ⟨w.heap.size, 1, none⟩ = some (.int .u64 (s.val : Nat)) := hS9.cell 1
          clear hS9
          go_simp
        try simp only [Act.put, List.setIfInBounds_toArray, List.set_cons_zero, List.set_cons_succ]
        refine wpAnyN_take (i := 7) (oi := { dst := some 35, op := Go.Op.nilCheck (Go.Operand.tmp 28), type := 0, pos := "draft.go:53", after := #[{ on := 0, ground := Go.Ground.data }], guard := none }) (v := .pointer (some ⟨D, 0, none⟩)) rfl (by decide) (by kernel_rfl) (by kernel_rfl) (by kernel_rfl) (fun _ _ _ h => h) (Or.inl ⟨by rfl, ?_⟩) hs7 ?_
        · intro W9 hS9
          have s1 : W9.cell? ⟨w.heap.size, 1, none⟩ = some (.int .u64 (s.val : Nat)) := hS9.cell 1
          clear hS9
          go_simp
        try simp only [Act.put, List.setIfInBounds_toArray, List.set_cons_zero, List.set_cons_succ]
        refine wpAnyN_take (i := 8) (oi := { dst := some 36, op := Go.Op.fieldAddr 59 (Go.Operand.tmp 35) 0, type := 0, pos := "draft.go:53", after := #[{ on := 7, ground := Go.Ground.data }], guard := none }) (v := .pointer (some ⟨D, 0, none⟩)) rfl (by decide) (by kernel_rfl) (by kernel_rfl) (by kernel_rfl) (fun _ _ _ h => h) (Or.inl ⟨by rfl, ?_⟩) hs7 ?_
        · intro W9 hS9
          have s1 : W9.cell? ⟨w.heap.size, 1, none⟩ = some (.int .u64 (s.val : Nat)) := hS9.cell 1
          clear hS9
          go_simp
        try simp only [Act.put, List.setIfInBounds_toArray, List.set_cons_zero, List.set_cons_succ]
        refine wpAnyN_take (i := 9) (oi := { dst := some 37, op := Go.Op.fieldAddr 57 (Go.Operand.tmp 36) 0, type := 0, pos := "draft.go:53", after := #[{ on := 8, ground := Go.Ground.data }], guard := none }) (v := .pointer (some ⟨D, 0, none⟩)) rfl (by decide) (by kernel_rfl) (by kernel_rfl) (by kernel_rfl) (fun _ _ _ h => h) (Or.inl ⟨by rfl, ?_⟩) hs7 ?_
        · intro W9 hS9
          have s1 : W9.cell? ⟨w.heap.size, 1, none⟩ = some (.int .u64 (s.val : Nat)) := hS9.cell 1
          clear hS9
          go_simp
        try simp only [Act.put, List.setIfInBounds_toArray, List.set_cons_zero, List.set_cons_succ]
        refine wpAnyN_take (i := 10) (oi := { dst := some 38, op := Go.Op.fieldAddr 25 (Go.Operand.tmp 37) 2, type := 0, pos := "draft.go:53", after := #[{ on := 9, ground := Go.Ground.data }], guard := none }) (v := .pointer (some ⟨D, 9, none⟩)) rfl (by decide) (by kernel_rfl) (by kernel_rfl) (by kernel_rfl) (fun _ _ _ h => h) (Or.inl ⟨by rfl, ?_⟩) hs7 ?_
        · intro W9 hS9
          have s1 : W9.cell? ⟨w.heap.size, 1, none⟩ = some (.int .u64 (s.val : Nat)) := hS9.cell 1
          clear hS9
          go_simp
        try simp only [Act.put, List.setIfInBounds_toArray, List.set_cons_zero, List.set_cons_succ]
        refine wpAnyX_one (i := 4) (o := { dst := some 32, op := Go.Op.load 3 (Go.Operand.tmp 31), type := 3, pos := "draft.go:53", after := #[{ on := 3, ground := Go.Ground.data }], guard := none }) (by kernel_rfl) rfl (fun K hK => ?_)
        have cL := (Rows8.cell (show Rows8 W7 D 59 _ from hD7) 17).trans (dc_17 _ _)
        refine step_value_g (by rfl) (.int .i64 (n : Nat)) (w' := W7) (by go_simp) ?_
        clear cL
        refine hK.out _ _ (fun _ => hs7) ?_
        clear hK K
        try simp only [Act.put, List.setIfInBounds_toArray, List.set_cons_zero, List.set_cons_succ]
        refine wpAnyN_take (i := 11) (oi := { dst := some 39, op := Go.Op.indexAddr 23 (Go.Operand.tmp 38) (Go.Operand.tmp 32), type := 0, pos := "draft.go:53", after := #[{ on := 10, ground := Go.Ground.data }, { on := 4, ground := Go.Ground.data }, { on := 0, ground := Go.Ground.phase }, { on := 1, ground := Go.Ground.phase }, { on := 2, ground := Go.Ground.phase }, { on := 3, ground := Go.Ground.phase }, { on := 4, ground := Go.Ground.phase }, { on := 5, ground := Go.Ground.phase }, { on := 6, ground := Go.Ground.phase }], guard := none }) (v := .pointer (some ⟨D, 9 + n, none⟩)) rfl (by decide) (by kernel_rfl) (by kernel_rfl) (by kernel_rfl) (fun _ _ _ h => h) (Or.inl ⟨by rfl, ?_⟩) hs7 ?_
        · intro W9 hS9
          have s1 : W9.cell? ⟨w.heap.size, 1, none⟩ = some (.int .u64 (s.val : Nat)) := hS9.cell 1
          clear hS9
          go_simp
        try simp only [Act.put, List.setIfInBounds_toArray, List.set_cons_zero, List.set_cons_succ]
        refine wpAnyX_one (i := 12) (o := { dst := none, op := Go.Op.store 22 (Go.Operand.tmp 39) (Go.Operand.tmp 34), type := 0, pos := "draft.go:53", after := #[{ on := 11, ground := Go.Ground.data }, { on := 6, ground := Go.Ground.data }, { on := 0, ground := Go.Ground.phase }, { on := 1, ground := Go.Ground.phase }, { on := 2, ground := Go.Ground.phase }, { on := 3, ground := Go.Ground.phase }, { on := 4, ground := Go.Ground.phase }, { on := 5, ground := Go.Ground.phase }, { on := 6, ground := Go.Ground.phase }], guard := none }) (by kernel_rfl) rfl (fun K hK => ?_)
        have cD := (Rows8.cell (show Rows8 W7 D 59 _ from hD7) (9 + n)).trans (dc_v _ _ n hn)
        have fD := Rows8.frozen (show Rows8 W7 D 59 _ from hD7) (9 + n)
        refine step_skip_g (by rfl) (w' := W7.setCell ⟨D, 9 + n, none⟩ (.int .u64 (s.val : Nat))) (by go_simp) ?_
        have hs8 := hs7.setOther (a := ⟨D, 9 + n, none⟩) (by show D ≠ w.heap.size; omega) (.int .u64 (s.val : Nat))
        refine hK.out _ _ (fun _ => hs8) ?_
        clear hK K
        try simp only [Act.put, List.setIfInBounds_toArray, List.set_cons_zero, List.set_cons_succ]
        refine wpAnyX_end (by kernel_rfl) ?_
        have hD8 := hD7.val n hn s.val
        have hU8 := (But.of_below (x := D) hB7).setCell (9 + n) (.int .u64 (s.val : Nat))
        clear hD7 hs7 hs8 hB7 cD fD
        go_wp2_with fail
        go_ret
        exact ⟨by rw [HE.out]; rfl, hU8, fun _ => by unfold setG; simpa using hD8⟩

theorem find_at {g : Gr} {key h : Nat} (he : findE g key h = 0) : ∃ n : Fin 8, findL g key h = n ∧ byt g.c n = h ∧ g.k n = key ∧ ¬ 127 < h := by
  unfold findE at he
  by_cases h1 : 127 < h
  · rw [if_pos h1] at he; cases he
  · rw [if_neg h1] at he
    rcases firstL_cases (fun n => g.k n == key) (hl g h) 0 with ⟨h2, _⟩ | ⟨pre, y, post, h2, h3, h4, h5⟩
    · unfold findO at he
      rw [h2] at he
      cases he
    · refine ⟨y, ?_, (mem_hl g h y).1 (by rw [h2]; simp), by simpa using h4, h1⟩
      unfold findL findO
      rw [if_neg h1, h5]
      rfl
set_option maxHeartbeats 8000000 in
theorem Tryz.ddrop_any (g : Gr) (hc : g.c < 18446744073709551616) (hr : rightG g = true) (lane : Int) (s : Sl) (D : Nat) (w : World) (hD : DAt w D g lane) :
    Calls Tryz.prog 24 #[.pointer (some ⟨D, 0, none⟩), .agg (sc s)] w (ChD D (findE g s.key s.h2) (dropG g s.key s.h2) (findL g s.key s.h2 : Nat) w) := by
  have HFi := fun W => Lib.hid (Tryz.vfind_any g s.key s.h2 (rightG_c hr) W)
  unfold findV at HFi
  have hDl : D < w.heap.size := Rows8.lt hD
  have h0 : Rows8 (w.alloc (.cells (sc s) 30)) w.heap.size 30 (sc s) := Rows8.new w _ _
  have hb : Below w.heap.size w (w.alloc (.cells (sc s) 30)) := (Below.refl _ w).alloc (Nat.le_refl _) _
  have hDa : DAt (w.alloc (.cells (sc s) 30)) D g lane := hD.below hb hDl
  have hz : (w.alloc (.cells (sc s) 30)).heap.size = w.heap.size + 1 := by simp
  have HAt : Hid (findE g s.key s.h2 = 0 → ∃ n : Fin 8, findL g s.key s.h2 = n ∧ byt g.c n = s.h2 ∧ g.k n = s.key ∧ ¬ 127 < s.h2) := Lib.hid find_at
  have HDG : Hid (dropG g s.key s.h2 = ⟨eraseS g.c (findL g s.key s.h2 : Nat), g.k, g.v⟩) := Lib.hid rfl
  generalize findL g s.key s.h2 = fl at *
  generalize findN g s.key s.h2 = fn at *
  generalize findE g s.key s.h2 = fe at *
  clear hD
  go_enter Tryz.func24, Tryz.ntmps24
  go_wp2_with fail
  generalize (w.alloc (.cells (sc s) 30)) = W1 at *
  have HB := Lib.hid hb
  have HS : Hid (∀ W' : World, Below W1.heap.size W1 W' → DAt W' D g lane ∧ Rows8 W' w.heap.size 30 (sc s)) := Lib.hid fun W' b => ⟨hDa.below b (by omega), h0.below b (by omega)⟩
  clear hb hDa h0
  refine wp_mono (Q := fun e a' W' => e = .normal ∧ Below W1.heap.size W1 W' ∧ a' = { tmps := #[.pointer (some ⟨D, 0, none⟩), .agg (sc s), undef, .pointer (some ⟨w.heap.size, 0, none⟩), .int .i64 0, .int .i64 (fl : Nat), .int .i64 (fn : Nat), .int .i64 fe, .tuple #[.int .i64 (fl : Nat), .int .i64 (fn : Nat), .int .i64 fe], .pointer (some ⟨D, 0, none⟩), .pointer (some ⟨D, 0, none⟩), .pointer (some ⟨D, 0, none⟩), .agg (gc g), .pointer (some ⟨w.heap.size, 0, none⟩), .int .u64 (s.key : Nat), .pointer (some ⟨w.heap.size, 2, none⟩), .int .u8 (s.h2 : Nat), .tuple #[.int .i64 (fl : Nat), .int .i64 (fn : Nat), .int .i64 fe], .int .i64 (fl : Nat), .int .i64 (fn : Nat), .int .i64 fe, undef, undef, undef, undef, undef, undef, undef, undef, undef, undef, undef, undef, undef, undef, undef, undef, undef, undef, undef], defers := [] }) ?_ ?_
  · refine wp_region_X (fun W' => DAt W' D g lane ∧ Rows8 W' w.heap.size 30 (sc s)) 16 (by kernel_rfl) ?_
    have hS0 := HS.out W1.drew (Below.refl _ _).drew
    have hB0 : Below W1.heap.size W1 W1.drew := (Below.refl _ _).drew
    generalize W1.drew = Wd at *
    refine wpAnyN_take (i := 0) (oi := { dst := some 9, op := Go.Op.move (Go.Operand.tmp 0), type := 83, pos := "draft.go:59", after := #[], guard := none }) (v := .pointer (some ⟨D, 0, none⟩)) rfl (by decide) (by kernel_rfl) (by kernel_rfl) (by kernel_rfl) (fun _ _ _ h => nomatch h.1) (Or.inl ⟨by rfl, ?_⟩) hS0 ?_
    · intro W9 hS9
      obtain ⟨q0, q1⟩ := hS9
      have d0 := Rows8.cell (show Rows8 W9 D 59 (dc g lane) from q0) 0
      rw [dc_0] at d0
      have d17 := Rows8.cell (show Rows8 W9 D 59 (dc g lane) from q0) 17
      rw [dc_17] at d17
      have s0 : W9.cell? ⟨w.heap.size, 0, none⟩ = some (.int .u64 (s.key : Nat)) := q1.cell 0
      have s1 : W9.cell? ⟨w.heap.size, 1, none⟩ = some (.int .u64 (s.val : Nat)) := q1.cell 1
      have s2 : W9.cell? ⟨w.heap.size, 2, none⟩ = some (.int .u8 (s.h2 : Nat)) := q1.cell 2
      clear q0 q1
      go_simp
    try simp only [Act.put, List.setIfInBounds_toArray, List.set_cons_zero, List.set_cons_succ]
    refine wpAnyN_take (i := 1) (oi := { dst := some 10, op := Go.Op.nilCheck (Go.Operand.tmp 9), type := 0, pos := "draft.go:59", after := #[{ on := 0, ground := Go.Ground.data }], guard := none }) (v := .pointer (some ⟨D, 0, none⟩)) rfl (by decide) (by kernel_rfl) (by kernel_rfl) (by kernel_rfl) (fun _ _ _ h => nomatch h.1) (Or.inl ⟨by rfl, ?_⟩) hS0 ?_
    · intro W9 hS9
      obtain ⟨q0, q1⟩ := hS9
      have d0 := Rows8.cell (show Rows8 W9 D 59 (dc g lane) from q0) 0
      rw [dc_0] at d0
      have d17 := Rows8.cell (show Rows8 W9 D 59 (dc g lane) from q0) 17
      rw [dc_17] at d17
      have s0 : W9.cell? ⟨w.heap.size, 0, none⟩ = some (.int .u64 (s.key : Nat)) := q1.cell 0
      have s1 : W9.cell? ⟨w.heap.size, 1, none⟩ = some (.int .u64 (s.val : Nat)) := q1.cell 1
      have s2 : W9.cell? ⟨w.heap.size, 2, none⟩ = some (.int .u8 (s.h2 : Nat)) := q1.cell 2
      clear q0 q1
      go_simp
    try simp only [Act.put, List.setIfInBounds_toArray, List.set_cons_zero, List.set_cons_succ]
    refine wpAnyN_take (i := 2) (oi := { dst := some 11, op := Go.Op.fieldAddr 59 (Go.Operand.tmp 10) 0, type := 0, pos := "draft.go:59", after := #[{ on := 1, ground := Go.Ground.data }], guard := none }) (v := .pointer (some ⟨D, 0, none⟩)) rfl (by decide) (by kernel_rfl) (by kernel_rfl) (by kernel_rfl) (fun _ _ _ h => nomatch h.1) (Or.inl ⟨by rfl, ?_⟩) hS0 ?_
    · intro W9 hS9
      obtain ⟨q0, q1⟩ := hS9
      have d0 := Rows8.cell (show Rows8 W9 D 59 (dc g lane) from q0) 0
      rw [dc_0] at d0
      have d17 := Rows8.cell (show Rows8 W9 D 59 (dc g lane) from q0) 17
      rw [dc_17] at d17
      have s0 : W9.cell? ⟨w.heap.size, 0, none⟩ = some (.int .u64 (s.key : Nat)) := q1.cell 0
      have s1 : W9.cell? ⟨w.heap.size, 1, none⟩ = some (.int .u64 (s.val : Nat)) := q1.cell 1
      have s2 : W9.cell? ⟨w.heap.size, 2, none⟩ = some (.int .u8 (s.h2 : Nat)) := q1.cell 2
      clear q0 q1
      go_simp
    try simp only [Act.put, List.setIfInBounds_toArray, List.set_cons_zero, List.set_cons_succ]
    refine wpAnyN_take (i := 3) (oi := { dst := some 12, op := Go.Op.load 57 (Go.Operand.tmp 11), type := 57, pos := "draft.go:59", after := #[{ on := 2, ground := Go.Ground.data }], guard := none }) (v := .agg (gc g)) rfl (by decide) (by kernel_rfl) (by kernel_rfl) (by kernel_rfl) (fun _ _ _ h => nomatch h.1) (Or.inl ⟨by rfl, ?_⟩) hS0 ?_
    · intro W9 hS9
      obtain ⟨q0, q1⟩ := hS9
      exact exec_load 57 _ rfl ⟨D, 0, none⟩ _ (by simp [go_sem]) (Tryz.dload_view q0)
    try simp only [Act.put, List.setIfInBounds_toArray, List.set_cons_zero, List.set_cons_succ]
    refine wpAnyN_take (i := 4) (oi := { dst := some 13, op := Go.Op.fieldAddr 30 (Go.Operand.tmp 3) 0, type := 0, pos := "draft.go:59", after := #[], guard := none }) (v := .pointer (some ⟨w.heap.size, 0, none⟩)) rfl (by decide) (by kernel_rfl) (by kernel_rfl) (by kernel_rfl) (fun _ _ _ h => nomatch h.1) (Or.inl ⟨by rfl, ?_⟩) hS0 ?_
    · intro W9 hS9
      obtain ⟨q0, q1⟩ := hS9
      have d0 := Rows8.cell (show Rows8 W9 D 59 (dc g lane) from q0) 0
      rw [dc_0] at d0
      have d17 := Rows8.cell (show Rows8 W9 D 59 (dc g lane) from q0) 17
      rw [dc_17] at d17
      have s0 : W9.cell? ⟨w.heap.size, 0, none⟩ = some (.int .u64 (s.key : Nat)) := q1.cell 0
      have s1 : W9.cell? ⟨w.heap.size, 1, none⟩ = some (.int .u64 (s.val : Nat)) := q1.cell 1
      have s2 : W9.cell? ⟨w.heap.size, 2, none⟩ = some (.int .u8 (s.h2 : Nat)) := q1.cell 2
      clear q0 q1
      go_simp
    try simp only [Act.put, List.setIfInBounds_toArray, List.set_cons_zero, List.set_cons_succ]
    refine wpAnyN_take (i := 5) (oi := { dst := some 14, op := Go.Op.load 22 (Go.Operand.tmp 13), type := 22, pos := "draft.go:59", after := #[{ on := 4, ground := Go.Ground.data }], guard := none }) (v := .int .u64 (s.key : Nat)) rfl (by decide) (by kernel_rfl) (by kernel_rfl) (by kernel_rfl) (fun _ _ _ h => nomatch h.1) (Or.inl ⟨by rfl, ?_⟩) hS0 ?_
    · intro W9 hS9
      obtain ⟨q0, q1⟩ := hS9
      have d0 := Rows8.cell (show Rows8 W9 D 59 (dc g lane) from q0) 0
      rw [dc_0] at d0
      have d17 := Rows8.cell (show Rows8 W9 D 59 (dc g lane) from q0) 17
      rw [dc_17] at d17
      have s0 : W9.cell? ⟨w.heap.size, 0, none⟩ = some (.int .u64 (s.key : Nat)) := q1.cell 0
      have s1 : W9.cell? ⟨w.heap.size, 1, none⟩ = some (.int .u64 (s.val : Nat)) := q1.cell 1
      have s2 : W9.cell? ⟨w.heap.size, 2, none⟩ = some (.int .u8 (s.h2 : Nat)) := q1.cell 2
      clear q0 q1
      go_simp
    try simp only [Act.put, List.setIfInBounds_toArray, List.set_cons_zero, List.set_cons_succ]
    refine wpAnyN_take (i := 6) (oi := { dst := some 15, op := Go.Op.fieldAddr 30 (Go.Operand.tmp 3) 2, type := 0, pos := "draft.go:59", after := #[], guard := none }) (v := .pointer (some ⟨w.heap.size, 2, none⟩)) rfl (by decide) (by kernel_rfl) (by kernel_rfl) (by kernel_rfl) (fun _ _ _ h => nomatch h.1) (Or.inl ⟨by rfl, ?_⟩) hS0 ?_
    · intro W9 hS9
      obtain ⟨q0, q1⟩ := hS9
      have d0 := Rows8.cell (show Rows8 W9 D 59 (dc g lane) from q0) 0
      rw [dc_0] at d0
      have d17 := Rows8.cell (show Rows8 W9 D 59 (dc g lane) from q0) 17
      rw [dc_17] at d17
      have s0 : W9.cell? ⟨w.heap.size, 0, none⟩ = some (.int .u64 (s.key : Nat)) := q1.cell 0
      have s1 : W9.cell? ⟨w.heap.size, 1, none⟩ = some (.int .u64 (s.val : Nat)) := q1.cell 1
      have s2 : W9.cell? ⟨w.heap.size, 2, none⟩ = some (.int .u8 (s.h2 : Nat)) := q1.cell 2
      clear q0 q1
      go_simp
    try simp only [Act.put, List.setIfInBounds_toArray, List.set_cons_zero, List.set_cons_succ]
    refine wpAnyN_take (i := 7) (oi := { dst := some 16, op := Go.Op.load 5 (Go.Operand.tmp 15), type := 5, pos := "draft.go:59", after := #[{ on := 6, ground := Go.Ground.data }], guard := none }) (v := .int .u8 (s.h2 : Nat)) rfl (by decide) (by kernel_rfl) (by kernel_rfl) (by kernel_rfl) (fun _ _ _ h => nomatch h.1) (Or.inl ⟨by rfl, ?_⟩) hS0 ?_
    · intro W9 hS9
      obtain ⟨q0, q1⟩ := hS9
      have d0 := Rows8.cell (show Rows8 W9 D 59 (dc g lane) from q0) 0
      rw [dc_0] at d0
      have d17 := Rows8.cell (show Rows8 W9 D 59 (dc g lane) from q0) 17
      rw [dc_17] at d17
      have s0 : W9.cell? ⟨w.heap.size, 0, none⟩ = some (.int .u64 (s.key : Nat)) := q1.cell 0
      have s1 : W9.cell? ⟨w.heap.size, 1, none⟩ = some (.int .u64 (s.val : Nat)) := q1.cell 1
      have s2 : W9.cell? ⟨w.heap.size, 2, none⟩ = some (.int .u8 (s.h2 : Nat)) := q1.cell 2
      clear q0 q1
      go_simp
    try simp only [Act.put, List.setIfInBounds_toArray, List.set_cons_zero, List.set_cons_succ]
    refine wpAnyX_one (i := 8) (o := { dst := some 17, op := Go.Op.call { callee := Go.Callee.value (Go.Operand.func 33), args := #[Go.Operand.tmp 12, Go.Operand.tmp 14, Go.Operand.tmp 16], argTypes := #[57, 22, 5] }, type := 49, pos := "draft.go:59", after := #[{ on := 3, ground := Go.Ground.data }, { on := 5, ground := Go.Ground.data }, { on := 7, ground := Go.Ground.data }], guard := none }) (by kernel_rfl) rfl (fun K hK => ?_)
    refine step_call_g (by rfl) 33 _ _ rfl (fun _ _ => by kernel_rfl) #[.agg (gc g), .int .u64 (s.key : Nat), .int .u8 (s.h2 : Nat)] (by simp [go_sem]) _ (HFi Wd).out ?_
    rintro e W2 ⟨rfl, hC1⟩
    refine ⟨_, rfl, ?_⟩
    have hB1 := hB0.trans (hC1.mono hB0.size)
    have hS1 := HS.out W2 hB1
    refine hK.out _ _ (fun _ => hS1) ?_
    clear hK K
    try simp only [Act.put, List.setIfInBounds_toArray, List.set_cons_zero, List.set_cons_succ]
    refine wpAnyN_take (i := 9) (oi := { dst := some 8, op := Go.Op.move (Go.Operand.tmp 17), type := 49, pos := "draft.go:59", after := #[{ on := 8, ground := Go.Ground.data }], guard := none }) (v := .tuple #[.int .i64 (fl : Nat), .int .i64 (fn : Nat), .int .i64 fe]) rfl (by decide) (by kernel_rfl) (by kernel_rfl) (by kernel_rfl) (fun _ _ _ h => nomatch h.1) (Or.inl ⟨by rfl, ?_⟩) hS1 ?_
    · intro W9 hS9
      obtain ⟨q0, q1⟩ := hS9
      go_simp
    try simp only [Act.put, List.setIfInBounds_toArray, List.set_cons_zero, List.set_cons_succ]
    refine wpAnyN_take (i := 10) (oi := { dst := some 18, op := Go.Op.extract (Go.Operand.tmp 8) 0, type := 3, pos := "draft.go:59", after := #[{ on := 9, ground := Go.Ground.data }], guard := none }) (v := .int .i64 (fl : Nat)) rfl (by decide) (by kernel_rfl) (by kernel_rfl) (by kernel_rfl) (fun _ _ _ h => nomatch h.1) (Or.inl ⟨by rfl, ?_⟩) hS1 ?_
    · intro W9 hS9
      obtain ⟨q0, q1⟩ := hS9
      go_simp
    try simp only [Act.put, List.setIfInBounds_toArray, List.set_cons_zero, List.set_cons_succ]
    refine wpAnyN_take (i := 11) (oi := { dst := some 19, op := Go.Op.extract (Go.Operand.tmp 8) 1, type := 3, pos := "draft.go:59", after := #[{ on := 9, ground := Go.Ground.data }, { on := 13, ground := Go.Ground.gcOnly Go.Departure.lateStores }], guard := none }) (v := .int .i64 (fn : Nat)) rfl (by decide) (by kernel_rfl) (by kernel_rfl) (by kernel_rfl) (fun _ _ _ h => nomatch h.1) (Or.inl ⟨by rfl, ?_⟩) hS1 ?_
    · intro W9 hS9
      obtain ⟨q0, q1⟩ := hS9
      go_simp
    try simp only [Act.put, List.setIfInBounds_toArray, List.set_cons_zero, List.set_cons_succ]
    refine wpAnyN_take (i := 12) (oi := { dst := some 20, op := Go.Op.extract (Go.Operand.tmp 8) 2, type := 34, pos := "draft.go:59", after := #[{ on := 9, ground := Go.Ground.data }, { on := 14, ground := Go.Ground.gcOnly Go.Departure.lateStores }], guard := none }) (v := .int .i64 fe) rfl (by decide) (by kernel_rfl) (by kernel_rfl) (by kernel_rfl) (fun _ _ _ h => nomatch h.1) (Or.inl ⟨by rfl, ?_⟩) hS1 ?_
    · intro W9 hS9
      obtain ⟨q0, q1⟩ := hS9
      go_simp
    try simp only [Act.put, List.setIfInBounds_toArray, List.set_cons_zero, List.set_cons_succ]
    refine wpAnyN_take (i := 13) (oi := { dst := some 5, op := Go.Op.assign (Go.Operand.tmp 18), type := 3, pos := "draft.go:59", after := #[{ on := 10, ground := Go.Ground.data }, { on := 8, ground := Go.Ground.chain }, { on := 0, ground := Go.Ground.phase }, { on := 1, ground := Go.Ground.phase }, { on := 2, ground := Go.Ground.phase }, { on := 3, ground := Go.Ground.phase }, { on := 4, ground := Go.Ground.phase }, { on := 5, ground := Go.Ground.phase }, { on := 6, ground := Go.Ground.phase }, { on := 7, ground := Go.Ground.phase }, { on := 8, ground := Go.Ground.phase }, { on := 9, ground := Go.Ground.phase }, { on := 10, ground := Go.Ground.phase }, { on := 11, ground := Go.Ground.textOnly Go.Departure.lateStores }, { on := 12, ground := Go.Ground.textOnly Go.Departure.lateStores }], guard := none }) (v := .int .i64 (fl : Nat)) rfl (by decide) (by kernel_rfl) (by kernel_rfl) (by kernel_rfl) (fun _ _ _ h => nomatch h.1) (Or.inl ⟨by rfl, ?_⟩) hS1 ?_
    · intro W9 hS9
      obtain ⟨q0, q1⟩ := hS9
      go_simp
    try simp only [Act.put, List.setIfInBounds_toArray, List.set_cons_zero, List.set_cons_succ]
    refine wpAnyN_take (i := 14) (oi := { dst := some 6, op := Go.Op.assign (Go.Operand.tmp 19), type := 3, pos := "draft.go:59", after := #[{ on := 11, ground := Go.Ground.data }, { on := 13, ground := Go.Ground.chain }, { on := 0, ground := Go.Ground.phase }, { on := 1, ground := Go.Ground.phase }, { on := 2, ground := Go.Ground.phase }, { on := 3, ground := Go.Ground.phase }, { on := 4, ground := Go.Ground.phase }, { on := 5, ground := Go.Ground.phase }, { on := 6, ground := Go.Ground.phase }, { on := 7, ground := Go.Ground.phase }, { on := 8, ground := Go.Ground.phase }, { on := 9, ground := Go.Ground.phase }, { on := 10, ground := Go.Ground.phase }, { on := 11, ground := Go.Ground.phase }, { on := 12, ground := Go.Ground.textOnly Go.Departure.lateStores }, { on := 13, ground := Go.Ground.phase }], guard := none }) (v := .int .i64 (fn : Nat)) rfl (by decide) (by kernel_rfl) (by kernel_rfl) (by kernel_rfl) (fun _ _ _ h => nomatch h.1) (Or.inl ⟨by rfl, ?_⟩) hS1 ?_
    · intro W9 hS9
      obtain ⟨q0, q1⟩ := hS9
      go_simp
    try simp only [Act.put, List.setIfInBounds_toArray, List.set_cons_zero, List.set_cons_succ]
    refine wpAnyN_take (i := 15) (oi := { dst := some 7, op := Go.Op.assign (Go.Operand.tmp 20), type := 34, pos := "draft.go:59", after := #[{ on := 12, ground := Go.Ground.data }, { on := 14, ground := Go.Ground.chain }, { on := 0, ground := Go.Ground.phase }, { on := 1, ground := Go.Ground.phase }, { on := 2, ground := Go.Ground.phase }, { on := 3, ground := Go.Ground.phase }, { on := 4, ground := Go.Ground.phase }, { on := 5, ground := Go.Ground.phase }, { on := 6, ground := Go.Ground.phase }, { on := 7, ground := Go.Ground.phase }, { on := 8, ground := Go.Ground.phase }, { on := 9, ground := Go.Ground.phase }, { on := 10, ground := Go.Ground.phase }, { on := 11, ground := Go.Ground.phase }, { on := 12, ground := Go.Ground.phase }, { on := 13, ground := Go.Ground.phase }, { on := 14, ground := Go.Ground.phase }], guard := none }) (v := .int .i64 fe) rfl (by decide) (by kernel_rfl) (by kernel_rfl) (by kernel_rfl) (fun _ _ _ h => nomatch h.1) (Or.inl ⟨by rfl, ?_⟩) hS1 ?_
    · intro W9 hS9
      obtain ⟨q0, q1⟩ := hS9
      go_simp
    try simp only [Act.put, List.setIfInBounds_toArray, List.set_cons_zero, List.set_cons_succ]
    refine wpAnyX_end (by kernel_rfl) ?_
    exact ⟨rfl, hB1, rfl⟩
  · rintro e a' W2 ⟨rfl, hB2, rfl⟩
    obtain ⟨hD2, hs2⟩ := HS.out W2 hB2
    have HB2 := Lib.hid (HB.out.trans (hB2.mono HB.out.size))
    clear hB2 hs2
    by_cases hfe : fe = 0
    · subst hfe
      obtain ⟨n, hfl, hbt, _, h127⟩ := HAt.out rfl
      subst hfl
      have hkd : kd (byt g.c n) = 0 := by rw [hbt]; exact kd_yes h127
      have he0 : eraseE g.c ((n : Nat) : Int) = 0 := by
        unfold eraseE
        have := n.isLt
        rw [if_neg (by omega), if_pos (by simpa using hkd)]
      have cD := (Rows8.cell (show Rows8 W2 D 59 _ from hD2) 17).trans (dc_17 _ _)
      have fD := Rows8.frozen (show Rows8 W2 D 59 _ from hD2) 17
      have hD3 := hD2.lane ((n : Nat) : Int)
      have hU3 := (But.of_below (x := D) HB2.out).setCell 17 (.int .i64 ((n : Nat) : Int))
      have c0 := (Rows8.cell (show Rows8 _ D 59 _ from hD3) 0).trans (dc_0 _ _)
      have HD3 := Lib.hid hD3
      have HU3 := Lib.hid hU3
      have HEr := fun W => Lib.hid (Tryz.cErase_any g.c ((n : Nat) : Int) hc W)
      rw [he0, show resY g.c 0 (eraseS g.c (n : Nat)) = eraseS g.c (n : Nat) from by unfold resY; rw [if_pos (rightG_c hr), if_pos rfl], show resE g.c 0 = 0 from by unfold resE; rw [if_pos (rightG_c hr)]] at HEr
      clear hD2 hD3 hU3 hbt h127 hkd he0
      go_wp2_with (first | (go_at_call 45; refine (HEr _).out.mono ?_; rintro e w5 ⟨rfl, hB5⟩; have hD5 := HD3.out.below hB5 (Rows8.lt HD3.out); have HU5 := Lib.hid (HU3.out.trans (But.of_below (hB5.mono HU3.out.size))); have HD5 := Lib.hid hD5; clear hB5 hD5) | (go_at_call 44; refine (Tryz.mark_any _ _ D _ 0 _ HD5.out).mono ?_; rintro e w6 ⟨rfl, rfl⟩))
      go_ret
      exact ⟨rfl, HU5.out.setCell 0 _, fun _ => by rw [HDG.out]; exact HD5.out.ctrl _⟩
    · have hne : (fe == 0) = false := by simpa using hfe
      have hfe2 := Lib.hid hfe
      clear hD2 hfe
      go_wp2_with fail
      go_ret
      exact ⟨rfl, But.of_below HB2.out, fun h => absurd h hfe2.out⟩
end Go.Proofs

/- Group: a draft, changed by each of these. -/
namespace Go.Proofs
set_option maxRecDepth 100000
open Go.RowKit Go.Shelf
attribute [local go_sem] Oper.semAt_some

theorem slotVals_length (l : List Sl) : (slotVals l).length = l.length * 3 := flat_length _ 3 (fun _ => rfl) l
theorem slotsAt_get {W : World} {a : Option Addr} {n cap : Nat} {ss : List Sl} (h : RowAt W (.slice a n cap) n 3 (slotVals ss)) (k : Nat) (hk : k < ss.length) :
    ∃ b off, a = some ⟨b, off, none⟩ ∧ b < W.heap.size ∧ W.cell? ⟨b, off + k * 3, none⟩ = some (.int .u64 ((ss[k]).key : Nat)) ∧ W.cell? ⟨b, off + k * 3 + 1, none⟩ = some (.int .u64 ((ss[k]).val : Nat)) ∧ W.cell? ⟨b, off + k * 3 + 2, none⟩ = some (.int .u8 ((ss[k]).h2 : Nat)) := by
  obtain ⟨_, a', cap', h1, _, _, _, h5⟩ := h
  cases h1
  have hl := slotVals_length ss
  have g : ∀ i, i < 3 → (slotVals ss)[k * 3 + i]? = ([.int .u64 ((ss[k]).key : Nat), .int .u64 ((ss[k]).val : Nat), .int .u8 ((ss[k]).h2 : Nat)] : List Value)[i]? := fun i hi => flat_get _ 3 (fun _ => rfl) ss k i hk hi
  obtain ⟨b, off, e, hb, c0⟩ := h5 (k * 3 + 0) (by omega)
  obtain ⟨b1, off1, e1, _, c1⟩ := h5 (k * 3 + 1) (by omega)
  obtain ⟨b2, off2, e2, _, c2⟩ := h5 (k * 3 + 2) (by omega)
  rw [e] at e1 e2
  cases e1; cases e2
  rw [g 0 (by omega)] at c0
  rw [g 1 (by omega)] at c1
  rw [g 2 (by omega)] at c2
  exact ⟨b, off, e, hb, c0, by rw [Nat.add_assoc]; exact c1, by rw [Nat.add_assoc]; exact c2⟩
theorem but_rows {A B : World} {h x b : Nat} {t : TypeId} {cs : Array Value} (r : Rows8 A b t cs) (p : But h x A B) (h1 : b < h) (h2 : b ≠ x) : Rows8 B b t cs := (p.block b h1 h2).trans r
theorem results_ctt {P : Program} {fn : Func} {p q r : Tmp} {ty : TypeId} (h : fn.results = #[.cell p ty, .tmp q, .tmp r]) (tmps : Array Value) (w : World) (B : Nat) (u x y : Value)
    (hp : tmps.getD p undef = .pointer (some ⟨B, 0, none⟩)) (hq : tmps.getD q undef = x) (hr : tmps.getD r undef = y) (h1 : (loadVar ty ⟨B, 0, none⟩).run P w = .ok u w) :
    (results fn tmps).run P w = .ok (.tuple #[u, x, y]) w := by
  have hp' : tmps[p]?.getD undef = .pointer (some ⟨B, 0, none⟩) := by simpa using hp
  have hq' : tmps[q]?.getD undef = x := by simpa using hq
  have hr' : tmps[r]?.getD undef = y := by simpa using hr
  simp [results, h, hp', hq', hr', asAddr, h1, Result.andThen]
/-- What comes of changes, one behind the other. -/
abbrev St := Gr × Int
def runC (ch : St → Sl → Int × St) : St → List Sl → Int × St
  | p, [] => (0, p)
  | p, s :: r => if (ch p s).1 = 0 then runC ch (ch p s).2 r else ((ch p s).1, p)
def bE (ch : St → Sl → Int × St) (p : St) (ss : List Sl) : Int := if rightG p.1 then (runC ch p ss).1 else 200
def bG (ch : St → Sl → Int × St) (p : St) (ss : List Sl) : Gr := if bE ch p ss = 0 then (runC ch p ss).2.1 else zG
def bL (ch : St → Sl → Int × St) (p : St) (ss : List Sl) : Int := if bE ch p ss = 0 then (runC ch p ss).2.2 else 0
def BehQ (ch : St → Sl → Int × St) (p : St) (ss : List Sl) (D : Nat) (w : World) (e : Ending) (w' : World) : Prop := e = .returned (.tuple #[.agg (gc (bG ch p ss)), .int .i64 (bL ch p ss), .int .i64 (bE ch p ss)]) ∧ But w.heap.size D w w'
theorem BehQ.err {ch : St → Sl → Int × St} {p : St} {ss : List Sl} {D : Nat} {w w' : World} {E : Int} (hE : bE ch p ss = E) (h0 : E ≠ 0) (hU : But w.heap.size D w w') : BehQ ch p ss D w (.returned (.tuple #[.agg (gc zG), .int .i64 0, .int .i64 E])) w' := by
  refine ⟨?_, hU⟩
  unfold bG bL
  rw [hE, if_neg h0, if_neg h0]
set_option maxHeartbeats 8000000 in
theorem Tryz.behind_any (ch : St → Sl → Int × St) (Ok : St → Prop) (f : FuncId) (ss : List Sl) (a : Option Addr) (n cap D : Nat) (p : St) (w : World) (hD : DAt w D p.1 p.2) (hOk : rightG p.1 = true → Ok p)
    (eg : ∀ args w, (callFunc f args).run Tryz.prog w = .ok (.enter f args) w)
    (hch : ∀ p s W, Ok p → s ∈ ss → DAt W D p.1 p.2 → Calls Tryz.prog f #[.pointer (some ⟨D, 0, none⟩), .agg (sc s)] W (ChD D (ch p s).1 (ch p s).2.1 (ch p s).2.2 W))
    (hpr : ∀ p s, Ok p → s ∈ ss → (ch p s).1 = 0 → Ok (ch p s).2)
    (hrow : ∀ W', But w.heap.size D w W' → RowAt W' (.slice a n cap) n 3 (slotVals ss)) (hn : n = ss.length) (hl : n ≤ 100000) :
    Calls Tryz.prog 21 #[.pointer (some ⟨D, 0, none⟩), .func (.func f) #[.pointer (some ⟨D, 0, none⟩)] #[], .slice a n cap] w (BehQ ch p ss D w) := by
  have HM := fun W => Lib.hid (Tryz.vmayBe_any p.1 W)
  have hDl : D < w.heap.size := Rows8.lt hD
  have h0 : Rows8 (w.alloc (.cells (gc zG) 25)) w.heap.size 25 (gc zG) := Rows8.new w _ _
  have hb : Below w.heap.size w (w.alloc (.cells (gc zG) 25)) := (Below.refl _ w).alloc (Nat.le_refl _) _
  have hDa : DAt (w.alloc (.cells (gc zG) 25)) D p.1 p.2 := hD.below hb hDl
  have hld := Tryz.dload_view hDa
  have HCh := Lib.hid hch
  have HPr := Lib.hid hpr
  have HRow := Lib.hid hrow
  have HN := Lib.hid hn
  clear hch hpr hrow hn hD
  cases hr : rightG p.1
  · have HE : Hid (bE ch p ss = 200) := Lib.hid (by unfold bE; rw [hr]; rfl)
    have HR := Lib.hid hr
    clear hr hDa
    go_enter Tryz.func21, Tryz.ntmps21
    go_wp2_with (first | (refine wpList_loadW (by rfl) _ _ rfl ⟨D, 0, none⟩ _ rfl hld ?_) | (refine wpList_storeW (by rfl) _ _ _ rfl ⟨w.heap.size, 0, none⟩ _ rfl rfl hst ?_) | (go_at_call 34; refine (HM _).out.mono ?_; rw [HR.out]; rintro e w1 ⟨rfl, hB1⟩; have hr1 := h0.below hB1 h0.lt; have hst := Tryz.store_group zG hr1 rfl; have HR1 := Lib.hid (setRow_heap w1 w.heap.size (gc zG) (gc zG) _ _ hr1); have HB1 := Lib.hid (below_setRow (hb.trans (hB1.mono hb.size)) (Nat.le_refl _) (gc zG)); clear hB1 hr1))
    refine bodyPost_ret (results_ctt rfl _ _ w.heap.size _ _ _ rfl rfl rfl (run_loadVar_row (P := Tryz.prog) _ w.heap.size 25 25 _ (0, 0) _ HR1.out Tryz.underlying25 rfl (by kernel_rfl))) rfl ?_
    exact BehQ.err HE.out (by decide) (But.of_below HB1.out)
  · have HR := Lib.hid hr
    have HOk := Lib.hid (hOk hr)
    have HE : Hid (bE ch p ss = (runC ch p ss).1) := Lib.hid (by unfold bE; rw [if_pos hr])
    clear hr hOk
    go_enter Tryz.func21, Tryz.ntmps21
    go_wp2_with (first | (refine wpList_loadW (by rfl) _ _ rfl ⟨D, 0, none⟩ _ rfl hld ?_) | (go_at_call 34; refine (HM _).out.mono ?_; rw [HR.out]; rintro e w1 ⟨rfl, hB1⟩; have hr1 := h0.below hB1 h0.lt; have hD1 := hDa.below hB1 (Rows8.lt hDa); have HU1 := Lib.hid (But.of_below (x := D) (hb.trans (hB1.mono hb.size))); have HR1 := Lib.hid hr1; have HD1 := Lib.hid hD1; clear hB1 hr1 hD1))
    clear hDa h0 hb hld HM
    go_loopw [21] (fun i wr => ∃ (k : Nat) (q : St), k ≤ n ∧ i = .int .i64 k ∧ Hid (runC ch p ss = runC ch q (ss.drop k)) ∧ Hid (DAt wr D q.1 q.2) ∧ Hid (Ok q) ∧ Hid (But w.heap.size D w wr) ∧ Hid (Rows8 wr w.heap.size 25 (gc zG))) (fun i _ => n - (intOf i).toNat)
    case atStart => exact ⟨0, p, Nat.zero_le _, rfl, Lib.hid (by rw [List.drop_zero]), HD1, HOk, HU1, HR1⟩
    case round =>
      obtain ⟨k, q, hk, rfl, hrun, hDr, hOq, hU, hH⟩ := hrel
      have hwl := hU.out.size
      by_cases hlt : k < n
      · have hkl : k < ss.length := by rw [← HN.out]; exact hlt
        obtain ⟨b, off, rfl, hbl, c0, c1, c2⟩ := slotsAt_get (HRow.out _ hU.out) k hkl
        have hki : (k : Int) < (n : Int) := by omega
        have hdr : Hid (ss.drop k = ss[k] :: ss.drop (k + 1)) := Lib.hid (List.drop_eq_getElem_cons hkl)
        have hmem : ss[k] ∈ ss := List.getElem_mem hkl
        generalize ss[k] = s at *
        have hBa : Below wr.heap.size wr (wr.alloc (.cells #[.int .u64 (s.key : Nat), .int .u64 (s.val : Nat), .int .u8 (s.h2 : Nat)] 30)) := (Below.refl _ _).alloc (Nat.le_refl _) _
        have hcall := HCh.out q s _ hOq.out hmem (hDr.out.below hBa (Rows8.lt hDr.out))
        have hdp := HPr.out q s hOq.out hmem
        have hrs : Hid (runC ch p ss = if (ch q s).1 = 0 then runC ch (ch q s).2 (ss.drop (k + 1)) else ((ch q s).1, q)) := Lib.hid (by rw [hrun.out, hdr.out, runC])
        obtain ⟨⟨E, q2⟩, hcq⟩ : ∃ x, x = ch q s := ⟨_, rfl⟩
        rw [← hcq] at hcall hdp hrs
        dsimp only at hcall hdp hrs
        have HCall := Lib.hid hcall
        have HDP := Lib.hid hdp
        have HBa := Lib.hid hBa
        have hHl := Rows8.lt hH.out
        have hDne : D ≠ w.heap.size := by omega
        clear hcall hdp hBa hrun hdr hcq hmem
        go_wp2_with fail
        refine HCall.out.mono ?_
        rintro e W2 ⟨rfl, hU2, hD2⟩
        have hH2 := but_rows (hH.out.below HBa.out hH.out.lt) hU2 (by have := HBa.out.size; omega) (by omega)
        have hU3 := hU.out.trans ((But.of_below (x := D) (HBa.out.mono hwl)).trans (hU2.mono (by have := HBa.out.size; omega)))
        have HU3 := Lib.hid hU3
        have HH2 := Lib.hid hH2
        by_cases hE0 : E = 0
        · subst hE0
          have HD2 := Lib.hid (hD2 rfl)
          have HO2 := Lib.hid (HDP.out rfl)
          have HRun : Hid (runC ch p ss = runC ch q2 (ss.drop (k + 1))) := Lib.hid (by rw [hrs.out, if_pos rfl])
          clear hD2 hH2 hU2 hU3
          go_wp2_with fail
          go_roundw
          case rel => exact ⟨k + 1, q2, by omega, by go_num, HRun, HD2, HO2, HU3, HH2⟩
          case measure => simp [intOf]; omega
        · have hne : (E == 0) = false := by simpa using hE0
          have HRun : Hid (bE ch p ss = E) := Lib.hid (by rw [HE.out, hrs.out, if_neg hE0])
          have HE0 := Lib.hid hE0
          have hst := Tryz.store_group zG hH2 rfl
          have HR3 := Lib.hid (setRow_heap W2 w.heap.size (gc zG) (gc zG) _ _ hH2)
          have HU4 : Hid (But w.heap.size D w (W2.setRow w.heap.size (gc zG))) := Lib.hid (hU3.trans (But.of_below (below_setRow (Below.refl _ _) (Nat.le_refl _) _)))
          clear hD2 hH2 hU2 hU3 hE0
          go_wp2_with (refine wpList_storeW (by rfl) _ _ _ rfl ⟨w.heap.size, 0, none⟩ _ rfl rfl hst ?_)
          refine bodyPost_ret (results_ctt rfl _ _ w.heap.size _ _ _ rfl rfl rfl (run_loadVar_row (P := Tryz.prog) _ w.heap.size 25 25 _ (0, 0) _ HR3.out Tryz.underlying25 rfl (by kernel_rfl))) rfl ?_
          exact BehQ.err HRun.out HE0.out HU4.out
      · obtain rfl : k = n := by omega
        have HRun : Hid (runC ch p ss = (0, q)) := Lib.hid (by rw [hrun.out, List.drop_of_length_le (by rw [HN.out]; exact Nat.le_refl _), runC])
        have hHl := Rows8.lt hH.out
        go_wp2_with fail
        refine wp_region_X (fun W' => DAt W' D q.1 q.2) 12 (by kernel_rfl) ?_
        have hD9 : DAt wr.drew D q.1 q.2 := Rows8.drew hDr.out
        have hH9 := hH.out.drew
        have hU9 := hU.out.drew
        generalize wr.drew = Wd at *
        refine wpAnyN_take (i := 0) (oi := { dst := some 33, op := Go.Op.move (Go.Operand.tmp 0), type := 83, pos := "draft.go:25", after := #[], guard := none }) (v := .pointer (some ⟨D, 0, none⟩)) rfl (by decide) (by kernel_rfl) (by kernel_rfl) (by kernel_rfl) (fun _ _ _ h => h) (Or.inl ⟨by rfl, ?_⟩) hD9 ?_
        · intro W9 hS9
          have d17 := (Rows8.cell (show Rows8 W9 D 59 (dc q.1 q.2) from hS9) 17).trans (dc_17 _ _)
          clear hS9
          go_simp
        try simp only [Act.put, List.setIfInBounds_toArray, List.set_cons_zero, List.set_cons_succ]
        refine wpAnyN_take (i := 1) (oi := { dst := some 34, op := Go.Op.nilCheck (Go.Operand.tmp 33), type := 0, pos := "draft.go:25", after := #[{ on := 0, ground := Go.Ground.data }], guard := none }) (v := .pointer (some ⟨D, 0, none⟩)) rfl (by decide) (by kernel_rfl) (by kernel_rfl) (by kernel_rfl) (fun _ _ _ h => h) (Or.inl ⟨by rfl, ?_⟩) hD9 ?_
        · intro W9 hS9
          have d17 := (Rows8.cell (show Rows8 W9 D 59 (dc q.1 q.2) from hS9) 17).trans (dc_17 _ _)
          clear hS9
          go_simp
        try simp only [Act.put, List.setIfInBounds_toArray, List.set_cons_zero, List.set_cons_succ]
        refine wpAnyN_take (i := 2) (oi := { dst := some 35, op := Go.Op.fieldAddr 59 (Go.Operand.tmp 34) 0, type := 0, pos := "draft.go:25", after := #[{ on := 1, ground := Go.Ground.data }], guard := none }) (v := .pointer (some ⟨D, 0, none⟩)) rfl (by decide) (by kernel_rfl) (by kernel_rfl) (by kernel_rfl) (fun _ _ _ h => h) (Or.inl ⟨by rfl, ?_⟩) hD9 ?_
        · intro W9 hS9
          have d17 := (Rows8.cell (show Rows8 W9 D 59 (dc q.1 q.2) from hS9) 17).trans (dc_17 _ _)
          clear hS9
          go_simp
        try simp only [Act.put, List.setIfInBounds_toArray, List.set_cons_zero, List.set_cons_succ]
        refine wpAnyN_take (i := 3) (oi := { dst := some 36, op := Go.Op.fieldAddr 57 (Go.Operand.tmp 35) 0, type := 0, pos := "draft.go:25", after := #[{ on := 2, ground := Go.Ground.data }], guard := none }) (v := .pointer (some ⟨D, 0, none⟩)) rfl (by decide) (by kernel_rfl) (by kernel_rfl) (by kernel_rfl) (fun _ _ _ h => h) (Or.inl ⟨by rfl, ?_⟩) hD9 ?_
        · intro W9 hS9
          have d17 := (Rows8.cell (show Rows8 W9 D 59 (dc q.1 q.2) from hS9) 17).trans (dc_17 _ _)
          clear hS9
          go_simp
        try simp only [Act.put, List.setIfInBounds_toArray, List.set_cons_zero, List.set_cons_succ]
        refine wpAnyN_take (i := 4) (oi := { dst := some 37, op := Go.Op.load 25 (Go.Operand.tmp 36), type := 25, pos := "draft.go:25", after := #[{ on := 3, ground := Go.Ground.data }], guard := none }) (v := .agg (gc q.1)) rfl (by decide) (by kernel_rfl) (by kernel_rfl) (by kernel_rfl) (fun _ _ _ h => h) (Or.inl ⟨by rfl, ?_⟩) hD9 ?_
        · intro W9 hS9
          exact exec_load 25 _ rfl ⟨D, 0, none⟩ _ (by simp [go_sem]) (Tryz.dload_group hS9)
        try simp only [Act.put, List.setIfInBounds_toArray, List.set_cons_zero, List.set_cons_succ]
        refine wpAnyN_take (i := 5) (oi := { dst := some 38, op := Go.Op.move (Go.Operand.tmp 0), type := 83, pos := "draft.go:25", after := #[{ on := 9, ground := Go.Ground.gcOnly Go.Departure.lateStores }], guard := none }) (v := .pointer (some ⟨D, 0, none⟩)) rfl (by decide) (by kernel_rfl) (by kernel_rfl) (by kernel_rfl) (fun _ _ _ h => h) (Or.inl ⟨by rfl, ?_⟩) hD9 ?_
        · intro W9 hS9
          have d17 := (Rows8.cell (show Rows8 W9 D 59 (dc q.1 q.2) from hS9) 17).trans (dc_17 _ _)
          clear hS9
          go_simp
        try simp only [Act.put, List.setIfInBounds_toArray, List.set_cons_zero, List.set_cons_succ]
        refine wpAnyN_take (i := 6) (oi := { dst := some 39, op := Go.Op.nilCheck (Go.Operand.tmp 38), type := 0, pos := "draft.go:25", after := #[{ on := 5, ground := Go.Ground.data }, { on := 9, ground := Go.Ground.gcOnly Go.Departure.lateStores }], guard := none }) (v := .pointer (some ⟨D, 0, none⟩)) rfl (by decide) (by kernel_rfl) (by kernel_rfl) (by kernel_rfl) (fun _ _ _ h => h) (Or.inl ⟨by rfl, ?_⟩) hD9 ?_
        · intro W9 hS9
          have d17 := (Rows8.cell (show Rows8 W9 D 59 (dc q.1 q.2) from hS9) 17).trans (dc_17 _ _)
          clear hS9
          go_simp
        try simp only [Act.put, List.setIfInBounds_toArray, List.set_cons_zero, List.set_cons_succ]
        refine wpAnyN_take (i := 7) (oi := { dst := some 40, op := Go.Op.fieldAddr 59 (Go.Operand.tmp 39) 1, type := 0, pos := "draft.go:25", after := #[{ on := 6, ground := Go.Ground.data }, { on := 9, ground := Go.Ground.gcOnly Go.Departure.lateStores }], guard := none }) (v := .pointer (some ⟨D, 17, none⟩)) rfl (by decide) (by kernel_rfl) (by kernel_rfl) (by kernel_rfl) (fun _ _ _ h => h) (Or.inl ⟨by rfl, ?_⟩) hD9 ?_
        · intro W9 hS9
          have d17 := (Rows8.cell (show Rows8 W9 D 59 (dc q.1 q.2) from hS9) 17).trans (dc_17 _ _)
          clear hS9
          go_simp
        try simp only [Act.put, List.setIfInBounds_toArray, List.set_cons_zero, List.set_cons_succ]
        refine wpAnyN_take (i := 8) (oi := { dst := some 41, op := Go.Op.load 3 (Go.Operand.tmp 40), type := 3, pos := "draft.go:25", after := #[{ on := 7, ground := Go.Ground.data }, { on := 9, ground := Go.Ground.gcOnly Go.Departure.lateStores }], guard := none }) (v := .int .i64 q.2) rfl (by decide) (by kernel_rfl) (by kernel_rfl) (by kernel_rfl) (fun _ _ _ h => h) (Or.inl ⟨by rfl, ?_⟩) hD9 ?_
        · intro W9 hS9
          have d17 := (Rows8.cell (show Rows8 W9 D 59 (dc q.1 q.2) from hS9) 17).trans (dc_17 _ _)
          clear hS9
          go_simp
        try simp only [Act.put, List.setIfInBounds_toArray, List.set_cons_zero, List.set_cons_succ]
        refine wpAnyX_one (i := 9) (o := { dst := none, op := Go.Op.store 25 (Go.Operand.tmp 6) (Go.Operand.tmp 37), type := 0, pos := "draft.go:25", after := #[{ on := 4, ground := Go.Ground.data }, { on := 0, ground := Go.Ground.phase }, { on := 1, ground := Go.Ground.phase }, { on := 2, ground := Go.Ground.phase }, { on := 3, ground := Go.Ground.phase }, { on := 4, ground := Go.Ground.phase }, { on := 5, ground := Go.Ground.textOnly Go.Departure.lateStores }, { on := 6, ground := Go.Ground.textOnly Go.Departure.lateStores }, { on := 7, ground := Go.Ground.textOnly Go.Departure.lateStores }, { on := 8, ground := Go.Ground.textOnly Go.Departure.lateStores }], guard := none }) (by kernel_rfl) rfl (fun K hK => ?_)
        refine step_store_g (by rfl) 25 _ _ rfl ⟨w.heap.size, 0, none⟩ (.agg (gc q.1)) (by simp [go_sem]) (by simp [go_sem]) (Tryz.store_group q.1 hH9 rfl) ?_
        have hD8 : DAt (Wd.setRow w.heap.size (gc q.1)) D q.1 q.2 := (setRow_other _ _ _ _ (by omega)).trans hD9
        refine hK.out _ _ (fun _ => hD8) ?_
        clear hK K
        try simp only [Act.put, List.setIfInBounds_toArray, List.set_cons_zero, List.set_cons_succ]
        refine wpAnyN_take (i := 10) (oi := { dst := some 7, op := Go.Op.assign (Go.Operand.tmp 41), type := 3, pos := "draft.go:25", after := #[{ on := 8, ground := Go.Ground.data }, { on := 9, ground := Go.Ground.chain }, { on := 0, ground := Go.Ground.phase }, { on := 1, ground := Go.Ground.phase }, { on := 2, ground := Go.Ground.phase }, { on := 3, ground := Go.Ground.phase }, { on := 4, ground := Go.Ground.phase }, { on := 5, ground := Go.Ground.phase }, { on := 6, ground := Go.Ground.phase }, { on := 7, ground := Go.Ground.phase }, { on := 8, ground := Go.Ground.phase }, { on := 9, ground := Go.Ground.phase }], guard := none }) (v := .int .i64 q.2) rfl (by decide) (by kernel_rfl) (by kernel_rfl) (by kernel_rfl) (fun _ _ _ h => h) (Or.inl ⟨by rfl, ?_⟩) hD8 ?_
        · intro W9 hS9
          go_simp
        try simp only [Act.put, List.setIfInBounds_toArray, List.set_cons_zero, List.set_cons_succ]
        refine wpAnyN_take (i := 11) (oi := { dst := some 8, op := Go.Op.assign (Go.Operand.const (Go.Value.int Go.IntKind.i64 0)), type := 34, pos := "draft.go:25", after := #[{ on := 10, ground := Go.Ground.chain }, { on := 0, ground := Go.Ground.phase }, { on := 1, ground := Go.Ground.phase }, { on := 2, ground := Go.Ground.phase }, { on := 3, ground := Go.Ground.phase }, { on := 4, ground := Go.Ground.phase }, { on := 5, ground := Go.Ground.phase }, { on := 6, ground := Go.Ground.phase }, { on := 7, ground := Go.Ground.phase }, { on := 8, ground := Go.Ground.phase }, { on := 9, ground := Go.Ground.phase }, { on := 10, ground := Go.Ground.phase }], guard := none }) (v := .int .i64 0) rfl (by decide) (by kernel_rfl) (by kernel_rfl) (by kernel_rfl) (fun _ _ _ h => h) (Or.inl ⟨by rfl, ?_⟩) hD8 ?_
        · intro W9 hS9
          go_simp
        try simp only [Act.put, List.setIfInBounds_toArray, List.set_cons_zero, List.set_cons_succ]
        refine wpAnyX_end (by kernel_rfl) ?_
        go_wp2_with fail
        have hR := setRow_heap Wd w.heap.size (gc zG) (gc q.1) _ _ hH9
        refine bodyPost_ret (results_ctt rfl _ _ w.heap.size _ _ _ rfl rfl rfl (run_loadVar_row (P := Tryz.prog) _ w.heap.size 25 25 _ (0, 0) _ hR Tryz.underlying25 rfl (by kernel_rfl))) rfl ?_
        refine ⟨?_, hU9.trans (But.of_below (below_setRow (Below.refl _ _) (Nat.le_refl _) _))⟩
        have hE9 : bE ch p ss = 0 := by rw [HE.out, HRun.out]
        unfold bG bL
        rw [hE9, if_pos rfl, if_pos rfl, HRun.out]
        rfl
end Go.Proofs

/- Group: Put, Drop, Set, Puts. -/
namespace Go.Proofs
set_option maxRecDepth 100000
set_option maxRecDepth 100000
open Go.RowKit Go.Shelf
attribute [local go_sem] Oper.semAt_some

theorem right_iff {g : Gr} : rightG g = true ↔ rightC g.c = true ∧ (fl g).Pairwise fun (y x : Fin 8) => g.k y ≠ g.k x := by
  unfold rightG apartB
  rw [Bool.and_eq_true, decide_eq_true_eq]
/-- Of two full lanes the keys are apart. -/
theorem right_apart {g : Gr} (h : rightG g = true) {y x : Fin 8} (hy : byt g.c y < 128) (hx : byt g.c x < 128) (hk : g.k y = g.k x) : y = x := by
  have hp := (right_iff.1 h).2
  have my := (mem_fl g y).2 hy
  have mx := (mem_fl g x).2 hx
  have h1 : ∀ y x : Fin 8, y ∈ fl g → x ∈ fl g → (y : Nat) < x → g.k y ≠ g.k x := by
    intro y x my mx hlt
    have hs := List.Pairwise.and hp (lanes_lt (fm g))
    obtain ⟨i, hi, rfl⟩ := List.getElem_of_mem my
    obtain ⟨j, hj, rfl⟩ := List.getElem_of_mem mx
    have hij : i < j := by
      rcases Nat.lt_trichotomy i j with h | h | h
      · exact h
      · subst h; omega
      · have h5 : (((fl g)[j] : Fin 8) : Nat) < ((fl g)[i] : Fin 8) := (List.pairwise_iff_getElem.1 hs j i hj hi h).2
        omega
    exact (List.pairwise_iff_getElem.1 hs i j hi hj hij).1
  rcases Nat.lt_trichotomy (y : Nat) x with h | h | h
  · exact absurd hk (h1 y x my mx h)
  · exact Fin.ext h
  · exact absurd hk.symm (h1 x y mx my h)
theorem right_of {g : Gr} (hc : rightC g.c = true) (h : ∀ y x : Fin 8, byt g.c y < 128 → byt g.c x < 128 → g.k y = g.k x → y = x) : rightG g = true := by
  refine right_iff.2 ⟨hc, ?_⟩
  have hn : (fl g).Pairwise fun (y x : Fin 8) => (y : Nat) < x := lanes_lt (fm g)
  refine (List.pairwise_iff_getElem.2 fun i j hi hj hij hk => ?_)
  have h1 := (mem_fl g (fl g)[i]).1 (List.getElem_mem hi)
  have h2 := (mem_fl g (fl g)[j]).1 (List.getElem_mem hj)
  have h3 := h _ _ h1 h2 hk
  have h4 := List.pairwise_iff_getElem.1 hn i j hi hj hij
  rw [h3] at h4
  omega
/-- What a Put that succeeds finds. -/
theorem put_at {g : Gr} {s : Sl} (h : putE g s = 0) : ∃ y : Fin 8, putL g = y ∧ ¬ byt g.c y < 128 ∧ ¬ 127 < s.h2 ∧ (∀ x : Fin 8, byt g.c x < 128 → g.k x ≠ s.key) ∧ (∀ x : Fin 8, (x : Nat) < y → byt g.c x < 128) := by
  unfold putE at h
  by_cases h1 : 127 < s.h2
  · rw [if_pos h1] at h; cases h
  · rw [if_neg h1] at h
    rcases firstL_cases (fun n => g.k n == s.key) (fl g) 0 with ⟨h2, h3⟩ | ⟨_, _, _, _, _, _, h2⟩
    · rw [h2] at h
      simp only [Option.isSome_none, Bool.false_eq_true, if_false] at h
      cases hf : frl g with
      | nil => rw [if_pos hf] at h; cases h
      | cons y l =>
        refine ⟨y, by unfold putL; rw [hf], (mem_frl g y).1 (by rw [hf]; simp), h1, fun x hx => ?_, fun x hx => ?_⟩
        · have := h3 x ((mem_fl g x).2 hx)
          simpa using this
        · by_cases hb : byt g.c x < 128
          · exact hb
          · have hm := (mem_frl g x).2 hb
            have hs := lanes_lt (255 - fm g)
            rw [show lanesOf (255 - fm g) = frl g from rfl, hf] at hs
            rw [hf] at hm
            rcases List.mem_cons.1 hm with h | h
            · subst h; omega
            · have := (List.pairwise_cons.1 hs).1 x h
              omega
    · rw [h2] at h
      simp at h
theorem put_byt {g : Gr} {s : Sl} (hs : s.h2 < 256) (k : Nat) : byt (putG g s).c k = if k = putL g then s.h2 else byt g.c k := byt_setB hs k
theorem put_right {g : Gr} {s : Sl} (hs : s.h2 < 256) (hr : rightG g = true) (h : putE g s = 0) : rightG (putG g s) = true := by
  obtain ⟨y, hl, hf, h127, hk, _⟩ := put_at h
  refine right_of ?_ ?_
  · show rightC (setB g.c (putL g) s.h2) = true
    refine right_set hs (rightG_c hr) ?_
    rw [kd_yes h127]
    decide
  · intro a b ha hb hab
    rw [put_byt hs, hl] at ha hb
    have hab2 : upd g.k (putL g) s.key a = upd g.k (putL g) s.key b := hab
    rw [hl] at hab2
    unfold upd at hab2
    by_cases e1 : (a : Nat) = y
    · by_cases e2 : (b : Nat) = y
      · exact Fin.ext (e1.trans e2.symm)
      · rw [if_pos e1, if_neg e2] at hab2
        rw [if_neg e2] at hb
        exact absurd hab2.symm (hk b hb)
    · by_cases e2 : (b : Nat) = y
      · rw [if_neg e1, if_pos e2] at hab2
        rw [if_neg e1] at ha
        exact absurd hab2 (hk a ha)
      · rw [if_neg e1, if_neg e2] at hab2
        rw [if_neg e1] at ha
        rw [if_neg e2] at hb
        exact right_apart hr ha hb hab2
theorem put_lt {g : Gr} {s : Sl} (hs : s.h2 < 256) (hc : g.c < 18446744073709551616) (h : putE g s = 0) : (putG g s).c < 18446744073709551616 := by
  obtain ⟨y, hl, _⟩ := put_at h
  show setB g.c (putL g) s.h2 < _
  rw [hl]
  exact setB_lt hc y.isLt hs
theorem drop_right {g : Gr} {key h : Nat} (hr : rightG g = true) (he : findE g key h = 0) : rightG (dropG g key h) = true := by
  obtain ⟨n, hl, hb, hk, h127⟩ := find_at he
  refine right_of ?_ ?_
  · show rightC (eraseS g.c ((findL g key h : Nat) : Int)) = true
    rw [hl]
    exact erase_right (rightG_c hr)
  · intro a b ha hb2 hab
    have hx : ∀ z : Fin 8, byt (dropG g key h).c z < 128 → byt g.c z < 128 := by
      intro z hz
      have : byt (setB g.c (((findL g key h : Nat) : Int)).toNat (if stopsC g.c then 128 else 254)) z < 128 := hz
      rw [byt_setB (by split <;> decide)] at this
      split at this
      · split at this <;> omega
      · exact this
    exact right_apart hr (hx a ha) (hx b hb2) hab
theorem drop_lt {g : Gr} {key h : Nat} (hc : g.c < 18446744073709551616) (he : findE g key h = 0) : (dropG g key h).c < 18446744073709551616 := by
  obtain ⟨n, hl, _⟩ := find_at he
  show eraseS g.c ((findL g key h : Nat) : Int) < _
  rw [hl]
  exact eraseS_lt hc n.isLt
theorem set_right {g : Gr} {l : Int} {x : Nat} (hr : rightG g = true) : rightG (setG g l x) = true := hr
def chPut (p : St) (s : Sl) : Int × St := (putE p.1 s, (putG p.1 s, (putL p.1 : Nat)))
def chSet (p : St) (s : Sl) : Int × St := (setE p.1 p.2, (setG p.1 p.2 s.val, p.2))
def chDrop (p : St) (s : Sl) : Int × St := (findE p.1 s.key s.h2, (dropG p.1 s.key s.h2, (findL p.1 s.key s.h2 : Nat)))
theorem bE_one (ch : St → Sl → Int × St) (p : St) (s : Sl) : bE ch p [s] = ansE p.1 (ch p s).1 := by
  unfold bE ansE
  rw [runC]
  by_cases h : (ch p s).1 = 0
  · rw [if_pos h, runC, h]
  · rw [if_neg h]
theorem ansE_zero {g : Gr} {E : Int} : ansE g E = 0 ↔ rightG g = true ∧ E = 0 := by
  unfold ansE
  split
  · rename_i h; simp [h]
  · rename_i h; simp [h]
theorem bG_one (ch : St → Sl → Int × St) (p : St) (s : Sl) : bG ch p [s] = ansG p.1 (ch p s).1 (ch p s).2.1 := by
  unfold bG ansG
  rw [bE_one]
  by_cases h : rightG p.1 = true ∧ (ch p s).1 = 0
  · rw [if_pos h, if_pos (ansE_zero.2 h), runC, if_pos h.2, runC]
  · rw [if_neg h, if_neg (fun e => h (ansE_zero.1 e))]
theorem bL_one (ch : St → Sl → Int × St) (p : St) (s : Sl) : bL ch p [s] = if rightG p.1 = true ∧ (ch p s).1 = 0 then (ch p s).2.2 else 0 := by
  unfold bL
  rw [bE_one]
  by_cases h : rightG p.1 = true ∧ (ch p s).1 = 0
  · rw [if_pos h, if_pos (ansE_zero.2 h), runC, if_pos h.2, runC]
  · rw [if_neg h, if_neg (fun e => h (ansE_zero.1 e))]
def OkP (p : St) : Prop := rightG p.1 = true ∧ p.1.c < 18446744073709551616
theorem Tryz.build_draft (g : Gr) (W : World) : (Instr.build 59 #[(0, .agg (gc g))]).run Tryz.prog W = .ok (.agg (dc g 0)) W := by
  unfold gc dc
  kernel_rfl
theorem Tryz.build_draftL (g : Gr) (l : Int) (W : World) : (Instr.build 59 #[(0, .agg (gc g)), (1, .int .i64 l)]).run Tryz.prog W = .ok (.agg (dc g l)) W := by
  unfold gc dc
  kernel_rfl
theorem Tryz.infoDraft : (Tryz.prog.info? 59).map (·.size) = some 18 := by kernel_rfl
theorem Tryz.store_draft {W : World} {B : Nat} {cs : Array Value} (g : Gr) (l : Int) (h : Rows8 W B 59 cs) (hs : cs.size = 18) : (storeVar 59 ⟨B, 0, none⟩ (.agg (dc g l))).run Tryz.prog W = .ok () (W.setRow B (dc g l)) :=
  run_storeVar_row (P := Tryz.prog) W B 59 59 cs (dc g l) h (by rw [dc_size]; exact Tryz.infoDraft) (by rw [hs]; rfl) (by simp [dc, Value.oneCell'])
theorem rowAt_rows {W : World} {B n k : Nat} {t : TypeId} {cs : Array Value} (h : Rows8 W B t cs) (hl : cs.size = n * k) (hn : n ≤ maxLen) : RowAt W (.slice (some ⟨B, 0, none⟩) n n) n k cs.toList := by
  refine ⟨by simpa using hl, _, n, rfl, Nat.le_refl _, hn, (fun e => by cases e), fun j hj => ⟨B, 0, rfl, h.lt, ?_⟩⟩
  rw [Nat.zero_add, h.cell j]
  simp
end Go.Proofs

/- Group: Put, Drop, Set, Puts. -/
namespace Go.Proofs
set_option maxRecDepth 100000
set_option maxRecDepth 100000
open Go.RowKit Go.Shelf
attribute [local go_sem] Oper.semAt_some

/-- The worlds ahead of a change: the group in its box, the answer's block, the draft. -/
structure DrW (g : Gr) (lane : Int) (w W : World) : Prop where
  re : Rows8 W (w.heap.size + 1) 25 (gc zG)
  dr : DAt W (w.heap.size + 1 + 1) g lane
  bl : Below w.heap.size w W
  sz : W.heap.size = w.heap.size + 3
theorem slotVals_one (s : Sl) : slotVals [s] = [.int .u64 (s.key : Nat), .int .u64 (s.val : Nat), .int .u8 (s.h2 : Nat)] := rfl
/-- A change by one slot. -/
theorem Tryz.beh_one (ch : St → Sl → Int × St) (f : FuncId) (g : Gr) (lane : Int) (hc : g.c < 18446744073709551616) (s : Sl) (w W1 : World) (hW : DrW g lane w W1) (eg : ∀ args w, (callFunc f args).run Tryz.prog w = .ok (.enter f args) w)
    (hch : ∀ p W, OkP p → DAt W (w.heap.size + 1 + 1) p.1 p.2 → Calls Tryz.prog f #[.pointer (some ⟨w.heap.size + 1 + 1, 0, none⟩), .agg (sc s)] W (ChD (w.heap.size + 1 + 1) (ch p s).1 (ch p s).2.1 (ch p s).2.2 W))
    (hpr : ∀ p, OkP p → (ch p s).1 = 0 → OkP (ch p s).2) (cs : Array Value) (hcs : cs = sc s) :
    Calls Tryz.prog 21 #[.pointer (some ⟨w.heap.size + 1 + 1, 0, none⟩), .func (.func f) #[.pointer (some ⟨w.heap.size + 1 + 1, 0, none⟩)] #[], .slice (some ⟨W1.heap.size, 0, none⟩) 1 1] (W1.alloc (.cells cs 30)) fun e w' =>
      ∃ G L E, e = .returned (.tuple #[.agg (gc G), .int .i64 L, .int .i64 E]) ∧ Rows8 w' (w.heap.size + 1) 25 (gc zG) ∧ Below w.heap.size w w' ∧ G = ansG g (ch (g, lane) s).1 (ch (g, lane) s).2.1 ∧ L = (if rightG g = true ∧ (ch (g, lane) s).1 = 0 then (ch (g, lane) s).2.2 else 0) ∧ E = ansE g (ch (g, lane) s).1 := by
  subst hcs
  have hsz := hW.sz
  have hr0 := Rows8.new W1 30 (sc s)
  have hbA : Below W1.heap.size W1 (W1.alloc (.cells (sc s) 30)) := (Below.refl _ _).alloc (Nat.le_refl _) _
  have hzA : (W1.alloc (.cells (sc s) 30)).heap.size = W1.heap.size + 1 := by simp
  have hreA := hW.re.below hbA hW.re.lt
  have hB := hW.bl.trans (hbA.mono hW.bl.size)
  have hDA := hW.dr.below hbA (Rows8.lt hW.dr)
  generalize W1.alloc (.cells (sc s) 30) = W2 at *
  refine (Tryz.behind_any ch OkP f [s] (some ⟨W1.heap.size, 0, none⟩) 1 1 (w.heap.size + 1 + 1) (g, lane) W2 hDA (fun hr => ⟨hr, hc⟩) eg
    (fun p s' W hO hm hd => by rw [List.mem_singleton.1 hm]; exact hch p W hO hd) (fun p s' hO hm h0 => by rw [List.mem_singleton.1 hm] at h0 ⊢; exact hpr p hO h0)
    (fun W' hU => ?_) rfl (by omega)).mono ?_
  · have h2 := rowAt_rows (n := 1) (k := 3) (but_rows hr0 hU (by omega) (by omega)) rfl (by unfold maxLen; omega)
    exact h2
  · rintro e w' ⟨rfl, hU⟩
    exact ⟨_, _, _, rfl, but_rows hreA hU (by omega) (by omega), hB.trans (hU.below (by omega) (by omega)), bG_one _ _ _, bL_one _ _ _, bE_one _ _ _⟩
set_option maxHeartbeats 8000000 in
theorem Tryz.gPut_any (g : Gr) (hc : g.c < 18446744073709551616) (s : Sl) (hs : s.h2 < 256) (w : World) :
    Calls Tryz.prog 11 #[.agg (gc g), .int .u64 (s.key : Nat), .int .u64 (s.val : Nat), .int .u8 (s.h2 : Nat)] w fun e w' => e = .returned (.tuple #[.agg (gc (ansG g (putE g s) (putG g s))), .int .i64 (ansL g (putE g s) (putL g) : Nat), .int .i64 (ansE g (putE g s))]) ∧ Below w.heap.size w w' := by
  have h0 : Rows8 ((w.alloc (.cells (gc g) 25)).alloc (.cells #[.int .u64 0, .int .u64 0, .int .u64 0, .int .u64 0, .int .u64 0, .int .u64 0, .int .u64 0, .int .u64 0, .int .u64 0, .int .u64 0, .int .u64 0, .int .u64 0, .int .u64 0, .int .u64 0, .int .u64 0, .int .u64 0, .int .u64 0] 25)) w.heap.size 25 (gc g) := (Rows8.new w _ _).alloc _
  have hld := Tryz.load_group h0
  have hD0 : Rows8 (((w.alloc (.cells (gc g) 25)).alloc (.cells #[.int .u64 0, .int .u64 0, .int .u64 0, .int .u64 0, .int .u64 0, .int .u64 0, .int .u64 0, .int .u64 0, .int .u64 0, .int .u64 0, .int .u64 0, .int .u64 0, .int .u64 0, .int .u64 0, .int .u64 0, .int .u64 0, .int .u64 0] 25)).alloc (.cells #[.int .u64 0, .int .u64 0, .int .u64 0, .int .u64 0, .int .u64 0, .int .u64 0, .int .u64 0, .int .u64 0, .int .u64 0, .int .u64 0, .int .u64 0, .int .u64 0, .int .u64 0, .int .u64 0, .int .u64 0, .int .u64 0, .int .u64 0, .int .i64 0] 59)) (w.heap.size + 1 + 1) 59 #[.int .u64 0, .int .u64 0, .int .u64 0, .int .u64 0, .int .u64 0, .int .u64 0, .int .u64 0, .int .u64 0, .int .u64 0, .int .u64 0, .int .u64 0, .int .u64 0, .int .u64 0, .int .u64 0, .int .u64 0, .int .u64 0, .int .u64 0, .int .i64 0] := by
    have h := Rows8.new ((w.alloc (.cells (gc g) 25)).alloc (.cells #[.int .u64 0, .int .u64 0, .int .u64 0, .int .u64 0, .int .u64 0, .int .u64 0, .int .u64 0, .int .u64 0, .int .u64 0, .int .u64 0, .int .u64 0, .int .u64 0, .int .u64 0, .int .u64 0, .int .u64 0, .int .u64 0, .int .u64 0] 25)) 59 #[.int .u64 0, .int .u64 0, .int .u64 0, .int .u64 0, .int .u64 0, .int .u64 0, .int .u64 0, .int .u64 0, .int .u64 0, .int .u64 0, .int .u64 0, .int .u64 0, .int .u64 0, .int .u64 0, .int .u64 0, .int .u64 0, .int .u64 0, .int .i64 0]
    rw [World.size_alloc, World.size_alloc] at h
    exact h
  have hst := Tryz.store_draft g 0 hD0 rfl
  have hW : DrW g 0 w ((((w.alloc (.cells (gc g) 25)).alloc (.cells #[.int .u64 0, .int .u64 0, .int .u64 0, .int .u64 0, .int .u64 0, .int .u64 0, .int .u64 0, .int .u64 0, .int .u64 0, .int .u64 0, .int .u64 0, .int .u64 0, .int .u64 0, .int .u64 0, .int .u64 0, .int .u64 0, .int .u64 0] 25)).alloc (.cells #[.int .u64 0, .int .u64 0, .int .u64 0, .int .u64 0, .int .u64 0, .int .u64 0, .int .u64 0, .int .u64 0, .int .u64 0, .int .u64 0, .int .u64 0, .int .u64 0, .int .u64 0, .int .u64 0, .int .u64 0, .int .u64 0, .int .u64 0, .int .i64 0] 59)).setRow (w.heap.size + 1 + 1) (dc g 0)) := by
    have hr := Rows8.new (w.alloc (.cells (gc g) 25)) 25 #[.int .u64 0, .int .u64 0, .int .u64 0, .int .u64 0, .int .u64 0, .int .u64 0, .int .u64 0, .int .u64 0, .int .u64 0, .int .u64 0, .int .u64 0, .int .u64 0, .int .u64 0, .int .u64 0, .int .u64 0, .int .u64 0, .int .u64 0]
    rw [World.size_alloc] at hr
    exact ⟨(setRow_other _ _ _ _ (by omega)).trans (hr.alloc _), setRow_heap _ _ _ _ _ _ hD0, below_setRow ((((Below.refl _ w).alloc (Nat.le_refl _) _).alloc (by simp) _).alloc (by simp; omega) _) (by omega) _, by simp [World.setRow]⟩
  generalize (((w.alloc (.cells (gc g) 25)).alloc (.cells #[.int .u64 0, .int .u64 0, .int .u64 0, .int .u64 0, .int .u64 0, .int .u64 0, .int .u64 0, .int .u64 0, .int .u64 0, .int .u64 0, .int .u64 0, .int .u64 0, .int .u64 0, .int .u64 0, .int .u64 0, .int .u64 0, .int .u64 0] 25)).alloc (.cells #[.int .u64 0, .int .u64 0, .int .u64 0, .int .u64 0, .int .u64 0, .int .u64 0, .int .u64 0, .int .u64 0, .int .u64 0, .int .u64 0, .int .u64 0, .int .u64 0, .int .u64 0, .int .u64 0, .int .u64 0, .int .u64 0, .int .u64 0, .int .i64 0] 59)).setRow (w.heap.size + 1 + 1) (dc g 0) = W1 at *
  have HW := Lib.hid hW
  clear h0 hD0 hW
  go_enter Tryz.func11, Tryz.ntmps11
  go_wp2_with (first | (refine wpList_loadW (by rfl) _ _ rfl ⟨w.heap.size, 0, none⟩ _ rfl hld ?_) | (refine wpList_buildW (by rfl) 57 _ rfl #[(0, .agg (gc g))] (by simp [go_sem]) _ (Tryz.build_view g _) ?_) | (refine wpList_buildW (by rfl) 59 _ rfl #[(0, .agg (gc g))] (by simp [go_sem]) _ (Tryz.build_draft g _) ?_) | (refine wpList_storeW (by rfl) 59 _ _ rfl ⟨w.heap.size + 1 + 1, 0, none⟩ _ rfl rfl hst ?_))
  refine (Tryz.beh_one chPut 27 g 0 hc s w W1 HW.out (enters_of Tryz.func27 (by kernel_rfl) rfl) (fun p W hO hd => Tryz.dput_any p.1 hO.2 hO.1 p.2 s hs _ W hd) (fun p hO h0 => ⟨put_right hs hO.1 h0, put_lt hs hO.2 h0⟩) _ rfl).mono ?_
  rintro e W2 ⟨G, L, E, rfl, hre, hB, hG, hL, hE⟩
  have hst2 := Tryz.store_group G hre rfl
  have HR3 := Lib.hid (setRow_heap W2 (w.heap.size + 1) (gc zG) (gc G) _ _ hre)
  have HB3 := Lib.hid (below_setRow hB (Nat.le_succ _) (gc G))
  have HG := Lib.hid hG
  have HL := Lib.hid hL
  have HE := Lib.hid hE
  clear hre hB hG hL hE hld hst
  go_wp2_with (refine wpList_storeW (by rfl) 25 _ _ rfl ⟨w.heap.size + 1, 0, none⟩ _ rfl rfl hst2 ?_)
  refine bodyPost_ret (results_ctt rfl _ _ (w.heap.size + 1) _ _ _ rfl rfl rfl (run_loadVar_row (P := Tryz.prog) _ (w.heap.size + 1) 25 25 _ (0, 0) _ HR3.out Tryz.underlying25 rfl (by kernel_rfl))) rfl ?_
  refine ⟨?_, HB3.out⟩
  show Ending.returned (.tuple #[.agg (gc G), .int .i64 L, .int .i64 E]) = _
  rw [HG.out, HL.out, HE.out]
  unfold chPut ansL
  dsimp only
  congr 5
  split <;> rfl
set_option maxHeartbeats 8000000 in
theorem Tryz.gDrop_any (g : Gr) (hc : g.c < 18446744073709551616) (key h : Nat) (w : World) :
    Calls Tryz.prog 9 #[.agg (gc g), .int .u64 (key : Nat), .int .u8 (h : Nat)] w fun e w' => e = .returned (.tuple #[.agg (gc (ansG g (findE g key h) (dropG g key h))), .int .i64 (ansL g (findE g key h) (findL g key h) : Nat), .int .i64 (ansE g (findE g key h))]) ∧ Below w.heap.size w w' := by
  have h0 : Rows8 ((w.alloc (.cells (gc g) 25)).alloc (.cells #[.int .u64 0, .int .u64 0, .int .u64 0, .int .u64 0, .int .u64 0, .int .u64 0, .int .u64 0, .int .u64 0, .int .u64 0, .int .u64 0, .int .u64 0, .int .u64 0, .int .u64 0, .int .u64 0, .int .u64 0, .int .u64 0, .int .u64 0] 25)) w.heap.size 25 (gc g) := (Rows8.new w _ _).alloc _
  have hld := Tryz.load_group h0
  have hD0 : Rows8 (((w.alloc (.cells (gc g) 25)).alloc (.cells #[.int .u64 0, .int .u64 0, .int .u64 0, .int .u64 0, .int .u64 0, .int .u64 0, .int .u64 0, .int .u64 0, .int .u64 0, .int .u64 0, .int .u64 0, .int .u64 0, .int .u64 0, .int .u64 0, .int .u64 0, .int .u64 0, .int .u64 0] 25)).alloc (.cells #[.int .u64 0, .int .u64 0, .int .u64 0, .int .u64 0, .int .u64 0, .int .u64 0, .int .u64 0, .int .u64 0, .int .u64 0, .int .u64 0, .int .u64 0, .int .u64 0, .int .u64 0, .int .u64 0, .int .u64 0, .int .u64 0, .int .u64 0, .int .i64 0] 59)) (w.heap.size + 1 + 1) 59 #[.int .u64 0, .int .u64 0, .int .u64 0, .int .u64 0, .int .u64 0, .int .u64 0, .int .u64 0, .int .u64 0, .int .u64 0, .int .u64 0, .int .u64 0, .int .u64 0, .int .u64 0, .int .u64 0, .int .u64 0, .int .u64 0, .int .u64 0, .int .i64 0] := by
    have h := Rows8.new ((w.alloc (.cells (gc g) 25)).alloc (.cells #[.int .u64 0, .int .u64 0, .int .u64 0, .int .u64 0, .int .u64 0, .int .u64 0, .int .u64 0, .int .u64 0, .int .u64 0, .int .u64 0, .int .u64 0, .int .u64 0, .int .u64 0, .int .u64 0, .int .u64 0, .int .u64 0, .int .u64 0] 25)) 59 #[.int .u64 0, .int .u64 0, .int .u64 0, .int .u64 0, .int .u64 0, .int .u64 0, .int .u64 0, .int .u64 0, .int .u64 0, .int .u64 0, .int .u64 0, .int .u64 0, .int .u64 0, .int .u64 0, .int .u64 0, .int .u64 0, .int .u64 0, .int .i64 0]
    rw [World.size_alloc, World.size_alloc] at h
    exact h
  have hst := Tryz.store_draft g 0 hD0 rfl
  have hW : DrW g 0 w ((((w.alloc (.cells (gc g) 25)).alloc (.cells #[.int .u64 0, .int .u64 0, .int .u64 0, .int .u64 0, .int .u64 0, .int .u64 0, .int .u64 0, .int .u64 0, .int .u64 0, .int .u64 0, .int .u64 0, .int .u64 0, .int .u64 0, .int .u64 0, .int .u64 0, .int .u64 0, .int .u64 0] 25)).alloc (.cells #[.int .u64 0, .int .u64 0, .int .u64 0, .int .u64 0, .int .u64 0, .int .u64 0, .int .u64 0, .int .u64 0, .int .u64 0, .int .u64 0, .int .u64 0, .int .u64 0, .int .u64 0, .int .u64 0, .int .u64 0, .int .u64 0, .int .u64 0, .int .i64 0] 59)).setRow (w.heap.size + 1 + 1) (dc g 0)) := by
    have hr := Rows8.new (w.alloc (.cells (gc g) 25)) 25 #[.int .u64 0, .int .u64 0, .int .u64 0, .int .u64 0, .int .u64 0, .int .u64 0, .int .u64 0, .int .u64 0, .int .u64 0, .int .u64 0, .int .u64 0, .int .u64 0, .int .u64 0, .int .u64 0, .int .u64 0, .int .u64 0, .int .u64 0]
    rw [World.size_alloc] at hr
    exact ⟨(setRow_other _ _ _ _ (by omega)).trans (hr.alloc _), setRow_heap _ _ _ _ _ _ hD0, below_setRow ((((Below.refl _ w).alloc (Nat.le_refl _) _).alloc (by simp) _).alloc (by simp; omega) _) (by omega) _, by simp [World.setRow]⟩
  generalize (((w.alloc (.cells (gc g) 25)).alloc (.cells #[.int .u64 0, .int .u64 0, .int .u64 0, .int .u64 0, .int .u64 0, .int .u64 0, .int .u64 0, .int .u64 0, .int .u64 0, .int .u64 0, .int .u64 0, .int .u64 0, .int .u64 0, .int .u64 0, .int .u64 0, .int .u64 0, .int .u64 0] 25)).alloc (.cells #[.int .u64 0, .int .u64 0, .int .u64 0, .int .u64 0, .int .u64 0, .int .u64 0, .int .u64 0, .int .u64 0, .int .u64 0, .int .u64 0, .int .u64 0, .int .u64 0, .int .u64 0, .int .u64 0, .int .u64 0, .int .u64 0, .int .u64 0, .int .i64 0] 59)).setRow (w.heap.size + 1 + 1) (dc g 0) = W1 at *
  have HW := Lib.hid hW
  clear h0 hD0 hW
  go_enter Tryz.func9, Tryz.ntmps9
  go_wp2_with (first | (refine wpList_loadW (by rfl) _ _ rfl ⟨w.heap.size, 0, none⟩ _ rfl hld ?_) | (refine wpList_buildW (by rfl) 57 _ rfl #[(0, .agg (gc g))] (by simp [go_sem]) _ (Tryz.build_view g _) ?_) | (refine wpList_buildW (by rfl) 59 _ rfl #[(0, .agg (gc g))] (by simp [go_sem]) _ (Tryz.build_draft g _) ?_) | (refine wpList_storeW (by rfl) 59 _ _ rfl ⟨w.heap.size + 1 + 1, 0, none⟩ _ rfl rfl hst ?_))
  refine (Tryz.beh_one chDrop 24 g 0 hc ⟨key, 0, h⟩ w W1 HW.out (enters_of Tryz.func24 (by kernel_rfl) rfl) (fun p W hO hd => Tryz.ddrop_any p.1 hO.2 hO.1 p.2 ⟨key, 0, h⟩ _ W hd) (fun p hO h0 => ⟨drop_right hO.1 h0, drop_lt hO.2 h0⟩) _ rfl).mono ?_
  rintro e W2 ⟨G, L, E, rfl, hre, hB, hG, hL, hE⟩
  have hst2 := Tryz.store_group G hre rfl
  have HR3 := Lib.hid (setRow_heap W2 (w.heap.size + 1) (gc zG) (gc G) _ _ hre)
  have HB3 := Lib.hid (below_setRow hB (Nat.le_succ _) (gc G))
  have HG := Lib.hid hG
  have HL := Lib.hid hL
  have HE := Lib.hid hE
  clear hre hB hG hL hE hld hst
  go_wp2_with (refine wpList_storeW (by rfl) 25 _ _ rfl ⟨w.heap.size + 1, 0, none⟩ _ rfl rfl hst2 ?_)
  refine bodyPost_ret (results_ctt rfl _ _ (w.heap.size + 1) _ _ _ rfl rfl rfl (run_loadVar_row (P := Tryz.prog) _ (w.heap.size + 1) 25 25 _ (0, 0) _ HR3.out Tryz.underlying25 rfl (by kernel_rfl))) rfl ?_
  refine ⟨?_, HB3.out⟩
  show Ending.returned (.tuple #[.agg (gc G), .int .i64 L, .int .i64 E]) = _
  rw [HG.out, HL.out, HE.out]
  unfold chDrop ansL
  dsimp only
  congr 5
  split <;> rfl
end Go.Proofs

/- Group: Set, Puts. -/
namespace Go.Proofs
set_option maxRecDepth 100000
set_option maxRecDepth 100000
open Go.RowKit Go.Shelf
attribute [local go_sem] Oper.semAt_some

theorem results_ct1 {P : Program} {fn : Func} {p q : Tmp} {ty : TypeId} (h : fn.results = #[.cell p ty, .tmp q]) (tmps : Array Value) (w : World) (B : Nat) (u x : Value)
    (hp : tmps.getD p undef = .pointer (some ⟨B, 0, none⟩)) (hq : tmps.getD q undef = x) (h1 : (loadVar ty ⟨B, 0, none⟩).run P w = .ok u w) :
    (results fn tmps).run P w = .ok (.tuple #[u, x]) w := by
  have hp' : tmps[p]?.getD undef = .pointer (some ⟨B, 0, none⟩) := by simpa using hp
  have hq' : tmps[q]?.getD undef = x := by simpa using hq
  simp [results, h, hp', hq', asAddr, h1, Result.andThen]
set_option maxHeartbeats 8000000 in
theorem Tryz.gSet_any (g : Gr) (hc : g.c < 18446744073709551616) (lane : Int) (x : Nat) (w : World) :
    Calls Tryz.prog 6 #[.agg (gc g), .int .i64 lane, .int .u64 (x : Nat)] w fun e w' => e = .returned (.tuple #[.agg (gc (ansG g (setE g lane) (setG g lane x))), .int .i64 (ansE g (setE g lane))]) ∧ Below w.heap.size w w' := by
  have h0 : Rows8 ((w.alloc (.cells (gc g) 25)).alloc (.cells #[.int .u64 0, .int .u64 0, .int .u64 0, .int .u64 0, .int .u64 0, .int .u64 0, .int .u64 0, .int .u64 0, .int .u64 0, .int .u64 0, .int .u64 0, .int .u64 0, .int .u64 0, .int .u64 0, .int .u64 0, .int .u64 0, .int .u64 0] 25)) w.heap.size 25 (gc g) := (Rows8.new w _ _).alloc _
  have hld := Tryz.load_group h0
  have hD0 : Rows8 (((w.alloc (.cells (gc g) 25)).alloc (.cells #[.int .u64 0, .int .u64 0, .int .u64 0, .int .u64 0, .int .u64 0, .int .u64 0, .int .u64 0, .int .u64 0, .int .u64 0, .int .u64 0, .int .u64 0, .int .u64 0, .int .u64 0, .int .u64 0, .int .u64 0, .int .u64 0, .int .u64 0] 25)).alloc (.cells #[.int .u64 0, .int .u64 0, .int .u64 0, .int .u64 0, .int .u64 0, .int .u64 0, .int .u64 0, .int .u64 0, .int .u64 0, .int .u64 0, .int .u64 0, .int .u64 0, .int .u64 0, .int .u64 0, .int .u64 0, .int .u64 0, .int .u64 0, .int .i64 0] 59)) (w.heap.size + 1 + 1) 59 #[.int .u64 0, .int .u64 0, .int .u64 0, .int .u64 0, .int .u64 0, .int .u64 0, .int .u64 0, .int .u64 0, .int .u64 0, .int .u64 0, .int .u64 0, .int .u64 0, .int .u64 0, .int .u64 0, .int .u64 0, .int .u64 0, .int .u64 0, .int .i64 0] := by
    have h := Rows8.new ((w.alloc (.cells (gc g) 25)).alloc (.cells #[.int .u64 0, .int .u64 0, .int .u64 0, .int .u64 0, .int .u64 0, .int .u64 0, .int .u64 0, .int .u64 0, .int .u64 0, .int .u64 0, .int .u64 0, .int .u64 0, .int .u64 0, .int .u64 0, .int .u64 0, .int .u64 0, .int .u64 0] 25)) 59 #[.int .u64 0, .int .u64 0, .int .u64 0, .int .u64 0, .int .u64 0, .int .u64 0, .int .u64 0, .int .u64 0, .int .u64 0, .int .u64 0, .int .u64 0, .int .u64 0, .int .u64 0, .int .u64 0, .int .u64 0, .int .u64 0, .int .u64 0, .int .i64 0]
    rw [World.size_alloc, World.size_alloc] at h
    exact h
  have hst := Tryz.store_draft g lane hD0 rfl
  have hW : DrW g lane w ((((w.alloc (.cells (gc g) 25)).alloc (.cells #[.int .u64 0, .int .u64 0, .int .u64 0, .int .u64 0, .int .u64 0, .int .u64 0, .int .u64 0, .int .u64 0, .int .u64 0, .int .u64 0, .int .u64 0, .int .u64 0, .int .u64 0, .int .u64 0, .int .u64 0, .int .u64 0, .int .u64 0] 25)).alloc (.cells #[.int .u64 0, .int .u64 0, .int .u64 0, .int .u64 0, .int .u64 0, .int .u64 0, .int .u64 0, .int .u64 0, .int .u64 0, .int .u64 0, .int .u64 0, .int .u64 0, .int .u64 0, .int .u64 0, .int .u64 0, .int .u64 0, .int .u64 0, .int .i64 0] 59)).setRow (w.heap.size + 1 + 1) (dc g lane)) := by
    have hr := Rows8.new (w.alloc (.cells (gc g) 25)) 25 #[.int .u64 0, .int .u64 0, .int .u64 0, .int .u64 0, .int .u64 0, .int .u64 0, .int .u64 0, .int .u64 0, .int .u64 0, .int .u64 0, .int .u64 0, .int .u64 0, .int .u64 0, .int .u64 0, .int .u64 0, .int .u64 0, .int .u64 0]
    rw [World.size_alloc] at hr
    exact ⟨(setRow_other _ _ _ _ (by omega)).trans (hr.alloc _), setRow_heap _ _ _ _ _ _ hD0, below_setRow ((((Below.refl _ w).alloc (Nat.le_refl _) _).alloc (by simp) _).alloc (by simp; omega) _) (by omega) _, by simp [World.setRow]⟩
  generalize (((w.alloc (.cells (gc g) 25)).alloc (.cells #[.int .u64 0, .int .u64 0, .int .u64 0, .int .u64 0, .int .u64 0, .int .u64 0, .int .u64 0, .int .u64 0, .int .u64 0, .int .u64 0, .int .u64 0, .int .u64 0, .int .u64 0, .int .u64 0, .int .u64 0, .int .u64 0, .int .u64 0] 25)).alloc (.cells #[.int .u64 0, .int .u64 0, .int .u64 0, .int .u64 0, .int .u64 0, .int .u64 0, .int .u64 0, .int .u64 0, .int .u64 0, .int .u64 0, .int .u64 0, .int .u64 0, .int .u64 0, .int .u64 0, .int .u64 0, .int .u64 0, .int .u64 0, .int .i64 0] 59)).setRow (w.heap.size + 1 + 1) (dc g lane) = W1 at *
  have HW := Lib.hid hW
  clear h0 hD0 hW
  go_enter Tryz.func6, Tryz.ntmps6
  go_wp2_with (first | (refine wpList_loadW (by rfl) _ _ rfl ⟨w.heap.size, 0, none⟩ _ rfl hld ?_) | (refine wpList_buildW (by rfl) 57 _ rfl #[(0, .agg (gc g))] (by simp [go_sem]) _ (Tryz.build_view g _) ?_) | (refine wpList_buildW (by rfl) 59 _ rfl #[(0, .agg (gc g)), (1, .int .i64 lane)] (by simp [go_sem]) _ (Tryz.build_draftL g lane _) ?_) | (refine wpList_storeW (by rfl) 59 _ _ rfl ⟨w.heap.size + 1 + 1, 0, none⟩ _ rfl rfl hst ?_))
  refine (Tryz.beh_one chSet 22 g lane hc ⟨0, x, 0⟩ w W1 HW.out (enters_of Tryz.func22 (by kernel_rfl) rfl) (fun p W hO hd => Tryz.dset_any p.1 p.2 ⟨0, x, 0⟩ _ W hd) (fun p hO h0 => ⟨hO.1, hO.2⟩) _ rfl).mono ?_
  rintro e W2 ⟨G, L, E, rfl, hre, hB, hG, hL, hE⟩
  have hr2 : Rows8 (W2.alloc (.cells #[.int .u64 0, .int .u64 0, .int .u64 0, .int .u64 0, .int .u64 0, .int .u64 0, .int .u64 0, .int .u64 0, .int .u64 0, .int .u64 0, .int .u64 0, .int .u64 0, .int .u64 0, .int .u64 0, .int .u64 0, .int .u64 0, .int .u64 0] 25)) W2.heap.size 25 #[.int .u64 0, .int .u64 0, .int .u64 0, .int .u64 0, .int .u64 0, .int .u64 0, .int .u64 0, .int .u64 0, .int .u64 0, .int .u64 0, .int .u64 0, .int .u64 0, .int .u64 0, .int .u64 0, .int .u64 0, .int .u64 0, .int .u64 0] := Rows8.new _ _ _
  have hst2 := Tryz.store_group G hr2 rfl
  have hre3 : Rows8 ((W2.alloc (.cells #[.int .u64 0, .int .u64 0, .int .u64 0, .int .u64 0, .int .u64 0, .int .u64 0, .int .u64 0, .int .u64 0, .int .u64 0, .int .u64 0, .int .u64 0, .int .u64 0, .int .u64 0, .int .u64 0, .int .u64 0, .int .u64 0, .int .u64 0] 25)).setRow W2.heap.size (gc G)) (w.heap.size + 1) 25 (gc zG) := (setRow_other _ _ _ _ (by have := hre.lt; omega)).trans (hre.alloc _)
  have hr3 : Rows8 ((W2.alloc (.cells #[.int .u64 0, .int .u64 0, .int .u64 0, .int .u64 0, .int .u64 0, .int .u64 0, .int .u64 0, .int .u64 0, .int .u64 0, .int .u64 0, .int .u64 0, .int .u64 0, .int .u64 0, .int .u64 0, .int .u64 0, .int .u64 0, .int .u64 0] 25)).setRow W2.heap.size (gc G)) W2.heap.size 25 (gc G) := setRow_heap _ _ _ _ _ _ hr2
  have hB3 := below_setRow (hB.alloc hB.size (.cells #[.int .u64 0, .int .u64 0, .int .u64 0, .int .u64 0, .int .u64 0, .int .u64 0, .int .u64 0, .int .u64 0, .int .u64 0, .int .u64 0, .int .u64 0, .int .u64 0, .int .u64 0, .int .u64 0, .int .u64 0, .int .u64 0, .int .u64 0] 25)) hB.size (gc G)
  generalize ((W2.alloc (.cells #[.int .u64 0, .int .u64 0, .int .u64 0, .int .u64 0, .int .u64 0, .int .u64 0, .int .u64 0, .int .u64 0, .int .u64 0, .int .u64 0, .int .u64 0, .int .u64 0, .int .u64 0, .int .u64 0, .int .u64 0, .int .u64 0, .int .u64 0] 25)).setRow W2.heap.size (gc G)) = W3 at *
  have hld3 := Tryz.load_group hr3
  have hst3 := Tryz.store_group G hre3 rfl
  have HR3 := Lib.hid (setRow_heap W3 (w.heap.size + 1) (gc zG) (gc G) _ _ hre3)
  have HB3 := Lib.hid (below_setRow hB3 (Nat.le_succ _) (gc G))
  have HG := Lib.hid hG
  have HE := Lib.hid hE
  clear hre hre3 hB hB3 hr2 hr3 hG hL hE hld hst
  go_wp2_with (first | (refine wpList_storeW (by rfl) 25 _ _ rfl ⟨W2.heap.size, 0, none⟩ _ rfl rfl hst2 ?_) | (refine wpList_loadW (by rfl) _ _ rfl ⟨W2.heap.size, 0, none⟩ _ rfl hld3 ?_) | (refine wpList_storeW (by rfl) 25 _ _ rfl ⟨w.heap.size + 1, 0, none⟩ _ rfl rfl hst3 ?_))
  refine bodyPost_ret (results_ct1 rfl _ _ (w.heap.size + 1) _ _ rfl rfl (run_loadVar_row (P := Tryz.prog) _ (w.heap.size + 1) 25 25 _ (0, 0) _ HR3.out Tryz.underlying25 rfl (by kernel_rfl))) rfl ?_
  refine ⟨?_, HB3.out⟩
  show Ending.returned (.tuple #[.agg (gc G), .int .i64 E]) = _
  rw [HG.out, HE.out]
  rfl
set_option maxHeartbeats 8000000 in
theorem Tryz.gPuts_any (g : Gr) (hc : g.c < 18446744073709551616) (ss : List Sl) (hs : ∀ s ∈ ss, s.h2 < 256) (a : Option Addr) (n cap : Nat) (hn : n = ss.length) (hl : n ≤ 100000) (w : World) (hrow : RowAt w (.slice a n cap) n 3 (slotVals ss)) :
    Calls Tryz.prog 13 #[.agg (gc g), .slice a n cap] w fun e w' => e = .returned (.tuple #[.agg (gc (bG chPut (g, 0) ss)), .int .i64 (bE chPut (g, 0) ss)]) ∧ Below w.heap.size w w' := by
  have HRow := Lib.hid hrow
  have HN := Lib.hid hn
  clear hrow hn
  have h0 : Rows8 ((w.alloc (.cells (gc g) 25)).alloc (.cells #[.int .u64 0, .int .u64 0, .int .u64 0, .int .u64 0, .int .u64 0, .int .u64 0, .int .u64 0, .int .u64 0, .int .u64 0, .int .u64 0, .int .u64 0, .int .u64 0, .int .u64 0, .int .u64 0, .int .u64 0, .int .u64 0, .int .u64 0] 25)) w.heap.size 25 (gc g) := (Rows8.new w _ _).alloc _
  have hld := Tryz.load_group h0
  have hD0 : Rows8 (((w.alloc (.cells (gc g) 25)).alloc (.cells #[.int .u64 0, .int .u64 0, .int .u64 0, .int .u64 0, .int .u64 0, .int .u64 0, .int .u64 0, .int .u64 0, .int .u64 0, .int .u64 0, .int .u64 0, .int .u64 0, .int .u64 0, .int .u64 0, .int .u64 0, .int .u64 0, .int .u64 0] 25)).alloc (.cells #[.int .u64 0, .int .u64 0, .int .u64 0, .int .u64 0, .int .u64 0, .int .u64 0, .int .u64 0, .int .u64 0, .int .u64 0, .int .u64 0, .int .u64 0, .int .u64 0, .int .u64 0, .int .u64 0, .int .u64 0, .int .u64 0, .int .u64 0, .int .i64 0] 59)) (w.heap.size + 1 + 1) 59 #[.int .u64 0, .int .u64 0, .int .u64 0, .int .u64 0, .int .u64 0, .int .u64 0, .int .u64 0, .int .u64 0, .int .u64 0, .int .u64 0, .int .u64 0, .int .u64 0, .int .u64 0, .int .u64 0, .int .u64 0, .int .u64 0, .int .u64 0, .int .i64 0] := by
    have h := Rows8.new ((w.alloc (.cells (gc g) 25)).alloc (.cells #[.int .u64 0, .int .u64 0, .int .u64 0, .int .u64 0, .int .u64 0, .int .u64 0, .int .u64 0, .int .u64 0, .int .u64 0, .int .u64 0, .int .u64 0, .int .u64 0, .int .u64 0, .int .u64 0, .int .u64 0, .int .u64 0, .int .u64 0] 25)) 59 #[.int .u64 0, .int .u64 0, .int .u64 0, .int .u64 0, .int .u64 0, .int .u64 0, .int .u64 0, .int .u64 0, .int .u64 0, .int .u64 0, .int .u64 0, .int .u64 0, .int .u64 0, .int .u64 0, .int .u64 0, .int .u64 0, .int .u64 0, .int .i64 0]
    rw [World.size_alloc, World.size_alloc] at h
    exact h
  have hst := Tryz.store_draft g 0 hD0 rfl
  have hW : DrW g 0 w ((((w.alloc (.cells (gc g) 25)).alloc (.cells #[.int .u64 0, .int .u64 0, .int .u64 0, .int .u64 0, .int .u64 0, .int .u64 0, .int .u64 0, .int .u64 0, .int .u64 0, .int .u64 0, .int .u64 0, .int .u64 0, .int .u64 0, .int .u64 0, .int .u64 0, .int .u64 0, .int .u64 0] 25)).alloc (.cells #[.int .u64 0, .int .u64 0, .int .u64 0, .int .u64 0, .int .u64 0, .int .u64 0, .int .u64 0, .int .u64 0, .int .u64 0, .int .u64 0, .int .u64 0, .int .u64 0, .int .u64 0, .int .u64 0, .int .u64 0, .int .u64 0, .int .u64 0, .int .i64 0] 59)).setRow (w.heap.size + 1 + 1) (dc g 0)) := by
    have hr := Rows8.new (w.alloc (.cells (gc g) 25)) 25 #[.int .u64 0, .int .u64 0, .int .u64 0, .int .u64 0, .int .u64 0, .int .u64 0, .int .u64 0, .int .u64 0, .int .u64 0, .int .u64 0, .int .u64 0, .int .u64 0, .int .u64 0, .int .u64 0, .int .u64 0, .int .u64 0, .int .u64 0]
    rw [World.size_alloc] at hr
    exact ⟨(setRow_other _ _ _ _ (by omega)).trans (hr.alloc _), setRow_heap _ _ _ _ _ _ hD0, below_setRow ((((Below.refl _ w).alloc (Nat.le_refl _) _).alloc (by simp) _).alloc (by simp; omega) _) (by omega) _, by simp [World.setRow]⟩
  generalize (((w.alloc (.cells (gc g) 25)).alloc (.cells #[.int .u64 0, .int .u64 0, .int .u64 0, .int .u64 0, .int .u64 0, .int .u64 0, .int .u64 0, .int .u64 0, .int .u64 0, .int .u64 0, .int .u64 0, .int .u64 0, .int .u64 0, .int .u64 0, .int .u64 0, .int .u64 0, .int .u64 0] 25)).alloc (.cells #[.int .u64 0, .int .u64 0, .int .u64 0, .int .u64 0, .int .u64 0, .int .u64 0, .int .u64 0, .int .u64 0, .int .u64 0, .int .u64 0, .int .u64 0, .int .u64 0, .int .u64 0, .int .u64 0, .int .u64 0, .int .u64 0, .int .u64 0, .int .i64 0] 59)).setRow (w.heap.size + 1 + 1) (dc g 0) = W1 at *
  have HW := Lib.hid hW
  clear h0 hD0 hW
  go_enter Tryz.func13, Tryz.ntmps13
  go_wp2_with (first | (refine wpList_loadW (by rfl) _ _ rfl ⟨w.heap.size, 0, none⟩ _ rfl hld ?_) | (refine wpList_buildW (by rfl) 57 _ rfl #[(0, .agg (gc g))] (by simp [go_sem]) _ (Tryz.build_view g _) ?_) | (refine wpList_buildW (by rfl) 59 _ rfl #[(0, .agg (gc g))] (by simp [go_sem]) _ (Tryz.build_draft g _) ?_) | (refine wpList_storeW (by rfl) 59 _ _ rfl ⟨w.heap.size + 1 + 1, 0, none⟩ _ rfl rfl hst ?_))
  have hsz := HW.out.sz
  refine (Tryz.behind_any chPut OkP 27 ss a n cap (w.heap.size + 1 + 1) (g, 0) W1 HW.out.dr (fun hr => ⟨hr, hc⟩) (enters_of Tryz.func27 (by kernel_rfl) rfl)
    (fun p s W hO hm hd => Tryz.dput_any p.1 hO.2 hO.1 p.2 s (hs s hm) _ W hd) (fun p s hO hm h0 => ⟨put_right (hs s hm) hO.1 h0, put_lt (hs s hm) hO.2 h0⟩)
    (fun W' hU => HRow.out.below (HW.out.bl.trans (hU.below (by omega) (by omega)))) HN.out hl).mono ?_
  rintro e W2 ⟨rfl, hU⟩
  have hre := but_rows HW.out.re hU (by omega) (by omega)
  have hB := HW.out.bl.trans (hU.below (n₀ := w.heap.size) (by omega) (by omega))
  clear hU
  generalize hG : bG chPut (g, 0) ss = G at *
  generalize hL : bL chPut (g, 0) ss = L at *
  generalize hE : bE chPut (g, 0) ss = E at *
  have hr2 : Rows8 (W2.alloc (.cells #[.int .u64 0, .int .u64 0, .int .u64 0, .int .u64 0, .int .u64 0, .int .u64 0, .int .u64 0, .int .u64 0, .int .u64 0, .int .u64 0, .int .u64 0, .int .u64 0, .int .u64 0, .int .u64 0, .int .u64 0, .int .u64 0, .int .u64 0] 25)) W2.heap.size 25 #[.int .u64 0, .int .u64 0, .int .u64 0, .int .u64 0, .int .u64 0, .int .u64 0, .int .u64 0, .int .u64 0, .int .u64 0, .int .u64 0, .int .u64 0, .int .u64 0, .int .u64 0, .int .u64 0, .int .u64 0, .int .u64 0, .int .u64 0] := Rows8.new _ _ _
  have hst2 := Tryz.store_group G hr2 rfl
  have hre3 : Rows8 ((W2.alloc (.cells #[.int .u64 0, .int .u64 0, .int .u64 0, .int .u64 0, .int .u64 0, .int .u64 0, .int .u64 0, .int .u64 0, .int .u64 0, .int .u64 0, .int .u64 0, .int .u64 0, .int .u64 0, .int .u64 0, .int .u64 0, .int .u64 0, .int .u64 0] 25)).setRow W2.heap.size (gc G)) (w.heap.size + 1) 25 (gc zG) := (setRow_other _ _ _ _ (by have := hre.lt; omega)).trans (hre.alloc _)
  have hr3 : Rows8 ((W2.alloc (.cells #[.int .u64 0, .int .u64 0, .int .u64 0, .int .u64 0, .int .u64 0, .int .u64 0, .int .u64 0, .int .u64 0, .int .u64 0, .int .u64 0, .int .u64 0, .int .u64 0, .int .u64 0, .int .u64 0, .int .u64 0, .int .u64 0, .int .u64 0] 25)).setRow W2.heap.size (gc G)) W2.heap.size 25 (gc G) := setRow_heap _ _ _ _ _ _ hr2
  have hB3 := below_setRow (hB.alloc hB.size (.cells #[.int .u64 0, .int .u64 0, .int .u64 0, .int .u64 0, .int .u64 0, .int .u64 0, .int .u64 0, .int .u64 0, .int .u64 0, .int .u64 0, .int .u64 0, .int .u64 0, .int .u64 0, .int .u64 0, .int .u64 0, .int .u64 0, .int .u64 0] 25)) hB.size (gc G)
  generalize ((W2.alloc (.cells #[.int .u64 0, .int .u64 0, .int .u64 0, .int .u64 0, .int .u64 0, .int .u64 0, .int .u64 0, .int .u64 0, .int .u64 0, .int .u64 0, .int .u64 0, .int .u64 0, .int .u64 0, .int .u64 0, .int .u64 0, .int .u64 0, .int .u64 0] 25)).setRow W2.heap.size (gc G)) = W3 at *
  have hld3 := Tryz.load_group hr3
  have hst3 := Tryz.store_group G hre3 rfl
  have HR3 := Lib.hid (setRow_heap W3 (w.heap.size + 1) (gc zG) (gc G) _ _ hre3)
  have HB3 := Lib.hid (below_setRow hB3 (Nat.le_succ _) (gc G))
  have HG := Lib.hid hG
  have HE := Lib.hid hE
  clear hre hre3 hB hB3 hr2 hr3 hG hL hE hld hst
  go_wp2_with (first | (refine wpList_storeW (by rfl) 25 _ _ rfl ⟨W2.heap.size, 0, none⟩ _ rfl rfl hst2 ?_) | (refine wpList_loadW (by rfl) _ _ rfl ⟨W2.heap.size, 0, none⟩ _ rfl hld3 ?_) | (refine wpList_storeW (by rfl) 25 _ _ rfl ⟨w.heap.size + 1, 0, none⟩ _ rfl rfl hst3 ?_))
  refine bodyPost_ret (results_ct1 rfl _ _ (w.heap.size + 1) _ _ rfl rfl (run_loadVar_row (P := Tryz.prog) _ (w.heap.size + 1) 25 25 _ (0, 0) _ HR3.out Tryz.underlying25 rfl (by kernel_rfl))) rfl ?_
  refine ⟨?_, HB3.out⟩
  show Ending.returned (.tuple #[.agg (gc G), .int .i64 E]) = _
  rw [HG.out, HE.out]
end Go.Proofs
