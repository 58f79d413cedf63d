/- where: the first one that is so. -/
import Derived.Test.YtehphohgnpbmpaaQc
import Derived.Laws.EntriesVeiled
namespace Go.Proofs
open Go.RowKit Go.Shelf
attribute [local go_sem] Oper.semAt_some

theorem rows_set1 {W : World} {B : Nat} {t : TypeId} {u : Value} (h : Rows8 W B t #[u]) (v : Value) : Rows8 (W.setCell ⟨B, 0, none⟩ v) B t #[v] := by
  have h1 := h.set 0 v
  simp only [List.setIfInBounds_toArray, List.set_cons_zero] at h1
  exact h1
/-- What where answers. -/
def whereV : Option (Nat × Nat) → Value
  | none => .tuple #[.int .i64 0, .int .i64 0, .bool false]
  | some q => .tuple #[.int .i64 (q.1 : Int), .int .i64 (q.2 : Int), .bool true]
/-- What is so of each group. -/
def SaysP (P : Program) (k : FuncId) (cap : Array Value) (g : Nat) (p : Nat → Bool) (w : World) : Prop :=
  ∀ (y : Nat) (W : World), y < g → Below w.heap.size w W → Calls P k (#[.int .i64 (y : Int)] ++ cap) W fun e W' => e = .returned (.bool (p y)) ∧ W = W'
theorem pre_next' {g l : Nat} {pre : List (Nat × Nat)} {x : Nat × Nat} (h : pre ++ [x] <+: rowL g l) (hg : 0 < g) : x.2 < g := by
  have h2 : x ∈ rowL g l := h.subset (by simp)
  unfold rowL at h2
  obtain ⟨i, _, rfl⟩ := List.mem_map.1 h2
  exact rowAt_lt hg _ _
set_option maxRecDepth 100000 in
set_option maxHeartbeats 4000000 in
theorem Try.where_any (g h : Nat) (hg : 1 ≤ g) (hg2 : g ≤ 64) (hh : h < 18446744073709551616) (B1 B2 : Nat) (k : FuncId) (cap : Array Value) (p : Nat → Bool) (w : World) (hs : SaysP Try.prog k cap g p w)
    (eg : ∀ args w, (callFunc k args).run Try.prog w = .ok (.enter k args) w) (h1 : Rows8 w B1 3 #[.int .i64 (g : Int)]) (h2 : Rows8 w B2 22 #[.int .u64 (h : Int)]) :
    Calls Try.prog 32 #[.func (.func 42) #[] #[.pointer (some ⟨B1, 0, none⟩), .pointer (some ⟨B2, 0, none⟩)], .func (.func k) #[] cap] w fun e w' => e = .returned (whereV (firstP p g (h % g))) ∧ Below w.heap.size w w' := by
  refine (callsIn_wide (n := 9)).1 ?_
  refine callsIn_of_wp_marks Try.func32 rfl trivial ?_ rfl
  simp only [Try.ntmps32, List.size_toArray, List.length_cons, List.length_nil, Nat.reduceAdd, Nat.reduceSub, Array.replicate_succ, Array.replicate_zero, List.push_toArray, List.append_toArray, List.nil_append, List.cons_append]
  have HSP := Lib.hid hs
  clear hs
  gi_wp2_with fail
  have r0 := ((((Rows8.new w 25 #[.func (.func k) #[] cap]).alloc (.cells #[.int .i64 0] 3)).alloc (.cells #[.int .i64 0] 3)).alloc (.cells #[.bool false] 4))
  have r1 := ((rows_new2 w (.cells #[.func (.func k) #[] cap] 25) 3 #[.int .i64 0]).alloc (.cells #[.int .i64 0] 3)).alloc (.cells #[.bool false] 4)
  have r2 := (Rows8.new ((w.alloc (.cells #[.func (.func k) #[] cap] 25)).alloc (.cells #[.int .i64 0] 3)) 3 #[.int .i64 0]).alloc (.cells #[.bool false] 4)
  have r3 := Rows8.new (((w.alloc (.cells #[.func (.func k) #[] cap] 25)).alloc (.cells #[.int .i64 0] 3)).alloc (.cells #[.int .i64 0] 3)) 4 #[.bool false]
  rw [World.size_alloc, World.size_alloc, World.size_alloc] at r3
  rw [World.size_alloc, World.size_alloc] at r2
  have hBc : Below w.heap.size w ((((w.alloc (.cells #[.func (.func k) #[] cap] 25)).alloc (.cells #[.int .i64 0] 3)).alloc (.cells #[.int .i64 0] 3)).alloc (.cells #[.bool false] 4)) := ((((Below.refl _ w).alloc (Nat.le_refl _) _).alloc (by simp) _).alloc (by simp; omega) _).alloc (by simp; omega) _
  have hz : ((((w.alloc (.cells #[.func (.func k) #[] cap] 25)).alloc (.cells #[.int .i64 0] 3)).alloc (.cells #[.int .i64 0] 3)).alloc (.cells #[.bool false] 4)).heap.size = w.heap.size + 4 := by simp
  generalize ((((w.alloc (.cells #[.func (.func k) #[] cap] 25)).alloc (.cells #[.int .i64 0] 3)).alloc (.cells #[.int .i64 0] 3)).alloc (.cells #[.bool false] 4)) = W0 at *
  have hl : h % g < g := Nat.mod_lt _ hg
  have HTL := Lib.hid (Try.row1_tells 8 (by decide) g h hg hg2 hh B1 B2 W0 (Kt w.heap.size 4 4) (Kt.refl _ _ _) kt_t (fun A B k r => k.rows r (by decide) (by decide)) (h1.below hBc h1.lt) (h2.below hBc h2.lt))
  generalize hlE : h % g = l at *
  have HLE := Lib.hid hlE
  clear hlE h1 h2
  refine range_tellsD rfl (by decide) (gf := 42) (lb := #[.pointer (some ⟨B1, 0, none⟩), .pointer (some ⟨B2, 0, none⟩)]) rfl trivial (fun _ _ => by kernel_rfl) HTL.out kt_t kt_b (Below.refl _ _) (fun _ => rfl)
    (fun pre W' => Rows8 W' w.heap.size 25 #[.func (.func k) #[] cap] ∧ Rows8 W' (w.heap.size + 1) 3 #[.int .i64 0] ∧ Rows8 W' (w.heap.size + 1 + 1) 3 #[.int .i64 0] ∧ Rows8 W' (w.heap.size + 1 + 1 + 1) 4 #[.bool false] ∧ Below w.heap.size w W' ∧ Hid (pre.find? (fun q => p q.2) = none))
    (fun c pre W' => (c = .ret ∧ ∃ q : Nat × Nat, pre.find? (fun q => p q.2) = some q ∧ Rows8 W' (w.heap.size + 1) 3 #[.int .i64 (q.1 : Int)] ∧ Rows8 W' (w.heap.size + 1 + 1) 3 #[.int .i64 (q.2 : Int)] ∧ Rows8 W' (w.heap.size + 1 + 1 + 1) 4 #[.bool true]) ∧ Below w.heap.size w W')
    (OwnFrom.and (Own.from (Rows8.own _ _ _) _) (OwnFrom.and (Own.from (Rows8.own _ _ _) _) (OwnFrom.and (Own.from (Rows8.own _ _ _) _) (OwnFrom.and (Own.from (Rows8.own _ _ _) _) (OwnFrom.and (ownFrom_below (Nat.le_refl _) (by omega)) (fun _ _ _ _ hs _ _ => hs))))))
    (fun c => OwnFrom.and (Own.from (fun s A B row hs hg hr => by
      obtain ⟨hc, q, e, q1, q2, q3⟩ := hs
      exact ⟨hc, q, e, Rows8.own (β := Unit) _ _ (fun _ => _) () A B row q1 hg hr, Rows8.own (β := Unit) _ _ (fun _ => _) () A B row q2 hg hr, Rows8.own (β := Unit) _ _ (fun _ => _) () A B row q3 hg hr⟩) _) (ownFrom_below (Nat.le_refl _) (by omega)))
    (fun s X Y hs hXY => ⟨hs.1.below hXY hs.1.lt, hs.2.1.below hXY hs.2.1.lt, hs.2.2.1.below hXY hs.2.2.1.lt, hs.2.2.2.1.below hXY hs.2.2.2.1.lt, hs.2.2.2.2.1.trans (hXY.mono hs.2.2.2.2.1.size), hs.2.2.2.2.2⟩)
    (fun c s X Y hs hXY => by
      obtain ⟨⟨hc, q, e, q1, q2, q3⟩, hB⟩ := hs
      exact ⟨⟨hc, q, e, q1.below hXY q1.lt, q2.below hXY q2.lt, q3.below hXY q3.lt⟩, hB.trans (hXY.mono hB.size)⟩)
    ⟨r0, r1, r2, r3, hBc, Lib.hid rfl⟩
    (fun x a' W' => a' = { tmps := #[.func (.func 42) #[] #[.pointer (some ⟨B1, 0, none⟩), .pointer (some ⟨B2, 0, none⟩)], .func (.func k) #[] cap, undef, .pointer (some ⟨w.heap.size, 0, none⟩), .pointer (some ⟨w.heap.size + 1, 0, none⟩), .pointer (some ⟨w.heap.size + 1 + 1, 0, none⟩), .pointer (some ⟨w.heap.size + 1 + 1 + 1, 0, none⟩), .int .i64 (x.1 : Int), .int .i64 (x.2 : Int), undef, .func (.func 42) #[] #[.pointer (some ⟨B1, 0, none⟩), .pointer (some ⟨B2, 0, none⟩)], .int .i64 (x.1 : Int), .int .i64 (x.2 : Int), undef, undef, undef, undef, undef, undef], defers := [] })
    (fun x a' s X Y row hs hg hr => hs) ?assign ?body ?done ?stop
  case assign =>
    rintro l2 pre ⟨p1, p2⟩ W' K hI hK
    unfold encQ
    gi_wp2_with fail
    exact hK _ _ (keepsFrom_below (Below.refl _ _)) (Kt.refl _ _ _ _) hI rfl
  case body =>
    rintro l2 pre ⟨x1, x2⟩ a' W' ⟨h0, h1, h2, h3, hB, hf⟩ rfl hok
    have hx2 := pre_next' hok hg
    dsimp only at hx2
    have HC := HSP.out x2 W' hx2 hB
    have c0 : W'.cell? ⟨w.heap.size, 0, none⟩ = some (.func (.func k) #[] cap) := h0.cell 0
    have c1 : W'.cell? ⟨w.heap.size + 1, 0, none⟩ = some (.int .i64 0) := h1.cell 0
    have c2 : W'.cell? ⟨w.heap.size + 1 + 1, 0, none⟩ = some (.int .i64 0) := h2.cell 0
    have c3 : W'.cell? ⟨w.heap.size + 1 + 1 + 1, 0, none⟩ = some (.bool false) := h3.cell 0
    have f1 := h1.frozen 0
    have f2 := h2.frozen 0
    have f3 := h3.frozen 0
    have hz3 := h3.lt
    have H0 := Lib.hid h0
    have H1 := Lib.hid h1
    have H2 := Lib.hid h2
    have H3 := Lib.hid h3
    have HB := Lib.hid hB
    cases hp : p x2 with
    | false =>
      rw [hp] at HC
      have HC := Lib.hid HC
      have hf2 : Hid ((pre ++ [(x1, x2)]).find? (fun q => p q.2) = none) := Lib.hid (by rw [List.find?_append, hf.out]; simp [hp])
      clear h0 h1 h2 h3 hB hp hf
      gi_wp2_with fail
      refine ⟨trivial, ?_⟩
      refine (CallsIn.inRound l2 (callsIn_wide.2 HC.out)).mono ?_
      rintro e W1 ⟨rfl, rfl⟩
      gi_wp2_with fail
      exact ⟨KeepsFrom.refl _ _, Kt.refl _ _ _ _, H0.out, H1.out, H2.out, H3.out, HB.out, hf2⟩
    | true =>
      rw [hp] at HC
      have HC := Lib.hid HC
      have hf2 : Hid ((pre ++ [(x1, x2)]).find? (fun q => p q.2) = some (x1, x2)) := Lib.hid (by rw [List.find?_append, hf.out]; simp [hp])
      clear h0 h1 h2 h3 hB hp hf
      gi_wp2_with fail
      refine ⟨trivial, ?_⟩
      refine (CallsIn.inRound l2 (callsIn_wide.2 HC.out)).mono ?_
      rintro e W1 ⟨rfl, rfl⟩
      gi_wp2_with fail
      refine ⟨KeepsOthers.from (((KeepsOthers.setCell _ _ _).trans (KeepsOthers.setCell _ _ _)).trans (KeepsOthers.setCell _ _ _)) _, ⟨rfl, (x1, x2), hf2.out, ?_, ?_, ?_⟩, ((HB.out.setCell (p := ⟨w.heap.size + 1, 0, none⟩) (by simp) _).setCell (p := ⟨w.heap.size + 1 + 1, 0, none⟩) (by show w.heap.size ≤ w.heap.size + 1 + 1; omega) _).setCell (p := ⟨w.heap.size + 1 + 1 + 1, 0, none⟩) (by show w.heap.size ≤ w.heap.size + 1 + 1 + 1; omega) _⟩
      · exact ((rows_set1 H1.out _).setOther (by simp) _).setOther (by show w.heap.size + 1 + 1 + 1 ≠ w.heap.size + 1; omega) _
      · exact (rows_set1 (H2.out.setOther (by simp) _) _).setOther (by simp) _
      · exact rows_set1 ((H3.out.setOther (by show w.heap.size + 1 ≠ w.heap.size + 1 + 1 + 1; omega) _).setOther (by simp) _) _
  case done =>
    rintro D ys W' hD hys ⟨h0, h1, h2, h3, hB, hf⟩ hK
    have HF : Hid (firstP p g l = none) := Lib.hid (by unfold firstP; rw [← hys]; exact hf.out)
    have c1 : W'.cell? ⟨w.heap.size + 1, 0, none⟩ = some (.int .i64 0) := h1.cell 0
    have c2 : W'.cell? ⟨w.heap.size + 1 + 1, 0, none⟩ = some (.int .i64 0) := h2.cell 0
    have c3 : W'.cell? ⟨w.heap.size + 1 + 1 + 1, 0, none⟩ = some (.bool false) := h3.cell 0
    have f1 := h1.frozen 0
    have f2 := h2.frozen 0
    have f3 := h3.frozen 0
    have hz3 := h3.lt
    have H1 := Lib.hid h1
    have H2 := Lib.hid h2
    have H3 := Lib.hid h3
    have HB := Lib.hid hB
    have hDz : w.heap.size + 4 ≤ D := by omega
    clear h0 h1 h2 h3 hB hf hys
    gi_wp2_with fail
    have hK' := (((KeepsOthers.setCell W' ⟨w.heap.size + 1, 0, none⟩ (.int .i64 0)).trans (KeepsOthers.setCell _ ⟨w.heap.size + 1 + 1, 0, none⟩ (.int .i64 0))).trans (KeepsOthers.setCell _ ⟨w.heap.size + 1 + 1 + 1, 0, none⟩ (.bool false))).same D _ hK rfl
    have hBE := ((HB.out.setCell (p := ⟨w.heap.size + 1, 0, none⟩) (by simp) (.int .i64 0)).setCell (p := ⟨w.heap.size + 1 + 1, 0, none⟩) (by show w.heap.size ≤ w.heap.size + 1 + 1; omega) (.int .i64 0)).setCell (p := ⟨w.heap.size + 1 + 1 + 1, 0, none⟩) (by show w.heap.size ≤ w.heap.size + 1 + 1 + 1; omega) (.bool false)
    have r1 := ((rows_set1 H1.out (.int .i64 0)).setOther (a := ⟨w.heap.size + 1 + 1, 0, none⟩) (by simp) (.int .i64 0)).setOther (a := ⟨w.heap.size + 1 + 1 + 1, 0, none⟩) (by show w.heap.size + 1 + 1 + 1 ≠ w.heap.size + 1; omega) (.bool false)
    have r2 := (rows_set1 (H2.out.setOther (a := ⟨w.heap.size + 1, 0, none⟩) (by simp) (.int .i64 0)) (.int .i64 0)).setOther (a := ⟨w.heap.size + 1 + 1 + 1, 0, none⟩) (by simp) (.bool false)
    have r3 := rows_set1 ((H3.out.setOther (a := ⟨w.heap.size + 1, 0, none⟩) (by show w.heap.size + 1 ≠ w.heap.size + 1 + 1 + 1; omega) (.int .i64 0)).setOther (a := ⟨w.heap.size + 1 + 1, 0, none⟩) (by simp) (.int .i64 0)) (.bool false)
    generalize (((W'.setCell ⟨w.heap.size + 1, 0, none⟩ (.int .i64 0)).setCell ⟨w.heap.size + 1 + 1, 0, none⟩ (.int .i64 0)).setCell ⟨w.heap.size + 1 + 1 + 1, 0, none⟩ (.bool false)) = W5 at *
    refine ⟨by simp, .inl ⟨_, _, rfl, run_takeDeferred hK', ?_⟩⟩
    have q1 : (W5.putObj D (.deferred none)).cell? ⟨w.heap.size + 1, 0, none⟩ = some (.int .i64 0) := Rows8.cell (rows_put r1 hK') 0
    have q2 : (W5.putObj D (.deferred none)).cell? ⟨w.heap.size + 1 + 1, 0, none⟩ = some (.int .i64 0) := Rows8.cell (rows_put r2 hK') 0
    have q3 : (W5.putObj D (.deferred none)).cell? ⟨w.heap.size + 1 + 1 + 1, 0, none⟩ = some (.bool false) := Rows8.cell (rows_put r3 hK') 0
    refine ⟨.tuple #[.int .i64 0, .int .i64 0, .bool false], ?_, by rw [HLE.out, HF.out]; rfl, hBE.trans (belowK_b (w := w) (Nat.le_refl _) _ D _ _ (by omega) hK' rfl rfl)⟩
    simp [results, Try.f32, go_sem, q1, q2, q3]
  case stop =>
    rintro D c pre W' hD hpre ⟨⟨rfl, q, hq, h1, h2, h3⟩, hB⟩ hK
    have HF : Hid (firstP p g l = some q) := Lib.hid (by
      unfold firstP
      obtain ⟨r, hr⟩ := hpre
      rw [← hr, List.find?_append, hq]
      rfl)
    have q1 : (W'.putObj D (.deferred none)).cell? ⟨w.heap.size + 1, 0, none⟩ = some (.int .i64 (q.1 : Int)) := Rows8.cell (rows_put h1 hK) 0
    have q2 : (W'.putObj D (.deferred none)).cell? ⟨w.heap.size + 1 + 1, 0, none⟩ = some (.int .i64 (q.2 : Int)) := Rows8.cell (rows_put h2 hK) 0
    have q3 : (W'.putObj D (.deferred none)).cell? ⟨w.heap.size + 1 + 1 + 1, 0, none⟩ = some (.bool true) := Rows8.cell (rows_put h3 hK) 0
    have HB := Lib.hid hB
    clear h1 h2 h3 hq hpre hB
    gi_wp2
    refine ⟨by simp, .inl ⟨_, _, rfl, run_takeDeferred hK, ?_⟩⟩
    refine ⟨.tuple #[.int .i64 (q.1 : Int), .int .i64 (q.2 : Int), .bool true], ?_, by rw [HLE.out, HF.out]; rfl, HB.out.trans (belowK_b (w := w) (Nat.le_refl _) _ D _ _ (by omega) hK rfl rfl)⟩
    simp [results, Try.f32, go_sem, q1, q2, q3]
end Go.Proofs
