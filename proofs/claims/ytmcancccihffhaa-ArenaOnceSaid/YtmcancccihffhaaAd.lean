/- Arena: New, Tag, Counts. -/
import Derived.Test.YtmcancccihffhaaAc
namespace Go.Proofs
set_option maxRecDepth 100000
open Go.RowKit Go.Shelf
attribute [local go_sem] Oper.semAt_some

theorem results_ctA {P : Program} {fn : Func} {p q : Tmp} {ty : TypeId} (h : fn.results = #[.cell p ty, .tmp q]) (tmps : Array Value) (w : World) (B : Nat) (u x : Value)
    (hp : tmps.getD p undef = .pointer (some ⟨B, 0, none⟩)) (hx : tmps.getD q undef = x) (h1 : (loadVar ty ⟨B, 0, none⟩).run P w = .ok u w) :
    (results fn tmps).run P w = .ok (.tuple #[u, x]) w := by
  have hp' : tmps[p]?.getD undef = .pointer (some ⟨B, 0, none⟩) := by simpa using hp
  have hx' : tmps[q]?.getD undef = x := by simpa using hx
  simp [results, h, hp', hx', asAddr, h1, Result.andThen]
theorem load_row {P : Program} {W : World} {B : Nat} {t : TypeId} {cs : Array Value} (h : Rows8 W B t cs) {d : TypeDesc} (hu : P.underlying t = some d) (hd : (match d with | .struct _ | .array _ _ => true | _ => false) = true) (hi : (P.info? t).map (·.size) = some cs.size) :
    (loadVar t ⟨B, 0, none⟩).run P W = .ok (.agg cs) W := run_loadVar_row W B t t cs (0, 0) d h hu hd hi
theorem made_pairs (n : Nat) : (madeCells (Value.agg #[.int .i64 0, .int .u64 0]).cells (n * 2)).toList = pVals (List.replicate n (0, 0)) := by
  apply List.ext_getElem?
  intro j
  have hl : (pVals (List.replicate n (0, 0))).length = n * 2 := by rw [pVals_length, List.length_replicate]
  by_cases hj : j < n * 2
  · have h2 : j / 2 < (List.replicate n ((0, 0) : Pr)).length := by rw [List.length_replicate]; omega
    have f0 := flat_get pCells 2 (fun _ => rfl) (List.replicate n (0, 0)) (j / 2) (j % 2) h2 (by omega)
    rw [show j / 2 * 2 + j % 2 = j by omega] at f0
    unfold pVals
    rw [f0, List.getElem_replicate]
    rcases (by omega : j % 2 = 0 ∨ j % 2 = 1) with e | e
    · rw [e]; simp [madeCells, hj, e, Value.cells, pCells]
    · rw [e]; simp [madeCells, hj, e, Value.cells, pCells]
  · rw [List.getElem?_eq_none (by simp [madeCells]; omega), List.getElem?_eq_none (by omega)]
def newL (n : Int) : List Pr := List.replicate n.toNat (0, 0)
theorem newL_right {n : Int} (h : manyA n = true) : rightA (newL n) = true := by
  unfold manyA at h
  rw [decide_eq_true_eq] at h
  rw [rightA_iff]
  unfold newL
  rw [List.length_replicate]
  refine ⟨⟨by omega, by omega⟩, fun s hs => ?_⟩
  rw [(List.mem_replicate.1 hs).2]
  rfl
theorem below_drewN {h : Nat} {A B : World} (p : Below h A B) (n : Nat) : Below h A (B.drewN n) := ⟨p.os, p.tape, p.output, p.size, p.block⟩
/-- An arena, and an error. -/
def ArQ (T : TypeId) (n₀ : Nat) (E : Int) (l : List Pr) (e : Ending) (w' : World) : Prop :=
  ∃ v, e = .returned (.tuple #[.agg #[v], .int .i64 E]) ∧ OwnsP T n₀ (if E = 0 then l else []) v w'
set_option maxRecDepth 100000 in
set_option maxHeartbeats 1000000 in
theorem Try.New_any (n : Int) (w : World) :
    Calls Try.prog 13 #[.int .i64 n] w fun e w' => ArQ 52 w.heap.size (if manyA n then 0 else 2) (newL n) e w' ∧ Below w.heap.size w w' := by
  obtain ⟨i0, hi, hz0, hz1, hz2⟩ := info_parts Try.infoSlab
  have HM := fun W => Lib.hid (Try.mayHave_any n W)
  have hR0 := Rows8.new w 24 #[.slice none 0 0]
  have hB0 : Below w.heap.size w (w.alloc (.cells #[.slice none 0 0] 24)) := Rows8.newB
  have HR0 := Lib.hid hR0
  have HB0 := Lib.hid hB0
  clear hR0 hB0
  cases hm : manyA n with
  | true =>
    obtain ⟨m, rfl, hm2⟩ : ∃ m : Nat, n = m ∧ m ≤ 128 := by
      unfold manyA at hm
      rw [decide_eq_true_eq] at hm
      exact ⟨n.toNat, by omega, by omega⟩
    rw [hm] at HM
    clear hm
    go_enter Try.func13, Try.ntmps13
    go_wp2_with fail
    refine (HM _).out.mono ?_
    rintro e w1 ⟨rfl, rfl⟩
    obtain ⟨w2, hrun, hown, hgr⟩ := run_make_full (P := Try.prog) (w.alloc (.cells #[.slice none 0 0] 24)) w.heap.size 22 52 i0 (.agg #[.int .i64 0, .int .u64 0]) 2 Try.underlying22 hi hz0 hz1 .i64 .i64 m (by rw [hz2]; omega) (by unfold maxLen; omega) (by simp)
    have hO : OwnsP 52 w.heap.size (List.replicate m (0, 0)) (.slice (some ⟨(w.alloc (.cells #[.slice none 0 0] 24)).heap.size, 0, none⟩) m m) w2 := by
      unfold OwnsP
      rw [List.length_replicate, ← made_pairs]
      exact hown
    have hB2 := HB0.out.grown hgr (by simp) (fun j ej => by cases ej)
    have hR2 := HR0.out.below ((Below.refl _ (w.alloc (.cells #[.slice none 0 0] 24))).grown hgr (Nat.le_refl _) (fun j ej => by cases ej)) HR0.out.lt
    have c0 : w2.cell? ⟨w.heap.size, 0, none⟩ = some (.slice none 0 0) := hR2.cell 0
    have f0 := hR2.frozen 0
    generalize (w.alloc (.cells #[.slice none 0 0] 24)) = W0 at *
    obtain ⟨v, hv⟩ : ∃ v, v = (Value.slice (some ⟨W0.heap.size, 0, none⟩) m m) := ⟨_, rfl⟩
    have hS := (hR2.set 0 (.slice (some ⟨W0.heap.size, 0, none⟩) m m))
    have hOs := hO.setNe (a := ⟨w.heap.size, 0, none⟩) hR2 (by decide) (.slice (some ⟨W0.heap.size, 0, none⟩) m m)
    have hB3 := hB2.setCell (p := ⟨w.heap.size, 0, none⟩) (Nat.le_refl _) (.slice (some ⟨W0.heap.size, 0, none⟩) m m)
    have HS := Lib.hid hS
    have HO := Lib.hid hOs
    have HB3 := Lib.hid hB3
    clear hown hO hgr hB2 hR2 hS hOs hB3 hv
    go_wp2_with fail
    refine bodyPost_ret (results_ctA rfl _ _ w.heap.size _ _ rfl rfl (load_row HS.out Try.underlying24 rfl (by kernel_rfl))) rfl ?_
    exact ⟨⟨_, rfl, by unfold newL; rw [Int.toNat_natCast]; exact HO.out⟩, HB3.out⟩
  | false =>
    rw [hm] at HM
    clear hm
    go_enter Try.func13, Try.ntmps13
    go_wp2_with fail
    refine (HM _).out.mono ?_
    rintro e w1 ⟨rfl, rfl⟩
    have c0 : (w.alloc (.cells #[.slice none 0 0] 24)).cell? ⟨w.heap.size, 0, none⟩ = some (.slice none 0 0) := HR0.out.cell 0
    have f0 := HR0.out.frozen 0
    have HS := Lib.hid (HR0.out.set 0 (.slice none 0 0))
    have HB3 := Lib.hid (HB0.out.setCell (p := ⟨w.heap.size, 0, none⟩) (Nat.le_refl _) (.slice none 0 0))
    generalize (w.alloc (.cells #[.slice none 0 0] 24)) = W0 at *
    go_wp2_with fail
    refine bodyPost_ret (results_ctA rfl _ _ w.heap.size _ _ rfl rfl (load_row HS.out Try.underlying24 rfl (by kernel_rfl))) rfl ?_
    exact ⟨⟨_, rfl, ownsP_nil _ _ _⟩, HB3.out⟩

set_option maxRecDepth 100000 in
set_option maxHeartbeats 2000000 in
theorem Try.tag_any (a : Option Addr) (n cap : Nat) (l : List Pr) (e : Pr) (w : World) (hI : PAt w (.slice a n cap) l) :
    Calls Try.prog 28 #[.agg #[.slice a n cap], .agg #[.int .i64 e.1, .int .u64 (e.2 : Nat)]] w fun r w' => r = .returned (.tuple #[.int .i64 (tagA l e), .bool (tagB l e)]) ∧ Below w.heap.size w w' := by
  have hlen := (pAt_len hI).1
  obtain ⟨t, ht⟩ : ∃ t, t = tagA l e := ⟨_, rfl⟩
  obtain ⟨b, hb⟩ : ∃ b, b = tagB l e := ⟨_, rfl⟩
  rw [← ht, ← hb]
  have hB0 : Below w.heap.size w ((w.alloc (.cells #[.slice a n cap] 54)).alloc (.cells #[.int .i64 e.1, .int .u64 (e.2 : Nat)] 41)) := (Rows8.newB).alloc (by simp) _
  have h0 := (Rows8.new w 54 #[.slice a n cap]).alloc (.cells #[.int .i64 e.1, .int .u64 (e.2 : Nat)] 41)
  have h1 := Rows8.new (w.alloc (.cells #[.slice a n cap] 54)) 41 #[.int .i64 e.1, .int .u64 (e.2 : Nat)]
  rw [World.size_alloc] at h1
  have HI0 := Lib.hid (PAt.below hI hB0)
  have HT := Lib.hid ht
  have HB := Lib.hid hb
  have HB0 := Lib.hid hB0
  have HL := Lib.hid hlen
  clear ht hb hlen hB0 hI
  obtain ⟨i, g⟩ := e
  dsimp only at h0 h1 HI0 HB0 ⊢
  go_enter Try.func28, Try.ntmps28
  go_wp2_with fail
  generalize ((w.alloc (.cells #[.slice a n cap] 54)).alloc (.cells #[.int .i64 i, .int .u64 (g : Nat)] 41)) = W0 at *
  have c0 : W0.cell? ⟨w.heap.size, 0, none⟩ = some (.slice a n cap) := h0.cell 0
  have c1 : W0.cell? ⟨w.heap.size + 1, 0, none⟩ = some (.int .i64 i) := h1.cell 0
  have c2 : W0.cell? ⟨w.heap.size + 1, 1, none⟩ = some (.int .u64 (g : Nat)) := h1.cell 1
  clear h0 h1
  have hno : ¬ (∃ j : Nat, i = (j : Int) ∧ ∃ h : j < l.length, l[j].2 = g) → Hid (b = false ∧ t = 0) := fun h => Lib.hid (by
    have h2 : tagB l (i, g) = false := by cases hq : tagB l (i, g) with | false => rfl | true => exact absurd (tagB_iff.1 hq) h
    exact ⟨by rw [HB.out, h2], by rw [HT.out, tagA_no h2]⟩)
  by_cases hi0 : i < 0
  · have hr := hno (by rintro ⟨j, rfl, _⟩; omega)
    have d0 : decide (i < 0) = true := by simpa using hi0
    go_quiet (fail)
    go_wp2_with fail
    go_ret2
    exact ⟨by rw [hr.out.1, hr.out.2]; rfl, below_drewN HB0.out _⟩
  · have d0 : decide (i < 0) = false := by simpa using hi0
    by_cases hin : (n : Int) ≤ i
    · have hr := hno (by rintro ⟨j, rfl, hj, _⟩; have := HL.out; omega)
      have d1 : decide ((n : Int) ≤ i) = true := by simpa using hin
      go_quiet (fail)
      go_wp2_with fail
      go_ret2
      exact ⟨by rw [hr.out.1, hr.out.2]; rfl, below_drewN HB0.out _⟩
    · have d1 : decide ((n : Int) ≤ i) = false := by simpa using hin
      obtain ⟨j, rfl⟩ : ∃ j : Nat, i = j := ⟨i.toNat, by omega⟩
      have hjl : j < l.length := by have := HL.out; omega
      obtain ⟨bb, off, rfl, hbl, p0, p1⟩ := pAt_get HI0.out j hjl
      have hji : (j : Int) < (n : Int) := by omega
      have hj0 : (0 : Int) ≤ (j : Int) := by omega
      by_cases hg : l[j].2 = g
      · have hr : Hid (b = true ∧ t = l[j].1) := Lib.hid (by have h := tagA_at (e := (j, g)) rfl hjl hg; exact ⟨by rw [HB.out, h.1], by rw [HT.out, h.2]⟩)
        rw [hg] at p1
        have d2 : (((g : Nat) : Int) != ((g : Nat) : Int)) = false := by simp
        clear hg hno
        generalize l[j].1 = tt at *
        go_quiet (fail)
        go_wp2_with fail
        go_ret2
        exact ⟨by rw [hr.out.1, hr.out.2]; rfl, below_drewN HB0.out _⟩
      · have hr := hno (by rintro ⟨j', e', h', h''⟩; exact hg (by obtain rfl : j = j' := (by omega); exact h''))
        have d2 : (((l[j].2 : Nat) : Int) != ((g : Nat) : Int)) = true := by simp; omega
        clear hg hno
        generalize l[j].2 = g' at *
        go_quiet (fail)
        go_wp2_with fail
        go_ret2
        exact ⟨by rw [hr.out.1, hr.out.2]; rfl, below_drewN HB0.out _⟩
set_option maxRecDepth 100000 in
set_option maxHeartbeats 1000000 in
theorem Try.Tag_any (a : Option Addr) (n cap : Nat) (l : List Pr) (e : Pr) (w : World) (hI : PAt w (.slice a n cap) l) :
    Calls Try.prog 12 #[.agg #[.slice a n cap], .agg #[.int .i64 e.1, .int .u64 (e.2 : Nat)]] w fun r w' => r = .returned (.tuple #[.int .i64 (if rightA l then tagA l e else 0), .bool (rightA l && tagB l e)]) ∧ Below w.heap.size w w' := by
  have hB0 : Below w.heap.size w (((w.alloc (.cells #[.slice a n cap] 24)).alloc (.cells #[.int .i64 e.1, .int .u64 (e.2 : Nat)] 41)).alloc (.cells #[.slice a n cap] 54)) := ((Rows8.newB).alloc (by simp) _).alloc (by simp <;> omega) _
  have h1 : Rows8 (((w.alloc (.cells #[.slice a n cap] 24)).alloc (.cells #[.int .i64 e.1, .int .u64 (e.2 : Nat)] 41)).alloc (.cells #[.slice a n cap] 54)) (w.heap.size + 1) 41 #[.int .i64 e.1, .int .u64 (e.2 : Nat)] := (rows_new2 _ _ _ _).alloc _
  have h2 := Rows8.new ((w.alloc (.cells #[.slice a n cap] 24)).alloc (.cells #[.int .i64 e.1, .int .u64 (e.2 : Nat)] 41)) 54 #[.slice a n cap]
  have hsz : ((w.alloc (.cells #[.slice a n cap] 24)).alloc (.cells #[.int .i64 e.1, .int .u64 (e.2 : Nat)] 41)).heap.size = w.heap.size + 2 := by simp
  rw [hsz] at h2
  have hI0 := PAt.below hI hB0
  have HT := fun (W : World) (h : PAt W (.slice a n cap) l) => Lib.hid (Try.tag_any a n cap l e W h)
  obtain ⟨q, hq⟩ : ∃ q, q = rightA l := ⟨_, rfl⟩
  have HM := fun (W : World) (h : PAt W (.slice a n cap) l) => Lib.hid (Try.mayBe_any a n cap l W h)
  rw [← hq] at HM ⊢
  clear hq
  have HB0 := Lib.hid hB0
  have H1 := Lib.hid h1
  have H2 := Lib.hid h2
  have HI0 := Lib.hid hI0
  clear hB0 h1 h2 hI0 hI hsz
  obtain ⟨i, g⟩ := e
  dsimp only at HB0 H1 H2 HI0 ⊢
  generalize tagA l (i, g) = t at *
  generalize tagB l (i, g) = b at *
  go_enter Try.func12, Try.ntmps12
  go_wp2_with fail
  generalize (((w.alloc (.cells #[.slice a n cap] 24)).alloc (.cells #[.int .i64 i, .int .u64 (g : Nat)] 41)).alloc (.cells #[.slice a n cap] 54)) = W0 at *
  refine (HM _ HI0.out).out.mono ?_
  rintro r w1 ⟨rfl, hB1⟩
  have c1 : w1.cell? ⟨w.heap.size + 1, 0, none⟩ = some (.int .i64 i) := (H1.out.below hB1 H1.out.lt).cell 0
  have c2 : w1.cell? ⟨w.heap.size + 1, 1, none⟩ = some (.int .u64 (g : Nat)) := (H1.out.below hB1 H1.out.lt).cell 1
  have c3 : w1.cell? ⟨w.heap.size + 2, 0, none⟩ = some (.slice a n cap) := (H2.out.below hB1 H2.out.lt).cell 0
  have HI1 := Lib.hid (PAt.below HI0.out hB1)
  have HB1 := Lib.hid (HB0.out.trans (hB1.mono HB0.out.size))
  clear hB1
  cases q with
  | true =>
    have HT' := HT w1 HI1.out
    clear HT HM
    go_wp2_with fail
    refine HT'.out.mono ?_
    rintro r w2 ⟨rfl, hB2⟩
    have HB2 := Lib.hid (HB1.out.trans (hB2.mono HB1.out.size))
    clear hB2
    go_wp2_with fail
    go_ret2
    exact ⟨rfl, HB2.out⟩
  | false =>
    clear HT HM
    go_wp2_with fail
    go_ret2
    exact ⟨rfl, HB1.out⟩

end Go.Proofs
