/- far: the walk. -/
import Derived.Test.YtehphohgnpbmpaaQj
import Derived.Laws.EntriesVeiled
namespace Go.Proofs
open Go.RowKit Go.Shelf
attribute [local go_sem] Oper.semAt_some

theorem sumTo_le {f : Nat → Nat} {M : Nat} (h : ∀ k, f k ≤ M) : ∀ n, sumTo f n ≤ n * M
  | 0 => by simp [sumTo]
  | n + 1 => by
    have := sumTo_le h n
    have := h n
    rw [sumTo, Nat.add_mul]
    omega
/-- A group's sum behind so many rounds of one row. -/
def partF (g f m c : Nat) (base : Nat → Nat) (y : Nat) : Nat := base y + if place g f y < m then place g f y * c else 0
theorem place_le (g l x : Nat) : place g l x ≤ g := by
  unfold place
  have := List.findIdx_le_length (xs := rowG g l) (p := (· == x))
  rwa [rowG_len] at this
theorem part_le {g f m : Nat} (ls : List Nat) (h64 : g ≤ 64) (hf : f < g) (hl : ls.length ≤ 1000) (y : Nat) : partF g f m (ls.count f) (fun x => sumTo (fun k => place g k x * ls.count k) f) y ≤ 5000000 := by
  have h1 : ∀ k, place g k y * ls.count k ≤ 64000 := fun k => by
    have a := place_le g k y
    have b : ls.count k ≤ 1000 := Nat.le_trans List.count_le_length hl
    calc place g k y * ls.count k ≤ 64 * 1000 := Nat.mul_le_mul (by omega) b
      _ = 64000 := rfl
  have h2 := sumTo_le h1 f
  have h3 := h1 f
  unfold partF
  dsimp only
  split <;> omega
theorem part_step {g f m c : Nat} {base : Nat → Nat} (hm : mayB g = true) (hf : f < g) (h : m < g) (y : Nat) (hy : y < g) :
    (if y = rowAt g f m then partF g f m c base (rowAt g f m) + m * c else partF g f m c base y) = partF g f (m + 1) c base y := by
  have hp : place g f (rowAt g f m) = m := place_eq hm hf h rfl
  obtain ⟨h1, h2⟩ := place_spec hm hf hy
  unfold partF
  by_cases e : y = rowAt g f m
  · rw [if_pos e, e, hp, if_neg (by omega), if_pos (by omega)]; omega
  · rw [if_neg e]
    have : place g f y ≠ m := fun e2 => e (by rw [← h2, e2])
    by_cases h3 : place g f y < m
    · rw [if_pos h3, if_pos (by omega)]
    · rw [if_neg h3, if_neg (by omega)]
/-- What holds at the label. -/
structure FarI (w : World) (g : Nat) (ls : List Nat) (f : Nat) (Ds : List Nat) (W : World) : Prop where
  lt : f < g
  many : Rows8 W w.heap.size 53 (arr64 fun x => ls.count x)
  sums : Rows8 W (w.heap.size + 1) 3 (arrN g fun x => sumTo (fun k => place g k x * ls.count k) f)
  box : Rows8 W (w.heap.size + 1 + 1) 23 #[.slice (some ⟨w.heap.size + 1, 0, none⟩) g g]
  first : Rows8 W (w.heap.size + 1 + 1 + 1) 3 #[.int .i64 (f : Int)]
  below : Below w.heap.size w W
  nodup : Ds.Nodup
  shut : ∀ D ∈ Ds, W.heap[D]? = some (.deferred (some []))
  high : ∀ D ∈ Ds, w.heap.size + 4 ≤ D ∧ D < W.heap.size
def FarQ (g : Nat) (ls : List Nat) (w : World) (e : Ending) (w' : World) : Prop :=
  ∃ b, e = .returned (.slice (some ⟨b, 0, none⟩) g g) ∧ w.heap.size ≤ b ∧ Rows8 w' b 3 (arrN g (farB g ls)) ∧ Below w.heap.size w w'
set_option maxRecDepth 100000 in
set_option maxHeartbeats 8000000 in
theorem Try.far_any (g : Nat) (hm : mayB g = true) (ws : List Int) (hk : KeysOk ws) (a : Option Addr) (n c : Nat) (hn : n = ws.length) (hl : n ≤ 1000) (w : World) (hI : WordsAt w (.slice a n c) ws) :
    Calls Try.prog 35 #[.int .i64 (g : Int), .slice a n c] w (FarQ g (lefts g ws) w) := by
  obtain ⟨hg, hg2⟩ := mayB_le hm
  refine (callsIn_wide (n := 9)).1 ?_
  refine callsIn_of_wp_marks Try.func35 rfl trivial ?_ rfl
  simp only [Try.ntmps35, List.size_toArray, List.length_cons, List.length_nil, Nat.reduceAdd, Nat.reduceSub, Array.replicate_succ, Array.replicate_zero, List.push_toArray, List.append_toArray, List.nil_append, List.cons_append]
  have HI := Lib.hid hI
  have HN := Lib.hid hn
  have HKO := Lib.hid hk
  clear hI hn hk
  obtain ⟨i0, hi, hi0, hi1, hi2⟩ := info_parts Try.infoInt
  have hmk : ∀ W : World, (Instr.makeSlice 23 (.int .i64 (g : Int)) (.int .i64 (g : Int))).run Try.prog W = .ok (.slice (some ⟨W.heap.size, 0, none⟩) g g) (W.alloc (.cells (arrN g fun _ => 0) 3)) := fun W => by
    have h := run_makeSlice (P := Try.prog) (w := W) 23 3 i0 (.int .i64 0) Try.underlying23 hi hi0 .i64 .i64 (g : Int) (g : Int) (by omega) (Int.le_refl _) (by rw [hi1, Int.toNat_natCast]; omega) (by rw [hi2]; omega) (by omega)
    rw [h, Int.toNat_natCast, hi1, arrN_zero]
    congr 3
    simp only [madeCells, Value.cells, Nat.mul_one]
    apply Array.ext (by simp)
    intro i h1 h2
    simp [Nat.mod_one]
  clear hi hi0 hi1 hi2
  gi_wp2_with fail
  refine wpIn_scope_jumps' (rest := ?rest) 0 (fun a' W' => ∃ (f : Nat) (Ds : List Nat) (u7 u13 u14 u15 u16 u17 u18 u19 u20 u21 u22 u23 u24 u25 u26 u27 u28 u29 u30 u31 u45 u46 u47 u48 u49 : Value), a' = { tmps := #[.int .i64 (g : Int), .slice a n c, undef, undef, .slice none 0 0, .pointer (some ⟨w.heap.size, 0, none⟩), undef, u7, .pointer (some ⟨w.heap.size + 1 + 1, 0, none⟩), .pointer (some ⟨w.heap.size + 1 + 1 + 1, 0, none⟩), undef, undef, .slice a n c, u13, u14, u15, u16, u17, u18, u19, u20, u21, u22, u23, u24, u25, u26, u27, u28, u29, u30, u31, undef, undef, undef, undef, undef, undef, undef, undef, undef, undef, undef, undef, undef, u45, u46, u47, u48, u49, undef], defers := marks Ds } ∧ FarI w g (lefts g ws) f Ds W') (fun _ W' => g - (((W'.cell? ⟨w.heap.size + 1 + 1 + 1, 0, none⟩).map intOf).getD 0).toNat) ?hf ?pass ?first
  case hf => rfl
  case first =>
    intro hpass
    have HPASS := Lib.hid hpass
    clear hpass
    gi_wp2_with fail
    rw [← zero64]
    have r0 := Rows8.new w 53 (arr64 fun _ => 0)
    have hB0 : Below w.heap.size w (w.alloc (.cells (arr64 fun _ => 0) 53)) := (Below.refl _ w).alloc (Nat.le_refl _) _
    have hz0 : (w.alloc (.cells (arr64 fun _ => 0) 53)).heap.size = w.heap.size + 1 := by simp
    generalize w.alloc (.cells (arr64 fun _ => 0) 53) = W0 at *
    gi_loopw [14] (fun j wr => ∃ k : Nat, k ≤ n ∧ j = .int .i64 k ∧ Rows8 wr w.heap.size 53 (arr64 fun x => ((lefts g ws).take k).count x) ∧ Below w.heap.size w wr ∧ wr.heap.size = w.heap.size + 1) (fun j _ => n - (intOf j).toNat)
    case atStart => exact ⟨0, Nat.zero_le _, rfl, by simpa using r0, hB0, hz0⟩
    case round =>
      obtain ⟨k, hk, rfl, hR, hB, hz⟩ := hrel
      by_cases hlt : k < n
      · have hkl : k < ws.length := by rw [← HN.out]; exact hlt
        have hkl2 : k < (lefts g ws).length := by unfold lefts; rw [List.length_map]; exact hkl
        have hcn := count_next (lefts g ws) k hkl2
        have hle : (lefts g ws)[k] = (ws[k]).toNat % g := by simp [lefts]
        obtain ⟨b, off, rfl, hb, hc⟩ := wordsAt_get (RowAt.below HI.out hB) k hkl
        have hkr := HKO.out _ (List.getElem_mem hkl)
        rw [List.getElem?_eq_getElem hkl, Option.getD_some] at hc
        rw [hle] at hcn
        obtain ⟨h, hh⟩ : ∃ h : Nat, ws[k] = (h : Int) := ⟨(ws[k]).toNat, by omega⟩
        rw [hh] at hc hkr hcn
        rw [Int.toNat_natCast] at hcn
        have hh2 : h < 18446744073709551616 := by omega
        have HL := Lib.hid (Try.left_any g h hg hg2 hh2 wr)
        have hlg : h % g < g := Nat.mod_lt _ hg
        generalize h % g = l at *
        have hl64 : l < 64 := by omega
        have hl64i : (l : Int) < 64 := by omega
        have hc1 := hR.cell l
        rw [arr64_get _ l hl64] at hc1
        have hf1 := hR.frozen l
        have hct : ((lefts g ws).take k).count l ≤ k := Nat.le_trans List.count_le_length (by rw [List.length_take]; omega)
        have hs1 := hR.set64 l (((lefts g ws).take k).count l + 1)
        rw [hcn] at hs1
        have HS1 := Lib.hid hs1
        have hki : (k : Int) < (n : Int) := by omega
        generalize ((lefts g ws).take k).count l = ct at *
        have hB2 := Lib.hid (hB.setCell (p := ⟨w.heap.size, l, none⟩) (Nat.le_refl _) (.int .i64 ((ct + 1 : Nat) : Int)))
        have hz2 : Hid ((wr.setCell ⟨w.heap.size, l, none⟩ (.int .i64 ((ct + 1 : Nat) : Int))).heap.size = w.heap.size + 1) := Lib.hid (by simpa [World.setCell] using hz)
        clear hR hB hs1 hcn hle hh hkr hkl hkl2 hz0 hB0 r0
        gi_wp2_with fail
        refine ⟨trivial, ?_⟩
        refine (callsIn_wide.2 HL.out).mono ?_
        rintro e w2 ⟨rfl, rfl⟩
        gi_wp2_with fail
        exact ⟨⟨k + 1, by omega, by go_num, HS1.out, hB2.out, hz2.out⟩, by simp [intOf]; omega⟩
      · obtain rfl : k = n := by omega
        have htk : (lefts g ws).take k = lefts g ws := List.take_of_length_le (by unfold lefts; rw [List.length_map, HN.out]; exact Nat.le_refl _)
        rw [htk] at hR
        have R0 := Lib.hid hR
        have HB := Lib.hid hB
        have hms := hmk wr
        rw [hz] at hms
        clear hR hB htk r0 hB0 hz0
        gi_wp2_with fail
        refine wpIn_label ?_
        rename_i hK9
        have hB4 : Below w.heap.size w (((wr.alloc (.cells (arrN g fun _ => 0) 3)).alloc (.cells #[.slice (some ⟨w.heap.size + 1, 0, none⟩) g g] 23)).alloc (.cells #[.int .i64 0] 3)) := ((HB.out.alloc (by omega) _).alloc (by simp; omega) _).alloc (by simp; omega) _
        have r0 := ((R0.out.alloc (.cells (arrN g fun _ => 0) 3)).alloc (.cells #[.slice (some ⟨w.heap.size + 1, 0, none⟩) g g] 23)).alloc (.cells #[.int .i64 0] 3)
        have r1 := ((Rows8.new wr 3 (arrN g fun _ => 0)).alloc (.cells #[.slice (some ⟨w.heap.size + 1, 0, none⟩) g g] 23)).alloc (.cells #[.int .i64 0] 3)
        have r2 := (Rows8.new (wr.alloc (.cells (arrN g fun _ => 0) 3)) 23 #[.slice (some ⟨w.heap.size + 1, 0, none⟩) g g]).alloc (.cells #[.int .i64 0] 3)
        have r3 := Rows8.new ((wr.alloc (.cells (arrN g fun _ => 0) 3)).alloc (.cells #[.slice (some ⟨w.heap.size + 1, 0, none⟩) g g] 23)) 3 #[.int .i64 0]
        rw [World.size_alloc, World.size_alloc, hz] at r3
        rw [World.size_alloc, hz] at r2
        rw [hz] at r1
        refine hK9 _ _ (HPASS.out _ _ ⟨0, [], _, _, _, _, _, _, _, _, _, _, _, _, _, _, _, _, _, _, _, _, _, _, _, _, _, rfl, ⟨hg, r0, r1, r2, r3, hB4, List.nodup_nil, (fun D hD => by simp at hD), (fun D hD => by simp at hD)⟩⟩)
  case pass =>
    rintro a1 W ⟨f, Ds, u7, u13, u14, u15, u16, u17, u18, u19, u20, u21, u22, u23, u24, u25, u26, u27, u28, u29, u30, u31, u45, u46, u47, u48, u49, rfl, hF⟩
    obtain ⟨hfg, hmany, hsums, hbox, hfirst, hbelow, hnd, hshut, hhigh⟩ := hF
    have hcf : W.cell? ⟨w.heap.size + 1 + 1 + 1, 0, none⟩ = some (.int .i64 (f : Int)) := hfirst.cell 0
    have hzf := hfirst.lt
    have HMU : Hid ((((W.cell? ⟨w.heap.size + 1 + 1 + 1, 0, none⟩).map intOf).getD 0).toNat = f) := Lib.hid (by rw [hcf]; simp [intOf])
    have HRo := fun W' => Lib.hid (Try.row_any (g : Int) (f : Int) W')
    have hf64 : f < 64 := by omega
    gi_wp2_with fail
    refine ⟨trivial, ?_⟩
    refine (callsIn_wide.2 (HRo _).out).mono ?_
    rintro e W1 ⟨rfl, hW1⟩
    gi_wp2_with fail
    rw [← hW1]
    have hz1 : W1.heap.size = W.heap.size + 2 := by rw [hW1]; simp
    have hBW : Below W.heap.size W W1 := by rw [hW1]; exact ((Below.refl _ W).alloc (Nat.le_refl _) _).alloc (by simp) _
    have r2 : Rows8 W1 W.heap.size 3 #[.int .i64 (g : Int)] := by rw [hW1]; exact (Rows8.new _ _ _).alloc _
    have r3 : Rows8 W1 (W.heap.size + 1) 22 #[.int .u64 (f : Int)] := by
      rw [hW1]
      have h := Rows8.new (W.alloc (.cells #[.int .i64 (g : Int)] 3)) 22 #[.int .u64 (f : Int)]
      rwa [World.size_alloc] at h
    clear hW1
    have hfm : f % g = f := Nat.mod_eq_of_lt hfg
    have HTL := Try.row1_tells 8 (by decide) g f hg hg2 (by omega) W.heap.size (W.heap.size + 1) W1 (Kx (w.heap.size + 1)) (Kx.refl _) kx_t (fun A B k r => k.same _ _ r rfl (by omega)) r2 r3
    rw [hfm] at HTL
    have HTL := Lib.hid HTL
    obtain ⟨base, hbase⟩ : ∃ base : Nat → Nat, base = fun x => sumTo (fun k => place g k x * (lefts g ws).count k) f := ⟨_, rfl⟩
    have hple := fun m => part_le (g := g) (f := f) (m := m) (lefts g ws) hg2 hfg (by unfold lefts; rw [List.length_map, ← HN.out]; exact hl)
    rw [← hbase] at hple hsums
    have hctle : (lefts g ws).count f ≤ 1000 := Nat.le_trans List.count_le_length (by unfold lefts; rw [List.length_map, ← HN.out]; exact hl)
    have HBASE := Lib.hid hbase
    clear hbase
    have hfst : arrN g base = arrN g (partF g f ([] : List (Nat × Nat)).length ((lefts g ws).count f) base) := arrN_congr fun i _ => by simp [partF]
    refine range_tellsD rfl (by decide) (gf := 42) (lb := #[.pointer (some ⟨W.heap.size, 0, none⟩), .pointer (some ⟨W.heap.size + 1, 0, none⟩)]) rfl trivial (fun _ _ => by kernel_rfl) HTL.out kx_t kx_b (Below.refl _ _) (fun _ => rfl)
      (fun pre W' => Rows8 W' w.heap.size 53 (arr64 fun x => (lefts g ws).count x) ∧ Rows8 W' (w.heap.size + 1) 3 (arrN g (partF g f pre.length ((lefts g ws).count f) base)) ∧ Rows8 W' (w.heap.size + 1 + 1) 23 #[.slice (some ⟨w.heap.size + 1, 0, none⟩) g g] ∧ Rows8 W' (w.heap.size + 1 + 1 + 1) 3 #[.int .i64 (f : Int)] ∧ Below w.heap.size w W' ∧ (∀ D ∈ Ds, W'.heap[D]? = some (.deferred (some []))) ∧ W.heap.size ≤ W'.heap.size)
      (fun _ _ _ => False)
      (OwnFrom.and (Own.from (Rows8.own _ _ _) _) (OwnFrom.and (Own.from (Rows8.own _ _ _) _) (OwnFrom.and (Own.from (Rows8.own _ _ _) _) (OwnFrom.and (Own.from (Rows8.own _ _ _) _) (OwnFrom.and (ownFrom_below (Nat.le_refl _) (by have := hbelow.size; omega)) (OwnFrom.and (fun s X Y row hs hg hr D hD => by
        have h := hs D hD
        exact (hg.block D (Array.getElem?_eq_some_iff.1 h).1 (fun e => by have h1 := (hr D e.symm).1; have h2 := (hhigh D hD).2; omega)).trans h) (fun s X Y row hs hg hr => Nat.le_trans hs hg.size)))))))
      (fun _ _ _ _ _ hs _ _ => hs)
      (fun s X Y hs hXY => ⟨hs.1.below hXY hs.1.lt, hs.2.1.below hXY hs.2.1.lt, hs.2.2.1.below hXY hs.2.2.1.lt, hs.2.2.2.1.below hXY hs.2.2.2.1.lt, hs.2.2.2.2.1.trans (hXY.mono hs.2.2.2.2.1.size), fun D hD => (hXY.block D (Array.getElem?_eq_some_iff.1 (hs.2.2.2.2.2.1 D hD)).1).trans (hs.2.2.2.2.2.1 D hD), Nat.le_trans hs.2.2.2.2.2.2 hXY.size⟩)
      (fun _ _ _ _ hs _ => hs)
      ⟨hmany.below hBW hmany.lt, by rw [← hfst]; exact hsums.below hBW hsums.lt, hbox.below hBW hbox.lt, hfirst.below hBW hfirst.lt, hbelow.trans (hBW.mono hbelow.size), fun D hD => (hBW.block D (hhigh D hD).2).trans (hshut D hD), by omega⟩
      (fun x a' W' => a' = { tmps := #[.int .i64 (g : Int), .slice a n c, undef, undef, .slice none 0 0, .pointer (some ⟨w.heap.size, 0, none⟩), undef, u7, .pointer (some ⟨w.heap.size + 1 + 1, 0, none⟩), .pointer (some ⟨w.heap.size + 1 + 1 + 1, 0, none⟩), .int .i64 (x.1 : Int), .int .i64 (x.2 : Int), .slice a n c, u13, u14, u15, u16, u17, u18, u19, u20, u21, u22, u23, u24, u25, u26, u27, .int .i64 (g : Int), .int .i64 (f : Int), .int .u64 (f : Int), .func (.func 42) #[] #[.pointer (some ⟨W.heap.size, 0, none⟩), .pointer (some ⟨W.heap.size + 1, 0, none⟩)], .int .i64 (x.1 : Int), .int .i64 (x.2 : Int), undef, undef, undef, undef, undef, undef, undef, undef, undef, undef, undef, u45, u46, u47, u48, u49, undef], defers := [] })
      (fun x a' s X Y row hs hg hr => hs) ?assign ?body ?done ?stop
    case assign =>
      rintro l2 pre ⟨p1, p2⟩ W' K hI hK
      unfold encQ
      gi_wp2_with fail
      exact hK _ _ (keepsFrom_below (Below.refl _ _)) (Kx.refl _ _) hI rfl
    case body =>
      rintro l2 pre x a' W' ⟨i0, i1, i2, i3, iB, iD, iz⟩ rfl hok
      obtain ⟨hlt, rfl⟩ := pre_next hok
      have hap : Hid ((pre ++ [(pre.length, rowAt g f pre.length)]).length = pre.length + 1) := Lib.hid (by simp)
      have hxl := rowAt_lt (g := g) hg f pre.length
      have hps := fun y hy => part_step (base := base) (c := (lefts g ws).count f) hm hfg hlt y hy
      have hsl := hple pre.length (rowAt g f pre.length)
      have c0 : W'.cell? ⟨w.heap.size, f, none⟩ = some (.int .i64 ((lefts g ws).count f : Int)) := by rw [i0.cell f, arr64_get _ f hf64]
      have c1 : W'.cell? ⟨w.heap.size + 1, rowAt g f pre.length, none⟩ = some (.int .i64 (partF g f pre.length ((lefts g ws).count f) base (rowAt g f pre.length) : Int)) := by rw [i1.cell _, arrN_get _ _ _ hxl]
      have c2 : W'.cell? ⟨w.heap.size + 1 + 1, 0, none⟩ = some (.slice (some ⟨w.heap.size + 1, 0, none⟩) g g) := i2.cell 0
      have c3 : W'.cell? ⟨w.heap.size + 1 + 1 + 1, 0, none⟩ = some (.int .i64 (f : Int)) := i3.cell 0
      have f1 := i1.frozen (rowAt g f pre.length)
      have hset := i1.setN (rowAt g f pre.length) (partF g f pre.length ((lefts g ws).count f) base (rowAt g f pre.length) + pre.length * (lefts g ws).count f)
      rw [arrN_congr hps] at hset
      have HSET := Lib.hid hset
      generalize hcte : (lefts g ws).count f = ct at *
      have HCT := Lib.hid hcte
      clear hcte
      generalize hse : partF g f pre.length ct base (rowAt g f pre.length) = s at *
      generalize rowAt g f pre.length = x at *
      generalize hme : pre.length = m at *
      have hml : m ≤ 64 := by omega
      have hmc : m * ct ≤ 64000 := Nat.mul_le_mul (show m ≤ 64 by omega) hctle
      have hmI : (m : Int) * (ct : Int) = ((m * ct : Nat) : Int) := by push_cast; rfl
      have hw1 : IntKind.i64.wrap ((m : Int) * (ct : Int)) = ((m * ct : Nat) : Int) := by rw [hmI]; exact IntWalk.i64_in _ (by omega)
      have hw2 : IntKind.i64.wrap ((s : Int) + ((m * ct : Nat) : Int)) = ((s + m * ct : Nat) : Int) := by rw [show (s : Int) + ((m * ct : Nat) : Int) = ((s + m * ct : Nat) : Int) by push_cast; rfl]; exact IntWalk.i64_in _ (by omega)
      have hxI : (x : Int) < (g : Int) := by omega
      have hfI : (f : Int) < 64 := by omega
      have I0 := Lib.hid i0
      have I2 := Lib.hid i2
      have I3 := Lib.hid i3
      have IB := Lib.hid iB
      have ID := Lib.hid iD
      have IZ := Lib.hid iz
      have HPS := Lib.hid hps
      clear hset hps i0 i1 i2 i3 iB iD iz hok hmI hlt hple
      generalize hpr : m * ct = pr at *
      gi_wp2_with fail
      refine wpIn_region_held (S := fun W9 => W9.cell? ⟨w.heap.size, f, none⟩ = some (.int .i64 (ct : Int)) ∧ W9.cell? ⟨w.heap.size + 1 + 1, 0, none⟩ = some (.slice (some ⟨w.heap.size + 1, 0, none⟩) g g) ∧ W9.cell? ⟨w.heap.size + 1 + 1 + 1, 0, none⟩ = some (.int .i64 (f : Int))) (free2_round l2) (by rintro ⟨_, _, h⟩; exact h) (by kernel_rfl) (by kernel_rfl) ⟨c0, c2, c3⟩ (fun hHeld => ?_)
      refine wpAnyH_take (i := 0) (oi := { dst := some 34, op := Go.Op.load 23 (Go.Operand.tmp 8), type := 23, pos := "row.go:64", after := #[], guard := none }) (v := .slice (some ⟨w.heap.size + 1, 0, none⟩) g g) rfl (by kernel_rfl) (by kernel_rfl) (by kernel_rfl) (fun _ _ _ h => h) (Or.inl ⟨by rfl, ?_⟩) (by assumption) ?_
      · intro W9 hS9
        obtain ⟨q0, q2, q3⟩ := hS9
        go_simp
      try simp only [Act.put, List.setIfInBounds_toArray, List.set_cons_zero, List.set_cons_succ]
      refine wpAnyH_take (i := 1) (oi := { dst := some 35, op := Go.Op.move (Go.Operand.tmp 11), type := 3, pos := "row.go:64", after := #[], guard := none }) (v := .int .i64 (x : Int)) rfl (by kernel_rfl) (by kernel_rfl) (by kernel_rfl) (fun _ _ _ h => h) (Or.inl ⟨by rfl, ?_⟩) (by assumption) ?_
      · intro W9 hS9
        obtain ⟨q0, q2, q3⟩ := hS9
        go_simp
      try simp only [Act.put, List.setIfInBounds_toArray, List.set_cons_zero, List.set_cons_succ]
      refine wpAnyH_take (i := 2) (oi := { dst := some 36, op := Go.Op.indexAddr 23 (Go.Operand.tmp 34) (Go.Operand.tmp 35), type := 0, pos := "row.go:64", after := #[{ on := 0, ground := Go.Ground.data }, { on := 1, ground := Go.Ground.data }], guard := none }) (v := .pointer (some ⟨w.heap.size + 1, x, none⟩)) rfl (by kernel_rfl) (by kernel_rfl) (by kernel_rfl) (fun _ _ _ h => h) (Or.inl ⟨by rfl, ?_⟩) (by assumption) ?_
      · intro W9 hS9
        obtain ⟨q0, q2, q3⟩ := hS9
        go_simp
      try simp only [Act.put, List.setIfInBounds_toArray, List.set_cons_zero, List.set_cons_succ]
      refine wpAnyH_take (i := 4) (oi := { dst := some 38, op := Go.Op.move (Go.Operand.tmp 10), type := 3, pos := "row.go:64", after := #[], guard := none }) (v := .int .i64 (m : Int)) rfl (by kernel_rfl) (by kernel_rfl) (by kernel_rfl) (fun _ _ _ h => h) (Or.inl ⟨by rfl, ?_⟩) (by assumption) ?_
      · intro W9 hS9
        obtain ⟨q0, q2, q3⟩ := hS9
        go_simp
      try simp only [Act.put, List.setIfInBounds_toArray, List.set_cons_zero, List.set_cons_succ]
      refine wpAnyH_take (i := 5) (oi := { dst := some 39, op := Go.Op.load 3 (Go.Operand.tmp 9), type := 3, pos := "row.go:64", after := #[], guard := none }) (v := .int .i64 (f : Int)) rfl (by kernel_rfl) (by kernel_rfl) (by kernel_rfl) (fun _ _ _ h => h) (Or.inl ⟨by rfl, ?_⟩) (by assumption) ?_
      · intro W9 hS9
        obtain ⟨q0, q2, q3⟩ := hS9
        go_simp
      try simp only [Act.put, List.setIfInBounds_toArray, List.set_cons_zero, List.set_cons_succ]
      refine wpAnyH_take (i := 6) (oi := { dst := some 40, op := Go.Op.indexAddr 53 (Go.Operand.tmp 5) (Go.Operand.tmp 39), type := 0, pos := "row.go:64", after := #[{ on := 5, ground := Go.Ground.data }], guard := none }) (v := .pointer (some ⟨w.heap.size, f, none⟩)) rfl (by kernel_rfl) (by kernel_rfl) (by kernel_rfl) (fun _ _ _ h => h) (Or.inl ⟨by rfl, ?_⟩) (by assumption) ?_
      · intro W9 hS9
        obtain ⟨q0, q2, q3⟩ := hS9
        go_simp
      try simp only [Act.put, List.setIfInBounds_toArray, List.set_cons_zero, List.set_cons_succ]
      refine wpAnyH_take (i := 7) (oi := { dst := some 41, op := Go.Op.load 3 (Go.Operand.tmp 40), type := 3, pos := "row.go:64", after := #[{ on := 6, ground := Go.Ground.data }], guard := none }) (v := .int .i64 (ct : Int)) rfl (by kernel_rfl) (by kernel_rfl) (by kernel_rfl) (fun _ _ _ h => h) (Or.inl ⟨by rfl, ?_⟩) (by assumption) ?_
      · intro W9 hS9
        obtain ⟨q0, q2, q3⟩ := hS9
        go_simp
      try simp only [Act.put, List.setIfInBounds_toArray, List.set_cons_zero, List.set_cons_succ]
      refine wpAnyH_take (i := 8) (oi := { dst := some 42, op := Go.Op.binOp Go.BinOp.mul 3 (Go.Operand.tmp 38) (Go.Operand.tmp 41) 3, type := 3, pos := "row.go:64", after := #[{ on := 4, ground := Go.Ground.data }, { on := 7, ground := Go.Ground.data }], guard := none }) (v := .int .i64 (pr : Int)) rfl (by kernel_rfl) (by kernel_rfl) (by kernel_rfl) (fun _ _ _ h => h) (Or.inl ⟨by rfl, ?_⟩) (by assumption) ?_
      · intro W9 hS9
        obtain ⟨q0, q2, q3⟩ := hS9
        go_simp
      try simp only [Act.put, List.setIfInBounds_toArray, List.set_cons_zero, List.set_cons_succ]
      refine wpAnyH_ready (rs := [3]) (by kernel_rfl) (by simp) ?_
      refine AllReadyH.cons (o := { dst := some 37, op := Go.Op.load 3 (Go.Operand.tmp 36), type := 3, pos := "row.go:64", after := #[{ on := 2, ground := Go.Ground.data }], guard := none }) rfl (fun K hK => ?_) AllReadyH.nil
      refine step_value rfl (.int .i64 (s : Int)) (w' := W'.drew) (by go_simp) ?_
      refine hK.out _ _ hHeld (fun _ => ?_)
      clear hK K
      try simp only [Act.put, List.setIfInBounds_toArray, List.set_cons_zero, List.set_cons_succ]
      refine wpAnyH_take (i := 9) (oi := { dst := some 43, op := Go.Op.binOp Go.BinOp.add 3 (Go.Operand.tmp 37) (Go.Operand.tmp 42) 3, type := 3, pos := "row.go:64", after := #[{ on := 3, ground := Go.Ground.data }, { on := 8, ground := Go.Ground.data }], guard := none }) (v := .int .i64 ((s + pr : Nat) : Int)) rfl (by kernel_rfl) (by kernel_rfl) (by kernel_rfl) (fun _ _ _ h => h) (Or.inl ⟨by rfl, ?_⟩) (by assumption) ?_
      · intro W9 hS9
        obtain ⟨q0, q2, q3⟩ := hS9
        go_simp
      try simp only [Act.put, List.setIfInBounds_toArray, List.set_cons_zero, List.set_cons_succ]
      refine wpAnyH_take (i := 10) (oi := { dst := some 44, op := Go.Op.indexAddr 23 (Go.Operand.tmp 34) (Go.Operand.tmp 35), type := 0, pos := "row.go:64", after := #[{ on := 0, ground := Go.Ground.data }, { on := 1, ground := Go.Ground.data }, { on := 0, ground := Go.Ground.phase }, { on := 1, ground := Go.Ground.phase }, { on := 2, ground := Go.Ground.phase }, { on := 3, ground := Go.Ground.phase }, { on := 4, ground := Go.Ground.phase }, { on := 5, ground := Go.Ground.phase }, { on := 6, ground := Go.Ground.phase }, { on := 7, ground := Go.Ground.phase }, { on := 8, ground := Go.Ground.phase }, { on := 9, ground := Go.Ground.phase }], guard := none }) (v := .pointer (some ⟨w.heap.size + 1, x, none⟩)) rfl (by kernel_rfl) (by kernel_rfl) (by kernel_rfl) (fun _ _ _ h => h) (Or.inl ⟨by rfl, ?_⟩) (by assumption) ?_
      · intro W9 hS9
        obtain ⟨q0, q2, q3⟩ := hS9
        go_simp
      try simp only [Act.put, List.setIfInBounds_toArray, List.set_cons_zero, List.set_cons_succ]
      refine wpAnyH_ready (rs := [11]) (by kernel_rfl) (by simp) ?_
      refine AllReadyH.cons (o := { dst := none, op := Go.Op.store 3 (Go.Operand.tmp 44) (Go.Operand.tmp 43), type := 0, pos := "row.go:64", after := #[{ on := 10, ground := Go.Ground.data }, { on := 9, ground := Go.Ground.data }, { on := 0, ground := Go.Ground.phase }, { on := 1, ground := Go.Ground.phase }, { on := 2, ground := Go.Ground.phase }, { on := 3, ground := Go.Ground.phase }, { on := 4, ground := Go.Ground.phase }, { on := 5, ground := Go.Ground.phase }, { on := 6, ground := Go.Ground.phase }, { on := 7, ground := Go.Ground.phase }, { on := 8, ground := Go.Ground.phase }, { on := 9, ground := Go.Ground.phase }], guard := none }) rfl (fun K hK => ?_) AllReadyH.nil
      refine step_skip rfl (w' := W'.drew.setCell ⟨w.heap.size + 1, x, none⟩ (.int .i64 ((s + pr : Nat) : Int))) (by go_simp) ?_
      have e0 := I0.out.setOther (a := ⟨w.heap.size + 1, x, none⟩) (by simp) (.int .i64 ((s + pr : Nat) : Int))
      have e2 := I2.out.setOther (a := ⟨w.heap.size + 1, x, none⟩) (by simp) (.int .i64 ((s + pr : Nat) : Int))
      have e3 := I3.out.setOther (a := ⟨w.heap.size + 1, x, none⟩) (by show w.heap.size + 1 ≠ w.heap.size + 1 + 1 + 1; omega) (.int .i64 ((s + pr : Nat) : Int))
      refine hK.out _ _ ⟨by rw [show (W'.drew.setCell ⟨w.heap.size + 1, x, none⟩ (.int .i64 ((s + pr : Nat) : Int))).cell? ⟨w.heap.size, f, none⟩ = _ from e0.cell f, arr64_get _ f hf64, HCT.out], e2.cell 0, e3.cell 0⟩ (fun _ => ?_)
      clear hK K
      try simp only [Act.put]
      refine wpAnyH_done (by kernel_rfl) ?_ _
      refine ⟨keepsFrom_trans' (Y := W'.drew) ⟨Nat.le_refl _, fun _ _ _ h _ => h⟩ ((KeepsOthers.setCell _ _ _).from _), Kx.trans (B := W'.drew) ⟨Nat.le_refl _, fun _ _ h _ _ => h⟩ (Kx.set _ _ _ _), e0, ?_, e2, e3, IB.out.drew.setCell (p := ⟨w.heap.size + 1, x, none⟩) (by simp) _, ?_, ?_⟩
      · rw [hap.out]
        exact HSET.out
      · intro D hD
        exact (Below.heap_setCell _ _ _ _ (by have := (hhigh D hD).1; show D ≠ w.heap.size + 1; omega)).trans (ID.out D hD)
      · simpa [World.setCell] using IZ.out
    case done =>
      rintro D ys W' hD hys ⟨i0, i1, i2, i3, iB, iD, iz⟩ hK
      have hyl : ys.length = g := by rw [hys, rowL_len]
      have hnext : arrN g (partF g f ys.length ((lefts g ws).count f) base) = arrN g (fun x => sumTo (fun k => place g k x * (lefts g ws).count k) (f + 1)) := arrN_congr fun y hy => by
        rw [hyl, HBASE.out]
        unfold partF
        rw [if_pos (place_spec hm hfg hy).1, sumTo]
      rw [hnext] at i1
      have c3 : W'.cell? ⟨w.heap.size + 1 + 1 + 1, 0, none⟩ = some (.int .i64 (f : Int)) := i3.cell 0
      have f3 := i3.frozen 0
      have hz3 := i3.lt
      have e0 := i0.setOther (a := ⟨w.heap.size + 1 + 1 + 1, 0, none⟩) (by show w.heap.size + 1 + 1 + 1 ≠ w.heap.size; omega) (.int .i64 ((f : Int) + 1))
      have e1 := i1.setOther (a := ⟨w.heap.size + 1 + 1 + 1, 0, none⟩) (by show w.heap.size + 1 + 1 + 1 ≠ w.heap.size + 1; omega) (.int .i64 ((f : Int) + 1))
      have e2 := i2.setOther (a := ⟨w.heap.size + 1 + 1 + 1, 0, none⟩) (by show w.heap.size + 1 + 1 + 1 ≠ w.heap.size + 1 + 1; omega) (.int .i64 ((f : Int) + 1))
      have e3 : Rows8 (W'.setCell ⟨w.heap.size + 1 + 1 + 1, 0, none⟩ (.int .i64 ((f : Int) + 1))) (w.heap.size + 1 + 1 + 1) 3 #[.int .i64 ((f : Int) + 1)] := by
        have h := i3.set 0 (.int .i64 ((f : Int) + 1))
        simp only [List.setIfInBounds_toArray, List.set_cons_zero] at h
        exact h
      have eB := iB.setCell (p := ⟨w.heap.size + 1 + 1 + 1, 0, none⟩) (by show w.heap.size ≤ w.heap.size + 1 + 1 + 1; omega) (.int .i64 ((f : Int) + 1))
      have eK : (W'.setCell ⟨w.heap.size + 1 + 1 + 1, 0, none⟩ (.int .i64 ((f : Int) + 1))).heap[D]? = some (.deferred (some [])) := (Below.heap_setCell _ _ _ _ (by show D ≠ w.heap.size + 1 + 1 + 1; omega)).trans hK
      have eD : ∀ E ∈ D :: Ds, (W'.setCell ⟨w.heap.size + 1 + 1 + 1, 0, none⟩ (.int .i64 ((f : Int) + 1))).heap[E]? = some (.deferred (some [])) := fun E hE => by
        rcases List.mem_cons.1 hE with rfl | hE
        · exact eK
        · exact (Below.heap_setCell _ _ _ _ (by have := (hhigh E hE).1; show E ≠ w.heap.size + 1 + 1 + 1; omega)).trans (iD E hE)
      have ez : (W'.setCell ⟨w.heap.size + 1 + 1 + 1, 0, none⟩ (.int .i64 ((f : Int) + 1))).heap.size = W'.heap.size := by simp [World.setCell]
      have hDW : D < W'.heap.size := (Array.getElem?_eq_some_iff.1 hK).1
      have eH : ∀ E ∈ D :: Ds, w.heap.size + 4 ≤ E ∧ E < (W'.setCell ⟨w.heap.size + 1 + 1 + 1, 0, none⟩ (.int .i64 ((f : Int) + 1))).heap.size := fun E hE => by
        rw [ez]
        rcases List.mem_cons.1 hE with rfl | hE
        · exact ⟨by omega, hDW⟩
        · have := hhigh E hE
          exact ⟨this.1, by omega⟩
      have eN : (D :: Ds).Nodup := List.nodup_cons.2 ⟨fun hE => by have := (hhigh D hE).2; omega, hnd⟩
      have E0 := Lib.hid e0
      have E1 := Lib.hid e1
      have E2 := Lib.hid e2
      have E3 := Lib.hid e3
      have EB := Lib.hid eB
      have ED := Lib.hid eD
      have EH := Lib.hid eH
      have EN := Lib.hid eN
      have c3' := e3.cell 0
      have c2' := e2.cell 0
      simp only [List.getElem?_toArray, List.getElem?_cons_zero] at c3' c2'
      clear e0 e1 e2 e3 eB eK eD eH eN i0 i1 i2 i3 iB iD iz hnext hyl hmany hbox hfirst hbelow hnd hshut hhigh hfst
      by_cases hf1 : f + 1 < g
      · have hfi : (f : Int) + 1 < (g : Int) := by omega
        gi_wp2_with fail
        refine wpIn_goto ?_
        refine ⟨rfl, ⟨f + 1, D :: Ds, _, _, _, _, _, _, _, _, _, _, _, _, _, _, _, _, _, _, _, _, _, _, _, _, _, rfl, ⟨hf1, E0.out, E1.out, E2.out, E3.out, EB.out, EN.out, ED.out, EH.out⟩⟩, ?_⟩
        rw [HMU.out, c3']
        simp [intOf]
        omega
      · have hfi : ¬ (f : Int) + 1 < (g : Int) := by omega
        gi_wp2_with fail
        show LeavesInM _ _ _ _ _ _ (marks (D :: Ds)) .returning _
        refine leaves_marks (D :: Ds) _ EN.out ED.out ?_
        refine ⟨_, results_tmp rfl _ _ _, _, rfl, by omega, ?_, ?_⟩
        · have h := shutAll_rows (D :: Ds) _ EN.out ED.out E1.out
          rw [arrN_congr (h := farB g (lefts g ws)) (fun y hy => by
            rw [show f + 1 = g by omega]
            exact farB_sum g y (lefts g ws) (fun l hl => by
              unfold lefts at hl
              obtain ⟨z, _, rfl⟩ := List.mem_map.1 hl
              exact Nat.mod_lt _ hg))] at h
          exact h
        · exact shutAll_below (D :: Ds) _ EN.out ED.out (fun E hE => by have := (EH.out E hE).1; omega) EB.out
    case stop =>
      rintro D c pre W' _ _ h _
      exact h.elim
end Go.Proofs
