/- Script: keys collected, sorted; Keys. -/
import Derived.Test.YtfboppjedgfacaaZYa
import Derived.Test.YtfboppjedgfacaaZGx
namespace Go.Proofs
set_option maxRecDepth 100000
open Go.RowKit Go.Shelf Go.Deep Go.Maps
attribute [local go_sem] Oper.semAt_some

def exW : TypeId → Bool := fun t => t == 24 || t == 22
theorem Km.of_ke {T : TypeId → Bool} {b : Nat} {A B : World} (p : Ke T A B) : Km T b A B := ⟨p.kq, fun es cl h => p.same b _ h fun cs t fr e => by cases e⟩
set_option maxHeartbeats 4000000 in
theorem Try.appendKeys_any (Bm b n : Nat) (hn : n ≤ 10000) (ks : List Int) (w : World) (hBm : Rows8 w Bm 70 #[.map (some b)]) (hm : SetAt w b n ks) :
    Calls Try.prog 70 #[.slice none 0 0, .func (.func 56) #[] #[.pointer (some ⟨Bm, 0, none⟩)]] w
      fun e w' => Below w.heap.size w w' ∧ ∃ xs v, e = .returned v ∧ xs.Nodup ∧ xs.length ≤ n ∧ (∀ z, z ∈ xs ↔ z ∈ ks) ∧ OwnsWords w.heap.size xs v w' := by
  obtain ⟨i0, hi, hz0, hz1, hz2⟩ := info_parts Try.infoWord
  refine (callsIn_wide (n := 9)).1 ?_
  refine callsIn_of_wp_marks Try.func70 rfl trivial ?_ rfl
  simp only [Try.ntmps70, List.size_toArray, List.length_cons, List.length_nil, Nat.reduceAdd, Nat.reduceSub, Array.replicate_succ, Array.replicate_zero, List.push_toArray, List.append_toArray, List.nil_append, List.cons_append]
  have hbl := hm.lt
  have HBM := Lib.hid hBm
  have HM := Lib.hid hm
  clear hBm hm
  gi_wp2_with fail
  have hBc : Below w.heap.size w (w.alloc (.cells #[.slice none 0 0] 24)) := (Below.refl _ w).alloc (Nat.le_refl _) _
  have br := Rows8.new w 24 #[.slice none 0 0]
  have hz : (w.alloc (.cells #[.slice none 0 0] 24)).heap.size = w.heap.size + 1 := by simp
  generalize w.alloc (.cells #[.slice none 0 0] 24) = W0 at *
  have HTL := Lib.hid (Try.keys1_tells 8 exW Bm b n ks W0 (HBM.out.below hBc HBM.out.lt) (HM.out.below hBc (Nat.le_refl _)))
  refine range_tellsX rfl (by decide) (gf := 56) (lb := #[.pointer (some ⟨Bm, 0, none⟩)]) rfl trivial (fun _ _ => by kernel_rfl) HTL.out km_t (km_b (B := W0.heap.size) (by omega)) (Below.refl _ _) (fun _ => rfl)
    (fun pre W' => (∃ u, Boxed W' w.heap.size 24 u ∧ W'.ownsRow w.heap.size 22 1 u pre.length (wordVals pre) ∧ True) ∧ Below w.heap.size w W')
    (fun _ _ _ => False)
    (OwnFrom.and (Own.from (holdsRow_own w.heap.size w.heap.size 24 22 1 (fun pre => pre.length) (fun pre => wordVals pre) (fun _ _ => True)) _) (ownFrom_below (Nat.le_refl _) (by omega)))
    (fun c s X Y row h hg hr => h)
    ⟨⟨_, br, World.ownsRow_nil _ _ _ _, trivial⟩, hBc⟩
    (fun x a' W' => a' = { tmps := #[.slice none 0 0, .func (.func 56) #[] #[.pointer (some ⟨Bm, 0, none⟩)], .pointer (some ⟨w.heap.size, 0, none⟩), undef, .slice none 0 0, .int .u64 x, .func (.func 56) #[] #[.pointer (some ⟨Bm, 0, none⟩)], .int .u64 x, undef, undef, undef, undef, undef], defers := [] })
    (fun x a' s X Y row hs hg hr => hs) ?assign ?body ?done ?stop
  case assign =>
    rintro l2 pre x W' K ⟨⟨u, hu, hr, _⟩, hB⟩ hK
    unfold encW
    gi_wp2
    exact hK _ _ (keepsFrom_below (Below.refl _ _)) (Km.refl _ _ _) ⟨⟨u, hu, hr, trivial⟩, hB⟩ rfl
  case body =>
    rintro l2 pre x a' W' ⟨⟨u, hu, hr, _⟩, hB⟩ rfl ⟨hlen, _⟩
    have HU := Lib.hid hu
    have HRR := Lib.hid hr
    have HB := Lib.hid hB
    have hc0 : W'.cell? ⟨w.heap.size, 0, none⟩ = some u := hu.cell
    have hf0 := hu.frozen
    have hlt := hu.lt
    have hzb := hB.size
    obtain ⟨au, cu, rfl⟩ : ∃ au cu, u = .slice au pre.length cu := by
      obtain ⟨_, a, cap, h, _⟩ := rowAt_own hr
      exact ⟨a, cap, h⟩
    clear hu hr hB
    gi_wp2_with (gi_at_builtin; refine wpListIn_append_own _ rfl _ _ 24 rfl w.heap.size 22 i0 (.int .u64 0) 1 8 Try.underlying24 hi hz0 hz1 hz2 rfl (by decide) _ _ _ rfl (HRR.out.alloc _) ⟨W'.heap.size, 0, none⟩ 1 1 [.int .u64 x] rfl rfl (cells_new W' _ [.int .u64 x]) (by simp [Value.oneCell']) (by unfold maxLen; omega) (by omega) (by simp; omega) ?_; intro v' w3 hown' hgrow _; obtain ⟨g', cap', rfl⟩ := ownsRow_succ hown'; obtain ⟨hv1, hv2, hr2, hk2, hb2⟩ := HU.out.appended (by decide) HRR.out hzb (Nat.le_refl _) hown' hgrow; have ht2 : Ke exW W' _ := ((Ke.alloc exW W' _).trans (Ke.grown (by decide) (HRR.out.alloc _) hgrow)).trans (Ke.set (a := ⟨w.heap.size, 0, none⟩) hv1 (by decide) (.slice (some ⟨g', 0, none⟩) (pre.length + 1) cap')); have hc3 := hv1.cell; have hf3 := hv1.frozen; have HT2 := Lib.hid ht2; have HV2 := Lib.hid hv2; have HR2 := Lib.hid hr2; have HK2 := Lib.hid hk2; have HB2 := Lib.hid hb2; clear ht2 hv2 hr2 hk2 hb2)
    exact ⟨HK2.out.from _, Km.of_ke HT2.out, ⟨_, HV2.out, by rw [List.length_append, wordVals_snoc]; exact HR2.out, trivial⟩, HB.out.trans HB2.out⟩
  case done =>
    rintro D ys W' hD ⟨hnd, hnl, hmem⟩ ⟨⟨u, hu, hr, _⟩, hB⟩ hK
    have hr' := ownsRow_putObj hr (.deferred none) hK rfl
    have hc := hu.cell
    have HR' := Lib.hid hr'
    have HB := Lib.hid hB
    have HND := Lib.hid hnd
    have HNL := Lib.hid hnl
    have HMM := Lib.hid hmem
    clear hr hu hr' hB hnd hnl hmem
    gi_wp2
    refine ⟨by simp, .inl ⟨_, _, rfl, run_takeDeferred hK, ?_⟩⟩
    exact ⟨_, results_tmp rfl _ _ _, HB.out.trans (belowK_b (w := w) (Nat.le_refl _) _ D _ _ (by omega) hK rfl rfl), ys, u, rfl, HND.out, HNL.out, HMM.out, HR'.out⟩
  case stop =>
    intro D c pre W' hD h _
    exact h.elim
theorem Try.collectKeys_any (Bm b n : Nat) (hn : n ≤ 10000) (ks : List Int) (w : World) (hBm : Rows8 w Bm 70 #[.map (some b)]) (hm : SetAt w b n ks) :
    Calls Try.prog 54 #[.func (.func 56) #[] #[.pointer (some ⟨Bm, 0, none⟩)]] w
      fun e w' => Below w.heap.size w w' ∧ ∃ xs v, e = .returned v ∧ xs.Nodup ∧ xs.length ≤ n ∧ (∀ z, z ∈ xs ↔ z ∈ ks) ∧ OwnsWords w.heap.size xs v w' := by
  have HC := Lib.hid (Try.appendKeys_any Bm b n hn ks w hBm hm)
  clear hBm hm
  go_enter Try.func54, Try.ntmps54
  go_wp2_with fail
  refine HC.out.mono ?_
  rintro e w2 ⟨hB, xs, v, rfl, h1, h4, h2, h3⟩
  have HB := Lib.hid hB
  have H1 := Lib.hid h1
  have H2 := Lib.hid h2
  have H3 := Lib.hid h3
  have H4 := Lib.hid h4
  clear hB h1 h2 h3 h4
  go_wp2_with fail
  go_ret
  exact ⟨HB.out, xs, v, rfl, H1.out, H4.out, H2.out, H3.out⟩
/-- slices.Sort of so many words at most sorts them. -/
def Try.SortOk (m : Nat) : Prop := ∀ (B cap n cp : Nat) (l : List Int), n = l.length → n ≤ m → ∀ w : World, SRow w B cap l.toArray →
  Calls Try.prog 55 #[.slice (some ⟨B, 0, none⟩) n cp] w fun e w' => e = .returned (.tuple #[]) ∧ SRow w' B cap (sortW l).toArray ∧ w.grownBy w' (some B)
theorem Try.sortOk12 : Try.SortOk 12 := fun B cap n cp l hn h12 w hS => Try.sortWords_small B cap n cp l hn h12 w hS
/-- Rising, each once. -/
def Rising (l : List Int) : Prop := l.Pairwise (fun x y => x < y)
theorem rising_eq : ∀ (a b : List Int), Rising a → Rising b → (∀ z, z ∈ a ↔ z ∈ b) → a = b
  | [], [], _, _, _ => rfl
  | [], y :: b, _, _, h => absurd ((h y).2 (by simp)) (by simp)
  | x :: a, [], _, _, h => absurd ((h x).1 (by simp)) (by simp)
  | x :: a, y :: b, ha, hb, h => by
    obtain ⟨ha1, ha2⟩ := List.pairwise_cons.1 ha
    obtain ⟨hb1, hb2⟩ := List.pairwise_cons.1 hb
    have e : x = y := by
      have h1 : x ∈ y :: b := (h x).1 (by simp)
      have h2 : y ∈ x :: a := (h y).2 (by simp)
      rcases List.mem_cons.1 h1 with h1 | h1
      · exact h1
      · rcases List.mem_cons.1 h2 with h2 | h2
        · exact h2.symm
        · have := ha1 y h2
          have := hb1 x h1
          omega
    subst e
    rw [rising_eq a b ha2 hb2 fun z => ?_]
    constructor
    · intro hz
      rcases List.mem_cons.1 ((h z).1 (List.mem_cons_of_mem _ hz)) with h1 | h1
      · have := ha1 z hz; omega
      · exact h1
    · intro hz
      rcases List.mem_cons.1 ((h z).2 (List.mem_cons_of_mem _ hz)) with h1 | h1
      · have := hb1 z hz; omega
      · exact h1
theorem sortW_rising {l : List Int} (h : l.Nodup) : Rising (sortW l) := by
  have h1 := sortW_sorted l
  have h2 : (sortW l).Nodup := (sortW_perm l).nodup_iff.2 h
  exact (List.Pairwise.and h1 h2).imp fun ⟨h3, h4⟩ => by omega
end Go.Proofs

/- Script: Sorted, Keys. -/
namespace Go.Proofs
set_option maxRecDepth 100000
open Go.RowKit Go.Shelf Go.Deep Go.Maps
attribute [local go_sem] Oper.semAt_some

theorem own_cases {n₀ n c : Nat} {a : Option Addr} {ws : List Int} {W : World} (hO : OwnsWords n₀ ws (.slice a n c) W) :
    n = ws.length ∧ ((a = none ∧ n = 0 ∧ c = 0) ∨ ∃ g, a = some ⟨g, 0, none⟩ ∧ n₀ ≤ g ∧ SRow W g c ws.toArray ∧ c ≤ maxLen) := by
  rcases hO.2 with ⟨h, h0⟩ | ⟨g, cap, cur, hv, hg, hh, hl, hm, hs, ht⟩
  · injection h with h1 h2 h3
    exact ⟨by omega, .inl ⟨h1, h2, h3⟩⟩
  · injection hv with hv1 hv2 hv3
    subst hv1 hv2 hv3
    refine ⟨rfl, .inr ⟨g, rfl, hg, ⟨cur, hh, by omega, by simpa using hl, fun i hi => ?_⟩, hm⟩⟩
    have hi : i < ws.length := by simpa using hi
    have h1 : (cur.toList.take (ws.length * 1))[i]? = cur[i]? := by
      rw [List.getElem?_take_of_lt (by omega), Array.getElem?_toList]
    rw [← h1, ht]
    simp [wordVals, hi]
theorem own_of {n₀ g c : Nat} {ws : List Int} {W : World} (h : SRow W g c ws.toArray) (hg : n₀ ≤ g) (hm : c ≤ maxLen) : OwnsWords n₀ ws (.slice (some ⟨g, 0, none⟩) ws.length c) W := by
  obtain ⟨cs, hR, h1, h2, h3⟩ := h
  refine ⟨by simp [wordVals], .inr ⟨g, c, cs, rfl, hg, hR, by simpa using h2, hm, by omega, ?_⟩⟩
  apply List.ext_getElem?
  intro i
  by_cases hi : i < ws.length
  · rw [List.getElem?_take_of_lt (by omega), Array.getElem?_toList, h3 i (by simpa using hi)]
    simp [wordVals, hi]
  · rw [List.getElem?_eq_none (by simp; omega), List.getElem?_eq_none (by simp [wordVals]; omega)]
theorem below_of_grown {n₀ g : Nat} {w w' : World} (h : w.grownBy w' (some g)) (hg : n₀ ≤ g) (hl : n₀ ≤ w.heap.size) : Below n₀ w w' :=
  ⟨h.os, h.tape, h.output, h.size, fun k hk => h.block k (by omega) (fun e => by injection e with e; omega)⟩
theorem Try.sortOwn (m : Nat) (hso : Try.SortOk m) (n₀ : Nat) (a : Option Addr) (n c : Nat) (ws : List Int) (hm : n ≤ m) (w : World) (hl : n₀ ≤ w.heap.size) (hO : OwnsWords n₀ ws (.slice a n c) w) :
    Calls Try.prog 55 #[.slice a n c] w fun e w' => e = .returned (.tuple #[]) ∧ OwnsWords n₀ (sortW ws) (.slice a n c) w' ∧ Below n₀ w w' := by
  obtain ⟨hn, h | ⟨g, rfl, hg, hS, hcm⟩⟩ := own_cases hO
  · obtain ⟨rfl, rfl, rfl⟩ := h
    have : ws = [] := List.eq_nil_of_length_eq_zero hn.symm
    subst this
    refine (Try.sort_none none 0 w).mono ?_
    rintro e w' ⟨rfl, rfl⟩
    exact ⟨rfl, by rw [show sortW [] = [] by simp [sortW]]; exact hO, Below.refl _ _⟩
  · refine (hso g c n c ws hn hm w hS).mono ?_
    rintro e w' ⟨rfl, hS', hG⟩
    refine ⟨rfl, ?_, below_of_grown hG hg hl⟩
    have h := own_of hS' hg hcm
    rw [sortW_length, ← hn] at h
    exact h
def KeysQ (ks : List Int) (w : World) (e : Ending) (w' : World) : Prop := ∃ xs v, e = .returned v ∧ Rising xs ∧ (∀ z, z ∈ xs ↔ z ∈ ks) ∧ OwnsWords w.heap.size xs v w' ∧ Below w.heap.size w w'
theorem Try.Sorted_any (m : Nat) (hso : Try.SortOk m) (Bm b n : Nat) (hn : n ≤ 10000) (hnm : n ≤ m) (ks : List Int) (w : World) (hBm : Rows8 w Bm 70 #[.map (some b)]) (hm : SetAt w b n ks) :
    Calls Try.prog 42 #[.func (.func 56) #[] #[.pointer (some ⟨Bm, 0, none⟩)]] w (KeysQ ks w) := by
  have HC := Lib.hid (Try.collectKeys_any Bm b n hn ks w hBm hm)
  clear hBm hm
  go_enter Try.func42, Try.ntmps42
  go_wp2_with fail
  refine HC.out.mono ?_
  rintro e w2 ⟨hB, xs, v, rfl, h1, h4, h2, h3⟩
  obtain ⟨_, al, cl, rfl, _⟩ := rowAt_own h3
  have HS := Lib.hid (Try.sortOwn m hso w.heap.size al xs.length cl xs (by omega) w2 hB.size h3)
  have HB := Lib.hid hB
  have H1 := Lib.hid h1
  have H2 := Lib.hid h2
  clear hB h1 h2 h3 h4
  go_wp2_with fail
  refine HS.out.mono ?_
  rintro e w3 ⟨rfl, hO, hB3⟩
  have HO := Lib.hid hO
  have HB3 := Lib.hid (HB.out.trans hB3)
  clear hO hB3
  go_wp2_with fail
  go_ret
  exact ⟨sortW xs, _, rfl, sortW_rising H1.out, fun z => sortW_mem.trans (H2.out z), HO.out, HB3.out⟩
/-- The keys of calls that take one. -/
def keyC (c : Cl4) : List Int := if 0 < takesOf c.op then [c.key] else []
def keysL (l : List Cl4) : List Int := l.flatMap keyC
def keysLs (ls : List (List Cl4)) : List Int := ls.flatMap keysL
theorem keysL_snoc {l : List Cl4} {i : Nat} (h : i < l.length) : keysL (l.take (i + 1)) = keysL (l.take i) ++ keyC l[i] := by
  unfold keysL
  rw [List.take_succ_eq_append_getElem h, List.flatMap_append]
  simp
theorem keysLs_snoc {ls : List (List Cl4)} {k : Nat} (h : k < ls.length) : keysLs (ls.take (k + 1)) = keysLs (ls.take k) ++ keysL ls[k] := by
  unfold keysLs
  rw [List.take_succ_eq_append_getElem h, List.flatMap_append]
  simp
theorem countC_append (a b : List (List Cl4)) : countC (a ++ b) = countC a + countC b := by unfold countC; rw [List.map_append, List.sum_append]
theorem countC_take (ls : List (List Cl4)) (k : Nat) : countC (ls.take k) ≤ countC ls := by
  have e := countC_append (ls.take k) (ls.drop k)
  rw [List.take_append_drop k ls] at e
  omega
theorem Try.mapsKeys_any (b : Nat) (w : World) : Calls Try.prog 43 #[.map (some b)] w fun e w' => e = .returned (.func (.func 56) #[] #[.pointer (some ⟨w.heap.size, 0, none⟩)]) ∧ w' = w.alloc (.cells #[.map (some b)] 70) := by
  go_enter Try.func43, Try.ntmps43
  go_wp2
  go_ret
  exact ⟨rfl, rfl⟩
set_option maxHeartbeats 4000000 in
theorem Try.Keys_any (m : Nat) (hso : Try.SortOk m) (hm : m ≤ 10000) (v : Value) (s : Scr) (hs : s.ok) (hw : s.wf) (hcm : countC s.lists ≤ m) (w : World) (h : ScrAt w v s) :
    Calls Try.prog 18 #[v] w (KeysQ (keysLs s.lists) w) := by
  obtain ⟨al, cl, ap, cp, rfl, hl1, hp1⟩ := h
  obtain ⟨hs1, hll, hs3⟩ := hs
  obtain ⟨_, _, _, hwl, _⟩ := hw
  obtain ⟨g, b, sd, ls, ps⟩ := s
  dsimp only at hl1 hp1 hs1 hll hs3 hwl hcm ⊢
  have HB0 := Lib.hid ((Below.refl w.heap.size w).alloc (Nat.le_refl _) (.cells #[.int .i64 g, .int .i64 b, .int .u64 sd, .slice al ls.length cl, .slice ap ps.length cp] 26))
  have H1 := Lib.hid hl1
  have HLL := Lib.hid hll
  have HWL := Lib.hid hwl
  have HCM := Lib.hid hcm
  have hmm := @run_makeMap Try.prog
  clear hl1 hll hwl hp1 hcm
  go_enter Try.func18, Try.ntmps18
  go_wp2_with fail
  have hs0 := (setAt_new (w.alloc (.cells #[.int .i64 g, .int .i64 b, .int .u64 sd, .slice al ls.length cl, .slice ap ps.length cp] 26)))
  rw [World.size_alloc] at hs0
  have HBm : Hid (Below w.heap.size w ((w.alloc (.cells #[.int .i64 g, .int .i64 b, .int .u64 sd, .slice al ls.length cl, .slice ap ps.length cp] 26)).alloc (.map #[] 0))) := Lib.hid (HB0.out.alloc HB0.out.size _)
  have HS0 := Lib.hid hs0
  clear hs0 hmm
  go_loopw [12] (fun j wr => ∃ k n : Nat, k ≤ ls.length ∧ j = .int .i64 k ∧ Hid (SetAt wr (w.heap.size + 1) n (keysLs (ls.take k))) ∧ Hid (n ≤ countC (ls.take k)) ∧ Below w.heap.size w wr) (fun j _ => ls.length - (intOf j).toNat)
  case atStart => exact ⟨0, 0, Nat.zero_le _, rfl, HS0, Lib.hid (Nat.zero_le _), HBm.out⟩
  case round =>
    obtain ⟨k, n, hk, rfl, hS, hN, hB⟩ := hrel
    by_cases hlt : k < ls.length
    · have hki : (k : Int) < (ls.length : Int) := by omega
      obtain ⟨b1, o1, d1, c1, rfl, hb1, p00, hp⟩ := listsAt_get H1.out k hlt
      have p0 := (hB.cell (p := ⟨b1, o1 + k, none⟩) hb1).trans p00
      have hb1' := Nat.lt_of_lt_of_le hb1 hB.size
      clear p00
      have hll1 := HLL.out ls[k] (List.getElem_mem hlt)
      have hwl1 := HWL.out ls[k] (List.getElem_mem hlt)
      have hsn := List.take_succ_eq_append_getElem hlt
      have hcs : countC (ls.take (k + 1)) = countC (ls.take k) + ls[k].length := by rw [hsn, countC_snoc]
      have hks := keysLs_snoc hlt
      have hct := countC_take ls (k + 1)
      generalize ls[k] = l at *
      have HCS := Lib.hid hcs
      have HCT := Lib.hid hct
      have HKS := Lib.hid hks
      have HP := Lib.hid hp
      have HB := Lib.hid hB
      have HW1 := Lib.hid hwl1
      clear hcs hp hB hsn hks hct hwl1
      obtain ⟨w0, rfl⟩ : ∃ x, x = wr := ⟨_, rfl⟩
      have hsz0 := HB.out.size
      go_wp2_with fail
      go_loopw [7, 18] (fun _ j wr => ∃ i n2 : Nat, i ≤ l.length ∧ j = .int .i64 i ∧ Hid (SetAt wr (w.heap.size + 1) n2 (keysLs (ls.take k) ++ keysL (l.take i))) ∧ Hid (n2 ≤ n + i) ∧ Below w.heap.size w wr) (fun _ j _ => l.length - (intOf j).toNat)
      case atStart => exact ⟨0, n, Nat.zero_le _, rfl, Lib.hid (by have h := hS.out; simpa [keysL] using h), Lib.hid (Nat.le_refl _), HB.out⟩
      case round =>
        obtain ⟨i, n2, hi, rfl, hS2, hN2, hBi⟩ := hrel
        have hPi : CallsAt wr (.slice d1 l.length c1) l := RowAt.below HP.out hBi
        by_cases hil : i < l.length
        · have hii : (i : Int) < (l.length : Int) := by omega
          obtain ⟨b2, o2, rfl, hb2, q0, q1, q2, q3⟩ := callsAt_el hPi i hil
          have hwc := HW1.out l[i] (List.getElem_mem hil)
          have hkl := keysL_snoc hil
          generalize l[i] = cc at *
          obtain ⟨op, key, x, y⟩ := cc
          dsimp only at q0 q1 q2 q3
          have hszi := hBi.size
          have hB2 : Below w.heap.size w (wr.alloc (.cells #[.int .i64 op, .int .u64 key, .int .u64 x, .int .u64 y] 55)) := hBi.alloc hszi _
          have hS3 := hS2.out.below ((Below.refl wr.heap.size wr).alloc (Nat.le_refl _) (.cells #[.int .i64 op, .int .u64 key, .int .u64 x, .int .u64 y] 55)) (Nat.le_refl _)
          have HTK := Lib.hid fun W => Try.Takes_any op W
          have HKL := Lib.hid hkl
          by_cases ht : 0 < takesOf op
          · have hn2 : n2 < 1000000000 := by have := hN2.out; have := hN.out; have := HCS.out; have := HCT.out; have := HCM.out; omega
            obtain ⟨w3, hrun, hS4, hg4⟩ := hS3.add key hwc.1 hn2
            have hb3 : Below w.heap.size w w3 := hB2.trans (below_of_grown hg4 (by omega) hB2.size)
            have hkc : keyC ⟨op, key, x, y⟩ = [key] := if_pos ht
            have HS4 := Lib.hid hS4
            have HB3 := Lib.hid hb3
            have HKC := Lib.hid hkc
            clear hS3 hS4 hb3 hkc hB2 hBi hPi hwc hkl hg4
            generalize takesOf op = tk at *
            go_wp2_with (go_at_call 11; refine (HTK.out _).mono ?_; rintro e w' ⟨rfl, rfl⟩)
            go_roundw
            case rel => exact ⟨i + 1, n2 + 1, by omega, by go_num, Lib.hid (by rw [HKL.out, HKC.out, ← List.append_assoc]; exact HS4.out), Lib.hid (by have := hN2.out; omega), HB3.out⟩
            case measure => simp [intOf]; omega
          · have hkc : keyC ⟨op, key, x, y⟩ = [] := if_neg ht
            have HS3 := Lib.hid hS3
            have HB3 := Lib.hid hB2
            have HKC := Lib.hid hkc
            clear hS3 hkc hB2 hBi hPi hwc hkl
            generalize takesOf op = tk at *
            go_wp2_with (go_at_call 11; refine (HTK.out _).mono ?_; rintro e w' ⟨rfl, rfl⟩)
            go_roundw
            case rel => exact ⟨i + 1, n2, by omega, by go_num, Lib.hid (by rw [HKL.out, HKC.out, List.append_nil]; exact HS3.out), Lib.hid (by have := hN2.out; omega), HB3.out⟩
            case measure => simp [intOf]; omega
        · obtain rfl : i = l.length := by omega
          have hii : ¬ (l.length : Int) < (l.length : Int) := by omega
          have HBi := Lib.hid hBi
          clear hBi hPi
          go_wp2_with fail
          go_roundw
          case rel => exact ⟨k + 1, n2, by omega, by go_num, Lib.hid (by have h := hS2.out; rw [List.take_length] at h; rw [HKS.out]; exact h), Lib.hid (by have := hN2.out; have := hN.out; rw [HCS.out]; omega), HBi.out⟩
          case measure => simp [intOf]; omega
    · obtain rfl : k = ls.length := by omega
      have hkk : ¬ (ls.length : Int) < (ls.length : Int) := by omega
      have HMK := Lib.hid fun W => Try.mapsKeys_any (w.heap.size + 1) W
      have hS2 := hS.out
      rw [List.take_length] at hS2
      have hN2 := hN.out
      rw [List.take_length] at hN2
      have hn : n ≤ m := Nat.le_trans hN2 HCM.out
      have HSO := Lib.hid fun W (b : Below wr.heap.size wr W) Bm (hb : Rows8 W Bm 70 #[.map (some (w.heap.size + 1))]) => Try.Sorted_any m hso Bm (w.heap.size + 1) n (by omega) hn (keysLs ls) W hb (hS2.below b (Nat.le_refl _))
      have HB := Lib.hid hB
      clear hS2 hN2 hB
      go_wp2_with (first
        | (go_at_call 43; refine (HMK.out _).mono ?_; rintro e w' ⟨rfl, rfl⟩)
        | (go_at_call 42; refine (HSO.out _ ((Below.refl wr.heap.size wr).alloc (Nat.le_refl _) _) _ (Rows8.new wr _ _)).mono ?_; rintro e w5 ⟨xs, v, rfl, h1, h2, h3, h4⟩))
      go_ret
      have hB6 := HB.out.alloc HB.out.size (.cells #[.map (some (w.heap.size + 1))] 70)
      exact ⟨xs, v, rfl, h1, h2, owns_mono h3 hB6.size, hB6.trans (h4.mono hB6.size)⟩
end Go.Proofs
