/- Script: Cut. -/
import Derived.Test.YtfboppjedgfacaaZYg
import Derived.Test.YtfboppjedgfacaaZSq
namespace Go.Proofs
set_option maxRecDepth 100000
open Go.RowKit Go.Shelf
attribute [local go_sem] Oper.semAt_some

/-- A list, if its goroutine is one of these. -/
def inG (gs : List Int) (i : Nat) (l : List Cl4) : List Cl4 := if (i : Int) ∈ gs then l else []
def cutLs (ls : List (List Cl4)) (gs : List Int) : List (List Cl4) := ls.mapIdx fun i l => inG gs i l
theorem cutLs_length (ls : List (List Cl4)) (gs : List Int) : (cutLs ls gs).length = ls.length := by unfold cutLs; simp
theorem cutLs_get (ls : List (List Cl4)) (gs : List Int) (i : Nat) (h : i < ls.length) : (cutLs ls gs)[i]'(by rw [cutLs_length]; exact h) = inG gs i ls[i] := by unfold cutLs; simp
def cutB (s : Scr) (p : Int) (gs : List Int) : Scr := ⟨s.goers, s.slabs, s.seed, cutLs s.lists gs, s.picks.take p.toNat⟩
/-- The lists of a script that is being cut. -/
def CutAt (H L nl : Nat) (ls : List (List Cl4)) (gs : List Int) (W : World) : Prop :=
  ∃ vs, W.ownsRow H 53 1 (.slice (some ⟨L, 0, none⟩) nl nl) nl vs ∧ ∀ i (h : i < ls.length), ∃ a c, vs[i]? = some (.slice a (inG gs i ls[i]).length c) ∧ OwnsCalls H (inG gs i ls[i]) (.slice a (inG gs i ls[i]).length c) W ∧ ((i : Int) ∉ gs → a = none)
theorem CutAt.lists {H L nl : Nat} {ls : List (List Cl4)} {gs : List Int} {W : World} (p : CutAt H L nl ls gs W) (hn : nl = ls.length) : OwnsL H (cutLs ls gs) (.slice (some ⟨L, 0, none⟩) nl nl) W := by
  obtain ⟨vs, h1, h2⟩ := p
  refine ⟨vs, by rw [cutLs_length, ← hn]; exact h1, fun i hi => ?_⟩
  rw [cutLs_length] at hi
  obtain ⟨a, c, h3, h4, _⟩ := h2 i hi
  rw [cutLs_get ls gs i hi]
  exact ⟨a, c, h3, h4⟩
theorem CutAt.keep {H L nl h : Nat} {ls : List (List Cl4)} {gs : List Int} {A B : World} (p : CutAt H L nl ls gs A) (q : Below h A B) (hh : A.heap.size ≤ h) : CutAt H L nl ls gs B := by
  obtain ⟨vs, h1, h2⟩ := p
  refine ⟨vs, owns_keep h1 q hh, fun i hi => ?_⟩
  obtain ⟨a, c, h3, h4, h5⟩ := h2 i hi
  exact ⟨a, c, h3, owns_keep h4 q hh, h5⟩
theorem inG_snoc (gs : List Int) (z : Int) (i : Nat) (l : List Cl4) (h : (i : Int) = z → (i : Int) ∈ gs) : inG (gs ++ [z]) i l = inG gs i l := by
  unfold inG
  by_cases h1 : (i : Int) ∈ gs
  · rw [if_pos h1, if_pos (List.mem_append_left _ h1)]
  · rw [if_neg h1, if_neg]
    intro h2
    rcases List.mem_append.1 h2 with h2 | h2
    · exact h1 h2
    · exact h1 (h (by simpa using h2))
theorem CutAt.skip {H L nl : Nat} {ls : List (List Cl4)} {gs : List Int} {W : World} (p : CutAt H L nl ls gs W) (z : Int) (h : ∀ i, i < ls.length → (i : Int) = z → (i : Int) ∈ gs) : CutAt H L nl ls (gs ++ [z]) W := by
  obtain ⟨vs, h1, h2⟩ := p
  refine ⟨vs, h1, fun i hi => ?_⟩
  rw [inG_snoc gs z i ls[i] (h i hi)]
  obtain ⟨a, c, h3, h4, h5⟩ := h2 i hi
  exact ⟨a, c, h3, h4, fun hn => h5 fun hm => hn (List.mem_append_left _ hm)⟩
theorem owns_store {W : World} {n₀ n cap g j : Nat} {e : TypeId} {xs : List Value} (o : W.ownsRow n₀ e 1 (.slice (some ⟨g, 0, none⟩) n cap) n xs) (_hj : j < n) (u : Value) : (W.setCell ⟨g, j, none⟩ u).ownsRow n₀ e 1 (.slice (some ⟨g, 0, none⟩) n cap) n (xs.set j u) := by
  rcases o with ⟨hl, ⟨h1, h2⟩ | ⟨g', cap', cur, h1, h2, h3, h4, h5, h6, h7⟩⟩
  · cases h1
  · cases h1
    have r : Rows8 W g e cur := h3
    refine ⟨by rw [List.length_set]; exact hl, .inr ⟨g, cap, _, rfl, h2, r.set j u, h4, h5, by simpa using h6, ?_⟩⟩
    rw [← h7]
    simp [Array.toList_setIfInBounds, List.take_set]
theorem CutAt.row {H L nl : Nat} {ls : List (List Cl4)} {gs : List Int} {W : World} (p : CutAt H L nl ls gs W) (h0 : 0 < nl) : ∃ cs, Rows8 W L 53 cs ∧ H ≤ L := by
  obtain ⟨vs, ⟨hl, ⟨h1, h2⟩ | ⟨g', cap', cur, h1, h2, h3, _⟩⟩, _⟩ := p
  · omega
  · cases h1
    exact ⟨cur, h3, h2⟩
theorem CutAt.put {H L nl j : Nat} {ls : List (List Cl4)} {gs : List Int} {W : World} {a : Option Addr} {c : Nat} (p : CutAt H L nl ls gs W) (hn : nl = ls.length) (hj : j < ls.length) (ho : OwnsCalls H ls[j] (.slice a ls[j].length c) W) :
    CutAt H L nl ls (gs ++ [(j : Int)]) (W.setCell ⟨L, j, none⟩ (.slice a ls[j].length c)) := by
  obtain ⟨cs, hr, _⟩ := p.row (by omega)
  obtain ⟨vs, h1, h2⟩ := p
  have hvl : vs.length = nl := by have := h1.1; omega
  refine ⟨vs.set j (.slice a ls[j].length c), owns_store h1 (by omega) _, fun i hi => ?_⟩
  by_cases hij : i = j
  · subst hij
    have e : inG (gs ++ [(i : Int)]) i ls[i] = ls[i] := by unfold inG; rw [if_pos (by simp)]
    rw [e]
    exact ⟨a, c, by rw [List.getElem?_set_self (by omega)], owns_set (a := ⟨L, i, none⟩) ho hr (by decide) _, fun h => absurd (by simp) h⟩
  · rw [inG_snoc gs j i ls[i] (fun h => absurd (by omega) hij)]
    obtain ⟨a', c', h3, h4, h5⟩ := h2 i hi
    exact ⟨a', c', by rw [List.getElem?_set_ne (by omega)]; exact h3, owns_set (a := ⟨L, j, none⟩) h4 hr (by decide) _, fun hn => h5 fun hm => hn (List.mem_append_left _ hm)⟩
theorem CutAt.get {H L nl j : Nat} {ls : List (List Cl4)} {gs : List Int} {W : World} (p : CutAt H L nl ls gs W) (hn : nl = ls.length) (hj : j < ls.length) :
    ∃ a n c, W.cell? ⟨L, j, none⟩ = some (.slice a n c) ∧ W.frozen? ⟨L, j, none⟩ = false ∧ (a = none ∨ (j : Int) ∈ gs) := by
  obtain ⟨cs, hr, _⟩ := p.row (by omega)
  obtain ⟨vs, h1, h2⟩ := p
  obtain ⟨a, c, h3, _, h5⟩ := h2 j hj
  refine ⟨a, (inG gs j ls[j]).length, c, ?_, hr.frozen j, ?_⟩
  · rcases h1 with ⟨hl, ⟨h6, _⟩ | ⟨g', cap', cur, h6, _, h7, _, _, h8, h9⟩⟩
    · cases h6
    · cases h6
      have r : Rows8 W L 53 cur := h7
      rw [r.cell j, ← h3, ← h9, List.getElem?_take_of_lt (by omega)]
      simp
  · by_cases h : (j : Int) ∈ gs
    · exact .inr h
    · exact .inl (h5 h)
theorem cutAt_nil {H L nl : Nat} {ls : List (List Cl4)} {W : World} (hn : nl = ls.length) (h : W.ownsRow H 53 1 (.slice (some ⟨L, 0, none⟩) nl nl) nl (List.replicate nl (.slice none 0 0))) : CutAt H L nl ls [] W :=
  ⟨_, h, fun i hi => ⟨none, 0, by unfold inG; rw [List.getElem?_replicate, if_pos (by omega)]; simp, by unfold inG; simp only [List.not_mem_nil, if_false]; exact World.ownsRow_nil _ _ _ _, fun _ => rfl⟩⟩
theorem back2 {H : Nat} {w W W' : World} {cs : Array Value} {g b sd : Int} {vl vp : Value} {lss : List (List Cl4)} {cut : List Int} (hl : OwnsL H lss vl W) (hp : OwnsWords H cut vp W) (hb : Below H w W) (r : Rows8 W H 26 cs) (n0 : Rows8 W (H + 1) 26 #[.int .i64 0, .int .i64 0, .int .u64 0, .slice none 0 0, .slice none 0 0])
    (e : W' = (((((W.setCell ⟨H, 4, none⟩ vp).setCell ⟨H + 1, 0, none⟩ (.int .i64 g)).setCell ⟨H + 1, 1, none⟩ (.int .i64 b)).setCell ⟨H + 1, 2, none⟩ (.int .u64 sd)).setCell ⟨H + 1, 3, none⟩ vl).setCell ⟨H + 1, 4, none⟩ vp) :
    Rows8 W' (H + 1) 26 #[.int .i64 g, .int .i64 b, .int .u64 sd, vl, vp] ∧ OwnsL H lss vl W' ∧ OwnsWords H cut vp W' ∧ Below H w W' := by
  have n0 := n0.setOther (a := ⟨H, 4, none⟩) (by show H ≠ H + 1; omega) vp
  have n1 := n0.set 0 (.int .i64 g)
  have n2 := n1.set 1 (.int .i64 b)
  have n3 := n2.set 2 (.int .u64 sd)
  have n4 := n3.set 3 vl
  have n5 := n4.set 4 vp
  simp only [List.setIfInBounds_toArray, List.set_cons_zero, List.set_cons_succ] at n5
  have hL := (((((hl.set (a := ⟨H, 4, none⟩) r vp).set (a := ⟨H + 1, 0, none⟩) n0 (.int .i64 g)).set (a := ⟨H + 1, 1, none⟩) n1 (.int .i64 b)).set (a := ⟨H + 1, 2, none⟩) n2 (.int .u64 sd)).set (a := ⟨H + 1, 3, none⟩) n3 vl).set (a := ⟨H + 1, 4, none⟩) n4 vp
  have hP := owns_set (owns_set (owns_set (owns_set (owns_set (owns_set hp (a := ⟨H, 4, none⟩) r (by decide) vp) (a := ⟨H + 1, 0, none⟩) n0 (by decide) (.int .i64 g)) (a := ⟨H + 1, 1, none⟩) n1 (by decide) (.int .i64 b)) (a := ⟨H + 1, 2, none⟩) n2 (by decide) (.int .u64 sd)) (a := ⟨H + 1, 3, none⟩) n3 (by decide) vl) (a := ⟨H + 1, 4, none⟩) n4 (by decide) vp
  have hB := ((((((hb.setCell (p := ⟨H, 4, none⟩) (Nat.le_refl _) vp).setCell (p := ⟨H + 1, 0, none⟩) (Nat.le_succ _) (.int .i64 g)).setCell (p := ⟨H + 1, 1, none⟩) (Nat.le_succ _) (.int .i64 b)).setCell (p := ⟨H + 1, 2, none⟩) (Nat.le_succ _) (.int .u64 sd)).setCell (p := ⟨H + 1, 3, none⟩) (Nat.le_succ _) vl).setCell (p := ⟨H + 1, 4, none⟩) (Nat.le_succ _) vp)
  subst e
  exact ⟨n5, hL, hP, hB⟩

def CutQ (s : Scr) (w : World) (e : Ending) (w' : World) : Prop := ∃ vl vp, e = .returned (.agg #[.int .i64 s.goers, .int .i64 s.slabs, .int .u64 s.seed, vl, vp]) ∧ OwnsL w.heap.size s.lists vl w' ∧ OwnsWords w.heap.size s.picks vp w' ∧ Below w.heap.size w w'
set_option maxHeartbeats 8000000 in
theorem Try.Cut_any (v : Value) (s : Scr) (p : Int) (ag : Option Addr) (ng cg : Nat) (gs : List Int) (hs : s.ok) (hgn : ng = gs.length) (hg1 : ng ≤ 1000) (w : World) (h : ScrAt w v s) (hls : ∀ l ∈ s.lists, l.length ≤ 100) (hG : IntsAt w (.slice ag ng cg) gs) :
    Calls Try.prog 29 #[v, .int .i64 p, .slice ag ng cg] w (CutQ (cutB s p gs) w) := by
  obtain ⟨i0, hi, hz0, hz1, hz2⟩ := info_parts Try.infoRowC
  obtain ⟨hs1, hs2, hs3⟩ := hs
  obtain ⟨al, cl, ap, cp, rfl, hL, hP⟩ := h
  obtain ⟨g, b, sd, ls, ps⟩ := s
  unfold cutB
  dsimp only at hs1 hs2 hs3 hL hP hls ⊢
  obtain ⟨nl, hnl⟩ : ∃ nl, nl = ls.length := ⟨_, rfl⟩
  obtain ⟨pl, hpl⟩ : ∃ pl, pl = ps.length := ⟨_, rfl⟩
  rw [← hnl] at hL hs1 ⊢
  rw [← hpl] at hP hs3 ⊢
  obtain ⟨q, hq⟩ : ∃ q, q = p.toNat := ⟨_, rfl⟩
  rw [← hq]
  obtain ⟨m, hm⟩ : ∃ m, m = min q pl := ⟨_, rfl⟩
  have hcp : pl ≤ cp := by
    obtain ⟨_, _, _, e, h1, _⟩ := hP
    cases e
    exact hpl ▸ h1
  have hcut : WordsAt w (.slice ap m cp) (ps.take q) := by
    have hP2 : RowAt w (.slice ap pl cp) pl 1 (wordVals ps) := by
      unfold WordsAt at hP
      rw [← hpl] at hP
      exact hP
    have h0 := RowAt.cut hP2 m (by omega)
    have e1 : (wordVals ps).take (m * 1) = wordVals (ps.take q) := by
      unfold wordVals
      rw [List.map_take, Nat.mul_one]
      by_cases h : ps.length ≤ q
      · rw [hm, Nat.min_eq_right (by omega), List.take_of_length_le (by simp; omega), List.take_of_length_le (by simpa using h)]
      · rw [hm, Nat.min_eq_left (by omega)]
    rw [e1] at h0
    unfold WordsAt
    rw [show (ps.take q).length = m by rw [List.length_take]; omega]
    exact h0
  have hcl : m = (ps.take q).length := by rw [List.length_take]; omega
  generalize ps.take q = cut at *
  have g1 : max p 0 = (q : Int) := by omega
  have g2 : (if p < 0 then 0 else p) = (q : Int) := by split <;> omega
  have g3 : (if 0 < p then p else 0) = (q : Int) := by split <;> omega
  have g5 : min (q : Int) (pl : Int) = (m : Int) := by omega
  have g6 : (if (pl : Int) < (q : Int) then (pl : Int) else (q : Int)) = (m : Int) := by split <;> omega
  have g7 : (if (q : Int) < (pl : Int) then (q : Int) else (pl : Int)) = (m : Int) := by split <;> omega
  have g10 : (if pl < q then (pl : Int) else (q : Int)) = (m : Int) := by split <;> omega
  have g11 : (if q < pl then (q : Int) else (pl : Int)) = (m : Int) := by split <;> omega
  have g8 : (m : Int) ≤ (cp : Int) := by omega
  have g9 : (0 : Int) ≤ (m : Int) := by omega
  have hm3 : m ≤ 10000 := by omega
  have HCL := Lib.hid hcl
  have HCW := Lib.hid hcut
  have HL := Lib.hid hL
  have HNL := Lib.hid hnl
  have HG := Lib.hid hG
  have HGN := Lib.hid hgn
  have HLE : Hid (∀ l ∈ ls, l.length ≤ 100) := Lib.hid hls
  clear hcl hcut hL hP hnl hpl hG hgn hls hs2 hq hm hcp
  have hB1 : Below w.heap.size w ((w.alloc (.cells #[.int .i64 g, .int .i64 b, .int .u64 sd, .slice al nl cl, .slice ap pl cp] 26)).alloc (.cells #[.int .i64 0, .int .i64 0, .int .u64 0, .slice none 0 0, .slice none 0 0] 26)) := ((Below.refl w.heap.size w).alloc (Nat.le_refl _) _).alloc (by simp) _
  have hR1 : Rows8 ((w.alloc (.cells #[.int .i64 g, .int .i64 b, .int .u64 sd, .slice al nl cl, .slice ap pl cp] 26)).alloc (.cells #[.int .i64 0, .int .i64 0, .int .u64 0, .slice none 0 0, .slice none 0 0] 26)) w.heap.size 26 #[.int .i64 g, .int .i64 b, .int .u64 sd, .slice al nl cl, .slice ap pl cp] := (Rows8.new w _ _).alloc _
  have hZ1 : Rows8 ((w.alloc (.cells #[.int .i64 g, .int .i64 b, .int .u64 sd, .slice al nl cl, .slice ap pl cp] 26)).alloc (.cells #[.int .i64 0, .int .i64 0, .int .u64 0, .slice none 0 0, .slice none 0 0] 26)) (w.heap.size + 1) 26 #[.int .i64 0, .int .i64 0, .int .u64 0, .slice none 0 0, .slice none 0 0] := rows_new2 w _ _ _
  have HB1 := Lib.hid hB1
  have HR1 := Lib.hid hR1
  have HZ1 := Lib.hid hZ1
  clear hB1 hR1 hZ1
  go_enter Try.func29, Try.ntmps29
  go_wp2_with (at_make; refine wpList_make_full _ rfl _ _ 23 rfl w.heap.size 53 i0 (.slice none 0 0) 1 Try.underlying23 hi hz0 hz1 .i64 .i64 _ _ nl rfl rfl rfl rfl (by rw [hz2]; omega) (by unfold maxLen; omega) (by simp; omega) ?_; intro w0 hown0 hgrow0)
  have b01 := (Below.refl _ ((w.alloc (.cells #[.int .i64 g, .int .i64 b, .int .u64 sd, .slice al nl cl, .slice ap pl cp] 26)).alloc (.cells #[.int .i64 0, .int .i64 0, .int .u64 0, .slice none 0 0, .slice none 0 0] 26))).grown hgrow0 (Nat.le_refl _) (fun j ej => by cases ej)
  have hO : CutAt w.heap.size (w.heap.size + 1 + 1) nl ls [] w0 := cutAt_nil HNL.out (by
    have h := hown0
    rw [Nat.mul_one, show (Value.slice none 0 0).cells = #[.slice none 0 0] from rfl, toList_madeCells_one, World.size_alloc, World.size_alloc] at h
    exact h)
  have HO := Lib.hid hO
  have HB := Lib.hid (HB1.out.trans (b01.mono HB1.out.size))
  have HR := Lib.hid (HR1.out.below b01 HR1.out.lt)
  have HZ := Lib.hid (HZ1.out.below b01 HZ1.out.lt)
  clear hown0 hgrow0 b01 hO HB1 HR1 HZ1
  --T1
  go_loopw [16] (fun jv wr => ∃ k : Nat, k ≤ ng ∧ jv = .int .i64 k ∧ Hid (CutAt w.heap.size (w.heap.size + 1 + 1) nl ls (gs.take k) wr ∧ Rows8 wr w.heap.size 26 #[.int .i64 g, .int .i64 b, .int .u64 sd, .slice al nl cl, .slice ap pl cp] ∧ Rows8 wr (w.heap.size + 1) 26 #[.int .i64 0, .int .i64 0, .int .u64 0, .slice none 0 0, .slice none 0 0] ∧ Below w.heap.size w wr)) (fun jv _ => ng - (intOf jv).toNat)
  case atStart => exact ⟨0, Nat.zero_le _, rfl, Lib.hid ⟨HO.out, HR.out, HZ.out, HB.out⟩⟩
  case round =>
    clear HO HB HR HZ
    obtain ⟨k, hk, rfl, HI⟩ := hrel
    by_cases hlt : k < ng
    · have hkl : k < gs.length := by rw [← HGN.out]; exact hlt
      obtain ⟨bg, off, rfl, hbg, hc⟩ := intsAt_get (RowAt.below HG.out HI.out.2.2.2) k hkl
      rw [List.getElem?_eq_getElem hkl, Option.getD_some] at hc
      have hsn : gs.take (k + 1) = gs.take k ++ [gs[k]] := List.take_succ_eq_append_getElem hkl
      have HSN := Lib.hid hsn
      clear hsn hbg
      generalize gs[k] = z at *
      have hki : (k : Int) < (ng : Int) := by omega
      by_cases hz : z < 0
      · --T2
        have HS : Hid (CutAt w.heap.size (w.heap.size + 1 + 1) nl ls (gs.take (k + 1)) wr) := Lib.hid (by rw [HSN.out]; exact HI.out.1.skip _ (fun i hi e => absurd e (by omega)))
        clear HSN
        go_wp2_with fail
        exact ⟨⟨k + 1, by omega, by go_num, Lib.hid ⟨HS.out, HI.out.2⟩⟩, by simp [intOf]; omega⟩
      · by_cases hzn : (nl : Int) ≤ z
        · --T3
          have HS : Hid (CutAt w.heap.size (w.heap.size + 1 + 1) nl ls (gs.take (k + 1)) wr) := Lib.hid (by rw [HSN.out]; exact HI.out.1.skip _ (fun i hi e => absurd e (by have := HNL.out; omega)))
          clear HSN
          go_wp2_with fail
          exact ⟨⟨k + 1, by omega, by go_num, Lib.hid ⟨HS.out, HI.out.2⟩⟩, by simp [intOf]; omega⟩
        · obtain ⟨j, rfl⟩ : ∃ j : Nat, z = j := ⟨z.toNat, by omega⟩
          have hjn : j < nl := by omega
          have hj : j < ls.length := by rw [← HNL.out]; exact hjn
          have hjn1 : (j : Int) < (nl : Int) := by omega
          obtain ⟨a, n2, c2, hcr, hfr, hor⟩ := HI.out.1.get HNL.out hj
          cases a with
          | some x =>
            have hmem : (j : Int) ∈ gs.take k := hor.resolve_left (by intro h; cases h)
            --T4
            have HS : Hid (CutAt w.heap.size (w.heap.size + 1 + 1) nl ls (gs.take (k + 1)) wr) := Lib.hid (by rw [HSN.out]; exact HI.out.1.skip _ (fun i hi e => by rw [e]; exact hmem))
            clear HSN hmem hor hj
            go_wp2_with fail
            exact ⟨⟨k + 1, by omega, by go_num, Lib.hid ⟨HS.out, HI.out.2⟩⟩, by simp [intOf]; omega⟩
          | none =>
            obtain ⟨bl, ol, d, cd, rfl, hbl, hcl, hcs⟩ := listsAt_get (HL.out.below HI.out.2.2.2) j hj
            have hle := HLE.out ls[j] (List.getElem_mem _)
            have c3 := HI.out.2.1.cell 3
            simp at c3
            have HCC := Lib.hid (Try.cloneCalls_any d ls[j].length cd ls[j] rfl hle wr hcs)
            have hsz := HI.out.2.2.2.size
            have HPUT : Hid (∀ (W : World) (a : Option Addr) (c : Nat), Below wr.heap.size wr W → OwnsCalls wr.heap.size ls[j] (.slice a ls[j].length c) W → CutAt w.heap.size (w.heap.size + 1 + 1) nl ls (gs.take k ++ [(j : Int)]) (W.setCell ⟨w.heap.size + 1 + 1, j, none⟩ (.slice a ls[j].length c))) := Lib.hid fun W a c hb ho => (HI.out.1.keep hb (Nat.le_refl _)).put HNL.out hj (owns_mono ho hsz)
            have HF : Hid (∀ W : World, Below wr.heap.size wr W → ∃ a n c, W.cell? ⟨w.heap.size + 1 + 1, j, none⟩ = some (.slice a n c) ∧ W.frozen? ⟨w.heap.size + 1 + 1, j, none⟩ = false) := Lib.hid fun W hb => by
              obtain ⟨a, n, c, h1, h2, _⟩ := (HI.out.1.keep hb (Nat.le_refl _)).get HNL.out hj
              exact ⟨a, n, c, h1, h2⟩
            clear hor hcs hle hbl hkl
            generalize ls[j] = lj at *
            clear hj
            --T5
            go_wp2_with fail
            --T6
            refine HCC.out.mono ?_
            rintro e w2 ⟨v2, rfl, ho2, hB2⟩
            have ho3 := ho2
            obtain ⟨_, a2, c2', rfl, _⟩ := rowAt_own ho3
            obtain ⟨a4, n4, c4, hcr2, hfr2⟩ := HF.out w2 hB2
            have HQ := Lib.hid (HPUT.out w2 a2 c2' hB2 ho2)
            have r2 := HI.out.2.1.below hB2 HI.out.2.1.lt
            have z2 := HI.out.2.2.1.below hB2 HI.out.2.2.1.lt
            have HW := Lib.hid (And.intro r2 (And.intro z2 (HI.out.2.2.2.trans (hB2.mono hsz))))
            clear ho2 ho3 hB2 r2 z2 HPUT HF HCC hcr hfr c3 hcl
            --T7
            go_wp2_with fail
            refine ⟨⟨k + 1, by omega, by go_num, Lib.hid ⟨by rw [HSN.out]; exact HQ.out, ?_, ?_, ?_⟩⟩, by simp [intOf]; omega⟩
            · exact HW.out.1.setOther (by show w.heap.size + 1 + 1 ≠ w.heap.size; omega) _
            · exact HW.out.2.1.setOther (by show w.heap.size + 1 + 1 ≠ w.heap.size + 1; omega) _
            · exact HW.out.2.2.setCell (by show w.heap.size ≤ w.heap.size + 1 + 1; omega) _
    · obtain rfl : k = ng := by omega
      have htk : gs.take k = gs := List.take_of_length_le (by rw [← HGN.out]; exact Nat.le_refl _)
      rw [htk] at HI
      have c3 := HI.out.2.1.cell 3
      have c4 := HI.out.2.1.cell 4
      have f3 := HI.out.2.1.frozen 3
      simp at c3 c4
      have HRB : Hid (Rows8 (wr.setCell ⟨w.heap.size, 3, none⟩ (.slice (some ⟨w.heap.size + 1 + 1, 0, none⟩) nl nl)) w.heap.size 26 #[.int .i64 g, .int .i64 b, .int .u64 sd, .slice (some ⟨w.heap.size + 1 + 1, 0, none⟩) nl nl, .slice ap pl cp]) := Lib.hid (by
        have h := HI.out.2.1.set 3 (.slice (some ⟨w.heap.size + 1 + 1, 0, none⟩) nl nl)
        simp only [List.setIfInBounds_toArray, List.set_cons_zero, List.set_cons_succ] at h
        exact h)
      have HZB := Lib.hid (HI.out.2.2.1.setOther (a := ⟨w.heap.size, 3, none⟩) (by show w.heap.size ≠ w.heap.size + 1; omega) (.slice (some ⟨w.heap.size + 1 + 1, 0, none⟩) nl nl))
      have HLB := Lib.hid ((HI.out.1.lists HNL.out).set (a := ⟨w.heap.size, 3, none⟩) HI.out.2.1 (.slice (some ⟨w.heap.size + 1 + 1, 0, none⟩) nl nl))
      have HBB := Lib.hid (HI.out.2.2.2.setCell (p := ⟨w.heap.size, 3, none⟩) (Nat.le_refl _) (.slice (some ⟨w.heap.size + 1 + 1, 0, none⟩) nl nl))
      clear htk HI
      --T8
      go_wp2_with fail
      --T9
      generalize wr.setCell ⟨w.heap.size, 3, none⟩ (.slice (some ⟨w.heap.size + 1 + 1, 0, none⟩) nl nl) = wt at *
      refine (Try.cloneWords_any ap m cp cut HCL.out (by omega) wt (RowAt.below HCW.out HBB.out)).mono ?_
      rintro e w3 ⟨v3, rfl, ho3, hB3⟩
      have ho4 := ho3
      obtain ⟨_, ax, cx, rfl, _⟩ := rowAt_own ho4
      rw [← HCL.out] at ho3 ⊢
      have hsz := HBB.out.size
      have r3 := HRB.out.below hB3 HRB.out.lt
      have z3 := HZB.out.below hB3 HZB.out.lt
      have HR3 := Lib.hid r3
      have HZ3 := Lib.hid z3
      have HL3 := Lib.hid (HLB.out.keep hB3 (Nat.le_refl _))
      have HO3 : Hid (OwnsWords w.heap.size cut (.slice ax m cx) w3) := Lib.hid (owns_mono ho3 hsz)
      have HB3 := Lib.hid (HBB.out.trans (hB3.mono hsz))
      obtain ⟨d0, d1, d2, d3, d4⟩ := five8 r3
      obtain ⟨e0, e1, e2, e3, e4⟩ := five8 z3
      have f4 := r3.frozen 4
      obtain ⟨f10, f11, f12, f13, f14⟩ : w3.frozen? ⟨w.heap.size + 1, 0, none⟩ = false ∧ w3.frozen? ⟨w.heap.size + 1, 1, none⟩ = false ∧ w3.frozen? ⟨w.heap.size + 1, 2, none⟩ = false ∧ w3.frozen? ⟨w.heap.size + 1, 3, none⟩ = false ∧ w3.frozen? ⟨w.heap.size + 1, 4, none⟩ = false := ⟨z3.frozen 0, z3.frozen 1, z3.frozen 2, z3.frozen 3, z3.frozen 4⟩
      clear ho3 ho4 hB3 r3 z3 HRB HZB HLB HBB
      --TA
      go_wp2_with fail
      obtain ⟨q1, q2, q3, q4⟩ := back2 HL3.out HO3.out HB3.out HR3.out HZ3.out rfl
      refine bodyPost_ret (results_c rfl _ _ (w.heap.size + 1) 26 _ (0, 0) _ rfl q1 Try.underlying26 rfl (by kernel_rfl)) rfl ?_
      exact ⟨_, _, rfl, q2, q3, q4⟩
end Go.Proofs
