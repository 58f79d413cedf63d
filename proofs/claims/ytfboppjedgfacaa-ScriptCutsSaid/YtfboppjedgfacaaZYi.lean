/- Script: the reference's Cut. -/
import Derived.Test.YtfboppjedgfacaaZYh
namespace Go.Proofs
set_option maxRecDepth 100000
open Go.RowKit Go.Shelf
attribute [local go_sem] Oper.semAt_some

theorem OwnsL.ne {n₀ n₁ k n : Nat} {ls : List (List Cl4)} {v v' : Value} {xs : List Value} {e : TypeId} {W W' : World} (o : OwnsL n₀ ls v W) (h : W.ownsRow n₁ e k v' n xs) (h1 : 53 ≠ e) (h2 : 55 ≠ e) (hg : W.grownBy W' v'.ownBlock) : OwnsL n₀ ls v W' := by
  obtain ⟨vs, h3, h4⟩ := o
  refine ⟨vs, grown_ne h3 h h1 hg, fun i hi => ?_⟩
  obtain ⟨a, c, h5, h6⟩ := h4 i hi
  exact ⟨a, c, h5, grown_ne h6 h h2 hg⟩
theorem OwnF.pgrown {w : World} {Bo : Nat} {g b sd : Int} {lsr : List (List Cl4)} {v vp vp' : Value} {cut cut' : List Int} {W W' : World} {n : Nat} {ys : List Value} (p : OwnF w Bo g b sd lsr v vp cut W) (hro : W.ownsRow w.heap.size 22 1 vp n ys)
    (ho : OwnsWords w.heap.size cut' vp' W') (hg : W.grownBy W' vp.ownBlock) :
    Rows8 W' Bo 26 #[.int .i64 g, .int .i64 b, .int .u64 sd, v, vp] ∧ OwnF w Bo g b sd lsr v vp' cut' (W'.setCell ⟨Bo, 4, none⟩ vp') := by
  have r1 := rows_grown hro (by decide) hg p.box
  have r2 := rows_grown hro (by decide) hg p.named
  have hL := p.lists.ne hro (by decide) (by decide) hg
  have hB : Below w.heap.size w W' := p.bel.grown hg p.bel.size (fun j ej => (World.ownsRow.lt hro j ej).1)
  have hlo := p.lo
  exact ⟨r1, hlo, r1.set 4 _, r2.setOther (by show Bo ≠ w.heap.size + 1; omega) _, hL.set (a := ⟨Bo, 4, none⟩) r1 _, owns_set ho (a := ⟨Bo, 4, none⟩) r1 (by decide) _, hB.setCell (by show w.heap.size ≤ Bo; omega) _⟩
theorem cutLs_snoc (ls : List (List Cl4)) (gs : List Int) (i : Nat) (h : i < ls.length) : cutLs (ls.take (i + 1)) gs = cutLs (ls.take i) gs ++ [inG gs i ls[i]] := by
  unfold cutLs
  rw [List.take_succ_eq_append_getElem h, List.mapIdx_concat, List.length_take, Nat.min_eq_left (Nat.le_of_lt h)]
theorem ptake_snoc (ps : List Int) (k q : Nat) (h : k < ps.length) (hq : k < q) : ps.take (min (k + 1) q) = ps.take (min k q) ++ [ps[k]] := by
  rw [show min (k + 1) q = k + 1 by omega, show min k q = k by omega]
  exact List.take_succ_eq_append_getElem h
theorem ptake_same (ps : List Int) (k q : Nat) (hq : ¬ k < q) : ps.take (min (k + 1) q) = ps.take (min k q) := by
  rw [show min (k + 1) q = q by omega, show min k q = q by omega]
theorem ptake_all (ps : List Int) (q : Nat) : ps.take (min ps.length q) = ps.take q := by
  by_cases h : ps.length ≤ q
  · rw [Nat.min_eq_left h, List.take_length, List.take_of_length_le h]
  · rw [Nat.min_eq_right (by omega)]
def RefCutQ (s : Scr) (w : World) (e : Ending) (w' : World) : Prop := ∃ v, e = .returned v ∧ ScrAt w' v s ∧ Below w.heap.size w w'
set_option maxHeartbeats 8000000 in
theorem Try.refCut_any (v : Value) (s : Scr) (p : Int) (ag : Option Addr) (ng cg : Nat) (gs : List Int) (hs : s.ok) (hgn : ng = gs.length) (hg1 : ng ≤ 1000) (w : World) (h : ScrAt w v s) (hls : ∀ l ∈ s.lists, l.length ≤ 100) (hG : IntsAt w (.slice ag ng cg) gs) :
    Calls Try.prog 30 #[v, .int .i64 p, .slice ag ng cg] w (RefCutQ (cutB s p gs) w) := by
  obtain ⟨i0, hi, hz0, hz1, hz2⟩ := info_parts Try.infoRowC
  obtain ⟨j0, hj, hj0, hj1, hj2⟩ := info_parts Try.infoCall
  obtain ⟨y0, hy, hy0, hy1, hy2⟩ := info_parts Try.infoWord
  obtain ⟨hs1, hs2, hs3⟩ := hs
  obtain ⟨al, cl, ap, cp, rfl, hL, hP⟩ := h
  obtain ⟨g, b, sd, ls, ps⟩ := s
  unfold cutB
  dsimp only at hs1 hs2 hs3 hL hP hls ⊢
  obtain ⟨nl, hnl⟩ : ∃ nl, nl = ls.length := ⟨_, rfl⟩
  obtain ⟨pl, hpl⟩ : ∃ pl, pl = ps.length := ⟨_, rfl⟩
  rw [← hnl] at hL hs1 ⊢
  rw [← hpl] at hP hs3 ⊢
  obtain ⟨q, hq⟩ : ∃ q, q = p.toNat := ⟨_, rfl⟩
  rw [← hq]
  obtain ⟨cut, hcut⟩ : ∃ cut, cut = ps.take q := ⟨_, rfl⟩
  obtain ⟨lss, hlss⟩ : ∃ lss, lss = cutLs ls gs := ⟨_, rfl⟩
  rw [← hcut, ← hlss]
  have HCUT := Lib.hid hcut
  have HLSS := Lib.hid hlss
  have HQ := Lib.hid hq
  have HL := Lib.hid hL
  have HP := Lib.hid hP
  have HNL := Lib.hid hnl
  have HPL := Lib.hid hpl
  have HG := Lib.hid hG
  have HGN := Lib.hid hgn
  have HLE : Hid (∀ l ∈ ls, l.length ≤ 100) := Lib.hid hls
  clear hcut hlss hL hP hnl hpl hG hgn hls hs2 hq
  have r0 := ((Rows8.new w 26 #[.int .i64 g, .int .i64 b, .int .u64 sd, .slice al nl cl, .slice ap pl cp]).alloc (.cells #[.int .i64 0, .int .i64 0, .int .u64 0, .slice none 0 0, .slice none 0 0] 26)).alloc (.cells #[.int .i64 g, .int .i64 b, .int .u64 sd, .slice none 0 0, .slice none 0 0] 26)
  have z0 := (rows_new2 w (.cells #[.int .i64 g, .int .i64 b, .int .u64 sd, .slice al nl cl, .slice ap pl cp] 26) 26 #[.int .i64 0, .int .i64 0, .int .u64 0, .slice none 0 0, .slice none 0 0]).alloc (.cells #[.int .i64 g, .int .i64 b, .int .u64 sd, .slice none 0 0, .slice none 0 0] 26)
  have o0 := Rows8.new ((w.alloc (.cells #[.int .i64 g, .int .i64 b, .int .u64 sd, .slice al nl cl, .slice ap pl cp] 26)).alloc (.cells #[.int .i64 0, .int .i64 0, .int .u64 0, .slice none 0 0, .slice none 0 0] 26)) 26 #[.int .i64 g, .int .i64 b, .int .u64 sd, .slice none 0 0, .slice none 0 0]
  rw [World.size_alloc, World.size_alloc] at o0
  have b0 : Below w.heap.size w (((w.alloc (.cells #[.int .i64 g, .int .i64 b, .int .u64 sd, .slice al nl cl, .slice ap pl cp] 26)).alloc (.cells #[.int .i64 0, .int .i64 0, .int .u64 0, .slice none 0 0, .slice none 0 0] 26)).alloc (.cells #[.int .i64 g, .int .i64 b, .int .u64 sd, .slice none 0 0, .slice none 0 0] 26)) := (((Below.refl w.heap.size w).alloc (Nat.le_refl _) _).alloc (by simp) _).alloc (by simp; omega) _
  have HR0 := Lib.hid r0
  have HZ0 := Lib.hid z0
  have HO0 := Lib.hid o0
  have HB0 := Lib.hid b0
  have c4 : (((w.alloc (.cells #[.int .i64 g, .int .i64 b, .int .u64 sd, .slice al nl cl, .slice ap pl cp] 26)).alloc (.cells #[.int .i64 0, .int .i64 0, .int .u64 0, .slice none 0 0, .slice none 0 0] 26)).alloc (.cells #[.int .i64 g, .int .i64 b, .int .u64 sd, .slice none 0 0, .slice none 0 0] 26)).cell? ⟨w.heap.size, 4, none⟩ = some (.slice ap pl cp) := r0.cell 4
  clear r0 z0 o0 b0
  go_enter Try.func30, Try.ntmps30
  go_wp2_with fail
  --S1
  generalize ((w.alloc (.cells #[.int .i64 g, .int .i64 b, .int .u64 sd, .slice al nl cl, .slice ap pl cp] 26)).alloc (.cells #[.int .i64 0, .int .i64 0, .int .u64 0, .slice none 0 0, .slice none 0 0] 26)).alloc (.cells #[.int .i64 g, .int .i64 b, .int .u64 sd, .slice none 0 0, .slice none 0 0] 26) = W0 at *
  clear c4
  have HF0 : Hid (OwnF w (w.heap.size + 1 + 1) g b sd [] (.slice none 0 0) (.slice none 0 0) [] W0 ∧ Rows8 W0 w.heap.size 26 #[.int .i64 g, .int .i64 b, .int .u64 sd, .slice al nl cl, .slice ap pl cp]) := Lib.hid ⟨⟨by omega, HO0.out, HZ0.out, ownsL_nil _ _, World.ownsRow_nil _ _ _ _, HB0.out⟩, HR0.out⟩
  clear HR0 HZ0 HO0 HB0
  go_loopw [25] (fun jv wr => ∃ k : Nat, k ≤ pl ∧ jv = .int .i64 k ∧ ∃ vp, Hid (OwnF w (w.heap.size + 1 + 1) g b sd [] (.slice none 0 0) vp (ps.take (min k q)) wr ∧ Rows8 wr w.heap.size 26 #[.int .i64 g, .int .i64 b, .int .u64 sd, .slice al nl cl, .slice ap pl cp])) (fun jv _ => pl - (intOf jv).toNat)
  case atStart => exact ⟨0, Nat.zero_le _, rfl, _, Lib.hid (by rw [Nat.zero_min, List.take_zero]; exact HF0.out)⟩
  case round =>
    clear HF0
    obtain ⟨k, hk, rfl, vp, HI⟩ := hrel
    by_cases hlt : k < pl
    · have hkl : k < ps.length := by rw [← HPL.out]; exact hlt
      obtain ⟨bp, off, rfl, hbp, hc⟩ := wordsAt_get (RowAt.below HP.out HI.out.1.bel) k hkl
      rw [List.getElem?_eq_getElem hkl, Option.getD_some] at hc
      have hki : (k : Int) < (pl : Int) := by omega
      by_cases hq : k < q
      · have hkp : (k : Int) < p := by have := HQ.out; omega
        have HSN := Lib.hid (ptake_snoc ps k q hkl hq)
        have htl : (ps.take (min k q)).length = k := by rw [List.length_take]; omega
        generalize ps[k] = z at *
        generalize hcur : ps.take (min k q) = cur at *
        obtain ⟨_, a3, c3, rfl, _⟩ := rowAt_own HI.out.1.picks
        rw [htl] at HI
        have HTL := Lib.hid htl
        have e4 : wr.cell? ⟨w.heap.size + 1 + 1, 4, none⟩ = some (.slice a3 k c3) := HI.out.1.box.cell 4
        have hro : wr.ownsRow w.heap.size 22 1 (.slice a3 k c3) k (wordVals cur) := by
          have h := HI.out.1.picks
          unfold OwnsWords at h
          rw [htl] at h
          exact h
        have hb1 := (Below.refl wr.heap.size wr).alloc (Nat.le_refl _) (.cells #[.int .u64 z] 22)
        have HRO1 := Lib.hid (owns_keep hro hb1 (Nat.le_refl _))
        have HF1 := Lib.hid (HI.out.1.keep hb1)
        have HR1 := Lib.hid (HI.out.2.below hb1 HI.out.2.lt)
        have HN1 := Lib.hid (rowAt_own (own1 (n₀ := 0) (Rows8.new wr 22 #[.int .u64 z]) (Nat.zero_le _) rfl))
        have hwz := HF1.out.bel.size
        clear htl hcur hro hb1 HI hbp hkl
        --S2
        go_wp2_with (at_builtin; refine wpList_append_row _ rfl _ _ 24 rfl w.heap.size 22 y0 (.int .u64 0) 1 8 Try.underlying24 hy hy0 hy1 hy2 rfl (by decide) _ _ _ rfl HRO1.out _ 1 [.int .u64 z] rfl HN1.out (by simp [Value.oneCell']) (by unfold maxLen; omega) (by omega) hwz ?_; intro v6 w6 ho6 hg6 hv6; obtain ⟨_, a6, c6, rfl, _⟩ := rowAt_own ho6; have HO6 := Lib.hid ho6; have HG6 := Lib.hid hg6; have r6 := rows_grown HRO1.out (by decide) hg6 HF1.out.box; have f6 := r6.frozen 4; have k6 := r6.cell 4; simp at k6; clear hg6 ho6 hv6 r6)
        --S3
        have hw6 : OwnsWords w.heap.size (cur ++ [z]) (.slice a6 (k + 1) c6) w6 := by
          unfold OwnsWords
          rw [wordVals_append, List.length_append, HTL.out]
          exact HO6.out
        have hF6 := HF1.out.pgrown HRO1.out hw6 HG6.out
        have hR6 := (rows_grown HRO1.out (by decide) HG6.out HR1.out).setOther (a := ⟨w.heap.size + 1 + 1, 4, none⟩) (by show w.heap.size + 1 + 1 ≠ w.heap.size; omega) (.slice a6 (k + 1) c6)
        exact ⟨⟨k + 1, by omega, by go_num, _, Lib.hid ⟨by rw [HSN.out]; exact hF6.2, hR6⟩⟩, by simp [intOf]; omega⟩
      · have hkp : ¬ (k : Int) < p := by have := HQ.out; omega
        have HSN := Lib.hid (ptake_same ps k q hq)
        generalize ps[k] = z at *
        clear hbp hkl
        --S4
        go_wp2_with fail
        exact ⟨⟨k + 1, by omega, by go_num, _, Lib.hid ⟨by rw [HSN.out]; exact HI.out.1, HI.out.2⟩⟩, by simp [intOf]; omega⟩
    · obtain rfl : k = pl := by omega
      obtain ⟨_, ax, cx, rfl, _⟩ := rowAt_own HI.out.1.picks
      have hcu : ps.take (min k q) = cut := by rw [HPL.out, ptake_all, HCUT.out]
      rw [hcu] at HI
      clear hcu
      have c3 := HI.out.2.cell 3
      simp at c3
      --S5
      go_wp2_with fail
      --S6
      have HF0 : Hid (OwnF w (w.heap.size + 1 + 1) g b sd (cutLs (ls.take 0) gs) (.slice none 0 0) (.slice ax cut.length cx) cut wr) := Lib.hid HI.out.1
      clear HI c3
      obtain ⟨wo, hwo⟩ : ∃ wo, wo = wr := ⟨_, rfl⟩
      rw [← hwo] at HF0 ⊢
      clear hwo
      go_loopw [43] (fun jv wr => ∃ i : Nat, i ≤ nl ∧ jv = .int .i64 i ∧ ∃ v, Hid (OwnF w (w.heap.size + 1 + 1) g b sd (cutLs (ls.take i) gs) v (.slice ax cut.length cx) cut wr)) (fun jv _ => nl - (intOf jv).toNat)
      case atStart => exact ⟨0, Nat.zero_le _, rfl, _, HF0⟩
      case round =>
        clear HF0
        obtain ⟨i, hin, rfl, v, HF⟩ := hrel
        obtain ⟨wo, hwo⟩ : ∃ wo, wo = wr := ⟨_, rfl⟩
        rw [← hwo] at HF ⊢
        clear hwo
        by_cases hlt : i < nl
        · have hil : i < ls.length := by rw [← HNL.out]; exact hlt
          obtain ⟨bl, off, d1, c1, rfl, hbl, hc, hcs⟩ := listsAt_get HL.out i hil
          have hc2 : wo.cell? ⟨bl, off + i, none⟩ = some (.slice d1 ls[i].length c1) := (HF.out.bel.cell (p := ⟨bl, off + i, none⟩) hbl).trans hc
          clear hc
          obtain ⟨_, alo, clo, rfl, _⟩ := rowAt_own HF.out.lists.choose_spec.1
          obtain ⟨k, hk⟩ : ∃ k, (cutLs (ls.take i) gs).length = k := ⟨_, rfl⟩
          have hk10 : k ≤ 10000 := by rw [← hk, cutLs_length, List.length_take]; omega
          rw [hk] at HF
          have HKL := Lib.hid hk
          have HK10 := Lib.hid hk10
          have HSN := Lib.hid (cutLs_snoc ls gs i hil)
          have hle := HLE.out ls[i] (List.getElem_mem _)
          have hi64 : (i : Int) < (nl : Int) := by omega
          generalize cutLs (ls.take i) gs = lcur at *
          generalize ls[i] = l at *
          obtain ⟨ll, hll⟩ : ∃ ll, ll = l.length := ⟨_, rfl⟩
          rw [← hll] at hc2 hcs hle
          have HLL := Lib.hid hll
          have HCS : Hid (∀ W : World, Below w.heap.size w W → RowAt W (.slice d1 ll c1) ll 4 (callVals l)) := Lib.hid fun W hb => by
            unfold CallsAt at hcs
            rw [← hll] at hcs
            exact RowAt.below hcs hb
          clear hcs hll hbl hil hk hk10
          have c3 : wo.cell? ⟨w.heap.size + 1 + 1, 3, none⟩ = some (.slice alo k clo) := HF.out.box.cell 3
          --T1
          go_wp2_with fail
          --T2
          go_loopw [12, 50] (fun nv jv wr => ∃ j : Nat, j ≤ ng ∧ jv = .int .i64 j ∧ nv = .bool (decide ((i : Int) ∈ gs.take j)) ∧ wr = wo) (fun _ jv _ => ng - (intOf jv).toNat)
          case atStart => exact ⟨0, Nat.zero_le _, rfl, by simp, rfl⟩
          case round =>
            obtain ⟨j, hjn, rfl, rfl, rfl⟩ := hrel
            by_cases hlt2 : j < ng
            · have hjl : j < gs.length := by rw [← HGN.out]; exact hlt2
              obtain ⟨bg, og, rfl, hbg, hcg⟩ := intsAt_get (RowAt.below HG.out HF.out.bel) j hjl
              rw [List.getElem?_eq_getElem hjl, Option.getD_some] at hcg
              have hsn : gs.take (j + 1) = gs.take j ++ [gs[j]] := List.take_succ_eq_append_getElem hjl
              have hmem : ((i : Int) ∈ gs.take (j + 1)) ↔ ((i : Int) ∈ gs.take j ∨ (i : Int) = gs[j]) := by rw [hsn, List.mem_append, List.mem_singleton]
              generalize gs[j] = z at *
              have hjk : (j : Int) < (ng : Int) := by omega
              clear hsn hjl hbg c3
              by_cases h1 : (i : Int) ∈ gs.take j
              · have HM : Hid ((i : Int) ∈ gs.take (j + 1)) := Lib.hid (hmem.2 (.inl h1))
                rw [decide_eq_true h1]
                clear hmem h1
                --T3
                go_wp2_with fail
                exact ⟨⟨j + 1, by omega, by go_num, by rw [decide_eq_true HM.out], trivial⟩, by simp [intOf]; omega⟩
              · rw [decide_eq_false h1]
                by_cases h2 : (i : Int) = z
                · have HM : Hid ((i : Int) ∈ gs.take (j + 1)) := Lib.hid (hmem.2 (.inr h2))
                  have hz : (z == (i : Int)) = true := by simp [h2]
                  clear hmem h1 h2
                  --T4
                  go_wp2_with fail
                  exact ⟨⟨j + 1, by omega, by go_num, by rw [decide_eq_true HM.out], trivial⟩, by simp [intOf]; omega⟩
                · have HM : Hid (¬ (i : Int) ∈ gs.take (j + 1)) := Lib.hid (fun h => (hmem.1 h).elim h1 h2)
                  have hz : (z == (i : Int)) = false := by simp; exact fun h => h2 h.symm
                  clear hmem h1 h2
                  --T5
                  go_wp2_with fail
                  exact ⟨⟨j + 1, by omega, by go_num, by rw [decide_eq_false HM.out], trivial⟩, by simp [intOf]; omega⟩
            · obtain rfl : j = ng := by omega
              have htk : gs.take j = gs := List.take_of_length_le (by rw [← HGN.out]; exact Nat.le_refl _)
              rw [htk]
              clear htk
              by_cases h1 : (i : Int) ∈ gs
              · rw [decide_eq_true h1]
                have HIN : Hid (inG gs i l = l) := Lib.hid (by unfold inG; rw [if_pos h1])
                clear h1
                have c3 : wr.cell? ⟨w.heap.size + 1 + 1, 3, none⟩ = some (.slice alo k clo) := HF.out.box.cell 3
                go_wp2_with fail
                --T6
                refine wp_region_X (fun W' => W'.cell? ⟨w.heap.size + 1 + 1, 3, none⟩ = some (.slice alo k clo)) 8 (by kernel_rfl) ?_
                have hFd := HF.out.drew
                clear c3
                have c3 : wr.drew.cell? ⟨w.heap.size + 1 + 1, 3, none⟩ = some (.slice alo k clo) := hFd.box.cell 3
                have hcd : RowAt wr.drew (.slice d1 ll c1) ll 4 (callVals l) := HCS.out wr.drew hFd.bel
                have HFD := Lib.hid hFd
                clear hFd
                generalize wr.drew = Wd at *
                refine wpAnyX_take (i := 0) (oi := { dst := some 62, op := Go.Op.fieldAddr 26 (Go.Operand.tmp 7) 3, type := 0, pos := "ref.go:205", after := #[], guard := none }) (oX := { dst := none, op := Go.Op.store 23 (Go.Operand.tmp 69) (Go.Operand.tmp 68), type := 0, pos := "ref.go:205", after := #[{ on := 7, ground := Go.Ground.data }, { on := 6, ground := Go.Ground.data }, { on := 6, ground := Go.Ground.chain }, { on := 0, ground := Go.Ground.phase }, { on := 1, ground := Go.Ground.phase }, { on := 2, ground := Go.Ground.phase }, { on := 3, ground := Go.Ground.phase }, { on := 4, ground := Go.Ground.phase }, { on := 5, ground := Go.Ground.phase }, { on := 6, ground := Go.Ground.phase }], guard := none }) (v := .pointer (some ⟨w.heap.size + 1 + 1, 3, none⟩)) rfl rfl (by kernel_rfl) (by kernel_rfl) (by kernel_rfl) (by kernel_rfl) (fun _ _ _ h => h) (Or.inl ⟨by rfl, ?_⟩) c3 ?_
                · intro W9 hS9
                  go_simp
                try simp only [Act.put, List.setIfInBounds_toArray, List.set_cons_zero, List.set_cons_succ]
                refine wpAnyX_take (i := 1) (oi := { dst := some 63, op := Go.Op.load 23 (Go.Operand.tmp 62), type := 23, pos := "ref.go:205", after := #[{ on := 0, ground := Go.Ground.data }], guard := none }) (oX := { dst := none, op := Go.Op.store 23 (Go.Operand.tmp 69) (Go.Operand.tmp 68), type := 0, pos := "ref.go:205", after := #[{ on := 7, ground := Go.Ground.data }, { on := 6, ground := Go.Ground.data }, { on := 6, ground := Go.Ground.chain }, { on := 0, ground := Go.Ground.phase }, { on := 1, ground := Go.Ground.phase }, { on := 2, ground := Go.Ground.phase }, { on := 3, ground := Go.Ground.phase }, { on := 4, ground := Go.Ground.phase }, { on := 5, ground := Go.Ground.phase }, { on := 6, ground := Go.Ground.phase }], guard := none }) (v := .slice alo k clo) rfl rfl (by kernel_rfl) (by kernel_rfl) (by kernel_rfl) (by kernel_rfl) (fun _ _ _ h => h) (Or.inl ⟨by rfl, ?_⟩) c3 ?_
                · intro W9 hS9
                  go_simp
                try simp only [Act.put, List.setIfInBounds_toArray, List.set_cons_zero, List.set_cons_succ]
                refine wpAnyX_take (i := 3) (oi := { dst := some 65, op := Go.Op.move (Go.Operand.tmp 11), type := 53, pos := "ref.go:205", after := #[], guard := none }) (oX := { dst := none, op := Go.Op.store 23 (Go.Operand.tmp 69) (Go.Operand.tmp 68), type := 0, pos := "ref.go:205", after := #[{ on := 7, ground := Go.Ground.data }, { on := 6, ground := Go.Ground.data }, { on := 6, ground := Go.Ground.chain }, { on := 0, ground := Go.Ground.phase }, { on := 1, ground := Go.Ground.phase }, { on := 2, ground := Go.Ground.phase }, { on := 3, ground := Go.Ground.phase }, { on := 4, ground := Go.Ground.phase }, { on := 5, ground := Go.Ground.phase }, { on := 6, ground := Go.Ground.phase }], guard := none }) (v := .slice d1 ll c1) rfl rfl (by kernel_rfl) (by kernel_rfl) (by kernel_rfl) (by kernel_rfl) (fun _ _ _ h => h) (Or.inl ⟨by rfl, ?_⟩) c3 ?_
                · intro W9 hS9
                  go_simp
                try simp only [Act.put, List.setIfInBounds_toArray, List.set_cons_zero, List.set_cons_succ]
                refine wpAnyX_one (i := 2) (o := { dst := some 64, op := Go.Op.buildSlice 53 0 #[], type := 53, pos := "ref.go:205", after := #[], guard := none }) (by kernel_rfl) rfl (fun K hK => ?_)
                refine step_value_g (by rfl) (.slice (some ⟨Wd.heap.size, 0, none⟩) 0 0) (w' := Wd.alloc (.cells #[] 55)) (by go_simp) ?_
                have hE : OwnsCalls Wd.heap.size [] (.slice (some ⟨Wd.heap.size, 0, none⟩) 0 0) (Wd.alloc (.cells #[] 55)) := World.ownsRow_lit Wd #[] 0 (Nat.le_refl _) (by unfold maxLen; omega) rfl
                have hb2 := (Below.refl Wd.heap.size Wd).alloc (Nat.le_refl _) (.cells #[] 55)
                have hF2 := HFD.out.keep hb2
                have c3' : (Wd.alloc (.cells #[] 55)).cell? ⟨w.heap.size + 1 + 1, 3, none⟩ = some (.slice alo k clo) := hF2.box.cell 3
                have hc2 := RowAt.below hcd hb2
                refine hK.out _ _ (fun _ => c3') ?_
                clear hK K
                try simp only [Act.put, List.setIfInBounds_toArray, List.set_cons_zero, List.set_cons_succ]
                generalize Wd.alloc (.cells #[] 55) = W2 at *
                refine wpAnyX_one (i := 4) (o := { dst := some 66, op := Go.Op.call { callee := Go.Callee.builtin Go.Builtin.append, args := #[Go.Operand.tmp 64, Go.Operand.tmp 65], argTypes := #[53, 53] }, type := 53, pos := "ref.go:205", after := #[{ on := 2, ground := Go.Ground.data }, { on := 3, ground := Go.Ground.data }], guard := none }) (by kernel_rfl) rfl (fun K hK => ?_)
                refine step_append_row W2 rfl _ _ 53 rfl Wd.heap.size 55 j0 (.agg #[.int .i64 0, .int .u64 0, .int .u64 0, .int .u64 0]) 4 32 Try.underlying53 hj hj0 hj1 hj2 rfl (by decide) (.slice (some ⟨Wd.heap.size, 0, none⟩) 0 0) 0 [] (by simp [go_sem]) hE _ ll (callVals l) (by simp [go_sem]) hc2 (callVals_one l) (by unfold maxLen; omega) (by omega) hb2.size ?_
                intro v4 W4 ho4 hg4 hv4
                rw [Nat.zero_add, List.nil_append] at ho4
                have ho42 := ho4
                obtain ⟨_, a4, c4, rfl, _⟩ := rowAt_own ho42
                have hb4 := hb2.grown hg4 hb2.size (fun j ej => (World.ownsRow.lt hE j ej).1)
                have hF4 := HFD.out.keep hb4
                have hwd := HFD.out.bel.size
                have hn4 : OwnsCalls w.heap.size l (.slice a4 ll c4) W4 := by
                  unfold OwnsCalls
                  rw [← HLL.out]
                  exact owns_mono ho4 hwd
                have c4' : W4.cell? ⟨w.heap.size + 1 + 1, 3, none⟩ = some (.slice alo k clo) := hF4.box.cell 3
                refine hK.out _ _ (fun _ => c4') ?_
                clear hK K
                try simp only [Act.put, List.setIfInBounds_toArray, List.set_cons_zero, List.set_cons_succ]
                clear ho4 ho42 hg4 hv4 hE hb2 hF2 c3' hc2 hb4
                refine wpAnyX_one (i := 5) (o := { dst := some 67, op := Go.Op.buildSlice 23 1 #[(0, Go.Operand.tmp 66)], type := 23, pos := "ref.go:205", after := #[{ on := 4, ground := Go.Ground.data }], guard := none }) (by kernel_rfl) rfl (fun K hK => ?_)
                refine step_value_g (by rfl) (.slice (some ⟨W4.heap.size, 0, none⟩) 1 1) (w' := W4.alloc (.cells #[.slice a4 ll c4] 53)) (by go_simp) ?_
                have hb5 := (Below.refl W4.heap.size W4).alloc (Nat.le_refl _) (.cells #[.slice a4 ll c4] 53)
                have hF3 := hF4.keep hb5
                have hov3 := owns_keep hn4 hb5 (Nat.le_refl _)
                have c3'' : (W4.alloc (.cells #[.slice a4 ll c4] 53)).cell? ⟨w.heap.size + 1 + 1, 3, none⟩ = some (.slice alo k clo) := hF3.box.cell 3
                have hnr := rowAt_own (own1 (n₀ := 0) (Rows8.new W4 53 #[.slice a4 ll c4]) (Nat.zero_le _) rfl)
                refine hK.out _ _ (fun _ => c3'') ?_
                clear hK K
                try simp only [Act.put, List.setIfInBounds_toArray, List.set_cons_zero, List.set_cons_succ]
                have HF3 := Lib.hid hF3
                have HOV := Lib.hid hov3
                have HNR := Lib.hid hnr
                clear c3 c4' hF4 hF3 hn4 hov3 hnr hb5 hwd
                generalize W4.alloc (.cells #[.slice a4 ll c4] 53) = W3 at *
                obtain ⟨vs, hro, hri⟩ := HF3.out.lists
                have hro' := hro
                rw [HKL.out] at hro'
                have hk10 := HK10.out
                have hwz := HF3.out.bel.size
                refine wpAnyX_one (i := 6) (o := { dst := some 68, op := Go.Op.call { callee := Go.Callee.builtin Go.Builtin.append, args := #[Go.Operand.tmp 63, Go.Operand.tmp 67], argTypes := #[23, 23] }, type := 23, pos := "ref.go:205", after := #[{ on := 1, ground := Go.Ground.data }, { on := 5, ground := Go.Ground.data }, { on := 4, ground := Go.Ground.chain }], guard := none }) (by kernel_rfl) rfl (fun K hK => ?_)
                refine step_append_row W3 rfl _ _ 23 rfl w.heap.size 53 i0 (.slice none 0 0) 1 24 Try.underlying23 hi hz0 hz1 hz2 rfl (by decide) (.slice alo k clo) k vs (by simp [go_sem]) hro' _ 1 [.slice a4 ll c4] (by simp [go_sem]) HNR.out (by simp [Value.oneCell']) (by unfold maxLen; omega) (by omega) hwz ?_
                intro v5 W5 ho5 hg5 hv5
                obtain ⟨_, a5, c5, rfl, _⟩ := rowAt_own ho5
                rw [← HKL.out] at ho5
                have hF5 := HF3.out.grown hro hri HLL.out HOV.out ho5 hg5
                rw [HKL.out] at hF5
                have c5' : W5.cell? ⟨w.heap.size + 1 + 1, 3, none⟩ = some (.slice alo k clo) := hF5.1.cell 3
                refine hK.out _ _ (fun _ => c5') ?_
                clear hK K
                try simp only [Act.put, List.setIfInBounds_toArray, List.set_cons_zero, List.set_cons_succ]
                refine wpAnyX_one (i := 7) (o := { dst := some 69, op := Go.Op.fieldAddr 26 (Go.Operand.tmp 7) 3, type := 0, pos := "ref.go:205", after := #[{ on := 0, ground := Go.Ground.phase }, { on := 1, ground := Go.Ground.phase }, { on := 2, ground := Go.Ground.phase }, { on := 3, ground := Go.Ground.phase }, { on := 4, ground := Go.Ground.phase }, { on := 5, ground := Go.Ground.phase }, { on := 6, ground := Go.Ground.phase }], guard := none }) (by kernel_rfl) rfl (fun K hK => ?_)
                refine step_value_g (by rfl) (.pointer (some ⟨w.heap.size + 1 + 1, 3, none⟩)) (w' := W5) (by go_simp) ?_
                refine hK.out _ _ (fun _ => c5') ?_
                clear hK K
                try simp only [Act.put, List.setIfInBounds_toArray, List.set_cons_zero, List.set_cons_succ]
                refine wpAnyX_one (i := 8) (o := { dst := none, op := Go.Op.store 23 (Go.Operand.tmp 69) (Go.Operand.tmp 68), type := 0, pos := "ref.go:205", after := #[{ on := 7, ground := Go.Ground.data }, { on := 6, ground := Go.Ground.data }, { on := 6, ground := Go.Ground.chain }, { on := 0, ground := Go.Ground.phase }, { on := 1, ground := Go.Ground.phase }, { on := 2, ground := Go.Ground.phase }, { on := 3, ground := Go.Ground.phase }, { on := 4, ground := Go.Ground.phase }, { on := 5, ground := Go.Ground.phase }, { on := 6, ground := Go.Ground.phase }], guard := none }) (by kernel_rfl) rfl (fun K hK => ?_)
                have f5 : W5.frozen? ⟨w.heap.size + 1 + 1, 3, none⟩ = false := hF5.1.frozen 3
                refine step_skip_g (by rfl) (w' := W5.setCell ⟨w.heap.size + 1 + 1, 3, none⟩ (.slice a5 (k + 1) c5)) (by go_simp) ?_
                refine hK.out _ _ (fun h => absurd rfl h) ?_
                clear hK K
                try simp only [Act.put, List.setIfInBounds_toArray, List.set_cons_zero, List.set_cons_succ]
                refine wpAnyX_end (by kernel_rfl) ?_
                have HF5 := Lib.hid hF5.2
                clear hF5 ho5 hg5 hv5 f5 c5' hro hro' hri hwz hk10
                go_wp2_with fail
                exact ⟨⟨i + 1, by omega, by go_num, _, by rw [HSN.out, HIN.out]; exact HF5⟩, by simp [intOf]; omega⟩
              · rw [decide_eq_false h1]
                have HIN : Hid (inG gs i l = []) := Lib.hid (by unfold inG; rw [if_neg h1])
                clear h1
                have c3 : wr.cell? ⟨w.heap.size + 1 + 1, 3, none⟩ = some (.slice alo k clo) := HF.out.box.cell 3
                have hb1 := (Below.refl wr.heap.size wr).alloc (Nat.le_refl _) (.cells #[.slice none 0 0] 53)
                have HF1 := Lib.hid (HF.out.keep hb1)
                obtain ⟨vs, hro, hri⟩ := HF1.out.lists
                have HRI := Lib.hid hri
                have HRO := Lib.hid hro
                rw [HKL.out] at hro
                have HRO1 := Lib.hid hro
                have HN1 := Lib.hid (rowAt_own (own1 (n₀ := 0) (Rows8.new wr 53 #[.slice none 0 0]) (Nat.zero_le _) rfl))
                have hwz := HF1.out.bel.size
                have hk10 := HK10.out
                clear hro hri hb1
                --T7
                go_wp2_with (at_builtin; refine wpList_append_row _ rfl _ _ 23 rfl w.heap.size 53 i0 (.slice none 0 0) 1 24 Try.underlying23 hi hz0 hz1 hz2 rfl (by decide) _ _ _ rfl HRO1.out _ 1 [.slice none 0 0] rfl HN1.out (by simp [Value.oneCell']) (by unfold maxLen; omega) (by omega) hwz ?_; intro v6 w6 ho6 hg6 hv6; obtain ⟨_, a6, c6, rfl, _⟩ := rowAt_own ho6; have HO6 := Lib.hid ho6; have HG6 := Lib.hid hg6; have r6 := rows_grown HRO1.out (by decide) hg6 HF1.out.box; have f6 := r6.frozen 3; have k6 := r6.cell 3; simp at k6; clear hg6 ho6 hv6 r6)
                have ho7 := HO6.out
                rw [← HKL.out] at ho7
                have hF6 := HF1.out.grown (m := 0) (l := []) HRO.out HRI.out rfl (World.ownsRow_nil _ _ _ _) ho7 HG6.out
                rw [HKL.out] at hF6
                exact ⟨⟨i + 1, by omega, by go_num, _, by rw [HSN.out, HIN.out]; exact Lib.hid hF6.2⟩, by simp [intOf]; omega⟩
        · obtain rfl : i = nl := by omega
          have htl : ls.take i = ls := List.take_of_length_le (by rw [← HNL.out]; exact Nat.le_refl _)
          rw [htl, ← HLSS.out] at HF
          obtain ⟨_, alo, clo, rfl, _⟩ := rowAt_own HF.out.lists.choose_spec.1
          obtain ⟨d0, d1, d2, d3, d4⟩ := five8 HF.out.box
          obtain ⟨e0, e1, e2, e3, e4⟩ := five8 HF.out.named
          obtain ⟨f0, f1, f2, f3, f4⟩ : wo.frozen? ⟨w.heap.size + 1, 0, none⟩ = false ∧ wo.frozen? ⟨w.heap.size + 1, 1, none⟩ = false ∧ wo.frozen? ⟨w.heap.size + 1, 2, none⟩ = false ∧ wo.frozen? ⟨w.heap.size + 1, 3, none⟩ = false ∧ wo.frozen? ⟨w.heap.size + 1, 4, none⟩ = false := ⟨HF.out.named.frozen 0, HF.out.named.frozen 1, HF.out.named.frozen 2, HF.out.named.frozen 3, HF.out.named.frozen 4⟩
          clear htl
          --T8
          go_wp2_with fail
          obtain ⟨q1, q2, q3, q4⟩ := HF.out.back rfl
          refine bodyPost_ret (results_c rfl _ _ (w.heap.size + 1) 26 _ (0, 0) _ rfl q1 Try.underlying26 rfl (by kernel_rfl)) rfl ?_
          exact ⟨_, rfl, ⟨alo, clo, ax, cx, rfl, q2, q3⟩, q4⟩
end Go.Proofs
