/- Script: lists of the reader. -/
import Derived.Test.YtfboppjedgfacaaZUc
import Derived.Test.YtfboppjedgfacaaZSy
import Derived.WalkMore
import Derived.ScopeJumps
namespace Go.Proofs
open Go.RowKit Go.Shelf
attribute [local go_sem] Oper.semAt_some

theorem OwnsL.but {n₀ h x : Nat} {ls : List (List Cl4)} {v : Value} {A B : World} (o : OwnsL n₀ ls v A) (p : But h x A B) (hA : A.heap.size ≤ h) (hx : x < n₀) : OwnsL n₀ ls v B := by
  obtain ⟨vs, h1, h2⟩ := o
  exact ⟨vs, owns_but h1 p hA hx, fun i hi => by obtain ⟨a, c, e, ho⟩ := h2 i hi; exact ⟨a, c, e, owns_but ho p hA hx⟩⟩
theorem owns_base {n₀ m k n : Nat} {t : TypeId} {A : World} {v : Value} {cs : List Value} (h : m ≤ n₀) (o : A.ownsRow n₀ t k v n cs) : A.ownsRow m t k v n cs :=
  ⟨o.1, o.2.imp id fun ⟨g, cap, cur, e, hg, hr⟩ => ⟨g, cap, cur, e, Nat.le_trans h hg, hr⟩⟩
theorem callsP_facts : ∀ (n : Nat) {bs r : List Int} {cs : List Cl4}, callsP n bs = some (cs, r) → AllBytes bs → cs.length = n ∧ AllBytes r ∧ r.length ≤ bs.length
  | 0, bs, r, cs, h, hb => by
    simp only [callsP, Option.some.injEq, Prod.mk.injEq] at h
    obtain ⟨rfl, rfl⟩ := h
    exact ⟨rfl, hb, Nat.le_refl _⟩
  | n + 1, bs, r, cs, h, hb => by
    unfold callsP at h
    obtain ⟨p, hp, h2⟩ := Option.bind_eq_some_iff.1 h
    obtain ⟨q, hq, h3⟩ := Option.map_eq_some_iff.1 h2
    obtain ⟨c, s⟩ := p
    obtain ⟨l, t⟩ := q
    simp only [Prod.mk.injEq] at h3
    obtain ⟨rfl, rfl⟩ := h3
    obtain ⟨b1, b2⟩ := callP_bytes hb hp
    obtain ⟨d1, d2, d3⟩ := callsP_facts n hq b1
    exact ⟨by simp [d1], d2, by dsimp only at *; omega⟩
theorem listP_facts {room : Nat} {bs r : List Int} {cs : List Cl4} (h : listP room bs = some (cs, r)) (hb : AllBytes bs) : cs.length ≤ room ∧ AllBytes r ∧ r.length ≤ bs.length := by
  unfold listP at h
  obtain ⟨p, hp, h2⟩ := Option.bind_eq_some_iff.1 h
  obtain ⟨k, s⟩ := p
  obtain ⟨e1, e2, e3⟩ := betP_back hp
  obtain ⟨b1, b2, _⟩ := numsP_bytes hb e1
  obtain ⟨d1, d2, d3⟩ := callsP_facts k h2 b1
  exact ⟨by omega, d2, by dsimp only at *; omega⟩
theorem listsP_step (ls : List (List Cl4)) {g room : Nat} {bs q2 : List Int} {cs : List Cl4} (hlt : ls.length < g) (ho : listP room bs = some (cs, q2)) :
    ((listsP (g - ls.length) room bs).map fun q => (ls ++ q.1, q.2)) = (listsP (g - (ls ++ [cs]).length) (room - cs.length) q2).map fun q => ((ls ++ [cs]) ++ q.1, q.2) := by
  obtain ⟨k, hk⟩ : ∃ k, g - ls.length = k + 1 := ⟨g - ls.length - 1, by omega⟩
  have hk2 : g - (ls ++ [cs]).length = k := by rw [List.length_append]; simp; omega
  rw [hk, hk2]
  conv => lhs; unfold listsP
  rw [ho, Option.bind_some, Option.map_map]
  congr 1
  funext q
  simp
theorem listsP_none {ls g room : Nat} {bs : List Int} (hlt : ls < g) (ho : listP room bs = none) : listsP (g - ls) room bs = none := by
  obtain ⟨k, hk⟩ : ∃ k, g - ls = k + 1 := ⟨g - ls - 1, by omega⟩
  rw [hk]
  unfold listsP
  rw [ho]; rfl
/-- The cell in which the lists stand is stored into. -/
theorem RdAt.set3 {H : Nat} {A : World} {Br : Nat} {c0 c1 c2 c3 c4 : Value} {bs : List Int} (r : RdAt H Br c0 c1 c2 c3 c4 bs A) (v : Value) : RdAt H Br c0 c1 c2 v c4 bs (A.setCell ⟨Br, 3, none⟩ v) := by
  obtain ⟨a, n, cap, r1, r2, r3⟩ := r
  have h := r1.set 3 v
  simp at h
  refine ⟨a, n, cap, h, ?_, r3⟩
  obtain ⟨h0, a', cap', e, h1, h2, h3, h4⟩ := r2
  cases e
  refine ⟨h0, _, _, rfl, h1, h2, h3, fun j hj => ?_⟩
  obtain ⟨b, off, e2, hb, hc⟩ := h4 j hj
  have hbH := (r3 b off e2).1
  exact ⟨b, off, e2, by simpa [World.setCell] using hb, by rw [World.cell?_setCell_far _ _ _ _ (show Br ≠ b from fun e => hbH e.symm)]; exact hc⟩
/-- What is so at the label: these lists have been read, there is room for so many calls. -/
def ListsI (H Br g : Nat) (c1 c2 c4 : Value) (bs : List Int) (w : World) (ls : List (List Cl4)) (v : Value) (bs' : List Int) (room : Nat) (wr : World) : Prop :=
  ls.length ≤ g ∧ room ≤ 64 ∧ Hid (listsP g 64 bs = (listsP (g - ls.length) room bs').map fun q => (ls ++ q.1, q.2)) ∧ AllBytes bs' ∧ bs'.length ≤ 1000000 ∧ OwnsL w.heap.size ls v wr ∧ RdAt H Br (.int .i64 (g : Int)) c1 c2 v c4 bs' wr ∧ But w.heap.size Br w wr
def listsMu (Br g : Nat) (w : World) : Nat := match w.cell? ⟨Br, 3, none⟩ with
  | some (.slice _ n _) => g - n
  | _ => 0
set_option maxRecDepth 100000 in
set_option maxHeartbeats 4000000 in
theorem Try.lists_any (H Br g : Nat) (hg : g ≤ 8) (c1 c2 c4 : Value) (bs : List Int) (hl : bs.length ≤ 1000000) (hbs : AllBytes bs) (w : World) (hH : H ≤ w.heap.size) (hR : RdAt H Br (.int .i64 (g : Int)) c1 c2 (.slice none 0 0) c4 bs w) :
    Calls Try.prog 65 #[.pointer (some ⟨Br, 0, none⟩)] w fun e w' => But w.heap.size Br w w' ∧
      ((∃ ls r v, listsP g 64 bs = some (ls, r) ∧ e = .returned (.tuple #[]) ∧ OwnsL w.heap.size ls v w' ∧ RdAt H Br (.int .i64 (g : Int)) c1 c2 v c4 r w') ∨ (listsP g 64 bs = none ∧ e = .panicked errB)) := by
  obtain ⟨i0, hi, hz0, hz1, hz2⟩ := info_parts Try.infoRowC
  have hBrl : Br < w.heap.size := by
    obtain ⟨_, _, _, r1, _⟩ := hR
    exact r1.lt
  have hI0 : ListsI H Br g c1 c2 c4 bs w [] (.slice none 0 0) bs 64 w := ⟨Nat.zero_le _, Nat.le_refl _, Lib.hid (by cases listsP g 64 bs <;> simp), hbs, hl, ownsL_nil _ _, hR, But.refl _ _ _⟩
  clear hR hbs
  go_enter Try.func65, Try.ntmps65
  go_wp2
  refine wp_scope_jumps 0 (fun a' w' => ∃ (ls : List (List Cl4)) (v : Value) (bs' : List Int) (room : Nat) (u1 u3 u4 u5 u6 u7 u8 u9 u10 u11 u12 u13 u14 u15 u16 u17 u18 u19 u20 u21 u22 u23 u24 u25 u26 u27 u28 u29 u30 u31 u32 u33 u34 : Value), a' = { tmps := #[.pointer (some ⟨Br, 0, none⟩), u1, .int .i64 (room : Int), u3, u4, u5, u6, u7, u8, u9, u10, u11, u12, u13, u14, u15, u16, u17, u18, u19, u20, u21, u22, u23, u24, u25, u26, u27, u28, u29, u30, u31, u32, u33, u34], defers := [] } ∧ ListsI H Br g c1 c2 c4 bs w ls v bs' room w') (fun _ w' => listsMu Br g w') rfl ?_ ?_
  · obtain ⟨ls, hls⟩ : ∃ ls : List (List Cl4), ls = [] := ⟨_, rfl⟩
    obtain ⟨v, hv⟩ : ∃ v : Value, v = .slice none 0 0 := ⟨_, rfl⟩
    obtain ⟨bs', hbs'⟩ : ∃ b, b = bs := ⟨_, rfl⟩
    obtain ⟨room, hro⟩ : ∃ r : Nat, r = 64 := ⟨_, rfl⟩
    have hI : ListsI H Br g c1 c2 c4 bs w ls v bs' room w := by rw [hls, hv, hbs', hro]; exact hI0
    have hr64 : (64 : Int) = (room : Int) := by rw [hro]; rfl
    rw [hr64]
    clear hI0 hls hv hbs' hro hr64
    go_wp2
    go_step3
    obtain ⟨hlg, hrm, hE, hbq, hql, hO, hR, hB⟩ := hI
    obtain ⟨x3, cp3, rfl⟩ : ∃ x cp, v = .slice x ls.length cp := by
      obtain ⟨vs, h1, _⟩ := hO
      obtain ⟨_, a, cap, h, _⟩ := rowAt_own h1
      exact ⟨a, cap, h⟩
    have HRd : Hid (RdAt H Br (.int .i64 (g : Int)) c1 c2 (.slice x3 ls.length cp3) c4 bs' w.drew) := Lib.hid hR
    have HOd : Hid (OwnsL w.heap.size ls (.slice x3 ls.length cp3) w.drew) := Lib.hid hO
    have HBd : Hid (But w.heap.size Br w w.drew) := Lib.hid hB.drew
    obtain ⟨al, nl, cl, r1, r2, r3⟩ := hR
    have k0 := r1.cell 0
    have k3 := r1.cell 3
    simp at k0 k3
    have HK3 := Lib.hid k3
    have HBQ := Lib.hid hbq
    clear hO hB r1 r2 r3 hbq
    by_cases hlt : ls.length < g
    · have q1 : (ls.length : Int) < (g : Int) := by omega
      go_wp2_with fail
      go_region
      all_goals go_wp2_with fail
      have hzr := HBd.out.size
      have HC := Try.list_any H Br room (by omega) (.int .i64 (g : Int)) c1 c2 (.slice x3 ls.length cp3) c4 bs' hql HBQ.out w.drew (by omega) HRd.out
      clear k0 k3
      generalize hwd : w.drew = wd at *
      clear hwd
      refine HC.mono ?_
      rintro e w3 ⟨hB3, (⟨cs, q2, v2, ho, rfl, hO3, hR3⟩ | ⟨ho, rfl⟩)⟩
      · obtain ⟨f1, f2, f3⟩ := listP_facts ho HBQ.out
        obtain ⟨x2, cp2, rfl⟩ : ∃ x cp, v2 = .slice x cs.length cp := by
          obtain ⟨_, a, cap, h, _⟩ := rowAt_own hO3
          exact ⟨a, cap, h⟩
        have hz3 := hB3.size
        have hE2 : Hid (listsP g 64 bs = (listsP (g - (ls ++ [cs]).length) (room - cs.length) q2).map fun q => ((ls ++ [cs]) ++ q.1, q.2)) := Lib.hid (by rw [hE.out]; exact listsP_step ls hlt ho)
        have HO3 := Lib.hid (HOd.out.but hB3 (Nat.le_refl _) hBrl)
        have hOc := owns_base hzr hO3
        have HB3 := Lib.hid (HBd.out.trans ⟨hB3.os, hB3.tape, hB3.output, hB3.size, fun i hi2 hx => hB3.block i (by omega) hx⟩)
        obtain ⟨vs, hv1, hv2⟩ := HO3.out
        have HV1 := Lib.hid hv1
        have HV2 := Lib.hid hv2
        have HOC := Lib.hid hOc
        have HR3 := Lib.hid hR3
        have HF2 := Lib.hid f2
        have hll : (ls ++ [cs]).length = ls.length + 1 := by simp
        have k33 : w3.cell? ⟨Br, 3, none⟩ = some (.slice x3 ls.length cp3) := by
          obtain ⟨_, _, _, r1, _⟩ := hR3
          have := r1.cell 3
          simpa using this
        clear ho hB3 hO3 hR3 HC HRd HOd HBd hv1 hv2 hOc f2 HO3
        dsimp only
        go_wp2_with (at_builtin; refine wpList_append_own _ rfl _ _ 23 rfl w.heap.size 53 i0 (.slice none 0 0) 1 24 Try.underlying23 hi hz0 hz1 hz2 rfl (by decide) _ _ _ rfl (World.ownsRow.alloc HV1.out _) ⟨w3.heap.size, 0, none⟩ 1 1 [.slice x2 cs.length cp2] rfl rfl (cells_new w3 _ [.slice x2 cs.length cp2]) (by simp [Value.oneCell']) (by unfold maxLen; omega) (by omega) (by simp; omega) ?_)
        intro v4 w4 hown4 hg4 _
        obtain ⟨x5, c5, rfl⟩ : ∃ x c, v4 = .slice x (ls.length + 1) c := by
          obtain ⟨_, a, cap, h, _⟩ := rowAt_own hown4
          exact ⟨a, cap, h⟩
        have hoa := World.ownsRow.alloc HV1.out (.cells #[.slice x2 cs.length cp2] 53)
        have hba : Below w3.heap.size w3 (w3.alloc (.cells #[.slice x2 cs.length cp2] 53)) := (Below.refl _ _).alloc (Nat.le_refl _) _
        have hb4 := ((Below.refl w.heap.size w3).alloc (by omega) (.cells #[.slice x2 cs.length cp2] 53)).grown hg4 (by simp; omega) (fun j ej => (World.ownsRow.lt hoa j ej).1)
        have hOL4 : OwnsL w.heap.size (ls ++ [cs]) (.slice x5 (ls.length + 1) c5) w4 := ownsL_snoc hoa (HV2.out.keep hba (Nat.le_refl _)) (owns_keep HOC.out hba (Nat.le_refl _)) hown4 hg4
        have hR4 := HR3.out.beneath hb4 hBrl hH
        have k4 : w4.cell? ⟨Br, 3, none⟩ = some (.slice x3 ls.length cp3) ∧ w4.frozen? ⟨Br, 3, none⟩ = false ∧ Br < w4.heap.size := by
          obtain ⟨_, _, _, r1, _⟩ := hR4
          have := r1.cell 3
          exact ⟨by simpa using this, r1.frozen 3, r1.lt⟩
        obtain ⟨k4, k5, k6⟩ := k4
        have hbut : But w4.heap.size Br w4 (w4.setCell ⟨Br, 3, none⟩ (.slice x5 (ls.length + 1) c5)) := (But.refl _ _ _).setCell 3 _
        have hJ : ListsI H Br g c1 c2 c4 bs w (ls ++ [cs]) (.slice x5 (ls.length + 1) c5) q2 (room - cs.length) (w4.setCell ⟨Br, 3, none⟩ (.slice x5 (ls.length + 1) c5)) :=
          ⟨by rw [hll]; omega, by omega, hE2, HF2.out, by omega, hOL4.but hbut (Nat.le_refl _) hBrl, hR4.set3 _, HB3.out.trans ((But.of_below hb4).trans ((But.refl _ _ _).setCell 3 _))⟩
        have HJ := Lib.hid hJ
        have hsub : ((room : Int) - (cs.length : Int)) = ((room - cs.length : Nat) : Int) := by omega
        clear hown4 hg4 hoa hba hb4 hOL4 hR4 hbut hJ k33
        go_wp2_with fail
        go_step3
        exact ⟨rfl, ls ++ [cs], _, q2, room - cs.length, _, _, _, _, _, _, _, _, _, _, _, _, _, _, _, _, _, _, _, _, _, _, _, _, _, _, _, _, _, _, _, _, _, by (first | rfl | (congr 3 <;> omega)), HJ.out⟩
      · have hno : Hid (listsP g 64 bs = none) := Lib.hid (by rw [hE.out, listsP_none hlt ho]; rfl)
        have HB3 := Lib.hid (HBd.out.trans ⟨hB3.os, hB3.tape, hB3.output, hB3.size, fun i hi2 hx => hB3.block i (by omega) hx⟩)
        clear ho hB3 HC
        dsimp only
        go_wp2_with fail
        exact ⟨rfl, HB3.out, .inr ⟨hno.out, rfl⟩⟩
    · have q1 : ¬ (ls.length : Int) < (g : Int) := by omega
      have hdone : Hid (listsP g 64 bs = some (ls, bs')) := Lib.hid (by rw [hE.out, show g - ls.length = 0 by omega]; simp [listsP])
      go_wp2_with fail
      go_region
      all_goals go_wp2_with fail
      first | simp only [Exit.jump] | skip
      go_end0
      exact ⟨HBd.out, .inl ⟨ls, bs', _, hdone.out, rfl, HOd.out, HRd.out⟩⟩

  · rintro a' wr ⟨ls, v, bs', room, u1, u3, u4, u5, u6, u7, u8, u9, u10, u11, u12, u13, u14, u15, u16, u17, u18, u19, u20, u21, u22, u23, u24, u25, u26, u27, u28, u29, u30, u31, u32, u33, u34, rfl, hI⟩
    clear hI0
    obtain ⟨hlg, hrm, hE, hbq, hql, hO, hR, hB⟩ := hI
    obtain ⟨x3, cp3, rfl⟩ : ∃ x cp, v = .slice x ls.length cp := by
      obtain ⟨vs, h1, _⟩ := hO
      obtain ⟨_, a, cap, h, _⟩ := rowAt_own h1
      exact ⟨a, cap, h⟩
    have HRd : Hid (RdAt H Br (.int .i64 (g : Int)) c1 c2 (.slice x3 ls.length cp3) c4 bs' wr.drew) := Lib.hid hR
    have HOd : Hid (OwnsL w.heap.size ls (.slice x3 ls.length cp3) wr.drew) := Lib.hid hO
    have HBd : Hid (But w.heap.size Br w wr.drew) := Lib.hid hB.drew
    obtain ⟨al, nl, cl, r1, r2, r3⟩ := hR
    have k0 := r1.cell 0
    have k3 := r1.cell 3
    simp at k0 k3
    have HK3 := Lib.hid k3
    have HBQ := Lib.hid hbq
    clear hO hB r1 r2 r3 hbq
    by_cases hlt : ls.length < g
    · have q1 : (ls.length : Int) < (g : Int) := by omega
      go_wp2_with fail
      go_region
      all_goals go_wp2_with fail
      have hzr := HBd.out.size
      have HC := Try.list_any H Br room (by omega) (.int .i64 (g : Int)) c1 c2 (.slice x3 ls.length cp3) c4 bs' hql HBQ.out wr.drew (by omega) HRd.out
      clear k0 k3
      generalize hwd : wr.drew = wd at *
      clear hwd
      refine HC.mono ?_
      rintro e w3 ⟨hB3, (⟨cs, q2, v2, ho, rfl, hO3, hR3⟩ | ⟨ho, rfl⟩)⟩
      · obtain ⟨f1, f2, f3⟩ := listP_facts ho HBQ.out
        obtain ⟨x2, cp2, rfl⟩ : ∃ x cp, v2 = .slice x cs.length cp := by
          obtain ⟨_, a, cap, h, _⟩ := rowAt_own hO3
          exact ⟨a, cap, h⟩
        have hz3 := hB3.size
        have hE2 : Hid (listsP g 64 bs = (listsP (g - (ls ++ [cs]).length) (room - cs.length) q2).map fun q => ((ls ++ [cs]) ++ q.1, q.2)) := Lib.hid (by rw [hE.out]; exact listsP_step ls hlt ho)
        have HO3 := Lib.hid (HOd.out.but hB3 (Nat.le_refl _) hBrl)
        have hOc := owns_base hzr hO3
        have HB3 := Lib.hid (HBd.out.trans ⟨hB3.os, hB3.tape, hB3.output, hB3.size, fun i hi2 hx => hB3.block i (by omega) hx⟩)
        obtain ⟨vs, hv1, hv2⟩ := HO3.out
        have HV1 := Lib.hid hv1
        have HV2 := Lib.hid hv2
        have HOC := Lib.hid hOc
        have HR3 := Lib.hid hR3
        have HF2 := Lib.hid f2
        have hll : (ls ++ [cs]).length = ls.length + 1 := by simp
        have k33 : w3.cell? ⟨Br, 3, none⟩ = some (.slice x3 ls.length cp3) := by
          obtain ⟨_, _, _, r1, _⟩ := hR3
          have := r1.cell 3
          simpa using this
        clear ho hB3 hO3 hR3 HC HRd HOd HBd hv1 hv2 hOc f2 HO3
        dsimp only
        go_wp2_with (at_builtin; refine wpList_append_own _ rfl _ _ 23 rfl w.heap.size 53 i0 (.slice none 0 0) 1 24 Try.underlying23 hi hz0 hz1 hz2 rfl (by decide) _ _ _ rfl (World.ownsRow.alloc HV1.out _) ⟨w3.heap.size, 0, none⟩ 1 1 [.slice x2 cs.length cp2] rfl rfl (cells_new w3 _ [.slice x2 cs.length cp2]) (by simp [Value.oneCell']) (by unfold maxLen; omega) (by omega) (by simp; omega) ?_)
        intro v4 w4 hown4 hg4 _
        obtain ⟨x5, c5, rfl⟩ : ∃ x c, v4 = .slice x (ls.length + 1) c := by
          obtain ⟨_, a, cap, h, _⟩ := rowAt_own hown4
          exact ⟨a, cap, h⟩
        have hoa := World.ownsRow.alloc HV1.out (.cells #[.slice x2 cs.length cp2] 53)
        have hba : Below w3.heap.size w3 (w3.alloc (.cells #[.slice x2 cs.length cp2] 53)) := (Below.refl _ _).alloc (Nat.le_refl _) _
        have hb4 := ((Below.refl w.heap.size w3).alloc (by omega) (.cells #[.slice x2 cs.length cp2] 53)).grown hg4 (by simp; omega) (fun j ej => (World.ownsRow.lt hoa j ej).1)
        have hOL4 : OwnsL w.heap.size (ls ++ [cs]) (.slice x5 (ls.length + 1) c5) w4 := ownsL_snoc hoa (HV2.out.keep hba (Nat.le_refl _)) (owns_keep HOC.out hba (Nat.le_refl _)) hown4 hg4
        have hR4 := HR3.out.beneath hb4 hBrl hH
        have k4 : w4.cell? ⟨Br, 3, none⟩ = some (.slice x3 ls.length cp3) ∧ w4.frozen? ⟨Br, 3, none⟩ = false ∧ Br < w4.heap.size := by
          obtain ⟨_, _, _, r1, _⟩ := hR4
          have := r1.cell 3
          exact ⟨by simpa using this, r1.frozen 3, r1.lt⟩
        obtain ⟨k4, k5, k6⟩ := k4
        have hbut : But w4.heap.size Br w4 (w4.setCell ⟨Br, 3, none⟩ (.slice x5 (ls.length + 1) c5)) := (But.refl _ _ _).setCell 3 _
        have hJ : ListsI H Br g c1 c2 c4 bs w (ls ++ [cs]) (.slice x5 (ls.length + 1) c5) q2 (room - cs.length) (w4.setCell ⟨Br, 3, none⟩ (.slice x5 (ls.length + 1) c5)) :=
          ⟨by rw [hll]; omega, by omega, hE2, HF2.out, by omega, hOL4.but hbut (Nat.le_refl _) hBrl, hR4.set3 _, HB3.out.trans ((But.of_below hb4).trans ((But.refl _ _ _).setCell 3 _))⟩
        have HJ := Lib.hid hJ
        have hsub : ((room : Int) - (cs.length : Int)) = ((room - cs.length : Nat) : Int) := by omega
        have hMu : listsMu Br g (w4.setCell ⟨Br, 3, none⟩ (.slice x5 (ls.length + 1) c5)) < listsMu Br g wr := by
          have h5 : (w4.setCell ⟨Br, 3, none⟩ (.slice x5 (ls.length + 1) c5)).cell? ⟨Br, 3, none⟩ = some (.slice x5 (ls.length + 1) c5) := by
            obtain ⟨_, _, _, r1, _⟩ := hJ.2.2.2.2.2.2.1
            have := r1.cell 3
            simpa using this
          unfold listsMu
          rw [h5, show wr.cell? ⟨Br, 3, none⟩ = _ from HK3.out]
          show g - (ls.length + 1) < g - ls.length
          omega
        have HMu := Lib.hid hMu
        clear hMu
        clear hown4 hg4 hoa hba hb4 hOL4 hR4 hbut hJ k33
        go_wp2_with fail
        go_step3
        exact ⟨rfl, ⟨ls ++ [cs], _, q2, room - cs.length, _, _, _, _, _, _, _, _, _, _, _, _, _, _, _, _, _, _, _, _, _, _, _, _, _, _, _, _, _, _, _, _, _, by (first | rfl | (congr 3 <;> omega)), HJ.out⟩, HMu.out⟩
      · have hno : Hid (listsP g 64 bs = none) := Lib.hid (by rw [hE.out, listsP_none hlt ho]; rfl)
        have HB3 := Lib.hid (HBd.out.trans ⟨hB3.os, hB3.tape, hB3.output, hB3.size, fun i hi2 hx => hB3.block i (by omega) hx⟩)
        clear ho hB3 HC
        dsimp only
        go_wp2_with fail
        exact ⟨rfl, HB3.out, .inr ⟨hno.out, rfl⟩⟩
    · have q1 : ¬ (ls.length : Int) < (g : Int) := by omega
      have hdone : Hid (listsP g 64 bs = some (ls, bs')) := Lib.hid (by rw [hE.out, show g - ls.length = 0 by omega]; simp [listsP])
      go_wp2_with fail
      go_region
      all_goals go_wp2_with fail
      first | simp only [Exit.jump] | skip
      go_end0
      exact ⟨HBd.out, .inl ⟨ls, bs', _, hdone.out, rfl, HOd.out, HRd.out⟩⟩

end Go.Proofs
