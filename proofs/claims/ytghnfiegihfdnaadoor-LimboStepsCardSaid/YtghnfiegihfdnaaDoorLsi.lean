/- Limbo: the reference: Run. -/
import Derived.Test.YtghnfiegihfdnaaDoorLsh
namespace Go.Proofs
set_option maxRecDepth 100000
open Go.RowKit Go.Shelf
attribute [local go_sem] Oper.semAt_some

/-- What stands while the reference runs. -/
structure RnI (w : World) (E : Nat) (s : Ls) (r : Rw3) (q : List Pr) (a : Option Addr) (n c M : Nat) (W : World) : Prop where
  bx : Rows8 W w.heap.size 26 #[.int .u64 (E : Nat), .slice (s.a 0) (s.n 0) (s.c 0), .slice (s.a 1) (s.n 1) (s.c 1), .slice (s.a 2) (s.n 2) (s.c 2)]
  zx : Rows8 W (w.heap.size + 1) 26 #[.int .u64 0, .slice none 0 0, .slice none 0 0, .slice none 0 0]
  at_ : LAt W s r
  ow : OwnE w.heap.size q (.slice a n c) W
  bl : Below w.heap.size w W
  rt : rightL E r = true
  r3 : r 3 = []
  ln : q.length + (heldL E r).length ≤ M
  na : ∀ j, (Value.slice a n c).ownBlock = some j → NotAt j s r
theorem RnI.below {w : World} {E : Nat} {s : Ls} {r : Rw3} {q : List Pr} {a : Option Addr} {n c M : Nat} {W W' : World} (h : RnI w E s r q a n c M W) (hB : Below W.heap.size W W') : RnI w E s r q a n c M W' :=
  ⟨h.bx.below hB h.bx.lt, h.zx.below hB h.zx.lt, h.at_.below hB, h.ow.keep hB (Nat.le_refl _), h.bl.trans (hB.mono h.bl.size), h.rt, h.r3, h.ln, h.na⟩
theorem RnI.drew {w : World} {E : Nat} {s : Ls} {r : Rw3} {q : List Pr} {a : Option Addr} {n c M : Nat} {W : World} (h : RnI w E s r q a n c M W) : RnI w E s r q a n c M W.drew := ⟨h.bx, h.zx, fun k hk => h.at_ k hk, h.ow.drew, h.bl.drew, h.rt, h.r3, h.ln, h.na⟩
/-- Another box is written. -/
theorem RnI.set {w : World} {E : Nat} {s : Ls} {r : Rw3} {q : List Pr} {a : Option Addr} {n c M : Nat} {W : World} (h : RnI w E s r q a n c M W) {B : Nat} {e : Int} {x0 x1 x2 : Option Addr} {m0 m1 m2 d0 d1 d2 : Nat} (hR : Rows8 W B 26 #[.int .u64 e, .slice x0 m0 d0, .slice x1 m1 d1, .slice x2 m2 d2]) (hB : w.heap.size + 1 < B) (v0 v1 v2 v3 : Value) : RnI w E s r q a n c M ((((W.setCell ⟨B, 0, none⟩ v0).setCell ⟨B, 1, none⟩ v1).setCell ⟨B, 2, none⟩ v2).setCell ⟨B, 3, none⟩ v3) :=
  ⟨h.bx.oth4 (by omega) v0 v1 v2 v3, h.zx.oth4 (by omega) v0 v1 v2 v3, lat_set4 h.at_ hR v0 v1 v2 v3, h.ow.setT hR v0 v1 v2 v3, below4 h.bl (by omega) v0 v1 v2 v3, h.rt, h.r3, h.ln, h.na⟩
/-- The box itself is written. -/
theorem RnI.next {w : World} {E F : Nat} {s u : Ls} {r v : Rw3} {q : List Pr} {a : Option Addr} {n c M N : Nat} {W : World} (h : RnI w E s r q a n c M W) (hv : LAt W u v) (hr : rightL F v = true) (h3 : v 3 = []) (hl : q.length + (heldL F v).length ≤ N) (hna : ∀ j, (Value.slice a n c).ownBlock = some j → NotAt j u v) : RnI w F u v q a n c N ((((W.setCell ⟨w.heap.size, 0, none⟩ (.int .u64 (F : Nat))).setCell ⟨w.heap.size, 1, none⟩ (.slice (u.a 0) (u.n 0) (u.c 0))).setCell ⟨w.heap.size, 2, none⟩ (.slice (u.a 1) (u.n 1) (u.c 1))).setCell ⟨w.heap.size, 3, none⟩ (.slice (u.a 2) (u.n 2) (u.c 2))) :=
  ⟨rows4 h.bx _ _ _ _, h.zx.oth4 (by omega) _ _ _ _, lat_set4 hv h.bx _ _ _ _, h.ow.setT h.bx _ _ _ _, below4 h.bl (Nat.le_refl _) _ _ _ _, hr, h3, hl, hna⟩
/-- One more is taken. -/
theorem RnI.app {w : World} {E : Nat} {s : Ls} {r : Rw3} {q : List Pr} {a : Option Addr} {n c M : Nat} {W w5 : World} (h : RnI w E s r q a n c M W) {z : Pr} {a5 : Option Addr} {n5 c5 : Nat} (ho : OwnE w.heap.size (q ++ [z]) (.slice a5 n5 c5) w5) (hg : W.grownBy w5 (Value.slice a n c).ownBlock) (hv : (Value.slice a5 n5 c5).ownBlock = (Value.slice a n c).ownBlock ∨ ∀ j, (Value.slice a5 n5 c5).ownBlock = some j → W.heap.size ≤ j) : RnI w E s r (q ++ [z]) a5 n5 c5 (M + 1) w5 :=
  ⟨(hg.block _ h.bx.lt (fun e => (h.ow.ne h.bx (by decide)) e.symm)).trans h.bx, (hg.block _ h.zx.lt (fun e => (h.ow.ne h.zx (by decide)) e.symm)).trans h.zx, lat_keep h.at_ hg.size (fun k b hk hr e hb => hg.block b hb (fun e2 => h.na b e2.symm k hk hr e)), ho, h.bl.grown hg h.bl.size (fun j ej => (h.ow.lt j ej).1), h.rt, h.r3, by rw [List.length_append]; have := h.ln; simp only [List.length_cons, List.length_nil]; omega, fun j ej => by
    rcases hv with e | e
    · exact h.na j (by rw [← e]; exact ej)
    · exact fun k hk hr e3 => by have h1 := lat_in h.at_ hk hr e3; have h2 := e j ej; omega⟩
theorem RnI.lE {w : World} {E : Nat} {s : Ls} {r : Rw3} {q : List Pr} {a : Option Addr} {n c M : Nat} {W : World} (h : RnI w E s r q a n c M W) : E < 18446744073709551616 := by
  have := (rightL_iff.1 h.rt).1.1
  omega
def RefRunQ (T : Rl) (e : Ending) (w' : World) : Prop := ∃ (s : Ls) (v : Value), e = .returned (.tuple #[.agg #[.int .u64 (T.2.1 : Nat), .slice (s.a 0) (s.n 0) (s.c 0), .slice (s.a 1) (s.n 1) (s.c 1), .slice (s.a 2) (s.n 2) (s.c 2)], v, .int .i64 T.1]) ∧ LAt w' s T.2.2 ∧ PAt w' v (T.2.2 3)
set_option maxHeartbeats 64000000 in
theorem Tryd.refRun_any (E : Nat) (s : Ls) (r : Rw3) (a : Option Addr) (n c : Nat) (l : List Pr) (w : World) (hI : LAt w s r) (hr : rightL E r = true) (h3 : r 3 = []) (hL : PAt w (.slice a n c) l) (hn : n ≤ 10000) :
    Calls Tryd.prog 30 #[.agg #[.int .u64 (E : Nat), .slice (s.a 0) (s.n 0) (s.c 0), .slice (s.a 1) (s.n 1) (s.c 1), .slice (s.a 2) (s.n 2) (s.c 2)], .slice a n c] w fun e w' => RefRunQ (tryL E r (runL E r l)) e w' ∧ Below w.heap.size w w' := by
  obtain ⟨T, hTT⟩ : ∃ T, T = tryL E r (runL E r l) := ⟨_, rfl⟩
  rw [← hTT]
  have HT := Lib.hid hTT
  clear hTT
  obtain ⟨W0, hW0⟩ : ∃ W, W = (w.alloc (.cells #[.int .u64 (E : Nat), .slice (s.a 0) (s.n 0) (s.c 0), .slice (s.a 1) (s.n 1) (s.c 1), .slice (s.a 2) (s.n 2) (s.c 2)] 26)).alloc (.cells #[.int .u64 0, .slice none 0 0, .slice none 0 0, .slice none 0 0] 26) := ⟨_, rfl⟩
  have hB0 : Below w.heap.size w W0 := by rw [hW0]; exact (Rows8.newB).alloc (by simp) _
  obtain ⟨M, hM⟩ : ∃ M, M = (heldL E r).length := ⟨_, rfl⟩
  have HM : Hid (M ≤ 128) := Lib.hid (by rw [hM]; exact ends_len hr)
  have HX0 : Hid (RnI w E s r [] none 0 0 (M + 0) W0) := Lib.hid ⟨by rw [hW0]; exact (Rows8.new _ _ _).alloc _, by rw [hW0]; exact rows_new2 _ _ _ _, hI.below hB0, .inl ⟨rfl, rfl⟩, hB0, hr, h3, by rw [hM]; simp, fun j e => by cases e⟩
  have HRL0 : Hid (runL E r l = runL E (updL r 3 []) (l.drop 0)) := Lib.hid (by rw [upd_same r 3 [] h3]; rfl)
  have HRT := Lib.hid hr
  have HL := Lib.hid hL
  have HN := Lib.hid (pAt_len hL).1
  have HNN := Lib.hid hn
  clear hB0 hI hr h3 hM hL hn
  go_enter Tryd.func30, Tryd.ntmps30
  go_upto_region 2 with fail
  rw [← hW0]
  clear hW0
  go_wp2_with fail
  go_loopw [7, 17] (fun v7 j wr => ∃ (k E2 : Nat) (s2 : Ls) (r2 : Rw3) (q2 : List Pr) (a2 : Option Addr) (n2 c2 : Nat), k ≤ n ∧ j = .int .i64 k ∧ v7 = .slice a2 n2 c2 ∧ Hid (RnI w E2 s2 r2 q2 a2 n2 c2 (M + k) wr) ∧ Hid (runL E r l = runL E2 (updL r2 3 q2) (l.drop k))) (fun _ j _ => n - (intOf j).toNat)
  case atStart => exact ⟨0, E, s, r, [], none, 0, 0, Nat.zero_le _, rfl, rfl, HX0, HRL0⟩
  case round =>
    clear HX0 HRL0
    obtain ⟨k, E2, s2, r2, q2, a2, n2, c2, hk, rfl, rfl, hX, HRL⟩ := hrel
    by_cases hlt : k < n
    · have hkl : k < l.length := by rw [← HN.out]; exact hlt
      have hki : (k : Int) < (n : Int) := by omega
      have hki0 : (0 : Int) ≤ (k : Int) := by omega
      have hnn := HNN.out
      obtain ⟨b, off, rfl, hb3, z0, z1⟩ := pAt_get (HL.out.below hX.out.bl) k hkl
      have hdr := List.drop_eq_getElem_cons hkl
      obtain ⟨p, hpe⟩ : ∃ p, p = l[k] := ⟨_, rfl⟩
      rw [← hpe] at z0 z1 hdr
      have HDR := Lib.hid hdr
      have hal : Below wr.heap.size wr ((wr.alloc (.cells #[.int .i64 p.1, .int .u64 (p.2 : Nat)] 38)).alloc (.cells #[.int .u64 0, .slice none 0 0, .slice none 0 0, .slice none 0 0] 26)) := (Rows8.newB).alloc (by simp) _
      have HX1 := Lib.hid (hX.out.below hal)
      have P9 : Hid (Rows8 ((wr.alloc (.cells #[.int .i64 p.1, .int .u64 (p.2 : Nat)] 38)).alloc (.cells #[.int .u64 0, .slice none 0 0, .slice none 0 0, .slice none 0 0] 26)) wr.heap.size 38 #[.int .i64 p.1, .int .u64 (p.2 : Nat)]) := Lib.hid ((Rows8.new _ _ _).alloc _)
      have P10 : Hid (Rows8 ((wr.alloc (.cells #[.int .i64 p.1, .int .u64 (p.2 : Nat)] 38)).alloc (.cells #[.int .u64 0, .slice none 0 0, .slice none 0 0, .slice none 0 0] 26)) (wr.heap.size + 1) 26 #[.int .u64 0, .slice none 0 0, .slice none 0 0, .slice none 0 0]) := Lib.hid (rows_new2 _ _ _ _)
      have H10 : Hid (w.heap.size + 1 < wr.heap.size + 1) := Lib.hid (by have := hX.out.bx.lt; omega)
      clear hdr hpe hal hkl hX
      by_cases hp : 0 ≤ p.1
      · have hp2 : p.1 ≥ 0 := hp
        as_aux_lemma =>
          obtain ⟨T3, hT3⟩ : ∃ T3, T3 = tryL E2 r2 (retN E2 r2 p) := ⟨_, rfl⟩
          have HRt := Lib.hid (Tryd.refRetire_any E2 s2 r2 p ((wr.alloc (.cells #[.int .i64 p.1, .int .u64 (p.2 : Nat)] 38)).alloc (.cells #[.int .u64 0, .slice none 0 0, .slice none 0 0, .slice none 0 0] 26)) HX1.out.at_ HX1.out.rt)
          rw [← hT3] at HRt
          have HC : Hid ((T3.1 = 0 ∧ T3.2.1 = E2 ∧ T3.2.2 = updL r2 (E2 % 3) (r2 (E2 % 3) ++ [p]) ∧ okE p = true ∧ hasS (heldL E2 r2) p.1 = false) ∨ ((T3.1 = 2 ∨ T3.1 = 5) ∧ (retN E2 r2 p).1 = T3.1)) := Lib.hid (by
            have hr := HX1.out.rt
            cases ho : okE p with
            | false => exact .inr ⟨.inl (by rw [hT3, (tryRet hr p).1 ho]), by rw [hT3, (tryRet hr p).1 ho]; unfold retN; rw [if_pos ho]⟩
            | true =>
              cases hh : hasS (heldL E2 r2) p.1 with
              | true => exact .inr ⟨.inr (by rw [hT3, (tryRet hr p).2.1 ho hh]), by rw [hT3, (tryRet hr p).2.1 ho hh]; unfold retN; rw [if_neg (by rw [ho]; decide), if_pos (by rw [whenL_some]; exact hh)]⟩
              | false =>
                have e := (tryRet hr p).2.2 ho hh
                exact .inl ⟨by rw [hT3, e], by rw [hT3, e], by rw [hT3, e], rfl, rfl⟩)
          have hbx := HX1.out.bx
          have cc0 : ((wr.alloc (.cells #[.int .i64 p.1, .int .u64 (p.2 : Nat)] 38)).alloc (.cells #[.int .u64 0, .slice none 0 0, .slice none 0 0, .slice none 0 0] 26)).cell? ⟨w.heap.size, 0, none⟩ = some (.int .u64 (E2 : Nat)) := hbx.cell 0
          have cc1 : ((wr.alloc (.cells #[.int .i64 p.1, .int .u64 (p.2 : Nat)] 38)).alloc (.cells #[.int .u64 0, .slice none 0 0, .slice none 0 0, .slice none 0 0] 26)).cell? ⟨w.heap.size, 1, none⟩ = some (.slice (s2.a 0) (s2.n 0) (s2.c 0)) := hbx.cell 1
          have cc2 : ((wr.alloc (.cells #[.int .i64 p.1, .int .u64 (p.2 : Nat)] 38)).alloc (.cells #[.int .u64 0, .slice none 0 0, .slice none 0 0, .slice none 0 0] 26)).cell? ⟨w.heap.size, 2, none⟩ = some (.slice (s2.a 1) (s2.n 1) (s2.c 1)) := hbx.cell 2
          have cc3 : ((wr.alloc (.cells #[.int .i64 p.1, .int .u64 (p.2 : Nat)] 38)).alloc (.cells #[.int .u64 0, .slice none 0 0, .slice none 0 0, .slice none 0 0] 26)).cell? ⟨w.heap.size, 3, none⟩ = some (.slice (s2.a 2) (s2.n 2) (s2.c 2)) := hbx.cell 3
          have ltB := hbx.lt
          have e0 : ((wr.alloc (.cells #[.int .i64 p.1, .int .u64 (p.2 : Nat)] 38)).alloc (.cells #[.int .u64 0, .slice none 0 0, .slice none 0 0, .slice none 0 0] 26)).cell? ⟨wr.heap.size, 0, none⟩ = some (.int .i64 p.1) := P9.out.cell 0
          have e1 : ((wr.alloc (.cells #[.int .i64 p.1, .int .u64 (p.2 : Nat)] 38)).alloc (.cells #[.int .u64 0, .slice none 0 0, .slice none 0 0, .slice none 0 0] 26)).cell? ⟨wr.heap.size, 1, none⟩ = some (.int .u64 (p.2 : Nat)) := P9.out.cell 1
          have lt9 := P9.out.lt
          clear hT3 hbx
          go_wp2_with fail
          refine HRt.out.mono ?_
          rintro e W2 ⟨⟨s3, rfl, hl, hna⟩, hB2⟩
          have HNA := Lib.hid (fun j (ej : (Value.slice a2 n2 c2).ownBlock = some j) => hna j (HX1.out.ow.lt j ej).2 (HX1.out.na j ej))
          have HX2 := Lib.hid (HX1.out.below hB2)
          have P2 := Lib.hid (P10.out.below hB2 P10.out.lt)
          obtain ⟨t1, t2, t3⟩ := T3
          have HL2 := Lib.hid hl
          clear hl hB2 hna HRt HX1 P9 P10 cc0 cc1 cc2 cc3 ltB e0 e1 lt9
          generalize wr.heap.size + 1 = b10 at *
          have z0 : W2.cell? ⟨b10, 0, none⟩ = some (.int .u64 0) := P2.out.cell 0
          have f0 := P2.out.frozen 0
          have z1 : W2.cell? ⟨b10, 1, none⟩ = some (.slice none 0 0) := P2.out.cell 1
          have f1 := P2.out.frozen 1
          have z2 : W2.cell? ⟨b10, 2, none⟩ = some (.slice none 0 0) := P2.out.cell 2
          have f2 := P2.out.frozen 2
          have z3 : W2.cell? ⟨b10, 3, none⟩ = some (.slice none 0 0) := P2.out.cell 3
          have f3 := P2.out.frozen 3
          have ltz := P2.out.lt
          have HX3 := Lib.hid (HX2.out.set P2.out H10.out (.int .u64 (t2 : Nat)) (.slice (s3.a 0) (s3.n 0) (s3.c 0)) (.slice (s3.a 1) (s3.n 1) (s3.c 1)) (.slice (s3.a 2) (s3.n 2) (s3.c 2)))
          have P3 := Lib.hid (rows4 P2.out (.int .u64 (t2 : Nat)) (.slice (s3.a 0) (s3.n 0) (s3.c 0)) (.slice (s3.a 1) (s3.n 1) (s3.c 1)) (.slice (s3.a 2) (s3.n 2) (s3.c 2)))
          have HL3 := Lib.hid (lat_set4 HL2.out P2.out (.int .u64 (t2 : Nat)) (.slice (s3.a 0) (s3.n 0) (s3.c 0)) (.slice (s3.a 1) (s3.n 1) (s3.c 1)) (.slice (s3.a 2) (s3.n 2) (s3.c 2)))
          clear HX2 P2 HL2
          go_upto_region 12 with fail
          clear z0 z1 z2 z3 f0 f1 f2 f3 ltz
          generalize ((((W2.setCell ⟨b10, 0, none⟩ (.int .u64 (t2 : Nat))).setCell ⟨b10, 1, none⟩ (.slice (s3.a 0) (s3.n 0) (s3.c 0))).setCell ⟨b10, 2, none⟩ (.slice (s3.a 1) (s3.n 1) (s3.c 1))).setCell ⟨b10, 3, none⟩ (.slice (s3.a 2) (s3.n 2) (s3.c 2))) = W4 at *
          as_aux_lemma =>
            rcases HC.out with ⟨h1, h2, h3, h4, h5⟩ | ⟨h1, h2⟩
            · try simp only at h1 h2 h3
              subst h1 h3
              have H45 := Lib.hid (And.intro h2 (And.intro h4 h5))
              clear HC h2 h4 h5
              have k0 : W4.cell? ⟨b10, 0, none⟩ = some (.int .u64 (t2 : Nat)) := P3.out.cell 0
              have k1 : W4.cell? ⟨b10, 1, none⟩ = some (.slice (s3.a 0) (s3.n 0) (s3.c 0)) := P3.out.cell 1
              have k2 : W4.cell? ⟨b10, 2, none⟩ = some (.slice (s3.a 1) (s3.n 1) (s3.c 1)) := P3.out.cell 2
              have k3 : W4.cell? ⟨b10, 3, none⟩ = some (.slice (s3.a 2) (s3.n 2) (s3.c 2)) := P3.out.cell 3
              have y0 : W4.cell? ⟨w.heap.size, 0, none⟩ = some (.int .u64 (E2 : Nat)) := HX3.out.bx.cell 0
              have g0 := HX3.out.bx.frozen 0
              have y1 : W4.cell? ⟨w.heap.size, 1, none⟩ = some (.slice (s2.a 0) (s2.n 0) (s2.c 0)) := HX3.out.bx.cell 1
              have g1 := HX3.out.bx.frozen 1
              have y2 : W4.cell? ⟨w.heap.size, 2, none⟩ = some (.slice (s2.a 1) (s2.n 1) (s2.c 1)) := HX3.out.bx.cell 2
              have g2 := HX3.out.bx.frozen 2
              have y3 : W4.cell? ⟨w.heap.size, 3, none⟩ = some (.slice (s2.a 2) (s2.n 2) (s2.c 2)) := HX3.out.bx.cell 3
              have g3 := HX3.out.bx.frozen 3
              have lty := HX3.out.bx.lt
              have ltk := P3.out.lt
              have HX4 : Hid (RnI w t2 s3 (updL r2 (E2 % 3) (r2 (E2 % 3) ++ [p])) q2 a2 n2 c2 (M + (k + 1)) ((((W4.setCell ⟨w.heap.size, 0, none⟩ (.int .u64 (t2 : Nat))).setCell ⟨w.heap.size, 1, none⟩ (.slice (s3.a 0) (s3.n 0) (s3.c 0))).setCell ⟨w.heap.size, 2, none⟩ (.slice (s3.a 1) (s3.n 1) (s3.c 1))).setCell ⟨w.heap.size, 3, none⟩ (.slice (s3.a 2) (s3.n 2) (s3.c 2)))) := Lib.hid (by
                have h2 := H45.out.1
                have hw : whenL E2 r2 p.1 = none := by
                  cases hh : whenL E2 r2 p.1 with
                  | none => rfl
                  | some z => (have h9 := whenL_some (E := E2) (r := r2) (s := p.1); rw [hh, H45.out.2.2] at h9; cases h9)
                refine HX3.out.next HL3.out ?_ ?_ ?_ HNA.out
                · rw [h2]; exact ret_right HX3.out.rt H45.out.2.1 hw
                · rw [updL_ne _ _ (mod_ne _).symm]; exact HX3.out.r3
                · rw [h2, (ret_held HX3.out.rt p).2.2, List.length_append]; have := HX3.out.ln; simp only [List.length_cons, List.length_nil]; omega)
              have HRL2 : Hid (runL E r l = runL t2 (updL (updL r2 (E2 % 3) (r2 (E2 % 3) ++ [p])) 3 q2) (l.drop (k + 1))) := Lib.hid (by
                have hrn : retN E2 r2 p = (0, E2, updL r2 (E2 % 3) (r2 (E2 % 3) ++ [p])) := by
                  unfold retN
                  rw [if_neg (by rw [H45.out.2.1]; decide), if_neg (by rw [whenL_some, H45.out.2.2]; decide)]
                rw [HRL.out, HDR.out, run_ret _ _ _ _ _ hp, hrn, if_pos rfl, H45.out.1])
              clear HX3 P3 HL3 HRL HDR H45
              go_wp2_with fail
              exact ⟨⟨k + 1, t2, s3, _, q2, a2, n2, c2, by omega, by go_num, rfl, HX4, HRL2⟩, by simp [intOf]; omega⟩
            · try simp only at h1 h2
              have HTE : Hid (T = (t1, 0, fun _ => [])) := Lib.hid (by
                have hne : ¬ (retN E2 r2 p).1 = 0 := by rw [h2]; rcases h1 with rfl | rfl <;> decide
                have hne2 : ¬ t1 = 0 := by rcases h1 with rfl | rfl <;> decide
                rw [HT.out, HRL.out, HDR.out, run_ret _ _ _ _ _ hp, if_neg hne, h2]
                unfold tryL
                rw [HRT.out, if_pos rfl, if_neg hne2])
              have HXf := HX3
              have hne0 : (t1 != 0) = true := by rcases h1 with rfl | rfl <;> rfl
              clear HC h2 HX3 P3 HL3
              have HZ := Lib.hid HXf.out.zx
              have HR := Lib.hid (rows4 HZ.out (.int .u64 0) (.slice none 0 0) (.slice none 0 0) (.slice none 0 0))
              have HB3 := Lib.hid (below4 HXf.out.bl (B := w.heap.size + 1) (by omega) (.int .u64 0) (.slice none 0 0) (.slice none 0 0) (.slice none 0 0))
              have z0 : W4.cell? ⟨w.heap.size + 1, 0, none⟩ = some (.int .u64 0) := HZ.out.cell 0
              have f0 := HZ.out.frozen 0
              have z1 : W4.cell? ⟨w.heap.size + 1, 1, none⟩ = some (.slice none 0 0) := HZ.out.cell 1
              have f1 := HZ.out.frozen 1
              have z2 : W4.cell? ⟨w.heap.size + 1, 2, none⟩ = some (.slice none 0 0) := HZ.out.cell 2
              have f2 := HZ.out.frozen 2
              have z3 : W4.cell? ⟨w.heap.size + 1, 3, none⟩ = some (.slice none 0 0) := HZ.out.cell 3
              have f3 := HZ.out.frozen 3
              have ltz := HZ.out.lt
              rcases h1 with rfl | rfl
              · go_wp2_with fail
                refine bodyPost_ret (results_ctt rfl _ _ (w.heap.size + 1) _ _ _ rfl rfl rfl (load_row HR.out Tryd.underlying26 rfl (by kernel_rfl))) rfl ?_
                exact ⟨⟨zLs, .slice none 0 0, by rw [HTE.out]; rfl, by rw [HTE.out]; exact z3_at _, by rw [HTE.out]; exact pAt_none _⟩, HB3.out⟩
              · go_wp2_with fail
                refine bodyPost_ret (results_ctt rfl _ _ (w.heap.size + 1) _ _ _ rfl rfl rfl (load_row HR.out Tryd.underlying26 rfl (by kernel_rfl))) rfl ?_
                exact ⟨⟨zLs, .slice none 0 0, by rw [HTE.out]; rfl, by rw [HTE.out]; exact z3_at _, by rw [HTE.out]; exact pAt_none _⟩, HB3.out⟩
      · have hp2 : ¬ p.1 ≥ 0 := hp
        have HPN : Hid (p.1 < 0) := Lib.hid (by omega)
        have e0 : ((wr.alloc (.cells #[.int .i64 p.1, .int .u64 (p.2 : Nat)] 38)).alloc (.cells #[.int .u64 0, .slice none 0 0, .slice none 0 0, .slice none 0 0] 26)).cell? ⟨wr.heap.size, 0, none⟩ = some (.int .i64 p.1) := P9.out.cell 0
        have lt9 := P9.out.lt
        obtain ⟨R0, hR0⟩ : ∃ R, R = updL (updL r2 ((E2 + 1) % 3) []) 3 (q2 ++ readyL E2 r2) := ⟨_, rfl⟩
        have HR0 : Hid (updL (updL r2 ((E2 + 1) % 3) []) 3 (q2 ++ readyL E2 r2) = R0) := Lib.hid hR0.symm
        clear hR0
        go_wp2_with fail
        clear e0 lt9 P9 hp2 hp z0 z1 hb3
        generalize ((wr.alloc (.cells #[.int .i64 p.1, .int .u64 (p.2 : Nat)] 38)).alloc (.cells #[.int .u64 0, .slice none 0 0, .slice none 0 0, .slice none 0 0] 26)) = Wc at *
        generalize wr.heap.size + 1 = b10 at *
        as_aux_lemma =>
          go_loopg [7] ((readyL E2 r2).length) (fun g v7 wr => ∃ (r3 : Rw3) (s3 : Ls) (q3 : List Pr) (a3 : Option Addr) (n3 c3 : Nat), v7 = .slice a3 n3 c3 ∧ (readyL E2 r3).length ≤ g ∧ Hid (RnI w E2 s3 r3 q3 a3 n3 c3 (M + k) wr) ∧ Hid (Rows8 wr b10 26 #[.int .u64 0, .slice none 0 0, .slice none 0 0, .slice none 0 0]) ∧ Hid (updL (updL r3 ((E2 + 1) % 3) []) 3 (q3 ++ readyL E2 r3) = R0))
          case atStart => exact ⟨r2, s2, q2, a2, n2, c2, rfl, Nat.le_refl _, HX1, P10, HR0⟩
          case round =>
            obtain ⟨r3, s3, q3, a3, n3, c3, rfl, hg, hX, hZ, HU⟩ := hrel
            clear HX1 P10
            have HGG := Lib.hid hg
            have hbx := hX.out.bx
            have cc0 : wr.cell? ⟨w.heap.size, 0, none⟩ = some (.int .u64 (E2 : Nat)) := hbx.cell 0
            have cc1 : wr.cell? ⟨w.heap.size, 1, none⟩ = some (.slice (s3.a 0) (s3.n 0) (s3.c 0)) := hbx.cell 1
            have cc2 : wr.cell? ⟨w.heap.size, 2, none⟩ = some (.slice (s3.a 1) (s3.n 1) (s3.c 1)) := hbx.cell 2
            have cc3 : wr.cell? ⟨w.heap.size, 3, none⟩ = some (.slice (s3.a 2) (s3.n 2) (s3.c 2)) := hbx.cell 3
            have ltB := hbx.lt
            obtain ⟨ao, no, co, hof⟩ := ofV_form E2 2 s3
            have HOf := Tryd.refOf_any E2 s3 2 wr hX.out.lE (by decide)
            rw [hof] at HOf
            have HOf : Hid (Calls Tryd.prog 13 #[.agg #[.int .u64 (E2 : Nat), .slice (s3.a 0) (s3.n 0) (s3.c 0), .slice (s3.a 1) (s3.n 1) (s3.c 1), .slice (s3.a 2) (s3.n 2) (s3.c 2)], .int .u64 2] wr fun e w' => e = .returned (.slice ao no co) ∧ Below wr.heap.size wr w') := Lib.hid HOf
            have HNL : Hid (no = (readyL E2 r3).length) := Lib.hid (by
              have h := ofV_at hX.out.at_ E2 2
              rw [hof, of_ready hX.out.rt] at h
              exact (pAt_len h).1)
            clear hg hbx hof
            cases hz : readyL E2 r3 with
            | nil =>
              have hn0 : no = 0 := by rw [HNL.out, hz]; rfl
              subst hn0
              have HU2 : Hid (R0 = updL r3 3 q3) := Lib.hid (by rw [← HU.out]; exact drained E2 r3 q3 hz)
              have HZZ := Lib.hid hz
              clear hz HNL HGG
              go_wp2_with fail
              refine HOf.out.mono ?_
              rintro e W1x ⟨rfl, hB2⟩
              have HX1 := Lib.hid (hX.out.below hB2)
              have HZ1 := Lib.hid (hZ.out.below hB2 hZ.out.lt)
              obtain ⟨T3, hT3⟩ : ∃ T3, T3 = tryL E2 r3 (advN E2 r3) := ⟨_, rfl⟩
              have HAd := Lib.hid (Tryd.refAdvance_any E2 s3 r3 W1x HX1.out.at_ HX1.out.rt)
              rw [← hT3] at HAd
              have HC : Hid ((T3.1 = 0 ∧ T3.2.1 = E2 + 1 ∧ T3.2.2 = r3 ∧ E2 ≠ 4611686018427387904) ∨ (T3.1 = 6 ∧ E2 = 4611686018427387904)) := Lib.hid (by
                obtain ⟨-, h2, h3⟩ := tryAdv HX1.out.rt
                by_cases hE : E2 = 4611686018427387904
                · exact .inr ⟨by rw [hT3, h2 HZZ.out hE], hE⟩
                · have e := h3 HZZ.out hE
                  exact .inl ⟨by rw [hT3, e], by rw [hT3, e], by rw [hT3, e], hE⟩)
              clear hB2 HOf cc0 cc1 cc2 cc3 ltB hX hZ hT3
              have hbx := HX1.out.bx
              have cc0 : W1x.cell? ⟨w.heap.size, 0, none⟩ = some (.int .u64 (E2 : Nat)) := hbx.cell 0
              have cc1 : W1x.cell? ⟨w.heap.size, 1, none⟩ = some (.slice (s3.a 0) (s3.n 0) (s3.c 0)) := hbx.cell 1
              have cc2 : W1x.cell? ⟨w.heap.size, 2, none⟩ = some (.slice (s3.a 1) (s3.n 1) (s3.c 1)) := hbx.cell 2
              have cc3 : W1x.cell? ⟨w.heap.size, 3, none⟩ = some (.slice (s3.a 2) (s3.n 2) (s3.c 2)) := hbx.cell 3
              have ltB := hbx.lt
              clear hbx
              go_wp2_with fail
              refine HAd.out.mono ?_
              rintro e W2 ⟨⟨s4, rfl, hl, hna⟩, hB2⟩
              have HNA := Lib.hid (fun j (ej : (Value.slice a3 n3 c3).ownBlock = some j) => hna j (HX1.out.ow.lt j ej).2 (HX1.out.na j ej))
              have HX2 := Lib.hid (HX1.out.below hB2)
              have P2 := Lib.hid (HZ1.out.below hB2 HZ1.out.lt)
              obtain ⟨t1, t2, t3⟩ := T3
              have HL2 := Lib.hid hl
              clear hl hna hB2 HAd HX1 HZ1 cc0 cc1 cc2 cc3 ltB
              have z0 : W2.cell? ⟨b10, 0, none⟩ = some (.int .u64 0) := P2.out.cell 0
              have f0 := P2.out.frozen 0
              have z1 : W2.cell? ⟨b10, 1, none⟩ = some (.slice none 0 0) := P2.out.cell 1
              have f1 := P2.out.frozen 1
              have z2 : W2.cell? ⟨b10, 2, none⟩ = some (.slice none 0 0) := P2.out.cell 2
              have f2 := P2.out.frozen 2
              have z3 : W2.cell? ⟨b10, 3, none⟩ = some (.slice none 0 0) := P2.out.cell 3
              have f3 := P2.out.frozen 3
              have ltz := P2.out.lt
              have HX3 := Lib.hid (HX2.out.set P2.out H10.out (.int .u64 (t2 : Nat)) (.slice (s4.a 0) (s4.n 0) (s4.c 0)) (.slice (s4.a 1) (s4.n 1) (s4.c 1)) (.slice (s4.a 2) (s4.n 2) (s4.c 2)))
              have P3 := Lib.hid (rows4 P2.out (.int .u64 (t2 : Nat)) (.slice (s4.a 0) (s4.n 0) (s4.c 0)) (.slice (s4.a 1) (s4.n 1) (s4.c 1)) (.slice (s4.a 2) (s4.n 2) (s4.c 2)))
              have HL3 := Lib.hid (lat_set4 HL2.out P2.out (.int .u64 (t2 : Nat)) (.slice (s4.a 0) (s4.n 0) (s4.c 0)) (.slice (s4.a 1) (s4.n 1) (s4.c 1)) (.slice (s4.a 2) (s4.n 2) (s4.c 2)))
              clear HX2 P2 HL2
              go_upto_region 12 with fail
              clear z0 z1 z2 z3 f0 f1 f2 f3 ltz
              generalize ((((W2.setCell ⟨b10, 0, none⟩ (.int .u64 (t2 : Nat))).setCell ⟨b10, 1, none⟩ (.slice (s4.a 0) (s4.n 0) (s4.c 0))).setCell ⟨b10, 2, none⟩ (.slice (s4.a 1) (s4.n 1) (s4.c 1))).setCell ⟨b10, 3, none⟩ (.slice (s4.a 2) (s4.n 2) (s4.c 2))) = W4 at *
              as_aux_lemma =>
                rcases HC.out with ⟨h1, h2, h3, h4⟩ | ⟨h1, h2⟩
                · try simp only at h1 h2 h3
                  subst h1 h3
                  have H2 := Lib.hid (And.intro h2 h4)
                  clear HC h2 h4
                  have k0 : W4.cell? ⟨b10, 0, none⟩ = some (.int .u64 (t2 : Nat)) := P3.out.cell 0
                  have k1 : W4.cell? ⟨b10, 1, none⟩ = some (.slice (s4.a 0) (s4.n 0) (s4.c 0)) := P3.out.cell 1
                  have k2 : W4.cell? ⟨b10, 2, none⟩ = some (.slice (s4.a 1) (s4.n 1) (s4.c 1)) := P3.out.cell 2
                  have k3 : W4.cell? ⟨b10, 3, none⟩ = some (.slice (s4.a 2) (s4.n 2) (s4.c 2)) := P3.out.cell 3
                  have y0 : W4.cell? ⟨w.heap.size, 0, none⟩ = some (.int .u64 (E2 : Nat)) := HX3.out.bx.cell 0
                  have g0 := HX3.out.bx.frozen 0
                  have y1 : W4.cell? ⟨w.heap.size, 1, none⟩ = some (.slice (s3.a 0) (s3.n 0) (s3.c 0)) := HX3.out.bx.cell 1
                  have g1 := HX3.out.bx.frozen 1
                  have y2 : W4.cell? ⟨w.heap.size, 2, none⟩ = some (.slice (s3.a 1) (s3.n 1) (s3.c 1)) := HX3.out.bx.cell 2
                  have g2 := HX3.out.bx.frozen 2
                  have y3 : W4.cell? ⟨w.heap.size, 3, none⟩ = some (.slice (s3.a 2) (s3.n 2) (s3.c 2)) := HX3.out.bx.cell 3
                  have g3 := HX3.out.bx.frozen 3
                  have lty := HX3.out.bx.lt
                  have ltk := P3.out.lt
                  have HX4 : Hid (RnI w t2 s4 t3 q3 a3 n3 c3 (M + (k + 1)) ((((W4.setCell ⟨w.heap.size, 0, none⟩ (.int .u64 (t2 : Nat))).setCell ⟨w.heap.size, 1, none⟩ (.slice (s4.a 0) (s4.n 0) (s4.c 0))).setCell ⟨w.heap.size, 2, none⟩ (.slice (s4.a 1) (s4.n 1) (s4.c 1))).setCell ⟨w.heap.size, 3, none⟩ (.slice (s4.a 2) (s4.n 2) (s4.c 2)))) := Lib.hid (by
                    have h2 := H2.out.1
                    refine HX3.out.next HL3.out ?_ ?_ ?_ HNA.out
                    · rw [h2]; exact adv_right HX3.out.rt HZZ.out H2.out.2
                    · exact HX3.out.r3
                    · rw [h2, (adv_held HX3.out.rt HZZ.out).1]; have := HX3.out.ln; omega)
                  have HRL2 : Hid (runL E r l = runL t2 (updL t3 3 q3) (l.drop (k + 1))) := Lib.hid (by
                    rw [HRL.out, HDR.out, run_on3 _ _ _ _ _ HPN.out, if_neg H2.out.2, HR0.out, HU2.out, H2.out.1])
                  clear HX3 P3 HL3 HRL HDR H2
                  go_wp2_with fail
                  exact ⟨⟨k + 1, t2, s4, _, q3, a3, n3, c3, by omega, by go_num, rfl, HX4, HRL2⟩, by simp [intOf]; omega⟩
                · try simp only at h1 h2
                  have HTE : Hid (T = (6, 0, fun _ => [])) := Lib.hid (by
                    rw [HT.out, HRL.out, HDR.out, run_on3 _ _ _ _ _ HPN.out, if_pos h2]
                    unfold tryL
                    rw [HRT.out, if_pos rfl]
                    exact if_neg (show ¬ (6 : Int) = 0 by decide))
                  have HXf := HX3
                  subst h1
                  clear HC h2 HX3 P3 HL3
                  have HZ := Lib.hid HXf.out.zx
                  have HR := Lib.hid (rows4 HZ.out (.int .u64 0) (.slice none 0 0) (.slice none 0 0) (.slice none 0 0))
                  have HB3 := Lib.hid (below4 HXf.out.bl (B := w.heap.size + 1) (by omega) (.int .u64 0) (.slice none 0 0) (.slice none 0 0) (.slice none 0 0))
                  have z0 : W4.cell? ⟨w.heap.size + 1, 0, none⟩ = some (.int .u64 0) := HZ.out.cell 0
                  have f0 := HZ.out.frozen 0
                  have z1 : W4.cell? ⟨w.heap.size + 1, 1, none⟩ = some (.slice none 0 0) := HZ.out.cell 1
                  have f1 := HZ.out.frozen 1
                  have z2 : W4.cell? ⟨w.heap.size + 1, 2, none⟩ = some (.slice none 0 0) := HZ.out.cell 2
                  have f2 := HZ.out.frozen 2
                  have z3 : W4.cell? ⟨w.heap.size + 1, 3, none⟩ = some (.slice none 0 0) := HZ.out.cell 3
                  have f3 := HZ.out.frozen 3
                  have ltz := HZ.out.lt
                  go_wp2_with fail
                  refine bodyPost_ret (results_ctt rfl _ _ (w.heap.size + 1) _ _ _ rfl rfl rfl (load_row HR.out Tryd.underlying26 rfl (by kernel_rfl))) rfl ?_
                  exact ⟨⟨zLs, .slice none 0 0, by rw [HTE.out]; rfl, by rw [HTE.out]; exact z3_at _, by rw [HTE.out]; exact pAt_none _⟩, HB3.out⟩
            | cons z t =>
              have d0 : ((no : Nat) : Int) > 0 := by have := HNL.out; rw [hz] at this; simp only [List.length_cons] at this; omega
              have d1 : decide (((no : Nat) : Int) > 0) = true := decide_eq_true d0
              have d2 : (0 : Int) < ((no : Nat) : Int) := d0
              have d3 : 0 < no := by omega
              have HZZ := Lib.hid hz
              clear hz HNL
              go_wp2_with fail
              refine HOf.out.mono ?_
              rintro e W2 ⟨rfl, hB2⟩
              have HX2 := Lib.hid (hX.out.below hB2)
              have HZ2 := Lib.hid (hZ.out.below hB2 hZ.out.lt)
              have h3 : ((takR E2 r3) 3).headD (0, 0) = z := by rw [takR_3, HX2.out.r3, HZZ.out]; rfl
              have HTk := Tryd.refTake_any E2 s3 r3 W2 HX2.out.at_ HX2.out.rt HX2.out.r3
              rw [(tryTakR HX2.out.rt).2 (by rw [HZZ.out]; exact List.cons_ne_nil _ _)] at HTk
              unfold RefTakQ at HTk
              dsimp only at HTk
              rw [h3] at HTk
              have HTk := Lib.hid HTk
              clear hB2 HOf cc0 cc1 cc2 cc3 ltB hX hZ h3
              have hbx := HX2.out.bx
              have cc0 : W2.cell? ⟨w.heap.size, 0, none⟩ = some (.int .u64 (E2 : Nat)) := hbx.cell 0
              have cc1 : W2.cell? ⟨w.heap.size, 1, none⟩ = some (.slice (s3.a 0) (s3.n 0) (s3.c 0)) := hbx.cell 1
              have cc2 : W2.cell? ⟨w.heap.size, 2, none⟩ = some (.slice (s3.a 1) (s3.n 1) (s3.c 1)) := hbx.cell 2
              have cc3 : W2.cell? ⟨w.heap.size, 3, none⟩ = some (.slice (s3.a 2) (s3.n 2) (s3.c 2)) := hbx.cell 3
              have ltB := hbx.lt
              clear hbx
              go_wp2_with fail
              refine HTk.out.mono ?_
              rintro e W3 ⟨⟨s4, rfl, hl, hna⟩, hB3⟩
              obtain ⟨b12, hb12⟩ : ∃ b, b = W3.heap.size := ⟨_, rfl⟩
              have HNA := Lib.hid (fun j (ej : (Value.slice a3 n3 c3).ownBlock = some j) => hna j (HX2.out.ow.lt j ej).2 (HX2.out.na j ej))
              have HOB := Lib.hid (fun j (ej : (Value.slice a3 n3 c3).ownBlock = some j) => (show j < b12 from by rw [hb12]; exact Nat.lt_of_lt_of_le (HX2.out.ow.lt j ej).2 hB3.size))
              have hal : Below W3.heap.size W3 ((W3.alloc (.cells #[.int .u64 (E2 : Nat), .slice (s4.a 0) (s4.n 0) (s4.c 0), .slice (s4.a 1) (s4.n 1) (s4.c 1), .slice (s4.a 2) (s4.n 2) (s4.c 2)] 26)).alloc (.cells #[.int .i64 z.1, .int .u64 (z.2 : Nat)] 38)) := (Rows8.newB).alloc (by simp) _
              have HX3 := HX2.out.below hB3
              have HX5 := Lib.hid (HX3.below hal)
              have HL5 := Lib.hid (hl.below hal)
              have hz3 := HZ2.out.below hB3 HZ2.out.lt
              have HZ5 := Lib.hid (hz3.below hal hz3.lt)
              have R12 : Hid (Rows8 ((W3.alloc (.cells #[.int .u64 (E2 : Nat), .slice (s4.a 0) (s4.n 0) (s4.c 0), .slice (s4.a 1) (s4.n 1) (s4.c 1), .slice (s4.a 2) (s4.n 2) (s4.c 2)] 26)).alloc (.cells #[.int .i64 z.1, .int .u64 (z.2 : Nat)] 38)) b12 26 #[.int .u64 (E2 : Nat), .slice (s4.a 0) (s4.n 0) (s4.c 0), .slice (s4.a 1) (s4.n 1) (s4.c 1), .slice (s4.a 2) (s4.n 2) (s4.c 2)]) := Lib.hid (by rw [hb12]; exact (Rows8.new _ _ _).alloc _)
              have R13 : Hid (Rows8 ((W3.alloc (.cells #[.int .u64 (E2 : Nat), .slice (s4.a 0) (s4.n 0) (s4.c 0), .slice (s4.a 1) (s4.n 1) (s4.c 1), .slice (s4.a 2) (s4.n 2) (s4.c 2)] 26)).alloc (.cells #[.int .i64 z.1, .int .u64 (z.2 : Nat)] 38)) (b12 + 1) 38 #[.int .i64 z.1, .int .u64 (z.2 : Nat)]) := Lib.hid (by rw [hb12]; exact rows_new2 _ _ _ _)
              clear hl hna hB3 hal HX3 hz3 HX2 HZ2 HTk cc0 cc1 cc2 cc3 ltB d0 d1 d2 d3
              go_upto_region 10 with fail
              rw [← hb12]
              obtain ⟨W5, hW5⟩ : ∃ W, W = (W3.alloc (.cells #[.int .u64 (E2 : Nat), .slice (s4.a 0) (s4.n 0) (s4.c 0), .slice (s4.a 1) (s4.n 1) (s4.c 1), .slice (s4.a 2) (s4.n 2) (s4.c 2)] 26)).alloc (.cells #[.int .i64 z.1, .int .u64 (z.2 : Nat)] 38) := ⟨_, rfl⟩
              rw [← hW5] at HX5 HL5 HZ5 R12 R13 ⊢
              clear hW5 hb12
              refine wp_region_L (fun W' => Rows8 W' b12 26 #[.int .u64 (E2 : Nat), .slice (s4.a 0) (s4.n 0) (s4.c 0), .slice (s4.a 1) (s4.n 1) (s4.c 1), .slice (s4.a 2) (s4.n 2) (s4.c 2)] ∧ Rows8 W' (b12 + 1) 38 #[.int .i64 z.1, .int .u64 (z.2 : Nat)]) 5 (by kernel_rfl) ?_
              have hS0 : Rows8 W5.drew b12 26 #[.int .u64 (E2 : Nat), .slice (s4.a 0) (s4.n 0) (s4.c 0), .slice (s4.a 1) (s4.n 1) (s4.c 1), .slice (s4.a 2) (s4.n 2) (s4.c 2)] ∧ Rows8 W5.drew (b12 + 1) 38 #[.int .i64 z.1, .int .u64 (z.2 : Nat)] := ⟨R12.out.drewA, R13.out.drewA⟩
              have HXD : Hid (RnI w E2 s3 r3 q3 a3 n3 c3 (M + k) W5.drew) := Lib.hid HX5.out.drew
              have HLD : Hid (LAt W5.drew s4 (takR E2 r3)) := Lib.hid (fun kk hk => HL5.out kk hk)
              have HZD : Hid (Rows8 W5.drew b10 26 #[.int .u64 0, .slice none 0 0, .slice none 0 0, .slice none 0 0]) := Lib.hid HZ5.out.drewA
              clear R12 R13 HX5 HL5 HZ5
              generalize W5.drew = Wd at *
              as_aux_lemma =>
                refine wpAnyL_takeT (i := 0) (oi := { dst := some 41, op := Go.Op.load 26 (Go.Operand.tmp 12), type := 26, pos := "ref.go:123", after := #[], guard := none }) (v := .agg #[.int .u64 (E2 : Nat), .slice (s4.a 0) (s4.n 0) (s4.c 0), .slice (s4.a 1) (s4.n 1) (s4.c 1), .slice (s4.a 2) (s4.n 2) (s4.c 2)]) [5, 6] rfl (by kernel_rfl) (by kernel_rfl) (by kernel_rfl) (by kernel_rfl) (fun _ _ _ h => h) (Or.inl ⟨by rfl, ?_⟩) hS0 ?_
                · intro W9 hS9
                  obtain ⟨q0, q1⟩ := hS9
                  have c0 : W9.cell? ⟨b12, 0, none⟩ = some (.int .u64 (E2 : Nat)) := q0.cell 0
                  have c1 : W9.cell? ⟨b12, 1, none⟩ = some (.slice (s4.a 0) (s4.n 0) (s4.c 0)) := q0.cell 1
                  have c2 : W9.cell? ⟨b12, 2, none⟩ = some (.slice (s4.a 1) (s4.n 1) (s4.c 1)) := q0.cell 2
                  have c3 : W9.cell? ⟨b12, 3, none⟩ = some (.slice (s4.a 2) (s4.n 2) (s4.c 2)) := q0.cell 3
                  clear q0 q1
                  go_simp
                try simp only [Act.put, List.setIfInBounds_toArray, List.set_cons_zero, List.set_cons_succ]
                refine wpAnyL_takeT (i := 1) (oi := { dst := some 42, op := Go.Op.move (Go.Operand.tmp 7), type := 23, pos := "ref.go:123", after := #[], guard := none }) (v := .slice a3 n3 c3) [4, 5, 6] rfl (by kernel_rfl) (by kernel_rfl) (by kernel_rfl) (by kernel_rfl) (fun _ _ _ h => h) (Or.inl ⟨by rfl, ?_⟩) hS0 ?_
                · intro W9 hS9
                  obtain ⟨q0, q1⟩ := hS9
                  clear q0 q1
                  go_simp
                try simp only [Act.put, List.setIfInBounds_toArray, List.set_cons_zero, List.set_cons_succ]
                refine wpAnyL_takeT (i := 2) (oi := { dst := some 43, op := Go.Op.load 38 (Go.Operand.tmp 13), type := 38, pos := "ref.go:123", after := #[], guard := none }) (v := .agg #[.int .i64 z.1, .int .u64 (z.2 : Nat)]) [3, 4, 5, 6] rfl (by kernel_rfl) (by kernel_rfl) (by kernel_rfl) (by kernel_rfl) (fun _ _ _ h => h) (Or.inl ⟨by rfl, ?_⟩) hS0 ?_
                · intro W9 hS9
                  obtain ⟨q0, q1⟩ := hS9
                  have s0 : W9.cell? ⟨b12 + 1, 0, none⟩ = some (.int .i64 z.1) := q1.cell 0
                  have s1 : W9.cell? ⟨b12 + 1, 1, none⟩ = some (.int .u64 (z.2 : Nat)) := q1.cell 1
                  clear q0 q1
                  go_simp
                try simp only [Act.put, List.setIfInBounds_toArray, List.set_cons_zero, List.set_cons_succ]
                refine wpAnyL_one (i := 3) (o := { dst := some 44, op := Go.Op.buildSlice 23 1 #[(0, Go.Operand.tmp 43)], type := 23, pos := "ref.go:123", after := #[{ on := 2, ground := Go.Ground.data }], guard := none }) (by kernel_rfl) rfl (fun K hK => ?_)
                refine step_value_g (by rfl) (.slice (some ⟨Wd.heap.size, 0, none⟩) 1 1) (w' := Wd.alloc (.cells #[.int .i64 z.1, .int .u64 (z.2 : Nat)] 38)) (by go_simp) ?_
                have hal4 : Below Wd.heap.size Wd (Wd.alloc (.cells #[.int .i64 z.1, .int .u64 (z.2 : Nat)] 38)) := Rows8.newB
                have hS4 : Rows8 (Wd.alloc (.cells #[.int .i64 z.1, .int .u64 (z.2 : Nat)] 38)) b12 26 #[.int .u64 (E2 : Nat), .slice (s4.a 0) (s4.n 0) (s4.c 0), .slice (s4.a 1) (s4.n 1) (s4.c 1), .slice (s4.a 2) (s4.n 2) (s4.c 2)] ∧ Rows8 (Wd.alloc (.cells #[.int .i64 z.1, .int .u64 (z.2 : Nat)] 38)) (b12 + 1) 38 #[.int .i64 z.1, .int .u64 (z.2 : Nat)] := ⟨hS0.1.alloc _, hS0.2.alloc _⟩
                have hcn := cells_new Wd 38 [.int .i64 z.1, .int .u64 (z.2 : Nat)]
                have HX4 := Lib.hid (HXD.out.below hal4)
                have HL4 := Lib.hid (HLD.out.below hal4)
                have HZ4 := Lib.hid (HZD.out.below hal4 HZD.out.lt)
                obtain ⟨W4, hW4⟩ : ∃ W, W = Wd.alloc (.cells #[.int .i64 z.1, .int .u64 (z.2 : Nat)] 38) := ⟨_, rfl⟩
                have hcn2 : ∀ j u, (pCells z)[j]? = some u → W4.cell? ((⟨Wd.heap.size, 0, none⟩ : Addr).add j) = some u := by rw [hW4]; exact hcn
                rw [← hW4] at hS4 HX4 HL4 HZ4 ⊢
                clear hal4 hcn hW4 HXD HLD HZD
                refine hK.out _ _ (fun _ => hS4) ?_
                clear hK K
                try simp only [Act.put, List.setIfInBounds_toArray, List.set_cons_zero, List.set_cons_succ]
                refine wpAnyL_one (i := 4) (o := { dst := some 45, op := Go.Op.call { callee := Go.Callee.builtin Go.Builtin.append, args := #[Go.Operand.tmp 42, Go.Operand.tmp 44], argTypes := #[23, 23] }, type := 23, pos := "ref.go:123", after := #[{ on := 1, ground := Go.Ground.data }, { on := 3, ground := Go.Ground.data }], guard := none }) (by kernel_rfl) rfl (fun K hK => ?_)
                obtain ⟨v5, w5, hrun, ho5, hg5, hv5⟩ := Tryd.append_e W4 w.heap.size 23 q3 (.slice a3 n3 c3) HX4.out.ow z ⟨Wd.heap.size, 0, none⟩ 1 hcn2 (by have h9 := HX4.out.ln; have h8 := HM.out; omega) HX4.out.bl.size
                refine step_value_g (by rfl) v5 (w' := w5) (exec_append _ _ _ rfl _ _ _ rfl rfl hrun) ?_
                have hS5 : Rows8 w5 b12 26 #[.int .u64 (E2 : Nat), .slice (s4.a 0) (s4.n 0) (s4.c 0), .slice (s4.a 1) (s4.n 1) (s4.c 1), .slice (s4.a 2) (s4.n 2) (s4.c 2)] ∧ Rows8 w5 (b12 + 1) 38 #[.int .i64 z.1, .int .u64 (z.2 : Nat)] := ⟨(hg5.block _ hS4.1.lt (fun e => by have h1 := HOB.out _ e.symm; omega)).trans hS4.1, (hg5.block _ hS4.2.lt (fun e => by have h1 := HOB.out _ e.symm; omega)).trans hS4.2⟩
                have hz5 : Rows8 w5 b10 26 #[.int .u64 0, .slice none 0 0, .slice none 0 0, .slice none 0 0] := (hg5.block _ HZ4.out.lt (fun e => (HX4.out.ow.ne HZ4.out (by decide)) e.symm)).trans HZ4.out
                have hl5 : LAt w5 s4 (takR E2 r3) := lat_keep HL4.out hg5.size (fun kk b hk hr e hb => hg5.block b hb (fun e2 => HNA.out b e2.symm kk hk hr e))
                obtain ⟨a5, c5, rfl, _⟩ := ho5.form
                have hx5 := HX4.out.app ho5 hg5 hv5
                have hna5 : ∀ j, (Value.slice a5 (q3 ++ [z]).length c5).ownBlock = some j → NotAt j s4 (takR E2 r3) := fun j ej => by
                  rcases hv5 with e | e
                  · exact HNA.out j (by rw [← e]; exact ej)
                  · exact fun kk hk hr e3 => by have h1 := lat_in HL4.out hk hr e3; have h2 := e j ej; omega
                have HX5 := Lib.hid hx5
                have HL5 := Lib.hid hl5
                have HZ5 := Lib.hid hz5
                have HNA5 := Lib.hid hna5
                clear hrun hg5 hv5 ho5 hx5 hl5 hz5 hna5 HX4 HL4 HZ4 hcn2 HNA
                generalize (q3 ++ [z]).length = n5 at *
                refine hK.out _ _ (fun _ => hS5) ?_
                clear hK K
                try simp only [Act.put, List.setIfInBounds_toArray, List.set_cons_zero, List.set_cons_succ]
                refine wpAnyL_one (i := 5) (o := { dst := none, op := Go.Op.store 26 (Go.Operand.tmp 2) (Go.Operand.tmp 41), type := 0, pos := "ref.go:123", after := #[{ on := 0, ground := Go.Ground.data }, { on := 4, ground := Go.Ground.chain }, { on := 0, ground := Go.Ground.phase }, { on := 1, ground := Go.Ground.textOnly Go.Departure.lateStores }, { on := 2, ground := Go.Ground.textOnly Go.Departure.lateStores }, { on := 3, ground := Go.Ground.textOnly Go.Departure.lateStores }, { on := 4, ground := Go.Ground.textOnly Go.Departure.lateStoresUnsure }], guard := none }) (by kernel_rfl) rfl (fun K hK => ?_)
                have c0 : w5.cell? ⟨w.heap.size, 0, none⟩ = some (.int .u64 (E2 : Nat)) := HX5.out.bx.cell 0
                have c1 : w5.cell? ⟨w.heap.size, 1, none⟩ = some (.slice (s3.a 0) (s3.n 0) (s3.c 0)) := HX5.out.bx.cell 1
                have c2 : w5.cell? ⟨w.heap.size, 2, none⟩ = some (.slice (s3.a 1) (s3.n 1) (s3.c 1)) := HX5.out.bx.cell 2
                have c3 : w5.cell? ⟨w.heap.size, 3, none⟩ = some (.slice (s3.a 2) (s3.n 2) (s3.c 2)) := HX5.out.bx.cell 3
                have f0 := HX5.out.bx.frozen 0
                have f1 := HX5.out.bx.frozen 1
                have f2 := HX5.out.bx.frozen 2
                have f3 := HX5.out.bx.frozen 3
                have ltB := HX5.out.bx.lt
                refine step_skip_g (by rfl) (w' := ((((w5.setCell ⟨w.heap.size, 0, none⟩ (.int .u64 (E2 : Nat))).setCell ⟨w.heap.size, 1, none⟩ (.slice (s4.a 0) (s4.n 0) (s4.c 0))).setCell ⟨w.heap.size, 2, none⟩ (.slice (s4.a 1) (s4.n 1) (s4.c 1))).setCell ⟨w.heap.size, 3, none⟩ (.slice (s4.a 2) (s4.n 2) (s4.c 2)))) (by go_simp) ?_
                have HX6 : Hid (RnI w E2 s4 (updL r3 ((E2 + 1) % 3) t) (q3 ++ [z]) a5 n5 c5 (M + k) ((((w5.setCell ⟨w.heap.size, 0, none⟩ (.int .u64 (E2 : Nat))).setCell ⟨w.heap.size, 1, none⟩ (.slice (s4.a 0) (s4.n 0) (s4.c 0))).setCell ⟨w.heap.size, 2, none⟩ (.slice (s4.a 1) (s4.n 1) (s4.c 1))).setCell ⟨w.heap.size, 3, none⟩ (.slice (s4.a 2) (s4.n 2) (s4.c 2)))) := Lib.hid (HX5.out.next (lat_cong HL5.out (fun m hm => (takR_at HZZ.out m hm).symm)) (rdy_right HX5.out.rt HZZ.out) (by rw [updL_ne _ _ (mod_ne _).symm]; exact HX5.out.r3) (by have h9 := HX5.out.ln; rw [rdy_held HX5.out.rt HZZ.out] at h9; simp only [List.length_cons] at h9; omega) (fun j ej => (HNA5.out j ej).cong (fun m hm => (takR_at HZZ.out m hm).symm)))
                have HZ6 : Hid (Rows8 ((((w5.setCell ⟨w.heap.size, 0, none⟩ (.int .u64 (E2 : Nat))).setCell ⟨w.heap.size, 1, none⟩ (.slice (s4.a 0) (s4.n 0) (s4.c 0))).setCell ⟨w.heap.size, 2, none⟩ (.slice (s4.a 1) (s4.n 1) (s4.c 1))).setCell ⟨w.heap.size, 3, none⟩ (.slice (s4.a 2) (s4.n 2) (s4.c 2))) b10 26 #[.int .u64 0, .slice none 0 0, .slice none 0 0, .slice none 0 0]) := Lib.hid (HZ5.out.oth4 (by have := H10.out; omega) (.int .u64 (E2 : Nat)) (.slice (s4.a 0) (s4.n 0) (s4.c 0)) (.slice (s4.a 1) (s4.n 1) (s4.c 1)) (.slice (s4.a 2) (s4.n 2) (s4.c 2)))
                clear c0 c1 c2 c3 f0 f1 f2 f3 ltB HX5 HL5 HZ5 HNA5
                refine hK.out _ _ (fun h => absurd h (by decide)) ?_
                clear hK K
                try simp only [Act.put, List.setIfInBounds_toArray, List.set_cons_zero, List.set_cons_succ]
                refine wpAnyL_one (i := 6) (o := { dst := some 7, op := Go.Op.assign (Go.Operand.tmp 45), type := 23, pos := "ref.go:123", after := #[{ on := 4, ground := Go.Ground.data }, { on := 5, ground := Go.Ground.chain }, { on := 0, ground := Go.Ground.phase }, { on := 1, ground := Go.Ground.phase }, { on := 2, ground := Go.Ground.phase }, { on := 3, ground := Go.Ground.phase }, { on := 4, ground := Go.Ground.phase }, { on := 5, ground := Go.Ground.phase }], guard := none }) (by kernel_rfl) rfl (fun K hK => ?_)
                refine step_value_g (by rfl) (.slice a5 n5 c5) (w' := ((((w5.setCell ⟨w.heap.size, 0, none⟩ (.int .u64 (E2 : Nat))).setCell ⟨w.heap.size, 1, none⟩ (.slice (s4.a 0) (s4.n 0) (s4.c 0))).setCell ⟨w.heap.size, 2, none⟩ (.slice (s4.a 1) (s4.n 1) (s4.c 1))).setCell ⟨w.heap.size, 3, none⟩ (.slice (s4.a 2) (s4.n 2) (s4.c 2)))) (by go_simp) ?_
                refine hK.out _ _ (fun h => absurd h (by decide)) ?_
                clear hK K
                try simp only [Act.put, List.setIfInBounds_toArray, List.set_cons_zero, List.set_cons_succ]
                refine wpAnyL_end (by kernel_rfl) ?_
                clear hS5 hS4 hS0
                go_wp2_with fail
                go_roundg (gk - 1)
                case measure => have h9 := HGG.out; rw [HZZ.out] at h9; simp only [List.length_cons] at h9; omega
                case rel => exact ⟨(updL r3 ((E2 + 1) % 3) t), s4, q3 ++ [z], a5, n5, c5, rfl, by have h9 := HGG.out; rw [HZZ.out] at h9; rw [show readyL E2 (updL r3 ((E2 + 1) % 3) t) = t from updL_self _ _ _]; simp only [List.length_cons] at h9; omega, HX6, HZ6, Lib.hid ((drain E2 r3 q3 HZZ.out).trans HU.out)⟩
    · obtain rfl : k = n := by omega
      have hki : ¬ (k : Int) < (k : Int) := by omega
      have hT0 : Hid (T = (0, E2, updL r2 3 q2)) := Lib.hid (by
        have h9 := HRL.out
        rw [List.drop_of_length_le (by have := HN.out; omega)] at h9
        rw [HT.out, h9]
        unfold tryL
        rw [HRT.out, if_pos rfl]
        exact if_pos rfl)
      have HZ := Lib.hid hX.out.zx
      have HR := Lib.hid (rows4 HZ.out (.int .u64 (E2 : Nat)) (.slice (s2.a 0) (s2.n 0) (s2.c 0)) (.slice (s2.a 1) (s2.n 1) (s2.c 1)) (.slice (s2.a 2) (s2.n 2) (s2.c 2)))
      have HB3 := Lib.hid (below4 hX.out.bl (B := w.heap.size + 1) (by omega) (.int .u64 (E2 : Nat)) (.slice (s2.a 0) (s2.n 0) (s2.c 0)) (.slice (s2.a 1) (s2.n 1) (s2.c 1)) (.slice (s2.a 2) (s2.n 2) (s2.c 2)))
      have HLt := Lib.hid (lat_set4 hX.out.at_ HZ.out (.int .u64 (E2 : Nat)) (.slice (s2.a 0) (s2.n 0) (s2.c 0)) (.slice (s2.a 1) (s2.n 1) (s2.c 1)) (.slice (s2.a 2) (s2.n 2) (s2.c 2)))
      have HOw := Lib.hid (hX.out.ow.setT HZ.out (.int .u64 (E2 : Nat)) (.slice (s2.a 0) (s2.n 0) (s2.c 0)) (.slice (s2.a 1) (s2.n 1) (s2.c 1)) (.slice (s2.a 2) (s2.n 2) (s2.c 2)))
      have cc0 : wr.cell? ⟨w.heap.size, 0, none⟩ = some (.int .u64 (E2 : Nat)) := hX.out.bx.cell 0
      have cc1 : wr.cell? ⟨w.heap.size, 1, none⟩ = some (.slice (s2.a 0) (s2.n 0) (s2.c 0)) := hX.out.bx.cell 1
      have cc2 : wr.cell? ⟨w.heap.size, 2, none⟩ = some (.slice (s2.a 1) (s2.n 1) (s2.c 1)) := hX.out.bx.cell 2
      have cc3 : wr.cell? ⟨w.heap.size, 3, none⟩ = some (.slice (s2.a 2) (s2.n 2) (s2.c 2)) := hX.out.bx.cell 3
      have z0 : wr.cell? ⟨w.heap.size + 1, 0, none⟩ = some (.int .u64 0) := HZ.out.cell 0
      have f0 := HZ.out.frozen 0
      have z1 : wr.cell? ⟨w.heap.size + 1, 1, none⟩ = some (.slice none 0 0) := HZ.out.cell 1
      have f1 := HZ.out.frozen 1
      have z2 : wr.cell? ⟨w.heap.size + 1, 2, none⟩ = some (.slice none 0 0) := HZ.out.cell 2
      have f2 := HZ.out.frozen 2
      have z3 : wr.cell? ⟨w.heap.size + 1, 3, none⟩ = some (.slice none 0 0) := HZ.out.cell 3
      have f3 := HZ.out.frozen 3
      have ltz := HZ.out.lt
      have ltB := hX.out.bx.lt
      clear HRL
      go_wp2_with fail
      refine bodyPost_ret (results_ctt rfl _ _ (w.heap.size + 1) _ _ _ rfl rfl rfl (load_row HR.out Tryd.underlying26 rfl (by kernel_rfl))) rfl ?_
      refine ⟨⟨s2, .slice a2 n2 c2, by rw [hT0.out]; rfl, ?_, ?_⟩, HB3.out⟩
      · rw [hT0.out]; exact lat_cong HLt.out (fun m hm => updL_ne _ _ (by omega))
      · rw [hT0.out]; show PAt _ _ (updL r2 3 q2 3); rw [updL_self]; exact HOw.out.at
end Go.Proofs
