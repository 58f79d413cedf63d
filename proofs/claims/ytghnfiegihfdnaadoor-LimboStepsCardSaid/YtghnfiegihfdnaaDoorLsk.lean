/- Limbo: what stands in LimboSteps. -/
import Derived.Test.YtghnfiegihfdnaaDoorLsj
import Derived.Test.YtghnfiegihfdnaaDoorLsi
namespace Go.Proofs
set_option maxRecDepth 100000
open Go.RowKit Go.Shelf
attribute [local go_sem] Oper.semAt_some

structure SpI (w : World) (b1 b5 E : Nat) (s : Ls) (r : Rw3) (E2 : Nat) (s2 : Ls) (r2 : Rw3) (a : Option Addr) (n c : Nat) (ps : List Pr) (rt : Bool) (W : World) : Prop where
  x1 : Rows8 W b1 26 #[.int .u64 (E : Nat), .slice (s.a 0) (s.n 0) (s.c 0), .slice (s.a 1) (s.n 1) (s.c 1), .slice (s.a 2) (s.n 2) (s.c 2)]
  hx : LAt W s r
  x5 : Rows8 W b5 26 #[.int .u64 (E2 : Nat), .slice (s2.a 0) (s2.n 0) (s2.c 0), .slice (s2.a 1) (s2.n 1) (s2.c 1), .slice (s2.a 2) (s2.n 2) (s2.c 2)]
  hl : LAt W s2 r2
  st : PAt W (.slice a n c) ps
  bl : Below w.heap.size w W
  b5l : w.heap.size ≤ b5
  ne : b5 ≠ b1
  own : ownR r2 = r2
  rt : rightL E2 r2 = rt
  e2 : E2 < 18446744073709551616
theorem SpI.below {w : World} {b1 b5 E : Nat} {s : Ls} {r : Rw3} {E2 : Nat} {s2 : Ls} {r2 : Rw3} {a : Option Addr} {n c : Nat} {ps : List Pr} {rt : Bool} {W W' : World} (h : SpI w b1 b5 E s r E2 s2 r2 a n c ps rt W) (hB : Below W.heap.size W W') : SpI w b1 b5 E s r E2 s2 r2 a n c ps rt W' :=
  ⟨h.x1.below hB h.x1.lt, h.hx.below hB, h.x5.below hB h.x5.lt, h.hl.below hB, h.st.below hB, h.bl.trans (hB.mono h.bl.size), h.b5l, h.ne, h.own, h.rt, h.e2⟩
theorem SpI.drew {w : World} {b1 b5 E : Nat} {s : Ls} {r : Rw3} {E2 : Nat} {s2 : Ls} {r2 : Rw3} {a : Option Addr} {n c : Nat} {ps : List Pr} {rt : Bool} {W : World} (h : SpI w b1 b5 E s r E2 s2 r2 a n c ps rt W) : SpI w b1 b5 E s r E2 s2 r2 a n c ps rt W.drew :=
  ⟨h.x1.drewA, fun k hk => h.hx k hk, h.x5.drewA, fun k hk => h.hl k hk, h.st, h.bl.drew, h.b5l, h.ne, h.own, h.rt, h.e2⟩
theorem pat_set4 {W : World} {v : Value} {l : List Pr} (h : PAt W v l) {B : Nat} {e : Int} {x0 x1 x2 : Option Addr} {m0 m1 m2 d0 d1 d2 : Nat} (hR : Rows8 W B 26 #[.int .u64 e, .slice x0 m0 d0, .slice x1 m1 d1, .slice x2 m2 d2]) (v0 v1 v2 v3 : Value) : PAt ((((W.setCell ⟨B, 0, none⟩ v0).setCell ⟨B, 1, none⟩ v1).setCell ⟨B, 2, none⟩ v2).setCell ⟨B, 3, none⟩ v3) v l :=
  pat_off h hR (by simp [World.setCell]) (fun b hb => heap_set4 W B v0 v1 v2 v3 b hb)
/-- The limbo becomes the next one. -/
theorem SpI.next {w : World} {b1 b5 E : Nat} {s : Ls} {r : Rw3} {E2 : Nat} {s2 : Ls} {r2 : Rw3} {a : Option Addr} {n c : Nat} {ps : List Pr} {rt : Bool} {W : World} (h : SpI w b1 b5 E s r E2 s2 r2 a n c ps rt W) {F : Nat} {u : Ls} {v : Rw3} (hv : LAt W u v) (ho : ownR v = v) (hr : rightL F v = rt) (hF : F < 18446744073709551616) :
    SpI w b1 b5 E s r F u v a n c ps rt ((((W.setCell ⟨b5, 0, none⟩ (.int .u64 (F : Nat))).setCell ⟨b5, 1, none⟩ (.slice (u.a 0) (u.n 0) (u.c 0))).setCell ⟨b5, 2, none⟩ (.slice (u.a 1) (u.n 1) (u.c 1))).setCell ⟨b5, 3, none⟩ (.slice (u.a 2) (u.n 2) (u.c 2))) :=
  ⟨h.x1.oth4 h.ne _ _ _ _, lat_set4 h.hx h.x5 _ _ _ _, rows4 h.x5 _ _ _ _, lat_set4 hv h.x5 _ _ _ _, pat_set4 h.st h.x5 _ _ _ _, below4 h.bl h.b5l _ _ _ _, h.b5l, h.ne, ho, hr, hF⟩
/-- With the step, and the limbo as it was. -/
structure BsI (w : World) (b1 b5 E : Nat) (s : Ls) (r : Rw3) (E2 : Nat) (s2 : Ls) (r2 : Rw3) (a : Option Addr) (n c : Nat) (ps : List Pr) (rt : Bool) (b8 b9 : Nat) (p : Pr) (s9 : Ls) (W : World) : Prop where
  sp : SpI w b1 b5 E s r E2 s2 r2 a n c ps rt W
  r8 : Rows8 W b8 38 #[.int .i64 p.1, .int .u64 (p.2 : Nat)]
  r9 : Rows8 W b9 26 #[.int .u64 (E2 : Nat), .slice (s9.a 0) (s9.n 0) (s9.c 0), .slice (s9.a 1) (s9.n 1) (s9.c 1), .slice (s9.a 2) (s9.n 2) (s9.c 2)]
  h9 : LAt W s9 r2
theorem BsI.below {w : World} {b1 b5 E : Nat} {s : Ls} {r : Rw3} {E2 : Nat} {s2 : Ls} {r2 : Rw3} {a : Option Addr} {n c : Nat} {ps : List Pr} {rt : Bool} {b8 b9 : Nat} {p : Pr} {s9 : Ls} {W W' : World} (h : BsI w b1 b5 E s r E2 s2 r2 a n c ps rt b8 b9 p s9 W) (hB : Below W.heap.size W W') : BsI w b1 b5 E s r E2 s2 r2 a n c ps rt b8 b9 p s9 W' :=
  ⟨h.sp.below hB, h.r8.below hB h.r8.lt, h.r9.below hB h.r9.lt, h.h9.below hB⟩
theorem LO.keepb {n₀ m : Nat} {r : Rw3} {s : Ls} {A B : World} (h : LO n₀ r s A) (hB : Below m A B) (ho : ∀ k j, k < 3 → (s.v k).ownBlock = some j → j < m) : LO n₀ r s B :=
  ⟨fun k hk => (h.1 k hk).kept fun j e => hB.block j (ho k j hk e), h.2⟩
theorem LO.top {n₀ : Nat} {r : Rw3} {s : Ls} {A : World} (h : LO n₀ r s A) (k j : Nat) (hk : k < 3) (e : (s.v k).ownBlock = some j) : j < A.heap.size := ((h.1 k hk).lt j e).2
theorem LO.not {n₀ : Nat} {r : Rw3} {s : Ls} {A : World} (h : LO n₀ r s A) {B : Nat} (hB : B < n₀) : NotAt B s r := fun k hk _ e => by have := ((h.1 k hk).lt B e).1; omega
/-- The three answers. -/
structure AbI (N b10 b12 b14 : Nat) (TA TB TC : Rl) (z : Pr) (sA sB sC : Ls) (W : World) : Prop where
  rA : Rows8 W b10 26 #[.int .u64 (TA.2.1 : Nat), .slice (sA.a 0) (sA.n 0) (sA.c 0), .slice (sA.a 1) (sA.n 1) (sA.c 1), .slice (sA.a 2) (sA.n 2) (sA.c 2)]
  rB : Rows8 W b12 26 #[.int .u64 (TB.2.1 : Nat), .slice (sB.a 0) (sB.n 0) (sB.c 0), .slice (sB.a 1) (sB.n 1) (sB.c 1), .slice (sB.a 2) (sB.n 2) (sB.c 2)]
  rC : Rows8 W b14 26 #[.int .u64 (TC.2.1 : Nat), .slice (sC.a 0) (sC.n 0) (sC.c 0), .slice (sC.a 1) (sC.n 1) (sC.c 1), .slice (sC.a 2) (sC.n 2) (sC.c 2)]
  lA : LO N TA.2.2 sA W
  lB : LO (b10 + 1) TB.2.2 sB W
  lC : LO (b12 + 1) TC.2.2 sC W
  oA : ∀ k j, k < 3 → (sA.v k).ownBlock = some j → j < b10
  oB : ∀ k j, k < 3 → (sB.v k).ownBlock = some j → j < b12
  oC : ∀ k j, k < 3 → (sC.v k).ownBlock = some j → j < b14
  o1 : N ≤ b10
  o2 : b10 < b12
  o3 : b12 < b14
  rE : Rows8 W (b14 + 1) 38 #[.int .i64 z.1, .int .u64 (z.2 : Nat)]
theorem AbI.keep {N b10 b12 b14 m : Nat} {TA TB TC : Rl} {z : Pr} {sA sB sC : Ls} {W W' : World} (h : AbI N b10 b12 b14 TA TB TC z sA sB sC W) (hB : Below m W W') (hm : b14 + 1 < m) : AbI N b10 b12 b14 TA TB TC z sA sB sC W' := by
  have h2 := h.o2
  have h3 := h.o3
  refine ⟨h.rA.below hB (by omega), h.rB.below hB (by omega), h.rC.below hB (by omega), h.lA.keepb hB (fun k j hk e => by have := h.oA k j hk e; omega), h.lB.keepb hB (fun k j hk e => by have := h.oB k j hk e; omega), h.lC.keepb hB (fun k j hk e => by have := h.oC k j hk e; omega), h.oA, h.oB, h.oC, h.o1, h2, h3, h.rE.below hB hm⟩
theorem lat_notAt {W W' : World} {s : Ls} {r : Rw3} (h : LAt W s r) {B : Nat} (hN : NotAt B s r) (hs : W.heap.size ≤ W'.heap.size) (hk : ∀ b, b ≠ B → W'.heap[b]? = W.heap[b]?) : LAt W' s r :=
  lat_keep h hs fun k b hk3 hr e _ => hk b fun e2 => hN k hk3 hr (by rw [e, e2])
/-- What the reference says. -/
structure WnI (b17 b18 b19 b20 : Nat) (TA TB TC : Rl) (z : Pr) (uA uB uC : Ls) (W : World) : Prop where
  rA : Rows8 W b17 26 #[.int .u64 (TA.2.1 : Nat), .slice (uA.a 0) (uA.n 0) (uA.c 0), .slice (uA.a 1) (uA.n 1) (uA.c 1), .slice (uA.a 2) (uA.n 2) (uA.c 2)]
  rB : Rows8 W b18 26 #[.int .u64 (TB.2.1 : Nat), .slice (uB.a 0) (uB.n 0) (uB.c 0), .slice (uB.a 1) (uB.n 1) (uB.c 1), .slice (uB.a 2) (uB.n 2) (uB.c 2)]
  rC : Rows8 W b19 26 #[.int .u64 (TC.2.1 : Nat), .slice (uC.a 0) (uC.n 0) (uC.c 0), .slice (uC.a 1) (uC.n 1) (uC.c 1), .slice (uC.a 2) (uC.n 2) (uC.c 2)]
  rE : Rows8 W b20 38 #[.int .i64 z.1, .int .u64 (z.2 : Nat)]
  lA : LAt W uA TA.2.2
  lB : LAt W uB TB.2.2
  lC : LAt W uC TC.2.2
  nA : NotAt b20 uA TA.2.2
  nB : NotAt b20 uB TB.2.2
  nC : NotAt b20 uC TC.2.2
  d1 : b17 < b18
  d2 : b18 < b19
  d3 : b19 < b20
theorem WnI.below {b17 b18 b19 b20 : Nat} {TA TB TC : Rl} {z : Pr} {uA uB uC : Ls} {W W' : World} (h : WnI b17 b18 b19 b20 TA TB TC z uA uB uC W) (hB : Below W.heap.size W W') : WnI b17 b18 b19 b20 TA TB TC z uA uB uC W' :=
  ⟨h.rA.below hB h.rA.lt, h.rB.below hB h.rB.lt, h.rC.below hB h.rC.lt, h.rE.below hB h.rE.lt, h.lA.below hB, h.lB.below hB, h.lC.below hB, h.nA, h.nB, h.nC, h.d1, h.d2, h.d3⟩
theorem WnI.drew {b17 b18 b19 b20 : Nat} {TA TB TC : Rl} {z : Pr} {uA uB uC : Ls} {W : World} (h : WnI b17 b18 b19 b20 TA TB TC z uA uB uC W) : WnI b17 b18 b19 b20 TA TB TC z uA uB uC W.drew :=
  ⟨h.rA.drewA, h.rB.drewA, h.rC.drewA, h.rE.drewA, fun k hk => h.lA k hk, fun k hk => h.lB k hk, fun k hk => h.lC k hk, h.nA, h.nB, h.nC, h.d1, h.d2, h.d3⟩
theorem WnI.setA {b17 b18 b19 b20 : Nat} {T1 TA TB TC : Rl} {z : Pr} {u1 uA uB uC : Ls} {W : World} (h : WnI b17 b18 b19 b20 T1 TB TC z u1 uB uC W) (hl : LAt W uA TA.2.2) (hn : NotAt b20 uA TA.2.2) : WnI b17 b18 b19 b20 TA TB TC z uA uB uC ((((W.setCell ⟨b17, 0, none⟩ (.int .u64 (TA.2.1 : Nat))).setCell ⟨b17, 1, none⟩ (.slice (uA.a 0) (uA.n 0) (uA.c 0))).setCell ⟨b17, 2, none⟩ (.slice (uA.a 1) (uA.n 1) (uA.c 1))).setCell ⟨b17, 3, none⟩ (.slice (uA.a 2) (uA.n 2) (uA.c 2))) := by
  have d1 := h.d1
  have d2 := h.d2
  have d3 := h.d3
  exact ⟨rows4 h.rA _ _ _ _, h.rB.oth4 (by omega) _ _ _ _, h.rC.oth4 (by omega) _ _ _ _, h.rE.oth4 (by omega) _ _ _ _, lat_set4 hl h.rA _ _ _ _, lat_set4 h.lB h.rA _ _ _ _, lat_set4 h.lC h.rA _ _ _ _, hn, h.nB, h.nC, d1, d2, d3⟩
theorem WnI.setB {b17 b18 b19 b20 : Nat} {T1 TA TB TC : Rl} {z : Pr} {u1 uA uB uC : Ls} {W : World} (h : WnI b17 b18 b19 b20 TA T1 TC z uA u1 uC W) (hl : LAt W uB TB.2.2) (hn : NotAt b20 uB TB.2.2) : WnI b17 b18 b19 b20 TA TB TC z uA uB uC ((((W.setCell ⟨b18, 0, none⟩ (.int .u64 (TB.2.1 : Nat))).setCell ⟨b18, 1, none⟩ (.slice (uB.a 0) (uB.n 0) (uB.c 0))).setCell ⟨b18, 2, none⟩ (.slice (uB.a 1) (uB.n 1) (uB.c 1))).setCell ⟨b18, 3, none⟩ (.slice (uB.a 2) (uB.n 2) (uB.c 2))) := by
  have d1 := h.d1
  have d2 := h.d2
  have d3 := h.d3
  exact ⟨h.rA.oth4 (by omega) _ _ _ _, rows4 h.rB _ _ _ _, h.rC.oth4 (by omega) _ _ _ _, h.rE.oth4 (by omega) _ _ _ _, lat_set4 h.lA h.rB _ _ _ _, lat_set4 hl h.rB _ _ _ _, lat_set4 h.lC h.rB _ _ _ _, h.nA, hn, h.nC, d1, d2, d3⟩
theorem WnI.setC {b17 b18 b19 b20 : Nat} {T1 TA TB TC : Rl} {z : Pr} {u1 uA uB uC : Ls} {W : World} (h : WnI b17 b18 b19 b20 TA TB T1 z uA uB u1 W) (hl : LAt W uC TC.2.2) (hn : NotAt b20 uC TC.2.2) : WnI b17 b18 b19 b20 TA TB TC z uA uB uC ((((W.setCell ⟨b19, 0, none⟩ (.int .u64 (TC.2.1 : Nat))).setCell ⟨b19, 1, none⟩ (.slice (uC.a 0) (uC.n 0) (uC.c 0))).setCell ⟨b19, 2, none⟩ (.slice (uC.a 1) (uC.n 1) (uC.c 1))).setCell ⟨b19, 3, none⟩ (.slice (uC.a 2) (uC.n 2) (uC.c 2))) := by
  have d1 := h.d1
  have d2 := h.d2
  have d3 := h.d3
  exact ⟨h.rA.oth4 (by omega) _ _ _ _, h.rB.oth4 (by omega) _ _ _ _, rows4 h.rC _ _ _ _, h.rE.oth4 (by omega) _ _ _ _, lat_set4 h.lA h.rC _ _ _ _, lat_set4 h.lB h.rC _ _ _ _, lat_set4 hl h.rC _ _ _ _, h.nA, h.nB, hn, d1, d2, d3⟩
theorem WnI.setE {b17 b18 b19 b20 : Nat} {TA TB TC : Rl} {z y : Pr} {uA uB uC : Ls} {W : World} (h : WnI b17 b18 b19 b20 TA TB TC z uA uB uC W) : WnI b17 b18 b19 b20 TA TB TC y uA uB uC ((W.setCell ⟨b20, 0, none⟩ (.int .i64 y.1)).setCell ⟨b20, 1, none⟩ (.int .u64 (y.2 : Nat))) := by
  have d1 := h.d1
  have d2 := h.d2
  have d3 := h.d3
  have hs : W.heap.size ≤ ((W.setCell ⟨b20, 0, none⟩ (.int .i64 y.1)).setCell ⟨b20, 1, none⟩ (.int .u64 (y.2 : Nat))).heap.size := by simp [World.setCell]
  have hk : ∀ b, b ≠ b20 → ((W.setCell ⟨b20, 0, none⟩ (.int .i64 y.1)).setCell ⟨b20, 1, none⟩ (.int .u64 (y.2 : Nat))).heap[b]? = W.heap[b]? := fun b hb => (Below.heap_setCell _ ⟨b20, 1, none⟩ _ b hb).trans (Below.heap_setCell _ ⟨b20, 0, none⟩ _ b hb)
  exact ⟨(hk _ (by omega)).trans h.rA, (hk _ (by omega)).trans h.rB, (hk _ (by omega)).trans h.rC, rows2 h.rE _ _, lat_notAt h.lA h.nA hs hk, lat_notAt h.lB h.nB hs hk, lat_notAt h.lC h.nC hs hk, h.nA, h.nB, h.nC, d1, d2, d3⟩
theorem tryL_len {E : Nat} {r : Rw3} {R : Rl} {m : Nat} (h : ∀ k, k < 3 → (R.2.2 k).length ≤ m) (k : Nat) (hk : k < 3) : ((tryL E r R).2.2 k).length ≤ m := by
  unfold tryL
  split
  · split
    · exact h k hk
    · exact Nat.zero_le _
  · exact Nat.zero_le _
theorem retN_len {E : Nat} {r : Rw3} {p : Pr} {m : Nat} (h : ∀ k, k < 3 → (r k).length ≤ m) (k : Nat) (hk : k < 3) : ((retN E r p).2.2 k).length ≤ m + 1 := by
  unfold retN
  split
  · exact Nat.le_succ_of_le (h k hk)
  · split
    · exact Nat.le_succ_of_le (h k hk)
    · show (updL r (E % 3) (r (E % 3) ++ [p]) k).length ≤ m + 1
      by_cases e : k = E % 3
      · rw [e, updL_self, List.length_append]
        have := h (E % 3) (Nat.mod_lt _ (by decide))
        simp only [List.length_cons, List.length_nil]
        omega
      · rw [updL_ne _ _ e]; exact Nat.le_succ_of_le (h k hk)
theorem advN_len {E : Nat} {r : Rw3} {m : Nat} (h : ∀ k, k < 3 → (r k).length ≤ m) (k : Nat) (hk : k < 3) : ((advN E r).2.2 k).length ≤ m := by
  unfold advN
  split
  · exact h k hk
  · split <;> exact h k hk
theorem takN_len {E : Nat} {r : Rw3} {m : Nat} (h : ∀ k, k < 3 → (r k).length ≤ m) (k : Nat) (hk : k < 3) : ((takN E r).2.2 k).length ≤ m := by
  unfold takN
  split
  · exact h k hk
  · show (takR E r k).length ≤ m
    cases hz : readyL E r with
    | nil => rename_i h9; exact absurd hz h9
    | cons z t =>
      rw [takR_at hz k hk]
      by_cases e : k = (E + 1) % 3
      · rw [e, updL_self]
        have h8 := h ((E + 1) % 3) (Nat.mod_lt _ (by decide))
        rw [show r ((E + 1) % 3) = z :: t from hz] at h8
        simp at h8
        omega
      · rw [updL_ne _ _ e]; exact h k hk
/-- What comes may be, if it could. -/
theorem ret_ok {E : Nat} {r : Rw3} {p : Pr} {rt : Bool} (hr : rightL E r = rt) {T : Rl} (hT : T = tryL E r (retN E r p)) (h0 : T.1 = 0) : rightL T.2.1 (ownR T.2.2) = rt ∧ T.2.1 < 18446744073709551616 := by
  unfold tryL at hT
  cases rt with
  | false => rw [hr, if_neg (by decide)] at hT; rw [hT] at h0; cases h0
  | true =>
    rw [hr, if_pos rfl] at hT
    split at hT
    · rename_i h1
      unfold retN at hT h1
      split at hT
      · rename_i h2; rw [if_pos h2] at h1; cases h1
      · rename_i h2
        rw [if_neg h2] at h1
        split at hT
        · rename_i h3; rw [if_pos h3] at h1; cases h1
        · rename_i h3
          rw [hT]
          refine ⟨right_own (ret_right hr (by simpa using h2) (by simpa using h3)), by have := (rightL_iff.1 hr).1.1; show E < _; omega⟩
    · rename_i h1; rw [hT] at h0; exact absurd h0 h1
theorem adv_ok {E : Nat} {r : Rw3} {rt : Bool} (hr : rightL E r = rt) {T : Rl} (hT : T = tryL E r (advN E r)) (h0 : T.1 = 0) : rightL T.2.1 (ownR T.2.2) = rt ∧ T.2.1 < 18446744073709551616 := by
  cases rt with
  | false => unfold tryL at hT; rw [hr, if_neg (by decide)] at hT; rw [hT] at h0; cases h0
  | true =>
    obtain ⟨h1, h2, h3⟩ := tryAdv hr
    by_cases hz : readyL E r = []
    · by_cases hE : E = 4611686018427387904
      · rw [hT, h2 hz hE] at h0; cases h0
      · rw [hT, h3 hz hE]
        exact ⟨right_own (adv_right hr hz hE), by have := (rightL_iff.1 hr).1.1; show E + 1 < _; omega⟩
    · rw [hT, h1 hz] at h0; cases h0
theorem tak_ok {E : Nat} {r : Rw3} {rt : Bool} (hr : rightL E r = rt) {T : Rl} (hT : T = tryL E r (takN E r)) (h0 : T.1 = 0) : rightL T.2.1 (ownR T.2.2) = rt ∧ T.2.1 < 18446744073709551616 := by
  cases rt with
  | false => unfold tryL at hT; rw [hr, if_neg (by decide)] at hT; rw [hT] at h0; cases h0
  | true =>
    obtain ⟨h1, h2⟩ := tryTakR hr
    cases hz : readyL E r with
    | nil => rw [hT, h1 hz] at h0; cases h0
    | cons z t =>
      rw [hT, h2 (by rw [hz]; exact List.cons_ne_nil _ _)]
      refine ⟨?_, by have := (rightL_iff.1 hr).1.1; show E < _; omega⟩
      show rightL E (ownR (takR E r)) = true
      rw [own_tak hz]
      exact right_own (rdy_right hr hz)
theorem totL_run : ∀ (l : List Pr) (E : Nat) (r : Rw3), totL (runL E r l).2.2 ≤ totL r + l.length
  | [], _, _ => Nat.le_refl _
  | p :: l, E, r => by
    have h1 := totL_step E r p
    show totL (if (stepN E r p).1 = 0 then runL (stepN E r p).2.1 (stepN E r p).2.2 l else stepN E r p).2.2 ≤ _
    simp only [List.length_cons]
    split
    · have h2 := totL_run l (stepN E r p).2.1 (stepN E r p).2.2
      omega
    · omega
theorem totL_own {r : Rw3} (h : ownR r = r) : totL r ≤ 36 := by
  have h0 := own_le h 0 (by omega)
  have h1 := own_le h 1 (by omega)
  have h2 := own_le h 2 (by omega)
  have h3 := own_three h
  unfold totL
  rw [h3]
  simp only [List.length_nil]
  omega
theorem tryRun_len {E : Nat} {r : Rw3} {l : List Pr} (h : ownR r = r) (hl : l.length ≤ 20) (k : Nat) (hk : k < 4) : ((tryL E r (runL E r l)).2.2 k).length ≤ 56 := by
  have h1 := totL_run l E r
  have h2 := totL_own h
  have h3 := totL_le (runL E r l).2.2 k hk
  unfold tryL
  split
  · split
    · omega
    · exact Nat.zero_le _
  · exact Nat.zero_le _
end Go.Proofs
