/- laps, told. -/
import Derived.Test.YtmkpjpdjjdmklaaKq
namespace Go.Proofs
open Go.RowKit Go.Shelf
attribute [local go_sem] Oper.semAt_some

/-- All cells are as they were, but those of block x. -/
structure Kx (x : Nat) (A B : World) : Prop where
  size : A.heap.size ≤ B.heap.size
  same : ∀ (k : Nat) (o : Obj), A.heap[k]? = some o → o.isCells = true → k ≠ x → B.heap[k]? = some o
theorem Kx.refl (x : Nat) (A : World) : Kx x A A := ⟨Nat.le_refl _, fun _ _ h _ _ => h⟩
theorem Kx.trans {x : Nat} {A B C : World} (p : Kx x A B) (q : Kx x B C) : Kx x A C := ⟨Nat.le_trans p.size q.size, fun k o h hc hx => q.same k o (p.same k o h hc hx) hc hx⟩
theorem Kx.of_below {x : Nat} {A B : World} (p : Below A.heap.size A B) : Kx x A B := ⟨p.size, fun k _ h _ _ => (p.block k (Array.getElem?_eq_some_iff.1 h).1).trans h⟩
theorem Kx.set (x : Nat) (A : World) (o : Nat) (v : Value) : Kx x A (A.setCell ⟨x, o, none⟩ v) := ⟨by simp [World.setCell], fun k ob h _ hx => (Below.heap_setCell A ⟨x, o, none⟩ v k hx).trans h⟩
theorem kx_t {x : Nat} {A B C : World} (p : Kx x A B) (q : Kx x B C) : Kx x A C := p.trans q
theorem kx_b {x B : Nat} (W : World) (l : Nat) (o o' : Obj) (_ : B ≤ l) (hh : W.heap[l]? = some o) (hc : o.isCells = false) (_ : o.isWalk = false) : Kx x W (W.putObj l o') := by
  refine ⟨by simp [World.putObj], fun k ob hk hkc _ => ?_⟩
  have hne : l ≠ k := fun e => by
    subst e
    rw [hk] at hh
    injection hh with hh
    subst hh
    rw [hc] at hkc
    cases hkc
  exact (World.putObj_heap_other (fun e => hne e.symm)).trans hk
/-- .. of those beneath h. -/
structure Kb (h x : Nat) (A B : World) : Prop where
  size : A.heap.size ≤ B.heap.size
  same : ∀ (k : Nat) (o : Obj), k < h → A.heap[k]? = some o → o.isCells = true → k ≠ x → B.heap[k]? = some o
theorem Kb.refl (h x : Nat) (A : World) : Kb h x A A := ⟨Nat.le_refl _, fun _ _ _ h _ _ => h⟩
theorem Kb.trans {h x : Nat} {A B C : World} (p : Kb h x A B) (q : Kb h x B C) : Kb h x A C := ⟨Nat.le_trans p.size q.size, fun k o hk h hc hx => q.same k o hk (p.same k o hk h hc hx) hc hx⟩
theorem Kb.mono {h h' x : Nat} {A B : World} (p : Kb h x A B) (hh : h' ≤ h) : Kb h' x A B := ⟨p.size, fun k o hk => p.same k o (Nat.lt_of_lt_of_le hk hh)⟩
theorem Kb.of_kx {h x : Nat} {A B : World} (p : Kx x A B) : Kb h x A B := ⟨p.size, fun k o _ h hc hx => p.same k o h hc hx⟩
theorem Kb.of_below {h x : Nat} {A B : World} (p : Below h A B) : Kb h x A B := ⟨p.size, fun k _ hk h _ _ => (p.block k hk).trans h⟩
theorem Kb.set {h x : Nat} (A : World) {b : Nat} (hb : h ≤ b) (o : Nat) (v : Value) : Kb h x A (A.setCell ⟨b, o, none⟩ v) := ⟨by simp [World.setCell], fun k ob hk hh _ _ => (Below.heap_setCell A ⟨b, o, none⟩ v k (by show k ≠ b; omega)).trans hh⟩
theorem Kb.rows {h x : Nat} {A B : World} (p : Kb h x A B) {b : Nat} {t : TypeId} {cs : Array Value} (r : Rows8 A b t cs) (hb : b < h) (hx : b ≠ x) : Rows8 B b t cs := p.same b _ hb r rfl hx
theorem Kb.cell {h x : Nat} {A B : World} (p : Kb h x A B) {a : Addr} {v : Value} (hb : a.block < h) (hx : a.block ≠ x) (hc : A.cell? a = some v) : B.cell? a = some v := by
  cases ho : A.heap[a.block]? with
  | none => simp [World.cell?, ho] at hc
  | some o =>
    cases hi : o.isCells with
    | true =>
      have h2 := p.same a.block o hb ho hi hx
      rw [World.cell?_of_block (w := A) (h2.trans ho.symm)]
      exact hc
    | false =>
      cases o <;> simp [Obj.isCells] at hi <;> simp [World.cell?, ho] at hc
theorem Kb.row {h x : Nat} {A B : World} (p : Kb h x A B) {v : Value} {n k : Nat} {cs : List Value} (r : RowAt A v n k cs) (hA : A.heap.size ≤ h) (hx : A.heap.size ≤ x) : RowAt B v n k cs := by
  obtain ⟨h0, a, cap, h1, h2, h3, h4, h5⟩ := r
  refine ⟨h0, a, cap, h1, h2, h3, h4, fun j hj => ?_⟩
  obtain ⟨b, off, e, hb, hc⟩ := h5 j hj
  rw [List.getElem?_eq_getElem hj] at hc
  exact ⟨b, off, e, Nat.lt_of_lt_of_le hb p.size, by rw [List.getElem?_eq_getElem hj]; exact p.cell (a := ⟨b, off + j, none⟩) (by show b < h; omega) (by show b ≠ x; omega) hc⟩
theorem Kb.turns {h x : Nat} {A B : World} (p : Kb h x A B) {v : Value} {ts : List Tn} (r : TurnsAt A v ts) (hA : A.heap.size ≤ h) (hx : A.heap.size ≤ x) : TurnsAt B v ts := by
  obtain ⟨vs, h1, h2⟩ := r
  exact ⟨vs, p.row h1 hA hx, fun i hi => by obtain ⟨a, cap, e, e2, hc⟩ := h2 i hi; exact ⟨a, cap, e, e2, p.row hc hA hx⟩⟩
def restLen (W : World) (B : Nat) : Nat := match W.cell? ⟨B, 0, none⟩ with
  | some (.slice _ n _) => n
  | _ => 0
theorem restLen_eq {W : World} {B : Nat} {a : Option Addr} {n cap : Nat} (h : Rows8 W B 32 #[.slice a n cap]) : restLen W B = n := by
  have : W.cell? ⟨B, 0, none⟩ = some (.slice a n cap) := h.cell 0
  simp [restLen, this]

theorem noGoto_normal' {Q : Exit → Act → World → Prop} {a : Act} {w : World} : Exit.noGoto Q .normal a w = Q .normal a w := rfl
theorem wpIn_scope_straight {F : Fence} {n : Nat} {P : Program} {c : Code} {Q : Exit → Act → World → Prop} {a : Act} {w : World} (hF : F = Fence.wide) (h : c.wpIn F n P (Exit.noGoto Q) a w) : (Code.scope c).wpIn F n P Q a w := by
  subst hF
  exact wpIn_wide.2 (wp_scope_straight (wpIn_wide.1 h))

set_option maxRecDepth 100000 in
set_option maxHeartbeats 1000000 in
theorem Try.laps1_tells (d m : Nat) (hd : 1 ≤ d) (hm8 : m ≤ 8) (Bl Bn x : Nat) (a : Option Addr) (n cap : Nat) (ts : List Tn) (hlen : n ≤ 1000) (w₀ w : World) (hx : w₀.heap.size ≤ x) (hxw : x < w.heap.size) (hw₀ : Below w₀.heap.size w₀ w) (hxn : Bn ≠ x)
    (hBl : Rows8 w Bl 32 #[.slice a n cap]) (hBn : Rows8 w Bn 3 #[.int .i64 m]) (hI : TurnsAt w₀ (.slice a n cap) ts) :
    TellsB Fence.wide d Try.prog 56 #[.pointer (some ⟨Bl, 0, none⟩), .pointer (some ⟨Bn, 0, none⟩)] (fun v : Value => #[v]) (Kx x) (fun vs => vs.length = lapsB m ts) (fun _ => True) (n + 1) w := fun l J Jx W hW hJ hJx hY h0 => by
  refine callsIn_of_wp Try.func56 rfl trivial ?_ rfl
  simp only [Try.ntmps56, List.size_toArray, List.length_cons, List.length_nil, Nat.reduceAdd, Nat.reduceSub, Array.replicate_succ, Array.replicate_zero, List.push_toArray, List.append_toArray, List.nil_append, List.cons_append]
  refine wpIn_scope_straight rfl ?_
  have HY := Lib.hid hY
  have HJ := Lib.hid hJ
  have HI := Lib.hid hI
  have hn := (turnsAt_len hI).1
  have HN := Lib.hid hn
  have bl := hBl.below hW hBl.lt
  have bn := hBn.below hW hBn.lt
  have c0 : W.cell? ⟨Bl, 0, none⟩ = some (.slice a n cap) := bl.cell 0
  have hBL := bl.lt
  have hBN := bn.lt
  have BN := Lib.hid bn
  have t0 := Rows8.new W 32 #[.slice a n cap]
  have hB0 : Below W.heap.size W (W.alloc (.cells #[.slice a n cap] 32)) := (Below.refl _ W).alloc (Nat.le_refl _) _
  have hJ0 := hJ [] W _ h0 hB0
  have hw0W : Below w₀.heap.size w₀ W := hw₀.trans (hW.mono hw₀.size)
  have hxW : x < W.heap.size := by have := hW.size; omega
  have HW0 := Lib.hid hw0W
  clear hY hJ hI hn bl bn hBl hBn hw0W h0
  gi_wp2
  refine wpIn_label ?_
  gi_wp2
  generalize hWa : (W.alloc (.cells #[.slice a n cap] 32)) = Wa at *
  have HWA := Lib.hid hB0
  have T0 := Lib.hid t0
  have hza : W.heap.size + 1 ≤ Wa.heap.size := t0.lt
  clear hWa hB0 t0
  gi_loopw [6] (fun _ wr => ∃ (f : Nat) (a' : Option Addr) (r cap' : Nat) (pre : List Value), f ≤ n ∧ r = n - f ∧ pre.length ≤ f ∧ Hid (pre.length + lapsB m (ts.drop f) = lapsB m ts) ∧ J pre wr ∧ Rows8 wr W.heap.size 32 #[.slice a' r cap'] ∧ TurnsAt w₀ (.slice a' r cap') (ts.drop f) ∧ Kb W.heap.size x W wr)
    (fun _ wr => restLen wr W.heap.size)
  case atStart => exact ⟨0, a, n, cap, [], Nat.zero_le _, rfl, Nat.zero_le _, Lib.hid (by rw [List.drop_zero]; simp), hJ0, T0.out, by rw [List.drop_zero]; exact HI.out, Kb.of_below HWA.out⟩
  case round =>
    obtain ⟨f, a', r, cap', pre, hf, hr, hpf, hx2, hJs, t4, hT, hK⟩ := hrel
    have hzr : W.heap.size + 1 ≤ wr.heap.size := t4.lt
    have HRL4 := Lib.hid (restLen_eq t4)
    have HR := Lib.hid hr
    have hTr : TurnsAt wr (.slice a' r cap') (ts.drop f) := ((Kb.of_below HW0.out).trans (hK.mono HW0.out.size)).turns hT (Nat.le_refl _) hx
    have hbn := hK.rows BN.out hBN hxn
    have cn : wr.cell? ⟨Bn, 0, none⟩ = some (.int .i64 (m : Int)) := hbn.cell 0
    have ct : wr.cell? ⟨W.heap.size, 0, none⟩ = some (.slice a' r cap') := t4.cell 0
    obtain ⟨hrl, hrc, hcm⟩ := turnsAt_len hT
    have hr1000 : r ≤ 1000 := by have := HR.out; omega
    have heach := Try.each_any m hm8 57 #[.pointer (some ⟨W.heap.size, 0, none⟩)] (fun g => leadB g (ts.drop f)) wr (fun y W' _ hW' => Try.lap1_any y W.heap.size a' r cap' (ts.drop f) hr1000 W' (hTr.below hW') (t4.below hW' t4.lt)) (enters_of Try.func57 (by kernel_rfl) rfl)
    have hmx := maxI_upTo m hm8 (fun g => leadB g (ts.drop f))
    have hlap : lapB m (ts.drop f) = 1 + maxB (fun g => leadB g (ts.drop f)) m := rfl
    have hml : maxB (fun g => leadB g (ts.drop f)) m ≤ r := (maxB_le _ _ _).2 (fun k _ => by have := leadB_le k (ts.drop f); rw [← hrl] at this; exact this)
    have hyes := @lapsB_yes m (ts.drop f)
    have hno := @lapsB_no m (ts.drop f)
    rw [hlap, ← hrl] at hyes hno
    generalize maxB (fun g => leadB g (ts.drop f)) m = M at *
    generalize upTo m (fun g => leadB g (ts.drop f)) = q at *
    have HE := Lib.hid heach
    have HMX := Lib.hid hmx
    have HYES := Lib.hid hyes
    have HNO := Lib.hid hno
    have HT := Lib.hid hT
    have HK := Lib.hid hK
    have T4 := Lib.hid t4
    have HRL := Lib.hid hrl
    have HX2 := Lib.hid hx2
    clear hTr hbn heach hmx hlap hyes hno hT hK t4 hrl hr hx2
    gi_wp2_with fail
    refine ⟨trivial, ?_⟩
    refine (callsIn_wide.2 HE.out).mono ?_
    rintro e w2 ⟨rfl, hB2⟩
    unfold arr8I
    gi_wp2_with fail
    refine ⟨trivial, ?_⟩
    have r1 : Rows8 (w2.alloc (.cells #[.int .i64 (q 0), .int .i64 (q 1), .int .i64 (q 2), .int .i64 (q 3), .int .i64 (q 4), .int .i64 (q 5), .int .i64 (q 6), .int .i64 (q 7)] 59)) w2.heap.size 59 (arr8I q) := Rows8.new w2 _ _
    have hB3 : Below w2.heap.size w2 (w2.alloc (.cells #[.int .i64 (q 0), .int .i64 (q 1), .int .i64 (q 2), .int .i64 (q 3), .int .i64 (q 4), .int .i64 (q 5), .int .i64 (q 6), .int .i64 (q 7)] 59)) := (Below.refl _ w2).alloc (Nat.le_refl _) _
    have hB23 := hB2.trans (hB3.mono hB2.size)
    have hmax := Try.Max_any (some ⟨w2.heap.size, 0, none⟩) 8 8 (lst8 q) rfl (by omega) _ (arr8I_at r1)
    rw [HMX.out] at hmax
    have t4 := T4.out.below hB23 T4.out.lt
    have hJ3 := HJ.out pre _ _ hJs (hB23.mono (by omega))
    have hK3 := HK.out.trans (Kb.of_below (hB23.mono (by omega)))
    have hz3 := hB23.size
    have HMAX := Lib.hid hmax
    clear r1 hB2 hB3 hB23 hmax T4 HK hJs ct cn
    generalize (w2.alloc (.cells #[.int .i64 (q 0), .int .i64 (q 1), .int .i64 (q 2), .int .i64 (q 3), .int .i64 (q 4), .int .i64 (q 5), .int .i64 (q 6), .int .i64 (q 7)] 59)) = w3 at *
    have ct : w3.cell? ⟨W.heap.size, 0, none⟩ = some (.slice a' r cap') := t4.cell 0
    have T4 := Lib.hid t4
    have HK3 := Lib.hid hK3
    have HJ3 := Lib.hid hJ3
    clear t4 hK3 hJ3
    refine (callsIn_wide.2 HMAX.out).mono ?_
    rintro e w4 ⟨rfl, rfl⟩
    by_cases hgt : r < 1 + M
    · have hgi : (r : Int) < 1 + (M : Int) := by omega
      have hdone : Hid (pre.length = lapsB m ts) := Lib.hid (by rw [← HX2.out, HNO.out (by omega)]; rfl)
      have hmi : (M : Int) ≤ 1000 := by omega
      clear hgt
      gi_wp2_with fail
      rw [noGoto_normal']
      go_end0
      exact ⟨⟨_, rfl⟩, .inl ⟨pre, hdone.out, HJ3.out⟩⟩
    · have hgn : 1 + M ≤ r := by omega
      have hyes := HYES.out hgn
      obtain ⟨L, hL⟩ : ∃ L : Nat, L = 1 + M := ⟨_, rfl⟩
      have eL : 1 + (M : Int) = (L : Int) := by omega
      rw [← hL] at hyes
      have hLr : L ≤ r := by omega
      have hL1 : 1 ≤ L := by omega
      have hLi : (L : Int) ≤ (r : Int) := by omega
      have hLn : ¬ (r : Int) < (L : Int) := by omega
      have hLc : ¬ (cap' : Int) < (L : Int) := by omega
      have hrci : ¬ (cap' : Int) < (r : Int) := by omega
      have hLri : ¬ (r : Nat) < L := by omega
      obtain ⟨b, off, _, _, rfl, -⟩ := turnsAt_get HT.out 0 (by rw [← HRL.out]; omega)
      obtain ⟨fn, tmps, assign, body, hy, hR⟩ := HY.out pre (.slice (some ⟨b, off, none⟩) L L) w3 HJ3.out (by omega)
      have HYE := Lib.hid hyes
      have hTd := turns_drop HT.out L hLr
      rw [getD_drop] at hTd
      have HTD := Lib.hid hTd
      have hfl : f + L ≤ n := by have := HR.out; omega
      have hsum : Hid ((pre ++ [Value.slice (some ⟨b, off, none⟩) L L]).length + lapsB m (ts.drop (f + L)) = lapsB m ts) := Lib.hid (by
        rw [List.length_append, ← HX2.out, HYE.out, getD_drop]
        simp
        omega)
      clear hgt hyes hTd hL
      gi_wp2_with fail
      refine hR.mono ?_
      rintro e w5 (⟨rfl, hJ5, hk5, hx5⟩ | ⟨rfl, hJx5, hk5⟩)
      · have t5 : Rows8 w5 W.heap.size 32 #[.slice (some ⟨b, off, none⟩) r cap'] := hx5.same _ _ T4.out rfl (by omega)
        have c5 : w5.cell? ⟨W.heap.size, 0, none⟩ = some (.slice (some ⟨b, off, none⟩) r cap') := t5.cell 0
        have f5 := t5.frozen 0
        have hK5 := HK3.out.trans (Kb.of_kx hx5)
        have HJ5 := Lib.hid hJ5
        by_cases hcap : cap' = L
        · subst hcap
          obtain rfl : r = cap' := by omega
          have t6 := t5.set 0 (.slice (some ⟨b, off, none⟩) 0 0)
          simp only [List.setIfInBounds_toArray, List.set_cons_zero] at t6
          have hd0 : Hid (ts.drop (f + r) = []) := Lib.hid (List.drop_eq_nil_of_le (by have := HN.out; have := HR.out; omega))
          have T6 := Lib.hid t6
          have RL6 := Lib.hid (restLen_eq t6)
          have HJ6 := Lib.hid (HJ.out _ _ _ hJ5 ((Below.refl _ w5).setCell (p := ⟨W.heap.size, 0, none⟩) (Nat.le_refl _) (.slice (some ⟨b, off, none⟩) 0 0)))
          have HK6 := Lib.hid (hK5.trans (Kb.set w5 (Nat.le_refl _) 0 (.slice (some ⟨b, off, none⟩) 0 0)))
          clear t5 t6 hJ5 hx5 hk5 hK5
          gi_wp2
          go_roundw
          case rel => exact ⟨f + r, _, 0, 0, _, hfl, by have := HR.out; omega, by simp; omega, hsum, HJ6.out, T6.out, by rw [hd0.out]; exact turns_none _ _ (fun e => by cases e) (Nat.zero_le _), HK6.out⟩
          case measure => rw [RL6.out, HRL4.out]; omega
        · have hcapi : ¬ (cap' : Int) = (L : Int) := by omega
          have t6 := t5.set 0 (.slice (some ⟨b, off + L * 2, none⟩) (r - L) (cap' - L))
          simp only [List.setIfInBounds_toArray, List.set_cons_zero] at t6
          have T6 := Lib.hid t6
          have RL6 := Lib.hid (restLen_eq t6)
          have HJ6 := Lib.hid (HJ.out _ _ _ hJ5 ((Below.refl _ w5).setCell (p := ⟨W.heap.size, 0, none⟩) (Nat.le_refl _) (.slice (some ⟨b, off + L * 2, none⟩) (r - L) (cap' - L))))
          have HK6 := Lib.hid (hK5.trans (Kb.set w5 (Nat.le_refl _) 0 (.slice (some ⟨b, off + L * 2, none⟩) (r - L) (cap' - L))))
          clear t5 t6 hJ5 hx5 hk5 hK5
          gi_wp2
          go_roundw
          case rel => exact ⟨f + L, _, r - L, cap' - L, _, hfl, by have := HR.out; omega, by simp; omega, hsum, HJ6.out, T6.out, HTD.out, HK6.out⟩
          case measure => rw [RL6.out, HRL4.out]; omega
      · gi_wp2
        rw [noGoto_normal']
        go_end0
        exact ⟨⟨_, rfl⟩, .inr ⟨_, trivial, hJx5⟩⟩
end Go.Proofs
