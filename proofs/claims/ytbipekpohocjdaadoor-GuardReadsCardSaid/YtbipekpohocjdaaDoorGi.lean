/- Ranges over what rounds may append to; clear rows, told. -/
import Derived.Test.YtbipekpohocjdaaDoorGc
namespace Go.Proofs
open Go.RowKit Go.Shelf
attribute [local go_sem] Oper.semAt_some

/-- All cells are as they were, but those of two types that lie from h on. -/
structure Kt (h : Nat) (t1 t2 : TypeId) (A B : World) : Prop where
  size : A.heap.size ≤ B.heap.size
  same : ∀ (k : Nat) (cs : Array Value) (t : TypeId) (fr : Nat × Nat), A.heap[k]? = some (Obj.cells cs t fr) → (k < h ∨ (t ≠ t1 ∧ t ≠ t2)) → B.heap[k]? = some (Obj.cells cs t fr)
theorem Kt.refl (h : Nat) (t1 t2 : TypeId) (A : World) : Kt h t1 t2 A A := ⟨Nat.le_refl _, fun _ _ _ _ h _ => h⟩
theorem Kt.trans {h : Nat} {t1 t2 : TypeId} {A B C : World} (p : Kt h t1 t2 A B) (q : Kt h t1 t2 B C) : Kt h t1 t2 A C := ⟨Nat.le_trans p.size q.size, fun k cs t fr hk hh => q.same k cs t fr (p.same k cs t fr hk hh) hh⟩
theorem Kt.rows {h : Nat} {t1 t2 : TypeId} {A B : World} (p : Kt h t1 t2 A B) {k : Nat} {t : TypeId} {cs : Array Value} (r : Rows8 A k t cs) (h1 : t ≠ t1) (h2 : t ≠ t2) : Rows8 B k t cs := p.same k cs t (0, 0) r (.inr ⟨h1, h2⟩)
theorem Kt.of_below {h : Nat} {t1 t2 : TypeId} {A B : World} (p : Below A.heap.size A B) : Kt h t1 t2 A B := ⟨p.size, fun k _ _ _ hk _ => (p.block k (Array.getElem?_eq_some_iff.1 hk).1).trans hk⟩
theorem Kt.alloc {h : Nat} {t1 t2 : TypeId} (A : World) (o : Obj) : Kt h t1 t2 A (A.alloc o) := .of_below ((Below.refl _ A).alloc (Nat.le_refl _) o)
theorem Kt.cell {h : Nat} {t1 t2 : TypeId} {A B : World} (p : Kt h t1 t2 A B) {a : Addr} {v : Value} (hb : a.block < h) (hc : A.cell? a = some v) : B.cell? a = some v := by
  cases ho : A.heap[a.block]? with
  | none => simp [World.cell?, ho] at hc
  | some o =>
    cases o with
    | cells cs t fr =>
      have h2 := p.same a.block cs t fr ho (.inl hb)
      rw [World.cell?_of_block (w := A) (h2.trans ho.symm)]
      exact hc
    | _ => simp [World.cell?, ho] at hc
theorem Kt.set {h : Nat} {t1 t2 : TypeId} {A B : World} (p : Kt h t1 t2 A B) {a : Addr} {t : TypeId} {cs : Array Value} (r : Rows8 B a.block t cs) (h0 : h ≤ a.block) (h1 : t = t1 ∨ t = t2) (v : Value) : Kt h t1 t2 A (B.setCell a v) :=
  p.trans ⟨by simp [World.setCell], fun k cs' t' fr hk hh => by
    have hne : a.block ≠ k := fun e => by
      subst e
      rw [show B.heap[a.block]? = _ from r] at hk
      injection hk with hk
      injection hk with _ hk _
      rcases hh with hh | ⟨e1, e2⟩
      · omega
      · rcases h1 with h1 | h1
        · exact e1 (hk ▸ h1)
        · exact e2 (hk ▸ h1)
    show (B.heap.modify a.block _)[k]? = _
    rw [Array.getElem?_modify, if_neg hne]
    exact hk⟩
theorem Kt.grown {h : Nat} {t1 t2 : TypeId} {A B C : World} (p : Kt h t1 t2 A B) {n₀ k n : Nat} {v : Value} {cs : List Value} (hn : h ≤ n₀) (o : B.ownsRow n₀ t2 k v n cs) (hg : B.grownBy C v.ownBlock) : Kt h t1 t2 A C :=
  p.trans ⟨hg.size, fun q cs' t' fr hk hh => (hg.block q (Array.getElem?_eq_some_iff.1 hk).1 (fun e => by
    rcases o.2 with ⟨rfl, _⟩ | ⟨g, cap, cur, rfl, hb, hc, _⟩
    · simp [Value.ownBlock] at e
    · obtain rfl : q = g := by simpa [Value.ownBlock] using e
      rcases hh with hh | ⟨_, e2⟩
      · omega
      · rw [hc] at hk
        injection hk with hk
        injection hk with _ hk _
        exact e2 hk.symm)).trans hk⟩
theorem kt_b {h : Nat} {t1 t2 : TypeId} {B : Nat} (W : World) (l : Nat) (o o' : Obj) (_ : B ≤ l) (hh : W.heap[l]? = some o) (hc : o.isCells = false) (_ : o.isWalk = false) : Kt h t1 t2 W (W.putObj l o') := by
  refine ⟨by simp [World.putObj], fun k cs t fr hk _ => ?_⟩
  have hne : l ≠ k := fun e => by
    subst e
    rw [hk] at hh
    injection hh with hh
    subst hh
    cases hc
  exact (World.putObj_heap_other (fun e => hne e.symm)).trans hk
theorem keepsFrom_below {B : Nat} {W W' : World} (p : Below W.heap.size W W') : KeepsFrom B W W' := ⟨p.size, fun k _ _ ho _ => (p.block k (Array.getElem?_eq_some_iff.1 ho).1).trans ho⟩
theorem kt_t {h : Nat} {t1 t2 : TypeId} {A B C : World} (p : Kt h t1 t2 A B) (q : Kt h t1 t2 B C) : Kt h t1 t2 A C := p.trans q

section
variable {F : Fence} {n : Nat} {P : Program} {α : Type}
/-- What an iterator tells, to whatever asks it while abiding the turn of records that are laid later. -/
def TellsC (F : Fence) (n : Nat) (P : Program) (g : Nat) (lb : Array Value) (encs : α → Array Value) (Kp : World → World → Prop) (S Sp : List α → Prop) (N : Nat) (w : World) : Prop :=
  ∀ (l : Nat) (J Jx : List α → World → Prop) (W : World), Below w.heap.size w W → (∀ s X Y, J s X → Below X.heap.size X Y → J s Y) → (∀ s X Y, Jx s X → Below X.heap.size X Y → Jx s Y) →
    (∀ pre x W1, J pre W1 → pre.length < N → YieldAt F (n - 1) P l (encs x) W1 fun e W' =>
      (e = .returned (.bool true) ∧ J (pre ++ [x]) W' ∧ KeepsFrom W.heap.size W1 W' ∧ Kp W1 W') ∨ (e = .returned (.bool false) ∧ Jx (pre ++ [x]) W' ∧ KeepsFrom W.heap.size W1 W')) →
    J [] W → CallsIn F n P g (#[.func (.yield l) #[] #[]] ++ lb) W fun e W' => (∃ v, e = .returned v) ∧ ((∃ xs, S xs ∧ J xs W') ∨ (∃ pre, Sp pre ∧ Jx pre W'))

/-- The statement, over an iterator that tells. -/
theorem range_tellsC {g : Operand} {ps : Array Tmp} {asg body : Code} {Q : Exit → Act → World → Prop} {a : Act} {w : World}
    (hro : F.round = none) (h1 : 1 ≤ n) {gf : Nat} {lb : Array Value} (hg : a.eval g = .func (.func gf) #[] lb) (hF : F.fn gf) (eg : ∀ args w, (callFunc gf args).run P w = .ok (.enter gf args) w)
    {encs : α → Array Value} {Kp : World → World → Prop} {S Sp : List α → Prop} {N : Nat} {w0 : World} (hseq : TellsC F (n - 1) P gf lb encs Kp S Sp N w0)
    (hKt : ∀ {X Y Z : World}, Kp X Y → Kp Y Z → Kp X Z) (hKb : ∀ (W : World) (k : Nat) (o o' : Obj), w.heap.size ≤ k → W.heap[k]? = some o → o.isCells = false → o.isWalk = false → Kp W (W.putObj k o')) (hb0 : Below w0.heap.size w0 w) (hps : ∀ x, (encs x).size = ps.size)
    (I : List α → World → Prop) (Ix : Code → List α → World → Prop) (hI : OwnFrom w.heap.size I) (hIx : ∀ c, OwnFrom w.heap.size (Ix c)) (hIb : ∀ s X Y, I s X → Below X.heap.size X Y → I s Y) (hIxb : ∀ c s X Y, Ix c s X → Below X.heap.size X Y → Ix c s Y) (h0 : I [] w) (Ax : α → Act → World → Prop) (hAx : ∀ x a', OwnFrom w.heap.size (fun (_ : Unit) W => Ax x a' W))
    (hassign : ∀ (l : Nat) (pre : List α) (x : α) (W : World) (K : Act → World → Prop), I pre W → (∀ a' W', KeepsFrom w.heap.size W W' → Kp W W' → I pre W' → Ax x a' W' → K a' W') →
      asg.wpIn (F.inRound l) (n - 1 - 1) P (Exit.then K (fun _ _ _ => False)) { tmps := (ps.zip (encs x)).foldl (fun t (p, v) => t.setIfInBounds p v) a.tmps, defers := [] } W)
    (hbody : ∀ (l : Nat) (pre : List α) (x : α) (a' : Act) (W : World), I pre W → Ax x a' W → pre.length < N → body.wpIn (F.inRound l) (n - 1 - 1) P (ownPostG w.heap.size Kp I Ix (pre ++ [x]) W) a' W)
    (hdone : ∀ (D : Nat) (xs : List α) (W : World), w.heap.size ≤ D → S xs → I xs W → W.heap[D]? = some (.deferred (some [])) → Q .normal { a with defers := { target := .collected D, args := #[] } :: a.defers } W)
    (hstop : ∀ (D : Nat) (c : Code) (pre : List α) (W : World), w.heap.size ≤ D → Sp pre → Ix c pre W → W.heap[D]? = some (.deferred (some [])) → c.wpIn F n P Q { a with defers := { target := .collected D, args := #[] } :: a.defers } W) :
    (Code.rangeFunc g ps asg body).wpIn F n P Q a w := by
  refine wpIn_rangeFunc fun fn hfn => ?_
  rw [hro]
  have hne : w.heap.size + 1 ≠ w.heap.size := by omega
  have hbk : Book (w.heap.size + 1) w.heap.size (recOf fn a.tmps ps asg body w.heap.size .ready none) ((w.alloc (.deferred (some []))).alloc (.loop (recOf fn a.tmps ps asg body w.heap.size .ready none))) := by
    constructor
    · have h := World.alloc_heap_new (w.alloc (.deferred (some []))) (.loop (recOf fn a.tmps ps asg body w.heap.size .ready none))
      rwa [World.size_alloc] at h
    · exact (Below.heap_alloc _ _ _ (by simp)).trans (World.alloc_heap_new w _)
  have hi1 : I [] ((w.alloc (.deferred (some []))).alloc (.loop (recOf fn a.tmps ps asg body w.heap.size .ready none))) := hI.alloc _ (hI.alloc _ h0)
  have hb1 : Below w0.heap.size w0 ((w.alloc (.deferred (some []))).alloc (.loop (recOf fn a.tmps ps asg body w.heap.size .ready none))) :=
    hb0.trans ((((Below.refl _ w).alloc (Nat.le_refl _) _).alloc (by simp) _).mono hb0.size)
  have hent := run_enterLoop_outer (P := P) (w := w) fn a.tmps ps asg body
  have hsz : ((w.alloc (.deferred (some []))).alloc (.loop (recOf fn a.tmps ps asg body w.heap.size .ready none))).heap.size = w.heap.size + 2 := by simp
  refine ⟨w.heap.size + 1, [{ target := .collected w.heap.size, args := #[] }], (w.alloc (.deferred (some []))).alloc (.loop (recOf fn a.tmps ps asg body w.heap.size .ready none)), { target := .fn (.func gf) lb, args := #[.func (.yield (w.heap.size + 1)) #[] #[]] }, (w.alloc (.deferred (some []))).alloc (.loop (recOf fn a.tmps ps asg body w.heap.size .ready none)), gf,
    #[.func (.yield (w.heap.size + 1)) #[] #[]] ++ lb, (w.alloc (.deferred (some []))).alloc (.loop (recOf fn a.tmps ps asg body w.heap.size .ready none)), hent, ?_, ?_, ?_, fun _ => h1, ?_⟩
  · simp only [resolve, hg]
    simp [go_sem]
  · intro f' hf'
    simp [Target.leads] at hf'
    subst hf'
    exact hF
  · simp [invoke, go_sem, eg]
  · generalize ((w.alloc (.deferred (some []))).alloc (.loop (recOf fn a.tmps ps asg body w.heap.size .ready none))) = W1 at *
    have abide : ∀ {X Y : World} {r : Loop}, Below X.heap.size X Y → Book (w.heap.size + 1) w.heap.size r X → Book (w.heap.size + 1) w.heap.size r Y := by
      intro X Y r hXY hb
      exact ⟨(hXY.block _ (Array.getElem?_eq_some_iff.1 hb.1).1).trans hb.1, (hXY.block _ (Array.getElem?_eq_some_iff.1 hb.2).1).trans hb.2⟩
    refine (hseq (w.heap.size + 1) (fun pre W => I pre W ∧ Book (w.heap.size + 1) w.heap.size (recOf fn a.tmps ps asg body w.heap.size .ready none) W)
      (fun pre W => ∃ c, Ix c pre W ∧ Book (w.heap.size + 1) w.heap.size (recOf fn a.tmps ps asg body w.heap.size .done (some c)) W) W1 hb1
      (fun s X Y hs hXY => ⟨hIb s X Y hs.1 hXY, abide hXY hs.2⟩)
      (fun s X Y hs hXY => by obtain ⟨c, hc, hb⟩ := hs; exact ⟨c, hIxb c s X Y hc hXY, abide hXY hb⟩)
      (fun pre x W hJ hN => one_round (Kp := Kp) (P := P) (m := n - 1 - 1) (B := w.heap.size) (l := w.heap.size + 1) (D := w.heap.size) (tmps := a.tmps) (ps := ps) (asg := asg) (body := body) (I := I) (Ix := Ix) (Ax := Ax) (N := N) hfn (Nat.le_succ _) (Nat.le_refl _) hne hps hKt hKb (H := W1.heap.size) (by omega) hI hIx hAx (hassign (w.heap.size + 1)) (hbody (w.heap.size + 1)) pre x W hJ.1 hJ.2 hN) ⟨hi1, hbk⟩).mono ?_
    rintro e W2 ⟨⟨v, rfl⟩, (⟨xs, hS, hi, hb⟩ | ⟨pre, hSp, c, hi, hb⟩)⟩
    · exact ⟨none, _, run_endLoop hb.1 (by simp [recOf]), hdone _ xs _ (Nat.le_refl _) hS (hI.putObj _ hi (by omega) hb.1 rfl) ((World.putObj_heap_other (by omega)).trans hb.2)⟩
    · exact ⟨some c, _, run_endLoop hb.1 (by simp [recOf]), hstop _ c pre _ (Nat.le_refl _) hSp ((hIx c).putObj _ hi (by omega) hb.1 rfl) ((World.putObj_heap_other (by omega)).trans hb.2)⟩

end
def encP (p : Int × Int) : Array Value := #[.agg #[.int .i64 p.1, .int .i64 p.2]]
theorem Tryd.gaps_any (x : Option Addr) (n cap : Nat) (w : World) :
    Calls Tryd.prog 44 #[.slice x n cap] w fun e w' => e = .returned (.func (.func 53) #[] #[.pointer (some ⟨w.heap.size, 0, none⟩)]) ∧ w' = w.alloc (.cells #[.slice x n cap] 23) := by
  go_enter Tryd.func44, Tryd.ntmps44
  go_wp2
  go_ret
  exact ⟨rfl, rfl⟩
theorem gapL_last {a : Int} {s : Int × Int} {t : List (Int × Int)} (h : s.2 = 0) : gapL a (s :: t) = [(a, s.1 - 1)] := by rw [gapL, if_pos h]
theorem gapL_more {a : Int} {s : Int × Int} {t : List (Int × Int)} (h : s.2 ≠ 0) : gapL a (s :: t) = (a, s.1 - 1) :: gapL s.2 t := by rw [gapL, if_neg h]

set_option maxRecDepth 100000 in
set_option maxHeartbeats 2000000 in
theorem Tryd.gaps1_tells (d : Nat) (hd : 1 ≤ d) (Bs h : Nat) (t1 t2 : TypeId) (ht1 : 39 ≠ t1) (ht2 : 39 ≠ t2) (a : Option Addr) (n cap : Nat) (l : List (Int × Int)) (hR : ∀ s ∈ l, 1 ≤ s.1 ∧ s.1 ≤ 1073741824) (w₀ w : World) (hx : w₀.heap.size ≤ h) (hw₀ : Below w₀.heap.size w₀ w)
    (hBs : Rows8 w Bs 23 #[.slice a n cap]) (hI : PAt w₀ (.slice a n cap) l) :
    TellsC Fence.wide d Tryd.prog 53 #[.pointer (some ⟨Bs, 0, none⟩)] encP (Kt h t1 t2) (fun xs => xs = gapL 0 l) (fun pre => pre <+: gapL 0 l) (gapL 0 l).length w := fun lp J Jx W hW hJ hJx hY h0 => by
  refine callsIn_of_wp Tryd.func53 rfl trivial ?_ rfl
  simp only [Tryd.ntmps53, List.size_toArray, List.length_cons, List.length_nil, Nat.reduceAdd, Nat.reduceSub, Array.replicate_succ, Array.replicate_zero, List.push_toArray, List.append_toArray, List.nil_append, List.cons_append]
  obtain ⟨hn, hnc, hcm⟩ := pAt_len hI
  have hreach : n ≤ maxLen := by omega
  unfold maxLen at hreach
  have HY := Lib.hid hY
  have HJ := Lib.hid hJ
  have HI := Lib.hid hI
  have HN := Lib.hid hn
  have HR := Lib.hid hR
  have bs := hBs.below hW hBs.lt
  have c0 : W.cell? ⟨Bs, 0, none⟩ = some (.slice a n cap) := bs.cell 0
  have hBL := bs.lt
  have hw0W : Below w₀.heap.size w₀ W := hw₀.trans (hW.mono hw₀.size)
  have HW0 := Lib.hid hw0W
  clear hY hJ hI hn bs hBs hw0W hnc hcm hR
  gi_wp2
  gi_loopw [3, 8] (fun fv j wr => ∃ (k : Nat) (pre : List (Int × Int)) (fi : Int), k ≤ n ∧ j = .int .i64 k ∧ fv = .int .i64 fi ∧ Hid (gapL 0 l = pre ++ gapL fi (l.drop k)) ∧ J pre wr ∧ Kt h t1 t2 W wr) (fun _ j _ => n - (intOf j).toNat)
  case atStart => exact ⟨0, [], 0, Nat.zero_le _, rfl, rfl, Lib.hid rfl, h0, Kt.refl _ _ _ _⟩
  case round =>
    obtain ⟨k, pre, fi, hk, rfl, rfl, hE, hJs, hK⟩ := hrel
    have hKw : Kt h t1 t2 w₀ wr := (Kt.of_below HW0.out).trans hK
    by_cases hlt : k < n
    · have hkl : k < l.length := by rw [← HN.out]; exact hlt
      obtain ⟨b, off, rfl, hb, p1, p2⟩ := pAt_get HI.out k hkl
      have hc1 := hKw.cell (a := ⟨b, off + k * 2, none⟩) (by show b < h; omega) p1
      have hc2 := hKw.cell (a := ⟨b, off + k * 2 + 1, none⟩) (by show b < h; omega) p2
      have hE2 := hE.out
      rw [drop_next l k hkl] at hE2
      have hrg := HR.out _ (List.getElem_mem hkl)
      rcases hs : l[k] with ⟨f, t⟩
      rw [hs] at hc1 hc2 hE2 hrg
      dsimp only at hc1 hc2 hrg
      have hki : (k : Int) < (n : Int) := by omega
      have hB1 : Below wr.heap.size wr (wr.alloc (.cells #[.int .i64 f, .int .i64 t] 39)) := Rows8.newB
      have hJ1 := HJ.out _ _ _ hJs hB1
      have HK1 := Lib.hid (hK.trans (Kt.of_below hB1))
      have br := Rows8.new wr 39 #[.int .i64 f, .int .i64 t]
      have hbr : b < wr.heap.size := by have := hKw.size; omega
      have hw1 : IntKind.i64.wrap (f - 1) = f - 1 := IntWalk.i64_in _ (by omega)
      have hlen1 : pre.length < (gapL 0 l).length := by
        rw [hE2, List.length_append, gapL]
        split <;> simp
      obtain ⟨fn, tmps, assign, body, hy, hR⟩ := HY.out pre (fi, f - 1) _ hJ1 hlen1
      unfold encP at hy
      dsimp only at hy
      have HE2 := Lib.hid hE2
      have HBR := Lib.hid br
      clear hJs hK hE hE2 hkl hB1 p1 p2 hKw hs br hJ1 hlen1 hrg
      gi_wp2_with fail
      refine hR.mono ?_
      rintro e w5 (⟨rfl, hJ5, hk5, hx5⟩ | ⟨rfl, hJx5, hk5⟩)
      · have b5 := hx5.rows HBR.out ht1 ht2
        have c5 : w5.cell? ⟨wr.heap.size, 1, none⟩ = some (.int .i64 t) := Rows8.cell b5 1
        have HK5 := Lib.hid (HK1.out.trans hx5)
        have hl5 : wr.heap.size < w5.heap.size := Rows8.lt b5
        clear hk5 hx5
        by_cases ht : t = 0
        · subst ht
          have q0 : ((0 : Int) == 0) = true := by simp
          have hfin : Hid (gapL 0 l = pre ++ [(fi, f - 1)]) := Lib.hid (by rw [HE2.out, gapL_last rfl])
          have HJ5 := Lib.hid hJ5
          clear hJ5 b5
          gi_wp2_with fail
          refine bodyPost_ret (results_none rfl _ _ _) rfl ?_
          exact ⟨⟨_, rfl⟩, .inl ⟨_, hfin.out.symm, HJ5.out⟩⟩
        · have q0 : (t == 0) = false := by simp [ht]
          have hE3 : Hid (gapL 0 l = pre ++ [(fi, f - 1)] ++ gapL t (l.drop (k + 1))) := Lib.hid (by rw [HE2.out, gapL_more ht]; simp)
          have HJ5 := Lib.hid hJ5
          clear hJ5 b5 ht
          gi_wp2_with fail
          go_roundw
          case rel => exact ⟨k + 1, _, t, by omega, by go_num, rfl, hE3, HJ5.out, HK5.out⟩
          case measure => simp [intOf]; omega
      · have HJ5 := Lib.hid hJx5
        have hpre : Hid (pre ++ [(fi, f - 1)] <+: gapL 0 l) := Lib.hid (by
          rw [HE2.out]
          by_cases ht : t = 0
          · rw [gapL_last ht]; exact List.prefix_refl _
          · rw [gapL_more ht]; exact ⟨gapL t (l.drop (k + 1)), by simp⟩)
        clear hk5 hJx5
        gi_wp2_with fail
        refine bodyPost_ret (results_none rfl _ _ _) rfl ?_
        exact ⟨⟨_, rfl⟩, .inr ⟨_, hpre.out, HJ5.out⟩⟩
    · obtain rfl : k = n := by omega
      have hfin : gapL 0 l = pre ++ [(fi, 1073741824)] := by rw [hE.out, List.drop_of_length_le (Nat.le_of_eq HN.out.symm)]; simp [gapL]
      obtain ⟨fn, tmps, assign, body, hy, hR⟩ := HY.out pre (fi, 1073741824) _ hJs (by rw [hfin]; simp)
      unfold encP at hy
      dsimp only at hy
      have HF := Lib.hid hfin
      clear hE hfin hJs
      gi_wp2_with fail
      refine hR.mono ?_
      rintro e w5 (⟨rfl, hJ5, hk5, hx5⟩ | ⟨rfl, hJx5, hk5⟩)
      · have HJ5 := Lib.hid hJ5
        clear hJ5 hx5 hk5
        gi_wp2_with fail
        go_end0
        exact ⟨⟨_, rfl⟩, .inl ⟨_, HF.out.symm, HJ5.out⟩⟩
      · have HJ5 := Lib.hid hJx5
        clear hk5 hJx5
        gi_wp2_with fail
        go_end0
        exact ⟨⟨_, rfl⟩, .inr ⟨_, by rw [HF.out]; exact List.prefix_refl _, HJ5.out⟩⟩
end Go.Proofs
