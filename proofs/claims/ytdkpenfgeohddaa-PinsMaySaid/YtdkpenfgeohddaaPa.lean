/- Pins: what holds at every seat. -/
import Derived.Test.YtdkpenfgeohddaaQa
import Derived.Test.YtdkpenfgeohddaaRz
import Derived.Test.YtdkpenfgeohddaaGt
import Derived.Defers
import Derived.Recover
import Derived.Laws.EntriesVeiled
namespace Go.Proofs
open Go.RowKit Go.Shelf
attribute [local go_sem] Oper.semAt_some

theorem Rows8.newB {W : World} {t : TypeId} {cs : Array Value} : Below W.heap.size W (W.alloc (.cells cs t)) := (Below.refl _ W).alloc (Nat.le_refl _) _
theorem results_ctA {P : Program} {fn : Func} {p q : Tmp} {ty : TypeId} (h : fn.results = #[.cell p ty, .tmp q]) (tmps : Array Value) (w : World) (B : Nat) (u x : Value)
    (hp : tmps.getD p undef = .pointer (some ⟨B, 0, none⟩)) (hx : tmps.getD q undef = x) (h1 : (loadVar ty ⟨B, 0, none⟩).run P w = .ok u w) :
    (results fn tmps).run P w = .ok (.tuple #[u, x]) w := by
  have hp' : tmps[p]?.getD undef = .pointer (some ⟨B, 0, none⟩) := by simpa using hp
  have hx' : tmps[q]?.getD undef = x := by simpa using hx
  simp [results, h, hp', hx', asAddr, h1, Result.andThen]
theorem load_row {P : Program} {W : World} {B : Nat} {t : TypeId} {cs : Array Value} (h : Rows8 W B t cs) {d : TypeDesc} (hu : P.underlying t = some d) (hd : (match d with | .struct _ | .array _ _ => true | _ => false) = true) (hi : (P.info? t).map (·.size) = some cs.size) :
    (loadVar t ⟨B, 0, none⟩).run P W = .ok (.agg cs) W := run_loadVar_row W B t t cs (0, 0) d h hu hd hi
theorem below_drewN {h : Nat} {A B : World} (p : Below h A B) (n : Nat) : Below h A (B.drewN n) := ⟨p.os, p.tape, p.output, p.size, p.block⟩
theorem rows_apart {W : World} {B g : Nat} {t e : TypeId} {cs ds : Array Value} (r : Rows8 W B t cs) (q : Rows8 W g e ds) (h : t ≠ e) : B ≠ g := fun ee => by
  subst ee
  have q9 : W.heap[B]? = some (Obj.cells ds e (0, 0)) := q
  rw [show W.heap[B]? = _ from r] at q9
  injection q9 with q1
  injection q1 with _ q2 _
  exact h q2
theorem Rows8.drewA {W : World} {B : Nat} {t : TypeId} {cs : Array Value} (h : Rows8 W B t cs) : Rows8 W.drew B t cs := h
theorem Rows8.keepM {X Y : World} {row : Option Nat} {B : Nat} {t : TypeId} {cs : Array Value} (p : Rows8 X B t cs) (hg : X.grownBy Y row) (hr : ∀ r, row = some r → ∃ o : Obj, X.heap[r]? = some o ∧ o.isCells = false) : Rows8 Y B t cs := Rows8.own B t (fun _ : Unit => cs) () X Y row p hg hr
theorem keepsFrom_set {H : Nat} (W : World) {a : Addr} {t : TypeId} {cs : Array Value} (r : Rows8 W a.block t cs) (v : Value) : KeepsFrom H W (W.setCell a v) :=
  ⟨by simp [World.setCell], fun k o _ hk hc => by
    have hne : a.block ≠ k := fun e => by
      subst e
      rw [show W.heap[a.block]? = _ from r] at hk
      cases hk
      cases hc
    show (W.heap.modify a.block _)[k]? = _
    rw [Array.getElem?_modify, if_neg hne]
    exact hk⟩
theorem results_c1 {P : Program} {fn : Func} {p : Tmp} {ty : TypeId} (h : fn.results = #[.cell p ty]) (tmps : Array Value) (w : World) (B : Nat) (u : Value)
    (hp : tmps.getD p undef = .pointer (some ⟨B, 0, none⟩)) (h1 : (loadVar ty ⟨B, 0, none⟩).run P w = .ok u w) : (results fn tmps).run P w = .ok u w := by
  have hp' : tmps[p]?.getD undef = .pointer (some ⟨B, 0, none⟩) := by simpa using hp
  simp [results, h, hp', asAddr, h1, Result.andThen]
theorem owns_setT {n₀ k n : Nat} {T t : TypeId} {v : Value} {cs : List Value} {W : World} (o : W.ownsRow n₀ T k v n cs) {a : Addr} {ds : Array Value} (r : Rows8 W a.block t ds) (hne : T ≠ t) (u : Value) : (W.setCell a u).ownsRow n₀ T k v n cs :=
  ownsRow_setCell_other o (owns_not o r hne) u
def shutAll (W : World) (Ds : List Nat) : World := Ds.foldl (fun W D => W.putObj D (.deferred none)) W
def marks (Ds : List Nat) : List Deferred := Ds.map fun D => { target := .collected D, args := #[] }
theorem leaves_marks {F : Fence} {n : Nat} {P : Program} {fn : Func} {tmps : Array Value} {R : Ending → World → Prop} {u : FrameMode} (hu : u ≠ .run) : ∀ (Ds : List Nat) (W : World), Ds.Nodup → (∀ D ∈ Ds, W.heap[D]? = some (.deferred (some []))) →
    LeavesInM F n P fn tmps R [] u (shutAll W Ds) → LeavesInM F n P fn tmps R (marks Ds) u W
  | [], _, _, _, h => h
  | D :: Ds, W, hn, hK, h => by
    obtain ⟨h1, h2⟩ := List.nodup_cons.1 hn
    refine ⟨hu, .inl ⟨D, _, rfl, run_takeDeferred (hK D (by simp)), ?_⟩⟩
    exact leaves_marks hu Ds _ h2 (fun E hE => (World.putObj_heap_other (by rintro rfl; exact h1 hE)).trans (hK E (by simp [hE]))) h
theorem setRow_self {W : World} {g : Nat} {cur : Array Value} {t : TypeId} (h : W.heap[g]? = some (.cells cur t (0, 0))) (cs : List Value) (e : cs.toArray = cur) : (W.setRow g cs.toArray).heap[g]? = some (.cells cs.toArray t (0, 0)) := setRow_heap _ g _ _ _ _ h
theorem run_copy_nil {P : Program} (w : World) (dT sT ty elem : TypeId) (g o dCap : Nat) (k : Nat) (hu : P.underlying dT = some (.slice elem)) (hs : (P.info? elem).map (·.size) = some k) :
    (Builtin.copy_ #[dT, sT] ty #[.slice (some ⟨g, o, none⟩) 0 dCap, .slice none 0 0]).run P w = .ok (goInt 0) w := by
  cases hq : P.info? elem with
  | none => simp [hq] at hs
  | some i => simp [Builtin.copy_, run_underlying hu, Builtin.lenOf, Builtin.firstCells, sizeOf, typeInfo, hq, loadCells, storeCells]
theorem own_rows {W : World} {n₀ k n g c : Nat} {T : TypeId} {len : Nat} {cs : List Value} (h : W.ownsRow n₀ T k (.slice (some ⟨g, 0, none⟩) len c) n cs) : ∃ cur, Rows8 W g T cur ∧ n = len ∧ n₀ ≤ g ∧ ∀ j, j < cs.length → W.cell? ⟨g, j, none⟩ = cs[j]? := by
  have hr := rowAt_own h
  rcases h.2 with ⟨h0, _⟩ | ⟨g', cap, cur, e, hg, hh, _⟩
  · cases h0
  · cases e
    refine ⟨cur, hh, rfl, hg, fun j hj => ?_⟩
    obtain ⟨_, a, cp, e, _, _, _, hc⟩ := hr
    cases e
    obtain ⟨b, off, e, _, h3⟩ := hc j hj
    cases e
    rw [Nat.zero_add] at h3
    exact h3
theorem grownBy_set (W : World) (B o : Nat) (u : Value) : W.grownBy (W.setCell ⟨B, o, none⟩ u) (some B) :=
  ⟨rfl, rfl, rfl, by simp [World.setCell], fun k _ hk => Below.heap_setCell W ⟨B, o, none⟩ u k (by show k ≠ B; exact fun e => hk (by rw [e]))⟩
theorem run_copy_rowK {P : Program} (w : World) (dT sT ty elem : TypeId) (g o dLen dCap : Nat) (a : Addr) (sLen sCap : Nat) (cur : Array Value) (t : TypeId) (cs : List Value) (k : Nat)
    (hu : P.underlying dT = some (.slice elem)) (hs : (P.info? elem).map (·.size) = some k)
    (hg : w.heap[g]? = some (.cells cur t (0, 0))) (hn : cs.length = Nat.min sLen dLen * k)
    (hsrc : ∀ j v, cs[j]? = some v → w.cell? (a.add j) = some v) (hfit : o + cs.length ≤ cur.size) (h1 : ∀ v ∈ cs, v.oneCell' = true) :
    (Builtin.copy_ #[dT, sT] ty #[.slice (some ⟨g, o, none⟩) dLen dCap, .slice (some a) sLen sCap]).run P w =
      .ok (goInt (Nat.min sLen dLen)) (w.setRow g (cur.toList.take o ++ cs ++ cur.toList.drop (o + cs.length)).toArray) := by
  have hl := run_loadCells_list (P := P) w a cs hsrc
  have hst := run_storeCells_at P g o t cs 0 cur w hg (by simpa using hfit) h1
  cases hq : P.info? elem with
  | none => simp [hq] at hs
  | some i =>
    have hi : i.size = k := by simpa [hq] using hs
    simp [Builtin.copy_, run_underlying hu, Builtin.lenOf, Builtin.firstCells, sizeOf, typeInfo, hq, hi, ← hn, hl, hst]
theorem wpList_copyK {P : Program} {w : World} {ops : Array Oper} {rest : List Oper} {o : Oper} {a : Act} {Q : Exit → Act → World → Prop} (hgd : o.guard = none) (d s : Operand) (dT sT : TypeId)
    (ho : o.op = .call { callee := .builtin .copy, args := #[d, s], argTypes := #[dT, sT] }) (vd vs : Value) (hd : a.eval d = vd) (hs : a.eval s = vs) (r : Value) (w' : World)
    (hrun : (Builtin.copy_ #[dT, sT] o.type #[vd, vs]).run P w = .ok r w') (h : wpList P ops Q rest (a.put o.dst r) w') : wpList P ops Q (o :: rest) a w := by
  refine wpList_plain hgd fun K hK => ?_
  unfold Oper.wp
  simp [execOp, ho, resolve, invoke, builtin, hd, hs, hrun, Result.andThen]
  exact hK _ _ h
end Go.Proofs
