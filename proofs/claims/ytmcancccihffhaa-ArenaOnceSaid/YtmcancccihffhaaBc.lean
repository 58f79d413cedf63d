/- Monitor: a map that counts entries. -/
import Derived.Test.YtmcancccihffhaaAt
import Derived.Maps.RangeWalk
import Derived.Maps.OwnIn
import Derived.Maps.OwnOps
import Derived.Maps.Ext
import Derived.DeepKeys4
import Derived.WideKeyEntry
namespace Go.Proofs
set_option maxRecDepth 100000
open Go.RowKit Go.Shelf Go.Deep Go.Maps Go.WideElems Go.ChangeMaps
attribute [local go_sem] Oper.semAt_some

theorem Try.laidAll : laidOutB Try.prog = true := by kernel_rfl
theorem Try.rowEnt : (41 : TypeId) < Try.prog.types.size := of_decide_eq_true (by kernel_rfl)
theorem Try.wideEnt : (match Try.prog.underlying 41 with | some (.array _ _) | some (.struct _) => true | _ => false) = true := by kernel_rfl
theorem Try.keyTyE : Try.prog.keyTypeAt 2 41 = true := by kernel_rfl
theorem Try.lawE : WideMaps.KeyLaw Try.prog 41 := deep_law_laid Try.laidAll (m := 2) (by omega) Try.rowEnt Try.keyTyE Try.wideEnt
theorem Try.keyedE : Keyed Try.prog 41 := Keyed.of_law Try.lawE
def wfE (e : Pr) : Prop := (-9223372036854775808 ≤ e.1 ∧ e.1 ≤ 9223372036854775807) ∧ e.2 < 18446744073709551616
def kE (e : Pr) : Lit := .string (keyBytes [.int .i64 e.1, .int .u64 (e.2 : Nat)])
theorem wf_i64 {z : Int} (h : -9223372036854775808 ≤ z ∧ z ≤ 9223372036854775807) : (Lit.int .i64 z).wf = true := by simp [Lit.wf, IntKind.min, IntKind.max, IntKind.bits, IntKind.signed]; omega
theorem wf_u64 {p : Nat} (h : p < 18446744073709551616) : (Lit.int .u64 (p : Int)).wf = true := by simp [Lit.wf, IntKind.min, IntKind.max, IntKind.bits, IntKind.signed]; omega
theorem Try.keyTypeE : Try.prog.keyType 41 = true := by kernel_rfl
theorem Try.cellsEnt : Try.prog.cellsOf 41 = 2 := by kernel_rfl
theorem Try.cellsInt1 : Try.prog.cellsOf 3 = 1 := by kernel_rfl
theorem Try.cellsU1 : Try.prog.cellsOf 39 = 1 := by kernel_rfl
theorem Try.typesN : ∃ n, Try.prog.types.size + 1 = n + 2 := ⟨Try.prog.types.size - 1, by have h : (41 : Nat) < Try.prog.types.size := Try.rowEnt; omega⟩
theorem Try.keyE {e : Pr} (h : wfE e) : keyOf Try.prog 41 (.agg #[.int .i64 e.1, .int .u64 (e.2 : Nat)]) = some (kE e) := by
  have h1 := wf_i64 h.1
  have h2 := wf_u64 h.2
  obtain ⟨n, hn⟩ := Try.typesN
  unfold keyOf
  rw [Try.underlying41]
  simp only [Try.keyTypeE, hn]
  simp [Value.formed, Try.underlying41, Try.cellsEnt, Program.keyLits, Try.underlying3, Try.underlying39, Try.cellsInt1, Try.cellsU1, h1, h2, kE, Value.cells]
theorem kE_inj {p q : Pr} (hp : wfE p) (hq : wfE q) (h : kE p = kE q) : p = q := by
  have h1 := Try.keyE hp
  have h2 := Try.keyE hq
  rw [h] at h1
  have h3 := Try.keyedE.inj h1 h2
  simp only [Value.agg.injEq, Array.mk.injEq, List.cons.injEq, Value.int.injEq, and_true, true_and] at h3
  obtain ⟨a, b⟩ := p
  obtain ⟨c, d⟩ := q
  obtain ⟨h3, h4⟩ := h3
  simp only at h3 h4
  have h4 : b = d := by omega
  rw [h3, h4]
/-- This map has each of these entries, with how often it is one of them. -/
def CntD (D : DataW Unit) (ps : List Pr) : Prop :=
  Maps.Tidy D ∧ (∀ kl, Maps.has D kl = true ↔ ∃ p ∈ ps, kl = kE p) ∧ (∀ p ∈ ps, ∀ z, D.atKey (kE p) z = .lit (.int .i64 (ps.count p : Int))) ∧ ∀ p ∈ ps, wfE p
theorem cntD_nil : CntD (.map []) [] := ⟨Maps.tidy_empty, (fun kl => by simp [Maps.has]), (fun p hp => by cases hp), (fun p hp => by cases hp)⟩
theorem cntD_get {D : DataW Unit} {ps : List Pr} (h : CntD D ps) (p : Pr) (hp : wfE p) : D.atKey (kE p) (.lit (.int .i64 0)) = .lit (.int .i64 (ps.count p : Int)) := by
  by_cases hm : p ∈ ps
  · exact h.2.2.1 p hm _
  · have hh : Maps.has D (kE p) = false := by
      cases e : Maps.has D (kE p) with
      | false => rfl
      | true =>
        obtain ⟨q, hq, e2⟩ := (h.2.1 _).1 e
        have : p = q := kE_inj hp (h.2.2.2 q hq) e2
        exact absurd (this ▸ hq) hm
    rw [Maps.atKey_of_not_has hh, List.count_eq_zero_of_not_mem hm]
    rfl
theorem cntD_snoc {D : DataW Unit} {ps : List Pr} (h : CntD D ps) (p : Pr) (hp : wfE p) : CntD (D.put (kE p) (.lit (.int .i64 ((ps.count p : Int) + 1)))) (ps ++ [p]) := by
  have hk : WideAt.IsKeyLit (kE p) := trivial
  obtain ⟨h1, h2, h3, h4⟩ := h
  refine ⟨h1.put hk _, fun kl => ?_, fun q hq z => ?_, fun q hq => ?_⟩
  · by_cases e : kl = kE p
    · subst e
      simp only [Maps.has_put_same h1.isMap hk, true_iff]
      exact ⟨p, by simp, rfl⟩
    · rw [Maps.has_put_other e, h2]
      constructor
      · rintro ⟨q, hq, rfl⟩; exact ⟨q, by simp [hq], rfl⟩
      · rintro ⟨q, hq, rfl⟩
        rcases List.mem_append.1 hq with hq | hq
        · exact ⟨q, hq, rfl⟩
        · obtain rfl : q = p := by simpa using hq
          exact absurd rfl e
  · by_cases e : q = p
    · subst e
      rw [Maps.atKey_put_same h1.isMap hk]
      simp
    · have hq' : q ∈ ps := by
        rcases List.mem_append.1 hq with hq | hq
        · exact hq
        · exact absurd (by simpa using hq) e
      rw [Maps.atKey_put_other (fun e2 => e (kE_inj (h4 q hq') hp e2))]
      rw [h3 q hq' z, List.count_append]
      simp [Ne.symm e]
  · rcases List.mem_append.1 hq with hq | hq
    · exact h4 q hq
    · obtain rfl : q = p := by simpa using hq
      exact hp
theorem Try.zeroInt (w : World) : (zeroValue 3).run Try.prog w = .ok (.int .i64 0) w := by kernel_rfl
/-- Block b is a map that counts these entries. -/
def CntE (W : World) (b n : Nat) (ps : List Pr) : Prop := ∃ D : DataW Unit, W.ownsMap Try.prog 41 (plainElem Try.prog 3) b n D ∧ CntD D ps
theorem CntE.kept {W W' : World} {b n : Nat} {ps : List Pr} {row : Option Nat} (h : CntE W b n ps) (hg : W.grownBy W' row) (hne : some b ≠ row) : CntE W' b n ps := let ⟨D, h1, h2⟩ := h; ⟨D, h1.kept hg hne, h2⟩
theorem CntE.lt {W : World} {b n : Nat} {ps : List Pr} (h : CntE W b n ps) : b < W.heap.size := let ⟨_, h1, _⟩ := h; h1.lt
theorem CntE.below {W W' : World} {b n : Nat} {ps : List Pr} (h : CntE W b n ps) (hB : Below W.heap.size W W') : CntE W' b n ps :=
  h.kept (row := none) ⟨hB.os, hB.tape, hB.output, hB.size, fun k hk _ => hB.block k hk⟩ (by simp)
theorem cntE_new (W : World) : CntE (W.alloc (.map #[] 0)) W.heap.size 0 [] := ⟨.map [], World.ownsMap_made W _ _ _, cntD_nil⟩
theorem setBlock_self {W : World} {b : Nat} {o : Obj} (h : W.heap[b]? = some o) : setBlock W b o = W := by
  obtain ⟨hlt, e⟩ := Array.getElem?_eq_some_iff.1 h
  unfold setBlock
  have : W.heap.setIfInBounds b o = W.heap := by
    apply Array.ext
    · simp
    · intro i h1 h2
      rw [Array.getElem_setIfInBounds]
      split
      · subst_vars; rfl
      · rfl
  cases W
  simp_all
theorem Try.cntE_look {W : World} {b n : Nat} {ps : List Pr} (h : CntE W b n ps) (p : Pr) (hp : wfE p) : (Instr.lookup 32 (.map (some b)) (.agg #[.int .i64 p.1, .int .u64 (p.2 : Nat)]) false).run Try.prog W = .ok (.int .i64 (ps.count p : Int)) W := by
  obtain ⟨D, h1, h2⟩ := h
  obtain ⟨c, hrun, hat, _⟩ := h1.lookup_int Try.keyedE Try.underlying32 Try.underlying3 (Try.zeroInt W) (Try.keyE hp)
  rw [cntD_get h2 p hp] at hat
  injection hat with hat
  injection hat with _ hat
  rw [hrun, hat]
theorem ok_world {α : Type} {a b : α} {V W : World} (h : (Result.ok a V : Result α) = .ok b W) : V = W := by cases h; rfl
theorem Try.cntE_step {W : World} {b n : Nat} {ps : List Pr} (h : CntE W b n ps) (hn : n < 100000) (hl : ps.length < 100000) (p : Pr) (hp : wfE p) :
    ∃ (v0 : Value) (st : Nat) (W1 W2 : World), (Instr.mapEntry 32 (.map (some b)) (.agg #[.int .i64 p.1, .int .u64 (p.2 : Nat)])).run Try.prog W = .ok (.tuple #[v0, goInt st]) W1 ∧
      (Instr.lookup 32 (.map (some b)) (.agg #[.int .i64 p.1, .int .u64 (p.2 : Nat)]) false).run Try.prog W1 = .ok (.int .i64 (ps.count p : Int)) W1 ∧
      (Instr.entryStore 32 (.map (some b)) (goInt st) (.int .i64 ((ps.count p : Int) + 1))).run Try.prog W1 = .ok () W2 ∧ CntE W2 b (n + 1) (ps ++ [p]) ∧ W.grownBy W2 (some b) ∧ W.grownBy W1 (some b) ∧ W1.heap.size = W.heap.size := by
  have hlk := Try.cntE_look h p hp
  obtain ⟨D, h1, h2⟩ := h
  have h1' := h1
  obtain ⟨es, clock, hb, F, hs, hD⟩ := h1
  have hcnt : ps.count p ≤ ps.length := List.count_le_length
  obtain ⟨v0, st, es1, clock1, hme, hv0, hst⟩ := entry_then_store (R := plainElem Try.prog 3) Try.lawE Try.underlying32 Try.zeroInt hb F (Try.keyE hp)
  obtain ⟨es', clock', hes, hup⟩ := hst (setBlock W b (.map es1 clock1)) (.int .i64 ((ps.count p : Int) + 1)) (heap_setBlock_same hb _)
  have hwf : (Lit.int .i64 ((ps.count p : Int) + 1)).wf = true := wf_i64 (by omega)
  obtain ⟨w', hrun, ho, hg⟩ := h1'.update Try.keyedE Try.underlying32 (by unfold maxLen; omega) (Try.keyE hp) (plainElem_int Try.underlying3 hwf)
  rw [hup] at hrun
  injection hrun with _ hrun
  subst hrun
  have hss : setBlock (setBlock W b (.map es1 clock1)) b (.map es' clock') = setBlock W b (.map es' clock') := by unfold setBlock; simp
  rw [hss] at hes
  refine ⟨v0, st, _, _, hme, ?_, hes, ⟨_, ho, cntD_snoc h2 p hp⟩, hg, ⟨rfl, rfl, rfl, by simp [setBlock], fun i _ hi => heap_setBlock_other hb _ (fun e => hi (by rw [e]))⟩, by simp [setBlock]⟩
  have hkk := Try.keyE hp
  clear hes hup ho hg hst hss
  generalize setBlock W b (.map es1 clock1) = W1 at *
  rcases Try.lawE.find W hkk es.toList F.keys with ⟨f1, f2⟩ | ⟨j, e0, f1, f2, f3⟩
  · have hme2 : (Instr.mapEntry 32 (.map (some b)) (.agg #[.int .i64 p.1, .int .u64 (p.2 : Nat)])).run Try.prog W = .ok (.tuple #[.int .i64 0, goInt clock]) (setBlock W b (.map (es.push ⟨.agg #[.int .i64 p.1, .int .u64 (p.2 : Nat)], .int .i64 0, clock⟩) (clock + 1))) := by
      simp [Instr.mapEntry, run_underlying Try.underlying32, MapKept.run_getObj_map hb, Try.lawE.check W false hkk, f1, Try.zeroInt, MapKept.run_setObj_map _ hb, Result.andThen, setBlock]
    rw [hme2] at hme
    have hw1 := ok_world hme
    clear hme hme2
    subst hw1
    have hb1 : (setBlock W b (.map (es.push ⟨.agg #[.int .i64 p.1, .int .u64 (p.2 : Nat)], .int .i64 0, clock⟩) (clock + 1))).heap[b]? = _ := heap_setBlock_same hb _
    generalize setBlock W b (.map (es.push ⟨.agg #[.int .i64 p.1, .int .u64 (p.2 : Nat)], .int .i64 0, clock⟩) (clock + 1)) = W9 at *
    have hz : (ps.count p : Int) = 0 := by
      simp [Instr.lookup, run_underlying Try.underlying32, MapKept.run_getObj_map hb, Try.lawE.check W _ hkk, f1, Try.zeroInt, Result.andThen] at hlk
      omega
    rw [hz]
    rcases Try.lawE.find W9 hkk (es.push ⟨.agg #[.int .i64 p.1, .int .u64 (p.2 : Nat)], .int .i64 0, clock⟩).toList (fun e he => by
      rw [Array.toList_push] at he
      rcases List.mem_append.1 he with he | he
      · exact F.keys e he
      · obtain rfl := List.mem_singleton.1 he
        exact ⟨_, hkk⟩) with ⟨g1, g2⟩ | ⟨j, e0, g1, g2, g3⟩
    · exact absurd rfl (g2 ⟨.agg #[.int .i64 p.1, .int .u64 (p.2 : Nat)], .int .i64 0, clock⟩ (by simp))
    · have he0 : e0.val = .int .i64 0 := by
        have hm := List.mem_of_getElem? g2
        rw [Array.toList_push] at hm
        rcases List.mem_append.1 hm with hm | hm
        · exact absurd g3 (f2 e0 hm)
        · obtain rfl := List.mem_singleton.1 hm
          rfl
      rw [he0] at g1
      rw [Array.toList_push] at g1
      simp [Instr.lookup, run_underlying Try.underlying32, MapKept.run_getObj_map hb1, Try.lawE.check W9 _ hkk, g1, Result.andThen]
  · have hj : es[j]? = some e0 := by simpa using f2
    have hsame : es.modify j (fun e => { e with key := (.agg #[.int .i64 p.1, .int .u64 (p.2 : Nat)]) }) = es := by
      apply Array.ext'
      rw [Array.toList_modify, modify_eq_set _ _ _ _ f2]
      have : ({ e0 with key := (.agg #[.int .i64 p.1, .int .u64 (p.2 : Nat)]) } : MapEntry) = e0 := by rw [← f3]
      rw [this]
      exact set_self _ _ _ f2
    have hme2 : (Instr.mapEntry 32 (.map (some b)) (.agg #[.int .i64 p.1, .int .u64 (p.2 : Nat)])).run Try.prog W = .ok (.tuple #[e0.val, goInt e0.born]) (setBlock W b (.map es clock)) := by
      simp [Instr.mapEntry, run_underlying Try.underlying32, MapKept.run_getObj_map hb, Try.lawE.check W false hkk, f1, hj, f3, Try.lawE.stays W hkk, hsame, MapKept.run_setObj_map _ hb, Result.andThen, setBlock]
    rw [hme2] at hme
    have hw1 := ok_world hme
    clear hme hme2
    subst hw1
    rw [setBlock_self hb]
    exact hlk
end Go.Proofs
