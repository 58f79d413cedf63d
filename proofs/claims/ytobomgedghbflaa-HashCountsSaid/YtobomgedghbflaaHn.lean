/- Maps that count: the mathematics, and a map that counts. -/
import Derived.Test.YtobomgedghbflaaHg
import Derived.Maps.RangeWalk
import Derived.Maps.OwnIn
import Derived.Maps.OwnOps
import Derived.Maps.Ext
import Derived.Sort.MapsRangeIn
namespace Go.Proofs
open Go.RowKit Go.Shelf Go.Deep Go.Maps
attribute [local go_sem] Oper.semAt_some

/-- This map has each of these words, with how often it is one of them. -/
def Cnt (D : DataW Unit) (ps : List Nat) : Prop :=
  Maps.Tidy D ∧ (∀ kl, Maps.has D kl = true ↔ ∃ p ∈ ps, kl = .int .u64 (p : Int)) ∧ ∀ p ∈ ps, ∀ z, D.atKey (.int .u64 (p : Int)) z = .lit (.int .i64 (ps.count p : Int))
theorem cnt_nil : Cnt (.map []) [] := ⟨Maps.tidy_empty, fun kl => by simp [Maps.has], fun p hp => by cases hp⟩
theorem key_ne {p q : Nat} (h : p ≠ q) : (Lit.int .u64 (p : Int)) ≠ .int .u64 (q : Int) := fun e => h (by injection e with _ e; omega)
theorem cnt_get {D : DataW Unit} {ps : List Nat} (h : Cnt D ps) (p : Nat) : D.atKey (.int .u64 (p : Int)) (.lit (.int .i64 0)) = .lit (.int .i64 (ps.count p : Int)) := by
  by_cases hp : p ∈ ps
  · exact h.2.2 p hp _
  · have hh : Maps.has D (.int .u64 (p : Int)) = false := by
      cases e : Maps.has D (.int .u64 (p : Int)) with
      | false => rfl
      | true =>
        obtain ⟨q, hq, e2⟩ := (h.2.1 _).1 e
        have : p = q := Decidable.byContradiction fun hne => key_ne hne e2
        exact absurd (this ▸ hq) hp
    rw [Maps.atKey_of_not_has hh, List.count_eq_zero_of_not_mem hp]
    rfl
theorem cnt_snoc {D : DataW Unit} {ps : List Nat} (h : Cnt D ps) (p : Nat) (hk : WideAt.IsKeyLit (.int .u64 (p : Int))) : Cnt (D.put (.int .u64 (p : Int)) (.lit (.int .i64 ((ps.count p : Int) + 1)))) (ps ++ [p]) := by
  obtain ⟨h1, h2, h3⟩ := h
  refine ⟨h1.put hk _, fun kl => ?_, fun q hq z => ?_⟩
  · by_cases e : kl = .int .u64 (p : Int)
    · subst e
      simp only [Maps.has_put_same h1.isMap hk, true_iff]
      exact ⟨p, by simp, rfl⟩
    · rw [Maps.has_put_other e, h2]
      constructor
      · rintro ⟨q, hq, rfl⟩; exact ⟨q, by simp [hq], rfl⟩
      · rintro ⟨q, hq, rfl⟩
        rcases List.mem_append.1 hq with hq | hq
        · exact ⟨q, hq, rfl⟩
        · obtain rfl : q = p := by simpa using hq
          exact absurd rfl e
  · by_cases e : q = p
    · subst e
      rw [Maps.atKey_put_same h1.isMap hk]
      simp
    · rw [Maps.atKey_put_other (key_ne e)]
      have hq' : q ∈ ps := by
        rcases List.mem_append.1 hq with hq | hq
        · exact hq
        · exact absurd (by simpa using hq) e
      rw [h3 q hq' z, List.count_append]
      simp [Ne.symm e]
/-- Two maps that have the same keys have as many. -/
theorem size_same {H H' : Type} {D : DataW H} {E : DataW H'} (h1 : Maps.Tidy D) (h2 : Maps.Tidy E) (hd : ∀ p ∈ (match D with | .map es => es | _ => []), WideAt.IsKeyLit p.1) (he : ∀ p ∈ (match E with | .map es => es | _ => []), WideAt.IsKeyLit p.1) (h : ∀ kl, Maps.has D kl = Maps.has E kl) : Maps.size D = Maps.size E := by
  obtain ⟨es, rfl, n1⟩ := h1
  obtain ⟨fs, rfl, n2⟩ := h2
  have mem : ∀ {H : Type} (l : List (Lit × DataW H)), (∀ p ∈ l, WideAt.IsKeyLit p.1) → ∀ kl, Maps.has (.map l) kl = true ↔ kl ∈ l.map (·.1) := fun l hl kl => by
    rw [Maps.has_eq, List.any_eq_true]
    constructor
    · rintro ⟨p, hp, e⟩; exact List.mem_map.2 ⟨p, hp, WideAt.sameKey_eq e⟩
    · intro hm
      obtain ⟨p, hp, rfl⟩ := List.mem_map.1 hm
      exact ⟨p, hp, WideAt.sameKey_self (hl p hp)⟩
  have p1 : (es.map (·.1)).Nodup := List.pairwise_map.2 n1
  have p2 : (fs.map (·.1)).Nodup := List.pairwise_map.2 n2
  have hp : (es.map (·.1)).Perm (fs.map (·.1)) := (List.perm_ext_iff_of_nodup p1 p2).2 fun kl => by rw [← mem es hd, ← mem fs he, h kl]
  have := hp.length_eq
  simpa [Maps.size] using this

/-- Block b is a map that counts these words. -/
def CntAt (W : World) (b n : Nat) (ps : List Nat) : Prop := ∃ D : DataW Unit, W.ownsMap Try.prog 22 (plainElem Try.prog 3) b n D ∧ Cnt D ps
theorem Try.lawU : Keyed Try.prog 22 := int_keyed Try.underlying22
theorem Try.zeroI (w : World) : (zeroValue 3).run Try.prog w = .ok (.int .i64 0) w := by kernel_rfl
theorem u64_wf {p : Nat} (h : p < 18446744073709551616) : (Lit.int .u64 (p : Int)).wf = true := by simp [Lit.wf, IntKind.min, IntKind.max, IntKind.bits, IntKind.signed]; omega
theorem i64_wf {p : Int} (h : 0 ≤ p ∧ p < 9223372036854775808) : (Lit.int .i64 p).wf = true := by simp [Lit.wf, IntKind.min, IntKind.max, IntKind.bits, IntKind.signed]; omega
theorem Try.keyU {p : Nat} (h : p < 18446744073709551616) : keyOf Try.prog 22 (.int .u64 (p : Int)) = some (.int .u64 (p : Int)) := keyOf_int_mk Try.underlying22 (u64_wf h)
theorem CntAt.kept {W W' : World} {b n : Nat} {ps : List Nat} {row : Option Nat} (h : CntAt W b n ps) (hg : W.grownBy W' row) (hne : some b ≠ row) : CntAt W' b n ps := let ⟨D, h1, h2⟩ := h; ⟨D, h1.kept hg hne, h2⟩
theorem CntAt.lt {W : World} {b n : Nat} {ps : List Nat} (h : CntAt W b n ps) : b < W.heap.size := let ⟨_, h1, _⟩ := h; h1.lt
theorem grown_below {A B : World} {h : Nat} (p : Below h A B) (hh : A.heap.size ≤ h) : A.grownBy B none := ⟨p.os, p.tape, p.output, p.size, fun k hk _ => p.block k (Nat.lt_of_lt_of_le hk hh)⟩
theorem CntAt.below {W W' : World} {b n h : Nat} {ps : List Nat} (r : CntAt W b n ps) (p : Below h W W') (hh : W.heap.size ≤ h) : CntAt W' b n ps := r.kept (grown_below p hh) (by simp)
theorem CntAt.own (b : Nat) (n : List Int → Nat) (f : List Int → List Nat) : OwnFrom (b + 1) (fun (s : List Int) W => CntAt W b (n s) (f s)) := fun s X Y row hs hg hr =>
  hs.kept hg (fun e => by have := (hr b e.symm).1; omega)
theorem CntAt.notCells {W : World} {b n : Nat} {ps : List Nat} (h : CntAt W b n ps) : ∃ es clock, W.heap[b]? = some (.map es clock) := let ⟨_, h1, _⟩ := h; let ⟨es, cl, hb, _⟩ := h1; ⟨es, cl, hb⟩
theorem kt_map {h : Nat} {t1 t2 : TypeId} {A B : World} {b n : Nat} {ps : List Nat} (r : CntAt A b n ps) (hg : A.grownBy B (some b)) : Kt h t1 t2 A B :=
  ⟨hg.size, fun k cs t fr hk _ => (hg.block k (Array.getElem?_eq_some_iff.1 hk).1 (fun e => by
    obtain ⟨es, cl, hb⟩ := r.notCells
    injection e with e
    subst e
    rw [hb] at hk
    cases hk)).trans hk⟩
theorem toldFrom_mem {x : Int} : ∀ {p : Option Int} {l : List Int}, x ∈ toldFrom p l → x ∈ l
  | _, [], h => by simp [toldFrom] at h
  | p, y :: t, h => by
    unfold toldFrom at h
    split at h
    · exact List.mem_cons_of_mem _ (toldFrom_mem h)
    · rcases List.mem_cons.1 h with rfl | h
      · exact List.mem_cons_self
      · exact List.mem_cons_of_mem _ (toldFrom_mem h)
theorem toldFrom_le : ∀ (p : Option Int) (l : List Int), (toldFrom p l).length ≤ l.length
  | _, [] => by simp [toldFrom]
  | p, y :: t => by
    unfold toldFrom
    split
    · have := toldFrom_le p t; simp; omega
    · have := toldFrom_le (some y) t; simp; omega
/-- m[p]++, in two steps. -/
theorem CntAt.add {W : World} {b n : Nat} {ps : List Nat} (h : CntAt W b n ps) (p : Nat) (hp : p < 18446744073709551616) (hn : n < 1000000000) (hl : ps.length ≤ 1000000000) :
    (Instr.lookup 30 (.map (some b)) (.int .u64 (p : Int)) false).run Try.prog W = .ok (.int .i64 (ps.count p : Int)) W ∧
    ∃ w', (Instr.mapUpdate 30 (.map (some b)) (.int .u64 (p : Int)) (.int .i64 ((ps.count p : Int) + 1))).run Try.prog W = .ok () w' ∧ CntAt w' b (n + 1) (ps ++ [p]) ∧ W.grownBy w' (some b) := by
  obtain ⟨D, h1, h2⟩ := h
  obtain ⟨c, hrun, hat, _⟩ := h1.lookup_int Try.lawU Try.underlying30 Try.underlying3 (Try.zeroI _) (Try.keyU hp)
  rw [cnt_get h2] at hat
  have hc : c = (ps.count p : Int) := by injection hat with hat; injection hat with _ hat; exact hat.symm
  subst hc
  have hcl : ps.count p ≤ ps.length := List.count_le_length
  obtain ⟨w', hr, ho, hg⟩ := h1.update (val := .int .i64 ((ps.count p : Int) + 1)) Try.lawU Try.underlying30 (by unfold maxLen; omega) (Try.keyU hp) (plainElem_int Try.underlying3 (i64_wf (by omega)))
  exact ⟨hrun, w', hr, ⟨_, ho, cnt_snoc h2 p (Try.lawU.key (Try.keyU hp))⟩, hg⟩
end Go.Proofs
