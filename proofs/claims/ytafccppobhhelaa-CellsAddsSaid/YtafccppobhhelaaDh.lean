/- What adds come to, in whatever order; a store, and swaps elsewhere. -/
import Derived.Test.YtafccppobhhelaaCt
namespace Go.Proofs

def tot (t : Int) (l : List Int) : Int := l.foldl (fun t n => IntKind.u64.wrap (t + n)) t
theorem tot_snoc (t : Int) (l : List Int) (n : Int) : tot t (l ++ [n]) = IntKind.u64.wrap (tot t l + n) := by simp [tot]
theorem tot_sum (t : Int) (l : List Int) : l ≠ [] → tot t l = IntKind.u64.wrap (t + l.sum) := by
  induction l generalizing t with
  | nil => intro h; exact absurd rfl h
  | cons a l ih =>
    intro _
    show tot (IntKind.u64.wrap (t + a)) l = _
    by_cases hl : l = []
    · subst hl; simp [tot]
    · rw [ih _ hl, List.sum_cons, IntKind.wrap_u64, IntKind.wrap_u64, IntKind.wrap_u64]
      omega
theorem tot_reverse (t : Int) (l : List Int) : tot t l.reverse = tot t l := by
  by_cases h : l = []
  · subst h; rfl
  · rw [tot_sum t l h, tot_sum t l.reverse (by simpa using h), List.sum_reverse]
def addOf (p i : Nat) (n : Int) : Acc := ⟨(i : Int) % 8, 4, (p : Nat), 0, n⟩
def addsTo (p : Nat) (ns : List Int) (k : Nat) : List Acc := (List.range k).map fun i => addOf p i (ns[i]?.getD 0)
theorem addsTo_length (p : Nat) (ns : List Int) (k : Nat) : (addsTo p ns k).length = k := by simp [addsTo]
theorem addsTo_succ (p : Nat) (ns : List Int) (k : Nat) : addsTo p ns (k + 1) = addsTo p ns k ++ [addOf p k (ns[k]?.getD 0)] := by simp [addsTo, List.range_succ]
theorem addsTo_new (p : Nat) (ns : List Int) (k : Nat) (hk : k ≤ ns.length) : (addsTo p ns k).map Acc.new = ns.take k := by
  induction k with
  | zero => rfl
  | succ k ih =>
    rw [addsTo_succ, List.map_append, ih (by omega), List.take_succ_eq_append_getElem (by omega)]
    simp [addOf, List.getElem?_eq_getElem (show k < ns.length by omega)]
structure Adds (p : Nat) (l : List Acc) : Prop where
  each : ∀ a ∈ l, a.kind = 4 ∧ a.pl = (p : Int) ∧ 0 ≤ a.who ∧ a.who < 8 ∧ a.old = 0
theorem addsTo_adds (p : Nat) (ns : List Int) (k : Nat) : Adds p (addsTo p ns k) := ⟨fun a ha => by
  obtain ⟨i, _, rfl⟩ := List.mem_map.1 ha
  refine ⟨rfl, rfl, ?_, ?_, rfl⟩
  · show (0 : Int) ≤ (i : Int) % 8; omega
  · show (i : Int) % 8 < 8; omega⟩
theorem Adds.reverse {p : Nat} {l : List Acc} (h : Adds p l) : Adds p l.reverse := ⟨fun a ha => h.each a (by simpa using ha)⟩
theorem errRow_all (n : Nat) (l : List Acc) (h : ∀ a ∈ l, whyOf n a = 0) : errRow n l = 0 := by
  induction l with
  | nil => rfl
  | cons a l ih =>
    simp only [errRow]
    rw [if_pos (h a (List.mem_cons_self ..))]
    exact ih fun b hb => h b (List.mem_cons_of_mem _ hb)
theorem why_fine {n : Nat} (h1 : 1 ≤ n) (h2 : n ≤ 8192) {a : Acc} (hk : 1 ≤ a.kind ∧ a.kind ≤ 4) (hw : 0 ≤ a.who ∧ a.who < 8) (hp : 0 ≤ a.pl ∧ a.pl < (n : Int)) : whyOf n a = 0 := by
  unfold whyOf why
  rw [if_neg (by omega), if_neg (by omega), if_neg (by omega)]
theorem Adds.err {p : Nat} {l : List Acc} (h : Adds p l) {n : Nat} (h1 : 1 ≤ n) (h2 : n ≤ 8192) (hp : p < n) : errOf n l = 0 := by
  unfold errOf
  rw [if_neg (by omega)]
  refine errRow_all n l fun a ha => ?_
  obtain ⟨e1, e2, e3, e4, _⟩ := h.each a ha
  exact why_fine h1 h2 (by omega) ⟨e3, e4⟩ (by rw [e2]; omega)
theorem Adds.run {p : Nat} {l : List Acc} (h : Adds p l) (ws : List Int) (hp : p < ws.length) (k : Nat) (hk : k ≤ l.length) : (runTo ws l k).ws = ws.set p (tot (ws[p]?.getD 0) ((l.take k).map Acc.new)) := by
  induction k with
  | zero =>
    show ws = ws.set p (ws[p]?.getD 0)
    rw [set_same]
  | succ k ih =>
    have hkl : k < l.length := hk
    rw [runTo_succ ws l k hkl, List.take_succ_eq_append_getElem hkl, List.map_append, List.map_singleton, tot_snoc]
    have ih' := ih (by omega)
    obtain ⟨e1, e2, _⟩ := h.each l[k] (List.getElem_mem _)
    show wordsOf (runTo ws l k).ws l[k].kind l[k].pl l[k].old l[k].new = _
    rw [e1, e2, ih']
    unfold wordsOf nextOf
    rw [if_neg (by decide), if_pos rfl]
    simp [List.set_set, hp]
theorem Adds.total {p : Nat} {l : List Acc} (h : Adds p l) (ws : List Int) (hp : p < ws.length) : (runTo ws l l.length).ws = ws.set p (tot (ws[p]?.getD 0) (l.map Acc.new)) := by
  have := h.run ws hp l.length (Nat.le_refl _)
  rwa [List.take_length] at this
/-- A store, and swaps of another cell behind it. -/
structure Keeps (p : Nat) (n : Nat) (t : Int) (l : List Acc) : Prop where
  first : l[0]? = some ⟨0, 2, (p : Nat), 0, t⟩
  each : ∀ i a, 0 < i → l[i]? = some a → (a.kind = 3 ∨ a.kind = 1) ∧ (a.kind = 3 → a.pl ≠ (p : Int)) ∧ 0 ≤ a.pl ∧ a.pl < (n : Int) ∧ 0 ≤ a.who ∧ a.who < 8
theorem Keeps.err {p n : Nat} {t : Int} {l : List Acc} (h : Keeps p n t l) (h1 : 1 ≤ n) (h2 : n ≤ 8192) (hp : p < n) : errOf n l = 0 := by
  unfold errOf
  rw [if_neg (by omega)]
  refine errRow_all n l fun a ha => ?_
  obtain ⟨i, hi, rfl⟩ := List.getElem_of_mem ha
  have hg : l[i]? = some l[i] := List.getElem?_eq_getElem hi
  by_cases hi0 : i = 0
  · subst hi0
    have := h.first
    rw [hg] at this
    injection this with this
    rw [this]
    exact why_fine h1 h2 (by dsimp only; omega) (by dsimp only; omega) (by dsimp only; omega)
  · obtain ⟨e1, _, e3, e4, e5, e6⟩ := h.each i _ (by omega) hg
    exact why_fine h1 h2 (by omega) ⟨e5, e6⟩ ⟨e3, e4⟩
theorem Keeps.run {p : Nat} {t : Int} {l : List Acc} {ws : List Int} (h : Keeps p ws.length t l) (hp : p < ws.length) (k : Nat) (h0 : 0 < k) (hk : k ≤ l.length) : (runTo ws l k).ws[p]?.getD 0 = t ∧ (runTo ws l k).ws.length = ws.length := by
  refine ⟨?_, (runTo_lens ws l k hk).1⟩
  induction k with
  | zero => omega
  | succ k ih =>
    have hkl : k < l.length := hk
    have hg : l[k]? = some l[k] := List.getElem?_eq_getElem hkl
    rw [runTo_succ ws l k hkl]
    show (wordsOf (runTo ws l k).ws l[k].kind l[k].pl l[k].old l[k].new)[p]?.getD 0 = t
    have hln := (runTo_lens ws l k (by omega)).1
    by_cases hk0 : k = 0
    · subst hk0
      have := h.first
      rw [hg] at this
      injection this with this
      rw [this]
      unfold wordsOf nextOf
      dsimp only
      rw [if_pos rfl]
      simp [hln, hp]
    · have ih' := ih (by omega) (by omega)
      obtain ⟨e1, e2, e3, e4, _⟩ := h.each k _ (by omega) hg
      unfold wordsOf
      rcases e1 with e1 | e1
      · rw [List.getElem?_set_ne (by have := e2 e1; omega)]
        exact ih'
      · rw [e1, nextOf, if_neg (by decide), if_neg (by decide), if_neg (fun h9 => absurd h9.1 (by decide)), set_same]
        exact ih'
end Go.Proofs
