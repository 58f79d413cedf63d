/- Script: a map that is a set of words; its keys, told. -/
import Derived.Test.YtfboppjedgfacaaZUj
import Derived.Test.YtfboppjedgfacaaZVd
import Derived.Test.YtfboppjedgfacaaZKa
import Derived.Maps.RangeWalk
import Derived.Maps.OwnIn
import Derived.Maps.OwnOps
import Derived.Maps.OwnSet
import Derived.Maps.Ext
import Derived.Sort.MapsRangeIn
namespace Go.Proofs
set_option maxRecDepth 100000
open Go.RowKit Go.Shelf Go.Deep Go.Maps
attribute [local go_sem] Oper.semAt_some

/-- Block b is a map whose keys are these words. -/
def SetAt (W : World) (b n : Nat) (ks : List Int) : Prop := ∃ D : DataW Unit, W.ownsMap Try.prog 22 unitElem b n D ∧ ∀ kl, Maps.has D kl = true ↔ ∃ k ∈ ks, kl = .int .u64 k
theorem Try.lawU : Keyed Try.prog 22 := int_keyed Try.underlying22
theorem w64_wf {z : Int} (h : W64 z) : (Lit.int .u64 z).wf = true := by obtain ⟨h1, h2⟩ := h; simp [Lit.wf, IntKind.min, IntKind.max, IntKind.bits, IntKind.signed]; omega
theorem Try.keyU {z : Int} (h : W64 z) : keyOf Try.prog 22 (.int .u64 z) = some (.int .u64 z) := keyOf_int_mk Try.underlying22 (w64_wf h)
theorem SetAt.kept {W W' : World} {b n : Nat} {ks : List Int} {row : Option Nat} (h : SetAt W b n ks) (hg : W.grownBy W' row) (hne : some b ≠ row) : SetAt W' b n ks := let ⟨D, h1, h2⟩ := h; ⟨D, h1.kept hg hne, h2⟩
theorem SetAt.lt {W : World} {b n : Nat} {ks : List Int} (h : SetAt W b n ks) : b < W.heap.size := let ⟨_, h1, _⟩ := h; h1.lt
theorem grown_below {A B : World} {h : Nat} (p : Below h A B) (hh : A.heap.size ≤ h) : A.grownBy B none := ⟨p.os, p.tape, p.output, p.size, fun k hk _ => p.block k (Nat.lt_of_lt_of_le hk hh)⟩
theorem SetAt.below {W W' : World} {b n h : Nat} {ks : List Int} (r : SetAt W b n ks) (p : Below h W W') (hh : W.heap.size ≤ h) : SetAt W' b n ks := r.kept (grown_below p hh) (by simp)
theorem SetAt.add {W : World} {b n : Nat} {ks : List Int} (h : SetAt W b n ks) (z : Int) (hz : W64 z) (hn : n < 1000000000) :
    ∃ w', (Instr.mapUpdate 70 (.map (some b)) (.int .u64 z) (.agg #[])).run Try.prog W = .ok () w' ∧ SetAt w' b (n + 1) (ks ++ [z]) ∧ W.grownBy w' (some b) := by
  obtain ⟨D, h1, h2⟩ := h
  obtain ⟨w', hr, ho, hg⟩ := h1.update (val := .agg #[]) Try.lawU Try.underlying70 (by unfold maxLen; omega) (Try.keyU hz) unitElem_mk
  refine ⟨w', hr, ⟨_, ho, fun kl => ?_⟩, hg⟩
  by_cases e : kl = .int .u64 z
  · subst e
    simp only [Maps.has_put_same h1.isMap (Try.lawU.key (Try.keyU hz)), true_iff]
    exact ⟨z, by simp, rfl⟩
  · rw [Maps.has_put_other e, h2]
    constructor
    · rintro ⟨q, hq, rfl⟩; exact ⟨q, by simp [hq], rfl⟩
    · rintro ⟨q, hq, rfl⟩
      rcases List.mem_append.1 hq with hq | hq
      · exact ⟨q, hq, rfl⟩
      · obtain rfl : q = z := by simpa using hq
        exact absurd rfl e
theorem setAt_new (W : World) : SetAt (W.alloc (.map #[] 0)) W.heap.size 0 [] := ⟨.map [], World.ownsMap_made W _ _ _, fun kl => by simp [Maps.has]⟩
theorem owns_size {W : World} {P : Program} {k : TypeId} {R : Value → Option (DataW Unit × List MemPlace)} {b n : Nat} {D : DataW Unit} (h : W.ownsMap P k R b n D) : Maps.size D ≤ n := by
  obtain ⟨es, clock, hb, F, hs, rfl⟩ := h
  have e1 : es.size = ((es.toList.map (Go.WideElems.rg P k R)).foldr DataW.insert []).length := by rw [Go.length_sorted]; simp
  simp only [Maps.size]
  omega
/-- Cells of types that are not in T stay, and the map does. -/
def Km (T : TypeId → Bool) (b : Nat) (A B : World) : Prop := Kq T A B ∧ ∀ es cl, A.heap[b]? = some (.map es cl) → B.heap[b]? = some (.map es cl)
theorem Km.refl (T : TypeId → Bool) (b : Nat) (A : World) : Km T b A A := ⟨Kq.refl _ _, fun _ _ h => h⟩
theorem km_t {T : TypeId → Bool} {b : Nat} {A B C : World} (p : Km T b A B) (q : Km T b B C) : Km T b A C := ⟨p.1.trans q.1, fun es cl h => q.2 es cl (p.2 es cl h)⟩
theorem km_b {T : TypeId → Bool} {b B : Nat} (hb : b < B) (W : World) (l : Nat) (o o' : Obj) (hl : B ≤ l) (hh : W.heap[l]? = some o) (hc : o.isCells = false) (hw : o.isWalk = false) : Km T b W (W.putObj l o') :=
  ⟨kq_b (B := B) W l o o' hl hh hc hw, fun es cl h => (World.putObj_heap_other (by omega)).trans h⟩
theorem ranges_same {W W' : World} {P : Program} {k : TypeId} {R : Value → Option (DataW Unit × List MemPlace)} {b r n : Nat} {D : DataW Unit} {left : Lit → Bool} {cnt : Nat} (h : W.ranges P k R b r n D left cnt) (hb : ∀ es cl, W.heap[b]? = some (.map es cl) → W'.heap[b]? = some (.map es cl)) (hr : ∀ o, W.heap[r]? = some o → o.isCells = false → W'.heap[r]? = some o) : W'.ranges P k R b r n D left cnt := by
  obtain ⟨es, clock, since, seen, c0, h1, h2, h3, h4, h5, h6⟩ := h
  exact ⟨es, clock, since, seen, c0, hb _ _ h1, h2, h3, h4, hr _ h5 rfl, h6⟩
theorem ranges_walk {W : World} {P : Program} {k : TypeId} {R : Value → Option (DataW Unit × List MemPlace)} {b r n : Nat} {D : DataW Unit} {left : Lit → Bool} {cnt : Nat} (h : W.ranges P k R b r n D left cnt) : ∃ o : Obj, W.heap[r]? = some o ∧ o.isCells = false := by
  obtain ⟨es, clock, since, seen, c0, h1, h2, h3, h4, h5, h6⟩ := h
  exact ⟨_, h5, rfl⟩
/-- What has been told of a set. -/
structure KTold (ks : List Int) (left : Lit → Bool) (pre : List Int) : Prop where
  nd : pre.Nodup
  sub : ∀ z ∈ pre, z ∈ ks
  all : ∀ z ∈ ks, z ∈ pre ∨ left (.int .u64 z) = true
  gone : ∀ z ∈ pre, left (.int .u64 z) = false
theorem lit_ne {p q : Int} (h : p ≠ q) : (Lit.int .u64 p) ≠ .int .u64 q := fun e => h (by injection e)
theorem KTold.next {ks : List Int} {left : Lit → Bool} {pre : List Int} (p : KTold ks left pre) {x : Int} (hx : left (.int .u64 x) = true) (hk : x ∈ ks) : KTold ks (fun z => left z && !z.sameKey (.int .u64 x)) (pre ++ [x]) := by
  have hxp : x ∉ pre := fun h => by rw [p.gone x h] at hx; cases hx
  refine ⟨?_, fun z hz => ?_, fun z hz => ?_, fun z hz => ?_⟩
  · rw [List.nodup_append]
    exact ⟨p.nd, by simp, fun a ha b hb e => hxp (by simp at hb; rw [← hb, ← e]; exact ha)⟩
  · rcases List.mem_append.1 hz with hz | hz
    · exact p.sub z hz
    · rw [List.mem_singleton] at hz; rw [hz]; exact hk
  · by_cases e : z = x
    · left; simp [e]
    · rcases p.all z hz with h | h
      · left; simp [h]
      · right
        rw [Maps.sameKey_ne (lit_ne e), h]
        rfl
  · rcases List.mem_append.1 hz with hz | hz
    · rw [p.gone z hz]; rfl
    · rw [List.mem_singleton] at hz
      subst hz
      have : (Lit.int .u64 z).sameKey (.int .u64 z) = true := by simp [Lit.sameKey]
      simp [this]
set_option maxHeartbeats 4000000 in
theorem Try.keys1_tells (d : Nat) (T : TypeId → Bool) (Bm b n : Nat) (ks : List Int) (w : World) (hBm : Rows8 w Bm 70 #[.map (some b)]) (hm : SetAt w b n ks) :
    TellsX Fence.wide d Try.prog 56 #[.pointer (some ⟨Bm, 0, none⟩)] encW (Km T b) (fun xs => xs.Nodup ∧ xs.length ≤ n ∧ ∀ z, z ∈ xs ↔ z ∈ ks) (fun pre x => pre.length < n ∧ x ∈ ks) w := fun l J Jx Jp W hW hJ hJx hJp hY h0 => by
  refine callsIn_wide.2 ?_
  refine (callsIn_wide (n := 9)).1 ?_
  obtain ⟨D, hown0, hD⟩ := hm
  have hown := hown0.kept (grown_below hW (Nat.le_refl _)) (by simp)
  have hsz := owns_size hown
  have c0 : W.cell? ⟨Bm, 0, none⟩ = some (.map (some b)) := (hBm.below hW hBm.lt).cell 0
  have HY := Lib.hid hY
  have HJ := Lib.hid hJ
  have HD := Lib.hid hD
  have HSZ := Lib.hid hsz
  clear hY hBm hown0 hW hD hsz hJ
  refine callsIn_of_wp Try.func56 rfl trivial ?_ rfl
  simp only [Try.ntmps56, List.size_toArray, List.length_cons, List.length_nil, Nat.reduceAdd, Nat.reduceSub, Array.replicate_succ, Array.replicate_zero, List.push_toArray, List.append_toArray, List.nil_append, List.cons_append]
  gi_wp2_with (gi_at_range; refine wpListIn_range_own _ rfl _ 70 rfl 22 71 Try.lawU Try.underlying70 _ b n _ rfl hown ?_; intro w0 hrg0 hg0 hs0)
  have hJ0 : J [] w0 := HJ.out [] W w0 none h0 hg0 (fun r e => by cases e)
  have HT0 : Hid (KTold ks (Maps.has D) []) := Lib.hid (by exact ⟨List.nodup_nil, (fun z hz => by cases hz), (fun z hz => .inr ((HD.out _).2 ⟨z, hz, rfl⟩)), (fun z hz => by cases hz)⟩)
  have HG0 := Lib.hid hg0
  clear hg0 h0
  gi_loopw [6] (fun _ wr => ∃ (left : Lit → Bool) (cnt : Nat) (pre : List Int), wr.ranges Try.prog 22 unitElem b W.heap.size n D left cnt ∧ Hid (KTold ks left pre) ∧ Hid (pre.length + cnt ≤ n) ∧ Hid (J pre wr)) (fun _ wr => wr.rangeLeft b W.heap.size)
  case atStart => exact ⟨_, _, [], hrg0, HT0, Lib.hid (by simpa using HSZ.out), Lib.hid hJ0⟩
  case round =>
    obtain ⟨left, cnt, pre, hrg, hT, hL, hJs⟩ := hrel
    gi_wp2_with (gi_at_next; go_loud (refine wpListIn_next_ranges _ rfl _ rfl 22 Try.lawU unitElem (fun z : Int => Value.int .u64 z) (fun _ : Unit => Value.agg #[]) (fun key kl h => by obtain ⟨x, rfl, _⟩ := Maps.keyOf_int_inv Try.underlying22 h; exact ⟨x, rfl⟩) (fun v y h => ⟨(), (unitElem_inv h).1⟩) b W.heap.size n _ _ _ rfl hrg ?_ ?_))
    · intro hc0 hl0
      have hS : Hid (pre.Nodup ∧ pre.length ≤ n ∧ ∀ z, z ∈ pre ↔ z ∈ ks) := Lib.hid ⟨hT.out.nd, by have := hL.out; omega, fun z => ⟨hT.out.sub z, fun hz => (hT.out.all z hz).resolve_right (by rw [hl0]; decide)⟩⟩
      clear hl0
      gi_wp2_with fail
      go_end0
      exact .inl ⟨⟨_, rfl⟩, .inl ⟨_, hS.out, hJs.out⟩⟩
    · intro x c kl y w1 cnt1 hkey hlk hv hat hrg1 hlt hg1 hs1 hen
      obtain ⟨x', ex, rfl, hwx⟩ := Maps.keyOf_int_inv Try.underlying22 hkey
      cases ex
      obtain ⟨kk, hkk, ek⟩ := (HD.out _).1 (Maps.has_true_of_atKey hat)
      have exk : kk = x := by injection ek with _ e; exact e.symm
      subst exk
      have hJ1 : J pre w1 := HJ.out pre wr w1 _ hJs.out hg1 (fun r e => by cases e; exact ⟨Nat.le_refl _, ranges_walk hrg⟩)
      have hTn := Lib.hid (hT.out.next hlk hkk)
      have hOk : pre.length < n ∧ kk ∈ ks := ⟨by have := hL.out; omega, hkk⟩
      obtain ⟨fn, tmps, assign, body, hy, hR⟩ := yield_any rfl 8 (HY.out pre kk w1 hJ1 hOk)
      unfold encW at hy
      have HLT := Lib.hid hlt
      have HRG1 := Lib.hid hrg1
      have HRG := Lib.hid hrg
      clear hkey hlk hv hat hrg1 hlt hg1 hs1 hJ1 hwx ek hkk hrg
      gi_wp2_with fail
      refine hR.mono ?_
      rintro e w5 (⟨rfl, hJ5, hk5, ht5⟩ | ⟨rfl, hJ5, _⟩ | ⟨ch, rfl, hJ5, _⟩)
      · have HJ5 := Lib.hid hJ5
        have HR5 := Lib.hid (ranges_same HRG1.out ht5.2 fun o ho hc => hk5.same _ o (Nat.le_refl _) ho hc)
        clear hJ5 hk5 ht5
        gi_wp2_with fail
        go_roundw
        case rel => exact ⟨_, _, _, HR5.out, hTn, Lib.hid (by have := hL.out; have := HLT.out; rw [List.length_append]; simp; omega), HJ5⟩
        case measure => rw [HR5.out.left_eq, HRG.out.left_eq]; exact HLT.out
      · have HJ5 := Lib.hid hJ5
        clear hJ5
        gi_wp2_with fail
        refine bodyPost_ret (results_none rfl _ _ _) rfl ?_
        exact .inl ⟨⟨_, rfl⟩, .inr ⟨_, HJ5.out⟩⟩
      · exact ⟨rfl, .inr ⟨_, _, rfl, hJ5⟩⟩
end Go.Proofs
