/- slices.Clone of bytes; bytes that are appended. -/
import Derived.Test.YtmjlaienklheiaaL
namespace Go.Proofs
set_option maxRecDepth 100000
open Go.RowKit Go.Shelf
attribute [local go_sem] Oper.semAt_some

theorem below_append {n₀ : Nat} {l : List Nat} {v : Value} {w W w1 : World} (hB : Below n₀ w W) (hO : OwnsBytes n₀ l v W) (hgrow : W.grownBy w1 v.ownBlock) (hn : n₀ ≤ W.heap.size) : Below n₀ w w1 :=
  hB.grown hgrow hn (fun j ej => by
    rcases hO.2 with ⟨rfl, _⟩ | ⟨g, cap, cur, rfl, hg, _⟩
    · simp [Value.ownBlock] at ej
    · obtain rfl : g = j := by simpa [Value.ownBlock] using ej
      exact hg)
theorem byteVals_append (l m : List Nat) : byteVals l ++ byteVals m = byteVals (l ++ m) := by simp [byteVals]
theorem byteVals_cell (bs : List Nat) (W : World) (b off : Nat) (hc : ∀ j, j < bs.length → W.cell? ⟨b, off + j, none⟩ = some (.int .u8 ((bs[j]?.getD 0 : Nat) : Int))) :
    ∀ j u, (byteVals bs)[j]? = some u → W.cell? ((⟨b, off, none⟩ : Addr).add j) = some u := by
  intro j u hu
  have hadd : (⟨b, off, none⟩ : Addr).add j = ⟨b, off + j, none⟩ := by unfold Addr.add; split <;> simp_all
  rw [hadd]
  unfold byteVals at hu
  rw [List.getElem?_map] at hu
  cases hj : bs[j]? with
  | none => rw [hj] at hu; cases hu
  | some x =>
    rw [hj] at hu
    have h3 := hc j (List.getElem?_eq_some_iff.1 hj).1
    rw [hj] at h3
    simpa using h3.trans hu
theorem byteVals_one (l : List Nat) : ∀ u ∈ byteVals l, u.oneCell' = true := by
  intro u hu
  obtain ⟨b, _, rfl⟩ := List.mem_map.1 hu
  rfl

set_option maxRecDepth 100000 in
set_option maxHeartbeats 1000000 in
theorem Try.clone_any (a : Option Addr) (len cap : Nat) (bs : List Nat) (hlen : len = bs.length) (hl : bs.length ≤ 100) (w : World) (hI : BytesAt w (.slice a len cap) bs) :
    Calls Try.prog 24 #[.slice a len cap] w (BytesQ bs w) := by
  obtain ⟨i0, hi, hz0, hz1, hz2⟩ := info_parts Try.infoByte
  rcases hI with ⟨e1, rfl⟩ | ⟨b, off, cap', e1, hb, hc⟩
  · cases e1
    clear hlen hl
    have hnil := fun wx : World => Lib.run_eql_slice_nil (P := Try.prog) wx 23 5 none 0 0 0 0 Try.underlying23
    go_enter Try.func24, Try.ntmps24
    go_wp2
    go_ret
    exact ⟨_, rfl, World.ownsRow_nil _ _ _ _, Below.refl _ _⟩
  · cases e1
    have hnil := fun wx : World => Lib.run_eql_slice_nil (P := Try.prog) wx 23 5 (some ⟨b, off, none⟩) bs.length cap 0 0 Try.underlying23
    have HC := Lib.hid hc
    have HL := Lib.hid hlen
    clear hc hlen
    have hO : OwnsBytes w.heap.size [] (.slice (some ⟨w.heap.size, 0, none⟩) 0 0) (w.alloc (.cells #[] 5)) := World.ownsRow_lit w #[] 0 (Nat.le_refl _) (by unfold maxLen; omega) rfl
    have hB : Below w.heap.size w (w.alloc (.cells #[] 5)) := (Below.refl _ w).alloc (Nat.le_refl _) _
    have HO := Lib.hid hO
    clear hO
    go_enter Try.func24, Try.ntmps24
    go_wp2_with (at_builtin; refine wpList_append_own _ rfl _ _ 23 rfl w.heap.size 5 i0 (.int .u8 0) 1 1 Try.underlying23 hi hz0 hz1 hz2 rfl (by decide) _ _ _ rfl HO.out ⟨b, off, none⟩ bs.length cap (byteVals bs) rfl ?c1 ?c2 ?c3 ?c4 ?c5 ?c6 ?_)
    case c1 => rw [byteVals_length]
    case c2 =>
      intro j u hu
      have h := byteVals_cell bs w b off HC.out j u hu
      have hadd : (⟨b, off, none⟩ : Addr).add j = ⟨b, off + j, none⟩ := by unfold Addr.add; split <;> simp_all
      rw [hadd] at h
      exact h
    case c3 => exact byteVals_one bs
    case c4 => unfold maxLen; omega
    case c5 => omega
    intro v' w1 hown' hgrow _
    have hB1 := below_append hB HO.out hgrow hB.size
    have hO2 : OwnsBytes w.heap.size bs v' w1 := by
      unfold OwnsBytes
      simpa [byteVals] using hown'
    have HO2 := Lib.hid hO2
    clear hO2 hown' hgrow
    go_wp2
    go_ret
    exact ⟨_, rfl, HO2.out, hB1⟩

set_option maxRecDepth 100000 in
set_option maxHeartbeats 1000000 in
/-- .. of a row without a byte, wherever it points. -/
theorem Try.cloneEmpty_any (y : Addr) (cap : Nat) (w : World) :
    Calls Try.prog 24 #[.slice (some y) 0 cap] w (BytesQ [] w) := by
  obtain ⟨i0, hi, hz0, hz1, hz2⟩ := info_parts Try.infoByte
  have hnil := fun wx : World => Lib.run_eql_slice_nil (P := Try.prog) wx 23 5 (some y) 0 cap 0 0 Try.underlying23
  have hO : OwnsBytes w.heap.size [] (.slice (some ⟨w.heap.size, 0, none⟩) 0 0) (w.alloc (.cells #[] 5)) := World.ownsRow_lit w #[] 0 (Nat.le_refl _) (by unfold maxLen; omega) rfl
  have hB : Below w.heap.size w (w.alloc (.cells #[] 5)) := (Below.refl _ w).alloc (Nat.le_refl _) _
  have HO := Lib.hid hO
  clear hO
  go_enter Try.func24, Try.ntmps24
  go_wp2_with (at_builtin; refine wpList_append_own _ rfl _ _ 23 rfl w.heap.size 5 i0 (.int .u8 0) 1 1 Try.underlying23 hi hz0 hz1 hz2 rfl (by decide) _ _ _ rfl HO.out y 0 cap [] rfl rfl ?c2 ?c3 ?c4 ?c5 ?c6 ?_)
  all_goals try (first | (simp; done) | (unfold maxLen; omega))
  intro v' w1 hown' hgrow _
  have hB1 := below_append hB HO.out hgrow hB.size
  have hO2 : OwnsBytes w.heap.size [] v' w1 := by
    unfold OwnsBytes
    simpa [byteVals] using hown'
  have HO2 := Lib.hid hO2
  clear hO2 hown' hgrow
  go_wp2
  go_ret
  exact ⟨_, rfl, HO2.out, hB1⟩

/-- What the walk is told of a row of integers that came in. -/
def IsRow (k : IntKind) (w : World) (a : Option Addr) (len cap : Nat) (zs : List Int) : Prop :=
  (a = none ∧ len = 0 ∧ cap = 0 ∧ zs = []) ∨
  ∃ x, a = some x ∧ len ≤ cap ∧ cap ≤ maxLen ∧ zs.length = cap ∧ (∀ i, i < zs.length → w.cell? (x.add i) = some (.int k (zs.getD i 0))) ∧ ∀ n ∈ zs, (Lit.int k n).wf = true
/-- Of m numbers of it, m less than its length. -/
theorem isRow_at {k : IntKind} {w : World} {x : Addr} {zs : List Int} (hc : ∀ i, i < zs.length → w.cell? (x.add i) = some (.int k (zs.getD i 0))) (hp : 0 < zs.length) :
    ∃ b off, x = ⟨b, off, none⟩ ∧ b < w.heap.size ∧ ∀ j, j < zs.length → w.cell? ⟨b, off + j, none⟩ = some (.int k (zs[j]?.getD 0)) := by
  obtain ⟨b, off, spot⟩ := x
  have h0 := hc 0 hp
  have hspot : spot = none := by simpa [Addr.add] using World.cell?_spot h0
  subst hspot
  refine ⟨b, off, rfl, ?_, fun j hj => ?_⟩
  · rcases Nat.lt_or_ge b w.heap.size with h | h
    · exact h
    · simp [World.cell?, Addr.add, Array.getElem?_eq_none h] at h0
  · have h1 := hc j hj
    have hadd : (⟨b, off, none⟩ : Addr).add j = ⟨b, off + j, none⟩ := by unfold Addr.add; split <;> simp_all
    rw [hadd] at h1
    simpa using h1
/-- The bytes, as numbers. -/
def natOf (zs : List Int) : List Nat := zs.map Int.toNat
theorem natOf_take (zs : List Int) (m : Nat) : natOf (zs.take m) = (natOf zs).take m := by simp [natOf]
theorem natOf_get {zs : List Int} (h : ∀ n ∈ zs, (Lit.int .u8 n).wf = true) (j : Nat) : (((natOf zs)[j]?.getD 0 : Nat) : Int) = zs[j]?.getD 0 ∧ (natOf zs)[j]?.getD 0 < 256 := by
  unfold natOf
  rw [List.getElem?_map]
  cases hj : zs[j]? with
  | none => simp
  | some z =>
    have hb := bounds_u8 (h z (List.mem_of_getElem? hj))
    simp
    omega
end Go.Proofs
