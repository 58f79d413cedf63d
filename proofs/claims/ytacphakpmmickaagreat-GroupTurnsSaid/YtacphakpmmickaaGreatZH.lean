/- What the laws share: the row's last step; the mathematics of turned words. -/
import Derived.Test.YtacphakpmmickaaGreatZG
import Derived.Test.YtacphakpmmickaaGreatRows
import Derived.ProofKit
import Derived.OpenShut
namespace Go.Proofs
set_option maxRecDepth 100000
open Go.RowKit Go.Shelf Go.ChangeShapes Go.WideShapes Go.ChangeAt

/-- The row's last step where of the world behind the call one knows that all that lay lies as it lay. -/
theorem post_lies {H : Type} {enc : TypeId × Value → H} {P : Program} {f : Func} {s : ChangeSpec} {apart fresh handsOn : Bool} {W W' : World} {args : Array Value} {v : Value} {ds gs : List (DataW H)} {before pa pv : List MemPlace}
    (hW : DataW.Whole enc P f.params.toList s.vars apart W args.toList ds gs before)
    (hres : ∀ (b : Nat) (sp : Nat → Bool) (hd : Bool), DataW.TrodAll enc P W' b sp hd f.resultTypes.toList (v.resultList f.resultTypes.size) (s.fn H (ds ++ gs)).results [])
    (hargs : ∀ sp : Nat → Bool, (∀ p ∈ before, sp p.block = true) → DataW.TrodAll enc P W' 0 sp true f.params.toList args.toList (s.fn H (ds ++ gs)).args pa)
    (hvars : ∀ sp : Nat → Bool, (∀ p ∈ before, sp p.block = true) → DataW.TrodVars enc P W' sp s.vars (s.fn H (ds ++ gs)).vars pv)
    (hb : Below W.heap.size W W') : s.post enc P f apart fresh handsOn false W args v W' :=
  have hold : ∀ p ∈ before, (fun b => decide (b < W.heap.size)) p.block = true := fun p hp => by simpa using hW.lt p hp
  ⟨ds, gs, before, [], pa, pv, hW, hres _ _ _, hargs _ hold, hvars _ hold, hb.frame _, fun h => by cases h⟩

/-- x turned by i. -/
def tw (x : Nat) (i : Int) : Nat := ofB fun (n : Nat) => byt x (((n : Int) + i) % 8).toNat
theorem tw_lt (x : Nat) (i : Int) : tw x i < 18446744073709551616 := ofB_lt fun _ => byt_lt _ _
theorem byt_tw (x : Nat) (i : Int) {k : Nat} (hk : k < 8) : byt (tw x i) k = byt x (((k : Int) + i) % 8).toNat := byt_ofB (g := fun (n : Nat) => byt x (((n : Int) + i) % 8).toNat) (fun _ => byt_lt _ _) hk
theorem tw_tw (x : Nat) (i j : Int) : tw (tw x i) j = tw x (i + j) := by
  refine byt_ext (tw_lt _ _) (tw_lt _ _) fun k hk => ?_
  rw [byt_tw _ _ hk, byt_tw _ _ (by omega), byt_tw _ _ hk]
  congr 1
  omega
theorem tw_all {x : Nat} (hx : x < 18446744073709551616) {i : Int} (hi : i % 8 = 0) : tw x i = x := by
  refine byt_ext (tw_lt _ _) hx fun k hk => ?_
  rw [byt_tw _ _ hk]
  congr 1
  omega
theorem tw_mod (x : Nat) {i j : Int} (h : i % 8 = j % 8) : tw x i = tw x j := by
  refine byt_ext (tw_lt _ _) (tw_lt _ _) fun k hk => ?_
  rw [byt_tw _ _ hk, byt_tw _ _ hk]
  congr 1
  omega
theorem wrap64_mod (j : Int) : wrap64 j % 8 = j % 8 := by unfold wrap64; omega
theorem tw_back {x : Nat} (hx : x < 18446744073709551616) (i : Int) : tw (tw x i) (-i) = x := by
  rw [tw_tw]
  exact tw_all hx (by omega)
theorem tmod_zero (i : Int) : i.tmod 8 = 0 ↔ i % 8 = 0 := by
  rw [Int.tmod_eq_emod]
  split
  · omega
  · rename_i h
    have : ¬ (8 ∣ i) := fun h' => h (.inr h')
    simp only [Int.natAbs]
    omega
theorem tmod_ring (k : Nat) (i : Int) (hk : k < 8) : (((k : Int) + i) % 8).toNat = (((k : Int) + i.tmod 8 + 8).tmod 8).toNat := by
  have h1 : -8 < i.tmod 8 ∧ (i.tmod 8) % 8 = i % 8 := by
    rw [Int.tmod_eq_emod]
    split
    · omega
    · rename_i h
      have : ¬ (8 ∣ i) := fun h' => h (.inr h')
      simp only [Int.natAbs]
      omega
  rw [Int.tmod_eq_emod_of_nonneg (by omega)]
  omega
end Go.Proofs
