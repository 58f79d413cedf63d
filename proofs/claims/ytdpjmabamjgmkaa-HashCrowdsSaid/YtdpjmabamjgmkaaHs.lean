/- The reference's Of, Key, H1, H2; rows of words opened. -/
import Derived.Test.YtdpjmabamjgmkaaHr
import Derived.Test.YtdpjmabamjgmkaaHl
namespace Go.Proofs
open Go.ChangeShapes Go.WideShapes Go.RowKit Go.Shelf Go.Deep
attribute [local go_sem] Oper.semAt_some

set_option maxRecDepth 100000 in
set_option maxHeartbeats 1000000 in
theorem Try.refOf_any (s k : Nat) (hs : s < 18446744073709551616) (hk : k < 18446744073709551616) (w : World) :
    Calls Try.prog 11 #[.int .u64 (s : Int), .int .u64 (k : Int)] w fun e w' => e = .returned (.int .u64 (ofB s k : Int)) ∧ w = w' := by
  have c1 := Try.turned_any k s hk hs w
  have hd : Hid (ofB s k = turnB 29 (mulB 10723151780598845931 (turnB 32 (mulB 13787848793156543929 (k ^^^ s))))) := Lib.hid (by rw [Nat.xor_comm]; rfl)
  have m1 := wrap_mul (k ^^^ s) 13787848793156543929
  have l1 := mulB_lt 13787848793156543929 (k ^^^ s)
  generalize ofB s k = r at *
  generalize k ^^^ s = x0 at *
  generalize mulB 13787848793156543929 x0 = x1 at *
  have c2 := Try.folded_any x1 32 l1 (by decide) w
  have m2 := wrap_mul (turnB 32 x1) 10723151780598845931
  have l3 := mulB_lt 10723151780598845931 (turnB 32 x1)
  generalize turnB 32 x1 = x2 at *
  generalize mulB 10723151780598845931 x2 = x3 at *
  have c3 := Try.folded_any x3 29 l3 (by decide) w
  generalize turnB 29 x3 = x4 at *
  have e32 : ((32 : Nat) : Int) = 32 := rfl
  have e29 : ((29 : Nat) : Int) = 29 := rfl
  rw [e32] at c2
  rw [e29] at c3
  have eh1 : ((13787848793156543929 : Nat) : Int) = 13787848793156543929 := rfl
  have eh2 : ((10723151780598845931 : Nat) : Int) = 10723151780598845931 := rfl
  rw [eh1] at m1
  rw [eh2] at m2
  clear e32 e29 eh1 eh2
  go_enter Try.func11, Try.ntmps11
  go_wp2_with fail
  refine c1.mono ?_
  rintro e w' ⟨rfl, rfl⟩
  go_wp2_with fail
  refine c2.mono ?_
  rintro e w' ⟨rfl, rfl⟩
  go_wp2_with fail
  refine c3.mono ?_
  rintro e w' ⟨rfl, rfl⟩
  go_wp2_with fail
  go_ret
  exact ⟨by rw [hd.out]; rfl, rfl⟩
set_option maxRecDepth 100000 in
set_option maxHeartbeats 1000000 in
theorem Try.refKey_any (s h : Nat) (hs : s < 18446744073709551616) (hh : h < 18446744073709551616) (w : World) :
    Calls Try.prog 13 #[.int .u64 (s : Int), .int .u64 (h : Int)] w fun e w' => e = .returned (.int .u64 (keyB s h : Int)) ∧ w = w' := by
  have c1 := Try.unfolded_any h 29 hh (by decide) (by decide) w
  have l1 := unturn29_lt hh
  have d1 : ∀ q, UnB h 29 0 q → q * 2 ^ 0 = unturn29 h := fun q hq => hq.done29 hh
  have hd : Hid (keyB s h = mulB 10871156337175269513 (turnB 32 (mulB 3573116690164977347 (unturn29 h))) ^^^ s) := Lib.hid rfl
  generalize keyB s h = r at *
  generalize unturn29 h = x1 at *
  have c2 := Try.over_any x1 10723151780598845931 3573116690164977347 l1 (by decide) (by decide) w
  have l2 := mulB_lt 3573116690164977347 x1
  generalize mulB 3573116690164977347 x1 = x2 at *
  have c3 := Try.unfolded_any x2 32 l2 (by decide) (by decide) w
  have l3 : turnB 32 x2 < 18446744073709551616 := turnB_lt l2
  have d3 : ∀ q, UnB x2 32 0 q → q * 2 ^ 0 = turnB 32 x2 := fun q hq => hq.done32 l2
  generalize turnB 32 x2 = x3 at *
  have c4 := Try.over_any x3 13787848793156543929 10871156337175269513 l3 (by decide) (by decide) w
  have l4 := mulB_lt 10871156337175269513 x3
  generalize mulB 10871156337175269513 x3 = x4 at *
  have c5 := Try.turned_any x4 s l4 hs w
  generalize x4 ^^^ s = x5 at *
  rw [show ((29 : Nat) : Int) = 29 from rfl] at c1
  rw [show ((32 : Nat) : Int) = 32 from rfl] at c3
  rw [show ((10723151780598845931 : Nat) : Int) = 10723151780598845931 from rfl] at c2
  rw [show ((13787848793156543929 : Nat) : Int) = 13787848793156543929 from rfl] at c4
  have D1 := Lib.hid d1
  have D3 := Lib.hid d3
  clear d1 d3
  go_enter Try.func13, Try.ntmps13
  go_wp2_with fail
  refine c1.mono ?_
  rintro e w' ⟨⟨q, hq, rfl⟩, rfl⟩
  rw [D1.out q hq]
  go_wp2_with fail
  refine c2.mono ?_
  rintro e w' ⟨rfl, rfl⟩
  go_wp2_with fail
  refine c3.mono ?_
  rintro e w' ⟨⟨q3, hq3, rfl⟩, rfl⟩
  rw [D3.out q3 hq3]
  go_wp2_with fail
  refine c4.mono ?_
  rintro e w' ⟨rfl, rfl⟩
  go_wp2_with fail
  refine c5.mono ?_
  rintro e w' ⟨rfl, rfl⟩
  go_wp2_with fail
  go_ret
  exact ⟨by rw [hd.out]; rfl, rfl⟩
set_option maxRecDepth 100000 in
set_option maxHeartbeats 1000000 in
theorem Try.refH1_any (x : Nat) (hx : x < 18446744073709551616) (w : World) : Calls Try.prog 15 #[.int .u64 (x : Int)] w fun e w' => e = .returned (.int .u64 ((x / 128 : Nat) : Int)) ∧ w = w' := by
  have he : (x : Int) / 128 = ((x / 128 : Nat) : Int) := by omega
  have hw : IntKind.u64.wrap ((x : Int) / 128) = ((x / 128 : Nat) : Int) := by rw [wrap_u64m]; omega
  have ht : IntKind.u64.wrap ((x : Int).tdiv 128) = ((x / 128 : Nat) : Int) := by rw [Int.tdiv_eq_ediv_of_nonneg (by omega)]; exact hw
  clear he
  generalize x / 128 = y at *
  go_enter Try.func15, Try.ntmps15
  go_wp2_with fail
  go_ret
  exact ⟨rfl, rfl⟩
set_option maxRecDepth 100000 in
set_option maxHeartbeats 1000000 in
theorem Try.refH2_any (x : Nat) (hx : x < 18446744073709551616) (w : World) : Calls Try.prog 17 #[.int .u64 (x : Int)] w fun e w' => e = .returned (.int .u8 ((x % 128 : Nat) : Int)) ∧ w = w' := by
  have ht : (x : Int).tmod 128 = ((x % 128 : Nat) : Int) := by rw [Int.tmod_eq_emod_of_nonneg (by omega)]; omega
  have hw : IntKind.u64.wrap ((x % 128 : Nat) : Int) = ((x % 128 : Nat) : Int) := by rw [wrap_u64m]; omega
  have e2 := wrap_u8s (x % 128) (Nat.mod_lt _ (by decide))
  generalize x % 128 = y at *
  go_enter Try.func17, Try.ntmps17
  go_wp2_with fail
  go_ret
  exact ⟨rfl, rfl⟩
/-- A row of words, all of them in range. -/
def WordsK (W : World) (v : Value) (ws : List Int) : Prop := WordsAt W v ws ∧ KeysOk ws
theorem u64_range {z : Int} (h : (Lit.int .u64 z).wf = true) : 0 ≤ z ∧ z < 18446744073709551616 := by
  have : 0 ≤ z ∧ z ≤ 18446744073709551615 := by simpa [Lit.wf, IntKind.min, IntKind.max, IntKind.bits, IntKind.signed] using h
  omega
theorem u64_nat {z : Int} (h : (Lit.int .u64 z).wf = true) : ∃ n : Nat, z = (n : Int) ∧ n < 18446744073709551616 := by
  have := u64_range h
  exact ⟨z.toNat, by omega, by omega⟩
set_option maxRecDepth 100000 in
theorem open_wordsK {H : Type} {enc : TypeId × Value → H} {W : World} {base : Nat} {sp : Nat → Bool} {held : Bool} {fuel : Nat} {a : Option Addr} {len cap : Nat} {x : DataW H × List MemPlace}
    (h : DataW.trod enc Try.prog W base sp held fuel 23 [.slice a len cap] = some x) : ∃ l : List Int, len = l.length ∧ WordsK W (.slice a len cap) l := by
  obtain ⟨l, hl, hw⟩ := open_words h
  refine ⟨l, hl, hw, ?_⟩
  rcases open_slice Try.underlying23 h with ⟨hcs, _⟩ | ⟨ad, len', cap', m, n, D, Pl, hcs, hb, hl', hm, hmm, _, hx⟩
  · simp at hcs
    obtain ⟨rfl, rfl, rfl⟩ := hcs
    intro k hk
    rw [List.eq_nil_of_length_eq_zero hl.symm] at hk
    cases hk
  · simp at hcs
    obtain ⟨rfl, rfl, rfl⟩ := hcs
    have hlm : len ≤ m := by rw [hmm]; split <;> omega
    intro k hk
    obtain ⟨j, hj, rfl⟩ := List.mem_iff_getElem.1 hk
    obtain ⟨cs', h1, h2⟩ := hx j (by omega)
    rw [cellsU] at h1
    obtain ⟨_, hlen, hcell⟩ := World.cells?_some h1
    obtain ⟨z, rfl, _, hz⟩ := DataW.trod_int Try.underlying22 h2
    have e := hcell 0 (by omega)
    rw [add_add] at e
    obtain ⟨b, off, ea, hbl, hc⟩ := wordsAt_get hw j hj
    injection ea with ea
    subst ea
    have hadd : (⟨b, off, none⟩ : Addr).add j = ⟨b, off + j, none⟩ := by unfold Addr.add; split <;> simp_all
    simp [hadd] at e
    rw [hc] at e
    simp [hj] at e
    rw [e]
    exact u64_range hz
end Go.Proofs
