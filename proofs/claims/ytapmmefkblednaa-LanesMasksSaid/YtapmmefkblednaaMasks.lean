/- Proved: for every two words and row of bytes, honeycomblaw01.LanesMasks returns true, and its arguments read as they did; no condition. -/
import Derived.Test.YtapmmefkblednaaN
import Derived.ShutString
import Derived.ChangeOld
import Derived.Below
namespace Go.Proofs.Ytapmmefkblednaa.lanesMasks
open Go.ChangeShapes Go.WideShapes Go.ChangeAt Go.RowKit Go.Shelf
attribute [local go_sem] Oper.semAt_some

theorem own : ownKnob Try.prog.godebug = none := by kernel_rfl

theorem equalP (p b m : Nat) (hm : (maskB fun n => byt p n == b) = m) (w : World) : Calls Try.prog 22 #[.int .u64 p, .int .u8 b] w fun e w' => e = .returned (.int .u8 m) ∧ Below w.heap.size w w' := by
  subst hm
  exact Try.Equal_any p b w
theorem belowP (p b m : Nat) (hm : (maskB fun n => decide (byt p n < b)) = m) (w : World) : Calls Try.prog 24 #[.int .u64 p, .int .u8 b] w fun e w' => e = .returned (.int .u8 m) ∧ Below w.heap.size w w' := by
  subst hm
  exact Try.Below_any p b w
theorem alikeP (p x m : Nat) (hm : (maskB fun n => byt p n == byt x n) = m) (w : World) : Calls Try.prog 26 #[.int .u64 p, .int .u64 x] w fun e w' => e = .returned (.int .u8 m) ∧ Below w.heap.size w w' := by
  subst hm
  exact Try.Alike_any p x w
theorem refEqualP (p b m : Nat) (hp : p < 18446744073709551616) (hm : (maskB fun n => byt p n == b) = m) (w : World) : Calls Try.prog 23 #[.int .u64 p, .int .u8 b] w fun e w' => e = .returned (.int .u8 m) ∧ Below w.heap.size w w' := by
  subst hm
  exact Try.refEqual_any p b hp w
theorem refBelowP (p b m : Nat) (hp : p < 18446744073709551616) (hm : (maskB fun n => decide (byt p n < b)) = m) (w : World) : Calls Try.prog 25 #[.int .u64 p, .int .u8 b] w fun e w' => e = .returned (.int .u8 m) ∧ Below w.heap.size w w' := by
  subst hm
  exact Try.refBelow_any p b hp w
theorem refAlikeP (p x m : Nat) (hp : p < 18446744073709551616) (hx : x < 18446744073709551616) (hm : (maskB fun n => byt p n == byt x n) = m) (w : World) : Calls Try.prog 27 #[.int .u64 p, .int .u64 x] w fun e w' => e = .returned (.int .u8 m) ∧ Below w.heap.size w w' := by
  subst hm
  exact Try.refAlike_any p x hp hx w
theorem four (W : World) (t : TypeId) : Rows8 (W.alloc (.cells #[.int .u8 0, .int .u8 127, .int .u8 128, .int .u8 255] t)) W.heap.size t #[.int .u8 0, .int .u8 127, .int .u8 128, .int .u8 255] := Rows8.new _ _ _
def more (bs : List Nat) : List Nat := bs ++ [0, 127, 128, 255]
theorem more_length (bs : List Nat) : (more bs).length = bs.length + 4 := by simp [more]
theorem more_vals (bs : List Nat) : byteVals bs ++ [.int .u8 0, .int .u8 127, .int .u8 128, .int .u8 255] = byteVals (more bs) := by simp [more, byteVals]

set_option maxRecDepth 100000 in
set_option maxHeartbeats 4000000 in
theorem walkNat (v x cap : Nat) (a : Option Addr) (bs : List Nat) (hv : v < 18446744073709551616) (hx : x < 18446744073709551616) (n m : Nat) (hcap : n ≤ cap) (hreach : cap ≤ 9223372036854775807) (hm : m ≤ 10) (hmn : m ≤ n) (hmin : min (n : Int) 10 = (m : Int)) (w : World)
    (ha : (a = none ∧ n = 0 ∧ cap = 0 ∧ m = 0) ∨ ∃ y, a = some y) (hbl : bs.length = m)
    (hby : ∀ j, j < (more bs).length → (more bs)[j]?.getD 0 < 256)
    (hcl : ∀ W, Below w.heap.size w W → Calls Try.prog 10 #[.slice a m cap] W (BytesQ bs W)) :
    Calls Try.prog 4 #[.int .u64 v, .int .u64 x, .slice a n cap] w fun e w' => e = .returned (.bool true) ∧ Below w.heap.size w w' := by
  obtain ⟨i0, hi, hz0, hz1, hz2⟩ := info_parts Try.infoByte
  obtain ⟨al, hal⟩ : ∃ al, (maskB fun n => byt v n == byt x n) = al := ⟨_, rfl⟩
  have HAL := Lib.hid hal
  have HV := Lib.hid hv
  have HX := Lib.hid hx
  have HCL := Lib.hid hcl
  have HBL := Lib.hid hbl
  have HBY := Lib.hid hby
  clear hv hx hcl hbl hal hby
  rcases ha with ⟨rfl, rfl, rfl, rfl⟩ | ⟨y, rfl⟩
  all_goals
    go_enter Try.func4, Try.ntmps4
    go_wp2_with fail
    refine (Try.wakes_any _).mono ?_
    rintro e wa ⟨rfl, hBa⟩
    go_wp2_with fail
    refine (HCL.out wa hBa).mono ?_
    rintro e w1 ⟨v1, rfl, hO1, hB1⟩
    have HO1 := Lib.hid hO1
    clear hO1
    go_wp2_with (at_builtin; refine wpList_append_own _ rfl _ _ 22 rfl wa.heap.size 5 i0 (.int .u8 0) 1 1 Try.underlying22 hi hz0 hz1 hz2 rfl (by decide) _ _ _ rfl (World.ownsRow.alloc HO1.out _) ⟨w1.heap.size, 0, none⟩ 4 4 [.int .u8 0, .int .u8 127, .int .u8 128, .int .u8 255] rfl rfl ?c2 ?c3 ?c4 ?c5 ?c6 ?_)
    case c2 =>
      intro j u hu
      have hadd : (⟨w1.heap.size, 0, none⟩ : Addr).add j = ⟨w1.heap.size, j, none⟩ := by unfold Addr.add; split <;> simp_all
      rw [hadd, Rows8.cell (four w1 5) j]
      simpa using hu
    case c3 =>
      intro u hu
      simp only [List.mem_cons, List.not_mem_nil, or_false] at hu
      rcases hu with rfl | rfl | rfl | rfl <;> rfl
    case c4 => rw [HBL.out]; unfold maxLen; omega
    case c5 => rw [HBL.out]; omega
    case c6 => exact Nat.le_trans hB1.size (by simp)
    intro v2 w2 hown' hgrow _
    have hB2 := below_append (hB1.alloc hB1.size _) (World.ownsRow.alloc HO1.out _) hgrow (Nat.le_trans hB1.size (by simp))
    have hO2 : OwnsBytes wa.heap.size (more bs) v2 w2 := by
      unfold OwnsBytes
      rw [← more_vals, more_length]
      exact hown'
    obtain ⟨g, cap2, rfl, hg, hgl, hcell⟩ := owns_at hO2 (by rw [more_length]; omega)
    have hl2 : (more bs).length ≤ 14 := by rw [more_length, HBL.out]; omega
    have hby : ∀ j, j < (more bs).length → (more bs)[j]?.getD 0 < 256 := HBY.out
    generalize hL : (more bs).length = L at *
    have HC := Lib.hid hcell
    have HL := Lib.hid hL
    have HY := Lib.hid hby
    clear hO2 hown' hgrow hcell hL hby HO1
    have hB : Below w.heap.size w w2 := hBa.trans (hB2.mono hBa.size)
    clear hBa hB1 hB2
    go_wp2_with fail
    go_loopw [8, 20] (fun _ j wr => ∃ k : Nat, k ≤ L ∧ j = .int .i64 k ∧ Below w2.heap.size w2 wr) (fun _ j _ => L - (intOf j).toNat)
    case atStart => exact ⟨0, Nat.zero_le _, rfl, Below.refl _ _⟩
    case round =>
      obtain ⟨k, hk, rfl, hBr⟩ := hrel
      by_cases hlt : k < L
      · have hcx := (hBr.cell (p := ⟨g, k, none⟩) hgl).trans (HC.out k hlt)
        have hy := HY.out k hlt
        generalize (more bs)[k]?.getD 0 = y at *
        obtain ⟨eq, heq⟩ : ∃ eq, (maskB fun n => byt x n == y) = eq := ⟨_, rfl⟩
        obtain ⟨be, hbe⟩ : ∃ be, (maskB fun n => decide (byt x n < y)) = be := ⟨_, rfl⟩
        have HEQ := Lib.hid heq
        have HBE := Lib.hid hbe
        clear heq hbe
        go_wp2_with fail
        refine (equalP x y eq HEQ.out _).mono ?_
        rintro e w3 ⟨rfl, hB3⟩
        have hB4 := hBr.trans (hB3.mono hBr.size)
        clear hB3
        go_wp2_with fail
        refine (refEqualP x y eq HX.out HEQ.out _).mono ?_
        rintro e w5 ⟨rfl, hB5⟩
        replace hB4 := hB4.trans (hB5.mono hB4.size)
        clear hB5
        go_wp2_with fail
        refine (belowP x y be HBE.out _).mono ?_
        rintro e w6 ⟨rfl, hB6⟩
        replace hB4 := hB4.trans (hB6.mono hB4.size)
        clear hB6
        go_wp2_with fail
        refine (refBelowP x y be HX.out HBE.out _).mono ?_
        rintro e w7 ⟨rfl, hB7⟩
        replace hB4 := hB4.trans (hB7.mono hB4.size)
        clear hB7
        go_wp2_with fail
        exact ⟨⟨k + 1, by omega, by go_num, hB4⟩, by simp [intOf]; omega⟩
      · obtain rfl : k = L := by omega
        go_wp2_with fail
        refine (alikeP v x al HAL.out _).mono ?_
        rintro e w3 ⟨rfl, hB3⟩
        have hB4 := hBr.trans (hB3.mono hBr.size)
        clear hB3
        go_wp2_with fail
        refine (refAlikeP v x al HV.out HX.out HAL.out _).mono ?_
        rintro e w5 ⟨rfl, hB5⟩
        replace hB4 := hB4.trans (hB5.mono hB4.size)
        clear hB5
        go_wp2
        go_ret
        exact ⟨by simp, hB.trans (hB4.mono hB.size)⟩

theorem walk (a0 : Int) (a1 : Int) (a2 : Option Addr) (len2 cap2 : Nat) (z2 : List Int) (w : World) (w0 : (Lit.int .u64 a0).wf = true) (w1 : (Lit.int .u64 a1).wf = true) (w2 : IsRow .u8 w a2 len2 cap2 z2) :
    Calls Try.prog 4 #[.int .u64 a0, .int .u64 a1, .slice a2 len2 cap2] w fun e w' => e = .returned (.bool true) ∧ Below w.heap.size w w' := by
  have b0 := bounds_u64 w0
  have b1 := bounds_u64 w1
  obtain ⟨v, rfl⟩ := Int.eq_ofNat_of_zero_le b0.1
  obtain ⟨x, rfl⟩ := Int.eq_ofNat_of_zero_le b1.1
  have hv : v < 18446744073709551616 := by omega
  have hx : x < 18446744073709551616 := by omega
  have hmore : ∀ (bs : List Nat), (∀ n : Nat, bs[n]?.getD 0 < 256) → ∀ j, j < (more bs).length → (more bs)[j]?.getD 0 < 256 := by
    intro bs hb j hj
    unfold more
    rw [List.getElem?_append]
    split
    · exact hb j
    · generalize j - bs.length = i
      match i with
      | 0 => decide
      | 1 => decide
      | 2 => decide
      | 3 => decide
      | i + 4 => simp
  rcases w2 with ⟨rfl, rfl, rfl, rfl⟩ | ⟨y, rfl, hl, hm, hz, hcell, hwz⟩
  · exact walkNat v x 0 none [] hv hx 0 0 (by omega) (by omega) (by omega) (by omega) (by decide) w (.inl ⟨rfl, rfl, rfl, rfl⟩) rfl (hmore [] (by simp))
      (fun W _ => Try.clone_any none 0 0 [] rfl (by simp) W (.inl ⟨rfl, rfl⟩))
  · have hlen : (natOf (z2.take (min len2 10))).length = min len2 10 := by simp [natOf]; omega
    have hby := fun n : Nat => (natOf_get (zs := z2.take (min len2 10)) (fun n hn => hwz n (List.mem_of_mem_take hn)) n).2
    refine walkNat v x cap2 (some y) (natOf (z2.take (min len2 10))) hv hx len2 (min len2 10) hl (by unfold maxLen at hm; omega) (by omega) (by omega) (by omega) w (.inr ⟨y, rfl⟩) hlen (hmore _ hby) ?_
    intro W hW
    by_cases h0 : len2 = 0
    · subst h0
      have e : natOf (z2.take (min 0 10)) = [] := by simp [natOf]
      rw [e]
      exact Try.cloneEmpty_any y cap2 W
    · obtain ⟨b, off, rfl, hb, hc⟩ := isRow_at hcell (by omega)
      refine Try.clone_any (some ⟨b, off, none⟩) (min len2 10) cap2 _ hlen.symm (by rw [hlen]; omega) W (.inr ⟨b, off, cap2, by rw [hlen], Nat.lt_of_lt_of_le hb hW.size, fun j hj => ?_⟩)
      rw [hlen] at hj
      rw [(natOf_get (zs := z2.take (min len2 10)) (fun n hn => hwz n (List.mem_of_mem_take hn)) j).1, List.getElem?_take, if_pos hj]
      exact (hW.cell (p := ⟨b, off + j, none⟩) hb).trans (hc j (by omega))

theorem laidOut : laidOutB Try.prog = true := by kernel_rfl
set_option maxRecDepth 100000 in
theorem lifted (os : Os) (started : os.Started) (H : Type) (enc : TypeId × Value → H) :
    ReturnsInHanded {} Try.checked os 4 .any (Rows.lanesMasksSpec.pre6 enc Try.prog Try.f4 Rows.lanesMasksRow.domain false) (Rows.lanesMasksSpec.post enc Try.prog Try.f4 false true false false) := by
  refine returnsInHanded_of_change (C := Try.checked) own started (by kernel_rfl) Try.func4
    (ChangeSpec.witness6 (enc := enc) (C := Try.checked) false ⟨#[], #[.int .u64 0, .int .u64 0, .slice none 0 0], []⟩ 8 (by kernel_rfl) (by kernel_rfl) (by kernel_rfl) (by kernel_rfl)) ?_
  intro W base args ds gs before hval0 hW hcnd _
  have hval : ∀ (j : Nat) t v, Try.f4.params[j]? = some t → args[j]? = some v → Value.okWide Try.prog W .any base t v := hval0
  have hW' := hW
  obtain ⟨p, q, hA0, hV, rfl, hfz, hnd⟩ := hW
  have hA : DataW.TrodAll enc Try.prog W 0 (fun _ => true) true Try.f4.params.toList args.toList ds p := hA0
  rw [Try.params4] at hA hval
  obtain ⟨v0, vs0, d0, ds0, p0, q0, hargs, rfl, rfl, h0, r0⟩ := trodAll_cons hA
  obtain ⟨v1, vs1, d1, ds1, p1, q1, rfl, rfl, rfl, h1, r1⟩ := trodAll_cons r0
  obtain ⟨v2, vs2, d2, ds2, p2, q2, rfl, rfl, rfl, h2, r2⟩ := trodAll_cons r1
  obtain ⟨rfl, rfl, rfl⟩ := trodAll_nil r2
  obtain rfl : args = #[v0, v1, v2] := by cases args; simp_all
  obtain ⟨rfl, rfl⟩ := trodVars_none hV
  obtain ⟨a0, rfl, rfl, rfl, w0⟩ := open_int Try.underlying23 (hval 0 23 v0 rfl rfl) h0
  obtain ⟨a1, rfl, rfl, rfl, w1⟩ := open_int Try.underlying23 (hval 1 23 v1 rfl rfl) h1
  obtain ⟨a2, len2, cap2, rfl⟩ := okWide_slice Try.underlying22 (hval 2 22 v2 rfl rfl)
  have k2 := h2
  have lt2 : ∀ x ∈ p2, x.block < W.heap.size := by obtain ⟨m, hm⟩ := k2; exact DataW.trod_lt m _ _ _ hm
  obtain ⟨z2, w2⟩ : ∃ zs, IsRow .u8 W a2 len2 cap2 zs := by
    obtain ⟨fuel, hf⟩ := h2
    rcases open_ints Try.underlying22 Try.underlying5 (by kernel_rfl) hf with ⟨hcs, _⟩ | ⟨x, l, c, zs, hcs, _, hl, hm, hz, _, hcell, hwz⟩
    · simp [Value.cells] at hcs
      obtain ⟨rfl, rfl, rfl⟩ := hcs
      exact ⟨[], .inl ⟨rfl, rfl, rfl, rfl⟩⟩
    · simp [Value.cells] at hcs
      obtain ⟨rfl, rfl, rfl⟩ := hcs
      exact ⟨zs, .inr ⟨_, rfl, hl, hm, by simpa using hz, hcell, hwz⟩⟩
  clear hA0 hval0
  refine (walk a0 a1 a2 len2 cap2 z2 W w0 w1 w2).mono fun e W' ⟨he, bel⟩ => ?_
  subst he
  exact ⟨_, rfl, _, _, _, [], _, [], hW', trodAll_mk1 (shut_bool Try.underlying4 _), (trodAll_cons_mk (shut_int Try.underlying23 w0) (trodAll_cons_mk (shut_int Try.underlying23 w1) (trodAll_cons_mk (Below.trod laidOut (by kernel_rfl) (of_decide_eq_true (by kernel_rfl)) k2 bel lt2) trodAll_mk0))), rfl, bel.frame _, fun h => by cases h⟩

theorem over : Rows.lanesMasksRow.holds Try.pinned (OpenSpec.ofChange Rows.lanesMasksSpec) :=
  OpenClaim.holds_of_wide 4 Try.f4 rfl rfl rfl rfl rfl rfl rfl ⟨rfl, rfl, rfl, rfl, rfl⟩ rfl rfl rfl rfl rfl (by kernel_rfl) Try.func4 (by kernel_rfl)
    (of_decide_eq_true (by kernel_rfl)) (by unfold Func.isWrapper; first | (rw [if_pos (by decide +kernel)]; kernel_rfl) | (rw [if_neg (by decide +kernel)]; exact ⟨rfl, rfl⟩))
    (fun os started H enc _ => lifted os started H enc)

theorem proved : Rows.LanesMasksSaid := over
end Go.Proofs.Ytapmmefkblednaa.lanesMasks
