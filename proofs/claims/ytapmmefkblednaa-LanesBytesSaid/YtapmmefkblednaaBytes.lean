/- Proved: for every row of bytes, word, and row of numbers, honeycomblaw01.LanesBytes returns true, and its arguments read as they did; no condition. -/
import Derived.Test.YtapmmefkblednaaP
import Derived.Deep.RegionHeld3
import Derived.ShutString
import Derived.ChangeOld
import Derived.Below
namespace Go.Proofs.Ytapmmefkblednaa.lanesBytes
open Go.ChangeShapes Go.WideShapes Go.ChangeAt Go.RowKit Go.Shelf
attribute [local go_sem] Oper.semAt_some

theorem own : ownKnob Try.prog.godebug = none := by kernel_rfl

/-- All that lay in W0 lies as it lay. -/
def Since (W0 W : World) : Prop := Below W0.heap.size W0 W
theorem Since.drew {W0 W : World} (h : Since W0 W) : Since W0 W.drew := Below.drew h
theorem Since.next {W0 W W' : World} (h : Since W0 W) (k : Below W.heap.size W W') : Since W0 W' := Below.trans h (k.mono (Below.size h))
theorem Since.refl (W0 : World) : Since W0 W0 := Below.refl _ _
theorem Since.base {W W0 W1 : World} (h : Below W.heap.size W W0) (k : Since W0 W1) : Below W.heap.size W W1 := h.trans (Below.mono k h.size)
/-- What the reference's Bytes hands back, and what lies as it lay. -/
def RefQ (x : Nat) (W0 : World) (e : Ending) (w' : World) : Prop := ∃ a cap, e = .returned (.slice a 8 cap) ∧ BytesAt w' (.slice a 8 cap) (bytesTo x 8) ∧ Since W0 w'
theorem refB (x : Nat) (hx : x < 18446744073709551616) (W0 W : World) (h : Since W0 W) : Calls Try.prog 15 #[.int .u64 x] W (RefQ x W0) :=
  (Try.refBytes_any x hx W).mono fun e w' ⟨v, he, ho, hb⟩ => by
    obtain ⟨⟨a, cap, hv⟩, hA⟩ := owns_bytesAt ho
    rw [bytesTo_length] at hv
    subst hv
    exact ⟨a, cap, he, hA, h.next hb⟩
/-- The eight bytes of an array's slice. -/
theorem arrBytes (x : Nat) (W : World) (B : Nat) (tt : TypeId) (h : Rows8 W B tt (arr8 fun n => .int .u8 (byt x n : Nat))) : BytesAt W (.slice (some ⟨B, 0, none⟩) 8 8) (bytesTo x 8) :=
  .inr ⟨B, 0, 8, rfl, h.lt, fun j hj => by
    rw [bytesTo_length] at hj
    rw [bytesTo_get x hj, Nat.zero_add, h.cell j]
    exact arr8_get _ ⟨j, hj⟩⟩
/-- The word when the first k lanes of a row have been put. -/
def pf (x y : Nat) (z : Nat → Int) : Nat → Nat
  | 0 => x
  | k + 1 => setB (pf x y z k) (z k).toNat y

theorem bad_nat {i : Int} (h : ¬ bad i) : ∃ n : Nat, n < 8 ∧ i = (n : Int) := by
  unfold bad at h
  exact ⟨i.toNat, by omega, by omega⟩
theorem pf_lt {x y : Nat} {z : Nat → Int} (hx : x < 18446744073709551616) (hy : y < 256) : ∀ k, (∀ j, j < k → ¬ bad (z j)) → pf x y z k < 18446744073709551616
  | 0, _ => hx
  | k + 1, h => by
    obtain ⟨n, hn, hz⟩ := bad_nat (h k (Nat.lt_succ_self k))
    rw [pf, hz, Int.toNat_natCast]
    exact setB_lt (pf_lt hx hy k fun j hj => h j (Nat.lt_succ_of_lt hj)) hn hy
def more (bs : List Nat) : List Nat := bs ++ [0, 255]
theorem more_length (bs : List Nat) : (more bs).length = bs.length + 2 := by simp [more]
theorem more_vals (bs : List Nat) : byteVals bs ++ [.int .u8 0, .int .u8 255] = byteVals (more bs) := by simp [more, byteVals]
theorem more_lt {bs : List Nat} (hb : ∀ n : Nat, bs[n]?.getD 0 < 256) : ∀ n : Nat, (more bs)[n]?.getD 0 < 256 := by
  intro n
  unfold more
  rw [List.getElem?_append]
  split
  · exact hb n
  · generalize n - bs.length = i
    match i with
    | 0 => decide
    | 1 => decide
    | i + 2 => simp
theorem two (W : World) (t : TypeId) : Rows8 (W.alloc (.cells #[.int .u8 0, .int .u8 255] t)) W.heap.size t #[.int .u8 0, .int .u8 255] := Rows8.new _ _ _
theorem fill8 (y : Nat) (hy : y < 256) : (ofB fun (n : Nat) => ([y, y, y, y, y, y, y, y] : List Nat)[n]?.getD 0) = ofB fun _ => y := by
  have hb : ∀ n : Nat, ([y, y, y, y, y, y, y, y] : List Nat)[n]?.getD 0 < 256 := fun n =>
    match n with
    | 0 | 1 | 2 | 3 | 4 | 5 | 6 | 7 => hy
    | n + 8 => by simp
  refine byt_ext (ofB_lt hb) (ofB_lt fun _ => hy) fun k hk => ?_
  rw [byt_ofB hb hk, byt_ofB (fun _ => hy) hk]
  match k, hk with
  | 0, _ | 1, _ | 2, _ | 3, _ | 4, _ | 5, _ | 6, _ | 7, _ => rfl

def eight (W : World) (y : Nat) : World := W.alloc (.cells #[.int .u8 y, .int .u8 y, .int .u8 y, .int .u8 y, .int .u8 y, .int .u8 y, .int .u8 y, .int .u8 y] 5)
theorem eight_at (W : World) (y : Nat) : BytesAt (eight W y) (.slice (some ⟨W.heap.size, 0, none⟩) 8 8) [y, y, y, y, y, y, y, y] :=
  have h := Rows8.new W 5 #[.int .u8 y, .int .u8 y, .int .u8 y, .int .u8 y, .int .u8 y, .int .u8 y, .int .u8 y, .int .u8 y]
  .inr ⟨W.heap.size, 0, 8, rfl, h.lt, fun j hj => by
    rw [Nat.zero_add]
    refine (h.cell j).trans ?_
    match j, hj with
    | 0, _ | 1, _ | 2, _ | 3, _ | 4, _ | 5, _ | 6, _ | 7, _ => rfl⟩
theorem eight_lt {y : Nat} (hy : y < 256) (n : Nat) : ([y, y, y, y, y, y, y, y] : List Nat)[n]?.getD 0 < 256 :=
  match n with
  | 0 | 1 | 2 | 3 | 4 | 5 | 6 | 7 => hy
  | n + 8 => by simp
theorem fillBoth (y : Nat) (hy : y < 256) : ∃ f8 : Nat, (∀ w, Calls Try.prog 21 #[.int .u8 y] w fun e w' => e = .returned (.int .u64 f8) ∧ Below w.heap.size w w') ∧
    ∀ W : World, Calls Try.prog 13 #[.slice (some ⟨W.heap.size, 0, none⟩) 8 8] (W.alloc (.cells #[.int .u8 y, .int .u8 y, .int .u8 y, .int .u8 y, .int .u8 y, .int .u8 y, .int .u8 y, .int .u8 y] 5)) fun e w' => e = .returned (.int .u64 f8) ∧ W.alloc (.cells #[.int .u8 y, .int .u8 y, .int .u8 y, .int .u8 y, .int .u8 y, .int .u8 y, .int .u8 y, .int .u8 y] 5) = w' :=
  ⟨_, Try.Fill_any y hy, fun W => by
    have h := Try.refOf_any (some ⟨W.heap.size, 0, none⟩) 8 8 [y, y, y, y, y, y, y, y] (eight_lt hy) rfl (by omega) (eight W y) (eight_at W y)
    rw [fill8 y hy] at h
    exact h⟩

set_option maxRecDepth 100000 in
set_option maxHeartbeats 8000000 in
theorem walkNat (x : Nat) (hx : x < 18446744073709551616) (a0 : Option Addr) (n0 c0 m0 : Nat) (bs : List Nat) (ha0 : (a0 = none ∧ n0 = 0 ∧ c0 = 0 ∧ m0 = 0) ∨ ∃ y, a0 = some y) (hmin0 : min (n0 : Int) 12 = (m0 : Int)) (hm0 : m0 ≤ 12) (hmn0 : m0 ≤ n0) (hnc0 : n0 ≤ c0) (hc0 : c0 ≤ 9223372036854775807)
    (hbs : bs.length = m0) (hby : ∀ n : Nat, bs[n]?.getD 0 < 256)
    (a2 : Option Addr) (n2 c2 m2 : Nat) (z : Nat → Int) (pw : Nat → Nat) (pe : Int) (ha2 : (a2 = none ∧ n2 = 0 ∧ c2 = 0 ∧ m2 = 0) ∨ ∃ y, a2 = some y) (hmin2 : min (n2 : Int) 6 = (m2 : Int)) (hmn2 : m2 ≤ n2) (hnc2 : n2 ≤ c2) (hc2 : c2 ≤ 9223372036854775807) (w : World)
    (hz : ∀ j, j < n2 → ∃ b off, a2 = some ⟨b, off, none⟩ ∧ b < w.heap.size ∧ w.cell? ⟨b, off + j, none⟩ = some (.int .i64 (z j)))
    (hcl : ∀ W, Below w.heap.size w W → Calls Try.prog 10 #[.slice a0 m0 c0] W (BytesQ bs W))
    (hself : ∀ W a1 c1, Below w.heap.size w W → BytesAt W (.slice a1 m0 c1) bs → Calls Try.prog 14 #[.slice a1 m0 c1, .slice a0 m0 c0] W fun e w' => e = .returned (.bool true) ∧ Below W.heap.size W w')
    (hput : ∀ W (y : Nat), Below w.heap.size w W → y < 256 → Calls Try.prog 19 #[.int .u64 x, .int .u8 y, .slice a2 m2 c2] W fun e w' => e = .returned (.tuple #[.int .u64 (pw y : Nat), .int .i64 pe]) ∧ Below W.heap.size W w')
    (hcase : ((∀ j, j < m2 → ¬ bad (z j)) ∧ pe = 0 ∧ ∀ y, pw y = pf x y z m2) ∨ ((∃ j, j < m2 ∧ bad (z j)) ∧ pe = 110 ∧ ∀ y, pw y = 0)) :
    Calls Try.prog 3 #[.slice a0 n0 c0, .int .u64 x, .slice a2 n2 c2] w fun e w' => e = .returned (.bool true) ∧ Below w.heap.size w w' := by
  obtain ⟨i0, hi, hz0, hz1, hz2⟩ := info_parts Try.infoByte
  have hs0 := fun W => Try.slice_bytes a0 n0 c0 m0 ha0 hmn0 hnc0 hc0 W
  have hs2 := fun W => Try.slice_ints a2 n2 c2 m2 ha2 hmn2 hnc2 hc2 W
  have HX := Lib.hid hx
  have HBS := Lib.hid hbs
  have HBY := Lib.hid hby
  have HZ := Lib.hid hz
  have HCL := Lib.hid hcl
  have HSELF := Lib.hid hself
  have HPUT := Lib.hid hput
  have HCASE := Lib.hid hcase
  clear hx hbs hby hz hcl hself hput hcase ha2 ha0
  go_enter Try.func3, Try.ntmps3
  go_wp2_with fail
  refine (Try.wakes_any _).mono ?_
  rintro e wa ⟨rfl, hBa⟩
  go_wp2_with fail
  refine (HCL.out wa hBa).mono ?_
  rintro e wb ⟨v1, rfl, hO1, hBb⟩
  obtain ⟨⟨a1, c1, hv1⟩, hA1⟩ := owns_bytesAt hO1
  rw [HBS.out] at hv1
  subst hv1
  have HO1 := Lib.hid hO1
  have HA1 := Lib.hid hA1
  clear hO1 hA1
  have hB := hBa.trans (hBb.mono hBa.size)
  go_wp2_with fail
  refine (Try.Bytes_any x _).mono ?_
  rintro e wc ⟨rfl, hBc⟩
  simp only [arr8]
  go_wp2_with fail
  have q7 : Rows8 (wc.alloc (.cells #[.int .u8 (byt x 0 : Nat), .int .u8 (byt x 1 : Nat), .int .u8 (byt x 2 : Nat), .int .u8 (byt x 3 : Nat), .int .u8 (byt x 4 : Nat), .int .u8 (byt x 5 : Nat), .int .u8 (byt x 6 : Nat), .int .u8 (byt x 7 : Nat)] 27)) wc.heap.size 27 (arr8 fun n => .int .u8 (byt x n : Nat)) := Rows8.new wc 27 #[.int .u8 (byt x 0 : Nat), .int .u8 (byt x 1 : Nat), .int .u8 (byt x 2 : Nat), .int .u8 (byt x 3 : Nat), .int .u8 (byt x 4 : Nat), .int .u8 (byt x 5 : Nat), .int .u8 (byt x 6 : Nat), .int .u8 (byt x 7 : Nat)]
  have hBd : Below wb.heap.size wb (wc.alloc (.cells #[.int .u8 (byt x 0 : Nat), .int .u8 (byt x 1 : Nat), .int .u8 (byt x 2 : Nat), .int .u8 (byt x 3 : Nat), .int .u8 (byt x 4 : Nat), .int .u8 (byt x 5 : Nat), .int .u8 (byt x 6 : Nat), .int .u8 (byt x 7 : Nat)] 27)) := hBc.alloc hBc.size _
  generalize (wc.alloc (.cells #[.int .u8 (byt x 0 : Nat), .int .u8 (byt x 1 : Nat), .int .u8 (byt x 2 : Nat), .int .u8 (byt x 3 : Nat), .int .u8 (byt x 4 : Nat), .int .u8 (byt x 5 : Nat), .int .u8 (byt x 6 : Nat), .int .u8 (byt x 7 : Nat)] 27)) = W0 at *
  have hB0 : Below w.heap.size w W0 := hB.trans (hBd.mono hB.size)
  have hA0 : BytesAt W0 (.slice a1 m0 c1) bs := HA1.out.below hBd (Nat.le_refl _)
  have hO0 : OwnsBytes wa.heap.size bs (.slice a1 m0 c1) W0 := by
    refine World.ownsRow.kept HO1.out (row := none) ⟨hBd.os, hBd.tape, hBd.output, hBd.size, fun k hk _ => hBd.block k hk⟩ ?_
    cases h : (Value.slice a1 m0 c1).ownBlock <;> simp
  have hk0 : wa.heap.size ≤ W0.heap.size := Nat.le_trans hBb.size hBd.size
  have hB8 := arrBytes x W0 wc.heap.size _ q7
  obtain ⟨q, hq⟩ : ∃ q, (ofB fun (n : Nat) => bs[n]?.getD 0) = q := ⟨_, rfl⟩
  have HOF : ∀ W, Since W0 W → Calls Try.prog 12 #[.slice a1 m0 c1] W fun e w' => e = .returned (.int .u64 q) ∧ Since W0 w' := fun W hS => by
    rw [← hq]
    exact (Try.Of_any a1 m0 c1 bs HBY.out HBS.out.symm W (hA0.below hS (Nat.le_refl _))).mono fun e w' ⟨h1, h2⟩ => ⟨h1, hS.next h2⟩
  have HRF : ∀ W, Since W0 W → Calls Try.prog 13 #[.slice a1 m0 c1] W fun e w' => e = .returned (.int .u64 q) ∧ Since W0 w' := fun W hS => by
    rw [← hq]
    exact (Try.refOf_any a1 m0 c1 bs HBY.out HBS.out.symm (by omega) W (hA0.below hS (Nat.le_refl _))).mono fun e w' ⟨h1, h2⟩ => ⟨h1, by rw [← h2]; exact hS⟩
  have HBR := refB x HX.out W0
  have HE1 : ∀ W a cap, Since W0 W → BytesAt W (.slice a 8 cap) (bytesTo x 8) → Calls Try.prog 14 #[.slice (some ⟨wc.heap.size, 0, none⟩) 8 8, .slice a 8 cap] W fun e w' => e = .returned (.bool true) ∧ Since W0 w' := fun W a cap hS hA =>
    (Try.equalBytes_any (some ⟨wc.heap.size, 0, none⟩) a 8 8 cap (bytesTo x 8) (by rw [bytesTo_length]) (by omega) W (hB8.below hS (Nat.le_refl _)) hA).mono fun e w' ⟨h1, h2⟩ => ⟨h1, hS.next h2⟩
  have HE2 : ∀ W, Since W0 W → Calls Try.prog 14 #[.slice a1 m0 c1, .slice a0 m0 c0] W fun e w' => e = .returned (.bool true) ∧ Since W0 w' := fun W hS =>
    (HSELF.out W a1 c1 (Since.base hB0 hS) (hA0.below hS (Nat.le_refl _))).mono fun e w' ⟨h1, h2⟩ => ⟨h1, hS.next h2⟩
  have hS0 := Since.refl W0
  have KOF := Lib.hid HOF
  have KRF := Lib.hid HRF
  have KBR := Lib.hid HBR
  have KE1 := Lib.hid HE1
  have KE2 := Lib.hid HE2
  have KB0 := Lib.hid hB0
  have KBA := Lib.hid hBa
  have KK0 := Lib.hid hk0
  have hOW : ∀ W, Since W0 W → OwnsBytes wa.heap.size bs (.slice a1 m0 c1) W := fun W hS => by
    refine World.ownsRow.kept hO0 (row := none) ⟨hS.os, hS.tape, hS.output, hS.size, fun k hk _ => hS.block k hk⟩ ?_
    cases h : (Value.slice a1 m0 c1).ownBlock <;> simp
  have KOW := Lib.hid hOW
  clear hOW
  have KA0 := Lib.hid (hBb.trans (hBd.mono hBb.size))
  clear HOF HRF HBR HE1 HE2 hO0 hB0 hA0 hB8 hq q7 hBd hBc hB hBb hBa HO1 HA1 HSELF HCL hk0
  go_region_held3 (fun W' => Since W0 W') (first | assumption | exact Since.drew (by assumption)) (first | (go_at_call 12; refine (KOF.out _ (by assumption)).mono ?_; rintro e w' ⟨rfl, hS⟩) | (go_at_call 13; refine (KRF.out _ (by assumption)).mono ?_; rintro e w' ⟨rfl, hS⟩) | (go_at_call 15; refine (KBR.out _ (by assumption)).mono ?_; rintro e w' ⟨a5, cap5, rfl, hA5, hS⟩) | (go_at_call 14; (with_reducible refine (KE2.out _ (by assumption)).mono ?_); rintro e w' ⟨rfl, hS⟩) | (go_at_call 14; (with_reducible refine (KE1.out _ _ _ (by assumption) (by assumption)).mono ?_); rintro e w' ⟨rfl, hS⟩))
  clear KOF KRF KBR KE1 KE2
  go_wp2_with fail
  go_loopw [9, 10, 11, 12, 13, 14, 56] (fun _ _ _ _ _ _ j wr => ∃ k : Nat, k ≤ n2 ∧ j = .int .i64 k ∧ Since W0 wr) (fun _ _ _ _ _ _ j _ => n2 - (intOf j).toNat)
  case atStart => exact ⟨0, Nat.zero_le _, rfl, by assumption⟩
  case round =>
    obtain ⟨k, hk, rfl, hS⟩ := hrel
    by_cases hin : k < n2 ∧ k ≠ 10
    · obtain ⟨hlt, h10⟩ := hin
      obtain ⟨b, off, rfl, hb, hc0⟩ := HZ.out k hlt
      have hcx := ((Since.base KB0.out hS).cell (p := ⟨b, off + k, none⟩) hb).trans hc0
      have hk10 : ((k : Int) == 10) = false := by simp; omega
      have hki : (k : Int) < (n2 : Int) := by omega
      clear hc0
      have hIs := Try.Is_any (z k)
      have HIS := Lib.hid hIs
      clear hIs
      by_cases hbad : bad (z k)
      · have hg := Try.Get_no x (z k) hbad
        have HG := Lib.hid hg
        have ht : decide (¬ bad (z k)) = false := decide_eq_false (fun h => h hbad)
        rw [ht] at HIS
        clear hg ht hbad
        generalize z k = i at *
        go_wp2_with fail
        refine (HG.out _).mono ?_
        rintro e w3 ⟨rfl, rfl⟩
        go_wp2_with fail
        refine (HIS.out _).mono ?_
        rintro e w4 ⟨rfl, rfl⟩
        go_wp2_with fail
        exact ⟨⟨k + 1, by omega, by go_num, hS⟩, by simp [intOf]; omega⟩
      · obtain ⟨n, hn8, hzn⟩ := bad_nat hbad
        have ht : decide (¬ bad (z k)) = true := decide_eq_true hbad
        rw [ht] at HIS
        clear ht hbad
        rw [hzn] at HIS hcx
        clear hzn
        have hg := Try.Get_yes x n hn8
        have HG := Lib.hid hg
        clear hg
        go_wp2_with fail
        refine (HG.out _).mono ?_
        rintro e w3 ⟨rfl, rfl⟩
        go_wp2_with fail
        refine (HIS.out _).mono ?_
        rintro e w4 ⟨rfl, rfl⟩
        go_wp2_with fail
        refine (Try.At_any x n HX.out (by omega) _).mono ?_
        rintro e w5 ⟨rfl, rfl⟩
        generalize byt x n = yb at *
        have hne := ne_self yb
        go_wp2_with fail
        exact ⟨⟨k + 1, by omega, by go_num, hS⟩, by simp [intOf]; omega⟩
    · have hrest : (k = n2 ∧ (⟨⟩ : Unit) = ⟨⟩) ∨ (∃ b off, k = 10 ∧ k < n2 ∧ a2 = some ⟨b, off, none⟩ ∧ wr.cell? ⟨b, off + 10, none⟩ = some (.int .i64 (z 10))) := by
        by_cases hkn : k = n2
        · exact .inl ⟨hkn, rfl⟩
        · obtain ⟨b, off, e, hb, hc0⟩ := HZ.out k (by omega)
          obtain rfl : k = 10 := by omega
          exact .inr ⟨b, off, rfl, by omega, e, ((Since.base KB0.out hS).cell (p := ⟨b, off + 10, none⟩) hb).trans hc0⟩
      clear hin
      rcases hrest with ⟨rfl, -⟩ | ⟨b0, off0, rfl, hlt, rfl, hcx⟩
      all_goals
        go_wp2_with (at_builtin; refine wpList_append_own _ rfl _ _ 22 rfl wa.heap.size 5 i0 (.int .u8 0) 1 1 Try.underlying22 hi hz0 hz1 hz2 rfl (by decide) _ _ _ rfl (World.ownsRow.alloc (KOW.out _ hS) _) ⟨wr.heap.size, 0, none⟩ 2 2 [.int .u8 0, .int .u8 255] rfl rfl ?c2 ?c3 ?c4 ?c5 ?c6 ?_)
        case c2 =>
          intro j u hu
          have hadd : (⟨wr.heap.size, 0, none⟩ : Addr).add j = ⟨wr.heap.size, j, none⟩ := by unfold Addr.add; split <;> simp_all
          rw [hadd, Rows8.cell (two wr 5) j]
          simpa using hu
        case c3 =>
          intro u hu
          simp only [List.mem_cons, List.not_mem_nil, or_false] at hu
          rcases hu with rfl | rfl <;> rfl
        case c4 => rw [HBS.out]; unfold maxLen; omega
        case c5 => rw [HBS.out]; omega
        case c6 => exact Nat.le_trans KK0.out (Nat.le_trans hS.size (by simp))
        intro v2 w2 hown' hgrow _
        have hB2 := below_append ((KA0.out.trans (hS.mono KA0.out.size)).alloc (Nat.le_trans KA0.out.size hS.size) _) (World.ownsRow.alloc (KOW.out _ hS) _) hgrow (Nat.le_trans KK0.out (Nat.le_trans hS.size (by simp)))
        have hO2 : OwnsBytes wa.heap.size (more bs) v2 w2 := by
          unfold OwnsBytes
          rw [← more_vals, more_length]
          exact hown'
        obtain ⟨g, cap2, rfl, hg, hgl, hcell⟩ := owns_at hO2 (by rw [more_length]; omega)
        have hl2 : (more bs).length ≤ 14 := by rw [more_length, HBS.out]; omega
        have hby : ∀ n : Nat, (more bs)[n]?.getD 0 < 256 := more_lt HBY.out
        generalize hL : (more bs).length = L at *
        have HC := Lib.hid hcell
        have HL := Lib.hid hL
        have HY := Lib.hid hby
        have hB : Below w.heap.size w w2 := KBA.out.trans (hB2.mono KBA.out.size)
        clear hO2 hown' hgrow hcell hL hby hB2 hS
        go_wp2_with fail
        go_loopw [16, 17, 18, 19, 20, 22, 92] (fun _ _ _ _ _ _ j wr => ∃ k : Nat, k ≤ L ∧ j = .int .i64 k ∧ Below w2.heap.size w2 wr) (fun _ _ _ _ _ _ j _ => L - (intOf j).toNat)
        case atStart => exact ⟨0, Nat.zero_le _, rfl, Below.refl _ _⟩
        case round =>
          obtain ⟨k, hk, rfl, hBr⟩ := hrel
          by_cases hlt : k < L
          · have hcx := (hBr.cell (p := ⟨g, k, none⟩) hgl).trans (HC.out k hlt)
            have hy := HY.out k
            generalize (more bs)[k]?.getD 0 = y at *
            have HYY := Lib.hid hy
            clear hy
            have hki : (k : Int) < (L : Int) := by omega
            go_wp2_with fail
            refine (HPUT.out _ y (hB.trans (hBr.mono hB.size)) HYY.out).mono ?_
            rintro e w3 ⟨rfl, hB3⟩
            have hB4 := hBr.trans (hB3.mono hBr.size)
            clear hB3
            go_wp2_with fail
            go_loopw [19, 20, 22, 106] (fun v e _ j wr => ∃ i : Nat, i ≤ m2 ∧ j = .int .i64 i ∧ (∀ j, j < i → ¬ bad (z j)) ∧ v = .int .u64 (pf x y z i : Nat) ∧ e = .int .i64 0 ∧ Below w2.heap.size w2 wr) (fun _ _ _ j _ => m2 - (intOf j).toNat)
            case atStart => exact ⟨0, Nat.zero_le _, rfl, fun j hj => absurd hj (Nat.not_lt_zero _), rfl, rfl, hB4⟩
            case round =>
              obtain ⟨i, hi2, rfl, hok, rfl, rfl, hBr2⟩ := hrel
              by_cases hin : i < m2 ∧ ¬ bad (z i)
              · obtain ⟨hlt2, hnb⟩ := hin
                obtain ⟨b, off, e2, hb, hcz⟩ := HZ.out i (by omega)
                cases e2
                have hx1 := ((hB.trans (hBr2.mono hB.size)).cell (p := ⟨_, _ + i, none⟩) hb).trans hcz
                have hpl := pf_lt HX.out HYY.out i hok
                have hok' : ∀ j, j < i + 1 → ¬ bad (z j) := fun j hj => by
                  by_cases hji : j = i
                  · rw [hji]; exact hnb
                  · exact hok j (by omega)
                obtain ⟨n, hn8, hzn⟩ := bad_nat hnb
                have hIs := Try.Is_any (z i)
                have hP := Try.refPut_any (pf x y z i) y n hpl HYY.out hn8
                have hst : pf x y z (i + 1) = setB (pf x y z i) n y := by rw [pf, hzn, Int.toNat_natCast]
                rw [decide_eq_true hnb, hzn] at hIs
                rw [hzn] at hx1
                rw [← hst] at hP
                have HIS := Lib.hid hIs
                have HP := Lib.hid hP
                have HOK := Lib.hid hok'
                clear hIs hP hcz hpl hok hok' hzn hst hnb
                generalize pf x y z i = p0 at *
                have hii : (i : Int) < (m2 : Int) := by omega
                go_wp2_with fail
                refine (HIS.out _).mono ?_
                rintro e w4 ⟨rfl, rfl⟩
                go_wp2_with fail
                refine (HP.out _).mono ?_
                rintro e w5 ⟨rfl, hB5⟩
                go_wp2_with fail
                exact ⟨⟨i + 1, by omega, by go_num, HOK.out, rfl, rfl, hBr2.trans (hB5.mono hBr2.size)⟩, by simp [intOf]; omega⟩
              · obtain ⟨f8, hF8, hR8⟩ := fillBoth y HYY.out
                have HF8 := Lib.hid hF8
                have HR8 := Lib.hid hR8
                have hne8 := ne_self f8
                clear hF8 hR8
                rcases HCASE.out with ⟨hall, rfl, hpw⟩ | ⟨⟨j, hj, hbj⟩, rfl, hpw⟩
                · obtain rfl : i = m2 := by
                    by_cases h : i < m2
                    · exact absurd ⟨h, hall i h⟩ hin
                    · omega
                  have e := hpw y
                  generalize pf x y z i = p0 at *
                  subst e
                  have hne := ne_self (pw y)
                  clear hall hpw hin hok
                  go_wp2_with fail
                  refine (HF8.out _).mono ?_
                  rintro e w6 ⟨rfl, hB6⟩
                  go_wp2_with fail
                  refine (HR8.out _).mono ?_
                  rintro e w7 ⟨rfl, rfl⟩
                  go_wp2_with fail
                  have hB7 := hBr2.trans (hB6.mono hBr2.size)
                  exact ⟨⟨k + 1, by omega, by go_num, hB7.alloc hB7.size _⟩, by simp [intOf]; omega⟩
                · have hi2 : i < m2 := by
                    by_cases h : i < m2
                    · exact h
                    · exact absurd hbj (hok j (by omega))
                  have hbi : bad (z i) := by
                    by_cases h : bad (z i)
                    · exact h
                    · exact absurd ⟨hi2, h⟩ hin
                  obtain ⟨b, off, e2, hb, hcz⟩ := HZ.out i (by omega)
                  cases e2
                  have hx1 := ((hB.trans (hBr2.mono hB.size)).cell (p := ⟨_, _ + i, none⟩) hb).trans hcz
                  have hIs := Try.Is_any (z i)
                  rw [decide_eq_false (fun h => h hbi)] at hIs
                  have HIS := Lib.hid hIs
                  have e := hpw y
                  generalize pw y = p0 at *
                  subst e
                  have hii : (i : Int) < (m2 : Int) := by omega
                  clear hIs hpw hin hok hbi hbj hcz
                  go_wp2_with fail
                  refine (HIS.out _).mono ?_
                  rintro e w4 ⟨rfl, rfl⟩
                  go_wp2_with fail
                  refine (HF8.out _).mono ?_
                  rintro e w6 ⟨rfl, hB6⟩
                  go_wp2_with fail
                  refine (HR8.out _).mono ?_
                  rintro e w7 ⟨rfl, rfl⟩
                  go_wp2_with fail
                  have hB7 := hBr2.trans (hB6.mono hBr2.size)
                  exact ⟨⟨k + 1, by omega, by go_num, hB7.alloc hB7.size _⟩, by simp [intOf]; omega⟩
          · obtain rfl : k = L := by omega
            go_wp2_with fail
            go_ret
            exact ⟨by simp, hB.trans (hBr.mono hB.size)⟩

theorem row0 (a0 : Option Addr) (len0 cap0 : Nat) (z0 : List Int) (w : World) (h : IsRow .u8 w a0 len0 cap0 z0) :
    ∃ bs : List Nat, bs.length = min len0 12 ∧ (∀ n : Nat, bs[n]?.getD 0 < 256) ∧ ((a0 = none ∧ len0 = 0 ∧ cap0 = 0 ∧ min len0 12 = 0) ∨ ∃ y, a0 = some y) ∧ len0 ≤ cap0 ∧ cap0 ≤ 9223372036854775807 ∧
      (∀ W, Below w.heap.size w W → Calls Try.prog 10 #[.slice a0 (min len0 12 : Nat) cap0] W (BytesQ bs W)) ∧
      (∀ W a1 c1, Below w.heap.size w W → BytesAt W (.slice a1 (min len0 12 : Nat) c1) bs → Calls Try.prog 14 #[.slice a1 (min len0 12 : Nat) c1, .slice a0 (min len0 12 : Nat) cap0] W fun e w' => e = .returned (.bool true) ∧ Below W.heap.size W w') := by
  rcases h with ⟨rfl, rfl, rfl, rfl⟩ | ⟨y, rfl, hl, hm, hz, hcell, hwz⟩
  · exact ⟨[], rfl, by simp, .inl ⟨rfl, rfl, rfl, rfl⟩, by omega, by omega, fun W _ => Try.clone_any none 0 0 [] rfl (by simp) W (.inl ⟨rfl, rfl⟩), fun W a1 c1 _ _ => Try.equalEmpty_any a1 none c1 0 W⟩
  · have hlen : (natOf (z0.take (min len0 12))).length = min len0 12 := by simp [natOf]; omega
    have hby := fun n : Nat => (natOf_get (zs := z0.take (min len0 12)) (fun n hn => hwz n (List.mem_of_mem_take hn)) n).2
    refine ⟨natOf (z0.take (min len0 12)), hlen, hby, .inr ⟨y, rfl⟩, hl, by unfold maxLen at hm; omega, ?_⟩
    by_cases h0 : len0 = 0
    · subst h0
      have e : natOf (z0.take (min 0 12)) = [] := by simp [natOf]
      rw [e]
      exact ⟨fun W _ => Try.cloneEmpty_any y cap0 W, fun W a1 c1 _ _ => Try.equalEmpty_any a1 (some y) c1 cap0 W⟩
    · obtain ⟨b, off, rfl, hb, hc⟩ := isRow_at hcell (by omega)
      have hat : ∀ W, Below w.heap.size w W → BytesAt W (.slice (some ⟨b, off, none⟩) (min len0 12 : Nat) cap0) (natOf (z0.take (min len0 12))) := fun W hW =>
        .inr ⟨b, off, cap0, by rw [hlen], Nat.lt_of_lt_of_le hb hW.size, fun j hj => by
          rw [hlen] at hj
          rw [(natOf_get (zs := z0.take (min len0 12)) (fun n hn => hwz n (List.mem_of_mem_take hn)) j).1, List.getElem?_take, if_pos hj]
          exact (hW.cell (p := ⟨b, off + j, none⟩) hb).trans (hc j (by omega))⟩
      exact ⟨fun W hW => Try.clone_any (some ⟨b, off, none⟩) (min len0 12) cap0 _ hlen.symm (by rw [hlen]; omega) W (hat W hW),
        fun W a1 c1 hW h1 => Try.equalBytes_any a1 (some ⟨b, off, none⟩) (min len0 12) c1 cap0 _ hlen.symm (by omega) W h1 (hat W hW)⟩

theorem lanes_of : ∀ (zs : List Int), (∀ i ∈ zs, ¬ bad i) → ∃ xs : List (Fin 8), zs = lanesInt xs
  | [], _ => ⟨[], rfl⟩
  | i :: zs, h => by
    obtain ⟨xs, rfl⟩ := lanes_of zs fun j hj => h j (List.mem_cons_of_mem _ hj)
    obtain ⟨n, hn, rfl⟩ := bad_nat (h i List.mem_cons_self)
    exact ⟨⟨n, hn⟩ :: xs, rfl⟩
theorem pf_setAll (x y : Nat) (z : Nat → Int) (xs : List (Fin 8)) (h : ∀ k, k < xs.length → z k = (lanesInt xs)[k]?.getD 0) : ∀ k, k ≤ xs.length → pf x y z k = setAll (fun _ => y) x (xs.take k)
  | 0, _ => by simp [pf, setAll]
  | k + 1, hk => by
    rw [pf, pf_setAll x y z xs h k (by omega), take_next xs k (by omega), setAll_snoc, h k (by omega), lanesInt_get xs k (by omega), Int.toNat_natCast]

theorem row2 (x : Nat) (hx : x < 18446744073709551616) (a2 : Option Addr) (len2 cap2 : Nat) (z2 : List Int) (w : World) (h : IsRow .i64 w a2 len2 cap2 z2) :
    ∃ (z : Nat → Int) (pw : Nat → Nat) (pe : Int), ((a2 = none ∧ len2 = 0 ∧ cap2 = 0 ∧ min len2 6 = 0) ∨ ∃ y, a2 = some y) ∧ len2 ≤ cap2 ∧ cap2 ≤ 9223372036854775807 ∧
      (∀ j, j < len2 → ∃ b off, a2 = some ⟨b, off, none⟩ ∧ b < w.heap.size ∧ w.cell? ⟨b, off + j, none⟩ = some (.int .i64 (z j))) ∧
      (∀ W (y : Nat), Below w.heap.size w W → y < 256 → Calls Try.prog 19 #[.int .u64 x, .int .u8 y, .slice a2 (min len2 6 : Nat) cap2] W fun e w' => e = .returned (.tuple #[.int .u64 (pw y : Nat), .int .i64 pe]) ∧ Below W.heap.size W w') ∧
      (((∀ j, j < min len2 6 → ¬ bad (z j)) ∧ pe = 0 ∧ ∀ y, pw y = pf x y z (min len2 6)) ∨ ((∃ j, j < min len2 6 ∧ bad (z j)) ∧ pe = 110 ∧ ∀ y, pw y = 0)) := by
  by_cases h0 : len2 = 0
  · subst h0
    refine ⟨fun _ => 0, fun _ => x, 0, ?_, ?_, ?_, fun j hj => absurd hj (Nat.not_lt_zero _), fun W y _ hy => Try.PutEmpty_any x y hx hy a2 cap2 W, .inl ⟨fun j hj => by simp at hj, rfl, fun y => by simp [pf]⟩⟩
    · rcases h with ⟨rfl, _, rfl, _⟩ | ⟨y, rfl, _⟩
      · exact .inl ⟨rfl, rfl, rfl, rfl⟩
      · exact .inr ⟨y, rfl⟩
    · omega
    · rcases h with ⟨_, _, rfl, _⟩ | ⟨y, _, _, hm, _⟩
      · omega
      · unfold maxLen at hm; omega
  · rcases h with ⟨_, h1, _, _⟩ | ⟨y, rfl, hl, hm, hz, hcell, hwz⟩
    · exact absurd h1 h0
    obtain ⟨b, off, rfl, hb, hc⟩ := isRow_at hcell (by omega)
    have htl : (z2.take (min len2 6)).length = min len2 6 := by simp; omega
    have htk : ∀ k, k < min len2 6 → z2[k]?.getD 0 = (z2.take (min len2 6))[k]?.getD 0 := fun k hk => by rw [List.getElem?_take, if_pos hk]
    have hat : ∀ W, Below w.heap.size w W → IntsAt W (.slice (some ⟨b, off, none⟩) (min len2 6 : Nat) cap2) (z2.take (min len2 6)) := fun W hW =>
      .inr ⟨b, off, cap2, by rw [htl], Nat.lt_of_lt_of_le hb hW.size, fun j hj => by
        rw [htl] at hj
        rw [← htk j hj]
        exact (hW.cell (p := ⟨b, off + j, none⟩) hb).trans (hc j (by omega))⟩
    have hz' : ∀ j, j < len2 → ∃ b' off', some (⟨b, off, none⟩ : Addr) = some ⟨b', off', none⟩ ∧ b' < w.heap.size ∧ w.cell? ⟨b', off' + j, none⟩ = some (.int .i64 (z2[j]?.getD 0)) := fun j hj => ⟨b, off, rfl, hb, hc j (by omega)⟩
    by_cases hbad : ∃ i, i ∈ z2.take (min len2 6) ∧ bad i
    · refine ⟨fun j => z2[j]?.getD 0, fun _ => 0, 110, .inr ⟨_, rfl⟩, hl, by unfold maxLen at hm; omega, hz', fun W y hW _ => Try.Put_no x y _ _ cap2 (z2.take (min len2 6)) (by rw [htl]; omega) W (hat W hW) hbad, .inr ⟨?_, rfl, fun _ => rfl⟩⟩
      obtain ⟨i, hi, hb'⟩ := hbad
      obtain ⟨j, hj, e⟩ := List.mem_iff_getElem.1 hi
      refine ⟨j, by omega, ?_⟩
      show bad (z2[j]?.getD 0)
      rw [htk j (by omega), List.getElem?_eq_getElem hj]
      rw [← e] at hb'
      exact hb'
    · obtain ⟨xs, hxs⟩ := lanes_of (z2.take (min len2 6)) fun i hi hb' => hbad ⟨i, hi, hb'⟩
      have hxl : xs.length = min len2 6 := by rw [← htl, hxs]; simp [lanesInt]
      refine ⟨fun j => z2[j]?.getD 0, fun y => setAll (fun _ => y) x xs, 0, .inr ⟨_, rfl⟩, hl, by unfold maxLen at hm; omega, hz', fun W y hW hy => Try.Put_yes x y hx hy _ _ cap2 xs (by rw [hxl]; omega) W (by rw [← hxs]; exact hat W hW), .inl ⟨fun j hj hb' => hbad ?_, rfl, fun y => ?_⟩⟩
      · replace hb' : bad (z2[j]?.getD 0) := hb'
        rw [htk j hj, List.getElem?_eq_getElem (by omega)] at hb'
        exact ⟨_, List.getElem_mem _, hb'⟩
      · rw [pf_setAll x y _ xs (fun k hk => by rw [← hxs]; exact htk k (by omega)) _ (by omega), ← hxl, List.take_length]

theorem walk (a0 : Option Addr) (len0 cap0 : Nat) (z0 : List Int) (a1 : Int) (a2 : Option Addr) (len2 cap2 : Nat) (z2 : List Int) (w : World) (w0 : IsRow .u8 w a0 len0 cap0 z0) (w1 : (Lit.int .u64 a1).wf = true) (w2 : IsRow .i64 w a2 len2 cap2 z2) :
    Calls Try.prog 3 #[.slice a0 len0 cap0, .int .u64 a1, .slice a2 len2 cap2] w fun e w' => e = .returned (.bool true) ∧ Below w.heap.size w w' := by
  have b1 := bounds_u64 w1
  obtain ⟨x, rfl⟩ := Int.eq_ofNat_of_zero_le b1.1
  have hx : x < 18446744073709551616 := by omega
  have m1 : min (len0 : Int) 12 = ((min len0 12 : Nat) : Int) := by omega
  have m2 : min len0 12 ≤ 12 := by omega
  have m3 : min len0 12 ≤ len0 := by omega
  have m4 : min (len2 : Int) 6 = ((min len2 6 : Nat) : Int) := by omega
  have m5 : min len2 6 ≤ len2 := by omega
  obtain ⟨bs, hbs, hby, ha0, hl0, hc0, hcl, hself⟩ := row0 a0 len0 cap0 z0 w w0
  obtain ⟨z, pw, pe, ha2, hl2, hc2, hz, hput, hcase⟩ := row2 x hx a2 len2 cap2 z2 w w2
  exact walkNat x hx a0 len0 cap0 (min len0 12) bs ha0 m1 m2 m3 hl0 hc0 hbs hby a2 len2 cap2 (min len2 6) z pw pe ha2 m4 m5 hl2 hc2 w hz hcl hself hput hcase

theorem laidOut : laidOutB Try.prog = true := by kernel_rfl
set_option maxRecDepth 100000 in
theorem lifted (os : Os) (started : os.Started) (H : Type) (enc : TypeId × Value → H) :
    ReturnsInHanded {} Try.checked os 3 .any (Rows.lanesBytesSpec.pre6 enc Try.prog Try.f3 Rows.lanesBytesRow.domain false) (Rows.lanesBytesSpec.post enc Try.prog Try.f3 false true false false) := by
  refine returnsInHanded_of_change (C := Try.checked) own started (by kernel_rfl) Try.func3
    (ChangeSpec.witness6 (enc := enc) (C := Try.checked) false ⟨#[], #[.slice none 0 0, .int .u64 0, .slice none 0 0], []⟩ 8 (by kernel_rfl) (by kernel_rfl) (by kernel_rfl) (by kernel_rfl)) ?_
  intro W base args ds gs before hval0 hW hcnd _
  have hval : ∀ (j : Nat) t v, Try.f3.params[j]? = some t → args[j]? = some v → Value.okWide Try.prog W .any base t v := hval0
  have hW' := hW
  obtain ⟨p, q, hA0, hV, rfl, hfz, hnd⟩ := hW
  have hA : DataW.TrodAll enc Try.prog W 0 (fun _ => true) true Try.f3.params.toList args.toList ds p := hA0
  rw [Try.params3] at hA hval
  obtain ⟨v0, vs0, d0, ds0, p0, q0, hargs, rfl, rfl, h0, r0⟩ := trodAll_cons hA
  obtain ⟨v1, vs1, d1, ds1, p1, q1, rfl, rfl, rfl, h1, r1⟩ := trodAll_cons r0
  obtain ⟨v2, vs2, d2, ds2, p2, q2, rfl, rfl, rfl, h2, r2⟩ := trodAll_cons r1
  obtain ⟨rfl, rfl, rfl⟩ := trodAll_nil r2
  obtain rfl : args = #[v0, v1, v2] := by cases args; simp_all
  obtain ⟨rfl, rfl⟩ := trodVars_none hV
  obtain ⟨a0, len0, cap0, rfl⟩ := okWide_slice Try.underlying22 (hval 0 22 v0 rfl rfl)
  have k0 := h0
  have lt0 : ∀ x ∈ p0, x.block < W.heap.size := by obtain ⟨m, hm⟩ := k0; exact DataW.trod_lt m _ _ _ hm
  obtain ⟨z0, w0⟩ : ∃ zs, IsRow .u8 W a0 len0 cap0 zs := by
    obtain ⟨fuel, hf⟩ := h0
    rcases open_ints Try.underlying22 Try.underlying5 (by kernel_rfl) hf with ⟨hcs, _⟩ | ⟨x, l, c, zs, hcs, _, hl, hm, hz, _, hcell, hwz⟩
    · simp [Value.cells] at hcs
      obtain ⟨rfl, rfl, rfl⟩ := hcs
      exact ⟨[], .inl ⟨rfl, rfl, rfl, rfl⟩⟩
    · simp [Value.cells] at hcs
      obtain ⟨rfl, rfl, rfl⟩ := hcs
      exact ⟨zs, .inr ⟨_, rfl, hl, hm, by simpa using hz, hcell, hwz⟩⟩
  obtain ⟨a1, rfl, rfl, rfl, w1⟩ := open_int Try.underlying23 (hval 1 23 v1 rfl rfl) h1
  obtain ⟨a2, len2, cap2, rfl⟩ := okWide_slice Try.underlying24 (hval 2 24 v2 rfl rfl)
  have k2 := h2
  have lt2 : ∀ x ∈ p2, x.block < W.heap.size := by obtain ⟨m, hm⟩ := k2; exact DataW.trod_lt m _ _ _ hm
  obtain ⟨z2, w2⟩ : ∃ zs, IsRow .i64 W a2 len2 cap2 zs := by
    obtain ⟨fuel, hf⟩ := h2
    rcases open_ints Try.underlying24 Try.underlying3 (by kernel_rfl) hf with ⟨hcs, _⟩ | ⟨x, l, c, zs, hcs, _, hl, hm, hz, _, hcell, hwz⟩
    · simp [Value.cells] at hcs
      obtain ⟨rfl, rfl, rfl⟩ := hcs
      exact ⟨[], .inl ⟨rfl, rfl, rfl, rfl⟩⟩
    · simp [Value.cells] at hcs
      obtain ⟨rfl, rfl, rfl⟩ := hcs
      exact ⟨zs, .inr ⟨_, rfl, hl, hm, by simpa using hz, hcell, hwz⟩⟩
  clear hA0 hval0
  refine (walk a0 len0 cap0 z0 a1 a2 len2 cap2 z2 W w0 w1 w2).mono fun e W' ⟨he, bel⟩ => ?_
  subst he
  exact ⟨_, rfl, _, _, _, [], _, [], hW', trodAll_mk1 (shut_bool Try.underlying4 _), (trodAll_cons_mk (Below.trod laidOut (by kernel_rfl) (of_decide_eq_true (by kernel_rfl)) k0 bel lt0) (trodAll_cons_mk (shut_int Try.underlying23 w1) (trodAll_cons_mk (Below.trod laidOut (by kernel_rfl) (of_decide_eq_true (by kernel_rfl)) k2 bel lt2) trodAll_mk0))), rfl, bel.frame _, fun h => by cases h⟩

theorem over : Rows.lanesBytesRow.holds Try.pinned (OpenSpec.ofChange Rows.lanesBytesSpec) :=
  OpenClaim.holds_of_wide 3 Try.f3 rfl rfl rfl rfl rfl rfl rfl ⟨rfl, rfl, rfl, rfl, rfl⟩ rfl rfl rfl rfl rfl (by kernel_rfl) Try.func3 (by kernel_rfl)
    (of_decide_eq_true (by kernel_rfl)) (by unfold Func.isWrapper; first | (rw [if_pos (by decide +kernel)]; kernel_rfl) | (rw [if_neg (by decide +kernel)]; exact ⟨rfl, rfl⟩))
    (fun os started H enc _ => lifted os started H enc)

theorem proved : Rows.LanesBytesSaid := over
end Go.Proofs.Ytapmmefkblednaa.lanesBytes
