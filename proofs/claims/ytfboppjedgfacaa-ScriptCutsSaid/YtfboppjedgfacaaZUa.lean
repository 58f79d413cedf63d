/- Script: a number, read. -/
import Derived.Test.YtfboppjedgfacaaZSz
import Derived.Test.YtfboppjedgfacaaZSb
import Derived.Laws.Shifts
namespace Go.Proofs
open Go.RowKit Go.Shelf
attribute [local go_sem] Oper.semAt_some

/-- A panic of ErrBytes. -/
def errB : List PanicEntry := [{ v := .iface 31 (.int .i64 131), recovered := false }]
theorem bytesAt_len {W : World} {x : Option Addr} {n cap : Nat} {l : List Int} (h : BytesAt W (.slice x n cap) l) : n = l.length ∧ n ≤ cap ∧ cap ≤ maxLen := by
  obtain ⟨_, a', cap', e, h1, h2, _⟩ := h
  cases e
  exact ⟨rfl, h1, h2⟩
/-- What a round makes of the number. -/
theorem num_round {bs : List Int} {k : Nat} (hk : k < bs.length) (_ : 0 ≤ bs[k]?.getD 0) :
    bits .or .u64 ((valB (bs.take k) % 2 ^ 64 : Nat) : Int) (IntKind.u64.wrap (IntKind.u64.wrap (bs[k]?.getD 0 % 128) * 2 ^ min (7 * (k : Int)).toNat 64)) = ((valB (bs.take (k + 1)) % 2 ^ 64 : Nat) : Int) := by
  have e1 : IntKind.u64.wrap (bs[k]?.getD 0 % 128) = (((bs[k]?.getD 0 % 128).toNat : Nat) : Int) := by
    rw [IntKind.wrap_u64]; omega
  rw [e1, show (7 * (k : Int)).toNat = 7 * k by omega]
  have e2 : (((bs[k]?.getD 0 % 128).toNat : Nat) : Int) * 2 ^ min (7 * k) 64 = (((bs[k]?.getD 0 % 128).toNat * 2 ^ min (7 * k) 64 : Nat) : Int) := by simp
  rw [e2]
  have e3 : IntKind.u64.wrap (((bs[k]?.getD 0 % 128).toNat * 2 ^ min (7 * k) 64 : Nat) : Int) = (((bs[k]?.getD 0 % 128).toNat * 2 ^ min (7 * k) 64 % 2 ^ 64 : Nat) : Int) := by
    rw [IntKind.wrap_u64]; omega
  rw [e3, u64_or_nat _ _ (Nat.mod_lt _ (by decide)) (Nat.mod_lt _ (by decide)), or_add (by have := valB_lt (bs.take k); rwa [List.length_take, Nat.min_eq_left (by omega)] at this) (by omega)]
  rw [List.take_succ_eq_append_getElem hk, valB_snoc, List.length_take, Nat.min_eq_left (by omega), List.getElem?_eq_getElem hk]
  rfl
def accI (bs : List Int) (k : Nat) : Int := ((valB (bs.take k) % 2 ^ 64 : Nat) : Int)
theorem accI_step {bs : List Int} {k : Nat} (hk : k < bs.length) (hb : 0 ≤ bs[k]?.getD 0) :
    bits .or .u64 (accI bs k) (IntKind.u64.wrap (bs[k]?.getD 0 % 128 * 2 ^ min (7 * (k : Int)).toNat 64)) = accI bs (k + 1) := by
  have h := num_round hk hb
  have e1 : IntKind.u64.wrap (bs[k]?.getD 0 % 128) = bs[k]?.getD 0 % 128 := by rw [IntKind.wrap_u64]; omega
  rw [e1] at h
  exact h
theorem numB_bytes (n : Nat) : AllBytes (numB n) := by
  obtain ⟨l, b, e, h1, h2, h3⟩ := numB_form n
  rw [e]
  intro x hx
  rcases List.mem_append.1 hx with hx | hx
  · have := h1 x hx
    omega
  · simp at hx
    subst hx
    omega
/-- Where the first small byte stands, no other number can begin. -/
theorem num_only {bs : List Int} {k m : Nat} (hk : k < bs.length) (hg : ∀ j, j < k → 128 ≤ bs[j]?.getD 0) (hs : bs[k]?.getD 0 < 128) (hm : (m : Int) = accI bs (k + 1)) (hno : ¬ numB m <+: bs) : ∀ n : Nat, n < 2 ^ 64 → ¬ numB n <+: bs := fun n hn hp => by
  have h1 := numB_first hp hk hg hs
  have h2 : m = n := by
    have h3 := numB_val n
    rw [h1] at h3
    unfold accI at hm
    rw [h3, Nat.mod_eq_of_lt hn] at hm
    omega
  exact hno (h2 ▸ hp)
theorem num_none {bs : List Int} (hg : ∀ j, j < bs.length → 128 ≤ bs[j]?.getD 0) : ∀ n : Nat, n < 2 ^ 64 → ¬ numB n <+: bs := fun n _ hp => by
  obtain ⟨l, b, e, _, _, h3⟩ := numB_form n
  obtain ⟨r, hr⟩ := hp
  have h1 := hg l.length (by rw [← hr, e]; simp)
  rw [← hr, e] at h1
  simp at h1
  omega
theorem bytes_drop {W : World} {b off n cap : Nat} {l : List Int} (h : BytesAt W (.slice (some ⟨b, off, none⟩) n cap) l) (m : Nat) (hm : m ≤ n) : BytesAt W (.slice (some ⟨b, off + m, none⟩) (n - m) (cap - m)) (l.drop m) := by
  obtain ⟨hn, hc, hx⟩ := bytesAt_len h
  obtain ⟨h0, a', cap', e, _, _, _, h4⟩ := h
  cases e
  have e1 : byteVals (l.drop m) = (byteVals l).drop m := by simp [byteVals, List.map_drop]
  unfold BytesAt
  rw [e1]
  refine ⟨by rw [List.length_drop, List.length_drop]; omega, some ⟨b, off + m, none⟩, cap - m, by rw [List.length_drop], by rw [List.length_drop]; omega, by omega, (fun e => by cases e), fun j hj => ?_⟩
  rw [List.length_drop] at hj
  obtain ⟨b2, off2, e2, hb, hcell⟩ := h4 (m + j) (by omega)
  cases e2
  refine ⟨b, off + m, rfl, hb, ?_⟩
  rw [Nat.add_assoc, hcell, List.getElem?_drop]
theorem bytes_set {W : World} {b off n cap Br o : Nat} {l : List Int} {v : Value} (h : BytesAt W (.slice (some ⟨b, off, none⟩) n cap) l) (hne : b ≠ Br) : BytesAt (W.setCell ⟨Br, o, none⟩ v) (.slice (some ⟨b, off, none⟩) n cap) l := by
  obtain ⟨h0, a', cap', e, h1, h2, h3, h4⟩ := h
  cases e
  refine ⟨h0, some ⟨b, off, none⟩, cap, rfl, h1, h2, h3, fun j hj => ?_⟩
  obtain ⟨b2, off2, e2, hb, hcell⟩ := h4 j hj
  cases e2
  exact ⟨b, off, rfl, by simpa [World.setCell] using hb, by rw [World.cell?_setCell_far _ _ _ _ (show Br ≠ b from fun e => hne e.symm)]; exact hcell⟩
theorem bytes_none {W : World} {b off : Nat} : BytesAt W (.slice (some ⟨b, off, none⟩) 0 0) [] := ⟨rfl, _, 0, rfl, Nat.le_refl _, by unfold maxLen; omega, (fun _ => rfl), fun j hj => by simp [byteVals] at hj⟩
/-- What reading a number comes to: it is there, and what is left begins behind it; or there is none. -/
def NumQ (H Br : Nat) (c0 c1 c2 c3 c4 : Value) (bs : List Int) (w : World) (e : Ending) (w' : World) : Prop :=
  (∃ k : Nat, k < 2 ^ 64 ∧ numB k <+: bs ∧ e = .returned (.int .u64 (k : Int)) ∧ But w.heap.size Br w w' ∧ ∃ a n cap, Rows8 w' Br 78 #[c0, c1, c2, c3, c4, .slice a n cap] ∧ BytesAt w' (.slice a n cap) (bs.drop (numB k).length) ∧ ∀ b off, a = some ⟨b, off, none⟩ → b ≠ Br ∧ b < H) ∨
  ((∀ k : Nat, k < 2 ^ 64 → ¬ numB k <+: bs) ∧ e = .panicked errB ∧ Below w.heap.size w w')
set_option maxRecDepth 100000 in
set_option maxHeartbeats 2000000 in
theorem Try.number_any (H Br : Nat) (c0 c1 c2 c3 c4 : Value) (a : Option Addr) (n cap : Nat) (hl : n ≤ 1000000) (bs : List Int) (hbs : AllBytes bs) (w : World) (hR : Rows8 w Br 78 #[c0, c1, c2, c3, c4, .slice a n cap]) (hB : BytesAt w (.slice a n cap) bs) (hne : ∀ b off, a = some ⟨b, off, none⟩ → b ≠ Br ∧ b < H) :
    Calls Try.prog 64 #[.pointer (some ⟨Br, 0, none⟩)] w (NumQ H Br c0 c1 c2 c3 c4 bs w) := by
  obtain ⟨hn, hnc, hcm⟩ := bytesAt_len hB
  have HN := Lib.hid hn
  have HBS := Lib.hid hbs
  have HB := Lib.hid hB
  have HR := Lib.hid hR
  have HNE := Lib.hid hne
  have k5 : w.cell? ⟨Br, 5, none⟩ = some (.slice a n cap) := hR.cell 5
  have hlt := hR.lt
  clear hn hbs hB hR hcm hne
  go_enter Try.func64, Try.ntmps64
  go_wp2_with fail
  go_loopw [3, 12] (fun s j wr => wr = w ∧ ∃ k : Nat, k ≤ n ∧ j = .int .i64 k ∧ s = .int .u64 (accI bs k) ∧ ∀ i, i < k → 128 ≤ bs[i]?.getD 0) (fun _ j _ => n - (intOf j).toNat)
  case atStart => exact ⟨rfl, 0, Nat.zero_le _, rfl, rfl, fun i hi => by omega⟩
  case round =>
    obtain ⟨rfl, k, hk, rfl, rfl, hg⟩ := hrel
    by_cases hlt2 : k < n
    · have hkl : k < bs.length := by rw [← HN.out]; exact hlt2
      obtain ⟨b, off, rfl, hb, p1⟩ := bytesAt_get HB.out k hkl
      have hby := HBS.out _ (List.getElem_mem hkl)
      have hby2 : 0 ≤ bs[k]?.getD 0 ∧ bs[k]?.getD 0 < 256 := by rw [List.getElem?_eq_getElem hkl]; exact hby
      have hor := accI_step hkl hby2.1
      have hsh := shift_shl_any .u64 .i64 (bs[k]?.getD 0 % 128) (7 * (k : Int)) (by omega)
      have hw7 : wrap64 (7 * (k : Int)) = 7 * (k : Int) := by
        unfold wrap64
        omega
      have hki : (k : Int) < (n : Int) := by omega
      have hor' : bits .or .u64 (accI bs k) (IntKind.u64.wrap (bs[k]?.getD 0 % 128 * 2 ^ min (7 * (k : Int)).toNat IntKind.u64.bits)) = accI bs (k + 1) := hor
      generalize IntKind.u64.wrap (bs[k]?.getD 0 % 128 * 2 ^ min (7 * (k : Int)).toNat IntKind.u64.bits) = S at *
      obtain ⟨m, hm, hm64⟩ : ∃ m : Nat, (m : Int) = accI bs (k + 1) ∧ m < 2 ^ 64 := ⟨_, rfl, Nat.mod_lt _ (by decide)⟩
      have HM := Lib.hid hm
      rw [← hm] at hor'
      generalize accI bs k = A at *
      have HG := Lib.hid hg
      generalize hz : bs[k]?.getD 0 = z at *
      have HZ := Lib.hid hz
      clear hg hz hby hor hm
      by_cases hsm : z < 128
      · have hsm2 : ¬ (128 : Int) ≤ z := by omega
        have HNM := Lib.hid (Try.Number_any m hm64 wr)
        have hbm := numB_bytes m
        go_wp2_with fail
        refine HNM.out.mono ?_
        rintro e w1 ⟨v1, rfl, hO1, hB1⟩
        obtain ⟨a1, c1', rfl⟩ : ∃ a c, v1 = .slice a (numB m).length c := by
          obtain ⟨_, a, cap, h, _⟩ := rowAt_own hO1
          exact ⟨a, cap, h⟩
        have r1 := HR.out.below hB1 hlt
        have k51 : w1.cell? ⟨Br, 5, none⟩ = some (.slice (some ⟨b, off, none⟩) n cap) := r1.cell 5
        have f51 := r1.frozen 5
        have hlt1 := r1.lt
        have hb1 := RowAt.below HB.out hB1
        have HHP := Lib.hid (Try.hasPrefix_any (some ⟨b, off, none⟩) a1 n _ cap c1' bs (numB m) HN.out rfl HBS.out hbm w1 hb1 (rowAt_own hO1))
        have HR1 := Lib.hid r1
        have HB1 := Lib.hid hB1
        have HBY := Lib.hid hb1
        have HBM := Lib.hid hbm
        clear hO1 hB1 r1 hb1 k5 p1 hbm
        by_cases hpre : numB m <+: bs
        · rw [decide_eq_true hpre] at HHP
          have hlen : (numB m).length ≤ n := by rw [HN.out]; exact hpre.length_le
          have HPRE := Lib.hid hpre
          generalize hL : (numB m).length = L at *
          have HL := Lib.hid hL
          have hli : (L : Int) ≤ (n : Int) := by omega
          have hln : ¬ (n : Int) < (L : Int) := by omega
          have hlc : (L : Int) ≤ (cap : Int) := by omega
          clear hpre hL
          go_wp2_with fail
          refine HHP.out.mono ?_
          rintro e w' ⟨rfl, rfl⟩
          have hbr := HNE.out b off rfl
          by_cases hcl : cap = L
          · obtain rfl : n = cap := by omega
            subst hcl
            have hrow : Rows8 (w1.setCell ⟨Br, 5, none⟩ (.slice (some ⟨b, off, none⟩) 0 0)) Br 78 #[c0, c1, c2, c3, c4, .slice (some ⟨b, off, none⟩) 0 0] := by
              have := HR1.out.set 5 (.slice (some ⟨b, off, none⟩) 0 0)
              simpa using this
            have HROW := Lib.hid hrow
            have hd : bs.drop n = [] := List.drop_of_length_le (Nat.le_of_eq HN.out.symm)
            have HD := Lib.hid hd
            clear hrow hd
            go_wp2_with fail
            go_ret
            exact .inl ⟨m, hm64, HPRE.out, rfl, (But.of_below HB1.out).setCell 5 _, _, _, _, HROW.out, by rw [HL.out, HD.out]; exact bytes_none, fun b' off' e => by cases e; exact hbr⟩
          · have hcl2 : ¬ (cap : Int) = (L : Int) := by omega
            have hrow : Rows8 (w1.setCell ⟨Br, 5, none⟩ (.slice (some ⟨b, off + L, none⟩) (n - L) (cap - L))) Br 78 #[c0, c1, c2, c3, c4, .slice (some ⟨b, off + L, none⟩) (n - L) (cap - L)] := by
              have := HR1.out.set 5 (.slice (some ⟨b, off + L, none⟩) (n - L) (cap - L))
              simpa using this
            have HROW := Lib.hid hrow
            have HD := Lib.hid (bytes_set (o := 5) (v := .slice (some ⟨b, off + L, none⟩) (n - L) (cap - L)) (bytes_drop HBY.out L hlen) hbr.1)
            clear hrow
            go_wp2_with fail
            go_ret
            exact .inl ⟨m, hm64, HPRE.out, rfl, (But.of_below HB1.out).setCell 5 _, _, _, _, HROW.out, by rw [HL.out]; exact HD.out, fun b' off' e => by cases e; exact hbr⟩
        · rw [decide_eq_false hpre] at HHP
          have hno := Lib.hid (num_only hkl HG.out (by rw [HZ.out]; exact hsm) HM.out hpre)
          clear hpre
          go_wp2_with fail
          refine HHP.out.mono ?_
          rintro e w' ⟨rfl, rfl⟩
          go_wp2_with fail
          exact ⟨rfl, .inr ⟨hno.out, rfl, HB1.out⟩⟩
      · have hsm2 : (128 : Int) ≤ z := by omega
        have HG2 : Hid (∀ i, i < k + 1 → 128 ≤ bs[i]?.getD 0) := Lib.hid fun i hi => by
          by_cases h : i = k
          · rw [h, HZ.out]; exact hsm2
          · exact HG.out i (by omega)
        go_wp2_with fail
        go_roundw
        case rel => exact ⟨by trivial, k + 1, by omega, by go_num, by rw [← HM.out], HG2.out⟩
        case measure => simp [intOf]; omega
    · obtain rfl : k = n := by omega
      have HG := Lib.hid hg
      clear hg
      have hno := Lib.hid (num_none (bs := bs) (by rw [← HN.out]; exact HG.out))
      go_wp2_with fail
      exact ⟨rfl, .inr ⟨hno.out, rfl, Below.refl _ _⟩⟩
end Go.Proofs

/- Script: numbers that are read, as a function of what is left; between. -/
namespace Go.Proofs
open Go.RowKit Go.Shelf
attribute [local go_sem] Oper.semAt_some

/-- No number's bytes begin another one's. -/
theorem numB_pre : ∀ (n m : Nat), numB n <+: numB m → n = m := by
  intro n
  induction n using Nat.strongRecOn with
  | _ n ih =>
    intro m h
    by_cases h1 : n < 128
    · by_cases h2 : m < 128
      · rw [numB_small h1, numB_small h2] at h
        obtain ⟨r, hr⟩ := h
        injection hr with e _
        omega
      · rw [numB_small h1, numB_big h2] at h
        obtain ⟨r, hr⟩ := h
        injection hr with e _
        omega
    · by_cases h2 : m < 128
      · rw [numB_big h1, numB_small h2] at h
        obtain ⟨r, hr⟩ := h
        injection hr with e _
        omega
      · rw [numB_big h1, numB_big h2] at h
        obtain ⟨r, hr⟩ := h
        injection hr with e e2
        have h3 := ih (n / 128) (by omega) (m / 128) ⟨r, e2⟩
        omega
theorem numB_only {n m : Nat} {bs : List Int} (h1 : numB n <+: bs) (h2 : numB m <+: bs) : n = m := by
  rcases List.prefix_or_prefix_of_prefix h1 h2 with h | h
  · exact numB_pre n m h
  · exact (numB_pre m n h).symm
open Classical in
theorem numP_ex : ∃ f : List Int → Option (Nat × List Int), (∀ (bs : List Int) (k : Nat), k < 2 ^ 64 → numB k <+: bs → f bs = some (k, bs.drop (numB k).length)) ∧ ∀ bs : List Int, (∀ k : Nat, k < 2 ^ 64 → ¬ numB k <+: bs) → f bs = none := by
  refine ⟨fun bs => if h : ∃ k : Nat, k < 2 ^ 64 ∧ numB k <+: bs then some (Classical.choose h, bs.drop (numB (Classical.choose h)).length) else none, fun bs k hk hp => ?_, fun bs h => ?_⟩
  · have h : ∃ k : Nat, k < 2 ^ 64 ∧ numB k <+: bs := ⟨k, hk, hp⟩
    have e : Classical.choose h = k := numB_only (Classical.choose_spec h).2 hp
    show (if h : ∃ k : Nat, k < 2 ^ 64 ∧ numB k <+: bs then some (Classical.choose h, bs.drop (numB (Classical.choose h)).length) else none) = _
    rw [dif_pos h, e]
  · show (if h : ∃ k : Nat, k < 2 ^ 64 ∧ numB k <+: bs then some (Classical.choose h, bs.drop (numB (Classical.choose h)).length) else none) = _
    rw [dif_neg (fun ⟨k, hk, hp⟩ => h k hk hp)]
/-- The next number, and what is left. -/
noncomputable def numP : List Int → Option (Nat × List Int) := Classical.choose numP_ex
theorem numP_some {bs : List Int} {k : Nat} (hk : k < 2 ^ 64) (hp : numB k <+: bs) : numP bs = some (k, bs.drop (numB k).length) := (Classical.choose_spec numP_ex).1 bs k hk hp
theorem numP_none {bs : List Int} (h : ∀ k : Nat, k < 2 ^ 64 → ¬ numB k <+: bs) : numP bs = none := (Classical.choose_spec numP_ex).2 bs h
theorem numP_app {k : Nat} (hk : k < 2 ^ 64) (r : List Int) : numP (numB k ++ r) = some (k, r) := by
  rw [numP_some hk (List.prefix_append _ _), List.drop_left]
theorem numP_back {bs r : List Int} {k : Nat} (h : numP bs = some (k, r)) : k < 2 ^ 64 ∧ bs = numB k ++ r := by
  by_cases hx : ∃ k : Nat, k < 2 ^ 64 ∧ numB k <+: bs
  · obtain ⟨j, hj, hp⟩ := hx
    rw [numP_some hj hp] at h
    injection h with h
    injection h with h1 h2
    subst h1
    obtain ⟨t, ht⟩ := hp
    rw [← ht, List.drop_left] at h2
    exact ⟨hj, by rw [← ht, h2]⟩
  · rw [numP_none (fun k hk hp => hx ⟨k, hk, hp⟩)] at h
    cases h
/-- The reader: what it has read, and what is left. -/
def RdAt (H Br : Nat) (c0 c1 c2 c3 c4 : Value) (bs : List Int) (W : World) : Prop :=
  ∃ a n cap, Rows8 W Br 78 #[c0, c1, c2, c3, c4, .slice a n cap] ∧ BytesAt W (.slice a n cap) bs ∧ ∀ b off, a = some ⟨b, off, none⟩ → b ≠ Br ∧ b < H
/-- A step of the reader that tells a value, by a function of what is left. -/
def StepQ {α : Type} (H Br : Nat) (c0 c1 c2 c3 c4 : Value) (enc : α → Value) (o : Option (α × List Int)) (w : World) (e : Ending) (w' : World) : Prop :=
  But w.heap.size Br w w' ∧ ((∃ x r, o = some (x, r) ∧ e = .returned (enc x) ∧ RdAt H Br c0 c1 c2 c3 c4 r w') ∨ (o = none ∧ e = .panicked errB))
theorem Try.numberP_any (H Br : Nat) (c0 c1 c2 c3 c4 : Value) (bs : List Int) (hl : bs.length ≤ 1000000) (hbs : AllBytes bs) (w : World) (hR : RdAt H Br c0 c1 c2 c3 c4 bs w) :
    Calls Try.prog 64 #[.pointer (some ⟨Br, 0, none⟩)] w (StepQ H Br c0 c1 c2 c3 c4 (fun k : Nat => .int .u64 (k : Int)) (numP bs) w) := by
  obtain ⟨a, n, cap, h1, h2, h3⟩ := hR
  have hn := (bytesAt_len h2).1
  refine (Try.number_any H Br c0 c1 c2 c3 c4 a n cap (by omega) bs hbs w h1 h2 h3).mono ?_
  rintro e w' (⟨k, hk, hp, rfl, hB, a', n', cap', r1, r2, r3⟩ | ⟨hno, rfl, hB⟩)
  · exact ⟨hB, .inl ⟨k, _, numP_some hk hp, rfl, a', n', cap', r1, r2, r3⟩⟩
  · exact ⟨But.of_below hB, .inr ⟨numP_none hno, rfl⟩⟩
/-- The next number, that may be from least to most. -/
noncomputable def betP (lo hi : Nat) (bs : List Int) : Option (Nat × List Int) :=
  match numP bs with
  | some (k, r) => if lo ≤ k ∧ k ≤ hi then some (k, r) else none
  | none => none
theorem betP_none {lo hi : Nat} {bs : List Int} (h : numP bs = none) : betP lo hi bs = none := by
  unfold betP
  split
  · rename_i h2
    rw [h] at h2
    cases h2
  · rfl
theorem betP_some {lo hi k : Nat} {bs r : List Int} (h : numP bs = some (k, r)) : betP lo hi bs = if lo ≤ k ∧ k ≤ hi then some (k, r) else none := by
  unfold betP
  split
  · rename_i h2
    rw [h] at h2
    injection h2 with h2
    injection h2 with e1 e2
    rw [e1, e2]
  · rename_i h2
    rw [h] at h2
    cases h2
set_option maxRecDepth 100000 in
set_option maxHeartbeats 1000000 in
theorem Try.between_any (lo hi H Br : Nat) (h1 : lo ≤ 10000) (h2 : hi ≤ 10000) (c0 c1 c2 c3 c4 : Value) (bs : List Int) (hl : bs.length ≤ 1000000) (hbs : AllBytes bs) (w : World) (hR : RdAt H Br c0 c1 c2 c3 c4 bs w) :
    Calls Try.prog 63 #[.pointer (some ⟨Br, 0, none⟩), .int .i64 (lo : Int), .int .i64 (hi : Int)] w (StepQ H Br c0 c1 c2 c3 c4 (fun k : Nat => .int .i64 (k : Int)) (betP lo hi bs) w) := by
  have HC := Lib.hid (Try.numberP_any H Br c0 c1 c2 c3 c4 bs hl hbs w hR)
  clear hR hl hbs
  have wl := wrapU (lo : Int) (by omega)
  have wh := wrapU (hi : Int) (by omega)
  go_enter Try.func63, Try.ntmps63
  go_wp2_with fail
  refine HC.out.mono ?_
  rintro e w2 ⟨hB, (⟨k, r, ho, rfl, hR2⟩ | ⟨ho, rfl⟩)⟩
  · have HB := Lib.hid hB
    have HR2 := Lib.hid hR2
    have HO := Lib.hid ho
    dsimp only
    clear hB hR2 ho
    by_cases hlo : (k : Int) < (lo : Int)
    · have hno : Hid (betP lo hi bs = none) := Lib.hid (by rw [betP_some HO.out, if_neg (by omega)])
      go_wp2_with fail
      exact ⟨rfl, HB.out, .inr ⟨hno.out, rfl⟩⟩
    · by_cases hhi : (hi : Int) < (k : Int)
      · have hno : Hid (betP lo hi bs = none) := Lib.hid (by rw [betP_some HO.out, if_neg (by omega)])
        go_wp2_with fail
        exact ⟨rfl, HB.out, .inr ⟨hno.out, rfl⟩⟩
      · have hyes : Hid (betP lo hi bs = some (k, r)) := Lib.hid (by rw [betP_some HO.out, if_pos (by omega)])
        have wk : IntKind.i64.wrap (k : Int) = (k : Int) := IntWalk.i64_in _ (by omega)
        go_wp2_with fail
        go_ret
        exact ⟨HB.out, .inl ⟨k, r, hyes.out, rfl, HR2.out⟩⟩
  · have hno : Hid (betP lo hi bs = none) := Lib.hid (betP_none ho)
    have HB := Lib.hid hB
    clear hB ho
    go_wp2_with fail
    exact ⟨rfl, HB.out, .inr ⟨hno.out, rfl⟩⟩
end Go.Proofs

/- Script: a greater number has no fewer bytes. -/
namespace Go.Proofs
open Go.RowKit

theorem numB_mono : ∀ n m : Nat, n ≤ m → (numB n).length ≤ (numB m).length := by
  intro n
  induction n using Nat.strongRecOn with
  | _ n ih =>
    intro m h
    by_cases h1 : n < 128
    · rw [numB_small h1]
      by_cases h2 : m < 128
      · rw [numB_small h2]
        simp
      · rw [numB_big h2]
        simp
    · have h2 : ¬ m < 128 := by omega
      rw [numB_big h1, numB_big h2, List.length_cons, List.length_cons]
      have := ih (n / 128) (by omega) (m / 128) (Nat.div_le_div_right h)
      omega
theorem numB_not {n m : Nat} (h : n ≠ m) : ¬ numB n <+: numB m := fun hp => h (numB_pre n m hp)
end Go.Proofs
