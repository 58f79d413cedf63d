/- Ctrl: the reference's Fills. -/
import Derived.Test.YtmjlaienklheiaaJr
namespace Go.Proofs
set_option maxRecDepth 100000
open Go.RowKit Go.Shelf
attribute [local go_sem] Oper.semAt_some

theorem ba_rowAt {W : World} {v : Value} {bs : List Nat} (h : RowAt W v bs.length 1 (byteVals bs)) : BA W W.heap.size v bs := by
  obtain ⟨_, a, c, rfl, h1, h2, h3, h4⟩ := h
  refine ⟨a, c, rfl, h1, fun i hi => ?_⟩
  obtain ⟨b, off, e1, e2, e3⟩ := h4 i (by rw [byteVals_length]; exact hi)
  refine ⟨b, off, e1, e2, ?_⟩
  rw [e3]
  simp [byteVals, List.getElem?_eq_getElem hi]
theorem BA.cellAt {W : World} {D n c : Nat} {a : Option Addr} {bs : List Nat} (p : BA W D (.slice a n c) bs) (i : Nat) (hi : i < bs.length) : ∃ b off, a = some ⟨b, off, none⟩ ∧ b < D ∧ W.cell? ⟨b, off + i, none⟩ = some (.int .u8 ((bs[i]?.getD 0 : Nat) : Int)) := by
  obtain ⟨a', c', e, _, h⟩ := p
  simp only [Value.slice.injEq] at e
  obtain ⟨rfl, _, rfl⟩ := e
  exact h i hi
def fillsW (x : Nat) (hs : List Nat) : Nat := if fillsE x hs = 0 then fillsS x hs else 0
def fillsK (x : Nat) (hs : List Nat) : List Nat := if fillsE x hs = 0 then fillsL x hs else []
def RFillsQ (x : Nat) (hs : List Nat) (w : World) (e : Ending) (w' : World) : Prop :=
  ∃ lv, e = .returned (.tuple #[.int .u64 (fillsW x hs : Nat), lv, .int .i64 (fillsE x hs)]) ∧ w'.ownsRow w.heap.size 3 1 lv (fillsK x hs).length (nvals (fillsK x hs)) ∧ Below w.heap.size w w'
theorem rfills_bad {x : Nat} {hs : List Nat} {w w' : World} (h : fillsE x hs = 2) (hb : Below w.heap.size w w') : RFillsQ x hs w (.returned (.tuple #[.int .u64 0, .slice none 0 0, .int .i64 2])) w' := by
  unfold RFillsQ fillsW fillsK
  rw [h, if_neg (by decide), if_neg (by decide)]
  exact ⟨_, rfl, ⟨rfl, .inl ⟨rfl, rfl⟩⟩, hb⟩
/-- The state at the loop. -/
structure RF (x : Nat) (hs : List Nat) (w : World) (i : Nat) (y : Nat) (al : Option Addr) (cl : Nat) (W : World) : Prop where
  le : i ≤ hs.length
  fr : i ≤ (frTo x 8).length
  few : ∀ u ∈ hs.take i, u ≤ 127
  val : y = layTo x ((frTo x 8).take i) hs
  own : W.ownsRow w.heap.size 3 1 (.slice al i cl) i (nvals ((frTo x 8).take i))
  bel : Below w.heap.size w W
theorem RF.lt {x : Nat} {hs : List Nat} {w : World} {i y : Nat} {al : Option Addr} {cl : Nat} {W : World} (hx : x < 18446744073709551616) (hh : ∀ u ∈ hs, u < 256) (p : RF x hs w i y al cl W) : y < 18446744073709551616 := by
  rw [p.val]
  exact layTo_lt hh _ x hx fun k hk => frTo_lt (List.mem_of_mem_take hk)
theorem RF.done {x : Nat} {hs : List Nat} {w : World} {y : Nat} {al : Option Addr} {cl : Nat} {W : World} (p : RF x hs w hs.length y al cl W) : RFillsQ x hs w (.returned (.tuple #[.int .u64 y, .slice al hs.length cl, .int .i64 0])) W := by
  have h0 : fillsE x hs = 0 := if_pos ⟨p.fr, by have := p.few; rwa [List.take_length] at this⟩
  unfold RFillsQ fillsW fillsK
  rw [h0, if_pos rfl, if_pos rfl]
  refine ⟨_, by rw [p.val, lay_done p.fr], ?_, p.bel⟩
  rw [fillsL_len h0]
  exact p.own
theorem RF.next {x : Nat} {hs : List Nat} {w : World} {i y lane u : Nat} {al al' : Option Addr} {cl cl' : Nat} {W W' : World} (p : RF x hs w i y al cl W) (hi : i < hs.length) (hu : hs[i]? = some u) (h127 : u ≤ 127) (hf : i < (frTo x 8).length) (hg : (frTo x 8)[i] = lane)
    (ho : W'.ownsRow w.heap.size 3 1 (.slice al' (i + 1) cl') (i + 1) (nvals ((frTo x 8).take i) ++ [.int .i64 (lane : Nat)])) (hb : Below w.heap.size w W') : RF x hs w (i + 1) (setB y lane u) al' cl' W' := by
  obtain ⟨h1, h2⟩ := lay_next hf hg hi hu
  refine ⟨hi, hf, ?_, by rw [h1, p.val], by rw [h2, nvals_snoc]; exact ho, hb⟩
  rw [List.take_succ_eq_append_getElem hi]
  intro v hv
  rcases List.mem_append.1 hv with hv | hv
  · exact p.few v hv
  · rw [List.mem_singleton] at hv
    rw [List.getElem?_eq_getElem hi] at hu
    cases hu
    omega
set_option maxHeartbeats 4000000 in
theorem Try.refFills_any (x : Nat) (hx : x < 18446744073709551616) (v : Value) (hs : List Nat) (hh : ∀ u ∈ hs, u < 256) (hl : hs.length ≤ 100) (w : World) (hB : BA w w.heap.size v hs) :
    Calls Try.prog 28 #[.int .u64 x, v] w (RFillsQ x hs w) := by
  obtain ⟨i0, hi, hz0, hz1, hz2⟩ := info_parts Try.infoInt
  obtain ⟨a0, n, cp0, rfl, hn⟩ : ∃ a n c, v = Value.slice a n c ∧ n = hs.length := by obtain ⟨a, c, e, _⟩ := hB; exact ⟨_, _, _, e, rfl⟩
  have HB := Lib.hid hB
  have HN := Lib.hid hn
  have HH := Lib.hid hh
  have HX := Lib.hid hx
  have HL := Lib.hid hl
  have n100 : n ≤ 100 := by omega
  have F0 : RF x hs w 0 x none 0 w := ⟨Nat.zero_le _, Nat.zero_le _, fun u hu => by simp at hu, rfl, ⟨rfl, .inl ⟨rfl, rfl⟩⟩, Below.refl _ _⟩
  have HF0 := Lib.hid F0
  clear hB hn hh hx hl F0
  go_enter Try.func28, Try.ntmps28
  go_wp2_with fail
  go_loopw [0, 7, 13] (fun cv ov j wr => ∃ (i y : Nat) (al : Option Addr) (cl : Nat), i ≤ n ∧ j = .int .i64 i ∧ cv = .int .u64 y ∧ ov = .slice al i cl ∧ RF x hs w i y al cl wr) (fun _ _ j _ => n - (intOf j).toNat)
  case atStart => exact ⟨0, x, none, 0, Nat.zero_le _, rfl, rfl, rfl, HF0.out⟩
  case round =>
    obtain ⟨i, y, al, cl, hin, rfl, rfl, rfl, hF⟩ := hrel
    by_cases hlt : i < n
    · have hil : i < hs.length := by rw [← HN.out]; exact hlt
      obtain ⟨u, hu⟩ : ∃ u, hs[i]? = some u := ⟨hs[i], List.getElem?_eq_getElem hil⟩
      have hum : u ∈ hs := List.mem_of_getElem? hu
      obtain ⟨b, off, rfl, hbl, hc⟩ := (HB.out.below hF.bel (Nat.le_refl _)).cellAt i hil
      rw [hu] at hc
      simp only [Option.getD_some] at hc
      have hbw : b < wr.heap.size := Nat.lt_of_lt_of_le hbl hF.bel.size
      have hy := hF.lt HX.out HH.out
      have hu256 := HH.out u hum
      have HY := Lib.hid hy
      have HU := Lib.hid hu
      have HUM := Lib.hid hum
      have HIL := Lib.hid hil
      have HFL := Lib.hid fun (k : Nat) (hk : k < 8) W => Try.refFull_any y k hy (by omega) W
      have HVAL := Lib.hid hF.val
      have hii : (i : Int) < (n : Int) := by omega
      obtain ⟨we, rfl⟩ : ∃ x, x = wr := ⟨_, rfl⟩
      have HF := Lib.hid hF
      clear hF hy hu hum hil
      go_wp2_with fail
      go_loopw [10] (fun j wr => wr = we ∧ ∃ l : Nat, l ≤ 8 ∧ j = .int .i64 l ∧ ∀ k, k < l → kd (byt y k) = 0) (fun j _ => 8 - (intOf j).toNat)
      case atStart => exact ⟨rfl, 0, Nat.zero_le _, rfl, fun k hk => absurd hk (Nat.not_lt_zero _)⟩
      case round =>
        obtain ⟨rfl, l, hl8, rfl, hall⟩ := hrel
        have HALL := Lib.hid hall
        clear hall
        by_cases hl : l < 8
        · have HFU := Lib.hid (HFL.out l hl)
          have hli : (l : Int) < 8 := by omega
          by_cases h0 : kd (byt y l) = 0
          · rw [h0] at HFU
            have H0 := Lib.hid h0
            clear h0
            go_wp2_with (go_at_call 47; refine (HFU.out _).mono ?_; rintro e w' ⟨rfl, rfl⟩)
            go_roundw
            case rel =>
              refine ⟨by first | rfl | trivial, l + 1, by omega, by go_num, fun k hk => ?_⟩
              by_cases e : k = l
              · rw [e]; exact H0.out
              · exact HALL.out k (by omega)
            case measure => simp [intOf]; omega
          · rw [beq_eq_false_iff_ne.2 h0] at HFU
            have h8b : ((l : Int) == 8) = false := by simp; omega
            have hlf := least_fr (x := x) (hs := hs) (lane := l) HF.out.fr HF.out.le HF.out.few hl8 (by rw [← HVAL.out]; exact HALL.out) (.inr (by rw [← HVAL.out]; exact h0))
            have hlf2 : ∃ h : i < (frTo x 8).length, (frTo x 8)[i] = l := by
              rcases hlf with ⟨h, _⟩ | ⟨_, h⟩
              · omega
              · exact h
            have HLF := Lib.hid hlf2
            clear hlf hlf2 h0
            by_cases h127 : 127 < u
            · have h127' : (127 : Int) < (u : Int) := by omega
              have HBAD := Lib.hid (rfills_bad (x := x) (hs := hs) (w := w) (w' := wr) (fills_bad1 HUM.out h127) HF.out.bel)
              clear h127
              go_wp2_with (go_at_call 47; refine (HFU.out _).mono ?_; rintro e w' ⟨rfl, rfl⟩)
              refine bodyPost_ret (results_tmp3 rfl _ _ _) rfl ?_
              exact HBAD.out
            · have h127' : ¬ (127 : Int) < (u : Int) := by omega
              have HP := Lib.hid fun W => Try.refPut_any y u l HY.out hu256 hl W
              have H127 := Lib.hid (Nat.not_lt.1 h127)
              have HZ : Hid (∃ z, z = setB y l u) := Lib.hid ⟨_, rfl⟩
              obtain ⟨z, hz⟩ := HZ.out
              rw [← hz] at HP
              have HZE := Lib.hid hz
              have hwl : w.heap.size ≤ wr.heap.size := HF.out.bel.size
              clear h127 hz HZ
              go_wp2_with (first
                | (go_at_call 47; refine (HFU.out _).mono ?_; rintro e w' ⟨rfl, rfl⟩)
                | (go_at_call 48; refine (HP.out _).mono ?_; rintro e w2 ⟨rfl, hB2⟩; have HO2 := Lib.hid (owns_keep HF.out.own hB2 (Nat.le_refl _)); have HB2 := Lib.hid (HF.out.bel.trans (hB2.mono HF.out.bel.size)); have hs2 := HB2.out.size; clear hB2)
                | (at_builtin; refine wpList_append_row _ rfl _ _ 40 rfl w.heap.size 3 i0 (.int .i64 0) 1 8 Try.underlying40 hi hz0 hz1 hz2 rfl (by decide) (.slice al i cl) _ _ rfl (owns_keep HO2.out ((Below.refl _ w2).alloc (Nat.le_refl _) _) (Nat.le_refl _)) _ 1 [.int .i64 (l : Nat)] rfl (rowAt_own (own1 (n₀ := w.heap.size) (Rows8.new w2 3 #[.int .i64 (l : Nat)]) (by omega) rfl)) (by simp [Value.oneCell']) (by unfold maxLen; omega) (by omega) (by simp; omega) ?_; intro v' w4 ho4 hg4 hv4; obtain ⟨_, al', cl', rfl, _⟩ := rowAt_own ho4; have HO4 := Lib.hid ho4; have HG4 := Lib.hid hg4; clear ho4 hg4 hv4))
              go_roundw
              case rel =>
                obtain ⟨hf, hg⟩ := HLF.out
                have hb4 : Below w.heap.size w w4 := (HB2.out.alloc HB2.out.size _).grown HG4.out (by simp; omega) (fun j ej => by
                  rcases HO2.out.2 with ⟨e, _⟩ | ⟨g, cap, cur, e, hge, _⟩
                  · rw [e] at ej; cases ej
                  · rw [e] at ej
                    simp [Value.ownBlock] at ej
                    omega)
                refine ⟨i + 1, z, al', cl', by omega, by go_num, rfl, rfl, ?_⟩
                rw [HZE.out]
                exact HF.out.next HIL.out HU.out H127.out hf hg HO4.out hb4
              case measure => simp [intOf]; omega
        · obtain rfl : l = 8 := by omega
          have hlf := least_fr (x := x) (hs := hs) (lane := 8) HF.out.fr HF.out.le HF.out.few (Nat.le_refl _) (by rw [← HVAL.out]; exact HALL.out) (.inl rfl)
          have hlen : (frTo x 8).length = i := by
            rcases hlf with ⟨_, h⟩ | ⟨h, _⟩
            · exact h
            · omega
          have HBAD := Lib.hid (rfills_bad (x := x) (hs := hs) (w := w) (w' := wr) (fills_bad2 (by rw [hlen]; exact HIL.out)) HF.out.bel)
          clear hlf hlen
          by_cases h127 : 127 < u
          · have h127' : (127 : Int) < (u : Int) := by omega
            clear h127
            go_wp2_with fail
            refine bodyPost_ret (results_tmp3 rfl _ _ _) rfl ?_
            exact HBAD.out
          · have h127' : ¬ (127 : Int) < (u : Int) := by omega
            clear h127
            go_wp2_with fail
            refine bodyPost_ret (results_tmp3 rfl _ _ _) rfl ?_
            exact HBAD.out
    · obtain rfl : i = n := by omega
      have hii : ¬ (i : Int) < (i : Int) := by omega
      have hD : RFillsQ x hs w (.returned (.tuple #[.int .u64 y, .slice al i cl, .int .i64 0])) wr := by
        have h := hF
        have e := HN.out
        subst e
        exact h.done
      have HD := Lib.hid hD
      clear hD hF
      go_wp2_with fail
      refine bodyPost_ret (results_tmp3 rfl _ _ _) rfl ?_
      exact HD.out
end Go.Proofs
