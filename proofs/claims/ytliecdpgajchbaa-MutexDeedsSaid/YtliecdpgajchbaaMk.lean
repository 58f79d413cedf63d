/- ring; Ring. -/
import Derived.Test.YtliecdpgajchbaaMj
namespace Go.Proofs
open Go.RowKit Go.Shelf
attribute [local go_sem] Oper.semAt_some

theorem ints_none (W : World) : IntsAt W (.slice none 0 0) [] := ⟨rfl, none, 0, rfl, Nat.le_refl _, Nat.zero_le _, fun _ => rfl, fun j hj => by simp [intVals] at hj⟩
/-- Who is followed from whom, up to the first one. -/
def chase (f : Int → Int) (first : Int) : Nat → Int → Option (List Int)
  | 0, _ => none
  | n + 1, cur => if f cur < 0 then none else if f cur = first then some [cur] else (chase f first n (f cur)).map (cur :: ·)
def ringG (f : Int → Int) : Nat → Nat → List Int
  | 0, _ => []
  | n + 1, k => match chase f k 8 k with
    | some l => l
    | none => ringG f n (k + 1)
def nxB (ms : List Mx) (g : Int) : Int := aheadB ms g - 1
def ringB (ms : List Mx) : List Int := ringG (nxB ms) 8 0
theorem ahead_le {ms : List Mx} (hr : rightB ms = true) (g : Int) : 0 ≤ aheadB ms g ∧ aheadB ms g ≤ 8 := by
  obtain ⟨_, h1, _⟩ := (rightB_iff ms).1 hr
  unfold aheadB
  split
  · omega
  · unfold ownAt
    cases h : ms[(waitsB ms g).toNat]? with
    | none => simp [default]; exact ⟨by decide, by decide⟩
    | some m =>
      have h2 := (h1 m (List.mem_of_getElem? h)).1
      simp [okB] at h2
      simp
      omega
theorem ringG_some {f : Int → Int} {n k : Nat} {l : List Int} (h : chase f k 8 k = some l) : ringG f (n + 1) k = l := by
  rw [ringG, h]
theorem ringG_none {f : Int → Int} {n k : Nat} (h : chase f k 8 k = none) : ringG f (n + 1) k = ringG f n (k + 1) := by
  rw [ringG, h]
theorem chase_stop {f : Int → Int} {first : Int} {n : Nat} {cur : Int} (h : f cur < 0) : chase f first (n + 1) cur = none := by
  rw [chase, if_pos h]
theorem chase_back {f : Int → Int} {first : Int} {n : Nat} {cur : Int} (h : ¬ f cur < 0) (h2 : f cur = first) : chase f first (n + 1) cur = some [cur] := by
  rw [chase, if_neg h, if_pos h2]
theorem chase_on {f : Int → Int} {first : Int} {n : Nat} {cur : Int} (h : ¬ f cur < 0) (h2 : ¬ f cur = first) : chase f first (n + 1) cur = (chase f first n (f cur)).map (cur :: ·) := by
  rw [chase, if_neg h, if_neg h2]

set_option maxRecDepth 100000 in
set_option maxHeartbeats 2000000 in
theorem Try.ring_any (a : Option Addr) (n cap : Nat) (ms : List Mx) (hr : rightB ms = true) (w : World) (hI : MxAt w (.slice a n cap) ms) :
    Calls Try.prog 40 #[.slice a n cap] w fun e w' => ∃ b c, e = .returned (.slice b (ringB ms).length c) ∧ IntsAt w' (.slice b (ringB ms).length c) (ringB ms) ∧ Below w.heap.size w w' := by
  have hC := Try.ahead_any a n cap ms hr w hI
  have hle := ahead_le hr
  have hrg : ringB ms = ringG (nxB ms) 8 0 := rfl
  obtain ⟨f, hf⟩ : ∃ f, f = nxB ms := ⟨_, rfl⟩
  obtain ⟨q, hq⟩ : ∃ q : Nat → Int, q = fun k : Nat => aheadB ms k := ⟨_, rfl⟩
  have hfq : ∀ k : Nat, f k = q k - 1 := fun k => by rw [hf, hq]; rfl
  have hql : ∀ k : Nat, 0 ≤ q k ∧ q k ≤ 8 := fun k => by rw [hq]; exact hle k
  rw [← hq] at hC
  rw [← hf] at hrg
  generalize ringB ms = R at *
  have HC := Lib.hid hC
  have HRG := Lib.hid hrg
  have HFQ := Lib.hid hfq
  have HQL := Lib.hid hql
  clear hC hI hle hf hq hrg hfq hql hr
  go_enter Try.func40, Try.ntmps40
  go_wp2_with fail
  go_step3
  go_wp2_with fail
  refine HC.out.mono ?_
  rintro e w2 ⟨rfl, hB2⟩
  unfold arr8I
  go_wp2_with fail
  go_step3
  go_wp2_with fail
  have r0 : Rows8 ((w2.alloc (.cells (arr8I q) 84)).alloc (.cells (arr8I fun _ => 0) 84)) w2.heap.size 84 (arr8I q) := (Rows8.new w2 _ _).alloc _
  have r1 := Rows8.new (w2.alloc (.cells (arr8I q) 84)) 84 (arr8I fun _ => 0)
  rw [World.size_alloc] at r1
  have hB3 := (hB2.alloc hB2.size (.cells (arr8I q) 84)).alloc (by have := hB2.size; simp; omega) (.cells (arr8I fun _ => 0) 84)
  have e0 : (#[.int .i64 (q 0), .int .i64 (q 1), .int .i64 (q 2), .int .i64 (q 3), .int .i64 (q 4), .int .i64 (q 5), .int .i64 (q 6), .int .i64 (q 7)] : Array Value) = arr8I q := rfl
  have e1 : (#[.int .i64 0, .int .i64 0, .int .i64 0, .int .i64 0, .int .i64 0, .int .i64 0, .int .i64 0, .int .i64 0] : Array Value) = arr8I (fun _ => 0) := rfl
  rw [e0, e1]
  generalize ((w2.alloc (.cells (arr8I q) 84)).alloc (.cells (arr8I fun _ => 0) 84)) = W0 at *
  obtain ⟨B, hBe⟩ : ∃ B, B = w2.heap.size := ⟨_, rfl⟩
  have hBw : w.heap.size ≤ B := by rw [hBe]; exact hB2.size
  rw [← hBe] at r0 r1 ⊢
  have R0 := Lib.hid r0
  have R1 := Lib.hid r1
  have HB3 := Lib.hid hB3
  clear r0 r1 hB3 hB2 e0 e1 hBe
  go_loopw [10] (fun j wr => ∃ (k : Nat) (r : Nat → Int), k ≤ 8 ∧ j = .int .i64 k ∧ Hid (R = ringG f (8 - k) k) ∧ Rows8 wr B 84 (arr8I q) ∧ Rows8 wr (B + 1) 84 (arr8I r) ∧ Below w.heap.size w wr) (fun j _ => 8 - (intOf j).toNat)
  case atStart => exact ⟨0, _, Nat.zero_le _, rfl, Lib.hid HRG.out, R0.out, R1.out, HB3.out⟩
  case round =>
    obtain ⟨k, r, hk, rfl, hx, h0, h1, hB⟩ := hrel
    by_cases hlt : k < 8
    · have hki : (k : Int) < 8 := by omega
      have hyes := fun l => @ringG_some f (7 - k) k l
      have hno := @ringG_none f (7 - k) k
      rw [show 7 - k + 1 = 8 - k by omega, ← hx.out] at hno
      have hyes2 : ∀ l, chase f k 8 k = some l → R = l := fun l h => by
        have h2 := hyes l h
        rw [show 7 - k + 1 = 8 - k by omega, ← hx.out] at h2
        exact h2
      have HNO := Lib.hid hno
      have HYES := Lib.hid hyes2
      have HX0 := Lib.hid h0
      have HX1 := Lib.hid h1
      have HBB := Lib.hid hB
      clear hyes hno hyes2 h0 h1 hB hx
      obtain ⟨we, rfl⟩ : ∃ x, x = wr := ⟨_, rfl⟩
      go_wp2_with fail
      go_loopw [6, 14] (fun g j wr => ∃ (m c : Nat) (r : Nat → Int) (l : List Int), m ≤ 8 ∧ j = .int .i64 m ∧ g = .int .i64 c ∧ c < 8 ∧ l.length = m ∧ (∀ i, i < m → r i = l[i]?.getD 0) ∧ Hid (chase f k 8 k = (chase f k (8 - m) c).map (l ++ ·)) ∧ Rows8 wr B 84 (arr8I q) ∧ Rows8 wr (B + 1) 84 (arr8I r) ∧ Below w.heap.size w wr) (fun _ j _ => 8 - (intOf j).toNat)
      case atStart => exact ⟨0, k, r, [], Nat.zero_le _, rfl, rfl, hlt, rfl, fun i hi => absurd hi (Nat.not_lt_zero _), Lib.hid (by simp), HX0.out, HX1.out, HBB.out⟩
      case round =>
        obtain ⟨m, c, r, l, hm, rfl, rfl, hc8, hlm, hrl, hch, h0, h1, hB⟩ := hrel
        by_cases hml : m < 8
        · have hmi : (m : Int) < 8 := by omega
          have hci : (c : Int) < 8 := by omega
          have cm := h1.cell m
          have fm := h1.frozen m
          rw [arr8I_get _ m hml] at cm
          have cc := h0.cell c
          rw [arr8I_get _ c hc8] at cc
          have s0 := h0.setOther (a := ⟨B + 1, m, none⟩) (by simp) (.int .i64 (c : Int))
          have s1 := h1.setI m hml (c : Int)
          have hB2 := hB.setCell (p := ⟨B + 1, m, none⟩) (by simp; omega) (.int .i64 (c : Int))
          have cc2 := s0.cell c
          rw [arr8I_get _ c hc8] at cc2
          have hql := HQL.out c
          have hfq := HFQ.out c
          have hr2 : ∀ i, i < m + 1 → (fun n => if n = m then (c : Int) else r n) i = (l ++ [(c : Int)])[i]?.getD 0 := fun i hi => by
            dsimp only
            by_cases e : i = m
            · subst e
              rw [if_pos rfl, List.getElem?_append_right (by omega), hlm, Nat.sub_self]
              rfl
            · rw [if_neg e, hrl i (by omega), List.getElem?_append_left (by omega)]
          have hstop := @chase_stop f (k : Int) (7 - m) (c : Int)
          have hback := @chase_back f (k : Int) (7 - m) (c : Int)
          have hon := @chase_on f (k : Int) (7 - m) (c : Int)
          rw [show 7 - m + 1 = 8 - m by omega, hfq] at hstop hback hon
          have hch1 := hch.out
          have HSTOP : Hid (q c - 1 < 0 → chase f k 8 k = none) := Lib.hid (fun h => by rw [hch1, hstop h]; rfl)
          have HBACK : Hid (¬ q c - 1 < 0 → q c - 1 = (k : Int) → chase f k 8 k = some (l ++ [(c : Int)])) := Lib.hid (fun h h2 => by rw [hch1, hback h h2]; rfl)
          have HON : Hid (¬ q c - 1 < 0 → ¬ q c - 1 = (k : Int) → chase f k 8 k = (chase f k (8 - (m + 1)) (q c - 1)).map (l ++ [(c : Int)] ++ ·)) := Lib.hid (fun h h2 => by
            rw [hch1, hon h h2, Option.map_map, show 7 - m = 8 - (m + 1) by omega]
            congr 1
            funext y
            simp)
          have S0 := Lib.hid s0
          have S1 := Lib.hid s1
          have HB2 := Lib.hid hB2
          have HR2 := Lib.hid hr2
          have HLM := Lib.hid hlm
          clear s0 s1 hB2 hr2 hlm hrl hstop hback hon hch1 hch h0 h1 hB hfq
          generalize q c = z at *
          have hw1 : IntKind.i64.wrap (z - 1) = z - 1 := IntWalk.i64_in _ (by omega)
          by_cases hz : z - 1 < 0
          · have hr := HNO.out (HSTOP.out hz)
            have HR := Lib.hid hr
            clear hr
            go_wp2_with fail
            exact ⟨⟨k + 1, _, by omega, by go_num, by rw [show 8 - (k + 1) = 7 - k by omega]; exact HR, S0.out, S1.out, HB2.out⟩, by simp [intOf]; omega⟩
          · by_cases hzk : z - 1 = (k : Int)
            · have hr := HYES.out _ (HBACK.out hz hzk)
              have hq : (z - 1 == (k : Int)) = true := by simp [hzk]
              have hlen : Hid (m + 1 = R.length) := Lib.hid (by rw [hr, List.length_append, HLM.out]; rfl)
              have HR := Lib.hid hr
              have hm8 : m + 1 ≤ 8 := by omega
              have hsl : ∀ x : World, (Instr.sliceAt 84 (.pointer (some ⟨B + 1, 0, none⟩)) none (some (.int .i64 ((m : Int) + 1))) (some (.int .i64 ((m : Int) + 1)))).run Try.prog x = .ok (.slice (some ⟨B + 1, 0, none⟩) (m + 1) (m + 1)) x := fun x => by
                rw [run_sliceAt_array_hm x 84 ⟨B + 1, 0, none⟩ Try.underlying84 .i64 .i64 _ _ (by omega) (Int.le_refl _) (by show (m : Int) + 1 ≤ 8; omega)]
                simp [go_sem, Addr.add]
              clear hr hzk
              go_wp2_with fail
              first | rw [Exit.noGoto_ret] | skip
              go_ret
              refine ⟨some ⟨B + 1, 0, none⟩, m + 1, by rw [← hlen.out]; rfl, ?_, HB2.out⟩
              rw [← hlen.out, HR]
              exact arr8I_cut S1.out (by rw [List.length_append, HLM.out]; rfl) hm8 HR2.out
            · have hq : (z - 1 == (k : Int)) = false := by simp [hzk]
              have hn := HON.out hz hzk
              obtain ⟨c', hc'⟩ : ∃ c' : Nat, z - 1 = (c' : Int) := ⟨(z - 1).toNat, by omega⟩
              have hc8' : c' < 8 := by omega
              rw [hc'] at hn
              have HNX := Lib.hid hn
              have HC' := Lib.hid hc'
              clear hn hc' hzk
              go_wp2_with fail
              exact ⟨⟨m + 1, c', _, _, by omega, by go_num, by rw [HC'.out], hc8', by rw [List.length_append, HLM.out]; rfl, HR2.out, HNX, S0.out, S1.out, HB2.out⟩, by simp [intOf]; omega⟩
        · obtain rfl : m = 8 := by omega
          have hr := HNO.out (by rw [hch.out]; rfl)
          have HR := Lib.hid hr
          clear hr
          go_wp2_with fail
          exact ⟨⟨k + 1, _, by omega, by go_num, by rw [show 8 - (k + 1) = 7 - k by omega]; exact HR, h0, h1, hB⟩, by simp [intOf]; omega⟩
    · obtain rfl : k = 8 := by omega
      have hr : Hid (R = []) := Lib.hid hx.out
      have HB := Lib.hid hB
      clear h0 h1 hB hx
      go_wp2_with fail
      first | rw [Exit.noGoto_ret] | skip
      go_ret
      refine ⟨none, 0, by rw [hr.out]; rfl, ?_, HB.out⟩
      rw [hr.out]
      exact ints_none _

/-- .. of mutexes that may be. -/
def ringR (ms : List Mx) : List Int := if rightB ms = true then ringB ms else []
set_option maxHeartbeats 1000000 in
theorem Try.Ring_any (a : Option Addr) (n cap : Nat) (ms : List Mx) (w : World) (hI : MxAt w (.slice a n cap) ms) :
    Calls Try.prog 21 #[.slice a n cap] w fun e w' => ∃ b c, e = .returned (.slice b (ringR ms).length c) ∧ IntsAt w' (.slice b (ringR ms).length c) (ringR ms) ∧ Below w.heap.size w w' := by
  have hC := Try.Check_any a n cap ms w hI
  have hW := fun h w' (hb : Below w.heap.size w w') => Try.ring_any a n cap ms h w' (hI.below hb)
  have he : errB ms = if rightB ms = true then 0 else 150 := rfl
  have hr : ringR ms = if rightB ms = true then ringB ms else [] := rfl
  rw [hr]
  cases hq : rightB ms with
  | true =>
    rw [hq, if_pos rfl] at he
    rw [he] at hC
    rw [if_pos rfl]
    have HC := Lib.hid hC
    have HW := Lib.hid (hW hq)
    clear hC hW he hr hq hI
    go_enter Try.func21, Try.ntmps21
    go_wp2_with fail
    refine HC.out.mono ?_
    rintro e w' ⟨rfl, hB⟩
    have HB := Lib.hid hB
    clear hB
    go_wp2_with fail
    refine (HW.out _ HB.out).mono ?_
    rintro e w' ⟨b, c, rfl, hR, hB⟩
    have HB2 := Lib.hid (HB.out.trans (hB.mono HB.out.size))
    have HR := Lib.hid hR
    clear hB hR
    go_wp2_with fail
    go_ret
    exact ⟨_, _, rfl, HR.out, HB2.out⟩
  | false =>
    rw [hq, if_neg (by decide)] at he
    rw [he] at hC
    rw [if_neg (by decide)]
    have HC := Lib.hid hC
    clear hC hW he hr hq hI
    go_enter Try.func21, Try.ntmps21
    go_wp2_with fail
    refine HC.out.mono ?_
    rintro e w' ⟨rfl, hB⟩
    have HB := Lib.hid hB
    clear hB
    go_wp2_with fail
    go_ret
    exact ⟨none, 0, rfl, ints_none _, HB.out⟩
end Go.Proofs
