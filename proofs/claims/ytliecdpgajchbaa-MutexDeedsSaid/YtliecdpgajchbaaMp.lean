/- A hand: at, ask, leave. -/
import Derived.Test.YtliecdpgajchbaaMo
namespace Go.Proofs
open Go.RowKit Go.Shelf
attribute [local go_sem] Oper.semAt_some

theorem rows_ne {W : World} {A B : Nat} {t u : TypeId} {cs ds : Array Value} (h : Rows8 W A t cs) (k : Rows8 W B u ds) (hne : t ≠ u) : A ≠ B := by
  rintro rfl
  have k' : W.heap[A]? = _ := k
  rw [show W.heap[A]? = _ from h] at k'
  injection k' with h1
  injection h1 with _ h2 _
  exact hne h2
theorem row_rows {W : World} {n₀ : Nat} {e : TypeId} {g n m : Nat} {vs : List Value} (h : W.ownsRow n₀ e 2 (.slice (some ⟨g, 0, none⟩) n n) m vs) : n = m ∧ n₀ ≤ g ∧ Rows8 W g e vs.toArray := by
  rcases h.2 with ⟨e, _⟩ | ⟨g', cap, cur, e, hb, hh, hl, hm, hz, ht⟩
  · cases e
  · injection e with e1 e2 e3
    injection e1 with e1
    cases e1
    subst e3
    refine ⟨e2, hb, ?_⟩
    rw [← e2, List.take_of_length_le (by rw [Array.length_toList, hz]; exact Nat.le_refl _)] at ht
    rw [← ht]
    exact hh
/-- Who waits, anew, behind what turned its own block alone. -/
theorem OwnM.turnQ {n₀ : Nat} {ms : List Mx} {g n : Nat} {vs : List Value} {W W1 : World} (h : OwnM n₀ ms (.slice (some ⟨g, 0, none⟩) n n) vs W) (i : Nat) (hi : i < ms.length) (old : Value) (hold : vs[i * 2 + 1]? = some old) (hg : W.grownBy W1 old.ownBlock) (q : List Int) (qv : Value) (ho : OwnQ n₀ q qv W1)
    (hnew : qv.ownBlock = old.ownBlock ∨ ∀ j, qv.ownBlock = some j → W.heap.size ≤ j) :
    OwnM n₀ (ms.set i ⟨ms[i].own, q⟩) (.slice (some ⟨g, 0, none⟩) n n) (vs.set (i * 2 + 1) qv) (W1.setCell ⟨g, i * 2 + 1, none⟩ qv) ∧ (W1.frozen? ⟨g, i * 2 + 1, none⟩ = false ∧ W1.cell? ⟨g, i * 2 + 1, none⟩ = some old ∧ Rows8 W1 g 53 vs.toArray) := by
  have hr0 := h.rowNe i old hi hold
  have hrk : (Value.slice (some ⟨g, 0, none⟩) n n).ownBlock = none ∨ (Value.slice (some ⟨g, 0, none⟩) n n).ownBlock ≠ old.ownBlock := by
    refine .inr fun e => ?_
    rcases hr0 with h1 | h1
    · rw [h1] at e
      cases e
    · exact h1 e.symm
  have hrow1 := World.ownsRow.kept h.row hg hrk
  obtain ⟨hn, hbg, hrr⟩ := row_rows hrow1
  subst hn
  have hl : (ms.set i ⟨ms[i].own, q⟩).length = ms.length := List.length_set ..
  have hvl : vs.length = ms.length * 2 := h.row.1
  have hqn : qv.ownBlock = none ∨ qv.ownBlock ≠ some g := ownQ_row ho hrow1 (by decide)
  have hkeep : ∀ k (hk : k < ms.length), k ≠ i → ∃ qk, vs[k * 2 + 1]? = some qk ∧ OwnQ n₀ ms[k].q qk W1 ∧ (qv.ownBlock = none ∨ qv.ownBlock ≠ qk.ownBlock) ∧ (qk.ownBlock = none ∨ qk.ownBlock ≠ some g) := fun k hk hne => by
    obtain ⟨qk, e1, hok⟩ := h.que k hk
    refine ⟨qk, e1, hok.kept hg (h.apart k i qk old hk hi hne e1 hold), ?_, h.rowNe k qk hk e1⟩
    rcases hnew with h2 | h2
    · rw [h2]
      exact h.apart i k old qk hi hk (fun e => hne e.symm) hold e1
    · cases ej : qv.ownBlock with
      | none => exact .inl rfl
      | some j =>
        refine .inr fun e2 => ?_
        have := (hok.lt j e2.symm).2
        have := h2 j ej
        omega
  refine ⟨⟨by rw [hl]; exact (hrow1.stored (i * 2 + 1) _).1, fun k hk => ?_, fun k hk => ?_, fun k j a b hk hj hne ha hb => ?_⟩, hrr.frozen _, by rw [hrr.cell, List.getElem?_toArray]; exact hold, hrr⟩
  · rw [hl] at hk
    rw [getD_set_ne (by omega), h.own k hk]
    by_cases e : i = k
    · subst e
      simp
    · rw [List.getElem_set_ne e]
  · rw [hl] at hk
    by_cases e : i = k
    · subst e
      refine ⟨qv, by simp [hvl, show i * 2 + 1 < ms.length * 2 by omega], ?_⟩
      simpa using ho.kept (grownBy_set W1 g (i * 2 + 1) qv) hqn
    · obtain ⟨qk, e1, hok, _, hq⟩ := hkeep k hk (fun e2 => e e2.symm)
      refine ⟨qk, by rw [getD_set_ne (by omega)]; exact e1, ?_⟩
      rw [List.getElem_set_ne e]
      exact hok.kept (grownBy_set W1 g (i * 2 + 1) qv) hq
  · rw [hl] at hk hj
    by_cases ek : i = k
    · subst ek
      rw [getD_set_ne (by omega)] at hb
      rw [List.getElem?_set_self (by omega)] at ha
      cases ha
      obtain ⟨qk, e1, _, h3, _⟩ := hkeep j hj (fun e2 => hne e2.symm)
      rw [hb] at e1
      cases e1
      exact h3
    · rw [getD_set_ne (by omega)] at ha
      by_cases ej : i = j
      · subst ej
        rw [List.getElem?_set_self (by omega)] at hb
        cases hb
        obtain ⟨qk, e1, _, h3, _⟩ := hkeep k hk (fun e2 => ek e2.symm)
        rw [ha] at e1
        cases e1
        rcases h3 with h3 | h3
        · rw [h3]
          cases a.ownBlock <;> simp
        · exact .inr fun e => h3 e.symm
      · rw [getD_set_ne (by omega)] at hb
        exact h.apart k j a b hk hj hne ha hb

/-- Blocks of other kinds are as they were. -/
def Spare (A B : World) : Prop := ∀ b t cs, Rows8 A b t cs → t ≠ 53 → 3 ≠ t → Rows8 B b t cs
theorem spare_below {h : Nat} {A B : World} (p : Below h A B) (hA : A.heap.size ≤ h) : Spare A B := fun _ _ _ hR _ _ => hR.below p (Nat.lt_of_lt_of_le hR.lt hA)
theorem spare_set {W : World} {r : Nat} {cs : Array Value} (h : Rows8 W r 53 cs) (o : Nat) (u : Value) : Spare W (W.setCell ⟨r, o, none⟩ u) := fun _ _ _ hR h1 _ => hR.setOther (a := ⟨r, o, none⟩) (rows_ne h hR (fun e => h1 e.symm)) u
theorem spare_grown {W W' : World} {n₀ : Nat} {q : List Int} {v : Value} (h : OwnQ n₀ q v W) (hg : W.grownBy W' v.ownBlock) : Spare W W' := fun b _ _ hR _ h2 => (hg.block b hR.lt (fun e => h.ne hR h2 e.symm)).trans hR
theorem Spare.trans {A B C : World} (p : Spare A B) (q : Spare B C) : Spare A C := fun b t cs h h1 h2 => q b t cs (p b t cs h h1 h2) h1 h2
/-- What may be asked of. -/
def argB (ms : List Mx) (which goer : Int) : Bool := decide (0 ≤ which ∧ which < ms.length) && goerB goer
def atM (ms : List Mx) (which : Int) : Mx := ms[which.toNat]?.getD default
def askE (ms : List Mx) (which goer : Int) : Int := if argB ms which goer = true then (if (atM ms which).own = goer + 1 ∨ waitsB ms goer ≠ -1 then 151 else 0) else 2
def askS (ms : List Mx) (which goer : Int) : List Mx := ms.set which.toNat (if (atM ms which).own = 0 then ⟨goer + 1, (atM ms which).q⟩ else ⟨(atM ms which).own, (atM ms which).q ++ [goer]⟩)
def leaveE (ms : List Mx) (which goer : Int) : Int := if argB ms which goer = true then (if (atM ms which).own = goer + 1 then 0 else 4) else 2
def leaveX (q : List Int) : Mx := match q with
  | [] => ⟨0, []⟩
  | z :: t => ⟨z + 1, t⟩
def leaveS (ms : List Mx) (which : Int) : List Mx := ms.set which.toNat (leaveX (atM ms which).q)
theorem argB_iff {ms : List Mx} {which goer : Int} : argB ms which goer = true ↔ (0 ≤ which ∧ which < ms.length) ∧ 0 ≤ goer ∧ goer ≤ 7 := by
  simp [argB, goerB]
theorem atM_eq {ms : List Mx} {k : Nat} (h : k < ms.length) : atM ms (k : Int) = ms[k] := by
  unfold atM
  rw [Int.toNat_natCast, List.getElem?_eq_getElem h]
  rfl

def panic1 (n : Int) : List PanicEntry := [{ v := .iface 27 (.int .i64 n), recovered := false }]
set_option maxHeartbeats 1000000 in
theorem Try.at_any (which goer : Int) (H r n : Nat) (p : Value) (ms : List Mx) (hn : n = ms.length) (w : World) (hH : Rows8 w H 67 #[.slice (some ⟨r, 0, none⟩) n n, p]) :
    Calls Try.prog 59 #[.pointer (some ⟨H, 0, none⟩), .int .i64 which, .int .i64 goer] w fun e w' => ((argB ms which goer = true ∧ e = .returned (.pointer (some ⟨r, which.toNat * 2, none⟩))) ∨ (argB ms which goer = false ∧ e = .panicked (panic1 2))) ∧ w = w' := by
  have c0 : w.cell? ⟨H, 0, none⟩ = some (.slice (some ⟨r, 0, none⟩) n n) := hH.cell 0
  have hHl := hH.lt
  have hb : argB ms which goer = (decide (0 ≤ which ∧ which < n) && goerB goer) := by rw [hn]; rfl
  have HB := Lib.hid hb
  generalize argB ms which goer = R at *
  clear hH hb hn
  by_cases h1 : which < 0
  · have hR : Hid (R = false) := Lib.hid (by rw [HB.out, decide_eq_false (by omega)]; rfl)
    go_enter Try.func59, Try.ntmps59
    go_wp2_with fail
    exact ⟨rfl, .inr ⟨hR.out, rfl⟩, rfl⟩
  by_cases h2 : (n : Int) ≤ which
  · have hR : Hid (R = false) := Lib.hid (by rw [HB.out, decide_eq_false (by omega)]; rfl)
    go_enter Try.func59, Try.ntmps59
    go_wp2_with fail
    exact ⟨rfl, .inr ⟨hR.out, rfl⟩, rfl⟩
  obtain ⟨k, rfl⟩ : ∃ k : Nat, which = (k : Int) := ⟨which.toNat, by omega⟩
  have hki : ¬ (n : Int) ≤ (k : Int) := h2
  have hk2 : (k : Int) < (n : Int) := by omega
  have hR : Hid (R = goerB goer) := Lib.hid (by rw [HB.out, decide_eq_true (by omega), Bool.true_and])
  rw [Int.toNat_natCast]
  clear HB h1 h2
  cases hg : goerB goer with
  | false =>
    rw [hg] at hR
    go_enter Try.func59, Try.ntmps59
    go_wp2_with fail
    refine (Try.noGoer_any goer w).mono ?_
    rintro e w' ⟨rfl, rfl⟩
    rw [hg]
    clear hg
    go_wp2_with fail
    exact ⟨rfl, .inr ⟨hR.out, rfl⟩, rfl⟩
  | true =>
    rw [hg] at hR
    go_enter Try.func59, Try.ntmps59
    go_wp2_with fail
    refine (Try.noGoer_any goer w).mono ?_
    rintro e w' ⟨rfl, rfl⟩
    rw [hg]
    clear hg
    go_wp2_with fail
    go_ret
    exact ⟨.inl ⟨hR.out, rfl⟩, rfl⟩

theorem wpList_append_q (w : World) {ops : Array Oper} {rest : List Oper} {o : Oper} {a : Act} {Q : Exit → Act → World → Prop} (hgd : o.guard = none) (s x : Operand)
    (ho : o.op = .call { callee := .builtin .append, args := #[s, x], argTypes := #[23, 23] }) (n₀ : Nat) (q : List Int) (v : Value) (hs : a.eval s = v) (hown : OwnQ n₀ q v w) (z : Int) (src : Value) (hx : a.eval x = src) (hr : RowAt w src 1 1 [.int .i64 z]) (hl : q.length + 1 ≤ 100000) (hbase : n₀ ≤ w.heap.size)
    (h : ∀ v' w', OwnQ n₀ (q ++ [z]) v' w' → w.grownBy w' v.ownBlock → (v'.ownBlock = v.ownBlock ∨ ∀ j, v'.ownBlock = some j → w.heap.size ≤ j) → wpList Try.prog ops Q rest (a.put o.dst v') w') : wpList Try.prog ops Q (o :: rest) a w :=
  wpList_plain hgd fun K hK => by
    obtain ⟨v', w', hrun, h2, h3, h4⟩ := run_append_q w n₀ o.type q v hown z src hr hl hbase
    unfold Oper.wp execOp
    simp only [ho, resolve, invoke, builtin, Sem.run_bind, Sem.run_pure, Result.andThen_ok, List.map_toArray, List.map_cons, List.map_nil, hs, hx, hrun]
    exact hK _ _ (h v' w' h2 h3 h4)

theorem waitsP_two (ms : List Mx) (g : Int) : (waitsP ms g).2 = decide (waitsB ms g ≠ -1) := by
  unfold waitsP
  split <;> simp [*]
set_option maxHeartbeats 2000000 in
theorem Try.ask_any (which goer : Int) (H r n n₀ : Nat) (p : Value) (ms : List Mx) (hs : (flatQ ms).length ≤ 10000) (w : World) (hH : Rows8 w H 67 #[.slice (some ⟨r, 0, none⟩) n n, p]) (hO : OwnsM n₀ ms (.slice (some ⟨r, 0, none⟩) n n) w) :
    Calls Try.prog 43 #[.pointer (some ⟨H, 0, none⟩), .int .i64 which, .int .i64 goer] w fun e w' =>
      (askE ms which goer = 0 ∧ e = .returned (.tuple #[]) ∧ Rows8 w' H 67 #[.slice (some ⟨r, 0, none⟩) n n, p] ∧ OwnsM n₀ (askS ms which goer) (.slice (some ⟨r, 0, none⟩) n n) w' ∧ Below n₀ w w' ∧ Spare w w') ∨
      (askE ms which goer ≠ 0 ∧ e = .panicked (panic1 (askE ms which goer)) ∧ Below w.heap.size w w') := by
  obtain ⟨vs, hO⟩ := hO
  obtain ⟨hn, hn0, hr8⟩ := hO.rows
  have hat := Try.at_any which goer H r n p ms hn w hH
  have hMx := hO.at
  have hww := fun W (hB : Below w.heap.size w W) => Try.waits_any goer (some ⟨r, 0, none⟩) n n ms W (hMx.below hB)
  have HAT := Lib.hid hat
  have HW := Lib.hid hww
  cases hb : argB ms which goer with
  | false =>
    have he : Hid (askE ms which goer = 2) := Lib.hid (by unfold askE; rw [hb]; rfl)
    generalize askE ms which goer = E at *
    have HB := Lib.hid hb
    clear hat hww hMx hO hH hb
    go_enter Try.func43, Try.ntmps43
    go_wp2_with fail
    refine HAT.out.mono ?_
    rintro e w' ⟨(⟨h1, rfl⟩ | ⟨h1, rfl⟩), rfl⟩
    · rw [HB.out] at h1
      cases h1
    clear h1
    go_wp2_with fail
    exact ⟨rfl, .inr ⟨by rw [he.out]; decide, by rw [he.out], Below.refl _ _⟩⟩
  | true =>
    obtain ⟨⟨hw1, hw2⟩, hg1, hg2⟩ := argB_iff.1 hb
    obtain ⟨k, rfl⟩ : ∃ k : Nat, which = (k : Int) := ⟨which.toNat, by omega⟩
    have hk : k < ms.length := by omega
    rw [Int.toNat_natCast] at hat HAT
    have hm := atM_eq hk
    have hE : askE ms k goer = if ms[k].own = goer + 1 ∨ waitsB ms goer ≠ -1 then 151 else 0 := by unfold askE; rw [if_pos hb, hm]
    have hS : askS ms k goer = ms.set k (if ms[k].own = 0 then ⟨goer + 1, ms[k].q⟩ else ⟨ms[k].own, ms[k].q ++ [goer]⟩) := by unfold askS; rw [hm, Int.toNat_natCast]
    have hof := fun W (hB : Below w.heap.size w W) => Try.isOf_any k goer (by omega) (some ⟨r, 0, none⟩) n n ms hk W (hMx.below hB)
    have hcs := fun W (h : OwnM n₀ ms (.slice (some ⟨r, 0, none⟩) n n) vs W) => h.cells k hk
    have hso := fun W (h : OwnM n₀ ms (.slice (some ⟨r, 0, none⟩) n n) vs W) o => h.setOwn hn k hk o
    have htq := fun W W1 (h : OwnM n₀ ms (.slice (some ⟨r, 0, none⟩) n n) vs W) old e1 (hg : W.grownBy W1 old.ownBlock) q qv ho hne => h.turnQ k hk old e1 hg q qv ho hne
    have hql := qlen_le ms k hk
    have hwp := waitsP_two ms goer
    generalize ms[k] = m at *
    obtain ⟨o, q⟩ := m
    dsimp only at hE hS hof hcs hso htq hql
    generalize waitsP ms goer = wp at *
    obtain ⟨wp1, wp2⟩ := wp
    dsimp only at hwp HW
    generalize askE ms k goer = E at *
    generalize askS ms k goer = S at *
    have HOF := Lib.hid hof
    have HCS := Lib.hid hcs
    have HSO := Lib.hid hso
    have HTQ := Lib.hid htq
    have HE := Lib.hid hE
    have HS := Lib.hid hS
    have HO := Lib.hid hO
    have HH := Lib.hid hH
    have HB := Lib.hid hb
    have HWP := Lib.hid hwp
    have hrl := hr8.lt
    have hHr : Hid (H ≠ r) := Lib.hid (rows_ne hH hr8 (by decide))
    have hq9 : q.length + 1 ≤ 100000 := by omega
    have hki : (k : Int) < (n : Int) := by omega
    have hn0w : n₀ ≤ w.heap.size := by omega
    clear hat hww hMx hO hH hb hof hcs hso htq hE hS hm hwp hr8 hn hw1 hw2 hs hql hk
    go_enter Try.func43, Try.ntmps43
    go_wp2_with fail
    refine HAT.out.mono ?_
    rintro e w' ⟨(⟨h1, rfl⟩ | ⟨h1, rfl⟩), rfl⟩
    case inr =>
      rw [HB.out] at h1
      cases h1
    clear h1 HAT
    have c0 : w.cell? ⟨H, 0, none⟩ = some (.slice (some ⟨r, 0, none⟩) n n) := HH.out.cell 0
    have hHl := HH.out.lt
    go_wp2_with fail
    refine (HW.out w (Below.refl _ _)).mono ?_
    rintro e w1 ⟨rfl, hB1⟩
    have h1 := HH.out.below hB1 hHl
    have c1 : w1.cell? ⟨H, 0, none⟩ = some (.slice (some ⟨r, 0, none⟩) n n) := h1.cell 0
    have H1 := Lib.hid h1
    have hHl1 := h1.lt
    have HB1 := Lib.hid hB1
    have HO1 := Lib.hid (HO.out.keep hB1 (Nat.le_refl _))
    have hz1 : w.heap.size ≤ w1.heap.size := hB1.size
    clear h1 hB1 c0 HH HO hHl
    cases wp2 with
    | true =>
      have he : Hid (E = 151) := Lib.hid (by rw [HE.out, if_pos (.inr (by simpa using HWP.out))])
      go_wp2_with fail
      exact ⟨rfl, .inr ⟨by rw [he.out]; decide, by rw [he.out]; rfl, HB1.out⟩⟩
    | false =>
      have hwn : Hid (waitsB ms goer = -1) := Lib.hid (by simpa using HWP.out)
      go_wp2_with fail
      refine (HOF.out w1 HB1.out).mono ?_
      rintro e w' ⟨rfl, rfl⟩
      by_cases he : o = goer + 1
      · have hE : Hid (E = 151) := Lib.hid (by rw [HE.out, if_pos (.inl he)])
        rw [decide_eq_true he]
        clear he
        go_wp2_with fail
        exact ⟨rfl, .inr ⟨by rw [hE.out]; decide, by rw [hE.out]; rfl, HB1.out⟩⟩
      · have hE : Hid (E = 0) := Lib.hid (by rw [HE.out, if_neg (by rintro (h | h); exact he h; exact h hwn.out)])
        rw [decide_eq_false he]
        clear he
        obtain ⟨sa, sc, s1, s2, s3, s4, s5, s6, s7⟩ := HCS.out _ HO1.out
        by_cases ho : o = 0
        · have hS : Hid (S = ms.set k ⟨goer + 1, q⟩) := Lib.hid (by rw [HS.out, if_pos ho])
          have hq : (o == 0) = true := by simp [ho]
          have h2 := HSO.out _ HO1.out (goer + 1)
          have h3 := H1.out.setOther (a := ⟨r, k * 2, none⟩) (fun e => hHr.out e.symm) (.int .i64 (goer + 1))
          have hb3 := (HB1.out.mono hn0w).setCell (p := ⟨r, k * 2, none⟩) hn0 (.int .i64 (goer + 1))
          have H2 := Lib.hid h2
          have H3 := Lib.hid h3
          have HB3 := Lib.hid hb3
          have HSP := Lib.hid ((spare_below HB1.out (Nat.le_refl _)).trans (spare_set HO1.out.rows.2.2 (k * 2) (.int .i64 (goer + 1))))
          clear h2 h3 hb3 ho s5 s6
          go_wp2_with fail
          first | go_end0 | refine bodyPost_ret (results_none rfl _ _ _) rfl ?_
          exact .inl ⟨hE.out, rfl, H3.out, ⟨_, by rw [hS.out]; exact H2.out⟩, HB3.out, HSP.out⟩
        · have hS : Hid (S = ms.set k ⟨o, q ++ [goer]⟩) := Lib.hid (by rw [HS.out, if_neg ho])
          have hq : (o == 0) = false := by simp [ho]
          have hBa : Below w1.heap.size w1 (w1.alloc (.cells #[.int .i64 goer] 3)) := Rows8.newB
          have hOa := HO1.out.keep hBa (Nat.le_refl _)
          have hqa := s6.keep hBa (Nat.le_refl _)
          have hHa := H1.out.below hBa hHl1
          have HOA := Lib.hid hOa
          have HQA := Lib.hid hqa
          have HHA := Lib.hid hHa
          have HBA := Lib.hid ((HB1.out.trans (hBa.mono HB1.out.size)).mono hn0w)
          have HV := Lib.hid s5
          have hna : n₀ ≤ (w1.alloc (.cells #[.int .i64 goer] 3)).heap.size := by simp; omega
          clear ho hBa hOa hqa hHa s5 s6
          go_wp2_with (at_builtin; refine wpList_append_q _ rfl _ _ rfl n₀ q (.slice sa q.length sc) rfl HQA.out goer (.slice (some ⟨w1.heap.size, 0, none⟩) 1 1) rfl (rowAt_own (own1 (n₀ := 0) (Rows8.new w1 _ _) (Nat.zero_le _) rfl)) hq9 hna ?_)
          intro v9 w9 hO9 hg9 hb9
          obtain ⟨a9, c9, e9, _⟩ := hO9.form
          rw [List.length_append, List.length_singleton] at e9
          subst e9
          obtain ⟨h9, f9, d9, r9⟩ := HTQ.out _ w9 HOA.out _ HV.out hg9 _ _ hO9 (hb9.imp id (fun h j e => by rw [World.size_alloc]; exact h j e))
          have hne : (Value.slice sa q.length sc).ownBlock ≠ some H := HQA.out.ne HHA.out (by decide)
          have hH9 : Rows8 w9 H 67 #[.slice (some ⟨r, 0, none⟩) n n, p] := (hg9.block H HHA.out.lt (fun e => hne e.symm)).trans HHA.out
          have hH10 := hH9.setOther (a := ⟨r, k * 2 + 1, none⟩) (fun e => hHr.out e.symm) (.slice a9 (q.length + 1) c9)
          have hb10 := (HBA.out.grown hg9 hna (fun j ej => (HQA.out.lt j ej).1)).setCell (p := ⟨r, k * 2 + 1, none⟩) hn0 (.slice a9 (q.length + 1) c9)
          have H9 := Lib.hid h9
          have HSP := Lib.hid ((((spare_below HB1.out (Nat.le_refl _)).trans (spare_below (Rows8.newB (W := w1) (t := 3) (cs := #[.int .i64 goer])) (Nat.le_refl _))).trans (spare_grown HQA.out hg9)).trans (spare_set r9 (k * 2 + 1) (.slice a9 (q.length + 1) c9)))
          have HH10 := Lib.hid hH10
          have HB10 := Lib.hid hb10
          clear h9 hH9 hH10 hb10 hne hO9 hg9 hb9 r9
          go_wp2_with fail
          first | go_end0 | refine bodyPost_ret (results_none rfl _ _ _) rfl ?_
          exact .inl ⟨hE.out, rfl, HH10.out, ⟨_, by rw [hS.out]; exact H9.out⟩, HB10.out, HSP.out⟩
end Go.Proofs
