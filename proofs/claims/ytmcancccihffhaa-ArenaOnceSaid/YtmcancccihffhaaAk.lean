/- Arena: entry after entry. -/
import Derived.Test.YtmcancccihffhaaAj
namespace Go.Proofs
set_option maxRecDepth 100000
open Go.RowKit Go.Shelf
attribute [local go_sem] Oper.semAt_some

theorem eachR_step {E : List Pr → Pr → Int} {S : List Pr → Pr → List Pr} {l : List Pr} {e : Pr} {es : List Pr} : eachR E S l (e :: es) = if E l e = 0 then eachR E S (S l e) es else (E l e, l) := rfl
theorem drop_nextP (l : List Pr) (k : Nat) (h : k < l.length) : l.drop k = l[k] :: l.drop (k + 1) := List.drop_eq_getElem_cons h
set_option maxRecDepth 100000 in
set_option maxHeartbeats 4000000 in
theorem Try.each_any (f : FuncId) (E : List Pr → Pr → Int) (S : List Pr → Pr → List Pr) (inv : List Pr → Prop) (D n₀ : Nat) (l : List Pr) (vs vt : Value) (a : Option Addr) (n c : Nat) (es : List Pr) (hnl : n ≤ 10000) (w₀ w : World)
    (hinv : ∀ l e, inv l → E l e = 0 → inv (S l e)) (eg : ∀ args w, (callFunc f args).run Try.prog w = .ok (.enter f args) w)
    (hstep : ∀ (l : List Pr) (e : Pr) (W : World), inv l → Dr D n₀ l vs vt W → n₀ ≤ W.heap.size → Calls Try.prog f #[.pointer (some ⟨D, 0, none⟩), .agg #[.int .i64 e.1, .int .u64 (e.2 : Nat)]] W (StepQ D n₀ vs vt W (E l e) (S l e)))
    (h0 : inv l) (hD : Dr D n₀ l vs vt w) (hn₀ : n₀ ≤ w.heap.size) (hI : PAt w₀ (.slice a n c) es) (hw : Below w₀.heap.size w₀ w) (hw0 : w₀.heap.size ≤ n₀) :
    Calls Try.prog 24 #[.pointer (some ⟨D, 0, none⟩), .func (.func f) #[.pointer (some ⟨D, 0, none⟩)] #[], .slice a n c] w (StepQ D n₀ vs vt w (eachR E S l es).1 (eachR E S l es).2) := by
  have hn := (pAt_len hI).1
  obtain ⟨R, hR⟩ : ∃ R, R = eachR E S l es := ⟨_, rfl⟩
  rw [← hR]
  have HR := Lib.hid hR
  have HN := Lib.hid hn
  have HI := Lib.hid hI
  have HW := Lib.hid hw
  have HST := Lib.hid hstep
  have HINV := Lib.hid hinv
  have HD := Lib.hid hD
  have H0 := Lib.hid h0
  clear hR hn hI hw hstep hinv hD h0
  go_enter Try.func24, Try.ntmps24
  go_wp2_with fail
  go_loopw [7, 10] (fun _ j wr => ∃ (k : Nat) (lk : List Pr), k ≤ n ∧ j = .int .i64 k ∧ Hid (inv lk) ∧ Hid (R = eachR E S lk (es.drop k)) ∧ Hid (Dr D n₀ lk vs vt wr) ∧ Hid (Below n₀ w wr) ∧ Hid (Ks 52 w wr)) (fun _ j _ => n - (intOf j).toNat)
  case atStart => exact ⟨0, l, Nat.zero_le _, rfl, H0, HR, HD, Lib.hid (Below.refl _ _), Lib.hid (Ks.refl _ _)⟩
  case round =>
    obtain ⟨k, lk, hk, rfl, hin, hr, hd, hb, hks⟩ := hrel
    by_cases hlt : k < n
    · have hkl : k < es.length := by rw [← HN.out]; exact hlt
      have hbw : Below w₀.heap.size w₀ wr := HW.out.trans (hb.out.mono hw0)
      obtain ⟨b, off, rfl, hb2, c0, c1⟩ := pAt_get (PAt.below HI.out hbw) k hkl
      have hr2 := hr.out
      rw [drop_nextP es k hkl, eachR_step] at hr2
      rcases hq : es[k] with ⟨i, g⟩
      rw [hq] at c0 c1 hr2
      dsimp only at c0 c1
      have hal : Below wr.heap.size wr (wr.alloc (.cells #[.int .i64 i, .int .u64 (g : Nat)] 41)) := Rows8.newB
      have hsz := hb.out.size
      have hst := HST.out lk (i, g) (wr.alloc (.cells #[.int .i64 i, .int .u64 (g : Nat)] 41)) hin.out (hd.out.below hal) (by simp; omega)
      have HSTk := Lib.hid hst
      have HR2 := Lib.hid hr2
      have HB2 := Lib.hid (hb.out.trans (hal.mono (Nat.le_trans hn₀ hsz)))
      have HK2 := Lib.hid (hks.out.trans (.of_below hal))
      have HI2 := Lib.hid (HINV.out lk (i, g) hin.out)
      have hki : (k : Int) < (n : Int) := by omega
      clear hq hr2 hst hal hbw hkl hr hd hb hks hin
      go_wp2_with fail
      refine HSTk.out.mono ?_
      rintro e w3 (⟨hE, rfl, hd3, hb3, hk3⟩ | ⟨hE, rfl, hb3, hk3⟩)
      · have HR3 := Lib.hid (show R = eachR E S (S lk (i, g)) (es.drop (k + 1)) by rw [HR2.out, if_pos hE])
        have HD3 := Lib.hid hd3
        have HB3 := Lib.hid (HB2.out.trans hb3)
        have HK3 := Lib.hid (HK2.out.trans hk3)
        have HI3 := Lib.hid (HI2.out hE)
        clear hd3 hb3 hk3 hE
        go_wp2_with fail
        exact ⟨⟨k + 1, S lk (i, g), by omega, by go_num, HI3, HR3, HD3, HB3, HK3⟩, by simp [intOf]; omega⟩
      · have HR3 := Lib.hid (show R = (E lk (i, g), lk) by rw [HR2.out, if_neg hE])
        have HB3 := Lib.hid (HB2.out.trans hb3)
        have HK3 := Lib.hid (HK2.out.trans hk3)
        have HE := Lib.hid hE
        clear hb3 hk3 hE
        unfold panicA
        go_wp2_with fail
        exact ⟨rfl, Or.inr ⟨by rw [HR3.out]; exact HE.out, by rw [HR3.out]; rfl, HB3.out, HK3.out⟩⟩
    · obtain rfl : k = n := by omega
      have hki : ¬ (k : Int) < (k : Int) := by omega
      have HR3 := Lib.hid (show R = (0, lk) by rw [hr.out, List.drop_of_length_le (Nat.le_of_eq HN.out.symm)]; rfl)
      go_wp2_with fail
      go_end0
      exact Or.inl ⟨by rw [HR3.out], rfl, by rw [HR3.out]; exact hd.out, hb.out, hks.out⟩

def retR (l es : List Pr) : Int × List Pr := eachR retE retS l es
def givR (l es : List Pr) : Int × List Pr := eachR givE givS l es
set_option maxHeartbeats 2000000 in
theorem Try.Retire1_any (B1 D n₀ : Nat) (l : List Pr) (vs vt : Value) (a : Option Addr) (n c : Nat) (es : List Pr) (hnl : n ≤ 10000) (w₀ w : World) (h1 : Rows8 w B1 36 #[.slice a n c])
    (h0 : ∀ s ∈ l, okS s = true) (hD : Dr D n₀ l vs vt w) (hn₀ : n₀ ≤ w.heap.size) (hI : PAt w₀ (.slice a n c) es) (hw : Below w₀.heap.size w₀ w) (hw0 : w₀.heap.size ≤ n₀) :
    Calls Try.prog 23 #[.pointer (some ⟨D, 0, none⟩), .pointer (some ⟨B1, 0, none⟩)] w (StepQ D n₀ vs vt w (retR l es).1 (retR l es).2) := by
  have hC := Try.each_any 25 retE retS (fun l => ∀ s ∈ l, okS s = true) D n₀ l vs vt a n c es hnl w₀ w (fun l e h h2 => retS_ok h h2) (fun _ _ => by kernel_rfl) (fun l e W _ hd hn => Try.retire_any D n₀ l vs vt e W hd hn) h0 hD hn₀ hI hw hw0
  have hmf : ∀ (fn : Fn) (first cap : Array Value) (w : World), (Instr.makeFunc fn first cap).run Try.prog w = .ok (.func fn first cap) w := fun _ _ _ _ => rfl
  have c1 : w.cell? ⟨B1, 0, none⟩ = some (.slice a n c) := h1.cell 0
  have hl1 := h1.lt
  have HC := Lib.hid hC
  have hre : retR l es = eachR retE retS l es := rfl
  rw [hre]
  generalize eachR retE retS l es = R at *
  clear hC h0 hD hI hw h1 hre
  go_enter Try.func23, Try.ntmps23
  go_wp2_with fail
  refine HC.out.mono ?_
  rintro e w3 (⟨hE, rfl, hd3, hb3, hk3⟩ | ⟨hE, rfl, hb3, hk3⟩)
  · have H3 := Lib.hid (And.intro hE (And.intro hd3 (And.intro hb3 hk3)))
    clear hE hd3 hb3 hk3
    go_wp2_with fail
    go_end0
    exact Or.inl ⟨H3.out.1, rfl, H3.out.2⟩
  · have H3 := Lib.hid (And.intro hE (And.intro hb3 hk3))
    clear hE hb3 hk3
    unfold panicA
    go_wp2_with fail
    exact ⟨rfl, Or.inr ⟨H3.out.1, rfl, H3.out.2⟩⟩
set_option maxHeartbeats 2000000 in
theorem Try.Give1_any (B1 D n₀ : Nat) (l : List Pr) (vs vt : Value) (a : Option Addr) (n c : Nat) (es : List Pr) (hnl : n ≤ 10000) (w₀ w : World) (h1 : Rows8 w B1 36 #[.slice a n c])
    (h0 : ∀ s ∈ l, okS s = true) (hD : Dr D n₀ l vs vt w) (hn₀ : n₀ ≤ w.heap.size) (hI : PAt w₀ (.slice a n c) es) (hw : Below w₀.heap.size w₀ w) (hw0 : w₀.heap.size ≤ n₀) :
    Calls Try.prog 26 #[.pointer (some ⟨D, 0, none⟩), .pointer (some ⟨B1, 0, none⟩)] w (StepQ D n₀ vs vt w (givR l es).1 (givR l es).2) := by
  have hC := Try.each_any 27 givE givS (fun l => ∀ s ∈ l, okS s = true) D n₀ l vs vt a n c es hnl w₀ w (fun l e h h2 => (givS_ok h h2).1) (fun _ _ => by kernel_rfl) (fun l e W h hd hn => Try.give_any D n₀ l vs vt e h W hd hn) h0 hD hn₀ hI hw hw0
  have hmf : ∀ (fn : Fn) (first cap : Array Value) (w : World), (Instr.makeFunc fn first cap).run Try.prog w = .ok (.func fn first cap) w := fun _ _ _ _ => rfl
  have c1 : w.cell? ⟨B1, 0, none⟩ = some (.slice a n c) := h1.cell 0
  have hl1 := h1.lt
  have HC := Lib.hid hC
  have hre : givR l es = eachR givE givS l es := rfl
  rw [hre]
  generalize eachR givE givS l es = R at *
  clear hC h0 hD hI hw h1 hre
  go_enter Try.func26, Try.ntmps26
  go_wp2_with fail
  refine HC.out.mono ?_
  rintro e w3 (⟨hE, rfl, hd3, hb3, hk3⟩ | ⟨hE, rfl, hb3, hk3⟩)
  · have H3 := Lib.hid (And.intro hE (And.intro hd3 (And.intro hb3 hk3)))
    clear hE hd3 hb3 hk3
    go_wp2_with fail
    go_end0
    exact Or.inl ⟨H3.out.1, rfl, H3.out.2⟩
  · have H3 := Lib.hid (And.intro hE (And.intro hb3 hk3))
    clear hE hb3 hk3
    unfold panicA
    go_wp2_with fail
    exact ⟨rfl, Or.inr ⟨H3.out.1, rfl, H3.out.2⟩⟩
end Go.Proofs
