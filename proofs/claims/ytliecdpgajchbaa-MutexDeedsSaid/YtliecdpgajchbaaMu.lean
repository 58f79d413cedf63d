/- Ask, Leave, Play. -/
import Derived.Test.YtliecdpgajchbaaMt
namespace Go.Proofs
open Go.RowKit Go.Shelf
attribute [local go_sem] Oper.semAt_some

theorem playQ_of {H r n n₀ : Nat} {ms' : List Mx} {E : Int} {W W' : World} {e : Ending} (hn0 : n₀ ≤ W.heap.size) (hH : Rows8 W H 67 #[.slice (some ⟨r, 0, none⟩) n n, .int .i64 0])
    (h : (E = 0 ∧ e = .returned (.tuple #[]) ∧ Rows8 W' H 67 #[.slice (some ⟨r, 0, none⟩) n n, .int .i64 0] ∧ OwnsM n₀ ms' (.slice (some ⟨r, 0, none⟩) n n) W' ∧ Below n₀ W W' ∧ Spare W W') ∨
      (E ≠ 0 ∧ e = .panicked (panic1 E) ∧ Below W.heap.size W W')) : PlayQ H r n n₀ W (E, ms', 0) e W' := by
  rcases h with ⟨h1, h2, h3, h4, h5, h6⟩ | ⟨h1, h2, h3⟩
  · exact Or.inl ⟨h1, h2, h3, h4, h5, h6.h⟩
  · exact Or.inr ⟨h1, h2, h3.mono hn0, spareH_below h3, 0, hH.below h3 hH.lt⟩

theorem Try.ask1_any (which goer : Int) (b1 b2 H r n n₀ : Nat) (ms : List Mx) (hr : rightB ms = true) (w : World) (hn0 : n₀ ≤ w.heap.size) (g1 : Rows8 w b1 3 #[.int .i64 which]) (g2 : Rows8 w b2 3 #[.int .i64 goer]) (hH : Rows8 w H 67 #[.slice (some ⟨r, 0, none⟩) n n, .int .i64 0]) (hO : OwnsM n₀ ms (.slice (some ⟨r, 0, none⟩) n n) w) :
    Calls Try.prog 42 #[.pointer (some ⟨H, 0, none⟩), .pointer (some ⟨b1, 0, none⟩), .pointer (some ⟨b2, 0, none⟩)] w (PlayQ H r n n₀ w (askE ms which goer, askS ms which goer, 0)) := by
  have h := Try.ask_any which goer H r n n₀ (.int .i64 0) ms (by have := right_len hr; omega) w hH hO
  have h2 := h.mono (R' := PlayQ H r n n₀ w (askE ms which goer, askS ms which goer, 0)) (fun e w' h => playQ_of hn0 hH h)
  have c1 : w.cell? ⟨b1, 0, none⟩ = some (.int .i64 which) := g1.cell 0
  have c2 : w.cell? ⟨b2, 0, none⟩ = some (.int .i64 goer) := g2.cell 0
  have hl1 := g1.lt
  have hl2 := g2.lt
  have HC := Lib.hid h2
  generalize (askE ms which goer, askS ms which goer, 0) = P at *
  clear h h2 hH hO g1 g2
  go_enter Try.func42, Try.ntmps42
  go_wp2_with fail
  refine HC.out.mono ?_
  intro e w' h
  rcases h with ⟨h1, rfl, h3⟩ | ⟨h1, rfl, h3⟩
  · have H3 := Lib.hid h3
    have HE1 := Lib.hid h1
    clear h3 h1
    go_wp2_with fail
    first | go_end0 | refine bodyPost_ret (results_none rfl _ _ _) rfl ?_
    exact Or.inl ⟨HE1.out, rfl, H3.out⟩
  · have H3 := Lib.hid h3
    have HE1 := Lib.hid h1
    clear h3 h1
    unfold panic1
    go_wp2_with fail
    exact ⟨rfl, Or.inr ⟨HE1.out, rfl, H3.out⟩⟩
theorem Try.leave1_any (which goer : Int) (b1 b2 H r n n₀ : Nat) (ms : List Mx) (hr : rightB ms = true) (w : World) (hn0 : n₀ ≤ w.heap.size) (g1 : Rows8 w b1 3 #[.int .i64 which]) (g2 : Rows8 w b2 3 #[.int .i64 goer]) (hH : Rows8 w H 67 #[.slice (some ⟨r, 0, none⟩) n n, .int .i64 0]) (hO : OwnsM n₀ ms (.slice (some ⟨r, 0, none⟩) n n) w) :
    Calls Try.prog 45 #[.pointer (some ⟨H, 0, none⟩), .pointer (some ⟨b1, 0, none⟩), .pointer (some ⟨b2, 0, none⟩)] w (PlayQ H r n n₀ w (leaveE ms which goer, leaveS ms which, 0)) := by
  have h := Try.leave_any which goer H r n n₀ (.int .i64 0) ms hr w hH hO
  have h2 := h.mono (R' := PlayQ H r n n₀ w (leaveE ms which goer, leaveS ms which, 0)) (fun e w' h => playQ_of hn0 hH h)
  have c1 : w.cell? ⟨b1, 0, none⟩ = some (.int .i64 which) := g1.cell 0
  have c2 : w.cell? ⟨b2, 0, none⟩ = some (.int .i64 goer) := g2.cell 0
  have hl1 := g1.lt
  have hl2 := g2.lt
  have HC := Lib.hid h2
  generalize (leaveE ms which goer, leaveS ms which, 0) = P at *
  clear h h2 hH hO g1 g2
  go_enter Try.func45, Try.ntmps45
  go_wp2_with fail
  refine HC.out.mono ?_
  intro e w' h
  rcases h with ⟨h1, rfl, h3⟩ | ⟨h1, rfl, h3⟩
  · have H3 := Lib.hid h3
    have HE1 := Lib.hid h1
    clear h3 h1
    go_wp2_with fail
    first | go_end0 | refine bodyPost_ret (results_none rfl _ _ _) rfl ?_
    exact Or.inl ⟨HE1.out, rfl, H3.out⟩
  · have H3 := Lib.hid h3
    have HE1 := Lib.hid h1
    clear h3 h1
    unfold panic1
    go_wp2_with fail
    exact ⟨rfl, Or.inr ⟨HE1.out, rfl, H3.out⟩⟩
theorem Try.play1_any (b1 H r n n₀ : Nat) (ms : List Mx) (hr : rightB ms = true) (a : Option Addr) (m cap : Nat) (ds : List Dd) (w₀ w : World) (hD : DdAt w₀ (.slice a m cap) ds) (hm : m ≤ 10000) (hw : Below w₀.heap.size w₀ w) (hw0 : w₀.heap.size ≤ n₀) (hHn : n₀ ≤ H) (g1 : Rows8 w b1 39 #[.slice a m cap])
    (hH : Rows8 w H 67 #[.slice (some ⟨r, 0, none⟩) n n, .int .i64 0]) (hO : OwnsM n₀ ms (.slice (some ⟨r, 0, none⟩) n n) w) :
    Calls Try.prog 48 #[.pointer (some ⟨H, 0, none⟩), .pointer (some ⟨b1, 0, none⟩)] w (PlayQ H r n n₀ w (playR ms 0 ds)) := by
  have h := Try.play_any H r n n₀ ms hr a m cap ds w₀ w hD hm hw hw0 hHn hH hO
  have c1 : w.cell? ⟨b1, 0, none⟩ = some (.slice a m cap) := g1.cell 0
  have hl1 := g1.lt
  have HC := Lib.hid h
  generalize playR ms 0 ds = P at *
  clear h hH hO g1 hD hw
  go_enter Try.func48, Try.ntmps48
  go_wp2_with fail
  refine HC.out.mono ?_
  intro e w' h
  rcases h with ⟨h1, rfl, h3⟩ | ⟨h1, rfl, h3⟩
  · have H3 := Lib.hid h3
    have HE1 := Lib.hid h1
    clear h3 h1
    go_wp2_with fail
    first | go_end0 | refine bodyPost_ret (results_none rfl _ _ _) rfl ?_
    exact Or.inl ⟨HE1.out, rfl, H3.out⟩
  · have H3 := Lib.hid h3
    have HE1 := Lib.hid h1
    clear h3 h1
    unfold panic1
    go_wp2_with fail
    exact ⟨rfl, Or.inr ⟨HE1.out, rfl, H3.out⟩⟩

def resR (ms : List Mx) (P : Int × List Mx × Nat) : Int × List Mx × Nat := if rightB ms = true then P else (150, [], 0)
def askR (ms : List Mx) (which goer : Int) : Int × List Mx × Nat := resR ms (askE ms which goer, askS ms which goer, 0)
def leaveR (ms : List Mx) (which goer : Int) : Int × List Mx × Nat := resR ms (leaveE ms which goer, leaveS ms which, 0)
def playP (ms : List Mx) (ds : List Dd) : Int × List Mx × Nat := resR ms (playR ms 0 ds)
/-- Does it have it then? -/
def gotB (ms : List Mx) (which : Int) : Bool := decide ((atM ms which).own = 0)
theorem askS_own {ms : List Mx} {which goer : Int} (h : askE ms which goer = 0) : ∃ k : Nat, which = (k : Int) ∧ ∃ hk : k < (askS ms which goer).length, decide ((askS ms which goer)[k].own = goer + 1) = gotB ms which := by
  obtain ⟨hb, h1, h2⟩ := askE_ok h
  obtain ⟨⟨hw1, hw2⟩, hg1, hg2⟩ := argB_iff.1 hb
  obtain ⟨k, rfl⟩ : ∃ k : Nat, which = (k : Int) := ⟨which.toNat, by omega⟩
  have hk : k < ms.length := by omega
  refine ⟨k, rfl, by rw [ask_len]; exact hk, ?_⟩
  unfold gotB askS
  rw [Bool.eq_iff_iff, decide_eq_true_eq, decide_eq_true_eq]
  simp only [Int.toNat_natCast, List.getElem_set_self]
  by_cases h0 : (atM ms k).own = 0
  · rw [if_pos h0]
    simp [h0]
  · rw [if_neg h0]
    simp only [h0, iff_false]
    exact h1

def AskQ (n : Nat) (w : World) (P : Int × List Mx × Nat) (got : Bool) (e : Ending) (w' : World) : Prop := Below w.heap.size w w' ∧
  ((P.1 ≠ 0 ∧ e = .returned (.tuple #[.slice none 0 0, .bool false, .int .i64 P.1])) ∨
   (P.1 = 0 ∧ ∃ r, e = .returned (.tuple #[.slice (some ⟨r, 0, none⟩) n n, .bool got, .int .i64 0]) ∧ OwnsM w.heap.size P.2.1 (.slice (some ⟨r, 0, none⟩) n n) w'))
set_option maxRecDepth 100000 in
set_option maxHeartbeats 2000000 in
theorem Try.Ask_any (which goer : Int) (a : Option Addr) (n cap : Nat) (ms : List Mx) (w : World) (hI : MxAt w (.slice a n cap) ms) :
    Calls Try.prog 23 #[.slice a n cap, .int .i64 which, .int .i64 goer] w (AskQ n w (askR ms which goer) (gotB ms which)) := by
  have hn := (mxAt_len hI).1
  have hB0 : Below w.heap.size w ((w.alloc (.cells #[.int .i64 which] 3)).alloc (.cells #[.int .i64 goer] 3)) := (Rows8.newB).alloc (by simp) _
  have g1 := (Rows8.new w 3 #[.int .i64 which]).alloc (.cells #[.int .i64 goer] 3)
  have g2 := Rows8.new (w.alloc (.cells #[.int .i64 which] 3)) 3 #[.int .i64 goer]
  rw [World.size_alloc] at g2
  obtain ⟨wb, hwb⟩ : ∃ wb, wb = (w.alloc (.cells #[.int .i64 which] 3)).alloc (.cells #[.int .i64 goer] 3) := ⟨_, rfl⟩
  rw [← hwb] at g1 g2 hB0
  have hT : Calls Try.prog 41 #[.slice a n cap, .func (.func 42) #[] #[.pointer (some ⟨w.heap.size, 0, none⟩), .pointer (some ⟨w.heap.size + 1, 0, none⟩)]] wb (TriedQ n wb (askR ms which goer)) := by
    cases hr : rightB ms with
    | false =>
      have e : askR ms which goer = (150, [], 0) := by unfold askR resR; rw [if_neg (by rw [hr]; decide)]
      rw [e]
      exact Try.tried_no a n cap ms hr _ _ wb (hI.below hB0)
    | true =>
      have e : askR ms which goer = (askE ms which goer, askS ms which goer, 0) := by unfold askR resR; rw [if_pos hr]
      rw [e]
      exact Try.tried_yes a n cap ms hr _ _ _ wb (hI.below hB0) (enters_of Try.func42 (by kernel_rfl) rfl) (fun H r W hB hH h1 h2 => Try.ask1_any which goer w.heap.size (w.heap.size + 1) H r n wb.heap.size ms hr W hB.size (g1.below hB g1.lt) (g2.below hB g2.lt) h1 h2)
  have hgot : (askR ms which goer).1 = 0 → ∃ k : Nat, which = (k : Int) ∧ ∃ hk : k < (askR ms which goer).2.1.length, decide ((askR ms which goer).2.1[k].own = goer + 1) = gotB ms which ∧ 0 ≤ goer ∧ goer ≤ 7 := fun h => by
    unfold askR resR at h ⊢
    split at h
    · rename_i hr
      simp only [if_pos hr]
      obtain ⟨k, h1, hk, h2⟩ := askS_own h
      have h3 := argB_iff.1 (askE_ok h).1
      exact ⟨k, h1, hk, h2, h3.2⟩
    · cases h
  generalize askR ms which goer = P at *
  generalize gotB ms which = got at *
  obtain ⟨E, S, u⟩ := P
  dsimp only at hgot
  have hmf : ∀ (fn : Fn) (first cap : Array Value) (w : World), (Instr.makeFunc fn first cap).run Try.prog w = .ok (.func fn first cap) w := fun _ _ _ _ => rfl
  have HT := Lib.hid hT
  have G1 := Lib.hid g1
  have G2 := Lib.hid g2
  have HB0 := Lib.hid hB0
  have HG := Lib.hid hgot
  have hlb : w.heap.size + 1 < wb.heap.size := g2.lt
  have hzb := hB0.size
  have hwb2 := hwb.symm
  have HWB := Lib.hid hwb2
  clear hT g1 g2 hB0 hgot hI hn hwb hwb2
  go_enter Try.func23, Try.ntmps23
  go_wp2_with fail
  rw [HWB.out]
  refine HT.out.mono ?_
  intro e w1 hq
  obtain ⟨hB1, h⟩ := hq
  have HB1 := Lib.hid (HB0.out.trans (hB1.mono hzb))
  rcases h with ⟨hE, rfl⟩ | ⟨hE, r, rfl, ho⟩
  · have hEn : (E != 0) = true := by simpa using hE
    have HE := Lib.hid hE
    have HB2 := Lib.hid (HB1.out.alloc HB1.out.size (.cells #[.slice none 0 0, .int .i64 0] 67))
    clear hE hB1
    go_wp2_with fail
    refine bodyPost_ret (results_tmp3 rfl _ _ _) rfl ?_
    exact ⟨HB2.out, .inl ⟨HE.out, rfl⟩⟩
  · dsimp only at hE
    subst hE
    obtain ⟨k, rfl, hk, hdec, hg1, hg2⟩ := HG.out rfl
    have hB2 : Below w1.heap.size w1 (w1.alloc (.cells #[.slice (some ⟨r, 0, none⟩) n n, .int .i64 (u : Nat)] 67)) := Rows8.newB
    have ho2 := ho.keep hB2 (Nat.le_refl _)
    have hnS := (mxAt_len ho2.at).1
    have hof := Try.isOf_any k goer (by omega) (some ⟨r, 0, none⟩) n n S hk (w1.alloc (.cells #[.slice (some ⟨r, 0, none⟩) n n, .int .i64 (u : Nat)] 67)).drew (ho2.at.below ((Below.refl _ _).drew))
    rw [hdec] at hof
    have k1 := G1.out.below (hB1.trans (hB2.mono hB1.size)) G1.out.lt
    have k2 := G2.out.below (hB1.trans (hB2.mono hB1.size)) G2.out.lt
    have hh := Rows8.new w1 67 #[.slice (some ⟨r, 0, none⟩) n n, .int .i64 (u : Nat)]
    have HB2 := Lib.hid (HB1.out.trans (hB2.mono HB1.out.size))
    have HO2 := Lib.hid (ho2.mono hzb)
    have HOF := Lib.hid hof
    clear hB1 hB2 ho ho2 hof hdec hnS hk HG HT
    have hz1 : w.heap.size ≤ w1.heap.size := HB1.out.size
    go_wp2_with fail
    generalize hW2 : w1.alloc _ = W2 at *
    have x1 : W2.cell? ⟨w.heap.size, 0, none⟩ = some (.int .i64 k) := k1.cell 0
    have x2 : W2.cell? ⟨w.heap.size + 1, 0, none⟩ = some (.int .i64 goer) := k2.cell 0
    have x3 : W2.cell? ⟨w1.heap.size, 0, none⟩ = some (.slice (some ⟨r, 0, none⟩) n n) := hh.cell 0
    clear k1 k2 hh hW2
    have hk0 : W2.cell? ⟨w.heap.size, 0, none⟩ = some (.int .i64 k) ∧ W2.cell? ⟨w.heap.size + 1, 0, none⟩ = some (.int .i64 goer) ∧ W2.cell? ⟨w1.heap.size, 0, none⟩ = some (.slice (some ⟨r, 0, none⟩) n n) := ⟨x1, x2, x3⟩
    go_region_held3 (fun W' => W'.cell? ⟨w.heap.size, 0, none⟩ = some (.int .i64 k) ∧ W'.cell? ⟨w.heap.size + 1, 0, none⟩ = some (.int .i64 goer) ∧ W'.cell? ⟨w1.heap.size, 0, none⟩ = some (.slice (some ⟨r, 0, none⟩) n n)) (exact hk0) (first | (go_at_call 44; refine HOF.out.mono ?_; rintro e w' ⟨rfl, rfl⟩))
    have HO3 := Lib.hid (HO2.out.keep ((Below.refl _ W2).drew) (Nat.le_refl _))
    clear hk0 x1 x2 x3 HO2 HOF
    go_wp2_with fail
    refine bodyPost_ret (results_tmp3 rfl _ _ _) rfl ?_
    exact ⟨HB2.out.drew, .inr ⟨rfl, r, rfl, HO3.out⟩⟩
end Go.Proofs
