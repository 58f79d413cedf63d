/- Leave, Play. -/
import Derived.Test.YtliecdpgajchbaaMu
namespace Go.Proofs
open Go.RowKit Go.Shelf
attribute [local go_sem] Oper.semAt_some

/-- Who has it then; -1: nobody. -/
def nextB (ms : List Mx) (which : Int) : Int := match (atM ms which).q with
  | [] => -1
  | z :: _ => z
theorem leaveS_own {ms : List Mx} {which goer : Int} (hr : rightB ms = true) (h : leaveE ms which goer = 0) : ∃ k : Nat, which = (k : Int) ∧ ∃ hk : k < (leaveS ms which).length, (leaveS ms which)[k].own = nextB ms which + 1 ∧ -1 ≤ nextB ms which ∧ nextB ms which ≤ 7 := by
  obtain ⟨hb, h1⟩ := leaveE_ok h
  obtain ⟨⟨hw1, hw2⟩, hg1, hg2⟩ := argB_iff.1 hb
  obtain ⟨k, rfl⟩ : ∃ k : Nat, which = (k : Int) := ⟨which.toNat, by omega⟩
  have hk : k < ms.length := by omega
  refine ⟨k, rfl, by rw [leave_len]; exact hk, ?_⟩
  have hz := fun z hz => right_goer hr hk (z := z) hz
  unfold nextB leaveS
  simp only [Int.toNat_natCast, List.getElem_set_self, atM_eq hk]
  cases hq : ms[k].q with
  | nil => exact ⟨rfl, by decide, by decide⟩
  | cons z t =>
    have := hz z (by rw [hq]; simp)
    exact ⟨rfl, by show -1 ≤ z; omega, by show z ≤ 7; omega⟩
def LeaveQ (n : Nat) (w : World) (P : Int × List Mx × Nat) (got : Int) (e : Ending) (w' : World) : Prop := Below w.heap.size w w' ∧
  ((P.1 ≠ 0 ∧ e = .returned (.tuple #[.slice none 0 0, .int .i64 0, .int .i64 P.1])) ∨
   (P.1 = 0 ∧ ∃ r, e = .returned (.tuple #[.slice (some ⟨r, 0, none⟩) n n, .int .i64 got, .int .i64 0]) ∧ OwnsM w.heap.size P.2.1 (.slice (some ⟨r, 0, none⟩) n n) w'))
set_option maxRecDepth 100000 in
set_option maxHeartbeats 2000000 in
theorem Try.Leave_any (which goer : Int) (a : Option Addr) (n cap : Nat) (ms : List Mx) (w : World) (hI : MxAt w (.slice a n cap) ms) :
    Calls Try.prog 24 #[.slice a n cap, .int .i64 which, .int .i64 goer] w (LeaveQ n w (leaveR ms which goer) (nextB ms which)) := by
  have hn := (mxAt_len hI).1
  have hB0 : Below w.heap.size w ((w.alloc (.cells #[.int .i64 which] 3)).alloc (.cells #[.int .i64 goer] 3)) := (Rows8.newB).alloc (by simp) _
  have g1 := (Rows8.new w 3 #[.int .i64 which]).alloc (.cells #[.int .i64 goer] 3)
  have g2 := Rows8.new (w.alloc (.cells #[.int .i64 which] 3)) 3 #[.int .i64 goer]
  rw [World.size_alloc] at g2
  obtain ⟨wb, hwb⟩ : ∃ wb, wb = (w.alloc (.cells #[.int .i64 which] 3)).alloc (.cells #[.int .i64 goer] 3) := ⟨_, rfl⟩
  rw [← hwb] at g1 g2 hB0
  have hT : Calls Try.prog 41 #[.slice a n cap, .func (.func 45) #[] #[.pointer (some ⟨w.heap.size, 0, none⟩), .pointer (some ⟨w.heap.size + 1, 0, none⟩)]] wb (TriedQ n wb (leaveR ms which goer)) := by
    cases hr : rightB ms with
    | false =>
      have e : leaveR ms which goer = (150, [], 0) := by unfold leaveR resR; rw [if_neg (by rw [hr]; decide)]
      rw [e]
      exact Try.tried_no a n cap ms hr _ _ wb (hI.below hB0)
    | true =>
      have e : leaveR ms which goer = (leaveE ms which goer, leaveS ms which, 0) := by unfold leaveR resR; rw [if_pos hr]
      rw [e]
      exact Try.tried_yes a n cap ms hr _ _ _ wb (hI.below hB0) (enters_of Try.func45 (by kernel_rfl) rfl) (fun H r W hB hH h1 h2 => Try.leave1_any which goer w.heap.size (w.heap.size + 1) H r n wb.heap.size ms hr W hB.size (g1.below hB g1.lt) (g2.below hB g2.lt) h1 h2)
  have hgot : (leaveR ms which goer).1 = 0 → ∃ k : Nat, which = (k : Int) ∧ ∃ hk : k < (leaveR ms which goer).2.1.length, (leaveR ms which goer).2.1[k].own = nextB ms which + 1 ∧ -1 ≤ nextB ms which ∧ nextB ms which ≤ 7 := fun h => by
    unfold leaveR resR at h ⊢
    split at h
    · rename_i hr
      simp only [if_pos hr]
      exact leaveS_own hr h
    · cases h
  generalize leaveR ms which goer = P at *
  generalize nextB ms which = got at *
  obtain ⟨E, S, u⟩ := P
  dsimp only at hgot
  have hmf : ∀ (fn : Fn) (first cap : Array Value) (w : World), (Instr.makeFunc fn first cap).run Try.prog w = .ok (.func fn first cap) w := fun _ _ _ _ => rfl
  have HT := Lib.hid hT
  have G1 := Lib.hid g1
  have G2 := Lib.hid g2
  have HB0 := Lib.hid hB0
  have HG := Lib.hid hgot
  have hlb : w.heap.size + 1 < wb.heap.size := g2.lt
  have hzb := hB0.size
  have hwb2 := hwb.symm
  have HWB := Lib.hid hwb2
  clear hT g1 g2 hB0 hgot hI hn hwb hwb2
  go_enter Try.func24, Try.ntmps24
  go_wp2_with fail
  rw [HWB.out]
  refine HT.out.mono ?_
  intro e w1 hq
  obtain ⟨hB1, h⟩ := hq
  have HB1 := Lib.hid (HB0.out.trans (hB1.mono hzb))
  rcases h with ⟨hE, rfl⟩ | ⟨hE, r, rfl, ho⟩
  · have hEn : (E != 0) = true := by simpa using hE
    have HE := Lib.hid hE
    have HB2 := Lib.hid (HB1.out.alloc HB1.out.size (.cells #[.slice none 0 0, .int .i64 0] 67))
    clear hE hB1
    go_wp2_with fail
    refine bodyPost_ret (results_tmp3 rfl _ _ _) rfl ?_
    exact ⟨HB2.out, .inl ⟨HE.out, rfl⟩⟩
  · dsimp only at hE
    subst hE
    obtain ⟨k, rfl, hk, hdec, hg1, hg2⟩ := HG.out rfl
    have hk' : k < S.length := hk
    have hB2 : Below w1.heap.size w1 (w1.alloc (.cells #[.slice (some ⟨r, 0, none⟩) n n, .int .i64 (u : Nat)] 67)) := Rows8.newB
    have ho2 := ho.keep hB2 (Nat.le_refl _)
    have hnS : n = S.length := (mxAt_len ho2.at).1
    obtain ⟨vs2, hov⟩ := ho2
    obtain ⟨sa, sc, s1, -, -, -, -, -, -⟩ := hov.cells k hk
    rw [hdec] at s1
    have ho2 : OwnsM wb.heap.size S (.slice (some ⟨r, 0, none⟩) n n) (w1.alloc (.cells #[.slice (some ⟨r, 0, none⟩) n n, .int .i64 (u : Nat)] 67)) := ⟨vs2, hov⟩
    have k1 := G1.out.below (hB1.trans (hB2.mono hB1.size)) G1.out.lt
    have hh := Rows8.new w1 67 #[.slice (some ⟨r, 0, none⟩) n n, .int .i64 (u : Nat)]
    have HB2 := Lib.hid (HB1.out.trans (hB2.mono HB1.out.size))
    have HO2 := Lib.hid (ho2.mono hzb)
    have hki : (k : Int) < (n : Int) := by omega
    have e11 : got + 1 - 1 = got := by omega
    have hw1 : IntKind.i64.wrap (got + 1 - 1) = got := by rw [e11]; exact IntWalk.i64_in _ (by omega)
    have hw2 : IntKind.i64.wrap got = got := IntWalk.i64_in _ (by omega)
    clear hB1 hB2 ho ho2 hov hdec hnS hk' hk HG HT
    have hz1 : w.heap.size ≤ w1.heap.size := HB1.out.size
    go_wp2_with fail
    generalize hW2 : w1.alloc _ = W2 at *
    have x1 : W2.cell? ⟨w.heap.size, 0, none⟩ = some (.int .i64 k) := k1.cell 0
    have x3 : W2.cell? ⟨w1.heap.size, 0, none⟩ = some (.slice (some ⟨r, 0, none⟩) n n) := hh.cell 0
    clear k1 hh hW2
    have hk0 : W2.cell? ⟨w.heap.size, 0, none⟩ = some (.int .i64 k) ∧ W2.cell? ⟨w1.heap.size, 0, none⟩ = some (.slice (some ⟨r, 0, none⟩) n n) ∧ W2.cell? ⟨r, k * 2, none⟩ = some (.int .i64 (got + 1)) := ⟨x1, x3, s1⟩
    go_region_held3 (fun W' => W'.cell? ⟨w.heap.size, 0, none⟩ = some (.int .i64 k) ∧ W'.cell? ⟨w1.heap.size, 0, none⟩ = some (.slice (some ⟨r, 0, none⟩) n n) ∧ W'.cell? ⟨r, k * 2, none⟩ = some (.int .i64 (got + 1))) (exact hk0) (fail)
    have HO3 := Lib.hid (HO2.out.keep ((Below.refl _ W2).drew) (Nat.le_refl _))
    clear hk0 x1 x3 HO2 s1
    go_wp2_with fail
    refine bodyPost_ret (results_tmp3 rfl _ _ _) rfl ?_
    refine ⟨HB2.out.drew, .inr ⟨rfl, r, ?_, HO3.out⟩⟩
    first | rfl | (simp [e11])

def PlaysQ (n : Nat) (w : World) (P : Int × List Mx × Nat) (e : Ending) (w' : World) : Prop := Below w.heap.size w w' ∧
  ((P.1 ≠ 0 ∧ e = .returned (.tuple #[.slice none 0 0, .int .i64 0, .int .i64 P.1])) ∨
   (P.1 = 0 ∧ ∃ r, e = .returned (.tuple #[.slice (some ⟨r, 0, none⟩) n n, .int .i64 (P.2.2 : Nat), .int .i64 0]) ∧ OwnsM w.heap.size P.2.1 (.slice (some ⟨r, 0, none⟩) n n) w'))
set_option maxRecDepth 100000 in
set_option maxHeartbeats 2000000 in
theorem Try.Play_any (a : Option Addr) (n cap : Nat) (ms : List Mx) (b : Option Addr) (m dcap : Nat) (ds : List Dd) (hm : m ≤ 10000) (w : World) (hI : MxAt w (.slice a n cap) ms) (hD : DdAt w (.slice b m dcap) ds) :
    Calls Try.prog 28 #[.slice a n cap, .slice b m dcap] w (PlaysQ n w (playP ms ds)) := by
  have hB0 : Below w.heap.size w (w.alloc (.cells #[.slice b m dcap] 39)) := Rows8.newB
  have g1 := Rows8.new w 39 #[.slice b m dcap]
  obtain ⟨wb, hwb⟩ : ∃ wb, wb = w.alloc (.cells #[.slice b m dcap] 39) := ⟨_, rfl⟩
  rw [← hwb] at g1 hB0
  have hT : Calls Try.prog 41 #[.slice a n cap, .func (.func 48) #[] #[.pointer (some ⟨w.heap.size, 0, none⟩)]] wb (TriedQ n wb (playP ms ds)) := by
    cases hr : rightB ms with
    | false =>
      have e : playP ms ds = (150, [], 0) := by unfold playP resR; rw [if_neg (by rw [hr]; decide)]
      rw [e]
      exact Try.tried_no a n cap ms hr _ _ wb (hI.below hB0)
    | true =>
      have e : playP ms ds = playR ms 0 ds := by unfold playP resR; rw [if_pos hr]
      rw [e]
      exact Try.tried_yes a n cap ms hr _ _ _ wb (hI.below hB0) (enters_of Try.func48 (by kernel_rfl) rfl) (fun H r W hB hH h1 h2 => Try.play1_any w.heap.size H r n wb.heap.size ms hr b m dcap ds w W hD hm (hB0.trans (hB.mono hB0.size)) hB0.size hH (g1.below hB g1.lt) h1 h2)
  generalize playP ms ds = P at *
  obtain ⟨E, S, u⟩ := P
  have hmf : ∀ (fn : Fn) (first cap : Array Value) (w : World), (Instr.makeFunc fn first cap).run Try.prog w = .ok (.func fn first cap) w := fun _ _ _ _ => rfl
  have HT := Lib.hid hT
  have HB0 := Lib.hid hB0
  have hzb := hB0.size
  have hwb2 := hwb.symm
  have HWB := Lib.hid hwb2
  clear hT g1 hB0 hI hD hwb hwb2
  go_enter Try.func28, Try.ntmps28
  go_wp2_with fail
  rw [HWB.out]
  refine HT.out.mono ?_
  intro e w1 hq
  obtain ⟨hB1, h⟩ := hq
  have HB1 := Lib.hid (HB0.out.trans (hB1.mono hzb))
  rcases h with ⟨hE, rfl⟩ | ⟨hE, r, rfl, ho⟩
  · have hEn : (E != 0) = true := by simpa using hE
    have HE := Lib.hid hE
    have HB2 := Lib.hid (HB1.out.alloc HB1.out.size (.cells #[.slice none 0 0, .int .i64 0] 67))
    clear hE hB1
    go_wp2_with fail
    refine bodyPost_ret (results_tmp3 rfl _ _ _) rfl ?_
    exact ⟨HB2.out, .inl ⟨HE.out, rfl⟩⟩
  · dsimp only at hE
    subst hE
    have hB2 : Below w1.heap.size w1 (w1.alloc (.cells #[.slice (some ⟨r, 0, none⟩) n n, .int .i64 (u : Nat)] 67)) := Rows8.newB
    have ho2 := ho.keep hB2 (Nat.le_refl _)
    have hh := Rows8.new w1 67 #[.slice (some ⟨r, 0, none⟩) n n, .int .i64 (u : Nat)]
    have HB2 := Lib.hid (HB1.out.trans (hB2.mono HB1.out.size))
    have HO2 := Lib.hid (ho2.mono hzb)
    clear hB1 hB2 ho ho2 HT
    have hz1 : w.heap.size ≤ w1.heap.size := HB1.out.size
    go_wp2_with fail
    generalize hW2 : w1.alloc _ = W2 at *
    have hk0 : W2.cell? ⟨w1.heap.size, 0, none⟩ = some (.slice (some ⟨r, 0, none⟩) n n) ∧ W2.cell? ⟨w1.heap.size, 1, none⟩ = some (.int .i64 (u : Nat)) := ⟨hh.cell 0, hh.cell 1⟩
    clear hh hW2
    go_region_held3 (fun W' => W'.cell? ⟨w1.heap.size, 0, none⟩ = some (.slice (some ⟨r, 0, none⟩) n n) ∧ W'.cell? ⟨w1.heap.size, 1, none⟩ = some (.int .i64 (u : Nat))) (exact hk0) (fail)
    have HO3 := Lib.hid (HO2.out.keep ((Below.refl _ W2).drew) (Nat.le_refl _))
    clear hk0 HO2
    go_wp2_with fail
    refine bodyPost_ret (results_tmp3 rfl _ _ _) rfl ?_
    exact ⟨HB2.out.drew, .inr ⟨rfl, r, rfl, HO3.out⟩⟩
end Go.Proofs
