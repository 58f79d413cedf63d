/- Limbo: the reference: Advance. -/
import Derived.Test.YtghnfiegihfdnaaDoorLsa
namespace Go.Proofs
set_option maxRecDepth 100000
open Go.RowKit Go.Shelf
attribute [local go_sem] Oper.semAt_some

/-- A limbo that may share its rows, and an error. -/
def NotAt (B : Nat) (s : Ls) (r : Rw3) : Prop := ∀ k, k < 3 → r k ≠ [] → (s.v k).ownBlock ≠ some B
theorem notAt_z (B : Nat) (s : Ls) : NotAt B s (fun _ => []) := fun _ _ h => absurd rfl h
theorem NotAt.upd {B : Nat} {s : Ls} {r : Rw3} (h : NotAt B s r) (k : Nat) (a : Option Addr) (n c : Nat) (l : List Pr) (ha : (Value.slice a n c).ownBlock ≠ some B) : NotAt B (s.upd k a n c) (updL r k l) := fun j hj hr => by
  by_cases e : j = k
  · subst e; rw [Ls.upd_self]; exact ha
  · rw [Ls.upd_ne _ _ _ _ e]; exact h j hj (by rwa [updL_ne _ _ e] at hr)
theorem NotAt.cong {B : Nat} {s : Ls} {r q : Rw3} (h : NotAt B s r) (e : ∀ k, k < 3 → q k = r k) : NotAt B s q := fun k hk hr => h k hk (by rwa [e k hk] at hr)
theorem lat_keep {W W' : World} {s : Ls} {r : Rw3} (h : LAt W s r) (hs : W.heap.size ≤ W'.heap.size) (hk : ∀ k b, k < 3 → r k ≠ [] → (s.v k).ownBlock = some b → b < W.heap.size → W'.heap[b]? = W.heap[b]?) : LAt W' s r := fun k hk3 => by
  obtain ⟨h0, a, cap, ea, h1, h2, h3, hc⟩ := h k hk3
  refine ⟨h0, a, cap, ea, h1, h2, h3, fun j hj => ?_⟩
  obtain ⟨b, off, eb, hb, hcell⟩ := hc j hj
  have hne : r k ≠ [] := fun e => by rw [e] at hj; exact absurd hj (Nat.not_lt_zero _)
  have e2 : s.a k = some ⟨b, off, none⟩ := by
    injection ea with e3 _ _
    rw [e3]; exact eb
  refine ⟨b, off, eb, Nat.lt_of_lt_of_le hb hs, ?_⟩
  rw [← hcell]
  simp only [World.cell?, hk k b hk3 hne (by show (Value.slice (s.a k) (s.n k) (s.c k)).ownBlock = some b; rw [e2]; rfl) hb]
theorem lat_in {W : World} {s : Ls} {r : Rw3} (h : LAt W s r) {k b : Nat} (hk : k < 3) (hr : r k ≠ []) (e : (s.v k).ownBlock = some b) : b < W.heap.size := by
  obtain ⟨h0, a, cap, ea, h1, h2, h3, hc⟩ := h k hk
  obtain ⟨x, l, hl⟩ := List.exists_cons_of_ne_nil hr
  obtain ⟨b2, off, eb, hb, hcell⟩ := hc 0 (by rw [hl]; exact Nat.zero_lt_succ _)
  have e2 : s.a k = some ⟨b2, off, none⟩ := by
    injection ea with e3 _ _
    rw [e3]; exact eb
  have e4 : (Value.slice (s.a k) (s.n k) (s.c k)).ownBlock = some b := e
  rw [e2] at e4
  injection e4 with e4
  have e5 : b2 = b := e4
  rw [← e5]; exact hb
def RefQ (m : Nat) (s0 : Ls) (r0 : Rw3) (T : Rl) (e : Ending) (w' : World) : Prop := ∃ s : Ls, e = .returned (.tuple #[.agg #[.int .u64 (T.2.1 : Nat), .slice (s.a 0) (s.n 0) (s.c 0), .slice (s.a 1) (s.n 1) (s.c 1), .slice (s.a 2) (s.n 2) (s.c 2)], .int .i64 T.1]) ∧ LAt w' s T.2.2 ∧ ∀ B, B < m → NotAt B s0 r0 → NotAt B s T.2.2
theorem tryAdv {E : Nat} {r : Rw3} (hr : rightL E r = true) : (readyL E r ≠ [] → tryL E r (advN E r) = (241, 0, fun _ => [])) ∧ (readyL E r = [] → E = 4611686018427387904 → tryL E r (advN E r) = (6, 0, fun _ => [])) ∧ (readyL E r = [] → E ≠ 4611686018427387904 → tryL E r (advN E r) = (0, E + 1, r)) := by
  refine ⟨fun h => ?_, fun h hM => ?_, fun h hM => ?_⟩
  · unfold tryL advN
    rw [hr, if_pos rfl, if_pos h]
    rfl
  · have hne : ¬ readyL E r ≠ [] := fun h' => h' h
    unfold tryL advN
    rw [hr, if_pos rfl, if_neg hne, if_pos hM]
    rfl
  · have hne : ¬ readyL E r ≠ [] := fun h' => h' h
    unfold tryL advN
    rw [hr, if_pos rfl, if_neg hne, if_neg hM, if_pos rfl]
set_option maxHeartbeats 8000000 in
theorem Tryd.refAdvance_any (E : Nat) (s : Ls) (r : Rw3) (w : World) (hI : LAt w s r) (hr : rightL E r = true) :
    Calls Tryd.prog 26 #[.agg #[.int .u64 (E : Nat), .slice (s.a 0) (s.n 0) (s.c 0), .slice (s.a 1) (s.n 1) (s.c 1), .slice (s.a 2) (s.n 2) (s.c 2)]] w fun e w' => RefQ w.heap.size s r (tryL E r (advN E r)) e w' ∧ Below w.heap.size w w' := by
  obtain ⟨T, hTT⟩ : ∃ T, T = tryL E r (advN E r) := ⟨_, rfl⟩
  rw [← hTT]
  have HTT := Lib.hid hTT
  clear hTT
  obtain ⟨W0, hW0⟩ : ∃ W, W = (w.alloc (.cells #[.int .u64 (E : Nat), .slice (s.a 0) (s.n 0) (s.c 0), .slice (s.a 1) (s.n 1) (s.c 1), .slice (s.a 2) (s.n 2) (s.c 2)] 26)).alloc (.cells #[.int .u64 0, .slice none 0 0, .slice none 0 0, .slice none 0 0] 26) := ⟨_, rfl⟩
  have hB0 : Below w.heap.size w W0 := by rw [hW0]; exact (Rows8.newB).alloc (by simp) _
  have HK : Hid (Rows8 W0 w.heap.size 26 #[.int .u64 (E : Nat), .slice (s.a 0) (s.n 0) (s.c 0), .slice (s.a 1) (s.n 1) (s.c 1), .slice (s.a 2) (s.n 2) (s.c 2)]) := Lib.hid (by rw [hW0]; exact (Rows8.new _ _ _).alloc _)
  have HZ : Hid (Rows8 W0 (w.heap.size + 1) 26 #[.int .u64 0, .slice none 0 0, .slice none 0 0, .slice none 0 0]) := Lib.hid (by rw [hW0]; exact rows_new2 _ _ _ _)
  have HB := Lib.hid hB0
  have HI := Lib.hid (hI.below hB0)
  have HE := Lib.hid (rightL_iff.1 hr).1.1
  have hof0 := of_ready hr
  have HR0 := Lib.hid hr
  obtain ⟨a, n, c, hof⟩ := ofV_form E 2 s
  have HOf := Tryd.refOf_any E s 2 W0 (by have := HE.out; omega) (by decide)
  rw [hof] at HOf
  have HOf : Hid (Calls Tryd.prog 13 #[.agg #[.int .u64 (E : Nat), .slice (s.a 0) (s.n 0) (s.c 0), .slice (s.a 1) (s.n 1) (s.c 1), .slice (s.a 2) (s.n 2) (s.c 2)], .int .u64 2] W0 fun e w' => e = .returned (.slice a n c) ∧ Below W0.heap.size W0 w') := Lib.hid HOf
  have hnl : n = (readyL E r).length := by
    have h := ofV_at HI.out E 2
    rw [hof, hof0] at h
    exact (pAt_len h).1
  have HNL := Lib.hid hnl
  have c0 : W0.cell? ⟨w.heap.size, 0, none⟩ = some (.int .u64 (E : Nat)) := HK.out.cell 0
  have c1 : W0.cell? ⟨w.heap.size, 1, none⟩ = some (.slice (s.a 0) (s.n 0) (s.c 0)) := HK.out.cell 1
  have c2 : W0.cell? ⟨w.heap.size, 2, none⟩ = some (.slice (s.a 1) (s.n 1) (s.c 1)) := HK.out.cell 2
  have c3 : W0.cell? ⟨w.heap.size, 3, none⟩ = some (.slice (s.a 2) (s.n 2) (s.c 2)) := HK.out.cell 3
  have lt := HK.out.lt
  have HI0 := Lib.hid hI
  clear hB0 hI hr hof0 hof hnl
  go_enter Tryd.func26, Tryd.ntmps26
  go_upto_region 1 with fail
  rw [← hW0]
  clear hW0
  go_wp2_with fail
  refine HOf.out.mono ?_
  rintro e W1 ⟨rfl, hC⟩
  have HK := Lib.hid (HK.out.below hC HK.out.lt)
  have HZ := Lib.hid (HZ.out.below hC HZ.out.lt)
  have HI := Lib.hid (HI.out.below hC)
  have HB := Lib.hid (HB.out.trans (hC.mono HB.out.size))
  clear hC HOf c0 c1 c2 c3 lt
  by_cases hz : readyL E r = []
  · have hn0 : n = 0 := by rw [HNL.out, hz]; rfl
    have HZ9 := Lib.hid hz
    subst hn0
    clear hz HNL
    have c0 : W1.cell? ⟨w.heap.size, 0, none⟩ = some (.int .u64 (E : Nat)) := HK.out.cell 0
    have lt := HK.out.lt
    by_cases hM : E = 4611686018427387904
    · have hM2 : ((E : Nat) : Int) = 4611686018427387904 := by omega
      have HM := Lib.hid hM
      clear hM
      have hT : Hid (T = (6, 0, fun _ => [])) := Lib.hid (HTT.out.trans ((tryAdv HR0.out).2.1 HZ9.out HM.out))
      have HR := Lib.hid (rows4 HZ.out (.int .u64 0) (.slice none 0 0) (.slice none 0 0) (.slice none 0 0))
      have HB3 := Lib.hid (below4 HB.out (B := w.heap.size + 1) (by omega) (.int .u64 0) (.slice none 0 0) (.slice none 0 0) (.slice none 0 0))
      have z0 : W1.cell? ⟨w.heap.size + 1, 0, none⟩ = some (.int .u64 0) := HZ.out.cell 0
      have f0 := HZ.out.frozen 0
      have z1 : W1.cell? ⟨w.heap.size + 1, 1, none⟩ = some (.slice none 0 0) := HZ.out.cell 1
      have f1 := HZ.out.frozen 1
      have z2 : W1.cell? ⟨w.heap.size + 1, 2, none⟩ = some (.slice none 0 0) := HZ.out.cell 2
      have f2 := HZ.out.frozen 2
      have z3 : W1.cell? ⟨w.heap.size + 1, 3, none⟩ = some (.slice none 0 0) := HZ.out.cell 3
      have f3 := HZ.out.frozen 3
      have ltz := HZ.out.lt
      go_wp2_with fail
      refine bodyPost_ret (results_ctA rfl _ _ (w.heap.size + 1) _ _ rfl rfl (load_row HR.out Tryd.underlying26 rfl (by kernel_rfl))) rfl ?_
      exact ⟨⟨zLs, by rw [hT.out]; rfl, by rw [hT.out]; exact z3_at _, fun _ _ _ => by rw [hT.out]; exact notAt_z _ _⟩, HB3.out⟩
    · have hM2 : (((E : Nat) : Int) == 4611686018427387904) = false := by simp; omega
      have hT : Hid (T = (0, E + 1, r)) := Lib.hid (HTT.out.trans ((tryAdv HR0.out).2.2 HZ9.out hM))
      obtain ⟨F, hF⟩ : ∃ F, F = E + 1 := ⟨_, rfl⟩
      have hw : IntKind.u64.wrap (((E : Nat) : Int) + 1) = ((F : Nat) : Int) := by have := HE.out; rw [IntKind.wrap_u64]; omega
      have f9 := HK.out.frozen 0
      have HK2 : Hid (Rows8 (W1.setCell ⟨w.heap.size, 0, none⟩ (.int .u64 (F : Nat))) w.heap.size 26 #[.int .u64 (F : Nat), .slice (s.a 0) (s.n 0) (s.c 0), .slice (s.a 1) (s.n 1) (s.c 1), .slice (s.a 2) (s.n 2) (s.c 2)]) := Lib.hid (HK.out.set 0 (.int .u64 (F : Nat)))
      have HZ2 := Lib.hid (HZ.out.setOther (a := ⟨w.heap.size, 0, none⟩) (by simp) (.int .u64 (F : Nat)))
      have HB2 := Lib.hid (HB.out.setCell (p := ⟨w.heap.size, 0, none⟩) (Nat.le_refl _) (.int .u64 (F : Nat)))
      have HR := Lib.hid (rows4 HZ2.out (.int .u64 (F : Nat)) (.slice (s.a 0) (s.n 0) (s.c 0)) (.slice (s.a 1) (s.n 1) (s.c 1)) (.slice (s.a 2) (s.n 2) (s.c 2)))
      have HB3 := Lib.hid (below4 HB2.out (B := w.heap.size + 1) (by omega) (.int .u64 (F : Nat)) (.slice (s.a 0) (s.n 0) (s.c 0)) (.slice (s.a 1) (s.n 1) (s.c 1)) (.slice (s.a 2) (s.n 2) (s.c 2)))
      have HFE := Lib.hid hF
      have m0 : (W1.setCell ⟨w.heap.size, 0, none⟩ (.int .u64 (F : Nat))).cell? ⟨w.heap.size, 0, none⟩ = some (.int .u64 (F : Nat)) := HK2.out.cell 0
      have m1 : (W1.setCell ⟨w.heap.size, 0, none⟩ (.int .u64 (F : Nat))).cell? ⟨w.heap.size, 1, none⟩ = some (.slice (s.a 0) (s.n 0) (s.c 0)) := HK2.out.cell 1
      have m2 : (W1.setCell ⟨w.heap.size, 0, none⟩ (.int .u64 (F : Nat))).cell? ⟨w.heap.size, 2, none⟩ = some (.slice (s.a 1) (s.n 1) (s.c 1)) := HK2.out.cell 2
      have m3 : (W1.setCell ⟨w.heap.size, 0, none⟩ (.int .u64 (F : Nat))).cell? ⟨w.heap.size, 3, none⟩ = some (.slice (s.a 2) (s.n 2) (s.c 2)) := HK2.out.cell 3
      have z0 : (W1.setCell ⟨w.heap.size, 0, none⟩ (.int .u64 (F : Nat))).cell? ⟨w.heap.size + 1, 0, none⟩ = some (.int .u64 0) := HZ2.out.cell 0
      have f0 := HZ2.out.frozen 0
      have z1 : (W1.setCell ⟨w.heap.size, 0, none⟩ (.int .u64 (F : Nat))).cell? ⟨w.heap.size + 1, 1, none⟩ = some (.slice none 0 0) := HZ2.out.cell 1
      have f1 := HZ2.out.frozen 1
      have z2 : (W1.setCell ⟨w.heap.size, 0, none⟩ (.int .u64 (F : Nat))).cell? ⟨w.heap.size + 1, 2, none⟩ = some (.slice none 0 0) := HZ2.out.cell 2
      have f2 := HZ2.out.frozen 2
      have z3 : (W1.setCell ⟨w.heap.size, 0, none⟩ (.int .u64 (F : Nat))).cell? ⟨w.heap.size + 1, 3, none⟩ = some (.slice none 0 0) := HZ2.out.cell 3
      have f3 := HZ2.out.frozen 3
      have ltz := HZ2.out.lt
      have ltm := HK2.out.lt
      clear hM hF
      go_wp2_with fail
      refine bodyPost_ret (results_ctA rfl _ _ (w.heap.size + 1) _ _ rfl rfl (load_row HR.out Tryd.underlying26 rfl (by kernel_rfl))) rfl ?_
      exact ⟨⟨s, by rw [hT.out, HFE.out]; rfl, by rw [hT.out]; exact HI0.out.below HB3.out, fun _ _ h => by rw [hT.out]; exact h⟩, HB3.out⟩
  · have hn0 : (0 : Int) < (n : Int) := by have := HNL.out; have h9 : (readyL E r).length ≠ 0 := fun h => hz (List.eq_nil_of_length_eq_zero h); omega
    have HZ9 := Lib.hid hz
    clear hz HNL
    have hT : Hid (T = (241, 0, fun _ => [])) := Lib.hid (HTT.out.trans ((tryAdv HR0.out).1 HZ9.out))
    have HR := Lib.hid (rows4 HZ.out (.int .u64 0) (.slice none 0 0) (.slice none 0 0) (.slice none 0 0))
    have HB3 := Lib.hid (below4 HB.out (B := w.heap.size + 1) (by omega) (.int .u64 0) (.slice none 0 0) (.slice none 0 0) (.slice none 0 0))
    have z0 : W1.cell? ⟨w.heap.size + 1, 0, none⟩ = some (.int .u64 0) := HZ.out.cell 0
    have f0 := HZ.out.frozen 0
    have z1 : W1.cell? ⟨w.heap.size + 1, 1, none⟩ = some (.slice none 0 0) := HZ.out.cell 1
    have f1 := HZ.out.frozen 1
    have z2 : W1.cell? ⟨w.heap.size + 1, 2, none⟩ = some (.slice none 0 0) := HZ.out.cell 2
    have f2 := HZ.out.frozen 2
    have z3 : W1.cell? ⟨w.heap.size + 1, 3, none⟩ = some (.slice none 0 0) := HZ.out.cell 3
    have f3 := HZ.out.frozen 3
    have ltz := HZ.out.lt
    go_wp2_with fail
    refine bodyPost_ret (results_ctA rfl _ _ (w.heap.size + 1) _ _ rfl rfl (load_row HR.out Tryd.underlying26 rfl (by kernel_rfl))) rfl ?_
    exact ⟨⟨zLs, by rw [hT.out]; rfl, by rw [hT.out]; exact z3_at _, fun _ _ _ => by rw [hT.out]; exact notAt_z _ _⟩, HB3.out⟩
end Go.Proofs
