/- Limbo: Held; since when it waits. -/
import Derived.Test.YtghnfiegihfdnaaDoorLg
namespace Go.Proofs
set_option maxRecDepth 100000
open Go.RowKit Go.Shelf
attribute [local go_sem] Oper.semAt_some

set_option maxHeartbeats 2000000 in
theorem Tryd.Held_any (E : Nat) (s : Ls) (r : Rw3) (w : World) (hI : LAt w s r) (hE : E < 18446744073709551616) :
    Calls Tryd.prog 16 #[.agg #[.int .u64 (E : Nat), .slice (s.a 0) (s.n 0) (s.c 0), .slice (s.a 1) (s.n 1) (s.c 1), .slice (s.a 2) (s.n 2) (s.c 2)]] w fun e w' => ∃ v, e = .returned v ∧ OwnsP tE w.heap.size (if rightL E r then heldL E r else []) v w' ∧ Below w.heap.size w w' := by
  have hB0 : Below w.heap.size w ((w.alloc (.cells #[.int .u64 (E : Nat), .slice (s.a 0) (s.n 0) (s.c 0), .slice (s.a 1) (s.n 1) (s.c 1), .slice (s.a 2) (s.n 2) (s.c 2)] 26)).alloc (.cells #[.int .u64 (E : Nat), .slice (s.a 0) (s.n 0) (s.c 0), .slice (s.a 1) (s.n 1) (s.c 1), .slice (s.a 2) (s.n 2) (s.c 2)] 57)) := (Rows8.newB).alloc (by simp) _
  have hV0 := rows_new2 w (.cells #[.int .u64 (E : Nat), .slice (s.a 0) (s.n 0) (s.c 0), .slice (s.a 1) (s.n 1) (s.c 1), .slice (s.a 2) (s.n 2) (s.c 2)] 26) 57 #[.int .u64 (E : Nat), .slice (s.a 0) (s.n 0) (s.c 0), .slice (s.a 1) (s.n 1) (s.c 1), .slice (s.a 2) (s.n 2) (s.c 2)]
  have HM := Lib.hid (Tryd.mayBe_any E s r _ (hI.below hB0) hE)
  have HHV := Lib.hid (fun (h : rightL E r = true) W (hL : LAt W s r) => Tryd.heldV_any E s r W hL (rightL_iff.1 h).1.1 (fun k hk => by have := rightL_lenk h k hk; omega))
  have HI := Lib.hid hI
  have HB0 := Lib.hid hB0
  have HV0 := Lib.hid hV0
  obtain ⟨q, hq⟩ : ∃ q, q = rightL E r := ⟨_, rfl⟩
  rw [← hq] at HM HHV ⊢
  obtain ⟨L, hL⟩ : ∃ L, L = heldL E r := ⟨_, rfl⟩
  rw [← hL] at HHV ⊢
  clear hB0 hV0 hI hE hq hL
  go_enter Tryd.func16, Tryd.ntmps16
  go_wp2_with fail
  refine HM.out.mono ?_
  rintro e w1 ⟨rfl, hB1⟩
  have v1 := HV0.out.below hB1 HV0.out.lt
  have c0 : w1.cell? ⟨w.heap.size + 1, 0, none⟩ = some (.int .u64 (E : Nat)) := v1.cell 0
  have c1 : w1.cell? ⟨w.heap.size + 1, 1, none⟩ = some (.slice (s.a 0) (s.n 0) (s.c 0)) := v1.cell 1
  have c2 : w1.cell? ⟨w.heap.size + 1, 2, none⟩ = some (.slice (s.a 1) (s.n 1) (s.c 1)) := v1.cell 2
  have c3 : w1.cell? ⟨w.heap.size + 1, 3, none⟩ = some (.slice (s.a 2) (s.n 2) (s.c 2)) := v1.cell 3
  have HB1 := Lib.hid (HB0.out.trans (hB1.mono HB0.out.size))
  clear hB1 v1
  cases q with
  | false =>
    go_wp2_with fail
    go_ret
    exact ⟨_, rfl, ownsP_nil _ _ _, HB1.out⟩
  | true =>
    have HC1 := Lib.hid (HHV.out rfl w1 (HI.out.below HB1.out))
    go_wp2_with fail
    refine HC1.out.mono ?_
    rintro e w3 ⟨v, rfl, hO, hB3⟩
    have HO := Lib.hid (hO.mono HB1.out.size)
    have HB3 := Lib.hid (HB1.out.trans (hB3.mono HB1.out.size))
    clear hO hB3
    go_wp2_with fail
    go_ret
    exact ⟨_, rfl, HO.out, HB3.out⟩
theorem Tryd.when1_any (p : Pr) (z : Int) (B : Nat) (w : World) (hR : Rows8 w B 3 #[.int .i64 z]) :
    Calls Tryd.prog 54 #[.agg #[.int .i64 p.1, .int .u64 (p.2 : Nat)], .pointer (some ⟨B, 0, none⟩)] w fun e w' => e = .returned (.bool (p.1 == z)) ∧ Below w.heap.size w w' := by
  have hB0 : Below w.heap.size w (w.alloc (.cells #[.int .i64 p.1, .int .u64 (p.2 : Nat)] 38)) := Rows8.newB
  have c0 : w.cell? ⟨B, 0, none⟩ = some (.int .i64 z) := hR.cell 0
  have hl := hR.lt
  have HB0 := Lib.hid hB0
  clear hB0 hR
  go_enter Tryd.func54, Tryd.ntmps54
  go_wp2_with fail
  go_ret
  exact ⟨rfl, HB0.out⟩
theorem hasS_next {l : List Pr} {z : Int} {k : Nat} (h : k < l.length) (hx : hasS (l.take k) z = false) : hasS (l.take (k + 1)) z = (l[k].1 == z) := by
  rw [take_snoc l k h, hasS_snoc, hx]
  simp
theorem hasS_yes {l : List Pr} {z : Int} {k : Nat} (hx : hasS (l.take k) z = true) : hasS l z = true := by
  rw [← List.take_append_drop k l, hasS_app, hx]
  rfl
set_option maxHeartbeats 2000000 in
theorem Tryd.someSlab_any (a : Option Addr) (n cap : Nat) (l : List Pr) (z : Int) (B : Nat) (w : World) (hI : PAt w (.slice a n cap) l) (hR : Rows8 w B 3 #[.int .i64 z]) :
    Calls Tryd.prog 51 #[.slice a n cap, .func (.func 54) #[] #[.pointer (some ⟨B, 0, none⟩)]] w fun e w' => e = .returned (.bool (hasS l z)) ∧ Below w.heap.size w w' := by
  have hn := (pAt_len hI).1
  have hn2 := (pAt_len hI).2
  unfold maxLen at hn2
  have hreach : n ≤ 9223372036854775807 := by omega
  have HN := Lib.hid hn
  have HI := Lib.hid hI
  obtain ⟨q, hq⟩ : ∃ q, q = hasS l z := ⟨_, rfl⟩
  rw [← hq]
  have HQ := Lib.hid hq
  have HR := Lib.hid hR
  clear hI hn hn2 hR hq
  go_enter Tryd.func51, Tryd.ntmps51
  go_wp2
  go_loopw [6, 9] (fun _ j wr => ∃ k : Nat, k ≤ n ∧ j = .int .i64 k ∧ Hid (hasS (l.take k) z = false) ∧ Hid (Below w.heap.size w wr)) (fun _ j _ => n - (intOf j).toNat)
  case atStart => exact ⟨0, Nat.zero_le _, rfl, Lib.hid rfl, Lib.hid (Below.refl _ _)⟩
  case round =>
    obtain ⟨k, hk, rfl, hx, hB⟩ := hrel
    by_cases hlt : k < n
    · have hkl : k < l.length := by rw [← HN.out]; exact hlt
      obtain ⟨b, off, rfl, hb2, c0, c1⟩ := pAt_get (HI.out.below hB.out) k hkl
      have hall := hasS_next hkl hx.out
      have hano := fun h => hasS_yes (l := l) (z := z) (k := k + 1) h
      generalize l[k] = p at *
      have hal : Below wr.heap.size wr (wr.alloc (.cells #[.int .i64 p.1, .int .u64 (p.2 : Nat)] 38)) := Rows8.newB
      have hr := HR.out.below hB.out HR.out.lt
      have HC := Lib.hid (Tryd.when1_any p z B _ (hr.below hal hr.lt))
      rw [← hall] at HC
      have HNO := Lib.hid hano
      have hki : (k : Int) < (n : Int) := by omega
      have HB := Lib.hid (hB.out.trans (hal.mono hB.out.size))
      clear hall hano hx hB hr hal hkl
      obtain ⟨y, hy⟩ : ∃ y, y = hasS (l.take (k + 1)) z := ⟨_, rfl⟩
      rw [← hy] at HC HNO
      have HY := Lib.hid hy
      clear hy
      go_wp2_with fail
      refine HC.out.mono ?_
      rintro e w' ⟨rfl, hB2⟩
      have HB2 := Lib.hid (HB.out.trans (hB2.mono HB.out.size))
      clear hB2
      cases y with
      | false =>
        go_wp2_with fail
        exact ⟨⟨k + 1, by omega, by go_num, Lib.hid HY.out.symm, HB2⟩, by simp [intOf]; omega⟩
      | true =>
        have h9 : Hid (q = true) := Lib.hid (by rw [HQ.out]; exact HNO.out rfl)
        go_wp2_with fail
        go_ret
        exact ⟨by rw [h9.out]; rfl, HB2.out⟩
    · obtain rfl : k = n := by omega
      have h9 : Hid (q = false) := Lib.hid (by rw [HQ.out]; have := hx.out; rwa [List.take_of_length_le (Nat.le_of_eq HN.out.symm)] at this)
      clear hx
      go_wp2_with fail
      go_ret
      exact ⟨by rw [h9.out]; rfl, hB.out⟩
theorem find_pre {E : Nat} {r : Rw3} {z : Int} {pre : List Nat} {k : Nat} (h : pre ++ [k] <+: wtL E) (hn : (pre.find? fun k => hasS (r (k % 3)) z) = none) (hy : hasS (r (k % 3)) z = true) : whenL E r z = some k := by
  obtain ⟨t, ht⟩ := h
  unfold whenL
  rw [← ht, List.append_assoc, List.find?_append, hn]
  simp [hy]
def optV (o : Option Nat) : Int × Bool := match o with | some k => ((k : Nat), true) | none => (0, false)
set_option maxHeartbeats 8000000 in
theorem Tryd.whenV_any (E : Nat) (s : Ls) (r : Rw3) (z : Int) (w : World) (hI : LAt w s r) (hE : E ≤ 4611686018427387904) :
    Calls Tryd.prog 39 #[.agg #[.int .u64 (E : Nat), .slice (s.a 0) (s.n 0) (s.c 0), .slice (s.a 1) (s.n 1) (s.c 1), .slice (s.a 2) (s.n 2) (s.c 2)], .int .i64 z] w fun e w' => e = .returned (.tuple #[.int .u64 (optV (whenL E r z)).1, .bool (optV (whenL E r z)).2]) ∧ Below w.heap.size w w' := by
  refine (callsIn_wide (n := 9)).1 ?_
  refine callsIn_of_wp_marks Tryd.func39 rfl trivial ?_ rfl
  simp only [Tryd.ntmps39, List.size_toArray, List.length_cons, List.length_nil, Nat.reduceAdd, Nat.reduceSub, Array.replicate_succ, Array.replicate_zero, List.push_toArray, List.append_toArray, List.nil_append, List.cons_append]
  obtain ⟨W0, hW0⟩ : ∃ W, W = (((w.alloc (.cells #[.int .u64 (E : Nat), .slice (s.a 0) (s.n 0) (s.c 0), .slice (s.a 1) (s.n 1) (s.c 1), .slice (s.a 2) (s.n 2) (s.c 2)] 57)).alloc (.cells #[.int .i64 z] 3)).alloc (.cells #[.int .u64 0] 22)).alloc (.cells #[.bool false] 4) := ⟨_, rfl⟩
  have v1 : Rows8 W0 (w.heap.size + 1) 3 #[.int .i64 z] := by rw [hW0]; exact ((rows_new2 _ _ _ _).alloc _).alloc _
  have f1 : Rows8 W0 (w.heap.size + 1 + 1) 22 #[.int .u64 0] := by
    have h := Rows8.new ((w.alloc (.cells #[.int .u64 (E : Nat), .slice (s.a 0) (s.n 0) (s.c 0), .slice (s.a 1) (s.n 1) (s.c 1), .slice (s.a 2) (s.n 2) (s.c 2)] 57)).alloc (.cells #[.int .i64 z] 3)) 22 #[.int .u64 0]
    rw [World.size_alloc, World.size_alloc] at h
    rw [hW0]; exact h.alloc _
  have g1 : Rows8 W0 (w.heap.size + 1 + 1 + 1) 4 #[.bool false] := by
    have h := Rows8.new (((w.alloc (.cells #[.int .u64 (E : Nat), .slice (s.a 0) (s.n 0) (s.c 0), .slice (s.a 1) (s.n 1) (s.c 1), .slice (s.a 2) (s.n 2) (s.c 2)] 57)).alloc (.cells #[.int .i64 z] 3)).alloc (.cells #[.int .u64 0] 22)) 4 #[.bool false]
    rw [World.size_alloc, World.size_alloc, World.size_alloc] at h
    rw [hW0]; exact h
  have hB1 : Below w.heap.size w W0 := by rw [hW0]; exact (((Rows8.newB).alloc (by simp) _).alloc (by simp <;> omega) _).alloc (by simp <;> omega) _
  have hsz : W0.heap.size = w.heap.size + 1 + 1 + 1 + 1 := by rw [hW0]; simp only [World.size_alloc]
  have HP := fun W => Lib.hid (Tryd.waiting_any E s W)
  obtain ⟨q, hq⟩ : ∃ q, q = whenL E r z := ⟨_, rfl⟩
  rw [← hq]
  have HQ := Lib.hid hq
  have HI := Lib.hid hI
  have HE := Lib.hid hE
  have HZ := Lib.hid hW0
  clear hI hE hq
  gi_wp2_with fail
  rw [← hW0]
  clear hW0 HZ
  refine ⟨trivial, ?_⟩
  refine (callsIn_wide.2 (HP _).out).mono ?_
  rintro e W1 ⟨rfl, hw1⟩
  have hB01 : Below W0.heap.size W0 W1 := by rw [hw1]; exact Rows8.newB
  have p1 : Rows8 W1 W0.heap.size 57 #[.int .u64 (E : Nat), .slice (s.a 0) (s.n 0) (s.c 0), .slice (s.a 1) (s.n 1) (s.c 1), .slice (s.a 2) (s.n 2) (s.c 2)] := by rw [hw1]; exact Rows8.new _ _ _
  rw [hsz] at p1
  simp only [hsz]
  have hB2 := hB1.trans (hB01.mono hB1.size)
  have v2 := v1.below hB01 v1.lt
  have f2 := f1.below hB01 f1.lt
  have g2 := g1.below hB01 g1.lt
  have hs1 : W0.heap.size ≤ W1.heap.size := hB01.size
  have HTL := Lib.hid (Tryd.waiting1_tells 8 (by decide) (Kt w.heap.size 22 4) (w.heap.size + 1 + 1 + 1 + 1) E s HE.out W1 (fun A => Kt w.heap.size 22 4 W1 A) (Kt.refl _ _ _ _) (fun A hA => hA.rows p1 (by decide) (by decide)) (fun A B hA hB => hA.trans (.of_below hB)) (fun A B p hA => hA.trans p))
  have HB2 := Lib.hid hB2
  have HV2 := Lib.hid v2
  have hmf : ∀ (fn : Fn) (first cap : Array Value) (w : World), (Instr.makeFunc fn first cap).run Tryd.prog w = .ok (.func fn first cap) w := fun _ _ _ _ => rfl
  clear v1 f1 g1 hB1 hw1 hB01 p1 v2 hB2
  gi_wp2_with fail
  refine range_tellsD rfl (by decide) (gf := 57) (lb := #[.pointer (some ⟨w.heap.size + 1 + 1 + 1 + 1, 0, none⟩)]) rfl trivial (fun _ _ => by kernel_rfl) HTL.out kt_t (kt_b (B := W1.heap.size)) (Below.refl _ _) (fun _ => rfl)
    (fun pre W => (pre.find? fun k => hasS (r (k % 3)) z) = none ∧ Rows8 W (w.heap.size + 1) 3 #[.int .i64 z] ∧ Rows8 W (w.heap.size + 1 + 1) 22 #[.int .u64 0] ∧ Rows8 W (w.heap.size + 1 + 1 + 1) 4 #[.bool false] ∧ Below w.heap.size w W)
    (fun c' pre W => c' = .ret ∧ ∃ k, whenL E r z = some k ∧ Rows8 W (w.heap.size + 1 + 1) 22 #[.int .u64 (k : Nat)] ∧ Rows8 W (w.heap.size + 1 + 1 + 1) 4 #[.bool true] ∧ Below w.heap.size w W)
    (fun q X Y row h hg hr => ⟨h.1, h.2.1.keepM hg (fun r e => (hr r e).2), h.2.2.1.keepM hg (fun r e => (hr r e).2), h.2.2.2.1.keepM hg (fun r e => (hr r e).2), (ownFrom_below (β := Unit) (Nat.le_refl _) (by omega)) () X Y row h.2.2.2.2 hg hr⟩)
    (fun c' q X Y row h hg hr => by
      obtain ⟨h1, k, h2, h3, h4, h5⟩ := h
      exact ⟨h1, k, h2, h3.keepM hg (fun r e => (hr r e).2), h4.keepM hg (fun r e => (hr r e).2), (ownFrom_below (β := Unit) (Nat.le_refl _) (by omega)) () X Y row h5 hg hr⟩)
    (fun q X Y h hXY => ⟨h.1, h.2.1.below hXY h.2.1.lt, h.2.2.1.below hXY h.2.2.1.lt, h.2.2.2.1.below hXY h.2.2.2.1.lt, h.2.2.2.2.trans (hXY.mono h.2.2.2.2.size)⟩)
    (fun c' q X Y h hXY => by
      obtain ⟨h1, k, h2, h3, h4, h5⟩ := h
      exact ⟨h1, k, h2, h3.below hXY h3.lt, h4.below hXY h4.lt, h5.trans (hXY.mono h5.size)⟩)
    ⟨rfl, HV2.out, f2, g2, HB2.out⟩
    (fun k a' W' => a' = { tmps := #[.agg #[.int .u64 (E : Nat), .slice (s.a 0) (s.n 0) (s.c 0), .slice (s.a 1) (s.n 1) (s.c 1), .slice (s.a 2) (s.n 2) (s.c 2)], .int .i64 z, .pointer (some ⟨w.heap.size, 0, none⟩), .pointer (some ⟨w.heap.size + 1, 0, none⟩), .pointer (some ⟨w.heap.size + 1 + 1, 0, none⟩), .pointer (some ⟨w.heap.size + 1 + 1 + 1, 0, none⟩), .int .u64 (k : Nat), .slice (s.a (k % 3)) (s.n (k % 3)) (s.c (k % 3)), .agg #[.int .u64 (E : Nat), .slice (s.a 0) (s.n 0) (s.c 0), .slice (s.a 1) (s.n 1) (s.c 1), .slice (s.a 2) (s.n 2) (s.c 2)], .func (.func 57) #[] #[.pointer (some ⟨w.heap.size + 1 + 1 + 1 + 1, 0, none⟩)], .int .u64 (k : Nat), .slice (s.a (k % 3)) (s.n (k % 3)) (s.c (k % 3)), undef, undef, undef, undef], defers := [] })
    (fun y a' s X Y row e hg hr => e) ?assign ?body ?done ?stop
  case assign =>
    rintro l2 pre k W' K hI2 hK
    unfold encW
    gi_wp2_with fail
    exact hK _ _ (keepsFrom_below (Below.refl _ _)) (.of_below (Below.refl _ _)) hI2 (by simp)
  case body =>
    rintro l2 pre k a' W' ⟨hno, hz, hf, hg, hB⟩ rfl hok
    have hk3 : k % 3 < 3 := Nat.mod_lt _ (by decide)
    have hrow := (HI.out (k % 3) hk3).below hB
    have HC := Lib.hid (Tryd.someSlab_any _ _ _ (r (k % 3)) z (w.heap.size + 1) W' hrow hz)
    have hyes := fun h => find_pre (r := r) (z := z) hok hno h
    have hnx := fun h : hasS (r (k % 3)) z = false => show ((pre ++ [k]).find? fun k => hasS (r (k % 3)) z) = none by rw [find_snoc _ _ _ hno, h]; rfl
    obtain ⟨y, hy⟩ : ∃ y, y = hasS (r (k % 3)) z := ⟨_, rfl⟩
    rw [← hy] at HC hyes hnx
    have HYES := Lib.hid hyes
    have HNX := Lib.hid hnx
    have HZ1 := Lib.hid hz
    have HF := Lib.hid hf
    have HG := Lib.hid hg
    have HB := Lib.hid hB
    clear hno hz hf hg hB hok hrow hyes hnx hy hk3
    gi_wp2_with fail
    refine ⟨trivial, ?_⟩
    refine (CallsIn.inRound l2 (callsIn_wide.2 HC.out)).mono ?_
    rintro e W2 ⟨rfl, hB3⟩
    have z3 := HZ1.out.below hB3 HZ1.out.lt
    have f3 := HF.out.below hB3 HF.out.lt
    have g3 := HG.out.below hB3 HG.out.lt
    have b3 := HB.out.trans (hB3.mono HB.out.size)
    cases y with
    | false =>
      have H3 := Lib.hid (And.intro (HNX.out rfl) (And.intro z3 (And.intro f3 (And.intro g3 b3))))
      have HK3 := Lib.hid hB3
      clear z3 f3 g3 b3 hB3
      gi_wp2_with fail
      exact ⟨keepsFrom_below HK3.out, .of_below HK3.out, H3.out⟩
    | true =>
      have k1 : W2.cell? ⟨w.heap.size + 1 + 1, 0, none⟩ = some (.int .u64 0) := f3.cell 0
      have k2 : W2.cell? ⟨w.heap.size + 1 + 1 + 1, 0, none⟩ = some (.bool false) := g3.cell 0
      have e1 := f3.frozen 0
      have e2 := g3.frozen 0
      have l1 := f3.lt
      have l2 := g3.lt
      have s1 := (f3.set 0 (.int .u64 (k : Nat))).setOther (a := ⟨w.heap.size + 1 + 1 + 1, 0, none⟩) (by simp) (.bool true)
      have s2 := (g3.setOther (a := ⟨w.heap.size + 1 + 1, 0, none⟩) (by simp) (.int .u64 (k : Nat))).set 0 (.bool true)
      simp only [List.setIfInBounds_toArray, List.set_cons_zero] at s1 s2
      have b4 := (b3.setCell (p := ⟨w.heap.size + 1 + 1, 0, none⟩) (by simp <;> omega) (.int .u64 (k : Nat))).setCell (p := ⟨w.heap.size + 1 + 1 + 1, 0, none⟩) (by simp <;> omega) (.bool true)
      have HK3 := Lib.hid (keepsFrom_trans' (keepsFrom_below (B := W1.heap.size) hB3) (keepsFrom_trans' (keepsFrom_set (H := W1.heap.size) W2 (a := ⟨w.heap.size + 1 + 1, 0, none⟩) f3 (.int .u64 (k : Nat))) (keepsFrom_set (H := W1.heap.size) _ (a := ⟨w.heap.size + 1 + 1 + 1, 0, none⟩) (g3.setOther (a := ⟨w.heap.size + 1 + 1, 0, none⟩) (by simp) (.int .u64 (k : Nat))) (.bool true))))
      have HX := Lib.hid (And.intro (HYES.out rfl) (And.intro s1 (And.intro s2 b4)))
      clear z3 f3 g3 b3 hB3 s1 s2 b4
      gi_wp2_with fail
      exact ⟨HK3.out, rfl, k, HX.out⟩
  case done =>
    rintro D ys W' hD rfl ⟨hno, hz, hf, hg, hB⟩ hK
    have hqn : Hid (q = none) := Lib.hid (by rw [HQ.out]; exact hno)
    have cf : W'.cell? ⟨w.heap.size + 1 + 1, 0, none⟩ = some (.int .u64 0) := hf.cell 0
    have cg : W'.cell? ⟨w.heap.size + 1 + 1 + 1, 0, none⟩ = some (.bool false) := hg.cell 0
    have ff := hf.frozen 0
    have fg := hg.frozen 0
    have hltf := hf.lt
    have hltg := hg.lt
    have hneF : D ≠ w.heap.size + 1 + 1 := fun e => by
      subst e
      rw [show W'.heap[w.heap.size + 1 + 1]? = _ from hf] at hK
      cases hK
    have hneG : D ≠ w.heap.size + 1 + 1 + 1 := fun e => by
      subst e
      rw [show W'.heap[w.heap.size + 1 + 1 + 1]? = _ from hg] at hK
      cases hK
    have hK1 : ((W'.setCell ⟨w.heap.size + 1 + 1, 0, none⟩ (.int .u64 0)).setCell ⟨w.heap.size + 1 + 1 + 1, 0, none⟩ (.bool false)).heap[D]? = some (.deferred (some [])) := (Below.heap_setCell _ _ _ _ (by show D ≠ w.heap.size + 1 + 1 + 1; exact hneG)).trans ((Below.heap_setCell _ _ _ _ (by show D ≠ w.heap.size + 1 + 1; exact hneF)).trans hK)
    have s1 := (hf.set 0 (.int .u64 0)).setOther (a := ⟨w.heap.size + 1 + 1 + 1, 0, none⟩) (by simp) (.bool false)
    have s2 := (hg.setOther (a := ⟨w.heap.size + 1 + 1, 0, none⟩) (by simp) (.int .u64 0)).set 0 (.bool false)
    simp only [List.setIfInBounds_toArray, List.set_cons_zero] at s1 s2
    have HS1 := Lib.hid s1
    have HS2 := Lib.hid s2
    have HB1 := Lib.hid ((hB.setCell (p := ⟨w.heap.size + 1 + 1, 0, none⟩) (by simp <;> omega) (.int .u64 0)).setCell (p := ⟨w.heap.size + 1 + 1 + 1, 0, none⟩) (by simp <;> omega) (.bool false))
    have HKK := Lib.hid hK1
    clear hf hg hz hno hB s1 s2 hK1 hK hneF hneG
    gi_wp2_with fail
    refine ⟨by simp, .inl ⟨_, _, rfl, run_takeDeferred HKK.out, ?_⟩⟩
    exact ⟨_, results_cc rfl _ _ (w.heap.size + 1 + 1) (w.heap.size + 1 + 1 + 1) _ _ rfl rfl (load_one (rows_put HS1.out HKK.out) (by kernel_rfl)) (load_one (rows_put HS2.out HKK.out) (by kernel_rfl)), by rw [hqn.out]; rfl, HB1.out.trans (belowK_b (w := w) (Nat.le_refl _) _ D _ (.deferred none) (by omega) HKK.out rfl rfl)⟩
  case stop =>
    rintro D c' pre W' hD hSp ⟨rfl, k, hk, hf, hg, hB⟩ hK
    have hqn : Hid (q = some k) := Lib.hid (by rw [HQ.out]; exact hk)
    have HF := Lib.hid (rows_put (o := .deferred none) hf hK)
    have HG := Lib.hid (rows_put (o := .deferred none) hg hK)
    have HB := Lib.hid hB
    clear hf hg hB hk
    gi_wp2_with fail
    refine ⟨by simp, .inl ⟨_, _, rfl, run_takeDeferred hK, ?_⟩⟩
    exact ⟨_, results_cc rfl _ _ (w.heap.size + 1 + 1) (w.heap.size + 1 + 1 + 1) _ _ rfl rfl (load_one HF.out (by kernel_rfl)) (load_one HG.out (by kernel_rfl)), by rw [hqn.out]; rfl, HB.out.trans (belowK_b (w := w) (Nat.le_refl _) _ D _ _ (by omega) hK rfl rfl)⟩
set_option maxHeartbeats 2000000 in
theorem Tryd.When_any (E : Nat) (s : Ls) (r : Rw3) (z : Int) (w : World) (hI : LAt w s r) (hE : E < 18446744073709551616) :
    Calls Tryd.prog 18 #[.agg #[.int .u64 (E : Nat), .slice (s.a 0) (s.n 0) (s.c 0), .slice (s.a 1) (s.n 1) (s.c 1), .slice (s.a 2) (s.n 2) (s.c 2)], .int .i64 z] w fun e w' => e = .returned (.tuple #[.int .u64 (optV (if rightL E r then whenL E r z else none)).1, .bool (optV (if rightL E r then whenL E r z else none)).2]) ∧ Below w.heap.size w w' := by
  have hB0 : Below w.heap.size w ((w.alloc (.cells #[.int .u64 (E : Nat), .slice (s.a 0) (s.n 0) (s.c 0), .slice (s.a 1) (s.n 1) (s.c 1), .slice (s.a 2) (s.n 2) (s.c 2)] 26)).alloc (.cells #[.int .u64 (E : Nat), .slice (s.a 0) (s.n 0) (s.c 0), .slice (s.a 1) (s.n 1) (s.c 1), .slice (s.a 2) (s.n 2) (s.c 2)] 57)) := (Rows8.newB).alloc (by simp) _
  have hV0 := rows_new2 w (.cells #[.int .u64 (E : Nat), .slice (s.a 0) (s.n 0) (s.c 0), .slice (s.a 1) (s.n 1) (s.c 1), .slice (s.a 2) (s.n 2) (s.c 2)] 26) 57 #[.int .u64 (E : Nat), .slice (s.a 0) (s.n 0) (s.c 0), .slice (s.a 1) (s.n 1) (s.c 1), .slice (s.a 2) (s.n 2) (s.c 2)]
  have HM := Lib.hid (Tryd.mayBe_any E s r _ (hI.below hB0) hE)
  have HHV := Lib.hid (fun (h : rightL E r = true) W (hL : LAt W s r) => Tryd.whenV_any E s r z W hL (rightL_iff.1 h).1.1)
  have HI := Lib.hid hI
  have HB0 := Lib.hid hB0
  have HV0 := Lib.hid hV0
  obtain ⟨q, hq⟩ : ∃ q, q = rightL E r := ⟨_, rfl⟩
  rw [← hq] at HM HHV ⊢
  obtain ⟨o, ho⟩ : ∃ o, o = whenL E r z := ⟨_, rfl⟩
  rw [← ho] at HHV ⊢
  clear hB0 hV0 hI hE hq ho
  go_enter Tryd.func18, Tryd.ntmps18
  go_wp2_with fail
  refine HM.out.mono ?_
  rintro e w1 ⟨rfl, hB1⟩
  have v1 := HV0.out.below hB1 HV0.out.lt
  have c0 : w1.cell? ⟨w.heap.size + 1, 0, none⟩ = some (.int .u64 (E : Nat)) := v1.cell 0
  have c1 : w1.cell? ⟨w.heap.size + 1, 1, none⟩ = some (.slice (s.a 0) (s.n 0) (s.c 0)) := v1.cell 1
  have c2 : w1.cell? ⟨w.heap.size + 1, 2, none⟩ = some (.slice (s.a 1) (s.n 1) (s.c 1)) := v1.cell 2
  have c3 : w1.cell? ⟨w.heap.size + 1, 3, none⟩ = some (.slice (s.a 2) (s.n 2) (s.c 2)) := v1.cell 3
  have HB1 := Lib.hid (HB0.out.trans (hB1.mono HB0.out.size))
  clear hB1 v1
  cases q with
  | false =>
    go_wp2_with fail
    go_ret2
    exact ⟨rfl, HB1.out⟩
  | true =>
    have HC1 := Lib.hid (HHV.out rfl w1 (HI.out.below HB1.out))
    obtain ⟨p, hp⟩ : ∃ p, p = optV o := ⟨_, rfl⟩
    rw [← hp] at HC1
    have HPP := Lib.hid hp
    obtain ⟨x, y⟩ := p
    dsimp only at HC1
    clear hp
    go_wp2_with fail
    refine HC1.out.mono ?_
    rintro e w3 ⟨rfl, hB3⟩
    have HB3 := Lib.hid (HB1.out.trans (hB3.mono HB1.out.size))
    clear hB3
    go_wp2_with fail
    go_ret2
    refine ⟨?_, HB3.out⟩
    show _ = Ending.returned (.tuple #[.int .u64 (optV o).1, .bool (optV o).2])
    rw [← HPP.out]
    rfl
end Go.Proofs
