/- Keys that are told once each. -/
import Derived.Test.YtobomgedghbflaaVc
import Derived.Test.YtobomgedghbflaaGt
namespace Go.Proofs
open Go.RowKit Go.Shelf
attribute [local go_sem] Oper.semAt_some

def encW (x : Int) : Array Value := #[.int .u64 x]
/-- What is told of a row, behind what was told last. -/
def toldFrom : Option Int → List Int → List Int
  | _, [] => []
  | p, x :: t => if p = some x then toldFrom p t else x :: toldFrom (some x) t
def onceB (l : List Int) : List Int := toldFrom none l
theorem SRow.kt {h : Nat} {t1 t2 : TypeId} {A W : World} {B cap : Nat} {d : Array Int} (r : SRow A B cap d) (p : Kt h t1 t2 A W) (h1 : 22 ≠ t1) (h2 : 22 ≠ t2) : SRow W B cap d := by
  obtain ⟨cs, hR, h3⟩ := r
  exact ⟨cs, p.rows hR h1 h2, h3⟩
theorem getD_get! (d : Array Int) (k : Nat) (hk : k < d.size) : d.toList[k]'(by simpa using hk) = d[k]! := by simp [hk]
set_option maxRecDepth 100000 in
set_option maxHeartbeats 2000000 in
theorem Try.once1_tells (d : Nat) (hd : 1 ≤ d) (Bs g n : Nat) (dd : Array Int) (hn : n = dd.size) (hn1 : n ≤ 100000000) (h : Nat) (t1 t2 : TypeId) (ht1 : 22 ≠ t1) (ht2 : 22 ≠ t2) (ht3 : 23 ≠ t1) (ht4 : 23 ≠ t2) (w : World)
    (hBs : Rows8 w Bs 23 #[.slice (some ⟨g, 0, none⟩) n n]) (hS : SRow w g n dd) :
    TellsE Fence.wide d Try.prog 42 #[.pointer (some ⟨Bs, 0, none⟩)] encW (Kt h t1 t2) (fun xs => xs = onceB dd.toList) (fun pre x => pre ++ [x] <+: onceB dd.toList) w := fun lp J W hW hJ hY h0 => by
  refine callsIn_of_wp Try.func42 rfl trivial ?_ rfl
  simp only [Try.ntmps42, List.size_toArray, List.length_cons, List.length_nil, Nat.reduceAdd, Nat.reduceSub, Array.replicate_succ, Array.replicate_zero, List.push_toArray, List.append_toArray, List.nil_append, List.cons_append]
  have HY := Lib.hid hY
  have HJ := Lib.hid hJ
  have HN := Lib.hid hn
  have bs := hBs.below hW hBs.lt
  have ss := hS.below hW hS.lt
  have c0 : W.cell? ⟨Bs, 0, none⟩ = some (.slice (some ⟨g, 0, none⟩) n n) := bs.cell 0
  have BS := Lib.hid bs
  have SS := Lib.hid ss
  clear hY hJ hn bs ss hBs hS
  gi_wp2
  gi_loopw [7] (fun j wr => ∃ (k : Nat) (pre : List Int), k ≤ n ∧ j = .int .i64 k ∧ Hid (onceB dd.toList = pre ++ toldFrom (if k = 0 then none else some dd[k - 1]!) (dd.toList.drop k)) ∧ J pre wr ∧ Kt h t1 t2 W wr) (fun j _ => n - (intOf j).toNat)
  case atStart => exact ⟨0, [], Nat.zero_le _, rfl, Lib.hid rfl, h0, Kt.refl _ _ _ _⟩
  case round =>
    obtain ⟨k, pre, hk, rfl, hE, hJs, hK⟩ := hrel
    by_cases hlt : k < n
    · have hkl : k < dd.toList.length := by rw [Array.length_toList, ← HN.out]; exact hlt
      have hkd : k < dd.size := by rw [← HN.out]; exact hlt
      have s1 := SS.out.kt hK ht1 ht2
      have b1 := hK.rows BS.out ht3 ht4
      have p1 := s1.cell k hkd
      have c1 : wr.cell? ⟨Bs, 0, none⟩ = some (.slice (some ⟨g, 0, none⟩) n n) := b1.cell 0
      have hE2 := hE.out
      rw [List.drop_eq_getElem_cons hkl, getD_get! dd k hkd, toldFrom] at hE2
      have hki : (k : Int) < (n : Int) := by omega
      by_cases hz : k = 0
      · have hg0 : decide ((0 : Int) < (k : Int)) = false := by simp; omega
        have hg1 : decide (0 < k) = false := by simp; omega
        rw [if_pos hz, if_neg (by simp)] at hE2
        clear hz
        obtain ⟨x, hx⟩ : ∃ x, x = dd[k]! := ⟨_, rfl⟩
        rw [← hx] at p1 hE2
        have HX := Lib.hid hx
        clear hx
        have hE3 : onceB dd.toList = pre ++ [x] ++ toldFrom (some x) (dd.toList.drop (k + 1)) := by rw [hE2]; simp
        have hpx : pre ++ [x] <+: onceB dd.toList := by rw [hE3]; exact List.prefix_append _ _
        obtain ⟨fn, tmps, assign, body, hy, hR⟩ := HY.out pre x wr hJs hpx
        unfold encW at hy
        have HE2 := Lib.hid hE3
        have HK := Lib.hid hK
        clear hE hE2 hE3 hK hpx s1 b1 hJs hkl hkd
        gi_wp2_with fail
        refine hR.mono ?_
        rintro e w5 ⟨rfl, hJ5, hk5, hx5⟩
        have HJ5 := Lib.hid hJ5
        have HK5 := Lib.hid (HK.out.trans hx5)
        clear hJ5 hk5 hx5
        gi_wp2_with fail
        go_roundw
        case rel => exact ⟨k + 1, _, by omega, by go_num, Lib.hid (by rw [HE2.out, if_neg (by omega), Nat.add_sub_cancel, ← HX.out]), HJ5.out, HK5.out⟩
        case measure => simp [intOf]; omega
      · have hg0 : decide ((0 : Int) < (k : Int)) = true := by simp; omega
        have hg1 : decide (0 < k) = true := by simp; omega
        have p0 := s1.cell (k - 1) (by omega)
        have hi0 : (k : Int) - 1 < (n : Int) := by omega
        have hi2 : 0 ≤ (k : Int) - 1 := by omega
        rw [if_neg hz] at hE2
        obtain ⟨x, hx⟩ : ∃ x, x = dd[k]! := ⟨_, rfl⟩
        rw [← hx] at p1 hE2
        obtain ⟨y, hy0⟩ : ∃ y, y = dd[k - 1]! := ⟨_, rfl⟩
        rw [← hy0] at p0 hE2
        clear hy0
        have HX := Lib.hid hx
        clear hx
        by_cases hxy : x = y
        · subst hxy
          have hq : (x == x) = true := by simp
          rw [if_pos rfl] at hE2
          have HE2 := Lib.hid hE2
          have HK := Lib.hid hK
          have HJS := Lib.hid hJs
          clear hE hE2 hK s1 b1 hkl hkd hJs
          gi_wp2_with fail
          go_roundw
          case rel => exact ⟨k + 1, pre, by omega, by go_num, Lib.hid (by rw [HE2.out, if_neg (by omega), Nat.add_sub_cancel, ← HX.out]), HJS.out, HK.out⟩
          case measure => simp [intOf]; omega
        · have hq : (x == y) = false := by simp [hxy]
          rw [if_neg (fun e => hxy (by injection e with e; exact e.symm))] at hE2
          have hE3 : onceB dd.toList = pre ++ [x] ++ toldFrom (some x) (dd.toList.drop (k + 1)) := by rw [hE2]; simp
          have hpx : pre ++ [x] <+: onceB dd.toList := by rw [hE3]; exact List.prefix_append _ _
          obtain ⟨fn, tmps, assign, body, hy, hR⟩ := HY.out pre x wr hJs hpx
          unfold encW at hy
          have HE2 := Lib.hid hE3
          have HK := Lib.hid hK
          clear hE hE2 hE3 hK hpx s1 b1 hJs hkl hkd
          gi_wp2_with fail
          refine hR.mono ?_
          rintro e w5 ⟨rfl, hJ5, hk5, hx5⟩
          have HJ5 := Lib.hid hJ5
          have HK5 := Lib.hid (HK.out.trans hx5)
          clear hJ5 hk5 hx5
          gi_wp2_with fail
          go_roundw
          case rel => exact ⟨k + 1, _, by omega, by go_num, Lib.hid (by rw [HE2.out, if_neg (by omega), Nat.add_sub_cancel, ← HX.out]), HJ5.out, HK5.out⟩
          case measure => simp [intOf]; omega
    · have hE3 : Hid (onceB dd.toList = pre) := Lib.hid (by rw [hE.out, List.drop_eq_nil_of_le (by have := HN.out; simp; omega), toldFrom, List.append_nil])
      have HJS := Lib.hid hJs
      clear hE hJs
      gi_wp2_with fail
      go_end0
      exact ⟨⟨_, rfl⟩, pre, hE3.out.symm, HJS.out⟩
end Go.Proofs
