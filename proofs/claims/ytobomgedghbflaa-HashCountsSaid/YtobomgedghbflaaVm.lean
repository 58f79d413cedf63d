/- partition of rows of words. -/
import Derived.Test.YtobomgedghbflaaVk
namespace Go.Proofs
open Go.RowKit Go.Shelf
attribute [local go_sem] Oper.semAt_some

theorem part_step {a i j : Nat} {d : Array Int} {i2 j2 : Nat} (h1 : Sort.scanUp (fun x => ltB x d[a]!) d j i = i2) (h2 : Sort.scanDown (fun x => !ltB x d[a]!) d i2 j = j2) :
    Sort.partLoop ltB a i j d = if i2 > j2 then (j2, d) else Sort.partLoop ltB a (i2 + 1) (j2 - 1) (Sort.swp d i2 j2) := by
  have g1 := Sort.scanUp_ge (fun x => ltB x d[a]!) d j i
  have g2 := Sort.scanDown_le (fun x => !ltB x d[a]!) d i2 j
  rw [h1] at g1
  rw [h2] at g2
  rw [Sort.partLoop.eq_1]
  simp only [h1, h2]
  split
  · rfl
  · rename_i h
    rw [dif_pos (by omega)]
theorem scanUp_le (p : Int → Bool) (d : Array Int) (j : Nat) : ∀ i, Sort.scanUp p d j i ≤ j + 1 ∨ Sort.scanUp p d j i = i := by
  have h : ∀ m i, m = j + 1 - i → Sort.scanUp p d j i ≤ j + 1 ∨ Sort.scanUp p d j i = i := by
    intro m
    induction m with
    | zero => intro i hm; right; rw [up_stop (by omega)]
    | succ m ih =>
      intro i hm
      by_cases hc : i ≤ j ∧ p d[i]! = true
      · rw [up_go hc.1 hc.2]
        rcases ih (i + 1) (by omega) with h | h
        · exact .inl h
        · exact .inl (by omega)
      · exact .inr (up_stop hc)
  exact fun i => h _ i rfl
theorem scanDown_ge (p : Int → Bool) (d : Array Int) {i a : Nat} (ha : a < i) : ∀ {j : Nat}, a ≤ j → a ≤ Sort.scanDown p d i j := by
  intro j
  induction j with
  | zero => intro h; have : a = 0 := by omega
            subst this; exact Nat.zero_le _
  | succ j ih =>
    intro h
    by_cases hc : i ≤ j + 1 ∧ p d[j + 1]! = true
    · rw [down_go (by omega) hc.1 hc.2]
      exact ih (by omega)
    · rw [down_stop hc]; exact h
set_option maxRecDepth 100000 in
set_option maxHeartbeats 16000000 in
theorem Try.partition_any (B cap a b pv n cp : Nat) (d : Array Int) (hd : d.size ≤ 1000000) (hn : n = d.size) (ha : a < b) (hb : b ≤ n) (hp1 : a ≤ pv) (hp2 : pv < b) (w : World) (hS : SRow w B cap d) :
    Calls Try.prog 37 #[.slice (some ⟨B, 0, none⟩) n cp, .int .i64 (a : Int), .int .i64 (b : Int), .int .i64 (pv : Int)] w
      fun e w' => e = .returned (.tuple #[.int .i64 ((Sort.partition ltB d a b pv).1 : Int), .bool (Sort.partition ltB d a b pv).2.1]) ∧ SRow w' B cap (Sort.partition ltB d a b pv).2.2 ∧ w.grownBy w' (some B) := by
  have hn' : n ≤ 1000000 := by omega
  obtain ⟨b1, hb1⟩ : ∃ b1, b1 = b - 1 := ⟨_, rfl⟩
  obtain ⟨r, hr⟩ : ∃ r, r = Sort.partition ltB d a b pv := ⟨_, rfl⟩
  rw [← hr]
  have hb2 : b1 < n := by omega
  have hbb : (b : Int) - 1 = (b1 : Int) := by omega
  have hab1 : a ≤ b1 := by omega
  have e0 := hS.cell a (by omega)
  have e1 := hS.cell pv (by omega)
  have f0 := hS.frozen a
  have f1 := hS.frozen pv
  have f2 := (hS.set a d[pv]! (by omega)).frozen pv
  obtain ⟨v2, e2⟩ : ∃ v2, (w.setCell ⟨B, a, none⟩ (.int .u64 d[pv]!)).cell? ⟨B, pv, none⟩ = some v2 := ⟨_, (hS.set a d[pv]! (by omega)).cell pv (by simp; omega)⟩
  have j0 : (a : Int) < (n : Int) := by omega
  have j1 : (pv : Int) < (n : Int) := by omega
  have HS0 := Lib.hid (hS.swp a pv (by omega) (by omega))
  have HZ1 : Hid ((Sort.swp d a pv).size = n) := Lib.hid (by rw [size_swp]; exact hn.symm)
  have HG1 := Lib.hid (grown_set2 w B a pv (.int .u64 d[pv]!) (.int .u64 d[a]!))
  obtain ⟨i2, hi2⟩ : ∃ i2, Sort.scanUp (fun x => ltB x (Sort.swp d a pv)[a]!) (Sort.swp d a pv) b1 (a + 1) = i2 := ⟨_, rfl⟩
  obtain ⟨j2, hj2⟩ : ∃ j2, Sort.scanDown (fun x => !ltB x (Sort.swp d a pv)[a]!) (Sort.swp d a pv) i2 b1 = j2 := ⟨_, rfl⟩
  have hr2 : r = if i2 > j2 then (j2, true, Sort.swp (Sort.swp d a pv) j2 a) else ((Sort.partLoop ltB a (i2 + 1) (j2 - 1) (Sort.swp (Sort.swp d a pv) i2 j2)).1, false, Sort.swp (Sort.partLoop ltB a (i2 + 1) (j2 - 1) (Sort.swp (Sort.swp d a pv) i2 j2)).2 (Sort.partLoop ltB a (i2 + 1) (j2 - 1) (Sort.swp (Sort.swp d a pv) i2 j2)).1 a) := by
    rw [hr]
    unfold Sort.partition
    simp only [← hb1, hi2, hj2]
  have hge := Sort.scanUp_ge (fun x => ltB x (Sort.swp d a pv)[a]!) (Sort.swp d a pv) b1 (a + 1)
  rw [hi2] at hge
  have hle := scanUp_le (fun x => ltB x (Sort.swp d a pv)[a]!) (Sort.swp d a pv) b1 (a + 1)
  rw [hi2] at hle
  have hdn := Sort.scanDown_le (fun x => !ltB x (Sort.swp d a pv)[a]!) (Sort.swp d a pv) i2 b1
  rw [hj2] at hdn
  have hdg := scanDown_ge (fun x => !ltB x (Sort.swp d a pv)[a]!) (Sort.swp d a pv) (i := i2) (a := a) (by omega) hab1
  rw [hj2] at hdg
  have HR := Lib.hid hr2
  have HI1 := Lib.hid hi2
  have HJ1 := Lib.hid hj2
  clear hr hr2 hi2 hj2
  generalize Sort.swp d a pv = d1 at *
  generalize d[a]! = x at *
  generalize d[pv]! = y at *
  clear hS hn hd hb1
  go_enter Try.func37, Try.ntmps37
  go_wp2_with fail
  go_region
  all_goals go_wp2_with fail
  have HS1 := Lib.hid (SRow.drew HS0.out)
  have HG1b := Lib.hid (grown_drew' HG1.out)
  clear e0 e1 f0 f1 f2 e2 HS0 HG1
  rename_i K1 hK1
  have hU1 : ∀ (u4 u5 u6 u7 u8 u9 u12 u13 u14 u15 u16 u17 u18 u19 u20 u21 u22 u23 u24 u25 u26 u27 u28 u29 u30 u31 u32 u33 u34 u35 u36 u37 u38 u39 u40 u41 u42 u43 u44 u45 u46 u47 u48 u49 u50 u51 u52 u53 u54 u55 u56 u57 u58 u59 u60 u61 u62 u63 u64 u65 u66 u67 u68 u69 u70 u71 u72 u73 u74 u75 u76 u77 u78 u79 u80 u81 u82 u83 u84 u85 u86 u87 u88 u89 u90 u91 u92 u93 u94 u95 u96 u97 u98 u99 u100 u101 u102 u103 u104 u105 u106 u107 u108 u109 u110 u111 u112 u113 u114 u115 u116 u117 u118 u119 u120 u121 u122 u123 u124 u125 u126 u127 u128 u129 u130 u131 u132 u133 u134 u135 u136 u137 u138 u139 u140 u141 u142 u143 u144 u145 u146 u147 u148 u149 u150 u151 u152 u153 u154 u155 u156 u157 u158 u159 u160 u161 u162 u163 u164 u165 u166 u167 : Value) (wr : World), SRow wr B cap d1 → w.grownBy wr (some B) → K1 { tmps := #[.slice (some ⟨B, 0, none⟩) n cp, .int .i64 (a : Int), .int .i64 (b : Int), .int .i64 (pv : Int), u4, u5, u6, u7, u8, u9, .int .i64 (i2 : Int), .int .i64 (b1 : Int), u12, u13, u14, u15, u16, u17, u18, u19, u20, u21, u22, u23, u24, u25, u26, u27, u28, u29, u30, u31, u32, u33, u34, u35, u36, u37, u38, u39, u40, u41, u42, u43, u44, u45, u46, u47, u48, u49, u50, u51, u52, u53, u54, u55, u56, u57, u58, u59, u60, u61, u62, u63, u64, u65, u66, u67, u68, u69, u70, u71, u72, u73, u74, u75, u76, u77, u78, u79, u80, u81, u82, u83, u84, u85, u86, u87, u88, u89, u90, u91, u92, u93, u94, u95, u96, u97, u98, u99, u100, u101, u102, u103, u104, u105, u106, u107, u108, u109, u110, u111, u112, u113, u114, u115, u116, u117, u118, u119, u120, u121, u122, u123, u124, u125, u126, u127, u128, u129, u130, u131, u132, u133, u134, u135, u136, u137, u138, u139, u140, u141, u142, u143, u144, u145, u146, u147, u148, u149, u150, u151, u152, u153, u154, u155, u156, u157, u158, u159, u160, u161, u162, u163, u164, u165, u166, u167], defers := [] } wr := by
    intro u4 u5 u6 u7 u8 u9 u12 u13 u14 u15 u16 u17 u18 u19 u20 u21 u22 u23 u24 u25 u26 u27 u28 u29 u30 u31 u32 u33 u34 u35 u36 u37 u38 u39 u40 u41 u42 u43 u44 u45 u46 u47 u48 u49 u50 u51 u52 u53 u54 u55 u56 u57 u58 u59 u60 u61 u62 u63 u64 u65 u66 u67 u68 u69 u70 u71 u72 u73 u74 u75 u76 u77 u78 u79 u80 u81 u82 u83 u84 u85 u86 u87 u88 u89 u90 u91 u92 u93 u94 u95 u96 u97 u98 u99 u100 u101 u102 u103 u104 u105 u106 u107 u108 u109 u110 u111 u112 u113 u114 u115 u116 u117 u118 u119 u120 u121 u122 u123 u124 u125 u126 u127 u128 u129 u130 u131 u132 u133 u134 u135 u136 u137 u138 u139 u140 u141 u142 u143 u144 u145 u146 u147 u148 u149 u150 u151 u152 u153 u154 u155 u156 u157 u158 u159 u160 u161 u162 u163 u164 u165 u166 u167 wr hS hG
    refine hK1 _ _ ?_
    clear hK1
    have hS2 := Lib.hid hS
    have hG2 := Lib.hid hG
    clear hS hG
    obtain ⟨we2, rfl⟩ : ∃ x, x = wr := ⟨_, rfl⟩
    go_wp2_with fail
    rename_i K2 hK2
    have hD1 : ∀ (u4 u5 u6 u7 u8 u9 u12 u13 u14 u15 u16 u17 u18 u19 u20 u21 u22 u23 u24 u25 u26 u27 u28 u29 u30 u31 u32 u33 u34 u35 u36 u37 u38 u39 u40 u41 u42 u43 u44 u45 u46 u47 u48 u49 u50 u51 u52 u53 u54 u55 u56 u57 u58 u59 u60 u61 u62 u63 u64 u65 u66 u67 u68 u69 u70 u71 u72 u73 u74 u75 u76 u77 u78 u79 u80 u81 u82 u83 u84 u85 u86 u87 u88 u89 u90 u91 u92 u93 u94 u95 u96 u97 u98 u99 u100 u101 u102 u103 u104 u105 u106 u107 u108 u109 u110 u111 u112 u113 u114 u115 u116 u117 u118 u119 u120 u121 u122 u123 u124 u125 u126 u127 u128 u129 u130 u131 u132 u133 u134 u135 u136 u137 u138 u139 u140 u141 u142 u143 u144 u145 u146 u147 u148 u149 u150 u151 u152 u153 u154 u155 u156 u157 u158 u159 u160 u161 u162 u163 u164 u165 u166 u167 : Value) (wr : World), SRow wr B cap d1 → w.grownBy wr (some B) → K2 { tmps := #[.slice (some ⟨B, 0, none⟩) n cp, .int .i64 (a : Int), .int .i64 (b : Int), .int .i64 (pv : Int), u4, u5, u6, u7, u8, u9, .int .i64 (i2 : Int), .int .i64 (j2 : Int), u12, u13, u14, u15, u16, u17, u18, u19, u20, u21, u22, u23, u24, u25, u26, u27, u28, u29, u30, u31, u32, u33, u34, u35, u36, u37, u38, u39, u40, u41, u42, u43, u44, u45, u46, u47, u48, u49, u50, u51, u52, u53, u54, u55, u56, u57, u58, u59, u60, u61, u62, u63, u64, u65, u66, u67, u68, u69, u70, u71, u72, u73, u74, u75, u76, u77, u78, u79, u80, u81, u82, u83, u84, u85, u86, u87, u88, u89, u90, u91, u92, u93, u94, u95, u96, u97, u98, u99, u100, u101, u102, u103, u104, u105, u106, u107, u108, u109, u110, u111, u112, u113, u114, u115, u116, u117, u118, u119, u120, u121, u122, u123, u124, u125, u126, u127, u128, u129, u130, u131, u132, u133, u134, u135, u136, u137, u138, u139, u140, u141, u142, u143, u144, u145, u146, u147, u148, u149, u150, u151, u152, u153, u154, u155, u156, u157, u158, u159, u160, u161, u162, u163, u164, u165, u166, u167], defers := [] } wr := by
      intro u4 u5 u6 u7 u8 u9 u12 u13 u14 u15 u16 u17 u18 u19 u20 u21 u22 u23 u24 u25 u26 u27 u28 u29 u30 u31 u32 u33 u34 u35 u36 u37 u38 u39 u40 u41 u42 u43 u44 u45 u46 u47 u48 u49 u50 u51 u52 u53 u54 u55 u56 u57 u58 u59 u60 u61 u62 u63 u64 u65 u66 u67 u68 u69 u70 u71 u72 u73 u74 u75 u76 u77 u78 u79 u80 u81 u82 u83 u84 u85 u86 u87 u88 u89 u90 u91 u92 u93 u94 u95 u96 u97 u98 u99 u100 u101 u102 u103 u104 u105 u106 u107 u108 u109 u110 u111 u112 u113 u114 u115 u116 u117 u118 u119 u120 u121 u122 u123 u124 u125 u126 u127 u128 u129 u130 u131 u132 u133 u134 u135 u136 u137 u138 u139 u140 u141 u142 u143 u144 u145 u146 u147 u148 u149 u150 u151 u152 u153 u154 u155 u156 u157 u158 u159 u160 u161 u162 u163 u164 u165 u166 u167 wr hS hG
      refine hK2 _ _ ?_
      clear hK2
      by_cases hgt : i2 > j2
      · have hgti : (j2 : Int) < (i2 : Int) := by omega
        have HF : Hid (r = (j2, true, Sort.swp d1 j2 a)) := Lib.hid (by rw [HR.out, if_pos hgt])
        have e0 := hS.cell j2 (by rw [HZ1.out]; omega)
        have e1 := hS.cell a (by rw [HZ1.out]; omega)
        have f0 := hS.frozen j2
        have f1 := hS.frozen a
        have f2 := (hS.set j2 d1[a]! (by rw [HZ1.out]; omega)).frozen a
        obtain ⟨v2, e2⟩ : ∃ v2, (wr.setCell ⟨B, j2, none⟩ (.int .u64 d1[a]!)).cell? ⟨B, a, none⟩ = some v2 := ⟨_, (hS.set j2 d1[a]! (by rw [HZ1.out]; omega)).cell a (by simp [HZ1.out]; omega)⟩
        have k1 : (j2 : Int) < (n : Int) := by omega
        have m1 : (a : Int) < (n : Int) := by omega
        have HS4 := Lib.hid (hS.swp j2 a (by rw [HZ1.out]; omega) (by rw [HZ1.out]; omega))
        have HZ4 : Hid ((Sort.swp d1 j2 a).size = n) := Lib.hid (by rw [size_swp]; exact HZ1.out)
        have HG4 := Lib.hid (hG.trans (grown_set2 wr B j2 a (.int .u64 d1[a]!) (.int .u64 d1[j2]!)))
        generalize Sort.swp d1 j2 a = dz at *
        generalize d1[j2]! = x2 at *
        generalize d1[a]! = y2 at *
        clear hS hG
        go_wp2_with fail
        go_region
        all_goals go_wp2_with fail
        go_ret2
        exact ⟨by rw [HF.out]; rfl, by rw [HF.out]; exact HS4.out, grown_drew' HG4.out⟩
      · have hgti : ¬ (j2 : Int) < (i2 : Int) := by omega
        obtain ⟨rr, hrr⟩ : ∃ rr, rr = Sort.partLoop ltB a (i2 + 1) (j2 - 1) (Sort.swp d1 i2 j2) := ⟨_, rfl⟩
        have HRF : Hid (r = (rr.1, false, Sort.swp rr.2 rr.1 a)) := Lib.hid (by rw [HR.out, if_neg hgt, hrr])
        have HRR := Lib.hid hrr
        clear hrr
        have e0 := hS.cell i2 (by rw [HZ1.out]; omega)
        have e1 := hS.cell j2 (by rw [HZ1.out]; omega)
        have f0 := hS.frozen i2
        have f1 := hS.frozen j2
        have f2 := (hS.set i2 d1[j2]! (by rw [HZ1.out]; omega)).frozen j2
        obtain ⟨v2, e2⟩ : ∃ v2, (wr.setCell ⟨B, i2, none⟩ (.int .u64 d1[j2]!)).cell? ⟨B, j2, none⟩ = some v2 := ⟨_, (hS.set i2 d1[j2]! (by rw [HZ1.out]; omega)).cell j2 (by simp [HZ1.out]; omega)⟩
        have k1 : (i2 : Int) < (n : Int) := by omega
        have m1 : (j2 : Int) < (n : Int) := by omega
        have HS4 := Lib.hid (hS.swp i2 j2 (by rw [HZ1.out]; omega) (by rw [HZ1.out]; omega))
        have HZ4 : Hid ((Sort.swp d1 i2 j2).size = n) := Lib.hid (by rw [size_swp]; exact HZ1.out)
        have HG4 := Lib.hid (hG.trans (grown_set2 wr B i2 j2 (.int .u64 d1[j2]!) (.int .u64 d1[i2]!)))
        generalize Sort.swp d1 i2 j2 = ds at *
        generalize d1[i2]! = x2 at *
        generalize d1[j2]! = y2 at *
        clear hS hG
        go_wp2_with fail
        go_region
        all_goals go_wp2_with fail
        go_loopw [10, 11] (fun iv jv wr => ∃ (i j : Nat) (dk : Array Int), iv = .int .i64 (i : Int) ∧ jv = .int .i64 (j : Int) ∧ a + 1 ≤ i ∧ i ≤ 1000003 ∧ a ≤ j ∧ j ≤ b1 ∧ Hid (Sort.partLoop ltB a i j dk = rr) ∧ Hid (dk.size = n) ∧ Hid (SRow wr B cap dk) ∧ Hid (w.grownBy wr (some B))) (fun iv jv _ => ((intOf jv) + 1 - intOf iv).toNat)
        case atStart => exact ⟨i2 + 1, j2 - 1, ds, by go_num, by go_num, by omega, by omega, by omega, by omega, Lib.hid HRR.out.symm, HZ4, HS4, Lib.hid (grown_drew' HG4.out)⟩
        case round =>
          clear e0 e1 f0 f1 f2 e2 HS4 HG4 HZ4 HRR
          obtain ⟨i, j, dk, rfl, rfl, hi1, hi2, hj1, hj2, hx, hsz, hSr, hGr⟩ := hrel
          obtain ⟨i3, hi3⟩ : ∃ i3, Sort.scanUp (fun x => ltB x dk[a]!) dk j i = i3 := ⟨_, rfl⟩
          obtain ⟨j3, hj3⟩ : ∃ j3, Sort.scanDown (fun x => !ltB x dk[a]!) dk i3 j = j3 := ⟨_, rfl⟩
          have hst := part_step hi3 hj3
          rw [hx.out] at hst
          have hge := Sort.scanUp_ge (fun x => ltB x dk[a]!) dk j i
          rw [hi3] at hge
          have hle := scanUp_le (fun x => ltB x dk[a]!) dk j i
          rw [hi3] at hle
          have hdn := Sort.scanDown_le (fun x => !ltB x dk[a]!) dk i3 j
          rw [hj3] at hdn
          have hdg := scanDown_ge (fun x => !ltB x dk[a]!) dk (i := i3) (a := a) (by omega) hj1
          rw [hj3] at hdg
          have HST := Lib.hid hst
          have HI := Lib.hid hi3
          have HJ := Lib.hid hj3
          clear hst hi3 hj3 hx
          obtain ⟨we, rfl⟩ : ∃ x, x = wr := ⟨_, rfl⟩
          go_wp2_with fail
          rename_i K4 hK4
          have hU2 : ∀ (u99 u100 u101 u102 u103 u104 u105 u106 u107 u108 u109 u110 u111 u112 u113 u114 u115 u116 u117 u118 u119 u120 u121 u122 u123 u124 u125 u126 u127 u128 u129 u130 u131 u132 u133 u134 u135 u136 u137 u138 u139 u140 u141 u142 u143 u144 u145 u146 u147 u148 u149 u150 u151 u152 : Value) (wr : World), SRow wr B cap dk → w.grownBy wr (some B) → K4 { tmps := #[.slice (some ⟨B, 0, none⟩) n cp, .int .i64 (a : Int), .int .i64 (b : Int), .int .i64 (pv : Int), u4, u5, u6, u7, u8, u9, .int .i64 (i3 : Int), .int .i64 (j : Int), u12, u13, u14, u15, u16, u17, u18, u19, u20, u21, u22, u23, u24, u25, u26, u27, u28, u29, u30, u31, u32, u33, u34, u35, u36, u37, u38, u39, u40, u41, u42, u43, u44, u45, u46, u47, u48, u49, u50, u51, u52, u53, u54, u55, u56, u57, u58, u59, u60, u61, u62, .int .i64 (i2 : Int), .int .i64 (j2 : Int), .bool false, u66, u67, u68, u69, u70, u71, u72, u73, u74, u75, u76, u77, u78, u79, u80, .slice (some ⟨B, 0, none⟩) n cp, .int .i64 (i2 : Int), .slice (some ⟨B, 0, none⟩) n cp, .int .i64 (j2 : Int), .slice (some ⟨B, 0, none⟩) n cp, .int .i64 (j2 : Int), .pointer (some ⟨B, j2, none⟩), .int .u64 y2, .slice (some ⟨B, 0, none⟩) n cp, .int .i64 (i2 : Int), .pointer (some ⟨B, i2, none⟩), .int .u64 x2, .pointer (some ⟨B, i2, none⟩), .pointer (some ⟨B, j2, none⟩), .int .i64 (i2 : Int), .int .i64 ((i2 : Int) + 1), .int .i64 (j2 : Int), .int .i64 ((j2 : Int) - 1), u99, u100, u101, u102, u103, u104, u105, u106, u107, u108, u109, u110, u111, u112, u113, u114, u115, u116, u117, u118, u119, u120, u121, u122, u123, u124, u125, u126, u127, u128, u129, u130, u131, u132, u133, u134, u135, u136, u137, u138, u139, u140, u141, u142, u143, u144, u145, u146, u147, u148, u149, u150, u151, u152, u153, u154, u155, u156, u157, u158, u159, u160, u161, u162, u163, u164, u165, u166, u167], defers := [] } wr := by
            intro u99 u100 u101 u102 u103 u104 u105 u106 u107 u108 u109 u110 u111 u112 u113 u114 u115 u116 u117 u118 u119 u120 u121 u122 u123 u124 u125 u126 u127 u128 u129 u130 u131 u132 u133 u134 u135 u136 u137 u138 u139 u140 u141 u142 u143 u144 u145 u146 u147 u148 u149 u150 u151 u152 wr hS hG
            refine hK4 _ _ ?_
            clear hK4
            have hS2 := Lib.hid hS
            have hG2 := Lib.hid hG
            clear hS hG
            obtain ⟨we2, rfl⟩ : ∃ x, x = wr := ⟨_, rfl⟩
            go_wp2_with fail
            rename_i K5 hK5
            have hD2 : ∀ (u99 u100 u101 u102 u103 u104 u105 u106 u107 u108 u109 u110 u111 u112 u113 u114 u115 u116 u117 u118 u119 u120 u121 u122 u123 u124 u125 u126 u127 u128 u129 u130 u131 u132 u133 u134 u135 u136 u137 u138 u139 u140 u141 u142 u143 u144 u145 u146 u147 u148 u149 u150 u151 u152 : Value) (wr : World), SRow wr B cap dk → w.grownBy wr (some B) → K5 { tmps := #[.slice (some ⟨B, 0, none⟩) n cp, .int .i64 (a : Int), .int .i64 (b : Int), .int .i64 (pv : Int), u4, u5, u6, u7, u8, u9, .int .i64 (i3 : Int), .int .i64 (j3 : Int), u12, u13, u14, u15, u16, u17, u18, u19, u20, u21, u22, u23, u24, u25, u26, u27, u28, u29, u30, u31, u32, u33, u34, u35, u36, u37, u38, u39, u40, u41, u42, u43, u44, u45, u46, u47, u48, u49, u50, u51, u52, u53, u54, u55, u56, u57, u58, u59, u60, u61, u62, .int .i64 (i2 : Int), .int .i64 (j2 : Int), .bool false, u66, u67, u68, u69, u70, u71, u72, u73, u74, u75, u76, u77, u78, u79, u80, .slice (some ⟨B, 0, none⟩) n cp, .int .i64 (i2 : Int), .slice (some ⟨B, 0, none⟩) n cp, .int .i64 (j2 : Int), .slice (some ⟨B, 0, none⟩) n cp, .int .i64 (j2 : Int), .pointer (some ⟨B, j2, none⟩), .int .u64 y2, .slice (some ⟨B, 0, none⟩) n cp, .int .i64 (i2 : Int), .pointer (some ⟨B, i2, none⟩), .int .u64 x2, .pointer (some ⟨B, i2, none⟩), .pointer (some ⟨B, j2, none⟩), .int .i64 (i2 : Int), .int .i64 ((i2 : Int) + 1), .int .i64 (j2 : Int), .int .i64 ((j2 : Int) - 1), u99, u100, u101, u102, u103, u104, u105, u106, u107, u108, u109, u110, u111, u112, u113, u114, u115, u116, u117, u118, u119, u120, u121, u122, u123, u124, u125, u126, u127, u128, u129, u130, u131, u132, u133, u134, u135, u136, u137, u138, u139, u140, u141, u142, u143, u144, u145, u146, u147, u148, u149, u150, u151, u152, u153, u154, u155, u156, u157, u158, u159, u160, u161, u162, u163, u164, u165, u166, u167], defers := [] } wr := by
              intro u99 u100 u101 u102 u103 u104 u105 u106 u107 u108 u109 u110 u111 u112 u113 u114 u115 u116 u117 u118 u119 u120 u121 u122 u123 u124 u125 u126 u127 u128 u129 u130 u131 u132 u133 u134 u135 u136 u137 u138 u139 u140 u141 u142 u143 u144 u145 u146 u147 u148 u149 u150 u151 u152 wr hS hG
              refine hK5 _ _ ?_
              clear hK5
              by_cases hgt : i3 > j3
              · have hgti : (j3 : Int) < (i3 : Int) := by omega
                have hfin : rr = (j3, dk) := by rw [HST.out, if_pos hgt]
                have HF : Hid (r = (j3, false, Sort.swp dk j3 a)) := Lib.hid (by rw [HRF.out, hfin])
                clear hfin
                have e0 := hS.cell j3 (by rw [hsz.out]; omega)
                have e1 := hS.cell a (by rw [hsz.out]; omega)
                have f0 := hS.frozen j3
                have f1 := hS.frozen a
                have f2 := (hS.set j3 dk[a]! (by rw [hsz.out]; omega)).frozen a
                obtain ⟨v2, e2⟩ : ∃ v2, (wr.setCell ⟨B, j3, none⟩ (.int .u64 dk[a]!)).cell? ⟨B, a, none⟩ = some v2 := ⟨_, (hS.set j3 dk[a]! (by rw [hsz.out]; omega)).cell a (by simp [hsz.out]; omega)⟩
                have k1 : (j3 : Int) < (n : Int) := by omega
                have m1 : (a : Int) < (n : Int) := by omega
                have HS4 := Lib.hid (hS.swp j3 a (by rw [hsz.out]; omega) (by rw [hsz.out]; omega))
                have HZ4 : Hid ((Sort.swp dk j3 a).size = n) := Lib.hid (by rw [size_swp]; exact hsz.out)
                have HG4 := Lib.hid (hG.trans (grown_set2 wr B j3 a (.int .u64 dk[a]!) (.int .u64 dk[j3]!)))
                generalize Sort.swp dk j3 a = dz at *
                generalize dk[j3]! = x2 at *
                generalize dk[a]! = y2 at *
                clear hS hG
                go_wp2_with fail
                go_region
                all_goals go_wp2_with fail
                go_ret2
                exact ⟨by rw [HF.out]; rfl, by rw [HF.out]; exact HS4.out, grown_drew' HG4.out⟩
              · have hgti : ¬ (j3 : Int) < (i3 : Int) := by omega
                have hx2 : Hid (Sort.partLoop ltB a (i3 + 1) (j3 - 1) (Sort.swp dk i3 j3) = rr) := Lib.hid (by rw [HST.out, if_neg hgt])
                have e0 := hS.cell i3 (by rw [hsz.out]; omega)
                have e1 := hS.cell j3 (by rw [hsz.out]; omega)
                have f0 := hS.frozen i3
                have f1 := hS.frozen j3
                have f2 := (hS.set i3 dk[j3]! (by rw [hsz.out]; omega)).frozen j3
                obtain ⟨v2, e2⟩ : ∃ v2, (wr.setCell ⟨B, i3, none⟩ (.int .u64 dk[j3]!)).cell? ⟨B, j3, none⟩ = some v2 := ⟨_, (hS.set i3 dk[j3]! (by rw [hsz.out]; omega)).cell j3 (by simp [hsz.out]; omega)⟩
                have k1 : (i3 : Int) < (n : Int) := by omega
                have m1 : (j3 : Int) < (n : Int) := by omega
                have HS4 := Lib.hid (hS.swp i3 j3 (by rw [hsz.out]; omega) (by rw [hsz.out]; omega))
                have HZ4 : Hid ((Sort.swp dk i3 j3).size = n) := Lib.hid (by rw [size_swp]; exact hsz.out)
                have HG4 := Lib.hid (hG.trans (grown_set2 wr B i3 j3 (.int .u64 dk[j3]!) (.int .u64 dk[i3]!)))
                generalize Sort.swp dk i3 j3 = ds at *
                generalize dk[i3]! = x2 at *
                generalize dk[j3]! = y2 at *
                clear hS hG
                go_wp2_with fail
                go_region
                all_goals go_wp2_with fail
                go_roundw
                case rel => exact ⟨i3 + 1, j3 - 1, ds, by go_num, by go_num, by omega, by omega, by omega, by omega, hx2, HZ4, HS4, Lib.hid (grown_drew' HG4.out)⟩
                case measure => simp [intOf]; omega

            clear hK5
            go_loopw [11] (fun jv wr => ∃ m : Nat, jv = .int .i64 (m : Int) ∧ a ≤ m ∧ m ≤ j ∧ Hid (Sort.scanDown (fun x => !ltB x dk[a]!) dk i3 m = j3) ∧ Hid (SRow wr B cap dk) ∧ Hid (w.grownBy wr (some B))) (fun jv _ => (intOf jv).toNat)
            case atStart => exact ⟨j, by go_num, hj1, Nat.le_refl _, HJ, hS2, hG2⟩
            case round =>
              clear hS2 hG2 HJ
              obtain ⟨m, rfl, hm1, hm2, hm, hS, hG⟩ := hrel
              by_cases hkm : i3 ≤ m
              · have hkmi : (i3 : Int) ≤ (m : Int) := by omega
                have e0 := hS.out.cell a (by rw [hsz.out]; omega)
                have e1 := hS.out.cell m (by rw [hsz.out]; omega)
                have m1 : (m : Int) < (n : Int) := by omega
                have hl := fun w => Try.less_any dk[m]! dk[a]! w
                cases hlt : ltB dk[m]! dk[a]! with
                | false =>
                  have hx2 : Hid (Sort.scanDown (fun x => !ltB x dk[a]!) dk i3 (m - 1) = j3) := Lib.hid (by rw [← hm.out]; exact (down_go (by omega) hkm (by simp only [hlt]; rfl)).symm)
                  rw [hlt] at hl
                  clear hlt hm
                  go_wp2_with fail
                  go_quiet (first | (go_at_call 35; refine quiet_same (hl _)))
                  go_wp2_with fail
                  exact ⟨⟨m - 1, by go_num, by omega, by omega, hx2, Lib.hid (hS.out.drewN _), Lib.hid (hG.out.trans (grown_drewN _ _ _))⟩, by simp [intOf]; omega⟩
                | true =>
                  obtain rfl : m = j3 := (by rw [← hm.out]; exact (down_stop (by simp [hlt])).symm)
                  rw [hlt] at hl
                  clear hlt hm
                  go_wp2_with fail
                  go_quiet (first | (go_at_call 35; refine quiet_same (hl _)))
                  go_wp2_with fail
                  exact hD2 _ _ _ _ _ _ _ _ _ _ _ _ _ _ _ _ _ _ _ _ _ _ _ _ _ _ _ _ _ _ _ _ _ _ _ _ _ _ _ _ _ _ _ _ _ _ _ _ _ _ _ _ _ _ _ (hS.out.drewN _) (hG.out.trans (grown_drewN _ _ _))
              · obtain rfl : m = j3 := (by rw [← hm.out]; exact (down_stop (by omega)).symm)
                have hkmi : decide ((i3 : Int) ≤ (m : Int)) = false := by simp; omega
                clear hm
                go_wp2_with fail
                go_quiet (fail)
                go_wp2_with fail
                exact hD2 _ _ _ _ _ _ _ _ _ _ _ _ _ _ _ _ _ _ _ _ _ _ _ _ _ _ _ _ _ _ _ _ _ _ _ _ _ _ _ _ _ _ _ _ _ _ _ _ _ _ _ _ _ _ _ (hS.out.drewN _) (hG.out.trans (grown_drewN _ _ _))

          clear hK4
          go_loopw [10] (fun iv wr => ∃ k : Nat, iv = .int .i64 (k : Int) ∧ i ≤ k ∧ (k ≤ j + 1 ∨ k = i) ∧ Hid (Sort.scanUp (fun x => ltB x dk[a]!) dk j k = i3) ∧ Hid (SRow wr B cap dk) ∧ Hid (w.grownBy wr (some B))) (fun iv _ => ((j : Int) + 1 - intOf iv).toNat)
          case atStart => exact ⟨i, by go_num, Nat.le_refl _, .inr rfl, HI, hSr, hGr⟩
          case round =>
            clear hSr hGr HI
            obtain ⟨k, rfl, hk1, hk2, hxk, hS, hG⟩ := hrel
            by_cases hkj : k ≤ j
            · have hkji : (k : Int) ≤ (j : Int) := by omega
              have e0 := hS.out.cell a (by rw [hsz.out]; omega)
              have e1 := hS.out.cell k (by rw [hsz.out]; omega)
              have k1 : (k : Int) < (n : Int) := by omega
              have hl := fun w => Try.less_any dk[k]! dk[a]! w
              cases hlt : ltB dk[k]! dk[a]! with
              | true =>
                have hx2 : Hid (Sort.scanUp (fun x => ltB x dk[a]!) dk j (k + 1) = i3) := Lib.hid (by rw [← hxk.out]; exact (up_go hkj (by simp only [hlt])).symm)
                rw [hlt] at hl
                clear hlt hxk
                go_wp2_with fail
                go_quiet (first | (go_at_call 35; refine quiet_same (hl _)))
                go_wp2_with fail
                exact ⟨⟨k + 1, by go_num, by omega, .inl (by omega), hx2, Lib.hid (hS.out.drewN _), Lib.hid (hG.out.trans (grown_drewN _ _ _))⟩, by simp [intOf]; omega⟩
              | false =>
                obtain rfl : k = i3 := (by rw [← hxk.out]; exact (up_stop (by simp [hlt])).symm)
                rw [hlt] at hl
                clear hlt hxk
                go_wp2_with fail
                go_quiet (first | (go_at_call 35; refine quiet_same (hl _)))
                go_wp2_with fail
                exact hU2 _ _ _ _ _ _ _ _ _ _ _ _ _ _ _ _ _ _ _ _ _ _ _ _ _ _ _ _ _ _ _ _ _ _ _ _ _ _ _ _ _ _ _ _ _ _ _ _ _ _ _ _ _ _ _ (hS.out.drewN _) (hG.out.trans (grown_drewN _ _ _))
            · obtain rfl : k = i3 := (by rw [← hxk.out]; exact (up_stop (by omega)).symm)
              have hkji : decide ((k : Int) ≤ (j : Int)) = false := by simp; omega
              clear hxk
              go_wp2_with fail
              go_quiet (fail)
              go_wp2_with fail
              exact hU2 _ _ _ _ _ _ _ _ _ _ _ _ _ _ _ _ _ _ _ _ _ _ _ _ _ _ _ _ _ _ _ _ _ _ _ _ _ _ _ _ _ _ _ _ _ _ _ _ _ _ _ _ _ _ _ (hS.out.drewN _) (hG.out.trans (grown_drewN _ _ _))

    clear hK2
    go_loopw [11] (fun jv wr => ∃ m : Nat, jv = .int .i64 (m : Int) ∧ a ≤ m ∧ m ≤ b1 ∧ Hid (Sort.scanDown (fun x => !ltB x d1[a]!) d1 i2 m = j2) ∧ Hid (SRow wr B cap d1) ∧ Hid (w.grownBy wr (some B))) (fun jv _ => (intOf jv).toNat)
    case atStart => exact ⟨b1, by go_num, hab1, Nat.le_refl _, HJ1, hS2, hG2⟩
    case round =>
      clear hS2 hG2 HJ1
      obtain ⟨m, rfl, hm1, hm2, hm, hS, hG⟩ := hrel
      by_cases hkm : i2 ≤ m
      · have hkmi : (i2 : Int) ≤ (m : Int) := by omega
        have e0 := hS.out.cell a (by rw [HZ1.out]; omega)
        have e1 := hS.out.cell m (by rw [HZ1.out]; omega)
        have m1 : (m : Int) < (n : Int) := by omega
        have hl := fun w => Try.less_any d1[m]! d1[a]! w
        cases hlt : ltB d1[m]! d1[a]! with
        | false =>
          have hx2 : Hid (Sort.scanDown (fun x => !ltB x d1[a]!) d1 i2 (m - 1) = j2) := Lib.hid (by rw [← hm.out]; exact (down_go (by omega) hkm (by simp only [hlt]; rfl)).symm)
          rw [hlt] at hl
          clear hlt hm
          go_wp2_with fail
          go_quiet (first | (go_at_call 35; refine quiet_same (hl _)))
          go_wp2_with fail
          exact ⟨⟨m - 1, by go_num, by omega, by omega, hx2, Lib.hid (hS.out.drewN _), Lib.hid (hG.out.trans (grown_drewN _ _ _))⟩, by simp [intOf]; omega⟩
        | true =>
          obtain rfl : m = j2 := (by rw [← hm.out]; exact (down_stop (by simp [hlt])).symm)
          rw [hlt] at hl
          clear hlt hm
          go_wp2_with fail
          go_quiet (first | (go_at_call 35; refine quiet_same (hl _)))
          go_wp2_with fail
          exact hD1 _ _ _ _ _ _ _ _ _ _ _ _ _ _ _ _ _ _ _ _ _ _ _ _ _ _ _ _ _ _ _ _ _ _ _ _ _ _ _ _ _ _ _ _ _ _ _ _ _ _ _ _ _ _ _ _ _ _ _ _ _ _ _ _ _ _ _ _ _ _ _ _ _ _ _ _ _ _ _ _ _ _ _ _ _ _ _ _ _ _ _ _ _ _ _ _ _ _ _ _ _ _ _ _ _ _ _ _ _ _ _ _ _ _ _ _ _ _ _ _ _ _ _ _ _ _ _ _ _ _ _ _ _ _ _ _ _ _ _ _ _ _ _ _ _ _ _ _ _ _ _ _ _ _ _ _ _ _ _ _ _ _ _ (hS.out.drewN _) (hG.out.trans (grown_drewN _ _ _))
      · obtain rfl : m = j2 := (by rw [← hm.out]; exact (down_stop (by omega)).symm)
        have hkmi : decide ((i2 : Int) ≤ (m : Int)) = false := by simp; omega
        clear hm
        go_wp2_with fail
        go_quiet (fail)
        go_wp2_with fail
        exact hD1 _ _ _ _ _ _ _ _ _ _ _ _ _ _ _ _ _ _ _ _ _ _ _ _ _ _ _ _ _ _ _ _ _ _ _ _ _ _ _ _ _ _ _ _ _ _ _ _ _ _ _ _ _ _ _ _ _ _ _ _ _ _ _ _ _ _ _ _ _ _ _ _ _ _ _ _ _ _ _ _ _ _ _ _ _ _ _ _ _ _ _ _ _ _ _ _ _ _ _ _ _ _ _ _ _ _ _ _ _ _ _ _ _ _ _ _ _ _ _ _ _ _ _ _ _ _ _ _ _ _ _ _ _ _ _ _ _ _ _ _ _ _ _ _ _ _ _ _ _ _ _ _ _ _ _ _ _ _ _ _ _ _ _ (hS.out.drewN _) (hG.out.trans (grown_drewN _ _ _))

  clear hK1
  go_loopw [10] (fun iv wr => ∃ k : Nat, iv = .int .i64 (k : Int) ∧ (a + 1) ≤ k ∧ (k ≤ b1 + 1 ∨ k = (a + 1)) ∧ Hid (Sort.scanUp (fun x => ltB x d1[a]!) d1 b1 k = i2) ∧ Hid (SRow wr B cap d1) ∧ Hid (w.grownBy wr (some B))) (fun iv _ => ((b1 : Int) + 1 - intOf iv).toNat)
  case atStart => exact ⟨(a + 1), by go_num, Nat.le_refl _, .inr rfl, HI1, HS1, HG1b⟩
  case round =>
    clear HS1 HG1b HI1
    obtain ⟨k, rfl, hk1, hk2, hxk, hS, hG⟩ := hrel
    by_cases hkj : k ≤ b1
    · have hkji : (k : Int) ≤ (b1 : Int) := by omega
      have e0 := hS.out.cell a (by rw [HZ1.out]; omega)
      have e1 := hS.out.cell k (by rw [HZ1.out]; omega)
      have k1 : (k : Int) < (n : Int) := by omega
      have hl := fun w => Try.less_any d1[k]! d1[a]! w
      cases hlt : ltB d1[k]! d1[a]! with
      | true =>
        have hx2 : Hid (Sort.scanUp (fun x => ltB x d1[a]!) d1 b1 (k + 1) = i2) := Lib.hid (by rw [← hxk.out]; exact (up_go hkj (by simp only [hlt])).symm)
        rw [hlt] at hl
        clear hlt hxk
        go_wp2_with fail
        go_quiet (first | (go_at_call 35; refine quiet_same (hl _)))
        go_wp2_with fail
        exact ⟨⟨k + 1, by go_num, by omega, .inl (by omega), hx2, Lib.hid (hS.out.drewN _), Lib.hid (hG.out.trans (grown_drewN _ _ _))⟩, by simp [intOf]; omega⟩
      | false =>
        obtain rfl : k = i2 := (by rw [← hxk.out]; exact (up_stop (by simp [hlt])).symm)
        rw [hlt] at hl
        clear hlt hxk
        go_wp2_with fail
        go_quiet (first | (go_at_call 35; refine quiet_same (hl _)))
        go_wp2_with fail
        exact hU1 _ _ _ _ _ _ _ _ _ _ _ _ _ _ _ _ _ _ _ _ _ _ _ _ _ _ _ _ _ _ _ _ _ _ _ _ _ _ _ _ _ _ _ _ _ _ _ _ _ _ _ _ _ _ _ _ _ _ _ _ _ _ _ _ _ _ _ _ _ _ _ _ _ _ _ _ _ _ _ _ _ _ _ _ _ _ _ _ _ _ _ _ _ _ _ _ _ _ _ _ _ _ _ _ _ _ _ _ _ _ _ _ _ _ _ _ _ _ _ _ _ _ _ _ _ _ _ _ _ _ _ _ _ _ _ _ _ _ _ _ _ _ _ _ _ _ _ _ _ _ _ _ _ _ _ _ _ _ _ _ _ _ _ (hS.out.drewN _) (hG.out.trans (grown_drewN _ _ _))
    · obtain rfl : k = i2 := (by rw [← hxk.out]; exact (up_stop (by omega)).symm)
      have hkji : decide ((k : Int) ≤ (b1 : Int)) = false := by simp; omega
      clear hxk
      go_wp2_with fail
      go_quiet (fail)
      go_wp2_with fail
      exact hU1 _ _ _ _ _ _ _ _ _ _ _ _ _ _ _ _ _ _ _ _ _ _ _ _ _ _ _ _ _ _ _ _ _ _ _ _ _ _ _ _ _ _ _ _ _ _ _ _ _ _ _ _ _ _ _ _ _ _ _ _ _ _ _ _ _ _ _ _ _ _ _ _ _ _ _ _ _ _ _ _ _ _ _ _ _ _ _ _ _ _ _ _ _ _ _ _ _ _ _ _ _ _ _ _ _ _ _ _ _ _ _ _ _ _ _ _ _ _ _ _ _ _ _ _ _ _ _ _ _ _ _ _ _ _ _ _ _ _ _ _ _ _ _ _ _ _ _ _ _ _ _ _ _ _ _ _ _ _ _ _ _ _ _ (hS.out.drewN _) (hG.out.trans (grown_drewN _ _ _))
end Go.Proofs
