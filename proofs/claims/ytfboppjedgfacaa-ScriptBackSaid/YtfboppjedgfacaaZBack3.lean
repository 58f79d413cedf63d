/- Proved: for every script, and row of bytes, honeycomblaw03.ScriptBack returns true, and its arguments read as they did; no condition. -/
import Derived.Test.YtfboppjedgfacaaZYg
import Derived.Test.YtfboppjedgfacaaRows
import Derived.ProofKit
import Derived.ShutString
import Derived.ChangeOld
import Derived.ChangeAt
import Derived.JoinedAt
import Derived.OpenShut
import Derived.Below
namespace Go.Proofs.Ytfboppjedgfacaa.scriptBack
open Go.ChangeShapes Go.WideShapes Go.ChangeAt Go.RowKit Go.Shelf
attribute [local go_sem] Oper.semAt_some
set_option maxRecDepth 100000

theorem own : ownKnob Try.prog.godebug = none := by kernel_rfl
set_option maxHeartbeats 8000000 in
theorem walkAt (vx : Value) (s : Scr) (a : Option Addr) (n cap : Nat) (bs : List Int) (hs : s.wf) (w : World) (hx : ScrAt w vx s) (hn : n = bs.length) (hb : BytesAt w (.slice a n cap) bs) (hbs : AllBytes bs) (hIb : ∀ b off, a = some ⟨b, off, none⟩ → b < w.heap.size) :
    Calls Try.prog 6 #[vx, .slice a n cap] w fun e w' => e = .returned (.bool true) ∧ Below w.heap.size w w' := by
  have hcap : n ≤ cap := by
    obtain ⟨_, _, _, e, h1, _⟩ := hb
    cases e
    exact hn ▸ h1
  obtain ⟨m, hm⟩ : ∃ m, m = min n 2000 := ⟨_, rfl⟩
  obtain ⟨ms, hms⟩ : ∃ ms, ms = bs.take 2000 := ⟨_, rfl⟩
  have hml : m = ms.length := by rw [hms, List.length_take, hm, hn]; exact Nat.min_comm _ _
  have hmb : BytesAt w (.slice a m cap) ms := by
    have h0 := bytes_cut hn hb m (by omega)
    rw [hms]
    have e1 : bs.take m = bs.take 2000 := by
      by_cases h : n ≤ 2000
      · rw [hm, Nat.min_eq_left h, List.take_of_length_le (by omega), List.take_of_length_le (by omega)]
      · rw [hm, Nat.min_eq_right (by omega)]
    rw [e1] at h0
    exact h0
  have hmy : AllBytes ms := fun x hx => hbs x (List.mem_of_mem_take (hms ▸ hx))
  have hm2 : m ≤ 2000 := by omega
  have g5 : min (n : Int) 2000 = (m : Int) := by omega
  have g6 : (if (2000 : Int) < (n : Int) then (2000 : Int) else (n : Int)) = (m : Int) := by split <;> omega
  have g7 : (if (n : Int) < 2000 then (n : Int) else (2000 : Int)) = (m : Int) := by split <;> omega
  have g8 : (m : Int) ≤ (cap : Int) := by omega
  have g9 : (0 : Int) ≤ (m : Int) := by omega
  have HML := Lib.hid hml
  have HMB := Lib.hid hmb
  have HMY := Lib.hid hmy
  have HIB := Lib.hid hIb
  clear hml hmb hmy hIb hms hm hb hbs hn hcap
  have hok := ownB_ok s
  have hwf := ownB_wf hs
  have hx0 := hx
  obtain ⟨al, cl, ap, cp, rfl, _, _⟩ := hx0
  have HOWN : Hid (∀ W : World, Below w.heap.size w W → Calls Try.prog 10 #[.agg #[.int .i64 s.goers, .int .i64 s.slabs, .int .u64 s.seed, .slice al s.lists.length cl, .slice ap s.picks.length cp]] W (OwnQ (ownB s) W)) := Lib.hid fun W hW => Try.own_any _ s W (hx.below hW)
  clear hx
  generalize ownB s = so at *
  obtain ⟨g, b, sd, ls, ps⟩ := s
  dsimp only at HOWN ⊢
  generalize ls.length = ll at *
  generalize ps.length = pl at *
  have HB0 : Hid (Below w.heap.size w (w.alloc (.cells #[.int .i64 g, .int .i64 b, .int .u64 sd, .slice al ll cl, .slice ap pl cp] 26))) := Lib.hid ((Below.refl w.heap.size w).alloc (Nat.le_refl _) _)
  have HR0 : Hid (Rows8 (w.alloc (.cells #[.int .i64 g, .int .i64 b, .int .u64 sd, .slice al ll cl, .slice ap pl cp] 26)) w.heap.size 26 #[.int .i64 g, .int .i64 b, .int .u64 sd, .slice al ll cl, .slice ap pl cp]) := Lib.hid (Rows8.new w _ _)
  go_enter Try.func6, Try.ntmps6
  go_wp2_with fail
  generalize w.alloc (.cells #[.int .i64 g, .int .i64 b, .int .u64 sd, .slice al ll cl, .slice ap pl cp] 26) = W0 at *
  refine (Try.wakes_any W0).mono ?_
  rintro e w1 ⟨rfl, hB1⟩
  have HB1 := Lib.hid (HB0.out.trans (hB1.mono HB0.out.size))
  have r1 := HR0.out.below hB1 HR0.out.lt
  obtain ⟨c0, c1, c2, c3, c4⟩ := five8 r1
  clear hB1 r1 HB0 HR0
  go_wp2_with fail
  refine (HOWN.out w1 HB1.out).mono ?_
  rintro e w2 ⟨v2, rfl, hS2, hB2⟩
  have HB2 := Lib.hid (HB1.out.trans (hB2.mono HB1.out.size))
  clear hB2 HOWN c0 c1 c2 c3 c4 HB1
  obtain ⟨al2, cl2, ap2, cp2, rfl, h21, h22⟩ := hS2
  have hS2 : ScrAt w2 (.agg #[.int .i64 so.goers, .int .i64 so.slabs, .int .u64 so.seed, .slice al2 so.lists.length cl2, .slice ap2 so.picks.length cp2]) so := ⟨_, _, _, _, rfl, h21, h22⟩
  have HS2 := Lib.hid hS2
  clear h21 h22 hS2
  go_wp2_with fail
  have HB3 : Hid (Below w.heap.size w (w2.alloc (.cells #[.int .i64 so.goers, .int .i64 so.slabs, .int .u64 so.seed, .slice al2 so.lists.length cl2, .slice ap2 so.picks.length cp2] 26))) := Lib.hid (HB2.out.alloc HB2.out.size _)
  have HR3 : Hid (Rows8 (w2.alloc (.cells #[.int .i64 so.goers, .int .i64 so.slabs, .int .u64 so.seed, .slice al2 so.lists.length cl2, .slice ap2 so.picks.length cp2] 26)) w2.heap.size 26 #[.int .i64 so.goers, .int .i64 so.slabs, .int .u64 so.seed, .slice al2 so.lists.length cl2, .slice ap2 so.picks.length cp2]) := Lib.hid (Rows8.new w2 _ _)
  have HS3 : Hid (ScrAt (w2.alloc (.cells #[.int .i64 so.goers, .int .i64 so.slabs, .int .u64 so.seed, .slice al2 so.lists.length cl2, .slice ap2 so.picks.length cp2] 26)) (.agg #[.int .i64 so.goers, .int .i64 so.slabs, .int .u64 so.seed, .slice al2 so.lists.length cl2, .slice ap2 so.picks.length cp2]) so) := Lib.hid (HS2.out.below ((Below.refl _ w2).alloc (Nat.le_refl _) _))
  generalize (w2.alloc (.cells #[.int .i64 so.goers, .int .i64 so.slabs, .int .u64 so.seed, .slice al2 so.lists.length cl2, .slice ap2 so.picks.length cp2] 26)) = w3 at *
  generalize w2.heap.size = B5 at *
  clear HS2 HB2
  cases hmb : mayBeB so with
  | false =>
    refine (Try.Encode_no _ so hok hmb w3 HS3.out).mono ?_
    rintro e w4 ⟨rfl, hB4⟩
    have HB4 := Lib.hid (HB3.out.trans (hB4.mono HB3.out.size))
    clear hB4 hmb hok hwf HB3 HR3 HS3
    go_wp2_with fail
    --S5
    have HBK : Hid (Below w.heap.size w w4) := Lib.hid (HB4.out)
    generalize w4 = wk at *
    have hIk : BytesAt wk (.slice a m cap) ms := RowAt.below HMB.out HBK.out
    have hIbk : ∀ b off, a = some ⟨b, off, none⟩ → b < wk.heap.size := fun b off e => Nat.lt_of_lt_of_le (HIB.out b off e) HBK.out.size
    have hml2 : ms.length ≤ 1000000 := by have := HML.out; omega
    cases hd : decP ms with
    | none =>
      have HD := Lib.hid (Try.decode_no a m cap ms HML.out hml2 HMY.out wk hIk hIbk hd)
      clear hIk hIbk hml2 hd
      refine HD.out.mono ?_
      rintro e wl ⟨rfl, hBl⟩
      have HBL := Lib.hid (HBK.out.trans (hBl.mono HBK.out.size))
      clear hBl HD
      go_wp2_with fail
      --S1
      go_ret
      exact ⟨rfl, HBL.out.alloc HBL.out.size _⟩
    | some q =>
      obtain ⟨t, r⟩ := q
      obtain ⟨hmt, t1, t2, t3, heq⟩ := decP_back hd
      have htw := read_wf hmt t1 t2 t3
      have hto := may_ok hmt
      obtain ⟨kk, hkk⟩ : ∃ kk, kk = (bytesOf (scrNums t)).length := ⟨_, rfl⟩
      have hk2 : ms.length = kk + r.length := by rw [heq, List.length_append, hkk]
      have hkm : kk ≤ m := by have := HML.out; omega
      have HD := Lib.hid (Try.decode_yes a m cap ms HML.out hml2 HMY.out wk hIk hIbk hd kk hk2)
      have hcut : BytesAt w (.slice a kk cap) (bytesOf (scrNums t)) := by
        have h0 := bytes_cut HML.out HMB.out kk hkm
        rw [heq, hkk, List.take_left, ← hkk] at h0
        exact h0
      have HCUT := Lib.hid hcut
      have HKK := Lib.hid hkk
      have HTB := Lib.hid (bytes_le hmt htw)
      have hkm1 : (kk : Int) ≤ (m : Int) := by omega
      have hkm2 : (kk : Int) ≤ (cap : Int) := by omega
      have hkm3 : (0 : Int) ≤ (kk : Int) := by omega
      have HEN : Hid (∀ (W : World) (v : Value), ScrAt W v t → Calls Try.prog 23 #[v] W fun e w' => ∃ x y, e = .returned (.tuple #[.slice x kk y, .int .i64 0]) ∧ BytesAt w' (.slice x kk y) (bytesOf (scrNums t)) ∧ Below W.heap.size W w') := Lib.hid fun W v h => (Try.Encode_yes v t hto htw hmt W h).mono fun e w' ⟨u, he, ho, hb⟩ => by
        have ho1 := rowAt_own ho
        have ho2 := ho1
        obtain ⟨_, x, y, rfl, _⟩ := ho2
        rw [← HKK.out] at he ho1
        refine ⟨x, y, he, ?_, hb⟩
        unfold BytesAt
        rw [← HKK.out]
        exact ho1
      clear hIk hIbk hml2 hd hmt t1 t2 t3 heq htw hto hkk hk2 hkm hcut
      refine HD.out.mono ?_
      rintro e wl ⟨al5, cl5, ap5, cp5, rfl, hSl, hBl⟩
      have HBL := Lib.hid (HBK.out.trans (hBl.mono HBK.out.size))
      have HSL := Lib.hid hSl
      clear hBl HD hSl
      go_wp2_with fail
      --S2
      have HBM : Hid (Below w.heap.size w (wl.alloc (.cells #[.int .i64 t.goers, .int .i64 t.slabs, .int .u64 t.seed, .slice al5 t.lists.length cl5, .slice ap5 t.picks.length cp5] 26))) := Lib.hid (HBL.out.alloc HBL.out.size _)
      have HSM : Hid (ScrAt (wl.alloc (.cells #[.int .i64 t.goers, .int .i64 t.slabs, .int .u64 t.seed, .slice al5 t.lists.length cl5, .slice ap5 t.picks.length cp5] 26)) (.agg #[.int .i64 t.goers, .int .i64 t.slabs, .int .u64 t.seed, .slice al5 t.lists.length cl5, .slice ap5 t.picks.length cp5]) t) := Lib.hid (HSL.out.below ((Below.refl _ wl).alloc (Nat.le_refl _) _))
      generalize wl.alloc (.cells #[.int .i64 t.goers, .int .i64 t.slabs, .int .u64 t.seed, .slice al5 t.lists.length cl5, .slice ap5 t.picks.length cp5] 26) = wm at *
      refine (HEN.out wm _ HSM.out).mono ?_
      rintro e wp ⟨xp, yp, rfl, hop, hBp⟩
      have HBP := Lib.hid (HBM.out.trans (hBp.mono HBM.out.size))
      have HOP := Lib.hid hop
      clear hop hBp HBM HSM HBL HSL HEN
      go_wp2_with fail
      --S3
      refine (Try.equalB_yes xp a kk yp cap _ HKK.out HTB.out.2.2 wp HOP.out (RowAt.below HCUT.out HBP.out)).mono ?_
      rintro e wq ⟨rfl, rfl⟩
      go_wp2_with fail
      --S4
      go_ret
      exact ⟨rfl, HBP.out⟩
  | true =>
    have hby := bytes_le hmb hwf
    have hda := decP_app hmb hwf ms
    have hsh := fun (x y : List Int) (h : bytesOf (scrNums so) = x ++ y) (hy : y ≠ []) => decP_short hmb hwf h hy
    refine (Try.Encode_yes _ so hok hwf hmb w3 HS3.out).mono ?_
    rintro e w4 ⟨u4, rfl, ho4, hB4⟩
    generalize bytesOf (scrNums so) = eb at *
    obtain ⟨k, hk⟩ : ∃ k, eb.length = k := ⟨_, rfl⟩
    rw [hk] at hby
    obtain ⟨k1, hk1⟩ : ∃ k1, k = k1 + 1 := ⟨k - 1, by omega⟩
    have ho42 := ho4
    obtain ⟨_, x4, y4, rfl, hxy4, _⟩ := rowAt_own ho42
    rw [hk] at ho4 hxy4 ⊢
    have hO4 : w4.ownsRow w3.heap.size 5 1 (.slice x4 k y4) k (byteVals eb) := by
      unfold OwnsBytes at ho4
      rw [hk] at ho4
      exact ho4
    have hA4 : BytesAt w4 (.slice x4 k y4) eb := by
      unfold BytesAt
      rw [hk]
      exact rowAt_own hO4
    have HK4 : Hid (∀ W, Below w4.heap.size w4 W → Rows8 W B5 26 #[.int .i64 so.goers, .int .i64 so.slabs, .int .u64 so.seed, .slice al2 so.lists.length cl2, .slice ap2 so.picks.length cp2] ∧ ScrAt W (.agg #[.int .i64 so.goers, .int .i64 so.slabs, .int .u64 so.seed, .slice al2 so.lists.length cl2, .slice ap2 so.picks.length cp2]) so ∧ BytesAt W (.slice x4 k y4) eb ∧ Below w.heap.size w W ∧ B5 < W.heap.size) := Lib.hid fun W h => by
      have h3 := hB4.trans (h.mono hB4.size)
      have hr := HR3.out.below h3 HR3.out.lt
      exact ⟨hr, HS3.out.below h3, RowAt.below hA4 h, HB3.out.trans (h3.mono HB3.out.size), hr.lt⟩
    have HO4 := Lib.hid hO4
    have HA4 := Lib.hid hA4
    have HKL := Lib.hid hk
    have HBY := Lib.hid hby
    have HDA := Lib.hid hda
    have HSH := Lib.hid hsh
    have HOK := Lib.hid hok
    have gk1 : (k : Int) - 1 = (k1 : Int) := by omega
    have gk2 : (k1 : Int) ≤ (y4 : Int) := by omega
    have gk3 : (0 : Int) ≤ (k1 : Int) := by omega
    have gk4 : k ≤ 50000 := hby.1
    have gk5 : 1 ≤ k := hby.2.1
    have HK1 := Lib.hid hk1
    obtain ⟨i0, hi, hz0, hz1, hz2⟩ := info_parts Try.infoByte
    clear ho4 ho42 hO4 hA4 hB4 hby hda hsh hk hk1 hmb hok hwf HB3 HR3 HS3 hxy4
    go_wp2_with fail
    --S6
    refine (Try.cloneBytes_any x4 k y4 eb HKL.out.symm (by omega) w4 HA4.out).mono ?_
    rintro e w5 ⟨v5, rfl, ho5, hB5⟩
    obtain ⟨_, x5, y5, rfl, _⟩ := rowAt_own ho5
    have HO5 : Hid (w5.ownsRow w4.heap.size 5 1 (.slice x5 k y5) k (byteVals eb)) := Lib.hid (by
      unfold OwnsBytes at ho5
      rw [HKL.out] at ho5
      exact ho5)
    rw [HKL.out]
    have HB5 := Lib.hid hB5
    have HM5 : Hid (RowAt w5 (.slice a m cap) m 1 (byteVals ms)) := Lib.hid (by
      have h := RowAt.below HMB.out (HK4.out w5 hB5).2.2.2.1
      rw [← HML.out] at h
      exact h)
    clear ho5 hB5
    go_wp2_with (at_builtin; refine wpList_append_row _ rfl _ _ 38 rfl w4.heap.size 5 i0 (.int .u8 0) 1 1 Try.underlying38 hi hz0 hz1 hz2 rfl (by decide) _ _ _ rfl HO5.out _ m (byteVals ms) rfl HM5.out (byteVals_one' ms) (by unfold maxLen; omega) (by omega) HB5.out.size ?_; intro v6 w6 ho6 hg6 hv6; obtain ⟨_, x6, y6, rfl, _⟩ := rowAt_own ho6; have HO6 := Lib.hid ho6; have HB6 := Lib.hid (HB5.out.grown hg6 HB5.out.size (fun j ej => (World.ownsRow.lt HO5.out j ej).1)); clear hg6 ho6 hv6)
    --S7
    have hI6 : BytesAt w6 (.slice x6 (k + m) y6) (eb ++ ms) := by
      have h := rowAt_own HO6.out
      unfold BytesAt
      rw [byteVals_append, List.length_append, HKL.out, ← HML.out]
      exact h
    have hl6 : (eb ++ ms).length = k + m := by rw [List.length_append, HKL.out, ← HML.out]
    refine (Try.decode_yes x6 (k + m) y6 (eb ++ ms) hl6.symm (by omega) (fun z hz => (List.mem_append.1 hz).elim (HBY.out.2.2 z) (HMY.out z)) w6 hI6 (bytesAt_addr hI6 (by omega)) HDA.out k (by rw [hl6, HML.out])).mono ?_
    rintro e w7 ⟨al7, cl7, ap7, cp7, rfl, hS7, hB7⟩
    have HB7 := Lib.hid (HB6.out.trans (hB7.mono HB6.out.size))
    have HS7 := Lib.hid hS7
    have r7 := HK4.out w7 HB7.out
    obtain ⟨c0, c1, c2, c3, c4⟩ := five8 r7.1
    have c5 := r7.2.2.2.2
    clear hI6 hl6 hB7 hS7 r7 HO6 HB6 HM5 HO5 HB5
    go_wp2_with fail
    --S8
    have HB8 : Hid (Below w4.heap.size w4 (w7.alloc (.cells #[.int .i64 so.goers, .int .i64 so.slabs, .int .u64 so.seed, .slice al7 so.lists.length cl7, .slice ap7 so.picks.length cp7] 26))) := Lib.hid (HB7.out.alloc HB7.out.size _)
    have HS8 : Hid (ScrAt (w7.alloc (.cells #[.int .i64 so.goers, .int .i64 so.slabs, .int .u64 so.seed, .slice al7 so.lists.length cl7, .slice ap7 so.picks.length cp7] 26)) (.agg #[.int .i64 so.goers, .int .i64 so.slabs, .int .u64 so.seed, .slice al7 so.lists.length cl7, .slice ap7 so.picks.length cp7]) so) := Lib.hid (HS7.out.below ((Below.refl _ w7).alloc (Nat.le_refl _) _))
    clear c0 c1 c2 c3 c4 c5 HB7 HS7
    generalize w7.alloc (.cells #[.int .i64 so.goers, .int .i64 so.slabs, .int .u64 so.seed, .slice al7 so.lists.length cl7, .slice ap7 so.picks.length cp7] 26) = w8 at *
    refine (Try.same_any _ _ so so HOK.out HOK.out w8 HS8.out (HK4.out w8 HB8.out).2.1).mono ?_
    rintro e w9 ⟨rfl, hB9⟩
    rw [decide_eq_true rfl]
    have HB9 := Lib.hid (HB8.out.trans (hB9.mono HB8.out.size))
    clear hB9 HB8 HS8
    go_wp2_with fail
    --S9
    have hA9 := (HK4.out w9 HB9.out).2.2.1
    have hc9 : BytesAt w9 (.slice x4 k1 y4) (eb.take k1) := bytes_cut HKL.out.symm hA9 k1 (by have := HK1.out; omega)
    have hl9 : (eb.take k1).length = k1 := by rw [List.length_take, HKL.out, HK1.out]; omega
    have hd9 : decP (eb.take k1) = none := HSH.out (eb.take k1) (eb.drop k1) (List.take_append_drop k1 eb).symm (fun h => by
      have h1 := congrArg List.length h
      rw [List.length_drop, HKL.out, HK1.out, List.length_nil] at h1
      omega)
    have HD9 := Lib.hid (Try.decode_no x4 k1 y4 (eb.take k1) hl9.symm (by omega) (fun z hz => HBY.out.2.2 z (List.mem_of_mem_take hz)) w9 hc9 (fun b off e => bytesAt_addr hA9 (by rw [HKL.out]; omega) b off e) hd9)
    clear hA9 hc9 hl9 hd9
    refine HD9.out.mono ?_
    rintro e wA ⟨rfl, hBA⟩
    have HBA := Lib.hid (HB9.out.trans (hBA.mono HB9.out.size))
    clear hBA HB9 HD9
    go_wp2_with fail
    --SA
    have HBK : Hid (Below w.heap.size w (wA.alloc (.cells #[.int .i64 0, .int .i64 0, .int .u64 0, .slice none 0 0, .slice none 0 0] 26))) := Lib.hid ((HK4.out wA HBA.out).2.2.2.1.alloc (HK4.out wA HBA.out).2.2.2.1.size _)
    generalize (wA.alloc (.cells #[.int .i64 0, .int .i64 0, .int .u64 0, .slice none 0 0, .slice none 0 0] 26)) = wk at *
    have hIk : BytesAt wk (.slice a m cap) ms := RowAt.below HMB.out HBK.out
    have hIbk : ∀ b off, a = some ⟨b, off, none⟩ → b < wk.heap.size := fun b off e => Nat.lt_of_lt_of_le (HIB.out b off e) HBK.out.size
    have hml2 : ms.length ≤ 1000000 := by have := HML.out; omega
    cases hd : decP ms with
    | none =>
      have HD := Lib.hid (Try.decode_no a m cap ms HML.out hml2 HMY.out wk hIk hIbk hd)
      clear hIk hIbk hml2 hd
      refine HD.out.mono ?_
      rintro e wl ⟨rfl, hBl⟩
      have HBL := Lib.hid (HBK.out.trans (hBl.mono HBK.out.size))
      clear hBl HD
      go_wp2_with fail
      --S1
      go_ret
      exact ⟨rfl, HBL.out.alloc HBL.out.size _⟩
    | some q =>
      obtain ⟨t, r⟩ := q
      obtain ⟨hmt, t1, t2, t3, heq⟩ := decP_back hd
      have htw := read_wf hmt t1 t2 t3
      have hto := may_ok hmt
      obtain ⟨kk, hkk⟩ : ∃ kk, kk = (bytesOf (scrNums t)).length := ⟨_, rfl⟩
      have hk2 : ms.length = kk + r.length := by rw [heq, List.length_append, hkk]
      have hkm : kk ≤ m := by have := HML.out; omega
      have HD := Lib.hid (Try.decode_yes a m cap ms HML.out hml2 HMY.out wk hIk hIbk hd kk hk2)
      have hcut : BytesAt w (.slice a kk cap) (bytesOf (scrNums t)) := by
        have h0 := bytes_cut HML.out HMB.out kk hkm
        rw [heq, hkk, List.take_left, ← hkk] at h0
        exact h0
      have HCUT := Lib.hid hcut
      have HKK := Lib.hid hkk
      have HTB := Lib.hid (bytes_le hmt htw)
      have hkm1 : (kk : Int) ≤ (m : Int) := by omega
      have hkm2 : (kk : Int) ≤ (cap : Int) := by omega
      have hkm3 : (0 : Int) ≤ (kk : Int) := by omega
      have HEN : Hid (∀ (W : World) (v : Value), ScrAt W v t → Calls Try.prog 23 #[v] W fun e w' => ∃ x y, e = .returned (.tuple #[.slice x kk y, .int .i64 0]) ∧ BytesAt w' (.slice x kk y) (bytesOf (scrNums t)) ∧ Below W.heap.size W w') := Lib.hid fun W v h => (Try.Encode_yes v t hto htw hmt W h).mono fun e w' ⟨u, he, ho, hb⟩ => by
        have ho1 := rowAt_own ho
        have ho2 := ho1
        obtain ⟨_, x, y, rfl, _⟩ := ho2
        rw [← HKK.out] at he ho1
        refine ⟨x, y, he, ?_, hb⟩
        unfold BytesAt
        rw [← HKK.out]
        exact ho1
      clear hIk hIbk hml2 hd hmt t1 t2 t3 heq htw hto hkk hk2 hkm hcut
      refine HD.out.mono ?_
      rintro e wl ⟨al5, cl5, ap5, cp5, rfl, hSl, hBl⟩
      have HBL := Lib.hid (HBK.out.trans (hBl.mono HBK.out.size))
      have HSL := Lib.hid hSl
      clear hBl HD hSl
      go_wp2_with fail
      --S2
      have HBM : Hid (Below w.heap.size w (wl.alloc (.cells #[.int .i64 t.goers, .int .i64 t.slabs, .int .u64 t.seed, .slice al5 t.lists.length cl5, .slice ap5 t.picks.length cp5] 26))) := Lib.hid (HBL.out.alloc HBL.out.size _)
      have HSM : Hid (ScrAt (wl.alloc (.cells #[.int .i64 t.goers, .int .i64 t.slabs, .int .u64 t.seed, .slice al5 t.lists.length cl5, .slice ap5 t.picks.length cp5] 26)) (.agg #[.int .i64 t.goers, .int .i64 t.slabs, .int .u64 t.seed, .slice al5 t.lists.length cl5, .slice ap5 t.picks.length cp5]) t) := Lib.hid (HSL.out.below ((Below.refl _ wl).alloc (Nat.le_refl _) _))
      generalize wl.alloc (.cells #[.int .i64 t.goers, .int .i64 t.slabs, .int .u64 t.seed, .slice al5 t.lists.length cl5, .slice ap5 t.picks.length cp5] 26) = wm at *
      refine (HEN.out wm _ HSM.out).mono ?_
      rintro e wp ⟨xp, yp, rfl, hop, hBp⟩
      have HBP := Lib.hid (HBM.out.trans (hBp.mono HBM.out.size))
      have HOP := Lib.hid hop
      clear hop hBp HBM HSM HBL HSL HEN
      go_wp2_with fail
      --S3
      refine (Try.equalB_yes xp a kk yp cap _ HKK.out HTB.out.2.2 wp HOP.out (RowAt.below HCUT.out HBP.out)).mono ?_
      rintro e wq ⟨rfl, rfl⟩
      go_wp2_with fail
      --S4
      go_ret
      exact ⟨rfl, HBP.out⟩
theorem walk (v0 : Value) (s0 : Scr) (a1 : Option Addr) (len1 cap1 : Nat) (z1 : List Int) (w : World) (wf0 : s0.wf) (h0 : ScrAt w v0 s0) (n1 : len1 = z1.length) (h1 : BytesAt w (.slice a1 len1 cap1) z1) (b1 : AllBytes z1) (i1 : ∀ b off, a1 = some ⟨b, off, none⟩ → b < w.heap.size) :
    Calls Try.prog 6 #[v0, .slice a1 len1 cap1] w fun e w' => e = .returned (.bool true) ∧ Below w.heap.size w w' := walkAt v0 s0 a1 len1 cap1 z1 wf0 w h0 n1 h1 b1 i1
theorem laidOut : laidOutB Try.prog = true := by kernel_rfl
theorem lifted (os : Os) (started : os.Started) (H : Type) (enc : TypeId × Value → H) :
    ReturnsInHanded {} Try.checked os 6 .any (Rows.scriptBackSpec.pre6 enc Try.prog Try.f6 Rows.scriptBackRow.domain false) (Rows.scriptBackSpec.post enc Try.prog Try.f6 false true false false) := by
  refine returnsInHanded_of_change (C := Try.checked) own started (by kernel_rfl) Try.func6
    (ChangeSpec.witness6 (enc := enc) (C := Try.checked) false ⟨#[], #[.agg #[.int .i64 0, .int .i64 0, .int .u64 0, .slice none 0 0, .slice none 0 0], .slice none 0 0], []⟩ 8 (by kernel_rfl) (by kernel_rfl) (by kernel_rfl) (by kernel_rfl)) ?_
  intro W base args ds gs before hval0 hW hcnd _
  have hval : ∀ (j : Nat) t v, Try.f6.params[j]? = some t → args[j]? = some v → Value.okWide Try.prog W .any base t v := hval0
  have hW' := hW
  obtain ⟨p, q, hA0, hV, rfl, hfz, hnd⟩ := hW
  have hA : DataW.TrodAll enc Try.prog W 0 (fun _ => true) true Try.f6.params.toList args.toList ds p := hA0
  rw [Try.params6] at hA hval
  obtain ⟨v0, vs0, d0, ds0, p0, q0, hargs, rfl, rfl, h0, r0⟩ := trodAll_cons hA
  obtain ⟨v1, vs1, d1, ds1, p1, q1, rfl, rfl, rfl, h1, r1⟩ := trodAll_cons r0
  obtain ⟨rfl, rfl, rfl⟩ := trodAll_nil r1
  obtain rfl : args = #[v0, v1] := by cases args; simp_all
  obtain ⟨rfl, rfl⟩ := trodVars_none hV
  obtain ⟨s0, e0, wf0⟩ := open_scr (hval 0 26 v0 rfl rfl) h0
  have k0 := h0
  have lt0 : ∀ x ∈ p0, x.block < W.heap.size := by obtain ⟨m, hm⟩ := k0; exact DataW.trod_lt m _ _ _ hm
  have hv1 := hval 1 38 v1 rfl rfl
  obtain ⟨a1, len1, cap1, rfl⟩ := okWide_slice Try.underlying38 hv1
  have k1 := h1
  have lt1 : ∀ x ∈ p1, x.block < W.heap.size := by obtain ⟨m, hm⟩ := k1; exact DataW.trod_lt m _ _ _ hm
  obtain ⟨z1, n1, e1, b1⟩ : ∃ l : List Int, len1 = l.length ∧ BytesAt W (.slice a1 len1 cap1) l ∧ AllBytes l := by
    obtain ⟨fuel, hf⟩ := h1
    exact open_bytesW hf
  have i1 : ∀ b off, a1 = some ⟨b, off, none⟩ → b < W.heap.size := fun b off e => by
    subst e
    exact slice_lies Try.underlying38 hv1
  clear hA0 hval0
  refine (walk v0 s0 a1 len1 cap1 z1 W wf0 e0 n1 e1 b1 i1).mono fun e W' ⟨he, bel⟩ => ?_
  subst he
  exact ⟨_, rfl, _, _, _, [], _, [], hW', trodAll_mk1 (shut_bool Try.underlying4 _), (trodAll_cons_mk (Below.trod laidOut (by kernel_rfl) (of_decide_eq_true (by kernel_rfl)) k0 bel lt0) (trodAll_cons_mk (Below.trod laidOut (by kernel_rfl) (of_decide_eq_true (by kernel_rfl)) k1 bel lt1) trodAll_mk0)), rfl, bel.frame _, fun h => by cases h⟩

theorem over : Rows.scriptBackRow.holds Try.pinned (OpenSpec.ofChange Rows.scriptBackSpec) :=
  OpenClaim.holds_of_wide 6 Try.f6 rfl rfl rfl rfl rfl rfl rfl ⟨rfl, rfl, rfl, rfl, rfl⟩ rfl rfl rfl rfl rfl (by kernel_rfl) Try.func6 (by kernel_rfl)
    (of_decide_eq_true (by kernel_rfl)) (by unfold Func.isWrapper; first | (rw [if_pos (by decide +kernel)]; kernel_rfl) | (rw [if_neg (by decide +kernel)]; exact ⟨rfl, rfl⟩))
    (fun os started H enc _ => lifted os started H enc)

theorem proved : Rows.ScriptBackSaid := over
end Go.Proofs.Ytfboppjedgfacaa.scriptBack
