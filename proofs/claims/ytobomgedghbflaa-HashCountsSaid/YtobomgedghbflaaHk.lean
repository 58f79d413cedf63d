/- deepest, Crowd, Deepest. -/
import Derived.Test.YtobomgedghbflaaHj
namespace Go.Proofs
open Go.RowKit Go.Shelf Go.Deep Go.Maps
attribute [local go_sem] Oper.semAt_some

theorem KeysOk.sort {ks : List Int} (h : KeysOk ks) : KeysOk (sortW ks) := fun k hk => h k (sortW_mem.1 hk)
theorem KeysOk.once {ks : List Int} (h : KeysOk ks) : KeysOk (onceW ks) := fun k hk => h k (onceW_mem.1 hk)
set_option maxRecDepth 100000 in
set_option maxHeartbeats 4000000 in
theorem Try.deepest_any (s : Nat) (many : Int) (hs : s < 18446744073709551616) (hm : 1 ≤ many) (ks : List Int) (hdl : ks.length ≤ 100000000) (hk : KeysOk ks) (bx g c : Nat) (w : World) (hc : c = ks.length) (hB : Rows8 w bx 23 #[.slice (some ⟨g, 0, none⟩) c c]) (hS : SRow w g c (sortW ks).toArray) :
    Calls Try.prog 18 #[.int .u64 (s : Int), .int .i64 many, .func (.func 42) #[] #[.pointer (some ⟨bx, 0, none⟩)]] w
      fun e w' => ∃ d : Nat, e = .returned (.int .i64 (d : Int)) ∧ DeepAt s many (onceW ks) d ∧ Below w.heap.size w w' := by
  have hB1 : Below w.heap.size w (w.alloc (.cells #[.int .i64 many] 3)) := (Below.refl _ w).alloc (Nat.le_refl _) _
  have hbm := Rows8.new w 3 #[.int .i64 many]
  have HC := Lib.hid fun (n : Nat) (hn : n ≤ 64) (W : World) (hW : Below w.heap.size w W) => Try.crowd_any s n hs hn (sortW ks) (by rw [sortW_length]; exact hdl) hk.sort bx g c W (by rw [sortW_length]; exact hc) (hB.below hW hB.lt) (hS.below hW hS.lt)
  have h64 := over_64 hs hk.once (onceW_nodup ks) hm
  have HMONO := Lib.hid fun (m : Nat) => over_mono (s := s) (u := onceW ks) (many := many) (m := m)
  have hmf : ∀ (fn : Fn) (first cap : Array Value) (w : World), (Instr.makeFunc fn first cap).run Try.prog w = .ok (.func fn first cap) w := fun _ _ _ _ => rfl
  have H64 := Lib.hid h64
  have HB1 := Lib.hid hB1
  have HBM := Lib.hid hbm
  clear hB hS hk hc hdl h64 hB1 hbm
  rw [show onceB (sortW ks) = onceW ks from rfl] at HC
  generalize onceW ks = u at *
  go_enter Try.func18, Try.ntmps18
  go_wp2_with fail
  go_step3
  go_wp2_with fail
  go_step3
  go_wp2_with fail
  go_loopw [8, 9] (fun lv mv wr => ∃ (lo hi : Nat), lv = .int .i64 (lo : Int) ∧ mv = .int .i64 (hi : Int) ∧ lo ≤ hi ∧ hi ≤ 64 ∧ Hid (∀ n, n < lo → overB (prefsB s n u) many = true) ∧ Hid (overB (prefsB s hi u) many = false) ∧ Below w.heap.size w wr ∧ Rows8 wr w.heap.size 3 #[.int .i64 many]) (fun lv mv _ => (intOf mv).toNat - (intOf lv).toNat)
  case atStart => exact ⟨0, 64, rfl, rfl, by omega, by omega, Lib.hid fun n hn => absurd hn (Nat.not_lt_zero n), H64, HB1.out, HBM.out⟩
  case round =>
    obtain ⟨lo, hi, rfl, rfl, hle, hhi, hlo, hov, hB, hbm⟩ := hrel
    by_cases he : lo = hi
    · subst he
      have hee : ((lo : Int) == (lo : Int)) = true := by simp
      have hd : Hid (DeepAt s many u lo) := Lib.hid ⟨hhi, hov.out, fun h => hlo.out _ (by omega)⟩
      go_wp2_with fail
      rw [Exit.noGoto_ret]
      go_ret
      exact ⟨lo, rfl, hd.out, hB⟩
    · have hee : ((lo : Int) == (hi : Int)) = false := by simp; omega
      obtain ⟨mid, hmid⟩ : ∃ mid, mid = (lo + hi) / 2 := ⟨_, rfl⟩
      have hq : ((lo : Int) + (hi : Int)) / 2 = (mid : Int) := by omega
      have hm1 : lo ≤ mid := by omega
      have hm2 : mid < hi := by omega
      have hcr := HC.out mid (by omega) wr hB
      have HBB := Lib.hid hB
      have HBM2 := Lib.hid hbm
      clear hB hbm hmid
      go_wp2_with fail
      refine hcr.mono ?_
      rintro e w1 ⟨b, rfl, hb1, hc1, hB1⟩
      have hbm1 := HBM2.out.below hB1 HBM2.out.lt
      have hso := Try.some_any many w.heap.size b u.length (prefsB s mid u) w1 hbm1 hc1
      have HB2 := Lib.hid (HBB.out.trans (hB1.mono HBB.out.size))
      have HBM3 := Lib.hid hbm1
      clear hcr hbm1 hc1 hB1 hb1
      cases ho : overB (prefsB s mid u) many with
      | true =>
        rw [ho] at hso
        have hlo2 : Hid (∀ n, n < mid + 1 → overB (prefsB s n u) many = true) := Lib.hid fun n hn => HMONO.out mid ho (by omega) n (by omega)
        clear ho
        go_wp2_with fail
        refine hso.mono ?_
        rintro e w2 ⟨rfl, hB3⟩
        have HB4 := Lib.hid (HB2.out.trans (hB3.mono HB2.out.size))
        have HBM4 := Lib.hid (HBM3.out.below hB3 HBM3.out.lt)
        clear hB3 hso
        go_wp2_with fail
        exact ⟨⟨mid + 1, hi, by go_num, rfl, by omega, by omega, hlo2, hov, HB4.out, HBM4.out⟩, by simp [intOf]; omega⟩
      | false =>
        rw [ho] at hso
        have hov2 := Lib.hid ho
        clear ho
        go_wp2_with fail
        refine hso.mono ?_
        rintro e w2 ⟨rfl, hB3⟩
        have HB4 := Lib.hid (HB2.out.trans (hB3.mono HB2.out.size))
        have HBM4 := Lib.hid (HBM3.out.below hB3 HBM3.out.lt)
        clear hB3 hso
        go_wp2_with fail
        exact ⟨⟨lo, mid, rfl, rfl, by omega, by omega, hlo, hov2, HB4.out, HBM4.out⟩, by simp [intOf]; omega⟩
/-- What Crowd comes to, with its map. -/
def CrowdQ (s : Nat) (bits : Int) (ks : List Int) (w : World) (e : Ending) (w' : World) : Prop := Below w.heap.size w w' ∧
  ((noBitsB bits = true ∧ e = .returned (.tuple #[.map none, .int .i64 2])) ∨
   (noBitsB bits = false ∧ ∃ b, e = .returned (.tuple #[.map (some b), .int .i64 0]) ∧ w.heap.size ≤ b ∧ CntAt w' b (onceW ks).length (prefsB s bits.toNat (onceW ks))))
set_option maxRecDepth 100000 in
set_option maxHeartbeats 4000000 in
theorem Try.Crowd_any (m : Nat) (hso : Try.SortOk m) (s : Nat) (hs : s < 18446744073709551616) (bits : Int) (a : Option Addr) (n cap : Nat) (ks : List Int) (hn : n = ks.length) (hm : n ≤ m) (hn1 : n ≤ 100000000) (hk : KeysOk ks) (w : World) (hI : WordsAt w (.slice a n cap) ks) :
    Calls Try.prog 9 #[.int .u64 (s : Int), .int .i64 bits, .slice a n cap] w (CrowdQ s bits ks w) := by
  have hb := Try.noBits_any bits
  cases h : noBitsB bits with
  | true =>
    have HH := Lib.hid h
    rw [h] at hb
    clear h
    go_enter Try.func9, Try.ntmps9
    go_wp2_with (go_at_call 20; refine (hb _).mono ?_; rintro e w'' ⟨rfl, rfl⟩)
    go_ret2
    exact ⟨Below.refl _ _, .inl ⟨HH.out, rfl⟩⟩
  | false =>
    have HH := Lib.hid h
    have hbn : 0 ≤ bits ∧ bits ≤ 64 := by simp [noBitsB] at h; omega
    obtain ⟨q, rfl⟩ : ∃ q : Nat, bits = (q : Int) := ⟨bits.toNat, by omega⟩
    have ho := Try.once_any m hso a n cap ks hn hm hn1 w hI
    have HN := Lib.hid hn
    have HK := Lib.hid hk
    have hq : q ≤ 64 := by omega
    rw [h] at hb
    clear h hI hn hk hso hbn
    go_enter Try.func9, Try.ntmps9
    go_wp2_with (go_at_call 20; refine (hb _).mono ?_; rintro e w'' ⟨rfl, rfl⟩)
    refine ho.mono ?_
    rintro e w1 ⟨g, bx, rfl, hB, hS, hBl⟩
    have hc := Try.crowd_any s q hs hq (sortW ks) (by rw [sortW_length, ← HN.out]; exact hn1) HK.out.sort bx g n w1 (by rw [sortW_length]; exact HN.out) hB hS
    have HBl := Lib.hid hBl
    clear hB hS hBl ho
    go_wp2_with fail
    refine hc.mono ?_
    rintro e w2 ⟨b, rfl, hb2, hc2, hB2⟩
    have HC2 := Lib.hid hc2
    have HB2 := Lib.hid (HBl.out.trans (hB2.mono HBl.out.size))
    have hbb := Nat.le_trans HBl.out.size hb2
    clear hc2 hB2 hc
    go_wp2_with fail
    go_ret2
    exact ⟨HB2.out, .inr ⟨HH.out, b, rfl, hbb, HC2.out⟩⟩
def DeepestQ (s : Nat) (many : Int) (ks : List Int) (w : World) (e : Ending) (w' : World) : Prop := Below w.heap.size w w' ∧
  ((many < 1 ∧ e = .returned (.tuple #[.int .i64 0, .int .i64 2])) ∨
   (1 ≤ many ∧ ∃ d : Nat, e = .returned (.tuple #[.int .i64 (d : Int), .int .i64 0]) ∧ DeepAt s many (onceW ks) d))
set_option maxRecDepth 100000 in
set_option maxHeartbeats 4000000 in
theorem Try.Deepest_any (m : Nat) (hso : Try.SortOk m) (s : Nat) (hs : s < 18446744073709551616) (many : Int) (a : Option Addr) (n cap : Nat) (ks : List Int) (hn : n = ks.length) (hm : n ≤ m) (hn1 : n ≤ 100000000) (hk : KeysOk ks) (w : World) (hI : WordsAt w (.slice a n cap) ks) :
    Calls Try.prog 8 #[.int .u64 (s : Int), .int .i64 many, .slice a n cap] w (DeepestQ s many ks w) := by
  by_cases h : many < 1
  · have hd : decide (many < 1) = true := by simp [h]
    have HH := Lib.hid h
    go_enter Try.func8, Try.ntmps8
    go_wp2_with fail
    go_ret2
    exact ⟨Below.refl _ _, .inl ⟨HH.out, rfl⟩⟩
  · have hd : decide (many < 1) = false := by simp [h]
    have h1 : 1 ≤ many := by omega
    have ho := Try.once_any m hso a n cap ks hn hm hn1 w hI
    have HN := Lib.hid hn
    have HK := Lib.hid hk
    have H1 := Lib.hid h1
    clear hI hn hk hso h1
    go_enter Try.func8, Try.ntmps8
    go_wp2_with fail
    refine ho.mono ?_
    rintro e w1 ⟨g, bx, rfl, hB, hS, hBl⟩
    have hc := Try.deepest_any s many hs H1.out ks (by rw [← HN.out]; exact hn1) HK.out bx g n w1 HN.out hB hS
    have HBl := Lib.hid hBl
    clear hB hS hBl ho
    go_wp2_with fail
    refine hc.mono ?_
    rintro e w2 ⟨d, rfl, hd2, hB2⟩
    have HD2 := Lib.hid hd2
    have HB2 := Lib.hid (HBl.out.trans (hB2.mono HBl.out.size))
    clear hd2 hB2 hc
    go_wp2_with fail
    go_ret2
    exact ⟨HB2.out, .inr ⟨H1.out, d, rfl, HD2.out⟩⟩
end Go.Proofs
