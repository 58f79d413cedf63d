/- The reference's Many, Most, Deepest. -/
import Derived.Test.YtdpjmabamjgmkaaHu
namespace Go.Proofs
open Go.RowKit Go.Shelf Go.Deep
attribute [local go_sem] Oper.semAt_some

theorem count_next (l : List Nat) (p : Nat) {k : Nat} (h : k < l.length) : (l.take (k + 1)).count p = (l.take k).count p + (if l[k] = p then 1 else 0) := by
  rw [List.take_succ_eq_append_getElem h, List.count_append, List.count_singleton]
  congr 1
  by_cases e : l[k] = p <;> simp [e]
theorem prefs_len (s n : Nat) (ks : List Int) : (prefsB s n ks).length = ks.length := by unfold prefsB; rw [List.length_map]
theorem prefs_get (s n : Nat) (ks : List Int) {k : Nat} (h : k < ks.length) : (prefsB s n ks)[k]'(by rw [prefs_len]; exact h) = prefixB (ofB s (ks[k]).toNat) n := by
  unfold prefsB
  rw [List.getElem_map]
theorem KeysOk.ded {ks : List Int} (h : KeysOk ks) : KeysOk (dedB ks) := fun k hk => h k (onceW_mem.1 ((ded_perm ks).mem_iff.1 hk))
theorem KeysOk.get {ks : List Int} (h : KeysOk ks) {k : Nat} (hk : k < ks.length) : ∃ x : Nat, ks[k]?.getD 0 = (x : Int) ∧ x < 18446744073709551616 := by
  obtain ⟨h1, h2⟩ := h ks[k] (List.getElem_mem hk)
  refine ⟨(ks[k]).toNat, ?_, by omega⟩
  rw [List.getElem?_eq_getElem hk]
  simp only [Option.getD_some]
  omega
set_option maxRecDepth 100000 in
set_option maxHeartbeats 4000000 in
theorem Try.refMany_any (s n : Nat) (hs : s < 18446744073709551616) (hn : n ≤ 64) (a : Option Addr) (len cap : Nat) (ks : List Int) (hl : len = ks.length) (hl1 : len ≤ 1000) (hk : KeysOk ks) (key : Nat) (hkey : key < 18446744073709551616) (w : World) (hI : WordsAt w (.slice a len cap) ks) :
    Calls Try.prog 25 #[.int .u64 (s : Int), .int .i64 (n : Int), .slice a len cap, .int .u64 (key : Int)] w
      fun e w' => e = .returned (.int .i64 ((prefsB s n (onceW ks)).count (prefixB (ofB s key) n) : Int)) ∧ Below w.heap.size w w' := by
  have c0 := Try.refOnce_any a len cap ks hl hl1 w hI
  have cO := Lib.hid fun (x : Nat) (hx : x < 18446744073709551616) (W : World) => Try.refOf_any s x hs hx W
  have cP := Lib.hid fun (x : Nat) (W : World) => Try.refPrefix_any (ofB s x) n (ofB_lt s x) hn W
  have ck := fun W : World => Try.refOf_any s key hs hkey W
  have cp := fun W : World => Try.refPrefix_any (ofB s key) n (ofB_lt s key) hn W
  have HDL := Lib.hid (show (dedB ks).length ≤ 1000 from Nat.le_trans (ded_len ks) (by omega))
  clear hl
  have HK := Lib.hid hk.ded
  have hcnt := ded_count s n ks (prefixB (ofB s key) n)
  rw [← hcnt]
  clear hI hk hcnt
  generalize dedB ks = dd at *
  have HG := Lib.hid fun (k : Nat) (h : k < dd.length) => (show (prefsB s n dd)[k]? = some (prefixB (ofB s (dd[k]).toNat) n) from by rw [List.getElem?_eq_getElem (by rw [prefs_len]; exact h), prefs_get s n dd h])
  have HPL := Lib.hid (prefs_len s n dd)
  generalize prefsB s n dd = ps at *
  generalize ofB s key = hk0 at *
  generalize prefixB hk0 n = p at *
  go_enter Try.func25, Try.ntmps25
  go_wp2_with fail
  refine c0.mono ?_
  rintro e w1 ⟨v, rfl, hO, hB1⟩
  obtain ⟨_, a1, cap1, rfl, _⟩ := rowAt_own hO
  obtain ⟨nd, hnd⟩ : ∃ nd, nd = dd.length := ⟨_, rfl⟩
  have HD := Lib.hid (show WordsAt w1 (.slice a1 nd cap1) dd from by have h := rowAt_own hO; rw [← hnd] at h; unfold WordsAt; rw [← hnd]; exact h)
  rw [← hnd] at HPL HDL
  have hnd1 : nd ≤ 1000 := HDL.out
  clear hO c0
  rw [← hnd]
  have HN := Lib.hid hnd
  clear hnd
  go_wp2_with fail
  go_loopw [9, 15] (fun o j wr => ∃ (k m : Nat), k ≤ nd ∧ m ≤ k ∧ j = .int .i64 (k : Int) ∧ o = .int .i64 (m : Int) ∧ Hid (m = (ps.take k).count p) ∧ w1 = wr) (fun _ j _ => nd - (intOf j).toNat)
  case atStart => exact ⟨0, 0, Nat.zero_le _, Nat.le_refl _, rfl, rfl, Lib.hid (by simp), rfl⟩
  case round =>
    obtain ⟨k, m, hk, hmk, rfl, rfl, hm, rfl⟩ := hrel
    by_cases hlt : k < nd
    · have hki : (k : Int) < (nd : Int) := by omega
      have hkl : k < dd.length := by rw [← HN.out]; exact hlt
      obtain ⟨b, off, rfl, hb, hc⟩ := wordsAt_get HD.out k hkl
      obtain ⟨x, hx, hx64⟩ := HK.out.get hkl
      rw [hx] at hc
      have hg := HG.out k hkl
      rw [show dd[k] = (x : Int) from by rw [← hx]; simp [hkl], Int.toNat_natCast] at hg
      have hnx := count_next ps p (show k < ps.length by rw [HPL.out]; exact hlt)
      rw [(List.getElem?_eq_some_iff.1 hg).2, ← hm.out] at hnx
      have cx := fun W : World => cO.out x hx64 W
      have cy := fun W : World => cP.out x W
      clear hg hx
      generalize ofB s x = hx0 at *
      generalize prefixB hx0 n = q at *
      by_cases he : q = p
      · subst he
        rw [if_pos rfl] at hnx
        have HX := Lib.hid hnx.symm
        clear hnx
        have hee : ((q : Int) == (q : Int)) = true := by simp
        go_wp2_with fail
        refine (cx _).mono ?_
        rintro e w' ⟨rfl, rfl⟩
        go_wp2_with fail
        refine (cy _).mono ?_
        rintro e w' ⟨rfl, rfl⟩
        go_wp2_with fail
        refine (ck _).mono ?_
        rintro e w' ⟨rfl, rfl⟩
        go_wp2_with fail
        refine (cp _).mono ?_
        rintro e w' ⟨rfl, rfl⟩
        go_wp2_with fail
        exact ⟨⟨k + 1, m + 1, by omega, by omega, by go_num, by go_num, HX, by first | trivial | rfl⟩, by simp [intOf]; omega⟩
      · rw [if_neg he, Nat.add_zero] at hnx
        have HX := Lib.hid hnx.symm
        clear hnx
        have hee : ((q : Int) == (p : Int)) = false := by simp; omega
        go_wp2_with fail
        refine (cx _).mono ?_
        rintro e w' ⟨rfl, rfl⟩
        go_wp2_with fail
        refine (cy _).mono ?_
        rintro e w' ⟨rfl, rfl⟩
        go_wp2_with fail
        refine (ck _).mono ?_
        rintro e w' ⟨rfl, rfl⟩
        go_wp2_with fail
        refine (cp _).mono ?_
        rintro e w' ⟨rfl, rfl⟩
        go_wp2_with fail
        exact ⟨⟨k + 1, m, by omega, by omega, by go_num, rfl, HX, by first | trivial | rfl⟩, by simp [intOf]; omega⟩
    · obtain rfl : k = nd := by omega
      have hfin : Hid (m = ps.count p) := Lib.hid (by rw [hm.out, ← HPL.out, List.take_length])
      go_wp2_with fail
      go_ret
      exact ⟨by rw [← hfin.out]; rfl, hB1⟩
end Go.Proofs
