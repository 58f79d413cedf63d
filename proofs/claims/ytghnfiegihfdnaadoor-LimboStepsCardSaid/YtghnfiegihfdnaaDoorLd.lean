/- Limbo: which may be; Check. -/
import Derived.Test.YtghnfiegihfdnaaDoorLc
namespace Go.Proofs
set_option maxRecDepth 100000
open Go.RowKit Go.Shelf
attribute [local go_sem] Oper.semAt_some

/-- Flags of 128 slabs. -/
def arrB (f : Nat → Bool) : Array Value := ((List.range 128).map fun i => Value.bool (f i)).toArray
theorem arrB_size (f : Nat → Bool) : (arrB f).size = 128 := by simp [arrB]
theorem arrB_get (f : Nat → Bool) (k : Nat) (h : k < 128) : (arrB f)[k]? = some (.bool (f k)) := by simp [arrB, h]
theorem arrB_set (f : Nat → Bool) (k : Nat) (z : Bool) : (arrB f).setIfInBounds k (.bool z) = arrB (fun n => if n = k then z else f n) := by
  apply Array.ext_getElem?
  intro i
  by_cases hi : i < 128
  · rw [arrB_get _ _ hi]
    by_cases e : k = i
    · subst e
      rw [Array.getElem?_setIfInBounds_self, if_pos (by rw [arrB_size]; exact hi), if_pos rfl]
    · rw [Array.getElem?_setIfInBounds_ne e, arrB_get _ _ hi, if_neg (fun e2 => e e2.symm)]
  · rw [Array.getElem?_eq_none (by rw [Array.size_setIfInBounds, arrB_size]; omega), Array.getElem?_eq_none (by rw [arrB_size]; omega)]
theorem arrB_zero : arrB (fun _ => false) = Array.replicate 128 (.bool false) := by
  apply Array.ext_getElem?
  intro i
  by_cases hi : i < 128
  · rw [arrB_get _ _ hi]; simp [hi]
  · rw [Array.getElem?_eq_none (by rw [arrB_size]; omega), Array.getElem?_eq_none (by simp; omega)]
/-- The slabs that were met. -/
def metF (pre : List Pr) : Nat → Bool := fun i => hasS pre i
theorem metF_snoc (pre : List Pr) (k g : Nat) : (fun n => if n = k then true else metF pre n) = metF (pre ++ [((k : Int), g)]) := by
  funext n
  unfold metF
  rw [hasS_snoc]
  by_cases e : n = k
  · rw [if_pos e, e]; simp
  · rw [if_neg e]
    have : (((k : Nat) : Int) == (n : Int)) = false := by simp; omega
    simp [this]
theorem okE_iff {p : Pr} : okE p = true ↔ 0 ≤ p.1 ∧ p.1 < 128 ∧ p.2 ≤ 1099511627775 := by simp [okE]
set_option maxHeartbeats 2000000 in
theorem Tryd.wrong1_any (p : Pr) (pre : List Pr) (B : Nat) (w : World) (hR : Rows8 w B 70 (arrB (metF pre))) :
    Calls Tryd.prog 49 #[.agg #[.int .i64 p.1, .int .u64 (p.2 : Nat)], .pointer (some ⟨B, 0, none⟩)] w fun e w' => e = .returned (.bool (!(okE p && !hasS pre p.1))) ∧ Below B w w' ∧ (okE p && !hasS pre p.1 → Rows8 w' B 70 (arrB (metF (pre ++ [p])))) := by
  have hlt := hR.lt
  obtain ⟨t, g⟩ := p
  dsimp only
  have hB0 : Below w.heap.size w (w.alloc (.cells #[.int .i64 t, .int .u64 (g : Nat)] 38)) := Rows8.newB
  have hE0 := Rows8.new w 38 #[.int .i64 t, .int .u64 (g : Nat)]
  have hR0 := hR.below hB0 hlt
  have hI := Tryd.isEntry_any (t, g) (w.alloc (.cells #[.int .i64 t, .int .u64 (g : Nat)] 38))
  dsimp only at hI
  have HI := Lib.hid hI
  have HB0 := Lib.hid hB0
  have HE0 := Lib.hid hE0
  have HR0 := Lib.hid hR0
  have HLT := Lib.hid hlt
  clear hB0 hE0 hR0 hI hR hlt
  have hok := @okE_iff (t, g)
  obtain ⟨q, hq⟩ : ∃ q, q = okE (t, g) := ⟨_, rfl⟩
  rw [← hq] at HI hok ⊢
  clear hq
  cases q with
  | false =>
    clear hok
    go_enter Tryd.func49, Tryd.ntmps49
    go_wp2_with fail
    refine HI.out.mono ?_
    rintro e w1 ⟨rfl, hB1⟩
    have HB1 := Lib.hid (HB0.out.trans (hB1.mono HB0.out.size))
    clear hB1 HE0 HR0
    go_wp2_with fail
    go_ret
    exact ⟨rfl, HB1.out.mono (Nat.le_of_lt HLT.out), fun h => by cases h⟩
  | true =>
    obtain ⟨h0, h1, -⟩ := hok.1 rfl
    dsimp only at h0 h1
    obtain ⟨k, rfl⟩ : ∃ k : Nat, t = k := ⟨t.toNat, by omega⟩
    have hk : k < 128 := by omega
    have hmt : hasS pre (k : Nat) = metF pre k := rfl
    have hsn := metF_snoc pre k g
    rw [hmt]
    have hset := fun (f : Nat → Bool) => arrB_set f k true
    have hget := arrB_get (metF pre) k hk
    generalize metF pre = f at *
    have HSN := Lib.hid hsn
    have HSET := Lib.hid hset
    have hki : (k : Int) < 128 := by omega
    have hk0 : (0 : Int) ≤ (k : Int) := by omega
    have HK := Lib.hid hk
    have HGET := Lib.hid hget
    clear hok h0 h1 hk hsn hset hget hmt
    obtain ⟨b, hb⟩ : ∃ b, b = f k := ⟨_, rfl⟩
    rw [← hb] at HGET ⊢
    clear hb
    go_enter Tryd.func49, Tryd.ntmps49
    go_wp2_with fail
    refine HI.out.mono ?_
    rintro e w1 ⟨rfl, hB1⟩
    have e1 := HE0.out.below hB1 HE0.out.lt
    have r1 := HR0.out.below hB1 HR0.out.lt
    have c0 : w1.cell? ⟨w.heap.size, 0, none⟩ = some (.int .i64 (k : Nat)) := e1.cell 0
    have c1 : w1.cell? ⟨B, k, none⟩ = some (.bool b) := (r1.cell k).trans HGET.out
    have f1 := r1.frozen k
    have HB1 := Lib.hid (HB0.out.trans (hB1.mono HB0.out.size))
    have s1 := r1.set k (.bool true)
    rw [HSET.out, HSN.out] at s1
    have HS1 := Lib.hid s1
    have hl2 := e1.lt
    clear hB1 HE0 HR0 e1 r1 s1 HI
    cases b with
    | true =>
      go_wp2_with fail
      go_ret
      exact ⟨rfl, HB1.out.mono (Nat.le_of_lt HLT.out), fun h => by cases h⟩
    | false =>
      have HB2 := Lib.hid ((HB1.out.mono (Nat.le_of_lt HLT.out)).setCell (p := ⟨B, k, none⟩) (Nat.le_refl _) (.bool true))
      go_wp2_with fail
      go_ret
      exact ⟨rfl, HB2.out, fun _ => HS1.out⟩
theorem goodL_next {pre l : List Pr} {k : Nat} (h : k < l.length) (hg : goodL (pre ++ l.take k) = true) : goodL (pre ++ l.take (k + 1)) = (okE l[k] && !hasS (pre ++ l.take k) l[k].1) := by
  rw [take_snoc l k h, ← List.append_assoc, goodL_snoc, hg]
  rfl
theorem goodL_no {pre l : List Pr} {k : Nat} (hg : goodL (pre ++ l.take k) = false) : goodL (pre ++ l) = false := by
  cases h : goodL (pre ++ l) with
  | false => rfl
  | true =>
    rw [← List.take_append_drop k l, ← List.append_assoc] at h
    rw [goodL_left h] at hg
    cases hg
set_option maxHeartbeats 2000000 in
theorem Tryd.someWrong_any (a : Option Addr) (n cap : Nat) (l pre : List Pr) (B : Nat) (w : World) (hI : PAt w (.slice a n cap) l) (hR : Rows8 w B 70 (arrB (metF pre))) (hg : goodL pre = true) (hB : ∀ b o, a = some ⟨b, o, none⟩ → l ≠ [] → b < B) :
    Calls Tryd.prog 51 #[.slice a n cap, .func (.func 49) #[] #[.pointer (some ⟨B, 0, none⟩)]] w fun e w' => e = .returned (.bool (!goodL (pre ++ l))) ∧ Below B w w' ∧ (goodL (pre ++ l) → Rows8 w' B 70 (arrB (metF (pre ++ l)))) := by
  have hn := (pAt_len hI).1
  have hn2 := (pAt_len hI).2
  unfold maxLen at hn2
  have hreach : n ≤ 9223372036854775807 := by omega
  have HN := Lib.hid hn
  have HI := Lib.hid hI
  have HBB := Lib.hid hB
  obtain ⟨q, hq⟩ : ∃ q, q = goodL (pre ++ l) := ⟨_, rfl⟩
  rw [← hq]
  have HQ := Lib.hid hq
  have HR0 := Lib.hid (show Rows8 w B 70 (arrB (metF (pre ++ l.take 0))) by rw [List.take_zero, List.append_nil]; exact hR)
  have HG0 := Lib.hid (show goodL (pre ++ l.take 0) = true by rw [List.take_zero, List.append_nil]; exact hg)
  have HLT := Lib.hid hR.lt
  clear hI hn hn2 hR hg hB hq
  go_enter Tryd.func51, Tryd.ntmps51
  go_wp2
  go_loopw [6, 9] (fun _ j wr => ∃ k : Nat, k ≤ n ∧ j = .int .i64 k ∧ Hid (goodL (pre ++ l.take k) = true) ∧ Hid (Rows8 wr B 70 (arrB (metF (pre ++ l.take k)))) ∧ Hid (Below B w wr)) (fun _ j _ => n - (intOf j).toNat)
  case atStart => exact ⟨0, Nat.zero_le _, rfl, HG0, HR0, Lib.hid (Below.refl _ _)⟩
  case round =>
    obtain ⟨k, hk, rfl, hx, hr, hB⟩ := hrel
    by_cases hlt : k < n
    · have hkl : k < l.length := by rw [← HN.out]; exact hlt
      obtain ⟨b, off, rfl, hb2, c0', c1'⟩ := pAt_get HI.out k hkl
      have hbB := HBB.out b off rfl (by intro e; rw [e] at hkl; simp at hkl)
      have c0 := (hB.out.cell (p := ⟨b, off + k * 2, none⟩) hbB).trans c0'
      have c1 := (hB.out.cell (p := ⟨b, off + k * 2 + 1, none⟩) hbB).trans c1'
      have hall := goodL_next (pre := pre) hkl hx.out
      have hano := goodL_no (pre := pre) (l := l) (k := k + 1)
      have hm : metF (pre ++ l.take k ++ [l[k]]) = metF (pre ++ l.take (k + 1)) := by rw [take_snoc l k hkl, List.append_assoc]
      have hblt : b < wr.heap.size := Nat.lt_trans hbB hr.out.lt
      generalize l[k] = p at *
      have hal : Below wr.heap.size wr (wr.alloc (.cells #[.int .i64 p.1, .int .u64 (p.2 : Nat)] 38)) := Rows8.newB
      have HC := Lib.hid (Tryd.wrong1_any p (pre ++ l.take k) B _ (hr.out.below hal hr.out.lt))
      have hpos : ∀ W', (okE p && !hasS (pre ++ l.take k) p.1) = true → Rows8 W' B 70 (arrB (metF (pre ++ l.take k ++ [p]))) → Rows8 W' B 70 (arrB (metF (pre ++ l.take (k + 1)))) := fun W' _ h => by rw [← hm]; exact h
      rw [← hall] at HC
      have HP := Lib.hid fun (W' : World) (h : Rows8 W' B 70 (arrB (metF (pre ++ l.take k ++ [p])))) => show Rows8 W' B 70 (arrB (metF (pre ++ l.take (k + 1)))) by rw [← hm]; exact h
      have HNO := Lib.hid hano
      have hki : (k : Int) < (n : Int) := by omega
      have HB := Lib.hid (hB.out.trans (hal.mono (Nat.le_of_lt hr.out.lt)))
      clear hall hano hx hB hm hpos hr hal c0' c1' hkl
      obtain ⟨z, hz⟩ : ∃ z, z = goodL (pre ++ l.take (k + 1)) := ⟨_, rfl⟩
      rw [← hz] at HC HNO
      have HZ := Lib.hid hz
      clear hz
      go_wp2_with fail
      refine HC.out.mono ?_
      rintro e w' ⟨rfl, hB2, hr2⟩
      have HB2 := Lib.hid (HB.out.trans hB2)
      clear hB2
      cases z with
      | true =>
        have HR2 := Lib.hid (HP.out _ (hr2 rfl))
        clear hr2
        go_wp2_with fail
        exact ⟨⟨k + 1, by omega, by go_num, Lib.hid HZ.out.symm, HR2, HB2⟩, by simp [intOf]; omega⟩
      | false =>
        have h9 : Hid (q = false) := Lib.hid (by rw [HQ.out]; exact HNO.out rfl)
        clear hr2
        go_wp2_with fail
        go_ret
        exact ⟨by rw [h9.out]; rfl, HB2.out, fun h => by rw [h9.out] at h; cases h⟩
    · obtain rfl : k = n := by omega
      have htk : l.take k = l := List.take_of_length_le (Nat.le_of_eq HN.out.symm)
      have h9 : Hid (q = true) := Lib.hid (by rw [HQ.out]; have := hx.out; rwa [htk] at this)
      have h8 := Lib.hid htk
      clear hx htk
      go_wp2_with fail
      go_ret
      exact ⟨by rw [h9.out]; rfl, hB.out, fun _ => by have h := hr.out; rw [h8.out] at h; exact h⟩
end Go.Proofs
