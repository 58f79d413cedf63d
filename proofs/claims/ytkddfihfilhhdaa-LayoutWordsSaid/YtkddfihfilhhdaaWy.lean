/- Layout: words there and back (maths of LayoutWords). -/
import Derived.Test.YtkddfihfilhhdaaWx
namespace Go.Proofs
set_option maxRecDepth 100000
open Go.RowKit Go.Shelf
attribute [local go_sem] Oper.semAt_some

theorem zero_list (l : List Int) (h : okW l) (hz : zeroB l = true) : l = List.replicate l.length 0 := by
  refine List.eq_replicate_iff.2 ⟨rfl, fun z hm => ?_⟩
  have h1 := (h z hm).1
  have h2 := (List.all_eq_true.1 hz) z hm
  simp only [decide_eq_true_eq] at h2
  omega
theorem wd_0 (a : Int) (l : List Int) : wd (a :: l) 0 = a := rfl
theorem wd_s (a : Int) (l : List Int) (i : Nat) : wd (a :: l) (i + 1) = wd l i := by simp [wd]
/-- A table's words are a table's words, and they say that table. -/
theorem words_table (t : Tb) (hk : TbK t) (ho : okT t = true) : okW (twords t) ∧ okR (twords t) = true ∧ tabR (twords t) = t := by
  obtain ⟨c, d, p, can, live, ws⟩ := t
  obtain ⟨hl, hw, hc, hp, hd, hcan, hlive⟩ := hk
  simp only [okT, Bool.and_eq_true, decide_eq_true_eq] at ho
  simp only at hl hw hc hp hd hcan hlive
  obtain ⟨⟨⟨⟨d0, d5⟩, pd⟩, can0, can1⟩, live0, live1⟩ := ho
  obtain ⟨m, rfl⟩ := Int.eq_ofNat_of_zero_le d0
  obtain ⟨x, rfl⟩ := Int.eq_ofNat_of_zero_le can0
  obtain ⟨y, rfl⟩ := Int.eq_ofNat_of_zero_le live0
  simp only [Int.toNat_natCast] at pd
  have hm : m ≤ 5 := by omega
  have h32 : p < 32 := Nat.lt_of_lt_of_le pd (Nat.pow_le_pow_right (by decide) hm)
  have hz : ((m : Int) + 256 * (p : Int)).toNat = m + 256 * p := by omega
  have e1 : (wd (twords ⟨c, (m : Int), p, (x : Int), (y : Int), ws⟩) 1).toNat = m + 256 * p := hz
  have e2 : (wd (twords ⟨c, (m : Int), p, (x : Int), (y : Int), ws⟩) 2).toNat = x := by show ((x : Int)).toNat = x; omega
  have e3 : (wd (twords ⟨c, (m : Int), p, (x : Int), (y : Int), ws⟩) 3).toNat = y := by show ((y : Int)).toNat = y; omega
  have m1 : (m + 256 * p) % 256 = m := by omega
  have m2 : (m + 256 * p) / 256 = p := by omega
  refine ⟨?_, ?_, ?_⟩
  · intro z hz
    simp only [twords, List.mem_cons, List.mem_append, List.not_mem_nil, or_false] at hz
    rcases hz with rfl | rfl | rfl | rfl | hz | rfl | rfl
    · exact hc
    · omega
    · omega
    · omega
    · exact hw z hz
    · omega
    · omega
  · simp only [okR, e1, e2, e3, okTw, okPl, okFi, m1, m2, Bool.and_eq_true, decide_eq_true_eq]
    refine ⟨by simp [twords, hl], ⟨⟨hm, pd⟩, by omega, by omega⟩, ?_⟩
    have : (twords ⟨c, (m : Int), p, (x : Int), (y : Int), ws⟩).drop 38 = [0, 0] := by
      show (ws ++ [0, 0]).drop 34 = [0, 0]
      rw [← hl, List.drop_left]
    rw [this]
    rfl
  · simp only [tabR, tabOf, e1, e2, e3, m1, m2]
    have : ((twords ⟨c, (m : Int), p, (x : Int), (y : Int), ws⟩).drop 4).take 34 = ws := by
      show (ws ++ [0, 0]).take 34 = ws
      rw [← hl, List.take_left]
    rw [this]
    rfl
/-- The table of words has those words. -/
theorem table_words (ws : List Int) (hok : okW ws) (h : okR ws = true) : TbK (tabR ws) ∧ okT (tabR ws) = true ∧ twords (tabR ws) = ws := by
  simp only [okR, okTw, okPl, okFi, Bool.and_eq_true, decide_eq_true_eq] at h
  obtain ⟨hl, ⟨⟨hd, hp⟩, hx, hy⟩, hz⟩ := h
  obtain ⟨w0, w064⟩ := wd_nat hok 0
  obtain ⟨w1, w164⟩ := wd_nat hok 1
  obtain ⟨w2, w264⟩ := wd_nat hok 2
  obtain ⟨w3, w364⟩ := wd_nat hok 3
  have h0 := okW_wd hok 0
  refine ⟨⟨by simp [tabR, tabOf, hl], okW_part hok 4 34, h0, ?_, ?_, ?_, ?_⟩, ?_, ?_⟩
  · show (wd ws 1).toNat / 256 < 18446744073709551616
    omega
  · show I64 (((wd ws 1).toNat % 256 : Nat) : Int)
    unfold I64; omega
  · show I64 (((wd ws 2).toNat : Nat) : Int)
    unfold I64; omega
  · show I64 (((wd ws 3).toNat : Nat) : Int)
    unfold I64; omega
  · have key : ∀ (d x y : Int) (p : Nat), 0 ≤ d → d ≤ 5 → p < 2 ^ d.toNat → 0 ≤ x → x ≤ 14 → 0 ≤ y → y ≤ 14 → okT ⟨wd ws 0, d, p, x, y, (ws.drop 4).take 34⟩ = true := by
      intro d x y p h1 h2 h3 h4 h5 h6 h7
      simp only [okT, Bool.and_eq_true, decide_eq_true_eq]
      exact ⟨⟨⟨⟨h1, h2⟩, h3⟩, h4, h5⟩, h6, h7⟩
    exact key _ _ _ _ (by omega) (by omega) (by rw [Int.toNat_natCast]; exact hp) (by omega) (by omega) (by omega) (by omega)
  · have hz2 := zero_list (ws.drop 38) (fun z hm => hok z (List.mem_of_mem_drop hm)) hz
    have hzl : (ws.drop 38).length = 2 := by simp [hl]
    rw [hzl] at hz2
    show wd ws 0 :: ((((wd ws 1).toNat % 256 : Nat) : Int) + 256 * (((wd ws 1).toNat / 256 : Nat) : Int)) :: (((wd ws 2).toNat : Nat) : Int) :: (((wd ws 3).toNat : Nat) : Int) :: ((ws.drop 4).take 34 ++ [0, 0]) = ws
    have e1 : ((((wd ws 1).toNat % 256 : Nat) : Int) + 256 * (((wd ws 1).toNat / 256 : Nat) : Int)) = wd ws 1 := by omega
    rw [e1, ← w2, ← w3]
    have hsp : (ws.drop 4).take 34 ++ [0, 0] = ws.drop 4 := by
      have : ([0, 0] : List Int) = (ws.drop 4).drop 34 := by rw [List.drop_drop]; exact hz2.symm
      rw [this, List.take_append_drop]
    rw [hsp]
    match ws, hl with
    | a0 :: a1 :: a2 :: a3 :: rest, _ => rfl
theorem pack_there {x : Int} {y : Nat} (h : entB x y = true) : okU (packV x y) = true ∧ entU (packV x y) = (x, y) ∧ packV x y < 18446744073709551616 := by
  simp only [entB, slabB, Bool.and_eq_true, decide_eq_true_eq] at h
  obtain ⟨⟨h0, h1⟩, hy⟩ := h
  obtain ⟨m, rfl⟩ := Int.eq_ofNat_of_zero_le h0
  have e1 : packV (m : Int) y % 65536 = m + 1 := by simp only [packV, Int.toNat_natCast]; omega
  have e2 : packV (m : Int) y / 65536 = y := by simp only [packV, Int.toNat_natCast]; omega
  refine ⟨?_, ?_, ?_⟩
  · simp only [okU, e1, e2, Bool.and_eq_true, decide_eq_true_eq]; omega
  · simp only [entU, e1, e2]; exact Prod.ext (by simp) rfl
  · simp only [packV, Int.toNat_natCast]; omega
theorem unpack_there {z : Nat} (h : okU z = true) : entB (entU z).1 (entU z).2 = true ∧ packV (entU z).1 (entU z).2 = z ∧ okP (entU z) := by
  simp only [okU, Bool.and_eq_true, decide_eq_true_eq] at h
  obtain ⟨⟨h1, h2⟩, hy⟩ := h
  refine ⟨?_, ?_, ?_, ?_⟩
  · have key : ∀ (x : Int) (y : Nat), 0 ≤ x → x < 128 → y < 1099511627776 → entB x y = true := by
      intro x y h1 h2 h3
      simp only [entB, slabB, Bool.and_eq_true, decide_eq_true_eq]
      exact ⟨⟨h1, h2⟩, h3⟩
    exact key (((z % 65536 : Nat) : Int) - 1) (z / 65536) (by omega) (by omega) hy
  · simp only [packV, entU]; omega
  · show I64 (((z % 65536 : Nat) : Int) - 1)
    unfold I64; omega
  · show z / 65536 < _
    omega
theorem dwords_form (d : Int) (l : List Pr) : dwords d l = d :: (l.map packI ++ List.replicate (39 - l.length) 0) := by simp [dwords, dw]
/-- A directory's words are a directory's words, and they say that directory. -/
theorem words_dir (d : Int) (l : List Pr) (ho : okD d l = true) : okW (dwords d l) ∧ okDir (dwords d l) = true ∧ ((wd (dwords d l) 0).toNat : Int) = d ∧ entsDw d.toNat (dwords d l) = l ∧ l.length ≤ 32 := by
  simp only [okD, Bool.and_eq_true, decide_eq_true_eq, List.all_eq_true] at ho
  obtain ⟨⟨⟨d0, d5⟩, hl⟩, hall⟩ := ho
  obtain ⟨m, rfl⟩ := Int.eq_ofNat_of_zero_le d0
  simp only [Int.toNat_natCast] at hl ⊢
  have hm : m ≤ 5 := by omega
  have h32 : l.length ≤ 32 := by rw [hl]; exact (Nat.pow_le_pow_right (by decide) hm : 2 ^ m ≤ 2 ^ 5)
  have hf := dwords_form (m : Int) l
  have hd0 : (wd (dwords (m : Int) l) 0).toNat = m := by rw [hf]; show ((m : Int)).toNat = m; omega
  have hzs : ((dwords (m : Int) l).drop 1).take (2 ^ m) = l.map packI := by
    rw [hf]
    show (l.map packI ++ List.replicate (39 - l.length) 0).take (2 ^ m) = _
    rw [← hl, show l.length = (l.map packI).length by simp, List.take_left]
  have hrest : (dwords (m : Int) l).drop (1 + 2 ^ m) = List.replicate (39 - l.length) 0 := by
    rw [hf, Nat.add_comm]
    show (l.map packI ++ List.replicate (39 - l.length) 0).drop (2 ^ m) = _
    rw [← hl, show List.drop l.length (l.map packI ++ List.replicate (39 - l.length) 0) = List.drop (l.map packI).length (l.map packI ++ List.replicate (39 - l.length) 0) by simp, List.drop_left]
  have hmap : (l.map packI).map Int.toNat = l.map (fun p => packV p.1 p.2) := by
    rw [List.map_map]; rfl
  refine ⟨?_, ?_, by rw [hd0], ?_, h32⟩
  · rw [hf]
    intro z hz
    simp only [List.mem_cons, List.mem_append, List.mem_map, List.mem_replicate] at hz
    rcases hz with rfl | ⟨p, hp, rfl⟩ | ⟨_, rfl⟩
    · omega
    · have := (pack_there (hall p hp)).2.2
      show (0 : Int) ≤ (packV p.1 p.2 : Nat) ∧ ((packV p.1 p.2 : Nat) : Int) < _
      omega
    · omega
  · simp only [okDir, hd0, okDw, hzs, hrest, hmap, Bool.and_eq_true, decide_eq_true_eq, List.all_eq_true]
    refine ⟨by rw [hf]; simp; omega, ⟨hm, ?_⟩, ?_⟩
    · intro z hz
      obtain ⟨p, hp, rfl⟩ := List.mem_map.1 hz
      exact (pack_there (hall p hp)).1
    · simp only [zeroB, List.all_eq_true, List.mem_replicate]
      rintro z ⟨_, rfl⟩
      rfl
  · simp only [entsDw, hzs, hmap, List.map_map]
    conv => rhs; rw [← List.map_id l]
    refine List.map_congr_left fun p hp => ?_
    exact (pack_there (hall p hp)).2.1
/-- The directory of words has those words. -/
theorem dir_words (ws : List Int) (hok : okW ws) (h : okDir ws = true) (d : Nat) (hd : d = (wd ws 0).toNat) : d ≤ 5 ∧ okD (d : Nat) (entsDw d ws) = true ∧ dwords (d : Nat) (entsDw d ws) = ws ∧ (∀ p ∈ entsDw d ws, okP p) ∧ (entsDw d ws).length = 2 ^ d := by
  simp only [okDir, ← hd, okDw, Bool.and_eq_true, decide_eq_true_eq] at h
  obtain ⟨hl, ⟨hd5, hall⟩, hz⟩ := h
  have h32 : 2 ^ d ≤ 32 := (Nat.pow_le_pow_right (by decide) hd5 : 2 ^ d ≤ 2 ^ 5)
  obtain ⟨zs, hzs⟩ : ∃ zs, zs = ((ws.drop 1).take (2 ^ d)).map Int.toNat := ⟨_, rfl⟩
  have hnat := nat_words ((ws.drop 1).take (2 ^ d)) (okW_part hok 1 (2 ^ d))
  rw [← hzs] at hall hnat
  have hlen : zs.length = 2 ^ d := by rw [hzs]; simp; omega
  have hall' := List.all_eq_true.1 hall
  have he : entsDw d ws = zs.map entU := by rw [hzs]; rfl
  have hel : (entsDw d ws).length = 2 ^ d := by rw [he, List.length_map, hlen]
  have hw0 := (wd_nat hok 0).1
  rw [← hd] at hw0
  refine ⟨hd5, ?_, ?_, ?_, hel⟩
  · simp only [okD, Bool.and_eq_true, decide_eq_true_eq, List.all_eq_true, Int.toNat_natCast]
    refine ⟨⟨⟨by omega, by omega⟩, hel⟩, fun p hp => ?_⟩
    rw [he] at hp
    obtain ⟨z, hz, rfl⟩ := List.mem_map.1 hp
    exact (unpack_there (hall' z hz)).1
  · rw [dwords_form, hel, he, List.map_map]
    have e1 : zs.map (packI ∘ entU) = (ws.drop 1).take (2 ^ d) := by
      rw [hnat.1]
      refine List.map_congr_left fun z hz => ?_
      exact congrArg Int.ofNat (unpack_there (hall' z hz)).2.1
    have hz2 := zero_list (ws.drop (1 + 2 ^ d)) (fun z hm => hok z (List.mem_of_mem_drop hm)) hz
    have hzl : (ws.drop (1 + 2 ^ d)).length = 39 - 2 ^ d := by simp [hl]; omega
    rw [hzl, ← List.drop_drop] at hz2
    rw [e1, ← hz2, List.take_append_drop]
    match ws, hl, hw0 with
    | a0 :: rest, _, hw0 =>
      show ((d : Nat) : Int) :: rest = a0 :: rest
      rw [← hw0]
      rfl
  · intro p hp
    rw [he] at hp
    obtain ⟨z, hz, rfl⟩ := List.mem_map.1 hp
    exact (unpack_there (hall' z hz)).2.2
end Go.Proofs
