/- Layout: entries of words, told. -/
import Derived.Test.YtkddfihfilhhdaaWu
import Derived.Test.YtkddfihfilhhdaaGu
namespace Go.Proofs
set_option maxRecDepth 100000
open Go.RowKit Go.Shelf
attribute [local go_sem] Oper.semAt_some

def encP (y : Pr) : Array Value := #[.agg #[.int .i64 y.1, .int .u64 (y.2 : Nat)]]
/-- The entry of a word. -/
def entU (z : Nat) : Pr := (((z % 65536 : Nat) : Int) - 1, z / 65536)
/-- What is told of: a row, from a place on, so many. -/
structure SrcY (b1 b2 b3 B off n c k m : Nat) (q : Int) (ws : List Int) (W : World) : Prop where
  row : Rows8 W b1 110 #[.slice (some ⟨B, off, none⟩) n c, .int .i64 q]
  at_ : Rows8 W b2 3 #[.int .i64 (k : Nat)]
  many : Rows8 W b3 3 #[.int .i64 (m : Nat)]
  words : WordsAt W (.slice (some ⟨B, off, none⟩) n c) ws
theorem SrcY.below {b1 b2 b3 B off n c k m : Nat} {q : Int} {ws : List Int} {A W : World} (s : SrcY b1 b2 b3 B off n c k m q ws A) (p : Below A.heap.size A W) : SrcY b1 b2 b3 B off n c k m q ws W :=
  ⟨s.row.below p s.row.lt, s.at_.below p s.at_.lt, s.many.below p s.many.lt, RowAt.below s.words p⟩
theorem okU_next (zs : List Nat) (k : Nat) (h : k < zs.length) (hx : (zs.take k).all okU = true) (hy : okU zs[k] = true) : (zs.take (k + 1)).all okU = true := by
  rw [take_snoc zs k h, List.all_append, hx]
  simp [hy]
theorem okU_no (zs : List Nat) (k : Nat) (h : k < zs.length) (hy : okU zs[k] = false) : zs.all okU = false := by
  rw [List.all_eq_false]
  exact ⟨zs[k], List.getElem_mem h, by simp [hy]⟩
theorem ent_pre (zs : List Nat) (k : Nat) (h : k < zs.length) : (zs.take k).map entU ++ [entU zs[k]] <+: zs.map entU := by
  refine ⟨(zs.drop (k + 1)).map entU, ?_⟩
  rw [← List.map_singleton, ← List.map_append, ← List.map_append, ← take_snoc zs k h, List.take_append_drop]
set_option maxHeartbeats 2000000 in
theorem Try.entries1_tells (d : Nat) (hd : 1 ≤ d) (Kp : World → World → Prop) (rb b1 b2 b3 B off n c k m : Nat) (q : Int) (ws : List Int) (zs : List Nat) (hzs : (ws.drop k).take m = zs.map (fun z : Nat => (z : Int))) (hz64 : ∀ z ∈ zs, z < 18446744073709551616) (hkm : k + m ≤ n) (hm0 : 0 < m) (hm : m ≤ 64) (w : World) (S9 : World → Prop) (h0 : S9 w) (h9 : ∀ A, S9 A → SrcY b1 b2 b3 B off n c k m q ws A)
    (hb9 : ∀ A B, S9 A → Below A.heap.size A B → S9 B) (hS : ∀ A B, Kp A B → S9 A → S9 B) :
    TellsP Fence.wide d Try.prog 89 #[.pointer (some ⟨b1, 0, none⟩), .pointer (some ⟨b2, 0, none⟩), .pointer (some ⟨b3, 0, none⟩)] encP Kp rb (fun xs _ => xs = zs.map entU ∧ zs.all okU = true) (panicA q) (fun _ => zs.all okU = false) (fun pre x => pre ++ [x] <+: zs.map entU) w := fun lp J W hW hJ hY hj0 => by
  refine callsIn_of_wp Try.func89 rfl trivial ?_ rfl
  simp only [Try.ntmps89, List.size_toArray, List.length_cons, List.length_nil, Nat.reduceAdd, Nat.reduceSub, Array.replicate_succ, Array.replicate_zero, List.push_toArray, List.append_toArray, List.nil_append, List.cons_append]
  have s0 := hb9 _ _ h0 hW
  obtain ⟨hn1, hn2, hn3⟩ := words_len (h9 _ s0).words
  have HZL : Hid (m = zs.length) := Lib.hid (by
    have h1 := congrArg List.length hzs
    simp at h1
    omega)
  have c0 : W.cell? ⟨b1, 0, none⟩ = some (.slice (some ⟨B, off, none⟩) n c) := (h9 _ s0).row.cell 0
  have c1 : W.cell? ⟨b1, 1, none⟩ = some (.int .i64 q) := (h9 _ s0).row.cell 1
  have c2 : W.cell? ⟨b2, 0, none⟩ = some (.int .i64 (k : Nat)) := (h9 _ s0).at_.cell 0
  have c3 : W.cell? ⟨b3, 0, none⟩ = some (.int .i64 (m : Nat)) := (h9 _ s0).many.cell 0
  have HQ := Lib.hid (Try.cut_any B off n c k m q hkm hn2 hn3 hm0 W)
  have H9 := Lib.hid h9
  have HB9 := Lib.hid hb9
  have HY := Lib.hid hY
  have HJ := Lib.hid hJ
  have HS := Lib.hid hS
  have H0 := Lib.hid s0
  have HJ0 := Lib.hid hj0
  have HZS := Lib.hid hzs
  have HZ64 := Lib.hid hz64
  have HKM := Lib.hid hkm
  have hreach : m ≤ 64 := hm
  clear hY hJ hS h0 s0 h9 hb9 hj0 hzs hz64 hkm hm hm0 hn1 hn2 hn3
  gi_wp2_with fail
  refine ⟨trivial, ?_⟩
  refine (callsIn_wide.2 HQ.out).mono ?_
  rintro e W1 ⟨rfl, hC⟩
  have H0 := Lib.hid (HB9.out _ _ H0.out hC)
  have HJ0 := Lib.hid (HJ.out _ _ _ HJ0.out (But.of_below hC))
  clear hC HQ c0 c1 c2 c3
  gi_wp2_with fail
  gi_loopw [6, 12] (fun _ i wr => ∃ j : Nat, j ≤ m ∧ i = .int .i64 j ∧ J ((zs.take j).map entU) wr ∧ Hid ((zs.take j).all okU = true) ∧ Hid (S9 wr)) (fun _ i _ => m - (intOf i).toNat)
  case atStart => exact ⟨0, Nat.zero_le _, rfl, HJ0.out, Lib.hid rfl, H0⟩
  case round =>
    obtain ⟨j, hj, rfl, hJs, hx, hs⟩ := hrel
    by_cases hlt : j < m
    · have hjl : j < zs.length := by have := HZL.out; omega
      have e0 := wd_cell (words_part (H9.out _ hs.out).words k m HKM.out) j hlt
      rw [HZS.out] at e0
      have ez : wd (zs.map (fun z : Nat => (z : Int))) j = ((zs[j] : Nat) : Int) := by simp [wd, hjl]
      rw [ez] at e0
      have hz9 := HZ64.out zs[j] (List.getElem_mem hjl)
      have HNX := Lib.hid (fun hy => okU_next zs j hjl hx.out hy)
      have HNO := Lib.hid (okU_no zs j hjl)
      have HPR := Lib.hid (ent_pre zs j hjl)
      have HTK := Lib.hid (show (zs.take j).map entU ++ [entU zs[j]] = (zs.take (j + 1)).map entU by rw [take_snoc zs j hjl, List.map_append]; rfl)
      generalize zs[j] = z at *
      have c1 : wr.cell? ⟨b1, 1, none⟩ = some (.int .i64 q) := (H9.out _ hs.out).row.cell 1
      have HC := Lib.hid (Try.unpacked_any z hz9 q wr)
      have HJs := Lib.hid hJs
      have hji : (j : Int) < (m : Int) := by omega
      clear ez hz9 hJs hx hjl
      gi_wp2_with fail
      refine ⟨trivial, ?_⟩
      refine (callsIn_wide.2 HC.out).mono ?_
      rintro e W2 ⟨hC, ⟨x, y, rfl, hx9, hy9, hok⟩ | ⟨q', rfl, rfl, hok⟩⟩
      · have hJ2 := HJ.out _ _ _ HJs.out (But.of_below hC)
        have hs2 := Lib.hid (HB9.out _ _ hs.out hC)
        obtain ⟨fn, tmps, assign, body, hy, hRR⟩ := HY.out _ (entU z) _ hJ2 HPR.out
        unfold encP entU at hy
        dsimp only at hy
        rw [← hx9, ← hy9] at hy
        have HX := Lib.hid (HNX.out hok)
        clear hJ2 hC HC c1 e0 hok hx9 hy9
        gi_wp2_with fail
        refine hRR.mono ?_
        rintro e W3 ⟨rfl, hJ3, _, hk3⟩
        have hs3 := Lib.hid (HS.out _ _ hk3 hs2.out)
        have HJ3 := Lib.hid hJ3
        clear hk3 hJ3
        gi_wp2_with fail
        go_roundw
        case rel => exact ⟨j + 1, by omega, by go_num, by rw [← HTK.out]; exact HJ3.out, HX, hs3⟩
        case measure => simp [intOf]; omega
      · have HJ2 := Lib.hid (HJ.out _ _ _ HJs.out (But.of_below hC))
        have HN := Lib.hid (HNO.out hok)
        clear hC HC c1 e0 hok
        unfold panicA
        gi_wp2_with fail
        exact ⟨(by first | rfl | trivial), .inr ⟨rfl, _, HN.out, HJ2.out⟩⟩
    · obtain rfl : j = m := by omega
      have hfin : zs.take j = zs := List.take_of_length_le (by have := HZL.out; omega)
      rw [hfin] at hJs hx
      have HJ3 := Lib.hid hJs
      have HX := Lib.hid hx.out
      clear hJs hx
      gi_wp2_with fail
      go_end0
      exact .inl ⟨⟨_, rfl⟩, _, ⟨rfl, HX.out⟩, HJ3.out⟩
end Go.Proofs
