/- Monitor: who holds an entry, told. -/
import Derived.Test.YtkghlcoancfnfaaBq
namespace Go.Proofs
set_option maxRecDepth 100000
open Go.RowKit Go.Shelf
attribute [local go_sem] Oper.semAt_some

/-- Who has an entry. -/
def holdF (o : Nat) : List (List Pr) → Pr → List Int
  | [], _ => []
  | l :: L, e => if e ∈ l then ((o : Nat) : Int) :: holdF (o + 1) L e else holdF (o + 1) L e
def holders (L : List (List Pr)) (e : Pr) : List Int := holdF 0 L e
theorem holdF_snoc (e : Pr) : ∀ (L : List (List Pr)) (o : Nat) (l : List Pr), holdF o (L ++ [l]) e = holdF o L e ++ (if e ∈ l then [((o + L.length : Nat) : Int)] else [])
  | [], o, l => by simp [holdF]
  | x :: L, o, l => by
    have ih := holdF_snoc e L (o + 1) l
    simp only [List.cons_append, holdF, List.length_cons]
    rw [ih, show o + 1 + L.length = o + (L.length + 1) by omega]
    by_cases h : e ∈ x <;> simp [h]
theorem holders_take (L : List (List Pr)) (e : Pr) (k : Nat) (h : k < L.length) : holders (L.take (k + 1)) e = holders (L.take k) e ++ (if e ∈ L[k] then [((k : Nat) : Int)] else []) := by
  unfold holders
  rw [List.take_succ_eq_append_getElem h, holdF_snoc, List.length_take, Nat.min_eq_left (by omega), Nat.zero_add]
theorem holdF_pre (e : Pr) : ∀ (L M : List (List Pr)) (o : Nat), holdF o L e <+: holdF o (L ++ M) e
  | [], M, o => by simp [holdF]
  | x :: L, M, o => by
    have ih := holdF_pre e L M (o + 1)
    simp only [List.cons_append, holdF]
    split
    · exact List.cons_prefix_cons.2 ⟨rfl, ih⟩
    · exact ih
theorem holders_pre (L : List (List Pr)) (e : Pr) (k : Nat) : holders (L.take k) e <+: holders L e := by
  have h := holdF_pre e (L.take k) (L.drop k) 0
  rwa [List.take_append_drop] at h
theorem holdF_le (e : Pr) : ∀ (L : List (List Pr)) (o : Nat), (holdF o L e).length ≤ L.length
  | [], _ => Nat.le_refl _
  | x :: L, o => by
    have ih := holdF_le e L (o + 1)
    unfold holdF
    split <;> simp <;> omega
def encI (y : Int) : Array Value := #[.int .i64 y]
/-- What is told of: a view in a box, an entry in another one. -/
def SrcM (Bv Be : Nat) (x : Mv) (m : Mn) (e : Pr) (W : World) : Prop := Rows8 W Bv 79 #[.slice x.sa x.sn x.sc, .slice x.pa x.pn x.pc, .slice x.ha x.hn x.hc, .slice x.ba x.bn x.bc] ∧ Rows8 W Be 38 #[.int .i64 e.1, .int .u64 (e.2 : Nat)] ∧ MonAt W x m
theorem SrcM.below {Bv Be : Nat} {x : Mv} {m : Mn} {e : Pr} {A B : World} (s : SrcM Bv Be x m e A) (p : Below A.heap.size A B) : SrcM Bv Be x m e B :=
  ⟨s.1.below p s.1.lt, s.2.1.below p s.2.1.lt, s.2.2.below p⟩
set_option maxHeartbeats 4000000 in
theorem Try.holders1_tells (d : Nat) (hd : 1 ≤ d) (Kp : World → World → Prop) (Bv Be : Nat) (x : Mv) (m : Mn) (e : Pr) (w : World) (S9 : World → Prop) (h0 : S9 w) (h9 : ∀ A, S9 A → SrcM Bv Be x m e A)
    (hb9 : ∀ A B, S9 A → Below A.heap.size A B → S9 B) (hS : ∀ A B, Kp A B → S9 A → S9 B) :
    TellsD Fence.wide d Try.prog 69 #[.pointer (some ⟨Bv, 0, none⟩), .pointer (some ⟨Be, 0, none⟩)] encI Kp (fun xs => xs = holders m.has e) (fun pre => pre <+: holders m.has e) (fun pre x => pre ++ [x] <+: holders m.has e) w := fun lp J Jx W hW hJ hJx hY hj0 => by
  refine callsIn_of_wp Try.func69 rfl trivial ?_ rfl
  simp only [Try.ntmps69, List.size_toArray, List.length_cons, List.length_nil, Nat.reduceAdd, Nat.reduceSub, Array.replicate_succ, Array.replicate_zero, List.push_toArray, List.append_toArray, List.nil_append, List.cons_append]
  have hn := (h9 _ h0).2.2.lens.2.2.1
  have hz := (h9 _ h0).2.2.z.2.2.1
  have s0 := hb9 _ _ h0 hW
  have c0 : W.cell? ⟨Bv, 2, none⟩ = some (.slice x.ha x.hn x.hc) := (h9 _ s0).1.cell 2
  obtain ⟨e0, e1⟩ := e
  obtain ⟨n, hnn⟩ : ∃ n, n = x.hn := ⟨_, rfl⟩
  rw [← hnn] at hn
  have H9 := Lib.hid h9
  have HB9 := Lib.hid hb9
  have HY := Lib.hid hY
  have HJ := Lib.hid hJ
  have HS := Lib.hid hS
  have H0 := Lib.hid s0
  have HN := Lib.hid hn
  have HNN := Lib.hid hnn
  have hreach : x.hn ≤ 10000 := by omega
  clear hY hJ hS h0 s0 hJx hn h9 hb9 hz hnn
  gi_wp2_with fail
  gi_loopw [9] (fun i wr => ∃ k : Nat, k ≤ x.hn ∧ i = .int .i64 k ∧ J (holders (m.has.take k) (e0, e1)) wr ∧ Hid (S9 wr)) (fun i _ => x.hn - (intOf i).toNat)
  case atStart => exact ⟨0, Nat.zero_le _, rfl, hj0, H0⟩
  case round =>
    obtain ⟨k, hk, rfl, hJs, hs⟩ := hrel
    by_cases hlt : k < x.hn
    · have hkl : k < m.has.length := by have := HN.out; have := HNN.out; omega
      have hss := H9.out _ hs.out
      have c0 : wr.cell? ⟨Bv, 0, none⟩ = some (.slice x.sa x.sn x.sc) := hss.1.cell 0
      have c1 : wr.cell? ⟨Bv, 1, none⟩ = some (.slice x.pa x.pn x.pc) := hss.1.cell 1
      have c2 : wr.cell? ⟨Bv, 2, none⟩ = some (.slice x.ha x.hn x.hc) := hss.1.cell 2
      have c3 : wr.cell? ⟨Bv, 3, none⟩ = some (.slice x.ba x.bn x.bc) := hss.1.cell 3
      have ce0 : wr.cell? ⟨Be, 0, none⟩ = some (.int .i64 e0) := hss.2.1.cell 0
      have ce1 : wr.cell? ⟨Be, 1, none⟩ = some (.int .u64 (e1 : Nat)) := hss.2.1.cell 1
      have het := holders_take m.has (e0, e1) k hkl
      have hpre := holders_pre m.has (e0, e1) (k + 1)
      have hki : (k : Int) < ((x.hn : Nat) : Int) := by omega
      have HH := Lib.hid (Try.has_any x m k (e0, e1) wr hss.2.2 hkl)
      have hzh : hasM m ((k : Nat) : Int) (e0, e1) = decide ((e0, e1) ∈ m.has[k]) := by unfold hasM; rw [Int.toNat_natCast, List.getElem?_eq_getElem hkl]; rfl
      rw [hzh] at HH
      obtain ⟨row, hrow⟩ : ∃ r, r = m.has[k] := ⟨_, rfl⟩
      rw [← hrow] at HH het
      dsimp only at HH
      have HET := Lib.hid het
      have HPRE := Lib.hid hpre
      clear hss het hpre hzh hrow hkl
      gi_wp2_with fail
      refine ⟨trivial, ?_⟩
      refine (callsIn_wide.2 HH.out).mono ?_
      rintro r W2 ⟨rfl, hB2⟩
      have hJ2 := HJ.out _ _ _ hJs hB2
      have hs2 := Lib.hid (HB9.out _ _ hs.out hB2)
      clear hB2 hJs hs HH c0 c1 c2 c3 ce0 ce1
      by_cases hin : (e0, e1) ∈ row
      · have hd : decide ((e0, e1) ∈ row) = true := decide_eq_true hin
        rw [hd]
        have het := HET.out
        rw [if_pos hin] at het
        have hpre := HPRE.out
        rw [het] at hpre
        obtain ⟨fn, tmps, assign, body, hy, hR⟩ := HY.out _ ((k : Nat) : Int) _ hJ2 hpre
        unfold encI at hy
        have HET2 := Lib.hid het
        have HP := Lib.hid hpre
        clear hd hin het hpre hJ2 HET HPRE
        gi_wp2_with fail
        refine hR.mono ?_
        rintro e W3 (⟨rfl, hJ3, _, hk3⟩ | ⟨rfl, hJx3, _⟩)
        · have hs3 := Lib.hid (HS.out _ _ hk3 hs2.out)
          have HJ3 := Lib.hid hJ3
          clear hk3 hJ3
          gi_wp2_with fail
          go_roundw
          case rel => exact ⟨k + 1, by omega, by go_num, by rw [HET2.out]; exact HJ3.out, hs3⟩
          case measure => simp [intOf]; omega
        · have HJ3 := Lib.hid hJx3
          clear hJx3
          gi_wp2_with fail
          refine bodyPost_ret (results_none rfl _ _ _) rfl ?_
          exact ⟨⟨_, rfl⟩, .inr ⟨_, HP.out, HJ3.out⟩⟩
      · have hd : decide ((e0, e1) ∈ row) = false := decide_eq_false hin
        rw [hd]
        have het := HET.out
        rw [if_neg hin, List.append_nil] at het
        have HET2 := Lib.hid het
        have HJ3 := Lib.hid hJ2
        clear hd hin het hJ2 HET HPRE
        gi_wp2_with fail
        refine ⟨fun _ h => (by cases h), ?_⟩
        gi_wp2_with fail
        go_roundw
        case rel => exact ⟨k + 1, by omega, by go_num, by rw [HET2.out]; exact HJ3.out, hs2⟩
        case measure => simp [intOf]; omega
    · obtain rfl : k = x.hn := by omega
      have hfin : m.has.take x.hn = m.has := List.take_of_length_le (by have := HN.out; have := HNN.out; omega)
      rw [hfin] at hJs
      have HJ3 := Lib.hid hJs
      clear hJs hfin
      gi_wp2_with fail
      go_end0
      exact ⟨⟨_, rfl⟩, .inl ⟨_, rfl, HJ3.out⟩⟩
end Go.Proofs
