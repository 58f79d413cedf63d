/- Arena: the entries of a tag, told. -/
import Derived.Test.YtmcancccihffhaaAf
namespace Go.Proofs
set_option maxRecDepth 100000
open Go.RowKit Go.Shelf
attribute [local go_sem] Oper.semAt_some

def encP (y : Pr) : Array Value := #[.agg #[.int .i64 y.1, .int .u64 (y.2 : Nat)]]
/-- What is told of: a view in a box, a tag in another one. -/
def SrcA (Bv Bt : Nat) (v : Value) (l : List Pr) (t : Int) (W : World) : Prop := Rows8 W Bv 54 #[v] ∧ Rows8 W Bt 3 #[.int .i64 t] ∧ PAt W v l
theorem SrcA.below {Bv Bt : Nat} {v : Value} {l : List Pr} {t : Int} {A B : World} (s : SrcA Bv Bt v l t A) (p : Below A.heap.size A B) : SrcA Bv Bt v l t B :=
  ⟨s.1.below p s.1.lt, s.2.1.below p s.2.1.lt, PAt.below s.2.2 p⟩
set_option maxRecDepth 100000 in
set_option maxHeartbeats 2000000 in
theorem Try.of1_tells (d : Nat) (hd : 1 ≤ d) (Kp : World → World → Prop) (Bv Bt n cap : Nat) (a : Option Addr) (l : List Pr) (t : Int) (hl : l.length ≤ 10000) (w : World) (S9 : World → Prop) (h0 : S9 w) (h9 : ∀ A, S9 A → SrcA Bv Bt (.slice a n cap) l t A)
    (hb9 : ∀ A B, S9 A → Below A.heap.size A B → S9 B) (hS : ∀ A B, Kp A B → S9 A → S9 B) :
    TellsD Fence.wide d Try.prog 34 #[.pointer (some ⟨Bv, 0, none⟩), .pointer (some ⟨Bt, 0, none⟩)] encP Kp (fun xs => xs = ents l t) (fun pre => pre <+: ents l t) (fun pre x => pre ++ [x] <+: ents l t) w := fun lp J Jx W hW hJ hJx hY hj0 => by
  refine callsIn_of_wp Try.func34 rfl trivial ?_ rfl
  simp only [Try.ntmps34, List.size_toArray, List.length_cons, List.length_nil, Nat.reduceAdd, Nat.reduceSub, Array.replicate_succ, Array.replicate_zero, List.push_toArray, List.append_toArray, List.nil_append, List.cons_append]
  have hn := (pAt_len (h9 _ h0).2.2).1
  have s0 := hb9 _ _ h0 hW
  have c0 : W.cell? ⟨Bv, 0, none⟩ = some (.slice a n cap) := (h9 _ s0).1.cell 0
  have H9 := Lib.hid h9
  have HB9 := Lib.hid hb9
  have HY := Lib.hid hY
  have HJ := Lib.hid hJ
  have HS := Lib.hid hS
  have H0 := Lib.hid s0
  have HN := Lib.hid hn
  have hreach : n ≤ 10000 := by omega
  clear hY hJ hS h0 s0 hJx hn hl h9 hb9
  gi_wp2_with fail
  gi_loopw [10] (fun i wr => ∃ k : Nat, k ≤ n ∧ i = .int .i64 k ∧ J (ents (l.take k) t) wr ∧ Hid (S9 wr)) (fun i _ => n - (intOf i).toNat)
  case atStart => exact ⟨0, Nat.zero_le _, rfl, hj0, H0⟩
  case round =>
    obtain ⟨k, hk, rfl, hJs, hs⟩ := hrel
    by_cases hlt : k < n
    · have hkl : k < l.length := by have := HN.out; omega
      obtain ⟨b, off, rfl, hb, p0, p1⟩ := pAt_get (H9.out _ hs.out).2.2 k hkl
      have ct : wr.cell? ⟨Bt, 0, none⟩ = some (.int .i64 t) := (H9.out _ hs.out).2.1.cell 0
      have hBt := (H9.out _ hs.out).2.1.lt
      have het := ents_take l t k hkl
      have hpre := ents_pre l t (k + 1)
      rcases hq : l[k] with ⟨s, g⟩
      rw [hq] at p0 p1 het
      dsimp only at p0 p1 het
      have hki : (k : Int) < (n : Int) := by omega
      have hal : Below wr.heap.size wr (wr.alloc (.cells #[.int .i64 s, .int .u64 (g : Nat)] 52)) := Rows8.newB
      have hJ2 := HJ.out _ _ _ hJs hal
      have hs2 := Lib.hid (HB9.out _ _ hs.out hal)
      by_cases ht : s = t
      · subst ht
        rw [if_pos rfl] at het
        rw [het] at hpre
        have deq : (s == s) = true := by simp
        obtain ⟨fn, tmps, assign, body, hy, hR⟩ := HY.out _ ((k : Int), g) _ hJ2 hpre
        unfold encP at hy
        dsimp only at hy
        have HET := Lib.hid het
        have HP := Lib.hid hpre
        clear hq het hpre hal hJ2 hJs
        gi_wp2_with fail
        refine hR.mono ?_
        rintro e W3 (⟨rfl, hJ3, _, hk3⟩ | ⟨rfl, hJx3, _⟩)
        · have hs3 := Lib.hid (HS.out _ _ hk3 hs2.out)
          have HJ3 := Lib.hid hJ3
          clear hk3 hJ3
          gi_wp2_with fail
          go_roundw
          case rel => exact ⟨k + 1, by omega, by go_num, by rw [HET.out]; exact HJ3.out, hs3⟩
          case measure => simp [intOf]; omega
        · have HJ3 := Lib.hid hJx3
          clear hJx3
          gi_wp2_with fail
          refine bodyPost_ret (results_none rfl _ _ _) rfl ?_
          exact ⟨⟨_, rfl⟩, .inr ⟨_, HP.out, HJ3.out⟩⟩
      · rw [if_neg ht, List.append_nil] at het
        have dne : (s == t) = false := by simp [ht]
        have HET := Lib.hid het
        have HJ3 := Lib.hid hJ2
        clear hq het hpre hal hJ2 hJs ht
        gi_wp2_with fail
        refine ⟨fun _ h => (by cases h), ?_⟩
        gi_wp2_with fail
        go_roundw
        case rel => exact ⟨k + 1, by omega, by go_num, by rw [HET.out]; exact HJ3.out, hs2⟩
        case measure => simp [intOf]; omega
    · obtain rfl : k = n := by omega
      have hfin : l.take k = l := List.take_of_length_le (by have := HN.out; omega)
      rw [hfin] at hJs
      have HJ3 := Lib.hid hJs
      clear hJs hfin
      gi_wp2_with fail
      go_end0
      exact ⟨⟨_, rfl⟩, .inl ⟨_, rfl, HJ3.out⟩⟩

theorem tellsE_of {F : Fence} {n : Nat} {P : Program} {α : Type} {g : Nat} {lb : Array Value} {encs : α → Array Value} {Kp : World → World → Prop} {S Sp : List α → Prop} {Ok : List α → α → Prop} {w : World} (h : TellsD F n P g lb encs Kp S Sp Ok w) : TellsE F n P g lb encs Kp S Ok w :=
  fun l J W hW hJ hY h0 => (h l J (fun _ _ => False) W hW hJ (fun _ _ _ h _ => h) (fun pre x W1 hj ho => yield_mono (fun _ _ hh => .inl hh) (hY pre x W1 hj ho)) h0).mono fun e w' ⟨hv, hh⟩ => ⟨hv, hh.elim id fun ⟨_, _, hf⟩ => hf.elim⟩
/-- What lies beneath h, or is of no type that the rounds write, stays. -/
theorem SrcA.kt {Bv Bt : Nat} {v : Value} {l : List Pr} {t : Int} {t1 t2 : TypeId} {A B : World} (s : SrcA Bv Bt v l t A) (p : Kt A.heap.size t1 t2 A B) : SrcA Bv Bt v l t B := by
  refine ⟨p.same _ _ _ _ s.1 (.inl s.1.lt), p.same _ _ _ _ s.2.1 (.inl s.2.1.lt), ?_⟩
  obtain ⟨h0, a, cap, h1, h2, h3, h4, h5⟩ := s.2.2
  refine ⟨h0, a, cap, h1, h2, h3, h4, fun j hj => ?_⟩
  obtain ⟨b, off, e, hb, hc⟩ := h5 j hj
  rw [List.getElem?_eq_getElem hj] at hc
  exact ⟨b, off, e, Nat.lt_of_lt_of_le hb p.size, by rw [List.getElem?_eq_getElem hj]; exact p.cell (a := ⟨b, off + j, none⟩) hb hc⟩
/-- What tells them. -/
def OfQ (n₀ : Nat) (v : Value) (l : List Pr) (t : Int) (w : World) (e : Ending) (w' : World) : Prop :=
  ∃ Bv Bt, e = .returned (.func (.func 34) #[] #[.pointer (some ⟨Bv, 0, none⟩), .pointer (some ⟨Bt, 0, none⟩)]) ∧ n₀ ≤ Bv ∧ n₀ ≤ Bt ∧ SrcA Bv Bt v l t w' ∧ Below w.heap.size w w'
theorem Try.of_any (v : Value) (l : List Pr) (t : Int) (w : World) (hI : PAt w v l) : Calls Try.prog 22 #[.agg #[v], .int .i64 t] w (OfQ w.heap.size v l t w) := by
  obtain ⟨_, a, n, h9, _⟩ := id hI
  have hB0 : Below w.heap.size w ((w.alloc (.cells #[v] 54)).alloc (.cells #[.int .i64 t] 3)) := (Rows8.newB).alloc (by simp) _
  have h0 := (Rows8.new w 54 #[v]).alloc (.cells #[.int .i64 t] 3)
  have h1 := Rows8.new (w.alloc (.cells #[v] 54)) 3 #[.int .i64 t]
  rw [World.size_alloc] at h1
  have HS := Lib.hid (show SrcA w.heap.size (w.heap.size + 1) v l t _ from ⟨h0, h1, PAt.below hI hB0⟩)
  have HB := Lib.hid hB0
  have hmf : ∀ (fn : Fn) (first cap : Array Value) (w : World), (Instr.makeFunc fn first cap).run Try.prog w = .ok (.func fn first cap) w := fun _ _ _ _ => rfl
  subst h9
  clear hB0 h0 h1 hI
  go_enter Try.func22, Try.ntmps22
  go_wp2_with fail
  go_ret
  exact ⟨_, _, rfl, Nat.le_refl _, Nat.le_succ _, HS.out, HB.out⟩
end Go.Proofs
