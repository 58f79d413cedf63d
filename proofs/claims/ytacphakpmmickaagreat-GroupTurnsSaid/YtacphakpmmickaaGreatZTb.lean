/- Group: lanes of a mask, told. -/
import Derived.Test.YtacphakpmmickaaGreatZJm
import Derived.Test.YtacphakpmmickaaGreatZKa
import Derived.Test.YtacphakpmmickaaGreatZI
namespace Go.Proofs
set_option maxRecDepth 100000
open Go.RowKit Go.Shelf
attribute [local go_sem] Oper.semAt_some

/-- A slice in a box, and its row. -/
def Src (n₀ Bs : Nat) (v : Value) (xs : List (Fin 8)) (W : World) : Prop := Rows8 W Bs 46 #[v] ∧ OwnsLanes n₀ xs v W
theorem OwnsLanes.below {n₀ h : Nat} {xs : List (Fin 8)} {v : Value} {A B : World} (o : OwnsLanes n₀ xs v A) (hB : Below h A B) (hh : A.heap.size ≤ h) : OwnsLanes n₀ xs v B :=
by
  refine ⟨⟨o.1.1, ?_⟩, o.2⟩
  rcases o.1.2 with h | ⟨g, cap, cur, h1, h2, h3, h4⟩
  · exact .inl h
  · exact .inr ⟨g, cap, cur, h1, h2, (hB.block g (by have := (Array.getElem?_eq_some_iff.1 h3).1; omega)).trans h3, h4⟩
theorem Src.below {n₀ Bs h : Nat} {v : Value} {xs : List (Fin 8)} {A B : World} (o : Src n₀ Bs v xs A) (hB : Below h A B) (hh : A.heap.size ≤ h) : Src n₀ Bs v xs B :=
  ⟨o.1.below hB (by have := o.1.lt; omega), o.2.below hB hh⟩
theorem OwnsLanes.kx {x n₀ : Nat} {xs : List (Fin 8)} {v : Value} {A B : World} (o : OwnsLanes n₀ xs v A) (p : Kx x A B) (hx : x < n₀) : OwnsLanes n₀ xs v B := by
  refine ⟨⟨o.1.1, ?_⟩, o.2⟩
  rcases o.1.2 with h | ⟨g, cap, cur, h1, h2, h3, h4⟩
  · exact .inl h
  · exact .inr ⟨g, cap, cur, h1, h2, p.same g _ h3 rfl (by omega), h4⟩
theorem Src.kx {x n₀ Bs : Nat} {v : Value} {xs : List (Fin 8)} {A B : World} (o : Src n₀ Bs v xs A) (p : Kx x A B) (hx : x < n₀) (hB : x ≠ Bs) : Src n₀ Bs v xs B :=
  ⟨p.same Bs _ o.1 rfl (by omega), o.2.kx p hx⟩
theorem OwnsLanes.kq {T : TypeId → Bool} {n₀ : Nat} {xs : List (Fin 8)} {v : Value} {A B : World} (o : OwnsLanes n₀ xs v A) (p : Kq T A B) (hx : T 3 = false) : OwnsLanes n₀ xs v B := by
  refine ⟨⟨o.1.1, ?_⟩, o.2⟩
  rcases o.1.2 with h | ⟨g, cap, cur, h1, h2, h3, h4⟩
  · exact .inl h
  · exact .inr ⟨g, cap, cur, h1, h2, p.same g _ _ _ h3 hx, h4⟩
theorem Src.kq {T : TypeId → Bool} {n₀ Bs : Nat} {v : Value} {xs : List (Fin 8)} {A B : World} (o : Src n₀ Bs v xs A) (p : Kq T A B) (hx : T 3 = false) (hy : T 46 = false) : Src n₀ Bs v xs B :=
  ⟨p.rows o.1 hy, o.2.kq p hx⟩

def enc1 (y : Fin 8) : Array Value := #[.int .i64 (y : Nat)]
set_option maxRecDepth 100000 in
set_option maxHeartbeats 2000000 in
theorem Tryz.values1_tells (d : Nat) (hd : 1 ≤ d) (Kp : World → World → Prop) (n₀ Bs n cap : Nat) (a : Option Addr) (xs : List (Fin 8)) (hn : Hid (n = xs.length)) (hx : xs.length ≤ 8) (w : World) (h0 : Src n₀ Bs (.slice a n cap) xs w)
    (hS : ∀ A B, Kp A B → Src n₀ Bs (.slice a n cap) xs A → Src n₀ Bs (.slice a n cap) xs B) :
    TellsD Fence.wide d Tryz.prog 99 #[.pointer (some ⟨Bs, 0, none⟩)] enc1 Kp (fun ys => ys = xs) (fun pre => pre <+: xs) (fun pre y => pre ++ [y] <+: xs) w := fun lp J Jx W hW hJ hJx hY hj0 => by
  refine callsIn_of_wp Tryz.func99 rfl trivial ?_ rfl
  simp only [Tryz.ntmps99, List.size_toArray, List.length_cons, List.length_nil, Nat.reduceAdd, Nat.reduceSub, Array.replicate_succ, Array.replicate_zero, List.push_toArray, List.append_toArray, List.nil_append, List.cons_append]
  have s0 := h0.below hW (Nat.le_refl _)
  have c0 : W.cell? ⟨Bs, 0, none⟩ = some (.slice a n cap) := s0.1.cell 0
  have HY := Lib.hid hY
  have HS := Lib.hid hS
  have H0 := Lib.hid s0
  have hreach : n * 8 ≤ 140737488351232 := by have := hn.out; omega
  clear hY hS h0 s0 hJ hJx
  gi_wp2
  gi_loopw [7] (fun i wr => ∃ k : Nat, k ≤ n ∧ i = .int .i64 k ∧ J (xs.take k) wr ∧ Hid (Src n₀ Bs (.slice a n cap) xs wr)) (fun i _ => n - (intOf i).toNat)
  case atStart => exact ⟨0, Nat.zero_le _, rfl, hj0, H0⟩
  case round =>
    obtain ⟨k, hk, rfl, hJs, hs⟩ := hrel
    by_cases hlt : k < n
    · have hlt' : k < xs.length := by have := hn.out; omega
      obtain ⟨b, off, cap', ea, hb, hcs⟩ : ∃ b off cap', a = some ⟨b, off, none⟩ ∧ cap = cap' ∧ wr.cell? ⟨b, off + k, none⟩ = some (.int .i64 ((xs[k] : Nat) : Int)) := by
        rcases (owns_intsAt hs.out.2).2 with ⟨e, hz⟩ | ⟨b, off, cap', e, hb, hcs⟩
        · have : xs.length = 0 := by simpa [lanesInt] using hz
          omega
        · injection e with e1 e2 e3
          refine ⟨b, off, cap', e1, e3, ?_⟩
          have h1 := hcs k (by simpa [lanesInt] using hlt')
          rw [lanesInt_get xs k hlt'] at h1
          exact h1
      subst ea
      have ht := take_next xs k hlt'
      obtain ⟨fn, tmps, assign, body, hy, hR⟩ := HY.out _ xs[k] wr hJs (by rw [← ht]; exact List.take_prefix _ _)
      unfold enc1 at hy
      generalize xs[k] = y at *
      have HT := Lib.hid ht
      clear ht hb hlt'
      gi_wp2
      refine hR.mono ?_
      rintro e W3 (⟨rfl, hJ3, _, hk3⟩ | ⟨rfl, hJx3, _⟩)
      · have hs3 := Lib.hid (HS.out _ _ hk3 hs.out)
        clear hk3
        gi_wp2
        go_roundw
        case rel => exact ⟨k + 1, by omega, by simp, by rw [HT.out]; exact hJ3, hs3⟩
        case measure => simp [intOf]; omega
      · gi_wp2
        refine bodyPost_ret (results_none rfl _ _ _) rfl ?_
        exact ⟨⟨_, rfl⟩, .inr ⟨_, List.take_prefix (k + 1) xs, by rw [HT.out]; exact hJx3⟩⟩
    · obtain rfl : k = n := by omega
      gi_wp2
      go_end0
      exact ⟨⟨_, rfl⟩, .inl ⟨_, rfl, by rw [List.take_of_length_le (by have := hn.out; omega)] at hJs; exact hJs⟩⟩

/-- What tells the lanes of a mask. -/
def InQ (l : List (Fin 8)) (w : World) (e : Ending) (w' : World) : Prop :=
  ∃ Bs n cap a, e = .returned (.func (.func 99) #[] #[.pointer (some ⟨Bs, 0, none⟩)]) ∧ n = l.length ∧ w.heap.size ≤ Bs ∧ Src w.heap.size Bs (.slice a n cap) l w' ∧ Below w.heap.size w w'
theorem Tryz.gin_any (m : Nat) (hm : m < 256) (w : World) : Calls Tryz.prog 63 #[.int .u8 m] w (InQ (lanesOf m) w) := by
  have HA := Lib.hid (Tryz.All_any m hm w)
  go_enter Tryz.func63, Tryz.ntmps63
  go_wp2_with fail
  go_at_call 32
  refine HA.out.mono ?_
  rintro e w1 ⟨v, rfl, hO, hB⟩
  obtain ⟨⟨a, cap, rfl⟩, _⟩ := owns_intsAt hO
  have HO := Lib.hid hO
  have HB := Lib.hid hB
  have HS := Lib.hid hB.size
  clear hO hB
  obtain ⟨n, hn⟩ : ∃ n, n = (lanesOf m).length := ⟨_, rfl⟩
  rw [← hn] at HO ⊢
  have HN := Lib.hid hn
  clear hn
  go_wp2_with fail
  go_at_call 82
  refine (Tryz.values_any _ _ _ _).mono ?_
  rintro e w2 ⟨rfl, rfl⟩
  go_wp2_with fail
  go_ret
  exact ⟨_, n, cap, a, rfl, HN.out, HS.out, ⟨Rows8.new _ _ _, HO.out.below ((Below.refl _ _).alloc (Nat.le_refl _) _) (Nat.le_refl _)⟩, HB.out.alloc HS.out _⟩
end Go.Proofs
