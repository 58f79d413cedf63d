/- Pins: who pins which epoch, told. -/
import Derived.Test.YtdkpenfgeohddaaPb
namespace Go.Proofs
set_option maxRecDepth 100000
open Go.RowKit Go.Shelf
attribute [local go_sem] Oper.semAt_some

def pinF (o : Nat) : List Int → List (Int × Int)
  | [] => []
  | z :: t => if z = 0 then pinF (o + 1) t else ((o : Nat), z - 1) :: pinF (o + 1) t
def pinL (S : List Int) : List (Int × Int) := pinF 0 S
theorem pinF_snoc : ∀ (S : List Int) (o : Nat) (z : Int), pinF o (S ++ [z]) = pinF o S ++ (if z = 0 then [] else [(((o + S.length : Nat) : Int), z - 1)])
  | [], o, z => by simp [pinF]
  | x :: t, o, z => by
    have ih := pinF_snoc t (o + 1) z
    simp only [List.cons_append, pinF, List.length_cons]
    rw [ih, show o + 1 + t.length = o + (t.length + 1) by omega]
    by_cases h : x = 0 <;> simp [h]
theorem pinL_snoc (S : List Int) (z : Int) : pinL (S ++ [z]) = pinL S ++ (if z = 0 then [] else [((S.length : Int), z - 1)]) := by
  have h := pinF_snoc S 0 z
  rwa [Nat.zero_add] at h
theorem pinL_take (S : List Int) (k : Nat) (h : k < S.length) : pinL (S.take (k + 1)) = pinL (S.take k) ++ (if S[k]?.getD 0 = 0 then [] else [((k : Int), S[k]?.getD 0 - 1)]) := by
  rw [take_snoc S k h, pinL_snoc, List.length_take, Nat.min_eq_left (by omega)]
  simp [h]
theorem pinF_pre : ∀ (S T : List Int) (o : Nat), pinF o S <+: pinF o (S ++ T)
  | [], T, o => by simp [pinF]
  | x :: t, T, o => by
    have ih := pinF_pre t T (o + 1)
    simp only [List.cons_append, pinF]
    split
    · exact ih
    · exact List.cons_prefix_cons.2 ⟨rfl, ih⟩
theorem pinL_pre (S : List Int) (k : Nat) : pinL (S.take k) <+: pinL S := by
  have h := pinF_pre (S.take k) (S.drop k) 0
  rwa [List.take_append_drop] at h
theorem pinF_mem : ∀ (S : List Int) (o : Nat) (y : Int × Int), y ∈ pinF o S ↔ ∃ k : Nat, k < S.length ∧ y.1 = ((o + k : Nat) : Int) ∧ S[k]?.getD 0 ≠ 0 ∧ y.2 = S[k]?.getD 0 - 1
  | [], o, y => by simp [pinF]
  | x :: t, o, y => by
    have ih := pinF_mem t (o + 1) y
    have key : (∃ k : Nat, k < (x :: t).length ∧ y.1 = ((o + k : Nat) : Int) ∧ (x :: t)[k]?.getD 0 ≠ 0 ∧ y.2 = (x :: t)[k]?.getD 0 - 1) ↔ (x ≠ 0 ∧ y = (((o : Nat) : Int), x - 1)) ∨ (∃ k : Nat, k < t.length ∧ y.1 = ((o + 1 + k : Nat) : Int) ∧ t[k]?.getD 0 ≠ 0 ∧ y.2 = t[k]?.getD 0 - 1) := by
      constructor
      · rintro ⟨k, hk, h1, h2, h3⟩
        cases k with
        | zero => exact .inl ⟨by simpa using h2, Prod.ext (by simpa using h1) (by simpa using h3)⟩
        | succ k => exact .inr ⟨k, by simpa using hk, by rw [h1]; congr 1; omega, by simpa using h2, by simpa using h3⟩
      · rintro (⟨h1, rfl⟩ | ⟨k, hk, h1, h2, h3⟩)
        · exact ⟨0, by simp, by simp, by simpa using h1, by simp⟩
        · exact ⟨k + 1, by simpa using hk, by rw [h1]; congr 1; omega, by simpa using h2, by simpa using h3⟩
    rw [key]
    unfold pinF
    by_cases hx : x = 0
    · rw [if_pos hx, ih]
      simp [hx]
    · rw [if_neg hx, List.mem_cons, ih]
      simp [hx]
theorem pinL_mem (S : List Int) (y : Int × Int) : y ∈ pinL S ↔ ∃ k : Nat, k < S.length ∧ y.1 = (k : Int) ∧ S[k]?.getD 0 ≠ 0 ∧ y.2 = S[k]?.getD 0 - 1 := by
  have h := pinF_mem S 0 y
  simpa [pinL] using h
def encY (y : Int × Int) : Array Value := #[.int .i64 y.1, .int .u64 y.2]
/-- What is told of: a view in a box. -/
def SrcP (B : Nat) (E : Int) (a : Option Addr) (n c : Nat) (S : List Int) (W : World) : Prop := Rows8 W B 57 #[.int .u64 E, .slice a n c] ∧ WordsAt W (.slice a n c) S
theorem SrcP.below {B : Nat} {E : Int} {a : Option Addr} {n c : Nat} {S : List Int} {X Y : World} (s : SrcP B E a n c S X) (p : Below X.heap.size X Y) : SrcP B E a n c S Y := ⟨s.1.below p s.1.lt, RowAt.below s.2 p⟩
theorem rowAt_kt {v : Value} {n k : Nat} {cs : List Value} {t1 t2 : TypeId} {A B : World} (s : RowAt A v n k cs) (p : Kt A.heap.size t1 t2 A B) : RowAt B v n k cs := by
  obtain ⟨h0, a, cap, h1, h2, h3, h4, h5⟩ := s
  refine ⟨h0, a, cap, h1, h2, h3, h4, fun j hj => ?_⟩
  obtain ⟨b, off, e, hb, hc⟩ := h5 j hj
  rw [List.getElem?_eq_getElem hj] at hc
  exact ⟨b, off, e, Nat.lt_of_lt_of_le hb p.size, by rw [List.getElem?_eq_getElem hj]; exact p.cell (a := ⟨b, off + j, none⟩) hb hc⟩
theorem SrcP.kt {B : Nat} {E : Int} {a : Option Addr} {n c : Nat} {S : List Int} {t1 t2 : TypeId} {X Y : World} (s : SrcP B E a n c S X) (p : Kt X.heap.size t1 t2 X Y) : SrcP B E a n c S Y :=
  ⟨p.same _ _ _ _ s.1 (.inl s.1.lt), rowAt_kt s.2 p⟩
def okW (S : List Int) : Prop := ∀ z ∈ S, 0 ≤ z ∧ z < 18446744073709551616
theorem okW_get {S : List Int} (h : okW S) (k : Nat) (hk : k < S.length) : 0 ≤ S[k]?.getD 0 ∧ S[k]?.getD 0 < 18446744073709551616 := by
  have := h S[k] (List.getElem_mem hk)
  simpa [hk] using this
set_option maxHeartbeats 4000000 in
theorem Try.pinning1_tells (d : Nat) (hd : 1 ≤ d) (Kp : World → World → Prop) (B : Nat) (E : Int) (a : Option Addr) (n c : Nat) (S : List Int) (hS8 : okW S) (w : World) (S9 : World → Prop) (h0 : S9 w) (h9 : ∀ A, S9 A → SrcP B E a n c S A)
    (hb9 : ∀ X Y, S9 X → Below X.heap.size X Y → S9 Y) (hS : ∀ X Y, Kp X Y → S9 X → S9 Y) :
    TellsD Fence.wide d Try.prog 44 #[.pointer (some ⟨B, 0, none⟩)] encY Kp (fun xs => xs = pinL S) (fun pre => pre <+: pinL S) (fun pre x => pre ++ [x] <+: pinL S) w := fun lp J Jx W hW hJ hJx hY hj0 => by
  refine callsIn_of_wp Try.func44 rfl trivial ?_ rfl
  simp only [Try.ntmps44, List.size_toArray, List.length_cons, List.length_nil, Nat.reduceAdd, Nat.reduceSub, Array.replicate_succ, Array.replicate_zero, List.push_toArray, List.append_toArray, List.nil_append, List.cons_append]
  have s0 := hb9 _ _ h0 hW
  have hn := wordsAt_len (h9 _ s0).2
  have hwat := (h9 _ s0).2
  have c0 : W.cell? ⟨B, 1, none⟩ = some (.slice a n c) := (h9 _ s0).1.cell 1
  have hreach : n ≤ maxLen := hn.2
  unfold maxLen at hreach
  have H9 := Lib.hid h9
  have HB9 := Lib.hid hb9
  have HY := Lib.hid hY
  have HJ := Lib.hid hJ
  have HS := Lib.hid hS
  have HS8 := Lib.hid hS8
  have H0 := Lib.hid s0
  have HN := Lib.hid hn.1
  clear hY hJ hS h0 s0 hJx hn h9 hb9 hS8 hwat
  refine wpIn_scope_straight rfl ?_
  gi_wp2
  refine wpIn_label ?_
  gi_wp2_with fail
  gi_loopw [9] (fun i wr => ∃ k : Nat, k ≤ n ∧ i = .int .i64 k ∧ J (pinL (S.take k)) wr ∧ Hid (S9 wr)) (fun i _ => n - (intOf i).toNat)
  case atStart => exact ⟨0, Nat.zero_le _, rfl, hj0, H0⟩
  case round =>
    obtain ⟨k, hk, rfl, hJs, hs⟩ := hrel
    by_cases hlt : k < n
    · have hkl : k < S.length := by rw [← HN.out]; exact hlt
      have hss := H9.out _ hs.out
      obtain ⟨b, off, rfl, hb2, c1⟩ := wordsAt_get hss.2 k hkl
      have het := pinL_take S k hkl
      have hpre := pinL_pre S (k + 1)
      have hr := okW_get HS8.out k hkl
      have hki : (k : Int) < (n : Int) := by omega
      have hki0 : (0 : Int) ≤ (k : Int) := by omega
      generalize S[k]?.getD 0 = z at *
      clear hss hkl
      by_cases hz : z = 0
      · subst hz
        have q0 : ((0 : Int) == 0) = true := by simp
        rw [if_pos rfl, List.append_nil] at het
        have HET := Lib.hid het
        clear het hpre
        gi_wp2_with fail
        go_roundw
        case rel => exact ⟨k + 1, by omega, by go_num, by rw [HET.out]; exact hJs, hs⟩
        case measure => simp [intOf]; omega
      · have q0 : (z == 0) = false := by simp [hz]
        have hw : IntKind.u64.wrap (z - 1) = z - 1 := wrap_u _ (by omega) (by omega)
        rw [if_neg hz] at het
        rw [het] at hpre
        obtain ⟨fn, tmps, assign, body, hy, hR⟩ := HY.out _ ((k : Int), z - 1) _ hJs hpre
        unfold encY at hy
        have HET := Lib.hid het
        have HP := Lib.hid hpre
        have HZ := Lib.hid hz
        clear het hpre hJs hz
        gi_wp2_with fail
        refine hR.mono ?_
        rintro e W3 (⟨rfl, hJ3, _, hk3⟩ | ⟨rfl, hJx3, _⟩)
        · have hs3 := Lib.hid (HS.out _ _ hk3 hs.out)
          have HJ3 := Lib.hid hJ3
          clear hk3 hJ3
          gi_wp2_with fail
          go_roundw
          case rel => exact ⟨k + 1, by omega, by go_num, by rw [HET.out]; exact HJ3.out, hs3⟩
          case measure => simp [intOf]; omega
        · have HJ3 := Lib.hid hJx3
          clear hJx3
          gi_wp2_with fail
          first | rw [noGoto_normal'] | skip
          go_end0
          exact ⟨⟨_, rfl⟩, .inr ⟨_, HP.out, HJ3.out⟩⟩
    · obtain rfl : k = n := by omega
      have hki : ¬ (k : Int) < (k : Int) := by omega
      have hfin : S.take k = S := List.take_of_length_le (by have := HN.out; omega)
      rw [hfin] at hJs
      have HJ3 := Lib.hid hJs
      clear hJs hfin
      gi_wp2_with fail
      first | rw [noGoto_normal'] | skip
      go_end0
      exact ⟨⟨_, rfl⟩, .inl (by first | exact HJ3.out | exact ⟨_, rfl, HJ3.out⟩)⟩
theorem tellsE_of {F : Fence} {n : Nat} {P : Program} {α : Type} {g : Nat} {lb : Array Value} {encs : α → Array Value} {Kp : World → World → Prop} {S Sp : List α → Prop} {Ok : List α → α → Prop} {w : World} (h : TellsD F n P g lb encs Kp S Sp Ok w) : TellsE F n P g lb encs Kp S Ok w := 
  fun l J W hW hJ hY h0 => (h l J (fun _ _ => False) W hW hJ (fun _ _ _ h _ => h) (fun pre x W1 hj ho => yield_mono (fun _ _ hh => .inl hh) (hY pre x W1 hj ho)) h0).mono fun e w' ⟨hv, hh⟩ => ⟨hv, hh.elim id fun ⟨_, _, hf⟩ => hf.elim⟩
theorem Try.pinning_any (E : Int) (a : Option Addr) (n c : Nat) (w : World) : Calls Try.prog 41 #[.agg #[.int .u64 E, .slice a n c]] w fun e w' => e = .returned (.func (.func 44) #[] #[.pointer (some ⟨w.heap.size, 0, none⟩)]) ∧ w' = w.alloc (.cells #[.int .u64 E, .slice a n c] 57) := by
  have hmf : ∀ (fn : Fn) (first cap : Array Value) (w : World), (Instr.makeFunc fn first cap).run Try.prog w = .ok (.func fn first cap) w := fun _ _ _ _ => rfl
  go_enter Try.func41, Try.ntmps41
  go_wp2_with fail
  go_ret
  exact ⟨rfl, rfl⟩
end Go.Proofs
