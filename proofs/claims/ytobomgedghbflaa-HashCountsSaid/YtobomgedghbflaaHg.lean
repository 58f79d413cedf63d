/- once. -/
import Derived.Test.YtobomgedghbflaaHf
import Derived.Test.YtobomgedghbflaaVd
import Derived.Test.YtobomgedghbflaaHe
import Derived.Deep.OwnRows
namespace Go.Proofs
open Go.RowKit Go.Shelf Go.Deep
attribute [local go_sem] Oper.semAt_some

/-- slices.Sort sorts rows of at most so many words. -/
def Try.SortOk (m : Nat) : Prop := ∀ (B cap n cp : Nat) (l : List Int), n = l.length → n ≤ m → ∀ w : World, SRow w B cap l.toArray →
  Calls Try.prog 6 #[.slice (some ⟨B, 0, none⟩) n cp] w fun e w' => e = .returned (.tuple #[]) ∧ SRow w' B cap (sortW l).toArray ∧ w.grownBy w' (some B)
theorem Try.sortOk12 : Try.SortOk 12 := fun B cap n cp l hn h12 w hS => Try.sortWords_small B cap n cp l hn h12 w hS
theorem SRow.ofGrown {A W : World} {B cap b' : Nat} {d : Array Int} (r : SRow A B cap d) (h : A.grownBy W (some b')) (hne : B ≠ b') : SRow W B cap d := by
  obtain ⟨cs, hR, h2⟩ := r
  exact ⟨cs, Rows8.grown hR h hne, h2⟩
def OnceQ (ks : List Int) (n : Nat) (w : World) (e : Ending) (w' : World) : Prop :=
  ∃ g bx, e = .returned (.func (.func 42) #[] #[.pointer (some ⟨bx, 0, none⟩)]) ∧ Rows8 w' bx 23 #[.slice (some ⟨g, 0, none⟩) n n] ∧ SRow w' g n (sortW ks).toArray ∧ Below w.heap.size w w'
set_option maxRecDepth 100000 in
set_option maxHeartbeats 2000000 in
theorem Try.once_any (m : Nat) (hso : Try.SortOk m) (a : Option Addr) (n cap : Nat) (ks : List Int) (hn : n = ks.length) (hm : n ≤ m) (hn1 : n ≤ 100000000) (w : World) (hI : WordsAt w (.slice a n cap) ks) :
    Calls Try.prog 19 #[.slice a n cap] w (OnceQ ks n w) := by
  have hmk := fun W => run_make_row' (P := Try.prog) 23 22 (.int .u64 0) 8 Try.underlying23 Try.infoWord rfl .i64 .i64 n (by omega) (by omega) W
  have hmf : ∀ (fn : Fn) (first cap : Array Value) (w : World), (Instr.makeFunc fn first cap).run Try.prog w = .ok (.func fn first cap) w := fun _ _ _ _ => rfl
  have hcs : (madeCells #[Value.int .u64 0] n).size = n := by simp [madeCells]
  have B2 : Below w.heap.size w ((w.alloc (.cells (madeCells #[Value.int .u64 0] n) 22)).alloc (.cells #[.slice (some ⟨w.heap.size, 0, none⟩) n n] 23)) := ((Below.refl _ w).alloc (Nat.le_refl _) _).alloc (by simp) _
  have R1 := (Rows8.new w 22 (madeCells #[Value.int .u64 0] n)).alloc (.cells #[.slice (some ⟨w.heap.size, 0, none⟩) n n] 23)
  have R2 := rows_new2 w (.cells (madeCells #[Value.int .u64 0] n) 22) 23 #[.slice (some ⟨w.heap.size, 0, none⟩) n n]
  have hI2 : WordsAt ((w.alloc (.cells (madeCells #[Value.int .u64 0] n) 22)).alloc (.cells #[.slice (some ⟨w.heap.size, 0, none⟩) n n] 23)) (.slice a n cap) ks := RowAt.below hI B2
  have HI := Lib.hid hI2
  have HN := Lib.hid hn
  have HS := Lib.hid hso
  have HB := Lib.hid B2
  have HR1 := Lib.hid R1
  have HR2 := Lib.hid R2
  clear hI hI2 hn hso B2 R1 R2
  generalize madeCells #[Value.int .u64 0] n = cs at *
  go_enter Try.func19, Try.ntmps19
  go_wp2_with (refine wpList_copy_whole rfl _ _ 23 23 (by rfl) 22 Try.underlying23 (by kernel_rfl) w.heap.size n n (.slice a n cap) (by rfl) (by rfl) cs 22 HR1.out (wordVals ks) ?d1 hcs ?d2 (wordVals_one ks) ?_)
  case d1 => rw [wordVals_length, HN.out]
  case d2 =>
    have h := HI.out
    unfold WordsAt at h
    rw [← HN.out] at h
    exact h
  intro w3 r1 g1
  have s3 : SRow w3 w.heap.size n ks.toArray := by rw [HN.out]; exact sRow_words r1
  have b3 := Rows8.grown HR2.out g1 (by omega)
  have c3 := b3.cell 0
  simp at c3
  have HB3 := Lib.hid (HB.out.grown g1 (Nat.le_trans (Nat.le_refl _) HB.out.size) (fun j ej => by injection ej with ej; omega))
  have hsort := HS.out w.heap.size n n n ks HN.out hm w3 s3
  have HR3 := Lib.hid b3
  clear r1 g1 s3 b3
  go_wp2_with fail
  refine hsort.mono ?_
  rintro e w4 ⟨rfl, s4, g4⟩
  have b4 := Rows8.grown HR3.out g4 (by omega)
  have HB4 := Lib.hid (HB3.out.grown g4 (Nat.le_trans (Nat.le_refl _) HB3.out.size) (fun j ej => by injection ej with ej; omega))
  have S4 := Lib.hid s4
  have R4 := Lib.hid b4
  clear s4 b4 g4 c3 hsort
  go_wp2_with fail
  go_ret
  exact ⟨_, _, rfl, R4.out, S4.out, HB4.out⟩
end Go.Proofs
