/- wakes. -/
import Derived.Test.YtliecdpgajchbaaMv
namespace Go.Proofs
open Go.RowKit Go.Shelf
attribute [local go_sem] Oper.semAt_some

theorem rows_row {W : World} {B n k : Nat} {t : TypeId} {cs : Array Value} (h : Rows8 W B t cs) (hs : cs.size = n * k) (hn : n ≤ maxLen) : RowAt W (.slice (some ⟨B, 0, none⟩) n n) n k cs.toList :=
  ⟨by simpa using hs, some ⟨B, 0, none⟩, n, rfl, Nat.le_refl _, hn, (fun e => by cases e), fun j _ => ⟨B, 0, rfl, h.lt, by rw [Nat.zero_add, h.cell]; simp⟩⟩

theorem Try.new_ok (n : Nat) (h : 1 ≤ n ∧ n ≤ 160) (w : World) : Calls Try.prog 20 #[.int .i64 n] w fun e w' => ∃ r, e = .returned (.tuple #[.slice (some ⟨r, 0, none⟩) n n, .int .i64 0]) ∧ MxAt w' (.slice (some ⟨r, 0, none⟩) n n) (freeM n) ∧ Below w.heap.size w w' :=
  (Try.New_any n w).mono fun e w' hq => by
    rcases hq with ⟨h1, _⟩ | ⟨_, r, h2, h3, h4⟩
    · exact absurd (by omega) h1
    · rw [Int.toNat_natCast] at h2 h3
      exact ⟨r, h2, h3.at, h4⟩
theorem Try.ask_ok (which goer : Int) (a : Option Addr) (n cap : Nat) (ms ms' : List Mx) (b : Bool) (h1 : askR ms which goer = (0, ms', 0)) (h2 : gotB ms which = b) (w : World) (hI : MxAt w (.slice a n cap) ms) :
    Calls Try.prog 23 #[.slice a n cap, .int .i64 which, .int .i64 goer] w fun e w' => ∃ r, e = .returned (.tuple #[.slice (some ⟨r, 0, none⟩) n n, .bool b, .int .i64 0]) ∧ MxAt w' (.slice (some ⟨r, 0, none⟩) n n) ms' ∧ Below w.heap.size w w' := by
  have h := Try.Ask_any which goer a n cap ms w hI
  rw [h1, h2] at h
  refine h.mono fun e w' hq => ?_
  obtain ⟨hB, ⟨h3, _⟩ | ⟨_, r, h4, h5⟩⟩ := hq
  · exact absurd rfl h3
  · exact ⟨r, h4, h5.at, hB⟩
theorem Try.ask_okO (which goer : Int) (a : Option Addr) (n cap : Nat) (ms ms' : List Mx) (b : Bool) (h1 : askR ms which goer = (0, ms', 0)) (h2 : gotB ms which = b) (w : World) (hI : MxAt w (.slice a n cap) ms) :
    Calls Try.prog 23 #[.slice a n cap, .int .i64 which, .int .i64 goer] w fun e w' => ∃ r, e = .returned (.tuple #[.slice (some ⟨r, 0, none⟩) n n, .bool b, .int .i64 0]) ∧ OwnsM w.heap.size ms' (.slice (some ⟨r, 0, none⟩) n n) w' ∧ Below w.heap.size w w' := by
  have h := Try.Ask_any which goer a n cap ms w hI
  rw [h1, h2] at h
  refine h.mono fun e w' hq => ?_
  obtain ⟨hB, ⟨h3, _⟩ | ⟨_, r, h4, h5⟩⟩ := hq
  · exact absurd rfl h3
  · exact ⟨r, h4, h5, hB⟩
theorem OwnsM.grown {n₁ : Nat} {ms : List Mx} {v : Value} {A B : World} {row : Option Nat} (h : OwnsM n₁ ms v A) (hg : A.grownBy B row) (hr : ∀ j, row = some j → j < n₁) : OwnsM n₁ ms v B := by
  obtain ⟨vs, h⟩ := h
  have key : ∀ (o : Option Nat), (∀ j, o = some j → n₁ ≤ j) → o = none ∨ o ≠ row := fun o ho => by
    cases e : o with
    | none => exact .inl rfl
    | some j =>
      refine .inr fun e2 => ?_
      have := ho j e
      have := hr j e2.symm
      omega
  exact ⟨vs, h.kept hg (key _ fun j e => (World.ownsRow.lt h.row j e).1) (fun i qv hi e => key _ fun j e2 => by
    obtain ⟨q2, e3, ho⟩ := h.que i hi
    rw [e] at e3
    cases e3
    exact (ho.lt j e2).1)⟩
theorem Try.ask_err (which goer : Int) (a : Option Addr) (n cap : Nat) (ms : List Mx) (E : Int) (h0 : E ≠ 0) (h1 : (askR ms which goer).1 = E) (w : World) (hI : MxAt w (.slice a n cap) ms) :
    Calls Try.prog 23 #[.slice a n cap, .int .i64 which, .int .i64 goer] w fun e w' => e = .returned (.tuple #[.slice none 0 0, .bool false, .int .i64 E]) ∧ Below w.heap.size w w' := by
  refine (Try.Ask_any which goer a n cap ms w hI).mono fun e w' hq => ?_
  obtain ⟨hB, ⟨_, h3⟩ | ⟨h3, _⟩⟩ := hq
  · exact ⟨by rw [h3, h1], hB⟩
  · exact absurd (h1.symm.trans h3) h0
theorem Try.leave_ok (which goer : Int) (a : Option Addr) (n cap : Nat) (ms ms' : List Mx) (b : Int) (h1 : leaveR ms which goer = (0, ms', 0)) (h2 : nextB ms which = b) (w : World) (hI : MxAt w (.slice a n cap) ms) :
    Calls Try.prog 24 #[.slice a n cap, .int .i64 which, .int .i64 goer] w fun e w' => ∃ r, e = .returned (.tuple #[.slice (some ⟨r, 0, none⟩) n n, .int .i64 b, .int .i64 0]) ∧ MxAt w' (.slice (some ⟨r, 0, none⟩) n n) ms' ∧ Below w.heap.size w w' := by
  have h := Try.Leave_any which goer a n cap ms w hI
  rw [h1, h2] at h
  refine h.mono fun e w' hq => ?_
  obtain ⟨hB, ⟨h3, _⟩ | ⟨_, r, h4, h5⟩⟩ := hq
  · exact absurd rfl h3
  · exact ⟨r, h4, h5.at, hB⟩
theorem Try.leave_err (which goer : Int) (a : Option Addr) (n cap : Nat) (ms : List Mx) (E : Int) (h0 : E ≠ 0) (h1 : (leaveR ms which goer).1 = E) (w : World) (hI : MxAt w (.slice a n cap) ms) :
    Calls Try.prog 24 #[.slice a n cap, .int .i64 which, .int .i64 goer] w fun e w' => e = .returned (.tuple #[.slice none 0 0, .int .i64 0, .int .i64 E]) ∧ Below w.heap.size w w' := by
  refine (Try.Leave_any which goer a n cap ms w hI).mono fun e w' hq => ?_
  obtain ⟨hB, ⟨_, h3⟩ | ⟨h3, _⟩⟩ := hq
  · exact ⟨by rw [h3, h1], hB⟩
  · exact absurd (h1.symm.trans h3) h0
theorem Try.play_ok (a : Option Addr) (n cap : Nat) (ms ms' : List Mx) (p : Nat) (b : Option Addr) (m dcap : Nat) (ds : List Dd) (hm : m ≤ 10000) (h1 : playP ms ds = (0, ms', p)) (w : World) (hI : MxAt w (.slice a n cap) ms) (hD : DdAt w (.slice b m dcap) ds) :
    Calls Try.prog 28 #[.slice a n cap, .slice b m dcap] w fun e w' => ∃ r, e = .returned (.tuple #[.slice (some ⟨r, 0, none⟩) n n, .int .i64 (p : Nat), .int .i64 0]) ∧ MxAt w' (.slice (some ⟨r, 0, none⟩) n n) ms' ∧ Below w.heap.size w w' := by
  have h := Try.Play_any a n cap ms b m dcap ds hm w hI hD
  rw [h1] at h
  refine h.mono fun e w' hq => ?_
  obtain ⟨hB, ⟨h3, _⟩ | ⟨_, r, h4, h5⟩⟩ := hq
  · exact absurd rfl h3
  · exact ⟨r, h4, h5.at, hB⟩
theorem Try.play_err (a : Option Addr) (n cap : Nat) (ms : List Mx) (E : Int) (h0 : E ≠ 0) (b : Option Addr) (m dcap : Nat) (ds : List Dd) (hm : m ≤ 10000) (h1 : (playP ms ds).1 = E) (w : World) (hI : MxAt w (.slice a n cap) ms) (hD : DdAt w (.slice b m dcap) ds) :
    Calls Try.prog 28 #[.slice a n cap, .slice b m dcap] w fun e w' => e = .returned (.tuple #[.slice none 0 0, .int .i64 0, .int .i64 E]) ∧ Below w.heap.size w w' := by
  refine (Try.Play_any a n cap ms b m dcap ds hm w hI hD).mono fun e w' hq => ?_
  obtain ⟨hB, ⟨_, h3⟩ | ⟨h3, _⟩⟩ := hq
  · exact ⟨by rw [h3, h1], hB⟩
  · exact absurd (h1.symm.trans h3) h0

set_option maxRecDepth 100000 in
set_option maxHeartbeats 2000000 in
theorem Try.wakes_any (w : World) : Calls Try.prog 8 #[] w fun e w' => e = .returned (.bool true) ∧ Below w.heap.size w w' := by
  go_enter Try.func8, Try.ntmps8
  go_wp2_with fail
  refine (Try.new_ok 3 (by decide) w).mono ?_
  rintro e w1 ⟨r1, rfl, h1, b1⟩
  have H := Lib.hid h1
  have B := Lib.hid b1
  clear h1 b1
  go_wp2_with fail
  refine (Try.ask_ok 1 0 _ 3 3 (freeM 3) [⟨0, []⟩, ⟨1, []⟩, ⟨0, []⟩] true (by decide) (by decide) w1 H.out).mono ?_
  rintro e w2 ⟨r2, rfl, h1, b1⟩
  have H1 := Lib.hid h1
  have B1 := Lib.hid (B.out.trans (b1.mono B.out.size))
  clear h1 b1 H B
  go_wp2_with fail
  refine (Try.ask_ok 1 2 _ 3 3 [⟨0, []⟩, ⟨1, []⟩, ⟨0, []⟩] [⟨0, []⟩, ⟨1, [2]⟩, ⟨0, []⟩] false (by decide) (by decide) w2 H1.out).mono ?_
  rintro e w3 ⟨r3, rfl, h1, b1⟩
  have H := Lib.hid h1
  have B := Lib.hid (B1.out.trans (b1.mono B1.out.size))
  clear h1 b1 H1 B1
  go_wp2_with fail
  refine (Try.ask_ok 1 1 _ 3 3 [⟨0, []⟩, ⟨1, [2]⟩, ⟨0, []⟩] [⟨0, []⟩, ⟨1, [2, 1]⟩, ⟨0, []⟩] false (by decide) (by decide) w3 H.out).mono ?_
  rintro e w4 ⟨r4, rfl, h1, b1⟩
  have H1 := Lib.hid h1
  have B1 := Lib.hid (B.out.trans (b1.mono B.out.size))
  clear h1 b1 H B
  go_wp2_with fail
  refine (Try.leave_ok 1 0 _ 3 3 [⟨0, []⟩, ⟨1, [2, 1]⟩, ⟨0, []⟩] [⟨0, []⟩, ⟨3, [1]⟩, ⟨0, []⟩] 2 (by decide) (by decide) w4 H1.out).mono ?_
  rintro e w5 ⟨r5, rfl, h1, b1⟩
  have H := Lib.hid h1
  have B := Lib.hid (B1.out.trans (b1.mono B1.out.size))
  clear h1 b1 H1 B1
  go_wp2_with fail
  refine (Try.leave_err 1 0 _ 3 3 [⟨0, []⟩, ⟨3, [1]⟩, ⟨0, []⟩] 4 (by decide) (by decide) w5 H.out).mono ?_
  rintro e w6 ⟨rfl, b1⟩
  have H1 := Lib.hid (H.out.below b1)
  have B1 := Lib.hid (B.out.trans (b1.mono B.out.size))
  clear b1 H B
  go_wp2_with fail
  refine (Try.Waits_any 1 _ 3 3 [⟨0, []⟩, ⟨3, [1]⟩, ⟨0, []⟩] w6 H1.out).mono ?_
  have ew : waitsR [⟨0, []⟩, ⟨3, [1]⟩, ⟨0, []⟩] 1 = (1, true) := by decide
  rw [ew]
  rintro e w7 ⟨rfl, b1⟩
  have H := Lib.hid (H1.out.below b1)
  have B := Lib.hid (B1.out.trans (b1.mono B1.out.size))
  clear b1 H1 B1 ew
  go_wp2_with fail
  refine (Try.new_ok 2 (by decide) w7).mono ?_
  rintro e w8 ⟨r8, rfl, h1, b1⟩
  have H1 := Lib.hid (H.out.below b1)
  have H2 := Lib.hid h1
  have B1 := Lib.hid (B.out.trans (b1.mono B.out.size))
  clear b1 h1 H B
  go_wp2_with fail
  have hBa : Below w8.heap.size w8 (w8.alloc (.cells #[.bool false, .int .i64 0, .int .i64 0, .bool false, .int .i64 1, .int .i64 1, .bool false, .int .i64 0, .int .i64 1, .bool false, .int .i64 1, .int .i64 0] 42)) := Rows8.newB
  have hD : DdAt (w8.alloc (.cells #[.bool false, .int .i64 0, .int .i64 0, .bool false, .int .i64 1, .int .i64 1, .bool false, .int .i64 0, .int .i64 1, .bool false, .int .i64 1, .int .i64 0] 42)) (.slice (some ⟨w8.heap.size, 0, none⟩) 4 4) [⟨false, 0, 0⟩, ⟨false, 1, 1⟩, ⟨false, 0, 1⟩, ⟨false, 1, 0⟩] := rows_row (n := 4) (k := 3) (Rows8.new w8 _ _) rfl (by unfold maxLen; omega)
  refine (Try.play_ok _ 2 2 (freeM 2) [⟨1, [1]⟩, ⟨2, [0]⟩] 0 _ 4 4 [⟨false, 0, 0⟩, ⟨false, 1, 1⟩, ⟨false, 0, 1⟩, ⟨false, 1, 0⟩] (by decide) (by decide) _ (H2.out.below hBa) hD).mono ?_
  rintro e w9 ⟨r9, rfl, h1, b1⟩
  have H := Lib.hid ((H1.out.below hBa).below b1)
  have H3 := Lib.hid h1
  have B := Lib.hid (B1.out.trans ((hBa.trans (b1.mono hBa.size)).mono B1.out.size))
  clear b1 h1 hBa hD H1 H2 B1
  go_wp2_with fail
  have hR := Try.Ring_any _ 2 2 [⟨1, [1]⟩, ⟨2, [0]⟩] w9 H3.out
  rw [show ringR [⟨1, [1]⟩, ⟨2, [0]⟩] = [0, 1] by decide] at hR
  refine hR.mono ?_
  rintro e w10 ⟨b, c, rfl, h1, b1⟩
  have hBa : Below w10.heap.size w10 (w10.alloc (.cells #[.int .i64 0, .int .i64 1] 3)) := Rows8.newB
  have hE := Try.equalInts_any b (some ⟨w10.heap.size, 0, none⟩) 2 2 c 2 [0, 1] [0, 1] rfl rfl (by omega) (by omega) (w10.alloc (.cells #[.int .i64 0, .int .i64 1] 3)) (RowAt.below h1 hBa) (rows_row (n := 2) (k := 1) (Rows8.new w10 _ _) rfl (by unfold maxLen; omega))
  have HE := Lib.hid hE
  have H1 := Lib.hid ((H.out.below b1).below hBa)
  have B1 := Lib.hid (B.out.trans ((b1.trans (hBa.mono b1.size)).mono B.out.size))
  clear hR h1 b1 hBa hE H B H3
  simp only [List.length_cons, List.length_nil]
  go_wp2_with fail
  refine HE.out.mono ?_
  rintro e w11 ⟨rfl, b1⟩
  have H := Lib.hid (H1.out.below b1)
  have B := Lib.hid (B1.out.trans (b1.mono B1.out.size))
  clear b1 H1 B1 HE
  go_wp2_with fail
  have hR := Try.Has_any 2 _ 3 3 [⟨0, []⟩, ⟨3, [1]⟩, ⟨0, []⟩] w11 H.out
  rw [show hasR [⟨0, []⟩, ⟨3, [1]⟩, ⟨0, []⟩] 2 = [1] by decide] at hR
  refine hR.mono ?_
  rintro e w12 ⟨b, c, rfl, h1, b1⟩
  have hBa : Below w12.heap.size w12 (w12.alloc (.cells #[.int .i64 1] 3)) := Rows8.newB
  have hE := Try.equalInts_any b (some ⟨w12.heap.size, 0, none⟩) 1 1 c 1 [1] [1] rfl rfl (by omega) (by omega) (w12.alloc (.cells #[.int .i64 1] 3)) (RowAt.below h1 hBa) (rows_row (n := 1) (k := 1) (Rows8.new w12 _ _) rfl (by unfold maxLen; omega))
  have HE := Lib.hid hE
  have B1 := Lib.hid (B.out.trans ((b1.trans (hBa.mono b1.size)).mono B.out.size))
  clear hR h1 b1 hBa hE H B
  simp only [List.length_cons, List.length_nil]
  go_wp2_with fail
  refine HE.out.mono ?_
  rintro e w13 ⟨rfl, b1⟩
  have B := Lib.hid (B1.out.trans (b1.mono B1.out.size))
  clear b1 B1 HE
  go_wp2_with fail
  go_ret
  exact ⟨by simp, B.out⟩
end Go.Proofs
