/- Limbo: the script of the law's first line: what comes of it. -/
import Derived.Test.YtghnfiegihfdnaaDoorLq
import Derived.Test.YtghnfiegihfdnaaDoorRw
namespace Go.Proofs
set_option maxRecDepth 100000
open Go.RowKit Go.Shelf
attribute [local go_sem] Oper.semAt_some

def z3 : Rw3 := fun _ => []
def k1 : Rl := tryL 0 z3 (retN 0 z3 (1, 0))
def k2 : Rl := tryL k1.2.1 k1.2.2 (advN k1.2.1 k1.2.2)
def k3 : Rl := tryL k2.2.1 k2.2.2 (retN k2.2.1 k2.2.2 (2, 0))
def k4 : Rl := tryL k3.2.1 k3.2.2 (advN k3.2.1 k3.2.2)
def k5 : Rl := tryL k4.2.1 k4.2.2 (advN k4.2.1 k4.2.2)
def kst : List Pr := [(1, 0), (-1, 0), (2, 0), (-1, 0), (3, 0), (-1, 0), (-1, 0), (-1, 0)]
def k8 : Rl := tryL 0 z3 (runL 0 z3 kst)
theorem k1_ok : k1.1 = 0 ∧ k1.2.1 < 18446744073709551616 ∧ k1.2.2 3 = [] := by decide +kernel
theorem k2_ok : k2.1 = 0 ∧ k2.2.1 < 18446744073709551616 ∧ k2.2.2 3 = [] := by decide +kernel
theorem k3_ok : k3.1 = 0 ∧ k3.2.1 < 18446744073709551616 ∧ k3.2.2 3 = [] := by decide +kernel
theorem k4_ok : k4.1 = 0 ∧ k4.2.1 < 18446744073709551616 ∧ k4.2.2 3 = [] := by decide +kernel
theorem k5_ok : k5.1 = 241 := by decide +kernel
theorem k8_ok : k8.1 = 0 ∧ k8.2.2 3 = [(1, 0), (2, 0), (3, 0)] := by decide +kernel
theorem k4_when : optV (if rightL k4.2.1 k4.2.2 then whenL k4.2.1 k4.2.2 2 else none) = (1, true) := by decide +kernel
theorem k4_ready : (if rightL k4.2.1 k4.2.2 then readyL k4.2.1 k4.2.2 else []) = [(1, 0)] := by decide +kernel
theorem k4_held : (if rightL k4.2.1 k4.2.2 then heldL k4.2.1 k4.2.2 else []).length = 2 := by decide +kernel
theorem z3_at (W : World) : LAt W zLs z3 := fun _ _ => pAt_none W
/-- What the listed variable says. -/
structure OnAt (W : World) : Prop where
  lt : 0 < W.heap.size
  c0 : W.cell? ⟨0, 0, none⟩ = some (.int .i64 (-1))
  c1 : W.cell? ⟨0, 1, none⟩ = some (.int .u64 0)
theorem OnAt.below {A B : World} (h : OnAt A) (p : Below A.heap.size A B) : OnAt B := ⟨Nat.lt_of_lt_of_le h.lt p.size, (p.cell (p := ⟨0, 0, none⟩) h.lt).trans h.c0, (p.cell (p := ⟨0, 1, none⟩) h.lt).trans h.c1⟩
theorem OnAt.drew {A : World} (h : OnAt A) : OnAt A.drew := ⟨h.lt, h.c0, h.c1⟩
/-- What stands while the first line is asked. -/
structure WkC (W0 W : World) (b1 : Nat) : Prop where
  on : OnAt W
  a : Rows8 W b1 38 #[.int .i64 1, .int .u64 0]
  b : Rows8 W (b1 + 1) 38 #[.int .i64 2, .int .u64 0]
  c : Rows8 W (b1 + 1 + 1) 38 #[.int .i64 3, .int .u64 0]
  bl : Below W0.heap.size W0 W
theorem WkC.below {W0 A B : World} {b1 : Nat} (h : WkC W0 A b1) (p : Below A.heap.size A B) : WkC W0 B b1 := ⟨h.on.below p, h.a.below p h.a.lt, h.b.below p h.b.lt, h.c.below p h.c.lt, h.bl.trans (p.mono h.bl.size)⟩
theorem WkC.drew {W0 A : World} {b1 : Nat} (h : WkC W0 A b1) : WkC W0 A.drew b1 := ⟨h.on.drew, h.a.drewA, h.b.drewA, h.c.drewA, h.bl.drew⟩
theorem lit_ents (W : World) (l : List Pr) (hl : l.length ≤ 100) : PAt (W.alloc (.cells (pVals l).toArray 38)) (.slice (some ⟨W.heap.size, 0, none⟩) l.length l.length) l := by
  refine ⟨pVals_length l, _, l.length, rfl, Nat.le_refl _, by unfold maxLen; omega, (fun e => by cases e), fun j hj => ⟨W.heap.size, 0, rfl, by simp, ?_⟩⟩
  rw [Nat.zero_add, Rows8.cell (Rows8.new W _ _) j]
  simp
theorem Tryd.wkRet (W : World) : Calls Tryd.prog 22 #[.agg #[.int .u64 0, .slice none 0 0, .slice none 0 0, .slice none 0 0], .agg #[.int .i64 1, .int .u64 0]] W fun e w' => (∃ s : Ls, e = .returned (.tuple #[.agg #[.int .u64 (k1.2.1 : Nat), .slice (s.a 0) (s.n 0) (s.c 0), .slice (s.a 1) (s.n 1) (s.c 1), .slice (s.a 2) (s.n 2) (s.c 2)], .int .i64 0]) ∧ LO W.heap.size k1.2.2 s w') ∧ Below W.heap.size W w' :=
  (Tryd.Retire_any 0 zLs z3 (1, 0) W (z3_at W) (by decide) rfl).mono fun e w' ⟨⟨s, h1, h2⟩, h3⟩ => ⟨⟨s, by rw [h1]; show _ = Ending.returned (.tuple #[.agg #[.int .u64 (k1.2.1 : Nat), .slice (s.a 0) (s.n 0) (s.c 0), .slice (s.a 1) (s.n 1) (s.c 1), .slice (s.a 2) (s.n 2) (s.c 2)], .int .i64 0]); rw [show (tryL 0 z3 (retN 0 z3 (1, 0))).1 = 0 from k1_ok.1]; rfl, h2⟩, h3⟩
theorem Tryd.wkRun (W : World) (b : Nat) (h : PAt W (.slice (some ⟨b, 0, none⟩) 8 8) kst) : Calls Tryd.prog 29 #[.agg #[.int .u64 0, .slice none 0 0, .slice none 0 0, .slice none 0 0], .slice (some ⟨b, 0, none⟩) 8 8] W fun e w' => (∃ (s : Ls) (a : Option Addr) (c : Nat), e = .returned (.tuple #[.agg #[.int .u64 (k8.2.1 : Nat), .slice (s.a 0) (s.n 0) (s.c 0), .slice (s.a 1) (s.n 1) (s.c 1), .slice (s.a 2) (s.n 2) (s.c 2)], .slice a 3 c, .int .i64 0]) ∧ OwnE 0 [(1, 0), (2, 0), (3, 0)] (.slice a 3 c) w') ∧ Below W.heap.size W w' :=
  (Tryd.Run_any 0 zLs z3 (some ⟨b, 0, none⟩) 8 8 kst W (z3_at W) (by decide) rfl h (by decide)).mono fun e w' ⟨⟨s, v, h1, h2, h4⟩, h3⟩ => by
    have hk : (tryL 0 z3 (runL 0 z3 kst)).2.2 3 = [(1, 0), (2, 0), (3, 0)] := k8_ok.2
    rw [hk] at h4
    obtain ⟨a, c, rfl, _⟩ := h4.form
    refine ⟨⟨s, a, c, ?_, h4.mono (Nat.zero_le _)⟩, h3⟩
    rw [h1]
    show _ = Ending.returned (.tuple #[.agg #[.int .u64 (k8.2.1 : Nat), .slice (s.a 0) (s.n 0) (s.c 0), .slice (s.a 1) (s.n 1) (s.c 1), .slice (s.a 2) (s.n 2) (s.c 2)], .slice a 3 c, .int .i64 0])
    rw [show (tryL 0 z3 (runL 0 z3 kst)).1 = 0 from k8_ok.1]
    rfl
theorem Tryd.wkAdvancek2 (W : World) (s : Ls) (n₀ : Nat) (h : LO n₀ k1.2.2 s W) : Calls Tryd.prog 23 #[.agg #[.int .u64 (k1.2.1 : Nat), .slice (s.a 0) (s.n 0) (s.c 0), .slice (s.a 1) (s.n 1) (s.c 1), .slice (s.a 2) (s.n 2) (s.c 2)]] W fun e w' => (∃ s : Ls, e = .returned (.tuple #[.agg #[.int .u64 (k2.2.1 : Nat), .slice (s.a 0) (s.n 0) (s.c 0), .slice (s.a 1) (s.n 1) (s.c 1), .slice (s.a 2) (s.n 2) (s.c 2)], .int .i64 0]) ∧ LO W.heap.size k2.2.2 s w') ∧ Below W.heap.size W w' :=
  (Tryd.Advance_any k1.2.1 s k1.2.2 W h.at k1_ok.2.1 k1_ok.2.2).mono fun e w' ⟨⟨s, h1, h2⟩, h3⟩ => ⟨⟨s, by rw [h1]; show _ = Ending.returned (.tuple #[.agg #[.int .u64 (k2.2.1 : Nat), .slice (s.a 0) (s.n 0) (s.c 0), .slice (s.a 1) (s.n 1) (s.c 1), .slice (s.a 2) (s.n 2) (s.c 2)], .int .i64 0]); rw [show (tryL k1.2.1 k1.2.2 _).1 = 0 from k2_ok.1]; rfl, h2⟩, h3⟩
theorem Tryd.wkRetirek3 (W : World) (s : Ls) (n₀ : Nat) (h : LO n₀ k2.2.2 s W) : Calls Tryd.prog 22 #[.agg #[.int .u64 (k2.2.1 : Nat), .slice (s.a 0) (s.n 0) (s.c 0), .slice (s.a 1) (s.n 1) (s.c 1), .slice (s.a 2) (s.n 2) (s.c 2)], .agg #[.int .i64 2, .int .u64 0]] W fun e w' => (∃ s : Ls, e = .returned (.tuple #[.agg #[.int .u64 (k3.2.1 : Nat), .slice (s.a 0) (s.n 0) (s.c 0), .slice (s.a 1) (s.n 1) (s.c 1), .slice (s.a 2) (s.n 2) (s.c 2)], .int .i64 0]) ∧ LO W.heap.size k3.2.2 s w') ∧ Below W.heap.size W w' :=
  (Tryd.Retire_any k2.2.1 s k2.2.2 (2, 0) W h.at k2_ok.2.1 k2_ok.2.2).mono fun e w' ⟨⟨s, h1, h2⟩, h3⟩ => ⟨⟨s, by rw [h1]; show _ = Ending.returned (.tuple #[.agg #[.int .u64 (k3.2.1 : Nat), .slice (s.a 0) (s.n 0) (s.c 0), .slice (s.a 1) (s.n 1) (s.c 1), .slice (s.a 2) (s.n 2) (s.c 2)], .int .i64 0]); rw [show (tryL k2.2.1 k2.2.2 _).1 = 0 from k3_ok.1]; rfl, h2⟩, h3⟩
theorem Tryd.wkAdvancek4 (W : World) (s : Ls) (n₀ : Nat) (h : LO n₀ k3.2.2 s W) : Calls Tryd.prog 23 #[.agg #[.int .u64 (k3.2.1 : Nat), .slice (s.a 0) (s.n 0) (s.c 0), .slice (s.a 1) (s.n 1) (s.c 1), .slice (s.a 2) (s.n 2) (s.c 2)]] W fun e w' => (∃ s : Ls, e = .returned (.tuple #[.agg #[.int .u64 (k4.2.1 : Nat), .slice (s.a 0) (s.n 0) (s.c 0), .slice (s.a 1) (s.n 1) (s.c 1), .slice (s.a 2) (s.n 2) (s.c 2)], .int .i64 0]) ∧ LO W.heap.size k4.2.2 s w') ∧ Below W.heap.size W w' :=
  (Tryd.Advance_any k3.2.1 s k3.2.2 W h.at k3_ok.2.1 k3_ok.2.2).mono fun e w' ⟨⟨s, h1, h2⟩, h3⟩ => ⟨⟨s, by rw [h1]; show _ = Ending.returned (.tuple #[.agg #[.int .u64 (k4.2.1 : Nat), .slice (s.a 0) (s.n 0) (s.c 0), .slice (s.a 1) (s.n 1) (s.c 1), .slice (s.a 2) (s.n 2) (s.c 2)], .int .i64 0]); rw [show (tryL k3.2.1 k3.2.2 _).1 = 0 from k4_ok.1]; rfl, h2⟩, h3⟩
theorem Tryd.wkAdvancek5 (W : World) (s : Ls) (n₀ : Nat) (h : LO n₀ k4.2.2 s W) : Calls Tryd.prog 23 #[.agg #[.int .u64 (k4.2.1 : Nat), .slice (s.a 0) (s.n 0) (s.c 0), .slice (s.a 1) (s.n 1) (s.c 1), .slice (s.a 2) (s.n 2) (s.c 2)]] W fun e w' => (∃ s : Ls, e = .returned (.tuple #[.agg #[.int .u64 (k5.2.1 : Nat), .slice (s.a 0) (s.n 0) (s.c 0), .slice (s.a 1) (s.n 1) (s.c 1), .slice (s.a 2) (s.n 2) (s.c 2)], .int .i64 241]) ∧ LO W.heap.size k5.2.2 s w') ∧ Below W.heap.size W w' :=
  (Tryd.Advance_any k4.2.1 s k4.2.2 W h.at k4_ok.2.1 k4_ok.2.2).mono fun e w' ⟨⟨s, h1, h2⟩, h3⟩ => ⟨⟨s, by rw [h1]; show _ = Ending.returned (.tuple #[.agg #[.int .u64 (k5.2.1 : Nat), .slice (s.a 0) (s.n 0) (s.c 0), .slice (s.a 1) (s.n 1) (s.c 1), .slice (s.a 2) (s.n 2) (s.c 2)], .int .i64 241]); rw [show (tryL k4.2.1 k4.2.2 _).1 = 241 from k5_ok]; rfl, h2⟩, h3⟩
theorem Tryd.wkWhen (W : World) (s : Ls) (n₀ : Nat) (h : LO n₀ k4.2.2 s W) : Calls Tryd.prog 18 #[.agg #[.int .u64 (k4.2.1 : Nat), .slice (s.a 0) (s.n 0) (s.c 0), .slice (s.a 1) (s.n 1) (s.c 1), .slice (s.a 2) (s.n 2) (s.c 2)], .int .i64 2] W fun e w' => e = .returned (.tuple #[.int .u64 1, .bool true]) ∧ Below W.heap.size W w' :=
  (Tryd.When_any k4.2.1 s k4.2.2 2 W h.at k4_ok.2.1).mono fun e w' ⟨h1, h3⟩ => ⟨by rw [h1, k4_when], h3⟩
theorem Tryd.wkReady (W : World) (s : Ls) (n₀ : Nat) (h : LO n₀ k4.2.2 s W) : Calls Tryd.prog 15 #[.agg #[.int .u64 (k4.2.1 : Nat), .slice (s.a 0) (s.n 0) (s.c 0), .slice (s.a 1) (s.n 1) (s.c 1), .slice (s.a 2) (s.n 2) (s.c 2)]] W fun e w' => (∃ (a : Option Addr) (c : Nat), e = .returned (.slice a 1 c) ∧ PAt w' (.slice a 1 c) [(1, 0)]) ∧ Below W.heap.size W w' :=
  (Tryd.Ready_any k4.2.1 s k4.2.2 W h.at k4_ok.2.1).mono fun e w' ⟨v, h1, h2, h3⟩ => by
    rw [k4_ready] at h2
    obtain ⟨a, c, rfl⟩ := h2.form
    exact ⟨⟨a, c, h1, h2.at⟩, h3⟩
theorem Tryd.wkHeld (W : World) (s : Ls) (n₀ : Nat) (h : LO n₀ k4.2.2 s W) : Calls Tryd.prog 16 #[.agg #[.int .u64 (k4.2.1 : Nat), .slice (s.a 0) (s.n 0) (s.c 0), .slice (s.a 1) (s.n 1) (s.c 1), .slice (s.a 2) (s.n 2) (s.c 2)]] W fun e w' => (∃ (a : Option Addr) (c : Nat), e = .returned (.slice a 2 c)) ∧ Below W.heap.size W w' :=
  (Tryd.Held_any k4.2.1 s k4.2.2 W h.at k4_ok.2.1).mono fun e w' ⟨v, h1, h2, h3⟩ => by
    obtain ⟨a, c, rfl⟩ := h2.form
    rw [k4_held] at h1
    exact ⟨⟨a, c, h1⟩, h3⟩
end Go.Proofs
