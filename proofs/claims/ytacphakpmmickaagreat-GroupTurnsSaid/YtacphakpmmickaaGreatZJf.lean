/- Ctrl: what a draft's lane is; a byte laid into it. -/
import Derived.Test.YtacphakpmmickaaGreatZJb
import Derived.ArgAppend
import Derived.Defers
import Derived.Recover
namespace Go.Proofs
set_option maxRecDepth 100000
set_option maxRecDepth 100000
open Go.RowKit Go.Shelf
attribute [local go_sem] Oper.semAt_some

def panic1 (n : Int) : List PanicEntry := [{ v := .iface 34 (.int .i64 n), recovered := false }]
theorem quiet_same {P : Program} {f : FuncId} {args : Array Value} {w : World} {n : Nat} {v : Value} (h : Calls P f args (w.drewN n) fun e w' => e = .returned v ∧ w.drewN n = w') : Calls P f args (w.drewN n) fun e w'' => e = .returned v ∧ ∃ m, w'' = w.drewN m :=
  h.mono fun _ _ ⟨he, hm⟩ => ⟨he, n, hm.symm⟩
/-- A draft: the block's first cells. -/
structure Draft (W : World) (D : Nat) (t : TypeId) (cs : Array Value) (x : Nat) (lane : Int) (h : Nat) : Prop where
  row : Rows8 W D t cs
  e0 : cs[0]? = some (.int .u64 x)
  e1 : cs[1]? = some (.int .i64 lane)
  e2 : cs[2]? = some (.int .u8 h)
theorem Draft.c0 {W : World} {D : Nat} {t : TypeId} {cs : Array Value} {x : Nat} {lane : Int} {h : Nat} (d : Draft W D t cs x lane h) : W.cell? ⟨D, 0, none⟩ = some (.int .u64 x) := (d.row.cell 0).trans d.e0
theorem Draft.c1 {W : World} {D : Nat} {t : TypeId} {cs : Array Value} {x : Nat} {lane : Int} {h : Nat} (d : Draft W D t cs x lane h) : W.cell? ⟨D, 1, none⟩ = some (.int .i64 lane) := (d.row.cell 1).trans d.e1
theorem Draft.c2 {W : World} {D : Nat} {t : TypeId} {cs : Array Value} {x : Nat} {lane : Int} {h : Nat} (d : Draft W D t cs x lane h) : W.cell? ⟨D, 2, none⟩ = some (.int .u8 h) := (d.row.cell 2).trans d.e2
theorem Draft.below {A B : World} {D : Nat} {t : TypeId} {cs : Array Value} {x : Nat} {lane : Int} {h : Nat} {n : Nat} (d : Draft A D t cs x lane h) (p : Below n A B) (hn : D < n) : Draft B D t cs x lane h := ⟨d.row.below p hn, d.e0, d.e1, d.e2⟩
theorem Draft.drew {A : World} {D : Nat} {t : TypeId} {cs : Array Value} {x : Nat} {lane : Int} {h : Nat} (d : Draft A D t cs x lane h) : Draft A.drew D t cs x lane h := ⟨d.row, d.e0, d.e1, d.e2⟩

def isE (x : Nat) (lane : Int) : Int := if lane < 0 ∨ 8 ≤ lane then 110 else 0
/-- What is tells, or panics of. -/
def IsQ (x : Nat) (lane : Int) (w : World) (e : Ending) (w' : World) : Prop := Below w.heap.size w w' ∧ (∃ n, w' = w.drewN n) ∧
  ((∃ k : Nat, lane = k ∧ k < 8 ∧ e = .returned (.int .i64 (kd (byt x k) : Nat))) ∨ ((lane < 0 ∨ 8 ≤ lane) ∧ e = .panicked (panic1 110)))
set_option maxHeartbeats 2000000 in
theorem Tryz.is_any (x : Nat) (lane : Int) (h D : Nat) (t : TypeId) (cs : Array Value) (w : World) (hD : Draft w D t cs x lane h) : Calls Tryz.prog 88 #[.pointer (some ⟨D, 0, none⟩)] w (IsQ x lane w) := by
  have c0 := hD.c0
  have c1 := hD.c1
  have hl := hD.row.lt
  have hmx : Tryz.prog.follows .mixedOrders = true := by kernel_rfl
  clear hD
  by_cases hb : lane < 0 ∨ 8 ≤ lane
  · have HG := Lib.hid fun W => Tryz.Get_no x lane hb W
    have HN := Lib.hid fun W => Tryz.cnumber_any x W
    have HB := Lib.hid hb
    clear hb
    go_enter Tryz.func88, Tryz.ntmps88
    go_wp2_with fail
    go_quiet (first | (go_at_call 78; refine quiet_same (HN.out _)) | (go_at_call 42; refine quiet_same (HG.out _)))
    go_wp2_with fail
    refine ⟨rfl, below_drewN (Below.refl _ _) _, ⟨_, rfl⟩, .inr ⟨HB.out, rfl⟩⟩
  · obtain ⟨k, rfl⟩ : ∃ k : Nat, lane = (k : Int) := ⟨lane.toNat, by omega⟩
    have hk : k < 8 := by omega
    have HG := Lib.hid fun W => Tryz.Get_yes x k hk W
    have HN := Lib.hid fun W => Tryz.cnumber_any x W
    have HS := Lib.hid fun W => Tryz.said_any (byt x k) W
    clear hb
    go_enter Tryz.func88, Tryz.ntmps88
    go_wp2_with fail
    go_quiet (first | (go_at_call 78; refine quiet_same (HN.out _)) | (go_at_call 42; refine quiet_same (HG.out _)))
    go_wp2_with (go_at_call 55; refine (HS.out _).mono ?_; rintro e w' ⟨rfl, rfl⟩)
    go_ret
    refine ⟨below_drewN (Below.refl _ _) _, ⟨_, rfl⟩, .inl ⟨k, rfl, hk, rfl⟩⟩
end Go.Proofs

/- Ctrl: a byte laid into a draft's lane. -/
namespace Go.Proofs
set_option maxRecDepth 100000
set_option maxRecDepth 100000
open Go.RowKit Go.Shelf
attribute [local go_sem] Oper.semAt_some

theorem setAll_one (x b k : Nat) (h : k < 8) : setAll (fun _ => b) x [⟨k, h⟩] = setB x k b := rfl
set_option maxHeartbeats 2000000 in
theorem Tryz.cput_any (x b k h D : Nat) (hk : k < 8) (hx : x < 18446744073709551616) (hb : b < 256) (t : TypeId) (cs : Array Value) (w : World) (hD : Draft w D t cs x k h) :
    Calls Tryz.prog 90 #[.pointer (some ⟨D, 0, none⟩), .int .u8 b] w fun e w' => (∃ v, e = .returned v) ∧ Rows8 w' D t (cs.setIfInBounds 0 (.int .u64 (setB x k b : Nat))) ∧ But w.heap.size D w w' := by
  have c0 := hD.c0
  have c1 := hD.c1
  have hl := hD.row.lt
  have hmx : Tryz.prog.follows .mixedOrders = true := by kernel_rfl
  have hB0 : Below w.heap.size w (w.drew.alloc (.cells #[.int .i64 k] 3)) := (Below.refl _ w).drew.alloc (Nat.le_refl _) _
  have hn : Rows8 (w.drew.alloc (.cells #[.int .i64 k] 3)) w.heap.size 3 #[.int .i64 k] := Rows8.new w.drew 3 #[.int .i64 k]
  have HP := Lib.hid (Tryz.Put_yes x b hx hb (some ⟨w.heap.size, 0, none⟩) 1 1 [⟨k, hk⟩] (by simp) (w.drew.alloc (.cells #[.int .i64 k] 3)) (.inr ⟨_, 0, 1, rfl, hn.lt, fun j hj => by
    obtain rfl : j = 0 := by simp [lanesInt] at hj; omega
    exact hn.cell 0⟩))
  rw [setAll_one] at HP
  have HN := Lib.hid fun W => Tryz.cnumber_any x W
  have HD := Lib.hid (hD.below hB0 hl)
  have HB := Lib.hid hB0
  have two : ∀ W', W' = w.drew ∨ W' = w.drew.alloc (.cells #[.int .i64 k] 3) → W'.cell? ⟨D, 0, none⟩ = some (.int .u64 x) ∧ W'.cell? ⟨D, 1, none⟩ = some (.int .i64 k) := fun W' hw => by
    rcases hw with rfl | rfl
    · exact ⟨c0, c1⟩
    · exact ⟨HD.out.c0, HD.out.c1⟩
  have TWO := Lib.hid two
  clear hD hB0 hn two hx hb
  go_enter Tryz.func90, Tryz.ntmps90
  go_wp2_with fail
  go_region_held3 (fun W' => W'.cell? ⟨D, 0, none⟩ = some (.int .u64 x) ∧ W'.cell? ⟨D, 1, none⟩ = some (.int .i64 k)) (first | exact TWO.out _ (.inl rfl) | exact TWO.out _ (.inr rfl) | exact ⟨HD2.out.c0, HD2.out.c1⟩ | simp [*]) (first
    | (go_at_call 78; refine (HN.out _).mono ?_; rintro e w' ⟨rfl, rfl⟩)
    | (go_at_call 100; refine HP.out.mono ?_; rintro e w2 ⟨rfl, hB2⟩; have HD2 := Lib.hid (HD.out.below hB2 (Nat.lt_of_lt_of_le hl HB.out.size)); have HB2 := Lib.hid (HB.out.trans (hB2.mono HB.out.size)); clear hB2))
  all_goals
    have c2 := HD2.out.c0
    have f2 := HD2.out.row.frozen 0
    go_wp2_with fail
    go_end0
    exact ⟨⟨_, rfl⟩, HD2.out.row.set 0 _, (But.of_below HB2.out).setCell _ _⟩
end Go.Proofs
