/- Ctrl: what a draft's lane is; a byte laid into it. -/
import Derived.Test.YtmjlaienklheiaaJe
import Derived.ArgAppend
import Derived.Defers
import Derived.Recover
namespace Go.Proofs
set_option maxRecDepth 100000
open Go.RowKit Go.Shelf
attribute [local go_sem] Oper.semAt_some

def panic1 (n : Int) : List PanicEntry := [{ v := .iface 27 (.int .i64 n), recovered := false }]
theorem quiet_same {P : Program} {f : FuncId} {args : Array Value} {w : World} {n : Nat} {v : Value} (h : Calls P f args (w.drewN n) fun e w' => e = .returned v ∧ w.drewN n = w') : Calls P f args (w.drewN n) fun e w'' => e = .returned v ∧ ∃ m, w'' = w.drewN m :=
  h.mono fun _ _ ⟨he, hm⟩ => ⟨he, n, hm.symm⟩
/-- A draft: the block's first cells. -/
structure Draft (W : World) (D : Nat) (t : TypeId) (cs : Array Value) (x : Nat) (lane : Int) (h : Nat) : Prop where
  row : Rows8 W D t cs
  e0 : cs[0]? = some (.int .u64 x)
  e1 : cs[1]? = some (.int .i64 lane)
  e2 : cs[2]? = some (.int .u8 h)
theorem Draft.c0 {W : World} {D : Nat} {t : TypeId} {cs : Array Value} {x : Nat} {lane : Int} {h : Nat} (d : Draft W D t cs x lane h) : W.cell? ⟨D, 0, none⟩ = some (.int .u64 x) := (d.row.cell 0).trans d.e0
theorem Draft.c1 {W : World} {D : Nat} {t : TypeId} {cs : Array Value} {x : Nat} {lane : Int} {h : Nat} (d : Draft W D t cs x lane h) : W.cell? ⟨D, 1, none⟩ = some (.int .i64 lane) := (d.row.cell 1).trans d.e1
theorem Draft.c2 {W : World} {D : Nat} {t : TypeId} {cs : Array Value} {x : Nat} {lane : Int} {h : Nat} (d : Draft W D t cs x lane h) : W.cell? ⟨D, 2, none⟩ = some (.int .u8 h) := (d.row.cell 2).trans d.e2
theorem Draft.below {A B : World} {D : Nat} {t : TypeId} {cs : Array Value} {x : Nat} {lane : Int} {h : Nat} {n : Nat} (d : Draft A D t cs x lane h) (p : Below n A B) (hn : D < n) : Draft B D t cs x lane h := ⟨d.row.below p hn, d.e0, d.e1, d.e2⟩
theorem Draft.drew {A : World} {D : Nat} {t : TypeId} {cs : Array Value} {x : Nat} {lane : Int} {h : Nat} (d : Draft A D t cs x lane h) : Draft A.drew D t cs x lane h := ⟨d.row, d.e0, d.e1, d.e2⟩

def isE (x : Nat) (lane : Int) : Int := if lane < 0 ∨ 8 ≤ lane then 110 else 0
/-- What is tells, or panics of. -/
def IsQ (x : Nat) (lane : Int) (w : World) (e : Ending) (w' : World) : Prop := Below w.heap.size w w' ∧ (∃ n, w' = w.drewN n) ∧
  ((∃ k : Nat, lane = k ∧ k < 8 ∧ e = .returned (.int .i64 (kd (byt x k) : Nat))) ∨ ((lane < 0 ∨ 8 ≤ lane) ∧ e = .panicked (panic1 110)))
set_option maxHeartbeats 2000000 in
theorem Try.is_any (x : Nat) (lane : Int) (h D : Nat) (t : TypeId) (cs : Array Value) (w : World) (hD : Draft w D t cs x lane h) : Calls Try.prog 59 #[.pointer (some ⟨D, 0, none⟩)] w (IsQ x lane w) := by
  have c0 := hD.c0
  have c1 := hD.c1
  have hl := hD.row.lt
  have hmx : Try.prog.follows .mixedOrders = true := by kernel_rfl
  clear hD
  by_cases hb : lane < 0 ∨ 8 ≤ lane
  · have HG := Lib.hid fun W => Try.Get_no x lane hb W
    have HN := Lib.hid fun W => Try.cnumber_any x W
    have HB := Lib.hid hb
    clear hb
    go_enter Try.func59, Try.ntmps59
    go_wp2_with fail
    go_quiet (first | (go_at_call 54; refine quiet_same (HN.out _)) | (go_at_call 71; refine quiet_same (HG.out _)))
    go_wp2_with fail
    refine ⟨rfl, below_drewN (Below.refl _ _) _, ⟨_, rfl⟩, .inr ⟨HB.out, rfl⟩⟩
  · obtain ⟨k, rfl⟩ : ∃ k : Nat, lane = (k : Int) := ⟨lane.toNat, by omega⟩
    have hk : k < 8 := by omega
    have HG := Lib.hid fun W => Try.Get_yes x k hk W
    have HN := Lib.hid fun W => Try.cnumber_any x W
    have HS := Lib.hid fun W => Try.said_any (byt x k) W
    clear hb
    go_enter Try.func59, Try.ntmps59
    go_wp2_with fail
    go_quiet (first | (go_at_call 54; refine quiet_same (HN.out _)) | (go_at_call 71; refine quiet_same (HG.out _)))
    go_wp2_with (go_at_call 38; refine (HS.out _).mono ?_; rintro e w' ⟨rfl, rfl⟩)
    go_ret
    refine ⟨below_drewN (Below.refl _ _) _, ⟨_, rfl⟩, .inl ⟨k, rfl, hk, rfl⟩⟩
end Go.Proofs
