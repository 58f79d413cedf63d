/- Group: views. -/
import Derived.Test.YtacphakpmmickaaGreatZTb
import Derived.Test.YtacphakpmmickaaGreatZJm
import Derived.Laws.EntriesVeiled
import Derived.Deep.WholeRow
import Derived.Deep.MidRow
import Derived.BigQuiet
namespace Go.Proofs
set_option maxRecDepth 100000
open Go.RowKit Go.Shelf
attribute [local go_sem] Oper.semAt_some

theorem Tryz.infoView : (Tryz.prog.info? 57).map (·.size) = some 17 := by kernel_rfl
theorem Tryz.infoGroup : (Tryz.prog.info? 25).map (·.size) = some 17 := by kernel_rfl
theorem wpList_loadV {P : Program} {ops : Array Oper} {rest : List Oper} {o : Oper} {a : Act} {w : World} {Q : Exit → Act → World → Prop} (hgd : o.guard = none) (ty : TypeId) (x : Operand) (ho : o.op = .load ty x)
    (p : Addr) (v : Value) (hx : a.eval x = .pointer (some p)) (hl : (loadVar ty p).run P w = .ok v w) (h : wpList P ops Q rest (a.put o.dst v) w) : wpList P ops Q (o :: rest) a w := by
  refine wpList_plain hgd fun K hK => ?_
  unfold Oper.wp
  simp only [execOp, ho, hx, Instr.loadAt, Instr.sureAddr, Sem.run_bind, Sem.run_pure, Result.andThen_ok, hl]
  exact hK _ _ h
theorem wpListIn_loadV {F : Fence} {n : Nat} {P : Program} {ops : Array Oper} {rest : List Oper} {o : Oper} {a : Act} {w : World} {Q : Exit → Act → World → Prop} (hgd : o.guard = none) (ty : TypeId) (x : Operand) (ho : o.op = .load ty x)
    (p : Addr) (v : Value) (hx : a.eval x = .pointer (some p)) (hl : (loadVar ty p).run P w = .ok v w) (h : wpListIn F n P ops Q rest (a.put o.dst v) w) : wpListIn F n P ops Q (o :: rest) a w := by
  refine wpListIn_plain hgd fun K hK => ?_
  unfold Oper.wpIn
  refine ⟨by simp [Oper.about, ho], ?_⟩
  rw [Oper.semAt_plain F _ _ (by rw [ho]; intro c hc; cases hc)]
  simp only [execOp, ho, hx, Instr.loadAt, Instr.sureAddr, Sem.run_bind, Sem.run_pure, Result.andThen_ok, hl]
  exact hK _ _ h
/-- A block that begins with a group's cells. -/
def GAt (W : World) (B : Nat) (t : TypeId) (g : Gr) : Prop := ∃ cs, Rows8 W B t (gc g ++ cs)
theorem Tryz.load_view {W : World} {B : Nat} {t : TypeId} {g : Gr} (h : Rows8 W B t (gc g)) : (loadVar 57 ⟨B, 0, none⟩).run Tryz.prog W = .ok (.agg (gc g)) W :=
  run_loadVar_row (P := Tryz.prog) W B t 57 _ (0, 0) _ h Tryz.underlying57 rfl (by rw [gc_size]; exact Tryz.infoView)
theorem Tryz.load_group {W : World} {B : Nat} {t : TypeId} {g : Gr} (h : Rows8 W B t (gc g)) : (loadVar 25 ⟨B, 0, none⟩).run Tryz.prog W = .ok (.agg (gc g)) W :=
  run_loadVar_row (P := Tryz.prog) W B t 25 _ (0, 0) _ h Tryz.underlying25 rfl (by rw [gc_size]; exact Tryz.infoGroup)

theorem Tryz.vfull_any (g : Gr) (w : World) : Calls Tryz.prog 37 #[.agg (gc g)] w fun e w' => e = .returned (.int .u8 (fm g : Nat)) ∧ Below w.heap.size w w' := by
  have HB := fun W => Lib.hid (Tryz.Below_any g.c 128 W)
  go_enter Tryz.func37, Tryz.ntmps37
  have h0 := Lib.hid (Rows8.new w 57 (gc g))
  have hc : (w.alloc (.cells (gc g) 57)).cell? ⟨w.heap.size, 0, none⟩ = some (.int .u64 (g.c : Nat)) := (h0.out.cell 0).trans (gc_0 g)
  have hB := Lib.hid ((Below.refl w.heap.size w).alloc (Nat.le_refl _) (.cells (gc g) 57))
  go_wp2_with fail
  go_at_call 64
  refine (HB _).out.mono ?_
  rintro e w1 ⟨rfl, h1⟩
  have H1 := Lib.hid (hB.out.trans (h1.mono (by simp)))
  clear h1
  go_wp2_with fail
  go_ret
  exact ⟨rfl, H1.out⟩

theorem Tryz.has_any (g : Gr) (key : Nat) (w : World) : Calls Tryz.prog 49 #[.agg (gc g), .int .u64 (key : Nat)] w fun e w' =>
    e = .returned (.func (.func 71) #[] #[.pointer (some ⟨w.heap.size, 0, none⟩), .pointer (some ⟨w.heap.size + 1, 0, none⟩)]) ∧ Below w.heap.size w w' ∧ Rows8 w' w.heap.size 57 (gc g) ∧ Rows8 w' (w.heap.size + 1) 22 #[.int .u64 (key : Nat)] := by
  go_enter Tryz.func49, Tryz.ntmps49
  have h0 := Lib.hid ((Rows8.new w 57 (gc g)).alloc (.cells #[.int .u64 (key : Nat)] 22))
  have h1 := Lib.hid (Rows8.new (w.alloc (.cells (gc g) 57)) 22 #[.int .u64 (key : Nat)])
  rw [World.size_alloc] at h1
  have hB := Lib.hid (((Below.refl w.heap.size w).alloc (Nat.le_refl _) (.cells (gc g) 57)).alloc (by simp) (.cells #[.int .u64 (key : Nat)] 22))
  go_wp2_with fail
  go_ret
  exact ⟨by simp, hB.out, h0.out, h1.out⟩

/-- What asks whether a lane has a key. -/
theorem Tryz.has1_says (g : Gr) (key B C : Nat) (w : World) (h0 : Rows8 w B 57 (gc g)) (h1 : Rows8 w C 22 #[.int .u64 (key : Nat)]) :
    Says8 Tryz.prog 71 #[] #[.pointer (some ⟨B, 0, none⟩), .pointer (some ⟨C, 0, none⟩)] (fun n => .bool (g.k n == key)) w := by
  intro y W hW
  have c0 : W.cell? ⟨B, 1 + (y : Nat), none⟩ = some (.int .u64 (g.k y : Nat)) := ((h0.below hW h0.lt).cell _).trans (gc_k g y y.isLt)
  have c1 : W.cell? ⟨C, 0, none⟩ = some (.int .u64 (key : Nat)) := (h1.below hW h1.lt).cell 0
  have hy : ((y : Nat) : Int) < 8 := by have := y.isLt; omega
  clear h0 h1 hW
  show Calls Tryz.prog 71 #[.int .i64 (y : Nat), .pointer (some ⟨B, 0, none⟩), .pointer (some ⟨C, 0, none⟩)] W _
  go_enter Tryz.func71, Tryz.ntmps71
  generalize ((y : Nat)) = n at *
  go_wp2
  go_quiet (fail)
  go_wp2
  go_ret
  exact ⟨by show Ending.returned (.bool (((g.k n : Nat) : Int) == ((key : Nat) : Int))) = _; rw [natEq_walk], ⟨_, rfl⟩⟩
end Go.Proofs

/- Group: the first lane of which it holds. -/
namespace Go.Proofs
set_option maxRecDepth 100000
open Go.RowKit Go.Shelf
attribute [local go_sem] Oper.semAt_some

def firstR (p : Nat → Bool) (l : List (Fin 8)) : Value := match firstL p l 0 with
  | none => .tuple #[.int .i64 0, .int .i64 0, .bool false]
  | some (a, n) => .tuple #[.int .i64 (a : Nat), .int .i64 (n : Nat), .bool true]
theorem lanes_le (m : Nat) : (lanesOf m).length ≤ 8 := lanesTo_length m 8
def hasF (B C : Nat) : Value := .func (.func 71) #[] #[.pointer (some ⟨B, 0, none⟩), .pointer (some ⟨C, 0, none⟩)]
theorem results_ccc {P : Program} {fn : Func} {p q r : Tmp} {ty uy xy : TypeId} (h : fn.results = #[.cell p ty, .cell q uy, .cell r xy]) (tmps : Array Value) (w : World) (B C D : Nat) (u v x : Value)
    (hp : tmps.getD p undef = .pointer (some ⟨B, 0, none⟩)) (hq : tmps.getD q undef = .pointer (some ⟨C, 0, none⟩)) (hr : tmps.getD r undef = .pointer (some ⟨D, 0, none⟩)) (h1 : (loadVar ty ⟨B, 0, none⟩).run P w = .ok u w) (h2 : (loadVar uy ⟨C, 0, none⟩).run P w = .ok v w) (h3 : (loadVar xy ⟨D, 0, none⟩).run P w = .ok x w) :
    (results fn tmps).run P w = .ok (.tuple #[u, v, x]) w := by
  have hp' : tmps[p]?.getD undef = .pointer (some ⟨B, 0, none⟩) := by simpa using hp
  have hq' : tmps[q]?.getD undef = .pointer (some ⟨C, 0, none⟩) := by simpa using hq
  have hr' : tmps[r]?.getD undef = .pointer (some ⟨D, 0, none⟩) := by simpa using hr
  simp [results, h, hp', hq', hr', asAddr, h1, h2, h3, Result.andThen]

/-- What lies there at the loop's rounds. -/
structure FirstI (B C : Nat) (w W : World) (n : Nat) : Prop where
  so : Rows8 W w.heap.size 37 #[hasF B C]
  r1 : Rows8 W (w.heap.size + 1) 3 #[.int .i64 0]
  r2 : Rows8 W (w.heap.size + 1 + 1) 3 #[.int .i64 0]
  r3 : Rows8 W (w.heap.size + 1 + 1 + 1) 4 #[.bool false]
  ask : Rows8 W (w.heap.size + 1 + 1 + 1 + 1) 3 #[.int .i64 (n : Nat)]
  bl : Below w.heap.size w W
/-- .. and behind one of which it holds. -/
structure FirstX (w W : World) (y n : Nat) : Prop where
  r1 : Rows8 W (w.heap.size + 1) 3 #[.int .i64 (y : Nat)]
  r2 : Rows8 W (w.heap.size + 1 + 1) 3 #[.int .i64 (n : Nat)]
  r3 : Rows8 W (w.heap.size + 1 + 1 + 1) 4 #[.bool true]
  bl : Below w.heap.size w W
theorem FirstI.below {B C : Nat} {w X Y : World} {n : Nat} (p : FirstI B C w X n) (h : Below X.heap.size X Y) : FirstI B C w Y n :=
  ⟨p.so.below h p.so.lt, p.r1.below h p.r1.lt, p.r2.below h p.r2.lt, p.r3.below h p.r3.lt, p.ask.below h p.ask.lt, p.bl.trans (h.mono p.bl.size)⟩
theorem FirstX.below {w X Y : World} {y n : Nat} (p : FirstX w X y n) (h : Below X.heap.size X Y) : FirstX w Y y n :=
  ⟨p.r1.below h p.r1.lt, p.r2.below h p.r2.lt, p.r3.below h p.r3.lt, p.bl.trans (h.mono p.bl.size)⟩
theorem FirstI.own {B C H : Nat} {w X Y : World} {n : Nat} {row : Option Nat} (p : FirstI B C w X n) (hH : w.heap.size ≤ H) (hg : X.grownBy Y row) (hr : ∀ r, row = some r → H ≤ r ∧ ∃ o : Obj, X.heap[r]? = some o ∧ o.isCells = false) : FirstI B C w Y n :=
  ⟨p.so.keep hg (fun r e => (hr r e).2), p.r1.keep hg (fun r e => (hr r e).2), p.r2.keep hg (fun r e => (hr r e).2), p.r3.keep hg (fun r e => (hr r e).2), p.ask.keep hg (fun r e => (hr r e).2), (ownFrom_below (β := Unit) (Nat.le_refl _) hH) () X Y row p.bl hg hr⟩
theorem FirstX.own {H : Nat} {w X Y : World} {y n : Nat} {row : Option Nat} (p : FirstX w X y n) (hH : w.heap.size ≤ H) (hg : X.grownBy Y row) (hr : ∀ r, row = some r → H ≤ r ∧ ∃ o : Obj, X.heap[r]? = some o ∧ o.isCells = false) : FirstX w Y y n :=
  ⟨p.r1.keep hg (fun r e => (hr r e).2), p.r2.keep hg (fun r e => (hr r e).2), p.r3.keep hg (fun r e => (hr r e).2), (ownFrom_below (β := Unit) (Nat.le_refl _) hH) () X Y row p.bl hg hr⟩

set_option maxRecDepth 100000 in
set_option maxHeartbeats 4000000 in
theorem Tryz.first_any (m : Nat) (hm : m < 256) (B C : Nat) (p : Nat → Bool) (w : World) (hs : Says8 Tryz.prog 71 #[] #[.pointer (some ⟨B, 0, none⟩), .pointer (some ⟨C, 0, none⟩)] (fun n => .bool (p n)) w) :
    Calls Tryz.prog 48 #[.int .u8 m, hasF B C] w fun e w' => e = .returned (firstR p (lanesOf m)) ∧ Below w.heap.size w w' := by
  unfold hasF
  refine (callsIn_wide (n := 9)).1 ?_
  refine callsIn_of_wp_marks Tryz.func48 rfl trivial ?_ rfl
  simp only [Tryz.ntmps48, List.size_toArray, List.length_cons, List.length_nil, Nat.reduceAdd, Nat.reduceSub, Array.replicate_succ, Array.replicate_zero, List.push_toArray, List.append_toArray, List.nil_append, List.cons_append]
  have HIn := fun W => Lib.hid (Tryz.gin_any m hm W)
  have HSo := Lib.hid hs
  clear hs
  gi_wp2_with fail
  have hI : ∀ (W : World), W = (((((w.alloc (.cells #[hasF B C] 37)).alloc (.cells #[.int .i64 0] 3)).alloc (.cells #[.int .i64 0] 3)).alloc (.cells #[.bool false] 4)).alloc (.cells #[.int .i64 0] 3)) → FirstI B C w W 0 := by
    rintro W rfl
    have z1 := Rows8.new (w.alloc (.cells #[hasF B C] 37)) 3 #[.int .i64 0]
    have z2 := Rows8.new ((w.alloc (.cells #[hasF B C] 37)).alloc (.cells #[.int .i64 0] 3)) 3 #[.int .i64 0]
    have z3 := Rows8.new (((w.alloc (.cells #[hasF B C] 37)).alloc (.cells #[.int .i64 0] 3)).alloc (.cells #[.int .i64 0] 3)) 4 #[.bool false]
    have z4 := Rows8.new ((((w.alloc (.cells #[hasF B C] 37)).alloc (.cells #[.int .i64 0] 3)).alloc (.cells #[.int .i64 0] 3)).alloc (.cells #[.bool false] 4)) 3 #[.int .i64 0]
    simp only [World.size_alloc] at z1 z2 z3 z4
    exact ⟨((((Rows8.new w _ _).alloc _).alloc _).alloc _).alloc _, ((z1.alloc _).alloc _).alloc _, (z2.alloc _).alloc _, z3.alloc _, z4,
      (((((Below.refl _ w).alloc (Nat.le_refl _) _).alloc (by simp) _).alloc (by simp; omega) _).alloc (by simp; omega) _).alloc (by simp; omega) _⟩
  have hi0 := hI _ rfl
  have hsz : (((((w.alloc (.cells #[hasF B C] 37)).alloc (.cells #[.int .i64 0] 3)).alloc (.cells #[.int .i64 0] 3)).alloc (.cells #[.bool false] 4)).alloc (.cells #[.int .i64 0] 3)).heap.size = w.heap.size + 5 := by simp
  clear hI
  unfold hasF at hi0 hsz
  generalize (((((w.alloc (.cells #[.func (.func 71) #[] #[.pointer (some ⟨B, 0, none⟩), .pointer (some ⟨C, 0, none⟩)]] 37)).alloc (.cells #[.int .i64 0] 3)).alloc (.cells #[.int .i64 0] 3)).alloc (.cells #[.bool false] 4)).alloc (.cells #[.int .i64 0] 3)) = W0 at *
  refine ⟨trivial, ?_⟩
  gi_at_call 63
  refine (callsIn_wide.2 (HIn _).out).mono ?_
  rintro e w1 ⟨Bs, n, cap, a, rfl, hn, hBs, hsrc, hB1⟩
  have hi1 := hi0.below hB1
  have hB1s := hB1.size
  have HSR := Lib.hid hsrc
  have HI1 := Lib.hid hi1
  have HN := Lib.hid hn
  clear hi0 hi1 hsrc hn hB1
  gi_wp2_with fail
  have HT := Lib.hid (Tryz.values1_tells 8 (by decide) (Kx (w.heap.size + 1 + 1 + 1 + 1)) W0.heap.size Bs n cap a (lanesOf m) HN (lanes_le m) w1 HSR.out (fun A B hk hs => hs.kx hk (by omega) (by omega)))
  refine range_tellsD rfl (by decide) (gf := 99) (lb := #[.pointer (some ⟨Bs, 0, none⟩)]) rfl trivial (enters_of Tryz.func99 (by kernel_rfl) rfl) HT.out kx_t kx_b (Below.refl _ _) (fun _ => rfl)
    (fun pre W => FirstI B C w W pre.length ∧ ∀ y ∈ pre, p (y : Fin 8) = false)
    (fun c pre W => c = .ret ∧ ∃ (q : List (Fin 8)) (y : Fin 8), pre = q ++ [y] ∧ (∀ z ∈ q, p (z : Fin 8) = false) ∧ p y = true ∧ FirstX w W y (q.length + 1))
    (fun s X Y row hs hg hr => ⟨hs.1.own (by omega) hg hr, hs.2⟩)
    (fun c s X Y row hs hg hr => by obtain ⟨e, q, y, h1, h2, h3, h4⟩ := hs; exact ⟨e, q, y, h1, h2, h3, h4.own (by omega) hg hr⟩)
    (fun s X Y hs hXY => ⟨hs.1.below hXY, hs.2⟩)
    (fun c s X Y hs hXY => by obtain ⟨e, q, y, h1, h2, h3, h4⟩ := hs; exact ⟨e, q, y, h1, h2, h3, h4.below hXY⟩)
    ⟨HI1.out, by simp⟩
    (fun y a' _ => a' = { tmps := #[.int .u8 m, .func (.func 71) #[] #[.pointer (some ⟨B, 0, none⟩), .pointer (some ⟨C, 0, none⟩)], undef, .pointer (some ⟨w.heap.size, 0, none⟩), .pointer (some ⟨w.heap.size + 1, 0, none⟩), .pointer (some ⟨w.heap.size + 1 + 1, 0, none⟩), .pointer (some ⟨w.heap.size + 1 + 1 + 1, 0, none⟩), .pointer (some ⟨w.heap.size + 1 + 1 + 1 + 1, 0, none⟩), .int .i64 (y : Nat), .int .u8 m, .func (.func 99) #[] #[.pointer (some ⟨Bs, 0, none⟩)], .int .i64 (y : Nat), undef, undef, undef, undef, undef, undef, undef], defers := [] })
    (fun y a' s X Y row hs hg hr => hs) ?assign ?body ?done ?stop
  case assign =>
    rintro l2 pre y W' K hj hK
    unfold enc1
    gi_wp2
    exact hK _ _ (KeepsFrom.refl _ _) (Kx.refl _ _) hj rfl
  case body =>
    rintro l2 pre y a' W ⟨hi, hp⟩ rfl hok
    have c0 : W.cell? ⟨w.heap.size, 0, none⟩ = some (hasF B C) := hi.so.cell 0
    have c4 : W.cell? ⟨w.heap.size + 1 + 1 + 1 + 1, 0, none⟩ = some (.int .i64 (pre.length : Nat)) := hi.ask.cell 0
    have f4 := hi.ask.frozen 0
    unfold hasF at c0
    have HI := Lib.hid hi
    have HP := Lib.hid hp
    have HSy := fun W' (h : Below w.heap.size w W') => Lib.hid (HSo.out y W' h)
    have hln : pre.length ≤ 8 := by
      have h := hok.length_le
      rw [List.length_append] at h
      exact Nat.le_trans (by omega) (lanes_le m)
    generalize hL : pre.length = L at *
    have HL := Lib.hid hL
    clear hi hp hok hL
    gi_wp2_with fail
    have hb2 := HI.out.bl.setCell (p := ⟨w.heap.size + 1 + 1 + 1 + 1, 0, none⟩) (by simp [Nat.add_assoc]) (.int .i64 ((L : Int) + 1))
    have hi2 : FirstI B C w (W.setCell ⟨w.heap.size + 1 + 1 + 1 + 1, 0, none⟩ (.int .i64 ((L : Int) + 1))) (L + 1) :=
      ⟨HI.out.so.setOther (by simp; omega) _, HI.out.r1.setOther (by simp; omega) _, HI.out.r2.setOther (by simp; omega) _, HI.out.r3.setOther (by simp) _, HI.out.ask.set1 _, hb2⟩
    have hk2 := (Kx.set (w.heap.size + 1 + 1 + 1 + 1) W 0 (.int .i64 ((L : Int) + 1)))
    have hks := KeepsOthers.setCell W ⟨w.heap.size + 1 + 1 + 1 + 1, 0, none⟩ (.int .i64 ((L : Int) + 1))
    generalize (W.setCell ⟨w.heap.size + 1 + 1 + 1 + 1, 0, none⟩ (.int .i64 ((L : Int) + 1))) = W2 at *
    have HI2 := Lib.hid hi2
    have HK2 := Lib.hid hk2
    have HKS := Lib.hid hks
    have c0 : W2.cell? ⟨w.heap.size, 0, none⟩ = some (hasF B C) := hi2.so.cell 0
    unfold hasF at c0
    have hso2 := HSy W2 hb2
    clear hi2 hk2 hks hb2
    gi_wp2_with fail
    refine ⟨trivial, ?_⟩
    refine (CallsIn.inRound l2 (callsIn_wide.2 hso2.out)).mono ?_
    rintro e W3 ⟨rfl, q, rfl⟩
    cases hpy : p y
    · have HPY := Lib.hid hpy
      clear hpy
      gi_wp2_with fail
      refine ⟨(HKS.out.trans (KeepsOthers.drewN' _ _)).from _, HK2.out.trans (Kx.of_below (below_drewN (Below.refl _ _) q)), ?_, ?_⟩
      · rw [List.length_append, HL.out]
        exact HI2.out.below (below_drewN (Below.refl _ _) q)
      · intro z hz
        rcases List.mem_append.1 hz with h | h
        · exact HP.out z h
        · rw [List.mem_singleton.1 h]; exact HPY.out
    · have HPY := Lib.hid hpy
      clear hpy
      have hi3 := HI2.out.below (below_drewN (Below.refl _ _) q)
      have HKD := Lib.hid (HKS.out.trans (KeepsOthers.drewN' _ q))
      generalize (W2.drewN q) = W3 at *
      have c4 : W3.cell? ⟨w.heap.size + 1 + 1 + 1 + 1, 0, none⟩ = some (.int .i64 ((L + 1 : Nat) : Int)) := hi3.ask.cell 0
      have d1 := hi3.r1.cell 0
      have d2 := hi3.r2.cell 0
      have d3 := hi3.r3.cell 0
      have f1 := hi3.r1.frozen 0
      have f2 := hi3.r2.frozen 0
      have f3 := hi3.r3.frozen 0
      simp at d1 d2 d3
      have HI3 := Lib.hid hi3
      clear hi3
      gi_wp2_with fail
      gi_region
      all_goals gi_wp2_with fail
      all_goals
        refine ⟨((HKD.out.trans ((KeepsOthers.setCell _ _ _).trans ((KeepsOthers.setCell _ _ _).trans (KeepsOthers.setCell _ _ _)))).trans (KeepsOthers.drewN' _ 1)).from _, rfl, pre, y, rfl, HP.out, HPY.out, ?_⟩
        rw [HL.out]
        exact ⟨(((HI3.out.r1.set1 _).setOther (by simp) _).setOther (by simp; omega) _).drew, (((HI3.out.r2.setOther (by simp) _).set1 _).setOther (by simp) _).drew, (((HI3.out.r3.setOther (by simp) _).setOther (by simp) _).set1 _).drew,
          (((HI3.out.bl.setCell (p := ⟨w.heap.size + 1, 0, none⟩) (by simp) _).setCell (p := ⟨w.heap.size + 1 + 1, 0, none⟩) (by simp; omega) _).setCell (p := ⟨w.heap.size + 1 + 1 + 1, 0, none⟩) (by simp; omega) _).drew⟩
  case done =>
    rintro D ys W hD rfl ⟨hi, hp⟩ hK
    have f1 := hi.r1.frozen 0
    have f2 := hi.r2.frozen 0
    have f3 := hi.r3.frozen 0
    have d1 : W.cell? ⟨w.heap.size + 1, 0, none⟩ = some (.int .i64 0) := hi.r1.cell 0
    have d2 : W.cell? ⟨w.heap.size + 1 + 1, 0, none⟩ = some (.int .i64 0) := hi.r2.cell 0
    have d3 : W.cell? ⟨w.heap.size + 1 + 1 + 1, 0, none⟩ = some (.bool false) := hi.r3.cell 0
    have HI := Lib.hid hi
    have HP := Lib.hid hp
    have HK := Lib.hid hK
    clear hi hp hK
    gi_wp2_with fail
    have hKE := ((KeepsOthers.setCell W ⟨w.heap.size + 1, 0, none⟩ (.int .i64 0)).trans ((KeepsOthers.setCell _ ⟨w.heap.size + 1 + 1, 0, none⟩ (.int .i64 0)).trans (KeepsOthers.setCell _ ⟨w.heap.size + 1 + 1 + 1, 0, none⟩ (.bool false)))).same D _ HK.out rfl
    have q1 := ((HI.out.r1.set1 (.int .i64 0)).setOther (a := ⟨w.heap.size + 1 + 1, 0, none⟩) (by simp) (.int .i64 0)).setOther (a := ⟨w.heap.size + 1 + 1 + 1, 0, none⟩) (by simp; omega) (.bool false)
    have q2 := ((HI.out.r2.setOther (a := ⟨w.heap.size + 1, 0, none⟩) (by simp) (.int .i64 0)).set1 (.int .i64 0)).setOther (a := ⟨w.heap.size + 1 + 1 + 1, 0, none⟩) (by simp) (.bool false)
    have q3 := ((HI.out.r3.setOther (a := ⟨w.heap.size + 1, 0, none⟩) (by simp) (.int .i64 0)).setOther (a := ⟨w.heap.size + 1 + 1, 0, none⟩) (by simp) (.int .i64 0)).set1 (.bool false)
    have q4 := (((HI.out.bl.setCell (p := ⟨w.heap.size + 1, 0, none⟩) (by simp) (.int .i64 0)).setCell (p := ⟨w.heap.size + 1 + 1, 0, none⟩) (by simp; omega) (.int .i64 0)).setCell (p := ⟨w.heap.size + 1 + 1 + 1, 0, none⟩) (by simp; omega) (.bool false))
    generalize (((W.setCell ⟨w.heap.size + 1, 0, none⟩ (.int .i64 0)).setCell ⟨w.heap.size + 1 + 1, 0, none⟩ (.int .i64 0)).setCell ⟨w.heap.size + 1 + 1 + 1, 0, none⟩ (.bool false)) = W5 at *
    refine ⟨by simp, .inl ⟨_, _, rfl, run_takeDeferred hKE, ?_⟩⟩
    refine ⟨_, results_ccc rfl _ _ (w.heap.size + 1) (w.heap.size + 1 + 1) (w.heap.size + 1 + 1 + 1) _ _ _ rfl rfl rfl (load_one (rows_put q1 hKE) (by kernel_rfl)) (load_one (rows_put q2 hKE) (by kernel_rfl)) (load_one (rows_put q3 hKE) (by kernel_rfl)), ?_, q4.trans (belowK_b (w := w) (Nat.le_refl _) W5 D _ _ (by omega) hKE rfl rfl)⟩
    unfold firstR
    rw [firstL_none _ 0 HP.out]
  case stop =>
    rintro D c pre W hD hpre ⟨rfl, q, y, rfl, hq, hy, hx⟩ hK
    obtain ⟨t, ht⟩ := hpre
    have e : firstL p (lanesOf m) 0 = some ((y : Nat), q.length + 1) := by
      rw [← ht, List.append_assoc, List.singleton_append, firstL_some q y t 0 hq hy, Nat.zero_add]
    have HE := Lib.hid e
    have hDs : w.heap.size + 5 ≤ D := by omega
    have HX : FirstX w (W.putObj D (.deferred none)) y (q.length + 1) := ⟨rows_put hx.r1 hK, rows_put hx.r2 hK, rows_put hx.r3 hK, hx.bl.trans (belowK_b (w := w) (Nat.le_refl _) W D _ _ (by omega) hK rfl rfl)⟩
    clear e ht hq hy hx hsz hBs hB1s
    gi_wp2_with fail
    refine ⟨by simp, .inl ⟨_, _, rfl, run_takeDeferred hK, ?_⟩⟩
    refine ⟨_, results_ccc rfl _ _ (w.heap.size + 1) (w.heap.size + 1 + 1) (w.heap.size + 1 + 1 + 1) _ _ _ rfl rfl rfl (load_one HX.r1 (by kernel_rfl)) (load_one HX.r2 (by kernel_rfl)) (load_one HX.r3 (by kernel_rfl)), ?_, HX.bl⟩
    unfold firstR
    rw [HE.out]
end Go.Proofs
