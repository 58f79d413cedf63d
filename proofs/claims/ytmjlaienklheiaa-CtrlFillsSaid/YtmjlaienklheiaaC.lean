/- lay, join, where of lanes. -/
import Derived.Test.YtmjlaienklheiaaB
namespace Go.Proofs
set_option maxRecDepth 100000
open Go.RowKit Go.Shelf
attribute [local go_sem] Oper.semAt_some

/-- Of a lane k says g, whatever block x holds. -/
def SaysBut (P : Program) (k : FuncId) (bnd cap : Array Value) (g : Nat → Value) (x : Nat) (w : World) : Prop :=
  ∀ (y : Fin 8) (W : World), But w.heap.size x w W → Calls P k (bnd.push (.int .i64 (y : Nat)) ++ cap) W fun e W' => e = .returned (g y) ∧ W = W'

set_option maxRecDepth 100000 in
set_option maxHeartbeats 2000000 in
theorem Try.lay_any (gf : Nat) (lb : Array Value) (k : FuncId) (bnd cap : Array Value) (Bd x0 h N : Nat) (g : Nat → Nat) (xs : List (Fin 8)) (Sp : List (Fin 8) → Prop) (w : World)
    (hx0 : x0 < 18446744073709551616) (hg : ∀ n, g n < 256) (hh : h ≤ w.heap.size)
    (hseq : SeqStopsK Fence.wide 2 Try.prog gf lb (fun y : Fin 8 => #[.int .i64 (y : Nat)]) (But h Bd) (fun ys => ys = xs) Sp N w)
    (hs : SaysBut Try.prog k bnd cap (fun n => .int .u8 (g n)) Bd w)
    (hd : Rows8 w Bd 99 #[.int .u64 x0])
    (ef : ∀ args w, (callFunc gf args).run Try.prog w = .ok (.enter gf args) w)
    (eg : ∀ args w, (callFunc k args).run Try.prog w = .ok (.enter k args) w) :
    Calls Try.prog 66 #[.func (.func gf) #[] lb, .func (.func k) bnd cap, .func (.func 69) #[.pointer (some ⟨Bd, 0, none⟩)] #[]] w fun e w' =>
      (∃ v, e = .returned v) ∧ Rows8 w' Bd 99 #[.int .u64 (setAll g x0 xs)] ∧ But w.heap.size Bd w w' := by
  refine (callsIn_wide (n := 3)).1 ?_
  refine callsIn_of_wp_marks Try.func66 rfl trivial ?_ rfl
  simp only [Try.ntmps66, List.size_toArray, List.length_cons, List.length_nil, Nat.reduceAdd, Nat.reduceSub, Array.replicate_succ, Array.replicate_zero, List.push_toArray, List.append_toArray, List.nil_append, List.cons_append]
  have HD := Lib.hid hd
  have HS := Lib.hid hs
  have HQ := Lib.hid hseq
  clear hd hs hseq
  gi_wp2_with fail
  have b0 := Rows8.new w 85 #[.func (.func k) bnd cap]
  have b0' := b0.alloc (.cells #[.func (.func 69) #[.pointer (some ⟨Bd, 0, none⟩)] #[]] 104)
  have b1 := Rows8.new (w.alloc (.cells #[.func (.func k) bnd cap] 85)) 104 #[.func (.func 69) #[.pointer (some ⟨Bd, 0, none⟩)] #[]]
  rw [World.size_alloc] at b1
  have hdl : Bd < w.heap.size := HD.out.lt
  have bd := (HD.out.alloc (.cells #[.func (.func k) bnd cap] 85)).alloc (.cells #[.func (.func 69) #[.pointer (some ⟨Bd, 0, none⟩)] #[]] 104)
  have hB0 : Below w.heap.size w ((w.alloc (.cells #[.func (.func k) bnd cap] 85)).alloc (.cells #[.func (.func 69) #[.pointer (some ⟨Bd, 0, none⟩)] #[]] 104)) := ((Below.refl _ w).alloc (Nat.le_refl _) _).alloc (by simp) _
  have hsz : ((w.alloc (.cells #[.func (.func k) bnd cap] 85)).alloc (.cells #[.func (.func 69) #[.pointer (some ⟨Bd, 0, none⟩)] #[]] 104)).heap.size = w.heap.size + 2 := by simp
  generalize ((w.alloc (.cells #[.func (.func k) bnd cap] 85)).alloc (.cells #[.func (.func 69) #[.pointer (some ⟨Bd, 0, none⟩)] #[]] 104)) = W0 at *
  clear b0
  have HSZ := Lib.hid hsz
  clear hsz
  refine wpIn_rangeFunc_ownG rfl (by omega) (gf := gf) (lb := lb) rfl trivial ef HQ.out but_t (but_b (by rw [HSZ.out]; omega)) hB0 (fun _ => rfl)
    (fun pre W => Rows8 W Bd 99 #[.int .u64 (setAll g x0 pre : Nat)] ∧ But (w.heap.size + 2) Bd W0 W)
    (fun _ _ _ => False)
    (OwnFrom.and (Own.from (Rows8.own _ _ (fun pre => #[.int .u64 (setAll g x0 pre : Nat)])) _) (ownFrom_but (by rw [HSZ.out]; exact Nat.le_refl _) (by rw [HSZ.out]; exact Nat.le_refl _)))
    (fun _ _ _ _ _ hs _ _ => hs)
    ⟨bd, But.refl _ _ _⟩
    (fun x => { tmps := #[.func (.func gf) #[] lb, .func (.func k) bnd cap, .func (.func 69) #[.pointer (some ⟨Bd, 0, none⟩)] #[], undef, .pointer (some ⟨w.heap.size, 0, none⟩), .pointer (some ⟨w.heap.size + 1, 0, none⟩), .int .i64 (x : Nat), .func (.func gf) #[] lb, .int .i64 (x : Nat), undef, undef, undef, undef, undef, undef], defers := [] }) ?assign ?body ?done ?stop
  case assign =>
    intro l x W K hK
    gi_wp2
    exact hK
  case body =>
    rintro l pre x W ⟨hr, hB⟩ _
    have hof : W.cell? ⟨w.heap.size, 0, none⟩ = some (.func (.func k) bnd cap) := (hB.cell (a := ⟨w.heap.size, 0, none⟩) (by simp) (by simp; omega)).trans (b0'.cell 0)
    have hpu : W.cell? ⟨w.heap.size + 1, 0, none⟩ = some (.func (.func 69) #[.pointer (some ⟨Bd, 0, none⟩)] #[]) := (hB.cell (a := ⟨w.heap.size + 1, 0, none⟩) (by simp) (by simp; omega)).trans (b1.cell 0)
    have hx := x.isLt
    have hbt : But w.heap.size Bd w W := (But.of_below hB0).trans ⟨hB.os, hB.tape, hB.output, hB.size, fun k a b => hB.block k (by omega) b⟩
    have hmx : Try.prog.follows .mixedOrders = true := by kernel_rfl
    have hlt := setAll_lt hg hx0 pre
    have hgx := hg x
    have hcl := hr.cell 0
    have hfr := hr.frozen 0
    have HR := Lib.hid hr
    have hputs : Calls Try.prog 69 #[.pointer (some ⟨Bd, 0, none⟩), .int .i64 (x : Nat), .int .u8 (g x : Nat)] W.drew fun e w' => (∃ v, e = .returned v) ∧ w' = (W.drew.setCell ⟨Bd, 0, none⟩ (.int .u64 (setB (setAll g x0 pre) x (g x)))).drew :=
      Try.put_any _ _ _ Bd hx hlt hgx W.drew hcl hfr
    have HP := Lib.hid hputs
    clear hr hputs hlt hgx ef hcl hfr
    gi_wp2
    have hofs : Calls Try.prog k (bnd.push (.int .i64 (x : Nat)) ++ cap) W.drew fun e W' => e = .returned (.int .u8 (g x : Nat)) ∧ W.drew = W' := HS.out x _ hbt.drew
    have HO := Lib.hid hofs
    clear hofs
    refine wpIn_region_still_tail (free_round l) 5 hmx rfl (by kernel_rfl) ?_
    simp only [List.take_succ_cons, List.take_zero, List.drop_succ_cons, List.drop_zero]
    repeat still_step
    still_call (quietR HO.out)
    repeat still_step
    refine wpStill_nil ?_
    gi_wp2_with (refine ⟨trivial, ?_⟩; gi_at_call 69; (with_reducible refine (CallsIn.inRound l (callsIn_wide.2 HP.out)).mono ?_); rintro e W1 ⟨⟨v, rfl⟩, rfl⟩)
    refine ⟨KeepsOthers.from (((KeepsOthers.setCell _ _ _).trans (KeepsOthers.drew _)).trans (KeepsOthers.drew _)) _, ((But.refl _ _ _).setCell _ _).drew.drew, ?_, (hB.setCell _ _).drew.drew⟩
    rw [setAll_snoc]
    exact (Rows8.set1 HR.out _).drew.drew
  case done =>
    rintro D ys W hD rfl ⟨hr, hB⟩ hK
    gi_wp2
    have hDn : Bd ≠ D := by have := HSZ.out; omega
    refine ⟨by simp, .inl ⟨_, _, rfl, run_takeDeferred hK, ?_⟩⟩
    refine ⟨_, results_none rfl _ _ _, ⟨_, rfl⟩, (World.putObj_heap_other hDn).trans hr, ?_⟩
    refine (But.of_below hB0).trans ?_
    refine But.trans ⟨hB.os, hB.tape, hB.output, hB.size, fun k a b => hB.block k (by omega) b⟩ (but_b (w := W0) hB0.size W D _ _ hD hK rfl rfl)
  case stop =>
    rintro D c pre W _ _ h _
    exact h.elim

theorem Try.join1_any (Bt : Nat) (g : Nat → Nat) (x : Nat) (w : World) (hb : Rows8 w Bt 81 (arr8 fun n => .int .u8 (g n))) (y : Fin 8) (W : World) (hW : But w.heap.size x w W) (hx : Bt ≠ x) :
    Calls Try.prog 68 #[.int .i64 (y : Nat), .pointer (some ⟨Bt, 0, none⟩)] W fun e W' => e = .returned (.int .u8 (g y : Nat)) ∧ W = W' := by
  have hc : W.cell? ⟨Bt, (y : Nat), none⟩ = some (.int .u8 (g y : Nat)) := (hW.cell (a := ⟨Bt, (y : Nat), none⟩) hb.lt hx).trans (by
    rw [hb.cell]
    obtain ⟨k, hk⟩ := y
    match k, hk with
    | 0, _ => rfl
    | 1, _ => rfl
    | 2, _ => rfl
    | 3, _ => rfl
    | 4, _ => rfl
    | 5, _ => rfl
    | 6, _ => rfl
    | 7, _ => rfl)
  have hy := y.isLt
  clear hb hW
  go_enter Try.func68, Try.ntmps68
  go_wp2
  go_ret
  exact ⟨rfl, rfl⟩

set_option maxHeartbeats 1000000 in
theorem Try.join_any (g : Nat → Nat) (hg : ∀ n, g n < 256) (w : World) :
    Calls Try.prog 55 #[.agg (arr8 fun n => .int .u8 (g n))] w fun e w' => e = .returned (.int .u64 (ofB g)) ∧ Below w.heap.size w w' := by
  unfold arr8
  go_enter Try.func55, Try.ntmps55
  go_wp2_with (go_at_call 67; refine (Try.in_any _ _).mono ?_; rintro e w' ⟨rfl, rfl⟩)
  have b0 : Rows8 (((w.alloc (.cells #[.int .u8 (g 0 : Nat), .int .u8 (g 1 : Nat), .int .u8 (g 2 : Nat), .int .u8 (g 3 : Nat), .int .u8 (g 4 : Nat), .int .u8 (g 5 : Nat), .int .u8 (g 6 : Nat), .int .u8 (g 7 : Nat)] 81)).alloc (.cells #[.int .u64 0] 99)).alloc (.cells #[.int .u8 255] 29)) w.heap.size 81 (arr8 fun n => .int .u8 (g n : Nat)) := ((Rows8.new w 81 #[.int .u8 (g 0 : Nat), .int .u8 (g 1 : Nat), .int .u8 (g 2 : Nat), .int .u8 (g 3 : Nat), .int .u8 (g 4 : Nat), .int .u8 (g 5 : Nat), .int .u8 (g 6 : Nat), .int .u8 (g 7 : Nat)]).alloc (.cells #[.int .u64 0] 99)).alloc (.cells #[.int .u8 255] 29)
  have b1 := (Rows8.new (w.alloc (.cells #[.int .u8 (g 0 : Nat), .int .u8 (g 1 : Nat), .int .u8 (g 2 : Nat), .int .u8 (g 3 : Nat), .int .u8 (g 4 : Nat), .int .u8 (g 5 : Nat), .int .u8 (g 6 : Nat), .int .u8 (g 7 : Nat)] 81)) 99 #[.int .u64 0]).alloc (.cells #[.int .u8 255] 29)
  have b2 := Rows8.new ((w.alloc (.cells #[.int .u8 (g 0 : Nat), .int .u8 (g 1 : Nat), .int .u8 (g 2 : Nat), .int .u8 (g 3 : Nat), .int .u8 (g 4 : Nat), .int .u8 (g 5 : Nat), .int .u8 (g 6 : Nat), .int .u8 (g 7 : Nat)] 81)).alloc (.cells #[.int .u64 0] 99)) 29 #[.int .u8 255]
  simp only [World.size_alloc] at b1 b2
  have hB0 : Below w.heap.size w (((w.alloc (.cells #[.int .u8 (g 0 : Nat), .int .u8 (g 1 : Nat), .int .u8 (g 2 : Nat), .int .u8 (g 3 : Nat), .int .u8 (g 4 : Nat), .int .u8 (g 5 : Nat), .int .u8 (g 6 : Nat), .int .u8 (g 7 : Nat)] 81)).alloc (.cells #[.int .u64 0] 99)).alloc (.cells #[.int .u8 255] 29)) := (((Below.refl _ w).alloc (Nat.le_refl _) _).alloc (by simp) _).alloc (by simp; omega) _
  have hsz : (((w.alloc (.cells #[.int .u8 (g 0 : Nat), .int .u8 (g 1 : Nat), .int .u8 (g 2 : Nat), .int .u8 (g 3 : Nat), .int .u8 (g 4 : Nat), .int .u8 (g 5 : Nat), .int .u8 (g 6 : Nat), .int .u8 (g 7 : Nat)] 81)).alloc (.cells #[.int .u64 0] 99)).alloc (.cells #[.int .u8 255] 29)).heap.size = w.heap.size + 3 := by simp
  generalize (((w.alloc (.cells #[.int .u8 (g 0 : Nat), .int .u8 (g 1 : Nat), .int .u8 (g 2 : Nat), .int .u8 (g 3 : Nat), .int .u8 (g 4 : Nat), .int .u8 (g 5 : Nat), .int .u8 (g 6 : Nat), .int .u8 (g 7 : Nat)] 81)).alloc (.cells #[.int .u64 0] 99)).alloc (.cells #[.int .u8 255] 29)) = W0 at *
  have HSZ := Lib.hid hsz
  clear hsz
  have hL := Try.lay_any 75 #[.pointer (some ⟨w.heap.size + 1 + 1, 0, none⟩)] 68 #[] #[.pointer (some ⟨w.heap.size, 0, none⟩)] (w.heap.size + 1) 0 (w.heap.size + 3) 8 g (lanesOf 255) _ W0 (by decide) hg (by rw [HSZ.out]; exact Nat.le_refl _)
    (Try.in_stops Fence.wide 2 rfl trivial rfl (by omega) (w.heap.size + 1 + 1) (w.heap.size + 3) (w.heap.size + 1) 255 (by decide) (by omega) (by omega) W0 (by rw [HSZ.out]; exact Nat.le_refl _) (b2.cell 0))
    (fun y W hW => Try.join1_any w.heap.size g (w.heap.size + 1) W0 b0 y W hW (by omega))
    b1 (enters_of Try.func75 (by kernel_rfl) rfl) (enters_of Try.func68 (by kernel_rfl) rfl)
  have HL := Lib.hid hL
  clear hL b0 b1 b2
  refine HL.out.mono ?_
  rintro e W1 ⟨⟨v, rfl⟩, hr, hB⟩
  rw [lanesOf_255] at hr
  have hc : W1.cell? ⟨w.heap.size + 1, 0, none⟩ = some (.int .u64 (ofB g)) := hr.cell 0
  clear hr
  go_wp2_with (go_at_call 70; refine (Try.number_any _ _).mono ?_; rintro e w' ⟨rfl, rfl⟩)
  go_ret
  exact ⟨rfl, hB0.trans (hB.below (by rw [HSZ.out]; omega) (by omega))⟩
end Go.Proofs
