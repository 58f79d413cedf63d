/- Ctrl: slots, told. -/
import Derived.Test.YtmjlaienklheiaaJa
import Derived.Test.YtmjlaienklheiaaGw
namespace Go.Proofs
set_option maxRecDepth 100000
open Go.RowKit Go.Shelf
attribute [local go_sem] Oper.semAt_some

set_option maxHeartbeats 4000000 in
theorem Try.slots1_tells (d : Nat) (T : TypeId → Bool) (hT : T 108 = false) (Bs x : Nat) (w : World) (hBs : Rows8 w Bs 59 #[.int .u64 x]) :
    TellsX Fence.wide d Try.prog 73 #[.pointer (some ⟨Bs, 0, none⟩)] (encK x) (Kq T) (fun xs => xs = List.range 8) Lane w := fun l J Jx Jp W hW hJ hJx hJp hY h0 => by
  have HY := Lib.hid hY
  have c0 : (W.alloc (.cells #[.func (.yield l) #[] #[]] 108)).cell? ⟨Bs, 0, none⟩ = some (.int .u64 x) := ((hBs.below hW hBs.lt).alloc _).cell 0
  have d3 := (Rows8.new W 108 #[.func (.yield l) #[] #[]])
  have hJ0 := hJ.alloc (.cells #[.func (.yield l) #[] #[]] 108) h0
  have hsz : W.heap.size ≤ (W.alloc (.cells #[.func (.yield l) #[] #[]] 108)).heap.size := by simp
  clear hY hBs h0 hW
  refine callsIn_of_wpAt Try.func73 rfl ?_
  simp only [Try.ntmps73, List.size_toArray, List.length_cons, List.length_nil, Nat.reduceAdd, Nat.reduceSub, Array.replicate_succ, Array.replicate_zero, List.push_toArray, List.append_toArray, List.nil_append, List.cons_append]
  refine wpAt_seq (wpAt_of (n := 9) ?_)
  gi_wp2
  refine wpAt_seq (wpAt_of (n := 9) ?_)
  gi_wp2_with (refine ⟨trivial, ?_⟩; gi_at_call 40; refine (callsIn_wide.2 (Try.bytes_any _ _)).mono ?_; rintro e w' ⟨rfl, rfl⟩)
  have d4 := d3.alloc (.cells #[.int .u64 x] 59)
  have hJ1 := hJ.alloc (.cells #[.int .u64 x] 59) hJ0
  have d5 := Rows8.new (W.alloc (.cells #[.func (.yield l) #[] #[]] 108)) 59 #[.int .u64 x]
  rw [World.size_alloc] at d5
  have hsz2 : W.heap.size ≤ ((W.alloc (.cells #[.func (.yield l) #[] #[]] 108)).alloc (.cells #[.int .u64 x] 59)).heap.size := by simp; omega
  clear c0 d3 hJ0 hsz
  generalize ((W.alloc (.cells #[.func (.yield l) #[] #[]] 108)).alloc (.cells #[.int .u64 x] 59)) = W0 at *
  have HT := Lib.hid (Try.bytes1_tells 9 (Kq T) _ x W0 d5)
  clear d5
  refine wpAt_block ?_
  refine range_tellsP2 Try.func73 (n := 9) (gf := 52) (lb := #[.pointer (some ⟨W.heap.size + 1, 0, none⟩)]) rfl (enters_of Try.func52 (by kernel_rfl) rfl) HT.out kq_t (kq_b (B := W0.heap.size)) (Below.refl _ _) (fun _ => rfl)
    (fun pre W' => J pre W' ∧ Rows8 W' W.heap.size 108 #[.func (.yield l) #[] #[]])
    (fun c pre W' => c = .ret ∧ Jx pre W') Jp
    (OwnFrom.and (ownFrom_mono hJ hsz2) (Own.from (Rows8.own _ _ _) _))
    (fun c => OwnFrom.and (ownFrom_pure _ _) (ownFrom_mono hJx hsz2))
    (ownFrom_mono hJp hsz2) ⟨hJ1, d4⟩
    (fun y a' _ => a' = { tmps := #[.func (.yield l) #[] #[], .pointer (some ⟨Bs, 0, none⟩), .pointer (some ⟨W.heap.size, 0, none⟩), .int .i64 (y : Nat), .int .u8 (byt x y : Nat), .int .u64 x, .func (.func 52) #[] #[.pointer (some ⟨W.heap.size + 1, 0, none⟩)], .int .i64 (y : Nat), .int .u8 (byt x y : Nat), undef, undef, undef, undef, undef, undef], defers := [] })
    (fun y a' s X Y row hs hg hr => hs) ?assign ?body ?done ?stop ?pan
  case assign =>
    rintro l2 pre y W' K ⟨hj, hb⟩ hK
    unfold encB
    gi_wp2
    exact hK _ _ (KeepsFrom.refl _ _) (Kq.refl _ _) ⟨hj, hb⟩ rfl
  case body =>
    rintro l2 pre y a' W' ⟨hj, hb⟩ rfl hok
    have z3 := hb.cell 0
    simp at z3
    have hmx : Try.prog.follows .mixedOrders = true := by kernel_rfl
    have HB := Lib.hid hb
    have HJd : Hid (J pre W'.drew) := Lib.hid (hJ pre W' W'.drew none hj ⟨rfl, rfl, rfl, Nat.le_refl _, fun _ _ _ => rfl⟩ (fun r e => by cases e))
    obtain ⟨fn, tmps, asg, body, hy, hR⟩ := yield_any rfl 7 (HY.out pre y _ HJd.out hok)
    unfold encK at hy
    have HS := Lib.hid (quietR (Try.said_any (byt x y) W'.drew))
    clear hb hj
    gi_wp2
    refine wpIn_region_still_tail (free_round l2) 4 hmx rfl (by kernel_rfl) ?_
    simp only [List.take_succ_cons, List.take_zero, List.drop_succ_cons, List.drop_zero]
    repeat still_step
    still_call HS.out
    repeat still_step
    refine wpStill_nil ?_
    gi_wp2_with fail
    refine (show RoundIn (Fence.wide.inRound l2) _ _ _ _ _ _ _ _ _ from hR).mono ?_
    have hbel : Below W'.heap.size W' W'.drew := (Below.refl _ W').drew
    rintro e W3 (⟨rfl, hJ3, hk3, ht3⟩ | ⟨rfl, hJx3, hk3⟩ | ⟨ch, rfl, hJp3, hk3⟩)
    · have HJ3 := Lib.hid hJ3
      have HK3 := Lib.hid hk3
      have HT3 := Lib.hid ((Kq.of_below hbel).trans ht3)
      clear hJ3 hk3 ht3
      gi_wp2_with fail
      exact ⟨keepsFrom_mono ⟨HK3.out.size, HK3.out.same⟩ hsz2, HT3.out, HJ3.out, HT3.out.rows HB.out hT⟩
    · have HJ3 := Lib.hid hJx3
      have HK3 := Lib.hid hk3
      clear hJx3 hk3
      gi_wp2_with fail
      exact ⟨keepsFrom_mono ⟨HK3.out.size, HK3.out.same⟩ hsz2, rfl, HJ3.out⟩
    · exact ⟨rfl, keepsFrom_mono ⟨hk3.size, hk3.same⟩ hsz2, hJp3⟩
  case done =>
    rintro D ys W' hD rfl ⟨hj, hb⟩ hK
    refine ⟨by simp, .inl ⟨_, _, rfl, run_takeDeferred hK, ?_⟩⟩
    exact ⟨_, results_none rfl _ _ _, .inl ⟨⟨_, rfl⟩, .inl ⟨_, rfl, (ownFrom_mono hJ hsz2).putObj _ hj hD hK rfl⟩⟩⟩
  case stop =>
    rintro D c pre W' hD ⟨rfl, hj⟩ hK
    gi_wp2
    refine ⟨by simp, .inl ⟨_, _, rfl, run_takeDeferred hK, ?_⟩⟩
    exact ⟨_, results_none rfl _ _ _, .inl ⟨⟨_, rfl⟩, .inr ⟨_, (ownFrom_mono hJx hsz2).putObj _ hj hD hK rfl⟩⟩⟩
  case pan =>
    rintro D ch pre W' hD hj hK
    refine ⟨by simp, .inl ⟨_, _, rfl, run_takeDeferred hK, ?_⟩⟩
    exact .inr ⟨_, _, rfl, (ownFrom_mono hJp hsz2).putObj _ hj hD hK rfl⟩
end Go.Proofs
