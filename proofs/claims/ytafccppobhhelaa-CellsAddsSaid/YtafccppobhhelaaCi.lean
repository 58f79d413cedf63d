/- The marks of one cell. -/
import Derived.Test.YtafccppobhhelaaCh
namespace Go.Proofs
open Go.RowKit Go.Shelf
attribute [local go_sem] Oper.semAt_some

theorem room_none {F : Fence} (hd : F.depth = none) (k : Nat) : F.room k := fun d h => by rw [hd] at h; cases h
theorem yield_any {F : Fence} (hd : F.depth = none) {m : Nat} (m' : Nat) {P : Program} {l : Nat} {args : Array Value} {W : World} {R : Ending → World → Prop} (h : YieldAt F m P l args W R) : YieldAt F m' P l args W R := by
  obtain ⟨fn, tmps, asg, body, hy, hR⟩ := h
  exact ⟨fn, tmps, asg, body, hy, hR.1, fun c cs _ => hR.2 c cs (room_none hd _)⟩

theorem Try.backward_tells (n n₀ Bs : Nat) (hn : 1 ≤ n) (a : Option Addr) (cap : Nat) (ms : List Mk) (hlen : ms.length ≤ 1000) (w : World) (hBs : Rows8 w Bs 40 #[.slice a ms.length cap]) (hM : OwnsMarks n₀ ms (.slice a ms.length cap) w) :
    Tells Fence.wide n Try.prog 95 #[.pointer (some ⟨Bs, 0, none⟩)] encM Tk (fun ys => ys = bwd ms) (fun pre => pre <+: bwd ms) ms.length w :=
  fun l J Jx W hW _ _ hY h0 => Try.backward1_in Fence.wide n trivial rfl hn l Bs n₀ a cap ms hlen J Jx (fun pre y W1 hj hl => (hY pre y W1 hj hl).mono fun _ _ h => h.imp (fun q => ⟨q.1, q.2.1, q.2.2.2⟩) (fun q => ⟨q.1, q.2.1⟩)) W (hBs.below hW hBs.lt) (owns_keep hM hW (Nat.le_refl _)) h0
theorem Try.all_tells (n n₀ Bs : Nat) (hn : 1 ≤ n) (a : Option Addr) (cap : Nat) (ms : List Mk) (hlen : ms.length ≤ 1000) (w : World) (hBs : Rows8 w Bs 40 #[.slice a ms.length cap]) (hM : OwnsMarks n₀ ms (.slice a ms.length cap) w) :
    Tells Fence.wide n Try.prog 97 #[.pointer (some ⟨Bs, 0, none⟩)] encM Tk (fun ys => ys = fwd ms) (fun pre => pre <+: fwd ms) ms.length w :=
  fun l J Jx W hW hJ _ hY h0 => Try.all1_in Fence.wide n trivial rfl hn l Bs n₀ a cap ms hlen J Jx (fun _ _ o hs => hJ.alloc o hs) (fun pre y W1 hj hl => (hY pre y W1 hj hl).mono fun _ _ h => h.imp (fun q => ⟨q.1, q.2.1, q.2.2.2⟩) (fun q => ⟨q.1, q.2.1⟩)) W (hBs.below hW hBs.lt) (owns_keep hM hW (Nat.le_refl _)) h0

theorem Rows8.own {β : Type} (B : Nat) (t : TypeId) (f : β → Array Value) : Own (fun (s : β) W => Rows8 W B t (f s)) := fun s X Y row hs hg hr =>
  (hg.block B hs.lt (fun e => by obtain ⟨o, ho, hc⟩ := hr B e.symm; rw [show X.heap[B]? = _ from hs] at ho; cases ho; cases hc)).trans hs
theorem ownFrom_mono {β : Type} {B B' : Nat} {I : β → World → Prop} (h : OwnFrom B I) (hB : B ≤ B') : OwnFrom B' I := fun s X Y row hs hg hr => h s X Y row hs hg (fun r e => ⟨Nat.le_trans hB (hr r e).1, (hr r e).2⟩)
/-- The marks of a cell, of those that come. -/
def filt (at_ : Int) (l : List (Nat × Mk)) : List Mk := (l.map Prod.snd).filter fun m => m.pl == at_
theorem filt_snoc (at_ : Int) (l : List (Nat × Mk)) (x : Nat × Mk) : filt at_ (l ++ [x]) = if x.2.pl = at_ then filt at_ l ++ [x.2] else filt at_ l := by
  unfold filt
  rw [List.map_append, List.filter_append]
  by_cases h : x.2.pl = at_
  · simp [h]
  · simp [h]
theorem filt_prefix {at_ : Int} {p l : List (Nat × Mk)} (h : p <+: l) : filt at_ p <+: filt at_ l := by
  obtain ⟨r, rfl⟩ := h
  unfold filt
  rw [List.map_append, List.filter_append]
  exact List.prefix_append _ _
theorem filt_length (at_ : Int) (l : List (Nat × Mk)) : (filt at_ l).length ≤ l.length := by
  unfold filt
  exact Nat.le_trans (List.length_filter_le _ _) (by simp)
def encM1 (m : Mk) : Array Value := #[.agg #[.int .i64 m.no, .int .i64 m.pl, .int .u64 m.was, .int .u64 m.is]]

theorem Try.of_any (f : Value) (at_ : Int) (w : World) (hf : ∃ gf lb, f = .func (.func gf) #[] lb) :
    Calls Try.prog 72 #[f, .int .i64 at_] w fun e w' => e = .returned (.func (.func 96) #[] #[.pointer (some ⟨w.heap.size, 0, none⟩), .pointer (some ⟨w.heap.size + 1, 0, none⟩)]) ∧ w' = (w.alloc (.cells #[f] 111)).alloc (.cells #[.int .i64 at_] 3) := by
  obtain ⟨gf, lb, rfl⟩ := hf
  go_enter Try.func72, Try.ntmps72
  go_wp2
  go_ret
  exact ⟨rfl, rfl⟩

set_option maxRecDepth 100000 in
set_option maxHeartbeats 4000000 in
theorem Try.of_tells (n B1 B2 gf : Nat) (hn : 3 ≤ n) (lb : Array Value) (at_ : Int) (en : List (Nat × Mk)) (w : World) (hB1 : Rows8 w B1 111 #[.func (.func gf) #[] lb]) (hB2 : Rows8 w B2 3 #[.int .i64 at_])
    (eg : ∀ args w, (callFunc gf args).run Try.prog w = .ok (.enter gf args) w) (hseq : Tells Fence.wide (n - 1) Try.prog gf lb encM Tk (fun ys => ys = en) (fun pre => pre <+: en) en.length w) :
    Tells Fence.wide n Try.prog 96 #[.pointer (some ⟨B1, 0, none⟩), .pointer (some ⟨B2, 0, none⟩)] encM1 Tk (fun ys => ys = filt at_ en) (fun pre => pre <+: filt at_ en) en.length w := fun l J Jx W hW hJ hJx hY h0 => by
  have HY := Lib.hid hY
  clear hY
  refine callsIn_of_wp_marks Try.func96 rfl trivial ?_ rfl
  simp only [Try.ntmps96, List.size_toArray, List.length_cons, List.length_nil, Nat.reduceAdd, Nat.reduceSub, Array.replicate_succ, Array.replicate_zero, List.push_toArray, List.append_toArray, List.nil_append, List.cons_append]
  have c1 := hB1.below hW hB1.lt
  have c2 := hB2.below hW hB2.lt
  have d1 := c1.alloc (.cells #[.func (.yield l) #[] #[]] 151)
  have d2 := c2.alloc (.cells #[.func (.yield l) #[] #[]] 151)
  have d3 := Rows8.new W 151 #[.func (.yield l) #[] #[]]
  have hW0 : Below w.heap.size w (W.alloc (.cells #[.func (.yield l) #[] #[]] 151)) := hW.alloc hW.size _
  have hJ0 : J [] (W.alloc (.cells #[.func (.yield l) #[] #[]] 151)) := hJ.alloc _ h0
  have hl1 := c1.lt
  have hl2 := c2.lt
  have x1 := d1.cell 0
  simp at x1
  have hsz : W.heap.size ≤ (W.alloc (.cells #[.func (.yield l) #[] #[]] 151)).heap.size := by simp
  gi_wp2_with fail
  generalize (W.alloc (.cells #[.func (.yield l) #[] #[]] 151)) = W0 at *
  refine range_tells rfl (by omega) (gf := gf) (lb := lb) rfl trivial eg hseq tk_t tk_b hW0 (fun _ => rfl)
    (fun pre W' => J (filt at_ pre) W' ∧ Rows8 W' B2 3 #[.int .i64 at_] ∧ Rows8 W' W.heap.size 151 #[.func (.yield l) #[] #[]])
    (fun c pre W' => c = .ret ∧ Jx (filt at_ pre) W')
    (OwnFrom.and (fun s => ownFrom_mono hJ hsz (filt at_ s)) (OwnFrom.and (Own.from (Rows8.own _ _ _) _) (Own.from (Rows8.own _ _ _) _)))
    (fun c => OwnFrom.and (ownFrom_pure _ _) (fun s => ownFrom_mono hJx hsz (filt at_ s)))
    ⟨hJ0, d2, d3⟩
    (fun x a' W' => ∃ Bx, Rows8 W' Bx 47 #[.int .i64 x.2.no, .int .i64 x.2.pl, .int .u64 x.2.was, .int .u64 x.2.is] ∧ a' = { tmps := #[.func (.yield l) #[] #[], .pointer (some ⟨B1, 0, none⟩), .pointer (some ⟨B2, 0, none⟩), .pointer (some ⟨W.heap.size, 0, none⟩), undef, .pointer (some ⟨Bx, 0, none⟩), .func (.func gf) #[] lb, .int .i64 (x.1 : Nat), .agg #[.int .i64 x.2.no, .int .i64 x.2.pl, .int .u64 x.2.was, .int .u64 x.2.is], undef, undef, undef, undef, undef, undef, undef, undef, undef, undef], defers := [] })
    (fun x a' s X Y row hs hg hr => by obtain ⟨Bx, h1, h2⟩ := hs; exact ⟨Bx, Own.from (Rows8.own (β := Unit) Bx _ (fun _ => _)) _ s X Y row h1 hg hr, h2⟩) ?assign ?body ?done ?stop
  case assign =>
    rintro l2 pre ⟨i, no, pl, was, is⟩ W' K ⟨hj, hb2, hb3⟩ hK
    unfold encM
    gi_wp2
    exact hK _ _ ((KeepsOthers.alloc _ _).from _) (Tk.alloc _ _) ⟨(ownFrom_mono hJ hsz).alloc _ hj, hb2.alloc _, hb3.alloc _⟩ ⟨W'.heap.size, Rows8.new _ _ _, rfl⟩
  case body =>
    rintro l2 pre ⟨i, no, pl, was, is⟩ a' W' ⟨hj, hb2, hb3⟩ ⟨Bx, hbx, rfl⟩ hlen
    have y0 := hbx.cell 0
    have y1 := hbx.cell 1
    have y2 := hbx.cell 2
    have y3 := hbx.cell 3
    have z2 := hb2.cell 0
    have z3 := hb3.cell 0
    simp at y0 y1 y2 y3 z2 z3
    have hsn := filt_snoc at_ pre (i, ⟨no, pl, was, is⟩)
    have HSN := Lib.hid hsn
    by_cases he : pl = at_
    · subst he
      obtain ⟨fn, tmps, asg, body, hy, hR⟩ := yield_any rfl (n - 1 - 1 - 1) (HY.out (filt pl pre) ⟨no, pl, was, is⟩ W' hj (Nat.lt_of_le_of_lt (filt_length _ _) hlen))
      unfold encM1 at hy
      dsimp only at hy
      have hq : (pl == pl) = true := by simp
      have HB2 := Lib.hid hb2
      have HB3 := Lib.hid hb3
      clear hsn hb2 hb3 hbx
      gi_wp2_with fail
      refine ⟨fun h => (by cases h), ?_⟩
      refine (show RoundIn (Fence.wide.inRound l2) _ _ _ _ _ _ _ _ _ from hR).mono ?_
      rintro e W3 (⟨rfl, hJ3, hk3, ht3⟩ | ⟨rfl, hJx3, hk3⟩)
      · gi_wp2
        exact ⟨keepsFrom_mono hk3 hsz, ht3, by rw [HSN.out, if_pos trivial]; exact hJ3, ht3.rows HB2.out (by decide) (by decide), ht3.rows HB3.out (by decide) (by decide)⟩
      · gi_wp2
        exact ⟨keepsFrom_mono hk3 hsz, rfl, by rw [HSN.out, if_pos trivial]; exact hJx3⟩
    · have hq : (pl == at_) = false := by simp [he]
      clear hsn
      have HJ := Lib.hid hj
      clear hj
      gi_wp2_with fail
      refine ⟨fun _ h => (by cases h), ?_⟩
      gi_wp2
      exact ⟨KeepsFrom.refl _ _, Tk.refl _, by rw [HSN.out, if_neg he]; exact HJ.out, hb2, hb3⟩
  case done =>
    rintro D ys W' hD rfl ⟨hj, hb2, hb3⟩ hK
    gi_wp2
    refine ⟨by simp, .inl ⟨_, _, rfl, run_takeDeferred hK, ?_⟩⟩
    exact ⟨_, results_none rfl _ _ _, ⟨_, rfl⟩, .inl ⟨_, rfl, (ownFrom_mono hJ hsz).putObj _ hj hD hK rfl⟩⟩
  case stop =>
    rintro D c pre W' hD hp ⟨rfl, hj⟩ hK
    gi_wp2
    refine ⟨by simp, .inl ⟨_, _, rfl, run_takeDeferred hK, ?_⟩⟩
    exact ⟨_, results_none rfl _ _ _, ⟨_, rfl⟩, .inr ⟨_, filt_prefix hp, (ownFrom_mono hJx hsz).putObj _ hj hD hK rfl⟩⟩
end Go.Proofs
