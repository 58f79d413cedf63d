/- Script: Encode. -/
import Derived.Test.YtfboppjedgfacaaZSv
import Derived.OrdersIn
namespace Go.Proofs
open Go.RowKit Go.Shelf
attribute [local go_sem] Oper.semAt_some

theorem numB_len10 {n : Nat} (h : n < 2 ^ 64) : 1 ≤ (numB n).length ∧ (numB n).length ≤ 10 := numB_length 9 n (by rw [show (128 : Nat) ^ (9 + 1) = 2 ^ 70 by decide]; omega)
theorem bytesOf_le : ∀ ns : List Int, (∀ x ∈ ns, W64 x) → (bytesOf ns).length ≤ 10 * ns.length := by
  intro ns
  induction ns with
  | nil => intro _; simp [bytesOf]
  | cons x t ih =>
    intro h
    have h1 := ih fun y hy => h y (List.mem_cons_of_mem _ hy)
    have h2 := h x List.mem_cons_self
    have h3 := (numB_len10 (n := x.toNat) (by have := h2.1; have := h2.2; omega)).2
    have e : bytesOf (x :: t) = numB x.toNat ++ bytesOf t := rfl
    rw [e, List.length_append, List.length_cons]
    omega
theorem listNums_w64 {l : List Cl4} (hl : l.length ≤ 10000) (ha : l.all isCallB = true) (hw : ∀ c ∈ l, c.wf) : ∀ x ∈ listNums l, W64 x := by
  intro x hx
  rcases List.mem_cons.1 hx with rfl | hx
  · exact ⟨by omega, by omega⟩
  · obtain ⟨c, hc, hx⟩ := List.mem_flatMap.1 hx
    obtain ⟨t, _, _, h1, h7⟩ := isCallB_takes (List.all_eq_true.1 ha c hc)
    obtain ⟨w1, w2, w3⟩ := hw c hc
    rcases List.mem_cons.1 hx with rfl | hx
    · exact ⟨by omega, by omega⟩
    · have := List.mem_of_mem_take hx
      simp at this
      rcases this with rfl | rfl | rfl <;> assumption
theorem listNums_le (l : List Cl4) : (listNums l).length ≤ 1 + 4 * l.length := by
  have := flat_le l
  unfold listNums
  rw [List.length_cons]
  omega
theorem listsNums_le : ∀ ls : List (List Cl4), (∀ l ∈ ls, l.length ≤ 10000) → (ls.flatMap listNums).length ≤ 40001 * ls.length := by
  intro ls
  induction ls with
  | nil => intro _; simp
  | cons l t ih =>
    intro h
    have h1 := ih fun y hy => h y (List.mem_cons_of_mem _ hy)
    have h2 := listNums_le l
    have h3 := h l List.mem_cons_self
    rw [List.flatMap_cons, List.length_append, List.length_cons]
    omega
/-- What mayBeB says, in parts. -/
theorem mayBe_parts {s : Scr} (h : mayBeB s = true) : (1 ≤ s.goers ∧ s.goers ≤ 8) ∧ (2 ≤ s.slabs ∧ s.slabs ≤ 128) ∧ s.lists.length ≤ 8 ∧ s.picks.length ≤ 4096 ∧ ∀ l ∈ s.lists, l.all isCallB = true := by
  rw [mayBeB_eq, Bool.and_eq_true, Bool.and_eq_true] at h
  obtain ⟨h1, h2, _⟩ := h
  have h1 := of_decide_eq_true h1
  exact ⟨⟨h1.1, h1.2.1⟩, ⟨h1.2.2.1, h1.2.2.2.1⟩, by omega, by omega, List.all_eq_true.1 h2⟩
theorem scrNums_ok {s : Scr} (hs : s.ok) (hw : s.wf) (h : mayBeB s = true) : (∀ x ∈ scrNums s, W64 x) ∧ (scrNums s).length ≤ 400000 := by
  obtain ⟨h1, h2, h3, h4, h5⟩ := mayBe_parts h
  obtain ⟨_, hl, _⟩ := hs
  obtain ⟨_, _, w3, w4, w5⟩ := hw
  have hle := listsNums_le s.lists hl
  rw [scrNums_eq]
  constructor
  · intro x hx
    rcases List.mem_append.1 hx with hx | hx
    · rcases List.mem_append.1 hx with hx | hx
      · simp at hx
        rcases hx with rfl | rfl | rfl
        · exact ⟨by omega, by omega⟩
        · exact ⟨by omega, by omega⟩
        · exact w3
      · obtain ⟨l, hl2, hx⟩ := List.mem_flatMap.1 hx
        exact listNums_w64 (hl l hl2) (h5 l hl2) (w4 l hl2) x hx
    · rcases List.mem_cons.1 hx with rfl | hx
      · exact ⟨by omega, by omega⟩
      · exact w5 x hx
  · simp only [List.length_append, List.length_cons, List.length_nil]
    omega

section
variable {F : Fence} {n : Nat} {P : Program}
theorem step_append_rowIn (w : World) {ops : Array Oper} {o : Oper} {a : Act} {K : Act → World → Prop} {Q : Exit → Act → World → Prop} {E : Prop} (hgd : o.guard = none) (s x : Operand) (t : TypeId)
    (ho : o.op = .call { callee := .builtin .append, args := #[s, x], argTypes := #[t, t] }) (base : Nat) (e : TypeId) (i : TypeInfo) (z : Value) (size bytes : Nat) (ht : P.underlying t = some (.slice e)) (hi : P.info? e = some i) (hz : i.zero = some z)
    (hsize : i.size = size) (hby : i.bytes = bytes) (hzs : z.cells.size = size) (hsz : 0 < size) (v : Value) (k : Nat) (xs : List Value) (hs : a.eval s = v) (hown : w.ownsRow base e size v k xs)
    (src : Value) (m : Nat) (news : List Value) (hx : a.eval x = src) (hr : RowAt w src m size news) (h1 : ∀ u ∈ news, u.oneCell' = true) (h63 : k + m ≤ maxLen) (hbytes : (k + m) * bytes ≤ 140737488355328) (hbase : base ≤ w.heap.size)
    (h : ∀ v' w', w'.ownsRow base e size v' (k + m) (xs ++ news) → w.grownBy w' v.ownBlock → (v'.ownBlock = v.ownBlock ∨ v'.ownBlock = some w.heap.size) → K (a.put o.dst v') w') :
    if Region.wanted o (yielded ops a.tmps) = true then Oper.wpIn F n P o a w K Q else E := by
  have hw : Region.wanted o (yielded ops a.tmps) = true := by simp [Region.wanted, hgd]
  rw [if_pos hw]
  obtain ⟨v', w', hrun, h2, h3, h4⟩ := run_append_row (P := P) w base t o.type e i z size bytes ht hi hz hsize hby hzs hsz v k xs hown src m news hr h1 h63 hbytes hbase
  unfold Oper.wpIn
  refine ⟨by simp [Oper.about, ho, resolve, Target.leads, Sem.run_pure], ?_⟩
  rw [Oper.semAt_plain F _ _ (by rw [ho]; intro c hc'; cases hc')]
  simp [execOp, ho, resolve, invoke, builtin, hs, hx, hrun, Result.andThen]
  exact h v' w' h2 h3 h4
end
theorem box_append {W w1 : World} {n₀ B : Nat} {t e : TypeId} {size : Nat} {v v' : Value} {k m : Nat} {xs ys : List Value} (hv : Boxed W B t v) (hte : t ≠ e) (hrow : W.ownsRow n₀ e size v k xs) (hn₀ : n₀ ≤ W.heap.size) (hB : n₀ ≤ B)
    (hown' : w1.ownsRow n₀ e size v' m ys) (hg : W.grownBy w1 v.ownBlock) : Boxed w1 B t v ∧ Boxed (w1.setCell ⟨B, 0, none⟩ v') B t v' ∧ (w1.setCell ⟨B, 0, none⟩ v').ownsRow n₀ e size v' m ys ∧ KeepsOthers W (w1.setCell ⟨B, 0, none⟩ v') ∧ Below n₀ W (w1.setCell ⟨B, 0, none⟩ v') := by
  have hv1 : Boxed w1 B t v := hv.kept hg (hv.not_row hte hrow)
  refine ⟨hv1, hv1.set v', hown'.kept (grownBy_setCell' w1 B v') (.inr (hv1.not_row hte hown').symm), ?_, ?_⟩
  · refine (KeepsOthers.of_grownBy hg fun j o ej hj => ?_).trans (KeepsOthers.setCell _ _ _)
    rcases hrow.2 with ⟨e1, _⟩ | ⟨g, cap, cur, e1, _, hgb, _⟩
    · rw [e1] at ej
      simp [Value.ownBlock] at ej
    · rw [e1] at ej
      obtain rfl : g = j := by simpa [Value.ownBlock] using ej
      rw [hgb] at hj
      cases hj
      rfl
  · exact ((Below.refl n₀ W).grown hg hn₀ (fun j ej => (World.ownsRow.lt hrow j ej).1)).setCell hB _
theorem bytesOf_snoc (l : List Int) (x : Int) : bytesOf (l ++ [x]) = bytesOf l ++ numB x.toNat := by rw [bytesOf_append, bytesOf_one]
theorem byteVals_append (a b : List Int) : byteVals (a ++ b) = byteVals a ++ byteVals b := by simp [byteVals]
theorem byteVals_one' (ws : List Int) : ∀ u ∈ byteVals ws, u.oneCell' = true := by
  intro u hu
  obtain ⟨b, _, rfl⟩ := List.mem_map.1 hu
  rfl

set_option maxRecDepth 100000 in
set_option maxHeartbeats 2000000 in
theorem Try.Encode_no (v : Value) (s : Scr) (hs : s.ok) (hmb : mayBeB s = false) (w : World) (h : ScrAt w v s) :
    Calls Try.prog 23 #[v] w fun e w' => e = .returned (.tuple #[.slice none 0 0, .int .i64 130]) ∧ Below w.heap.size w w' := by
  have HCK := fun W (hW : Below w.heap.size w W) => Lib.hid (Try.Check_any v s hs W (h.below hW))
  rw [hmb] at HCK
  obtain ⟨al, cl, ap, cp, rfl, hL, hP⟩ := h
  have HB0 := Lib.hid ((Below.refl w.heap.size w).alloc (Nat.le_refl _) (.cells #[.int .i64 s.goers, .int .i64 s.slabs, .int .u64 s.seed, .slice al s.lists.length cl, .slice ap s.picks.length cp] 26))
  have HC := HCK _ HB0.out
  clear HCK hL hP
  go_enter Try.func23, Try.ntmps23
  go_wp2_with fail
  refine HC.out.mono ?_
  rintro e w2 ⟨rfl, B2⟩
  have HB2 := Lib.hid (HB0.out.trans (B2.mono HB0.out.size))
  clear B2
  unfold scrErr
  go_wp2_with fail
  first | go_ret2 | go_ret
  exact ⟨rfl, HB2.out⟩

set_option maxRecDepth 100000 in
set_option maxHeartbeats 4000000 in
theorem Try.Encode_yes (v : Value) (s : Scr) (hs : s.ok) (hw : s.wf) (hmb : mayBeB s = true) (w : World) (h : ScrAt w v s) :
    Calls Try.prog 23 #[v] w fun e w' => ∃ u, e = .returned (.tuple #[u, .int .i64 0]) ∧ OwnsBytes w.heap.size (bytesOf (scrNums s)) u w' ∧ Below w.heap.size w w' := by
  have HCK := fun W (hW : Below w.heap.size w W) => Lib.hid (Try.Check_any v s hs W (h.below hW))
  rw [hmb] at HCK
  obtain ⟨g1, g2, g3, g4, g5⟩ := mayBe_parts hmb
  obtain ⟨n1, n2⟩ := scrNums_ok hs hw hmb
  obtain ⟨al, cl, ap, cp, rfl, hL, hP⟩ := h
  obtain ⟨hs1, hll, hs3⟩ := hs
  obtain ⟨g, b, sd, ls, ps⟩ := s
  dsimp only at *
  have HB0 := Lib.hid ((Below.refl w.heap.size w).alloc (Nat.le_refl _) (.cells #[.int .i64 g, .int .i64 b, .int .u64 sd, .slice al ls.length cl, .slice ap ps.length cp] 26))
  have HR0 := Lib.hid (Rows8.new w 26 #[.int .i64 g, .int .i64 b, .int .u64 sd, .slice al ls.length cl, .slice ap ps.length cp])
  have HC := HCK _ HB0.out
  have HNUM := Lib.hid n1
  have HLE := Lib.hid n2
  have HL := Lib.hid hL
  have HP := Lib.hid hP
  have HPAR := Lib.hid (And.intro g1 (And.intro g2 (And.intro g3 (And.intro g4 (And.intro g5 hll)))))
  obtain ⟨i0, hi, hz0, hz1, hz2⟩ := info_parts Try.infoByte
  clear HCK hw n1 n2 hmb g1 g2 g3 g4 g5 hll hL hP hs1 hs3
  generalize hll' : ls.length = ll at *
  generalize hpl' : ps.length = pl at *
  have HLL := Lib.hid hll'
  have HPL := Lib.hid hpl'
  clear hll' hpl'
  refine (callsIn_wide (n := 9)).1 ?_
  refine callsIn_of_wp_marks Try.func23 rfl trivial ?_ rfl
  simp only [Try.ntmps23, List.size_toArray, List.length_cons, List.length_nil, Nat.reduceAdd, Nat.reduceSub, Array.replicate_succ, Array.replicate_zero, List.push_toArray, List.append_toArray, List.nil_append, List.cons_append]
  gi_wp2_with fail
  refine ⟨trivial, ?_⟩
  refine (callsIn_wide.2 HC.out).mono ?_
  rintro e w2 ⟨rfl, B2⟩
  have HB2 := Lib.hid (HB0.out.trans (B2.mono HB0.out.size))
  have r2 := HR0.out.below B2 HR0.out.lt
  have HR2 := Lib.hid r2
  have hlt2 := r2.lt
  have k0 : w2.cell? ⟨w.heap.size, 0, none⟩ = some (.int .i64 g) := r2.cell 0
  have k1 : w2.cell? ⟨w.heap.size, 1, none⟩ = some (.int .i64 b) := r2.cell 1
  have k2 : w2.cell? ⟨w.heap.size, 2, none⟩ = some (.int .u64 sd) := r2.cell 2
  have k3 : w2.cell? ⟨w.heap.size, 3, none⟩ = some (.slice al ll cl) := r2.cell 3
  have k4 : w2.cell? ⟨w.heap.size, 4, none⟩ = some (.slice ap pl cp) := r2.cell 4
  unfold scrErr
  clear B2 r2 HC
  gi_wp2_with (refine ⟨trivial, ?_⟩; gi_at_call 44; refine (callsIn_wide.2 (Try.numbers_any _ _ _ _ _ _ _ _ _ _)).mono ?_; rintro e w' ⟨rfl, rfl⟩)
  have hBc : Below w.heap.size w ((w2.alloc (.cells #[.slice none 0 0] 38)).alloc (.cells #[.int .i64 g, .int .i64 b, .int .u64 sd, .slice al ll cl, .slice ap pl cp] 26)) := (HB2.out.alloc HB2.out.size _).alloc (by have := HB2.out.size; simp; omega) _
  have br := (Rows8.new w2 38 #[.slice none 0 0]).alloc (.cells #[.int .i64 g, .int .i64 b, .int .u64 sd, .slice al ll cl, .slice ap pl cp] 26)
  have bs := rows_new2 w2 (.cells #[.slice none 0 0] 38) 26 #[.int .i64 g, .int .i64 b, .int .u64 sd, .slice al ll cl, .slice ap pl cp]
  have hz : ((w2.alloc (.cells #[.slice none 0 0] 38)).alloc (.cells #[.int .i64 g, .int .i64 b, .int .u64 sd, .slice al ll cl, .slice ap pl cp] 26)).heap.size = w2.heap.size + 2 := by simp
  have hzw := HB2.out.size
  generalize (w2.alloc (.cells #[.slice none 0 0] 38)).alloc (.cells #[.int .i64 g, .int .i64 b, .int .u64 sd, .slice al ll cl, .slice ap pl cp] 26) = W0 at *
  obtain ⟨g1, g2, g3, g4, g5, g6⟩ := HPAR.out
  have HTL := Lib.hid (Try.numbers1_tells 8 w.heap.size 38 5 (by decide) (by decide) (by decide) (by decide) (by decide) (by decide) (by decide) (by decide) (w2.heap.size + 1) g b sd ls ps g1 g2 (by rw [HLL.out]; exact g3) g6 g5 (by rw [HPL.out]; exact g4) al ap ll cl pl cp w W0 (Nat.le_refl _) hBc bs HL.out HP.out)
  clear g1 g2 g3 g4 g5 g6 HPAR k0 k1 k2 k3 k4 bs HR2
  generalize hfull : scrNums ⟨g, b, sd, ls, ps⟩ = full at *
  have HF := Lib.hid hfull
  clear hfull
  refine range_tellsE rfl (by decide) (gf := 57) (lb := #[.pointer (some ⟨w2.heap.size + 1, 0, none⟩)]) rfl trivial (fun _ _ => by kernel_rfl) HTL.out kt_t kt_b (Below.refl _ _) (fun _ => rfl)
    (fun pre W' => (∃ u, Boxed W' w2.heap.size 38 u ∧ W'.ownsRow w.heap.size 5 1 u (bytesOf pre).length (byteVals (bytesOf pre)) ∧ True) ∧ Below w.heap.size w W')
    (OwnFrom.and (Own.from (holdsRow_own w.heap.size w2.heap.size 38 5 1 (fun pre => (bytesOf pre).length) (fun pre => byteVals (bytesOf pre)) (fun _ _ => True)) _) (ownFrom_below (Nat.le_refl _) (by omega)))
    (fun s X Y hs hXY => ⟨by obtain ⟨u, h1, h2, h3⟩ := hs.1; exact ⟨u, (hXY.block _ h1.lt).trans h1, owns_keep h2 hXY (Nat.le_refl _), h3⟩, hs.2.trans (hXY.mono hs.2.size)⟩)
    ⟨⟨_, br, World.ownsRow_nil _ _ _ _, trivial⟩, hBc⟩
    (fun x a' W' => a' = { tmps := #[.agg #[.int .i64 g, .int .i64 b, .int .u64 sd, .slice al ll cl, .slice ap pl cp], .pointer (some ⟨w.heap.size, 0, none⟩), .slice none 0 0, .int .i64 0, .int .i64 0, .pointer (some ⟨w2.heap.size, 0, none⟩), .int .u64 x, .agg #[.int .i64 g, .int .i64 b, .int .u64 sd, .slice al ll cl, .slice ap pl cp], .int .i64 0, .int .i64 0, .bool false, undef, .agg #[.int .i64 g, .int .i64 b, .int .u64 sd, .slice al ll cl, .slice ap pl cp], .func (.func 57) #[] #[.pointer (some ⟨w2.heap.size + 1, 0, none⟩)], .int .u64 x, undef, undef, undef, undef, undef], defers := [] })
    (fun x a' s X Y row hs hg hr => hs) ?assign ?body ?done
  case assign =>
    rintro l2 pre x W' K ⟨⟨u, hu, hr, _⟩, hB⟩ hK
    unfold encW
    gi_wp2
    exact hK _ _ (keepsFrom_below (Below.refl _ _)) (Kt.refl _ _ _ _) ⟨⟨u, hu, hr, trivial⟩, hB⟩ rfl
  case body =>
    rintro l2 pre x a' W' ⟨⟨u, hu, hr, _⟩, hB⟩ rfl hok
    have hxw : W64 x := HNUM.out x (hok.subset (by simp))
    have hpl0 := hok.length_le
    rw [List.length_append] at hpl0
    have hle0 := HLE.out
    have hbl := bytesOf_le pre (fun y hy => HNUM.out y (hok.subset (by simp [hy])))
    obtain ⟨k, rfl⟩ : ∃ k : Nat, x = (k : Int) := ⟨x.toNat, by have := hxw.1; omega⟩
    have hk : k < 2 ^ 64 := by have := hxw.2; omega
    have HN := Lib.hid fun W1 => Try.Number_any k hk W1
    have hnl := numB_len10 hk
    have HSN := Lib.hid (bytesOf_snoc pre (k : Int))
    obtain ⟨au, cu, rfl⟩ : ∃ au cu, u = .slice au (bytesOf pre).length cu := by
      obtain ⟨_, a, cap, h, _⟩ := rowAt_own hr
      exact ⟨a, cap, h⟩
    have HU := Lib.hid hu
    have HR := Lib.hid hr
    have HB := Lib.hid hB
    have c0 : W'.drew.cell? ⟨w2.heap.size, 0, none⟩ = some (.slice au (bytesOf pre).length cu) := hu.cell
    have hlt := hu.lt
    have hbl2 : (bytesOf pre).length ≤ 4000000 := by omega
    clear hu hr hB hxw hpl0 hle0 hbl hok hk
    rw [show ((k : Int)).toNat = k from rfl] at HSN
    gi_wp2_with fail
    have hW1 : Below w.heap.size w W'.drew := HB.out.drew
    refine wpIn_region_any (by kernel_rfl) ?_
    change wpAnyIn _ _ _ _ _ _ _ _ _ (World.drew _)
    refine wpAnyIn_ready (rs := [0, 1]) (by kernel_rfl) (by simp) ?_
    refine AllReadyIn.cons rfl (fun K hK => ?_) (AllReadyIn.cons rfl (fun K hK => ?_) AllReadyIn.nil)
    · go_simp
      first | (refine hK _ _ ?_; clear hK K) | skip
      refine wpAnyIn_ready (rs := [1]) (by kernel_rfl) (by simp) ?_
      refine AllReadyIn.cons rfl (fun K hK => ?_) AllReadyIn.nil
      go_simp
      first | (refine hK _ _ ?_; clear hK K) | skip
      refine wpAnyIn_ready (rs := [2]) (by kernel_rfl) (by simp) ?_
      refine AllReadyIn.cons rfl (fun K hK => ?_) AllReadyIn.nil
      go_simp
      gi_wp2_with (refine ⟨trivial, ?_⟩; gi_at_call 21; refine (CallsIn.inRound l2 (callsIn_wide.2 (HN.out _))).mono ?_; rintro e W1 ⟨v1, rfl, hO1, hB1⟩)
      have HO1 := Lib.hid hO1
      have HB1 := Lib.hid (show Below W'.heap.size W' W1 from (Below.refl _ W').drew.trans hB1)
      have c1 : W1.cell? ⟨w2.heap.size, 0, none⟩ = some (.slice au (bytesOf pre).length cu) := (HB1.out.cell (p := ⟨w2.heap.size, 0, none⟩) hlt).trans c0
      clear hO1 hB1
      first | (refine hK _ _ ?_; clear hK K) | skip
      refine wpAnyIn_ready (rs := [3]) (by kernel_rfl) (by simp) ?_
      refine AllReadyIn.cons rfl (fun K hK => ?_) AllReadyIn.nil
      obtain ⟨a1, c1', rfl⟩ : ∃ a c, v1 = .slice a (numB k).length c := by
        obtain ⟨_, a, cap, h, _⟩ := rowAt_own HO1.out
        exact ⟨a, cap, h⟩
      have hu1 : Boxed W1 w2.heap.size 38 (.slice au (bytesOf pre).length cu) := (HB1.out.block _ hlt).trans HU.out
      have hr1 := owns_keep HR.out HB1.out (Nat.le_refl _)
      have hw1 := HB.out.trans (HB1.out.mono HB.out.size)
      refine step_append_rowIn _ rfl _ _ 38 rfl w.heap.size 5 i0 (.int .u8 0) 1 1 Try.underlying38 hi hz0 hz1 hz2 rfl (by decide) (.slice au (bytesOf pre).length cu) _ _ rfl hr1 _ (numB k).length (byteVals (numB k)) rfl (rowAt_own HO1.out) (byteVals_one' _) (by unfold maxLen; omega) (by omega) hw1.size ?_
      intro v6 w6 hown6 hg6 _
      obtain ⟨g6, cap6, rfl⟩ : ∃ g c, v6 = .slice g ((bytesOf pre).length + (numB k).length) c := by
        obtain ⟨_, a, cap, h, _⟩ := rowAt_own hown6
        exact ⟨a, cap, h⟩
      obtain ⟨hv1, hv2, hr2, hk2, hb2⟩ := box_append hu1 (by decide) hr1 hw1.size hzw hown6 hg6
      have c6 := hv1.cell
      have f6 := hv1.frozen
      have hl6 := hv1.lt
      have ht2 := (((Kt.of_below HB1.out : Kt w.heap.size 38 5 W' W1)).grown (Nat.le_refl _) hr1 hg6).set (a := ⟨w2.heap.size, 0, none⟩) hv1 hzw (.inl rfl) (.slice g6 ((bytesOf pre).length + (numB k).length) cap6)
      have HT2 := Lib.hid ht2
      have HV2 := Lib.hid hv2
      have HR2 := Lib.hid hr2
      have HK2 := Lib.hid hk2
      have HBB2 := Lib.hid (hw1.trans hb2)
      clear hown6 hg6 hu1 hr1 ht2 hv1 hv2 hr2 hk2 hb2 c0 c1
      go_simp
      refine hK _ _ ?_
      clear hK K
      refine wpAnyIn_ready (rs := [4]) (by kernel_rfl) (by simp) ?_
      refine AllReadyIn.cons rfl (fun K hK => ?_) AllReadyIn.nil
      go_simp
      refine hK _ _ ?_
      clear hK K
      refine wpAnyIn_done (by kernel_rfl) ?_ _
      gi_wp2_with fail
      exact ⟨keepsFrom_trans' (keepsFrom_below HB1.out) (HK2.out.from _), HT2.out, ⟨_, HV2.out, by rw [HSN.out, List.length_append, byteVals_append]; exact HR2.out, trivial⟩, HBB2.out⟩
    · go_simp
      first | (refine hK _ _ ?_; clear hK K) | skip
      refine wpAnyIn_ready (rs := [0, 2]) (by kernel_rfl) (by simp) ?_
      refine AllReadyIn.cons rfl (fun K hK => ?_) (AllReadyIn.cons rfl (fun K hK => ?_) AllReadyIn.nil)
      · go_simp
        first | (refine hK _ _ ?_; clear hK K) | skip
        refine wpAnyIn_ready (rs := [2]) (by kernel_rfl) (by simp) ?_
        refine AllReadyIn.cons rfl (fun K hK => ?_) AllReadyIn.nil
        go_simp
        gi_wp2_with (refine ⟨trivial, ?_⟩; gi_at_call 21; refine (CallsIn.inRound l2 (callsIn_wide.2 (HN.out _))).mono ?_; rintro e W1 ⟨v1, rfl, hO1, hB1⟩)
        have HO1 := Lib.hid hO1
        have HB1 := Lib.hid (show Below W'.heap.size W' W1 from (Below.refl _ W').drew.trans hB1)
        have c1 : W1.cell? ⟨w2.heap.size, 0, none⟩ = some (.slice au (bytesOf pre).length cu) := (HB1.out.cell (p := ⟨w2.heap.size, 0, none⟩) hlt).trans c0
        clear hO1 hB1
        first | (refine hK _ _ ?_; clear hK K) | skip
        refine wpAnyIn_ready (rs := [3]) (by kernel_rfl) (by simp) ?_
        refine AllReadyIn.cons rfl (fun K hK => ?_) AllReadyIn.nil
        obtain ⟨a1, c1', rfl⟩ : ∃ a c, v1 = .slice a (numB k).length c := by
          obtain ⟨_, a, cap, h, _⟩ := rowAt_own HO1.out
          exact ⟨a, cap, h⟩
        have hu1 : Boxed W1 w2.heap.size 38 (.slice au (bytesOf pre).length cu) := (HB1.out.block _ hlt).trans HU.out
        have hr1 := owns_keep HR.out HB1.out (Nat.le_refl _)
        have hw1 := HB.out.trans (HB1.out.mono HB.out.size)
        refine step_append_rowIn _ rfl _ _ 38 rfl w.heap.size 5 i0 (.int .u8 0) 1 1 Try.underlying38 hi hz0 hz1 hz2 rfl (by decide) (.slice au (bytesOf pre).length cu) _ _ rfl hr1 _ (numB k).length (byteVals (numB k)) rfl (rowAt_own HO1.out) (byteVals_one' _) (by unfold maxLen; omega) (by omega) hw1.size ?_
        intro v6 w6 hown6 hg6 _
        obtain ⟨g6, cap6, rfl⟩ : ∃ g c, v6 = .slice g ((bytesOf pre).length + (numB k).length) c := by
          obtain ⟨_, a, cap, h, _⟩ := rowAt_own hown6
          exact ⟨a, cap, h⟩
        obtain ⟨hv1, hv2, hr2, hk2, hb2⟩ := box_append hu1 (by decide) hr1 hw1.size hzw hown6 hg6
        have c6 := hv1.cell
        have f6 := hv1.frozen
        have hl6 := hv1.lt
        have ht2 := (((Kt.of_below HB1.out : Kt w.heap.size 38 5 W' W1)).grown (Nat.le_refl _) hr1 hg6).set (a := ⟨w2.heap.size, 0, none⟩) hv1 hzw (.inl rfl) (.slice g6 ((bytesOf pre).length + (numB k).length) cap6)
        have HT2 := Lib.hid ht2
        have HV2 := Lib.hid hv2
        have HR2 := Lib.hid hr2
        have HK2 := Lib.hid hk2
        have HBB2 := Lib.hid (hw1.trans hb2)
        clear hown6 hg6 hu1 hr1 ht2 hv1 hv2 hr2 hk2 hb2 c0 c1
        go_simp
        refine hK _ _ ?_
        clear hK K
        refine wpAnyIn_ready (rs := [4]) (by kernel_rfl) (by simp) ?_
        refine AllReadyIn.cons rfl (fun K hK => ?_) AllReadyIn.nil
        go_simp
        refine hK _ _ ?_
        clear hK K
        refine wpAnyIn_done (by kernel_rfl) ?_ _
        gi_wp2_with fail
        exact ⟨keepsFrom_trans' (keepsFrom_below HB1.out) (HK2.out.from _), HT2.out, ⟨_, HV2.out, by rw [HSN.out, List.length_append, byteVals_append]; exact HR2.out, trivial⟩, HBB2.out⟩
      · go_simp
        gi_wp2_with (refine ⟨trivial, ?_⟩; gi_at_call 21; refine (CallsIn.inRound l2 (callsIn_wide.2 (HN.out _))).mono ?_; rintro e W1 ⟨v1, rfl, hO1, hB1⟩)
        have HO1 := Lib.hid hO1
        have HB1 := Lib.hid (show Below W'.heap.size W' W1 from (Below.refl _ W').drew.trans hB1)
        have c1 : W1.cell? ⟨w2.heap.size, 0, none⟩ = some (.slice au (bytesOf pre).length cu) := (HB1.out.cell (p := ⟨w2.heap.size, 0, none⟩) hlt).trans c0
        clear hO1 hB1
        first | (refine hK _ _ ?_; clear hK K) | skip
        refine wpAnyIn_ready (rs := [0]) (by kernel_rfl) (by simp) ?_
        refine AllReadyIn.cons rfl (fun K hK => ?_) AllReadyIn.nil
        go_simp
        first | (refine hK _ _ ?_; clear hK K) | skip
        refine wpAnyIn_ready (rs := [3]) (by kernel_rfl) (by simp) ?_
        refine AllReadyIn.cons rfl (fun K hK => ?_) AllReadyIn.nil
        obtain ⟨a1, c1', rfl⟩ : ∃ a c, v1 = .slice a (numB k).length c := by
          obtain ⟨_, a, cap, h, _⟩ := rowAt_own HO1.out
          exact ⟨a, cap, h⟩
        have hu1 : Boxed W1 w2.heap.size 38 (.slice au (bytesOf pre).length cu) := (HB1.out.block _ hlt).trans HU.out
        have hr1 := owns_keep HR.out HB1.out (Nat.le_refl _)
        have hw1 := HB.out.trans (HB1.out.mono HB.out.size)
        refine step_append_rowIn _ rfl _ _ 38 rfl w.heap.size 5 i0 (.int .u8 0) 1 1 Try.underlying38 hi hz0 hz1 hz2 rfl (by decide) (.slice au (bytesOf pre).length cu) _ _ rfl hr1 _ (numB k).length (byteVals (numB k)) rfl (rowAt_own HO1.out) (byteVals_one' _) (by unfold maxLen; omega) (by omega) hw1.size ?_
        intro v6 w6 hown6 hg6 _
        obtain ⟨g6, cap6, rfl⟩ : ∃ g c, v6 = .slice g ((bytesOf pre).length + (numB k).length) c := by
          obtain ⟨_, a, cap, h, _⟩ := rowAt_own hown6
          exact ⟨a, cap, h⟩
        obtain ⟨hv1, hv2, hr2, hk2, hb2⟩ := box_append hu1 (by decide) hr1 hw1.size hzw hown6 hg6
        have c6 := hv1.cell
        have f6 := hv1.frozen
        have hl6 := hv1.lt
        have ht2 := (((Kt.of_below HB1.out : Kt w.heap.size 38 5 W' W1)).grown (Nat.le_refl _) hr1 hg6).set (a := ⟨w2.heap.size, 0, none⟩) hv1 hzw (.inl rfl) (.slice g6 ((bytesOf pre).length + (numB k).length) cap6)
        have HT2 := Lib.hid ht2
        have HV2 := Lib.hid hv2
        have HR2 := Lib.hid hr2
        have HK2 := Lib.hid hk2
        have HBB2 := Lib.hid (hw1.trans hb2)
        clear hown6 hg6 hu1 hr1 ht2 hv1 hv2 hr2 hk2 hb2 c0 c1
        go_simp
        refine hK _ _ ?_
        clear hK K
        refine wpAnyIn_ready (rs := [4]) (by kernel_rfl) (by simp) ?_
        refine AllReadyIn.cons rfl (fun K hK => ?_) AllReadyIn.nil
        go_simp
        refine hK _ _ ?_
        clear hK K
        refine wpAnyIn_done (by kernel_rfl) ?_ _
        gi_wp2_with fail
        exact ⟨keepsFrom_trans' (keepsFrom_below HB1.out) (HK2.out.from _), HT2.out, ⟨_, HV2.out, by rw [HSN.out, List.length_append, byteVals_append]; exact HR2.out, trivial⟩, HBB2.out⟩
  case done =>
    rintro D ys W' hD hys ⟨⟨u, hu, hr, _⟩, hB⟩ hK
    subst hys
    have hr' := ownsRow_putObj hr (.deferred none) hK rfl
    have hc := hu.cell
    have HR' := Lib.hid hr'
    have HB := Lib.hid hB
    clear hr hu hr' hB
    gi_wp2
    refine ⟨by simp, .inl ⟨_, _, rfl, run_takeDeferred hK, ?_⟩⟩
    exact ⟨_, results_tmp2 rfl _ _ _, u, rfl, by rw [HF.out]; exact HR'.out, HB.out.trans (belowK_b (w := w) (Nat.le_refl _) _ D _ _ (by omega) hK rfl rfl)⟩
end Go.Proofs
