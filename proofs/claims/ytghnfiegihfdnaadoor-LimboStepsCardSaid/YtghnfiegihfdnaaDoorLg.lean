/- Limbo: what waits, told, one behind the other; Held. -/
import Derived.Test.YtghnfiegihfdnaaDoorLf
namespace Go.Proofs
set_option maxRecDepth 100000
open Go.RowKit Go.Shelf
attribute [local go_sem] Oper.semAt_some

abbrev K0 : World → World → Prop := Kf fun _ => false
theorem k0_kf {A B : World} (p : K0 A B) (T : TypeId → Bool) : Kf T A B := ⟨p.size, fun k cs t fr h _ => p.same k cs t fr h rfl⟩
theorem k0_owns {A B : World} (p : K0 A B) {n₀ k n : Nat} {e : TypeId} {v : Value} {cs : List Value} (o : A.ownsRow n₀ e k v n cs) : B.ownsRow n₀ e k v n cs :=
  ⟨o.1, o.2.imp id fun ⟨g, cap, cur, h1, h2, h3, h4⟩ => ⟨g, cap, cur, h1, h2, p.same _ _ _ _ h3 rfl, h4⟩⟩
theorem k0_row {A B : World} (p : K0 A B) {k : Nat} {t : TypeId} {cs : Array Value} (r : Rows8 A k t cs) : Rows8 B k t cs := p.same _ _ _ _ r rfl
theorem k0_grown {X Y : World} {row : Option Nat} (hg : X.grownBy Y row) (hr : ∀ r, row = some r → ∃ o, X.heap[r]? = some o ∧ o.isCells = false) : K0 X Y :=
  ⟨hg.size, fun k cs t fr hk _ => (hg.block k (Array.getElem?_eq_some_iff.1 hk).1 (fun e => by
    obtain ⟨o, ho, hc⟩ := hr k e.symm
    rw [hk] at ho
    cases ho
    cases hc)).trans hk⟩
theorem tellsE_of {F : Fence} {n : Nat} {P : Program} {α : Type} {g : Nat} {lb : Array Value} {encs : α → Array Value} {Kp : World → World → Prop} {S Sp : List α → Prop} {Ok : List α → α → Prop} {w : World} (h : TellsD F n P g lb encs Kp S Sp Ok w) : TellsE F n P g lb encs Kp S Ok w := 
  fun l J W hW hJ hY h0 => (h l J (fun _ _ => False) W hW hJ (fun _ _ _ h _ => h) (fun pre x W1 hj ho => yield_mono (fun _ _ hh => .inl hh) (hY pre x W1 hj ho)) h0).mono fun e w' ⟨hv, hh⟩ => ⟨hv, hh.elim id fun ⟨_, _, hf⟩ => hf.elim⟩
theorem rowAt_kt {v : Value} {n k : Nat} {cs : List Value} {t1 t2 : TypeId} {A B : World} (s : RowAt A v n k cs) (p : Kt A.heap.size t1 t2 A B) : RowAt B v n k cs := by
  obtain ⟨h0, a, cap, h1, h2, h3, h4, h5⟩ := s
  refine ⟨h0, a, cap, h1, h2, h3, h4, fun j hj => ?_⟩
  obtain ⟨b, off, e, hb, hc⟩ := h5 j hj
  rw [List.getElem?_eq_getElem hj] at hc
  exact ⟨b, off, e, Nat.lt_of_lt_of_le hb p.size, by rw [List.getElem?_eq_getElem hj]; exact p.cell (a := ⟨b, off + j, none⟩) hb hc⟩
theorem pre_mem {α : Type} {pre : List α} {y : α} {l : List α} (h : pre ++ [y] <+: l) : y ∈ l := by
  obtain ⟨t, ht⟩ := h
  rw [← ht]
  simp
theorem keeps_owned {A B : World} {n₀ k n : Nat} {t : TypeId} {v : Value} {cs : List Value} (o : A.ownsRow n₀ t k v n cs) (hg : A.grownBy B v.ownBlock) (H : Nat) : KeepsFrom H A B :=
  ⟨hg.size, fun q ob _ hk hc => (hg.block q (Array.getElem?_eq_some_iff.1 hk).1 (fun e => by
    rcases o.2 with ⟨rfl, _⟩ | ⟨g, cap, cur, rfl, _, h3, _⟩
    · simp [Value.ownBlock] at e
    · obtain rfl : q = g := by simpa [Value.ownBlock] using e
      rw [h3] at hk
      cases hk
      cases hc)).trans hk⟩
def encW (s : Ls) (k : Nat) : Array Value := #[.int .u64 (k : Nat), .slice (s.a (k % 3)) (s.n (k % 3)) (s.c (k % 3))]
set_option maxHeartbeats 4000000 in
theorem Tryd.waiting1_tells (d : Nat) (hd : 1 ≤ d) (Kp : World → World → Prop) (B : Nat) (E : Nat) (s : Ls) (hE : E ≤ 4611686018427387904) (w : World) (S9 : World → Prop) (h0 : S9 w) (h9 : ∀ A, S9 A → Rows8 A B 57 #[.int .u64 (E : Nat), .slice (s.a 0) (s.n 0) (s.c 0), .slice (s.a 1) (s.n 1) (s.c 1), .slice (s.a 2) (s.n 2) (s.c 2)])
    (hb9 : ∀ X Y, S9 X → Below X.heap.size X Y → S9 Y) (hS : ∀ X Y, Kp X Y → S9 X → S9 Y) :
    TellsD Fence.wide d Tryd.prog 57 #[.pointer (some ⟨B, 0, none⟩)] (encW s) Kp (fun xs => xs = wtL E) (fun pre => pre <+: wtL E) (fun pre x => pre ++ [x] <+: wtL E) w := fun lp J Jx W hW hJ hJx hY hj0 => by
  refine callsIn_of_wp Tryd.func57 rfl trivial ?_ rfl
  simp only [Tryd.ntmps57, List.size_toArray, List.length_cons, List.length_nil, Nat.reduceAdd, Nat.reduceSub, Array.replicate_succ, Array.replicate_zero, List.push_toArray, List.append_toArray, List.nil_append, List.cons_append]
  have s0 := hb9 _ _ h0 hW
  have c0 : W.cell? ⟨B, 0, none⟩ = some (.int .u64 (E : Nat)) := (h9 _ s0).cell 0
  have H9 := Lib.hid h9
  have HB9 := Lib.hid hb9
  have HY := Lib.hid hY
  have HJ := Lib.hid hJ
  have HS := Lib.hid hS
  have H0 := Lib.hid s0
  have HRO := fun k W => Lib.hid (Tryd.rowOf_any k W)
  obtain ⟨o, ho⟩ : ∃ o, o = E - 2 := ⟨_, rfl⟩
  have hmin1 : min (E : Int) 2 = (E : Int) - (o : Int) := by omega
  have hmin2 : (if (E : Int) ≤ 2 then (E : Int) else 2) = (E : Int) - (o : Int) := by split <;> omega
  have hmin3 : (if (E : Int) < 2 then (E : Int) else 2) = (E : Int) - (o : Int) := by split <;> omega
  have hmin4 : (if 2 < (E : Int) then 2 else (E : Int)) = (E : Int) - (o : Int) := by split <;> omega
  have hmin5 : (if 2 ≤ (E : Int) then 2 else (E : Int)) = (E : Int) - (o : Int) := by split <;> omega
  have hwm : IntKind.u64.wrap ((E : Int) - ((E : Int) - (o : Int))) = (o : Int) := by rw [wrap_u _ (by omega) (by omega)]; omega
  have HO := Lib.hid ho
  have HE := Lib.hid hE
  clear hY hJ hS h0 s0 hJx h9 hb9 ho hE
  gi_wp2_with fail
  gi_loopw [4] (fun u wr => ∃ i : Nat, o + i ≤ E + 1 ∧ u = .int .u64 ((o + i : Nat) : Int) ∧ J (List.range' o i) wr ∧ Hid (S9 wr)) (fun u _ => E + 1 - (intOf u).toNat)
  case atStart => exact ⟨0, by have := HO.out; omega, by rw [Nat.add_zero], hj0, H0⟩
  case round =>
    obtain ⟨i, hi, rfl, hJs, hs⟩ := hrel
    clear hmin1 hmin2 hmin3 hmin4 hmin5 hwm c0
    have c0 : wr.cell? ⟨B, 0, none⟩ = some (.int .u64 (E : Nat)) := (H9.out _ hs.out).cell 0
    have hpre : o + i ≤ E → List.range' o i ++ [o + i] <+: wtL E := fun h => by rw [← wtL_snoc, HO.out]; exact wtL_pre E (i + 1) (by have := HO.out; omega)
    have hsn := wtL_snoc o i
    have hfin : o + i = E + 1 → List.range' o i = wtL E := fun h => by
      unfold wtL
      rw [HO.out, show i = E + 1 - (E - 2) by have := HO.out; omega]
    obtain ⟨e, he⟩ : ∃ e, e = o + i := ⟨_, rfl⟩
    have he1 : o + (i + 1) = e + 1 := by omega
    rw [← he] at hi hpre hsn hfin ⊢
    have HEE := Lib.hid he1
    have HPRE := Lib.hid hpre
    have HSN := Lib.hid hsn
    have HFIN := Lib.hid hfin
    clear he he1 hpre hsn hfin
    by_cases hlt : e ≤ E
    · have d1 : decide ((e : Int) ≤ (E : Int)) = true := by simp; omega
      have d2 : decide (e ≤ E) = true := decide_eq_true hlt
      have hk3 : e % 3 < 3 := Nat.mod_lt _ (by decide)
      have cK := cellK (H9.out _ hs.out) (e % 3) hk3
      have hw1 : IntKind.u64.wrap ((e : Int) + 1) = ((e + 1 : Nat) : Int) := by have := HE.out; rw [wrap_u _ (by omega) (by omega)]; omega
      have hki : ((e % 3 : Nat) : Int) < 3 := by omega
      have hki0 : (0 : Int) ≤ ((e % 3 : Nat) : Int) := by omega
      obtain ⟨fn, tmps, assign, body, hy, hR⟩ := HY.out _ e _ hJs (HPRE.out hlt)
      unfold encW at hy
      have HP := Lib.hid (HPRE.out hlt)
      have hro := HRO e wr
      have hbl := (H9.out _ hs.out).lt
      generalize e % 3 = k3 at *
      clear hJs HRO hk3
      gi_wp2_with fail
      refine ⟨trivial, ?_⟩
      refine (callsIn_wide.2 hro.out).mono ?_
      rintro e9 w9 ⟨rfl, rfl⟩
      gi_wp2_with fail
      refine hR.mono ?_
      rintro e9 W3 (⟨rfl, hJ3, _, hk3⟩ | ⟨rfl, hJx3, _⟩)
      · have hs3 := Lib.hid (HS.out _ _ hk3 hs.out)
        have HJ3 := Lib.hid hJ3
        clear hk3 hJ3
        gi_wp2_with fail
        go_roundw
        case rel => exact ⟨i + 1, by have := HEE.out; omega, by rw [HEE.out]; exact congrArg (Value.int .u64) (by omega), by rw [HSN.out]; exact HJ3.out, hs3⟩
        case measure => simp [intOf]; omega
      · have HJ3 := Lib.hid hJx3
        clear hJx3
        gi_wp2_with fail
        refine bodyPost_ret (results_none rfl _ _ _) rfl ?_
        exact ⟨⟨_, rfl⟩, .inr ⟨_, HP.out, HJ3.out⟩⟩
    · obtain rfl : e = E + 1 := by omega
      have d1 : decide ((((E + 1 : Nat) : Int)) ≤ (E : Int)) = false := by simp; omega
      have d2 : decide (E + 1 ≤ E) = false := decide_eq_false hlt
      have hfin := HFIN.out rfl
      rw [hfin] at hJs
      have HJ3 := Lib.hid hJs
      clear hJs hfin hlt
      gi_wp2_with fail
      first | rw [noGoto_normal'] | skip
      go_end0
      exact ⟨⟨_, rfl⟩, .inl (by first | exact HJ3.out | exact ⟨_, rfl, HJ3.out⟩)⟩
theorem Tryd.waiting_any (E : Nat) (s : Ls) (w : World) : Calls Tryd.prog 53 #[.agg #[.int .u64 (E : Nat), .slice (s.a 0) (s.n 0) (s.c 0), .slice (s.a 1) (s.n 1) (s.c 1), .slice (s.a 2) (s.n 2) (s.c 2)]] w fun e w' => e = .returned (.func (.func 57) #[] #[.pointer (some ⟨w.heap.size, 0, none⟩)]) ∧ w' = w.alloc (.cells #[.int .u64 (E : Nat), .slice (s.a 0) (s.n 0) (s.c 0), .slice (s.a 1) (s.n 1) (s.c 1), .slice (s.a 2) (s.n 2) (s.c 2)] 57) := by
  have hmf : ∀ (fn : Fn) (first cap : Array Value) (w : World), (Instr.makeFunc fn first cap).run Tryd.prog w = .ok (.func fn first cap) w := fun _ _ _ _ => rfl
  go_enter Tryd.func53, Tryd.ntmps53
  go_wp2_with fail
  go_ret
  exact ⟨rfl, rfl⟩
theorem wpListIn_append_row {F : Fence} {nn : Nat} {P : Program} (w : World) {ops : Array Oper} {rest : List Oper} {o : Oper} {a : Act} {Q : Exit → Act → World → Prop} (hgd : o.guard = none) (s x : Operand) (t : TypeId)
    (ho : o.op = .call { callee := .builtin .append, args := #[s, x], argTypes := #[t, t] }) (base : Nat) (e : TypeId) (i : TypeInfo) (z : Value) (size bytes : Nat) (ht : P.underlying t = some (.slice e)) (hi : P.info? e = some i) (hz : i.zero = some z)
    (hsize : i.size = size) (hby : i.bytes = bytes) (hzs : z.cells.size = size) (hsz : 0 < size) (v : Value) (n : Nat) (xs : List Value) (hs : a.eval s = v) (hown : w.ownsRow base e size v n xs)
    (src : Value) (m : Nat) (news : List Value) (hx : a.eval x = src) (hr : RowAt w src m size news) (h1 : ∀ u ∈ news, u.oneCell' = true) (h63 : n + m ≤ maxLen) (hbytes : (n + m) * bytes ≤ 140737488355328) (hbase : base ≤ w.heap.size)
    (h : ∀ v' w', w'.ownsRow base e size v' (n + m) (xs ++ news) → w.grownBy w' v.ownBlock → (v'.ownBlock = v.ownBlock ∨ v'.ownBlock = some w.heap.size) → wpListIn F nn P ops Q rest (a.put o.dst v') w') : wpListIn F nn P ops Q (o :: rest) a w := by
  refine wpListIn_plain hgd fun K hK => ?_
  obtain ⟨v', w', hrun, h2, h3, h4⟩ := run_append_row (P := P) w base t o.type e i z size bytes ht hi hz hsize hby hzs hsz v n xs hown src m news hr h1 h63 hbytes hbase
  unfold Oper.wpIn
  refine ⟨by simp [Oper.about, ho, resolve, Target.leads, Sem.run_pure], ?_⟩
  rw [Oper.semAt_plain F _ _ (by rw [ho]; intro c hc'; cases hc')]
  simp [execOp, ho, resolve, invoke, builtin, hs, hx, hrun, Result.andThen]
  exact hK _ _ (h v' w' h2 h3 h4)
theorem flat_len (f : Nat → List Pr) (m : Nat) (pre : List Nat) (h : ∀ k ∈ pre, (f k).length ≤ m) : (pre.flatMap f).length ≤ pre.length * m := by
  induction pre with
  | nil => simp
  | cons a l ih =>
    have h1 := h a (by simp)
    have h2 := ih (fun k hk => h k (by simp [hk]))
    simp only [List.flatMap_cons, List.length_append, List.length_cons, Nat.add_mul]
    omega
theorem wtL_len (E : Nat) : (wtL E).length ≤ 3 := by
  unfold wtL
  rw [List.length_range']
  omega
/-- What was told, one behind the other. -/
def catL (r : Rw3) (pre : List Nat) : List Pr := pre.flatMap fun k => r (k % 3)
theorem catL_snoc (r : Rw3) (pre : List Nat) (k : Nat) : catL r (pre ++ [k]) = catL r pre ++ r (k % 3) := by simp [catL]
set_option maxHeartbeats 8000000 in
theorem Tryd.heldV_any (E : Nat) (s : Ls) (r : Rw3) (w : World) (hI : LAt w s r) (hE : E ≤ 4611686018427387904) (hl : ∀ k, k < 3 → (r k).length ≤ 200) :
    Calls Tryd.prog 38 #[.agg #[.int .u64 (E : Nat), .slice (s.a 0) (s.n 0) (s.c 0), .slice (s.a 1) (s.n 1) (s.c 1), .slice (s.a 2) (s.n 2) (s.c 2)]] w fun e w' => ∃ v, e = .returned v ∧ OwnsP tE w.heap.size (heldL E r) v w' ∧ Below w.heap.size w w' := by
  obtain ⟨i0, hi, hz0, hz1, hz2⟩ := info_parts Tryd.infoEntry
  refine (callsIn_wide (n := 9)).1 ?_
  refine callsIn_of_wp_marks Tryd.func38 rfl trivial ?_ rfl
  simp only [Tryd.ntmps38, List.size_toArray, List.length_cons, List.length_nil, Nat.reduceAdd, Nat.reduceSub, Array.replicate_succ, Array.replicate_zero, List.push_toArray, List.append_toArray, List.nil_append, List.cons_append]
  have v0 := Rows8.new w 57 #[.int .u64 (E : Nat), .slice (s.a 0) (s.n 0) (s.c 0), .slice (s.a 1) (s.n 1) (s.c 1), .slice (s.a 2) (s.n 2) (s.c 2)]
  have v1 := v0.alloc (.cells #[.slice none 0 0] 23)
  have f1 := rows_new2 w (.cells #[.int .u64 (E : Nat), .slice (s.a 0) (s.n 0) (s.c 0), .slice (s.a 1) (s.n 1) (s.c 1), .slice (s.a 2) (s.n 2) (s.c 2)] 57) 23 #[.slice none 0 0]
  have hB1 : Below w.heap.size w ((w.alloc (.cells #[.int .u64 (E : Nat), .slice (s.a 0) (s.n 0) (s.c 0), .slice (s.a 1) (s.n 1) (s.c 1), .slice (s.a 2) (s.n 2) (s.c 2)] 57)).alloc (.cells #[.slice none 0 0] 23)) := (Rows8.newB).alloc (by simp) _
  have hsz : ((w.alloc (.cells #[.int .u64 (E : Nat), .slice (s.a 0) (s.n 0) (s.c 0), .slice (s.a 1) (s.n 1) (s.c 1), .slice (s.a 2) (s.n 2) (s.c 2)] 57)).alloc (.cells #[.slice none 0 0] 23)).heap.size = w.heap.size + 1 + 1 := by simp
  have HP := fun W => Lib.hid (Tryd.waiting_any E s W)
  have HI := Lib.hid hI
  have HL := Lib.hid hl
  have HE := Lib.hid hE
  clear v0 hI hl hE
  gi_wp2_with fail
  generalize ((w.alloc (.cells #[.int .u64 (E : Nat), .slice (s.a 0) (s.n 0) (s.c 0), .slice (s.a 1) (s.n 1) (s.c 1), .slice (s.a 2) (s.n 2) (s.c 2)] 57)).alloc (.cells #[.slice none 0 0] 23)) = W0 at *
  refine ⟨trivial, ?_⟩
  refine (callsIn_wide.2 (HP _).out).mono ?_
  rintro e W1 ⟨rfl, hw1⟩
  have hB01 : Below W0.heap.size W0 W1 := by rw [hw1]; exact Rows8.newB
  have p1 : Rows8 W1 W0.heap.size 57 #[.int .u64 (E : Nat), .slice (s.a 0) (s.n 0) (s.c 0), .slice (s.a 1) (s.n 1) (s.c 1), .slice (s.a 2) (s.n 2) (s.c 2)] := by rw [hw1]; exact Rows8.new _ _ _
  rw [hsz] at p1
  simp only [hsz]
  have hB2 := hB1.trans (hB01.mono hB1.size)
  have v2 := v1.below hB01 v1.lt
  have f2 := f1.below hB01 f1.lt
  have hs1 : W0.heap.size ≤ W1.heap.size := hB01.size
  have HTL := Lib.hid (tellsE_of (Tryd.waiting1_tells 8 (by decide) (Kt w.heap.size 23 38) (w.heap.size + 1 + 1) E s HE.out W1 (fun A => Kt w.heap.size 23 38 W1 A) (Kt.refl _ _ _ _) (fun A hA => hA.rows p1 (by decide) (by decide)) (fun A B hA hB => hA.trans (.of_below hB)) (fun A B p hA => hA.trans p)))
  have HB2 := Lib.hid hB2
  clear v1 f1 hB1 hw1 hB01 p1
  gi_wp2_with fail
  refine range_tellsE rfl (by decide) (gf := 57) (lb := #[.pointer (some ⟨w.heap.size + 1 + 1, 0, none⟩)]) rfl trivial (fun _ _ => by kernel_rfl) HTL.out kt_t (kt_b (B := W1.heap.size)) (Below.refl _ _) (fun _ => rfl)
    (fun pre W => (∃ a c, Rows8 W (w.heap.size + 1) 23 #[.slice a (catL r pre).length c] ∧ OwnsP tE w.heap.size (catL r pre) (.slice a (catL r pre).length c) W) ∧ Below w.heap.size w W)
    (fun q X Y row h hg hr => by
      obtain ⟨⟨a, c, h1, h2⟩, h3⟩ := h
      have hk := k0_grown hg (fun r e => (hr r e).2)
      exact ⟨⟨a, c, k0_row hk h1, k0_owns hk h2⟩, (ownFrom_below (β := Unit) (Nat.le_refl _) (by omega)) () X Y row h3 hg hr⟩)
    (fun q X Y h hXY => by
      obtain ⟨⟨a, c, h1, h2⟩, h3⟩ := h
      exact ⟨⟨a, c, h1.below hXY h1.lt, h2.below hXY (Nat.le_refl _)⟩, h3.trans (hXY.mono h3.size)⟩)
    ⟨⟨none, 0, f2, ownsP_nil _ _ _⟩, HB2.out⟩
    (fun k a' W' => a' = { tmps := #[.agg #[.int .u64 (E : Nat), .slice (s.a 0) (s.n 0) (s.c 0), .slice (s.a 1) (s.n 1) (s.c 1), .slice (s.a 2) (s.n 2) (s.c 2)], .pointer (some ⟨w.heap.size, 0, none⟩), .pointer (some ⟨w.heap.size + 1, 0, none⟩), undef, .slice (s.a (k % 3)) (s.n (k % 3)) (s.c (k % 3)), .agg #[.int .u64 (E : Nat), .slice (s.a 0) (s.n 0) (s.c 0), .slice (s.a 1) (s.n 1) (s.c 1), .slice (s.a 2) (s.n 2) (s.c 2)], .func (.func 57) #[] #[.pointer (some ⟨w.heap.size + 1 + 1, 0, none⟩)], .int .u64 (k : Nat), .slice (s.a (k % 3)) (s.n (k % 3)) (s.c (k % 3)), undef, undef, undef, undef], defers := [] })
    (fun y a' s X Y row e hg hr => e) ?assign ?body ?done
  case assign =>
    rintro l2 pre k W' K hI2 hK
    unfold encW
    gi_wp2_with fail
    exact hK _ _ (keepsFrom_below (Below.refl _ _)) (.of_below (Below.refl _ _)) hI2 (by simp)
  case body =>
    rintro l2 pre k a' W' ⟨⟨a, c, hbx, ho⟩, hB⟩ rfl hok
    have hk3 : k % 3 < 3 := Nat.mod_lt _ (by decide)
    have hrow := (HI.out (k % 3) hk3).below hB
    have hlk := HL.out (k % 3) hk3
    have hlp : (catL r pre).length ≤ 600 := by
      have h1 := flat_len (fun k => r (k % 3)) 200 pre (fun k _ => HL.out _ (Nat.mod_lt _ (by decide)))
      have h2 := hok.length_le
      have h3 := wtL_len E
      rw [List.length_append] at h2
      have h4 : pre.length ≤ 3 := by omega
      have h5 : pre.length * 200 ≤ 600 := by omega
      exact Nat.le_trans h1 h5
    have hln := (pAt_len hrow).1
    have hcat := catL_snoc r pre k
    obtain ⟨L, hL⟩ : ∃ L, L = catL r pre := ⟨_, rfl⟩
    obtain ⟨M, hM⟩ : ∃ M, M = catL r (pre ++ [k]) := ⟨_, rfl⟩
    rw [← hM, ← hL] at hcat
    rw [← hL] at hbx ho hlp
    obtain ⟨R, hR⟩ : ∃ R, R = r (k % 3) := ⟨_, rfl⟩
    rw [← hR] at hrow hlk hln hcat
    have HM := Lib.hid hM
    have HCAT := Lib.hid hcat
    have hlM : M.length = L.length + R.length := by rw [hcat, List.length_append]
    have hrow2 : RowAt W' (.slice (s.a (k % 3)) (s.n (k % 3)) (s.c (k % 3))) (s.n (k % 3)) 2 (pVals R) := by
      have h := hrow
      unfold PAt at h
      rw [← hln] at h
      exact h
    generalize s.a (k % 3) = sa at *
    generalize s.n (k % 3) = sn at *
    generalize s.c (k % 3) = sc at *
    have c0 : W'.cell? ⟨w.heap.size + 1, 0, none⟩ = some (.slice a L.length c) := hbx.cell 0
    have hblt := hbx.lt
    obtain ⟨n, hn⟩ : ∃ n, n = L.length := ⟨_, rfl⟩
    rw [← hn] at c0 hbx ho hlp hlM
    have HN := Lib.hid hn
    have HO := Lib.hid (show W'.ownsRow w.heap.size 38 2 (.slice a n c) n (pVals L) by have h := ho; unfold OwnsP at h; rw [← hn] at h; exact h)
    have HBX := Lib.hid hbx
    have HB := Lib.hid hB
    have HRW := Lib.hid hrow2
    have HLM := Lib.hid hlM
    have hbz := hB.size
    have hsn : sn ≤ 200 := by omega
    clear hbx ho hB hrow hrow2 hok hlk hln hcat hL hM hR hlM hn hk3
    gi_wp2_with (gi_at_builtin; refine wpListIn_append_row _ rfl _ _ 23 rfl w.heap.size 38 i0 (.agg #[.int .i64 0, .int .u64 0]) 2 16 Tryd.underlying23 hi hz0 hz1 hz2 rfl (by decide) _ _ _ rfl HO.out _ _ _ rfl HRW.out (pVals_one _) (by unfold maxLen; omega) (by omega) hbz ?_; intro v' w3 hown hgr hvb; obtain ⟨_, a3, c3, rfl, _⟩ := rowAt_own hown; have hne := owns_not HO.out HBX.out (by decide); have r3 : Rows8 w3 (w.heap.size + 1) 23 #[.slice a n c] := (hgr.block _ HBX.out.lt (fun e => hne e.symm)).trans HBX.out; have c3f := r3.frozen 0; have c3c : w3.cell? ⟨w.heap.size + 1, 0, none⟩ = some (.slice a n c) := r3.cell 0; have r3l := r3.lt; have HOW := Lib.hid hown; have HGR := Lib.hid hgr; have HR3 := Lib.hid r3; clear hown hgr hvb hne r3)
    have s3 := HR3.out.set 0 (.slice a3 (n + sn) c3)
    simp only [List.setIfInBounds_toArray, List.set_cons_zero] at s3
    have hMn : M.length = n + sn := by have h1 := HLM.out; have h2 := (show sn = R.length from by have := HRW.out.1; rw [pVals_length] at this; omega); omega
    have hk1 : Kt w.heap.size 23 38 W' w3 := (Kt.refl _ _ _ _).grown (Nat.le_refl _) HO.out HGR.out
    refine ⟨?_, hk1.set (a := ⟨w.heap.size + 1, 0, none⟩) HR3.out (by show w.heap.size ≤ w.heap.size + 1; omega) (.inl rfl) _, ⟨a3, c3, ?_, ?_⟩, ?_⟩
    · exact keepsFrom_trans' (keeps_owned HO.out HGR.out _) (keepsFrom_set (H := W1.heap.size) w3 (a := ⟨w.heap.size + 1, 0, none⟩) HR3.out _)
    · rw [← HM.out, hMn]; exact s3
    · rw [← HM.out, hMn]
      unfold OwnsP
      rw [hMn, HCAT.out, show pVals (L ++ R) = pVals L ++ pVals R by simp [pVals]]
      exact owns_setT HOW.out (a := ⟨w.heap.size + 1, 0, none⟩) HR3.out (by decide) _
    · exact (HB.out.grown HGR.out hbz (fun j ej => (World.ownsRow.lt HO.out j ej).1)).setCell (p := ⟨w.heap.size + 1, 0, none⟩) (by show w.heap.size ≤ w.heap.size + 1; omega) _
  case done =>
    rintro D ys W' hD rfl ⟨⟨a, c, hbx, ho⟩, hB⟩ hK
    have hcl : catL r (wtL E) = heldL E r := rfl
    rw [hcl] at hbx ho
    obtain ⟨L, hL⟩ : ∃ L, L = heldL E r := ⟨_, rfl⟩
    rw [← hL] at hbx ho
    have HLL := Lib.hid hL
    clear hL
    generalize L.length = n at hbx ho
    have c0 : W'.cell? ⟨w.heap.size + 1, 0, none⟩ = some (.slice a n c) := hbx.cell 0
    have cf := hbx.frozen 0
    have hlt := hbx.lt
    have s3 := hbx.set 0 (.slice a n c)
    simp only [List.setIfInBounds_toArray, List.set_cons_zero] at s3
    have HS := Lib.hid s3
    have HO := Lib.hid (show OwnsP tE w.heap.size L (.slice a n c) (W'.setCell ⟨w.heap.size + 1, 0, none⟩ (.slice a n c)) from owns_setT ho (a := ⟨w.heap.size + 1, 0, none⟩) hbx (by decide) _)
    have HB := Lib.hid (hB.setCell (p := ⟨w.heap.size + 1, 0, none⟩) (by show w.heap.size ≤ w.heap.size + 1; omega) (.slice a n c))
    have hneD : D ≠ w.heap.size + 1 := fun e => by
      subst e
      rw [show W'.heap[w.heap.size + 1]? = _ from hbx] at hK
      cases hK
    have HKK := Lib.hid ((Below.heap_setCell W' ⟨w.heap.size + 1, 0, none⟩ (.slice a n c) D hneD).trans hK)
    clear hbx ho hB s3 hK hcl
    gi_wp2_with fail
    refine ⟨by simp, .inl ⟨_, _, rfl, run_takeDeferred HKK.out, ?_⟩⟩
    exact ⟨_, results_c1 rfl _ _ (w.heap.size + 1) _ rfl (load_one (rows_put HS.out HKK.out) (by kernel_rfl)), _, rfl, (by rw [← HLL.out]; exact ownsRow_putObj HO.out (.deferred none) HKK.out rfl), HB.out.trans (belowK_b (w := w) (Nat.le_refl _) _ D _ (.deferred none) (by omega) HKK.out rfl rfl)⟩
end Go.Proofs
