/- cells.Run. -/
import Derived.Test.YtafccppobhhelaaCd
import Derived.Deep.CutRange
import Derived.Deep.LoopGhost
import Derived.Deep.AppendLies
namespace Go.Proofs
open Go.RowKit Go.Shelf
attribute [local go_sem] Oper.semAt_some

structure Acc where
  who : Int
  kind : Int
  pl : Int
  old : Int
  new : Int
def Acc.cells (a : Acc) : List Value := [.int .i64 a.who, .int .i64 a.kind, .int .i64 a.pl, .int .u64 a.old, .int .u64 a.new]
def accVals (l : List Acc) : List Value := l.flatMap Acc.cells
structure Mk where
  no : Int
  pl : Int
  was : Int
  is : Int
def Mk.cells (m : Mk) : List Value := [.int .i64 m.no, .int .i64 m.pl, .int .u64 m.was, .int .u64 m.is]
def markVals (l : List Mk) : List Value := l.flatMap Mk.cells
def seenCells (s : Int × Bool) : List Value := [.int .u64 s.1, .bool s.2]
def seenVals (l : List (Int × Bool)) : List Value := l.flatMap seenCells
theorem flat_length {α : Type} (f : α → List Value) (k : Nat) (h : ∀ a, (f a).length = k) (l : List α) : (l.flatMap f).length = l.length * k := by
  induction l with
  | nil => simp
  | cons a l ih => simp [h, ih, Nat.add_mul]; omega
theorem flat_get {α : Type} (f : α → List Value) (k : Nat) (h : ∀ a, (f a).length = k) (l : List α) (j i : Nat) (hj : j < l.length) (hi : i < k) : (l.flatMap f)[j * k + i]? = (f l[j])[i]? := by
  induction l generalizing j with
  | nil => simp at hj
  | cons a l ih =>
    cases j with
    | zero =>
      simp only [List.flatMap_cons, Nat.zero_mul, Nat.zero_add, List.getElem_cons_zero]
      rw [List.getElem?_append_left (by rw [h]; exact hi)]
    | succ j =>
      simp only [List.flatMap_cons, List.getElem_cons_succ]
      rw [List.getElem?_append_right (by rw [h, Nat.add_mul]; omega), h, show (j + 1) * k + i - k = j * k + i by rw [Nat.add_mul]; omega]
      exact ih j (by simpa using hj)
theorem accVals_length (l : List Acc) : (accVals l).length = l.length * 5 := flat_length _ 5 (fun _ => rfl) l
theorem markVals_length (l : List Mk) : (markVals l).length = l.length * 4 := flat_length _ 4 (fun _ => rfl) l
theorem seenVals_length (l : List (Int × Bool)) : (seenVals l).length = l.length * 2 := flat_length _ 2 (fun _ => rfl) l
def AccsAt (W : World) (v : Value) (l : List Acc) : Prop := RowAt W v l.length 5 (accVals l)
def MarksAt (W : World) (v : Value) (l : List Mk) : Prop := RowAt W v l.length 4 (markVals l)
def OwnsSeens (n₀ : Nat) (l : List (Int × Bool)) (v : Value) (W : World) : Prop := W.ownsRow n₀ 27 2 v l.length (seenVals l)
def OwnsMarks (n₀ : Nat) (l : List Mk) (v : Value) (W : World) : Prop := W.ownsRow n₀ 47 4 v l.length (markVals l)
theorem accsAt_get {W : World} {x : Option Addr} {n cap : Nat} {l : List Acc} (h : AccsAt W (.slice x n cap) l) (j : Nat) (hj : j < l.length) :
    ∃ b off, x = some ⟨b, off, none⟩ ∧ b < W.heap.size ∧ W.cell? ⟨b, off + j * 5, none⟩ = some (.int .i64 l[j].who) ∧ W.cell? ⟨b, off + j * 5 + 1, none⟩ = some (.int .i64 l[j].kind) ∧ W.cell? ⟨b, off + j * 5 + 2, none⟩ = some (.int .i64 l[j].pl) ∧ W.cell? ⟨b, off + j * 5 + 3, none⟩ = some (.int .u64 l[j].old) ∧ W.cell? ⟨b, off + j * 5 + 4, none⟩ = some (.int .u64 l[j].new) := by
  obtain ⟨h0, a, cap', e, _, _, _, hc⟩ := h
  cases e
  obtain ⟨b, off, e, hb, _⟩ := hc (j * 5) (by rw [accVals_length]; omega)
  refine ⟨b, off, e, hb, ?_⟩
  have hh : ∀ i, i < 5 → W.cell? ⟨b, off + j * 5 + i, none⟩ = (l[j].cells)[i]? := by
    intro i hi
    obtain ⟨b', off', e', _, h3⟩ := hc (j * 5 + i) (by rw [accVals_length]; omega)
    rw [e] at e'
    cases e'
    rw [Nat.add_assoc, h3]
    exact flat_get Acc.cells 5 (fun _ => rfl) l j i hj hi
  exact ⟨hh 0 (by decide), hh 1 (by decide), hh 2 (by decide), hh 3 (by decide), hh 4 (by decide)⟩
theorem owns_ne {W : World} {n₀ n₁ k k' n n' : Nat} {e e' : TypeId} {v v' : Value} {cs cs' : List Value} (h : W.ownsRow n₀ e k v n cs) (h' : W.ownsRow n₁ e' k' v' n' cs') (hne : e ≠ e') : v.ownBlock = none ∨ v.ownBlock ≠ v'.ownBlock := by
  rcases h.2 with ⟨rfl, _⟩ | ⟨g, cap, cur, rfl, _, hh, _⟩
  · exact .inl rfl
  · rcases h'.2 with ⟨rfl, _⟩ | ⟨g', cap', cur', rfl, _, hh', _⟩
    · exact .inr (by simp [Value.ownBlock])
    · refine .inr fun e2 => ?_
      obtain rfl : g = g' := by simpa [Value.ownBlock] using e2
      rw [hh] at hh'
      injection hh' with h1
      injection h1 with _ h2 _
      exact hne h2
theorem owns_not {W : World} {n₀ k n : Nat} {e : TypeId} {v : Value} {cs : List Value} (h : W.ownsRow n₀ e k v n cs) {B : Nat} {t : TypeId} {ds : Array Value} (hR : Rows8 W B t ds) (hne : e ≠ t) : v.ownBlock ≠ some B := by
  rcases h.2 with ⟨rfl, _⟩ | ⟨g, cap, cur, rfl, _, hh, _⟩
  · simp [Value.ownBlock]
  · intro e2
    obtain rfl : g = B := by simpa [Value.ownBlock] using e2
    rw [show W.heap[g]? = _ from hR] at hh
    injection hh with h1
    injection h1 with _ h2 _
    exact hne h2.symm
theorem owns_after {W w' : World} {n₀ k n : Nat} {e : TypeId} {v : Value} {cs : List Value} {kind old new h : Int} {a : Addr} (ho : W.ownsRow n₀ e k v n cs) (hne : v.ownBlock ≠ some a.block) (hB : Below W.heap.size (afterOf kind old new h a W) w') : w'.ownsRow n₀ e k v n cs := by
  unfold afterOf at hB
  split at hB
  · exact owns_keep (ownsRow_setCell_other ho hne _) hB (by simp [World.setCell])
  · exact owns_keep ho hB (Nat.le_refl _)

/-- What a run has come to. -/
structure St where
  ws : List Int
  seens : List (Int × Bool)
  marks : List Mk
def leaves (a : Acc) (h : Int) : Bool := doneOf a.kind a.old h && a.kind != 1
def St.step (s : St) (a : Acc) : St where
  ws := wordsOf s.ws a.kind a.pl a.old a.new
  seens := s.seens ++ [(s.ws[a.pl.toNat]?.getD 0, doneOf a.kind a.old (s.ws[a.pl.toNat]?.getD 0))]
  marks := if leaves a (s.ws[a.pl.toNat]?.getD 0) = true then s.marks ++ [⟨s.seens.length, a.pl, s.ws[a.pl.toNat]?.getD 0, (wordsOf s.ws a.kind a.pl a.old a.new)[a.pl.toNat]?.getD 0⟩] else s.marks
def runTo (ws : List Int) (l : List Acc) (k : Nat) : St := (l.take k).foldl St.step ⟨ws, [], []⟩
theorem runTo_succ (ws : List Int) (l : List Acc) (k : Nat) (h : k < l.length) : runTo ws l (k + 1) = (runTo ws l k).step l[k] := by
  unfold runTo
  rw [List.take_add_one, List.getElem?_eq_getElem h, List.foldl_append]
  rfl
theorem runTo_lens (ws : List Int) (l : List Acc) (k : Nat) (h : k ≤ l.length) : (runTo ws l k).ws.length = ws.length ∧ (runTo ws l k).seens.length = k ∧ (runTo ws l k).marks.length ≤ k := by
  induction k with
  | zero => simp [runTo]
  | succ k ih =>
    obtain ⟨h1, h2, h3⟩ := ih (by omega)
    rw [runTo_succ ws l k (by omega)]
    refine ⟨?_, ?_, ?_⟩
    · simp [St.step, wordsOf_length, h1]
    · simp [St.step, h2]
    · unfold St.step
      dsimp only
      split
      · simp; omega
      · omega
def whyOf (n : Nat) (a : Acc) : Int := why n a.who a.kind a.pl
def errRow (n : Nat) : List Acc → Int
  | [] => 0
  | a :: r => if whyOf n a = 0 then errRow n r else whyOf n a
theorem errRow_snoc (n : Nat) (l : List Acc) (a : Acc) (h : errRow n l = 0) : errRow n (l ++ [a]) = whyOf n a := by
  induction l with
  | nil =>
    simp only [errRow, List.nil_append]
    split
    · rename_i hb; exact hb.symm
    · rfl
  | cons b l ih =>
    simp only [errRow, List.cons_append] at h ⊢
    split at h
    · rename_i hb; rw [if_pos hb]; exact ih h
    · rename_i hb; exact absurd h hb
theorem errRow_prefix (n : Nat) (l r : List Acc) (h : errRow n l ≠ 0) : errRow n (l ++ r) = errRow n l := by
  induction l with
  | nil => simp [errRow] at h
  | cons b l ih =>
    simp only [errRow, List.cons_append] at h ⊢
    split
    · rename_i hb; rw [if_pos hb] at h; exact ih h
    · rfl
theorem errRow_at (n : Nat) (l : List Acc) (k : Nat) (hk : k < l.length) (h : errRow n (l.take k) = 0) : errRow n (l.take (k + 1)) = whyOf n l[k] ∧ (whyOf n l[k] ≠ 0 → errRow n l = whyOf n l[k]) := by
  have e : l.take (k + 1) = l.take k ++ [l[k]] := by rw [List.take_add_one, List.getElem?_eq_getElem hk]; rfl
  have h1 : errRow n (l.take (k + 1)) = whyOf n l[k] := by rw [e]; exact errRow_snoc n _ _ h
  refine ⟨h1, fun hne => ?_⟩
  have := errRow_prefix n (l.take (k + 1)) (l.drop (k + 1)) (by rw [h1]; exact hne)
  rw [List.take_append_drop] at this
  rw [this, h1]
/-- The error of a run. -/
def errOf (n : Nat) (l : List Acc) : Int := if n < 1 ∨ 8192 < n then 120 else errRow n l

def RunQ (ws : List Int) (l : List Acc) (w : World) (e : Ending) (w' : World) : Prop :=
  (errOf ws.length l ≠ 0 ∧ e = .returned (.tuple #[.slice none 0 0, .slice none 0 0, .slice none 0 0, .int .i64 (errOf ws.length l)]) ∧ Below w.heap.size w w') ∨
  (errOf ws.length l = 0 ∧ ∃ v1 v2 v3, e = .returned (.tuple #[v1, v2, v3, .int .i64 0]) ∧ OwnsWords w.heap.size (runTo ws l l.length).ws v1 w' ∧ OwnsSeens w.heap.size (runTo ws l l.length).seens v2 w' ∧ OwnsMarks w.heap.size (runTo ws l l.length).marks v3 w' ∧ Below w.heap.size w w')

theorem results_tmp4 {fn : Func} {t u v x : Tmp} (h : fn.results = #[.tmp t, .tmp u, .tmp v, .tmp x]) (tmps : Array Value) (P : Program) (w : World) :
    (results fn tmps).run P w = .ok (.tuple #[tmps.getD t undef, tmps.getD u undef, tmps.getD v undef, tmps.getD x undef]) w := by
  simp [results, h]

theorem Try.infoSeen : (Try.prog.info? 27).map (fun i => (i.zero, i.size, i.bytes)) = some (some (.agg #[.int .u64 0, .bool false]), 2, 16) := by kernel_rfl
theorem Try.infoMark : (Try.prog.info? 47).map (fun i => (i.zero, i.size, i.bytes)) = some (some (.agg #[.int .i64 0, .int .i64 0, .int .u64 0, .int .u64 0]), 4, 32) := by kernel_rfl
theorem cells_new (W : World) (t : TypeId) (cs : List Value) : ∀ j u, cs[j]? = some u → (W.alloc (.cells cs.toArray t)).cell? ((⟨W.heap.size, 0, none⟩ : Addr).add j) = some u := by
  intro j u hu
  have hadd : (⟨W.heap.size, 0, none⟩ : Addr).add j = ⟨W.heap.size, j, none⟩ := by unfold Addr.add; split <;> simp_all
  rw [hadd, Rows8.cell (Rows8.new W t cs.toArray) j]
  simpa using hu
theorem seenVals_snoc (l : List (Int × Bool)) (s : Int × Bool) : seenVals l ++ [.int .u64 s.1, .bool s.2] = seenVals (l ++ [s]) := by simp [seenVals, seenCells]
theorem markVals_snoc (l : List Mk) (m : Mk) : markVals l ++ [.int .i64 m.no, .int .i64 m.pl, .int .u64 m.was, .int .u64 m.is] = markVals (l ++ [m]) := by simp [markVals, Mk.cells]
theorem grown_ne {W w1 : World} {n₀ n₁ k k' n n' : Nat} {e e' : TypeId} {v v' : Value} {cs cs' : List Value} (h : W.ownsRow n₀ e k v n cs) (h' : W.ownsRow n₁ e' k' v' n' cs') (hne : e ≠ e') (hg : W.grownBy w1 v'.ownBlock) : w1.ownsRow n₀ e k v n cs :=
  World.ownsRow.kept h hg (owns_ne h h' hne)
theorem grown_rows {W w1 : World} {n₁ k' n' : Nat} {e' : TypeId} {v' : Value} {cs' : List Value} {B : Nat} {t : TypeId} {ds : Array Value} (h : Rows8 W B t ds) (h' : W.ownsRow n₁ e' k' v' n' cs') (hne : e' ≠ t) (hg : W.grownBy w1 v'.ownBlock) : Rows8 w1 B t ds :=
  (hg.block B h.lt (fun e => owns_not h' h hne e.symm)).trans h

theorem five {W : World} {B : Nat} {t : TypeId} {a b c d e : Value} (h : Rows8 W B t #[a, b, c, d, e]) : W.cell? ⟨B, 0, none⟩ = some a ∧ W.cell? ⟨B, 1, none⟩ = some b ∧ W.cell? ⟨B, 2, none⟩ = some c ∧ W.cell? ⟨B, 3, none⟩ = some d ∧ W.cell? ⟨B, 4, none⟩ = some e :=
  ⟨h.cell 0, h.cell 1, h.cell 2, h.cell 3, h.cell 4⟩
theorem owns_hrows {W w' : World} {n₀ k n : Nat} {e : TypeId} {v : Value} {cs : List Value} {g : Nat} (ho : W.ownsRow n₀ e k v n cs) (hne : v.ownBlock ≠ some g) (hr : ∀ B t ds, Rows8 W B t ds → g ≠ B → Rows8 w' B t ds) : w'.ownsRow n₀ e k v n cs := by
  refine ⟨ho.1, ?_⟩
  rcases ho.2 with h | ⟨g', cap, cur, rfl, h1, h2, h3⟩
  · exact .inl h
  · exact .inr ⟨g', cap, cur, rfl, h1, hr g' e cur h2 (fun e2 => hne (by simp [Value.ownBlock, e2])), h3⟩
theorem owns_off {W : World} {n₀ n₁ k k' n n' g cp m : Nat} {e e' : TypeId} {v : Value} {cs cs' : List Value} (h : W.ownsRow n₀ e k v n cs) (h' : W.ownsRow n₁ e' k' (.slice (some ⟨g, 0, none⟩) m cp) n' cs') (hne : e ≠ e') : v.ownBlock ≠ some g := by
  rcases owns_ne h h' hne with h2 | h2
  · rw [h2]; simp
  · exact h2
theorem owns_new {W : World} {n₀ k n B : Nat} {e : TypeId} {v : Value} {cs : List Value} (h : W.ownsRow n₀ e k v n cs) (hB : W.heap.size ≤ B) : v.ownBlock ≠ some B := fun e2 => by
  have := World.ownsRow.lt h B e2
  omega

theorem drew_own {W : World} {n₀ k n : Nat} {e : TypeId} {v : Value} {cs : List Value} (h : W.ownsRow n₀ e k v n cs) : W.drew.ownsRow n₀ e k v n cs := h
theorem drew_new (W : World) (t : TypeId) (cs : List Value) : ∀ j u, cs[j]? = some u → (W.alloc (.cells cs.toArray t)).drew.cell? ((⟨W.heap.size, 0, none⟩ : Addr).add j) = some u := cells_new W t cs
theorem markOwn {w W : World} {l : List Mk} {v : Value} {a b c d : Int} (h : W.ownsRow w.heap.size 47 4 v (l.length + 1) (markVals l ++ [.int .i64 a, .int .i64 b, .int .u64 c, .int .u64 d])) : OwnsMarks w.heap.size (l ++ [⟨a, b, c, d⟩]) v W := by
  unfold OwnsMarks
  rw [← markVals_snoc, List.length_append]
  exact h

set_option maxRecDepth 100000 in
set_option maxHeartbeats 8000000 in
theorem Try.Run_any (ws : List Int) (l : List Acc) (hl : l.length ≤ 100) (v lv : Value) (w : World) (hI : WordsAt w v ws) (hL : AccsAt w lv l) :
    Calls Try.prog 24 #[v, lv] w (RunQ ws l w) := by
  have hI0 := hI
  have hL0 := hL
  obtain ⟨iS, hiS, hS0, hS1, hS2⟩ := info_parts Try.infoSeen
  obtain ⟨iM, hiM, hM0, hM1, hM2⟩ := info_parts Try.infoMark
  obtain ⟨_, a, cap, rfl, hlc, hcm, _, _⟩ := hI
  obtain ⟨_, x, capL, rfl, _, _, _, _⟩ := hL
  have hnc := Try.noCells_any ws.length
  have HCP := Lib.hid fun h1 h2 W hW => Try.copied_any ws h1 h2 (.slice a ws.length cap) W hW
  have HI := Lib.hid hI0
  have HL := Lib.hid hL0
  clear hI0 hL0
  unfold RunQ
  by_cases hn : ws.length < 1 ∨ 8192 < ws.length
  · have he : errOf ws.length l = 120 := if_pos hn
    rw [he]
    rw [decide_eq_true hn] at hnc
    have HNC := Lib.hid hnc
    clear hnc he hn
    go_enter Try.func24, Try.ntmps24
    go_wp2_with fail
    refine (HNC.out _).mono ?_
    rintro e w' ⟨rfl, rfl⟩
    go_wp2_with fail
    refine bodyPost_ret (results_tmp4 rfl _ _ _) rfl ?_
    exact .inl ⟨by decide, rfl, Below.refl _ _⟩
  · have he : errOf ws.length l = errRow ws.length l := if_neg hn
    rw [he]
    rw [decide_eq_false hn] at hnc
    have HNC := Lib.hid hnc
    clear hnc he
    go_enter Try.func24, Try.ntmps24
    go_wp2_with fail
    refine (HNC.out _).mono ?_
    rintro e w' ⟨rfl, rfl⟩
    go_wp2_with fail
    refine (HCP.out (by omega) (by omega) w HI.out).mono ?_
    rintro e W1 ⟨v1, rfl, hO1, hB1⟩
    obtain ⟨g, cp, rfl, hg, hgl, hlc1, hcm1⟩ := words_cells hO1 (by omega)
    have HO1 := Lib.hid hO1
    clear hO1
    go_wp2_with fail
    go_loopw [9, 10, 22] (fun va vm j wr => ∃ k : Nat, k ≤ l.length ∧ j = .int .i64 k ∧ errRow ws.length (l.take k) = 0 ∧ OwnsWords w.heap.size (runTo ws l k).ws (.slice (some ⟨g, 0, none⟩) ws.length cp) wr ∧ OwnsSeens w.heap.size (runTo ws l k).seens va wr ∧ OwnsMarks w.heap.size (runTo ws l k).marks vm wr ∧ Below w.heap.size w wr) (fun _ _ j _ => l.length - (intOf j).toNat)
    case atStart => exact ⟨0, Nat.zero_le _, rfl, rfl, HO1.out, World.ownsRow_nil _ _ _ _, World.ownsRow_nil _ _ _ _, hB1⟩
    case round =>
      obtain ⟨k, hk, rfl, herr, hOW, hOS, hOM, hB⟩ := hrel
      by_cases hlt : k < l.length
      · obtain ⟨b, off, rfl, hb, q0, q1, q2, q3, q4⟩ := accsAt_get (RowAt.below HL.out (hB.mono (Nat.le_refl _))) k hlt
        have hki : (k : Int) < (l.length : Int) := by omega
        obtain ⟨he1, he2⟩ := errRow_at ws.length l k hlt herr
        have hst := runTo_succ ws l k hlt
        obtain ⟨hn1, hn2, hn3⟩ := runTo_lens ws l k hk
        generalize l[k] = ac at *
        obtain ⟨who, kind, pl, old, new⟩ := ac
        dsimp only at q0 q1 q2 q3 q4
        unfold whyOf at he1 he2
        dsimp only at he1 he2
        have HST := Lib.hid hst
        have HE1 := Lib.hid he1
        have HE2 := Lib.hid he2
        have hgw := (World.ownsRow.lt hOW g rfl).2
        have HOW := Lib.hid hOW
        have HOS := Lib.hid hOS
        have HOM := Lib.hid hOM
        clear hOW hOS hOM hst he1 he2
        generalize runTo ws l k = s at *
        go_wp2_with fail
        have r0 := Rows8.new wr 32 #[.int .i64 who, .int .i64 kind, .int .i64 pl, .int .u64 old, .int .u64 new]
        have hB2 := hB.alloc hB.size (.cells #[.int .i64 who, .int .i64 kind, .int .i64 pl, .int .u64 old, .int .u64 new] 32)
        have hOW2 := World.ownsRow.alloc HOW.out (.cells #[.int .i64 who, .int .i64 kind, .int .i64 pl, .int .u64 old, .int .u64 new] 32)
        have hOS2 := World.ownsRow.alloc HOS.out (.cells #[.int .i64 who, .int .i64 kind, .int .i64 pl, .int .u64 old, .int .u64 new] 32)
        have hOM2 := World.ownsRow.alloc HOM.out (.cells #[.int .i64 who, .int .i64 kind, .int .i64 pl, .int .u64 old, .int .u64 new] 32)
        generalize (wr.alloc (.cells #[.int .i64 who, .int .i64 kind, .int .i64 pl, .int .u64 old, .int .u64 new] 32)) = W2 at *
        have hbs : w.heap.size ≤ wr.heap.size := hB.size
        clear q0 q1 q2 q3 q4 HOW HOS HOM hB
        refine (Try.wrong_any ws.length who kind pl old new W2).mono ?_
        rintro e W3 ⟨rfl, hB3⟩
        have r1 := r0.below hB3 r0.lt
        have hB4 := hB2.trans (hB3.mono hB2.size)
        have hOW3 := owns_keep hOW2 hB3 (Nat.le_refl _)
        have hOS3 := owns_keep hOS2 hB3 (Nat.le_refl _)
        have hOM3 := owns_keep hOM2 hB3 (Nat.le_refl _)
        clear hOW2 hOS2 hOM2 hB2 hB3 r0
        by_cases hz : why ws.length who kind pl = 0
        · rw [hz]
          have hd : ((0 : Int) != 0) = false := rfl
          obtain ⟨k1, k2, k3, k4, k5, k6⟩ := why_ok hz
          have hRy : Ready w s.ws g cp W3 := ⟨by rw [hn1]; exact hOW3, hB4⟩
          have hdeed := Try.deed_any w s.ws g cp who kind pl old new (by rw [hn1]; exact hz)
          have hal := fun W => Try.alone_any g ws.length cp pl.toNat (by omega) hlc1 hcm1 W
          rw [show ((pl.toNat : Nat) : Int) = pl by omega] at hal
          have hstep : s.step ⟨who, kind, pl, old, new⟩ = St.mk (wordsOf s.ws kind pl old new) (s.seens ++ [(s.ws[pl.toNat]?.getD 0, doneOf kind old (s.ws[pl.toNat]?.getD 0))]) (if (doneOf kind old (s.ws[pl.toNat]?.getD 0) && kind != 1) = true then s.marks ++ [⟨s.seens.length, pl, s.ws[pl.toNat]?.getD 0, (wordsOf s.ws kind pl old new)[pl.toNat]?.getD 0⟩] else s.marks) := rfl
          have hlw := wordsOf_length s.ws kind pl old new
          rw [hn1] at hlw
          rw [hn2] at hstep
          generalize wordsOf s.ws kind pl old new = ws' at *
          generalize s.ws[pl.toNat]?.getD 0 = h at *
          generalize doneOf kind old h = dn at *
          have hsg := owns_off hOS3 hRy.own (by decide)
          have hmg := owns_off hOM3 hRy.own (by decide)
          have hsn := owns_new hOS3 (Nat.le_refl _)
          have hmn := owns_new hOM3 (Nat.le_refl _)
          have hgW := hRy.words.2
          have hrl := r1.lt
          have HAL := Lib.hid hal
          have HD2 := Lib.hid hdeed
          have HRY := Lib.hid hRy
          have HSTEP := Lib.hid hstep
          have HOS3 := Lib.hid hOS3
          have HOM3 := Lib.hid hOM3
          clear hal hdeed hRy hstep hOS3 hOM3 hOW3 HE2
          have l0 := r1.cell 0
          have l1 := r1.cell 1
          have l2 := r1.cell 2
          have l3 := r1.cell 3
          have l4 := r1.cell 4
          have ra := r1.alloc (.cells #[.int .u64 0, .bool false] 27)
          have m0 := ra.cell 0
          have m1 := ra.cell 1
          have m2 := ra.cell 2
          have m3 := ra.cell 3
          have m4 := ra.cell 4
          simp at l0 l1 l2 l3 l4 m0 m1 m2 m3 m4
          go_wp2_with fail
          go_cut [14, 22] from 22 to 67 (fun s14 s22 wc => s22 = .int .i64 k ∧ ∃ B, s14 = .pointer (some ⟨B, 0, none⟩) ∧ Rows8 wc B 27 #[.int .u64 h, .bool dn] ∧ Rows8 wc wr.heap.size 32 #[.int .i64 who, .int .i64 kind, .int .i64 pl, .int .u64 old, .int .u64 new] ∧ Ready w ws' g cp wc ∧ OwnsSeens w.heap.size s.seens u9 wc ∧ OwnsMarks w.heap.size s.marks u10 wc ∧ u9.ownBlock ≠ some B)
          case first =>
            go_region_held3 (fun W' => W'.cell? ⟨wr.heap.size, 0, none⟩ = some (.int .i64 who) ∧ W'.cell? ⟨wr.heap.size, 1, none⟩ = some (.int .i64 kind) ∧ W'.cell? ⟨wr.heap.size, 2, none⟩ = some (.int .i64 pl) ∧ W'.cell? ⟨wr.heap.size, 3, none⟩ = some (.int .u64 old) ∧ W'.cell? ⟨wr.heap.size, 4, none⟩ = some (.int .u64 new)) (first | exact ⟨l0, l1, l2, l3, l4⟩ | exact ⟨m0, m1, m2, m3, m4⟩ | exact ⟨y0, y1, y2, y3, y4⟩ | exact (five (hy.alloc _)) | exact (five ((hy.setOther (by simp; omega) _).setOther (by simp; omega) _)) | simp [*]) (first | (go_at_call 65; refine (HAL.out _).mono ?_; rintro e w' ⟨rfl, rfl⟩) | (go_at_call 66; refine (HD2.out _ (by first | exact HRY.out.drew | exact HRY.out.drew.alloc _)).mono ?_; rintro e w' ⟨rfl, ⟨W9, hW9, hrows⟩, hrdy⟩; (have hy : Rows8 w' wr.heap.size 32 #[.int .i64 who, .int .i64 kind, .int .i64 pl, .int .u64 old, .int .u64 new] := hrows _ _ _ (by rw [hW9]; first | exact r1 | exact r1.alloc _) (by omega)); obtain ⟨y0, y1, y2, y3, y4⟩ := five hy; (have hz1 := owns_hrows (W := W9) (by rw [hW9]; first | exact HOS3.out | exact World.ownsRow.alloc HOS3.out _) hsg hrows); (have hz2 := owns_hrows (W := W9) (by rw [hW9]; first | exact HOM3.out | exact World.ownsRow.alloc HOM3.out _) hmg hrows); (first | (have hx : Rows8 W9 W3.heap.size 27 #[.int .u64 0, .bool false] := (by rw [hW9]; exact Rows8.new W3 _ _); have hx2 := hrows _ _ _ hx (by omega); have q0 := hx2.cell 0; have q1 := hx2.cell 1; have g0 := hx2.frozen 0; have g1 := hx2.frozen 1; simp at q0 q1) | skip)))
            all_goals (go_wp2_with fail; go_meet)
            all_goals first
              | exact ⟨rfl, _, rfl, Rows8.new w' _ _, hy.alloc _, hrdy.alloc _, World.ownsRow.alloc hz1 _, World.ownsRow.alloc hz2 _, owns_new hz1 (Nat.le_refl _)⟩
              | exact ⟨rfl, _, rfl, hx2.set2 _ _, (hy.setOther (by simp; omega) _).setOther (by simp; omega) _, (hrdy.set (by simp; omega) (by simp; omega) _).set (by simp; omega) (by simp; omega) _, ownsRow_setCell_other (ownsRow_setCell_other hz1 hsn _) hsn _, ownsRow_setCell_other (ownsRow_setCell_other hz2 hmn _) hmn _, hsn⟩
          case rest =>
            obtain ⟨rfl, B, rfl, hR1, hR2, hRdy, hOS4, hOM4, hBn⟩ := hcut
            have s0 := hR1.cell 0
            have s1 := hR1.cell 1
            simp at s0 s1
            have hBl := hR1.lt
            have HR1 := Lib.hid hR1
            have HR2 := Lib.hid hR2
            have HRdy := Lib.hid hRdy
            have HOS4 := Lib.hid hOS4
            have HOM4 := Lib.hid hOM4
            have hwz := hRdy.below.size
            clear hR1 hR2 hRdy hOS4 hOM4 HD2 HAL HRY HOS3 HOM3 l0 l1 l2 l3 l4 m0 m1 m2 m3 m4 ra r1
            go_wp2_with (at_builtin; refine wpList_append_own _ rfl _ _ 39 rfl w.heap.size 27 iS (.agg #[.int .u64 0, .bool false]) 2 16 Try.underlying39 hiS hS0 hS1 hS2 rfl (by decide) _ _ _ rfl (World.ownsRow.alloc HOS4.out _) ⟨wc.heap.size, 0, none⟩ 1 1 [.int .u64 h, .bool dn] rfl rfl ?c1 ?c2 ?c3 ?c4 ?c5 ?_)
            case c1 => exact cells_new wc _ [.int .u64 h, .bool dn]
            case c2 => simp [Value.oneCell']
            case c3 => unfold maxLen; omega
            case c4 => omega
            case c5 => simp; omega
            intro v' w1 hown' hgrow _
            have hS5 : OwnsSeens w.heap.size (s.seens ++ [(h, dn)]) v' w1 := by
              unfold OwnsSeens
              rw [← seenVals_snoc, List.length_append, hn2]
              exact hown'
            have hSa := World.ownsRow.alloc HOS4.out (.cells #[.int .u64 h, .bool dn] 27)
            have hR5 : Ready w ws' g cp w1 := ⟨grown_ne (World.ownsRow.alloc HRdy.out.own _) hSa (by decide) hgrow, (HRdy.out.below.alloc hwz _).grown hgrow (by simp; omega) (fun j ej => (World.ownsRow.lt hSa j ej).1)⟩
            have hM5 := grown_ne (World.ownsRow.alloc HOM4.out _) hSa (by decide) hgrow
            have hA5 := grown_rows (HR2.out.alloc _) hSa (by decide) hgrow
            have hB5 : Rows8 w1 B 27 #[.int .u64 h, .bool dn] := (hgrow.block B (by simp; omega) (fun e => hBn e.symm)).trans (HR1.out.alloc _)
            clear hown' hgrow hSa HOS4 HOM4 HR1 HR2 HRdy s0 s1
            have s0 := hB5.cell 0
            have s1 := hB5.cell 1
            have l1 := hA5.cell 1
            have l2 := hA5.cell 2
            simp at s0 s1 l1 l2
            have hcw := words_cell hR5.own pl.toNat (by omega)
            have hzz : ∀ {W : World}, OwnsWords w.heap.size ws' (.slice (some ⟨g, 0, none⟩) ws'.length cp) W → W.cell? ⟨g, pl.toNat, none⟩ = some (.int .u64 (ws'[pl.toNat]?.getD 0)) := fun h => words_cell h pl.toNat (by omega)
            generalize ws'[pl.toNat]?.getD 0 = z at *
            have HS5 := Lib.hid hS5
            have HR5 := Lib.hid hR5
            have HM5 := Lib.hid hM5
            clear hS5 hR5 hM5
            cases dn with
            | false =>
              rw [if_neg (by simp)] at HSTEP
              go_wp2_with fail
              exact ⟨⟨k + 1, by omega, by go_num, HE1.out.trans hz, by rw [HST.out, HSTEP.out]; have h6 := HR5.out.own; rw [hlw] at h6; exact h6, by rw [HST.out, HSTEP.out]; exact HS5.out, by rw [HST.out, HSTEP.out]; exact HM5.out, HR5.out.below⟩, by simp [intOf]; omega⟩
            | true =>
              by_cases hk1 : kind = 1
              · subst hk1
                rw [if_neg (by simp)] at HSTEP
                go_wp2_with fail
                exact ⟨⟨k + 1, by omega, by go_num, HE1.out.trans hz, by rw [HST.out, HSTEP.out]; have h6 := HR5.out.own; rw [hlw] at h6; exact h6, by rw [HST.out, HSTEP.out]; exact HS5.out, by rw [HST.out, HSTEP.out]; exact HM5.out, HR5.out.below⟩, by simp [intOf]; omega⟩
              · have hk2 : (kind != 1) = true := by simp [hk1]
                rw [if_pos (by simp [hk1])] at HSTEP
                have hpp : 0 ≤ pl ∧ pl < (ws.length : Int) := ⟨k5, k6⟩
                go_wp2_with fail
                have hpc : w1.cell? ⟨wr.heap.size, 2, none⟩ = some (.int .i64 pl) ∧ w1.cell? ⟨B, 0, none⟩ = some (.int .u64 h) ∧ w1.cell? ⟨g, pl.toNat, none⟩ = some (.int .u64 z) := ⟨l2, s0, hcw⟩
                have hpe : ∀ o, (w1.alloc o).cell? ⟨wr.heap.size, 2, none⟩ = some (.int .i64 pl) ∧ (w1.alloc o).cell? ⟨B, 0, none⟩ = some (.int .u64 h) ∧ (w1.alloc o).cell? ⟨g, pl.toNat, none⟩ = some (.int .u64 z) := fun o => ⟨(hA5.alloc o).cell 2, (hB5.alloc o).cell 0, hzz (World.ownsRow.alloc HR5.out.own o)⟩
                have hwy := HR5.out.below.size
                have hal1 := hA5.lt
                have hgl1 := HR5.out.words.2
                have hbl1 := hB5.lt
                go_region_held3 (fun W' => W'.cell? ⟨wr.heap.size, 2, none⟩ = some (.int .i64 pl) ∧ W'.cell? ⟨B, 0, none⟩ = some (.int .u64 h) ∧ W'.cell? ⟨g, pl.toNat, none⟩ = some (.int .u64 z)) (first | exact hpc | exact hpd | exact hpe _ | (simp [*]; done)) (first | (refine step_append_lies _ rfl _ _ 40 rfl w.heap.size 47 iM (.agg #[.int .i64 0, .int .i64 0, .int .u64 0, .int .u64 0]) 4 32 Try.underlying40 hiM hM0 hM1 hM2 rfl (by decide) _ _ _ rfl (drew_own (World.ownsRow.alloc HM5.out _)) ⟨w1.heap.size, 0, none⟩ 1 1 [.int .i64 k, .int .i64 pl, .int .u64 h, .int .u64 z] rfl rfl (drew_new w1 _ [.int .i64 k, .int .i64 pl, .int .u64 h, .int .u64 z]) (by simp [Value.oneCell']) (by decide) (by unfold maxLen; omega) (by omega) (by simp; omega) _ rfl ?_; intro g5 cap5 w3 hown' hgrow hat hlt5; have hMa := drew_own (World.ownsRow.alloc HM5.out (.cells #[.int .i64 k, .int .i64 pl, .int .u64 h, .int .u64 z] 47)); have hA6 := grown_rows (hA5.alloc _).drew hMa (by decide) hgrow; have hB6 := grown_rows (hB5.alloc _).drew hMa (by decide) hgrow; have hR6 : Ready w ws' g cp w3 := ⟨grown_ne (drew_own (World.ownsRow.alloc HR5.out.own _)) hMa (by decide) hgrow, ((HR5.out.below.alloc hwy _).drew).grown hgrow (by simp; omega) (fun j ej => (World.ownsRow.lt hMa j ej).1)⟩; have hpd : w3.cell? ⟨wr.heap.size, 2, none⟩ = some (.int .i64 pl) ∧ w3.cell? ⟨B, 0, none⟩ = some (.int .u64 h) ∧ w3.cell? ⟨g, pl.toNat, none⟩ = some (.int .u64 z) := ⟨hA6.cell 2, hB6.cell 0, hzz hR6.own⟩; have hS6 := grown_ne (drew_own (World.ownsRow.alloc HS5.out _)) hMa (by decide) hgrow; have hM6 := markOwn hown'))
                go_wp2_with fail
                exact ⟨⟨k + 1, by omega, by go_num, HE1.out.trans hz, by rw [HST.out, HSTEP.out]; have h6 := hR6.own; rw [hlw] at h6; exact h6, by rw [HST.out, HSTEP.out]; exact hS6, by rw [HST.out, HSTEP.out]; exact hM6, hR6.below⟩, by simp [intOf]; omega⟩
        · have hd : (why ws.length who kind pl != 0) = true := by simp [hz]
          have he := HE2.out hz
          clear hOW3 hOS3 hOM3
          generalize why ws.length who kind pl = q at *
          go_wp2_with fail
          refine bodyPost_ret (results_tmp4 rfl _ _ _) rfl ?_
          refine .inl ⟨by rw [he]; exact hz, ?_, hB4⟩
          rw [he]
          rfl
      · obtain rfl : k = l.length := by omega
        rw [List.take_length] at herr
        have HOW := Lib.hid hOW
        have HOS := Lib.hid hOS
        have HOM := Lib.hid hOM
        clear hOW hOS hOM
        go_wp2_with fail
        refine bodyPost_ret (results_tmp4 rfl _ _ _) rfl ?_
        refine .inr ⟨herr, _, _, _, rfl, ?_, HOS.out, HOM.out, hB⟩
        exact HOW.out
end Go.Proofs
