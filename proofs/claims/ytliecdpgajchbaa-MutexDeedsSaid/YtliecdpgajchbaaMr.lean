/- What is asked for, and left, leaves mutexes that may be; deeds. -/
import Derived.Test.YtliecdpgajchbaaMq
namespace Go.Proofs
open Go.RowKit Go.Shelf
attribute [local go_sem] Oper.semAt_some

theorem nodup_len (N : Nat) (l : List Int) (hn : l.Nodup) (h : ∀ g ∈ l, 0 ≤ g ∧ g < N) : l.length ≤ N := by
  induction N generalizing l with
  | zero =>
    cases l with
    | nil => simp
    | cons g t =>
      have := h g (by simp)
      omega
  | succ N ih =>
    by_cases hm : (N : Int) ∈ l
    · have h1 := ih (l.erase N) (hn.erase _) (fun g hg => by
        have hg2 := (hn.mem_erase_iff).1 hg
        have := h g hg2.2
        have := hg2.1
        omega)
      rw [List.length_erase_of_mem hm] at h1
      omega
    · have h1 := ih l hn (fun g hg => by
        have := h g hg
        have : g ≠ N := fun e => hm (e ▸ hg)
        omega)
      omega
theorem right_len {ms : List Mx} (hr : rightB ms = true) : (flatQ ms).length ≤ 8 := by
  obtain ⟨_, h1, h2⟩ := (rightB_iff ms).1 hr
  refine nodup_len 8 _ h2 (fun g hg => ?_)
  obtain ⟨m, hm, hq⟩ := mem_flatQ.1 hg
  have := ((h1 m hm).2 g hq).1
  simp [goerB] at this
  omega
theorem flatQ_split (A B : List Mx) (m : Mx) : flatQ (A ++ m :: B) = flatQ A ++ (m.q ++ flatQ B) := by
  unfold flatQ
  rw [List.flatMap_append, List.flatMap_cons]
theorem right_swap {A B : List Mx} {m m' : Mx} (hr : rightB (A ++ m :: B) = true) (h1 : okB m' = true) (h2 : ∀ g ∈ m'.q, goerB g = true ∧ g + 1 ≠ m'.own) (h3 : m'.q.Nodup) (h4 : ∀ g ∈ m'.q, g ∈ m.q ∨ g ∉ flatQ (A ++ m :: B)) : rightB (A ++ m' :: B) = true := by
  obtain ⟨hl, ha, hn⟩ := (rightB_iff _).1 hr
  rw [rightB_iff]
  refine ⟨by simpa using hl, fun x hx => ?_, ?_⟩
  · rw [List.mem_append, List.mem_cons] at hx
    rcases hx with hx | rfl | hx
    · exact ha x (by simp [hx])
    · exact ⟨h1, h2⟩
    · exact ha x (by simp [hx])
  · rw [flatQ_split] at hn h4 ⊢
    rw [List.nodup_append] at hn ⊢
    obtain ⟨n1, n2, n3⟩ := hn
    rw [List.nodup_append] at n2 ⊢
    obtain ⟨n4, n5, n6⟩ := n2
    refine ⟨n1, ⟨h3, n5, fun a haq b hb e => ?_⟩, fun a haA b hb e => ?_⟩
    · subst e
      rcases h4 a haq with h | h
      · exact n6 a h a hb rfl
      · exact h (by simp [hb])
    · subst e
      rcases List.mem_append.1 hb with hb | hb
      · rcases h4 a hb with h | h
        · exact n3 a haA a (by simp [h]) rfl
        · exact h (by simp [haA])
      · exact n3 a haA a (by simp [hb]) rfl
theorem set_split (ms : List Mx) (k : Nat) (h : k < ms.length) (m : Mx) : ms.set k m = ms.take k ++ m :: ms.drop (k + 1) := by
  rw [List.set_eq_take_append_cons_drop, if_pos h]
theorem self_split (ms : List Mx) (k : Nat) (h : k < ms.length) : ms = ms.take k ++ ms[k] :: ms.drop (k + 1) := by
  rw [← drop_next ms k h, List.take_append_drop]
theorem right_set {ms : List Mx} {k : Nat} (hk : k < ms.length) {m' : Mx} (hr : rightB ms = true) (h1 : okB m' = true) (h2 : ∀ g ∈ m'.q, goerB g = true ∧ g + 1 ≠ m'.own) (h3 : m'.q.Nodup) (h4 : ∀ g ∈ m'.q, g ∈ ms[k].q ∨ g ∉ flatQ ms) : rightB (ms.set k m') = true := by
  rw [set_split ms k hk]
  refine right_swap (m := ms[k]) (by rw [← self_split ms k hk]; exact hr) h1 h2 h3 (fun g hg => ?_)
  rw [← self_split ms k hk]
  exact h4 g hg
theorem queue_nodup {ms : List Mx} {k : Nat} (hk : k < ms.length) (hr : rightB ms = true) : (ms[k]).q.Nodup := by
  obtain ⟨_, _, hn⟩ := (rightB_iff _).1 hr
  rw [self_split ms k hk, flatQ_split, List.nodup_append, List.nodup_append] at hn
  exact hn.2.1.1
theorem right_at {ms : List Mx} {k : Nat} (hk : k < ms.length) (hr : rightB ms = true) : okB ms[k] = true ∧ ∀ g ∈ ms[k].q, goerB g = true ∧ g + 1 ≠ ms[k].own := ((rightB_iff _).1 hr).2.1 _ (List.getElem_mem hk)
theorem askE_ok {ms : List Mx} {which goer : Int} (h : askE ms which goer = 0) : argB ms which goer = true ∧ (atM ms which).own ≠ goer + 1 ∧ waitsB ms goer = -1 := by
  unfold askE at h
  split at h
  · rename_i hb
    split at h
    · cases h
    · rename_i h2
      rw [not_or, Decidable.not_not] at h2
      exact ⟨hb, h2⟩
  · cases h
theorem leaveE_ok {ms : List Mx} {which goer : Int} (h : leaveE ms which goer = 0) : argB ms which goer = true ∧ (atM ms which).own = goer + 1 := by
  unfold leaveE at h
  split at h
  · rename_i hb
    split at h
    · rename_i h2
      exact ⟨hb, h2⟩
    · cases h
  · cases h
theorem right_ask {ms : List Mx} {which goer : Int} (hr : rightB ms = true) (h : askE ms which goer = 0) : rightB (askS ms which goer) = true := by
  obtain ⟨hb, h1, h2⟩ := askE_ok h
  obtain ⟨⟨hw1, hw2⟩, hg1, hg2⟩ := argB_iff.1 hb
  obtain ⟨k, rfl⟩ : ∃ k : Nat, which = (k : Int) := ⟨which.toNat, by omega⟩
  have hk : k < ms.length := by omega
  obtain ⟨ho, hq⟩ := right_at hk hr
  rw [atM_eq hk] at h1
  unfold askS
  rw [atM_eq hk, Int.toNat_natCast]
  simp only [okB, decide_eq_true_eq] at ho
  have hng := waitsB_none.1 h2
  have hgb : goerB goer = true := by simp [goerB]; omega
  by_cases h0 : ms[k].own = 0
  · rw [if_pos h0]
    have hq0 : ms[k].q = [] := List.eq_nil_of_length_eq_zero (ho.2.2 h0)
    rw [hq0]
    refine right_set hk hr ?_ (by simp) List.nodup_nil (by simp)
    simp only [okB, decide_eq_true_eq]
    exact ⟨by omega, by omega, fun _ => rfl⟩
  · rw [if_neg h0]
    refine right_set hk hr ?_ (fun g hg => ?_) ?_ (fun g hg => ?_)
    · simp only [okB, decide_eq_true_eq]
      exact ⟨ho.1, ho.2.1, fun h => absurd h h0⟩
    · rcases List.mem_append.1 hg with hg | hg
      · exact hq g hg
      · simp at hg
        subst hg
        exact ⟨hgb, fun e => h1 e.symm⟩
    · rw [List.nodup_append]
      refine ⟨queue_nodup hk hr, by simp, fun a ha b hb e => ?_⟩
      simp at hb
      subst hb e
      exact hng (mem_flatQ.2 ⟨_, List.getElem_mem hk, ha⟩)
    · rcases List.mem_append.1 hg with hg | hg
      · exact .inl hg
      · simp at hg
        subst hg
        exact .inr hng
theorem right_leave {ms : List Mx} {which goer : Int} (hr : rightB ms = true) (h : leaveE ms which goer = 0) : rightB (leaveS ms which) = true := by
  obtain ⟨hb, h1⟩ := leaveE_ok h
  obtain ⟨⟨hw1, hw2⟩, hg1, hg2⟩ := argB_iff.1 hb
  obtain ⟨k, rfl⟩ : ∃ k : Nat, which = (k : Int) := ⟨which.toNat, by omega⟩
  have hk : k < ms.length := by omega
  obtain ⟨ho, hq⟩ := right_at hk hr
  have hnd := queue_nodup hk hr
  unfold leaveS
  rw [atM_eq hk, Int.toNat_natCast]
  cases hc : ms[k].q with
  | nil => exact right_set hk hr (by simp [leaveX, okB]) (by simp [leaveX]) List.nodup_nil (by simp [leaveX])
  | cons z t =>
    rw [hc] at hq hnd
    rw [List.nodup_cons] at hnd
    have hz := (hq z (by simp)).1
    simp [goerB] at hz
    refine right_set hk hr ?_ (fun g hg => ⟨(hq g (by simp [leaveX] at hg; simp [hg])).1, fun e => ?_⟩) hnd.2 (fun g hg => .inl ?_)
    · exact decide_eq_true ⟨by show (0 : Int) ≤ z + 1; omega, by show z + 1 ≤ 8; omega, fun h => by have : z + 1 = 0 := h; omega⟩
    · simp only [leaveX] at e hg
      have : g = z := by omega
      subst this
      exact hnd.1 hg
    · rw [hc]
      simp only [leaveX] at hg
      exact List.mem_cons_of_mem _ hg
theorem ask_len (ms : List Mx) (which goer : Int) : (askS ms which goer).length = ms.length := List.length_set ..
theorem leave_len (ms : List Mx) (which : Int) : (leaveS ms which).length = ms.length := List.length_set ..

structure Dd where
  lv : Bool
  goer : Int
  which : Int
deriving DecidableEq, Inhabited
/-- What comes of deeds. -/
def playR : List Mx → Nat → List Dd → Int × List Mx × Nat
  | ms, p, [] => (0, ms, p)
  | ms, p, d :: t =>
    if waitsB ms d.goer ≠ -1 then playR ms (p + 1) t
    else if d.lv = true then (if leaveE ms d.which d.goer = 0 then playR (leaveS ms d.which) p t else (leaveE ms d.which d.goer, [], 0))
    else (if askE ms d.which d.goer = 0 then playR (askS ms d.which d.goer) p t else (askE ms d.which d.goer, [], 0))
/-- The error of a deed that is not passed over. -/
def deedE (ms : List Mx) (d : Dd) : Int := if d.lv = true then leaveE ms d.which d.goer else askE ms d.which d.goer
def deedS (ms : List Mx) (d : Dd) : List Mx := if d.lv = true then leaveS ms d.which else askS ms d.which d.goer
theorem playR_wait {ms : List Mx} {p : Nat} {d : Dd} {t : List Dd} (h : waitsB ms d.goer ≠ -1) : playR ms p (d :: t) = playR ms (p + 1) t := by
  rw [playR, if_pos h]
theorem playR_err {ms : List Mx} {p : Nat} {d : Dd} {t : List Dd} (h : waitsB ms d.goer = -1) (he : deedE ms d ≠ 0) : playR ms p (d :: t) = (deedE ms d, [], 0) := by
  rw [playR, if_neg (by simp [h])]
  unfold deedE at *
  split at he <;> rename_i h2
  · rw [if_pos h2, if_neg he, if_pos h2]
  · rw [if_neg h2, if_neg he, if_neg h2]
theorem playR_ok {ms : List Mx} {p : Nat} {d : Dd} {t : List Dd} (h : waitsB ms d.goer = -1) (he : deedE ms d = 0) : playR ms p (d :: t) = playR (deedS ms d) p t := by
  rw [playR, if_neg (by simp [h])]
  unfold deedE at he
  unfold deedS
  split at he <;> rename_i h2
  · rw [if_pos h2, if_pos he, if_pos h2]
  · rw [if_neg h2, if_pos he, if_neg h2]
theorem right_deed {ms : List Mx} {d : Dd} (hr : rightB ms = true) (h : deedE ms d = 0) : rightB (deedS ms d) = true := by
  unfold deedE at h
  unfold deedS
  split at h <;> rename_i h2
  · rw [if_pos h2]; exact right_leave hr h
  · rw [if_neg h2]; exact right_ask hr h
theorem deed_len (ms : List Mx) (d : Dd) : (deedS ms d).length = ms.length := by
  unfold deedS
  split
  · exact leave_len _ _
  · exact ask_len _ _ _

/-- A row of deeds. -/
def DdVals (l : List Dd) : List Value := l.flatMap fun d => [.bool d.lv, .int .i64 d.goer, .int .i64 d.which]
def DdAt (W : World) (v : Value) (ds : List Dd) : Prop := RowAt W v ds.length 3 (DdVals ds)
theorem ddVals_length (l : List Dd) : (DdVals l).length = l.length * 3 := flat_length _ 3 (fun _ => rfl) l
theorem ddAt_get {W : World} {x : Option Addr} {n cap : Nat} {ds : List Dd} (h : DdAt W (.slice x n cap) ds) (j : Nat) (hj : j < ds.length) :
    ∃ b off, x = some ⟨b, off, none⟩ ∧ b < W.heap.size ∧ W.cell? ⟨b, off + j * 3, none⟩ = some (.bool ds[j].lv) ∧ W.cell? ⟨b, off + j * 3 + 1, none⟩ = some (.int .i64 ds[j].goer) ∧ W.cell? ⟨b, off + j * 3 + 2, none⟩ = some (.int .i64 ds[j].which) := by
  obtain ⟨h0, a, cap', e, _, _, _, hc⟩ := h
  cases e
  have hg := fun i (hi : i < 3) => flat_get (fun d : Dd => [Value.bool d.lv, .int .i64 d.goer, .int .i64 d.which]) 3 (fun _ => rfl) ds j i hj hi
  obtain ⟨b, off, e, hb, h1⟩ := hc (j * 3) (by rw [ddVals_length]; omega)
  obtain ⟨b2, off2, e2, _, h2⟩ := hc (j * 3 + 1) (by rw [ddVals_length]; omega)
  obtain ⟨b3, off3, e3, _, h3⟩ := hc (j * 3 + 2) (by rw [ddVals_length]; omega)
  rw [e] at e2 e3
  cases e2
  cases e3
  have g0 := hg 0 (by omega)
  rw [Nat.add_zero] at g0
  exact ⟨b, off, e, hb, h1.trans g0, by rw [Nat.add_assoc]; exact h2.trans (hg 1 (by omega)), by rw [Nat.add_assoc]; exact h3.trans (hg 2 (by omega))⟩
theorem ddAt_len {W : World} {x : Option Addr} {n cap : Nat} {ds : List Dd} (h : DdAt W (.slice x n cap) ds) : n = ds.length ∧ n ≤ cap ∧ cap ≤ maxLen := by
  obtain ⟨_, a', cap', e', h2, h3, _⟩ := h
  cases e'
  exact ⟨rfl, h2, h3⟩

theorem Try.does_any (lv : Bool) (goer which : Int) (w : World) :
    Calls Try.prog 60 #[.agg #[.bool lv, .int .i64 goer, .int .i64 which]] w fun e w' => e = .returned (.func (.func (if lv = true then 46 else 43)) #[] #[]) ∧ Below w.heap.size w w' := by
  have hB : Below w.heap.size w (w.alloc (.cells #[.bool lv, .int .i64 goer, .int .i64 which] 42)) := Rows8.newB
  have HB := Lib.hid hB
  clear hB
  cases lv with
  | true =>
    go_enter Try.func60, Try.ntmps60
    go_wp2_with fail
    go_ret
    exact ⟨rfl, HB.out⟩
  | false =>
    go_enter Try.func60, Try.ntmps60
    go_wp2_with fail
    go_ret
    exact ⟨rfl, HB.out⟩
end Go.Proofs
