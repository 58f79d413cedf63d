/- A region that draws its order, by facts: what each operation brings is kept by all that come behind it; one obligation for each operation, whatever the order. -/
import Derived.Test.YtkddfihfilhhdaaRz
namespace Go.Proofs
set_option maxRecDepth 100000
set_option maxRecDepth 100000
open Go.RowKit Go.Shelf
section
variable {P : Program} {ops : Array Oper} {Q : Exit → Act → World → Prop} {md : Region.Mode}

def upd (v : Nat → Value) (i : Nat) (x : Value) : Nat → Value := fun j => if j = i then x else v j
theorem upd_self (v : Nat → Value) (i : Nat) (x : Value) : upd v i x i = x := if_pos rfl
theorem upd_ne {v : Nat → Value} {i j : Nat} {x : Value} (h : j ≠ i) : upd v i x j = v j := if_neg h
/-- All of C are done, and of A those that b tells. -/
def lstOf (n : Nat) (C A b : Nat → Bool) : Array Bool := ((List.range n).map fun j => C j || (A j && b j)).toArray
def leftOf (n : Nat) (C A b : Nat → Bool) : Nat := (List.range n).countP fun j => !(C j || (A j && b j))
/-- C is a beginning of the region, A may be done ahead of its end, and all others wait for all of C. -/
def phaseOk (md : Region.Mode) (ops : Array Oper) (C A : Nat → Bool) : Bool :=
  (List.range ops.size).all fun j => match ops[j]? with
    | none => true
    | some o => (!C j || (A j && o.after.all fun e => !Region.binds md e || (C e.on && decide (e.on < j)))) && (A j || (List.range ops.size).all fun c => !C c || waitsFor md o c)
theorem lst_agree {n : Nat} {C A b b' : Nat → Bool} (h : ∀ j, j < n → C j = false → A j = true → b j = b' j) : leftOf n C A b = leftOf n C A b' ∧ lstOf n C A b = lstOf n C A b' := by
  have key : ∀ j, j < n → (C j || (A j && b j)) = (C j || (A j && b' j)) := fun j hj => by
    cases hc : C j with
    | true => rfl
    | false =>
      cases ha : A j with
      | false => rfl
      | true => rw [h j hj hc ha]
  refine ⟨List.countP_congr fun j hj => by rw [key j (List.mem_range.1 hj)], ?_⟩
  unfold lstOf
  rw [List.map_congr_left fun j hj => key j (List.mem_range.1 hj)]
theorem countP_one {p q : Nat → Bool} {i : Nat} : ∀ (l : List Nat), l.Nodup → i ∈ l → p i = true → q i = false → (∀ j ∈ l, j ≠ i → q j = p j) → l.countP p = l.countP q + 1
  | [], _, h, _, _, _ => by cases h
  | a :: l, hn, hi, hp, hq, hj => by
    rw [List.nodup_cons] at hn
    by_cases e : a = i
    · subst e
      have h1 : l.countP p = l.countP q := List.countP_congr fun j hjl => by rw [hj j (List.mem_cons_of_mem _ hjl) (fun e => hn.1 (e ▸ hjl))]
      rw [List.countP_cons_of_pos hp, List.countP_cons_of_neg (by rw [hq]; decide), h1]
    · have h1 := countP_one l hn.2 ((List.mem_cons.1 hi).resolve_left (fun h => e h.symm)) hp hq (fun j hjl h => hj j (List.mem_cons_of_mem _ hjl) h)
      have h2 := hj a (List.mem_cons_self ..) e
      rw [List.countP_cons, List.countP_cons, h1, h2]
      omega
theorem getD_lt {l : Array Bool} {j : Nat} (h : l.getD j false = true) : j < l.size := by
  rcases Nat.lt_or_ge j l.size with h' | h'
  · exact h'
  · simp [Array.getElem?_eq_none h'] at h
theorem getD_tf {l : Array Bool} {j : Nat} (h : j < l.size) (d e : Bool) : l.getD j d = l.getD j e := by simp [h]
theorem phase_spec {C A : Nat → Bool} (h : phaseOk md ops C A = true) {j : Nat} {o : Oper} (ho : ops[j]? = some o) :
    (C j = true → A j = true ∧ ∀ e ∈ o.after, Region.binds md e = true → C e.on = true ∧ e.on < j) ∧ (A j = false → ∀ c, c < ops.size → C c = true → waitsFor md o c = true) := by
  have hlt : j < ops.size := (Array.getElem?_eq_some_iff.1 ho).1
  have h1 := List.all_eq_true.1 h j (List.mem_range.2 hlt)
  rw [ho] at h1
  simp only [Bool.and_eq_true, Bool.or_eq_true, Bool.not_eq_true', Array.all_eq_true_iff_forall_mem, List.all_eq_true, List.mem_range, decide_eq_true_eq] at h1
  refine ⟨fun hc => ?_, fun ha c hcl hc => ?_⟩
  · rcases h1.1 with h2 | h2
    · rw [hc] at h2; cases h2
    · exact ⟨h2.1, fun e he hb => (h2.2 e he).resolve_left (by rw [hb]; decide)⟩
  · rcases h1.2 with h2 | h2
    · rw [ha] at h2; cases h2
    · exact (h2 c hcl).resolve_left (by rw [hc]; decide)
theorem wpAny_facts (fr : (Nat → Value) → Act) (F : Nat → Value → World → Prop) (R : World → World → Prop) (Bs : World → Prop) (C A : Nat → Bool)
    (hst : ∀ j v w w', F j v w → R w w' → F j v w') (hbs : ∀ w w', Bs w → R w w' → Bs w') (hok : phaseOk md ops C A = true)
    (hstep : ∀ j o, A j = true → ops[j]? = some o → ∀ v w, Bs w → (∀ e ∈ o.after, Region.binds md e = true → F e.on (v e.on) w) → ∀ K : Act → World → Prop, Hid (∀ x w', R w w' → F j x w' → K (fr (upd v j x)) w') →
      ∀ a, a = fr v → if Region.wanted o (yielded ops a.tmps) = true then Oper.wp P o a w K Q else K (a.put o.dst undef) w)
    (hfin : ∀ (b : Nat → Bool) v w, Bs w → (∀ j, j < ops.size → C j = true → F j (v j) w) → (∀ j, j < ops.size → A j = true → b j = true → F j (v j) w) → wpAny P md ops Q (leftOf ops.size C A b) (lstOf ops.size C A b) (fr v) w) :
    ∀ (n : Nat) (listed : Array Bool) (v : Nat → Value) (w : World), listed.size = ops.size → (∀ j, listed.getD j false = true → A j = true) → Bs w → (∀ j, listed.getD j false = true → F j (v j) w) →
      n = (List.range ops.size).countP (fun j => !listed.getD j false) → wpAny P md ops Q n listed (fr v) w := by
  intro n
  induction n with
  | zero =>
    intro listed v w hs hA hB hF hn
    have hall : ∀ j, j < ops.size → listed.getD j false = true := fun j hj => by
      have h := (List.countP_eq_zero.1 hn.symm) j (List.mem_range.2 hj)
      simpa using h
    have e1 : listed = lstOf ops.size C A (fun j => listed.getD j false) := by
      apply Array.ext
      · simp [lstOf, hs]
      · intro j h1 h2
        have h3 : j < ops.size := by omega
        have h4 := hall j h3
        have h5 := hA j h4
        simp only [lstOf, List.getElem_toArray, List.getElem_map, List.getElem_range, h4, h5, Bool.and_true, Bool.or_true]
        simpa [h1] using h4
    have e2 : leftOf ops.size C A (fun j => listed.getD j false) = 0 := List.countP_eq_zero.2 fun j hj => by
      have h3 := List.mem_range.1 hj
      show ¬ (!(C j || A j && listed.getD j false)) = true
      rw [hall j h3, hA j (hall j h3)]
      simp
    have h := hfin (fun j => listed.getD j false) v w hB (fun j hj _ => hF j (hall j hj)) (fun j hj _ _ => hF j (hall j hj))
    rw [e2, ← e1] at h
    exact h
  | succ m ih =>
    intro listed v w hs hA hB hF hn
    by_cases hC : ∀ j, j < ops.size → C j = true → listed.getD j false = true
    · have key : ∀ j, j < ops.size → (C j || (A j && listed.getD j false)) = listed.getD j false := fun j hj => by
        cases hl : listed.getD j false with
        | true => rw [hA j hl]; simp
        | false =>
          cases hc : C j with
          | true => rw [hC j hj hc] at hl; cases hl
          | false => simp
      have e1 : listed = lstOf ops.size C A (fun j => listed.getD j false) := by
        apply Array.ext
        · simp [lstOf, hs]
        · intro j h1 h2
          simp only [lstOf, List.getElem_toArray, List.getElem_map, List.getElem_range]
          rw [key j (by omega)]
          simp [h1]
      have e2 : leftOf ops.size C A (fun j => listed.getD j false) = m + 1 := by
        rw [hn]
        unfold leftOf
        exact List.countP_congr fun j hj => by rw [key j (List.mem_range.1 hj)]
      have h := hfin (fun j => listed.getD j false) v w hB (fun j hj hc => hF j (hC j hj hc)) (fun j _ _ hb => hF j hb)
      rw [e2, ← e1] at h
      exact h
    · have hex : ∃ c, c < ops.size ∧ C c = true ∧ listed.getD c false = false ∧ ∀ d, d < c → C d = true → listed.getD d false = true := by
        have h1 : ∃ c, c < ops.size ∧ C c = true ∧ listed.getD c false = false := Classical.byContradiction fun hno => hC fun j hj hc => by
          cases hl : listed.getD j false with
          | true => rfl
          | false => exact absurd ⟨j, hj, hc, hl⟩ hno
        obtain ⟨c, h2⟩ := h1
        induction c using Nat.strongRecOn with
        | _ c ihc =>
          by_cases hd : ∃ d, d < c ∧ C d = true ∧ listed.getD d false = false
          · obtain ⟨d, hd1, hd2, hd3⟩ := hd
            exact ihc d hd1 ⟨by omega, hd2, hd3⟩
          · refine ⟨c, h2.1, h2.2.1, h2.2.2, fun d hd1 hd2 => ?_⟩
            cases hl : listed.getD d false with
            | true => rfl
            | false => exact absurd ⟨d, hd1, hd2, hl⟩ hd
      obtain ⟨c, hcl, hcc, hcu, hcm⟩ := hex
      have hoc : ∃ o, ops[c]? = some o := ⟨ops[c], Array.getElem?_eq_getElem hcl⟩
      obtain ⟨oc, hoc⟩ := hoc
      have hrc : c ∈ Region.ready md ops listed := mem_ready.2 ⟨by rw [getD_tf (by omega) true false]; exact hcu, oc, hoc, fun e he hb => by
        have h3 := ((phase_spec hok hoc).1 hcc).2 e he hb
        exact hcm e.on h3.2 h3.1⟩
      refine ⟨fun h0 => (by rw [h0] at hrc; cases hrc), fun i hi => ?_⟩
      obtain ⟨hun, o, ho, hdep⟩ := mem_ready.1 hi
      have hil : i < ops.size := (Array.getElem?_eq_some_iff.1 ho).1
      have hun' : listed.getD i false = false := by rw [getD_tf (by omega) false true]; exact hun
      have hAi : A i = true := by
        cases ha : A i with
        | true => rfl
        | false =>
          have h4 := (phase_spec hok ho).2 ha c hcl hcc
          obtain ⟨e, he, hb⟩ := Array.any_eq_true'.1 h4
          simp only [Bool.and_eq_true, beq_iff_eq] at hb
          have h5 := hdep e he hb.1
          rw [hb.2, hcu] at h5
          cases h5
      refine wpOp_step ho (fun K' hK => hstep i o hAi ho v w hB (fun e he hb => hF e.on (hdep e he hb)) K' (Lib.hid fun x w' hR hFi => hK _ _ ?_) _ rfl)
      have hget : ∀ j, (listed.setIfInBounds i true).getD j false = true → j = i ∨ (j ≠ i ∧ listed.getD j false = true) := fun j h => by
        by_cases e : i = j
        · exact .inl e.symm
        · rw [getD_set_ne false e] at h
          exact .inr ⟨fun h => e h.symm, h⟩
      refine ih (listed.setIfInBounds i true) (upd v i x) w' (by simpa using hs) (fun j hj => ?_) (hbs _ _ hB hR) (fun j hj => ?_) ?_
      · rcases hget j hj with rfl | ⟨_, h⟩
        · exact hAi
        · exact hA j h
      · rcases hget j hj with rfl | ⟨hne, h⟩
        · rw [upd_self]; exact hFi
        · rw [upd_ne hne]; exact hst _ _ _ _ (hF j h) hR
      · have h6 := countP_one (p := fun j => !listed.getD j false) (q := fun j => !(listed.setIfInBounds i true).getD j false) (i := i) (List.range ops.size) List.nodup_range (List.mem_range.2 hil) (by show (!listed.getD i false) = true; rw [hun']; rfl)
          (by show (!(listed.setIfInBounds i true).getD i false) = false; simp [hs, hil]) (fun j _ hne => by show (!(listed.setIfInBounds i true).getD j false) = (!listed.getD j false); rw [getD_set_ne false (fun e => hne e.symm)])
        omega
theorem wp_region_facts (fr : (Nat → Value) → Act) (F : Nat → Value → World → Prop) (R : World → World → Prop) (Bs : World → Prop) (C A : Nat → Bool) (v : Nat → Value) {id : Nat} {w : World}
    (hm : P.follows .mixedOrders = true) (hB : Bs w.drew)
    (hst : ∀ j v w w', F j v w → R w w' → F j v w') (hbs : ∀ w w', Bs w → R w w' → Bs w') (hok : phaseOk .any ops C A = true)
    (hstep : ∀ j o, A j = true → ops[j]? = some o → ∀ v w, Bs w → (∀ e ∈ o.after, Region.binds .any e = true → F e.on (v e.on) w) → ∀ K : Act → World → Prop, Hid (∀ x w', R w w' → F j x w' → K (fr (upd v j x)) w') →
      ∀ a, a = fr v → if Region.wanted o (yielded ops a.tmps) = true then Oper.wp P o a w K Q else K (a.put o.dst undef) w)
    (hfin : ∀ (b : Nat → Bool) v w, Bs w → (∀ j, j < ops.size → C j = true → F j (v j) w) → (∀ j, j < ops.size → A j = true → b j = true → F j (v j) w) → wpAny P .any ops Q (leftOf ops.size C A b) (lstOf ops.size C A b) (fr v) w) :
    (Code.region id ops true).wp P Q (fr v) w :=
  wp_region_any hm (wpAny_facts fr F R Bs C A hst hbs hok hstep hfin ops.size (Array.replicate ops.size false) v w.drew (by simp)
    (fun j h => by have h2 := getD_lt h; simp at h2; simp [h2] at h) hB (fun j h => by have h2 := getD_lt h; simp at h2; simp [h2] at h) (by
      have h : (List.range ops.size).countP (fun j => !(Array.replicate ops.size false).getD j false) = (List.range ops.size).length := List.countP_eq_length.2 fun j hj => by
        have h3 := List.mem_range.1 hj
        simp [h3]
      rw [h, List.length_range]))
end
end Go.Proofs
