/- The reference's Far. -/
import Derived.Test.YtehphohgnpbmpaaQr
import Derived.Test.YtehphohgnpbmpaaQk
namespace Go.Proofs
open Go.RowKit Go.Shelf
attribute [local go_sem] Oper.semAt_some

theorem farB_le (g : Nat) (ls : List Nat) (x : Nat) : farB g ls x ≤ ls.length * g := by
  induction ls with
  | nil => simp [farB]
  | cons a t ih =>
    have e : farB g (a :: t) x = place g a x + farB g t x := by simp [farB]
    have := place_le g a x
    rw [e, List.length_cons, Nat.add_mul]
    omega
theorem farB_snoc (g : Nat) (ls : List Nat) (l x : Nat) : farB g (ls ++ [l]) x = farB g ls x + place g l x := by simp [farB]
/-- Sums, some groups of the next hash among them. -/
def farF (g : Nat) (ls : List Nat) (l x y : Nat) : Nat := farB g ls y + if y < x then place g l y else 0
theorem farF_succ (g : Nat) (ls : List Nat) (l x : Nat) : (fun y => if y = x then farF g ls l x x + place g l x else farF g ls l x y) = farF g ls l (x + 1) := by
  funext y
  unfold farF
  by_cases e : y = x
  · subst e; rw [if_pos rfl, if_neg (by omega), if_pos (by omega)]; omega
  · rw [if_neg e]
    by_cases h : y < x
    · rw [if_pos h, if_pos (by omega)]
    · rw [if_neg h, if_neg (by omega)]
set_option maxRecDepth 100000 in
set_option maxHeartbeats 8000000 in
theorem Try.refFar_any (g : Nat) (hm : mayB g = true) (ws : List Int) (hk : KeysOk ws) (a : Option Addr) (n c : Nat) (hn : n = ws.length) (hl : n ≤ 1000) (w : World) (hI : WordsAt w (.slice a n c) ws) :
    Calls Try.prog 23 #[.int .i64 (g : Int), .slice a n c] w (FarQ g (lefts g ws) w) := by
  obtain ⟨hg, hg2⟩ := mayB_le hm
  obtain ⟨i0, hi, hi0, hi1, hi2⟩ := info_parts Try.infoInt
  have hmk : ∀ W : World, (Instr.makeSlice 23 (.int .i64 (g : Int)) (.int .i64 (g : Int))).run Try.prog W = .ok (.slice (some ⟨W.heap.size, 0, none⟩) g g) (W.alloc (.cells (arrN g fun _ => 0) 3)) := fun W => by
    have h := run_makeSlice (P := Try.prog) (w := W) 23 3 i0 (.int .i64 0) Try.underlying23 hi hi0 .i64 .i64 (g : Int) (g : Int) (by omega) (Int.le_refl _) (by rw [hi1, Int.toNat_natCast]; omega) (by rw [hi2]; omega) (by omega)
    rw [h, Int.toNat_natCast, hi1, arrN_zero]
    congr 3
    simp only [madeCells, Value.cells, Nat.mul_one]
    apply Array.ext (by simp)
    intro i h1 h2
    simp [Nat.mod_one]
  clear hi hi0 hi1 hi2
  refine (callsIn_wide (n := 9)).1 ?_
  refine callsIn_of_wp Try.func23 rfl trivial ?_ rfl
  simp only [Try.ntmps23, List.size_toArray, List.length_cons, List.length_nil, Nat.reduceAdd, Nat.reduceSub, Array.replicate_succ, Array.replicate_zero, List.push_toArray, List.append_toArray, List.nil_append, List.cons_append]
  have HI := Lib.hid hI
  have HN := Lib.hid hn
  have HKO := Lib.hid hk
  have hms := hmk w
  clear hI hn hk hmk
  gi_wp2_with fail
  have r0 := Rows8.new w 3 (arrN g fun _ => 0)
  have hB0 : Below w.heap.size w (w.alloc (.cells (arrN g fun _ => 0) 3)) := (Below.refl _ w).alloc (Nat.le_refl _) _
  generalize w.alloc (.cells (arrN g fun _ => 0) 3) = W0 at *
  gi_loopw [13] (fun j wr => ∃ k : Nat, k ≤ n ∧ j = .int .i64 k ∧ Rows8 wr w.heap.size 3 (arrN g (farB g ((lefts g ws).take k))) ∧ Below w.heap.size w wr) (fun j _ => n - (intOf j).toNat)
  case atStart => exact ⟨0, Nat.zero_le _, rfl, by rw [show farB g ((lefts g ws).take 0) = fun _ => 0 from by funext y; simp [farB]]; exact r0, hB0⟩
  case round =>
    obtain ⟨k, hk, rfl, hR, hB⟩ := hrel
    by_cases hlt : k < n
    · have hkl : k < ws.length := by rw [← HN.out]; exact hlt
      have hkl2 : k < (lefts g ws).length := by unfold lefts; rw [List.length_map]; exact hkl
      have htk := take_snoc (lefts g ws) k hkl2
      have hle : (lefts g ws)[k] = (ws[k]).toNat % g := by simp [lefts]
      rw [hle] at htk
      obtain ⟨b, off, rfl, hb, hc⟩ := wordsAt_get (RowAt.below HI.out hB) k hkl
      have hkr := HKO.out _ (List.getElem_mem hkl)
      rw [List.getElem?_eq_getElem hkl, Option.getD_some] at hc
      obtain ⟨h, hh⟩ : ∃ h : Nat, ws[k] = (h : Int) := ⟨(ws[k]).toNat, by omega⟩
      rw [hh] at hc hkr htk
      rw [Int.toNat_natCast] at htk
      have hh2 : h < 18446744073709551616 := by omega
      have HTK := Lib.hid htk
      have hR2 : Rows8 wr w.heap.size 3 (arrN g (farF g ((lefts g ws).take k) (h % g) 0)) := by
        have e : farF g ((lefts g ws).take k) (h % g) 0 = farB g ((lefts g ws).take k) := by funext y; simp [farF]
        rw [e]; exact hR
      have hsl : ∀ x y, farF g ((lefts g ws).take k) (h % g) x y ≤ 70000 := fun x y => by
        have h1 := farB_le g ((lefts g ws).take k) y
        have h2 := place_le g (h % g) y
        have h3 : ((lefts g ws).take k).length * g ≤ 1000 * 64 := Nat.mul_le_mul (by rw [List.length_take]; omega) hg2
        unfold farF
        split <;> omega
      have hki : (k : Int) < (n : Int) := by omega
      have HRR := Lib.hid hR2
      have HBB := Lib.hid hB
      clear hR hB hh hle htk hkl2 r0 hB0 hR2
      rename World => w0
      gi_wp2_with fail
      gi_loopw [18] (fun j wr => ∃ x : Nat, x ≤ g ∧ j = .int .i64 x ∧ Rows8 wr w.heap.size 3 (arrN g (farF g ((lefts g ws).take k) (h % g) x)) ∧ Below w.heap.size w wr) (fun j _ => g - (intOf j).toNat)
      case atStart => exact ⟨0, Nat.zero_le _, rfl, HRR.out, HBB.out⟩
      case round =>
        obtain ⟨x, hx1, rfl, hR, hB⟩ := hrel
        by_cases hx : x < g
        · have hst := farF_succ g ((lefts g ws).take k) (h % g) x
          have hslx := hsl x x
          have hpl := place_le g (h % g) x
          have HP := fun W => Lib.hid (Try.refPlace_any g h x hm hx hh2 W)
          have c1 := hR.cell x
          rw [arrN_get _ _ _ hx] at c1
          have f1 := hR.frozen x
          have hz1 := hR.lt
          have hxi : (x : Int) < (g : Int) := by omega
          generalize hpe : place g (h % g) x = p at *
          generalize hse : farF g ((lefts g ws).take k) (h % g) x x = s at *
          have hwp : IntKind.i64.wrap ((s : Int) + (p : Int)) = (s : Int) + (p : Int) := IntWalk.i64_in _ (by omega)
          have HS := Lib.hid hse
          have HST := Lib.hid hst
          have HR := Lib.hid hR
          have HB := Lib.hid hB
          clear hR hB hst hse hpe hsl
          gi_wp2_with fail
          refine wpIn_region_held (S := fun _ => True) free2_wide (by rintro ⟨_, _, h⟩; obtain ⟨_, h, _⟩ := h; cases h) (by kernel_rfl) (by kernel_rfl) trivial (fun _ => ?_)
          refine wpAnyH_take (i := 0) (oi := { dst := some 21, op := Go.Op.move (Go.Operand.tmp 5), type := 23, pos := "ref.go:56", after := #[], guard := none }) (v := .slice (some ⟨w.heap.size, 0, none⟩) g g) rfl (by kernel_rfl) (by kernel_rfl) (by kernel_rfl) (fun _ _ _ h => h) (Or.inl ⟨by rfl, ?_⟩) trivial ?_
          · intro W9 _
            go_simp
          try simp only [Act.put, List.setIfInBounds_toArray, List.set_cons_zero, List.set_cons_succ]
          refine wpAnyH_take (i := 1) (oi := { dst := some 22, op := Go.Op.move (Go.Operand.tmp 8), type := 3, pos := "ref.go:56", after := #[], guard := none }) (v := .int .i64 (x : Int)) rfl (by kernel_rfl) (by kernel_rfl) (by kernel_rfl) (fun _ _ _ h => h) (Or.inl ⟨by rfl, ?_⟩) trivial ?_
          · intro W9 _
            go_simp
          try simp only [Act.put, List.setIfInBounds_toArray, List.set_cons_zero, List.set_cons_succ]
          refine wpAnyH_take (i := 2) (oi := { dst := some 23, op := Go.Op.move (Go.Operand.tmp 5), type := 23, pos := "ref.go:56", after := #[], guard := none }) (v := .slice (some ⟨w.heap.size, 0, none⟩) g g) rfl (by kernel_rfl) (by kernel_rfl) (by kernel_rfl) (fun _ _ _ h => h) (Or.inl ⟨by rfl, ?_⟩) trivial ?_
          · intro W9 _
            go_simp
          try simp only [Act.put, List.setIfInBounds_toArray, List.set_cons_zero, List.set_cons_succ]
          refine wpAnyH_take (i := 3) (oi := { dst := some 24, op := Go.Op.move (Go.Operand.tmp 8), type := 3, pos := "ref.go:56", after := #[], guard := none }) (v := .int .i64 (x : Int)) rfl (by kernel_rfl) (by kernel_rfl) (by kernel_rfl) (fun _ _ _ h => h) (Or.inl ⟨by rfl, ?_⟩) trivial ?_
          · intro W9 _
            go_simp
          try simp only [Act.put, List.setIfInBounds_toArray, List.set_cons_zero, List.set_cons_succ]
          refine wpAnyH_take (i := 4) (oi := { dst := some 25, op := Go.Op.indexAddr 23 (Go.Operand.tmp 23) (Go.Operand.tmp 24), type := 0, pos := "ref.go:56", after := #[{ on := 2, ground := Go.Ground.data }, { on := 3, ground := Go.Ground.data }], guard := none }) (v := .pointer (some ⟨w.heap.size, x, none⟩)) rfl (by kernel_rfl) (by kernel_rfl) (by kernel_rfl) (fun _ _ _ h => h) (Or.inl ⟨by rfl, ?_⟩) trivial ?_
          · intro W9 _
            go_simp
          try simp only [Act.put, List.setIfInBounds_toArray, List.set_cons_zero, List.set_cons_succ]
          refine wpAnyH_take (i := 6) (oi := { dst := some 27, op := Go.Op.move (Go.Operand.tmp 0), type := 3, pos := "ref.go:56", after := #[], guard := none }) (v := .int .i64 (g : Int)) rfl (by kernel_rfl) (by kernel_rfl) (by kernel_rfl) (fun _ _ _ h => h) (Or.inl ⟨by rfl, ?_⟩) trivial ?_
          · intro W9 _
            go_simp
          try simp only [Act.put, List.setIfInBounds_toArray, List.set_cons_zero, List.set_cons_succ]
          refine wpAnyH_take (i := 7) (oi := { dst := some 28, op := Go.Op.move (Go.Operand.tmp 7), type := 22, pos := "ref.go:56", after := #[], guard := none }) (v := .int .u64 (h : Int)) rfl (by kernel_rfl) (by kernel_rfl) (by kernel_rfl) (fun _ _ _ h => h) (Or.inl ⟨by rfl, ?_⟩) trivial ?_
          · intro W9 _
            go_simp
          try simp only [Act.put, List.setIfInBounds_toArray, List.set_cons_zero, List.set_cons_succ]
          refine wpAnyH_take (i := 8) (oi := { dst := some 29, op := Go.Op.move (Go.Operand.tmp 8), type := 3, pos := "ref.go:56", after := #[], guard := none }) (v := .int .i64 (x : Int)) rfl (by kernel_rfl) (by kernel_rfl) (by kernel_rfl) (fun _ _ _ h => h) (Or.inl ⟨by rfl, ?_⟩) trivial ?_
          · intro W9 _
            go_simp
          try simp only [Act.put, List.setIfInBounds_toArray, List.set_cons_zero, List.set_cons_succ]
          refine wpAnyH_ready (rs := [5, 9]) (by kernel_rfl) (by simp) ?_
          refine AllReadyH.cons (o := { dst := some 26, op := Go.Op.load 3 (Go.Operand.tmp 25), type := 3, pos := "ref.go:56", after := #[{ on := 4, ground := Go.Ground.data }], guard := none }) rfl (fun K hK => ?_) (AllReadyH.cons (o := { dst := some 30, op := Go.Op.call { callee := Go.Callee.value (Go.Operand.func 17), args := #[Go.Operand.tmp 27, Go.Operand.tmp 28, Go.Operand.tmp 29], argTypes := #[3, 22, 3] }, type := 3, pos := "ref.go:56", after := #[{ on := 6, ground := Go.Ground.data }, { on := 7, ground := Go.Ground.data }, { on := 8, ground := Go.Ground.data }], guard := none }) rfl (fun K hK => ?_) AllReadyH.nil)
          · refine step_value rfl (.int .i64 (s : Int)) (w' := wr.drew) (by go_simp) ?_
            refine hK.out _ _ trivial (fun _ => ?_)
            clear hK K
            try simp only [Act.put, List.setIfInBounds_toArray, List.set_cons_zero, List.set_cons_succ]
            refine wpAnyH_ready (rs := [9]) (by kernel_rfl) (by simp) ?_
            refine AllReadyH.cons (o := { dst := some 30, op := Go.Op.call { callee := Go.Callee.value (Go.Operand.func 17), args := #[Go.Operand.tmp 27, Go.Operand.tmp 28, Go.Operand.tmp 29], argTypes := #[3, 22, 3] }, type := 3, pos := "ref.go:56", after := #[{ on := 6, ground := Go.Ground.data }, { on := 7, ground := Go.Ground.data }, { on := 8, ground := Go.Ground.data }], guard := none }) rfl (fun K hK => ?_) AllReadyH.nil
            refine step_call_fn rfl 17 _ _ rfl (fun _ _ => by kernel_rfl) #[.int .i64 (g : Int), .int .u64 (h : Int), .int .i64 (x : Int)] (by simp [go_sem]) (fun e w' => e = .returned (.int .i64 (p : Int)) ∧ Below wr.drew.heap.size wr.drew w') (HP wr.drew).out ?_
            rintro e W2 ⟨rfl, hB2⟩
            refine ⟨_, rfl, ?_⟩
            refine hK.out _ _ trivial (fun _ => ?_)
            clear hK K
            have hB2' : Below wr.heap.size wr W2 := (Below.refl _ wr).drew.trans hB2
            have hRr := HR.out.below hB2' HR.out.lt
            have c2 : W2.cell? ⟨w.heap.size, x, none⟩ = some (.int .i64 (s : Int)) := by rw [hRr.cell x, arrN_get _ _ _ hx, HS.out]
            have f2 := hRr.frozen x
            have hz2 := hRr.lt
            have hset := hRr.setN x (s + p)
            have hB3 := Lib.hid ((HB.out.trans (hB2'.mono HB.out.size)).setCell (p := ⟨w.heap.size, x, none⟩) (Nat.le_refl _) (.int .i64 ((s + p : Nat) : Int)))
            have HSET := Lib.hid hset
            clear hRr hset hB2 hB2'
            try simp only [Act.put, List.setIfInBounds_toArray, List.set_cons_zero, List.set_cons_succ]
            refine wpAnyH_take (i := 10) (oi := { dst := some 31, op := Go.Op.binOp Go.BinOp.add 3 (Go.Operand.tmp 26) (Go.Operand.tmp 30) 3, type := 3, pos := "ref.go:56", after := #[{ on := 5, ground := Go.Ground.data }, { on := 9, ground := Go.Ground.data }], guard := none }) (v := .int .i64 ((s + p : Nat) : Int)) rfl (by kernel_rfl) (by kernel_rfl) (by kernel_rfl) (fun _ _ _ h => h) (Or.inl ⟨by rfl, ?_⟩) trivial ?_
            · intro W9 _
              go_simp
            try simp only [Act.put, List.setIfInBounds_toArray, List.set_cons_zero, List.set_cons_succ]
            refine wpAnyH_take (i := 11) (oi := { dst := some 32, op := Go.Op.indexAddr 23 (Go.Operand.tmp 21) (Go.Operand.tmp 22), type := 0, pos := "ref.go:56", after := #[{ on := 0, ground := Go.Ground.data }, { on := 1, ground := Go.Ground.data }, { on := 0, ground := Go.Ground.phase }, { on := 1, ground := Go.Ground.phase }, { on := 2, ground := Go.Ground.phase }, { on := 3, ground := Go.Ground.phase }, { on := 4, ground := Go.Ground.phase }, { on := 5, ground := Go.Ground.phase }, { on := 6, ground := Go.Ground.phase }, { on := 7, ground := Go.Ground.phase }, { on := 8, ground := Go.Ground.phase }, { on := 9, ground := Go.Ground.phase }, { on := 10, ground := Go.Ground.phase }], guard := none }) (v := .pointer (some ⟨w.heap.size, x, none⟩)) rfl (by kernel_rfl) (by kernel_rfl) (by kernel_rfl) (fun _ _ _ h => h) (Or.inl ⟨by rfl, ?_⟩) trivial ?_
            · intro W9 _
              go_simp
            try simp only [Act.put, List.setIfInBounds_toArray, List.set_cons_zero, List.set_cons_succ]
            refine wpAnyH_ready (rs := [12]) (by kernel_rfl) (by simp) ?_
            refine AllReadyH.cons (o := { dst := none, op := Go.Op.store 3 (Go.Operand.tmp 32) (Go.Operand.tmp 31), type := 0, pos := "ref.go:56", after := #[{ on := 11, ground := Go.Ground.data }, { on := 10, ground := Go.Ground.data }, { on := 9, ground := Go.Ground.chain }, { on := 0, ground := Go.Ground.phase }, { on := 1, ground := Go.Ground.phase }, { on := 2, ground := Go.Ground.phase }, { on := 3, ground := Go.Ground.phase }, { on := 4, ground := Go.Ground.phase }, { on := 5, ground := Go.Ground.phase }, { on := 6, ground := Go.Ground.phase }, { on := 7, ground := Go.Ground.phase }, { on := 8, ground := Go.Ground.phase }, { on := 9, ground := Go.Ground.phase }, { on := 10, ground := Go.Ground.phase }], guard := none }) rfl (fun K hK => ?_) AllReadyH.nil
            refine step_skip rfl (w' := W2.setCell ⟨w.heap.size, x, none⟩ (.int .i64 ((s + p : Nat) : Int))) (by go_simp) ?_
            refine hK.out _ _ trivial (fun _ => ?_)
            clear hK K
            try simp only [Act.put]
            refine wpAnyH_done (by kernel_rfl) ?_ _
            gi_wp2_with fail
            exact ⟨⟨x + 1, by omega, by go_num, by rw [← HST.out]; exact HSET.out, hB3.out⟩, by simp [intOf]; omega⟩
          · refine step_call_fn rfl 17 _ _ rfl (fun _ _ => by kernel_rfl) #[.int .i64 (g : Int), .int .u64 (h : Int), .int .i64 (x : Int)] (by simp [go_sem]) (fun e w' => e = .returned (.int .i64 (p : Int)) ∧ Below wr.drew.heap.size wr.drew w') (HP wr.drew).out ?_
            rintro e W2 ⟨rfl, hB2⟩
            refine ⟨_, rfl, ?_⟩
            refine hK.out _ _ trivial (fun _ => ?_)
            clear hK K
            have hB2' : Below wr.heap.size wr W2 := (Below.refl _ wr).drew.trans hB2
            have hRr := HR.out.below hB2' HR.out.lt
            have c2 : W2.cell? ⟨w.heap.size, x, none⟩ = some (.int .i64 (s : Int)) := by rw [hRr.cell x, arrN_get _ _ _ hx, HS.out]
            have f2 := hRr.frozen x
            have hz2 := hRr.lt
            have hset := hRr.setN x (s + p)
            have hB3 := Lib.hid ((HB.out.trans (hB2'.mono HB.out.size)).setCell (p := ⟨w.heap.size, x, none⟩) (Nat.le_refl _) (.int .i64 ((s + p : Nat) : Int)))
            have HSET := Lib.hid hset
            clear hRr hset hB2 hB2'
            try simp only [Act.put, List.setIfInBounds_toArray, List.set_cons_zero, List.set_cons_succ]
            refine wpAnyH_ready (rs := [5]) (by kernel_rfl) (by simp) ?_
            refine AllReadyH.cons (o := { dst := some 26, op := Go.Op.load 3 (Go.Operand.tmp 25), type := 3, pos := "ref.go:56", after := #[{ on := 4, ground := Go.Ground.data }], guard := none }) rfl (fun K hK => ?_) AllReadyH.nil
            refine step_value rfl (.int .i64 (s : Int)) (w' := W2) (by go_simp) ?_
            refine hK.out _ _ trivial (fun _ => ?_)
            clear hK K
            try simp only [Act.put, List.setIfInBounds_toArray, List.set_cons_zero, List.set_cons_succ]
            refine wpAnyH_take (i := 10) (oi := { dst := some 31, op := Go.Op.binOp Go.BinOp.add 3 (Go.Operand.tmp 26) (Go.Operand.tmp 30) 3, type := 3, pos := "ref.go:56", after := #[{ on := 5, ground := Go.Ground.data }, { on := 9, ground := Go.Ground.data }], guard := none }) (v := .int .i64 ((s + p : Nat) : Int)) rfl (by kernel_rfl) (by kernel_rfl) (by kernel_rfl) (fun _ _ _ h => h) (Or.inl ⟨by rfl, ?_⟩) trivial ?_
            · intro W9 _
              go_simp
            try simp only [Act.put, List.setIfInBounds_toArray, List.set_cons_zero, List.set_cons_succ]
            refine wpAnyH_take (i := 11) (oi := { dst := some 32, op := Go.Op.indexAddr 23 (Go.Operand.tmp 21) (Go.Operand.tmp 22), type := 0, pos := "ref.go:56", after := #[{ on := 0, ground := Go.Ground.data }, { on := 1, ground := Go.Ground.data }, { on := 0, ground := Go.Ground.phase }, { on := 1, ground := Go.Ground.phase }, { on := 2, ground := Go.Ground.phase }, { on := 3, ground := Go.Ground.phase }, { on := 4, ground := Go.Ground.phase }, { on := 5, ground := Go.Ground.phase }, { on := 6, ground := Go.Ground.phase }, { on := 7, ground := Go.Ground.phase }, { on := 8, ground := Go.Ground.phase }, { on := 9, ground := Go.Ground.phase }, { on := 10, ground := Go.Ground.phase }], guard := none }) (v := .pointer (some ⟨w.heap.size, x, none⟩)) rfl (by kernel_rfl) (by kernel_rfl) (by kernel_rfl) (fun _ _ _ h => h) (Or.inl ⟨by rfl, ?_⟩) trivial ?_
            · intro W9 _
              go_simp
            try simp only [Act.put, List.setIfInBounds_toArray, List.set_cons_zero, List.set_cons_succ]
            refine wpAnyH_ready (rs := [12]) (by kernel_rfl) (by simp) ?_
            refine AllReadyH.cons (o := { dst := none, op := Go.Op.store 3 (Go.Operand.tmp 32) (Go.Operand.tmp 31), type := 0, pos := "ref.go:56", after := #[{ on := 11, ground := Go.Ground.data }, { on := 10, ground := Go.Ground.data }, { on := 9, ground := Go.Ground.chain }, { on := 0, ground := Go.Ground.phase }, { on := 1, ground := Go.Ground.phase }, { on := 2, ground := Go.Ground.phase }, { on := 3, ground := Go.Ground.phase }, { on := 4, ground := Go.Ground.phase }, { on := 5, ground := Go.Ground.phase }, { on := 6, ground := Go.Ground.phase }, { on := 7, ground := Go.Ground.phase }, { on := 8, ground := Go.Ground.phase }, { on := 9, ground := Go.Ground.phase }, { on := 10, ground := Go.Ground.phase }], guard := none }) rfl (fun K hK => ?_) AllReadyH.nil
            refine step_skip rfl (w' := W2.setCell ⟨w.heap.size, x, none⟩ (.int .i64 ((s + p : Nat) : Int))) (by go_simp) ?_
            refine hK.out _ _ trivial (fun _ => ?_)
            clear hK K
            try simp only [Act.put]
            refine wpAnyH_done (by kernel_rfl) ?_ _
            gi_wp2_with fail
            exact ⟨⟨x + 1, by omega, by go_num, by rw [← HST.out]; exact HSET.out, hB3.out⟩, by simp [intOf]; omega⟩
        · obtain rfl : x = g := by omega
          have hfin : arrN x (farF x ((lefts x ws).take k) (h % x) x) = arrN x (farB x ((lefts x ws).take (k + 1))) := arrN_congr fun y hy => by
            rw [HTK.out, farB_snoc]
            unfold farF
            rw [if_pos hy]
          rw [hfin] at hR
          have HR := Lib.hid hR
          have HB := Lib.hid hB
          clear hR hB hfin
          gi_wp2_with fail
          exact ⟨⟨k + 1, by omega, by go_num, HR.out, HB.out⟩, by simp [intOf]; omega⟩
    · obtain rfl : k = n := by omega
      have htk : (lefts g ws).take k = lefts g ws := List.take_of_length_le (by unfold lefts; rw [List.length_map, HN.out]; exact Nat.le_refl _)
      rw [htk] at hR
      have HR := Lib.hid hR
      have HB := Lib.hid hB
      clear hR hB htk
      gi_wp2_with fail
      go_ret
      exact ⟨_, rfl, Nat.le_refl _, HR.out, HB.out⟩
end Go.Proofs
