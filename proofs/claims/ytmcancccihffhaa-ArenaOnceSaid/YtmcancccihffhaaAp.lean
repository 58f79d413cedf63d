/- Arena: Take, Retire, Give; own. -/
import Derived.Test.YtmcancccihffhaaAo
namespace Go.Proofs
set_option maxRecDepth 100000
open Go.RowKit Go.Shelf
attribute [local go_sem] Oper.semAt_some

def takT (l : List Pr) (many : Int) : Int × List Pr × List Pr := triR l (takeR l many)
def retT (l es : List Pr) : Int × List Pr × List Pr := triR l ((retR l es).1, (retR l es).2, [])
def givT (l es : List Pr) : Int × List Pr × List Pr := triR l ((givR l es).1, (givR l es).2, [])
/-- An arena, and an error, of what is tried. -/
def ArgQ (w : World) (R : Int × List Pr × List Pr) (e : Ending) (w' : World) : Prop := ∃ v, e = .returned (.tuple #[.agg #[v], .int .i64 R.1]) ∧ OwnsP 52 w.heap.size R.2.1 v w' ∧ Below w.heap.size w w'
def ArlQ (w : World) (R : Int × List Pr × List Pr) (e : Ending) (w' : World) : Prop := ∃ v u, e = .returned (.tuple #[.agg #[v], u, .int .i64 R.1]) ∧ OwnsP 52 w.heap.size R.2.1 v w' ∧ OwnsP 41 w.heap.size R.2.2 u w' ∧ Below w.heap.size w w'
theorem results_ctt {P : Program} {fn : Func} {p q r : Tmp} {ty : TypeId} (h : fn.results = #[.cell p ty, .tmp q, .tmp r]) (tmps : Array Value) (w : World) (B : Nat) (u x y : Value)
    (hp : tmps.getD p undef = .pointer (some ⟨B, 0, none⟩)) (hx : tmps.getD q undef = x) (hy : tmps.getD r undef = y) (h1 : (loadVar ty ⟨B, 0, none⟩).run P w = .ok u w) :
    (results fn tmps).run P w = .ok (.tuple #[u, x, y]) w := by
  have hp' : tmps[p]?.getD undef = .pointer (some ⟨B, 0, none⟩) := by simpa using hp
  have hx' : tmps[q]?.getD undef = x := by simpa using hx
  have hy' : tmps[r]?.getD undef = y := by simpa using hy
  simp [results, h, hp', hx', hy', asAddr, h1, Result.andThen]
set_option maxRecDepth 100000 in
set_option maxHeartbeats 4000000 in
theorem Try.Retire_any (a : Option Addr) (n cap : Nat) (l : List Pr) (ae : Option Addr) (ne ce : Nat) (es : List Pr) (hne : ne ≤ 10000) (w : World) (hI : PAt w (.slice a n cap) l) (hE : PAt w (.slice ae ne ce) es) :
    Calls Try.prog 10 #[.agg #[.slice a n cap], .slice ae ne ce] w (ArgQ w (retT l es)) := by
  have hB0 : Below w.heap.size w (((w.alloc (.cells #[.slice a n cap] 24)).alloc (.cells #[.slice ae ne ce] 36)).alloc (.cells #[.slice none 0 0] 24)) := ((Rows8.newB).alloc (by simp) _).alloc (by simp <;> omega) _
  have hL0 : Rows8 (((w.alloc (.cells #[.slice a n cap] 24)).alloc (.cells #[.slice ae ne ce] 36)).alloc (.cells #[.slice none 0 0] 24)) (w.heap.size + 1) 36 #[.slice ae ne ce] := (rows_new2 _ _ _ _).alloc _
  have hR0 : Rows8 (((w.alloc (.cells #[.slice a n cap] 24)).alloc (.cells #[.slice ae ne ce] 36)).alloc (.cells #[.slice none 0 0] 24)) (w.heap.size + 1 + 1) 24 #[.slice none 0 0] := by
    have h := Rows8.new ((w.alloc (.cells #[.slice a n cap] 24)).alloc (.cells #[.slice ae ne ce] 36)) 24 #[.slice none 0 0]
    rw [World.size_alloc, World.size_alloc] at h
    exact h
  have hT := Try.tried_any a n cap l 23 #[.pointer (some ⟨w.heap.size + 1, 0, none⟩)] ((retR l es).1, (retR l es).2, []) _ (PAt.below hI hB0) (fun _ _ => by kernel_rfl)
    (fun hr D r W hW hDw hD => (Try.Retire1_any (w.heap.size + 1) D _ l _ _ ae ne ce es hne w W (hL0.below hW hL0.lt) (rightA_iff.1 hr).2 hD hW.size hE (hB0.trans (hW.mono hB0.size)) hB0.size).mono fun e w' h => takeQ_of h hD.d)
  have hmf : ∀ (fn : Fn) (first cap : Array Value) (w : World), (Instr.makeFunc fn first cap).run Try.prog w = .ok (.func fn first cap) w := fun _ _ _ _ => rfl
  have hre : retT l es = triR l ((retR l es).1, (retR l es).2, []) := rfl
  rw [hre]
  generalize triR l ((retR l es).1, (retR l es).2, []) = R at *
  have HT := Lib.hid hT
  have HB0 := Lib.hid hB0
  have HR0 := Lib.hid hR0
  clear hT hB0 hL0 hR0 hI hE hre
  go_enter Try.func10, Try.ntmps10
  go_wp2_with fail
  generalize (((w.alloc (.cells #[.slice a n cap] 24)).alloc (.cells #[.slice ae ne ce] 36)).alloc (.cells #[.slice none 0 0] 24)) = W0 at *
  refine HT.out.mono ?_
  rintro e w1 ⟨vs, vt, rfl, hO, hOt, hB1⟩
  obtain ⟨av, cv, hvs⟩ := hO.form
  obtain ⟨kv, hkv⟩ : ∃ k, k = R.2.1.length := ⟨_, rfl⟩
  rw [← hkv] at hvs
  subst hvs
  obtain ⟨at_, ct, hvt⟩ := hOt.form
  obtain ⟨kt, hkt⟩ : ∃ k, k = R.2.2.length := ⟨_, rfl⟩
  rw [← hkt] at hvt
  subst hvt
  have r1 := HR0.out.below hB1 HR0.out.lt
  have hB2 := HB0.out.trans (hB1.mono HB0.out.size)
  have hal : Below w1.heap.size w1 (w1.alloc (.cells #[.slice av kv cv, .slice at_ kt ct] 58)) := Rows8.newB
  have d2 := Rows8.new w1 58 #[.slice av kv cv, .slice at_ kt ct]
  have r2 := r1.below hal r1.lt
  have o2 := (hO.mono HB0.out.size).below hal (Nat.le_refl _)
  have hB3 := hB2.trans (hal.mono hB2.size)
  have cr : (w1.alloc (.cells #[.slice av kv cv, .slice at_ kt ct] 58)).cell? ⟨w.heap.size + 1 + 1, 0, none⟩ = some (.slice none 0 0) := r2.cell 0
  have fr := r2.frozen 0
  have cd : (w1.alloc (.cells #[.slice av kv cv, .slice at_ kt ct] 58)).cell? ⟨w1.heap.size, 0, none⟩ = some (.slice av kv cv) := d2.cell 0
  have hrl := r1.lt
  have r3 := (r1.set 0 (.slice av kv cv)).alloc (.cells #[.slice av kv cv, .slice at_ kt ct] 58)
  have o3 := OwnsP.below ((hO.mono HB0.out.size).setNe (a := ⟨w.heap.size + 1 + 1, 0, none⟩) r1 (by decide) (.slice av kv cv)) (B := (w1.setCell ⟨w.heap.size + 1 + 1, 0, none⟩ (.slice av kv cv)).alloc (.cells #[.slice av kv cv, .slice at_ kt ct] 58)) Rows8.newB (Nat.le_refl _)
  have hB4 : Below w.heap.size w ((w1.setCell ⟨w.heap.size + 1 + 1, 0, none⟩ (.slice av kv cv)).alloc (.cells #[.slice av kv cv, .slice at_ kt ct] 58)) := (hB2.setCell (p := ⟨w.heap.size + 1 + 1, 0, none⟩) (by simp <;> omega) (.slice av kv cv)).alloc (by have := hB2.size; simpa [World.setCell] using this) _
  simp only [List.setIfInBounds_toArray, List.set_cons_zero] at r3
  have R3 := Lib.hid r3
  have O3 := Lib.hid o3
  have HB4 := Lib.hid hB4
  clear hO hOt hB1 r1 hB2 hal d2 r2 o2 hB3 r3 o3 hB4 hkv hkt HT
  go_wp2_with fail
  refine bodyPost_ret (results_ctA rfl _ _ (w.heap.size + 1 + 1) _ _ rfl rfl (load_row R3.out Try.underlying24 rfl (by kernel_rfl))) rfl ?_
  exact ⟨_, rfl, O3.out, HB4.out⟩
set_option maxRecDepth 100000 in
set_option maxHeartbeats 4000000 in
theorem Try.Give_any (a : Option Addr) (n cap : Nat) (l : List Pr) (ae : Option Addr) (ne ce : Nat) (es : List Pr) (hne : ne ≤ 10000) (w : World) (hI : PAt w (.slice a n cap) l) (hE : PAt w (.slice ae ne ce) es) :
    Calls Try.prog 11 #[.agg #[.slice a n cap], .slice ae ne ce] w (ArgQ w (givT l es)) := by
  have hB0 : Below w.heap.size w (((w.alloc (.cells #[.slice a n cap] 24)).alloc (.cells #[.slice ae ne ce] 36)).alloc (.cells #[.slice none 0 0] 24)) := ((Rows8.newB).alloc (by simp) _).alloc (by simp <;> omega) _
  have hL0 : Rows8 (((w.alloc (.cells #[.slice a n cap] 24)).alloc (.cells #[.slice ae ne ce] 36)).alloc (.cells #[.slice none 0 0] 24)) (w.heap.size + 1) 36 #[.slice ae ne ce] := (rows_new2 _ _ _ _).alloc _
  have hR0 : Rows8 (((w.alloc (.cells #[.slice a n cap] 24)).alloc (.cells #[.slice ae ne ce] 36)).alloc (.cells #[.slice none 0 0] 24)) (w.heap.size + 1 + 1) 24 #[.slice none 0 0] := by
    have h := Rows8.new ((w.alloc (.cells #[.slice a n cap] 24)).alloc (.cells #[.slice ae ne ce] 36)) 24 #[.slice none 0 0]
    rw [World.size_alloc, World.size_alloc] at h
    exact h
  have hT := Try.tried_any a n cap l 26 #[.pointer (some ⟨w.heap.size + 1, 0, none⟩)] ((givR l es).1, (givR l es).2, []) _ (PAt.below hI hB0) (fun _ _ => by kernel_rfl)
    (fun hr D r W hW hDw hD => (Try.Give1_any (w.heap.size + 1) D _ l _ _ ae ne ce es hne w W (hL0.below hW hL0.lt) (rightA_iff.1 hr).2 hD hW.size hE (hB0.trans (hW.mono hB0.size)) hB0.size).mono fun e w' h => takeQ_of h hD.d)
  have hmf : ∀ (fn : Fn) (first cap : Array Value) (w : World), (Instr.makeFunc fn first cap).run Try.prog w = .ok (.func fn first cap) w := fun _ _ _ _ => rfl
  have hre : givT l es = triR l ((givR l es).1, (givR l es).2, []) := rfl
  rw [hre]
  generalize triR l ((givR l es).1, (givR l es).2, []) = R at *
  have HT := Lib.hid hT
  have HB0 := Lib.hid hB0
  have HR0 := Lib.hid hR0
  clear hT hB0 hL0 hR0 hI hE hre
  go_enter Try.func11, Try.ntmps11
  go_wp2_with fail
  generalize (((w.alloc (.cells #[.slice a n cap] 24)).alloc (.cells #[.slice ae ne ce] 36)).alloc (.cells #[.slice none 0 0] 24)) = W0 at *
  refine HT.out.mono ?_
  rintro e w1 ⟨vs, vt, rfl, hO, hOt, hB1⟩
  obtain ⟨av, cv, hvs⟩ := hO.form
  obtain ⟨kv, hkv⟩ : ∃ k, k = R.2.1.length := ⟨_, rfl⟩
  rw [← hkv] at hvs
  subst hvs
  obtain ⟨at_, ct, hvt⟩ := hOt.form
  obtain ⟨kt, hkt⟩ : ∃ k, k = R.2.2.length := ⟨_, rfl⟩
  rw [← hkt] at hvt
  subst hvt
  have r1 := HR0.out.below hB1 HR0.out.lt
  have hB2 := HB0.out.trans (hB1.mono HB0.out.size)
  have hal : Below w1.heap.size w1 (w1.alloc (.cells #[.slice av kv cv, .slice at_ kt ct] 58)) := Rows8.newB
  have d2 := Rows8.new w1 58 #[.slice av kv cv, .slice at_ kt ct]
  have r2 := r1.below hal r1.lt
  have o2 := (hO.mono HB0.out.size).below hal (Nat.le_refl _)
  have hB3 := hB2.trans (hal.mono hB2.size)
  have cr : (w1.alloc (.cells #[.slice av kv cv, .slice at_ kt ct] 58)).cell? ⟨w.heap.size + 1 + 1, 0, none⟩ = some (.slice none 0 0) := r2.cell 0
  have fr := r2.frozen 0
  have cd : (w1.alloc (.cells #[.slice av kv cv, .slice at_ kt ct] 58)).cell? ⟨w1.heap.size, 0, none⟩ = some (.slice av kv cv) := d2.cell 0
  have hrl := r1.lt
  have r3 := (r1.set 0 (.slice av kv cv)).alloc (.cells #[.slice av kv cv, .slice at_ kt ct] 58)
  have o3 := OwnsP.below ((hO.mono HB0.out.size).setNe (a := ⟨w.heap.size + 1 + 1, 0, none⟩) r1 (by decide) (.slice av kv cv)) (B := (w1.setCell ⟨w.heap.size + 1 + 1, 0, none⟩ (.slice av kv cv)).alloc (.cells #[.slice av kv cv, .slice at_ kt ct] 58)) Rows8.newB (Nat.le_refl _)
  have hB4 : Below w.heap.size w ((w1.setCell ⟨w.heap.size + 1 + 1, 0, none⟩ (.slice av kv cv)).alloc (.cells #[.slice av kv cv, .slice at_ kt ct] 58)) := (hB2.setCell (p := ⟨w.heap.size + 1 + 1, 0, none⟩) (by simp <;> omega) (.slice av kv cv)).alloc (by have := hB2.size; simpa [World.setCell] using this) _
  simp only [List.setIfInBounds_toArray, List.set_cons_zero] at r3
  have R3 := Lib.hid r3
  have O3 := Lib.hid o3
  have HB4 := Lib.hid hB4
  clear hO hOt hB1 r1 hB2 hal d2 r2 o2 hB3 r3 o3 hB4 hkv hkt HT
  go_wp2_with fail
  refine bodyPost_ret (results_ctA rfl _ _ (w.heap.size + 1 + 1) _ _ rfl rfl (load_row R3.out Try.underlying24 rfl (by kernel_rfl))) rfl ?_
  exact ⟨_, rfl, O3.out, HB4.out⟩
set_option maxRecDepth 100000 in
set_option maxHeartbeats 4000000 in
theorem Try.Take_any (a : Option Addr) (n cap : Nat) (l : List Pr) (many : Int) (w : World) (hI : PAt w (.slice a n cap) l) :
    Calls Try.prog 8 #[.agg #[.slice a n cap], .int .i64 many] w (ArlQ w (takT l many)) := by
  have hB0 : Below w.heap.size w (((w.alloc (.cells #[.slice a n cap] 24)).alloc (.cells #[.int .i64 many] 3)).alloc (.cells #[.slice none 0 0] 24)) := ((Rows8.newB).alloc (by simp) _).alloc (by simp <;> omega) _
  have hL0 : Rows8 (((w.alloc (.cells #[.slice a n cap] 24)).alloc (.cells #[.int .i64 many] 3)).alloc (.cells #[.slice none 0 0] 24)) (w.heap.size + 1) 3 #[.int .i64 many] := (rows_new2 _ _ _ _).alloc _
  have hR0 : Rows8 (((w.alloc (.cells #[.slice a n cap] 24)).alloc (.cells #[.int .i64 many] 3)).alloc (.cells #[.slice none 0 0] 24)) (w.heap.size + 1 + 1) 24 #[.slice none 0 0] := by
    have h := Rows8.new ((w.alloc (.cells #[.slice a n cap] 24)).alloc (.cells #[.int .i64 many] 3)) 24 #[.slice none 0 0]
    rw [World.size_alloc, World.size_alloc] at h
    exact h
  have hT := Try.tried_any a n cap l 19 #[.pointer (some ⟨w.heap.size + 1, 0, none⟩)] (takeR l many) _ (PAt.below hI hB0) (fun _ _ => by kernel_rfl)
    (fun hr D r W hW hDw hD => Try.Take1_any many (w.heap.size + 1) D _ _ _ _ l (by have := (rightA_iff.1 hr).1; omega) W (hL0.below hW hL0.lt) hD hW.size hDw)
  have hmf : ∀ (fn : Fn) (first cap : Array Value) (w : World), (Instr.makeFunc fn first cap).run Try.prog w = .ok (.func fn first cap) w := fun _ _ _ _ => rfl
  have hre : takT l many = triR l (takeR l many) := rfl
  rw [hre]
  generalize triR l (takeR l many) = R at *
  have HT := Lib.hid hT
  have HB0 := Lib.hid hB0
  have HR0 := Lib.hid hR0
  clear hT hB0 hL0 hR0 hI hre
  go_enter Try.func8, Try.ntmps8
  go_wp2_with fail
  generalize (((w.alloc (.cells #[.slice a n cap] 24)).alloc (.cells #[.int .i64 many] 3)).alloc (.cells #[.slice none 0 0] 24)) = W0 at *
  refine HT.out.mono ?_
  rintro e w1 ⟨vs, vt, rfl, hO, hOt, hB1⟩
  obtain ⟨av, cv, hvs⟩ := hO.form
  obtain ⟨kv, hkv⟩ : ∃ k, k = R.2.1.length := ⟨_, rfl⟩
  rw [← hkv] at hvs
  subst hvs
  obtain ⟨at_, ct, hvt⟩ := hOt.form
  obtain ⟨kt, hkt⟩ : ∃ k, k = R.2.2.length := ⟨_, rfl⟩
  rw [← hkt] at hvt
  subst hvt
  have r1 := HR0.out.below hB1 HR0.out.lt
  have hB2 := HB0.out.trans (hB1.mono HB0.out.size)
  have hal : Below w1.heap.size w1 (w1.alloc (.cells #[.slice av kv cv, .slice at_ kt ct] 58)) := Rows8.newB
  have d2 := Rows8.new w1 58 #[.slice av kv cv, .slice at_ kt ct]
  have r2 := r1.below hal r1.lt
  have o2 := (hO.mono HB0.out.size).below hal (Nat.le_refl _)
  have hB3 := hB2.trans (hal.mono hB2.size)
  have cr : (w1.alloc (.cells #[.slice av kv cv, .slice at_ kt ct] 58)).cell? ⟨w.heap.size + 1 + 1, 0, none⟩ = some (.slice none 0 0) := r2.cell 0
  have fr := r2.frozen 0
  have cd1 : (w1.alloc (.cells #[.slice av kv cv, .slice at_ kt ct] 58)).cell? ⟨w1.heap.size, 1, none⟩ = some (.slice at_ kt ct) := d2.cell 1
  have cd : (w1.alloc (.cells #[.slice av kv cv, .slice at_ kt ct] 58)).cell? ⟨w1.heap.size, 0, none⟩ = some (.slice av kv cv) := d2.cell 0
  have hrl := r1.lt
  have r3 := (r1.set 0 (.slice av kv cv)).alloc (.cells #[.slice av kv cv, .slice at_ kt ct] 58)
  have o3 := OwnsP.below ((hO.mono HB0.out.size).setNe (a := ⟨w.heap.size + 1 + 1, 0, none⟩) r1 (by decide) (.slice av kv cv)) (B := (w1.setCell ⟨w.heap.size + 1 + 1, 0, none⟩ (.slice av kv cv)).alloc (.cells #[.slice av kv cv, .slice at_ kt ct] 58)) Rows8.newB (Nat.le_refl _)
  have hB4 : Below w.heap.size w ((w1.setCell ⟨w.heap.size + 1 + 1, 0, none⟩ (.slice av kv cv)).alloc (.cells #[.slice av kv cv, .slice at_ kt ct] 58)) := (hB2.setCell (p := ⟨w.heap.size + 1 + 1, 0, none⟩) (by simp <;> omega) (.slice av kv cv)).alloc (by have := hB2.size; simpa [World.setCell] using this) _
  simp only [List.setIfInBounds_toArray, List.set_cons_zero] at r3
  have t3 := OwnsP.below ((hOt.mono HB0.out.size).setNe (a := ⟨w.heap.size + 1 + 1, 0, none⟩) r1 (by decide) (.slice av kv cv)) (B := (w1.setCell ⟨w.heap.size + 1 + 1, 0, none⟩ (.slice av kv cv)).alloc (.cells #[.slice av kv cv, .slice at_ kt ct] 58)) Rows8.newB (Nat.le_refl _)
  have T3 := Lib.hid t3
  have R3 := Lib.hid r3
  have O3 := Lib.hid o3
  have HB4 := Lib.hid hB4
  clear hO hOt hB1 r1 hB2 hal d2 r2 o2 hB3 r3 o3 t3 hB4 hkv hkt HT
  go_wp2_with fail
  go_region
  go_wp2_with fail
  refine bodyPost_ret (results_ctt rfl _ _ (w.heap.size + 1 + 1) _ _ _ rfl rfl rfl (load_row (Rows8.drewA R3.out) Try.underlying24 rfl (by kernel_rfl))) rfl ?_
  exact ⟨_, _, rfl, O3.out, T3.out, HB4.out.drew⟩
end Go.Proofs
