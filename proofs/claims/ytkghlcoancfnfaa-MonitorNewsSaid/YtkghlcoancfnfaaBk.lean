/- Monitor: what is safe. -/
import Derived.Test.YtkghlcoancfnfaaBj
namespace Go.Proofs
set_option maxRecDepth 100000
open Go.RowKit Go.Shelf
attribute [local go_sem] Oper.semAt_some

def safeT (l : List Int) (t : Int) : Bool := decide (l = []) && decide (t ≠ 0)
def safeM (m : Mn) (e : Pr) : Bool := safeT (holders m.has e) (tagM m e)
/-- What lies there at the rounds. -/
structure Sf (x : Mv) (e : Pr) (w : World) (W : World) : Prop where
  v : Rows8 W w.heap.size 79 #[.slice x.sa x.sn x.sc, .slice x.pa x.pn x.pc, .slice x.ha x.hn x.hc, .slice x.ba x.bn x.bc]
  e : Rows8 W (w.heap.size + 1) 38 #[.int .i64 e.1, .int .u64 (e.2 : Nat)]
  b : Rows8 W (w.heap.size + 1 + 1) 4 #[.bool false]
  l : Below w.heap.size w W
theorem Rows8.keepM {X Y : World} {row : Option Nat} {B : Nat} {t : TypeId} {cs : Array Value} (p : Rows8 X B t cs) (hg : X.grownBy Y row) (hr : ∀ r, row = some r → ∃ o : Obj, X.heap[r]? = some o ∧ o.isCells = false) : Rows8 Y B t cs := Rows8.own B t (fun _ : Unit => cs) () X Y row p hg hr
theorem keepsFrom_set {H : Nat} (W : World) {a : Addr} {t : TypeId} {cs : Array Value} (r : Rows8 W a.block t cs) (v : Value) : KeepsFrom H W (W.setCell a v) :=
  ⟨by simp [World.setCell], fun k o _ hk hc => by
    have hne : a.block ≠ k := fun e => by
      subst e
      rw [show W.heap[a.block]? = _ from r] at hk
      cases hk
      cases hc
    show (W.heap.modify a.block _)[k]? = _
    rw [Array.getElem?_modify, if_neg hne]
    exact hk⟩
theorem Sf.below {x : Mv} {e : Pr} {w X Y : World} (p : Sf x e w X) (q : Below X.heap.size X Y) : Sf x e w Y :=
  ⟨p.v.below q p.v.lt, p.e.below q p.e.lt, p.b.below q p.b.lt, p.l.trans (q.mono p.l.size)⟩
theorem Sf.own {x : Mv} {e : Pr} {H : Nat} {w X Y : World} {row : Option Nat} (p : Sf x e w X) (hH : w.heap.size ≤ H) (hg : X.grownBy Y row) (hr : ∀ r, row = some r → H ≤ r ∧ ∃ o : Obj, X.heap[r]? = some o ∧ o.isCells = false) : Sf x e w Y :=
  ⟨p.v.keepM hg (fun r e => (hr r e).2), p.e.keepM hg (fun r e => (hr r e).2), p.b.keepM hg (fun r e => (hr r e).2), (ownFrom_below (β := Unit) (Nat.le_refl _) hH) () X Y row p.l hg hr⟩
theorem results_c1 {P : Program} {fn : Func} {p : Tmp} {ty : TypeId} (h : fn.results = #[.cell p ty]) (tmps : Array Value) (w : World) (B : Nat) (u : Value)
    (hp : tmps.getD p undef = .pointer (some ⟨B, 0, none⟩)) (h1 : (loadVar ty ⟨B, 0, none⟩).run P w = .ok u w) : (results fn tmps).run P w = .ok u w := by
  have hp' : tmps[p]?.getD undef = .pointer (some ⟨B, 0, none⟩) := by simpa using hp
  simp [results, h, hp', asAddr, h1, Result.andThen]
set_option maxHeartbeats 8000000 in
theorem Try.safe_any (x : Mv) (m : Mn) (e : Pr) (w : World) (hM : MonAt w x m) :
    Calls Try.prog 50 #[.agg #[.slice x.sa x.sn x.sc, .slice x.pa x.pn x.pc, .slice x.ha x.hn x.hc, .slice x.ba x.bn x.bc], .agg #[.int .i64 e.1, .int .u64 (e.2 : Nat)]] w fun r w' => r = .returned (.bool (safeM m e)) ∧ Below w.heap.size w w' := by
  refine (callsIn_wide (n := 9)).1 ?_
  refine callsIn_of_wp_marks Try.func50 rfl trivial ?_ rfl
  simp only [Try.ntmps50, List.size_toArray, List.length_cons, List.length_nil, Nat.reduceAdd, Nat.reduceSub, Array.replicate_succ, Array.replicate_zero, List.push_toArray, List.append_toArray, List.nil_append, List.cons_append]
  obtain ⟨z, hz⟩ : ∃ z, z = safeM m e := ⟨_, rfl⟩
  rw [← hz]
  unfold safeM at hz
  have HH := fun (W : World) (h : MonAt W x m) => Lib.hid (Try.holders_any x m e W h)
  have HT := fun (W : World) (h : MonAt W x m) => Lib.hid (Try.Tag_any x.sa x.sn x.sc m.sl e W h.s)
  have htg : (if rightA m.sl then tagA m.sl e else 0) = tagM m e := rfl
  rw [htg] at HT
  obtain ⟨tb, htb⟩ : ∃ b, b = (rightA m.sl && tagB m.sl e) := ⟨_, rfl⟩
  obtain ⟨tg, htg2⟩ : ∃ b, b = tagM m e := ⟨_, rfl⟩
  rw [← htb] at HT
  rw [← htg2] at HT hz
  clear htg htb htg2
  obtain ⟨e0, e1⟩ := e
  dsimp only at *
  obtain ⟨W, hW⟩ : ∃ W, W = ((w.alloc (.cells #[.slice x.sa x.sn x.sc, .slice x.pa x.pn x.pc, .slice x.ha x.hn x.hc, .slice x.ba x.bn x.bc] 79)).alloc (.cells #[.int .i64 e0, .int .u64 (e1 : Nat)] 38)).alloc (.cells #[.bool false] 4) := ⟨_, rfl⟩
  have hB0 : Below w.heap.size w W := by rw [hW]; exact ((Rows8.newB).alloc (by simp) _).alloc (by simp <;> omega) _
  have r0 : Rows8 W w.heap.size 79 #[.slice x.sa x.sn x.sc, .slice x.pa x.pn x.pc, .slice x.ha x.hn x.hc, .slice x.ba x.bn x.bc] := by rw [hW]; exact ((Rows8.new _ _ _).alloc _).alloc _
  have r1 : Rows8 W (w.heap.size + 1) 38 #[.int .i64 e0, .int .u64 (e1 : Nat)] := by rw [hW]; exact (rows_new2 _ _ _ _).alloc _
  have r2 : Rows8 W (w.heap.size + 1 + 1) 4 #[.bool false] := by
    rw [hW]
    have h := Rows8.new ((w.alloc (.cells #[.slice x.sa x.sn x.sc, .slice x.pa x.pn x.pc, .slice x.ha x.hn x.hc, .slice x.ba x.bn x.bc] 79)).alloc (.cells #[.int .i64 e0, .int .u64 (e1 : Nat)] 38)) 4 #[.bool false]
    rw [World.size_alloc, World.size_alloc] at h
    exact h
  have S0 : Hid (Sf x (e0, e1) w W) := Lib.hid ⟨r0, r1, r2, hB0⟩
  have HZ := Lib.hid hz
  have HM := Lib.hid hM
  have HHl := HH W (hM.below hB0)
  have c0 : W.cell? ⟨w.heap.size, 0, none⟩ = some (.slice x.sa x.sn x.sc) := r0.cell 0
  have c1 : W.cell? ⟨w.heap.size, 1, none⟩ = some (.slice x.pa x.pn x.pc) := r0.cell 1
  have c2 : W.cell? ⟨w.heap.size, 2, none⟩ = some (.slice x.ha x.hn x.hc) := r0.cell 2
  have c3 : W.cell? ⟨w.heap.size, 3, none⟩ = some (.slice x.ba x.bn x.bc) := r0.cell 3
  have k0 : W.cell? ⟨w.heap.size + 1, 0, none⟩ = some (.int .i64 e0) := r1.cell 0
  have k1 : W.cell? ⟨w.heap.size + 1, 1, none⟩ = some (.int .u64 (e1 : Nat)) := r1.cell 1
  clear hB0 r0 r1 r2 hz hM HH
  gi_wp2_with fail
  rw [← hW]
  clear hW
  refine ⟨trivial, ?_⟩
  refine (callsIn_wide.2 HHl.out).mono ?_
  rintro r w2 ⟨Bv, Be, rfl, hBv, hBe, hsrc, hB2⟩
  have S2 := Lib.hid (S0.out.below hB2)
  have hww := S2.out.l.size
  have HTL := Lib.hid (Try.holders1_tells 8 (by decide) (Kt w2.heap.size 4 4) Bv Be x m (e0, e1) w2 (fun A => Kt w2.heap.size 4 4 w2 A) (Kt.refl _ _ _ _) (fun A hA => hsrc.kt hA) (fun A B hA hB => hA.trans (.of_below hB)) (fun A B p hA => hA.trans p))
  clear hB2 hsrc HHl c0 c1 c2 c3 k0 k1
  gi_wp2_with fail
  refine range_tellsD rfl (by decide) (gf := 69) (lb := #[.pointer (some ⟨Bv, 0, none⟩), .pointer (some ⟨Be, 0, none⟩)]) rfl trivial (fun _ _ => by kernel_rfl) HTL.out kt_t (kt_b (B := w2.heap.size)) (Below.refl _ _) (fun _ => rfl)
    (fun pre W => pre = [] ∧ Sf x (e0, e1) w W)
    (fun c' pre W => c' = .ret ∧ holders m.has (e0, e1) ≠ [] ∧ Rows8 W (w.heap.size + 1 + 1) 4 #[.bool false] ∧ Below w.heap.size w W)
    (fun s X Y row h hg hr => ⟨h.1, h.2.own hww hg hr⟩)
    (fun c' s X Y row h hg hr => ⟨h.1, h.2.1, h.2.2.1.keepM hg (fun r e => (hr r e).2), (ownFrom_below (β := Unit) (Nat.le_refl _) hww) () X Y row h.2.2.2 hg hr⟩)
    (fun s X Y h hXY => ⟨h.1, h.2.below hXY⟩)
    (fun c' s X Y h hXY => ⟨h.1, h.2.1, h.2.2.1.below hXY h.2.2.1.lt, h.2.2.2.trans (hXY.mono h.2.2.2.size)⟩)
    ⟨rfl, S2.out⟩
    (fun y a' W' => a' = { tmps := #[.agg #[.slice x.sa x.sn x.sc, .slice x.pa x.pn x.pc, .slice x.ha x.hn x.hc, .slice x.ba x.bn x.bc], .agg #[.int .i64 e0, .int .u64 (e1 : Nat)], .pointer (some ⟨w.heap.size, 0, none⟩), .pointer (some ⟨w.heap.size + 1, 0, none⟩), .pointer (some ⟨w.heap.size + 1 + 1, 0, none⟩), undef, undef, .agg #[.slice x.sa x.sn x.sc, .slice x.pa x.pn x.pc, .slice x.ha x.hn x.hc, .slice x.ba x.bn x.bc], .agg #[.int .i64 e0, .int .u64 (e1 : Nat)], .func (.func 69) #[] #[.pointer (some ⟨Bv, 0, none⟩), .pointer (some ⟨Be, 0, none⟩)], .int .i64 y, undef, undef, undef, undef, undef, undef, undef, undef, undef, undef], defers := [] }) (fun y a' s X Y row e hg hr => e) ?assign ?body ?done ?stop
  case assign =>
    rintro l2 pre y W' K ⟨hp, hS⟩ hK
    unfold encI
    gi_wp2_with fail
    exact hK _ _ (keepsFrom_below (Below.refl _ _)) (.of_below (Below.refl _ _)) ⟨hp, hS⟩ (by simp)
  case body =>
    rintro l2 pre y a' W' ⟨rfl, hS⟩ rfl hok
    have hne : holders m.has (e0, e1) ≠ [] := fun h => by rw [h] at hok; simp at hok
    have cb : W'.cell? ⟨w.heap.size + 1 + 1, 0, none⟩ = some (.bool false) := hS.b.cell 0
    have fb := hS.b.frozen 0
    have lb := hS.b.lt
    have r2 := hS.b.set 0 (.bool false)
    simp only [List.setIfInBounds_toArray, List.set_cons_zero] at r2
    have HR2 := Lib.hid r2
    have HB2 := Lib.hid (hS.l.setCell (p := ⟨w.heap.size + 1 + 1, 0, none⟩) (by simp <;> omega) (.bool false))
    have HK := Lib.hid (keepsFrom_set (H := w2.heap.size) W' (a := ⟨w.heap.size + 1 + 1, 0, none⟩) hS.b (.bool false))
    clear r2 hS
    gi_wp2_with fail
    exact ⟨HK.out, rfl, hne, HR2.out, HB2.out⟩
  case done =>
    rintro D ys W' hD rfl ⟨hnil, hS⟩ hK
    have HS := Lib.hid hS
    have HTl := HT W' (HM.out.below hS.l)
    have HNIL := Lib.hid hnil
    have c0 : W'.cell? ⟨w.heap.size, 0, none⟩ = some (.slice x.sa x.sn x.sc) := hS.v.cell 0
    have k0 : W'.cell? ⟨w.heap.size + 1, 0, none⟩ = some (.int .i64 e0) := hS.e.cell 0
    have k1 : W'.cell? ⟨w.heap.size + 1, 1, none⟩ = some (.int .u64 (e1 : Nat)) := hS.e.cell 1
    have HKK := Lib.hid hK
    clear hnil hS hK
    gi_wp2_with fail
    refine ⟨trivial, ?_⟩
    refine (callsIn_wide.2 HTl.out).mono ?_
    rintro r W3 ⟨rfl, hB3⟩
    have hS3 := HS.out.below hB3
    have hK3 : W3.heap[D]? = some (.deferred (some [])) := (hB3.block D (Array.getElem?_eq_some_iff.1 HKK.out).1).trans HKK.out
    have hDD : D < W3.heap.size := (Array.getElem?_eq_some_iff.1 hK3).1
    have cb : W3.cell? ⟨w.heap.size + 1 + 1, 0, none⟩ = some (.bool false) := hS3.b.cell 0
    have fb := hS3.b.frozen 0
    have lb := hS3.b.lt
    obtain ⟨tz, htz⟩ : ∃ b, b = (tg != 0) := ⟨_, rfl⟩
    have hzz : Hid (z = tz) := Lib.hid (by rw [HZ.out, htz]; unfold safeT; rw [decide_eq_true HNIL.out]; simp [bne]; rfl)
    have r2 := hS3.b.set 0 (.bool tz)
    simp only [List.setIfInBounds_toArray, List.set_cons_zero] at r2
    have hB4 := hS3.l.setCell (p := ⟨w.heap.size + 1 + 1, 0, none⟩) (by simp <;> omega) (.bool tz)
    have hneD : D ≠ w.heap.size + 1 + 1 := fun e => by
      subst e
      rw [show W3.heap[w.heap.size + 1 + 1]? = _ from hS3.b] at hK3
      cases hK3
    have hK4 : (W3.setCell ⟨w.heap.size + 1 + 1, 0, none⟩ (.bool tz)).heap[D]? = some (.deferred (some [])) := (Below.heap_setCell _ _ _ _ (by show D ≠ w.heap.size + 1 + 1; exact hneD)).trans hK3
    have HR := Lib.hid (rows_put (o := .deferred none) r2 hK4)
    have HB := Lib.hid (hB4.trans (belowK_b (w := w) (Nat.le_refl _) _ D _ (.deferred none) (by omega) hK4 rfl rfl))
    clear hB3 hS3 r2 hB4 hneD HTl c0 k0 k1 hK3
    have htz2 : (tg != 0) = tz := htz.symm
    clear htz
    gi_wp2_with fail
    refine ⟨by simp, .inl ⟨_, _, rfl, run_takeDeferred hK4, ?_⟩⟩
    exact ⟨_, results_c1 rfl _ _ (w.heap.size + 1 + 1) _ rfl (load_one HR.out (by kernel_rfl)), by rw [hzz.out], HB.out⟩
  case stop =>
    rintro D c' pre W' hD hSp ⟨rfl, hne, hR, hB⟩ hK
    have hR' := rows_put (o := .deferred none) hR hK
    have HR := Lib.hid hR'
    have HB := Lib.hid hB
    have hzz : Hid (z = false) := Lib.hid (by rw [HZ.out]; unfold safeT; rw [decide_eq_false hne]; rfl)
    clear hR hR' hB hne
    gi_wp2_with fail
    refine ⟨by simp, .inl ⟨_, _, rfl, run_takeDeferred hK, ?_⟩⟩
    exact ⟨_, results_c1 rfl _ _ (w.heap.size + 1 + 1) _ rfl (load_one HR.out (by kernel_rfl)), by rw [hzz.out], HB.out.trans (belowK_b (w := w) (Nat.le_refl _) _ D _ _ (by omega) hK rfl rfl)⟩
def safeA (m : Mn) (e : Pr) : Bool := rightM m && safeM m e
set_option maxRecDepth 100000 in
set_option maxHeartbeats 4000000 in
theorem Try.Safe_any (x : Mv) (m : Mn) (e : Pr) (w : World) (hM : MonAt w x m) :
    Calls Try.prog 17 #[.agg #[.slice x.sa x.sn x.sc, .slice x.pa x.pn x.pc, .slice x.ha x.hn x.hc, .slice x.ba x.bn x.bc], .agg #[.int .i64 e.1, .int .u64 (e.2 : Nat)]] w fun r w' => r = .returned (.bool (safeA m e)) ∧ Below w.heap.size w w' := by
  obtain ⟨W, hW⟩ : ∃ W, W = ((w.alloc (.cells #[.slice x.sa x.sn x.sc, .slice x.pa x.pn x.pc, .slice x.ha x.hn x.hc, .slice x.ba x.bn x.bc] 29)).alloc (.cells #[.int .i64 e.1, .int .u64 (e.2 : Nat)] 38)).alloc (.cells #[.slice x.sa x.sn x.sc, .slice x.pa x.pn x.pc, .slice x.ha x.hn x.hc, .slice x.ba x.bn x.bc] 79) := ⟨_, rfl⟩
  have hB0 : Below w.heap.size w W := by rw [hW]; exact ((Rows8.newB).alloc (by simp) _).alloc (by simp <;> omega) _
  have r1 : Rows8 W (w.heap.size + 1) 38 #[.int .i64 e.1, .int .u64 (e.2 : Nat)] := by rw [hW]; exact (rows_new2 _ _ _ _).alloc _
  have r2 : Rows8 W (w.heap.size + 1 + 1) 79 #[.slice x.sa x.sn x.sc, .slice x.pa x.pn x.pc, .slice x.ha x.hn x.hc, .slice x.ba x.bn x.bc] := by
    rw [hW]
    have h := Rows8.new ((w.alloc (.cells #[.slice x.sa x.sn x.sc, .slice x.pa x.pn x.pc, .slice x.ha x.hn x.hc, .slice x.ba x.bn x.bc] 29)).alloc (.cells #[.int .i64 e.1, .int .u64 (e.2 : Nat)] 38)) 79 #[.slice x.sa x.sn x.sc, .slice x.pa x.pn x.pc, .slice x.ha x.hn x.hc, .slice x.ba x.bn x.bc]
    rw [World.size_alloc, World.size_alloc] at h
    exact h
  have HMB := Lib.hid (Try.mayBeM_any x m W (hM.below hB0))
  have HH := fun (W : World) (h : MonAt W x m) => Lib.hid (Try.safe_any x m e W h)
  obtain ⟨e0, e1⟩ := e
  dsimp only at *
  obtain ⟨z, hz⟩ : ∃ z, z = rightM m := ⟨_, rfl⟩
  obtain ⟨zs, hzs⟩ : ∃ z, z = safeA m (e0, e1) := ⟨_, rfl⟩
  obtain ⟨zf, hzf⟩ : ∃ z, z = safeM m (e0, e1) := ⟨_, rfl⟩
  rw [← hzf] at HH
  rw [← hzs]
  unfold safeA at hzs
  rw [← hz, ← hzf] at hzs
  rw [← hz] at HMB
  have HZ := Lib.hid hzs
  have HM0 := Lib.hid (hM.below hB0)
  have HB0 := Lib.hid hB0
  have HR1 := Lib.hid r1
  have HR2 := Lib.hid r2
  have c0 : W.cell? ⟨w.heap.size + 1 + 1, 0, none⟩ = some (.slice x.sa x.sn x.sc) := r2.cell 0
  have c1 : W.cell? ⟨w.heap.size + 1 + 1, 1, none⟩ = some (.slice x.pa x.pn x.pc) := r2.cell 1
  have c2 : W.cell? ⟨w.heap.size + 1 + 1, 2, none⟩ = some (.slice x.ha x.hn x.hc) := r2.cell 2
  have c3 : W.cell? ⟨w.heap.size + 1 + 1, 3, none⟩ = some (.slice x.ba x.bn x.bc) := r2.cell 3
  clear hzs hz hzf hB0 r1 r2 hM
  go_enter Try.func17, Try.ntmps17
  go_wp2_with fail
  rw [← hW]
  clear hW
  refine HMB.out.mono ?_
  rintro r W1 ⟨rfl, hB1⟩
  have R1 := Lib.hid (HR1.out.below hB1 HR1.out.lt)
  have R2 := Lib.hid (HR2.out.below hB1 HR2.out.lt)
  have HM1 := Lib.hid (HM0.out.below hB1)
  have HB1 := Lib.hid (HB0.out.trans (hB1.mono HB0.out.size))
  clear hB1 c0 c1 c2 c3
  have k0 : W1.cell? ⟨w.heap.size + 1, 0, none⟩ = some (.int .i64 e0) := R1.out.cell 0
  have k1 : W1.cell? ⟨w.heap.size + 1, 1, none⟩ = some (.int .u64 (e1 : Nat)) := R1.out.cell 1
  have c0 : W1.cell? ⟨w.heap.size + 1 + 1, 0, none⟩ = some (.slice x.sa x.sn x.sc) := R2.out.cell 0
  have c1 : W1.cell? ⟨w.heap.size + 1 + 1, 1, none⟩ = some (.slice x.pa x.pn x.pc) := R2.out.cell 1
  have c2 : W1.cell? ⟨w.heap.size + 1 + 1, 2, none⟩ = some (.slice x.ha x.hn x.hc) := R2.out.cell 2
  have c3 : W1.cell? ⟨w.heap.size + 1 + 1, 3, none⟩ = some (.slice x.ba x.bn x.bc) := R2.out.cell 3
  cases z with
  | false =>
    have hzz : Hid (zs = false) := Lib.hid (by rw [HZ.out]; rfl)
    go_wp2_with fail
    go_ret
    exact ⟨by rw [hzz.out]; rfl, HB1.out⟩
  | true =>
    have hzz : Hid (zs = zf) := Lib.hid (by rw [HZ.out]; rfl)
    have HHl := HH W1 HM1.out
    go_wp2_with fail
    refine HHl.out.mono ?_
    rintro r W2 ⟨rfl, hB2⟩
    have HB2 := Lib.hid (HB1.out.trans (hB2.mono HB1.out.size))
    clear hB2 HHl
    go_wp2_with fail
    go_ret
    exact ⟨by rw [hzz.out]; rfl, HB2.out⟩
end Go.Proofs
