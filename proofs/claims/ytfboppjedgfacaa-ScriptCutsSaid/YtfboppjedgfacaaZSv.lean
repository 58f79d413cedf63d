/- Script: numbers, told. -/
import Derived.Test.YtfboppjedgfacaaZSq
import Derived.Test.YtfboppjedgfacaaZSb
import Derived.Test.YtfboppjedgfacaaZKa
import Derived.Laws.EntriesVeiled
namespace Go.Proofs
open Go.RowKit Go.Shelf
attribute [local go_sem] Oper.semAt_some

def encW (z : Int) : Array Value := #[.int .u64 z]
/-- Asked with a number, whoever asked the iterator keeps J. -/
def YieldsW (l : Nat) (J : List Int → World → Prop) (Kp : World → World → Prop) (Ok : List Int → Int → Prop) : Prop :=
  ∀ pre x W1, J pre W1 → Ok pre x → YieldAt Fence.wide 8 Try.prog l (encW x) W1 fun e W' => e = .returned (.bool true) ∧ J (pre ++ [x]) W' ∧ Kp W1 W'
/-- What is answered behind the asking: true, and all was told. -/
def ToldW (J : List Int → World → Prop) (Kp : World → World → Prop) (ns : List Int) (W : World) (e : Ending) (W' : World) : Prop :=
  e = .returned (.bool true) ∧ J ns W' ∧ Kp W W'
theorem owns_kt {h : Nat} {t1 t2 : TypeId} {A B : World} {n₀ k n : Nat} {t : TypeId} {v : Value} {cs : List Value} (o : A.ownsRow n₀ t k v n cs) (K : Kt h t1 t2 A B) (h1 : t ≠ t1) (h2 : t ≠ t2) : B.ownsRow n₀ t k v n cs :=
  ⟨o.1, o.2.imp id fun ⟨g, cap, cur, e, hg, hh, hr⟩ => ⟨g, cap, cur, e, hg, K.same g _ _ _ hh (.inr ⟨h1, h2⟩), hr⟩⟩
theorem ownsWords_len {n₀ n c : Nat} {a : Option Addr} {ws : List Int} {W : World} (h : OwnsWords n₀ ws (.slice a n c) W) : n = ws.length := by
  obtain ⟨_, a', cap', e, _⟩ := rowAt_own h
  injection e
theorem pre_snoc {ws pre full : List Int} {k : Nat} (hk : k < ws.length) (hp : pre ++ ws <+: full) : (pre ++ ws.take k) ++ [ws[k]?.getD 0] = pre ++ ws.take (k + 1) ∧ (pre ++ ws.take k) ++ [ws[k]?.getD 0] <+: full := by
  have e : (pre ++ ws.take k) ++ [ws[k]?.getD 0] = pre ++ ws.take (k + 1) := by
    rw [take_snoc ws k hk, List.getElem?_eq_getElem hk, List.append_assoc]
    rfl
  refine ⟨e, ?_⟩
  rw [e]
  exact ((List.prefix_append_right_inj pre).2 (List.take_prefix _ _)).trans hp

set_option maxRecDepth 100000 in
set_option maxHeartbeats 2000000 in
theorem Try.allYield_any (l : Nat) (J : List Int → World → Prop) (h : Nat) (t1 t2 : TypeId) (ht1 : 22 ≠ t1) (ht2 : 22 ≠ t2) (full : List Int) (hY : YieldsW l J (Kt h t1 t2) (fun pre x => pre ++ [x] <+: full)) (pre0 ws : List Int) (hp : pre0 ++ ws <+: full) (n₀ : Nat) (a : Option Addr) (n c : Nat) (hl : n ≤ 100000) (W : World) (hO : OwnsWords n₀ ws (.slice a n c) W) (h0 : J pre0 W) :
    Calls Try.prog 59 #[.slice a n c, .func (.yield l) #[] #[]] W (ToldW J (Kt h t1 t2) (pre0 ++ ws) W) := by
  refine (callsIn_wide (n := 9)).1 ?_
  refine callsIn_of_wp Try.func59 rfl trivial ?_ rfl
  simp only [Try.ntmps59, List.size_toArray, List.length_cons, List.length_nil, Nat.reduceAdd, Nat.reduceSub, Array.replicate_succ, Array.replicate_zero, List.push_toArray, List.append_toArray, List.nil_append, List.cons_append]
  have HN := Lib.hid (ownsWords_len hO)
  have HY := Lib.hid hY
  have HO := Lib.hid hO
  have HP := Lib.hid hp
  have h00 : Hid (J (pre0 ++ ws.take 0) W) := Lib.hid (by simpa using h0)
  clear hY hO hp h0
  gi_wp2
  gi_loopw [9] (fun j wr => ∃ k : Nat, k ≤ n ∧ j = .int .i64 k ∧ J (pre0 ++ ws.take k) wr ∧ Kt h t1 t2 W wr) (fun j _ => n - (intOf j).toNat)
  case atStart => exact ⟨0, Nat.zero_le _, rfl, h00.out, Kt.refl _ _ _ _⟩
  case round =>
    obtain ⟨k, hk, rfl, hJs, hK⟩ := hrel
    by_cases hlt : k < n
    · have hkl : k < ws.length := by rw [← HN.out]; exact hlt
      obtain ⟨b, off, rfl, hb, p1⟩ := wordsAt_get (rowAt_own (owns_kt HO.out hK ht1 ht2)) k hkl
      obtain ⟨hs1, hs2⟩ := pre_snoc hkl HP.out
      have hki : (k : Int) < (n : Int) := by omega
      generalize ws[k]?.getD 0 = z at *
      obtain ⟨fn, tmps, assign, body, hy, hR⟩ := HY.out _ z _ hJs hs2
      unfold encW at hy
      have HK := Lib.hid hK
      have HS1 := Lib.hid hs1
      have HS2 := Lib.hid hs2
      clear hJs hK hs1 hs2 hkl
      gi_wp2_with fail
      refine hR.mono ?_
      rintro e w5 ⟨rfl, hJ5, hx5⟩
      have HJ5 := Lib.hid hJ5
      have HK5 := Lib.hid (HK.out.trans hx5)
      clear hJ5 hx5
      gi_wp2_with fail
      go_roundw
      case rel => exact ⟨k + 1, by omega, by go_num, by rw [← HS1.out]; exact HJ5.out, HK5.out⟩
      case measure => simp [intOf]; omega
    · obtain rfl : k = n := by omega
      have hfin : ws.take k = ws := List.take_of_length_le (Nat.le_of_eq HN.out.symm)
      rw [hfin] at hJs
      have HJ := Lib.hid hJs
      have HK := Lib.hid hK
      clear hfin hJs hK
      gi_wp2_with fail
      go_ret
      exact ⟨rfl, HJ.out, HK.out⟩
theorem ownsWords_form {n₀ : Nat} {v : Value} {ws : List Int} {W : World} (h : OwnsWords n₀ ws v W) : ∃ a c, v = .slice a ws.length c := by
  obtain ⟨_, a', cap', e, _⟩ := rowAt_own h
  exact ⟨a', cap', e⟩
theorem Kt.row {h : Nat} {t1 t2 : TypeId} {A B : World} (p : Kt h t1 t2 A B) {v : Value} {n k : Nat} {cs : List Value} (r : RowAt A v n k cs) (hA : A.heap.size ≤ h) : RowAt B v n k cs := by
  obtain ⟨h0, a, cap, h1, h2, h3, h4, h5⟩ := r
  refine ⟨h0, a, cap, h1, h2, h3, h4, fun j hj => ?_⟩
  obtain ⟨b, off, e, hb, hc⟩ := h5 j hj
  rw [List.getElem?_eq_getElem hj] at hc
  exact ⟨b, off, e, Nat.lt_of_lt_of_le hb p.size, by rw [List.getElem?_eq_getElem hj]; exact p.cell (a := ⟨b, off + j, none⟩) (by show b < h; omega) hc⟩
theorem Kt.lists {h : Nat} {t1 t2 : TypeId} {A B : World} (p : Kt h t1 t2 A B) {v : Value} {ls : List (List Cl4)} (r : ListsAt A v ls) (hA : A.heap.size ≤ h) : ListsAt B v ls := by
  obtain ⟨vs, h1, h2⟩ := r
  refine ⟨vs, p.row h1 hA, fun i hi => ?_⟩
  obtain ⟨a, cap, e, hc⟩ := h2 i hi
  exact ⟨a, cap, e, p.row hc hA⟩

set_option maxRecDepth 100000 in
set_option maxHeartbeats 2000000 in
theorem Try.tell_any (l : Nat) (J : List Int → World → Prop) (h : Nat) (t1 t2 : TypeId) (ht1 : 22 ≠ t1) (ht2 : 22 ≠ t2) (full : List Int) (hY : YieldsW l J (Kt h t1 t2) (fun pre x => pre ++ [x] <+: full)) (pre0 ws : List Int) (hp : pre0 ++ ws <+: full) (n₀ : Nat) (a : Option Addr) (n c : Nat) (hl : n ≤ 100000) (Bs : Nat) (W : World) (hBs : Rows8 W Bs 90 #[.func (.yield l) #[] #[]]) (hO : OwnsWords n₀ ws (.slice a n c) W) (h0 : J pre0 W) :
    Calls Try.prog 58 #[.slice a n c, .pointer (some ⟨Bs, 0, none⟩)] W (ToldW J (Kt h t1 t2) (pre0 ++ ws) W) := by
  have HC := Lib.hid (Try.allYield_any l J h t1 t2 ht1 ht2 full hY pre0 ws hp n₀ a n c hl W hO h0)
  have c0 : W.cell? ⟨Bs, 0, none⟩ = some (.func (.yield l) #[] #[]) := hBs.cell 0
  have hb := hBs.lt
  clear hBs hO h0 hp hY
  go_enter Try.func58, Try.ntmps58
  go_wp2_with fail
  refine HC.out.mono ?_
  rintro e w5 ⟨rfl, h1, h2⟩
  have H1 := Lib.hid h1
  have H2 := Lib.hid h2
  clear h1 h2
  go_wp2_with fail
  go_ret
  exact ⟨rfl, H1.out, H2.out⟩

set_option maxRecDepth 100000 in
set_option maxHeartbeats 2000000 in
theorem Try.tellList_any (l : Nat) (J : List Int → World → Prop) (h : Nat) (t1 t2 : TypeId) (ht1 : 22 ≠ t1) (ht2 : 22 ≠ t2) (full : List Int) (hY : YieldsW l J (Kt h t1 t2) (fun pre x => pre ++ [x] <+: full)) (hJ : ∀ s X Y, J s X → Below X.heap.size X Y → J s Y) 
    (pre0 : List Int) (lst : List Cl4) (hp : pre0 ++ listNums lst <+: full) (a : Option Addr) (n c : Nat) (hl : n ≤ 10000) (ha : lst.all isCallB = true) (Bs Bt : Nat) (W : World) (hBs : Rows8 W Bs 90 #[.func (.yield l) #[] #[]]) (hBt : Rows8 W Bt 60 #[.func (.func 58) #[] #[.pointer (some ⟨Bs, 0, none⟩)]])
    (hc : CallsAt W (.slice a n c) lst) (h0 : J pre0 W) :
    Calls Try.prog 60 #[.slice a n c, .pointer (some ⟨Bt, 0, none⟩)] W (ToldW J (Kt h t1 t2) (pre0 ++ listNums lst) W) := by
  have hn : n = lst.length := by
    obtain ⟨_, a', cap', e, _⟩ := hc
    injection e
  have hll : (listNums lst).length ≤ 100000 := by
    unfold listNums
    have := flat_le lst
    rw [List.length_cons]
    omega
  have HL := Lib.hid fun (W' : World) (b : Below W.heap.size W W') => Try.listed_any a n c lst hn hl ha W' (RowAt.below hc b)
  have HT := Lib.hid fun (W' : World) (b : Below W.heap.size W W') (n₀ : Nat) (a2 : Option Addr) (c2 : Nat) (hO : OwnsWords n₀ (listNums lst) (.slice a2 (listNums lst).length c2) W') => Try.tell_any l J h t1 t2 ht1 ht2 full hY pre0 (listNums lst) hp n₀ a2 _ c2 hll Bs W' (hBs.below b hBs.lt) hO (hJ _ _ _ h0 b)
  have c0 : W.cell? ⟨Bt, 0, none⟩ = some (.func (.func 58) #[] #[.pointer (some ⟨Bs, 0, none⟩)]) := hBt.cell 0
  have hb := hBt.lt
  have HBt := Lib.hid hBt
  clear hBs h0 hp hY hc hn hJ hBt hll ha
  generalize listNums lst = ns at *
  go_enter Try.func60, Try.ntmps60
  have B0d : Below W.heap.size W W.drew := (Below.refl _ W).drew
  go_wp2
  first | go_region_with (first
    | (go_at_call 61; refine (HL.out _ (by first | exact Below.refl _ _ | exact B0d)).mono ?_; rintro e w2 ⟨v2, rfl, hO2, hB2⟩; have HB2 := Lib.hid (B0d.trans hB2); have k2 := (HBt.out.below HB2.out hb).cell 0; simp at k2; obtain ⟨a2, c2, rfl⟩ := ownsWords_form hO2; have HO2 := Lib.hid hO2; clear hO2 hB2)
    | (go_at_call 58; refine (HT.out _ HB2.out _ _ _ HO2.out).mono ?_; rintro e w5 ⟨rfl, h1, h2⟩; have H1 := Lib.hid h1; have H2 := Lib.hid h2; clear h1 h2)) | fail
  all_goals
    go_wp2_with fail
    go_ret
    exact ⟨rfl, H1.out, (Kt.of_below HB2.out).trans H2.out⟩
end Go.Proofs

/- Script: numbers, told: all lists. -/
namespace Go.Proofs
open Go.RowKit Go.Shelf
attribute [local go_sem] Oper.semAt_some

theorem lists_snoc {ls : List (List Cl4)} {k : Nat} (h : k < ls.length) : (ls.take (k + 1)).flatMap listNums = (ls.take k).flatMap listNums ++ listNums ls[k] := by
  rw [List.take_succ_eq_append_getElem h, List.flatMap_append]
  simp
theorem lists_pre {ls : List (List Cl4)} {k : Nat} {pre0 full : List Int} (h : k < ls.length) (hp : pre0 ++ ls.flatMap listNums <+: full) : (pre0 ++ (ls.take k).flatMap listNums) ++ listNums ls[k] <+: full := by
  rw [List.append_assoc, ← lists_snoc h]
  refine List.IsPrefix.trans ?_ hp
  refine (List.prefix_append_right_inj pre0).2 ⟨(ls.drop (k + 1)).flatMap listNums, ?_⟩
  rw [← List.flatMap_append, List.take_append_drop]

set_option maxRecDepth 100000 in
set_option maxHeartbeats 2000000 in
theorem Try.allTold_any (l : Nat) (J : List Int → World → Prop) (h : Nat) (t1 t2 : TypeId) (ht1 : 22 ≠ t1) (ht2 : 22 ≠ t2) (full : List Int) (hY : YieldsW l J (Kt h t1 t2) (fun pre x => pre ++ [x] <+: full)) (hJ : ∀ s X Y, J s X → Below X.heap.size X Y → J s Y)
    (ht3 : 90 ≠ t1) (ht4 : 90 ≠ t2) (ht5 : 60 ≠ t1) (ht6 : 60 ≠ t2)
    (pre0 : List Int) (ls : List (List Cl4)) (hp : pre0 ++ ls.flatMap listNums <+: full) (a : Option Addr) (n c : Nat) (hl : n ≤ 10000) (hll : ∀ l ∈ ls, l.length ≤ 10000) (ha : ∀ l ∈ ls, l.all isCallB = true) (Bs Bt : Nat) (w₀ W : World) (hw₀ : w₀.heap.size ≤ h) (hK0 : Kt h t1 t2 w₀ W) (hBs : Rows8 W Bs 90 #[.func (.yield l) #[] #[]]) (hBt : Rows8 W Bt 60 #[.func (.func 58) #[] #[.pointer (some ⟨Bs, 0, none⟩)]])
    (hc : ListsAt w₀ (.slice a n c) ls) (h0 : J pre0 W) :
    Calls Try.prog 50 #[.slice a n c, .func (.func 60) #[] #[.pointer (some ⟨Bt, 0, none⟩)]] W (ToldW J (Kt h t1 t2) (pre0 ++ ls.flatMap listNums) W) := by
  have HN := Lib.hid (listsAt_len hc)
  have HO := Lib.hid hc
  have HBs := Lib.hid hBs
  have HBt := Lib.hid hBt
  have HK0 := Lib.hid hK0
  have h00 : Hid (J (pre0 ++ (ls.take 0).flatMap listNums) W) := Lib.hid (by simpa using h0)
  have HT := Lib.hid fun (k : Nat) (hk : k < ls.length) (W' : World) (d1 : Option Addr) (e1 : Nat) (b1 : Rows8 W' Bs 90 #[.func (.yield l) #[] #[]]) (b2 : Rows8 W' Bt 60 #[.func (.func 58) #[] #[.pointer (some ⟨Bs, 0, none⟩)]]) (hc : CallsAt W' (.slice d1 ls[k].length e1) ls[k]) (hj : J (pre0 ++ (ls.take k).flatMap listNums) W') =>
    Try.tellList_any l J h t1 t2 ht1 ht2 full hY hJ (pre0 ++ (ls.take k).flatMap listNums) ls[k] (lists_pre hk hp) d1 _ e1 (hll _ (List.getElem_mem hk)) (ha _ (List.getElem_mem hk)) Bs Bt W' b1 b2 hc hj
  have HS := Lib.hid fun (k : Nat) (hk : k < ls.length) => (lists_snoc (ls := ls) hk)
  clear hY hp h0 hBs hBt hK0 hJ hc ha hll
  go_enter Try.func50, Try.ntmps50
  go_wp2_with fail
  go_loopw [9] (fun j wr => ∃ k : Nat, k ≤ n ∧ j = .int .i64 k ∧ J (pre0 ++ (ls.take k).flatMap listNums) wr ∧ Kt h t1 t2 W wr) (fun j _ => n - (intOf j).toNat)
  case atStart => exact ⟨0, Nat.zero_le _, rfl, h00.out, Kt.refl _ _ _ _⟩
  case round =>
    obtain ⟨k, hk, rfl, hJs, hK⟩ := hrel
    by_cases hlt : k < n
    · have hkx : k < ls.length := by rw [← HN.out]; exact hlt
      have hKw := HK0.out.trans hK
      obtain ⟨b1, o1, d1, e1, rfl, hb1, p0, hp⟩ := listsAt_get (hKw.lists HO.out hw₀) k hkx
      have hcon := HT.out k hkx wr d1 e1 (hK.rows HBs.out ht3 ht4) (hK.rows HBt.out ht5 ht6) hp hJs
      have hki : (k : Int) < (n : Int) := by omega
      have hsn := HS.out k hkx
      rw [List.append_assoc, ← hsn] at hcon
      have HCON := Lib.hid hcon
      have HK := Lib.hid hK
      generalize ls[k].length = ln at *
      clear hJs hKw hp hcon hsn hK
      go_wp2_with fail
      refine HCON.out.mono ?_
      rintro e w5 ⟨rfl, hJ5, hx5⟩
      have HJ5 := Lib.hid hJ5
      have HK5 := Lib.hid (HK.out.trans hx5)
      clear hJ5 hx5 p0
      go_wp2_with fail
      exact ⟨⟨k + 1, by omega, by go_num, HJ5.out, HK5.out⟩, by simp [intOf]; omega⟩
    · obtain rfl : k = n := by omega
      have hfin : ls.take k = ls := List.take_of_length_le (Nat.le_of_eq HN.out.symm)
      rw [hfin] at hJs
      have HJ := Lib.hid hJs
      have HK := Lib.hid hK
      clear hfin hJs hK
      go_wp2_with fail
      go_ret
      exact ⟨rfl, HJ.out, HK.out⟩
end Go.Proofs

/- Script: numbers, told, whole. -/
namespace Go.Proofs
open Go.RowKit Go.Shelf
attribute [local go_sem] Oper.semAt_some

theorem scrNums_eq (s : Scr) : scrNums s = ([s.goers, s.slabs, s.seed] ++ s.lists.flatMap listNums) ++ ((s.picks.length : Int) :: s.picks) := rfl
theorem wrapU (z : Int) (h : 0 ≤ z ∧ z ≤ 100000) : IntKind.u64.wrap z = z := by
  unfold IntKind.wrap
  simp [IntKind.bits, IntKind.signed]
  omega
theorem Try.numbers_any (g b sd : Int) (al ap : Option Addr) (ll cl pl cp : Nat) (w : World) :
    Calls Try.prog 44 #[.agg #[.int .i64 g, .int .i64 b, .int .u64 sd, .slice al ll cl, .slice ap pl cp]] w fun e w' => e = .returned (.func (.func 57) #[] #[.pointer (some ⟨w.heap.size, 0, none⟩)]) ∧ w' = w.alloc (.cells #[.int .i64 g, .int .i64 b, .int .u64 sd, .slice al ll cl, .slice ap pl cp] 26) := by
  go_enter Try.func44, Try.ntmps44
  go_wp2
  go_ret
  exact ⟨rfl, rfl⟩

set_option maxRecDepth 100000 in
set_option maxHeartbeats 2000000 in
theorem Try.numbers1_tells (d : Nat) (h : Nat) (t1 t2 : TypeId) (ht1 : 22 ≠ t1) (ht2 : 22 ≠ t2) (ht3 : 90 ≠ t1) (ht4 : 90 ≠ t2) (ht5 : 60 ≠ t1) (ht6 : 60 ≠ t2) (ht7 : 26 ≠ t1) (ht8 : 26 ≠ t2)
    (Bs : Nat) (g b sd : Int) (ls : List (List Cl4)) (ps : List Int) (hg : 1 ≤ g ∧ g ≤ 8) (hb : 2 ≤ b ∧ b ≤ 128) (hl : ls.length ≤ 8) (hll : ∀ l ∈ ls, l.length ≤ 10000) (ha : ∀ l ∈ ls, l.all isCallB = true) (hpl : ps.length ≤ 4096) (al ap : Option Addr) (ll cl pl cp : Nat) (w₀ w : World) (hx : w₀.heap.size ≤ h) (hw₀ : Below w₀.heap.size w₀ w)
    (hBs : Rows8 w Bs 26 #[.int .i64 g, .int .i64 b, .int .u64 sd, .slice al ll cl, .slice ap pl cp]) (hL : ListsAt w₀ (.slice al ll cl) ls) (hP : WordsAt w₀ (.slice ap pl cp) ps) :
    TellsE Fence.wide d Try.prog 57 #[.pointer (some ⟨Bs, 0, none⟩)] encW (Kt h t1 t2) (fun xs => xs = scrNums ⟨g, b, sd, ls, ps⟩) (fun pre x => pre ++ [x] <+: scrNums ⟨g, b, sd, ls, ps⟩) w := fun lp J W hW hJ hY h0 => by
  refine callsIn_wide.2 ?_
  have hY' : YieldsW lp J (Kt h t1 t2) (fun pre x => pre ++ [x] <+: scrNums ⟨g, b, sd, ls, ps⟩) := fun pre x W1 hj hok => yield_any rfl 8 (yield_mono (fun e W' ⟨h1, h2, _, h4⟩ => ⟨h1, h2, h4⟩) (hY pre x W1 hj hok))
  have e0 := scrNums_eq ⟨g, b, sd, ls, ps⟩
  dsimp only at e0
  generalize scrNums ⟨g, b, sd, ls, ps⟩ = full at *
  have hll' := listsAt_len hL
  have hpl' : pl = ps.length := by
    obtain ⟨_, a', cap', e, _⟩ := hP
    injection e
  have p1 : [] ++ [g, b, sd] <+: full := ⟨ls.flatMap listNums ++ ((ps.length : Int) :: ps), by rw [e0]; simp⟩
  have p2 : [g, b, sd] ++ ls.flatMap listNums <+: full := ⟨(ps.length : Int) :: ps, by rw [e0]⟩
  have p3 : ([g, b, sd] ++ ls.flatMap listNums) ++ ((ps.length : Int) :: ps) <+: full := by rw [e0]; exact List.prefix_refl _
  have bs := hBs.below hW hBs.lt
  have hBL := bs.lt
  have hK0 : Kt h t1 t2 w₀ W := Kt.of_below (hw₀.trans (hW.mono hw₀.size))
  have HT := Lib.hid fun (pre0 ws : List Int) (hp : pre0 ++ ws <+: full) (n₀ : Nat) (a : Option Addr) (n c : Nat) (hl : n ≤ 100000) (By : Nat) (W' : World) (hBs : Rows8 W' By 90 #[.func (.yield lp) #[] #[]]) (hO : OwnsWords n₀ ws (.slice a n c) W') (h0 : J pre0 W') => Try.tell_any lp J h t1 t2 ht1 ht2 full hY' pre0 ws hp n₀ a n c hl By W' hBs hO h0
  have HA := Lib.hid fun (By Bt : Nat) (W' : World) (hK0 : Kt h t1 t2 w₀ W') (hBs : Rows8 W' By 90 #[.func (.yield lp) #[] #[]]) (hBt : Rows8 W' Bt 60 #[.func (.func 58) #[] #[.pointer (some ⟨By, 0, none⟩)]]) (h0 : J [g, b, sd] W') => Try.allTold_any lp J h t1 t2 ht1 ht2 full hY' hJ ht3 ht4 ht5 ht6 [g, b, sd] ls p2 al ll cl (by omega) hll ha By Bt w₀ W' hx hK0 hBs hBt hL h0
  have wg := wrapU g (by omega)
  have wb := wrapU b (by omega)
  have wp := wrapU (pl : Int) (by omega)
  have BS := Lib.hid bs
  have HK0 := Lib.hid hK0
  have HP := Lib.hid hP
  have HPL := Lib.hid hpl'
  have HLL := Lib.hid hll'
  have HE := Lib.hid e0
  have HJ := Lib.hid hJ
  have P1 := Lib.hid p1
  have P3 := Lib.hid p3
  have H00 := Lib.hid h0
  have hplb : pl ≤ 4096 := by omega
  have k0 : W.cell? ⟨Bs, 0, none⟩ = some (.int .i64 g) := bs.cell 0
  have k1 : W.cell? ⟨Bs, 1, none⟩ = some (.int .i64 b) := bs.cell 1
  have k2 : W.cell? ⟨Bs, 2, none⟩ = some (.int .u64 sd) := bs.cell 2
  clear hY hY' e0 p1 p2 p3 bs hK0 hll' hpl' hP hL hJ h0 hBs hW hw₀ hg hb
  go_enter Try.func57, Try.ntmps57
  go_wp2_with fail
  have B3 : Below W.heap.size W (((W.alloc (.cells #[.func (.yield lp) #[] #[]] 90)).alloc (.cells #[.func (.func 58) #[] #[.pointer (some ⟨W.heap.size, 0, none⟩)]] 60)).alloc (.cells #[.int .u64 g, .int .u64 b, .int .u64 sd] 22)) :=
    (((Below.refl _ W).alloc (Nat.le_refl _) _).alloc (by simp) _).alloc (by simp; omega) _
  have R1 := ((Rows8.new W 90 #[.func (.yield lp) #[] #[]]).alloc (.cells #[.func (.func 58) #[] #[.pointer (some ⟨W.heap.size, 0, none⟩)]] 60)).alloc (.cells #[.int .u64 g, .int .u64 b, .int .u64 sd] 22)
  have R2 := (rows_new2 W (.cells #[.func (.yield lp) #[] #[]] 90) 60 #[.func (.func 58) #[] #[.pointer (some ⟨W.heap.size, 0, none⟩)]]).alloc (.cells #[.int .u64 g, .int .u64 b, .int .u64 sd] 22)
  have R3 := rows_new2 (W.alloc (.cells #[.func (.yield lp) #[] #[]] 90)) (.cells #[.func (.func 58) #[] #[.pointer (some ⟨W.heap.size, 0, none⟩)]] 60) 22 #[.int .u64 g, .int .u64 b, .int .u64 sd]
  rw [World.size_alloc] at R3
  generalize ((W.alloc (.cells #[.func (.yield lp) #[] #[]] 90)).alloc (.cells #[.func (.func 58) #[] #[.pointer (some ⟨W.heap.size, 0, none⟩)]] 60)).alloc (.cells #[.int .u64 g, .int .u64 b, .int .u64 sd] 22) = Z at *
  have O3 : OwnsWords 0 [g, b, sd] (.slice (some ⟨W.heap.size + 1 + 1, 0, none⟩) 3 3) Z := ⟨rfl, .inr ⟨_, 3, _, rfl, Nat.zero_le _, R3, Nat.le_refl _, by unfold maxLen; omega, rfl, rfl⟩⟩
  refine (HT.out [] [g, b, sd] P1.out 0 _ 3 3 (by decide) W.heap.size Z R1 O3 (HJ.out _ _ _ H00.out B3)).mono ?_
  rintro e w4 ⟨rfl, hJ4, hx4⟩
  have K4 := (Kt.of_below B3).trans hx4
  have r1 := hx4.rows R1 ht3 ht4
  have r2 := hx4.rows R2 ht5 ht6
  have b4 := K4.rows BS.out ht7 ht8
  have k3 : w4.cell? ⟨Bs, 3, none⟩ = some (.slice al ll cl) := b4.cell 3
  have HC := Lib.hid (HA.out W.heap.size (W.heap.size + 1) w4 (HK0.out.trans K4) r1 r2 hJ4)
  have R1' := Lib.hid r1
  have R2' := Lib.hid r2
  have B4 := Lib.hid b4
  have HK4 := Lib.hid K4
  clear R1 R2 R3 O3 B3 hx4 K4 r1 r2 b4 hJ4 k0 k1 k2
  go_wp2_with fail
  refine HC.out.mono ?_
  rintro e w5 ⟨rfl, hJ5, hx5⟩
  have HJ5 := Lib.hid hJ5
  have R1'' := Lib.hid (hx5.rows R1'.out ht3 ht4)
  have R2'' := Lib.hid (hx5.rows R2'.out ht5 ht6)
  have B5 := Lib.hid (hx5.rows B4.out ht7 ht8)
  have RP : Hid (RowAt w5 (.slice ap pl cp) ps.length 1 (wordVals ps)) := Lib.hid (((HK0.out.trans HK4.out).trans hx5).row HP.out hx)
  have B5d : Below w5.heap.size w5 w5.drew := (Below.refl _ w5).drew
  have B5a : Hid (Below w5.heap.size w5 (w5.drew.alloc (.cells #[.int .u64 (pl : Int)] 22))) := Lib.hid (B5d.alloc (Nat.le_refl _) _)
  have two : ∀ X : World, Rows8 X (W.heap.size + 1) 60 #[.func (.func 58) #[] #[.pointer (some ⟨W.heap.size, 0, none⟩)]] → Rows8 X Bs 26 #[.int .i64 g, .int .i64 b, .int .u64 sd, .slice al ll cl, .slice ap pl cp] → X.cell? ⟨W.heap.size + 1, 0, none⟩ = some (.func (.func 58) #[] #[.pointer (some ⟨W.heap.size, 0, none⟩)]) ∧ X.cell? ⟨Bs, 4, none⟩ = some (.slice ap pl cp) := fun X x y => ⟨x.cell 0, y.cell 4⟩
  have HTWO := Lib.hid two
  have e7 : wordVals ((ps.length : Int) :: ps) = [.int .u64 (pl : Int)] ++ wordVals ps := by rw [← HPL.out]; rfl
  have HE7 := Lib.hid e7
  clear e7
  obtain ⟨i0, hi, hz0, hz1, hz2_⟩ := info_parts Try.infoWord
  have hlt1 := R2''.out.lt
  have hlt2 := B5.out.lt
  have hlt0 := R1''.out.lt
  clear hJ5 hx5 k3 HC two
  go_wp2_with fail
  go_region_held3 (fun W' => W'.cell? ⟨W.heap.size + 1, 0, none⟩ = some (.func (.func 58) #[] #[.pointer (some ⟨W.heap.size, 0, none⟩)]) ∧ W'.cell? ⟨Bs, 4, none⟩ = some (.slice ap pl cp)) (first | exact HTWO.out _ R2''.out B5.out | exact HTWO.out _ (R2''.out.alloc _) (B5.out.alloc _) | exact HTWO.out _ q2 q5 | exact HTWO.out _ s2 s5) (first
    | (refine step_append_row _ rfl _ _ 24 rfl w5.heap.size 22 i0 (.int .u64 0) 1 8 Try.underlying24 hi hz0 hz1 hz2_ rfl (by decide) (.slice (some ⟨_, 0, none⟩) 1 1) 1 [.int .u64 (pl : Int)] rfl (own1 (Rows8.new w5.drew 22 #[.int .u64 (pl : Int)]) (Nat.le_refl _) rfl) (.slice ap pl cp) ps.length (wordVals ps) rfl (RowAt.below RP.out B5a.out) (wordVals_one _) (by unfold maxLen; omega) (by omega) B5a.out.size ?_; intro v6 w6 hown6 hg6 _; (have B6 : Below w5.heap.size w5 w6 := B5a.out.grown hg6 B5a.out.size (fun j ej => Nat.le_of_eq (Option.some.inj (show some w5.heap.size = some j from ej))); have q1 := R1''.out.below B6 hlt0; have q2 := R2''.out.below B6 hlt1; have q5 := B5.out.below B6 hlt2; have hO6 : OwnsWords w5.heap.size ((ps.length : Int) :: ps) v6 w6 := (by unfold OwnsWords; rw [HE7.out, List.length_cons, Nat.add_comm]; exact hown6); obtain ⟨a6, c6, rfl⟩ := ownsWords_form hO6; have HO6 := Lib.hid hO6; clear hown6 hg6 hO6))
    | (go_at_call 58; refine (HT.out _ _ P3.out w5.heap.size a6 _ c6 (by simp; omega) W.heap.size w6 q1 HO6.out (HJ.out _ _ _ HJ5.out B6)).mono ?_; rintro e w7 ⟨rfl, hJ7, hx7⟩; have s2 := hx7.rows q2 ht5 ht6; have s5 := hx7.rows q5 ht7 ht8; have HJ7 := Lib.hid hJ7))
  all_goals
    go_wp2_with fail
    go_end0
    exact ⟨⟨_, rfl⟩, _, rfl, by rw [HE.out]; exact HJ7.out⟩
end Go.Proofs
