/- Hashes: inverse, made, unmade. -/
import Derived.Test.YtobomgedghbflaaHa
import Derived.WalkMore
import Derived.ScopeJumps
namespace Go.Proofs
open Go.RowKit Go.Shelf
attribute [local go_sem] Oper.semAt_some
theorem wrap_u64m (n : Int) : IntKind.u64.wrap n = n % 18446744073709551616 := by simp [IntKind.wrap, IntKind.bits, IntKind.signed]

def rank1 (v : Value) : Nat := if intOf v = 13787848793156543929 then 4 else if intOf v = 16496376113027886985 then 3 else if intOf v = 2203917495349842057 then 2 else if intOf v = 2756543469426151561 then 1 else if intOf v = 10871156337175269513 then 0 else 0
set_option maxRecDepth 100000 in
set_option maxHeartbeats 1000000 in
theorem Try.inverse1_any (w : World) :
    Calls Try.prog 46 #[.int .u64 13787848793156543929] w fun e w' => e = .returned (.int .u64 10871156337175269513) ∧ w = w' := by
  have m0 : IntKind.u64.wrap (13787848793156543929 * 13787848793156543929) = 10577579436359319473 := by rw [wrap_u64m]; decide
  have mm0 : IntKind.u64.wrap 190104774342948364894052761395706757041 = 10577579436359319473 := by rw [wrap_u64m]; decide
  have q0 : IntKind.u64.wrap (2 - 10577579436359319473) = 7869164637350232145 := by rw [wrap_u64m]; decide
  have qq0 : IntKind.u64.wrap (-10577579436359319471) = 7869164637350232145 := by rw [wrap_u64m]; decide
  have r0 : IntKind.u64.wrap (13787848793156543929 * 7869164637350232145) = 16496376113027886985 := by rw [wrap_u64m]; decide
  have rr0 : IntKind.u64.wrap 108498852148239550948986716474040397705 = 16496376113027886985 := by rw [wrap_u64m]; decide
  have m1 : IntKind.u64.wrap (13787848793156543929 * 16496376113027886985) = 6245355300859143937 := by rw [wrap_u64m]; decide
  have mm1 : IntKind.u64.wrap 227449539481467990672467792620199864065 = 6245355300859143937 := by rw [wrap_u64m]; decide
  have q1 : IntKind.u64.wrap (2 - 6245355300859143937) = 12201388772850407681 := by rw [wrap_u64m]; decide
  have qq1 : IntKind.u64.wrap (-6245355300859143935) = 12201388772850407681 := by rw [wrap_u64m]; decide
  have r1 : IntKind.u64.wrap (16496376113027886985 * 12201388772850407681) = 2203917495349842057 := by rw [wrap_u64m]; decide
  have rr1 : IntKind.u64.wrap 201278698298216108136847771679243931785 = 2203917495349842057 := by rw [wrap_u64m]; decide
  have m2 : IntKind.u64.wrap (13787848793156543929 * 2203917495349842057) = 1070253961011724289 := by rw [wrap_u64m]; decide
  have mm2 : IntKind.u64.wrap 30387281178475912822261990706132221953 = 1070253961011724289 := by rw [wrap_u64m]; decide
  have q2 : IntKind.u64.wrap (2 - 1070253961011724289) = 17376490112697827329 := by rw [wrap_u64m]; decide
  have qq2 : IntKind.u64.wrap (-1070253961011724287) = 17376490112697827329 := by rw [wrap_u64m]; decide
  have r2 : IntKind.u64.wrap (2203917495349842057 * 17376490112697827329) = 2756543469426151561 := by rw [wrap_u64m]; decide
  have rr2 : IntKind.u64.wrap 38296350567148290343338590587208175753 = 2756543469426151561 := by rw [wrap_u64m]; decide
  have m3 : IntKind.u64.wrap (13787848793156543929 * 2756543469426151561) = 8638830007231184897 := by rw [wrap_u64m]; decide
  have mm3 : IntKind.u64.wrap 38006804548210916348132177013708423169 = 8638830007231184897 := by rw [wrap_u64m]; decide
  have q3 : IntKind.u64.wrap (2 - 8638830007231184897) = 9807914066478366721 := by rw [wrap_u64m]; decide
  have qq3 : IntKind.u64.wrap (-8638830007231184895) = 9807914066478366721 := by rw [wrap_u64m]; decide
  have r3 : IntKind.u64.wrap (2756543469426151561 * 9807914066478366721) = 10871156337175269513 := by rw [wrap_u64m]; decide
  have rr3 : IntKind.u64.wrap 27035941468643831504143108899884601481 = 10871156337175269513 := by rw [wrap_u64m]; decide
  have m4 : IntKind.u64.wrap (13787848793156543929 * 10871156337175269513) = 1 := by rw [wrap_u64m]; decide
  have mm4 : IntKind.u64.wrap 149889859783738154310061413260198936577 = 1 := by rw [wrap_u64m]; decide
  go_enter Try.func46, Try.ntmps46
  go_wp2
  refine wp_scope_jumps 0 (fun a' w' => w' = w ∧ ∃ (b : Int) (u1 u4 u5 u6 u7 u8 u9 u10 u11 u12 u13 u14 u15 : Value), a' = { tmps := #[.int .u64 13787848793156543929, u1, .int .u64 0, .int .u64 b, u4, u5, u6, u7, u8, u9, u10, u11, u12, u13, u14, u15], defers := [] } ∧ (b = 16496376113027886985 ∨ b = 2203917495349842057 ∨ b = 2756543469426151561 ∨ b = 10871156337175269513)) (fun a' _ => rank1 (a'.tmps.getD 3 undef)) rfl ?_ ?_
  · go_wp2; go_step3; go_wp2
    go_step3
    refine ⟨rfl, rfl, _, _, _, _, _, _, _, _, _, _, _, _, _, _, rfl, ?_⟩; simp
  · rintro a' w ⟨rfl, b, u1, u4, u5, u6, u7, u8, u9, u10, u11, u12, u13, u14, u15, rfl, hb⟩
    rcases hb with rfl | rfl | rfl | rfl
    · go_wp2
      go_step3
      refine ⟨rfl, ⟨rfl, _, _, _, _, _, _, _, _, _, _, _, _, _, _, rfl, ?_⟩, ?_⟩
      · simp
      · simp [rank1, intOf]
    · go_wp2
      go_step3
      refine ⟨rfl, ⟨rfl, _, _, _, _, _, _, _, _, _, _, _, _, _, _, rfl, ?_⟩, ?_⟩
      · simp
      · simp [rank1, intOf]
    · go_wp2
      go_step3
      refine ⟨rfl, ⟨rfl, _, _, _, _, _, _, _, _, _, _, _, _, _, _, rfl, ?_⟩, ?_⟩
      · simp
      · simp [rank1, intOf]
    · go_wp2
      first | simp only [Exit.jump] | skip
      go_ret
      exact ⟨rfl, rfl⟩
def rank2 (v : Value) : Nat := if intOf v = 10723151780598845931 then 5 else if intOf v = 18400050480366895619 then 4 else if intOf v = 9846093502803566275 then 3 else if intOf v = 9542274150187241155 then 2 else if intOf v = 4274833807104642755 then 1 else if intOf v = 3573116690164977347 then 0 else 0
set_option maxRecDepth 100000 in
set_option maxHeartbeats 1000000 in
theorem Try.inverse2_any (w : World) :
    Calls Try.prog 46 #[.int .u64 10723151780598845931] w fun e w' => e = .returned (.int .u64 3573116690164977347) ∧ w = w' := by
  have m0 : IntKind.u64.wrap (10723151780598845931 * 10723151780598845931) = 15940637540239216057 := by rw [wrap_u64m]; decide
  have mm0 : IntKind.u64.wrap 114985984109760200022255430809075256761 = 15940637540239216057 := by rw [wrap_u64m]; decide
  have q0 : IntKind.u64.wrap (2 - 15940637540239216057) = 2506106533470335561 := by rw [wrap_u64m]; decide
  have qq0 : IntKind.u64.wrap (-15940637540239216055) = 2506106533470335561 := by rw [wrap_u64m]; decide
  have r0 : IntKind.u64.wrap (10723151780598845931 * 2506106533470335561) = 18400050480366895619 := by rw [wrap_u64m]; decide
  have rr0 : IntKind.u64.wrap 26873360736752830048355674339909452291 = 18400050480366895619 := by rw [wrap_u64m]; decide
  have m1 : IntKind.u64.wrap (10723151780598845931 * 18400050480366895619) = 2757642028831722433 := by rw [wrap_u64m]; decide
  have mm1 : IntKind.u64.wrap 197306534071654927170316362648539876289 = 2757642028831722433 := by rw [wrap_u64m]; decide
  have q1 : IntKind.u64.wrap (2 - 2757642028831722433) = 15689102044877829185 := by rw [wrap_u64m]; decide
  have qq1 : IntKind.u64.wrap (-2757642028831722431) = 15689102044877829185 := by rw [wrap_u64m]; decide
  have r1 : IntKind.u64.wrap (18400050480366895619 * 15689102044877829185) = 9846093502803566275 := by rw [wrap_u64m]; decide
  have rr1 : IntKind.u64.wrap 288680269617379545243126875718206840515 = 9846093502803566275 := by rw [wrap_u64m]; decide
  have m2 : IntKind.u64.wrap (10723151780598845931 * 9846093502803566275) = 17809209686115086337 := by rw [wrap_u64m]; decide
  have mm2 : IntKind.u64.wrap 105581155076530789722513672256072577025 = 17809209686115086337 := by rw [wrap_u64m]; decide
  have q2 : IntKind.u64.wrap (2 - 17809209686115086337) = 637534387594465281 := by rw [wrap_u64m]; decide
  have qq2 : IntKind.u64.wrap (-17809209686115086335) = 637534387594465281 := by rw [wrap_u64m]; decide
  have r2 : IntKind.u64.wrap (9846093502803566275 * 637534387594465281) = 9542274150187241155 := by rw [wrap_u64m]; decide
  have rr2 : IntKind.u64.wrap 6277223191507715147442394738469998275 = 9542274150187241155 := by rw [wrap_u64m]; decide
  have m3 : IntKind.u64.wrap (10723151780598845931 * 9542274150187241155) = 15961483885561249793 := by rw [wrap_u64m]; decide
  have mm3 : IntKind.u64.wrap 102323254044542654371853618153787490305 = 15961483885561249793 := by rw [wrap_u64m]; decide
  have q3 : IntKind.u64.wrap (2 - 15961483885561249793) = 2485260188148301825 := by rw [wrap_u64m]; decide
  have qq3 : IntKind.u64.wrap (-15961483885561249791) = 2485260188148301825 := by rw [wrap_u64m]; decide
  have r3 : IntKind.u64.wrap (9542274150187241155 * 2485260188148301825) = 4274833807104642755 := by rw [wrap_u64m]; decide
  have rr3 : IntKind.u64.wrap 23715034049857019859199729095001607875 = 4274833807104642755 := by rw [wrap_u64m]; decide
  have m4 : IntKind.u64.wrap (10723151780598845931 * 4274833807104642755) = 9042946576783245313 := by rw [wrap_u64m]; decide
  have mm4 : IntKind.u64.wrap 45839691750418293435628208105040379905 = 9042946576783245313 := by rw [wrap_u64m]; decide
  have q4 : IntKind.u64.wrap (2 - 9042946576783245313) = 9403797496926306305 := by rw [wrap_u64m]; decide
  have qq4 : IntKind.u64.wrap (-9042946576783245311) = 9403797496926306305 := by rw [wrap_u64m]; decide
  have r4 : IntKind.u64.wrap (4274833807104642755 * 9403797496926306305) = 3573116690164977347 := by rw [wrap_u64m]; decide
  have rr4 : IntKind.u64.wrap 40199671455026592057791725858729070275 = 3573116690164977347 := by rw [wrap_u64m]; decide
  have m5 : IntKind.u64.wrap (10723151780598845931 * 3573116690164977347) = 1 := by rw [wrap_u64m]; decide
  have mm5 : IntKind.u64.wrap 38315072598430031723036212062958125057 = 1 := by rw [wrap_u64m]; decide
  go_enter Try.func46, Try.ntmps46
  go_wp2
  refine wp_scope_jumps 0 (fun a' w' => w' = w ∧ ∃ (b : Int) (u1 u4 u5 u6 u7 u8 u9 u10 u11 u12 u13 u14 u15 : Value), a' = { tmps := #[.int .u64 10723151780598845931, u1, .int .u64 0, .int .u64 b, u4, u5, u6, u7, u8, u9, u10, u11, u12, u13, u14, u15], defers := [] } ∧ (b = 18400050480366895619 ∨ b = 9846093502803566275 ∨ b = 9542274150187241155 ∨ b = 4274833807104642755 ∨ b = 3573116690164977347)) (fun a' _ => rank2 (a'.tmps.getD 3 undef)) rfl ?_ ?_
  · go_wp2; go_step3; go_wp2
    go_step3
    refine ⟨rfl, rfl, _, _, _, _, _, _, _, _, _, _, _, _, _, _, rfl, ?_⟩; simp
  · rintro a' w ⟨rfl, b, u1, u4, u5, u6, u7, u8, u9, u10, u11, u12, u13, u14, u15, rfl, hb⟩
    rcases hb with rfl | rfl | rfl | rfl | rfl
    · go_wp2
      go_step3
      refine ⟨rfl, ⟨rfl, _, _, _, _, _, _, _, _, _, _, _, _, _, _, rfl, ?_⟩, ?_⟩
      · simp
      · simp [rank2, intOf]
    · go_wp2
      go_step3
      refine ⟨rfl, ⟨rfl, _, _, _, _, _, _, _, _, _, _, _, _, _, _, rfl, ?_⟩, ?_⟩
      · simp
      · simp [rank2, intOf]
    · go_wp2
      go_step3
      refine ⟨rfl, ⟨rfl, _, _, _, _, _, _, _, _, _, _, _, _, _, _, rfl, ?_⟩, ?_⟩
      · simp
      · simp [rank2, intOf]
    · go_wp2
      go_step3
      refine ⟨rfl, ⟨rfl, _, _, _, _, _, _, _, _, _, _, _, _, _, _, rfl, ?_⟩, ?_⟩
      · simp
      · simp [rank2, intOf]
    · go_wp2
      first | simp only [Exit.jump] | skip
      go_ret
      exact ⟨rfl, rfl⟩
end Go.Proofs
