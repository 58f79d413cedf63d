/- Limbo: maths of LimboSteps. -/
import Derived.Test.YtghnfiegihfdnaaDoorLsh
namespace Go.Proofs
set_option maxRecDepth 100000
open Go.RowKit Go.Shelf
attribute [local go_sem] Oper.semAt_some

theorem goodL_sub {l m : List Pr} (h : l.Sublist m) (hm : goodL m = true) : goodL l = true := by
  rw [goodL_iff] at *
  exact ⟨fun e he => hm.1 e (h.subset he), List.Nodup.sublist (h.map _) hm.2⟩
theorem right_own {E : Nat} {r : Rw3} (h : rightL E r = true) : rightL E (ownR r) = true := by
  obtain ⟨⟨h1, h2, h3⟩, h4⟩ := rightL_iff.1 h
  refine rightL_iff.2 ⟨⟨h1, fun a => by rw [ownR_at r 1 (by omega), h2 a]; rfl, fun a => by rw [ownR_at r 2 (by omega), h3 a]; rfl⟩, goodL_sub ?_ h4⟩
  unfold allL
  rw [ownR_at r 0 (by omega), ownR_at r 1 (by omega), ownR_at r 2 (by omega)]
  exact ((List.take_sublist _ _).append (List.take_sublist _ _)).append (List.take_sublist _ _)
theorem own_own (r : Rw3) : ownR (ownR r) = ownR r := by
  funext k
  by_cases hk : k < 3
  · rw [ownR_at _ k hk, ownR_at _ k hk, List.take_take, Nat.min_self]
  · unfold ownR; rw [if_neg hk, if_neg hk]
theorem own_cong {r q : Rw3} (h : ∀ k, k < 3 → r k = q k) : ownR r = ownR q := by
  funext k
  by_cases hk : k < 3
  · rw [ownR_at _ k hk, ownR_at _ k hk, h k hk]
  · unfold ownR; rw [if_neg hk, if_neg hk]
theorem own_tak {E : Nat} {r : Rw3} {z : Pr} {t : List Pr} (hz : readyL E r = z :: t) : ownR (takR E r) = ownR (updL r ((E + 1) % 3) t) := own_cong fun k hk => takR_at hz k hk
theorem own_three {r : Rw3} (h : ownR r = r) : r 3 = [] := by rw [← h]; rfl
theorem own_le {r : Rw3} (h : ownR r = r) (k : Nat) (hk : k < 3) : (r k).length ≤ 12 := by rw [← h]; exact ownR_len r k hk
end Go.Proofs
