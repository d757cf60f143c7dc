/-
Layer 9: what the law's file answers; DynTables, over package dyn's call.
-/
import Derived.Test.YtfdoloonllhodaaJDyJ
namespace Go.Proofs.Ytfdoloonllhodaa
open Go Go.RowKit

theorem fl9_ok : Fl9OK := ⟨fun code A n c t y r tg sy rl m pl w hS hA ht hy hyf hr hm1 hm2 => by
  have e0 : code.length = n := hS.1
  have e1 : tg.length = t.n := ht.1
  have e2 : sy.length = y.n := hy.1
  have e3 : rl.length = r.n := hr.1
  unfold File9R fits9
  rw [e0, e1, e2, e3]
  by_cases h : n ≤ 240 ∧ n % 4 = 0 ∧ n ≠ 0 ∧ t.n ≤ 20 ∧ y.n ≤ 80 ∧ r.n ≤ 80
  · refine (file9_yes code A n c t y r tg sy rl m pl w hS hA ht hy hyf hr hm1 hm2 h).mono ?_
    rintro e w' ⟨⟨A2, n2, c2, rfl, hR, hc⟩, hb⟩
    refine ⟨⟨A2, n2, c2, rfl, ?_⟩, hb⟩
    rw [if_pos (decide_eq_true h)]
    exact ⟨hR, hc⟩
  · refine (file9_nil A n c t y r m pl w h).mono ?_
    rintro e w' ⟨rfl, hb⟩
    refine ⟨⟨none, 0, 0, rfl, ?_⟩, hb⟩
    rw [if_neg (by rw [decide_eq_false h]; decide)]
    exact ⟨rfl, rfl, rfl⟩⟩
end Go.Proofs.Ytfdoloonllhodaa
