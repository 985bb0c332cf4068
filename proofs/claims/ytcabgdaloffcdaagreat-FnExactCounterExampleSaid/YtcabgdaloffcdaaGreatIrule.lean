/- Contract of chapter 4's program: ruleOf. -/
import Derived.Test.YtcabgdaloffcdaaGreatSquery
namespace Go.Proofs.YtcabgdaloffcdaaGreat
open Go Go.Sort Go.RowKit
set_option linter.unusedVariables false

set_option maxHeartbeats 1000000 in
theorem iRuleOf_any (w : World) (a : Option Addr) (n c : Nat) (a' : Option Addr) (n' c' : Nat) :
    Calls Tryz.prog 92 #[.agg #[.slice a n c, .slice a' n' c']] w fun e w' => e = .returned (.agg #[.slice a n c, .slice a' n' c']) ∧ Below w.heap.size w w' := by
  have hb0 : ∀ o p, Below w.heap.size w ((w.alloc o).alloc p) := fun o p => ((Below.refl _ _).alloc (Nat.le_refl _) _).alloc (by simp) _
  have HB0 := Lib.hid hb0
  clear hb0
  go_enter Tryz.func92, Tryz.ntmps92
  go_wp2_with fail
  exact bodyPost_ret (v := .agg #[.slice a n c, .slice a' n' c']) (by simp [results, Tryz.results92, go_sem]) rfl ⟨rfl, HB0.out _ _⟩

end Go.Proofs.YtcabgdaloffcdaaGreat
