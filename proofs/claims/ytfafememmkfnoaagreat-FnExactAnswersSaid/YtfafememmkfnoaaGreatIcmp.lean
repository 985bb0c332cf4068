/- What '!=' is at two [3]int and at two values of packedAtom. -/
import Derived.Test.YtfafememmkfnoaaGreatSatom
import Derived.ChangeKeysEq
namespace Go.Proofs.YtfafememmkfnoaaGreat
open Go Go.Sort Go.RowKit
set_option linter.unusedVariables false

theorem plain_int : Tryz.prog.plainKey 3 = true := by kernel_rfl
theorem cells_int : Tryz.prog.cellsOf 3 = 1 := by kernel_rfl
theorem info_int_some : ∃ i, Tryz.prog.info? 3 = some i := Option.isSome_iff_exists.1 (by kernel_rfl)
theorem und_tri : Tryz.prog.underlying 78 = some (.array 3 3) := by kernel_rfl
theorem agg_tri (w : World) : (isAgg 78).run Tryz.prog w = .ok true w := by
  unfold isAgg; simp [run_underlying und_tri]
theorem size_tri (w : World) : (sizeOf 78).run Tryz.prog w = .ok 3 w := by
  obtain ⟨i, hi⟩ := Option.isSome_iff_exists.1 (by kernel_rfl : (Tryz.prog.info? 78).isSome = true)
  rw [run_sizeOf w hi, show Tryz.prog.cellsOf 78 = 3 by kernel_rfl]

theorem eq_tri (w : World) (d : Nat) (x y z x' y' z' : Int) :
    (Op.equalIn (d + 2) 78 (.agg #[.int .i64 x, .int .i64 y, .int .i64 z]) (.agg #[.int .i64 x', .int .i64 y', .int .i64 z'])).run Tryz.prog w = .ok (decide (x = x' ∧ y = y' ∧ z = z')) w := by
  obtain ⟨i, hi⟩ := info_int_some
  rw [run_equalIn_array w (d + 1) _ _ und_tri hi, cells_int]
  have hp : ∀ (xs : Array Value) (off : Nat) (v : Value), xs[off]? = some v → (part 3 xs off).run Tryz.prog w = .ok v w := fun xs off v h => run_part_plain w plain_int h
  have he : ∀ a b : Int, (Op.equalIn (d + 1) 3 (.int .i64 a) (.int .i64 b)).run Tryz.prog w = .ok (a == b) w := fun a b => run_equalIn_int w d _ .i64 .i64 a b Tryz.underlying3
  generalize d + 1 = D at *
  rw [show List.range 3 = [0, 1, 2] from rfl]
  have g0 : ∀ a b c : Value, (part 3 #[a, b, c] (0 * 1)).run Tryz.prog w = .ok a w := fun a b c => hp _ _ a rfl
  have g1 : ∀ a b c : Value, (part 3 #[a, b, c] (1 * 1)).run Tryz.prog w = .ok b w := fun a b c => hp _ _ b rfl
  have g2 : ∀ a b c : Value, (part 3 #[a, b, c] (2 * 1)).run Tryz.prog w = .ok c w := fun a b c => hp _ _ c rfl
  by_cases h1 : x = x' <;> by_cases h2 : y = y' <;> by_cases h3 : z = z' <;> simp [Op.eqItems, g0, g1, g2, he, h1, h2, h3]
theorem neq_tri (w : World) (x y z x' y' z' : Int) :
    (binOp .neq 78 (.agg #[.int .i64 x, .int .i64 y, .int .i64 z]) (.agg #[.int .i64 x', .int .i64 y', .int .i64 z'])).run Tryz.prog w = .ok (.bool (!decide (x = x' ∧ y = y' ∧ z = z'))) w := by
  rw [run_neq_struct, eq_tri w 9998]; rfl

end Go.Proofs.YtfafememmkfnoaaGreat
