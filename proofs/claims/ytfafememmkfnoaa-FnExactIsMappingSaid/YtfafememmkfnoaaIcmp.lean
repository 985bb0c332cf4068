/- What '!=' is at two [3]int and at two values of packedAtom. -/
import Derived.Test.YtfafememmkfnoaaSatom
import Derived.ChangeKeysEq
namespace Go.Proofs.Ytfafememmkfnoaa
open Go Go.Sort Go.RowKit
set_option linter.unusedVariables false

theorem plain_int : Try.prog.plainKey 3 = true := by kernel_rfl
theorem cells_int : Try.prog.cellsOf 3 = 1 := by kernel_rfl
theorem info_int_some : ∃ i, Try.prog.info? 3 = some i := Option.isSome_iff_exists.1 (by kernel_rfl)
theorem und_tri : Try.prog.underlying 88 = some (.array 3 3) := by kernel_rfl
theorem agg_tri (w : World) : (isAgg 88).run Try.prog w = .ok true w := by
  unfold isAgg; simp [run_underlying und_tri]
theorem size_tri (w : World) : (sizeOf 88).run Try.prog w = .ok 3 w := by
  obtain ⟨i, hi⟩ := Option.isSome_iff_exists.1 (by kernel_rfl : (Try.prog.info? 88).isSome = true)
  rw [run_sizeOf w hi, show Try.prog.cellsOf 88 = 3 by kernel_rfl]

theorem eq_tri (w : World) (d : Nat) (x y z x' y' z' : Int) :
    (Op.equalIn (d + 2) 88 (.agg #[.int .i64 x, .int .i64 y, .int .i64 z]) (.agg #[.int .i64 x', .int .i64 y', .int .i64 z'])).run Try.prog w = .ok (decide (x = x' ∧ y = y' ∧ z = z')) w := by
  obtain ⟨i, hi⟩ := info_int_some
  rw [run_equalIn_array w (d + 1) _ _ und_tri hi, cells_int]
  have hp : ∀ (xs : Array Value) (off : Nat) (v : Value), xs[off]? = some v → (part 3 xs off).run Try.prog w = .ok v w := fun xs off v h => run_part_plain w plain_int h
  have he : ∀ a b : Int, (Op.equalIn (d + 1) 3 (.int .i64 a) (.int .i64 b)).run Try.prog w = .ok (a == b) w := fun a b => run_equalIn_int w d _ .i64 .i64 a b Try.underlying3
  generalize d + 1 = D at *
  rw [show List.range 3 = [0, 1, 2] from rfl]
  have g0 : ∀ a b c : Value, (part 3 #[a, b, c] (0 * 1)).run Try.prog w = .ok a w := fun a b c => hp _ _ a rfl
  have g1 : ∀ a b c : Value, (part 3 #[a, b, c] (1 * 1)).run Try.prog w = .ok b w := fun a b c => hp _ _ b rfl
  have g2 : ∀ a b c : Value, (part 3 #[a, b, c] (2 * 1)).run Try.prog w = .ok c w := fun a b c => hp _ _ c rfl
  by_cases h1 : x = x' <;> by_cases h2 : y = y' <;> by_cases h3 : z = z' <;> simp [Op.eqItems, g0, g1, g2, he, h1, h2, h3]
theorem neq_tri (w : World) (x y z x' y' z' : Int) :
    (binOp .neq 88 (.agg #[.int .i64 x, .int .i64 y, .int .i64 z]) (.agg #[.int .i64 x', .int .i64 y', .int .i64 z'])).run Try.prog w = .ok (.bool (!decide (x = x' ∧ y = y' ∧ z = z'))) w := by
  rw [run_neq_struct, eq_tri w 9998]; rfl

theorem und_packed : Try.prog.underlying 90 = some (.struct (Try.prog.fieldsOf 90)) := by kernel_rfl
theorem fields_packed : ((Try.prog.fieldsOf 90).toList.map (fun f => (f.type, f.offset)) = [(3, 0), (3, 1), (88, 2)]) ∧ (∀ f ∈ (Try.prog.fieldsOf 90).toList, f.name ≠ "_") :=
  ⟨by kernel_rfl, by
    have : ((Try.prog.fieldsOf 90).toList.all (fun f => f.name != "_")) = true := by kernel_rfl
    intro f hf
    simpa using List.all_eq_true.1 this f hf⟩
theorem eq_packed (w : World) (d : Nat) (r n x y z r' n' x' y' z' : Int) :
    (Op.equalIn (d + 3) 90 (.agg #[.int .i64 r, .int .i64 n, .int .i64 x, .int .i64 y, .int .i64 z]) (.agg #[.int .i64 r', .int .i64 n', .int .i64 x', .int .i64 y', .int .i64 z'])).run Try.prog w = .ok (decide (r = r' ∧ n = n' ∧ x = x' ∧ y = y' ∧ z = z')) w := by
  rw [run_equalIn_struct w (d + 2) _ _ _ und_packed (by kernel_rfl)]
  obtain ⟨hf, hn⟩ := fields_packed
  generalize (Try.prog.fieldsOf 90).toList = fs at *
  obtain ⟨f1, f2, f3, rfl⟩ : ∃ f1 f2 f3, fs = [f1, f2, f3] := by
    have hlen := congrArg List.length hf
    rw [List.length_map] at hlen
    rcases fs with _ | ⟨a, _ | ⟨b, _ | ⟨c, _ | ⟨e, t⟩⟩⟩⟩
    · simp at hlen
    · simp at hlen
    · simp at hlen
    · exact ⟨a, b, c, rfl⟩
    · simp at hlen
  simp only [List.map_cons, List.map_nil, List.cons.injEq, Prod.mk.injEq, and_true] at hf
  obtain ⟨⟨t1, o1⟩, ⟨t2, o2⟩, t3, o3⟩ := hf
  have n1 := hn f1 (by simp)
  have n2 := hn f2 (by simp)
  have n3 := hn f3 (by simp)
  have hp : ∀ (xs : Array Value) (off : Nat) (v : Value), xs[off]? = some v → (part 3 xs off).run Try.prog w = .ok v w := fun xs off v h => run_part_plain w plain_int h
  have he : ∀ a b : Int, (Op.equalIn (d + 2) 3 (.int .i64 a) (.int .i64 b)).run Try.prog w = .ok (a == b) w := fun a b => run_equalIn_int w (d + 1) _ .i64 .i64 a b Try.underlying3
  have ht := eq_tri w d
  generalize d + 2 = D at *
  have ha : ∀ (a b c e g : Value), (part 88 #[a, b, c, e, g] 2).run Try.prog w = .ok (.agg #[c, e, g]) w := by
    intro a b c e g
    unfold part
    simp
  have g0 : ∀ a b c e g : Value, (part 3 #[a, b, c, e, g] 0).run Try.prog w = .ok a w := fun a b c e g => hp _ _ a rfl
  have g1 : ∀ a b c e g : Value, (part 3 #[a, b, c, e, g] 1).run Try.prog w = .ok b w := fun a b c e g => hp _ _ b rfl
  by_cases h1 : r = r' <;> by_cases h2 : n = n' <;> by_cases h3 : x = x' ∧ y = y' ∧ z = z' <;> simp [Op.eqFields, n1, n2, n3, t1, t2, t3, o1, o2, o3, g0, g1, he, ha, ht, h1, h2, h3]
theorem neq_packed (w : World) (r n x y z r' n' x' y' z' : Int) :
    (binOp .neq 90 (.agg #[.int .i64 r, .int .i64 n, .int .i64 x, .int .i64 y, .int .i64 z]) (.agg #[.int .i64 r', .int .i64 n', .int .i64 x', .int .i64 y', .int .i64 z'])).run Try.prog w = .ok (.bool (!decide (r = r' ∧ n = n' ∧ x = x' ∧ y = y' ∧ z = z'))) w := by
  rw [run_neq_struct, eq_packed w 9997]; rfl
end Go.Proofs.Ytfafememmkfnoaa
