/- Contract of chapter 3's program: EqualAtoms. -/
import Derived.Test.YtfafememmkfnoaaGreatIeq
import Derived.Test.YtfafememmkfnoaaGreatIcmp
namespace Go.Proofs.YtfafememmkfnoaaGreat
open Go Go.Sort Go.RowKit
set_option linter.unusedVariables false

theorem Ints.dropAt {w : World} {b off n cap : Nat} {l : List Int} (h : Ints w (.slice (some ⟨b, off, none⟩) n cap) l) (i : Nat) (hi : i ≤ n) : Ints w (.slice (some ⟨b, off + i, none⟩) (n - i) (cap - i)) (l.drop i) := by
  refine ⟨fun x hx => h.1 x (List.mem_of_mem_drop hx), ?_⟩
  rcases h.2 with ⟨a, c, e, hc, rfl⟩ | ⟨b', off', len, c, e, hl, h1, h2, hlt, hc⟩
  · cases e
    exact .inl ⟨_, _, by rw [Nat.zero_sub], by omega, by simp⟩
  · cases e
    refine .inr ⟨b, off + i, n - i, cap - i, rfl, by simp [hl], by omega, by omega, hlt, fun j hj => ?_⟩
    rw [Nat.add_assoc, hc (i + j) (by omega)]
    simp [List.getD]
theorem getD_drop (l : List Int) (i j : Nat) : (l.drop i).getD j 0 = l.getD (i + j) 0 := by simp [List.getD]

end Go.Proofs.YtfafememmkfnoaaGreat
