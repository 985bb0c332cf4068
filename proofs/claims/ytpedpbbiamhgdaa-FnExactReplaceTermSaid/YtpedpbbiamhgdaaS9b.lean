/- Contract of chapter 9's spec: WithoutAtom. -/
import Derived.Test.YtpedpbbiamhgdaaS9a
import Derived.Deep.RegionHeld3
namespace Go.Proofs.Ytpedpbbiamhgdaa
open Go Go.Sort Go.RowKit
set_option linter.unusedVariables false
set_option linter.unusedSimpArgs false

theorem cutA_ne {l : List AtomD} {k i : Nat} {e : AtomD} (h : l[k]? = some e) (hk : k ≠ i) : cutA (l.take (k + 1)) i = cutA (l.take k) i ++ [(e.1, e.2)] := by
  obtain ⟨hl, rfl⟩ := List.getElem?_eq_some_iff.1 h
  have hlen : (l.take k).length = k := by simp; omega
  rw [List.take_succ_eq_append_getElem hl]
  unfold cutA
  generalize l.take k = A at *
  generalize l[k] = e
  by_cases h1 : i < k
  · rw [List.take_append_of_le_length (by omega), List.drop_append_of_le_length (by omega), List.append_assoc]
  · have h2 : k < i := by omega
    rw [List.take_of_length_le (l := A ++ [e]) (by simp; omega), List.drop_of_length_le (l := A ++ [e]) (by simp; omega), List.take_of_length_le (l := A) (by omega), List.drop_of_length_le (l := A) (by omega)]
    simp
theorem cutA_eq {l : List AtomD} {i : Nat} (h : i < l.length) : cutA (l.take (i + 1)) i = cutA (l.take i) i := by
  unfold cutA
  rw [List.take_take, List.take_take, List.drop_of_length_le (by simp; omega), List.drop_of_length_le (by simp; omega)]
  congr 2; omega
theorem cutA_len2 (l : List AtomD) (i : Nat) : (cutA l i).length ≤ l.length := (cutA_sub l i).length_le
/-- A call that answers a query that reads as d, and b. -/
def GaveQB (w : World) (d : QueryD) (b : Bool) (e : Ending) (w' : World) : Prop := ∃ a n c a' n' c', e = .returned (.tuple #[.agg #[.slice a n c, .slice a' n' c'], .bool b]) ∧ RdQuery w' (.agg #[.slice a n c, .slice a' n' c']) d ∧ Below w.heap.size w w'

end Go.Proofs.Ytpedpbbiamhgdaa
