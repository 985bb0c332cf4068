/- Contracts of chapter 5's spec: l5Copy, l5All. -/
import Derived.Test.YtdoeghpiaichhaaS5b
import Derived.Test.YtdoeghpiaichhaaAppInts
import Derived.Test.YtdoeghpiaichhaaOutInv
import Derived.Deep.RegionLaw
namespace Go.Proofs.Ytdoeghpiaichhaa
open Go Go.Sort Go.RowKit
set_option linter.unusedVariables false

theorem info_Fact : (Try.prog.info? 59).map (fun i => (i.zero, i.size, i.bytes)) = some (some (.agg #[.int .i64 0, .slice none 0 0]), 2, 32) := by kernel_rfl
theorem take_at {l : List AtomD} {i : Nat} {e : AtomD} (h : l[i]? = some e) : l.take (i + 1) = l.take i ++ [(e.1, e.2)] := by
  obtain ⟨hi, rfl⟩ := List.getElem?_eq_some_iff.1 h
  rw [List.take_succ_eq_append_getElem hi]

end Go.Proofs.Ytdoeghpiaichhaa
