/- Contract of chapter 3's spec: ParseAtom. -/
import Derived.Test.YtnbljidjbknleaaDoorScut
import Derived.Test.YtnbljidjbknleaaDoorSfqAll
import Derived.Test.YtnbljidjbknleaaDoorMark
namespace Go.Proofs.YtnbljidjbknleaaDoor
open Go.RowKit
set_option linter.unusedVariables false

/-- A call that answers a value of which R holds, and a bool. -/
def GaveP (R : World → Value → Prop) (b : Bool) (w : World) (e : Ending) (w' : World) : Prop := ∃ v, e = .returned (.tuple #[v, .bool b]) ∧ R w' v ∧ Below w.heap.size w w'
def pRel (l : List UInt8) : List UInt8 := (l.drop 1).take 1
def pMid (l : List UInt8) : List UInt8 := (l.take (l.length - 1)).drop 3
def paOk (l : List UInt8) : Bool := decide (4 ≤ l.length) && (sOk (pRel l) && decide (fatom (sRes (pRel l)) (pargs (pMid l)) = l))
def paRes (l : List UInt8) : Int × List Int := if paOk l then (sRes (pRel l), pargs (pMid l)) else (0, [])
theorem pa_no {l : List UInt8} (h : paOk l = false) : paRes l = (0, []) := by unfold paRes; rw [h]; rfl
theorem pa_yes {l : List UInt8} (h : paOk l = true) : paRes l = (sRes (pRel l), pargs (pMid l)) := by unfold paRes; rw [h]; rfl
theorem zeroAtomO (w : World) : ROAtom w (.agg #[.int .i64 0, .slice none 0 0]) (0, []) [] := ⟨none, 0, 0, rfl, ⟨by decide, by decide⟩, ⟨Ints.nil w, .inl ⟨none, 0, rfl, rfl⟩⟩⟩
theorem freshNil (w w' : World) : Fresh w w' [] := ⟨by simp, by simp⟩
def GavePO (d : Int × List Int) (b : Bool) (w : World) (e : Ending) (w' : World) : Prop := ∃ v bs, e = .returned (.tuple #[v, .bool b]) ∧ ROAtom w' v d bs ∧ Fresh w w' bs ∧ Below w.heap.size w w'
theorem zeroAtom (w : World) : RdAtom w (.agg #[.int .i64 0, .slice none 0 0]) (0, []) := ⟨none, 0, 0, rfl, ⟨by decide, by decide⟩, Ints.nil w⟩

theorem fatom_len {r : Int} {l : List Int} (h : fatom r l ≠ []) : inB r 0 3 = true ∧ termsB l = true ∧ l.length ≤ 3 := by
  unfold fatom at h
  split at h
  · rename_i hc
    rw [Bool.and_eq_true] at hc
    refine ⟨hc.1, hc.2, ?_⟩
    have h2 := hc.2
    unfold termsB at h2
    rw [Bool.and_eq_true] at h2
    exact of_decide_eq_true h2.2
  · exact absurd rfl h
theorem paRes_len (l : List UInt8) : mAtom (paRes l) ≤ 1048576 := by
  cases h : paOk l with
  | false => rw [pa_no h]; exact Nat.zero_le _
  | true =>
    rw [pa_yes h]
    unfold paOk at h
    simp only [Bool.and_eq_true, decide_eq_true_eq] at h
    have h3 := fatom_len (r := sRes (pRel l)) (l := pargs (pMid l)) (by rw [h.2.2]; intro e; rw [e] at h; simp at h)
    show (pargs (pMid l)).length ≤ 1048576
    omega

end Go.Proofs.YtnbljidjbknleaaDoor
