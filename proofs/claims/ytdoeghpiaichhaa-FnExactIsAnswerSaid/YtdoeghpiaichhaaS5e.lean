/- Contracts of chapter 5's spec: AddFact, RemoveFact. -/
import Derived.Test.YtdoeghpiaichhaaS5d
namespace Go.Proofs.Ytdoeghpiaichhaa
open Go Go.Sort Go.RowKit
set_option linter.unusedVariables false

def addOk (s : List Int) (l : List AtomD) (f : AtomD) : Bool := isDbB s l && (isFactB s f.1 f.2 && (!decide (f ∈ l) && decide (l.length < 24)))
def addRes (s : List Int) (l : List AtomD) (f : AtomD) : List AtomD := if addOk s l f then putF l f else l
def remF (l : List AtomD) (f : AtomD) : List AtomD := l.filter (fun x => !decide (x = f))
def remOk (s : List Int) (l : List AtomD) (f : AtomD) : Bool := isDbB s l && decide (f ∈ l)
def remRes (s : List Int) (l : List AtomD) (f : AtomD) : List AtomD := if remOk s l f then remF l f else l
theorem add_no {s : List Int} {l : List AtomD} {f : AtomD} (h : addOk s l f = false) : addRes s l f = l := by unfold addRes; rw [h]; rfl
theorem add_yes {s : List Int} {l : List AtomD} {f : AtomD} (h : addOk s l f = true) : addRes s l f = putF l f := by unfold addRes; rw [h]; rfl
theorem rem_no {s : List Int} {l : List AtomD} {f : AtomD} (h : remOk s l f = false) : remRes s l f = l := by unfold remRes; rw [h]; rfl
theorem rem_yes {s : List Int} {l : List AtomD} {f : AtomD} (h : remOk s l f = true) : remRes s l f = remF l f := by unfold remRes; rw [h]; rfl
theorem mem_size {l : List AtomD} {x : AtomD} (hx : x ∈ l) (h : sizeAtomS l ≤ 1048576) : x.2.length ≤ 1048576 := by
  obtain ⟨i, hi⟩ := List.mem_iff_getElem?.1 hx
  have h5 := sumArgs_take hi
  have h6 := sumArgs_le l (i + 1)
  unfold sizeAtomS at h
  omega
theorem len_size {l : List AtomD} (h : sizeAtomS l ≤ 1048576) : l.length ≤ 1048576 := by unfold sizeAtomS at h; omega
def GaveFs (b : Bool) (l : List AtomD) (w : World) (e : Ending) (w' : World) : Prop := ∃ r0, e = .returned (.tuple #[r0, .bool b]) ∧ RdAtomS w' r0 l ∧ Below w.heap.size w w'
theorem ROAtomS.rdS {w : World} {v : Value} {l : List AtomD} {bs : List Nat} (h : ROAtomS w v l bs) : RdAtomS w v l := by
  obtain ⟨a, n, c, rfl, h⟩ := h
  exact ⟨a, n, c, rfl, ROSl.rd h (fun _ _ _ h => h.rd)⟩

theorem rem_take {l : List AtomD} {f : AtomD} {i : Nat} {e : AtomD} (h : l[i]? = some e) : remF (l.take (i + 1)) f = if e = f then remF (l.take i) f else remF (l.take i) f ++ [(e.1, e.2)] := by
  obtain ⟨hi, rfl⟩ := List.getElem?_eq_some_iff.1 h
  unfold remF
  rw [List.take_succ_eq_append_getElem hi, List.filter_append]
  by_cases he : l[i] = f
  · rw [if_pos he]; simp [he]
  · rw [if_neg he]; simp [he]
end Go.Proofs.Ytdoeghpiaichhaa
