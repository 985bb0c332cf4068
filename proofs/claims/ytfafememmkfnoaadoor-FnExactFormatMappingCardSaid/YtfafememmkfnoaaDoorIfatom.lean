/- Contract of chapter 3's program: FormatAtom, over strings.Join. -/
import Derived.Test.YtfafememmkfnoaaDoorSfatom
import Derived.Test.YtfafememmkfnoaaDoorOwnC
import Derived.Test.YtfafememmkfnoaaDoorShelf
import Derived.Test.YtfafememmkfnoaaDoorPmath
import Derived.Lib.Split
namespace Go.Proofs.YtfafememmkfnoaaDoor
open Go Go.Sort Go.RowKit
set_option linter.unusedVariables false

theorem info_string : (Tryd.prog.info? 9).map (fun i => (i.zero, i.size, i.bytes)) = some (some (.string ByteArray.empty), 1, 16) := by kernel_rfl
theorem fatom_none {r : Int} {l : List Int} (h : r < 0 ∨ 4 ≤ r ∨ 3 < l.length) : fatom r l = [] := by
  unfold fatom
  rcases h with h | h | h
  · rw [show inB r 0 3 = false from decide_eq_false (by omega)]; rfl
  · rw [show inB r 0 3 = false from decide_eq_false (by omega)]; rfl
  · unfold termsB
    rw [decide_eq_false (by omega : ¬ l.length ≤ 3), Bool.and_false, Bool.and_false]; rfl
theorem fatom_term {r : Int} {l : List Int} (i : Nat) (hi : i < l.length) (h : termB (l.getD i 0) = false) : fatom r l = [] := by
  unfold fatom; rw [termsB_no i hi h, Bool.and_false]; rfl
theorem fatom_yes {r : Int} {l : List Int} (h0 : 0 ≤ r) (h4 : r < 4) (h3 : l.length ≤ 3) (h : ∀ j, j < l.length → termB (l.getD j 0) = true) : fatom r l = 114 :: (Lib.itoa r ++ 40 :: (flist l ++ [41])) := by
  unfold fatom
  rw [show inB r 0 3 = true from decide_eq_true (by omega), termsB_all h, decide_eq_true h3]; rfl
theorem ftext_ne {x : Int} (h : termB x = true) : ftext x ≠ [] := by
  unfold termB at h
  cases hv : varB x with
  | true => rw [ftext_var hv]; simp
  | false =>
    rw [hv, Bool.false_or] at h
    rw [ftext_con hv h]
    intro e
    have := (itoa_form _ _ e).2
    simp [dpart, sgn] at this
theorem ftext_nil {x : Int} (h : termB x = false) : ftext x = [] := by
  unfold termB at h
  rw [Bool.or_eq_false_iff] at h
  exact ftext_none h.1 h.2
theorem flist_join (l : List Int) : Lib.join (l.map ftext) [44] = flist l := by
  induction l with
  | nil => rfl
  | cons x l ih =>
    cases l with
    | nil => simp [Lib.join_one, flist]
    | cons y t =>
      have e : flist (x :: y :: t) = ftext x ++ 44 :: flist (y :: t) := rfl
      rw [e, ← ih]
      simp [Lib.join, List.intercalate]

def tcells (l : List Int) (i : Nat) : List Value := (l.take i).map (fun x => Value.string (bs (ftext x))) ++ List.replicate (l.length - i) (Value.string ByteArray.empty)
theorem tcells_zero (l : List Int) : tcells l 0 = (madeCells #[.string ByteArray.empty] (l.length * 1)).toList := by
  unfold tcells
  rw [Nat.mul_one, ← Lib.cellsOf_nil]
  simp [Lib.cellsOf]
theorem tcells_set (l : List Int) (i : Nat) (h : i < l.length) : (tcells l i).set i (.string (bs (ftext (l.getD i 0)))) = tcells l (i + 1) := by
  unfold tcells
  have hz : ((l.take i).map (fun x => Value.string (bs (ftext x)))).length = i := by simp; omega
  have hl : l.length - i = (l.length - (i + 1)) + 1 := by omega
  have hg : l.getD i 0 = l[i] := by simp [List.getD, List.getElem?_eq_getElem h]
  rw [List.set_append_right _ _ (by omega), hz, Nat.sub_self, hl, List.replicate_succ, List.set_cons_zero, List.take_succ_eq_append_getElem h, List.map_append, hg]
  simp
theorem tcells_at (l : List Int) (i : Nat) (h : i < l.length) : (tcells l (i + 1))[i]? = some (.string (bs (ftext (l.getD i 0)))) := by
  unfold tcells
  have hg : l.getD i 0 = l[i] := by simp [List.getD, List.getElem?_eq_getElem h]
  rw [List.getElem?_append_left (by simp; omega), hg]
  simp [h]
theorem tcells_old (l : List Int) (i : Nat) (h : i < l.length) : (tcells l i)[i]? = some (.string ByteArray.empty) := by
  unfold tcells
  rw [List.getElem?_append_right (by simp; omega)]
  simp [List.getElem?_replicate]; omega
theorem tcells_all (l : List Int) : tcells l l.length = (l.map (fun x => bs (ftext x))).map Value.string := by
  unfold tcells; simp

def jtOk (l : List Int) : Bool := l.all termB
def jtText (l : List Int) : List UInt8 := if jtOk l then flist l else []
theorem jt_no {l : List Int} (i : Nat) (hi : i < l.length) (h : termB (l.getD i 0) = false) : jtOk l = false ∧ jtText l = [] := by
  have : jtOk l = false := all_no i hi h
  exact ⟨this, by unfold jtText; rw [this]; rfl⟩
theorem jt_yes {l : List Int} (h : ∀ j, j < l.length → termB (l.getD j 0) = true) : jtOk l = true ∧ jtText l = flist l := by
  have : jtOk l = true := all_yes h
  exact ⟨this, by unfold jtText; rw [this]; rfl⟩
def GaveJT (w : World) (l : List Int) (e : Ending) (w' : World) : Prop := e = .returned (.tuple #[.string (bs (jtText l)), .bool (jtOk l)]) ∧ Below w.heap.size w w'

end Go.Proofs.YtfafememmkfnoaaDoor
