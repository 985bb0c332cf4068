/- Contracts of chapter 3's spec: l3List, FormatAtom. -/
import Derived.Test.YtfafememmkfnoaaDoorSatom
import Derived.Test.YtfafememmkfnoaaDoorFterm
import Derived.Lib.QuietBelow
namespace Go.Proofs.YtfafememmkfnoaaDoor
open Go Go.Sort Go.RowKit
set_option linter.unusedVariables false

def flist : List Int → List UInt8
  | [] => []
  | x :: l => match l with
    | [] => ftext x
    | _ => ftext x ++ 44 :: flist l
theorem flist_snoc (l : List Int) (x : Int) : flist (l ++ [x]) = if l = [] then ftext x else flist l ++ 44 :: ftext x := by
  induction l with
  | nil => simp [flist]
  | cons y l ih =>
    cases l with
    | nil => simp [flist]
    | cons z l =>
      have e : flist (y :: z :: l ++ [x]) = ftext y ++ 44 :: flist (z :: l ++ [x]) := rfl
      have e2 : flist (y :: z :: l) = ftext y ++ 44 :: flist (z :: l) := rfl
      rw [e, ih, e2]; simp
theorem ftext_len (x : Int) (h : inI x) : (ftext x).length ≤ 22 := by
  unfold inI at h
  unfold ftext
  split
  · have := Lib.itoa_length_le x h.1 h.2
    simp; omega
  · split
    · rename_i h1 h2
      have h3 : -80 ≤ x ∧ x ≤ -1 := of_decide_eq_true h2
      have := Lib.itoa_length_le (-1 - x) (by omega) (by omega)
      omega
    · simp
theorem flist_len (l : List Int) (h : ∀ x ∈ l, inI x) : (flist l).length ≤ 23 * l.length := by
  induction l with
  | nil => simp [flist]
  | cons x l ih =>
    have h1 := ftext_len x (h x (by simp))
    have h2 := ih (fun y hy => h y (by simp [hy]))
    cases l with
    | nil => simp only [flist]; simp; omega
    | cons z l =>
      have e2 : flist (x :: z :: l) = ftext x ++ 44 :: flist (z :: l) := rfl
      rw [e2]
      simp only [List.length_append, List.length_cons] at h2 ⊢
      omega
theorem bs_append (a b : List UInt8) : bs a ++ bs b = bs (a ++ b) := by
  apply ByteArray.ext; simp [bs]
theorem mk_bs (a : List UInt8) : ByteArray.mk a.toArray = bs a := rfl
theorem bs_mk (l : List UInt8) (a : Array UInt8) : bs l ++ ByteArray.mk a = bs (l ++ a.toList) := by
  apply ByteArray.ext; simp [bs]
theorem mk_bs' (a : Array UInt8) (l : List UInt8) : ByteArray.mk a ++ bs l = bs (a.toList ++ l) := by
  apply ByteArray.ext; simp [bs]
theorem flist_step {l : List Int} {i : Nat} (h : i < l.length) : flist (l.take (i + 1)) = if i = 0 then ftext (l.getD i 0) else flist (l.take i) ++ 44 :: ftext (l.getD i 0) := by
  rw [List.take_succ_eq_append_getElem h, flist_snoc]
  have hg : l.getD i 0 = l[i] := by simp [List.getD, List.getElem?_eq_getElem h]
  rw [hg]
  by_cases h0 : i = 0
  · subst h0; simp
  · rw [if_neg h0, if_neg (by intro e; have := congrArg List.length e; rw [List.length_take, List.length_nil] at this; omega)]

def fatom (r : Int) (l : List Int) : List UInt8 := if inB r 0 3 && termsB l then 114 :: (Lib.itoa r ++ 40 :: (flist l ++ [41])) else []

end Go.Proofs.YtfafememmkfnoaaDoor
