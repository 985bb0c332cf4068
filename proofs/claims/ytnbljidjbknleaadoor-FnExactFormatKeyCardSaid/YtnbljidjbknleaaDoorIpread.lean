/- Contract of chapter 3's program: readTerms. -/
import Derived.Test.YtnbljidjbknleaaDoorPamath
import Derived.Test.YtnbljidjbknleaaDoorShape
import Derived.Test.YtnbljidjbknleaaDoorRd
namespace Go.Proofs.YtnbljidjbknleaaDoor
open Go Go.Sort Go.RowKit
set_option linter.unusedVariables false

theorem splitK_le (sep : List UInt8) : ∀ (k : Nat) (s : List UInt8), ∀ x ∈ Lib.splitK sep 0 k s, x.length ≤ s.length := by
  intro k
  induction k with
  | zero => intro s x hx; simp [Lib.splitK] at hx; rw [hx]; exact Nat.le_refl _
  | succ k ih =>
    intro s x hx
    unfold Lib.splitK at hx
    split at hx
    · simp at hx; rw [hx]; exact Nat.le_refl _
    · rcases List.mem_cons.1 hx with rfl | hx
      · rw [List.length_take]; omega
      · have := ih _ _ hx
        rw [List.length_drop] at this; omega
theorem tRes_inI (p : List UInt8) : inI (tRes p) := by
  have := tcand_bd p
  unfold tRes inI
  split <;> omega
theorem P_facts (S sep : List UInt8) (k : Nat) (P : List ByteArray) (h : P.map (·.data.toList) = Lib.splitK sep 0 k S) (hl : S.length ≤ 1048576) :
    (∀ j, j < P.length → (P.getD j ByteArray.empty).size ≤ 1048576) ∧ P.length = (Lib.splitK sep 0 k S).length ∧ ∀ j, j < P.length → (P.getD j ByteArray.empty).data.toList = (Lib.splitK sep 0 k S).getD j [] := by
  have hlen : P.length = (Lib.splitK sep 0 k S).length := by rw [← h]; simp
  have hat : ∀ j, j < P.length → (P.getD j ByteArray.empty).data.toList = (Lib.splitK sep 0 k S).getD j [] := by
    intro j hj
    rw [← h]
    simp [List.getD, List.getElem?_eq_getElem hj]
  refine ⟨fun j hj => ?_, hlen, hat⟩
  have h1 := hat j hj
  have hm : (Lib.splitK sep 0 k S).getD j [] ∈ Lib.splitK sep 0 k S := by
    rw [List.getD_eq_getElem?_getD, List.getElem?_eq_getElem (by omega)]; exact List.getElem_mem _
  have h2 := splitK_le _ _ _ _ hm
  rw [← h1] at h2
  have : (P.getD j ByteArray.empty).size = (P.getD j ByteArray.empty).data.toList.length := by simp
  omega
def tsOf (q : List (List UInt8)) (i : Nat) : List Int := (q.take i).map tRes ++ List.replicate (q.length - i) 0
theorem tsOf_len (q : List (List UInt8)) (i : Nat) (h : i ≤ q.length) : (tsOf q i).length = q.length := by unfold tsOf; simp; omega
theorem tsOf_set (q : List (List UInt8)) (i : Nat) (h : i < q.length) : (tsOf q i).set i (tRes (q.getD i [])) = tsOf q (i + 1) := by
  unfold tsOf
  have hg : q.getD i [] = q[i] := by simp [List.getD, List.getElem?_eq_getElem h]
  rw [List.set_append_right _ _ (by simp; omega), List.length_map, List.length_take, Nat.min_eq_left (by omega), Nat.sub_self, hg, show q.length - i = (q.length - (i + 1)) + 1 from by omega, List.replicate_succ, List.set_cons_zero, List.take_succ_eq_append_getElem h, List.map_append, List.append_assoc]
  rfl
theorem tsOf_all (q : List (List UInt8)) : tsOf q q.length = q.map tRes := by unfold tsOf; simp
theorem tsOf_zero (q : List (List UInt8)) : tsOf q 0 = List.replicate q.length 0 := by unfold tsOf; simp


def rtOk (s : List UInt8) : Bool := (Lib.splitN s [44] 3).all tOk
def rtVal (s : List UInt8) : List Int := if rtOk s then (Lib.splitN s [44] 3).map tRes else []
def GaveRT (s : List UInt8) (w : World) (e : Ending) (w' : World) : Prop := ∃ a n c bs, e = .returned (.tuple #[.slice a n c, .bool (rtOk s)]) ∧ OInts w' (.slice a n c) (rtVal s) bs ∧ Fresh w w' bs ∧ Below w.heap.size w w'
end Go.Proofs.YtnbljidjbknleaaDoor
