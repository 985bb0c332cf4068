/- Contract of chapter 5's spec: FormatFact. -/
import Derived.Test.YtnbljidjbknleaaDoorS5all
import Derived.Test.YtnbljidjbknleaaDoorSfqAll
import Derived.Test.YtnbljidjbknleaaDoorJnP
namespace Go.Proofs.YtnbljidjbknleaaDoor
open Go Go.Sort Go.RowKit
set_option linter.unusedVariables false

def vlist (l : List Int) : List UInt8 := jn [44] (l.map Lib.itoa)
def ffact (r : Int) (l : List Int) : List UInt8 := if inB r 0 3 && (inB l.length 1 3 && l.all valB) then 114 :: (Lib.itoa r ++ 40 :: (vlist l ++ [41])) else []
theorem vlist_step {l : List Int} {i : Nat} (h : i < l.length) : vlist (l.take (i + 1)) = if i = 0 then Lib.itoa (l.getD i 0) else vlist (l.take i) ++ 44 :: Lib.itoa (l.getD i 0) := by
  have hg : l.getD i 0 = l[i] := by simp [List.getD, List.getElem?_eq_getElem h]
  unfold vlist
  rw [List.take_succ_eq_append_getElem h, List.map_append, hg]
  by_cases h0 : i = 0
  · subst h0; rw [if_pos rfl]; rfl
  · rw [if_neg h0, List.map_cons, List.map_nil, jn_snoc]
    · rfl
    · intro e
      rw [List.map_eq_nil_iff, List.take_eq_nil_iff] at e
      rcases e with e | e
      · exact h0 e
      · rw [e] at h; simp at h
theorem vlist_le (l : List Int) (hi : ∀ x ∈ l, inI x) : (vlist l).length ≤ l.length * 101 := by
  unfold vlist
  have := jn_le [44] (l.map Lib.itoa) (fun y hy => by
    obtain ⟨x, hx, rfl⟩ := List.mem_map.1 hy
    have := Lib.itoa_length_le x (hi x hx).1 (hi x hx).2
    omega)
  simpa using this
theorem ffact_1 {r : Int} {l : List Int} (h : inB r 0 3 = false) : ffact r l = [] := by unfold ffact; rw [h]; rfl
theorem ffact_2 {r : Int} {l : List Int} (h : inB l.length 1 3 = false) : ffact r l = [] := by unfold ffact; rw [h, Bool.false_and, Bool.and_false]; rfl
theorem ffact_3 {r : Int} {l : List Int} (i : Nat) (hi : i < l.length) (h : valB (l.getD i 0) = false) : ffact r l = [] := by unfold ffact; rw [all_no i hi h, Bool.and_false, Bool.and_false]; rfl
theorem ffact_4 {r : Int} {l : List Int} (h1 : inB r 0 3 = true) (h2 : inB l.length 1 3 = true) (h : ∀ j, j < l.length → valB (l.getD j 0) = true) : ffact r l = 114 :: (Lib.itoa r ++ 40 :: (vlist l ++ [41])) := by
  unfold ffact; rw [h1, h2, all_yes h]; rfl

end Go.Proofs.YtnbljidjbknleaaDoor
