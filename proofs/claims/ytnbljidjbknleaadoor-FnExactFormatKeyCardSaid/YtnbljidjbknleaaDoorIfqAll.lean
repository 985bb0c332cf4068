/- Merged of Ifatom, Jn, Ifquery. -/
import Derived.Test.YtnbljidjbknleaaDoorSfqAll
import Derived.Test.YtnbljidjbknleaaDoorOwnC
import Derived.Test.YtnbljidjbknleaaDoorShelf
import Derived.Test.YtnbljidjbknleaaDoorJnP
import Derived.Lib.Split
import Derived.Test.YtnbljidjbknleaaDoorIrAll
import Derived.BigQuiet
/-! Ifatom -/
namespace Go.Proofs.YtnbljidjbknleaaDoor
open Go Go.Sort Go.RowKit
set_option linter.unusedVariables false

theorem info_string : (Tryd.prog.info? 9).map (fun i => (i.zero, i.size, i.bytes)) = some (some (.string ByteArray.empty), 1, 16) := by kernel_rfl
theorem fatom_none {r : Int} {l : List Int} (h : r < 0 ∨ 4 ≤ r ∨ 3 < l.length) : fatom r l = [] := by
  unfold fatom
  rcases h with h | h | h
  · rw [show inB r 0 3 = false from decide_eq_false (by omega)]; rfl
  · rw [show inB r 0 3 = false from decide_eq_false (by omega)]; rfl
  · unfold termsB
    rw [decide_eq_false (by omega : ¬ l.length ≤ 3), Bool.and_false, Bool.and_false]; rfl
theorem fatom_term {r : Int} {l : List Int} (i : Nat) (hi : i < l.length) (h : termB (l.getD i 0) = false) : fatom r l = [] := by
  unfold fatom; rw [termsB_no i hi h, Bool.and_false]; rfl
theorem fatom_yes {r : Int} {l : List Int} (h0 : 0 ≤ r) (h4 : r < 4) (h3 : l.length ≤ 3) (h : ∀ j, j < l.length → termB (l.getD j 0) = true) : fatom r l = 114 :: (Lib.itoa r ++ 40 :: (flist l ++ [41])) := by
  unfold fatom
  rw [show inB r 0 3 = true from decide_eq_true (by omega), termsB_all h, decide_eq_true h3]; rfl
theorem ftext_ne {x : Int} (h : termB x = true) : ftext x ≠ [] := by
  unfold termB at h
  cases hv : varB x with
  | true => rw [ftext_var hv]; simp
  | false =>
    rw [hv, Bool.false_or] at h
    rw [ftext_con hv h]
    intro e
    have := (itoa_form _ _ e).2
    simp [dpart, sgn] at this
theorem ftext_nil {x : Int} (h : termB x = false) : ftext x = [] := by
  unfold termB at h
  rw [Bool.or_eq_false_iff] at h
  exact ftext_none h.1 h.2
theorem flist_join (l : List Int) : Lib.join (l.map ftext) [44] = flist l := by
  induction l with
  | nil => rfl
  | cons x l ih =>
    cases l with
    | nil => simp [Lib.join_one, flist]
    | cons y t =>
      have e : flist (x :: y :: t) = ftext x ++ 44 :: flist (y :: t) := rfl
      rw [e, ← ih]
      simp [Lib.join, List.intercalate]

def tcells (l : List Int) (i : Nat) : List Value := (l.take i).map (fun x => Value.string (bs (ftext x))) ++ List.replicate (l.length - i) (Value.string ByteArray.empty)
theorem tcells_zero (l : List Int) : tcells l 0 = (madeCells #[.string ByteArray.empty] (l.length * 1)).toList := by
  unfold tcells
  rw [Nat.mul_one, ← Lib.cellsOf_nil]
  simp [Lib.cellsOf]
theorem tcells_set (l : List Int) (i : Nat) (h : i < l.length) : (tcells l i).set i (.string (bs (ftext (l.getD i 0)))) = tcells l (i + 1) := by
  unfold tcells
  have hz : ((l.take i).map (fun x => Value.string (bs (ftext x)))).length = i := by simp; omega
  have hl : l.length - i = (l.length - (i + 1)) + 1 := by omega
  have hg : l.getD i 0 = l[i] := by simp [List.getD, List.getElem?_eq_getElem h]
  rw [List.set_append_right _ _ (by omega), hz, Nat.sub_self, hl, List.replicate_succ, List.set_cons_zero, List.take_succ_eq_append_getElem h, List.map_append, hg]
  simp
theorem tcells_at (l : List Int) (i : Nat) (h : i < l.length) : (tcells l (i + 1))[i]? = some (.string (bs (ftext (l.getD i 0)))) := by
  unfold tcells
  have hg : l.getD i 0 = l[i] := by simp [List.getD, List.getElem?_eq_getElem h]
  rw [List.getElem?_append_left (by simp; omega), hg]
  simp [h]
theorem tcells_old (l : List Int) (i : Nat) (h : i < l.length) : (tcells l i)[i]? = some (.string ByteArray.empty) := by
  unfold tcells
  rw [List.getElem?_append_right (by simp; omega)]
  simp [List.getElem?_replicate]; omega
theorem tcells_all (l : List Int) : tcells l l.length = (l.map (fun x => bs (ftext x))).map Value.string := by
  unfold tcells; simp

def jtOk (l : List Int) : Bool := l.all termB
def jtText (l : List Int) : List UInt8 := if jtOk l then flist l else []
theorem jt_no {l : List Int} (i : Nat) (hi : i < l.length) (h : termB (l.getD i 0) = false) : jtOk l = false ∧ jtText l = [] := by
  have : jtOk l = false := all_no i hi h
  exact ⟨this, by unfold jtText; rw [this]; rfl⟩
theorem jt_yes {l : List Int} (h : ∀ j, j < l.length → termB (l.getD j 0) = true) : jtOk l = true ∧ jtText l = flist l := by
  have : jtOk l = true := all_yes h
  exact ⟨this, by unfold jtText; rw [this]; rfl⟩
def GaveJT (w : World) (l : List Int) (e : Ending) (w' : World) : Prop := e = .returned (.tuple #[.string (bs (jtText l)), .bool (jtOk l)]) ∧ Below w.heap.size w w'

end Go.Proofs.YtnbljidjbknleaaDoor

/-! Jn -/
namespace Go.Proofs.YtnbljidjbknleaaDoor
open Go.RowKit
set_option linter.unusedVariables false

def fa (x : AtomD) : List UInt8 := fatom x.1 x.2
theorem fqTo_jn (h : List Int) (l : List AtomD) (k : Nat) (hk : k < l.length) : fqTo h l (k + 1) = fhead h ++ ([32, 58, 45, 32] ++ jn [59, 32] ((l.take (k + 1)).map fa)) := by
  have hat : ∀ j (hj : j < l.length), atText l j = fa l[j] := fun j hj => atText_at (List.getElem?_eq_getElem hj)
  induction k with
  | zero =>
    rw [fqTo_0, hat 0 hk]
    cases l with
    | nil => simp at hk
    | cons x t => rfl
  | succ k ih =>
    rw [fqTo_s _ _ (by omega), ih (by omega), hat _ hk, List.take_succ_eq_append_getElem (i := k + 1) hk, List.map_append, List.map_cons, List.map_nil, jn_snoc]
    · simp
    · intro e
      rw [List.map_eq_nil_iff, List.take_eq_nil_iff] at e
      rcases e with e | e
      · omega
      · rw [e] at hk; simp at hk

def fhText (h : List Int) : List UInt8 := if h = [] then [121, 101, 115] else if 3 < h.length then [] else jtText h
theorem fhText_yes {h : List Int} (ht : termsB h = true) : fhText h = fhead h ∧ fhead h ≠ [] := by
  unfold termsB at ht
  rw [Bool.and_eq_true] at ht
  have h3 := of_decide_eq_true ht.2
  unfold fhText fhead
  by_cases h0 : h = []
  · rw [if_pos h0, if_pos h0]; exact ⟨rfl, by simp⟩
  · have hj : jtText h = flist h := by unfold jtText jtOk; rw [if_pos ht.1]
    rw [if_neg h0, if_neg h0, if_neg (by omega), hj]
    refine ⟨rfl, ?_⟩
    rw [← flist_join, jn_join]
    refine jn_ne _ _ (by simpa using h0) (fun x hx => ?_)
    obtain ⟨y, hy, rfl⟩ := List.mem_map.1 hx
    exact ftext_ne (List.all_eq_true.1 ht.1 y hy)
theorem fhText_no {h : List Int} (ht : termsB h = false) : fhText h = [] := by
  have h0 : h ≠ [] := by rintro rfl; cases ht
  unfold fhText
  rw [if_neg h0]
  split
  · rfl
  · unfold termsB at ht
    rw [decide_eq_true (by omega), Bool.and_true] at ht
    unfold jtText jtOk; rw [ht]; rfl
theorem fhText_le {h : List Int} (hi : ∀ x ∈ h, inI x) : (fhText h).length ≤ 100 := by
  cases ht : termsB h with
  | true =>
    rw [(fhText_yes ht).1]
    unfold termsB at ht
    rw [Bool.and_eq_true] at ht
    exact fhead_le hi (of_decide_eq_true ht.2)
  | false => rw [fhText_no ht]; simp
def jaText (l : List AtomD) : List UInt8 := if inB l.length 1 8 && (l.map fa).all (· != []) then jn [59, 32] (l.map fa) else []
theorem ja_len {l : List AtomD} (h : l.length < 1 ∨ 8 < l.length) : jaText l = [] := by
  unfold jaText; rw [show inB (l.length : Int) 1 8 = false from decide_eq_false (by omega)]; rfl
theorem ja_no {l : List AtomD} {i : Nat} {x : AtomD} (h : l[i]? = some x) (h2 : fa x = []) : jaText l = [] := by
  unfold jaText
  have : (l.map fa).all (· != []) = false := by
    rw [Bool.eq_false_iff]
    intro hc
    have := List.all_eq_true.1 hc (fa x) (List.mem_map_of_mem (List.mem_of_getElem? h))
    rw [h2] at this; simp at this
  rw [this, Bool.and_false]; rfl
theorem ja_yes {l : List AtomD} (h1 : 1 ≤ l.length) (h8 : l.length ≤ 8) (h : ∀ x ∈ l, fa x ≠ []) : jaText l = jn [59, 32] (l.map fa) := by
  unfold jaText
  have : (l.map fa).all (· != []) = true := by
    rw [List.all_eq_true]
    intro y hy
    obtain ⟨x, hx, rfl⟩ := List.mem_map.1 hy
    simpa using h x hx
  rw [this, show inB (l.length : Int) 1 8 = true from decide_eq_true (by omega)]; rfl
theorem ja_ne {l : List AtomD} (h1 : 1 ≤ l.length) (h : ∀ x ∈ l, fa x ≠ []) : jn [59, 32] (l.map fa) ≠ [] := by
  refine jn_ne _ _ (fun e => ?_) (fun y hy => ?_)
  · have := congrArg List.length e
    simp at this; rw [this] at h1; simp at h1
  · obtain ⟨x, hx, rfl⟩ := List.mem_map.1 hy
    exact h x hx
/-- The program's way to a query's text. -/
theorem fquery_way (d : QueryD) : fquery d = if fhText d.1 = [] ∨ jaText d.2 = [] then [] else fhText d.1 ++ ([32, 58, 45, 32] ++ jaText d.2) := by
  cases ht : termsB d.1 with
  | false => rw [fquery_1 ht, if_pos (.inl (fhText_no ht))]
  | true =>
    obtain ⟨e1, e2⟩ := fhText_yes ht
    cases hl : inB d.2.length 1 8 with
    | false =>
      have hlen : d.2.length < 1 ∨ 8 < d.2.length := by
        have := of_decide_eq_false hl; omega
      rw [fquery_2 ht hl, if_pos (.inr (ja_len hlen))]
    | true =>
      have hlen := of_decide_eq_true hl
      rw [fquery_3 ht hl]
      have hall : d.2.all (fun x => fatom x.1 x.2 != []) = (d.2.map fa).all (· != []) := by rw [List.all_map]; rfl
      rw [hall]
      cases ha : (d.2.map fa).all (· != []) with
      | false =>
        have : jaText d.2 = [] := by unfold jaText; rw [ha, Bool.and_false]; rfl
        rw [if_neg (by simp), if_pos (Or.inr this)]
      | true =>
        have hne : ∀ x ∈ d.2, fa x ≠ [] := fun x hx => by
          have := List.all_eq_true.1 ha (fa x) (List.mem_map_of_mem hx)
          simpa using this
        have hj := ja_yes (by omega) (by omega) hne
        have hjn := ja_ne (by omega) hne
        rw [if_pos rfl, hj, e1, if_neg (by rintro (h | h) <;> contradiction)]
        obtain ⟨k, hk⟩ : ∃ k, d.2.length = k + 1 := ⟨d.2.length - 1, by omega⟩
        rw [hk, fqTo_jn _ _ _ (by omega), ← hk, List.take_of_length_le (Nat.le_refl _)]
end Go.Proofs.YtnbljidjbknleaaDoor

/-! Ifquery -/
namespace Go.Proofs.YtnbljidjbknleaaDoor
open Go Go.Sort Go.RowKit
set_option linter.unusedVariables false

/-- A made []string while it is filled. -/
def scells (ts : List (List UInt8)) (i : Nat) : List Value := (ts.take i).map (fun x => Value.string (bs x)) ++ List.replicate (ts.length - i) (Value.string ByteArray.empty)
theorem scells_zero (ts : List (List UInt8)) : scells ts 0 = (madeCells #[.string ByteArray.empty] (ts.length * 1)).toList := by
  unfold scells
  rw [Nat.mul_one, ← Lib.cellsOf_nil]
  simp [Lib.cellsOf]
theorem scells_set (ts : List (List UInt8)) (i : Nat) (h : i < ts.length) : (scells ts i).set i (.string (bs (ts.getD i []))) = scells ts (i + 1) := by
  unfold scells
  have hz : ((ts.take i).map (fun x => Value.string (bs x))).length = i := by simp; omega
  have hl : ts.length - i = (ts.length - (i + 1)) + 1 := by omega
  have hg : ts.getD i [] = ts[i] := by simp [List.getD, List.getElem?_eq_getElem h]
  rw [List.set_append_right _ _ (by omega), hz, Nat.sub_self, hl, List.replicate_succ, List.set_cons_zero, List.take_succ_eq_append_getElem h, List.map_append, hg]
  simp
theorem scells_old (ts : List (List UInt8)) (i : Nat) (h : i < ts.length) : (scells ts i)[i]? = some (.string ByteArray.empty) := by
  unfold scells
  rw [List.getElem?_append_right (by simp; omega)]
  simp [List.getElem?_replicate]; omega
theorem scells_all (ts : List (List UInt8)) : scells ts ts.length = (ts.map bs).map Value.string := by
  unfold scells; simp

end Go.Proofs.YtnbljidjbknleaaDoor
