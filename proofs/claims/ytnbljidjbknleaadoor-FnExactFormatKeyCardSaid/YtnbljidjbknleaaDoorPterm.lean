/- Contracts of chapter 2: ParseTerm of spec and impl: both answer the term whose text is s. -/
import Derived.Test.YtnbljidjbknleaaDoorFterm
import Derived.Test.YtnbljidjbknleaaDoorPimpl
namespace Go.Proofs.YtnbljidjbknleaaDoor
open Go.RowKit
set_option linter.unusedVariables false

def isX (l : List UInt8) : Bool := l.head? == some 88
/-- The number that the text l would be the term of; -1000 if there is none. -/
def tcand (l : List UInt8) : Int :=
  if isX l then (if sOk (l.drop 1) then sRes (l.drop 1) else -1000) else if sOk l && decide (0 ≤ sRes l) then -1 - sRes l else -1000
def tOk (l : List UInt8) : Bool := !l.isEmpty && decide (ftext (tcand l) = l)
def tRes (l : List UInt8) : Int := if tOk l then tcand l else 0

theorem sRes_bd (l : List UInt8) : -100000000000 < sRes l ∧ sRes l < 100000000000 := by
  unfold sRes sval
  have h1 := pv_bd (l := l.take 11) (k := 11) (Nat.le_trans (kc_le _) (List.length_take_le _ _))
  split
  · split <;> omega
  · omega
theorem ftext_minus (t : Int) (h : t < -80) : ftext t = [] := ftext_none (varB_no (by omega)) (conB_no (by omega))
theorem sOk_nil : sOk [] = false := by
  rw [Bool.eq_false_iff]
  intro h
  simp only [sOk, Bool.and_eq_true, decide_eq_true_eq] at h
  have := (itoa_form _ _ h.2).2
  simp [dpart, sgn] at this
theorem tcand_bd (l : List UInt8) : -100000000002 ≤ tcand l ∧ tcand l ≤ 100000000000 := by
  have h1 := sRes_bd l
  have h2 := sRes_bd (l.drop 1)
  unfold tcand
  split
  · split <;> omega
  · split <;> omega
theorem tcand_x {l : List UInt8} (h : isX l = true) (h2 : sOk (l.drop 1) = true) : tcand l = sRes (l.drop 1) := by
  unfold tcand; rw [if_pos h, if_pos h2]
theorem tcand_x_no {l : List UInt8} (h : isX l = true) (h2 : sOk (l.drop 1) = false) : tcand l = -1000 := by
  unfold tcand; rw [if_pos h, if_neg (fun e => by rw [h2] at e; cases e)]
theorem tcand_n {l : List UInt8} (h : isX l = false) (h2 : sOk l = true) (h3 : 0 ≤ sRes l) : tcand l = -1 - sRes l := by
  unfold tcand; rw [if_neg (by simp [h]), if_pos (by simp [h2, h3])]
theorem tcand_n_no {l : List UInt8} (h : isX l = false) (h2 : sOk l = false ∨ sRes l < 0) : tcand l = -1000 := by
  unfold tcand
  rw [if_neg (by simp [h]), if_neg]
  rcases h2 with h2 | h2
  · simp [h2]
  · simp; intro _; omega
theorem t_none {l : List UInt8} (h : l ≠ []) (h2 : tcand l = -1000) : tOk l = false ∧ tRes l = 0 := by
  have h3 : tOk l = false := by
    unfold tOk
    rw [h2, ftext_minus _ (by omega)]
    cases l with
    | nil => exact absurd rfl h
    | cons => rfl
  exact ⟨h3, by unfold tRes; rw [h3]; rfl⟩
theorem t_yes {l : List UInt8} (h : l ≠ []) (h2 : ftext (tcand l) = l) : tOk l = true ∧ tRes l = tcand l := by
  have h3 : tOk l = true := by
    unfold tOk
    rw [h2]
    cases l with
    | nil => exact absurd rfl h
    | cons => simp
  exact ⟨h3, by unfold tRes; rw [h3]; rfl⟩
theorem t_no {l : List UInt8} (h2 : ftext (tcand l) ≠ l) : tOk l = false ∧ tRes l = 0 := by
  have h3 : tOk l = false := by
    unfold tOk
    simp [h2]
  exact ⟨h3, by unfold tRes; rw [h3]; rfl⟩
theorem isX_first {s : ByteArray} (h : isX s.data.toList = true) : ∃ hz : 0 < s.size, (s[0]'hz) = 88 := by
  cases hl : s.data.toList with
  | nil => rw [hl] at h; simp [isX] at h
  | cons b r =>
    have hlen : s.data.toList.length = s.size := by simp
    rw [hl] at h hlen
    have hb : b = 88 := by simpa [isX] using h
    refine ⟨by simp at hlen; omega, ?_⟩
    have : s.data.toList[0]? = some b := by rw [hl]; rfl
    rw [List.getElem?_eq_getElem (by rw [hl]; simp)] at this
    rw [← hb]
    exact Option.some.inj this
theorem isX_other {s : ByteArray} (h : isX s.data.toList = false) (hz : 0 < s.size) : ((((s[0]'hz).toNat : Nat) : Int) == 88) = false := by
  have hl : 0 < s.data.toList.length := by simp; omega
  have h0 : s.data.toList.head? = some (s[0]'hz) := by
    rw [List.head?_eq_getElem?, List.getElem?_eq_getElem hl]; rfl
  have hne : (s[0]'hz) ≠ 88 := by
    intro e
    rw [isX, h0, e] at h
    cases h
  have hne2 : (s[0]'hz).toNat ≠ 88 := fun e => hne (UInt8.toNat_inj.1 e)
  simp
  omega
theorem size_ne {s : ByteArray} (hz : 0 < s.size) : s.data.toList ≠ [] := by
  intro h
  have hl : s.data.toList.length = s.size := by simp
  rw [h, List.length_nil] at hl
  omega

theorem t_fin {s : ByteArray} (hz : 0 < s.size) : ∃ q : Bool, (ftext (tcand s.data.toList) == s.toList) = q ∧ tOk s.data.toList = q ∧ tRes s.data.toList = (if q then tcand s.data.toList else 0) := by
  by_cases h : ftext (tcand s.data.toList) = s.data.toList
  · exact ⟨true, by rw [cmp_l]; exact decide_eq_true h, (t_yes (size_ne hz) h).1, (t_yes (size_ne hz) h).2⟩
  · exact ⟨false, by rw [cmp_l]; exact decide_eq_false h, (t_no h).1, (t_no h).2⟩
theorem ext1 (s : ByteArray) : (s.extract 1 s.size).data.toList = s.data.toList.drop 1 := by
  rw [Lib.extract_data, List.take_of_length_le (by simp)]
theorem sz_ext1 (s : ByteArray) : (s.extract 1 s.size).size = s.size - 1 := by simp

theorem ftext_neg_x {l : List UInt8} (hx : isX l = false) (t : Int) (hv : varB t = true) : ftext t ≠ l := by
  intro h
  rw [ftext_var hv] at h
  rw [← h] at hx
  cases hx

end Go.Proofs.YtnbljidjbknleaaDoor
