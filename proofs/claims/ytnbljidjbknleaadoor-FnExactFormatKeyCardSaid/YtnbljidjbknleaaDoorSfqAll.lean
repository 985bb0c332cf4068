/- Merged of Sfatom, Sfquery. -/
import Derived.Test.YtnbljidjbknleaaDoorSatom
import Derived.Test.YtnbljidjbknleaaDoorFterm
import Derived.Lib.QuietBelow
import Derived.Test.YtnbljidjbknleaaDoorSquery
/-! Sfatom -/
namespace Go.Proofs.YtnbljidjbknleaaDoor
open Go Go.Sort Go.RowKit
set_option linter.unusedVariables false

def flist : List Int → List UInt8
  | [] => []
  | x :: l => match l with
    | [] => ftext x
    | _ => ftext x ++ 44 :: flist l
theorem flist_snoc (l : List Int) (x : Int) : flist (l ++ [x]) = if l = [] then ftext x else flist l ++ 44 :: ftext x := by
  induction l with
  | nil => simp [flist]
  | cons y l ih =>
    cases l with
    | nil => simp [flist]
    | cons z l =>
      have e : flist (y :: z :: l ++ [x]) = ftext y ++ 44 :: flist (z :: l ++ [x]) := rfl
      have e2 : flist (y :: z :: l) = ftext y ++ 44 :: flist (z :: l) := rfl
      rw [e, ih, e2]; simp
theorem ftext_len (x : Int) (h : inI x) : (ftext x).length ≤ 22 := by
  unfold inI at h
  unfold ftext
  split
  · have := Lib.itoa_length_le x h.1 h.2
    simp; omega
  · split
    · rename_i h1 h2
      have h3 : -80 ≤ x ∧ x ≤ -1 := of_decide_eq_true h2
      have := Lib.itoa_length_le (-1 - x) (by omega) (by omega)
      omega
    · simp
theorem flist_len (l : List Int) (h : ∀ x ∈ l, inI x) : (flist l).length ≤ 23 * l.length := by
  induction l with
  | nil => simp [flist]
  | cons x l ih =>
    have h1 := ftext_len x (h x (by simp))
    have h2 := ih (fun y hy => h y (by simp [hy]))
    cases l with
    | nil => simp only [flist]; simp; omega
    | cons z l =>
      have e2 : flist (x :: z :: l) = ftext x ++ 44 :: flist (z :: l) := rfl
      rw [e2]
      simp only [List.length_append, List.length_cons] at h2 ⊢
      omega
theorem bs_append (a b : List UInt8) : bs a ++ bs b = bs (a ++ b) := by
  apply ByteArray.ext; simp [bs]
theorem mk_bs (a : List UInt8) : ByteArray.mk a.toArray = bs a := rfl
theorem bs_mk (l : List UInt8) (a : Array UInt8) : bs l ++ ByteArray.mk a = bs (l ++ a.toList) := by
  apply ByteArray.ext; simp [bs]
theorem mk_bs' (a : Array UInt8) (l : List UInt8) : ByteArray.mk a ++ bs l = bs (a.toList ++ l) := by
  apply ByteArray.ext; simp [bs]
theorem flist_step {l : List Int} {i : Nat} (h : i < l.length) : flist (l.take (i + 1)) = if i = 0 then ftext (l.getD i 0) else flist (l.take i) ++ 44 :: ftext (l.getD i 0) := by
  rw [List.take_succ_eq_append_getElem h, flist_snoc]
  have hg : l.getD i 0 = l[i] := by simp [List.getD, List.getElem?_eq_getElem h]
  rw [hg]
  by_cases h0 : i = 0
  · subst h0; simp
  · rw [if_neg h0, if_neg (by intro e; have := congrArg List.length e; rw [List.length_take, List.length_nil] at this; omega)]

def fatom (r : Int) (l : List Int) : List UInt8 := if inB r 0 3 && termsB l then 114 :: (Lib.itoa r ++ 40 :: (flist l ++ [41])) else []

end Go.Proofs.YtnbljidjbknleaaDoor

/-! Sfquery -/
namespace Go.Proofs.YtnbljidjbknleaaDoor
open Go Go.Sort Go.RowKit
set_option linter.unusedVariables false

theorem fatom_le {r : Int} {l : List Int} (hr : inI r) (hl : ∀ x ∈ l, inI x) : (fatom r l).length ≤ 100 := by
  unfold fatom
  split
  · rename_i h
    have h3 : l.length ≤ 3 := by
      rw [Bool.and_eq_true] at h
      have h2 := h.2
      unfold termsB at h2
      rw [Bool.and_eq_true] at h2
      exact of_decide_eq_true h2.2
    have hz1 := Lib.itoa_length_le r hr.1 hr.2
    have hz2 := flist_len l hl
    simp only [List.length_cons, List.length_append, List.length_nil]
    omega
  · simp
def fhead (h : List Int) : List UInt8 := if h = [] then [121, 101, 115] else flist h
def atText (l : List AtomD) (k : Nat) : List UInt8 := fatom (l.getD k (0, [])).1 (l.getD k (0, [])).2
/-- A query's text as far as its first `k` atoms. -/
def fqTo (h : List Int) (l : List AtomD) : Nat → List UInt8
  | 0 => fhead h
  | k + 1 => if k = 0 then fhead h ++ ([32, 58, 45, 32] ++ atText l 0) else fqTo h l k ++ ([59, 32] ++ atText l k)
theorem fqTo_0 (h : List Int) (l : List AtomD) : fqTo h l (0 + 1) = fhead h ++ ([32, 58, 45, 32] ++ atText l 0) := rfl
theorem fqTo_s (h : List Int) (l : List AtomD) {k : Nat} (hk : k ≠ 0) : fqTo h l (k + 1) = fqTo h l k ++ ([59, 32] ++ atText l k) := by
  show (if k = 0 then _ else _) = _; rw [if_neg hk]
def fquery (d : QueryD) : List UInt8 := if termsB d.1 && inB d.2.length 1 8 then (if d.2.all (fun x => fatom x.1 x.2 != []) then fqTo d.1 d.2 d.2.length else []) else []
theorem atText_at {l : List AtomD} {k : Nat} {e : AtomD} (h : l[k]? = some e) : atText l k = fatom e.1 e.2 := by
  unfold atText; simp [List.getD, h]
theorem atText_le {l : List AtomD} (hl : ∀ (j : Nat) (e : AtomD), l[j]? = some e → inI e.1 ∧ ∀ x ∈ e.2, inI x) (k : Nat) : (atText l k).length ≤ 100 := by
  cases h : l[k]? with
  | some e => rw [atText_at h]; exact fatom_le (hl k e h).1 (hl k e h).2
  | none =>
    unfold atText
    have hg : l.getD k ((0, []) : AtomD) = (0, []) := by simp [List.getD, h]
    rw [hg]
    exact fatom_le (by unfold inI; omega) (by simp)
theorem fhead_le {h : List Int} (h1 : ∀ x ∈ h, inI x) (h2 : h.length ≤ 3) : (fhead h).length ≤ 100 := by
  unfold fhead
  split
  · simp
  · have := flist_len h h1; omega
theorem fqTo_le {h : List Int} {l : List AtomD} (h0 : (fhead h).length ≤ 100) (hl : ∀ (j : Nat) (e : AtomD), l[j]? = some e → inI e.1 ∧ ∀ x ∈ e.2, inI x) (k : Nat) : (fqTo h l k).length ≤ 100 + 104 * k := by
  induction k with
  | zero => simpa [fqTo] using h0
  | succ k ih =>
    have h5 := atText_le hl k
    by_cases hk : k = 0
    · subst hk
      rw [fqTo_0]; simp only [List.length_append, List.length_cons, List.length_nil]; omega
    · rw [fqTo_s _ _ hk]; simp only [List.length_append, List.length_cons, List.length_nil]; omega
theorem fquery_1 {d : QueryD} (h : termsB d.1 = false) : fquery d = [] := by unfold fquery; rw [h]; rfl
theorem fquery_2 {d : QueryD} (h : termsB d.1 = true) (h2 : inB d.2.length 1 8 = false) : fquery d = [] := by unfold fquery; rw [h, h2]; rfl
theorem fquery_3 {d : QueryD} (h : termsB d.1 = true) (h2 : inB d.2.length 1 8 = true) : fquery d = (if d.2.all (fun x => fatom x.1 x.2 != []) then fqTo d.1 d.2 d.2.length else []) := by unfold fquery; rw [h, h2]; rfl

theorem allA_no' {l : List AtomD} {p : AtomD → Bool} {i : Nat} {x : AtomD} (h : l[i]? = some x) (h2 : p x = false) : l.all p = false := by
  rw [Bool.eq_false_iff]
  intro hc
  rw [List.all_eq_true.1 hc x (List.mem_of_getElem? h)] at h2
  cases h2
theorem allA_yes' {l : List AtomD} {p : AtomD → Bool} (h : ∀ (j : Nat) (x : AtomD), l[j]? = some x → p x = true) : l.all p = true := by
  rw [List.all_eq_true]
  intro x hx
  obtain ⟨j, hj⟩ := List.mem_iff_getElem?.1 hx
  exact h j x hj

end Go.Proofs.YtnbljidjbknleaaDoor
