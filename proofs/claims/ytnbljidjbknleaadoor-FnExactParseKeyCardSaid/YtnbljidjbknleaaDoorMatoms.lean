/- The laws' helpers on []Atom: markAtomS, heldAtomS. -/
import Derived.Test.YtnbljidjbknleaaDoorSatoms
namespace Go.Proofs.YtnbljidjbknleaaDoor
open Go.RowKit
set_option linter.unusedVariables false

def mAtomS : List AtomD → Nat
  | [] => 0
  | d :: l => 1 + d.2.length + mAtomS l
def mkAtomS : Int → List AtomD → List AtomD
  | _, [] => []
  | k, d :: l => (k, iota (k + 1) d.2.length) :: mkAtomS (k + 1 + (d.2.length : Int)) l
theorem mkAtomS_length (k : Int) (l : List AtomD) : (mkAtomS k l).length = l.length := by
  induction l generalizing k with
  | nil => rfl
  | cons d l ih => simp [mkAtomS, ih]
theorem mAtomS_snoc (l : List AtomD) (d : AtomD) : mAtomS (l ++ [d]) = mAtomS l + (1 + d.2.length) := by
  induction l with
  | nil => simp [mAtomS]
  | cons x l ih => simp only [List.cons_append, mAtomS, ih]; omega
theorem mkAtomS_snoc (k : Int) (l : List AtomD) (d : AtomD) : mkAtomS k (l ++ [d]) = mkAtomS k l ++ [(k + (mAtomS l : Int), iota (k + (mAtomS l : Int) + 1) d.2.length)] := by
  induction l generalizing k with
  | nil => simp [mkAtomS, mAtomS]
  | cons x l ih =>
    simp only [List.cons_append, mkAtomS, ih, mAtomS]
    have e : k + 1 + (x.2.length : Int) + (mAtomS l : Int) = k + ((1 + x.2.length + mAtomS l : Nat) : Int) := by omega
    rw [e]
theorem mAtomS_take {l : List AtomD} {i : Nat} {d : AtomD} (h : l[i]? = some d) : mAtomS (l.take (i + 1)) = mAtomS (l.take i) + (1 + d.2.length) := by
  obtain ⟨hi, rfl⟩ := List.getElem?_eq_some_iff.1 h
  rw [List.take_succ_eq_append_getElem hi, mAtomS_snoc]
theorem mkAtomS_take {l : List AtomD} {i : Nat} {d : AtomD} (k : Int) (h : l[i]? = some d) : mkAtomS k (l.take (i + 1)) = mkAtomS k (l.take i) ++ [(k + (mAtomS (l.take i) : Int), iota (k + (mAtomS (l.take i) : Int) + 1) d.2.length)] := by
  obtain ⟨hi, rfl⟩ := List.getElem?_eq_some_iff.1 h
  rw [List.take_succ_eq_append_getElem hi, mkAtomS_snoc]
theorem mAtomS_take_le (l : List AtomD) (i : Nat) : mAtomS (l.take i) ≤ mAtomS l := by
  induction l generalizing i with
  | nil => simp [mAtomS]
  | cons a l ih =>
    cases i with
    | zero => simp [mAtomS]
    | succ i => have := ih i; simp only [List.take_succ_cons, mAtomS]; omega
theorem mAtomS_size (l : List AtomD) : mAtomS l = sizeAtomS l := by
  induction l with
  | nil => rfl
  | cons a l ih => simp only [mAtomS, ih, sizeAtomS, sumArgs, List.length_cons, List.map_cons, List.sum_cons]; omega
theorem mAtomS_le {l : List AtomD} (h : sizeAtomS l ≤ 1048576) : mAtomS l ≤ 1048576 := by rw [mAtomS_size]; exact h
theorem len_le_mAtomS (l : List AtomD) : l.length ≤ mAtomS l := by rw [mAtomS_size]; unfold sizeAtomS; omega
theorem mark_set {l : List AtomD} {i : Nat} {d : AtomD} (k : Int) (h : l[i]? = some d) : (mkAtomS k (l.take i) ++ l.drop i).set i (k + (mAtomS (l.take i) : Int), iota (k + (mAtomS (l.take i) : Int) + 1) d.2.length) = mkAtomS k (l.take (i + 1)) ++ l.drop (i + 1) := by
  have hi := (List.getElem?_eq_some_iff.1 h).1
  rw [List.set_append_right _ _ (by rw [mkAtomS_length, List.length_take]; omega), mkAtomS_length, List.length_take, Nat.min_eq_left (by omega), Nat.sub_self, List.drop_eq_getElem_cons hi, List.set_cons_zero, mkAtomS_take k h, List.append_assoc]
  rfl

/-- Element i of the row: the number is stored, the slice behind it is marked. -/
theorem atomMarked {w w1 w2 : World} {b off : Nat} {l : List AtomD} {bss : List (List Nat)} {i : Nat} {k : Int} {a : Option Addr} {n c : Nat} {li : List Int} (h : RowO 2 COAtom w b off l bss) (hi : i < l.length) (hnd : (b :: bss.flatten).Nodup)
    (hs : w1 = w.setCell ⟨b, off + i * 2, none⟩ (.int .i64 k)) (hk : inI k) (ho : OInts w2 (.slice a n c) li (bss.getD i [])) (hat : OnlyAt (bss.getD i []) w1 w2) (hc : w.cell? ⟨b, off + i * 2 + 1, none⟩ = some (.slice a n c)) :
    RowO 2 COAtom w2 b off (l.set i (k, li)) bss := by
  obtain ⟨cs, k1, k2, xa, xn, xc, rfl, _, _⟩ := h.2.2.2 i l[i] (List.getElem?_eq_getElem hi)
  have q0 : w.cell? ⟨b, off + i * 2, none⟩ = some (.int .i64 l[i].1) := by have := k2 0 (by omega); simpa using this
  have hne : ∀ {x y : Nat}, x ≠ y → (⟨b, x, none⟩ : Addr) ≠ ⟨b, y, none⟩ := fun h e => h (congrArg Addr.off e)
  have hbn : b ∉ bss.getD i [] := fun hm => (List.nodup_cons.1 hnd).1 (getD_mem_flatten hm)
  have hblt : b < w1.heap.size := by rw [hs]; simpa [World.setCell] using h.2.1
  have hblk := hat.block b hblt hbn
  have hsz : w.heap.size ≤ w2.heap.size := Nat.le_trans (by rw [hs]; simp [World.setCell]) hat.size
  have e0 : bss.set i (bss.getD i []) = bss := by
    have hi' : i < bss.length := by rw [h.1]; exact hi
    refine List.ext_getElem (by simp) fun j h1 h2 => ?_
    rw [List.getElem_set]
    split
    · rename_i e; subst e; simp [List.getD, List.getElem?_eq_getElem hi']
    · rfl
  have := h.upd (w' := w2) hsz i hi (k, li) (bss.getD i []) [.int .i64 k, .slice a n c]
    (fun t _ => by rw [World.frozen?_of_block (w := w1) hblk, hs, World.frozen?_setCell])
    (fun t ht => by rw [World.cell?_of_block (w := w1) hblk, hs, World.cell?_setCell_other _ _ _ _ (hne (by omega))]) rfl
    (fun e he => by
      rw [World.cell?_of_block (w := w1) hblk, hs]
      have : e = 0 ∨ e = 1 := by omega
      rcases this with rfl | rfl
      · show World.cell? _ ⟨b, off + i * 2, none⟩ = _
        rw [World.cell?_setCell_same _ _ _ q0]; rfl
      · show World.cell? _ ⟨b, off + i * 2 + 1, none⟩ = _
        rw [World.cell?_setCell_other _ _ _ _ (hne (by omega)), hc]; rfl)
    ⟨a, n, c, rfl, hk, ho⟩
    (fun j cs d hj hd hc => by
      have n1 : ∀ x ∈ bss.getD j [], x ∉ [b] := fun x hx hm => (List.nodup_cons.1 hnd).1 (by simp at hm; subst hm; exact getD_mem_flatten hx)
      have n2 : ∀ x ∈ bss.getD j [], x ∉ bss.getD i [] := fun x hx hm => nodup_apart (List.nodup_cons.1 hnd).2 (fun e => hj e.symm) hm hx
      refine COAtom.onlyAt n2 hat ?_
      rw [hs]
      exact hc.onlyAt n1 (OnlyAt.setCell _ _ _ _))
  rwa [e0] at this

theorem mkAtomS_get {l : List AtomD} {i : Nat} {d : AtomD} (k : Int) (h : l[i]? = some d) : (mkAtomS k l)[i]? = some (k + (mAtomS (l.take i) : Int), iota (k + (mAtomS (l.take i) : Int) + 1) d.2.length) := by
  induction l generalizing i k with
  | nil => simp at h
  | cons x l ih =>
    cases i with
    | zero =>
      simp at h; subst h
      simp [mkAtomS, mAtomS]
    | succ i =>
      simp only [List.getElem?_cons_succ] at h
      simp only [mkAtomS, List.getElem?_cons_succ, ih _ h, List.take_succ_cons, mAtomS]
      have e : k + 1 + (x.2.length : Int) + (mAtomS (l.take i) : Int) = k + ((1 + x.2.length + mAtomS (l.take i) : Nat) : Int) := by omega
      rw [e]

end Go.Proofs.YtnbljidjbknleaaDoor
