/- The laws' helpers on []Atom: szAtomS, toAtomS, eqAtomS. -/
import Derived.Test.YtnbljidjbknleaaDoorRowO
import Derived.Test.YtnbljidjbknleaaDoorMark
import Derived.Lib.QuietBelow
namespace Go.Proofs.YtnbljidjbknleaaDoor
open Go Go.Sort Go.RowKit
set_option linter.unusedVariables false

abbrev AtomD := Int × List Int
def CsAtom (w : World) (cs : List Value) (d : AtomD) : Prop := ∃ a n c, cs = [.int .i64 d.1, .slice a n c] ∧ inI d.1 ∧ Ints w (.slice a n c) d.2
def COAtom (w : World) (cs : List Value) (d : AtomD) (bs : List Nat) : Prop := ∃ a n c, cs = [.int .i64 d.1, .slice a n c] ∧ inI d.1 ∧ OInts w (.slice a n c) d.2 bs
theorem CsAtom.below {w w' : World} {cs : List Value} {d : AtomD} (h : CsAtom w cs d) (hb : Below w.heap.size w w') : CsAtom w' cs d := by
  obtain ⟨a, n, c, rfl, hi, h⟩ := h; exact ⟨a, n, c, rfl, hi, h.below hb⟩
theorem COAtom.below {w w' : World} {cs : List Value} {d : AtomD} {bs : List Nat} (h : COAtom w cs d bs) (hb : Below w.heap.size w w') : COAtom w' cs d bs := by
  obtain ⟨a, n, c, rfl, hi, h⟩ := h; exact ⟨a, n, c, rfl, hi, h.below hb⟩
theorem COAtom.onlyAt {w w' : World} {cs : List Value} {d : AtomD} {bs bs' : List Nat} (hn : ∀ b ∈ bs, b ∉ bs') (ko : OnlyAt bs' w w') (h : COAtom w cs d bs) : COAtom w' cs d bs := by
  obtain ⟨a, n, c, rfl, hi, h⟩ := h; exact ⟨a, n, c, rfl, hi, h.onlyAt ko hn⟩
theorem COAtom.rd {w : World} {cs : List Value} {d : AtomD} {bs : List Nat} (h : COAtom w cs d bs) : CsAtom w cs d := by
  obtain ⟨a, n, c, rfl, hi, h⟩ := h; exact ⟨a, n, c, rfl, hi, h.1⟩
def RdAtomS (w : World) (v : Value) (d : List AtomD) : Prop := ∃ a n c, v = .slice a n c ∧ RdSl 2 CsAtom w (.slice a n c) d
def ROAtomS (w : World) (v : Value) (d : List AtomD) (bs : List Nat) : Prop := ∃ a n c, v = .slice a n c ∧ ROSl 2 COAtom w (.slice a n c) d bs
theorem RdAtomS.below {w w' : World} {v : Value} {d : List AtomD} (h : RdAtomS w v d) (hb : Below w.heap.size w w') : RdAtomS w' v d := by
  obtain ⟨a, n, c, rfl, h⟩ := h; exact ⟨a, n, c, rfl, RdSl.below h (fun _ _ h => h.below hb) hb⟩
theorem ROAtomS.below {w w' : World} {v : Value} {d : List AtomD} {bs : List Nat} (h : ROAtomS w v d bs) (hb : Below w.heap.size w w') : ROAtomS w' v d bs := by
  obtain ⟨a, n, c, rfl, h⟩ := h; exact ⟨a, n, c, rfl, ROSl.below h hb (fun _ _ _ h => h.below hb)⟩
theorem ROAtomS.onlyAt {w w' : World} {v : Value} {d : List AtomD} {bs bs' : List Nat} (h : ROAtomS w v d bs) (ko : OnlyAt bs' w w') (hn : ∀ b ∈ bs, b ∉ bs') : ROAtomS w' v d bs := by
  obtain ⟨a, n, c, rfl, h⟩ := h; exact ⟨a, n, c, rfl, ROSl.onlyAt h ko hn (fun _ _ _ hn h => h.onlyAt hn ko)⟩
theorem ROAtomS.rd {w : World} {v : Value} {d : List AtomD} {bs : List Nat} (h : ROAtomS w v d bs) : RdAtomS w v d := by
  obtain ⟨a, n, c, rfl, h⟩ := h; exact ⟨a, n, c, rfl, ROSl.rd h (fun _ _ _ h => h.rd)⟩

def sumArgs (l : List AtomD) : Nat := (l.map (fun d => d.2.length)).sum
def sizeAtomS (l : List AtomD) : Nat := l.length + sumArgs l
theorem sumArgs_take {l : List AtomD} {i : Nat} {d : AtomD} (h : l[i]? = some d) : sumArgs (l.take (i + 1)) = sumArgs (l.take i) + d.2.length := by
  obtain ⟨hi, rfl⟩ := List.getElem?_eq_some_iff.1 h
  unfold sumArgs
  rw [List.take_succ_eq_append_getElem hi, List.map_append, List.sum_append]
  simp
theorem sumArgs_le (l : List AtomD) (i : Nat) : sumArgs (l.take i) ≤ sumArgs l := by
  induction l generalizing i with
  | nil => simp [sumArgs]
  | cons a l ih =>
    cases i with
    | zero => simp [sumArgs]
    | succ i => have := ih i; simp only [sumArgs, List.take_succ_cons, List.map_cons, List.sum_cons] at this ⊢; omega

/-- Element i of a read slice of atoms: its cells. -/
theorem atomAt {w : World} {b off n : Nat} {l : List AtomD} (hc : ∀ j d, l[j]? = some d → ∃ cs, cs.length = 2 ∧ (∀ i, i < 2 → w.cell? ⟨b, off + (j * 2 + i), none⟩ = cs[i]?) ∧ CsAtom w cs d) (i : Nat) (d : AtomD) (h : l[i]? = some d) :
    ∃ a m c, w.cell? ⟨b, off + i * 2, none⟩ = some (.int .i64 d.1) ∧ w.cell? ⟨b, off + i * 2 + 1, none⟩ = some (.slice a m c) ∧ inI d.1 ∧ Ints w (.slice a m c) d.2 := by
  obtain ⟨cs, h1, h2, a, m, c, rfl, h3, h4⟩ := hc i d h
  refine ⟨a, m, c, ?_, ?_, h3, h4⟩
  · have := h2 0 (by omega); simpa using this
  · have := h2 1 (by omega); rw [← Nat.add_assoc] at this; simpa using this

theorem getElem_eq_of {l l' : List AtomD} (h : l.length = l'.length) (hj : ∀ (j : Nat) (d d' : AtomD), l[j]? = some d → l'[j]? = some d' → d = d') : l = l' := by
  refine List.ext_getElem h fun j h1 h2 => ?_
  exact hj j _ _ (List.getElem?_eq_getElem h1) (List.getElem?_eq_getElem h2)

/-- The blocks of a part that has been made between w and w'. -/
def Made (w w' : World) (bss : List (List Nat)) : Prop := bss.flatten.Nodup ∧ ∀ b ∈ bss.flatten, w.heap.size < b ∧ b < w'.heap.size
theorem flatten_set {bss : List (List Nat)} {i : Nat} {bs : List Nat} (hi : i < bss.length) (he : bss.getD i [] = []) : ∀ x, x ∈ (bss.set i bs).flatten ↔ x ∈ bss.flatten ∨ x ∈ bs := by
  induction bss generalizing i with
  | nil => simp at hi
  | cons a bss ih =>
    cases i with
    | zero =>
      have : a = [] := by simpa [List.getD] using he
      subst this
      intro x; simp [or_comm]
    | succ i =>
      intro x
      have := ih (i := i) (by simpa using hi) (by simpa [List.getD] using he) x
      simp only [List.set_cons_succ, List.flatten_cons, List.mem_append, this]
      simp only [or_assoc]
theorem nodup_set {bss : List (List Nat)} {i : Nat} {bs : List Nat} (hi : i < bss.length) (he : bss.getD i [] = []) (h : bss.flatten.Nodup) (hb : bs.Nodup) (hd : ∀ x ∈ bs, x ∉ bss.flatten) : (bss.set i bs).flatten.Nodup := by
  induction bss generalizing i with
  | nil => simp at hi
  | cons a bss ih =>
    rw [List.flatten_cons, List.nodup_append] at h
    cases i with
    | zero =>
      simp only [List.set_cons_zero, List.flatten_cons, List.nodup_append]
      refine ⟨hb, h.2.1, fun x hx y hy e => hd x hx ?_⟩
      rw [List.flatten_cons, List.mem_append]; right; rw [e]; exact hy
    | succ i =>
      have hi' : i < bss.length := by simpa using hi
      have he' : bss.getD i [] = [] := by simpa [List.getD] using he
      simp only [List.set_cons_succ, List.flatten_cons, List.nodup_append]
      refine ⟨h.1, ih hi' he' h.2.1 (fun x hx hm => hd x hx (by rw [List.flatten_cons, List.mem_append]; exact .inr hm)), fun x hx y hy e => ?_⟩
      rcases (flatten_set hi' he' y).1 hy with h5 | h5
      · exact h.2.2 x hx y h5 e
      · subst e; exact hd x h5 (by rw [List.flatten_cons, List.mem_append]; exact .inl hx)
theorem Made.set {w w1 w2 : World} {bss : List (List Nat)} {i : Nat} {bs : List Nat} (h : Made w w1 bss) (hi : i < bss.length) (he : bss.getD i [] = []) (hs : w.heap.size < w1.heap.size) (hf : Fresh w1 w2 bs) (h12 : w1.heap.size ≤ w2.heap.size) : Made w w2 (bss.set i bs) := by
  refine ⟨nodup_set hi he h.1 hf.1 (fun x hx hm => ?_), fun b hb => ?_⟩
  · have h5 := (hf.2 x hx).1
    have h6 := (h.2 x hm).2
    omega
  · rcases (flatten_set hi he b).1 hb with h5 | h5
    · have := h.2 b h5; omega
    · have := hf.2 b h5; omega
theorem madeAtoms (n t : Nat) (ht : t < n * 2) : (madeCells #[.int .i64 0, .slice none 0 0] (n * 2)).toList[t]? = some (if t % 2 = 0 then .int .i64 0 else .slice none 0 0) := by
  unfold madeCells
  simp only [Array.toList_map, Array.toList_range, List.getElem?_map, List.getElem?_range ht, Option.map_some]
  congr 1
  have h2 : t % 2 = 0 ∨ t % 2 = 1 := by omega
  rcases h2 with h | h
  · rw [if_pos h]; simp [h]
  · rw [if_neg (by omega)]; simp [h]
theorem take_set {l : List AtomD} {n i : Nat} {z d : AtomD} (hl : l.length = n) (hi : i < n) (hd : l[i]? = some d) : (l.take i ++ List.replicate (n - i) z).set i d = l.take (i + 1) ++ List.replicate (n - (i + 1)) z := by
  obtain ⟨hi2, rfl⟩ := List.getElem?_eq_some_iff.1 hd
  rw [List.set_append_right _ _ (by rw [List.length_take]; omega), List.length_take, Nat.min_eq_left (by omega), Nat.sub_self, show n - i = (n - (i + 1)) + 1 from by omega, List.replicate_succ, List.set_cons_zero, List.take_succ_eq_append_getElem hi2, List.append_assoc]
  rfl
/-- One round of toAtomS: element i of the row is laid. -/
theorem atomLaid {w2 : World} {g : Nat} {l : List AtomD} {bss : List (List Nat)} {i : Nat} {r : Int} {a : Option Addr} {n c : Nat} {li : List Int} {bs : List Nat} (h : RowO 2 COAtom w2 g 0 l bss) (hi : i < l.length)
    (hlo : ∀ x ∈ bss.flatten, g < x) (hr : inI r) (ho : OInts w2 (.slice a n c) li bs) (hb : ∀ x ∈ bs, g < x) :
    RowO 2 COAtom ((w2.setCell ⟨g, i * 2, none⟩ (.int .i64 r)).setCell ⟨g, i * 2 + 1, none⟩ (.slice a n c)) g 0 (l.set i (r, li)) (bss.set i bs) := by
  obtain ⟨cs, k1, k2, xa, xn, xc, rfl, _, _⟩ := h.2.2.2 i l[i] (List.getElem?_eq_getElem hi)
  have q0 : w2.cell? ⟨g, i * 2, none⟩ = some (.int .i64 l[i].1) := by have := k2 0 (by omega); simpa using this
  have q1 : w2.cell? ⟨g, i * 2 + 1, none⟩ = some (.slice xa xn xc) := by have := k2 1 (by omega); simpa using this
  have hne : ∀ {x y : Nat}, x ≠ y → (⟨g, x, none⟩ : Addr) ≠ ⟨g, y, none⟩ := fun h e => h (congrArg Addr.off e)
  refine h.upd (by simp [World.setCell]) i hi (r, li) bs [.int .i64 r, .slice a n c] (fun t _ => by rw [World.frozen?_setCell, World.frozen?_setCell]) (fun t ht => ?_) rfl (fun e he => ?_) ⟨a, n, c, rfl, hr, ?_⟩ (fun j cs d hj hd hc => ?_)
  · rw [Nat.zero_add, World.cell?_setCell_other _ _ _ _ (hne (by omega)), World.cell?_setCell_other _ _ _ _ (hne (by omega))]
  · rw [Nat.zero_add]
    have : e = 0 ∨ e = 1 := by omega
    rcases this with rfl | rfl
    · show World.cell? _ ⟨g, i * 2, none⟩ = _
      rw [World.cell?_setCell_other _ _ _ _ (hne (by omega)), World.cell?_setCell_same _ _ _ q0]; rfl
    · refine World.cell?_setCell_same (u := .slice xa xn xc) _ _ _ ?_
      rw [World.cell?_setCell_other _ _ _ _ (hne (by omega))]; exact q1
  · exact (ho.setCell (B := g + 1) (fun x hx => hb x hx) _ _ _ (by omega)).setCell (B := g + 1) (fun x hx => hb x hx) _ _ _ (by omega)
  · have hnb : ∀ b ∈ bss.getD j [], b ∉ [g] := fun b hb' hm => by
      have h5 := hlo b (getD_mem_flatten hb')
      simp at hm; omega
    exact (hc.onlyAt hnb (OnlyAt.setCell _ _ _ _)).onlyAt hnb (OnlyAt.setCell _ _ _ _)

end Go.Proofs.YtnbljidjbknleaaDoor
