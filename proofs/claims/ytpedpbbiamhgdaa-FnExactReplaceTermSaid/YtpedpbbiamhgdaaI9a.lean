/- Contracts of chapter 9's impl: newQuery, (body).without. -/
import Derived.Test.YtpedpbbiamhgdaaS9c
import Derived.Test.YtpedpbbiamhgdaaIrename
import Derived.Deep.RegionLawGrows
namespace Go.Proofs.Ytpedpbbiamhgdaa
open Go Go.Sort Go.RowKit
set_option linter.unusedVariables false

theorem newA9 (w : World) (cs : Array Value) (T : TypeId) (i : Nat) (v : Value) (h : cs[i]? = some v) : (w.alloc (.cells cs T)).cell? ⟨w.heap.size, i, none⟩ = some v ∧ (w.alloc (.cells cs T)).frozen? ⟨w.heap.size, i, none⟩ = false := ⟨newBox w cs T i v h, newFrz w cs T i⟩
/-- The cells of a row of atoms. -/
def Cs2 (w : World) (L : List Value) (l : List AtomD) : Prop := ∀ j d, l[j]? = some d → ∃ a m c, L[j * 2]? = some (.int .i64 d.1) ∧ L[j * 2 + 1]? = some (.slice a m c) ∧ inI d.1 ∧ Ints w (.slice a m c) d.2
theorem Cs2.below {w w' : World} {L : List Value} {l : List AtomD} (h : Cs2 w L l) (hb : Below w.heap.size w w') : Cs2 w' L l := fun j d hd => by
  obtain ⟨a, m, c, h1, h2, h3, h4⟩ := h j d hd
  exact ⟨a, m, c, h1, h2, h3, h4.below hb⟩
theorem cells2 {w : World} {b off : Nat} {l : List AtomD} (hc : ∀ j d, l[j]? = some d → ∃ cs, cs.length = 2 ∧ (∀ i, i < 2 → w.cell? ⟨b, off + (j * 2 + i), none⟩ = cs[i]?) ∧ CsAtom w cs d) :
    ∃ L : List Value, L.length = l.length * 2 ∧ (∀ j u, L[j]? = some u → w.cell? ⟨b, off + j, none⟩ = some u) ∧ (∀ u ∈ L, u.oneCell' = true) ∧ Cs2 w L l := by
  have H : ∀ j, j < l.length * 2 → ∃ u, w.cell? ⟨b, off + j, none⟩ = some u ∧ u.oneCell' = true := by
    intro j hj
    obtain ⟨cs, _, h2, a, m, c, rfl, _, _⟩ := hc (j / 2) (l[j / 2]'(by omega)) (List.getElem?_eq_getElem (by omega))
    have h0 := h2 0 (by omega)
    have h1 := h2 1 (by omega)
    rcases Nat.mod_two_eq_zero_or_one j with h | h
    · have e : j / 2 * 2 + 0 = j := by omega
      rw [e] at h0
      exact ⟨_, h0, rfl⟩
    · have e : j / 2 * 2 + 1 = j := by omega
      rw [e] at h1
      exact ⟨_, h1, rfl⟩
  have HL : ∀ j, j < l.length * 2 → ((List.range (l.length * 2)).map (fun j => (w.cell? ⟨b, off + j, none⟩).getD undef))[j]? = w.cell? ⟨b, off + j, none⟩ := by
    intro j hj
    obtain ⟨u, hu, _⟩ := H j hj
    rw [List.getElem?_map, List.getElem?_range hj]
    simp [hu]
  refine ⟨(List.range (l.length * 2)).map (fun j => (w.cell? ⟨b, off + j, none⟩).getD undef), by simp, fun j u hu => ?_, fun u hu => ?_, fun j d hd => ?_⟩
  · have hj : j < l.length * 2 := by
      have := (List.getElem?_eq_some_iff.1 hu).1
      simpa using this
    rw [HL j hj] at hu; exact hu
  · obtain ⟨j, hj, rfl⟩ := List.mem_map.1 hu
    obtain ⟨u, hu, h1⟩ := H j (List.mem_range.1 hj)
    rw [hu]; exact h1
  · have hj := (List.getElem?_eq_some_iff.1 hd).1
    obtain ⟨a, m, c, h0, h1, h3, h4⟩ := atomAt (n := 0) hc j d hd
    exact ⟨a, m, c, by rw [HL _ (by omega)]; exact h0, by rw [HL _ (by omega)]; rw [← Nat.add_assoc]; exact h1, h3, h4⟩
theorem cut_get (l : List AtomD) (i j : Nat) (hi : i < l.length) : (cutA l i)[j]? = if j < i then l[j]? else l[j + 1]? := by
  unfold cutA
  have hlen : (l.take i).length = i := by simp; omega
  split
  · rename_i h
    rw [List.getElem?_append_left (by omega), List.getElem?_take_of_lt h]
  · rename_i h
    rw [List.getElem?_append_right (by omega), hlen, List.getElem?_drop]
    congr 1; omega
theorem Cs2.cut {w : World} {L : List Value} {l : List AtomD} (h : Cs2 w L l) (hL : L.length = l.length * 2) {i : Nat} (hi : i < l.length) : Cs2 w (L.take (i * 2) ++ L.drop ((i + 1) * 2)) (cutA l i) := by
  intro j d hd
  rw [cut_get l i j hi] at hd
  have hlen : (L.take (i * 2)).length = i * 2 := by simp; omega
  split at hd
  · rename_i hj
    obtain ⟨a, m, c, h1, h2, h3⟩ := h j d hd
    refine ⟨a, m, c, ?_, ?_, h3⟩
    · rw [List.getElem?_append_left (by omega), List.getElem?_take_of_lt (by omega)]; exact h1
    · rw [List.getElem?_append_left (by omega), List.getElem?_take_of_lt (by omega)]; exact h2
  · rename_i hj
    obtain ⟨a, m, c, h1, h2, h3⟩ := h (j + 1) d hd
    refine ⟨a, m, c, ?_, ?_, h3⟩
    · rw [List.getElem?_append_right (by omega), hlen, List.getElem?_drop]
      rw [show (i + 1) * 2 + (j * 2 - i * 2) = (j + 1) * 2 by omega]; exact h1
    · rw [List.getElem?_append_right (by omega), hlen, List.getElem?_drop]
      rw [show (i + 1) * 2 + (j * 2 + 1 - i * 2) = (j + 1) * 2 + 1 by omega]; exact h2
theorem rd_row {E : TypeId} {w0 w : World} {v : Value} {n : Nat} {cs : List Value} {l : List AtomD} (h : BuiltC E 2 w0 w v n cs) (hl : l.length = n) (hcs : Cs2 w cs l) : RdAtomS w v l := by
  rcases h.form with ⟨rfl, h0⟩ | ⟨g, cap, rfl, h1, h2⟩
  · exact ⟨_, _, _, rfl, none, 0, 0, rfl, by omega, Nat.le_refl _, by unfold maxLen; omega, fun h => by omega⟩
  · refine ⟨_, _, _, rfl, _, n, cap, rfl, hl, h1, h2, fun _ => ⟨g, 0, rfl, h.lt.2, fun j hj => ?_⟩⟩
    obtain ⟨a, m, c, e1, e2, e3, e4⟩ := hcs j l[j] (List.getElem?_eq_getElem hj)
    refine ⟨[.int .i64 l[j].1, .slice a m c], rfl, fun i hi => ?_, a, m, c, rfl, e3, e4⟩
    rw [Nat.zero_add, h.cell _ (by omega)]
    match i, hi with
    | 0, _ => exact e1
    | 1, _ => exact e2

theorem wrap_id9 {x : Int} (h0 : -9223372036854775808 ≤ x) (h1 : x ≤ 9223372036854775807) : IntKind.i64.wrap x = x := by
  rw [IntKind.wrap_i64]; omega
theorem below_drew9 (w : World) : Below w.heap.size w w.drew := (Below.refl _ _).drew
end Go.Proofs.Ytpedpbbiamhgdaa
