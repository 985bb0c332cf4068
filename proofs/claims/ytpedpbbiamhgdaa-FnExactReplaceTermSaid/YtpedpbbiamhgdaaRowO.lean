/- Own words over any program: a slice of elements of k cells each, in memory that a call has made and may be written ('RowO', 'ROSl'). -/
import Derived.Test.YtpedpbbiamhgdaaOwnC
namespace Go.Proofs.Ytpedpbbiamhgdaa
open Go.RowKit
set_option linter.unusedVariables false

/-- From address (b, off) on lie the elements l, k cells each; what element j leads to lies in the blocks bss j. -/
def RowO {α : Type} (k : Nat) (CO : World → List Value → α → List Nat → Prop) (w : World) (b off : Nat) (l : List α) (bss : List (List Nat)) : Prop :=
  bss.length = l.length ∧ b < w.heap.size ∧ (∀ t, t < l.length * k → w.frozen? ⟨b, off + t, none⟩ = false) ∧
    ∀ j d, l[j]? = some d → ∃ cs, cs.length = k ∧ (∀ i, i < k → w.cell? ⟨b, off + (j * k + i), none⟩ = cs[i]?) ∧ CO w cs d (bss.getD j [])

section
variable {α : Type} {k : Nat} {CO : World → List Value → α → List Nat → Prop}
/-- Nothing that the row reaches has turned. -/
theorem RowO.keep {w w' : World} {b off : Nat} {l : List α} {bss : List (List Nat)} (h : RowO k CO w b off l bss) (hs : w.heap.size ≤ w'.heap.size)
    (hb : w'.heap[b]? = w.heap[b]?) (hC : ∀ j cs d, l[j]? = some d → CO w cs d (bss.getD j []) → CO w' cs d (bss.getD j [])) : RowO k CO w' b off l bss := by
  obtain ⟨h1, h2, h3, h4⟩ := h
  refine ⟨h1, Nat.lt_of_lt_of_le h2 hs, fun t ht => by rw [World.frozen?_of_block (w := w) hb]; exact h3 t ht, fun j d hd => ?_⟩
  obtain ⟨cs, c1, c2, c3⟩ := h4 j d hd
  exact ⟨cs, c1, fun i hi => by rw [World.cell?_of_block (w := w) hb]; exact c2 i hi, hC j cs d hd c3⟩
/-- Element i is another one now. -/
theorem RowO.upd {w w' : World} {b off : Nat} {l : List α} {bss : List (List Nat)} (h : RowO k CO w b off l bss) (hs : w.heap.size ≤ w'.heap.size) (i : Nat) (hi : i < l.length) (d' : α) (bs' : List Nat) (cs' : List Value)
    (hf : ∀ t, t < l.length * k → w'.frozen? ⟨b, off + t, none⟩ = w.frozen? ⟨b, off + t, none⟩)
    (ho : ∀ t, (t < i * k ∨ i * k + k ≤ t) → w'.cell? ⟨b, off + t, none⟩ = w.cell? ⟨b, off + t, none⟩)
    (hl : cs'.length = k) (hn : ∀ e, e < k → w'.cell? ⟨b, off + (i * k + e), none⟩ = cs'[e]?) (hC' : CO w' cs' d' bs')
    (hC : ∀ j cs d, j ≠ i → l[j]? = some d → CO w cs d (bss.getD j []) → CO w' cs d (bss.getD j [])) : RowO k CO w' b off (l.set i d') (bss.set i bs') := by
  obtain ⟨h1, h2, h3, h4⟩ := h
  refine ⟨by simp [h1], Nat.lt_of_lt_of_le h2 hs, fun t ht => ?_, fun j d hd => ?_⟩
  · rw [List.length_set] at ht
    rw [hf t ht]; exact h3 t ht
  · by_cases hji : j = i
    · subst hji
      have hd' : d = d' := by
        rw [List.getElem?_set_self hi] at hd
        exact (Option.some.inj hd).symm
      subst hd'
      refine ⟨cs', hl, hn, ?_⟩
      rw [List.getD_eq_getElem?_getD, List.getElem?_set_self (by omega)]
      exact hC'
    · rw [List.getElem?_set_ne (fun e => hji e.symm)] at hd
      obtain ⟨cs, c1, c2, c3⟩ := h4 j d hd
      refine ⟨cs, c1, fun e he => ?_, ?_⟩
      · rw [ho _ ?_]; · exact c2 e he
        rcases Nat.lt_or_gt_of_ne hji with h5 | h5
        · left
          have : (j + 1) * k ≤ i * k := Nat.mul_le_mul_right k h5
          rw [Nat.add_mul] at this; omega
        · right
          have : (i + 1) * k ≤ j * k := Nat.mul_le_mul_right k h5
          rw [Nat.add_mul] at this; omega
      · have e5 : (bss.set i bs').getD j [] = bss.getD j [] := by
          rw [List.getD_eq_getElem?_getD, List.getD_eq_getElem?_getD, List.getElem?_set_ne (fun e => hji e.symm)]
        rw [e5]
        exact hC j cs d hji hd c3
theorem getD_mem_flatten {bss : List (List Nat)} {j x : Nat} (h : x ∈ bss.getD j []) : x ∈ bss.flatten := by
  rw [List.getD_eq_getElem?_getD] at h
  rcases Nat.lt_or_ge j bss.length with hj | hj
  · rw [List.getElem?_eq_getElem hj] at h
    exact List.mem_flatten.2 ⟨bss[j], List.getElem_mem hj, h⟩
  · rw [List.getElem?_eq_none hj] at h; simp at h
theorem nodup_apart {bss : List (List Nat)} (h : bss.flatten.Nodup) {i j x : Nat} (hij : i ≠ j) (h1 : x ∈ bss.getD i []) : x ∉ bss.getD j [] := by
  intro h2
  induction bss generalizing i j with
  | nil => simp [List.getD] at h1
  | cons a bss ih =>
    rw [List.flatten_cons, List.nodup_append] at h
    cases i with
    | zero =>
      cases j with
      | zero => exact hij rfl
      | succ j => exact h.2.2 x (by simpa [List.getD] using h1) x (getD_mem_flatten (j := j) (by simpa [List.getD] using h2)) rfl
    | succ i =>
      cases j with
      | zero => exact h.2.2 x (by simpa [List.getD] using h2) x (getD_mem_flatten (j := i) (by simpa [List.getD] using h1)) rfl
      | succ j => exact ih (i := i) (j := j) h.2.1 (by omega) (by simpa [List.getD] using h1) (by simpa [List.getD] using h2)

/-- A slice of such elements, in blocks bs. -/
def ROSl (k : Nat) (CO : World → List Value → α → List Nat → Prop) (w : World) (v : Value) (l : List α) (bs : List Nat) : Prop :=
  (∃ a c, v = .slice a 0 c ∧ c ≤ maxLen ∧ l = [] ∧ bs = []) ∨
    ∃ b off n cap bss, v = .slice (some ⟨b, off, none⟩) n cap ∧ l.length = n ∧ 0 < n ∧ n ≤ cap ∧ cap ≤ maxLen ∧ bs = b :: bss.flatten ∧ RowO k CO w b off l bss
theorem ROSl.below {w w' : World} {v : Value} {l : List α} {bs : List Nat} (h : ROSl k CO w v l bs) (hb : Below w.heap.size w w') (hC : ∀ cs d bs, CO w cs d bs → CO w' cs d bs) : ROSl k CO w' v l bs := by
  rcases h with h | ⟨b, off, n, cap, bss, rfl, h1, h2, h3, h4, rfl, h5⟩
  · exact .inl h
  · exact .inr ⟨b, off, n, cap, bss, rfl, h1, h2, h3, h4, rfl, h5.keep hb.size (hb.block b h5.2.1) (fun j cs d _ h => hC cs d _ h)⟩
theorem ROSl.onlyAt {w w' : World} {v : Value} {l : List α} {bs bs' : List Nat} (h : ROSl k CO w v l bs) (ko : OnlyAt bs' w w') (hn : ∀ b ∈ bs, b ∉ bs') (hC : ∀ cs d bs, (∀ b ∈ bs, b ∉ bs') → CO w cs d bs → CO w' cs d bs) : ROSl k CO w' v l bs := by
  rcases h with h | ⟨b, off, n, cap, bss, rfl, h1, h2, h3, h4, rfl, h5⟩
  · exact .inl h
  · exact .inr ⟨b, off, n, cap, bss, rfl, h1, h2, h3, h4, rfl, h5.keep ko.size (ko.block b h5.2.1 (hn b (by simp))) (fun j cs d _ h => hC cs d _ (fun x hx => hn x (by simp only [List.mem_cons]; right; exact getD_mem_flatten hx)) h)⟩
theorem ROSl.rd {C : World → List Value → α → Prop} {w : World} {v : Value} {l : List α} {bs : List Nat} (h : ROSl k CO w v l bs) (hC : ∀ cs d bs, CO w cs d bs → C w cs d) : RdSl k C w v l := by
  rcases h with ⟨a, c, rfl, hc, rfl, rfl⟩ | ⟨b, off, n, cap, bss, rfl, h1, h2, h3, h4, rfl, h5⟩
  · exact ⟨a, 0, c, rfl, rfl, Nat.zero_le _, hc, fun h => by omega⟩
  · refine ⟨_, n, cap, rfl, h1, h3, h4, fun _ => ⟨b, off, rfl, h5.2.1, fun j hj => ?_⟩⟩
    obtain ⟨cs, c1, c2, c3⟩ := h5.2.2.2 j l[j] (List.getElem?_eq_getElem hj)
    exact ⟨cs, c1, c2, hC _ _ _ c3⟩
end

theorem RdSl.form {α : Type} {k : Nat} {C : World → List Value → α → Prop} {w : World} {v : Value} {l : List α} (h : RdSl k C w v l) : ∃ a cap, v = .slice a l.length cap := by
  obtain ⟨a, n, cap, rfl, rfl, _⟩ := h; exact ⟨a, cap, rfl⟩
theorem RdSl.len_le {α : Type} {k : Nat} {C : World → List Value → α → Prop} {w : World} {v : Value} {l : List α} (h : RdSl k C w v l) : l.length ≤ maxLen := by
  obtain ⟨a, n, cap, rfl, rfl, h1, h2, _⟩ := h; omega
theorem RdSl.at {α : Type} {k : Nat} {C : World → List Value → α → Prop} {w : World} {a : Option Addr} {n cap : Nat} {l : List α} (h : RdSl k C w (.slice a n cap) l) : l.length = n ∧ n ≤ cap ∧ cap ≤ maxLen ∧ (0 < n → ∃ b off, a = some ⟨b, off, none⟩ ∧ b < w.heap.size ∧ ∀ j d, l[j]? = some d → ∃ cs, cs.length = k ∧ (∀ i, i < k → w.cell? ⟨b, off + (j * k + i), none⟩ = cs[i]?) ∧ C w cs d) := by
  obtain ⟨a', n', cap', e, rfl, h1, h2, h3⟩ := h
  cases e
  refine ⟨rfl, h1, h2, fun h0 => ?_⟩
  obtain ⟨b, off, rfl, hlt, hc⟩ := h3 h0
  refine ⟨b, off, rfl, hlt, fun j d hd => ?_⟩
  obtain ⟨hj, rfl⟩ := List.getElem?_eq_some_iff.1 hd
  exact hc j hj
end Go.Proofs.Ytpedpbbiamhgdaa
