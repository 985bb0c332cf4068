/- The search of chapter 7's program: its state (a mapping, and which variables are mapped), turn, turnAll. -/
import Derived.Test.YtcabgdaloffcdaaI7map
import Derived.Test.YtcabgdaloffcdaaM7
import Derived.Test.YtcabgdaloffcdaaOwnC
namespace Go.Proofs.Ytcabgdaloffcdaa
open Go Go.Sort Go.RowKit
set_option linter.unusedVariables false

/-- m and mp go on from m0 and mp0: what has been mapped since is listed. -/
def Ext (m0 mp0 m mp : List Int) : Prop := m.length = m0.length ∧ ∃ L, mp = mp0 ++ L ∧ (∀ j : Nat, (j : Int) ∉ L → m.getD j 0 = m0.getD j 0) ∧ ∀ v ∈ L, ∃ k : Nat, v = (k : Int) ∧ k < m0.length ∧ m0.getD k 0 = -1000
theorem Ext.refl (m mp : List Int) : Ext m mp m mp := ⟨rfl, [], by simp, fun j _ => rfl, fun v hv => by cases hv⟩
theorem getD_set7 (m : List Int) (k j : Nat) (u : Int) (hk : k < m.length) : (m.set k u).getD j 0 = if j = k then u else m.getD j 0 := by
  rw [List.getD_eq_getElem?_getD, List.getD_eq_getElem?_getD, List.getElem?_set]
  by_cases h : k = j
  · subst h; simp [hk]
  · rw [if_neg h, if_neg (fun e => h e.symm)]
theorem Ext.set {m0 mp0 m mp : List Int} (h : Ext m0 mp0 m mp) {k : Nat} {u : Int} (hk : k < m.length) (h1 : m.getD k 0 = -1000) : Ext m0 mp0 (m.set k u) (mp ++ [(k : Int)]) := by
  obtain ⟨h2, L, rfl, h3, h4⟩ := h
  refine ⟨by simp [h2], L ++ [(k : Int)], by simp, fun j hj => ?_, fun v hv => ?_⟩
  · have hj1 : (j : Int) ∉ L := fun hm => hj (List.mem_append.2 (.inl hm))
    have hj2 : j ≠ k := fun e => hj (List.mem_append.2 (.inr (by simp [e])))
    rw [getD_set7 _ _ _ _ hk, if_neg hj2]; exact h3 j hj1
  · rcases List.mem_append.1 hv with hv | hv
    · exact h4 v hv
    · refine ⟨k, by simpa using hv, by omega, ?_⟩
      by_cases hm : (k : Int) ∈ L
      · obtain ⟨k', e, _, h6⟩ := h4 _ hm
        have : k = k' := by omega
        subst this; exact h6
      · rw [← h3 k hm]; exact h1
/-- The search's state lies in block X, its mapping in block MB. -/
structure MS (W0 w : World) (X MB : Nat) (av mv : Value) (m mp : List Int) : Prop where
  c0 : w.cell? ⟨X, 0, none⟩ = some av
  c1 : w.cell? ⟨X, 1, none⟩ = some (.slice (some ⟨MB, 0, none⟩) 20 20)
  c2 : w.cell? ⟨X, 2, none⟩ = some mv
  f2 : w.frozen? ⟨X, 2, none⟩ = false
  bm : Built .i64 3 W0 w (.slice (some ⟨MB, 0, none⟩) 20 20) m
  bp : Built .i64 3 W0 w mv mp
  n1 : X ≠ MB
  n2 : X ∉ blk mv
  n3 : MB ∉ blk mv
  lo : W0.heap.size ≤ X
  lt : X < w.heap.size
  len : m.length = 20
  ml : mp.length ≤ 1099511627775
  mi : ∀ x ∈ m, inI x
theorem built_onlyAt {W0 w w' : World} {v : Value} {l : List Int} {bs : List Nat} (h : Built .i64 3 W0 w v l) (ko : OnlyAt bs w w') (hW : ∀ b ∈ bs, W0.heap.size ≤ b) (hn : ∀ b ∈ blk v, b ∉ bs) : Built .i64 3 W0 w' v l := by
  refine ⟨⟨h.1.1, ?_⟩, OnlyAt.below h.2 ko hW⟩
  rcases h.1.2 with h1 | ⟨g, cap, cur, rfl, h1, hg, h2⟩
  · exact .inl h1
  · exact .inr ⟨g, cap, cur, rfl, h1, by rw [ko.block g (Array.getElem?_eq_some_iff.1 hg).1 (hn g (by simp [blk]))]; exact hg, h2⟩
theorem MS.mb {W0 w : World} {X MB : Nat} {av mv : Value} {m mp : List Int} (h : MS W0 w X MB av mv m mp) : W0.heap.size ≤ MB ∧ MB < w.heap.size := BuiltC.lt h.bm
theorem MS.below {W0 w : World} {X MB : Nat} {av mv : Value} {m mp : List Int} (h : MS W0 w X MB av mv m mp) : Below W0.heap.size W0 w := h.bm.below
theorem MS.blks {W0 w : World} {X MB : Nat} {av mv : Value} {m mp : List Int} (h : MS W0 w X MB av mv m mp) : ∀ b ∈ blk mv, W0.heap.size ≤ b ∧ b < w.heap.size := by
  intro b hb
  rcases BuiltC.form h.bp with ⟨rfl, _⟩ | ⟨g, cap, rfl, _⟩
  · simp [blk] at hb
  · simp [blk] at hb; subst hb; exact BuiltC.lt h.bp
/-- The state stands where nothing of its memory is written. -/
theorem MS.grow {W0 w w' : World} {X MB : Nat} {av mv : Value} {m mp : List Int} (h : MS W0 w X MB av mv m mp) (hb : Below w.heap.size w w') : MS W0 w' X MB av mv m mp :=
  ⟨cellk hb h.c0, cellk hb h.c1, cellk hb h.c2, frok hb h.c2 h.f2, h.bm.grow hb, h.bp.grow hb, h.n1, h.n2, h.n3, h.lo, Nat.lt_of_lt_of_le h.lt hb.size, h.len, h.ml, h.mi⟩
end Go.Proofs.Ytcabgdaloffcdaa
