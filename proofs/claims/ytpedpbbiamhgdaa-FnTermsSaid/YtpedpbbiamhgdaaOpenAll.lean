/- Merged of Open, Open2. -/
import Derived.Test.YtpedpbbiamhgdaaLawK
import Derived.ChangeSlices
import Derived.Deep.Slices
import Derived.ProofKit
import Derived.Test.YtpedpbbiamhgdaaSquery
/-! Open -/
namespace Go.Proofs.Ytpedpbbiamhgdaa
open Go.RowKit Go.ChangeShapes Go.WideShapes Go.Deep
set_option linter.unusedVariables false

theorem wf_inI {n : Int} (h : (Lit.int .i64 n).wf = true) : inI n := by
  simp [Lit.wf, IntKind.min, IntKind.max, IntKind.signed, IntKind.bits] at h
  unfold inI; omega

section
variable {H : Type} {enc : TypeId × Value → H} {P : Program} {w : World} {spare : Nat → Bool} {held : Bool}
theorem ints_of_trod {t e : TypeId} {fuel : Nat} {cs : List Value} {x : DataW H × List MemPlace} (ht : P.underlying t = some (.slice e)) (he : P.underlying e = some (.int .i64)) (hc : P.cellsOf e = 1)
    (h : DataW.trod enc P w 0 spare held fuel t cs = some x) : ∃ a n c l, cs = [.slice a n c] ∧ Ints w (.slice a n c) l := by
  rcases open_ints ht he hc h with ⟨rfl, _⟩ | ⟨a, len, cap, zs, rfl, _, hl, hm, hz, _, hcell, hwf⟩
  · exact ⟨none, 0, 0, [], rfl, Ints.nil w⟩
  · have hzl : len ≤ zs.length := by rw [hz]; split <;> omega
    refine ⟨some a, len, cap, zs.take len, rfl, fun y hy => wf_inI (hwf y (List.mem_of_mem_take hy)), ?_⟩
    by_cases h0 : len = 0
    · subst h0
      exact .inl ⟨some a, cap, rfl, hm, by simp⟩
    · obtain ⟨b, off, spot⟩ := a
      have hc0 := hcell 0 (by omega)
      have hspot : spot = none := by simpa [Addr.add] using World.cell?_spot hc0
      subst hspot
      have hcj : ∀ j, j < len → w.cell? ⟨b, off + j, none⟩ = some (.int .i64 ((zs.take len).getD j 0)) := by
        intro j hj
        have h1 := hcell j (by omega)
        rw [Addr.add_lit] at h1
        rw [h1]
        simp [List.getD, hj]
      exact .inr ⟨b, off, len, cap, rfl, by simp; omega, hl, hm, World.block_lt_of_cell? w _ (hcj 0 (by omega)), hcj⟩
end

section
variable {H : Type} {enc : TypeId × Value → H} {w : World} {spare : Nat → Bool} {held : Bool}
set_option maxRecDepth 100000 in
theorem cs_Atom {fuel : Nat} {cs : List Value} {x : DataW H × List MemPlace} (h : DataW.trod enc Try.prog w 0 spare held fuel 98 cs = some x) :
    ∃ a n c, ∃ d : Int × List Int, cs = [.int .i64 d.1, .slice a n c] ∧ inI d.1 ∧ Ints w (.slice a n c) d.2 := by
  obtain ⟨xs, n, _, _, hcl, hlen, hg⟩ := DataW.trod_struct Try.underlying98 h
  have hcl' : cs.length = 2 := hcl.trans (by kernel_rfl)
  match cs, hcl', xs, hlen with
  | [c0, c1], _, [y0, y1], _ =>
    have g0 := hg 0 _ rfl
    have g1 := hg 1 _ rfl
    obtain ⟨z, hz, _, hw⟩ := DataW.trod_int Try.underlying3 (show DataW.trod enc Try.prog w 0 spare held n 3 [c0] = some y0 from g0)
    obtain ⟨a, n', c, l, hc, hi⟩ := ints_of_trod Try.underlying27 Try.underlying3 (by kernel_rfl) (show DataW.trod enc Try.prog w 0 spare held n 27 [c1] = some y1 from g1)
    refine ⟨a, n', c, (z, l), ?_, wf_inI hw, hi⟩
    simp at hz hc
    rw [hz, hc]
set_option maxRecDepth 100000 in
theorem open_RdAtom {r : Reach} {b0 : Nat} {v : Value} {dd : DataW H} {p : List MemPlace} (hv : Value.okWide Try.prog w r b0 98 v) (h : DataW.Trod enc Try.prog w 0 spare held 98 v dd p) : ∃ d, RdAtom w v d := by
  obtain ⟨⟨cs⟩, rfl, hsz⟩ := okWide_struct Try.underlying98 hv
  obtain ⟨fuel, hf⟩ := h
  obtain ⟨a, n, c, d, rfl, hr, hi⟩ := cs_Atom hf
  exact ⟨d, a, n, c, rfl, hr, hi⟩
end
end Go.Proofs.Ytpedpbbiamhgdaa

/-! Open2 -/
namespace Go.Proofs.Ytpedpbbiamhgdaa
open Go.RowKit Go.ChangeShapes Go.WideShapes Go.Deep
set_option linter.unusedVariables false

section
variable {H : Type} {enc : TypeId × Value → H} {P : Program} {w : World} {spare : Nat → Bool} {held : Bool}
theorem rdSl_of_trod {α : Type} {k : Nat} {C : World → List Value → α → Prop} {t e : TypeId} {fuel : Nat} {cs : List Value} {x : DataW H × List MemPlace} (ht : P.underlying t = some (.slice e)) (hk : P.cellsOf e = k) (hk0 : 0 < k)
    (hC : ∀ n cs x, DataW.trod enc P w 0 spare held n e cs = some x → ∃ d, C w cs d)
    (h : DataW.trod enc P w 0 spare held fuel t cs = some x) : ∃ a n c l, cs = [.slice a n c] ∧ RdSl k C w (.slice a n c) l := by
  rcases open_slice ht h with ⟨rfl, _⟩ | ⟨a, len, cap, m, n, D, Pl, rfl, _, hl, hm, hmm, _, hx⟩
  · exact ⟨none, 0, 0, [], rfl, none, 0, 0, rfl, rfl, Nat.le_refl _, Nat.zero_le _, fun h => by omega⟩
  · have hlm : len ≤ m := by rw [hmm]; split <;> omega
    have hex : ∀ i : Fin len, ∃ d, ∃ cs', cs'.length = k ∧ (∀ j, j < k → w.cell? ((a.add (i.1 * k)).add j) = cs'[j]?) ∧ C w cs' d := by
      intro i
      obtain ⟨cs', hc, ht'⟩ := hx i.1 (by have := i.2; omega)
      obtain ⟨_, hcl, hat⟩ := World.cells?_some hc
      obtain ⟨d, hd⟩ := hC _ _ _ ht'
      rw [hk] at hcl hat
      exact ⟨d, cs', hcl, hat, hd⟩
    obtain ⟨f, hf⟩ := Classical.axiomOfChoice hex
    refine ⟨some a, len, cap, List.ofFn f, rfl, some a, len, cap, rfl, by simp, hl, hm, fun h0 => ?_⟩
    obtain ⟨b, off, spot⟩ := a
    obtain ⟨cs0, c1, c2, _⟩ := hf ⟨0, h0⟩
    have hc0 := c2 0 hk0
    obtain ⟨u, hu⟩ : ∃ u, cs0[0]? = some u := ⟨cs0[0]'(by omega), List.getElem?_eq_getElem (by omega)⟩
    rw [hu] at hc0
    have hspot : spot = none := by simpa [Addr.add] using World.cell?_spot hc0
    subst hspot
    refine ⟨b, off, rfl, ?_, fun j hj => ?_⟩
    · rw [add_add, Addr.add_lit] at hc0
      exact World.block_lt_of_cell? w _ hc0
    · rw [List.length_ofFn] at hj
      obtain ⟨cs', d1, d2, d3⟩ := hf ⟨j, hj⟩
      refine ⟨cs', d1, fun i hi => ?_, by rw [List.getElem_ofFn]; exact d3⟩
      have := d2 i hi
      rw [← this, add_add, Addr.add_lit]
end

section
variable {H : Type} {enc : TypeId × Value → H} {w : World} {spare : Nat → Bool} {held : Bool}
set_option maxRecDepth 100000 in
theorem cs_Query {fuel : Nat} {cs : List Value} {x : DataW H × List MemPlace} (h : DataW.trod enc Try.prog w 0 spare held fuel 54 cs = some x) :
    ∃ a n c a' n' c', ∃ d : QueryD, cs = [.slice a n c, .slice a' n' c'] ∧ Ints w (.slice a n c) d.1 ∧ RdSl 2 CsAtom w (.slice a' n' c') d.2 := by
  obtain ⟨xs, n, _, _, hcl, hlen, hg⟩ := DataW.trod_struct Try.underlying54 h
  have hcl' : cs.length = 2 := hcl.trans (by kernel_rfl)
  match cs, hcl', xs, hlen with
  | [c0, c1], _, [y0, y1], _ =>
    have g0 := hg 0 _ rfl
    have g1 := hg 1 _ rfl
    obtain ⟨a, n', c, l, hc, hi⟩ := ints_of_trod Try.underlying27 Try.underlying3 (by kernel_rfl) (show DataW.trod enc Try.prog w 0 spare held n 27 [c0] = some y0 from g0)
    obtain ⟨a2, n2, c2, l2, hc2, hi2⟩ := rdSl_of_trod (C := CsAtom) (k := 2) Try.underlying52 (by kernel_rfl) (by decide) (fun _ _ _ hh => by obtain ⟨a, n, c, d, h1, h2, h3⟩ := cs_Atom hh; exact ⟨d, a, n, c, h1, h2, h3⟩) (show DataW.trod enc Try.prog w 0 spare held n 52 [c1] = some y1 from g1)
    refine ⟨a, n', c, a2, n2, c2, (l, l2), ?_, hi, hi2⟩
    simp at hc hc2
    rw [hc, hc2]
set_option maxRecDepth 100000 in
theorem open_RdQuery {r : Reach} {b0 : Nat} {v : Value} {dd : DataW H} {p : List MemPlace} (hv : Value.okWide Try.prog w r b0 54 v) (h : DataW.Trod enc Try.prog w 0 spare held 54 v dd p) : ∃ d, RdQuery w v d := by
  obtain ⟨⟨cs⟩, rfl, hsz⟩ := okWide_struct Try.underlying54 hv
  obtain ⟨fuel, hf⟩ := h
  obtain ⟨a, n, c, a', n', c', d, rfl, h1, h2⟩ := cs_Query hf
  exact ⟨d, a, n, c, a', n', c', rfl, h1, h2⟩
set_option maxRecDepth 100000 in
theorem open_RdIntS {r : Reach} {b0 : Nat} {v : Value} {dd : DataW H} {p : List MemPlace} (hv : Value.okWide Try.prog w r b0 27 v) (h : DataW.Trod enc Try.prog w 0 spare held 27 v dd p) : ∃ d, RdIntS w v d := by
  obtain ⟨a, n, c, rfl⟩ := okWide_slice Try.underlying27 hv
  obtain ⟨fuel, hf⟩ := h
  obtain ⟨a', n', c', l, e, hi⟩ := ints_of_trod Try.underlying27 Try.underlying3 (by kernel_rfl) hf
  simp [Value.cells] at e
  obtain ⟨rfl, rfl, rfl⟩ := e
  exact ⟨l, a, n, c, rfl, hi⟩
end
end Go.Proofs.Ytpedpbbiamhgdaa
