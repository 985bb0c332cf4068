/- Contracts of chapter 9's impl: newQuery, (body).without. -/
import Derived.Test.YtgnlglfppeepeaaS9c
import Derived.Test.YtgnlglfppeepeaaIrename
import Derived.Deep.RegionLawGrows
namespace Go.Proofs.Ytgnlglfppeepeaa
open Go Go.Sort Go.RowKit
set_option linter.unusedVariables false

theorem newA9 (w : World) (cs : Array Value) (T : TypeId) (i : Nat) (v : Value) (h : cs[i]? = some v) : (w.alloc (.cells cs T)).cell? ⟨w.heap.size, i, none⟩ = some v ∧ (w.alloc (.cells cs T)).frozen? ⟨w.heap.size, i, none⟩ = false := ⟨newBox w cs T i v h, newFrz w cs T i⟩
/-- The cells of a row of atoms. -/
def Cs2 (w : World) (L : List Value) (l : List AtomD) : Prop := ∀ j d, l[j]? = some d → ∃ a m c, L[j * 2]? = some (.int .i64 d.1) ∧ L[j * 2 + 1]? = some (.slice a m c) ∧ inI d.1 ∧ Ints w (.slice a m c) d.2
theorem Cs2.below {w w' : World} {L : List Value} {l : List AtomD} (h : Cs2 w L l) (hb : Below w.heap.size w w') : Cs2 w' L l := fun j d hd => by
  obtain ⟨a, m, c, h1, h2, h3, h4⟩ := h j d hd
  exact ⟨a, m, c, h1, h2, h3, h4.below hb⟩
theorem cells2 {w : World} {b off : Nat} {l : List AtomD} (hc : ∀ j d, l[j]? = some d → ∃ cs, cs.length = 2 ∧ (∀ i, i < 2 → w.cell? ⟨b, off + (j * 2 + i), none⟩ = cs[i]?) ∧ CsAtom w cs d) :
    ∃ L : List Value, L.length = l.length * 2 ∧ (∀ j u, L[j]? = some u → w.cell? ⟨b, off + j, none⟩ = some u) ∧ (∀ u ∈ L, u.oneCell' = true) ∧ Cs2 w L l := by
  have H : ∀ j, j < l.length * 2 → ∃ u, w.cell? ⟨b, off + j, none⟩ = some u ∧ u.oneCell' = true := by
    intro j hj
    obtain ⟨cs, _, h2, a, m, c, rfl, _, _⟩ := hc (j / 2) (l[j / 2]'(by omega)) (List.getElem?_eq_getElem (by omega))
    have h0 := h2 0 (by omega)
    have h1 := h2 1 (by omega)
    rcases Nat.mod_two_eq_zero_or_one j with h | h
    · have e : j / 2 * 2 + 0 = j := by omega
      rw [e] at h0
      exact ⟨_, h0, rfl⟩
    · have e : j / 2 * 2 + 1 = j := by omega
      rw [e] at h1
      exact ⟨_, h1, rfl⟩
  have HL : ∀ j, j < l.length * 2 → ((List.range (l.length * 2)).map (fun j => (w.cell? ⟨b, off + j, none⟩).getD undef))[j]? = w.cell? ⟨b, off + j, none⟩ := by
    intro j hj
    obtain ⟨u, hu, _⟩ := H j hj
    rw [List.getElem?_map, List.getElem?_range hj]
    simp [hu]
  refine ⟨(List.range (l.length * 2)).map (fun j => (w.cell? ⟨b, off + j, none⟩).getD undef), by simp, fun j u hu => ?_, fun u hu => ?_, fun j d hd => ?_⟩
  · have hj : j < l.length * 2 := by
      have := (List.getElem?_eq_some_iff.1 hu).1
      simpa using this
    rw [HL j hj] at hu; exact hu
  · obtain ⟨j, hj, rfl⟩ := List.mem_map.1 hu
    obtain ⟨u, hu, h1⟩ := H j (List.mem_range.1 hj)
    rw [hu]; exact h1
  · have hj := (List.getElem?_eq_some_iff.1 hd).1
    obtain ⟨a, m, c, h0, h1, h3, h4⟩ := atomAt (n := 0) hc j d hd
    exact ⟨a, m, c, by rw [HL _ (by omega)]; exact h0, by rw [HL _ (by omega)]; rw [← Nat.add_assoc]; exact h1, h3, h4⟩
theorem cut_get (l : List AtomD) (i j : Nat) (hi : i < l.length) : (cutA l i)[j]? = if j < i then l[j]? else l[j + 1]? := by
  unfold cutA
  have hlen : (l.take i).length = i := by simp; omega
  split
  · rename_i h
    rw [List.getElem?_append_left (by omega), List.getElem?_take_of_lt h]
  · rename_i h
    rw [List.getElem?_append_right (by omega), hlen, List.getElem?_drop]
    congr 1; omega
theorem Cs2.cut {w : World} {L : List Value} {l : List AtomD} (h : Cs2 w L l) (hL : L.length = l.length * 2) {i : Nat} (hi : i < l.length) : Cs2 w (L.take (i * 2) ++ L.drop ((i + 1) * 2)) (cutA l i) := by
  intro j d hd
  rw [cut_get l i j hi] at hd
  have hlen : (L.take (i * 2)).length = i * 2 := by simp; omega
  split at hd
  · rename_i hj
    obtain ⟨a, m, c, h1, h2, h3⟩ := h j d hd
    refine ⟨a, m, c, ?_, ?_, h3⟩
    · rw [List.getElem?_append_left (by omega), List.getElem?_take_of_lt (by omega)]; exact h1
    · rw [List.getElem?_append_left (by omega), List.getElem?_take_of_lt (by omega)]; exact h2
  · rename_i hj
    obtain ⟨a, m, c, h1, h2, h3⟩ := h (j + 1) d hd
    refine ⟨a, m, c, ?_, ?_, h3⟩
    · rw [List.getElem?_append_right (by omega), hlen, List.getElem?_drop]
      rw [show (i + 1) * 2 + (j * 2 - i * 2) = (j + 1) * 2 by omega]; exact h1
    · rw [List.getElem?_append_right (by omega), hlen, List.getElem?_drop]
      rw [show (i + 1) * 2 + (j * 2 + 1 - i * 2) = (j + 1) * 2 + 1 by omega]; exact h2
theorem rd_row {E : TypeId} {w0 w : World} {v : Value} {n : Nat} {cs : List Value} {l : List AtomD} (h : BuiltC E 2 w0 w v n cs) (hl : l.length = n) (hcs : Cs2 w cs l) : RdAtomS w v l := by
  rcases h.form with ⟨rfl, h0⟩ | ⟨g, cap, rfl, h1, h2⟩
  · exact ⟨_, _, _, rfl, none, 0, 0, rfl, by omega, Nat.le_refl _, by unfold maxLen; omega, fun h => by omega⟩
  · refine ⟨_, _, _, rfl, _, n, cap, rfl, hl, h1, h2, fun _ => ⟨g, 0, rfl, h.lt.2, fun j hj => ?_⟩⟩
    obtain ⟨a, m, c, e1, e2, e3, e4⟩ := hcs j l[j] (List.getElem?_eq_getElem hj)
    refine ⟨[.int .i64 l[j].1, .slice a m c], rfl, fun i hi => ?_, a, m, c, rfl, e3, e4⟩
    rw [Nat.zero_add, h.cell _ (by omega)]
    match i, hi with
    | 0, _ => exact e1
    | 1, _ => exact e2

theorem wrap_id9 {x : Int} (h0 : -9223372036854775808 ≤ x) (h1 : x ≤ 9223372036854775807) : IntKind.i64.wrap x = x := by
  rw [IntKind.wrap_i64]; omega
theorem below_drew9 (w : World) : Below w.heap.size w w.drew := (Below.refl _ _).drew
set_option maxHeartbeats 4000000 in
theorem iWithoutFn_any (w : World) (v : Value) (l : List AtomD) (i : Nat) (h : RdAtomS w v l) (hi : i < l.length) (hz : l.length ≤ 1048576) :
    Calls Try.prog 86 #[v, .int .i64 i] w (GaveD (fun w' v' => RdAtomS w' v' (cutA l i)) w) := by
  obtain ⟨a, n, cap, rfl, h⟩ := h
  obtain ⟨hl, hn, hm, hcell⟩ := h.at
  unfold maxLen at hm
  obtain ⟨b, off, rfl, hbw, hc⟩ := hcell (by omega)
  obtain ⟨L, hL, hLc, hL1, hL2⟩ := cells2 hc
  have HL := Lib.hid hL
  have HLC := Lib.hid hLc
  have HL1 := Lib.hid hL1
  have HL2 := Lib.hid hL2
  have HLN := Lib.hid hl
  have HI := Lib.hid hi
  have hi0 : (0 : Int) ≤ i := by omega
  have hi1 : (i : Int) < n := by omega
  have hi2 : (i : Int) ≤ n := by omega
  have hi3 : (n : Int) ≤ cap := by omega
  have hi4 : (i : Int) ≤ cap := by omega
  clear h hcell hc hL hLc hL1 hL2 hl hi
  have hwr : IntKind.i64.wrap ((i : Int) + 1) = (i : Int) + 1 := by
    have : (i : Int) + 1 ≤ 9223372036854775807 := by omega
    exact wrap_id9 (by omega) (by omega)
  have hj0 : (0 : Int) ≤ (i : Int) + 1 := by omega
  have hj1 : (i : Int) + 1 ≤ n := by omega
  have hj2 : ((i : Int) + 1).toNat = i + 1 := by omega
  obtain ⟨inf, hf1, hf2, hf3, hf4⟩ := info_parts info_Atom
  by_cases hlast : i + 1 = n
  · have hnm : n - (i + 1) = 0 := by omega
    have hpost : Hid (RdAtomS w (.slice (some ⟨b, off, none⟩) i i) (cutA l i)) := by
      have hcut : cutA l i = l.take i := by
        unfold cutA
        rw [List.drop_of_length_le (by have := HLN.out; omega)]; simp
      rw [hcut]
      refine Lib.hid ⟨_, _, _, rfl, _, i, i, rfl, by have := HLN.out; simp; omega, Nat.le_refl _, by unfold maxLen; omega, fun h0 => ⟨b, off, rfl, hbw, fun j hj => ?_⟩⟩
      have hj' : j < i := by simp at hj; omega
      have hg : l[j]? = some (l.take i)[j] := by rw [← List.getElem?_take_of_lt hj', List.getElem?_eq_getElem hj]
      obtain ⟨a, m, c, e1, e2, e3, e4⟩ := HL2.out j _ hg
      refine ⟨[.int .i64 (l.take i)[j].1, .slice a m c], rfl, fun k hk => ?_, a, m, c, rfl, e3, e4⟩
      match k, hk with
      | 0, _ => exact HLC.out _ _ e1
      | 1, _ => exact HLC.out _ _ e2
    by_cases hcn : cap = n
    · go_enter Try.func86, Try.ntmps86
      go_wp2_with fail
      go_region_law (fail)
      all_goals (go_wp2_with fail)
      all_goals go_ret
      all_goals exact ⟨_, rfl, hpost.out.below (below_drew9 _), below_drew9 _⟩
    · go_enter Try.func86, Try.ntmps86
      go_wp2_with fail
      go_region_law (fail)
      all_goals (go_wp2_with fail)
      all_goals go_ret
      all_goals exact ⟨_, rfl, hpost.out.below (below_drew9 _), below_drew9 _⟩
  · have hcap : ¬ cap = i + 1 := by omega
    have hfull : i < i + (n - (i + 1)) := by omega
    have hdrop : (L.drop ((i + 1) * 2)).length = (n - (i + 1)) * 2 := by have := HL.out; have := HLN.out; simp; omega
    have htake : (L.take (i * 2)).length = i * 2 := by have := HL.out; have := HLN.out; simp; omega
    have HOLD : Hid (∀ b' : Addr, some (⟨b, off, none⟩ : Addr) = some b' → ∀ j u, (L.take (i * 2))[j]? = some u → w.drew.cell? (b'.add j) = some u) := fun b' hb' j u hu => by
      cases hb'
      rw [Addr.add_lit]
      have hj : j < i * 2 := by have := (List.getElem?_eq_some_iff.1 hu).1; omega
      rw [List.getElem?_take_of_lt hj] at hu
      simpa using HLC.out _ _ hu
    have HNEW : Hid (∀ j u, (L.drop ((i + 1) * 2))[j]? = some u → w.drew.cell? ((⟨b, off + (i + 1) * 2, none⟩ : Addr).add j) = some u) := fun j u hu => by
      rw [Addr.add_lit, Nat.add_assoc]
      rw [List.getElem?_drop] at hu
      simpa using HLC.out _ _ hu
    have HONE : Hid (∀ u ∈ L.drop ((i + 1) * 2), u.oneCell' = true) := fun u hu => HL1.out u (List.mem_of_mem_drop hu)
    have HDR := Lib.hid hdrop
    have HTA := Lib.hid htake
    have HF1 := Lib.hid hf1
    have HF2 := Lib.hid hf2
    have HF3 := Lib.hid hf3
    have HF4 := Lib.hid hf4
    have hzz : n ≤ 1048576 := by have := HLN.out; omega
    clear hdrop htake hf1 hf2 hf3 hf4
    go_enter Try.func86, Try.ntmps86
    go_wp2_with fail
    go_region_law (refine step_append_grows (by rfl) (.tmp 8) (.tmp 12) 87 (by rfl) 32 inf (.agg #[.int .i64 0, .slice none 0 0]) 2 32 Try.underlying87 HF1.out HF2.out HF3.out HF4.out (by rfl) (by decide) (some ⟨b, off, none⟩) i i (L.take (i * 2)) (by simp [Act.eval, Act.put]) (fun h => by cases h) HTA.out HOLD.out ⟨b, off + (i + 1) * 2, none⟩ (n - (i + 1)) (cap - (i + 1)) (L.drop ((i + 1) * 2)) (by simp [Act.eval, Act.put]) HDR.out HNEW.out HONE.out hfull (by unfold maxLen; omega) (by omega) ?_; intro v' w' hrow hgr; have HROW := Lib.hid hrow; have HGR := Lib.hid (onlyAt_grown [] hgr (by simp)); clear hrow hgr)
    all_goals (go_wp2_with fail)
    all_goals go_ret
    all_goals
      have hbl : Below w.heap.size w w' := OnlyAt.below (below_drew9 w) HGR.out (by simp)
      have hrow : w'.ownsRow w.heap.size 32 2 v' (i + (n - (i + 1))) (L.take (i * 2) ++ L.drop ((i + 1) * 2)) := HROW.out
      have hil : i < l.length := by have := HLN.out; omega
      exact ⟨_, rfl, rd_row ⟨hrow, hbl⟩ (by have := cutA_len hil; have := HLN.out; omega) ((HL2.out.cut HL.out hil).below hbl), hbl⟩
end Go.Proofs.Ytgnlglfppeepeaa
