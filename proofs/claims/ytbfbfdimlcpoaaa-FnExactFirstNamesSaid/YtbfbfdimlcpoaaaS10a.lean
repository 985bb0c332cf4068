/- Contract of chapter 10's spec: QueryCode. -/
import Derived.Test.YtbfbfdimlcpoaaaM10
namespace Go.Proofs.Ytbfbfdimlcpoaaa
open Go Go.Sort Go.RowKit
set_option linter.unusedVariables false

theorem codeQ_inI {d : QueryD} (h1 : d.1.length ≤ 1048576) (hh : ∀ x ∈ d.1, inI x) (i : Nat) (ha : ∀ e ∈ d.2, inI e.1 ∧ ∀ x ∈ e.2, inI x) : ∀ x ∈ (d.1.length : Int) :: (d.1 ++ codeA (d.2.take i)), inI x := by
  intro x hx
  rcases List.mem_cons.1 hx with rfl | hx
  · unfold inI; omega
  · rcases List.mem_append.1 hx with hx | hx
    · exact hh x hx
    · obtain ⟨e, he, hx⟩ := List.mem_flatMap.1 hx
      have := ha e (List.mem_of_mem_take he)
      rcases List.mem_cons.1 hx with rfl | hx
      · exact this.1
      · exact this.2 x hx
/-- All that an atom slice reads as fits. -/
theorem RdSl.allI {w : World} {v : Value} {l : List AtomD} (h : RdSl 2 CsAtom w v l) (hv : ∃ a n c, v = .slice a n c) : ∀ e ∈ l, inI e.1 ∧ ∀ x ∈ e.2, inI x := by
  obtain ⟨a, n, c, rfl⟩ := hv
  obtain ⟨hl, hn, hm, hcell⟩ := h.at
  intro e he
  obtain ⟨i, hi⟩ := List.mem_iff_getElem?.1 he
  have hil := (List.getElem?_eq_some_iff.1 hi).1
  obtain ⟨b, off, rfl, hbw, hc⟩ := hcell (by omega)
  obtain ⟨_, _, _, _, _, h3, h4⟩ := atomAt (n := n) hc i e hi
  exact ⟨h3, h4.1⟩

set_option maxRecDepth 100000 in
set_option maxHeartbeats 8000000 in
theorem sQCode_any (w : World) (v : Value) (d : QueryD) (h : RdQuery w v d) (hz : sizeQuery d ≤ 1048576) :
    Calls Try.prog 22 #[v] w (GaveInts w (codeQ d)) := by
  obtain ⟨a0, n0, c0, a, n, c, rfl, hi, ha⟩ := h
  obtain ⟨hl, hn, hm, hcell⟩ := ha.at
  have hnl : n ≤ 1048576 := by unfold sizeQuery sizeAtomS at hz; omega
  have hz1 : d.1.length ≤ 1048576 := by unfold sizeQuery at hz; omega
  unfold maxLen at hm
  obtain ⟨_, _, _, e1, hl0, hn1, hm1, _⟩ := hi.cases
  cases e1
  have HC := Lib.hid hcell
  have HL := Lib.hid hl
  have HI := Lib.hid hi
  have HZ := Lib.hid hz
  have HZ1 := Lib.hid hz1
  have HL0 := Lib.hid hl0
  have HAI := Lib.hid (RdSl.allI ha ⟨_, _, _, rfl⟩)
  have HN0 : Hid (n0 ≤ 1048576) := by unfold Hid; omega
  unfold maxLen at hm1
  clear hi ha hcell hl hz hz1 hl0
  go_enter Try.func22, Try.ntmps22
  go_upto_region 1 with fail
  obtain ⟨W, hW⟩ : ∃ W, W = w.alloc (.cells #[.slice a0 n0 c0, .slice a n c] 29) := ⟨_, rfl⟩
  have HBW : Hid (Below w.heap.size w W) := by rw [hW]; exact Lib.hid (below_alloc _ _)
  have q0 : W.cell? ⟨w.heap.size, 0, none⟩ = some (.slice a0 n0 c0) := by rw [hW]; simp
  have q1 : W.cell? ⟨w.heap.size, 1, none⟩ = some (.slice a n c) := by rw [hW]; simp
  rw [← hW]
  clear hW
  have hal := below_alloc W (.cells #[.int .i64 n0] 3)
  have hlit := Built.lit .i64 3 W W [(n0 : Int)] (by unfold maxLen; simp) (Below.refl _ _)
  have HLIT : Hid (Built .i64 3 W (W.alloc (.cells #[.int .i64 n0] 3)) (.slice (some ⟨W.heap.size, 0, none⟩) 1 1) [(n0 : Int)]) := Lib.hid (by simpa using hlit)
  have HHA := Lib.hid (HI.out.below (bnext HBW.out hal))
  have z0 := cellk hal q0
  clear hlit hal
  go_wp2_with (at_builtin; refine wpList_appInts rfl (.tmp 8) (.tmp 10) 22 rfl 3 Try.underlying22 info_i64 _ [(n0 : Int)] rfl HLIT.out _ d.1 rfl HHA.out (by have := HZ1.out; simp; omega) ?_)
  clear z0 q0
  intro vh w2 hown
  have HOWN := Lib.hid hown
  have KQ1 := Lib.hid q1
  clear hown q1 HLIT HHA
  go_wp2_with fail
  go_loopw [3, 4] (fun ov iv wr => ∃ i : Nat, i ≤ n ∧ iv = .int .i64 i ∧ Built .i64 3 W wr ov ((n0 : Int) :: (d.1 ++ codeA (d.2.take i)))) (fun _ iv _ => n - (intOf iv).toNat)
  case atStart => exact ⟨0, by omega, rfl, by simpa [codeA] using HOWN.out⟩
  case round =>
    obtain ⟨wo, hwo⟩ : ∃ x, x = wr := ⟨_, rfl⟩
    subst hwo
    obtain ⟨i, hi, rfl, hown⟩ := hrel
    have HO := Lib.hid hown
    have q1 := cellk hown.below KQ1.out
    have HB := Lib.hid hown.below
    clear hown
    by_cases hlt : i < n
    · obtain ⟨b, off, rfl, hbw, hc⟩ := HC.out (by omega)
      obtain ⟨e, hd⟩ : ∃ e, d.2[i]? = some e := ⟨d.2[i]'(by rw [HL.out]; exact hlt), List.getElem?_eq_getElem (by rw [HL.out]; exact hlt)⟩
      obtain ⟨ea, em, ec, c0', c1', hdi, hints⟩ := atomAt (n := n) hc i e hd
      have k0 := cellk (bnext HBW.out HB.out) c0'
      have C1 := Lib.hid (fun w' (hb : Below w.heap.size w w') => cellk hb c1')
      have HCT := Lib.hid (code_take hd)
      have HLN : Hid (((n0 : Int) :: (d.1 ++ codeA (d.2.take i))).length + 1 + e.2.length ≤ 4194304) := by
        have h1 := codeA_take_le d.2 i
        have h2 := codeA_take_le d.2 (i + 1)
        rw [code_take hd] at h2
        have h3 := HZ.out
        unfold sizeQuery at h3
        unfold Hid
        simp only [List.length_append, List.length_cons] at h2 ⊢
        omega
      have hal := below_alloc wo (.cells #[.int .i64 e.1] 3)
      have HINT := Lib.hid (fun w' (hb : Below w.heap.size w w') => hints.below hb)
      have HIN2 := Lib.hid (hints.1)
      have hi0 : (0 : Int) ≤ i := by omega
      have hi1 : (i : Int) < n := by omega
      have HDI := Lib.hid hdi
      clear hc hbw hd hdi hints c0' c1' hal
      generalize hcl : codeA (d.2.take i) = L at *
      have HE2 : Hid (∀ (x : List Int), x = e.2 → x = e.2) := fun x hx => hx
      generalize hr : e.1 = r at *
      generalize hl2 : e.2 = l2 at *
      clear hr hl2 hcl HE2
      go_wp2_with (at_builtin; refine wpList_app1 rfl (.tmp 19) (.tmp 26) 22 rfl .i64 3 0 8 Try.underlying22 info_i64 (by decide) _ ((n0 : Int) :: (d.1 ++ L)) rfl HO.out _ rfl (by have := HLN.out; omega) ?_)
      intro v3 w3 hown3
      have HO3 : Hid (Built .i64 3 W w3 v3 ((n0 : Int) :: (d.1 ++ (L ++ [r])))) := Lib.hid (by simpa using hown3)
      have q1' := cellk hown3.below KQ1.out
      have k1 := C1.out _ (bnext HBW.out hown3.below)
      have HXI := Lib.hid (HINT.out _ (bnext HBW.out hown3.below))
      clear hown3
      go_wp2_with (at_builtin; refine wpList_appInts rfl (.tmp 28) (.tmp 34) 22 rfl 3 Try.underlying22 info_i64 _ ((n0 : Int) :: (d.1 ++ (L ++ [r]))) rfl HO3.out _ l2 rfl HXI.out (by have := HLN.out; simp only [List.length_append, List.length_cons, List.length_nil] at this ⊢; omega) ?_)
      intro v4 w4 hown4
      have HO4 : Hid (Built .i64 3 W w4 v4 ((n0 : Int) :: (d.1 ++ codeA (d.2.take (i + 1))))) := by rw [HCT.out]; exact Lib.hid (by simpa using hown4)
      clear hown4
      go_wp2_with fail
      exact ⟨⟨i + 1, by omega, by simp, HO4.out⟩, by simp [intOf]; omega⟩
    · obtain rfl : i = n := by omega
      go_wp2_with fail
      go_ret
      have ho := HO.out
      have hT : d.2.take i = d.2 := List.take_of_length_le (by rw [HL.out]; exact Nat.le_refl _)
      have hI := codeQ_inI HZ1.out HI.out.1 d.2.length HAI.out
      rw [HL.out, HL0.out, hT] at hI
      rw [hT] at ho
      have hq : (n0 : Int) :: (d.1 ++ codeA d.2) = codeQ d := by unfold codeQ; rw [HL0.out]
      rw [hq] at ho hI
      obtain ⟨v', bs', e1, ho', hf, hb⟩ := ho.owns hI
      exact ⟨v', bs', e1, ho', hf.wide HBW.out.size (Nat.le_refl _), bnext HBW.out hb⟩
end Go.Proofs.Ytbfbfdimlcpoaaa
