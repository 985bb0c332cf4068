/- Contracts of chapter 5's program: HasFact. -/
import Derived.Test.YtfojllkkbdpfkaaI5fd
namespace Go.Proofs.Ytfojllkkbdpfkaa
open Go Go.Sort Go.RowKit
set_option linter.unusedVariables false

set_option maxHeartbeats 4000000 in
theorem iHasFact_any (w : World) (v vf : Value) (l : List AtomD) (f : AtomD) (h : RdAtomS w v l) (hf : RdAtom w vf f) (hz : sizeAtomS l ≤ 1048576) (hz2 : sizeAtom f ≤ 1048576) :
    Calls Try.prog 44 #[v, vf] w (GaveBool w (decide (f ∈ l))) := by
  have HFR := Lib.hid hf
  obtain ⟨a, n, c, rfl, h⟩ := h
  obtain ⟨fa, fn, fc, rfl, hfi, hf⟩ := hf
  obtain ⟨hl, hn, hm, hcell⟩ := h.at
  unfold maxLen at hm
  have hb0 : ∀ a, Below w.heap.size w (w.alloc a) := fun a => (Below.refl _ _).alloc (Nat.le_refl _) _
  have HB0 := Lib.hid hb0
  have HC := Lib.hid hcell
  have HL := Lib.hid hl
  have hS := Lib.hid (fun w v v' x y a b => iSameF_any w v v' x y a b)
  generalize hfr : f.1 = fr at *
  clear hfr
  clear h hcell hl hb0 hf hfi hz hz2
  go_enter Try.func44, Try.ntmps44
  go_wp2_with fail
  obtain ⟨W, hW⟩ : ∃ W, W = w.alloc (.cells #[.int .i64 fr, .slice fa fn fc] 61) := ⟨_, rfl⟩
  have K0 : Hid (W.cell? ⟨w.heap.size, 0, none⟩ = some (.int .i64 fr)) := by rw [hW]; unfold Hid; simp
  have K1 : Hid (W.cell? ⟨w.heap.size, 1, none⟩ = some (.slice fa fn fc)) := by rw [hW]; unfold Hid; simp
  have HBW : Hid (Below w.heap.size w W) := by rw [hW]; exact HB0.out _
  rw [← hW]
  clear hW
  go_loopw [9] (fun iv wr => ∃ i : Nat, i ≤ n ∧ iv = .int .i64 i ∧ Below W.heap.size W wr ∧ Hid (∀ (j : Nat) (x : AtomD), j < i → l[j]? = some x → x ≠ f)) (fun iv _ => n - (intOf iv).toNat)
  case atStart => exact ⟨0, by omega, rfl, Below.refl _ _, fun j x hj => by omega⟩
  case round =>
    obtain ⟨i, hi, rfl, hb, HE⟩ := hrel
    have HB := Lib.hid hb
    by_cases hlt : i < n
    · obtain ⟨b, off, rfl, hbw, hc⟩ := HC.out (by omega)
      obtain ⟨e, hd⟩ : ∃ e, l[i]? = some e := ⟨l[i]'(by rw [HL.out]; exact hlt), List.getElem?_eq_getElem (by rw [HL.out]; exact hlt)⟩
      obtain ⟨ea, em, ec, c0, c1, hdi, hints⟩ := atomAt (n := n) hc i e hd
      have hww := bnext HBW.out hb
      have k0 := cellk hww c0
      have k1 := cellk hww c1
      have HAL := Lib.hid (below_alloc wr (.cells #[.int .i64 e.1, .slice ea em ec] 61))
      have q0 := cellk (bnext hb HAL.out) K0.out
      have q1 := cellk (bnext hb HAL.out) K1.out
      have HD := Lib.hid hd
      have hi0 : (0 : Int) ≤ i := by omega
      have hi1 : (i : Int) < n := by omega
      have hcall := Lib.hid (hS.out _ _ _ _ _ (HFR.out.below (bnext hww HAL.out)) (RdAtom.below (v := .agg #[.int .i64 e.1, .slice ea em ec]) (d := e) ⟨ea, em, ec, rfl, hdi, hints⟩ (bnext hww HAL.out)))
      clear hc hbw hb hd hdi hints c0 c1 hww
      by_cases heq : f = e
      · have HQ : Hid (decide (f ∈ l) = true) := decide_eq_true (by rw [heq]; exact List.mem_of_getElem? HD.out)
        rw [decide_eq_true heq] at hcall
        clear heq
        generalize e.1 = r at *
        go_wp2_with fail
        refine hcall.out.mono ?_
        rintro e' w1 ⟨rfl, hb1⟩
        have HB1 := Lib.hid (bnext HBW.out (bnext HB.out (bnext HAL.out hb1)))
        clear hb1 q0 q1
        go_wp2_with fail
        go_ret
        exact ⟨ret_b HQ.out.symm, HB1.out⟩
      · have HQ : Hid (e ≠ f) := fun h => heq h.symm
        rw [decide_eq_false heq] at hcall
        clear heq
        generalize hr : e.1 = r at *
        clear hr
        go_wp2_with fail
        refine hcall.out.mono ?_
        rintro e' w1 ⟨rfl, hb1⟩
        have HB1 := Lib.hid (bnext HB.out (bnext HAL.out hb1))
        clear hb1 q0 q1
        go_wp2_with fail
        refine ⟨⟨i + 1, by omega, by simp, HB1.out, fun j x hj h5 => ?_⟩, by simp [intOf]; omega⟩
        rcases Nat.lt_or_ge j i with h7 | h7
        · exact HE.out j x h7 h5
        · obtain rfl : j = i := by omega
          rw [HD.out] at h5; cases h5; exact HQ.out
    · obtain rfl : i = n := by omega
      have HQ : Hid (decide (f ∈ l) = false) := decide_eq_false (fun hmem => by
        obtain ⟨j, hj⟩ := List.mem_iff_getElem?.1 hmem
        exact HE.out j f (by rw [← HL.out]; exact (List.getElem?_eq_some_iff.1 hj).1) hj rfl)
      clear hb
      go_wp2_with fail
      go_ret
      exact ⟨ret_b HQ.out.symm, bnext HBW.out HB.out⟩
end Go.Proofs.Ytfojllkkbdpfkaa
