/- Contracts of chapter 4's spec: IsQuery, VarsOf. -/
import Derived.Test.YtcabgdaloffcdaaGreatSfine
namespace Go.Proofs.YtcabgdaloffcdaaGreat
open Go Go.Sort Go.RowKit
set_option linter.unusedVariables false

set_option maxRecDepth 100000 in
set_option maxHeartbeats 4000000 in
theorem sIsQuery_any (w : World) (vs v : Value) (s : List Int) (d : QueryD) (hvs : RdSchema w vs s) (h : RdQuery w v d) (hsz : sizeAtomS d.2 ≤ 1048576) :
    Calls Tryz.prog 15 #[vs, v] w (GaveBool w (fineB s d 4)) := by
  have HS := Lib.hid hvs
  have HR := Lib.hid h
  have hF := Lib.hid (fun w hs hq => sFine_any w vs v s d 4 hs hq hsz)
  obtain ⟨sa, sn, sc, rfl, hs⟩ := hvs
  obtain ⟨ha, hn0, hc0, a, n, c, rfl, hi, h⟩ := h
  have hb0 : ∀ a b, Below w.heap.size w ((w.alloc a).alloc b) := fun a b => ((Below.refl _ _).alloc (Nat.le_refl _) _).alloc (by simp) _
  have HB0 := Lib.hid hb0
  clear hs hi h hb0
  go_enter Tryz.func15, Tryz.ntmps15
  go_wp2_with fail
  refine (hF.out _ (HS.out.below (HB0.out _ _)) (HR.out.below (HB0.out _ _))).mono ?_
  rintro e W ⟨rfl, hb⟩
  have HBW := Lib.hid (bnext (HB0.out _ _) hb)
  clear hb
  go_wp2_with fail
  go_ret
  exact ⟨rfl, HBW.out⟩

/-- The variables below `k` that a query names, in their order. -/
def varsTo (d : QueryD) : Nat → List Int
  | 0 => []
  | k + 1 => if decide ((k : Int) ∈ bodyVars d.2) || decide ((k : Int) ∈ d.1) then varsTo d k ++ [(k : Int)] else varsTo d k
theorem varsTo_len (d : QueryD) (k : Nat) : (varsTo d k).length ≤ k := by
  induction k with
  | zero => simp [varsTo]
  | succ k ih => unfold varsTo; split <;> (try simp) <;> omega
theorem varsTo_inI (d : QueryD) (k : Nat) (hk : k ≤ 20) : ∀ x ∈ varsTo d k, inI x := by
  induction k with
  | zero => simp [varsTo]
  | succ k ih =>
    unfold varsTo
    split
    · intro x hx
      rcases List.mem_append.1 hx with hx | hx
      · exact ih (by omega) x hx
      · simp at hx; subst hx; unfold inI; omega
    · exact ih (by omega)
theorem varsTo_yes {d : QueryD} {k : Nat} (h : (decide ((k : Int) ∈ bodyVars d.2) || decide ((k : Int) ∈ d.1)) = true) : varsTo d (k + 1) = varsTo d k ++ [(k : Int)] := by
  show (if _ then _ else _) = _; rw [if_pos h]
theorem varsTo_no {d : QueryD} {k : Nat} (h : (decide ((k : Int) ∈ bodyVars d.2) || decide ((k : Int) ∈ d.1)) = false) : varsTo d (k + 1) = varsTo d k := by
  show (if _ then _ else _) = _; rw [h]; rfl

theorem varsTo_m (d : QueryD) : mIntS (varsTo d 20) ≤ 1048576 := by
  have := varsTo_len d 20
  unfold mIntS; omega
end Go.Proofs.YtcabgdaloffcdaaGreat
