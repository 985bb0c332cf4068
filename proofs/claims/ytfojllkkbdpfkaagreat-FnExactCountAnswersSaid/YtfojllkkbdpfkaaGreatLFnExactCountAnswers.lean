/- FnExactCountAnswers: for every input the law returns true, and each argument reads afterwards as it did. Conditions: none but the row's own. -/
import Derived.Test.YtfojllkkbdpfkaaGreatCCountAnswers
import Derived.Test.YtfojllkkbdpfkaaGreatOpenAll
import Derived.Test.YtfojllkkbdpfkaaGreatI6cma
import Derived.Test.YtfojllkkbdpfkaaGreatRows
import Derived.ShutString
import Derived.ChangeOld
import Derived.ProofKit
import Derived.OpenShut
import Derived.Carry
namespace Go.Proofs.YtfojllkkbdpfkaaGreat.fnExactCountAnswers
open Go.ChangeShapes Go.WideShapes Go.ChangeAt Go.RowKit
open Go.ChangeMaps (open_string shut_string)
set_option linter.unusedVariables false

theorem own : ownKnob Tryz.prog.godebug = none := by kernel_rfl
theorem laidOut : laidOutB Tryz.prog = true := by kernel_rfl
set_option maxHeartbeats 1000000 in
theorem walk (w : World) (v1 : Value) (d1 : List Int) (h1 : RdSchema w v1 d1) (v2 : Value) (d2 : List Int × List (Int × List Int)) (h2 : RdQuery w v2 d2) (v3 : Value) (d3 : List (Int × List Int)) (h3 : RdAtomS w v3 d3) (he : (fun _ => True) w) : Calls Tryz.prog 5 #[v1, v2, v3] w (GaveBool w true) :=
  core_CountAnswers (fun _ => True) (fun _ _ _ _ => trivial) w v1 d1 h1 v2 d2 h2 v3 d3 h3 he (countsN d1 d2 d3) (fun _ _ _ => counts_m d1 d2 d3)
    (fun w u1 u2 u3 _ _ hz2 hz3 k1 k2 k3 => sCountAnswers_any w _ _ _ _ _ _ k1 k2 k3 (by unfold sizeQuery at hz2; omega) (by unfold sizeQuery at hz2; omega))
    (fun w u1 u2 u3 _ _ hz2 hz3 k1 k2 k3 => iCountAnswers_any w _ _ _ _ _ _ k1 k2 k3 (by unfold sizeQuery at hz2; omega) hz3 (bind_len _ _ _))

set_option maxRecDepth 100000 in
theorem lifted (os : Os) (started : os.Started) (H : Type) (enc : TypeId × Value → H) :
    ReturnsInHanded {} Tryz.checked os 5 .any (Rows.fnExactCountAnswersSpec.pre6 enc Tryz.prog Tryz.f5 Rows.fnExactCountAnswersRow.domain false) (Rows.fnExactCountAnswersSpec.post enc Tryz.prog Tryz.f5 false true false false) := by
  refine returnsInHanded_of_change (C := Tryz.checked) own started (by kernel_rfl) Tryz.func5
    (ChangeSpec.witness6 (enc := enc) (C := Tryz.checked) false ⟨#[], #[.agg #[.slice none 0 0], .agg #[.slice none 0 0, .slice none 0 0], .slice none 0 0], []⟩ 8 (by kernel_rfl) (by kernel_rfl) (by kernel_rfl) (by kernel_rfl)) ?_
  intro W base args ds gs before hval0 hW hcnd _
  have hval : ∀ (j : Nat) t v, Tryz.f5.params[j]? = some t → args[j]? = some v → Value.okWide Tryz.prog W .any base t v := hval0
  have hW' := hW
  obtain ⟨p, q, hA0, hV, rfl, hfz, hnd⟩ := hW
  have hA : DataW.TrodAll enc Tryz.prog W 0 (fun _ => true) true Tryz.f5.params.toList args.toList ds p := hA0
  rw [Tryz.params5] at hA hval
  obtain ⟨v0, vs0, d0, ds0, p0, q0, hargs, rfl, rfl, h0, r0⟩ := trodAll_cons hA
  obtain ⟨v1, vs1, d1, ds1, p1, q1, rfl, rfl, rfl, h1, r1⟩ := trodAll_cons r0
  obtain ⟨v2, vs2, d2, ds2, p2, q2, rfl, rfl, rfl, h2, r2⟩ := trodAll_cons r1
  obtain ⟨rfl, rfl, rfl⟩ := trodAll_nil r2
  obtain rfl : args = #[v0, v1, v2] := by cases args; simp_all
  obtain ⟨rfl, rfl⟩ := trodVars_none hV
  have k0 := h0
  have lt0 : ∀ x ∈ p0, x.block < W.heap.size := by obtain ⟨m, hm⟩ := k0; exact DataW.trod_lt m _ _ _ hm
  obtain ⟨e1, o1⟩ := open_RdSchema (hval 0 24 v0 rfl rfl) h0
  have k1 := h1
  have lt1 : ∀ x ∈ p1, x.block < W.heap.size := by obtain ⟨m, hm⟩ := k1; exact DataW.trod_lt m _ _ _ hm
  obtain ⟨e2, o2⟩ := open_RdQuery (hval 1 27 v1 rfl rfl) h1
  have k2 := h2
  have lt2 : ∀ x ∈ p2, x.block < W.heap.size := by obtain ⟨m, hm⟩ := k2; exact DataW.trod_lt m _ _ _ hm
  obtain ⟨e3, o3⟩ := open_RdFactS (hval 2 28 v2 rfl rfl) h2
  clear hA0
  refine (walk W v0 e1 o1 v1 e2 o2 v2 e3 o3 trivial).mono fun e W' ⟨he, bel⟩ => ?_
  subst he
  exact ⟨_, rfl, _, _, _, [], _, [], hW', (trodAll_cons_mk (shut_bool Tryz.underlying4 _) trodAll_mk0), (trodAll_cons_mk (Below.trod laidOut (by kernel_rfl) (of_decide_eq_true (by kernel_rfl)) k0 bel lt0) (trodAll_cons_mk (Below.trod laidOut (by kernel_rfl) (of_decide_eq_true (by kernel_rfl)) k1 bel lt1) (trodAll_cons_mk (Below.trod laidOut (by kernel_rfl) (of_decide_eq_true (by kernel_rfl)) k2 bel lt2) trodAll_mk0))), rfl, bel.frame _, fun h => by cases h⟩

theorem over : Rows.fnExactCountAnswersRow.holds Tryz.pinned (OpenSpec.ofChange Rows.fnExactCountAnswersSpec) :=
  OpenClaim.holds_of_wide 5 Tryz.f5 rfl rfl rfl rfl rfl rfl rfl ⟨rfl, rfl, rfl, rfl, rfl⟩ rfl rfl rfl rfl rfl (by kernel_rfl) Tryz.func5 (by kernel_rfl)
    (of_decide_eq_true (by kernel_rfl)) (by unfold Func.isWrapper; first | (rw [if_pos (by decide +kernel)]; kernel_rfl) | (rw [if_neg (by decide +kernel)]; exact ⟨rfl, rfl⟩))
    (fun os started H enc _ => lifted os started H enc)

theorem proved : Rows.FnExactCountAnswersSaid :=
  over
#print axioms proved
end Go.Proofs.YtfojllkkbdpfkaaGreat.fnExactCountAnswers
