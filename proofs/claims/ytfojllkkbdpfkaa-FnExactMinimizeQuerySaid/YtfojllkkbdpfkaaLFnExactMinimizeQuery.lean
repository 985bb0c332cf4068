/- FnExactMinimizeQuery: for every input the law returns true, and each argument reads afterwards as it did. Conditions: none but the row's own. -/
import Derived.Test.YtfojllkkbdpfkaaCMinimizeQuery
import Derived.Test.YtfojllkkbdpfkaaI9x
import Derived.Test.YtfojllkkbdpfkaaOpenAll
import Derived.Test.YtfojllkkbdpfkaaRows
import Derived.ShutString
import Derived.ChangeOld
import Derived.ProofKit
import Derived.OpenShut
import Derived.Carry
namespace Go.Proofs.Ytfojllkkbdpfkaa.fnExactMinimizeQuery
open Go.ChangeShapes Go.WideShapes Go.ChangeAt Go.RowKit
open Go.ChangeMaps (open_string shut_string)
set_option linter.unusedVariables false

theorem own : ownKnob Try.prog.godebug = none := by kernel_rfl
theorem laidOut : laidOutB Try.prog = true := by kernel_rfl
set_option maxHeartbeats 1000000 in
theorem walk (w : World) (v1 : Value) (d1 : List Int) (h1 : RdSchema w v1 d1) (v2 : Value) (d2 : List Int × List (Int × List Int)) (h2 : RdQuery w v2 d2) (he : (fun _ => True) w) : Calls Try.prog 6 #[v1, v2] w (GaveBool w true) :=
  core_MinimizeQuery (fun _ => True) (fun _ _ _ _ => trivial) w v1 d1 h1 v2 d2 h2 he (minQ d1 d2) (fun _ h => minQ_m d1 d2 h)
    (fun w u1 u2 _ _ hz k1 k2 => (sMinimize_any w _ _ _ _ k1 k2 hz).mono fun e w' ⟨a, n, c, a', n', c', he, hr, hb⟩ => ⟨_, he, hr, hb⟩)
    (fun w u1 u2 _ _ hz k1 k2 => iMinimize_any w _ _ _ _ k1 k2 hz)

set_option maxRecDepth 100000 in
theorem lifted (os : Os) (started : os.Started) (H : Type) (enc : TypeId × Value → H) :
    ReturnsInHanded {} Try.checked os 6 .any (Rows.fnExactMinimizeQuerySpec.pre6 enc Try.prog Try.f6 Rows.fnExactMinimizeQueryRow.domain false) (Rows.fnExactMinimizeQuerySpec.post enc Try.prog Try.f6 false true false false) := by
  refine returnsInHanded_of_change (C := Try.checked) own started (by kernel_rfl) Try.func6
    (ChangeSpec.witness6 (enc := enc) (C := Try.checked) false ⟨#[], #[.agg #[.slice none 0 0], .agg #[.slice none 0 0, .slice none 0 0]], []⟩ 8 (by kernel_rfl) (by kernel_rfl) (by kernel_rfl) (by kernel_rfl)) ?_
  intro W base args ds gs before hval0 hW hcnd _
  have hval : ∀ (j : Nat) t v, Try.f6.params[j]? = some t → args[j]? = some v → Value.okWide Try.prog W .any base t v := hval0
  have hW' := hW
  obtain ⟨p, q, hA0, hV, rfl, hfz, hnd⟩ := hW
  have hA : DataW.TrodAll enc Try.prog W 0 (fun _ => true) true Try.f6.params.toList args.toList ds p := hA0
  rw [Try.params6] at hA hval
  obtain ⟨v0, vs0, d0, ds0, p0, q0, hargs, rfl, rfl, h0, r0⟩ := trodAll_cons hA
  obtain ⟨v1, vs1, d1, ds1, p1, q1, rfl, rfl, rfl, h1, r1⟩ := trodAll_cons r0
  obtain ⟨rfl, rfl, rfl⟩ := trodAll_nil r1
  obtain rfl : args = #[v0, v1] := by cases args; simp_all
  obtain ⟨rfl, rfl⟩ := trodVars_none hV
  have k0 := h0
  have lt0 : ∀ x ∈ p0, x.block < W.heap.size := by obtain ⟨m, hm⟩ := k0; exact DataW.trod_lt m _ _ _ hm
  obtain ⟨e1, o1⟩ := open_RdSchema (hval 0 24 v0 rfl rfl) h0
  have k1 := h1
  have lt1 : ∀ x ∈ p1, x.block < W.heap.size := by obtain ⟨m, hm⟩ := k1; exact DataW.trod_lt m _ _ _ hm
  obtain ⟨e2, o2⟩ := open_RdQuery (hval 1 27 v1 rfl rfl) h1
  clear hA0
  refine (walk W v0 e1 o1 v1 e2 o2 trivial).mono fun e W' ⟨he, bel⟩ => ?_
  subst he
  exact ⟨_, rfl, _, _, _, [], _, [], hW', (trodAll_cons_mk (shut_bool Try.underlying4 _) trodAll_mk0), (trodAll_cons_mk (Below.trod laidOut (by kernel_rfl) (of_decide_eq_true (by kernel_rfl)) k0 bel lt0) (trodAll_cons_mk (Below.trod laidOut (by kernel_rfl) (of_decide_eq_true (by kernel_rfl)) k1 bel lt1) trodAll_mk0)), rfl, bel.frame _, fun h => by cases h⟩

theorem over : Rows.fnExactMinimizeQueryRow.holds Try.pinned (OpenSpec.ofChange Rows.fnExactMinimizeQuerySpec) :=
  OpenClaim.holds_of_wide 6 Try.f6 rfl rfl rfl rfl rfl rfl rfl ⟨rfl, rfl, rfl, rfl, rfl⟩ rfl rfl rfl rfl rfl (by kernel_rfl) Try.func6 (by kernel_rfl)
    (of_decide_eq_true (by kernel_rfl)) (by unfold Func.isWrapper; first | (rw [if_pos (by decide +kernel)]; kernel_rfl) | (rw [if_neg (by decide +kernel)]; exact ⟨rfl, rfl⟩))
    (fun os started H enc _ => lifted os started H enc)

theorem proved : Rows.FnExactMinimizeQuerySaid :=
  over
#print axioms proved
end Go.Proofs.Ytfojllkkbdpfkaa.fnExactMinimizeQuery
