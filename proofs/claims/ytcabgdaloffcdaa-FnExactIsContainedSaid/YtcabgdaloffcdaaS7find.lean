/- Contracts of chapter 7's spec: l7Empty, l7Unify, l7Search, l7Find, FindMapping. -/
import Derived.Test.YtcabgdaloffcdaaM7
import Derived.Test.YtcabgdaloffcdaaAppInts
import Derived.Test.YtcabgdaloffcdaaSvars
import Derived.Test.YtcabgdaloffcdaaBox3
import Derived.Deep.RegionLaw
namespace Go.Proofs.Ytcabgdaloffcdaa
open Go Go.Sort Go.RowKit
set_option linter.unusedVariables false

def unm20 : List Int := List.replicate 20 (-1000)
theorem rep_snoc (i : Nat) : List.replicate (i + 1) (-1000 : Int) = List.replicate i (-1000) ++ [-1000] := List.replicate_succ'
theorem sEmpty7_any (w : World) : Calls Try.prog 61 #[] w (GaveInts w unm20) := by
  have HB1 := Lib.hid (Built.lit .i64 3 w w [] (Nat.zero_le _) (Below.refl _ _))
  have HALL : Hid (∀ x ∈ unm20, inI x) := fun x hx => by
    rw [List.eq_of_mem_replicate hx]; unfold inI; omega
  go_enter Try.func61, Try.ntmps61
  go_wp2_with fail
  go_loopw [1, 2] (fun ov iv wr => ∃ i : Nat, i ≤ 20 ∧ iv = .int .i64 i ∧ Built .i64 3 w wr ov (List.replicate i (-1000))) (fun _ iv _ => 20 - (intOf iv).toNat)
  case atStart => exact ⟨0, by omega, rfl, by simpa using HB1.out⟩
  case round =>
    obtain ⟨i, hi, rfl, hown⟩ := hrel
    have HOWN := Lib.hid hown
    by_cases hlt : i < 20
    · have hi1 : (i : Int) < 20 := by omega
      have HS := Lib.hid (rep_snoc i)
      have hln : (List.replicate i (-1000 : Int)).length ≤ 20 := by simp; omega
      generalize List.replicate i (-1000 : Int) = M at *
      clear hown
      go_wp2_with (at_builtin; refine wpList_app1 rfl (.tmp 8) (.tmp 9) 22 rfl .i64 3 0 8 Try.underlying22 info_i64 (by decide) _ M rfl HOWN.out _ rfl (by omega) ?_)
      intro v' w3 hown'
      have HO4 := Lib.hid hown'
      clear hown'
      go_wp2_with fail
      exact ⟨⟨i + 1, by omega, by simp, by rw [HS.out]; exact HO4.out⟩, by simp [intOf]; omega⟩
    · obtain rfl : i = 20 := by omega
      have HOW : Hid (Built .i64 3 w wr u1 unm20) := hown
      clear hown HOWN
      go_wp2_with fail
      go_ret
      exact HOW.out.owns HALL.out

set_option maxRecDepth 100000 in
set_option maxHeartbeats 8000000 in
theorem sUnify_any (w : World) (vf vt vm : Value) (f t m : List Int) (hf : Ints w vf f) (ht : Ints w vt t) (hm : Ints w vm m) (h20 : m.length = 20) (hlen : f.length = t.length) (hlt20 : ∀ x ∈ f, x < 20) :
    Calls Try.prog 60 #[vf, vt, vm] w (fun e w' => ∃ xv, e = .returned (.tuple #[xv, .bool (uniF m f t).2]) ∧ Ints w' xv (uniF m f t).1 ∧ Below w.heap.size w w') := by
  obtain ⟨a, n, cap, rfl, hl, hn, hmx, hcell⟩ := hf.cases
  obtain ⟨a', n', cap', rfl, hl', hn', hmx', hcell'⟩ := ht.cases
  obtain ⟨ma, mcap, rfl⟩ := hm.form
  obtain rfl : n' = n := by omega
  unfold maxLen at hmx hmx'
  have HC := Lib.hid hcell
  have HC' := Lib.hid hcell'
  have HL := Lib.hid hl
  have H20 := Lib.hid h20
  have HALL : Hid (∀ i, ∀ x ∈ (uniTo m f t i).1, inI x) := uniTo_all hm.1 ht.1 (by unfold inI; omega)
  have HLT := Lib.hid hlt20
  have HFN : Hid (uniF m f t = uniTo m f t n') := by unfold Hid uniF; rw [hl]
  have hlit := Built.lit .i64 3 w w [] (Nat.zero_le _) (Below.refl _ _)
  have HLIT : Hid (Built .i64 3 w (w.alloc (.cells #[] 3)) (.slice (some ⟨w.heap.size, 0, none⟩) 0 0) []) := Lib.hid (by simpa using hlit)
  have HBA := Lib.hid (hm.below (below_alloc w (.cells #[] 3)))
  rw [h20] at HBA ⊢
  clear hf ht hm hcell hcell' hl hl' h20 hlen hlt20 hlit
  go_enter Try.func60, Try.ntmps60
  go_wp2_with (at_builtin; refine wpList_appInts rfl (.tmp 11) (.tmp 12) 22 rfl 3 Try.underlying22 info_i64 _ [] rfl HLIT.out _ m rfl HBA.out (by rw [H20.out]; simp) ?_)
  intro v1 w1 hb1
  have hb2 : Built .i64 3 w w1 v1 m := by simpa using hb1
  obtain ⟨g, gc, rfl, hgc⟩ : ∃ g gc, v1 = .slice (some ⟨g, 0, none⟩) 20 gc ∧ gc ≤ maxLen := by
    rcases BuiltC.form hb2 with ⟨_, h0⟩ | ⟨g, cp, h, _, h2⟩
    · rw [H20.out] at h0; omega
    · exact ⟨g, cp, by rw [h, H20.out], h2⟩
  unfold maxLen at hgc
  have HBU : Hid (Built .i64 3 w w1 (.slice (some ⟨g, 0, none⟩) 20 gc) (uniTo m f t 0).1) := hb2
  clear hb1 hb2
  go_wp2_with fail
  go_loopw [9] (fun iv wr => ∃ i : Nat, i ≤ n' ∧ iv = .int .i64 i ∧ (uniTo m f t i).2 = true ∧ Hid (Built .i64 3 w wr (.slice (some ⟨g, 0, none⟩) 20 gc) (uniTo m f t i).1)) (fun iv _ => n' - (intOf iv).toNat)
  case atStart => exact ⟨0, by omega, rfl, rfl, HBU⟩
  case round =>
    obtain ⟨i, hi, rfl, hyes, HB⟩ := hrel
    have hbq := HB.out.below
    by_cases hlt : i < n'
    · obtain ⟨b, off, rfl, hbw, hc⟩ := HC.out (by omega)
      obtain ⟨b', off', rfl, hbw', hc'⟩ := HC'.out (by omega)
      have c1 := cellk hbq (hc i hlt)
      have c2 := cellk hbq (hc' i hlt)
      have hi0 : (0 : Int) ≤ i := by omega
      have hi1 : (i : Int) < n' := by omega
      have hx20 : f.getD i 0 < 20 := getD_all7 (p := fun x => x < 20) HLT.out (by omega) i
      have HNO := Lib.hid (fun x h => uniF_no (m := m) (f := f) (t := t) (i := i) (x := x) (by rw [HL.out]; exact hlt) hyes h)
      have HYES := Lib.hid (uniTo_yes hyes)
      have hlen := uniTo_len m f t i
      rw [H20.out] at hlen
      have HLEN := Lib.hid hlen
      have HAI := Lib.hid (HALL.out i)
      generalize (uniTo m f t i).1 = M at *
      generalize f.getD i 0 = x at *
      generalize t.getD i 0 = u at *
      clear hc hbw hc' hbw'
      by_cases h0 : x < 0
      · have H1 := Lib.hid (uni1_neg (m := M) (u := u) h0)
        by_cases he : x = u
        · have H2 : Hid (uni1 M x u = (M, true)) := by unfold Hid; rw [H1.out, decide_eq_true he]
          have he2 : (x != u) = false := by simp [he]
          clear he hbq
          go_wp2_with fail
          exact ⟨⟨i + 1, by omega, by simp, by rw [HYES.out, H2.out], by rw [HYES.out, H2.out]; exact HB⟩, by simp [intOf]; omega⟩
        · have H2 := Lib.hid (HNO.out M (by rw [H1.out, decide_eq_false he]))
          have he2 : (x != u) = true := by simp [he]
          clear he hbq
          go_wp2_with fail
          go_ret2
          exact ⟨.slice (some ⟨g, 0, none⟩) 20 gc, by rw [H2.out]; rfl, by rw [H2.out]; exact Ints.ofBuilt HB.out HAI.out, HB.out.below⟩
      · obtain ⟨k, rfl⟩ := Int.eq_ofNat_of_zero_le (by omega : 0 ≤ x)
        have hk : k < 20 := by omega
        have hk0 : (0 : Int) ≤ k := by omega
        have hk1 : (k : Int) < 20 := by omega
        have hcell := (HLEN.out.symm ▸ HB.out : Built .i64 3 w wr (.slice (some ⟨g, 0, none⟩) M.length gc) M).cell k (by rw [HLEN.out]; exact hk)
        have hfr := HB.out.frozen HLEN.out.symm k
        by_cases hu : M.getD k 0 = -1000
        · have H2 := Lib.hid (uni1_new (m := M) (k := k) (u := u) hu)
          have hst := Lib.hid (HB.out.store HLEN.out.symm k u)
          rw [hu] at hcell
          clear hu hbq
          go_wp2_with fail
          exact ⟨⟨i + 1, by omega, by simp, by rw [HYES.out, H2.out], by rw [HYES.out, H2.out]; exact hst⟩, by simp [intOf]; omega⟩
        · have H1 := Lib.hid (uni1_old (m := M) (k := k) (u := u) hu)
          have hu2 : (M.getD k 0 == -1000) = false := by simpa using hu
          obtain ⟨y, hy⟩ : ∃ y, M.getD k 0 = y := ⟨_, rfl⟩
          rw [hy] at H1 hu2 hcell
          have d1 := cell_regrown hcell
          have d2 := cell_regrown c2
          by_cases he : y = u
          · have H2 : Hid (uni1 M (k : Int) u = (M, true)) := by unfold Hid; rw [H1.out, decide_eq_true he]
            have he2 : (y != u) = false := by simp [he]
            clear he hbq hu hy
            go_wp2_with fail
            refine wp_region_quiet_below (by kernel_rfl) (by kernel_rfl) ?_
            repeat (any_goals (first | go_big_quiet_step (fail) | quiet_step (fail)))
            refine wpQuiet_nil ?_
            intro _ hw'
            obtain ⟨⟨dq, osq⟩, hw''⟩ := hw'
            subst hw''
            have HB2 : Hid (Built .i64 3 w (grow (redrawn wr dq) osq) (.slice (some ⟨g, 0, none⟩) 20 gc) M) := HB.out.grow (below_regrown _ _ _)
            go_wp2_with fail
            exact ⟨⟨i + 1, by omega, by simp, by rw [HYES.out, H2.out], by rw [HYES.out, H2.out]; exact HB2⟩, by simp [intOf]; omega⟩
          · have H2 := Lib.hid (HNO.out M (by rw [H1.out, decide_eq_false he]))
            have he2 : (y != u) = true := by simp [he]
            clear he hbq hu hy
            go_wp2_with fail
            refine wp_region_quiet_below (by kernel_rfl) (by kernel_rfl) ?_
            repeat (any_goals (first | go_big_quiet_step (fail) | quiet_step (fail)))
            refine wpQuiet_nil ?_
            intro _ hw'
            obtain ⟨⟨dq, osq⟩, hw''⟩ := hw'
            subst hw''
            have HB2 : Hid (Built .i64 3 w (grow (redrawn wr dq) osq) (.slice (some ⟨g, 0, none⟩) 20 gc) M) := HB.out.grow (below_regrown _ _ _)
            go_wp2_with fail
            go_ret2
            exact ⟨.slice (some ⟨g, 0, none⟩) 20 gc, by rw [H2.out]; rfl, by rw [H2.out]; exact Ints.ofBuilt HB2.out HAI.out, HB2.out.below⟩
    · obtain rfl : i = n' := by omega
      have HF := HFN.out
      have HY := Lib.hid hyes
      have HAI := Lib.hid (HALL.out i)
      clear hbq hyes
      go_wp2_with fail
      go_ret2
      exact ⟨.slice (some ⟨g, 0, none⟩) 20 gc, by rw [HF, HY.out]; rfl, by rw [HF]; exact Ints.ofBuilt HB.out HAI.out, HB.out.below⟩
end Go.Proofs.Ytcabgdaloffcdaa
