/- Contracts of spec's AreKeys, FirstViolation, HoldsKey. -/
import Derived.Test.YtnbljidjbknleaaDoorS12a
import Derived.Test.YtnbljidjbknleaaDoorOwn
namespace Go.Proofs.YtnbljidjbknleaaDoor
open Go Go.Sort Go.RowKit
set_option linter.unusedVariables false

theorem allK_no {l : List AtomD} {p : AtomD → Bool} {i : Nat} {x : AtomD} (h : l[i]? = some x) (h2 : p x = false) : l.all p = false := by
  rw [List.all_eq_false]; exact ⟨x, List.mem_of_getElem? h, by rw [h2]; decide⟩
theorem allK_yes {l : List AtomD} {p : AtomD → Bool} (h : ∀ (j : Nat) (x : AtomD), l[j]? = some x → p x = true) : l.all p = true :=
  List.all_eq_true.2 (fun x hx => by obtain ⟨j, hj⟩ := List.mem_iff_getElem?.1 hx; exact h j x hj)

/-- Every triple ahead of (n, i, j) is none. -/
def NoneTo (db ks : List AtomD) (n i j : Nat) : Prop := ∀ n' i' j', i' < j' → (n' < n ∨ n' = n ∧ (i' < i ∨ i' = i ∧ j' < j)) → violB db ks n' i' j' = false
theorem none_start (db ks : List AtomD) : NoneTo db ks 0 0 0 := fun n' i' j' _ h => by omega
theorem none_first {db ks : List AtomD} {n i j : Nat} (h : NoneTo db ks n i j) (hij : i < j) (hv : violB db ks n i j = true) : FirstV db ks n i j :=
  ⟨hv, hij, fun n' i' j' h1 h2 => by
    rcases Nat.lt_or_ge n n' with h3 | h3
    · exact .inl h3
    · refine .inr ?_
      by_cases h4 : n' < n
      · rw [h n' i' j' h1 (.inl h4)] at h2; cases h2
      · have e : n = n' := by omega
        subst e
        refine ⟨rfl, ?_⟩
        rcases Nat.lt_or_ge i i' with h5 | h5
        · exact .inl h5
        · refine .inr ?_
          by_cases h6 : i' < i
          · rw [h n i' j' h1 (.inr ⟨rfl, .inl h6⟩)] at h2; cases h2
          · have e : i = i' := by omega
            subst e
            refine ⟨rfl, ?_⟩
            rcases Nat.lt_or_ge j' j with h7 | h7
            · rw [h n i j' h1 (.inr ⟨rfl, .inr ⟨rfl, h7⟩⟩)] at h2; cases h2
            · exact h7⟩
theorem none_j {db ks : List AtomD} {n i j : Nat} (h : NoneTo db ks n i j) (hv : violB db ks n i j = false) : NoneTo db ks n i (j + 1) := fun n' i' j' h1 h2 => by
  by_cases e : n' = n ∧ i' = i ∧ j' = j
  · rw [e.1, e.2.1, e.2.2]; exact hv
  · exact h n' i' j' h1 (by omega)
theorem none_i {db ks : List AtomD} {n i : Nat} (h : NoneTo db ks n i db.length) : NoneTo db ks n (i + 1) (i + 1 + 1) := fun n' i' j' h1 h2 => by
  cases hv : violB db ks n' i' j' with
  | false => rfl
  | true =>
    have := viol_in hv
    rw [h n' i' j' h1 (by omega)] at hv; cases hv
theorem none_i0 {db ks : List AtomD} {n : Nat} (h : NoneTo db ks n 0 0) : NoneTo db ks n 0 1 := fun n' i' j' h1 h2 => h n' i' j' h1 (by omega)
theorem none_n {db ks : List AtomD} {n i j : Nat} (h : NoneTo db ks n i j) (hi : db.length ≤ i) : NoneTo db ks (n + 1) 0 0 := fun n' i' j' h1 h2 => by
  cases hv : violB db ks n' i' j' with
  | false => rfl
  | true =>
    have := viol_in hv
    rw [h n' i' j' h1 (by omega)] at hv; cases hv
theorem none_all {db ks : List AtomD} (h : NoneTo db ks ks.length 0 0) : fvN db ks = (-1, -1, -1) := fv_none (fun n i j h1 => by
  cases hv : violB db ks n i j with
  | false => rfl
  | true =>
    have := viol_in hv
    rw [h n i j h1 (by omega)] at hv; cases hv)

set_option maxRecDepth 100000 in
set_option maxHeartbeats 8000000 in
theorem sFirstV_any (w : World) (vd vk : Value) (db ks : List AtomD) (hd : RdAtomS w vd db) (hk : RdAtomS w vk ks) :
    Calls Tryd.prog 10 #[vd, vk] w (GaveV (.tuple #[.int .i64 (fvN db ks).1, .int .i64 (fvN db ks).2.1, .int .i64 (fvN db ks).2.2]) w) := by
  obtain ⟨a, dn, c, rfl, hd⟩ := hd
  obtain ⟨hdl, hdn, hdm, hdc⟩ := hd.at
  obtain ⟨ka, kn, kc, rfl, hk⟩ := hk
  obtain ⟨hkl, hkn, hkm, hkc⟩ := hk.at
  unfold maxLen at hdm hkm
  have HDC := Lib.hid hdc
  have HKC := Lib.hid hkc
  have HDL := Lib.hid hdl
  have HKL := Lib.hid hkl
  have hAG := Lib.hid (fun w va vb vl a b l h1 h2 h3 => sAgree_any w va vb vl a b l h1 h2 h3)
  have hIN := Lib.hid (fun w v v' l l' a b => sInts_any w v v' l l' a b)
  clear hd hk hdc hkc hdl hkl
  go_enter Tryd.func10, Tryd.ntmps10
  go_wp2_with fail
  go_loopw [7] (fun nv wr => ∃ n : Nat, n ≤ kn ∧ nv = .int .i64 n ∧ Below w.heap.size w wr ∧ Hid (NoneTo db ks n 0 0)) (fun nv _ => kn - (intOf nv).toNat)
  case atStart => exact ⟨0, by omega, rfl, Below.refl _ _, none_start _ _⟩
  case round =>
    obtain ⟨wn, hwn⟩ : ∃ x, x = wr := ⟨_, rfl⟩
    subst hwn
    obtain ⟨n, hn, rfl, hb, HN⟩ := hrel
    have HBN := Lib.hid hb
    clear hb
    by_cases hltn : n < kn
    · obtain ⟨kb, ko, rfl, hkw, hkc⟩ := HKC.out (by omega)
      obtain ⟨k, hkk⟩ : ∃ e, ks[n]? = some e := ⟨ks[n]'(by rw [HKL.out]; exact hltn), List.getElem?_eq_getElem (by rw [HKL.out]; exact hltn)⟩
      obtain ⟨kea, kem, kec, kc0, kc1, _, kints⟩ := atomAt (n := kn) hkc n k hkk
      have HK0 := Lib.hid kc0
      have HK1 := Lib.hid kc1
      have HKI := Lib.hid kints
      have HKK := Lib.hid hkk
      have hn0 : (0 : Int) ≤ n := by omega
      have hn1 : (n : Int) < kn := by omega
      clear hkw hkc kc0 kc1 kints hkk
      go_wp2_with fail
      go_loopw [8] (fun iv wr => ∃ i : Nat, i ≤ dn ∧ iv = .int .i64 i ∧ Below w.heap.size w wr ∧ Hid (NoneTo db ks n i (i + 1))) (fun iv _ => dn - (intOf iv).toNat)
      case atStart => exact ⟨0, by omega, rfl, HBN.out, none_i0 HN.out⟩
      case round =>
        obtain ⟨wi, hwi⟩ : ∃ x, x = wr := ⟨_, rfl⟩
        subst hwi
        obtain ⟨i, hi, rfl, hb, HI⟩ := hrel
        have HBI := Lib.hid hb
        clear hb
        by_cases hlti : i < dn
        · obtain ⟨b, off, rfl, hdw, hdc⟩ := HDC.out (by omega)
          obtain ⟨x, hxx⟩ : ∃ e, db[i]? = some e := ⟨db[i]'(by rw [HDL.out]; exact hlti), List.getElem?_eq_getElem (by rw [HDL.out]; exact hlti)⟩
          obtain ⟨xa, xm, xc, xc0, xc1, _, xints⟩ := atomAt (n := dn) hdc i x hxx
          have HX0 := Lib.hid xc0
          have HX1 := Lib.hid xc1
          have HXI := Lib.hid xints
          have HXX := Lib.hid hxx
          have HDC2 := Lib.hid hdc
          have hi0 : (0 : Int) ≤ i := by omega
          have hi1 : (i : Int) < dn := by omega
          clear hdw hdc xc0 xc1 xints hxx
          go_wp2_with fail
          go_loopw [9] (fun jv wr => ∃ j : Nat, i < j ∧ j ≤ dn ∧ jv = .int .i64 j ∧ Below w.heap.size w wr ∧ Hid (NoneTo db ks n i j)) (fun jv _ => dn - (intOf jv).toNat)
          case atStart => exact ⟨i + 1, by omega, by omega, by simp, HBI.out, HI.out⟩
          case round =>
            obtain ⟨wj, hwj⟩ : ∃ x, x = wr := ⟨_, rfl⟩
            subst hwj
            obtain ⟨j, hij, hj, rfl, hb, HJ⟩ := hrel
            have HB := Lib.hid hb
            by_cases hltj : j < dn
            · obtain ⟨y, hyy⟩ : ∃ e, db[j]? = some e := ⟨db[j]'(by rw [HDL.out]; exact hltj), List.getElem?_eq_getElem (by rw [HDL.out]; exact hltj)⟩
              obtain ⟨ya, ym, yc, yc0, yc1, _, yints⟩ := atomAt (n := dn) HDC2.out j y hyy
              have k0 := cell_regrown (w := wj) (cellk hb HK0.out)
              have k1 := cell_regrown (w := wj) (cellk hb HK1.out)
              have x0 := cell_regrown (w := wj) (cellk hb HX0.out)
              have x1 := cell_regrown (w := wj) (cellk hb HX1.out)
              have y0 := cell_regrown (w := wj) (cellk hb yc0)
              have y1 := cell_regrown (w := wj) (cellk hb yc1)
              have hj0 : (0 : Int) ≤ j := by omega
              have hj1 : (j : Int) < dn := by omega
              have HV := Lib.hid (viol_at HKK.out HXX.out hyy)
              have HBR := Lib.hid (fun d os => hb.trans ((below_regrown wj d os).mono hb.size))
              have hc1 := Lib.hid (fun dn os => hAG.out (grow (redrawn wj dn) os) (.slice xa xm xc) (.slice ya ym yc) (.slice kea kem kec) x.2 y.2 k.2 (HXI.out.below (HBR.out dn os)) (yints.below (HBR.out dn os)) (HKI.out.below (HBR.out dn os)))
              have hc2 := Lib.hid (fun dn os => hIN.out (grow (redrawn wj dn) os) (.slice xa xm xc) (.slice ya ym yc) x.2 y.2 (HXI.out.below (HBR.out dn os)) (yints.below (HBR.out dn os)))
              have HNX : Hid (violB db ks n i j = false → NoneTo db ks n i (j + 1)) := fun h => none_j HJ.out h
              have HFV : Hid (violB db ks n i j = true → fvN db ks = ((n : Int), (i : Int), (j : Int))) := fun h => fv_at (none_first HJ.out hij h)
              have hcases : violB db ks n i j = true ∨ violB db ks n i j = false := by cases violB db ks n i j <;> simp
              obtain ⟨q1, hq1⟩ : ∃ q, agreeB x.2 y.2 k.2 = q := ⟨_, rfl⟩
              obtain ⟨q2, hq2⟩ : ∃ q, decide (x.2 = y.2) = q := ⟨_, rfl⟩
              rw [hq1] at hc1
              rw [hq2] at hc2
              have HV2 : Hid (violB db ks n i j = (decide (x.1 = k.1) && (decide (y.1 = k.1) && (q1 && !q2)))) := by unfold Hid; rw [HV.out, hq1, hq2]
              clear hb hyy yc0 yc1 yints HJ HV HBR hcases hq1 hq2
              generalize x.1 = xr at *
              generalize y.1 = yr at *
              generalize k.1 = kr at *
              by_cases e1 : xr = kr
              · by_cases e2 : yr = kr
                · have HV3 : Hid (violB db ks n i j = (q1 && !q2)) := by unfold Hid; rw [HV2.out, decide_eq_true e1, decide_eq_true e2]; rfl
                  subst e1
                  subst e2
                  clear HV2
                  cases q1 with
                  | false =>
                    have HE := Lib.hid (HNX.out (by rw [HV3.out]; rfl))
                    clear HNX HFV HV3
                    go_wp2_with fail
                    refine wp_region_quiet_below (by kernel_rfl) (by kernel_rfl) ?_
                    repeat (any_goals (first | go_big_quiet_step ((first | (go_at_call 39; exact Calls.regrown_of (hc1.out _ _)) | (go_at_call 40; exact Calls.regrown_of (hc2.out _ _)))) | quiet_step ((first | (go_at_call 39; exact Calls.regrown_of (hc1.out _ _)) | (go_at_call 40; exact Calls.regrown_of (hc2.out _ _))))))
                    refine wpQuiet_nil ?_
                    intro _ hw'
                    obtain ⟨⟨dq, osq⟩, hw''⟩ := hw'
                    subst hw''
                    go_wp2_with fail
                    exact ⟨⟨j + 1, by omega, by omega, by simp, bnext HB.out (below_regrown _ _ _), HE.out⟩, by simp [intOf]; omega⟩
                  | true =>
                    cases q2 with
                    | true =>
                      have HE := Lib.hid (HNX.out (by rw [HV3.out]; rfl))
                      clear HNX HFV HV3
                      go_wp2_with fail
                      refine wp_region_quiet_below (by kernel_rfl) (by kernel_rfl) ?_
                      repeat (any_goals (first | go_big_quiet_step ((first | (go_at_call 39; exact Calls.regrown_of (hc1.out _ _)) | (go_at_call 40; exact Calls.regrown_of (hc2.out _ _)))) | quiet_step ((first | (go_at_call 39; exact Calls.regrown_of (hc1.out _ _)) | (go_at_call 40; exact Calls.regrown_of (hc2.out _ _))))))
                      refine wpQuiet_nil ?_
                      intro _ hw'
                      obtain ⟨⟨dq, osq⟩, hw''⟩ := hw'
                      subst hw''
                      go_wp2_with fail
                      exact ⟨⟨j + 1, by omega, by omega, by simp, bnext HB.out (below_regrown _ _ _), HE.out⟩, by simp [intOf]; omega⟩
                    | false =>
                      have HQ := Lib.hid (HFV.out (by rw [HV3.out]; rfl))
                      clear HNX HFV HV3
                      go_wp2_with fail
                      refine wp_region_quiet_below (by kernel_rfl) (by kernel_rfl) ?_
                      repeat (any_goals (first | go_big_quiet_step ((first | (go_at_call 39; exact Calls.regrown_of (hc1.out _ _)) | (go_at_call 40; exact Calls.regrown_of (hc2.out _ _)))) | quiet_step ((first | (go_at_call 39; exact Calls.regrown_of (hc1.out _ _)) | (go_at_call 40; exact Calls.regrown_of (hc2.out _ _))))))
                      refine wpQuiet_nil ?_
                      intro _ hw'
                      obtain ⟨⟨dq, osq⟩, hw''⟩ := hw'
                      subst hw''
                      go_wp2_with fail
                      exact bodyPost_ret (v := .tuple #[.int .i64 n, .int .i64 i, .int .i64 j]) (by simp [results, Tryd.results10, go_sem]) rfl ⟨by rw [HQ.out], bnext HB.out (below_regrown _ _ _)⟩
                · have HE := Lib.hid (HNX.out (by rw [HV2.out, decide_eq_false e2]; simp))
                  have q : (yr == kr) = false := beq_eq_false_iff_ne.2 e2
                  subst e1
                  clear HNX HFV HV2 e2
                  go_wp2_with fail
                  refine wp_region_quiet_below (by kernel_rfl) (by kernel_rfl) ?_
                  repeat (any_goals (first | go_big_quiet_step ((first | (go_at_call 39; exact Calls.regrown_of (hc1.out _ _)) | (go_at_call 40; exact Calls.regrown_of (hc2.out _ _)))) | quiet_step ((first | (go_at_call 39; exact Calls.regrown_of (hc1.out _ _)) | (go_at_call 40; exact Calls.regrown_of (hc2.out _ _))))))
                  refine wpQuiet_nil ?_
                  intro _ hw'
                  obtain ⟨⟨dq, osq⟩, hw''⟩ := hw'
                  subst hw''
                  go_wp2_with fail
                  exact ⟨⟨j + 1, by omega, by omega, by simp, bnext HB.out (below_regrown _ _ _), HE.out⟩, by simp [intOf]; omega⟩
              · have HE := Lib.hid (HNX.out (by rw [HV2.out, decide_eq_false e1]; rfl))
                have q : (xr == kr) = false := beq_eq_false_iff_ne.2 e1
                clear HNX HFV HV2 e1
                go_wp2_with fail
                refine wp_region_quiet_below (by kernel_rfl) (by kernel_rfl) ?_
                repeat (any_goals (first | go_big_quiet_step ((first | (go_at_call 39; exact Calls.regrown_of (hc1.out _ _)) | (go_at_call 40; exact Calls.regrown_of (hc2.out _ _)))) | quiet_step ((first | (go_at_call 39; exact Calls.regrown_of (hc1.out _ _)) | (go_at_call 40; exact Calls.regrown_of (hc2.out _ _))))))
                refine wpQuiet_nil ?_
                intro _ hw'
                obtain ⟨⟨dq, osq⟩, hw''⟩ := hw'
                subst hw''
                go_wp2_with fail
                exact ⟨⟨j + 1, by omega, by omega, by simp, bnext HB.out (below_regrown _ _ _), HE.out⟩, by simp [intOf]; omega⟩
            · obtain rfl : j = dn := by omega
              have HE : Hid (NoneTo db ks n (i + 1) (i + 1 + 1)) := none_i (by rw [HDL.out]; exact HJ.out)
              clear hb
              go_wp2_with fail
              exact ⟨⟨i + 1, by omega, by simp, HB.out, HE.out⟩, by simp [intOf]; omega⟩
        · obtain rfl : i = dn := by omega
          have HE : Hid (NoneTo db ks (n + 1) 0 0) := none_n HI.out (by rw [HDL.out]; exact Nat.le_refl _)
          go_wp2_with fail
          exact ⟨⟨n + 1, by omega, by simp, HBI.out, HE.out⟩, by simp [intOf]; omega⟩
    · obtain rfl : n = kn := by omega
      have HQ := Lib.hid (none_all (db := db) (ks := ks) (by rw [HKL.out]; exact HN.out))
      go_wp2_with fail
      exact bodyPost_ret (v := .tuple #[.int .i64 (-1), .int .i64 (-1), .int .i64 (-1)]) (by simp [results, Tryd.results10, go_sem]) rfl ⟨by rw [HQ.out], HBN.out⟩
end Go.Proofs.YtnbljidjbknleaaDoor
