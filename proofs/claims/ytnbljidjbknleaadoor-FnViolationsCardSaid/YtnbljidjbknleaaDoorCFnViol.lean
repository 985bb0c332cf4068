/- FnViolations: the law's walk, over what impl.FirstViolation and impl.HoldsKey answer. -/
import Derived.Test.YtnbljidjbknleaaDoorDv12
import Derived.Test.YtnbljidjbknleaaDoorS12c
namespace Go.Proofs.YtnbljidjbknleaaDoor
open Go Go.Sort Go.RowKit
set_option linter.unusedVariables false

theorem least12 {p : Nat → Prop} (h : ∃ n, p n) : ∃ n, p n ∧ ∀ m, p m → n ≤ m := by
  obtain ⟨n, hn⟩ := h
  induction n using Nat.strongRecOn with
  | ind n ih =>
    by_cases hm : ∃ m, m < n ∧ p m
    · obtain ⟨m, h1, h2⟩ := hm; exact ih m h1 h2
    · exact ⟨n, hn, fun m h2 => Nat.le_of_not_lt (fun h1 => hm ⟨m, h1, h2⟩)⟩
theorem fv_cases (db ks : List AtomD) : (∃ n i j, FirstV db ks n i j ∧ fvN db ks = ((n : Int), (i : Int), (j : Int))) ∨ ((∀ n i j, i < j → violB db ks n i j = false) ∧ fvN db ks = (-1, -1, -1)) := by
  by_cases h : ∃ n, ∃ i j, i < j ∧ violB db ks n i j = true
  · obtain ⟨n, ⟨hn, hmn⟩⟩ := least12 (p := fun n => ∃ i j, i < j ∧ violB db ks n i j = true) h
    obtain ⟨i, ⟨hi, hmi⟩⟩ := least12 (p := fun i => ∃ j, i < j ∧ violB db ks n i j = true) hn
    obtain ⟨j, ⟨hj, hmj⟩⟩ := least12 (p := fun j => i < j ∧ violB db ks n i j = true) hi
    have hF : FirstV db ks n i j := ⟨hj.2, hj.1, fun n' i' j' h1 h2 => by
      have a1 := hmn n' ⟨i', j', h1, h2⟩
      rcases Nat.lt_or_ge n n' with h3 | h3
      · exact .inl h3
      · have e : n = n' := by omega
        subst e
        have a2 := hmi i' ⟨j', h1, h2⟩
        rcases Nat.lt_or_ge i i' with h4 | h4
        · exact .inr ⟨rfl, .inl h4⟩
        · have e : i = i' := by omega
          subst e
          exact .inr ⟨rfl, .inr ⟨rfl, hmj j' ⟨h1, h2⟩⟩⟩⟩
    exact .inl ⟨n, i, j, hF, fv_at hF⟩
  · have hN : ∀ n i j, i < j → violB db ks n i j = false := fun n i j h1 => by
      cases hv : violB db ks n i j with
      | false => rfl
      | true => exact absurd ⟨n, i, j, h1, hv⟩ h
    exact .inr ⟨hN, fv_none hN⟩
theorem viol_one {db ks : List AtomD} {n : Nat} {k : AtomD} (h : ks[n]? = some k) (i j : Nat) : violB db [k] 0 i j = violB db ks n i j := by
  unfold violB; rw [h]; rfl
theorem holds_yes {db ks : List AtomD} (h : ∀ n i j, i < j → violB db ks n i j = false) {n : Nat} {k : AtomD} (hk : ks[n]? = some k) : holdsB db k = true := by
  unfold holdsB
  rw [fv_none (fun n' i j h1 => ?_)]
  · rfl
  · cases n' with
    | zero => rw [viol_one hk]; exact h n i j h1
    | succ n' => cases hv : violB db [k] (n' + 1) i j with
      | false => rfl
      | true => have := (viol_in hv).1; simp at this
theorem holds_no {db ks : List AtomD} {n i j : Nat} {k : AtomD} (hk : ks[n]? = some k) (h1 : i < j) (hv : violB db ks n i j = true) : holdsB db k = false := by
  unfold holdsB
  rcases fv_cases db [k] with ⟨n', i', j', _, e⟩ | ⟨h2, _⟩
  · rw [e]; exact decide_eq_false (by show ¬ ((i' : Int) < 0); omega)
  · rw [← viol_one hk] at hv; rw [h2 0 i j h1] at hv; cases hv
theorem size_of12 {l : List AtomD} {n m : Nat} (h1 : l.length ≤ n) (h2 : ∀ x ∈ l, x.2.length ≤ m) : sizeAtomS l ≤ n * (m + 1) := by
  have : ∀ l : List AtomD, (∀ x ∈ l, x.2.length ≤ m) → sizeAtomS l ≤ l.length * (m + 1) := by
    intro l
    unfold sizeAtomS sumArgs
    induction l with
    | nil => intro _; simp
    | cons x l ih =>
      intro h
      have a1 := ih (fun y hy => h y (List.mem_cons_of_mem _ hy))
      have a2 := h x (by simp)
      simp only [List.map_cons, List.sum_cons, List.length_cons, Nat.add_mul, Nat.one_mul] at a1 ⊢
      omega
  exact Nat.le_trans (this l h2) (Nat.mul_le_mul_right _ h1)

theorem bigV_any (w : World) (a : Option Addr) (len cap : Nat) :
    Calls Tryd.prog 7 #[.slice a len cap] w (fun e w' => e = .returned (.bool (decide ((1048576 : Int) < (len : Int)))) ∧ w' = w) := by
  go_enter Tryd.func7, Tryd.ntmps7
  go_wp2_with fail
  go_ret
  exact ⟨rfl, rfl⟩

set_option maxRecDepth 100000 in
set_option maxHeartbeats 16000000 in
theorem core_FnViolations (Env : World → Prop) (henv : ∀ w w', Env w → Below w.heap.size w w' → Env w') (w : World) (he : Env w) (ca : Option Addr) (len cap : Nat) (hA : Arg w (.slice ca len cap) len)
    (hif : ∀ w vd vk db ks, Env w → RdAtomS w vd db → RdAtomS w vk ks → sizeAtomS db ≤ 1048576 → sizeAtomS ks ≤ 1048576 → Calls Tryd.prog 9 #[vd, vk] w (GaveV (.tuple #[.int .i64 (fvN db ks).1, .int .i64 (fvN db ks).2.1, .int .i64 (fvN db ks).2.2]) w))
    (hih : ∀ w vd v db r l, RdAtomS w vd db → inI r → Ints w v l → sizeAtomS db ≤ 1048576 → l.length ≤ 1048576 → Calls Tryd.prog 11 #[vd, .agg #[.int .i64 r, v]] w (GaveBool w (holdsB db (r, l)))) :
    Calls Tryd.prog 3 #[.slice ca len cap] w (GaveBool w true) := by
  have hbg := Lib.hid (fun w => bigV_any w ca len cap)
  have HA := Lib.hid hA
  have hIF := Lib.hid hif
  have HENV := Lib.hid henv
  have HE9 := Lib.hid he
  have hIH := Lib.hid hih
  clear hif hih he henv
  by_cases hbig : (1048576 : Int) < (len : Int)
  · rw [decide_eq_true hbig] at hbg
    clear hA hbig
    go_enter Tryd.func3, Tryd.ntmps3
    go_wp2_with fail
    refine (hbg.out w).mono ?_
    rintro e w1 ⟨rfl, rfl⟩
    go_wp2_with fail
    go_ret
    exact ⟨rfl, Below.refl _ _⟩
  rw [decide_eq_false hbig] at hbg
  have hd1 := Lib.hid (fun w h => drawFirstV_any w (.slice ca len cap) len h)
  have hd2 := Lib.hid (fun w h => drawHoldsKey_any w (.slice ca len cap) len h)
  have hsF := Lib.hid (fun w vd vk db ks h1 h2 => sFirstV_any w vd vk db ks h1 h2)
  have hsH := Lib.hid (fun w vd r v db l h1 h2 h3 => sHoldsKey_any w vd r v db l h1 h2 h3)
  clear hA hbig
  go_enter Tryd.func3, Tryd.ntmps3
  go_wp2_with fail
  refine (hbg.out w).mono ?_
  rintro e w1 ⟨rfl, rfl⟩
  go_wp2_with fail
  refine (hd1.out _ HA.out).mono ?_
  rintro e w2 ⟨v, db, v2, ks, rfl, hdb, hd8, hd3, hks, hk2, hk3, hb2⟩
  have HDZ := Lib.hid (size_of12 hd8 hd3)
  have HKZ := Lib.hid (size_of12 hk2 hk3)
  have HB2 := Lib.hid hb2
  have HDB := Lib.hid hdb
  have HKS := Lib.hid hks
  obtain ⟨da, dn, dc, rfl, hds⟩ := hdb
  obtain ⟨ka, kn, kc, rfl, hkss⟩ := hks
  obtain ⟨hdl, hdn, hdm, hdcell⟩ := hds.at
  obtain ⟨hkl, hkn, hkm, hkcell⟩ := hkss.at
  unfold maxLen at hdm hkm
  have HDC := Lib.hid hdcell
  have HKC := Lib.hid hkcell
  have HDL := Lib.hid hdl
  have HKL := Lib.hid hkl
  have HKA := Lib.hid hk3
  clear hb2 hds hkss hdcell hkcell hdl hkl hd8 hd3 hk2 hk3
  have hc1 := Lib.hid (fun W hb => hIF.out W _ _ _ _ (HENV.out _ _ (HENV.out _ _ HE9.out HB2.out) hb) (RdAtomS.below HDB.out hb) (RdAtomS.below HKS.out hb) (by have := HDZ.out; omega) (by have := HKZ.out; omega))
  have hc2 := Lib.hid (fun W hb => hsF.out W _ _ _ _ (RdAtomS.below HDB.out hb) (RdAtomS.below HKS.out hb))
  rcases fv_cases db ks with ⟨n, i, j, hF, hE⟩ | ⟨hN, hE⟩
  · rw [hE] at hc1 hc2
    obtain ⟨hn1, hi1, hj1⟩ := viol_in hF.1
    obtain ⟨k, hkk⟩ : ∃ e, ks[n]? = some e := ⟨ks[n], List.getElem?_eq_getElem hn1⟩
    obtain ⟨x, hxx⟩ : ∃ e, db[i]? = some e := ⟨db[i], List.getElem?_eq_getElem hi1⟩
    obtain ⟨y, hyy⟩ : ∃ e, db[j]? = some e := ⟨db[j], List.getElem?_eq_getElem hj1⟩
    have hHN : holdsB db k = false := holds_no hkk hF.2.1 hF.1
    have hv := (viol_at hkk hxx hyy).symm.trans hF.1
    simp only [Bool.and_eq_true, decide_eq_true_eq] at hv
    obtain ⟨e1, e2, _⟩ := hv
    have hij := hF.2.1
    rw [HDL.out] at hi1 hj1
    rw [HKL.out] at hn1
    obtain ⟨db0, do0, rfl, hdw, hdc⟩ := HDC.out (by omega)
    obtain ⟨kb0, ko0, rfl, hkw, hkc⟩ := HKC.out (by omega)
    obtain ⟨xa, xm, xc, x0, x1, _, xints⟩ := atomAt (n := dn) hdc i x hxx
    obtain ⟨ya, ym, yc, y0, y1, _, yints⟩ := atomAt (n := dn) hdc j y hyy
    obtain ⟨kea, kem, kec, k0, k1, hki, kints⟩ := atomAt (n := kn) hkc n k hkk
    rw [e1] at x0
    rw [e2] at y0
    have hkz : k.2.length ≤ 1048576 := by have := HKA.out k (List.mem_of_getElem? hkk); omega
    have HCL := Lib.hid (fun W (hb : Below w2.heap.size w2 W) => (⟨cellk hb x0, cellk hb y0, cellk hb k0, cellk hb k1⟩ : W.cell? ⟨db0, do0 + i * 2, none⟩ = some (.int .i64 k.1) ∧ W.cell? ⟨db0, do0 + j * 2, none⟩ = some (.int .i64 k.1) ∧ W.cell? ⟨kb0, ko0 + n * 2, none⟩ = some (.int .i64 k.1) ∧ W.cell? ⟨kb0, ko0 + n * 2 + 1, none⟩ = some (.slice kea kem kec)))
    have HH := Lib.hid (fun W hb => hIH.out W _ _ _ k.1 k.2 (RdAtomS.below HDB.out hb) hki (kints.below hb) (by have := HDZ.out; omega) hkz)
    rw [show ((k.1, k.2) : AtomD) = k from rfl, hHN] at HH
    have hn0 : (0 : Int) ≤ n := by omega
    have hn2 : (n : Int) < kn := by omega
    have hi0 : (0 : Int) ≤ i := by omega
    have hi2 : (i : Int) < dn := by omega
    have hj0 : (0 : Int) ≤ j := by omega
    have hj2 : (j : Int) < dn := by omega
    have hij2 : (i : Int) < j := by omega
    have hij3 : decide ((i : Int) < j) = true := decide_eq_true hij2
    have hn3 : ¬ ((n : Int) < 0) := by omega
    clear hE hF hkk hxx hyy hHN hdw hdc hkw hkc x0 x1 y0 y1 k0 k1 xints yints kints hki hkz e1 e2 hij hn1 hi1 hj1
    generalize k.1 = kr at *
    go_wp2_with fail
    refine (hc1.out w2 (Below.refl _ _)).mono ?_
    rintro e w3 ⟨rfl, hb⟩
    have HB3 := Lib.hid hb
    clear hb
    go_wp2_with fail
    refine (hc2.out w3 HB3.out).mono ?_
    rintro e w4 ⟨rfl, hb⟩
    have HB4 := Lib.hid (bnext HB3.out hb)
    clear hb
    go_wp2_with fail
    refine (hd2.out w4 (HA.out.below (bnext HB2.out HB4.out))).mono ?_
    rintro e w5 ⟨xv, xl, r, kv, kl, rfl, hxl, hx8, hx3, hri, hkl, hk3, hb⟩
    obtain ⟨kva, kvn, kvc, rfl⟩ := hkl.shape
    have HXZ := Lib.hid (size_of12 hx8 hx3)
    obtain ⟨w6, hw6⟩ : ∃ x, x = w5.alloc (.cells #[.int .i64 r, .slice kva kvn kvc] 33) := ⟨_, rfl⟩
    obtain ⟨fb, hfb⟩ : ∃ x, x = w5.heap.size := ⟨_, rfl⟩
    have hba : Below w5.heap.size w5 w6 := by rw [hw6]; exact below_alloc w5 _
    have b0 : w6.cell? ⟨fb, 0, none⟩ = some (.int .i64 r) := by rw [hw6, hfb]; simp
    have b1 : w6.cell? ⟨fb, 1, none⟩ = some (.slice kva kvn kvc) := by rw [hw6, hfb]; simp
    have HB6 := Lib.hid (bnext HB4.out (bnext hb hba))
    have HCB := Lib.hid (fun W (hb : Below w6.heap.size w6 W) => (⟨cellk hb b0, cellk hb b1⟩ : W.cell? ⟨fb, 0, none⟩ = some (.int .i64 r) ∧ W.cell? ⟨fb, 1, none⟩ = some (.slice kva kvn kvc)))
    have HXL := Lib.hid (RdAtomS.below hxl hba)
    have HKV := Lib.hid (hkl.below hba)
    have hkz : kl.length ≤ 1048576 := by omega
    have H1 := Lib.hid (fun W hb => hIH.out W _ _ _ r kl (RdAtomS.below HXL.out hb) hri (HKV.out.below hb) (by have := HXZ.out; omega) hkz)
    have H2 := Lib.hid (fun W hb => hsH.out W _ r _ _ kl (RdAtomS.below HXL.out hb) hri (HKV.out.below hb))
    obtain ⟨q, hq⟩ : ∃ q, holdsB xl (r, kl) = q := ⟨_, rfl⟩
    rw [hq] at H1 H2
    have HW6 := Lib.hid hw6
    have HFB := Lib.hid hfb
    clear hba b0 b1 hxl hkl hkz hri hx8 hx3 hk3 hb hq hw6 hfb
    go_upto_region 16 with fail
    rw [← HW6.out, ← HFB.out]
    clear HW6 HFB
    have HDRW := Lib.hid (Below.refl w6.heap.size w6).drew
    obtain ⟨d1, d2, d3, d4⟩ := HCL.out _ (bnext HB6.out HDRW.out)
    obtain ⟨d5, d6⟩ := HCB.out _ HDRW.out
    cases q
    all_goals
      go_region_held3 (fun w' => w'.cell? ⟨db0, do0 + i * 2, none⟩ = some (.int .i64 kr) ∧ w'.cell? ⟨db0, do0 + j * 2, none⟩ = some (.int .i64 kr) ∧ w'.cell? ⟨kb0, ko0 + n * 2, none⟩ = some (.int .i64 kr) ∧ w'.cell? ⟨kb0, ko0 + n * 2 + 1, none⟩ = some (.slice kea kem kec) ∧ w'.cell? ⟨fb, 0, none⟩ = some (.int .i64 r) ∧ w'.cell? ⟨fb, 1, none⟩ = some (.slice kva kvn kvc) ∧ Below w6.heap.size w6 w')
        ((first | with_reducible exact ⟨p1, p2, p3, p4, p5, p6, HEc.out⟩ | with_reducible exact ⟨n1, n2, n3, n4, n5, n6, HEb.out⟩ | with_reducible exact ⟨m1, m2, m3, m4, m5, m6, HEa.out⟩ | with_reducible exact ⟨d1, d2, d3, d4, d5, d6, HDRW.out⟩))
        (first
        | (go_simp; go_at_call 11; (with_reducible refine (HH.out _ (bnext HB6.out HDRW.out)).mono ?_); rintro e2 wa ⟨rfl, hba⟩; have HEa := Lib.hid (bnext HDRW.out hba); obtain ⟨m1, m2, m3, m4⟩ := HCL.out _ (bnext HB6.out HEa.out); obtain ⟨m5, m6⟩ := HCB.out _ HEa.out; clear hba)
        | (go_simp; go_at_call 11; (with_reducible refine (H1.out _ HEa.out).mono ?_); rintro e3 wb ⟨rfl, hbb⟩; have HEb := Lib.hid (bnext HEa.out hbb); obtain ⟨n1, n2, n3, n4⟩ := HCL.out _ (bnext HB6.out HEb.out); obtain ⟨n5, n6⟩ := HCB.out _ HEb.out; clear hbb)
        | (go_simp; go_at_call 13; (with_reducible refine (H2.out _ HEb.out).mono ?_); rintro e4 wx ⟨rfl, hbx⟩; have HEc := Lib.hid (bnext HEb.out hbx); obtain ⟨p1, p2, p3, p4⟩ := HCL.out _ (bnext HB6.out HEc.out); obtain ⟨p5, p6⟩ := HCB.out _ HEc.out; clear hbx))
      all_goals (go_wp2_with fail)
      all_goals go_ret
      all_goals exact ⟨rfl, bnext HB2.out (bnext HB6.out HEc.out)⟩
  · rw [hE] at hc1 hc2
    have HN := Lib.hid hN
    clear hE hN hd2 hsH
    go_wp2_with fail
    refine (hc1.out w2 (Below.refl _ _)).mono ?_
    rintro e w3 ⟨rfl, hb⟩
    have HB3 := Lib.hid hb
    clear hb
    go_wp2_with fail
    refine (hc2.out w3 HB3.out).mono ?_
    rintro e w4 ⟨rfl, hb⟩
    have HB4 := Lib.hid (bnext HB3.out hb)
    clear hb
    go_wp2_with fail
    go_loopw [11] (fun jv wr => ∃ j : Nat, j ≤ kn ∧ jv = .int .i64 j ∧ Below w2.heap.size w2 wr) (fun jv _ => kn - (intOf jv).toNat)
    case atStart => exact ⟨0, by omega, rfl, HB4.out⟩
    case round =>
      obtain ⟨j, hj, rfl, hb⟩ := hrel
      have HB := Lib.hid hb
      by_cases hlt : j < kn
      · obtain ⟨kb0, ko0, rfl, hkw, hkc⟩ := HKC.out (by omega)
        obtain ⟨k, hkk⟩ : ∃ e, ks[j]? = some e := ⟨ks[j]'(by rw [HKL.out]; exact hlt), List.getElem?_eq_getElem (by rw [HKL.out]; exact hlt)⟩
        obtain ⟨kea, kem, kec, k0, k1, hki, kints⟩ := atomAt (n := kn) hkc j k hkk
        replace k0 := cellk hb k0
        replace k1 := cellk hb k1
        have hkz : k.2.length ≤ 1048576 := by have := HKA.out k (List.mem_of_getElem? hkk); omega
        have hcall := Lib.hid (hIH.out wr _ _ _ k.1 k.2 (RdAtomS.below HDB.out hb) hki (kints.below hb) (by have := HDZ.out; omega) hkz)
        rw [show ((k.1, k.2) : AtomD) = k from rfl, holds_yes HN.out hkk] at hcall
        have hj0 : (0 : Int) ≤ j := by omega
        have hj1 : (j : Int) < kn := by omega
        clear hkw hkc hkk kints hki hkz hb
        generalize k.1 = kr at *
        go_wp2_with fail
        refine hcall.out.mono ?_
        rintro e w5 ⟨rfl, hb⟩
        have HB5 := Lib.hid (bnext HB.out hb)
        clear hb
        go_wp2_with fail
        exact ⟨⟨j + 1, by omega, by simp, HB5.out⟩, by simp [intOf]; omega⟩
      · obtain rfl : j = kn := by omega
        clear hb
        go_wp2_with fail
        go_ret
        exact ⟨rfl, bnext HB2.out HB.out⟩
end Go.Proofs.YtnbljidjbknleaaDoor
