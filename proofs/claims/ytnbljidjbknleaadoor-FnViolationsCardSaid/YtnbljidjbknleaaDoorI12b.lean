/- Contracts of impl's agree, violate, checkKey, HoldsKey. -/
import Derived.Test.YtnbljidjbknleaaDoorI5fd
import Derived.Test.YtnbljidjbknleaaDoorS12c
import Derived.Lib.QuietBelow
import Derived.Test.YtnbljidjbknleaaDoorBox3
namespace Go.Proofs.YtnbljidjbknleaaDoor
open Go Go.Sort Go.RowKit
set_option linter.unusedVariables false

set_option maxHeartbeats 4000000 in
theorem iAgree_any (w : World) (r1 r2 : Int) (va vb vl : Value) (a b l : List Int) (ha : Ints w va a) (hb : Ints w vb b) (hl : Ints w vl l) :
    Calls Tryd.prog 90 #[.agg #[.int .i64 r1, va], .agg #[.int .i64 r2, vb], vl] w (GaveBool w (agreeB a b l)) := by
  obtain ⟨pa, na, ca, rfl, hla, hna, hma, hca⟩ := ha.cases
  obtain ⟨pb, nb, cb, rfl, hlb, hnb, hmb, hcb⟩ := hb.cases
  obtain ⟨pl, n, cl, rfl, hll, hn, hm, hcl⟩ := hl.cases
  unfold maxLen at hma hmb hm
  have hb0 : ∀ a b, Below w.heap.size w ((w.alloc a).alloc b) := fun a b => ((Below.refl _ _).alloc (Nat.le_refl _) _).alloc (by simp) _
  have HB0 := Lib.hid hb0
  have HCA := Lib.hid hca
  have HCB := Lib.hid hcb
  have HCL := Lib.hid hcl
  have HLA := Lib.hid hla
  have HLB := Lib.hid hlb
  have HLL := Lib.hid hll
  clear ha hb hl hca hcb hcl hla hlb hll hb0
  go_enter Tryd.func90, Tryd.ntmps90
  go_wp2_with fail
  obtain ⟨W, hW⟩ : ∃ W, W = ((w.alloc (.cells #[.int .i64 r1, .slice pa na ca] 37)).alloc (.cells #[.int .i64 r2, .slice pb nb cb] 37)) := ⟨_, rfl⟩
  have K0 : Hid (W.cell? ⟨w.heap.size, 1, none⟩ = some (.slice pa na ca)) := Lib.hid (by rw [hW]; simp)
  have K1 : Hid (W.cell? ⟨w.heap.size + 1, 1, none⟩ = some (.slice pb nb cb)) := Lib.hid (by rw [hW]; simp)
  have HBW : Hid (Below w.heap.size w W) := Lib.hid (by rw [hW]; exact HB0.out _ _)
  rw [← hW]
  clear hW
  go_loopw [11] (fun iv wr => ∃ i : Nat, i ≤ n ∧ iv = .int .i64 i ∧ Below W.heap.size W wr ∧ Hid (∀ j, j < i → agreeAt a b (l.getD j 0) = true)) (fun iv _ => n - (intOf iv).toNat)
  case atStart => exact ⟨0, by omega, rfl, Below.refl _ _, fun j hj => by omega⟩
  case round =>
    obtain ⟨i, hi, rfl, hb, HE⟩ := hrel
    have HB := Lib.hid (bnext HBW.out hb)
    have HBL := Lib.hid hb
    by_cases hlt : i < n
    · obtain ⟨bl, ol, rfl, hbw, hc⟩ := HCL.out (by omega)
      have c1 := cellk HB.out (hc i hlt)
      have k0 := cell_regrown (w := wr) (cellk hb K0.out)
      have k1 := cell_regrown (w := wr) (cellk hb K1.out)
      have hi0 : (0 : Int) ≤ i := by omega
      have hi1 : (i : Int) < n := by omega
      have HNO : Hid (agreeAt a b (l.getD i 0) = false → agreeB a b l = false) := fun h => agree_no i (by rw [HLL.out]; exact hlt) h
      have HY : Hid (agreeAt a b (l.getD i 0) = true → ∀ j, j < i + 1 → agreeAt a b (l.getD j 0) = true) := fun h j hj => by
        rcases Nat.lt_or_ge j i with h7 | h7
        · exact HE.out j h7
        · obtain rfl : j = i := by omega
          exact h
      generalize l.getD i 0 = p at *
      clear hc hbw HE
      by_cases hp : p < 0
      · have HQ := Lib.hid (HNO.out (by unfold agreeAt inB; rw [decide_eq_false (by omega)]; rfl))
        clear HNO HY hb
        go_wp2_with fail
        refine wp_region_quiet_below (by kernel_rfl) (by kernel_rfl) ?_
        repeat (any_goals (first | go_big_quiet_step (fail) | quiet_step (fail)))
        refine wpQuiet_nil ?_
        intro _ hw'
        obtain ⟨⟨dq, osq⟩, hw''⟩ := hw'
        subst hw''
        go_wp2_with fail
        go_ret
        exact ⟨ret_b HQ.out.symm, bnext HB.out (below_regrown _ _ _)⟩
      · by_cases h1 : p < na
        · have hA0 : 0 ≤ p := by omega
          have hA2 : ¬ ((na : Int) ≤ p) := by omega
          obtain ⟨ba, oa, rfl, _, hca⟩ := HCA.out (by omega)
          have c2 := cell_regrown (w := wr) (cellk HB.out (hca p.toNat (by omega)))
          have HAT : Hid (agreeAt a b p = (decide (p < (nb : Int)) && decide (a.getD p.toNat 0 = b.getD p.toNat 0))) := by
            unfold Hid agreeAt inB; rw [HLA.out, HLB.out, decide_eq_true (by omega : (0 : Int) ≤ p ∧ p ≤ (na : Int) - 1), Bool.true_and]
          clear hca
          by_cases h3 : p < nb
          · obtain ⟨bb, ob, rfl, _, hcb⟩ := HCB.out (by omega)
            have c3 := cell_regrown (w := wr) (cellk HB.out (hcb p.toNat (by omega)))
            have hB2 : ¬ ((nb : Int) ≤ p) := by omega
            have HAT2 : Hid (agreeAt a b p = decide (a.getD p.toNat 0 = b.getD p.toNat 0)) := by unfold Hid; rw [HAT.out, decide_eq_true h3]; rfl
            clear hcb HAT hb
            generalize a.getD p.toNat 0 = x at *
            generalize b.getD p.toNat 0 = y at *
            by_cases h4 : x = y
            · have HE := Lib.hid (HY.out (by rw [HAT2.out, decide_eq_true h4]))
              subst h4
              have q : (x != x) = false := by simp
              clear HNO HY HAT2
              go_wp2_with fail
              refine wp_region_quiet_below (by kernel_rfl) (by kernel_rfl) ?_
              repeat (any_goals (first | go_big_quiet_step (fail) | quiet_step (fail)))
              refine wpQuiet_nil ?_
              intro _ hw'
              obtain ⟨⟨dq, osq⟩, hw''⟩ := hw'
              subst hw''
              go_wp2_with fail
              exact ⟨⟨i + 1, by omega, by simp, bnext HBL.out (below_regrown _ _ _), HE.out⟩, by simp [intOf]; omega⟩
            · have HQ := Lib.hid (HNO.out (by rw [HAT2.out, decide_eq_false h4]))
              have q : (x != y) = true := bne_iff_ne.2 h4
              clear HNO HY HAT2 h4
              go_wp2_with fail
              refine wp_region_quiet_below (by kernel_rfl) (by kernel_rfl) ?_
              repeat (any_goals (first | go_big_quiet_step (fail) | quiet_step (fail)))
              refine wpQuiet_nil ?_
              intro _ hw'
              obtain ⟨⟨dq, osq⟩, hw''⟩ := hw'
              subst hw''
              go_wp2_with fail
              go_ret
              exact ⟨ret_b HQ.out.symm, bnext HB.out (below_regrown _ _ _)⟩
          · have HQ := Lib.hid (HNO.out (by rw [HAT.out, decide_eq_false (by omega)]; rfl))
            have hB2 : (nb : Int) ≤ p := by omega
            clear HNO HY HAT hb
            go_wp2_with fail
            refine wp_region_quiet_below (by kernel_rfl) (by kernel_rfl) ?_
            repeat (any_goals (first | go_big_quiet_step (fail) | quiet_step (fail)))
            refine wpQuiet_nil ?_
            intro _ hw'
            obtain ⟨⟨dq, osq⟩, hw''⟩ := hw'
            subst hw''
            go_wp2_with fail
            go_ret
            exact ⟨ret_b HQ.out.symm, bnext HB.out (below_regrown _ _ _)⟩
        · have HQ := Lib.hid (HNO.out (by unfold agreeAt inB; rw [HLA.out, decide_eq_false (by omega)]; rfl))
          have hA2 : (na : Int) ≤ p := by omega
          clear HNO HY hb h1
          go_wp2_with fail
          refine wp_region_quiet_below (by kernel_rfl) (by kernel_rfl) ?_
          repeat (any_goals (first | go_big_quiet_step (fail) | quiet_step (fail)))
          refine wpQuiet_nil ?_
          intro _ hw'
          obtain ⟨⟨dq, osq⟩, hw''⟩ := hw'
          subst hw''
          go_wp2_with fail
          go_ret
          exact ⟨ret_b HQ.out.symm, bnext HB.out (below_regrown _ _ _)⟩
    · obtain rfl : i = n := by omega
      have HQ := Lib.hid (agree_yes (a := a) (b := b) (l := l) (fun j hj => HE.out j (by rw [← HLL.out]; exact hj)))
      clear hb
      go_wp2_with fail
      go_ret
      exact ⟨ret_b HQ.out.symm, HB.out⟩

/-- x and y violate k. -/
def violF (x y k : AtomD) : Bool := decide (x.1 = k.1) && (decide (y.1 = k.1) && (agreeB x.2 y.2 k.2 && !decide (x = y)))
theorem violF_at {db ks : List AtomD} {n i j : Nat} {k x y : AtomD} (hk : ks[n]? = some k) (hx : db[i]? = some x) (hy : db[j]? = some y) : violB db ks n i j = violF x y k := by
  rw [viol_at hk hx hy]
  unfold violF
  by_cases h1 : x.1 = k.1
  · by_cases h2 : y.1 = k.1
    · have : decide (x.2 = y.2) = decide (x = y) := decide_eq_decide.2 ⟨fun h => Prod.ext (h1.trans h2.symm) h, fun h => by rw [h]⟩
      rw [this]
    · rw [decide_eq_false h2]; rfl
  · rw [decide_eq_false h1]; rfl
set_option maxHeartbeats 4000000 in
theorem iViolate_any (w : World) (vx vy vk : Value) (x y k : AtomD) (hx : RdAtom w vx x) (hy : RdAtom w vy y) (hk : RdAtom w vk k) :
    Calls Tryd.prog 69 #[vx, vy, vk] w (GaveBool w (violF x y k)) := by
  have HX := Lib.hid hx
  have HY := Lib.hid hy
  have HK := Lib.hid hk
  obtain ⟨xa, xn, xc, rfl, hxi, hxl⟩ := hx
  obtain ⟨ya, yn, yc, rfl, hyi, hyl⟩ := hy
  obtain ⟨ka, kn, kc, rfl, hki, hkl⟩ := hk
  have hb0 : ∀ a b c, Below w.heap.size w (((w.alloc a).alloc b).alloc c) := fun a b c => (((Below.refl _ _).alloc (Nat.le_refl _) _).alloc (by simp) _).alloc (by simp; omega) _
  have HB0 := Lib.hid hb0
  have hA := Lib.hid (fun w a b c => iAgree_any w x.1 y.1 (.slice xa xn xc) (.slice ya yn yc) (.slice ka kn kc) x.2 y.2 k.2 a b c)
  have hS := Lib.hid (fun w a b => iSameF_any w (.agg #[.int .i64 x.1, .slice xa xn xc]) (.agg #[.int .i64 y.1, .slice ya yn yc]) x y a b)
  have HXL := Lib.hid hxl
  have HYL := Lib.hid hyl
  have HKL := Lib.hid hkl
  obtain ⟨qa, hqa⟩ : ∃ q, agreeB x.2 y.2 k.2 = q := ⟨_, rfl⟩
  obtain ⟨qs, hqs⟩ : ∃ q, decide (x = y) = q := ⟨_, rfl⟩
  rw [hqa] at hA
  rw [hqs] at hS
  have HV : Hid (violF x y k = (decide (x.1 = k.1) && (decide (y.1 = k.1) && (qa && !qs)))) := by unfold Hid violF; rw [hqa, hqs]
  clear hb0 hxl hyl hkl hqa hqs hxi hyi hki
  have W3 : ∃ W, W = (((w.alloc (.cells #[.int .i64 x.1, .slice xa xn xc] 37)).alloc (.cells #[.int .i64 y.1, .slice ya yn yc] 37)).alloc (.cells #[.int .i64 k.1, .slice ka kn kc] 33)) := ⟨_, rfl⟩
  generalize violF x y k = V at *
  by_cases e1 : x.1 = k.1
  · by_cases e2 : y.1 = k.1
    · have HV3 : Hid (V = (qa && !qs)) := by unfold Hid; rw [HV.out, decide_eq_true e1, decide_eq_true e2]; rfl
      have q1 : (x.1 == k.1) = true := by rw [e1]; simp
      have q2 : (y.1 == k.1) = true := by rw [e2]; simp
      clear e1 e2 HV
      generalize x.1 = xr at *
      generalize y.1 = yr at *
      generalize k.1 = kr at *
      cases qa with
      | false =>
        rw [Bool.false_and] at HV3
        clear W3
        go_enter Tryd.func69, Tryd.ntmps69
        go_wp2_with fail
        refine (hA.out _ (HXL.out.below (HB0.out _ _ _)) (HYL.out.below (HB0.out _ _ _)) (HKL.out.below (HB0.out _ _ _))).mono ?_
        rintro e w1 ⟨rfl, hb⟩
        have HB1 := Lib.hid (bnext (HB0.out _ _ _) hb)
        have x0 := cellk hb (b := w.heap.size) (o := 0) (v := .int .i64 xr) (box1 _ _ _ _ _ _ _ rfl)
        have x1 := cellk hb (b := w.heap.size) (o := 1) (v := .slice xa xn xc) (box1 _ _ _ _ _ _ _ rfl)
        have y0 := cellk hb (b := w.heap.size + 1) (o := 0) (v := .int .i64 yr) (box2 _ _ _ _ _ _ _ rfl)
        have y1 := cellk hb (b := w.heap.size + 1) (o := 1) (v := .slice ya yn yc) (box2 _ _ _ _ _ _ _ rfl)
        clear hb
        go_wp2_with fail
        go_ret
        exact ⟨ret_b HV3.out.symm, HB1.out⟩
      | true =>
        rw [Bool.true_and] at HV3
        clear W3
        go_enter Tryd.func69, Tryd.ntmps69
        go_wp2_with fail
        refine (hA.out _ (HXL.out.below (HB0.out _ _ _)) (HYL.out.below (HB0.out _ _ _)) (HKL.out.below (HB0.out _ _ _))).mono ?_
        rintro e w1 ⟨rfl, hb⟩
        have HB1 := Lib.hid (bnext (HB0.out _ _ _) hb)
        have x0 := cellk hb (b := w.heap.size) (o := 0) (v := .int .i64 xr) (box1 _ _ _ _ _ _ _ rfl)
        have x1 := cellk hb (b := w.heap.size) (o := 1) (v := .slice xa xn xc) (box1 _ _ _ _ _ _ _ rfl)
        have y0 := cellk hb (b := w.heap.size + 1) (o := 0) (v := .int .i64 yr) (box2 _ _ _ _ _ _ _ rfl)
        have y1 := cellk hb (b := w.heap.size + 1) (o := 1) (v := .slice ya yn yc) (box2 _ _ _ _ _ _ _ rfl)
        clear hb
        go_wp2_with fail
        refine (hS.out _ (HX.out.below HB1.out) (HY.out.below HB1.out)).mono ?_
        rintro e w2 ⟨rfl, hb⟩
        have HB2 := Lib.hid (bnext HB1.out hb)
        clear hb
        go_wp2_with fail
        go_ret
        exact ⟨ret_b HV3.out.symm, HB2.out⟩
    · have HV3 : Hid (V = false) := by unfold Hid; rw [HV.out, decide_eq_false e2, Bool.false_and, Bool.and_false]
      have q1 : (x.1 == k.1) = true := by rw [e1]; simp
      have q2 : (y.1 == k.1) = false := beq_eq_false_iff_ne.2 e2
      clear e1 e2 HV
      generalize x.1 = xr at *
      generalize y.1 = yr at *
      generalize k.1 = kr at *
      clear W3
      go_enter Tryd.func69, Tryd.ntmps69
      go_wp2_with fail
      go_ret
      exact ⟨ret_b HV3.out.symm, HB0.out _ _ _⟩
  · have HV3 : Hid (V = false) := by unfold Hid; rw [HV.out, decide_eq_false e1, Bool.false_and]
    have q1 : (x.1 == k.1) = false := beq_eq_false_iff_ne.2 e1
    clear e1 HV
    generalize x.1 = xr at *
    generalize y.1 = yr at *
    generalize k.1 = kr at *
    clear W3
    go_enter Tryd.func69, Tryd.ntmps69
    go_wp2_with fail
    go_ret
    exact ⟨ret_b HV3.out.symm, HB0.out _ _ _⟩

/-- checkKey's answer: the first two facts that violate k, as an error, or nil. -/
def CkE (db : List AtomD) (k : AtomD) (n : Int) (v : Value) : Prop :=
  (∃ i j : Nat, FirstV db [k] 0 i j ∧ v = .iface 70 (.agg #[.int .i64 n, .int .i64 i, .int .i64 j])) ∨ ((∀ i j, i < j → violB db [k] 0 i j = false) ∧ v = .nilIface)
theorem none_row {db : List AtomD} {k : AtomD} (h : NoneTo db [k] 0 db.length (db.length + 1)) : ∀ i j, i < j → violB db [k] 0 i j = false := fun i j h1 => by
  cases hv : violB db [k] 0 i j with
  | false => rfl
  | true =>
    have := viol_in hv
    rw [h 0 i j h1 (by omega)] at hv; cases hv
set_option maxRecDepth 100000 in
set_option maxHeartbeats 8000000 in
theorem iCheckKey_any (w : World) (vd vk : Value) (n : Int) (db : List AtomD) (k : AtomD) (hd : RdAtomS w vd db) (hk : RdAtom w vk k) :
    Calls Tryd.prog 41 #[vd, .int .i64 n, vk] w (fun e w' => ∃ v, e = .returned v ∧ CkE db k n v ∧ Below w.heap.size w w') := by
  have HKR := Lib.hid hk
  obtain ⟨da, dn, dc, rfl, hd⟩ := hd
  obtain ⟨hdl, hdn, hdm, hdcell⟩ := hd.at
  obtain ⟨ka, kn, kc, rfl, hki, hkl⟩ := hk
  unfold maxLen at hdm
  have hb0 : ∀ a, Below w.heap.size w (w.alloc a) := fun a => (Below.refl _ _).alloc (Nat.le_refl _) _
  have HB0 := Lib.hid hb0
  have HDC := Lib.hid hdcell
  have HDL := Lib.hid hdl
  have hV := Lib.hid (fun w vx vy x y a b c => iViolate_any w vx vy (.agg #[.int .i64 k.1, .slice ka kn kc]) x y k a b c)
  have HKK : Hid ([k][0]? = some k) := rfl
  have HI9 := Lib.hid hki
  clear hd hdcell hdl hb0 hki hkl
  obtain ⟨kr, hkr⟩ : ∃ r, k.1 = r := ⟨_, rfl⟩
  rw [hkr] at hV HKR
  have HKR2 := HKR
  rw [hkr]
  clear hkr
  go_enter Tryd.func41, Tryd.ntmps41
  go_wp2_with fail
  obtain ⟨W, hW⟩ : ∃ W, W = w.alloc (.cells #[.int .i64 kr, .slice ka kn kc] 33) := ⟨_, rfl⟩
  have K0 : Hid (W.cell? ⟨w.heap.size, 0, none⟩ = some (.int .i64 kr)) := Lib.hid (by rw [hW]; simp)
  have K1 : Hid (W.cell? ⟨w.heap.size, 1, none⟩ = some (.slice ka kn kc)) := Lib.hid (by rw [hW]; simp)
  have HBW : Hid (Below w.heap.size w W) := Lib.hid (by rw [hW]; exact HB0.out _)
  rw [← hW]
  clear hW
  go_loopw [12] (fun iv wr => ∃ i : Nat, i ≤ dn ∧ iv = .int .i64 i ∧ Below W.heap.size W wr ∧ Hid (NoneTo db [k] 0 i (i + 1))) (fun iv _ => dn - (intOf iv).toNat)
  case atStart => exact ⟨0, by omega, rfl, Below.refl _ _, none_i0 (none_start db [k])⟩
  case round =>
    obtain ⟨wi, hwi⟩ : ∃ x, x = wr := ⟨_, rfl⟩
    subst hwi
    obtain ⟨i, hi, rfl, hb, HI⟩ := hrel
    have HBI := Lib.hid hb
    have HBIw := Lib.hid (bnext HBW.out hb)
    clear hb
    by_cases hlti : i < dn
    · obtain ⟨b, off, rfl, hdw, hdc⟩ := HDC.out (by omega)
      obtain ⟨x, hxx⟩ : ∃ e, db[i]? = some e := ⟨db[i]'(by rw [HDL.out]; exact hlti), List.getElem?_eq_getElem (by rw [HDL.out]; exact hlti)⟩
      obtain ⟨xa, xm, xc, xc0, xc1, hxi, xints⟩ := atomAt (n := dn) hdc i x hxx
      have x0 := cellk HBIw.out xc0
      have x1 := cellk HBIw.out xc1
      have HXI := Lib.hid xints
      have HXI0 := Lib.hid hxi
      have HXX := Lib.hid hxx
      have HDC2 := Lib.hid hdc
      have hi0 : (0 : Int) ≤ i := by omega
      have hi1 : (i : Int) < dn := by omega
      have hwi1 : wrap64 ((i : Int) + 1) = (i : Int) + 1 := by unfold wrap64; omega
      clear hdw hdc xc0 xc1 xints hxx hxi
      obtain ⟨xr, hxr⟩ : ∃ r, x.1 = r := ⟨_, rfl⟩
      rw [hxr] at x0 HXI0
      have HXR := Lib.hid hxr
      clear hxr
      go_wp2_with fail
      obtain ⟨W1, hW1⟩ : ∃ W, W = wi.alloc (.cells #[.int .i64 xr, .slice xa xm xc] 37) := ⟨_, rfl⟩
      have X0 : Hid (W1.cell? ⟨wi.heap.size, 0, none⟩ = some (.int .i64 xr)) := Lib.hid (by rw [hW1]; simp)
      have X1 : Hid (W1.cell? ⟨wi.heap.size, 1, none⟩ = some (.slice xa xm xc)) := Lib.hid (by rw [hW1]; simp)
      have HB1 : Hid (Below W.heap.size W W1) := Lib.hid (by rw [hW1]; exact bnext HBI.out (below_alloc _ _))
      rw [← hW1]
      clear hW1 x0 x1
      go_loopw [9] (fun jv wr => ∃ j : Nat, i < j ∧ j ≤ dn ∧ jv = .int .i64 j ∧ Below W1.heap.size W1 wr ∧ Hid (NoneTo db [k] 0 i j)) (fun jv _ => dn - (intOf jv).toNat)
      case atStart => exact ⟨i + 1, by omega, by omega, by simp, Below.refl _ _, HI.out⟩
      case round =>
        obtain ⟨wj, hwj⟩ : ∃ x, x = wr := ⟨_, rfl⟩
        subst hwj
        obtain ⟨j, hij, hj, rfl, hb, HJ⟩ := hrel
        have HBj := Lib.hid hb
        have HB := Lib.hid (bnext HB1.out hb)
        have HBw := Lib.hid (bnext HBW.out HB.out)
        by_cases hltj : j < dn
        · obtain ⟨y, hyy⟩ : ∃ e, db[j]? = some e := ⟨db[j]'(by rw [HDL.out]; exact hltj), List.getElem?_eq_getElem (by rw [HDL.out]; exact hltj)⟩
          obtain ⟨ya, ym, yc, yc0, yc1, hyi, yints⟩ := atomAt (n := dn) HDC2.out j y hyy
          have k0 := cell_regrown (w := wj) (cellk HB.out K0.out)
          have k1 := cell_regrown (w := wj) (cellk HB.out K1.out)
          have x0 := cell_regrown (w := wj) (cellk hb X0.out)
          have x1 := cell_regrown (w := wj) (cellk hb X1.out)
          have y0 := cell_regrown (w := wj) (cellk HBw.out yc0)
          have y1 := cell_regrown (w := wj) (cellk HBw.out yc1)
          have hj0 : (0 : Int) ≤ j := by omega
          have hj1 : (j : Int) < dn := by omega
          have HVV := Lib.hid (violF_at HKK.out HXX.out hyy)
          have HBR := Lib.hid (fun d os => HBw.out.trans ((below_regrown wj d os).mono HBw.out.size))
          have hc1 := Lib.hid (fun dn os => hV.out (grow (redrawn wj dn) os) (.agg #[.int .i64 x.1, .slice xa xm xc]) (.agg #[.int .i64 y.1, .slice ya ym yc]) x y ⟨xa, xm, xc, rfl, by rw [HXR.out]; exact HXI0.out, HXI.out.below (HBR.out dn os)⟩ ⟨ya, ym, yc, rfl, hyi, yints.below (HBR.out dn os)⟩ (HKR2.out.below (HBR.out dn os)))
          rw [HXR.out] at hc1
          have HNX : Hid (violB db [k] 0 i j = false → NoneTo db [k] 0 i (j + 1)) := fun h => none_j HJ.out h
          have HFV : Hid (violB db [k] 0 i j = true → FirstV db [k] 0 i j) := fun h => none_first HJ.out hij h
          obtain ⟨q1, hq1⟩ : ∃ q, violF x y k = q := ⟨_, rfl⟩
          rw [hq1] at hc1 HVV
          clear hb hyy yc0 yc1 yints HJ HBR hq1 hyi
          generalize y.1 = yr at *
          cases q1 with
          | false =>
            have HE := Lib.hid (HNX.out HVV.out)
            clear HNX HFV HVV
            go_wp2_with fail
            refine wp_region_quiet_below (by kernel_rfl) (by kernel_rfl) ?_
            repeat (any_goals (first | go_big_quiet_step ((first | (go_at_call 69; exact Calls.regrown_of (hc1.out _ _)))) | quiet_step ((first | (go_at_call 69; exact Calls.regrown_of (hc1.out _ _))))))
            refine wpQuiet_nil ?_
            intro _ hw'
            obtain ⟨⟨dq, osq⟩, hw''⟩ := hw'
            subst hw''
            go_wp2_with fail
            exact ⟨⟨j + 1, by omega, by omega, by simp, bnext HBj.out (below_regrown _ _ _), HE.out⟩, by simp [intOf]; omega⟩
          | true =>
            have HE := Lib.hid (HFV.out HVV.out)
            clear HNX HFV HVV
            go_wp2_with fail
            refine wp_region_quiet_below (by kernel_rfl) (by kernel_rfl) ?_
            repeat (any_goals (first | go_big_quiet_step ((first | (go_at_call 69; exact Calls.regrown_of (hc1.out _ _)))) | quiet_step ((first | (go_at_call 69; exact Calls.regrown_of (hc1.out _ _))))))
            refine wpQuiet_nil ?_
            intro _ hw'
            obtain ⟨⟨dq, osq⟩, hw''⟩ := hw'
            subst hw''
            go_wp2_with fail
            go_ret
            exact ⟨_, rfl, .inl ⟨i, j, HE.out, rfl⟩, bnext HBw.out (below_regrown _ _ _)⟩
        · obtain rfl : j = dn := by omega
          have HE : Hid (NoneTo db [k] 0 (i + 1) (i + 1 + 1)) := none_i (by rw [HDL.out]; exact HJ.out)
          clear hb
          go_wp2_with fail
          exact ⟨⟨i + 1, by omega, by simp, HB.out, HE.out⟩, by simp [intOf]; omega⟩
    · obtain rfl : i = dn := by omega
      have HE := Lib.hid (none_row (db := db) (k := k) (by rw [HDL.out]; exact HI.out))
      go_wp2_with fail
      go_ret
      exact ⟨_, rfl, .inr ⟨HE.out, rfl⟩, HBIw.out⟩

theorem holds_of {db : List AtomD} {k : AtomD} {n : Int} {v : Value} (h : CkE db k n v) : (v = .nilIface ∧ holdsB db k = true) ∨ (∃ a, v = .iface 70 a ∧ holdsB db k = false) := by
  rcases h with ⟨i, j, h1, rfl⟩ | ⟨h1, rfl⟩
  · refine .inr ⟨_, rfl, ?_⟩
    unfold holdsB; rw [fv_at h1]; exact decide_eq_false (by show ¬ ((i : Int) < 0); omega)
  · refine .inl ⟨rfl, ?_⟩
    unfold holdsB
    rw [fv_none (fun n' i j h2 => ?_)]
    · rfl
    · cases n' with
      | zero => exact h1 i j h2
      | succ n' => cases hv : violB db [k] (n' + 1) i j with
        | false => rfl
        | true => have := (viol_in hv).1; simp at this
set_option maxHeartbeats 4000000 in
theorem iHoldsKey_any (w : World) (vd : Value) (r : Int) (v : Value) (db : List AtomD) (l : List Int) (hd : RdAtomS w vd db) (hr : inI r) (h : Ints w v l) :
    Calls Tryd.prog 11 #[vd, .agg #[.int .i64 r, v]] w (GaveBool w (holdsB db (r, l))) := by
  have HD := Lib.hid hd
  have HR := Lib.hid hr
  have HI := Lib.hid h
  obtain ⟨a, dn, c, rfl, hd⟩ := hd
  obtain ⟨va, vn, vc, rfl⟩ := h.shape
  have hF := Lib.hid (fun w h1 h2 => iCheckKey_any w (.slice a dn c) (.agg #[.int .i64 r, .slice va vn vc]) 0 db (r, l) h1 h2)
  clear hd h hr
  go_enter Tryd.func11, Tryd.ntmps11
  go_wp2_with fail
  obtain ⟨W, hW⟩ : ∃ W, W = w.alloc (.cells #[.int .i64 r, .slice va vn vc] 33) := ⟨_, rfl⟩
  have hbW : Below w.heap.size w W := by rw [hW]; exact (Below.refl _ _).alloc (Nat.le_refl _) _
  have k0 : W.cell? ⟨w.heap.size, 0, none⟩ = some (.int .i64 r) := by rw [hW]; simp
  have k1 : W.cell? ⟨w.heap.size, 1, none⟩ = some (.slice va vn vc) := by rw [hW]; simp
  rw [← hW]
  have HBW := Lib.hid hbW
  have hcall := Lib.hid (hF.out W (RdAtomS.below HD.out hbW) ⟨_, _, _, rfl, HR.out, HI.out.below hbW⟩)
  clear hW hbW
  refine hcall.out.mono ?_
  rintro e w1 ⟨ve, rfl, hce, hb⟩
  have HB1 := Lib.hid (bnext HBW.out hb)
  have hh := holds_of hce
  clear hb hce hcall
  rcases hh with ⟨rfl, hh⟩ | ⟨ag, rfl, hh⟩
  · have HT := Lib.hid hh
    clear hh
    go_wp2_with fail
    go_ret
    exact ⟨ret_b HT.out.symm, HB1.out⟩
  · have HT := Lib.hid hh
    clear hh
    go_wp2_with fail
    go_ret
    exact ⟨ret_b HT.out.symm, HB1.out⟩
end Go.Proofs.YtnbljidjbknleaaDoor
