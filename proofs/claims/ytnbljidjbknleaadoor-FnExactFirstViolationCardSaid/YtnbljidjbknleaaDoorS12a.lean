/- Keys: what they mean, and contracts of spec's IsKey, AreKeys, l12Agree, FirstViolation, HoldsKey. -/
import Derived.Test.YtnbljidjbknleaaDoorSatom
import Derived.Test.YtnbljidjbknleaaDoorSatoms
import Derived.Lib.QuietBelow
namespace Go.Proofs.YtnbljidjbknleaaDoor
open Go Go.Sort Go.RowKit
set_option linter.unusedVariables false

def agreeAt (a b : List Int) (p : Int) : Bool := inB p 0 ((a.length : Int) - 1) && (decide (p < (b.length : Int)) && decide (a.getD p.toNat 0 = b.getD p.toNat 0))
def agreeB (a b l : List Int) : Bool := l.all (agreeAt a b)
def plK (s : List Int) (r : Int) (l : List Int) (i : Nat) : Bool := inB (l.getD i 0) 0 (s.getD r.toNat 0 - 1) && (decide (i = 0) || decide (l.getD (i - 1) 0 < l.getD i 0))
def isKeyB (s : List Int) (r : Int) (l : List Int) : Bool := isSchemaB s && (inB r 0 ((s.length : Int) - 1) && (inB l.length 1 3 && (List.range l.length).all (plK s r l)))
def areKeysB (s : List Int) (ks : List AtomD) : Bool := ks.all (fun k => isKeyB s k.1 k.2) && (isSchemaB s && decide (ks.length ≤ 4))
theorem key_1 {s l : List Int} {r : Int} (h : isSchemaB s = false) : isKeyB s r l = false := by unfold isKeyB; rw [h]; rfl
theorem key_2 {s l : List Int} {r : Int} (h : inB r 0 ((s.length : Int) - 1) = false) : isKeyB s r l = false := by unfold isKeyB; rw [h, Bool.false_and, Bool.and_false]
theorem key_3 {s l : List Int} {r : Int} (h : inB l.length 1 3 = false) : isKeyB s r l = false := by unfold isKeyB; rw [h, Bool.false_and, Bool.and_false, Bool.and_false]
theorem key_4 {s l : List Int} {r : Int} (i : Nat) (hi : i < l.length) (h : plK s r l i = false) : isKeyB s r l = false := by
  unfold isKeyB
  have : (List.range l.length).all (plK s r l) = false := by rw [List.all_eq_false]; exact ⟨i, List.mem_range.2 hi, by rw [h]; decide⟩
  rw [this, Bool.and_false, Bool.and_false, Bool.and_false]
theorem key_5 {s l : List Int} {r : Int} (h1 : isSchemaB s = true) (h2 : inB r 0 ((s.length : Int) - 1) = true) (h3 : inB l.length 1 3 = true) (h : ∀ i, i < l.length → plK s r l i = true) : isKeyB s r l = true := by
  unfold isKeyB
  have : (List.range l.length).all (plK s r l) = true := List.all_eq_true.2 (fun i hi => h i (List.mem_range.1 hi))
  rw [h1, h2, h3, this]; rfl
theorem agree_no {a b l : List Int} (i : Nat) (hi : i < l.length) (h : agreeAt a b (l.getD i 0) = false) : agreeB a b l = false := all_no i hi h
theorem agree_yes {a b l : List Int} (h : ∀ i, i < l.length → agreeAt a b (l.getD i 0) = true) : agreeB a b l = true := all_yes h

/-- The facts i and j violate the key n. -/
def violB (db ks : List AtomD) (n i j : Nat) : Bool :=
  match ks[n]?, db[i]?, db[j]? with
  | some k, some x, some y => decide (x.1 = k.1) && (decide (y.1 = k.1) && (agreeB x.2 y.2 k.2 && !decide (x.2 = y.2)))
  | _, _, _ => false
theorem viol_at {db ks : List AtomD} {n i j : Nat} {k x y : AtomD} (hk : ks[n]? = some k) (hx : db[i]? = some x) (hy : db[j]? = some y) : violB db ks n i j = (decide (x.1 = k.1) && (decide (y.1 = k.1) && (agreeB x.2 y.2 k.2 && !decide (x.2 = y.2)))) := by
  unfold violB; rw [hk, hx, hy]
/-- The first violation. -/
def FirstV (db ks : List AtomD) (n i j : Nat) : Prop := violB db ks n i j = true ∧ i < j ∧ ∀ n' i' j', i' < j' → violB db ks n' i' j' = true → n < n' ∨ n = n' ∧ (i < i' ∨ i = i' ∧ j ≤ j')
open Classical in
noncomputable def fvN (db ks : List AtomD) : Int × Int × Int := if h : ∃ t : Nat × Nat × Nat, FirstV db ks t.1 t.2.1 t.2.2 then (((Classical.choose h).1 : Int), ((Classical.choose h).2.1 : Int), ((Classical.choose h).2.2 : Int)) else (-1, -1, -1)
theorem fv_at {db ks : List AtomD} {n i j : Nat} (h : FirstV db ks n i j) : fvN db ks = ((n : Int), (i : Int), (j : Int)) := by
  have hE : ∃ t : Nat × Nat × Nat, FirstV db ks t.1 t.2.1 t.2.2 := ⟨(n, i, j), h⟩
  unfold fvN
  rw [dif_pos hE]
  obtain ⟨a1, a2, a3⟩ := Classical.choose_spec hE
  have e1 := h.2.2 _ _ _ a2 a1
  have e2 := a3 _ _ _ h.2.1 h.1
  have : (Classical.choose hE).1 = n ∧ (Classical.choose hE).2.1 = i ∧ (Classical.choose hE).2.2 = j := by omega
  rw [this.1, this.2.1, this.2.2]
theorem fv_none {db ks : List AtomD} (h : ∀ n i j, i < j → violB db ks n i j = false) : fvN db ks = (-1, -1, -1) := by
  unfold fvN
  rw [dif_neg]
  rintro ⟨t, h1, h2, _⟩
  rw [h _ _ _ h2] at h1; cases h1
theorem viol_in {db ks : List AtomD} {n i j : Nat} (h : violB db ks n i j = true) : n < ks.length ∧ i < db.length ∧ j < db.length := by
  unfold violB at h
  split at h
  · rename_i k x y h1 h2 h3
    exact ⟨(List.getElem?_eq_some_iff.1 h1).1, (List.getElem?_eq_some_iff.1 h2).1, (List.getElem?_eq_some_iff.1 h3).1⟩
  · cases h

set_option maxHeartbeats 4000000 in
theorem sAgree_any (w : World) (va vb vl : Value) (a b l : List Int) (ha : Ints w va a) (hb : Ints w vb b) (hl : Ints w vl l) :
    Calls Tryd.prog 39 #[va, vb, vl] w (GaveBool w (agreeB a b l)) := by
  obtain ⟨pa, na, ca, rfl, hla, hna, hma, hca⟩ := ha.cases
  obtain ⟨pb, nb, cb, rfl, hlb, hnb, hmb, hcb⟩ := hb.cases
  obtain ⟨pl, n, cl, rfl, hll, hn, hm, hcl⟩ := hl.cases
  unfold maxLen at hma hmb hm
  have HCA := Lib.hid hca
  have HCB := Lib.hid hcb
  have HCL := Lib.hid hcl
  have HLA := Lib.hid hla
  have HLB := Lib.hid hlb
  have HLL := Lib.hid hll
  clear ha hb hl hca hcb hcl hla hlb hll
  go_enter Tryd.func39, Tryd.ntmps39
  go_wp2_with fail
  go_loopw [7] (fun iv wr => ∃ i : Nat, i ≤ n ∧ iv = .int .i64 i ∧ Below w.heap.size w wr ∧ Hid (∀ j, j < i → agreeAt a b (l.getD j 0) = true)) (fun iv _ => n - (intOf iv).toNat)
  case atStart => exact ⟨0, by omega, rfl, Below.refl _ _, fun j hj => by omega⟩
  case round =>
    obtain ⟨i, hi, rfl, hb, HE⟩ := hrel
    have HB := Lib.hid hb
    by_cases hlt : i < n
    · obtain ⟨bl, ol, rfl, hbw, hc⟩ := HCL.out (by omega)
      have c1 := cell_regrown (w := wr) (cellk hb (hc i hlt))
      have hi0 : (0 : Int) ≤ i := by omega
      have hi1 : (i : Int) < n := by omega
      have HNO : Hid (agreeAt a b (l.getD i 0) = false → agreeB a b l = false) := fun h => agree_no i (by rw [HLL.out]; exact hlt) h
      have HY : Hid (agreeAt a b (l.getD i 0) = true → ∀ j, j < i + 1 → agreeAt a b (l.getD j 0) = true) := fun h j hj => by
        rcases Nat.lt_or_ge j i with h7 | h7
        · exact HE.out j h7
        · obtain rfl : j = i := by omega
          exact h
      generalize l.getD i 0 = p at *
      have hI := Lib.hid (fun w => l1In_any p 0 ((na : Int) - 1) w)
      clear hc hbw HE
      cases h1 : inB p 0 ((na : Int) - 1) with
      | false =>
        have HQ := Lib.hid (HNO.out (by unfold agreeAt; rw [HLA.out, h1]; rfl))
        rw [h1] at hI
        clear h1 HNO HY hb
        go_wp2_with fail
        refine wp_region_quiet_below (by kernel_rfl) (by kernel_rfl) ?_
        repeat (any_goals (first | go_big_quiet_step ((first | (go_at_call 47; exact Calls.regrown_of ((hI.out _).mono fun e w' ⟨he, hw⟩ => ⟨he, by rw [hw]; exact Below.refl _ _⟩)))) | quiet_step ((first | (go_at_call 47; exact Calls.regrown_of ((hI.out _).mono fun e w' ⟨he, hw⟩ => ⟨he, by rw [hw]; exact Below.refl _ _⟩))))))
        refine wpQuiet_nil ?_
        intro _ hw'
        obtain ⟨⟨dq, osq⟩, hw''⟩ := hw'
        subst hw''
        go_wp2_with fail
        go_ret
        exact ⟨ret_b HQ.out.symm, bnext HB.out (below_regrown _ _ _)⟩
      | true =>
        have h2 : 0 ≤ p ∧ p ≤ (na : Int) - 1 := of_decide_eq_true h1
        obtain ⟨m, rfl⟩ := Int.eq_ofNat_of_zero_le h2.1
        have hma1 : m < na := by omega
        have hA0 : (0 : Int) ≤ m := by omega
        have hA1 : (m : Int) < na := by omega
        obtain ⟨ba, oa, rfl, _, hca⟩ := HCA.out (by omega)
        have c2 := cell_regrown (w := wr) (cellk hb (hca m hma1))
        have HAT : Hid (agreeAt a b (m : Int) = (decide ((m : Int) < (nb : Int)) && decide (a.getD m 0 = b.getD m 0))) := by unfold Hid agreeAt; rw [HLA.out, h1, HLB.out, Int.toNat_natCast]; rfl
        rw [h1] at hI
        clear hca h1 h2
        by_cases h3 : m < nb
        · obtain ⟨bb, ob, rfl, _, hcb⟩ := HCB.out (by omega)
          have c3 := cell_regrown (w := wr) (cellk hb (hcb m h3))
          have hB1 : (m : Int) < nb := by omega
          have hB2 : ¬ ((nb : Int) ≤ m) := by omega
          have HAT2 : Hid (agreeAt a b (m : Int) = decide (a.getD m 0 = b.getD m 0)) := by unfold Hid; rw [HAT.out, decide_eq_true hB1]; rfl
          clear hcb HAT hb
          generalize a.getD m 0 = x at *
          generalize b.getD m 0 = y at *
          by_cases h4 : x = y
          · have HE := Lib.hid (HY.out (by rw [HAT2.out, decide_eq_true h4]))
            subst h4
            clear HNO HY HAT2
            go_wp2_with fail
            refine wp_region_quiet_below (by kernel_rfl) (by kernel_rfl) ?_
            repeat (any_goals (first | go_big_quiet_step ((first | (go_at_call 47; exact Calls.regrown_of ((hI.out _).mono fun e w' ⟨he, hw⟩ => ⟨he, by rw [hw]; exact Below.refl _ _⟩)))) | quiet_step ((first | (go_at_call 47; exact Calls.regrown_of ((hI.out _).mono fun e w' ⟨he, hw⟩ => ⟨he, by rw [hw]; exact Below.refl _ _⟩))))))
            refine wpQuiet_nil ?_
            intro _ hw'
            obtain ⟨⟨dq, osq⟩, hw''⟩ := hw'
            subst hw''
            go_wp2_with fail
            exact ⟨⟨i + 1, by omega, by simp, bnext HB.out (below_regrown _ _ _), HE.out⟩, by simp [intOf]; omega⟩
          · have HQ := Lib.hid (HNO.out (by rw [HAT2.out, decide_eq_false h4]))
            have q : (x != y) = true := bne_iff_ne.2 h4
            clear HNO HY HAT2 h4
            go_wp2_with fail
            refine wp_region_quiet_below (by kernel_rfl) (by kernel_rfl) ?_
            repeat (any_goals (first | go_big_quiet_step ((first | (go_at_call 47; exact Calls.regrown_of ((hI.out _).mono fun e w' ⟨he, hw⟩ => ⟨he, by rw [hw]; exact Below.refl _ _⟩)))) | quiet_step ((first | (go_at_call 47; exact Calls.regrown_of ((hI.out _).mono fun e w' ⟨he, hw⟩ => ⟨he, by rw [hw]; exact Below.refl _ _⟩))))))
            refine wpQuiet_nil ?_
            intro _ hw'
            obtain ⟨⟨dq, osq⟩, hw''⟩ := hw'
            subst hw''
            go_wp2_with fail
            go_ret
            exact ⟨ret_b HQ.out.symm, bnext HB.out (below_regrown _ _ _)⟩
        · have HQ := Lib.hid (HNO.out (by rw [HAT.out, decide_eq_false (by omega)]; rfl))
          have hB2 : (nb : Int) ≤ m := by omega
          clear HNO HY HAT hb
          go_wp2_with fail
          refine wp_region_quiet_below (by kernel_rfl) (by kernel_rfl) ?_
          repeat (any_goals (first | go_big_quiet_step ((first | (go_at_call 47; exact Calls.regrown_of ((hI.out _).mono fun e w' ⟨he, hw⟩ => ⟨he, by rw [hw]; exact Below.refl _ _⟩)))) | quiet_step ((first | (go_at_call 47; exact Calls.regrown_of ((hI.out _).mono fun e w' ⟨he, hw⟩ => ⟨he, by rw [hw]; exact Below.refl _ _⟩))))))
          refine wpQuiet_nil ?_
          intro _ hw'
          obtain ⟨⟨dq, osq⟩, hw''⟩ := hw'
          subst hw''
          go_wp2_with fail
          go_ret
          exact ⟨ret_b HQ.out.symm, bnext HB.out (below_regrown _ _ _)⟩
    · obtain rfl : i = n := by omega
      have HQ := Lib.hid (agree_yes (a := a) (b := b) (l := l) (fun j hj => HE.out j (by rw [← HLL.out]; exact hj)))
      clear hb
      go_wp2_with fail
      go_ret
      exact ⟨ret_b HQ.out.symm, HB.out⟩

set_option maxHeartbeats 4000000 in
theorem sIsKey_any (w : World) (r : Int) (vs v : Value) (s l : List Int) (hs : Ints w vs s) (h : Ints w v l) :
    Calls Tryd.prog 56 #[.agg #[vs], .agg #[.int .i64 r, v]] w (GaveBool w (isKeyB s r l)) := by
  obtain ⟨sa, sn, sc, rfl, hls, hsn, hsm, hsc⟩ := hs.cases
  obtain ⟨a, n, cap, rfl, hl, hn, hm, hcell⟩ := h.cases
  unfold maxLen at hm hsm
  have hb0 : ∀ a b, Below w.heap.size w ((w.alloc a).alloc b) := fun a b => ((Below.refl _ _).alloc (Nat.le_refl _) _).alloc (by simp) _
  have HB0 := Lib.hid hb0
  have HCS := Lib.hid hsc
  have HC := Lib.hid hcell
  have HLS := Lib.hid hls
  have HL := Lib.hid hl
  have hS := Lib.hid (fun w h => sIsSchema_any w (.slice sa sn sc) s h)
  have HS := Lib.hid hs
  clear hs h hsc hcell hb0
  cases h1 : isSchemaB s with
  | false =>
    have HQ := Lib.hid (key_1 (l := l) (r := r) h1)
    rw [h1] at hS
    clear h1 hl hls
    go_enter Tryd.func56, Tryd.ntmps56
    go_wp2_with fail
    refine (hS.out _ (HS.out.below (HB0.out _ _))).mono ?_
    rintro e w1 ⟨rfl, hb⟩
    have HB1 := Lib.hid (bnext (HB0.out _ _) hb)
    clear hb
    go_wp2_with fail
    go_ret
    exact ⟨ret_b HQ.out.symm, HB1.out⟩
  | true =>
    rw [h1] at hS
    have hI := Lib.hid (fun w => l1In_any r 0 ((sn : Int) - 1) w)
    cases h2 : inB r 0 ((sn : Int) - 1) with
    | false =>
      have HQ := Lib.hid (key_2 (l := l) (r := r) (s := s) (by rw [HLS.out]; exact h2))
      rw [h2] at hI
      clear h1 h2 hl hls
      go_enter Tryd.func56, Tryd.ntmps56
      go_wp2_with fail
      refine (hS.out _ (HS.out.below (HB0.out _ _))).mono ?_
      rintro e w1 ⟨rfl, hb⟩
      have HB1 := Lib.hid (bnext (HB0.out _ _) hb)
      have k0 := cellk hb (b := w.heap.size) (o := 0) (v := .slice sa sn sc) (by simp)
      have k1 := cellk hb (b := w.heap.size + 1) (o := 0) (v := .int .i64 r) (by simp)
      have k2 := cellk hb (b := w.heap.size + 1) (o := 1) (v := .slice a n cap) (by simp)
      clear hb
      go_wp2_with fail
      refine (hI.out _).mono ?_
      rintro e w2 ⟨rfl, rfl⟩
      go_wp2_with fail
      go_ret
      exact ⟨ret_b HQ.out.symm, HB1.out⟩
    | true =>
      rw [h2] at hI
      have hJ := Lib.hid (fun w => l1In_any (n : Int) 1 3 w)
      cases h3 : inB (n : Int) 1 3 with
      | false =>
        have HQ := Lib.hid (key_3 (l := l) (r := r) (s := s) (by rw [HL.out]; exact h3))
        rw [h3] at hJ
        clear h1 h2 h3 hl hls
        go_enter Tryd.func56, Tryd.ntmps56
        go_wp2_with fail
        refine (hS.out _ (HS.out.below (HB0.out _ _))).mono ?_
        rintro e w1 ⟨rfl, hb⟩
        have HB1 := Lib.hid (bnext (HB0.out _ _) hb)
        have k0 := cellk hb (b := w.heap.size) (o := 0) (v := .slice sa sn sc) (by simp)
        have k1 := cellk hb (b := w.heap.size + 1) (o := 0) (v := .int .i64 r) (by simp)
        have k2 := cellk hb (b := w.heap.size + 1) (o := 1) (v := .slice a n cap) (by simp)
        clear hb
        go_wp2_with fail
        refine (hI.out _).mono ?_
        rintro e w2 ⟨rfl, rfl⟩
        go_wp2_with fail
        refine (hJ.out _).mono ?_
        rintro e w2 ⟨rfl, rfl⟩
        go_wp2_with fail
        go_ret
        exact ⟨ret_b HQ.out.symm, HB1.out⟩
      | true =>
        rw [h3] at hJ
        have h4 : 0 ≤ r ∧ r ≤ (sn : Int) - 1 := of_decide_eq_true h2
        obtain ⟨k, rfl⟩ := Int.eq_ofNat_of_zero_le h4.1
        have hk : k < sn := by omega
        have hk0 : (0 : Int) ≤ k := by omega
        have hk1 : (k : Int) < sn := by omega
        obtain ⟨sb, so, rfl, _, hcs⟩ := HCS.out (by omega)
        have HCK := Lib.hid (hcs k hk)
        have HYES : Hid ((∀ i, i < l.length → plK s k l i = true) → isKeyB s k l = true) := fun h => key_5 h1 (by rw [HLS.out]; exact h2) (by rw [HL.out]; exact h3) h
        have HNO : Hid (∀ i, i < l.length → plK s k l i = false → isKeyB s k l = false) := fun i hi h => key_4 i hi h
        have HPL : Hid (∀ i, plK s k l i = (inB (l.getD i 0) 0 (s.getD k 0 - 1) && (decide (i = 0) || decide (l.getD (i - 1) 0 < l.getD i 0)))) := fun i => by unfold plK; rw [Int.toNat_natCast]
        have harb : inI (s.getD k 0 - 1) := by
          have h5 := inI_getD HS.out.1 k
          unfold isSchemaB at h1
          rw [Bool.and_eq_true] at h1
          have h6 := List.all_eq_true.1 h1.1 _ (getD_mem (l := s) (j := k) (by rw [HLS.out]; exact hk))
          have h7 : 1 ≤ s.getD k 0 ∧ s.getD k 0 ≤ 3 := of_decide_eq_true h6
          unfold inI at h5 ⊢; omega
        have hwr : wrap64 (s.getD k 0 - 1) = s.getD k 0 - 1 := by unfold inI at harb; unfold wrap64; omega
        generalize s.getD k 0 = ar at *
        clear h1 h2 h3 h4 hl hls hcs
        go_enter Tryd.func56, Tryd.ntmps56
        go_wp2_with fail
        refine (hS.out _ (HS.out.below (HB0.out _ _))).mono ?_
        rintro e w1 ⟨rfl, hb⟩
        have HB1 := Lib.hid (bnext (HB0.out _ _) hb)
        have k0 := cellk hb (b := w.heap.size) (o := 0) (v := .slice (some ⟨sb, so, none⟩) sn sc) (by simp)
        have k1 := cellk hb (b := w.heap.size + 1) (o := 0) (v := .int .i64 k) (by simp)
        have k2 := cellk hb (b := w.heap.size + 1) (o := 1) (v := .slice a n cap) (by simp)
        have K0 := Lib.hid k0
        have K1 := Lib.hid k1
        have K2 := Lib.hid k2
        clear hb
        go_wp2_with fail
        refine (hI.out _).mono ?_
        rintro e w2 ⟨rfl, rfl⟩
        go_wp2_with fail
        refine (hJ.out _).mono ?_
        rintro e w2 ⟨rfl, rfl⟩
        clear hI hJ hS
        go_wp2_with fail
        go_loopw [5] (fun iv wr => ∃ i : Nat, i ≤ n ∧ iv = .int .i64 i ∧ Below w1.heap.size w1 wr ∧ Hid (∀ j, j < i → plK s k l j = true)) (fun iv _ => n - (intOf iv).toNat)
        case atStart => exact ⟨0, by omega, rfl, Below.refl _ _, fun j hj => by omega⟩
        case round =>
          obtain ⟨i, hi, rfl, hb, HE⟩ := hrel
          have HB := Lib.hid hb
          have q2 := cellk hb K2.out
          by_cases hlt : i < n
          · obtain ⟨bl, ol, rfl, hbw, hc⟩ := HC.out (by omega)
            have c0 := cell_regrown (w := wr) (cellk hb K0.out)
            have c1 := cell_regrown (w := wr) (cellk hb K1.out)
            have c2 := cell_regrown (w := wr) (cellk hb K2.out)
            have c3 := cell_regrown (w := wr) (cellk (bnext HB1.out hb) (hc i hlt))
            have c4 := cell_regrown (w := wr) (cellk (bnext HB1.out hb) HCK.out)
            have hi0 : (0 : Int) ≤ i := by omega
            have hi1 : (i : Int) < n := by omega
            have HN := Lib.hid (HNO.out i (by rw [HL.out]; exact hlt))
            have HY : Hid (plK s k l i = true → ∀ j, j < i + 1 → plK s k l j = true) := fun h j hj => by
              rcases Nat.lt_or_ge j i with h7 | h7
              · exact HE.out j h7
              · obtain rfl : j = i := by omega
                exact h
            have HP := Lib.hid (HPL.out i)
            have HCP : Hid (0 < i → w.cell? ⟨bl, ol + (i - 1), none⟩ = some (.int .i64 (l.getD (i - 1) 0))) := fun h => hc (i - 1) (by omega)
            have hI := Lib.hid (fun w => l1In_any (l.getD i 0) 0 (ar - 1) w)
            clear hc hbw
            cases h5 : inB (l.getD i 0) 0 (ar - 1) with
            | false =>
              have HQ := Lib.hid (HN.out (by rw [HP.out, h5]; rfl))
              rw [h5] at hI
              clear h5 HN HY HP HCP hb
              generalize l.getD i 0 = x at *
              go_wp2_with fail
              refine wp_region_quiet_below (by kernel_rfl) (by kernel_rfl) ?_
              repeat (any_goals (first | go_big_quiet_step ((first | (go_at_call 47; exact Calls.regrown_of ((hI.out _).mono fun e w' ⟨he, hw⟩ => ⟨he, by rw [hw]; exact Below.refl _ _⟩)))) | quiet_step ((first | (go_at_call 47; exact Calls.regrown_of ((hI.out _).mono fun e w' ⟨he, hw⟩ => ⟨he, by rw [hw]; exact Below.refl _ _⟩))))))
              refine wpQuiet_nil ?_
              intro _ hw'
              obtain ⟨⟨dq, osq⟩, hw''⟩ := hw'
              subst hw''
              go_wp2_with fail
              go_ret
              exact ⟨ret_b HQ.out.symm, bnext HB1.out (bnext HB.out (below_regrown _ _ _))⟩
            | true =>
              rw [h5] at hI
              by_cases h6 : i = 0
              · have HE2 := Lib.hid (HY.out (by rw [HP.out, h5, decide_eq_true h6]; rfl))
                subst h6
                rw [Nat.add_zero] at c3
                clear h5 HN HY HP HCP hb HE
                generalize l.getD 0 0 = x at *
                go_wp2_with fail
                refine wp_region_quiet_below (by kernel_rfl) (by kernel_rfl) ?_
                repeat (any_goals (first | go_big_quiet_step ((first | (go_at_call 47; exact Calls.regrown_of ((hI.out _).mono fun e w' ⟨he, hw⟩ => ⟨he, by rw [hw]; exact Below.refl _ _⟩)))) | quiet_step ((first | (go_at_call 47; exact Calls.regrown_of ((hI.out _).mono fun e w' ⟨he, hw⟩ => ⟨he, by rw [hw]; exact Below.refl _ _⟩))))))
                refine wpQuiet_nil ?_
                intro _ hw'
                obtain ⟨⟨dq, osq⟩, hw''⟩ := hw'
                subst hw''
                go_wp2_with fail
                exact ⟨⟨0 + 1, by omega, by simp, bnext HB.out (below_regrown _ _ _), HE2.out⟩, by simp [intOf]; omega⟩
              · have c5 := cell_regrown (w := wr) (cellk (bnext HB1.out hb) (HCP.out (by omega)))
                have HP2 : Hid (plK s k l i = decide (l.getD (i - 1) 0 < l.getD i 0)) := by unfold Hid; rw [HP.out, h5, decide_eq_false h6]; rfl
                obtain ⟨i', rfl⟩ : ∃ i' : Nat, i = i' + 1 := ⟨i - 1, by omega⟩
                rw [Nat.add_sub_cancel] at c5 HP2
                have hj0 : (0 : Int) ≤ i' := by omega
                have hj1 : (i' : Int) < n := by omega
                clear h5 h6 HP HCP hb
                generalize l.getD (i' + 1) 0 = x at *
                generalize l.getD i' 0 = y at *
                by_cases h7 : y < x
                · have HE2 := Lib.hid (HY.out (by rw [HP2.out, decide_eq_true h7]))
                  have hg2 : ¬ (x ≤ y) := by omega
                  clear HN HY HP2 HE h7
                  go_wp2_with fail
                  refine wp_region_quiet_below (by kernel_rfl) (by kernel_rfl) ?_
                  repeat (any_goals (first | go_big_quiet_step ((first | (go_at_call 47; exact Calls.regrown_of ((hI.out _).mono fun e w' ⟨he, hw⟩ => ⟨he, by rw [hw]; exact Below.refl _ _⟩)))) | quiet_step ((first | (go_at_call 47; exact Calls.regrown_of ((hI.out _).mono fun e w' ⟨he, hw⟩ => ⟨he, by rw [hw]; exact Below.refl _ _⟩))))))
                  refine wpQuiet_nil ?_
                  intro _ hw'
                  obtain ⟨⟨dq, osq⟩, hw''⟩ := hw'
                  subst hw''
                  go_wp2_with fail
                  exact ⟨⟨i' + 1 + 1, by omega, by simp, bnext HB.out (below_regrown _ _ _), HE2.out⟩, by simp [intOf]; omega⟩
                · have HQ := Lib.hid (HN.out (by rw [HP2.out, decide_eq_false h7]))
                  have hg2 : x ≤ y := by omega
                  clear HN HY HP2 h7
                  go_wp2_with fail
                  refine wp_region_quiet_below (by kernel_rfl) (by kernel_rfl) ?_
                  repeat (any_goals (first | go_big_quiet_step ((first | (go_at_call 47; exact Calls.regrown_of ((hI.out _).mono fun e w' ⟨he, hw⟩ => ⟨he, by rw [hw]; exact Below.refl _ _⟩)))) | quiet_step ((first | (go_at_call 47; exact Calls.regrown_of ((hI.out _).mono fun e w' ⟨he, hw⟩ => ⟨he, by rw [hw]; exact Below.refl _ _⟩))))))
                  refine wpQuiet_nil ?_
                  intro _ hw'
                  obtain ⟨⟨dq, osq⟩, hw''⟩ := hw'
                  subst hw''
                  go_wp2_with fail
                  go_ret
                  exact ⟨ret_b HQ.out.symm, bnext HB1.out (bnext HB.out (below_regrown _ _ _))⟩
          · obtain rfl : i = n := by omega
            have HQ := Lib.hid (HYES.out (fun j hj => HE.out j (by rw [← HL.out]; exact hj)))
            clear hb
            go_wp2_with fail
            go_ret
            exact ⟨ret_b HQ.out.symm, bnext HB1.out HB.out⟩
end Go.Proofs.YtnbljidjbknleaaDoor
