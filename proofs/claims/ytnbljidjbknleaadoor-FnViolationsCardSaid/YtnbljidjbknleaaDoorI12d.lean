/- Contracts of impl's checkKeys, FirstViolation, over errors.As. -/
import Derived.Test.YtnbljidjbknleaaDoorI12b
import Derived.Test.YtnbljidjbknleaaDoorAs12
import Derived.Laws.IdiomCopy
import Derived.Lib.QuietBelow
namespace Go.Proofs.YtnbljidjbknleaaDoor
open Go Go.Sort Go.RowKit
set_option linter.unusedVariables false

/-- errors.errorType holds the type error. -/
def EnvE (w : World) : Prop := w.cell? ⟨0, 0, none⟩ = some (.iface 131 (.agg #[.pointer (some ⟨7, 73, none⟩)]))
theorem EnvE.below {w w' : World} (h : EnvE w) (hb : Below w.heap.size w w') : EnvE w' := cellk hb h

def CksE (db ks : List AtomD) (v : Value) : Prop :=
  (∃ n i j : Nat, FirstV db ks n i j ∧ v = .iface 70 (.agg #[.int .i64 n, .int .i64 i, .int .i64 j])) ∨ ((∀ n i j, i < j → violB db ks n i j = false) ∧ v = .nilIface)
theorem viol_k {db ks : List AtomD} {n : Nat} {k : AtomD} (h : ks[n]? = some k) (i j : Nat) : violB db [k] 0 i j = violB db ks n i j := by
  unfold violB; rw [h]; rfl
theorem first_k {db ks : List AtomD} {n i j : Nat} {k : AtomD} (h : ks[n]? = some k) (hN : NoneTo db ks n 0 0) (hF : FirstV db [k] 0 i j) : FirstV db ks n i j := by
  refine ⟨by rw [← viol_k h]; exact hF.1, hF.2.1, fun n' i' j' h1 h2 => ?_⟩
  rcases Nat.lt_or_ge n n' with h3 | h3
  · exact .inl h3
  · rcases Nat.lt_or_ge n' n with h4 | h4
    · rw [hN n' i' j' h1 (.inl h4)] at h2; cases h2
    · have e : n = n' := by omega
      subst e
      rw [← viol_k h] at h2
      rcases hF.2.2 0 i' j' h1 h2 with h5 | h5
      · omega
      · exact .inr ⟨rfl, h5.2⟩
theorem none_k {db ks : List AtomD} {n : Nat} {k : AtomD} (h : ks[n]? = some k) (hN : NoneTo db ks n 0 0) (hF : ∀ i j, i < j → violB db [k] 0 i j = false) : NoneTo db ks (n + 1) 0 0 := fun n' i' j' h1 h2 => by
  rcases Nat.lt_or_ge n' n with h4 | h4
  · exact hN n' i' j' h1 (.inl h4)
  · have e : n' = n := by omega
    subst e
    rw [← viol_k h]; exact hF i' j' h1
theorem none_all2 {db ks : List AtomD} (h : NoneTo db ks ks.length 0 0) : ∀ n i j, i < j → violB db ks n i j = false := fun n i j h1 => by
  cases hv : violB db ks n i j with
  | false => rfl
  | true =>
    have := viol_in hv
    rw [h n i j h1 (by omega)] at hv; cases hv

set_option maxRecDepth 100000 in
set_option maxHeartbeats 8000000 in
theorem iCheckKeys_any (w : World) (vd vk : Value) (db ks : List AtomD) (hd : RdAtomS w vd db) (hk : RdAtomS w vk ks) :
    Calls Tryd.prog 38 #[vd, vk] w (fun e w' => ∃ v, e = .returned v ∧ CksE db ks v ∧ Below w.heap.size w w') := by
  have HD := Lib.hid hd
  obtain ⟨da, dn, dc, rfl, _⟩ := hd
  obtain ⟨ka, kn, kc, rfl, hk⟩ := hk
  obtain ⟨hkl, hkn, hkm, hkcell⟩ := hk.at
  unfold maxLen at hkm
  have HKC := Lib.hid hkcell
  have HKL := Lib.hid hkl
  have hF := Lib.hid (fun w vk n k h1 h2 => iCheckKey_any w (.slice da dn dc) vk n db k h1 h2)
  clear hk hkcell hkl
  go_enter Tryd.func38, Tryd.ntmps38
  go_wp2_with fail
  go_loopw [10] (fun iv wr => ∃ n : Nat, n ≤ kn ∧ iv = .int .i64 n ∧ Below w.heap.size w wr ∧ Hid (NoneTo db ks n 0 0)) (fun iv _ => kn - (intOf iv).toNat)
  case atStart => exact ⟨0, by omega, rfl, Below.refl _ _, none_start db ks⟩
  case round =>
    obtain ⟨n, hn, rfl, hb, HN⟩ := hrel
    have HB := Lib.hid hb
    by_cases hlt : n < kn
    · obtain ⟨b, off, rfl, hbw, hc⟩ := HKC.out (by omega)
      obtain ⟨k, hkk⟩ : ∃ e, ks[n]? = some e := ⟨ks[n]'(by rw [HKL.out]; exact hlt), List.getElem?_eq_getElem (by rw [HKL.out]; exact hlt)⟩
      obtain ⟨ea, em, ec, c0, c1, hki, hints⟩ := atomAt (n := kn) hc n k hkk
      have k0 := cellk hb c0
      have k1 := cellk hb c1
      have hn0 : (0 : Int) ≤ n := by omega
      have hn1 : (n : Int) < kn := by omega
      have hbx := Lib.hid (bnext hb (below_alloc wr (.cells #[.int .i64 k.1, .slice ea em ec] 33)))
      have hcall := Lib.hid (hF.out _ (.agg #[.int .i64 k.1, .slice ea em ec]) n k (RdAtomS.below HD.out hbx.out) ⟨ea, em, ec, rfl, hki, hints.below hbx.out⟩)
      have HKK := Lib.hid hkk
      clear hc hbw hb hints hki c0 c1 hkk
      go_wp2_with fail
      refine hcall.out.mono ?_
      rintro e2 w2 ⟨v, rfl, hce, hb2⟩
      have HB2 := Lib.hid (bnext hbx.out hb2)
      have hh := hce
      clear hb2 hce hcall k0 k1
      rcases hh with ⟨i, j, h1, rfl⟩ | ⟨h1, rfl⟩
      · have HX := Lib.hid (first_k HKK.out HN.out h1)
        clear h1
        go_wp2_with fail
        go_ret
        exact ⟨_, rfl, .inl ⟨n, i, j, HX.out, rfl⟩, HB2.out⟩
      · have HX := Lib.hid (none_k HKK.out HN.out h1)
        clear h1
        go_wp2_with fail
        exact ⟨⟨n + 1, by omega, by simp, HB2.out, HX.out⟩, by simp [intOf]; omega⟩
    · obtain rfl : n = kn := by omega
      have HX := Lib.hid (none_all2 (db := db) (ks := ks) (by rw [HKL.out]; exact HN.out))
      clear hb
      go_wp2_with fail
      go_ret
      exact ⟨_, rfl, .inr ⟨HX.out, rfl⟩, HB.out⟩

theorem setCells3 {w0 w : World} {g : Nat} {x y z : Value} (h : Below w0.heap.size w0 w) (hg : w0.heap.size ≤ g) : Below w0.heap.size w0 (w.setCells g 0 [x, y, z]) := by
  unfold World.setCells World.setCells World.setCells World.setCells
  exact ((h.setCell hg _).setCell hg _).setCell hg _
theorem asW_below (w : World) (t : Nat) (x y z : Int) : Below w.heap.size w (asW w t x y z) := by
  unfold asW
  exact ((((Below.refl _ _).alloc (Nat.le_refl _) _).alloc (by simp) _).alloc (by simp; omega) _).alloc (by simp; omega) _
set_option maxRecDepth 100000 in
set_option maxHeartbeats 8000000 in
theorem iFirstV_any (w : World) (vd vk : Value) (db ks : List AtomD) (he : EnvE w) (hd : RdAtomS w vd db) (hk : RdAtomS w vk ks) :
    Calls Tryd.prog 9 #[vd, vk] w (GaveV (.tuple #[.int .i64 (fvN db ks).1, .int .i64 (fvN db ks).2.1, .int .i64 (fvN db ks).2.2]) w) := by
  have HD := Lib.hid hd
  have HK := Lib.hid hk
  obtain ⟨da, dn, dc, rfl, _⟩ := hd
  obtain ⟨ka, kn, kc, rfl, _⟩ := hk
  have HE := Lib.hid he
  have hb0 := below_alloc w (.cells #[.int .i64 0, .int .i64 0, .int .i64 0] 70)
  have HB0 := Lib.hid hb0
  have hF := Lib.hid (iCheckKeys_any (w.alloc (.cells #[.int .i64 0, .int .i64 0, .int .i64 0] 70)) (.slice da dn dc) (.slice ka kn kc) db ks (RdAtomS.below HD.out hb0) (RdAtomS.below HK.out hb0))
  have hNil := Lib.hid (fun w => as_nil (.iface 75 (.pointer (some ⟨w, 0, none⟩))))
  clear hb0 he
  go_enter Tryd.func9, Tryd.ntmps9
  go_wp2_with fail
  refine hF.out.mono ?_
  rintro e w1 ⟨v, rfl, hce, hb⟩
  have HB1 := Lib.hid (bnext HB0.out hb)
  have HE1 := Lib.hid (HE.out.below HB1.out)
  have kc0 := cellk hb (b := w.heap.size) (o := 0) (v := .int .i64 0) (by simp)
  have kc1 := cellk hb (b := w.heap.size) (o := 1) (v := .int .i64 0) (by simp)
  have kc2 := cellk hb (b := w.heap.size) (o := 2) (v := .int .i64 0) (by simp)
  have kf0 : w1.frozen? ⟨w.heap.size, 0, none⟩ = false := frok hb (v := .int .i64 0) (by simp) (by simp)
  have kf1 : w1.frozen? ⟨w.heap.size, 1, none⟩ = false := frok hb (v := .int .i64 0) (by simp) (by simp)
  have kf2 : w1.frozen? ⟨w.heap.size, 2, none⟩ = false := frok hb (v := .int .i64 0) (by simp) (by simp)
  have hlt := World.block_lt_of_cell? w1 _ kc0
  clear hb hF
  rcases hce with ⟨n, i, j, h1, rfl⟩ | ⟨h1, rfl⟩
  · have HX := Lib.hid (fv_at h1)
    clear h1
    have hAs := Lib.hid (as_hit w.heap.size n i j w1 HE1.out
      (fun k hk => by
        rw [Nat.zero_add]
        match k, hk with
        | 0, _ => rw [kc0]; rfl
        | 1, _ => rw [kc1]; rfl
        | 2, _ => rw [kc2]; rfl)
      (fun k hk => by
        rw [Nat.zero_add]
        match k, hk with
        | 0, _ => exact kf0
        | 1, _ => exact kf1
        | 2, _ => exact kf2))
    have hbA := asW_below w1 w.heap.size n i j
    have HBA := Lib.hid (bnext HB1.out hbA)
    have hin := World.cell?_setCells_in w.heap.size [Value.int .i64 n, .int .i64 i, .int .i64 j] 0 (asW w1 w.heap.size n i j) (fun k hk => by
        rw [Nat.zero_add]
        match k, hk with
        | 0, _ => rw [cellk hbA kc0]; rfl
        | 1, _ => rw [cellk hbA kc1]; rfl
        | 2, _ => rw [cellk hbA kc2]; rfl)
    have r0 := hin 0 (by simp)
    have r1 := hin 1 (by simp)
    have r2 := hin 2 (by simp)
    rw [Nat.zero_add] at r0 r1 r2
    simp only [List.getElem_cons_zero, List.getElem_cons_succ] at r0 r1 r2
    have HBF := Lib.hid (setCells3 (g := w.heap.size) (x := .int .i64 n) (y := .int .i64 i) (z := .int .i64 j) HBA.out (Nat.le_refl _))
    obtain ⟨WF, hWF⟩ : ∃ W, W = (asW w1 w.heap.size n i j).setCells w.heap.size 0 [Value.int .i64 n, .int .i64 i, .int .i64 j] := ⟨_, rfl⟩
    rw [← hWF] at r0 r1 r2 HBF hAs
    have x0 := cell_regrown (w := WF) r0
    have x1 := cell_regrown (w := WF) r1
    have x2 := cell_regrown (w := WF) r2
    clear kc0 kc1 kc2 kf0 kf1 kf2 hin r0 r1 r2 hbA hWF hNil
    go_wp2_with fail
    refine hAs.out.mono ?_
    rintro e w3 ⟨rfl, rfl⟩
    go_wp2_with fail
    refine wp_region_quiet_below (by kernel_rfl) (by kernel_rfl) ?_
    repeat (any_goals (first | go_big_quiet_step (fail) | quiet_step (fail)))
    refine wpQuiet_nil ?_
    intro _ hw'
    obtain ⟨⟨dq, osq⟩, hw''⟩ := hw'
    subst hw''
    go_wp2_with fail
    exact bodyPost_ret (v := .tuple #[.int .i64 n, .int .i64 i, .int .i64 j]) (by simp [results, Tryd.results9, go_sem]) rfl ⟨by rw [HX.out], bnext HBF.out (below_regrown _ _ _)⟩
  · have HX := Lib.hid (fv_none h1)
    clear h1 kc0 kc1 kc2 kf0 kf1 kf2
    go_wp2_with fail
    refine (hNil.out _ _).mono ?_
    rintro e w3 ⟨rfl, rfl⟩
    go_wp2_with fail
    exact bodyPost_ret (v := .tuple #[.int .i64 (-1), .int .i64 (-1), .int .i64 (-1)]) (by simp [results, Tryd.results9, go_sem]) rfl ⟨by rw [HX.out], HB1.out⟩
end Go.Proofs.YtnbljidjbknleaaDoor
