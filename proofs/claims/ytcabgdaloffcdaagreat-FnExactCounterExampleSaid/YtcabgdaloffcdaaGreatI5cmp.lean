/- Contracts of chapter 5's program: cmp.Or, compareFacts, sameFact. -/
import Derived.Test.YtcabgdaloffcdaaGreatIless
import Derived.Test.YtcabgdaloffcdaaGreatS5all
import Derived.StillTailTactics
namespace Go.Proofs.YtcabgdaloffcdaaGreat
open Go Go.Sort Go.RowKit
set_option linter.unusedVariables false

def orI (x y : Int) : Int := if x = 0 then y else x
set_option maxHeartbeats 1000000 in
theorem iOr_any (w : World) (b : Nat) (x y : Int) (c0 : w.cell? ⟨b, 0, none⟩ = some (.int .i64 x)) (c1 : w.cell? ⟨b, 1, none⟩ = some (.int .i64 y)) :
    Calls Tryz.prog 143 #[.slice (some ⟨b, 0, none⟩) 2 2] w fun e w' => e = .returned (.int .i64 (orI x y)) ∧ w = w' := by
  have C0 := Lib.hid c0
  have C1 := Lib.hid c1
  clear c0 c1
  go_enter Tryz.func143, Tryz.ntmps143
  go_wp2_with fail
  go_loopw [8] (fun iv wr => ∃ i : Nat, i ≤ 2 ∧ iv = .int .i64 i ∧ wr = w ∧ Hid (1 ≤ i → x = 0) ∧ Hid (2 ≤ i → y = 0)) (fun iv _ => 2 - (intOf iv).toNat)
  case atStart => exact ⟨0, by omega, rfl, rfl, fun h => by omega, fun h => by omega⟩
  case round =>
    obtain ⟨i, hi, rfl, rfl, HX, HY⟩ := hrel
    rcases (by omega : i = 0 ∨ i = 1 ∨ i = 2) with rfl | rfl | rfl
    · have c0 := C0.out
      by_cases hx : x = 0
      · have HX0 := Lib.hid hx
        have q : (x != 0) = false := by rw [hx]; rfl
        clear hx
        go_wp2_with fail
        exact ⟨⟨1, by omega, by simp, by trivial, fun _ => HX0.out, fun h => by omega⟩, by simp [intOf]⟩
      · have q : (x != 0) = true := bne_iff_ne.2 hx
        have HQ : Hid (orI x y = x) := if_neg hx
        clear hx
        go_wp2_with fail
        go_ret
        exact ⟨ret_i64 HQ.out.symm, rfl⟩
    · have c1 := C1.out
      have HX0 := HX.out (by omega)
      have HQ : Hid (orI x y = y) := if_pos HX0
      clear HX0
      by_cases hx : y = 0
      · have HX0 := Lib.hid hx
        have q : (y != 0) = false := by rw [hx]; rfl
        clear hx
        go_wp2_with fail
        exact ⟨⟨2, by omega, by simp, by trivial, fun _ => HX.out (by omega), fun h => HX0.out⟩, by simp [intOf]⟩
      · have q : (y != 0) = true := bne_iff_ne.2 hx
        clear hx
        go_wp2_with fail
        go_ret
        exact ⟨ret_i64 HQ.out.symm, rfl⟩
    · have HQ : Hid (orI x y = 0) := by unfold Hid orI; rw [if_pos (HX.out (by omega)), HY.out (by omega)]
      go_wp2_with fail
      go_ret
      exact ⟨ret_i64 HQ.out.symm, rfl⟩

def cmpF (x y : AtomD) : Int := if lessF x y then -1 else if x = y then 0 else 1
theorem cmpF_eq (r r' : Int) (l l' : List Int) : orI (cmpI r r') (cmpL l l') = cmpF (r, l) (r', l') := by
  unfold orI cmpF lessF lessAtomB cmpI
  by_cases h : r = r'
  · subst h
    simp only [Int.lt_irrefl, if_false, if_true, Prod.mk.injEq, true_and]
    rfl
  · by_cases h2 : r < r'
    · simp [h, h2]
    · have h3 : r' < r := by omega
      simp [h, h2, h3]
theorem cmpF_neg (x y : AtomD) : decide (cmpF x y < 0) = lessF x y := by
  unfold cmpF; cases lessF x y
  · simp only [Bool.false_eq_true, if_false]; split <;> rfl
  · rfl
theorem lessL_irrefl (l : List Int) : lessB l l = false := by
  rw [lessB_end (fun j _ _ => rfl)]; simp
theorem lessF_irrefl (x : AtomD) : lessF x x = false := by unfold lessF lessAtomB; rw [if_pos rfl, lessL_irrefl]
theorem cmpF_zero (x y : AtomD) : decide (cmpF x y = 0) = decide (x = y) := by
  by_cases h : x = y
  · subst h; unfold cmpF; rw [lessF_irrefl]; simp
  · unfold cmpF; cases lessF x y <;> simp [h]
theorem cmpF_ge (x y : AtomD) : decide (0 ≤ cmpF x y) = !lessF x y := by
  rw [← cmpF_neg]
  by_cases h : cmpF x y < 0
  · rw [decide_eq_true h, decide_eq_false (by omega)]; rfl
  · rw [decide_eq_false h, decide_eq_true (by omega)]; rfl

set_option maxRecDepth 100000 in
set_option maxHeartbeats 2000000 in
theorem iCmpF_any (w : World) (v v' : Value) (x y : AtomD) (h : RdAtom w v x) (h' : RdAtom w v' y) :
    Calls Tryz.prog 111 #[v, v'] w (GaveInt w (cmpF x y)) := by
  obtain ⟨a, n, c, rfl, hi, h⟩ := h
  obtain ⟨a', n', c', rfl, hi', h'⟩ := h'
  obtain ⟨r, l⟩ := x
  obtain ⟨r', l'⟩ := y
  rw [← cmpF_eq]
  simp only at h h' ⊢
  have hb0 : ∀ o o', Below w.heap.size w ((w.alloc o).alloc o') := fun o o' => (below_alloc w o).trans ((below_alloc _ o').mono (by simp))
  have HB0 := Lib.hid hb0
  have HI := Lib.hid h
  have HI' := Lib.hid h'
  have HS := Lib.hid (fun w h h' => iCompareE_any w (.slice a n c) (.slice a' n' c') l l' h h')
  have HC := Lib.hid (fun w => cmp_int r r' w)
  have HO := Lib.hid (fun w b => iOr_any w b (cmpI r r') (cmpL l l'))
  generalize cmpI r r' = p at *
  generalize cmpL l l' = q at *
  generalize orI p q = z at *
  clear h h' hi hi' hb0
  go_enter Tryz.func111, Tryz.ntmps111
  go_wp2_with fail
  obtain ⟨W, hW⟩ : ∃ W, W = ((w.alloc (.cells #[.int .i64 r, .slice a n c] 94)).alloc (.cells #[.int .i64 r', .slice a' n' c'] 94)) := ⟨_, rfl⟩
  obtain ⟨V, hV⟩ : ∃ V, V = { W with drawn := W.drawn + 1 } := ⟨_, rfl⟩
  have hWV : Below W.heap.size W V := by rw [hV]; exact (Below.refl _ _).drew
  have k0 : V.cell? ⟨w.heap.size, 0, none⟩ = some (.int .i64 r) := cellk hWV (by rw [hW]; simp)
  have k1 : V.cell? ⟨w.heap.size, 1, none⟩ = some (.slice a n c) := cellk hWV (by rw [hW]; simp)
  have k2 : V.cell? ⟨w.heap.size + 1, 0, none⟩ = some (.int .i64 r') := cellk hWV (by rw [hW]; simp)
  have k3 : V.cell? ⟨w.heap.size + 1, 1, none⟩ = some (.slice a' n' c') := cellk hWV (by rw [hW]; simp)
  have HBV : Hid (Below w.heap.size w V) := bnext (by rw [hW]; exact HB0.out _ _) hWV
  have hS := Lib.hid ((HS.out V (HI.out.below HBV.out) (HI'.out.below HBV.out)).mono fun e w' ⟨h1, h2⟩ => (⟨h1, h2.symm⟩ : e = Ending.returned (.int .i64 q) ∧ w' = V))
  have hC := Lib.hid ((HC.out V).mono fun e w' ⟨h1, h2⟩ => (⟨h1, h2.symm⟩ : e = Ending.returned (.int .i64 p) ∧ w' = V))
  rw [← hW]
  refine wp_region_still_tail 10 (by kernel_rfl) (by kernel_rfl) ?_
  simp only [List.take_succ_cons, List.take_zero, List.drop_succ_cons, List.drop_zero]
  rw [← hV]
  clear hV hW hWV
  repeat still_step
  still_call hC.out
  repeat still_step
  still_call hS.out
  refine wpStill_nil ?_
  clear k0 k1 k2 k3
  go_wp2_with fail
  refine (HO.out _ _ (by simp) (by simp)).mono ?_
  rintro e w3 ⟨rfl, rfl⟩
  go_wp2_with fail
  go_ret
  exact ⟨rfl, HBV.out.alloc HBV.out.size _⟩

end Go.Proofs.YtcabgdaloffcdaaGreat
