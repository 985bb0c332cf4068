/- slices.Repeat of one number, twenty times. -/
import Derived.Test.YtcabgdaloffcdaaI7place
import Derived.Test.YtcabgdaloffcdaaShelf
import Derived.Test.YtcabgdaloffcdaaCopyC
namespace Go.Proofs.Ytcabgdaloffcdaa
open Go Go.Sort Go.RowKit Go.Shelf
set_option linter.unusedVariables false

def repL (n : Nat) : List Int := List.replicate n (-1000) ++ List.replicate (20 - n) 0
theorem repL_len {n : Nat} (h : n ≤ 20) : (repL n).length = 20 := by unfold repL; simp; omega
theorem repL_at {n j : Nat} (h : j < n) : (repL n).getD j 0 = -1000 := by
  unfold repL
  rw [List.getD_eq_getElem?_getD, List.getElem?_append_left (by simpa using h), List.getElem?_replicate, if_pos h]; rfl
theorem splice_rep {n m : Nat} (h : n + m ≤ 20) : splice ((repL n).map (Value.int .i64)) n (List.replicate m (Value.int .i64 (-1000))) = (repL (n + m)).map (Value.int .i64) := by
  unfold splice repL
  simp only [List.map_append, List.map_replicate, List.length_replicate]
  rw [List.take_append_of_le_length (by simp), List.take_of_length_le (by simp), List.drop_append, List.drop_of_length_le (by simp)]
  simp only [List.length_replicate, List.nil_append, List.drop_replicate]
  rw [← List.append_assoc, List.replicate_append_replicate, show 20 - n - (n + m - n) = 20 - (n + m) by omega]
theorem step_copy7 {P : Program} {ops : Array Oper} {o : Oper} {a : Act} {w w' : World} {K : Act → World → Prop} {Q : Exit → Act → World → Prop} {F : Prop} {v dv sv : Value} (hgd : o.guard = none) (d s : Operand) (dT sT : TypeId)
    (ho : o.op = .call { callee := .builtin .copy, args := #[d, s], argTypes := #[dT, sT] }) (hd : a.eval d = dv) (hs : a.eval s = sv) (hr : (Builtin.copy_ #[dT, sT] o.type #[dv, sv]).run P w = .ok v w') (hK : K (a.put o.dst v) w') :
    if Region.wanted o (yielded ops a.tmps) = true then Oper.wp P o a w K Q else F := by
  have hw : Region.wanted o (yielded ops a.tmps) = true := by simp [Region.wanted, hgd]
  rw [if_pos hw]
  unfold Oper.wp
  simp [execOp, ho, resolve, invoke, builtin, hd, hs, hr, Result.andThen]
  exact hK
theorem wpList_copy7 {P : Program} {ops : Array Oper} {rest : List Oper} {o : Oper} {a : Act} {w w' : World} {Q : Exit → Act → World → Prop} {v dv sv : Value} (hgd : o.guard = none) (d s : Operand) (dT sT : TypeId)
    (ho : o.op = .call { callee := .builtin .copy, args := #[d, s], argTypes := #[dT, sT] }) (hd : a.eval d = dv) (hs : a.eval s = sv) (hr : (Builtin.copy_ #[dT, sT] o.type #[dv, sv]).run P w = .ok v w') (hK : wpList P ops Q rest (a.put o.dst v) w') :
    wpList P ops Q (o :: rest) a w := by
  refine wpList_plain hgd fun K hK' => ?_
  unfold Oper.wp
  simp [execOp, ho, resolve, invoke, builtin, hd, hs, hr, Result.andThen]
  exact hK' _ _ hK
/-- A copy of m times the number into the row, behind its first n. -/
theorem copy_rep {P : Program} (hu : P.underlying 22 = some (.slice 3)) (hs : (P.info? 3).map (·.size) = some 1) {w0 w : World} {g n m dL dC sL sC : Nat} {p : Addr} (ty : TypeId) (h : Built .i64 3 w0 w (.slice (some ⟨g, 0, none⟩) 20 20) (repL n)) (hnm : n + m ≤ 20)
    (hmin : Nat.min sL dL = m) (hsrc : ∀ j, j < m → w.cell? (p.add j) = some (.int .i64 (-1000))) :
    ∃ w', (Builtin.copy_ #[22, 22] ty #[.slice (some ⟨g, n, none⟩) dL dC, .slice (some p) sL sC]).run P w = .ok (goInt m) w' ∧ Built .i64 3 w0 w' (.slice (some ⟨g, 0, none⟩) 20 20) (repL (n + m)) := by
  have hl := repL_len (n := n) (by omega)
  have hB : BuiltC 3 1 w0 w (.slice (some ⟨g, 0, none⟩) 20 20) 20 ((repL n).map (Value.int .i64)) := by have := h; unfold Built at this; rw [hl] at this; exact this
  obtain ⟨cur, hg, htk, hle, hsp⟩ := hB.splice
  have hsp2 := hsp n (List.replicate m (Value.int .i64 (-1000))) (by simp; omega)
  rw [splice_rep hnm] at hsp2
  refine ⟨_, run_copy_rowC w 22 22 ty 3 1 m g n dL dC p sL sC cur 3 (List.replicate m (Value.int .i64 (-1000))) hu hs hg hmin (by simp) (fun j v hv => ?_) (by simp; omega) (fun v hv => by rw [List.eq_of_mem_replicate hv]; rfl), ?_⟩
  · rw [List.getElem?_replicate] at hv
    split at hv
    · rename_i hj; cases hv; exact hsrc j hj
    · cases hv
  · unfold Built; rw [repL_len hnm]; exact hsp2

set_option maxRecDepth 100000 in
set_option maxHeartbeats 800000 in
theorem iRepeat_any (w : World) (P0 : Nat) (hx : w.cell? ⟨P0, 0, none⟩ = some (.int .i64 (-1000))) :
    Calls Try.prog 91 #[.slice (some ⟨P0, 0, none⟩) 1 1, .int .i64 20] w (fun e w' => ∃ g, e = .returned (.slice (some ⟨g, 0, none⟩) 20 20) ∧ Built .i64 3 w w' (.slice (some ⟨g, 0, none⟩) 20 20) unm20) := by
  have HM := Lib.hid (fun w => Try.bits_Mul 1 20 (by decide) (by decide) w)
  have HX := Lib.hid hx
  clear hx
  go_enter Try.func91, Try.ntmps91
  go_wp2_with fail
  refine (HM.out _).mono ?_
  rintro e w1 ⟨rfl, rfl⟩
  go_wp2_with (at_make; refine wpList_make_built rfl (.tmp 29) (.tmp 29) 22 rfl .i64 3 0 8 Try.underlying22 info_i64 (by decide) (Below.refl _ w1) .i64 .i64 20 rfl rfl (by omega) ?_)
  intro w2 hb2
  have hB0 : Built .i64 3 w1 w2 (.slice (some ⟨w1.heap.size, 0, none⟩) 20 20) (repL 0) := hb2
  have hx2 := cellk hB0.below HX.out
  obtain ⟨w3, hr3, hB3⟩ := copy_rep (P := Try.prog) Try.underlying22 (by kernel_rfl) (n := 0) (m := 1) (dL := 20) (dC := 20) (sL := 1) (sC := 1) (p := ⟨P0, 0, none⟩) 3 hB0 (by omega) (by decide) (fun j hj => by
      have e : j = 0 := by omega
      subst e
      rw [Addr.add_lit]
      exact hx2)
  have HB3 := Lib.hid hB3
  obtain ⟨g, hg⟩ : ∃ g, w1.heap.size = g := ⟨_, rfl⟩
  rw [hg] at hr3 HB3 ⊢
  clear hb2 hB0 hx2 hB3 hg
  go_wp2_with (at_builtin; refine wpList_copy7 rfl (.tmp 31) (.tmp 32) 22 22 rfl rfl rfl hr3 ?_)
  go_loopw [8] (fun iv wr => ∃ n : Nat, 1 ≤ n ∧ n ≤ 20 ∧ iv = .int .i64 n ∧ Hid (Built .i64 3 w1 wr (.slice (some ⟨g, 0, none⟩) 20 20) (repL n))) (fun iv _ => 20 - (intOf iv).toNat)
  case atStart => exact ⟨1, by omega, by omega, rfl, HB3⟩
  case round =>
    obtain ⟨n, hn1, hn, rfl, HB⟩ := hrel
    by_cases hlt : n < 20
    · have hn0 : (0 : Int) ≤ n := by omega
      have hn2 : (n : Int) < 20 := by omega
      have hn3 : (n : Int) ≤ 20 := by omega
      obtain ⟨m, hm⟩ : ∃ m, Nat.min n (20 - n) = m := ⟨_, rfl⟩
      have hm1 : 1 ≤ m ∧ m ≤ n ∧ n + m ≤ 20 := by
        have : m = min n (20 - n) := hm.symm
        omega
      obtain ⟨w4, hr4, hB4⟩ := copy_rep (P := Try.prog) (w0 := w1) (w := wr.drew) Try.underlying22 (by kernel_rfl) (n := n) (m := m) (dL := 20 - n) (dC := 20 - n) (sL := n) (sC := 20) (p := ⟨g, 0, none⟩) 3 HB.out.drew hm1.2.2 hm (fun j hj => by
        have h1 := Built.cell ((repL_len hn).symm ▸ HB.out : Built .i64 3 w1 wr (.slice (some ⟨g, 0, none⟩) (repL n).length 20) (repL n)) j (by rw [repL_len hn]; omega)
        rw [repL_at (by omega)] at h1
        rw [Addr.add_lit, Nat.zero_add]; exact h1)
      have HB4 := Lib.hid hB4
      have hnm : ¬ (20 = n) := by omega
      clear hB4
      go_wp2_with fail
      have HWR : Hid (IntKind.i64.wrap ((n : Int) + (m : Int)) = ((n + m : Nat) : Int)) := by unfold Hid; rw [IntKind.wrap_i64]; omega
      clear hm
      go_region_law (first
        | fail)
      all_goals go_simp
      all_goals rw [HWR.out]
      all_goals go_roundw
      case rel => exact ⟨_, _, _, _, _, _, _, _, _, _, _, _, _, _, ⟨n + m, by omega, by omega, rfl, HB4⟩, rfl⟩
      case measure => simp [intOf]; omega
    · obtain rfl : n = 20 := by omega
      have HB2 : Hid (Built .i64 3 w1 wr (.slice (some ⟨g, 0, none⟩) 20 20) unm20) := HB.out
      go_wp2_with fail
      go_ret
      exact ⟨g, rfl, HB2.out⟩
end Go.Proofs.Ytcabgdaloffcdaa
