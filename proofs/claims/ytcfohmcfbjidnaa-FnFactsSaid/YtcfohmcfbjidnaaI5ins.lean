/- Contracts of chapter 5's program: factList.insert. -/
import Derived.Test.YtcfohmcfbjidnaaIrow
namespace Go.Proofs.Ytcfohmcfbjidnaa
open Go Go.Sort Go.RowKit
set_option linter.unusedVariables false

set_option maxRecDepth 100000 in
set_option maxHeartbeats 4000000 in
theorem iInsertNo_any (W w : World) (p g cap : Nat) (vf : Value) (l : List AtomD) (bss : List (List Nat)) (f : AtomD) (k : Nat) (h : LInv W w p g cap l bss) (hf : RdAtom W vf f) (hp : Pos l f k) (hz : l.length ≤ 1048576) (hq : l[k]? = some f) :
    Calls Try.prog 40 #[.pointer (some ⟨p, 0, none⟩), vf] w (fun e w' => e = .returned (.bool false) ∧ LInv W w' p g cap l bss) := by
  have hF := Lib.hid (hf.below h.below)
  obtain ⟨fa, fn, fc, rfl, hfi, hfs⟩ := hf
  have hbw := below_alloc w (.cells #[.int .i64 f.1, .slice fa fn fc] 29)
  have HB := Lib.hid hbw
  have HL := Lib.hid (h.grow hbw)
  have hcall := Lib.hid (iPlace_any W _ p g cap _ l bss f k (h.grow hbw) (hF.out.below hbw) hp hz)
  rw [decide_eq_true hq] at hcall
  clear h hfi hfs hbw hp hz hq
  generalize f.1 = r at *
  go_enter Try.func40, Try.ntmps40
  go_wp2_with fail
  refine hcall.out.mono ?_
  rintro e w2 ⟨rfl, hb2⟩
  have HB2 := Lib.hid hb2
  clear hb2
  go_wp2_with fail
  go_ret
  exact ⟨rfl, HL.out.grow HB2.out⟩

set_option maxRecDepth 100000 in
set_option maxHeartbeats 8000000 in
theorem iInsert_any (W w : World) (p g cap : Nat) (vf : Value) (l : List AtomD) (bss : List (List Nat)) (f : AtomD) (k : Nat) (h : LInv W w p g cap l bss) (hf : RdAtom W vf f) (hfz : f.2.length ≤ 1048576) (hp : Pos l f k) (hz : l.length ≤ 1048576) (hq : l[k]? ≠ some f) :
    Calls Try.prog 40 #[.pointer (some ⟨p, 0, none⟩), vf] w (fun e w' => e = .returned (.bool true) ∧ ∃ g1 cap1 bss1, LInv W w' p g1 cap1 (l.take k ++ f :: l.drop k) bss1) := by
  have hF := Lib.hid hf
  obtain ⟨fa, fn, fc, rfl, hfi, hfs⟩ := hf
  have hbw := below_alloc w (.cells #[.int .i64 f.1, .slice fa fn fc] 29)
  obtain ⟨cs, hr⟩ := LRow.of (h.grow hbw)
  have HR := Lib.hid hr
  have hcall := Lib.hid (iPlace_any W _ p g cap _ l bss f k (h.grow hbw) ((hF.out.below h.below).below hbw) hp hz)
  rw [decide_eq_false hq] at hcall
  have hpw : p < w.heap.size := h.2.2.2.2.2.2
  have hgw : g < w.heap.size := by obtain ⟨cs, hr⟩ := LRow.of h; exact hr.1.lt.2
  have hkl := hp.1
  have HCL := Lib.hid hr.1.len
  have kf0 : (w.alloc (.cells #[.int .i64 f.1, .slice fa fn fc] 29)).cell? ⟨w.heap.size, 0, none⟩ = some (.int .i64 f.1) := by simp
  have kf1 : (w.alloc (.cells #[.int .i64 f.1, .slice fa fn fc] 29)).cell? ⟨w.heap.size, 1, none⟩ = some (.slice fa fn fc) := by simp
  have KF0 := Lib.hid kf0
  have KF1 := Lib.hid kf1
  obtain ⟨q, hqq⟩ : ∃ q, q = w.heap.size := ⟨_, rfl⟩
  obtain ⟨n, hn⟩ : ∃ n, l.length = n := ⟨_, rfl⟩
  have HN := Lib.hid hn
  rw [hn] at hkl hz HCL HR
  clear h hfi hfs hbw hp hq hr hn kf0 kf1
  generalize hgr : f.1 = r at *
  have HGR := Lib.hid hgr
  clear hgr
  obtain ⟨w1, hw1⟩ : ∃ w1, w1 = w.alloc (.cells #[.int .i64 r, .slice fa fn fc] 29) := ⟨_, rfl⟩
  have HW1 := Lib.hid hw1
  rw [← hw1, ← hqq] at KF0 KF1
  rw [← hw1] at HR hcall
  rw [← hqq] at hpw hgw
  clear hw1
  go_enter Try.func40, Try.ntmps40
  go_wp2_with fail
  simp only [← hqq]
  rw [← HW1.out]
  refine hcall.out.mono ?_
  rintro e w2 ⟨rfl, hb2⟩
  have HR2 := Lib.hid (HR.out.grow hb2)
  have kp := HR2.out.2.2.1
  have KF02 := Lib.hid (cellk hb2 KF0.out)
  have KF12 := Lib.hid (cellk hb2 KF1.out)
  have hqlt : q < w2.heap.size := by
    have := hb2.size
    have h1 : w1.heap.size = w.heap.size + 1 := by rw [HW1.out]; simp
    omega
  clear hb2 hqq HW1 hcall HR KF0 KF1
  have HOW := Lib.hid HR2.out.1
  go_wp2_with (at_builtin; go_loud (refine wpList_app1D rfl (.tmp 18) (.tmp 20) 27 rfl 29 (.agg #[.int .i64 0, .slice none 0 0]) 2 32 Try.underlying27 info_Fact (by decide) (by decide) (by rfl) _ n cs rfl HOW.out [.int .i64 0, .slice none 0 0] rfl (by simp [Value.oneCell']) (by first | rfl | (simp; rfl)) (by omega) ?_))
  intro v' w3 hown' ko hbl
  obtain ⟨g1, cap1, rfl, hc1, hc2, hg1, ⟨u, hu⟩, hfz3, hr4⟩ := LRow.app HR2.out hown' ko hbl
  have hqg : q ∉ blk (.slice (some ⟨g, 0, none⟩) n cap) := by simp [blk]; omega
  have hqg1 : q ≠ g1 := by omega
  have KF03 := Lib.hid (ko.cell hqg KF02.out)
  have KF13 := Lib.hid (ko.cell hqg KF12.out)
  have HR4 := Lib.hid hr4
  clear hown' ko hbl hr4 kp hqg HOW KF02 KF12 HR2
  go_wp2_with fail
  obtain ⟨w4, hw4⟩ : ∃ w4, w4 = w3.setCell ⟨p, 0, none⟩ (.slice (some ⟨g1, 0, none⟩) (n + 1) cap1) := ⟨_, rfl⟩
  have ko4 := OnlyAt.setCell w3 p 0 (.slice (some ⟨g1, 0, none⟩) (n + 1) cap1)
  rw [← hw4] at HR4 ko4 ⊢
  have hqp : q ∉ [p] := by simp; omega
  have KF04 := Lib.hid (ko4.cell hqp KF03.out)
  have KF14 := Lib.hid (ko4.cell hqp KF13.out)
  clear hw4 ko4 KF03 KF13 hu hfz3 hqp
  obtain ⟨V, hV⟩ : ∃ V, V = { w4 with drawn := w4.drawn + 1 } := ⟨_, rfl⟩
  have hbV : Below w4.heap.size w4 V := by rw [hV]; exact (Below.refl _ _).drew
  have HRV := Lib.hid (HR4.out.grow hbV)
  have KF0V := Lib.hid (cellk hbV KF04.out)
  have KF1V := Lib.hid (cellk hbV KF14.out)
  have kp := HRV.out.2.2.1
  clear hbV KF04 KF14 HR4
  unfold maxLen at hc2
  have hk1 : (k : Int) + 1 ≤ (n : Int) + 1 := by omega
  have hk0 : (0 : Int) ≤ (k : Int) + 1 := by omega
  have hk2 : (k : Int) ≤ (n : Int) + 1 := by omega
  have hk3 : (0 : Int) ≤ (k : Int) := by omega
  have hwr : IntKind.i64.wrap ((k : Int) + 1) = (k : Int) + 1 := by rw [IntKind.wrap_i64]; omega
  refine wp_region_still_tail 13 (by kernel_rfl) (by kernel_rfl) ?_
  simp only [List.take_succ_cons, List.take_zero, List.drop_succ_cons, List.drop_zero]
  rw [← hV]
  clear hV
  repeat still_step
  refine wpStill_nil ?_
  generalize hd1 : (ite (cap1 = k + 1) _ _ : Option Addr) = d1
  generalize hd2 : (ite (cap1 = k) _ _ : Option Addr) = d2
  have HD1 : Hid (0 < n - k → d1 = some ⟨g1, (k + 1) * 2, none⟩) := fun h => by rw [← hd1, if_neg (by omega)]
  have HD2 : Hid (0 < n - k → d2 = some ⟨g1, k * 2, none⟩) := fun h => by rw [← hd2, if_neg (by omega)]
  clear hd1 hd2
  have HONE : Hid (∀ u ∈ cs ++ [.int .i64 0, .slice none 0 0], u.oneCell' = true) := fun u hu => by
    rcases List.mem_append.1 hu with hu | hu
    · exact HRV.out.2.1.one (by rw [HCL.out, HN.out]) u hu
    · simp at hu; rcases hu with rfl | rfl <;> simp [Value.oneCell']
  refine wpList_copy_C rfl (.tmp 30) (.tmp 36) 27 27 rfl 29 (.agg #[.int .i64 0, .slice none 0 0]) 2 32 Try.underlying27 info_Fact g1 (n + 1) cap1 _ HRV.out.1 HONE.out _ _ _ _ _ _ rfl rfl (k + 1) k (n - k) (by show min (n + 1 - k) (n - k) = n - k; omega) (fun h => ⟨HD1.out h, HD2.out h⟩) (by omega) (by omega) ?_
  intro w5 hB5 ko5
  have HR5 := Lib.hid (HRV.out.row hB5 ko5)
  have hqg : q ∉ [g1] := by simpa using hqg1
  have KF05 := Lib.hid (ko5.cell hqg KF0V.out)
  have KF15 := Lib.hid (ko5.cell hqg KF1V.out)
  clear hB5 ko5 hqg kp HRV KF0V KF1V hwr HD1 HD2 HONE
  go_wp2_with fail
  have HBW5 := Lib.hid HR5.out.below
  have kp := HR5.out.2.2.1
  have k0 := KF05.out
  have k1 := KF15.out
  have hi1 : (k : Int) < (n : Int) + 1 := by omega
  have HCP := Lib.hid (fun w' (hb : Below w5.heap.size w5 w') => iCopyF_any w' _ f (hF.out.below (bnext HBW5.out hb)) hfz)
  have hrow : ∀ w', Below w5.heap.size w5 w' → (∃ x, w'.cell? ⟨g1, k * 2, none⟩ = some x) ∧ (∃ x, w'.cell? ⟨g1, k * 2 + 1, none⟩ = some x) ∧ w'.frozen? ⟨g1, k * 2, none⟩ = false ∧ w'.frozen? ⟨g1, k * 2 + 1, none⟩ = false := fun w' hb => by
    have h1 := (HR5.out.grow hb).1
    have hl := h1.len
    refine ⟨⟨_, (h1.cell _ (by omega)).trans (List.getElem?_eq_getElem (by omega))⟩, ⟨_, (h1.cell _ (by omega)).trans (List.getElem?_eq_getElem (by omega))⟩, h1.frozen _, h1.frozen _⟩
  have HROW := Lib.hid hrow
  clear hrow
  unfold GaveO at HCP
  go_region_law (first
    | (go_simp; go_at_call 66; refine (HCP.out _ ((Below.refl w5.heap.size w5).drew)).mono ?_; rintro e2 w7 ⟨vb, bsb, rfl, hob, hfb, hbb⟩; obtain ⟨va, vn, vc, rfl, hvi, hvo⟩ := hob; have hbl := bnext (Below.refl w5.heap.size w5).drew hbb; have q0 := cellk hbl kp; obtain ⟨⟨x0, z0⟩, ⟨x1, z1⟩, f0, f1⟩ := HROW.out w7 hbl; have HBL := Lib.hid hbl; have HOB := Lib.hid hvo; have HVI := Lib.hid hvi; have HFB : Hid (Fresh w5 w7 bsb) := ⟨hfb.1, fun b hb' => ⟨by have := (hfb.2 b hb').1; simpa using this, (hfb.2 b hb').2⟩⟩; clear hvo hvi hfb hbb hbl))
  all_goals (go_wp2_with fail)
  all_goals
    go_ret
    refine ⟨rfl, g1, cap1, bss.take k ++ bsb :: bss.drop k, ?_⟩
    have := LRow.ins (r := f.1) (li := f.2) HR5.out HN.out HCL.out hkl HBL.out HVI.out HOB.out HFB.out (ins_row cs k n HCL.out hkl _ _ _ _)
    exact this
end Go.Proofs.Ytcfohmcfbjidnaa
